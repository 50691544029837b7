/- Pairs that came in; the law QueueDoes. -/
import Derived.Test.YtadjmgmdnekllaaQueV
namespace Go.Proofs.Ytadjmgmdnekllaa
open Go.RowKit Go.Sort
set_option linter.unusedVariables false
set_option linter.unusedSimpArgs false

theorem two_of {l : List Value} (h : l.length = 2) : ∃ u v, l = [u, v] := by
  match l, h with
  | [u, v], _ => exact ⟨u, v, rfl⟩
/-- Pairs that came in. -/
theorem pairs_in {w : World} {A : Option Addr} {len cap : Nat} (h : Rd Try.prog w 82 [.slice A len cap]) : ∃ l : List (Int × Int), Sl w 2 A len cap (pcells l) ∧ l.length = len := by
  have hc3 : Try.prog.cellsOf 3 = 1 := by kernel_rfl
  obtain ⟨h1, h2, h3⟩ := Rd.slice_plain Try.underlying82 (n := 2) (by kernel_rfl) (by omega) h
  by_cases h0 : 0 < len
  · obtain ⟨b, off, rfl, z, hz⟩ := h3 h0
    have key : ∀ i, i < len → ∃ x : Int × Int, z i = [.int .i64 x.1, .int .i64 x.2] := fun i hi => by
      obtain ⟨hl, hr, _⟩ := hz i hi
      obtain ⟨_, hf⟩ := Rd.struct Try.underlying87 hr
      have f0 : Rd Try.prog w 3 (((z i).drop 0).take (Try.prog.cellsOf 3)) := hf 0 _ rfl
      have f1 : Rd Try.prog w 3 (((z i).drop 1).take (Try.prog.cellsOf 3)) := hf 1 _ rfl
      rw [hc3] at f0 f1
      obtain ⟨a, ea, _⟩ := Rd.int Try.underlying3 f0
      obtain ⟨c, ec, _⟩ := Rd.int Try.underlying3 f1
      obtain ⟨u, v, huv⟩ := two_of hl
      rw [huv] at ea ec
      simp at ea ec
      exact ⟨(a, c), by rw [huv, ea, ec]⟩
    obtain ⟨g, hg⟩ := Go.Deep.choose_lt (α := Int × Int) key
    have hll : ((List.range len).map g).length = len := by simp
    refine ⟨(List.range len).map g, ⟨by rw [pcells_length, hll], h1, h2, fun _ => ⟨b, off, rfl, fun i hi => ?_⟩⟩, hll⟩
    rw [pcells_length, hll] at hi
    have hk : i / 2 < ((List.range len).map g).length := by rw [hll]; omega
    obtain ⟨e1, e2⟩ := pcells_get ((List.range len).map g) (i / 2) hk
    have hgk : ((List.range len).map g)[i / 2] = g (i / 2) := by simp
    rw [hgk] at e1 e2
    have hzk := hz (i / 2) (by omega)
    rcases Nat.mod_two_eq_zero_or_one i with hm | hm
    · have h9 := hzk.2.2 0 (by omega)
      rw [hg (i / 2) (by omega)] at h9
      rw [show off + i / 2 * 2 + 0 = off + i by omega] at h9
      rw [show i / 2 * 2 = i by omega] at e1
      rw [h9, e1]
      rfl
    · have h9 := hzk.2.2 1 (by omega)
      rw [hg (i / 2) (by omega)] at h9
      rw [show off + i / 2 * 2 + 1 = off + i by omega] at h9
      rw [show i / 2 * 2 + 1 = i by omega] at e2
      rw [h9, e2]
      rfl
  · obtain rfl : len = 0 := by omega
    exact ⟨[], ⟨rfl, h1, h2, fun h => by simp [pcells] at h⟩, rfl⟩

theorem queueDoes_law (A : Option Addr) (len cap : Nat) (a1 : Array Value) (W : World) (h : Rd Try.prog W 82 [.slice A len cap]) (hn : a1.size = 3) (h2 : Rd Try.prog W 83 a1.toList) :
    Calls Try.prog 9 #[.slice A len cap, .agg a1] W fun e w' => e = .returned (.bool true) ∧ Below W.heap.size W w' := by
  obtain ⟨xs, hx⟩ := Rd.array_ints Try.underlying83 Try.underlying3 (by kernel_rfl) (by kernel_rfl) h2
  obtain ⟨a, b, c, rfl, _, _, _⟩ := ints3 hx
  obtain ⟨l, hl, rfl⟩ := pairs_in h
  have hm := hl.2.1
  have hm2 := hl.2.2.1
  by_cases h1 : 100 < l.length
  · exact queueDoes_big A l.length cap (.bool true) a b c W h1 (by omega)
  · match l, hl, h1 with
    | [], hl, _ => exact queueDoes_nil A cap [] a b c W hl rfl
    | p :: l', hl, h1 => exact queueDoes_pos A cap p l' a b c W hl (by simp at h1; omega)
end Go.Proofs.Ytadjmgmdnekllaa
