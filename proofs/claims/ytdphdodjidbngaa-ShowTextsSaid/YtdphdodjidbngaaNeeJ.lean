/- Needs: Same, the page's example; the law NeedChecks. -/
import Derived.Test.YtdphdodjidbngaaNeeI
import Derived.Test.YtdphdodjidbngaaRd
namespace Go.Proofs.Ytdphdodjidbngaa
open Go.RowKit Go.Sort
set_option linter.unusedVariables false
set_option linter.unusedSimpArgs false

theorem drewN_below {W : World} (q : Nat) : Below W.heap.size W (W.drewN q) := by
  have h := Below.refl W.heap.size W
  exact ⟨h.os, h.tape, h.output, h.size, h.block⟩
theorem Sl.len63 {w : World} {n len cap : Nat} {A : Option Addr} {cs : List Value} (h : Sl w n A len cap cs) : len ≤ 9223372036854775807 := by
  have h1 := h.2.1; have h2 := h.2.2.1; unfold maxLen at h2; omega
theorem rnsame_bel (A B : Option Addr) (cap cap' : Nat) (l m : List (Int × Int)) (W : World) (hA : Sl W 2 A l.length cap (pcells l)) (hB : Sl W 2 B m.length cap' (pcells m)) :
    Calls Try.prog 14 #[.slice A l.length cap, .slice B m.length cap'] W fun e w' => e = .returned (.bool (l == m)) ∧ Below W.heap.size W w' :=
  (rnsame_any A B l.length cap m.length cap' l m W hA hB hA.len63 hB.len63).mono fun _ _ ⟨h1, q, h2⟩ => ⟨h1, h2 ▸ drewN_below q⟩
theorem two_of {l : List Value} (h : l.length = 2) : ∃ u v, l = [u, v] := by
  match l, h with
  | [u, v], _ => exact ⟨u, v, rfl⟩
def exN : List (Int × Int) := [(2, 1), (3, 0)]
theorem exNs : sayN exN 2 = false ∧ sayN exN 0 = true ∧ depN exN = 2 := ⟨by kernel_rfl, by kernel_rfl, by kernel_rfl⟩
/-- Pairs that came in. -/
theorem nodes_in {w : World} {A : Option Addr} {len cap : Nat} (h : Rd Try.prog w 23 [.slice A len cap]) : ∃ l : List (Int × Int), Sl w 2 A len cap (pcells l) ∧ l.length = len := by
  have hc3 : Try.prog.cellsOf 3 = 1 := by kernel_rfl
  obtain ⟨h1, h2, h3⟩ := Rd.slice_plain Try.underlying23 (n := 2) (by kernel_rfl) (by omega) h
  by_cases h0 : 0 < len
  · obtain ⟨b, off, rfl, z, hz⟩ := h3 h0
    have key : ∀ i, i < len → ∃ x : Int × Int, z i = [.int .i64 x.1, .int .i64 x.2] := fun i hi => by
      obtain ⟨hl, hr, _⟩ := hz i hi
      obtain ⟨_, hf⟩ := Rd.struct Try.underlying77 hr
      have f0 : Rd Try.prog w 3 (((z i).drop 0).take (Try.prog.cellsOf 3)) := hf 0 _ rfl
      have f1 : Rd Try.prog w 3 (((z i).drop 1).take (Try.prog.cellsOf 3)) := hf 1 _ rfl
      rw [hc3] at f0 f1
      obtain ⟨a, ea, _⟩ := Rd.int Try.underlying3 f0
      obtain ⟨c, ec, _⟩ := Rd.int Try.underlying3 f1
      obtain ⟨u, v, huv⟩ := two_of hl
      rw [huv] at ea ec
      simp at ea ec
      exact ⟨(a, c), by rw [huv, ea, ec]⟩
    obtain ⟨g, hg⟩ := Go.Deep.choose_lt (α := Int × Int) key
    have hll : ((List.range len).map g).length = len := by simp
    refine ⟨(List.range len).map g, ⟨by rw [pcells_length, hll], h1, h2, fun _ => ⟨b, off, rfl, fun i hi => ?_⟩⟩, hll⟩
    rw [pcells_length, hll] at hi
    have hk : i / 2 < ((List.range len).map g).length := by rw [hll]; omega
    obtain ⟨e1, e2⟩ := pcells_get ((List.range len).map g) (i / 2) hk
    have hgk : ((List.range len).map g)[i / 2] = g (i / 2) := by simp
    rw [hgk] at e1 e2
    have hzk := hz (i / 2) (by omega)
    rcases Nat.mod_two_eq_zero_or_one i with hm | hm
    · have h9 := hzk.2.2 0 (by omega)
      rw [hg (i / 2) (by omega)] at h9
      rw [show off + i / 2 * 2 + 0 = off + i by omega] at h9
      rw [show i / 2 * 2 = i by omega] at e1
      rw [h9, e1]
      rfl
    · have h9 := hzk.2.2 1 (by omega)
      rw [hg (i / 2) (by omega)] at h9
      rw [show off + i / 2 * 2 + 1 = off + i by omega] at h9
      rw [show i / 2 * 2 + 1 = i by omega] at e2
      rw [h9, e2]
      rfl
  · obtain rfl : len = 0 := by omega
    exact ⟨[], ⟨rfl, h1, h2, fun h => by simp [pcells] at h⟩, rfl⟩

end Go.Proofs.Ytdphdodjidbngaa

