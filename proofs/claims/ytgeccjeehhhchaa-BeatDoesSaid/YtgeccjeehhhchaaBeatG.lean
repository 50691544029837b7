/- BeatDoes for every ear that comes in. -/
import Derived.Test.YtgeccjeehhhchaaBeatE
namespace Go.Proofs.Ytgeccjeehhhchaa
open Go.RowKit
set_option linter.unusedVariables false
set_option linter.unusedSimpArgs false

theorem Rd.slice_ints {P : Program} {w : World} {t : TypeId} {A : Option Addr} {len cap : Nat} {e : TypeId} {k : IntKind} (ht : P.underlying t = some (.slice e)) (he : P.underlying e = some (.int k)) (hn : P.cellsOf e = 1) (h : Rd P w t [.slice A len cap]) :
    ∃ l : List Int, l.length = len ∧ Sl w 1 A l.length cap (icells k l) ∧ ∀ a ∈ l, (Lit.int k a).wf = true := by
  obtain ⟨h1, h2, h3⟩ := Rd.slice_plain ht hn (by omega) h
  by_cases h0 : 0 < len
  · obtain ⟨b, off, rfl, z, hz⟩ := h3 h0
    have key : ∀ i, i < len → ∃ x : Int, z i = [.int k x] ∧ (Lit.int k x).wf = true := fun i hi => Rd.int he (hz i hi).2.1
    obtain ⟨f, hf⟩ := Go.Deep.choose_lt (α := Int) key
    refine ⟨(List.range len).map f, by simp, ⟨by simp [icells], by simpa using h1, h2, fun _ => ⟨b, off, rfl, fun i hi => ?_⟩⟩, ?_⟩
    · have hi' : i < len := by simpa [icells] using hi
      have := (hz i hi').2.2 0 (by omega)
      rw [Nat.mul_one, Nat.add_zero, (hf i hi').1] at this
      rw [this]
      simp [icells, hi']
    · intro a ha
      simp only [List.mem_map, List.mem_range] at ha
      obtain ⟨i, hi, rfl⟩ := ha
      exact (hf i hi).2
  · obtain rfl : len = 0 := by omega
    exact ⟨[], rfl, ⟨by simp [icells], h1, h2, fun h => by simp [icells] at h⟩, by simp⟩

theorem one_cell {cs : List Value} {i : Nat} {v : Value} (h : (cs.drop i).take 1 = [v]) : cs[i]? = some v := by
  have : ((cs.drop i).take 1)[0]? = some v := by rw [h]; rfl
  simpa [List.getElem?_take, List.getElem?_drop] using this
theorem list3 {cs : Array Value} {a b c : Value} (hn : cs.size = 3) (h0 : cs.toList[0]? = some a) (h1 : cs.toList[1]? = some b) (h2 : cs.toList[2]? = some c) : cs = #[a, b, c] := by
  apply Array.ext'
  obtain ⟨l⟩ := cs
  match l, hn with
  | [x, y, z], _ => simp_all

theorem Rd.field {P : Program} {w : World} {t : TypeId} {cs : List Value} {fs : Array Field} (ht : P.underlying t = some (.struct fs)) (h : Rd P w t cs) (i : Nat) {f : Field} (hi : fs[i]? = some f) {T : TypeId} {o n : Nat} (hT : f.type = T) (ho : f.offset = o) (hn : P.cellsOf T = n) :
    Rd P w T ((cs.drop o).take n) := by
  subst hT ho hn
  exact (Rd.struct ht h).2 i f hi

theorem ear_open {w : World} {a : Array Value} (hn : a.size = 3) (h : Rd Try.prog w 24 a.toList) :
    ∃ (s t : Int) (A : Option Addr) (cap : Nat) (l : List Int), a = #[.int .i64 s, .int .i64 t, .slice A l.length cap] ∧ Sl w 1 A l.length cap (icells .i64 l) ∧ (Lit.int .i64 s).wf = true ∧ (Lit.int .i64 t).wf = true ∧ ∀ x ∈ l, (Lit.int .i64 x).wf = true := by
  have hc : Try.prog.cellsOf 3 = 1 := by kernel_rfl
  have hc2 : Try.prog.cellsOf 22 = 1 := by kernel_rfl
  obtain ⟨s, e0, w0⟩ := Rd.int Try.underlying3 (Rd.field Try.underlying24 h 0 rfl rfl rfl hc)
  obtain ⟨t, e1, w1⟩ := Rd.int Try.underlying3 (Rd.field Try.underlying24 h 1 rfl rfl rfl hc)
  have f2 := Rd.field Try.underlying24 h 2 rfl rfl rfl hc2
  obtain ⟨v, e2⟩ : ∃ v, (a.toList.drop 2).take 1 = [v] := by
    obtain ⟨l⟩ := a
    match l, hn with
    | [x, y, z], _ => exact ⟨z, rfl⟩
  have f2' : Rd Try.prog w 22 [v] := by rw [← e2]; exact f2
  rcases Rd.slice Try.underlying22 f2' with h5 | ⟨x, len, cap, z, h5, _⟩
  · obtain rfl : v = .slice none 0 0 := by simpa using h5
    obtain ⟨l, hl, hs, hw⟩ := Rd.slice_ints Try.underlying22 Try.underlying3 hc f2'
    obtain rfl : l = [] := List.eq_nil_of_length_eq_zero hl
    exact ⟨s, t, none, 0, [], list3 hn (one_cell e0) (one_cell e1) (one_cell e2), hs, w0, w1, hw⟩
  · obtain rfl : v = .slice (some x) len cap := by simpa using h5
    obtain ⟨l, rfl, hs, hw⟩ := Rd.slice_ints Try.underlying22 Try.underlying3 hc f2'
    exact ⟨s, t, some x, cap, l, list3 hn (one_cell e0) (one_cell e1) (one_cell e2), hs, w0, w1, hw⟩

theorem beatDoes_any (a b : Array Value) (W : World) (n0 : a.size = 3) (w0 : Rd Try.prog W 24 a.toList) (n1 : b.size = 3) (w1 : Rd Try.prog W 25 b.toList) :
    Calls Try.prog 3 #[.agg a, .agg b] W fun e w' => e = .returned (.bool true) ∧ Below W.heap.size W w' := by
  obtain ⟨s, t, A, cap, l, rfl, hs, ws, wt, wl⟩ := ear_open n0 w0
  obtain ⟨xs, hx⟩ := Rd.array_ints Try.underlying25 Try.underlying3 (by kernel_rfl) (by kernel_rfl) w1
  obtain ⟨x, y, z, rfl, _, _, _⟩ := ints3 hx
  by_cases h : l.length ≤ 100
  · exact beatDoes_small s t x y z A cap l W hs h (wf_i64 wt).2 (fun a ha => (wf_i64 (wl a ha)).1)
  · exact beatDoes_big s t x y z A l.length cap W (by omega) (Nat.le_trans hs.2.1 hs.2.2.1)
end Go.Proofs.Ytgeccjeehhhchaa
