/- What came in as an argument, opened a step at a time by its type; slices of small rows. -/
import Derived.Test.YtdphdodjidbngaaBase
import Derived.ChangeSame
import Derived.OpenShut
import Derived.Deep.Slices
namespace Go.Proofs.Ytdphdodjidbngaa
open Go.RowKit

/-- These cells read, in the world w, as something of type t. -/
def Rd (P : Program) (w : World) (t : TypeId) (cs : List Value) : Prop :=
  ∃ (H : Type) (enc : TypeId × Value → H) (fuel : Nat) (x : DataW H × List MemPlace), DataW.trod enc P w 0 (fun _ => true) true fuel t cs = some x

theorem Rd.of {H : Type} {enc : TypeId × Value → H} {P : Program} {w : World} {t : TypeId} {v : Value} {d : DataW H} {p : List MemPlace} (h : DataW.Trod enc P w 0 (fun _ => true) true t v d p) : Rd P w t v.cells.toList := by
  obtain ⟨fuel, hf⟩ := h
  exact ⟨H, enc, fuel, _, hf⟩
theorem Rd.int {P : Program} {w : World} {t : TypeId} {cs : List Value} {k : IntKind} (ht : P.underlying t = some (.int k)) (h : Rd P w t cs) : ∃ n, cs = [.int k n] ∧ (Lit.int k n).wf = true := by
  obtain ⟨H, enc, fuel, x, hf⟩ := h
  obtain ⟨n, e, _, hw⟩ := DataW.trod_int ht hf
  exact ⟨n, e, hw⟩
theorem Rd.bool {P : Program} {w : World} {t : TypeId} {cs : List Value} (ht : P.underlying t = some .bool) (h : Rd P w t cs) : ∃ b, cs = [.bool b] := by
  obtain ⟨H, enc, fuel, x, hf⟩ := h
  obtain ⟨n, e, _⟩ := DataW.trod_bool ht hf
  exact ⟨n, e⟩
theorem Rd.string {P : Program} {w : World} {t : TypeId} {cs : List Value} (ht : P.underlying t = some .string) (h : Rd P w t cs) : ∃ s : ByteArray, cs = [.string s] ∧ s.size ≤ maxLen := by
  obtain ⟨H, enc, fuel, x, hf⟩ := h
  obtain ⟨n, e, _, hw⟩ := DataW.trod_string ht hf
  exact ⟨n, e, hw⟩
theorem Rd.struct {P : Program} {w : World} {t : TypeId} {cs : List Value} {fs : Array Field} (ht : P.underlying t = some (.struct fs)) (h : Rd P w t cs) :
    cs.length = P.cellsOf t ∧ ∀ (i : Nat) (f : Field), fs[i]? = some f → Rd P w f.type ((cs.drop f.offset).take (P.cellsOf f.type)) := by
  obtain ⟨H, enc, fuel, x, hf⟩ := h
  obtain ⟨xs, n, _, _, hl, hn, hx⟩ := DataW.trod_struct ht hf
  refine ⟨hl, fun i f hi => ?_⟩
  have hlt : i < xs.length := by rw [hn]; exact (Array.getElem?_eq_some_iff.1 hi).1
  exact ⟨H, enc, n, xs[i], by rw [hx i f hi, List.getElem?_eq_getElem hlt]⟩
theorem Rd.array {P : Program} {w : World} {t : TypeId} {cs : List Value} {n : Nat} {e : TypeId} (ht : P.underlying t = some (.array n e)) (h : Rd P w t cs) :
    cs.length = P.cellsOf t ∧ ∀ i, i < n → Rd P w e ((cs.drop (i * P.cellsOf e)).take (P.cellsOf e)) := by
  obtain ⟨H, enc, fuel, x, hf⟩ := h
  obtain ⟨xs, m, _, _, hl, hn, hx⟩ := DataW.trod_array ht hf
  refine ⟨hl, fun i hi => ?_⟩
  exact ⟨H, enc, m, xs[i], by rw [hx i hi, List.getElem?_eq_getElem (by omega)]⟩
theorem Rd.slice {P : Program} {w : World} {t : TypeId} {cs : List Value} {e : TypeId} (ht : P.underlying t = some (.slice e)) (h : Rd P w t cs) :
    cs = [.slice none 0 0] ∨ ∃ (a : Addr) (len cap : Nat) (z : Nat → List Value), cs = [.slice (some a) len cap] ∧ len ≤ cap ∧ cap ≤ maxLen ∧
      ∀ i, i < cap → w.cells? 0 (a.add (i * P.cellsOf e)) (P.cellsOf e) = some (z i) ∧ Rd P w e (z i) := by
  obtain ⟨H, enc, fuel, x, hf⟩ := h
  rcases Go.Deep.open_slice ht hf with ⟨h0, _⟩ | ⟨a, len, cap, m, n, D, Pl, rfl, hb, hl, hm, hmm, rfl, hx⟩
  · exact .inl h0
  · simp only [if_true] at hmm
    subst hmm
    obtain ⟨z, hz⟩ := Go.Deep.choose_lt (α := List Value) (p := fun i cs => w.cells? 0 (a.add (i * P.cellsOf e)) (P.cellsOf e) = some cs ∧ Rd P w e cs) (fun i hi => by
      obtain ⟨cs, h1, h2⟩ := hx i hi
      exact ⟨cs, h1, H, enc, n, _, h2⟩)
    exact .inr ⟨a, len, m, z, rfl, hl, hm, hz⟩

theorem okWide_struct' {P : Program} {W : World} {r : Reach} {base : Nat} {t : TypeId} {v : Value} {fs : Array Field} (ht : P.underlying t = some (.struct fs)) (h : Value.okWide P W r base t v) : ∃ cs, v = .agg cs ∧ cs.size = P.cellsOf t := by
  simp only [Value.okWide, ht] at h
  obtain ⟨cs, h1, h2, _⟩ := h
  exact ⟨cs, h1, h2⟩
theorem okWide_array' {P : Program} {W : World} {r : Reach} {base : Nat} {t : TypeId} {v : Value} {n : Nat} {e : TypeId} (ht : P.underlying t = some (.array n e)) (h : Value.okWide P W r base t v) : ∃ cs, v = .agg cs ∧ cs.size = P.cellsOf t := by
  simp only [Value.okWide, ht] at h
  obtain ⟨cs, h1, h2, _⟩ := h
  exact ⟨cs, h1, h2⟩

/-- n numbers of one kind in a row. -/
def IntsN (k : IntKind) (n : Nat) (cs : List Value) (xs : List Int) : Prop := cs = xs.map (.int k) ∧ xs.length = n ∧ ∀ x ∈ xs, (Lit.int k x).wf = true

theorem Rd.array_ints {P : Program} {w : World} {t : TypeId} {cs : List Value} {n : Nat} {e : TypeId} {k : IntKind} (ht : P.underlying t = some (.array n e)) (he : P.underlying e = some (.int k)) (hc : P.cellsOf e = 1) (hn : P.cellsOf t = n) (h : Rd P w t cs) :
    ∃ xs, IntsN k n cs xs := by
  obtain ⟨hl, hx⟩ := Rd.array ht h
  rw [hn] at hl
  have key : ∀ i, i < n → ∃ x : Int, cs[i]? = some (.int k x) ∧ (Lit.int k x).wf = true := fun i hi => by
    obtain ⟨x, hx1, hw⟩ := Rd.int he (hx i hi)
    rw [hc, Nat.mul_one] at hx1
    refine ⟨x, ?_, hw⟩
    have : ((cs.drop i).take 1)[0]? = some (.int k x) := by rw [hx1]; rfl
    simpa [List.getElem?_take, List.getElem?_drop] using this
  obtain ⟨f, hf⟩ := Go.Deep.choose_lt (α := Int) key
  refine ⟨(List.range n).map f, ?_, by simp, ?_⟩
  · apply List.ext_getElem?
    intro i
    by_cases hi : i < n
    · rw [(hf i hi).1]; simp [hi]
    · rw [List.getElem?_eq_none (by omega), List.getElem?_eq_none (by simp; omega)]
  · intro x hx
    simp only [List.mem_map, List.mem_range] at hx
    obtain ⟨i, hi, rfl⟩ := hx
    exact (hf i hi).2

theorem ints3 {k : IntKind} {cs : Array Value} {xs : List Int} (h : IntsN k 3 cs.toList xs) : ∃ a b c, cs = #[.int k a, .int k b, .int k c] ∧ (Lit.int k a).wf = true ∧ (Lit.int k b).wf = true ∧ (Lit.int k c).wf = true := by
  obtain ⟨h1, h2, h3⟩ := h
  match xs, h2 with
  | [a, b, c], _ => exact ⟨a, b, c, by apply Array.ext'; simpa using h1, h3 a (by simp), h3 b (by simp), h3 c (by simp)⟩
theorem ints2 {k : IntKind} {cs : Array Value} {xs : List Int} (h : IntsN k 2 cs.toList xs) : ∃ a b, cs = #[.int k a, .int k b] ∧ (Lit.int k a).wf = true ∧ (Lit.int k b).wf = true := by
  obtain ⟨h1, h2, h3⟩ := h
  match xs, h2 with
  | [a, b], _ => exact ⟨a, b, by apply Array.ext'; simpa using h1, h3 a (by simp), h3 b (by simp)⟩

theorem wf_i64 {n : Int} (h : (Lit.int .i64 n).wf = true) : -9223372036854775808 ≤ n ∧ n ≤ 9223372036854775807 := by
  simp [Lit.wf, IntKind.min, IntKind.max, IntKind.signed, IntKind.bits] at h
  omega

/-- A slice whose elements are 'n' cells each: element i is z i. Plain address. -/
theorem Rd.slice_plain {P : Program} {w : World} {t : TypeId} {A : Option Addr} {len cap : Nat} {e : TypeId} {n : Nat} (ht : P.underlying t = some (.slice e)) (hn : P.cellsOf e = n) (h0 : 0 < n) (h : Rd P w t [.slice A len cap]) :
    len ≤ cap ∧ cap ≤ maxLen ∧ (0 < len → ∃ b off, A = some ⟨b, off, none⟩ ∧ ∃ z : Nat → List Value, ∀ i, i < len → (z i).length = n ∧ Rd P w e (z i) ∧ ∀ j, j < n → w.cell? ⟨b, off + i * n + j, none⟩ = (z i)[j]?) := by
  rcases Rd.slice ht h with h1 | ⟨a, l, c, z, h1, hl, hm, hz⟩
  · simp at h1
    obtain ⟨rfl, rfl, rfl⟩ := h1
    exact ⟨Nat.le_refl _, Nat.zero_le _, fun h => absurd h (by omega)⟩
  · simp at h1
    obtain ⟨rfl, rfl, rfl⟩ := h1
    refine ⟨hl, hm, fun hpos => ?_⟩
    rw [hn] at hz
    obtain ⟨b, off, spot⟩ := a
    have hs : spot = none := by
      obtain ⟨h2, _⟩ := hz 0 (by omega)
      obtain ⟨_, h3, h4⟩ := World.cells?_some h2
      have h5 := h4 0 h0
      rw [List.getElem?_eq_getElem (by omega)] at h5
      simpa [Addr.add] using World.cell?_spot h5
    subst hs
    refine ⟨b, off, rfl, z, fun i hi => ?_⟩
    obtain ⟨h2, h6⟩ := hz i (by omega)
    obtain ⟨_, h3, h4⟩ := World.cells?_some h2
    refine ⟨h3, h6, fun j hj => ?_⟩
    have := h4 j hj
    rw [add_none, add_none] at this
    exact this
theorem cellb {w w' : World} {a : Addr} {v : Value} (hb : Below w.heap.size w w') (h : w.cell? a = some v) : w'.cell? a = some v := (hb.cell (lt_of_cell h)).trans h
theorem undrew {n : Nat} {w w' : World} (h : Below n w.drew w') : Below n w w' := ⟨h.os, h.tape, h.output, h.size, h.block⟩
theorem unalloc {w w' : World} {o : Obj} (h : Below (w.alloc o).drew.heap.size (w.alloc o).drew w') : Below w.heap.size w w' ∧ w'.heap[w.heap.size]? = some o := by
  refine ⟨((Below.refl w.heap.size w).alloc (Nat.le_refl _) o).trans (undrew (w := w.alloc o) (h.mono (by simp))), ?_⟩
  exact (h.block _ (by simp)).trans (heap_alloc_new w o)
end Go.Proofs.Ytdphdodjidbngaa

