/- Rows of elements of n cells each, whatever they are. -/
import Derived.Test.YtdphdodjidbngaaRd
namespace Go.Proofs.Ytdphdodjidbngaa
open Go.RowKit
set_option linter.unusedVariables false

/-- The cells of a row whose elements lie as f tells. -/
def gcells {α : Type} (f : α → List Value) (l : List α) : List Value := (l.map f).flatten
theorem gcells_nil {α : Type} (f : α → List Value) : gcells f [] = [] := rfl
theorem gcells_cons {α : Type} (f : α → List Value) (x : α) (l : List α) : gcells f (x :: l) = f x ++ gcells f l := by simp [gcells]
theorem gcells_append {α : Type} (f : α → List Value) (l m : List α) : gcells f (l ++ m) = gcells f l ++ gcells f m := by simp [gcells]
theorem gcells_snoc {α : Type} (f : α → List Value) (l : List α) (x : α) : gcells f (l ++ [x]) = gcells f l ++ f x := by simp [gcells]
theorem gcells_length {α : Type} {f : α → List Value} {n : Nat} (hf : ∀ x, (f x).length = n) (l : List α) : (gcells f l).length = l.length * n := by
  induction l with
  | nil => simp [gcells]
  | cons x l ih => rw [gcells_cons, List.length_append, ih, hf, List.length_cons, Nat.succ_mul]; omega
theorem gcells_get {α : Type} {f : α → List Value} {n : Nat} (hf : ∀ x, (f x).length = n) : ∀ (l : List α) (k : Nat) (hk : k < l.length) (i : Nat), i < n → (gcells f l)[k * n + i]? = (f l[k])[i]?
  | [], k, hk, i, hi => absurd hk (by simp)
  | x :: l, 0, hk, i, hi => by
    rw [gcells_cons, Nat.zero_mul, Nat.zero_add, List.getElem?_append_left (by rw [hf]; exact hi)]
    rfl
  | x :: l, k + 1, hk, i, hi => by
    rw [gcells_cons, List.getElem?_append_right (by rw [hf, Nat.succ_mul]; omega), hf, show (k + 1) * n + i - n = k * n + i by rw [Nat.succ_mul]; omega]
    exact gcells_get hf l k (by simpa using hk) i hi
theorem Sl.gat {α : Type} {f : α → List Value} {n : Nat} (hf : ∀ x, (f x).length = n) {w : World} {A : Option Addr} {len cap : Nat} {l : List α} (h : Sl w n A len cap (gcells f l)) (k : Nat) (hk : k < l.length) (h0 : 0 < n) :
    ∃ b off, A = some ⟨b, off, none⟩ ∧ ∀ i v, (f l[k])[i]? = some v → w.cell? ⟨b, off + k * n + i, none⟩ = some v := by
  have hl := gcells_length hf l
  have hlt : k * n + n ≤ l.length * n := by rw [← Nat.succ_mul]; exact Nat.mul_le_mul_right _ hk
  obtain ⟨b, off, ha, hc⟩ := h.2.2.2 (by omega)
  refine ⟨b, off, ha, fun i v hv => ?_⟩
  have hi : i < n := by
    have := (List.getElem?_eq_some_iff.1 hv).1
    rwa [hf] at this
  rw [Nat.add_assoc, hc _ (by omega), gcells_get hf l k hk i hi, hv]
theorem Sl.glen {α : Type} {f : α → List Value} {n : Nat} (hf : ∀ x, (f x).length = n) (h0 : 0 < n) {w : World} {A : Option Addr} {len cap : Nat} {l : List α} (h : Sl w n A len cap (gcells f l)) : len = l.length := by
  have h1 := h.1
  rw [gcells_length hf] at h1
  exact (Nat.eq_of_mul_eq_mul_right h0 h1).symm
/-- Rows that came in. -/
theorem rows_in {α : Type} [Inhabited α] {P : Program} {w : World} {T e : TypeId} {A : Option Addr} {len cap n : Nat} {f : α → List Value} (p : α → Prop) (ht : P.underlying T = some (.slice e)) (hn : P.cellsOf e = n) (h0 : 0 < n) (hf : ∀ x, (f x).length = n)
    (key : ∀ cs, cs.length = n → Rd P w e cs → ∃ x : α, cs = f x ∧ p x) (h : Rd P w T [.slice A len cap]) : ∃ l : List α, Sl w n A len cap (gcells f l) ∧ l.length = len ∧ ∀ x ∈ l, p x := by
  obtain ⟨h1, h2, h3⟩ := Rd.slice_plain ht hn h0 h
  by_cases hl0 : 0 < len
  · obtain ⟨b, off, rfl, z, hz⟩ := h3 hl0
    have hk : ∀ i, i < len → ∃ x : α, z i = f x ∧ p x := fun i hi => key _ (hz i hi).1 (hz i hi).2.1
    obtain ⟨g, hg⟩ := Go.Deep.choose_lt hk
    have hll : ((List.range len).map g).length = len := by simp
    refine ⟨(List.range len).map g, ⟨by rw [gcells_length hf, hll], h1, h2, fun _ => ⟨b, off, rfl, fun i hi => ?_⟩⟩, hll, fun x hx => ?_⟩
    · rw [gcells_length hf, hll] at hi
      have hkk : i / n < len := Nat.div_lt_of_lt_mul (by rw [Nat.mul_comm]; exact hi)
      have hm : i % n < n := Nat.mod_lt _ h0
      have e1 := gcells_get hf ((List.range len).map g) (i / n) (by rw [hll]; exact hkk) (i % n) hm
      have hgk : ((List.range len).map g)[i / n]'(by rw [hll]; exact hkk) = g (i / n) := by simp
      have hdm : i / n * n + i % n = i := by rw [Nat.mul_comm]; exact Nat.div_add_mod i n
      rw [hgk, hdm] at e1
      have h9 := (hz (i / n) hkk).2.2 (i % n) hm
      rw [(hg (i / n) hkk).1, ← e1, Nat.add_assoc, hdm] at h9
      exact h9
    · obtain ⟨i, hi, rfl⟩ := List.mem_map.1 hx
      exact (hg i (List.mem_range.1 hi)).2
  · obtain rfl : len = 0 := by omega
    exact ⟨[], ⟨by simp [gcells], h1, h2, fun h => by simp [gcells] at h⟩, rfl, by simp⟩
end Go.Proofs.Ytdphdodjidbngaa

