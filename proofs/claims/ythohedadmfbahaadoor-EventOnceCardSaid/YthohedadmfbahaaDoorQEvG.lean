/- The document's Step of layer 39: contract. -/
import Derived.Test.YthohedadmfbahaaDoorQEvF
namespace Go.Proofs.YthohedadmfbahaaDoor
open Go.RowKit Go.Sort
set_option linter.unusedVariables false
set_option linter.unusedSimpArgs false

theorem own_setT9 {w : World} {base e s n b j t : Nat} {v u : Value} {xs : List Value} {cs : Array Value} (h : w.ownsRow base e s v n xs) (hb : w.heap[b]? = some (.cells cs t (0, 0))) (hne : e ≠ t) : (w.setCell ⟨b, j, none⟩ u).ownsRow base e s v n xs :=
  own_same h hb hne (fun g hg => Below.heap_setCell _ _ _ _ hg)
theorem own_blk {w : World} {base e s n g c : Nat} {xs : List Value} (h : w.ownsRow base e s (.slice (some ⟨g, 0, none⟩) n c) n xs) (h0 : 0 < n) : ∃ cs, w.heap[g]? = some (.cells cs e (0, 0)) := by
  obtain ⟨_, _, cs, h9⟩ := own_lt h g rfl
  exact ⟨cs, h9⟩
theorem own_set1 {w : World} {base e s n g c : Nat} {xs : List Value} (h : w.ownsRow base e s (.slice (some ⟨g, 0, none⟩) n c) n xs) (h0 : 0 < n) (hs : 0 < s) (i : Nat) (u : Value) : (w.setCell ⟨g, i, none⟩ u).ownsRow base e s (.slice (some ⟨g, 0, none⟩) n c) n (xs.set i u) := by
  obtain ⟨g9, c9, h9, _, _, _, _, hset, _⟩ := own_open h h0 hs
  cases h9
  exact hset i u
theorem gcells_set_six : ∀ (xs : List Ee) (i : Nat) (hi : i < xs.length) (y : Ee), gcells ebl (xs.set i y) = ((((((gcells ebl xs).set (i * 6) (.int .i64 y.1.id)).set (i * 6 + 1) (.int .i64 y.1.sc)).set (i * 6 + 2) (.int .i64 y.1.ep)).set (i * 6 + 3) (.slice y.2.A y.1.ns.length y.2.ca)).set (i * 6 + 4) (.slice y.2.B y.1.bd.length y.2.cb)).set (i * 6 + 5) (.slice y.2.D y.1.dn.length y.2.cd)
  | [], i, hi, y => absurd hi (by simp)
  | x :: xs, 0, hi, y => by simp [gcells, ebl]
  | x :: xs, i + 1, hi, y => by
    have ih := gcells_set_six xs i (by simpa using hi) y
    have hl : (ebl x).length = 6 := rfl
    have e0 : (i + 1) * 6 - 6 = i * 6 := by omega
    have e1 : ∀ d, (i + 1) * 6 + d - 6 = i * 6 + d := fun d => by omega
    simp only [List.set_cons_succ]
    rw [gcells_cons, gcells_cons, ih]
    rw [List.set_append_right _ _ (by omega), List.set_append_right _ _ (by omega), List.set_append_right _ _ (by omega), List.set_append_right _ _ (by omega), List.set_append_right _ _ (by omega), List.set_append_right _ _ (by omega), hl, e0, e1, e1, e1, e1, e1]

end Go.Proofs.YthohedadmfbahaaDoor
