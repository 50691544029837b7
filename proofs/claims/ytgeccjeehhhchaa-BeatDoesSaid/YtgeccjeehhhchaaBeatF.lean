/- BeatDoes: what its walk needs beside the contracts. -/
import Derived.Test.YtgeccjeehhhchaaBeatS
import Derived.Test.YtgeccjeehhhchaaStep
import Derived.Deep.RegionHeld3
import Derived.Deep.CutRange
namespace Go.Proofs.Ytgeccjeehhhchaa
open Go.RowKit Go.Sort
set_option linter.unusedVariables false
set_option linter.unusedSimpArgs false

theorem beatDoes_big (s t x y z : Int) (A : Option Addr) (len cap : Nat) (W : World) (h : 100 < len) (hm : len ≤ maxLen) :
    Calls Try.prog 3 #[.agg #[.int .i64 s, .int .i64 t, .slice A len cap], .agg #[.int .i64 x, .int .i64 y, .int .i64 z]] W fun e w' => e = .returned (.bool true) ∧ Below W.heap.size W w' := by
  unfold maxLen at hm
  go_enter Try.func3, Try.ntmps3
  go_wp2_with fail
  refine (works37_any _).mono ?_
  rintro e w1 ⟨rfl, hb⟩
  go_wp2
  go_ret
  exact ⟨rfl, (below2 W _ _).trans (hb.mono (by simp; omega))⟩

/-- An ear of the package in block Y. -/
def EarAt (w : World) (Y : Nat) (s t : Int) (n : Nat) (l : List Int) : Prop :=
  ∃ A cp, w.heap[Y]? = some (.cells #[.int .i64 s, .int .i64 t, .slice A n cp] 28 (0, 0)) ∧ Sl w 1 A n cp (icells .i64 l)

abbrev zEar : Obj := .cells #[.int .i64 0, .int .i64 0, .slice none 0 0] 28 (0, 0)
theorem zd1 {w w' : World} {o : Obj} (h : Below (w.alloc o).drew.heap.size (w.alloc o).drew w') : w'.heap[w.heap.size]? = some o := (unalloc h).2
theorem zd2 {w w' : World} {o o' : Obj} (h : Below ((w.alloc o).alloc o').drew.heap.size ((w.alloc o).alloc o').drew w') : w'.heap[w.heap.size]? = some o ∧ w'.heap[w.heap.size + 1]? = some o' :=
  ⟨(h.block _ (by simp; omega)).trans (heap_first w o o'), (h.block _ (by simp)).trans (heap_second w o o')⟩
theorem zu1 {w w' : World} {o : Obj} (h : Below (w.alloc o).heap.size (w.alloc o) w') : Below w.heap.size w w' ∧ w'.heap[w.heap.size]? = some o :=
  ⟨((Below.refl w.heap.size w).alloc (Nat.le_refl _) o).trans (h.mono (by simp)), (h.block _ (by simp)).trans (heap_alloc_new w o)⟩
theorem zu2 {w w' : World} {o o' : Obj} (h : Below ((w.alloc o).alloc o').heap.size ((w.alloc o).alloc o') w') : Below w.heap.size w w' ∧ w'.heap[w.heap.size]? = some o ∧ w'.heap[w.heap.size + 1]? = some o' :=
  ⟨(below2 w o o').trans (h.mono (by simp; omega)), (h.block _ (by simp; omega)).trans (heap_first w o o'), (h.block _ (by simp)).trans (heap_second w o o')⟩
theorem own_emptyH (w : World) (e size H b : Nat) (hH : w.heap.size = H) (hb : b ≤ H) : (w.alloc (.cells #[] e)).drew.ownsRow b e size (.slice (some ⟨H, 0, none⟩) 0 0) 0 [] := by
  subst hH
  exact own_mono (own_empty w e size) hb
theorem lt2 (w : World) (o o' : Obj) : w.heap.size + 1 < ((w.alloc o).alloc o').drew.heap.size := by simp
theorem lt1 (w : World) (o o' : Obj) : w.heap.size < ((w.alloc o).alloc o').drew.heap.size := by simp; omega

theorem own_setT {w : World} {b e s n Z e' i : Nat} {v u : Value} {xs : List Value} {c : Array Value} (h : w.ownsRow b e s v n xs) (hz : w.heap[Z]? = some (.cells c e' (0, 0))) (hne : e ≠ e') :
    (w.setCell ⟨Z, i, none⟩ u).ownsRow b e s v n xs ∧ ∃ c', (w.setCell ⟨Z, i, none⟩ u).heap[Z]? = some (.cells c' e' (0, 0)) := by
  refine ⟨⟨h.1, ?_⟩, _, heap_setCell_same w Z i c e' u hz⟩
  rcases h.2 with h2 | ⟨g, cap, cur, h3, h4, h5, h6⟩
  · exact .inl h2
  · refine .inr ⟨g, cap, cur, h3, h4, (Below.heap_setCell _ _ _ _ ?_).trans h5, h6⟩
    rintro rfl
    rw [h5] at hz
    cases hz
    exact hne rfl
abbrev set3 (w : World) (Z : Nat) (a b c : Value) : World := ((w.setCell ⟨Z, 0, none⟩ a).setCell ⟨Z, 1, none⟩ b).setCell ⟨Z, 2, none⟩ c
theorem own_set3 {w : World} {b n Z : Nat} {v p q r a b' c : Value} {xs : List Value} (h : w.ownsRow b 3 1 v n xs) (hz : w.heap[Z]? = some (.cells #[p, q, r] 28 (0, 0))) : (set3 w Z a b' c).ownsRow b 3 1 v n xs := by
  obtain ⟨h1, c1, z1⟩ := own_setT (i := 0) (u := a) h hz (by decide)
  obtain ⟨h2, c2, z2⟩ := own_setT (i := 1) (u := b') h1 z1 (by decide)
  exact (own_setT (i := 2) (u := c) h2 z2 (by decide)).1
theorem earAt_set {w : World} {b Z n : Nat} {A : Option Addr} {cp : Nat} {l : List Int} {p q r : Value} (h : w.ownsRow b 3 1 (.slice A n cp) n (icells .i64 l)) (hz : w.heap[Z]? = some (.cells #[p, q, r] 28 (0, 0))) (s t : Int) :
    EarAt (set3 w Z (.int .i64 s) (.int .i64 t) (.slice A n cp)) Z s t n l :=
  ⟨A, cp, set_three hz _ _ _, sl_own (own_set3 h hz)⟩
theorem set3_other {w : World} {Z k : Nat} {a b c : Value} (h : k ≠ Z) : (set3 w Z a b c).heap[k]? = w.heap[k]? :=
  (Below.heap_setCell _ _ _ _ (by exact h)).trans ((Below.heap_setCell _ _ _ _ (by exact h)).trans (Below.heap_setCell _ _ _ _ (by exact h)))
section
variable {w : World} {b6 b7 n : Nat} {A6 A7 : Option Addr} {c6 c7 : Nat} {l6 l7 : List Int} {s t : Int}
theorem endA (h6 : w.ownsRow b6 3 1 (.slice A6 n c6) n (icells .i64 l6)) (h7 : w.ownsRow b7 3 1 (.slice A7 n c7) n (icells .i64 l7)) :
    EarAt ((w.alloc (.cells #[.int .i64 s, .int .i64 t, .slice A6 n c6] 28)).alloc (.cells #[.int .i64 s, .int .i64 t, .slice A7 n c7] 28)) w.heap.size s t n l6 ∧
    EarAt ((w.alloc (.cells #[.int .i64 s, .int .i64 t, .slice A6 n c6] 28)).alloc (.cells #[.int .i64 s, .int .i64 t, .slice A7 n c7] 28)) (w.heap.size + 1) s t n l7 :=
  ⟨⟨A6, c6, heap_first _ _ _, sl_own ((h6.alloc _).alloc _)⟩, ⟨A7, c7, heap_second _ _ _, sl_own ((h7.alloc _).alloc _)⟩⟩
theorem endB {Z : Nat} {p q r : Value} (h6 : w.ownsRow b6 3 1 (.slice A6 n c6) n (icells .i64 l6)) (h7 : w.ownsRow b7 3 1 (.slice A7 n c7) n (icells .i64 l7)) (hz : w.heap[Z]? = some (.cells #[p, q, r] 28 (0, 0))) :
    EarAt ((set3 w Z (.int .i64 s) (.int .i64 t) (.slice A6 n c6)).alloc (.cells #[.int .i64 s, .int .i64 t, .slice A7 n c7] 28)) Z s t n l6 ∧
    EarAt ((set3 w Z (.int .i64 s) (.int .i64 t) (.slice A6 n c6)).alloc (.cells #[.int .i64 s, .int .i64 t, .slice A7 n c7] 28)) w.heap.size s t n l7 := by
  have hs : (set3 w Z (.int .i64 s) (.int .i64 t) (.slice A6 n c6)).heap.size = w.heap.size := by simp
  refine ⟨⟨A6, c6, (Below.heap_alloc _ _ _ (by rw [hs]; exact lt_of_block hz)).trans (set_three hz _ _ _), sl_own ((own_set3 h6 hz).alloc _)⟩, ⟨A7, c7, ?_, sl_own ((own_set3 h7 hz).alloc _)⟩⟩
  have := heap_alloc_new (set3 w Z (.int .i64 s) (.int .i64 t) (.slice A6 n c6)) (.cells #[.int .i64 s, .int .i64 t, .slice A7 n c7] 28)
  rw [hs] at this
  exact this
theorem endC {Z Z' : Nat} {p q r p' q' r' : Value} (h6 : w.ownsRow b6 3 1 (.slice A6 n c6) n (icells .i64 l6)) (h7 : w.ownsRow b7 3 1 (.slice A7 n c7) n (icells .i64 l7)) (hz : w.heap[Z]? = some (.cells #[p, q, r] 28 (0, 0)))
    (hz' : w.heap[Z']? = some (.cells #[p', q', r'] 28 (0, 0))) (hne : Z ≠ Z') :
    EarAt (set3 (set3 w Z (.int .i64 s) (.int .i64 t) (.slice A6 n c6)) Z' (.int .i64 s) (.int .i64 t) (.slice A7 n c7)) Z s t n l6 ∧
    EarAt (set3 (set3 w Z (.int .i64 s) (.int .i64 t) (.slice A6 n c6)) Z' (.int .i64 s) (.int .i64 t) (.slice A7 n c7)) Z' s t n l7 := by
  have hz2 := (set3_other (w := w) (Z := Z) (a := .int .i64 s) (b := .int .i64 t) (c := .slice A6 n c6) (fun e => hne e.symm)).trans hz'
  exact ⟨⟨A6, c6, (set3_other hne).trans (set_three hz _ _ _), sl_own (own_set3 (own_set3 h6 hz) hz2)⟩, ⟨A7, c7, set_three hz2 _ _ _, sl_own (own_set3 (own_set3 h7 hz) hz2)⟩⟩
end
end Go.Proofs.Ytgeccjeehhhchaa
