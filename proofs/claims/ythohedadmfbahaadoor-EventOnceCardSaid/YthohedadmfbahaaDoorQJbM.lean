/- Jobs: which workers texts have; mathematics. -/
import Derived.Test.YthohedadmfbahaaDoorReP
import Derived.Test.YthohedadmfbahaaDoorQAdM
namespace Go.Proofs.YthohedadmfbahaaDoor
open Go.RowKit
set_option linter.unusedVariables false

/-- The workers of a task with that text. -/
def setJ (T : List (List UInt8)) (ws : List Wk) (l : List UInt8) : Nat := if (ndT T l).2.2 = 0 then wkS (ndT T l).1 ws else 0
theorem setJ_lt (T ws l) : setJ T ws l < 18446744073709551616 := by
  unfold setJ
  split
  · exact wkS_lt _ _
  · omega
theorem setJ_ok {T ws l} (h : (ndT T l).2.2 = 0) : setJ T ws l = wkS (ndT T l).1 ws := by rw [setJ, if_pos h]
theorem setJ_no {T ws l} (h : (ndT T l).2.2 ≠ 0) : setJ T ws l = 0 := by rw [setJ, if_neg h]
attribute [irreducible] setJ
/-- The workers of the first k texts. -/
def orK (T : List (List UInt8)) (ws : List Wk) (xs : List (List UInt8)) : Nat → Nat
  | 0 => 0
  | k + 1 => orK T ws xs k ||| setJ T ws (xs.getD k [])
theorem orK_lt (T ws xs) : ∀ k, orK T ws xs k < 18446744073709551616
  | 0 => by simp [orK]
  | k + 1 => Nat.or_lt_two_pow (n := 64) (orK_lt T ws xs k) (setJ_lt _ _ _)
theorem orK_succ {T : List (List UInt8)} {ws : List Wk} {xs : List (List UInt8)} {k : Nat} (hk : k < xs.length) : orK T ws xs (k + 1) = orK T ws xs k ||| setJ T ws xs[k] := by
  rw [orK, List.getD_eq_getElem?_getD, List.getElem?_eq_getElem hk]; rfl
/-- The same as a list of workers. -/
def ranJ (T : List (List UInt8)) (ws : List Wk) (xs : List (List UInt8)) : Nat → List Int
  | 0 => []
  | k + 1 => ranJ T ws xs k ++ elems (setJ T ws (xs.getD k []))
theorem ranJ_succ {T : List (List UInt8)} {ws : List Wk} {xs : List (List UInt8)} {k : Nat} (hk : k < xs.length) : ranJ T ws xs (k + 1) = ranJ T ws xs k ++ elems (setJ T ws xs[k]) := by
  rw [ranJ, List.getD_eq_getElem?_getD, List.getElem?_eq_getElem hk]; rfl
theorem ranJ_len (T ws xs) : ∀ k, (ranJ T ws xs k).length ≤ k * 64
  | 0 => by simp [ranJ]
  | k + 1 => by
    have := ranJ_len T ws xs k
    have h2 := elemsU_len (setJ T ws (xs.getD k [])) 64
    rw [← elems_def] at h2
    rw [ranJ, List.length_append]
    omega
theorem ranJ_of (T ws xs) : ∀ k, ofL (ranJ T ws xs k) = orK T ws xs k
  | 0 => ofL_nil
  | k + 1 => by rw [ranJ, ofL_append, ranJ_of T ws xs k, of_elems _ (setJ_lt _ _ _), orK]
theorem anyS_app (ls : List (List (Int × Int))) (x : List (Int × Int)) (ws : List Wk) : anyS (ls ++ [x]) ws (ls.length + 1) = anyS ls ws ls.length ||| wkS x ws := by
  have h : ∀ k, k ≤ ls.length → anyS (ls ++ [x]) ws k = anyS ls ws k := by
    intro k
    induction k with
    | zero => intro _; rfl
    | succ k ih =>
      intro hk
      rw [anyS, anyS, ih (by omega), List.getD_eq_getElem?_getD, List.getD_eq_getElem?_getD, List.getElem?_append_left (by omega)]
  rw [anyS, h _ (Nat.le_refl _), List.getD_eq_getElem?_getD]
  simp
/-- What is wrong with the texts from the i-th on: the task, the place, the error. -/
def chkF (T : List (List UInt8)) (ws : List Wk) : Nat → List (List UInt8) → Int × Nat × Int
  | _, [] => (-1, 0, 0)
  | i, x :: xs => if (ndT T x).2.2 = 0 then (if setJ T ws x = 0 then ((i : Int), 0, 11) else chkF T ws (i + 1) xs) else ((i : Int), (ndT T x).2.1, (ndT T x).2.2)
def chkJ (id : Int) (T : List (List UInt8)) (ws : List Wk) (xs : List (List UInt8)) : Int × Nat × Int :=
  if 1 ≤ id ∧ id ≤ 72057594037927935 then (if xs.length = 0 then (-1, 0, 10) else if 16 < xs.length then (-1, 0, 4) else chkF T ws 0 xs) else (-1, 0, 1)
theorem chkF_drop {T xs : List (List UInt8)} {ws : List Wk} {k : Nat} (hk : k < xs.length) : chkF T ws k (xs.drop k) = if (ndT T xs[k]).2.2 = 0 then (if setJ T ws xs[k] = 0 then ((k : Int), 0, 11) else chkF T ws (k + 1) (xs.drop (k + 1))) else ((k : Int), (ndT T xs[k]).2.1, (ndT T xs[k]).2.2) := by
  rw [List.drop_eq_getElem_cons hk, chkF]
theorem chkF_end {T xs : List (List UInt8)} {ws : List Wk} {k : Nat} (hk : xs.length ≤ k) : chkF T ws k (xs.drop k) = (-1, 0, 0) := by rw [List.drop_eq_nil_of_le hk, chkF]
attribute [irreducible] chkF
end Go.Proofs.YthohedadmfbahaaDoor
