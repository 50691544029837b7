/- rec: what a record is; fields, fits, short, put, as contracts. -/
import Derived.Test.YtkepfkfoblocgaaOctH
import Derived.Test.YtkepfkfoblocgaaStrL
import Derived.Test.YtkepfkfoblocgaaNumM
namespace Go.Proofs.Ytkepfkfoblocgaa
open Go.RowKit
set_option linter.unusedVariables false
set_option linter.unusedSimpArgs false

structure Rc where
  k : Int
  j : Int
  t : Int
  w : Int
  s : Int
  e : Int
  ns : List (List UInt8)
def rcc (x : Rc) (A : Option Addr) (c : Nat) : Array Value := #[.int .i64 x.k, .int .i64 x.j, .int .i64 x.t, .int .i64 x.w, .int .i64 x.s, .int .i64 x.e, .slice A x.ns.length c]
def isK (k : Int) : Bool := decide (1 ≤ k ∧ k ≤ 4)
def fldR (k : Int) : Int := if k = 1 then 20 else if k = 2 then 11 else if k = 3 then 1 else if k = 4 then 12 else 0
def hasR (k : Int) (f : Nat) : Bool := if k = 1 then f == 3 || f == 5 else if k = 2 then f == 1 || f == 2 || f == 4 else if k = 3 then f == 1 else if k = 4 then f == 3 || f == 4 else false
theorem kinds (k : Int) : k = 1 ∨ k = 2 ∨ k = 3 ∨ k = 4 ∨ (k ≠ 1 ∧ k ≠ 2 ∧ k ≠ 3 ∧ k ≠ 4) := by omega
theorem fldR_out {k : Int} (h : k ≠ 1 ∧ k ≠ 2 ∧ k ≠ 3 ∧ k ≠ 4) : fldR k = 0 := by unfold fldR; rw [if_neg h.1, if_neg h.2.1, if_neg h.2.2.1, if_neg h.2.2.2]
theorem hasR_out {k : Int} (h : k ≠ 1 ∧ k ≠ 2 ∧ k ≠ 3 ∧ k ≠ 4) (f : Nat) : hasR k f = false := by unfold hasR; rw [if_neg h.1, if_neg h.2.1, if_neg h.2.2.1, if_neg h.2.2.2]
theorem fldR_has (k : Int) : ((bits .and .i64 (fldR k) 1 == 0) = !hasR k 1) ∧ ((bits .and .i64 (fldR k) 2 == 0) = !hasR k 2) ∧ ((bits .and .i64 (fldR k) 4 == 0) = !hasR k 3) ∧ ((bits .and .i64 (fldR k) 8 == 0) = !hasR k 4) ∧ ((bits .and .i64 (fldR k) 16 == 0) = !hasR k 5) := by
  rcases kinds k with rfl | rfl | rfl | rfl | h
  · decide +kernel
  · decide +kernel
  · decide +kernel
  · decide +kernel
  · simp only [fldR_out h, hasR_out h]
    decide +kernel
/-- Is a field as it may be? -/
def inS (hb : Bool) (least most n : Int) : Bool := if hb then decide (least ≤ n ∧ n ≤ most) else n == 0
def shortB (l : List (List UInt8)) : Bool := l.all fun s => decide (s.length ≤ 200)
def chkR (x : Rc) : Bool := isK x.k && decide (1 ≤ x.j) && decide (x.j ≤ 72057594037927935) && inS (hasR x.k 1) 0 15 x.t && inS (hasR x.k 2) 0 63 x.w && inS (hasR x.k 3) 0 7 x.s && inS (hasR x.k 4) 1 9 x.e && inS (hasR x.k 5) 1 16 (x.ns.length : Int) && shortB x.ns
def pt (hb : Bool) (n : Int) : List UInt8 := if hb then numB (cl n) else []
/-- A text's bytes. -/
def tx (s : List UInt8) : List UInt8 := numB s.length ++ s
def txs (l : List (List UInt8)) : List UInt8 := (l.map tx).flatten
theorem txs_snoc (l : List (List UInt8)) (s : List UInt8) : txs (l ++ [s]) = txs l ++ tx s := by simp [txs]
def headB (x : Rc) : List UInt8 := numB (cl x.k) ++ numB (cl x.j) ++ pt (hasR x.k 1) x.t ++ pt (hasR x.k 2) x.w ++ pt (hasR x.k 3) x.s ++ pt (hasR x.k 4) x.e ++ pt (hasR x.k 5) (x.ns.length : Int)
def rb (x : Rc) : List UInt8 := headB x ++ txs x.ns
theorem pt_len (hb : Bool) (n : Int) : (pt hb n).length ≤ 8 := by
  unfold pt
  split
  · exact (numB_length _ (cl_le n)).2
  · simp

theorem rfields_any (k : Int) (w : World) : Calls Try.prog 84 #[.int .i64 k] w fun e w' => e = .returned (.tuple #[.int .i64 (fldR k), .bool (isK k)]) ∧ w = w' := by
  rcases kinds k with rfl | rfl | rfl | rfl | h
  case inr.inr.inr.inr =>
    have HI : Hid (isK k = false) := hid (by unfold isK; rw [decide_eq_false (by omega)])
    have HF := hid (fldR_out h)
    have q1 : (k == 1) = false := by simp; omega
    have q2 : (k == 2) = false := by simp; omega
    have q3 : (k == 3) = false := by simp; omega
    have q4 : (k == 4) = false := by simp; omega
    clear h
    go_enter Try.func84, Try.ntmps84
    go_wp2
    refine bodyPost_ret (v := .tuple #[.int .i64 0, .bool false]) (by simp [results, Try.results84, go_sem]) rfl ?_
    exact ⟨by rw [HI.out, HF.out], rfl⟩
  all_goals
    go_enter Try.func84, Try.ntmps84
    go_wp2
    first
      | exact bodyPost_ret (v := .tuple #[.int .i64 20, .bool true]) (by simp [results, Try.results84, go_sem]) rfl ⟨rfl, rfl⟩
      | exact bodyPost_ret (v := .tuple #[.int .i64 11, .bool true]) (by simp [results, Try.results84, go_sem]) rfl ⟨rfl, rfl⟩
      | exact bodyPost_ret (v := .tuple #[.int .i64 1, .bool true]) (by simp [results, Try.results84, go_sem]) rfl ⟨rfl, rfl⟩
      | exact bodyPost_ret (v := .tuple #[.int .i64 12, .bool true]) (by simp [results, Try.results84, go_sem]) rfl ⟨rfl, rfl⟩
theorem rfits_any (has n least most : Int) (hb : Bool) (hh : (has == 0) = !hb) (w : World) : Calls Try.prog 85 #[.int .i64 has, .int .i64 n, .int .i64 least, .int .i64 most] w fun e w' => e = .returned (.bool (inS hb least most n)) ∧ w = w' := by
  cases hb with
  | false =>
    have hh' : (has == 0) = true := by simpa using hh
    clear hh
    go_enter Try.func85, Try.ntmps85
    go_wp2
    go_ret
    exact ⟨rfl, rfl⟩
  | true =>
    have hh' : (has == 0) = false := by simpa using hh
    have HI : Hid (inS true least most n = decide (least ≤ n ∧ n ≤ most)) := hid rfl
    clear hh
    by_cases h1 : least ≤ n
    · have d1 : decide (least ≤ n) = true := decide_eq_true h1
      by_cases h2 : n ≤ most
      · have d2 : decide (n ≤ most) = true := decide_eq_true h2
        rw [decide_eq_true ⟨h1, h2⟩] at HI
        go_enter Try.func85, Try.ntmps85
        go_wp2
        go_ret
        exact ⟨by rw [HI.out]; rfl, rfl⟩
      · have d2 : decide (n ≤ most) = false := decide_eq_false h2
        rw [decide_eq_false (fun h => h2 h.2)] at HI
        have h2' : most < n := by omega
        clear h2
        go_enter Try.func85, Try.ntmps85
        go_wp2
        go_ret
        exact ⟨by rw [HI.out]; rfl, rfl⟩
    · have d1 : decide (least ≤ n) = false := decide_eq_false h1
      rw [decide_eq_false (fun h => h1 h.1)] at HI
      have h1' : n < least := by omega
      clear h1
      go_enter Try.func85, Try.ntmps85
      go_wp2
      go_ret
      exact ⟨by rw [HI.out]; rfl, rfl⟩
theorem shortB_no {l : List (List UInt8)} {k : Nat} (hk : k < l.length) (h : 200 < l[k].length) : shortB l = false := by
  unfold shortB
  rw [List.all_eq_false]
  exact ⟨_, List.getElem_mem hk, by simpa using h⟩
theorem shortB_end {l : List (List UInt8)} (h : ∀ k (hk : k < l.length), l[k].length ≤ 200) : shortB l = true := by
  unfold shortB
  rw [List.all_eq_true]
  intro s hs
  obtain ⟨k, hk, rfl⟩ := List.getElem_of_mem hs
  simpa using h k hk
theorem shortB_le {l : List (List UInt8)} (h : shortB l = true) : ∀ s ∈ l, s.length ≤ 200 := by
  unfold shortB at h
  rw [List.all_eq_true] at h
  exact fun s hs => by simpa using h s hs
set_option maxHeartbeats 400000 in
theorem rshort_any (A : Option Addr) (cap : Nat) (l : List (List UInt8)) (W : World) (hA : Sl W 1 A l.length cap (scells l)) (hw : ∀ s ∈ l, s.length ≤ maxLen) :
    Calls Try.prog 86 #[.slice A l.length cap] W fun e w' => e = .returned (.bool (shortB l)) ∧ W = w' := by
  have HA := hid hA
  have HW := hid hw
  have hm : l.length ≤ 9223372036854775807 := by have h1 := hA.2.1; have h2 := hA.2.2.1; unfold maxLen at h2; omega
  have HY := hid (fun k (hk : k < l.length) (h : 200 < l[k].length) => shortB_no hk h)
  have HE := hid (fun (h : ∀ k (hk : k < l.length), l[k].length ≤ 200) => shortB_end h)
  clear hA hw
  generalize shortB l = b at *
  go_enter Try.func86, Try.ntmps86
  go_wp2
  go_loop [7] (fun i => ∃ k : Nat, k ≤ l.length ∧ i = .int .i64 (k : Int) ∧ Hid (∀ j (hj : j < l.length), j < k → l[j].length ≤ 200)) (fun i => l.length - (intOf i).toNat)
  case atStart => exact ⟨0, by omega, rfl, fun j hj h => absurd h (by omega)⟩
  case round =>
    obtain ⟨k, hk, rfl, HT⟩ := hrel
    by_cases hlt : k < l.length
    · obtain ⟨b', off, rfl, hc⟩ := Sl.at HA.out k (by rw [scells_length]; exact hlt)
      have e1 : (scells l)[k]'(by rw [scells_length]; exact hlt) = .string (str (l[k]'hlt)) := by simp [scells]
      rw [e1] at hc
      have hsz : (str (l[k]'hlt)).size = (l[k]'hlt).length := str_size _
      have hsm : (l[k]'hlt).length ≤ 9223372036854775807 := by have := HW.out _ (List.getElem_mem hlt); unfold maxLen at this; omega
      have HY2 := hid (HY.out k hlt)
      have HX : Hid ((l[k]'hlt).length = (l[k]'hlt).length) := hid rfl
      generalize hx : (l[k]'hlt).length = x at hsz hsm HY2 HX
      have HX2 := hid hx
      clear hx e1
      generalize str (l[k]'hlt) = s at hc hsz
      have hlt2 : (k : Int) < (l.length : Int) := by omega
      by_cases hbig : 200 < x
      · have hb := HY2.out hbig
        subst hb
        have hbig2 : (200 : Int) < (x : Int) := by omega
        subst hsz
        go_wp2
        go_ret
        exact ⟨rfl, rfl⟩
      · have hbig2 : (x : Int) ≤ 200 := by omega
        subst hsz
        go_wp2
        go_round
        case rel =>
          refine ⟨k + 1, by omega, by go_num, fun j hj hjk => ?_⟩
          by_cases hjk2 : j < k
          · exact HT.out j hj hjk2
          · obtain rfl : j = k := by omega
            rw [HX2.out]; omega
        case measure => simp [intOf]; omega
    · have hge : ¬ (k : Int) < (l.length : Int) := by omega
      have HB := hid (HE.out (fun j hj => HT.out j hj (by omega)))
      go_wp2
      go_ret
      exact ⟨by rw [HB.out]; rfl, rfl⟩
theorem rput_any2 (A : Option Addr) (cap : Nat) (l : List UInt8) (has n : Int) (hb : Bool) (hh : (has == 0) = !hb) (w : World) (h : IsBytes w A l.length cap l) (hl : l.length ≤ 100000) :
    Calls Try.prog 89 #[.slice A l.length cap, .int .i64 has, .int .i64 n] w fun e w' => ∃ A' c', e = .returned (.slice A' (l ++ pt hb n).length c') ∧ IsBytes w' A' (l ++ pt hb n).length c' (l ++ pt hb n) ∧ Below w.heap.size w w' := by
  cases hb with
  | false =>
    have hh' : (has == 0) = true := by simpa using hh
    have H := hid h
    clear hh h
    go_enter Try.func89, Try.ntmps89
    go_wp2
    go_ret
    refine ⟨A, cap, ?_, ?_, Below.refl _ _⟩
    · simp [pt]
    · simpa [pt] using H.out
  | true =>
    have hh' : (has == 0) = false := by simpa using hh
    have H := hid (num_any A l.length cap l n w h (by omega))
    clear hh h hl
    go_enter Try.func89, Try.ntmps89
    go_wp2_with fail
    refine H.out.mono ?_
    rintro x w1 ⟨v, rfl, ho, hb⟩
    have HB := hid hb
    obtain ⟨A', c', rfl, hs⟩ := own_bytes ho
    have HS := hid hs
    clear hb ho hs H
    generalize hq : (l ++ numB (cl n)).length = q at *
    go_wp2
    go_ret
    refine ⟨A', c', ?_, ?_, HB.out⟩
    · rw [pt, if_pos rfl, hq]; rfl
    · rw [pt, if_pos rfl, hq]; exact HS.out
end Go.Proofs.Ytkepfkfoblocgaa
