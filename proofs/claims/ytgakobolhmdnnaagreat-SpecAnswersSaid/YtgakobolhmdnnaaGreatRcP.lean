/- rec: what a record is; fields, fits, short, put, as contracts. -/
import Derived.Test.YtgakobolhmdnnaaGreatOcP
import Derived.Test.YtgakobolhmdnnaaGreatGaP
import Derived.Test.YtgakobolhmdnnaaGreatQHdA
import Derived.Test.YtgakobolhmdnnaaGreatCrP
import Derived.BigQuiet
import Derived.Lib.QuietBelow
namespace Go.Proofs.YtgakobolhmdnnaaGreat
open Go.RowKit
set_option linter.unusedVariables false
set_option linter.unusedSimpArgs false

structure Rc where
  k : Int
  j : Int
  t : Int
  w : Int
  s : Int
  e : Int
  ns : List (List UInt8)
def rcc (x : Rc) (A : Option Addr) (c : Nat) : Array Value := #[.int .i64 x.k, .int .i64 x.j, .int .i64 x.t, .int .i64 x.w, .int .i64 x.s, .int .i64 x.e, .slice A x.ns.length c]
def isK (k : Int) : Bool := decide (1 ≤ k ∧ k ≤ 4)
def fldR (k : Int) : Int := if k = 1 then 20 else if k = 2 then 11 else if k = 3 then 1 else if k = 4 then 12 else 0
def hasR (k : Int) (f : Nat) : Bool := if k = 1 then f == 3 || f == 5 else if k = 2 then f == 1 || f == 2 || f == 4 else if k = 3 then f == 1 else if k = 4 then f == 3 || f == 4 else false
theorem kinds (k : Int) : k = 1 ∨ k = 2 ∨ k = 3 ∨ k = 4 ∨ (k ≠ 1 ∧ k ≠ 2 ∧ k ≠ 3 ∧ k ≠ 4) := by omega
theorem fldR_out {k : Int} (h : k ≠ 1 ∧ k ≠ 2 ∧ k ≠ 3 ∧ k ≠ 4) : fldR k = 0 := by unfold fldR; rw [if_neg h.1, if_neg h.2.1, if_neg h.2.2.1, if_neg h.2.2.2]
theorem hasR_out {k : Int} (h : k ≠ 1 ∧ k ≠ 2 ∧ k ≠ 3 ∧ k ≠ 4) (f : Nat) : hasR k f = false := by unfold hasR; rw [if_neg h.1, if_neg h.2.1, if_neg h.2.2.1, if_neg h.2.2.2]
theorem fldR_has (k : Int) : ((bits .and .i64 (fldR k) 1 == 0) = !hasR k 1) ∧ ((bits .and .i64 (fldR k) 2 == 0) = !hasR k 2) ∧ ((bits .and .i64 (fldR k) 4 == 0) = !hasR k 3) ∧ ((bits .and .i64 (fldR k) 8 == 0) = !hasR k 4) ∧ ((bits .and .i64 (fldR k) 16 == 0) = !hasR k 5) := by
  rcases kinds k with rfl | rfl | rfl | rfl | h
  · decide +kernel
  · decide +kernel
  · decide +kernel
  · decide +kernel
  · simp only [fldR_out h, hasR_out h]
    decide +kernel
/-- Is a field as it may be? -/
def inS (hb : Bool) (least most n : Int) : Bool := if hb then decide (least ≤ n ∧ n ≤ most) else n == 0
def shortB (l : List (List UInt8)) : Bool := l.all fun s => decide (s.length ≤ 200)
def chkR (x : Rc) : Bool := isK x.k && decide (1 ≤ x.j) && decide (x.j ≤ 72057594037927935) && inS (hasR x.k 1) 0 15 x.t && inS (hasR x.k 2) 0 63 x.w && inS (hasR x.k 3) 0 7 x.s && inS (hasR x.k 4) 1 9 x.e && inS (hasR x.k 5) 1 16 (x.ns.length : Int) && shortB x.ns
def pt (hb : Bool) (n : Int) : List UInt8 := if hb then numB (cl n) else []
/-- A text's bytes. -/
def tx (s : List UInt8) : List UInt8 := numB s.length ++ s
def txs (l : List (List UInt8)) : List UInt8 := (l.map tx).flatten
theorem txs_snoc (l : List (List UInt8)) (s : List UInt8) : txs (l ++ [s]) = txs l ++ tx s := by simp [txs]
def headB (x : Rc) : List UInt8 := numB (cl x.k) ++ numB (cl x.j) ++ pt (hasR x.k 1) x.t ++ pt (hasR x.k 2) x.w ++ pt (hasR x.k 3) x.s ++ pt (hasR x.k 4) x.e ++ pt (hasR x.k 5) (x.ns.length : Int)
def rb (x : Rc) : List UInt8 := headB x ++ txs x.ns
theorem pt_len (hb : Bool) (n : Int) : (pt hb n).length ≤ 8 := by
  unfold pt
  split
  · exact (numB_length _ (cl_le n)).2
  · simp

theorem rfields_any (k : Int) (w : World) : Calls Tryz.prog 106 #[.int .i64 k] w fun e w' => e = .returned (.tuple #[.int .i64 (fldR k), .bool (isK k)]) ∧ w = w' := by
  rcases kinds k with rfl | rfl | rfl | rfl | h
  case inr.inr.inr.inr =>
    have HI : Hid (isK k = false) := hid (by unfold isK; rw [decide_eq_false (by omega)])
    have HF := hid (fldR_out h)
    have q1 : (k == 1) = false := by simp; omega
    have q2 : (k == 2) = false := by simp; omega
    have q3 : (k == 3) = false := by simp; omega
    have q4 : (k == 4) = false := by simp; omega
    clear h
    go_enter Tryz.func106, Tryz.ntmps106
    go_wp2
    refine bodyPost_ret (v := .tuple #[.int .i64 0, .bool false]) (by simp [results, Tryz.results106, go_sem]) rfl ?_
    exact ⟨by rw [HI.out, HF.out], rfl⟩
  all_goals
    go_enter Tryz.func106, Tryz.ntmps106
    go_wp2
    first
      | exact bodyPost_ret (v := .tuple #[.int .i64 20, .bool true]) (by simp [results, Tryz.results106, go_sem]) rfl ⟨rfl, rfl⟩
      | exact bodyPost_ret (v := .tuple #[.int .i64 11, .bool true]) (by simp [results, Tryz.results106, go_sem]) rfl ⟨rfl, rfl⟩
      | exact bodyPost_ret (v := .tuple #[.int .i64 1, .bool true]) (by simp [results, Tryz.results106, go_sem]) rfl ⟨rfl, rfl⟩
      | exact bodyPost_ret (v := .tuple #[.int .i64 12, .bool true]) (by simp [results, Tryz.results106, go_sem]) rfl ⟨rfl, rfl⟩
theorem rfits_any (has n least most : Int) (hb : Bool) (hh : (has == 0) = !hb) (w : World) : Calls Tryz.prog 124 #[.int .i64 has, .int .i64 n, .int .i64 least, .int .i64 most] w fun e w' => e = .returned (.bool (inS hb least most n)) ∧ w = w' := by
  cases hb with
  | false =>
    have hh' : (has == 0) = true := by simpa using hh
    clear hh
    go_enter Tryz.func124, Tryz.ntmps124
    go_wp2
    go_ret
    exact ⟨rfl, rfl⟩
  | true =>
    have hh' : (has == 0) = false := by simpa using hh
    have HI : Hid (inS true least most n = decide (least ≤ n ∧ n ≤ most)) := hid rfl
    clear hh
    by_cases h1 : least ≤ n
    · have d1 : decide (least ≤ n) = true := decide_eq_true h1
      by_cases h2 : n ≤ most
      · have d2 : decide (n ≤ most) = true := decide_eq_true h2
        rw [decide_eq_true ⟨h1, h2⟩] at HI
        go_enter Tryz.func124, Tryz.ntmps124
        go_wp2
        go_ret
        exact ⟨by rw [HI.out]; rfl, rfl⟩
      · have d2 : decide (n ≤ most) = false := decide_eq_false h2
        rw [decide_eq_false (fun h => h2 h.2)] at HI
        have h2' : most < n := by omega
        clear h2
        go_enter Tryz.func124, Tryz.ntmps124
        go_wp2
        go_ret
        exact ⟨by rw [HI.out]; rfl, rfl⟩
    · have d1 : decide (least ≤ n) = false := decide_eq_false h1
      rw [decide_eq_false (fun h => h1 h.1)] at HI
      have h1' : n < least := by omega
      clear h1
      go_enter Tryz.func124, Tryz.ntmps124
      go_wp2
      go_ret
      exact ⟨by rw [HI.out]; rfl, rfl⟩
theorem shortB_no {l : List (List UInt8)} {k : Nat} (hk : k < l.length) (h : 200 < l[k].length) : shortB l = false := by
  unfold shortB
  rw [List.all_eq_false]
  exact ⟨_, List.getElem_mem hk, by simpa using h⟩
theorem shortB_end {l : List (List UInt8)} (h : ∀ k (hk : k < l.length), l[k].length ≤ 200) : shortB l = true := by
  unfold shortB
  rw [List.all_eq_true]
  intro s hs
  obtain ⟨k, hk, rfl⟩ := List.getElem_of_mem hs
  simpa using h k hk
theorem shortB_le {l : List (List UInt8)} (h : shortB l = true) : ∀ s ∈ l, s.length ≤ 200 := by
  unfold shortB at h
  rw [List.all_eq_true] at h
  exact fun s hs => by simpa using h s hs
set_option maxHeartbeats 400000 in
theorem rshort_any (A : Option Addr) (cap : Nat) (l : List (List UInt8)) (W : World) (hA : Sl W 1 A l.length cap (scells l)) (hw : ∀ s ∈ l, s.length ≤ maxLen) :
    Calls Tryz.prog 125 #[.slice A l.length cap] W fun e w' => e = .returned (.bool (shortB l)) ∧ W = w' := by
  have HA := hid hA
  have HW := hid hw
  have hm : l.length ≤ 9223372036854775807 := by have h1 := hA.2.1; have h2 := hA.2.2.1; unfold maxLen at h2; omega
  have HY := hid (fun k (hk : k < l.length) (h : 200 < l[k].length) => shortB_no hk h)
  have HE := hid (fun (h : ∀ k (hk : k < l.length), l[k].length ≤ 200) => shortB_end h)
  clear hA hw
  generalize shortB l = b at *
  go_enter Tryz.func125, Tryz.ntmps125
  go_wp2
  go_loop [7] (fun i => ∃ k : Nat, k ≤ l.length ∧ i = .int .i64 (k : Int) ∧ Hid (∀ j (hj : j < l.length), j < k → l[j].length ≤ 200)) (fun i => l.length - (intOf i).toNat)
  case atStart => exact ⟨0, by omega, rfl, fun j hj h => absurd h (by omega)⟩
  case round =>
    obtain ⟨k, hk, rfl, HT⟩ := hrel
    by_cases hlt : k < l.length
    · obtain ⟨b', off, rfl, hc⟩ := Sl.at HA.out k (by rw [scells_length]; exact hlt)
      have e1 : (scells l)[k]'(by rw [scells_length]; exact hlt) = .string (str (l[k]'hlt)) := by simp [scells]
      rw [e1] at hc
      have hsz : (str (l[k]'hlt)).size = (l[k]'hlt).length := str_size _
      have hsm : (l[k]'hlt).length ≤ 9223372036854775807 := by have := HW.out _ (List.getElem_mem hlt); unfold maxLen at this; omega
      have HY2 := hid (HY.out k hlt)
      have HX : Hid ((l[k]'hlt).length = (l[k]'hlt).length) := hid rfl
      generalize hx : (l[k]'hlt).length = x at hsz hsm HY2 HX
      have HX2 := hid hx
      clear hx e1
      generalize str (l[k]'hlt) = s at hc hsz
      have hlt2 : (k : Int) < (l.length : Int) := by omega
      by_cases hbig : 200 < x
      · have hb := HY2.out hbig
        subst hb
        have hbig2 : (200 : Int) < (x : Int) := by omega
        subst hsz
        go_wp2
        go_ret
        exact ⟨rfl, rfl⟩
      · have hbig2 : (x : Int) ≤ 200 := by omega
        subst hsz
        go_wp2
        go_round
        case rel =>
          refine ⟨k + 1, by omega, by go_num, fun j hj hjk => ?_⟩
          by_cases hjk2 : j < k
          · exact HT.out j hj hjk2
          · obtain rfl : j = k := by omega
            rw [HX2.out]; omega
        case measure => simp [intOf]; omega
    · have hge : ¬ (k : Int) < (l.length : Int) := by omega
      have HB := hid (HE.out (fun j hj => HT.out j hj (by omega)))
      go_wp2
      go_ret
      exact ⟨by rw [HB.out]; rfl, rfl⟩
theorem rput_any2 (A : Option Addr) (cap : Nat) (l : List UInt8) (has n : Int) (hb : Bool) (hh : (has == 0) = !hb) (w : World) (h : IsBytes w A l.length cap l) (hl : l.length ≤ 100000) :
    Calls Tryz.prog 108 #[.slice A l.length cap, .int .i64 has, .int .i64 n] w fun e w' => ∃ A' c', e = .returned (.slice A' (l ++ pt hb n).length c') ∧ IsBytes w' A' (l ++ pt hb n).length c' (l ++ pt hb n) ∧ Below w.heap.size w w' := by
  cases hb with
  | false =>
    have hh' : (has == 0) = true := by simpa using hh
    have H := hid h
    clear hh h
    go_enter Tryz.func108, Tryz.ntmps108
    go_wp2
    go_ret
    refine ⟨A, cap, ?_, ?_, Below.refl _ _⟩
    · simp [pt]
    · simpa [pt] using H.out
  | true =>
    have hh' : (has == 0) = false := by simpa using hh
    have H := hid (num_any A l.length cap l n w h (by omega))
    clear hh h hl
    go_enter Tryz.func108, Tryz.ntmps108
    go_wp2_with fail
    refine H.out.mono ?_
    rintro x w1 ⟨v, rfl, ho, hb⟩
    have HB := hid hb
    obtain ⟨A', c', rfl, hs⟩ := own_bytes ho
    have HS := hid hs
    clear hb ho hs H
    generalize hq : (l ++ numB (cl n)).length = q at *
    go_wp2
    go_ret
    refine ⟨A', c', ?_, ?_, HB.out⟩
    · rw [pt, if_pos rfl, hq]; rfl
    · rw [pt, if_pos rfl, hq]; exact HS.out
end Go.Proofs.YtgakobolhmdnnaaGreat

namespace Go.Proofs.YtgakobolhmdnnaaGreat
open Go.RowKit
set_option linter.unusedVariables false
set_option linter.unusedSimpArgs false

theorem TxJ.len {w : World} {A : Option Addr} {c : Nat} {l : List (List UInt8)} (h : TxJ w A c l) : l.length ≤ 9223372036854775807 := by
  have h1 := h.1.2.1
  have h2 := h.1.2.2.1
  unfold maxLen at h2
  omega

set_option maxRecDepth 20000 in
set_option maxHeartbeats 4000000 in
theorem rcheck_any (x : Rc) (A : Option Addr) (c : Nat) (W : World) (hx : TxAt W A c x.ns) : Calls Tryz.prog 105 #[.agg (rcc x A c)] W fun e w' => e = .returned (.bool (chkR x)) ∧ Below W.heap.size W w' := by
  obtain ⟨k, j, t, w, s, e, ns⟩ := x
  have hll := hx.len
  have HF := hid (fun w => rfields_any k w)
  obtain ⟨hb1, hb2, hb3, hb4, hb5⟩ := fldR_has k
  have H1 := hid (fun w' => rfits_any _ t 0 15 _ hb1 w')
  have H2 := hid (fun w' => rfits_any _ w 0 63 _ hb2 w')
  have H3 := hid (fun w' => rfits_any _ s 0 7 _ hb3 w')
  have H4 := hid (fun w' => rfits_any _ e 1 9 _ hb4 w')
  have H5 := hid (fun w' => rfits_any _ (ns.length : Int) 1 16 _ hb5 w')
  have HI : Hid (chkR ⟨k, j, t, w, s, e, ns⟩ = (isK k && decide (1 ≤ j) && decide (j ≤ 72057594037927935) && inS (hasR k 1) 0 15 t && inS (hasR k 2) 0 63 w && inS (hasR k 3) 0 7 s && inS (hasR k 4) 1 9 e && inS (hasR k 5) 1 16 (ns.length : Int) && shortB ns)) := hid rfl
  have hbe : Below W.heap.size W (W.alloc (.cells (rcc ⟨k, j, t, w, s, e, ns⟩ A c) 107)) := (Below.refl _ _).alloc (Nat.le_refl _) _
  have HBE := hid hbe
  have HS := hid (rshort_any A c ns _ (hx.below hbe).1 hx.2)
  simp only [rcc] at HS HBE hbe hll ⊢
  clear hb1 hb2 hb3 hb4 hb5 hx hbe
  generalize inS (hasR k 1) 0 15 t = b1 at *
  generalize inS (hasR k 2) 0 63 w = b2 at *
  generalize inS (hasR k 3) 0 7 s = b3 at *
  generalize inS (hasR k 4) 1 9 e = b4 at *
  generalize inS (hasR k 5) 1 16 (ns.length : Int) = b5 at *
  generalize shortB ns = b6 at *
  generalize isK k = bk at *
  generalize fldR k = f at *
  generalize chkR ⟨k, j, t, w, s, e, ns⟩ = r at *
  cases bk
  case false =>
    have HV : Hid (r = false) := hid (by rw [HI.out]; first | rfl | (rw [d1]; rfl) | (rw [d1, d2]; rfl))
    clear HI
    go_enter Tryz.func105, Tryz.ntmps105
    go_wp2_with (first
      | (go_at_call 106; refine (HF.out _).mono ?_; rintro x w' ⟨rfl, rfl⟩)
      | (go_at_call 125; refine HS.out.mono ?_; rintro x w' ⟨rfl, rfl⟩)
      | (go_at_call 124; with_reducible refine (H1.out _).mono ?_; rintro x w' ⟨rfl, rfl⟩)
      | (go_at_call 124; with_reducible refine (H2.out _).mono ?_; rintro x w' ⟨rfl, rfl⟩)
      | (go_at_call 124; with_reducible refine (H3.out _).mono ?_; rintro x w' ⟨rfl, rfl⟩)
      | (go_at_call 124; with_reducible refine (H4.out _).mono ?_; rintro x w' ⟨rfl, rfl⟩)
      | (go_at_call 124; with_reducible refine (H5.out _).mono ?_; rintro x w' ⟨rfl, rfl⟩))
    go_ret
    exact ⟨by rw [HV.out]; rfl, HBE.out⟩
  by_cases h1 : 1 ≤ j
  case neg =>
    have d1 : decide (1 ≤ j) = false := decide_eq_false h1
    have d1' : j < 1 := by omega
    have HV : Hid (r = false) := hid (by rw [HI.out]; first | rfl | (rw [d1]; rfl) | (rw [d1, d2]; rfl))
    clear HI
    go_enter Tryz.func105, Tryz.ntmps105
    go_wp2_with (first
      | (go_at_call 106; refine (HF.out _).mono ?_; rintro x w' ⟨rfl, rfl⟩)
      | (go_at_call 125; refine HS.out.mono ?_; rintro x w' ⟨rfl, rfl⟩)
      | (go_at_call 124; with_reducible refine (H1.out _).mono ?_; rintro x w' ⟨rfl, rfl⟩)
      | (go_at_call 124; with_reducible refine (H2.out _).mono ?_; rintro x w' ⟨rfl, rfl⟩)
      | (go_at_call 124; with_reducible refine (H3.out _).mono ?_; rintro x w' ⟨rfl, rfl⟩)
      | (go_at_call 124; with_reducible refine (H4.out _).mono ?_; rintro x w' ⟨rfl, rfl⟩)
      | (go_at_call 124; with_reducible refine (H5.out _).mono ?_; rintro x w' ⟨rfl, rfl⟩))
    go_ret
    exact ⟨by rw [HV.out]; rfl, HBE.out⟩
  have d1 : decide (1 ≤ j) = true := decide_eq_true h1
  by_cases h2 : j ≤ 72057594037927935
  case neg =>
    have d2 : decide (j ≤ 72057594037927935) = false := decide_eq_false h2
    have d2' : 72057594037927935 < j := by omega
    have HV : Hid (r = false) := hid (by rw [HI.out]; first | rfl | (rw [d1]; rfl) | (rw [d1, d2]; rfl))
    clear HI
    go_enter Tryz.func105, Tryz.ntmps105
    go_wp2_with (first
      | (go_at_call 106; refine (HF.out _).mono ?_; rintro x w' ⟨rfl, rfl⟩)
      | (go_at_call 125; refine HS.out.mono ?_; rintro x w' ⟨rfl, rfl⟩)
      | (go_at_call 124; with_reducible refine (H1.out _).mono ?_; rintro x w' ⟨rfl, rfl⟩)
      | (go_at_call 124; with_reducible refine (H2.out _).mono ?_; rintro x w' ⟨rfl, rfl⟩)
      | (go_at_call 124; with_reducible refine (H3.out _).mono ?_; rintro x w' ⟨rfl, rfl⟩)
      | (go_at_call 124; with_reducible refine (H4.out _).mono ?_; rintro x w' ⟨rfl, rfl⟩)
      | (go_at_call 124; with_reducible refine (H5.out _).mono ?_; rintro x w' ⟨rfl, rfl⟩))
    go_ret
    exact ⟨by rw [HV.out]; rfl, HBE.out⟩
  have d2 : decide (j ≤ 72057594037927935) = true := decide_eq_true h2
  cases b1
  case false =>
    have HV : Hid (r = false) := hid (by rw [HI.out]; first | rfl | (rw [d1]; rfl) | (rw [d1, d2]; rfl))
    clear HI
    go_enter Tryz.func105, Tryz.ntmps105
    go_wp2_with (first
      | (go_at_call 106; refine (HF.out _).mono ?_; rintro x w' ⟨rfl, rfl⟩)
      | (go_at_call 125; refine HS.out.mono ?_; rintro x w' ⟨rfl, rfl⟩)
      | (go_at_call 124; with_reducible refine (H1.out _).mono ?_; rintro x w' ⟨rfl, rfl⟩)
      | (go_at_call 124; with_reducible refine (H2.out _).mono ?_; rintro x w' ⟨rfl, rfl⟩)
      | (go_at_call 124; with_reducible refine (H3.out _).mono ?_; rintro x w' ⟨rfl, rfl⟩)
      | (go_at_call 124; with_reducible refine (H4.out _).mono ?_; rintro x w' ⟨rfl, rfl⟩)
      | (go_at_call 124; with_reducible refine (H5.out _).mono ?_; rintro x w' ⟨rfl, rfl⟩))
    go_ret
    exact ⟨by rw [HV.out]; rfl, HBE.out⟩
  cases b2
  case false =>
    have HV : Hid (r = false) := hid (by rw [HI.out]; first | rfl | (rw [d1]; rfl) | (rw [d1, d2]; rfl))
    clear HI
    go_enter Tryz.func105, Tryz.ntmps105
    go_wp2_with (first
      | (go_at_call 106; refine (HF.out _).mono ?_; rintro x w' ⟨rfl, rfl⟩)
      | (go_at_call 125; refine HS.out.mono ?_; rintro x w' ⟨rfl, rfl⟩)
      | (go_at_call 124; with_reducible refine (H1.out _).mono ?_; rintro x w' ⟨rfl, rfl⟩)
      | (go_at_call 124; with_reducible refine (H2.out _).mono ?_; rintro x w' ⟨rfl, rfl⟩)
      | (go_at_call 124; with_reducible refine (H3.out _).mono ?_; rintro x w' ⟨rfl, rfl⟩)
      | (go_at_call 124; with_reducible refine (H4.out _).mono ?_; rintro x w' ⟨rfl, rfl⟩)
      | (go_at_call 124; with_reducible refine (H5.out _).mono ?_; rintro x w' ⟨rfl, rfl⟩))
    go_ret
    exact ⟨by rw [HV.out]; rfl, HBE.out⟩
  cases b3
  case false =>
    have HV : Hid (r = false) := hid (by rw [HI.out]; first | rfl | (rw [d1]; rfl) | (rw [d1, d2]; rfl))
    clear HI
    go_enter Tryz.func105, Tryz.ntmps105
    go_wp2_with (first
      | (go_at_call 106; refine (HF.out _).mono ?_; rintro x w' ⟨rfl, rfl⟩)
      | (go_at_call 125; refine HS.out.mono ?_; rintro x w' ⟨rfl, rfl⟩)
      | (go_at_call 124; with_reducible refine (H1.out _).mono ?_; rintro x w' ⟨rfl, rfl⟩)
      | (go_at_call 124; with_reducible refine (H2.out _).mono ?_; rintro x w' ⟨rfl, rfl⟩)
      | (go_at_call 124; with_reducible refine (H3.out _).mono ?_; rintro x w' ⟨rfl, rfl⟩)
      | (go_at_call 124; with_reducible refine (H4.out _).mono ?_; rintro x w' ⟨rfl, rfl⟩)
      | (go_at_call 124; with_reducible refine (H5.out _).mono ?_; rintro x w' ⟨rfl, rfl⟩))
    go_ret
    exact ⟨by rw [HV.out]; rfl, HBE.out⟩
  cases b4
  case false =>
    have HV : Hid (r = false) := hid (by rw [HI.out]; first | rfl | (rw [d1]; rfl) | (rw [d1, d2]; rfl))
    clear HI
    go_enter Tryz.func105, Tryz.ntmps105
    go_wp2_with (first
      | (go_at_call 106; refine (HF.out _).mono ?_; rintro x w' ⟨rfl, rfl⟩)
      | (go_at_call 125; refine HS.out.mono ?_; rintro x w' ⟨rfl, rfl⟩)
      | (go_at_call 124; with_reducible refine (H1.out _).mono ?_; rintro x w' ⟨rfl, rfl⟩)
      | (go_at_call 124; with_reducible refine (H2.out _).mono ?_; rintro x w' ⟨rfl, rfl⟩)
      | (go_at_call 124; with_reducible refine (H3.out _).mono ?_; rintro x w' ⟨rfl, rfl⟩)
      | (go_at_call 124; with_reducible refine (H4.out _).mono ?_; rintro x w' ⟨rfl, rfl⟩)
      | (go_at_call 124; with_reducible refine (H5.out _).mono ?_; rintro x w' ⟨rfl, rfl⟩))
    go_ret
    exact ⟨by rw [HV.out]; rfl, HBE.out⟩
  cases b5
  case false =>
    have HV : Hid (r = false) := hid (by rw [HI.out]; first | rfl | (rw [d1]; rfl) | (rw [d1, d2]; rfl))
    clear HI
    go_enter Tryz.func105, Tryz.ntmps105
    go_wp2_with (first
      | (go_at_call 106; refine (HF.out _).mono ?_; rintro x w' ⟨rfl, rfl⟩)
      | (go_at_call 125; refine HS.out.mono ?_; rintro x w' ⟨rfl, rfl⟩)
      | (go_at_call 124; with_reducible refine (H1.out _).mono ?_; rintro x w' ⟨rfl, rfl⟩)
      | (go_at_call 124; with_reducible refine (H2.out _).mono ?_; rintro x w' ⟨rfl, rfl⟩)
      | (go_at_call 124; with_reducible refine (H3.out _).mono ?_; rintro x w' ⟨rfl, rfl⟩)
      | (go_at_call 124; with_reducible refine (H4.out _).mono ?_; rintro x w' ⟨rfl, rfl⟩)
      | (go_at_call 124; with_reducible refine (H5.out _).mono ?_; rintro x w' ⟨rfl, rfl⟩))
    go_ret
    exact ⟨by rw [HV.out]; rfl, HBE.out⟩
  cases b6
  case false =>
    have HV : Hid (r = false) := hid (by rw [HI.out]; first | rfl | (rw [d1]; rfl) | (rw [d1, d2]; rfl))
    clear HI
    go_enter Tryz.func105, Tryz.ntmps105
    go_wp2_with (first
      | (go_at_call 106; refine (HF.out _).mono ?_; rintro x w' ⟨rfl, rfl⟩)
      | (go_at_call 125; refine HS.out.mono ?_; rintro x w' ⟨rfl, rfl⟩)
      | (go_at_call 124; with_reducible refine (H1.out _).mono ?_; rintro x w' ⟨rfl, rfl⟩)
      | (go_at_call 124; with_reducible refine (H2.out _).mono ?_; rintro x w' ⟨rfl, rfl⟩)
      | (go_at_call 124; with_reducible refine (H3.out _).mono ?_; rintro x w' ⟨rfl, rfl⟩)
      | (go_at_call 124; with_reducible refine (H4.out _).mono ?_; rintro x w' ⟨rfl, rfl⟩)
      | (go_at_call 124; with_reducible refine (H5.out _).mono ?_; rintro x w' ⟨rfl, rfl⟩))
    go_ret
    exact ⟨by rw [HV.out]; rfl, HBE.out⟩
  have HV : Hid (r = true) := hid (by rw [HI.out]; first | rfl | (rw [d1]; rfl) | (rw [d1, d2]; rfl))
  clear HI
  go_enter Tryz.func105, Tryz.ntmps105
  go_wp2_with (first
    | (go_at_call 106; refine (HF.out _).mono ?_; rintro x w' ⟨rfl, rfl⟩)
    | (go_at_call 125; refine HS.out.mono ?_; rintro x w' ⟨rfl, rfl⟩)
    | (go_at_call 124; with_reducible refine (H1.out _).mono ?_; rintro x w' ⟨rfl, rfl⟩)
    | (go_at_call 124; with_reducible refine (H2.out _).mono ?_; rintro x w' ⟨rfl, rfl⟩)
    | (go_at_call 124; with_reducible refine (H3.out _).mono ?_; rintro x w' ⟨rfl, rfl⟩)
    | (go_at_call 124; with_reducible refine (H4.out _).mono ?_; rintro x w' ⟨rfl, rfl⟩)
    | (go_at_call 124; with_reducible refine (H5.out _).mono ?_; rintro x w' ⟨rfl, rfl⟩))
  go_ret
  exact ⟨by rw [HV.out]; rfl, HBE.out⟩
end Go.Proofs.YtgakobolhmdnnaaGreat

namespace Go.Proofs.YtgakobolhmdnnaaGreat
open Go.RowKit
set_option linter.unusedVariables false
set_option linter.unusedSimpArgs false

theorem seven_cells {w : World} {b t : Nat} {a0 a1 a2 a3 a4 a5 a6 : Value} (h : w.heap[b]? = some (.cells #[a0, a1, a2, a3, a4, a5, a6] t (0, 0))) :
    w.cell? ⟨b, 0, none⟩ = some a0 ∧ w.cell? ⟨b, 1, none⟩ = some a1 ∧ w.cell? ⟨b, 2, none⟩ = some a2 ∧ w.cell? ⟨b, 3, none⟩ = some a3 ∧ w.cell? ⟨b, 4, none⟩ = some a4 ∧ w.cell? ⟨b, 5, none⟩ = some a5 ∧ w.cell? ⟨b, 6, none⟩ = some a6 :=
  ⟨by rw [cell_of_row w b 0 _ t (0, 0) h]; rfl, by rw [cell_of_row w b 1 _ t (0, 0) h]; rfl, by rw [cell_of_row w b 2 _ t (0, 0) h]; rfl, by rw [cell_of_row w b 3 _ t (0, 0) h]; rfl, by rw [cell_of_row w b 4 _ t (0, 0) h]; rfl, by rw [cell_of_row w b 5 _ t (0, 0) h]; rfl, by rw [cell_of_row w b 6 _ t (0, 0) h]; rfl⟩
/-- Bytes of the call's own. -/
def OwnB (w : World) (B : Nat) (A : Option Addr) (c : Nat) (l : List UInt8) : Prop := w.ownsRow B 5 1 (.slice A l.length c) l.length (bcells l)
theorem OwnB.bytes {w : World} {B : Nat} {A : Option Addr} {c : Nat} {l : List UInt8} (h : OwnB w B A c l) : IsBytes w A l.length c l := sl_own h
theorem OwnB.keep {w w' : World} {B : Nat} {A : Option Addr} {c : Nat} {l : List UInt8} (h : OwnB w B A c l) (hb : Below w.heap.size w w') : OwnB w' B A c l := own_keep h hb
theorem ownB_of {w : World} {B n : Nat} {v : Value} {l : List UInt8} (h : w.ownsRow B 5 1 v n (bcells l)) : ∃ A c, v = .slice A l.length c ∧ OwnB w B A c l := by
  obtain ⟨a, c, rfl, hs⟩ := Sl.of_own h
  have hn : n = l.length := by have := hs.1; rw [bcells_length] at this; omega
  subst hn
  exact ⟨a, c, rfl, h⟩
theorem rnum_own (B : Nat) (A : Option Addr) (cap : Nat) (l : List UInt8) (n : Int) (w : World) (h : OwnB w B A cap l) (hB : B ≤ w.heap.size) (hl : l.length ≤ 100000) :
    Calls Tryz.prog 107 #[.slice A l.length cap, .int .i64 n] w fun e w' => ∃ A' c', e = .returned (.slice A' (l ++ numB (cl n)).length c') ∧ OwnB w' B A' c' (l ++ numB (cl n)) ∧ Below w.heap.size w w' := by
  refine (num_any A l.length cap l n w h.bytes (by omega)).mono ?_
  rintro e w' ⟨v, rfl, ho, hb⟩
  obtain ⟨A', c', rfl, h2⟩ := ownB_of ho
  exact ⟨A', c', rfl, own_mono h2 hB, hb⟩
theorem rtext_own (B : Nat) (A : Option Addr) (cap : Nat) (l s : List UInt8) (w : World) (h : OwnB w B A cap l) (hB : B ≤ w.heap.size) (hl : l.length ≤ 100000) (hs : s.length ≤ 100000) :
    Calls Tryz.prog 109 #[.slice A l.length cap, .string (str s)] w fun e w' => ∃ A' c', e = .returned (.slice A' (l ++ tx s).length c') ∧ OwnB w' B A' c' (l ++ tx s) ∧ Below w.heap.size w w' := by
  refine (text_any A l.length cap l (str s) w h.bytes hl (by rw [str_size]; exact hs)).mono ?_
  rintro e w' ⟨v, rfl, ho, hb⟩
  have e1 : l ++ numB (str s).size ++ (str s).data.toList = l ++ tx s := by rw [str_size, tx, List.append_assoc]; rfl
  rw [e1] at ho
  obtain ⟨A', c', rfl, h2⟩ := ownB_of ho
  exact ⟨A', c', rfl, own_mono h2 hB, hb⟩
theorem rput_own (B : Nat) (A : Option Addr) (cap : Nat) (l : List UInt8) (has n : Int) (hb : Bool) (hh : (has == 0) = !hb) (w : World) (h : OwnB w B A cap l) (hB : B ≤ w.heap.size) (hl : l.length ≤ 100000) :
    Calls Tryz.prog 108 #[.slice A l.length cap, .int .i64 has, .int .i64 n] w fun e w' => ∃ A' c', e = .returned (.slice A' (l ++ pt hb n).length c') ∧ OwnB w' B A' c' (l ++ pt hb n) ∧ Below w.heap.size w w' := by
  cases hb with
  | false =>
    have hh' : (has == 0) = true := by simpa using hh
    have H := hid h
    clear hh h
    go_enter Tryz.func108, Tryz.ntmps108
    go_wp2
    go_ret
    refine ⟨A, cap, ?_, ?_, Below.refl _ _⟩
    · simp [pt]
    · simpa [pt] using H.out
  | true =>
    have hh' : (has == 0) = false := by simpa using hh
    have H := hid (rnum_own B A cap l n w h hB hl)
    clear hh h hl
    go_enter Tryz.func108, Tryz.ntmps108
    go_wp2_with fail
    refine H.out.mono ?_
    rintro x w1 ⟨A', c', rfl, ho, hb⟩
    have HB := hid hb
    have HO := hid ho
    clear hb ho H
    generalize hq : (l ++ numB (cl n)).length = q at *
    go_wp2
    go_ret
    refine ⟨A', c', ?_, ?_, HB.out⟩
    · rw [pt, if_pos rfl, hq]; rfl
    · rw [pt, if_pos rfl]; exact HO.out
theorem tx_len (s : List UInt8) (h : s.length ≤ 200) : (tx s).length ≤ 208 := by
  have := (numB_length s.length (by omega)).2
  rw [tx, List.length_append]; omega
theorem txs_len : ∀ (l : List (List UInt8)), (∀ s ∈ l, s.length ≤ 200) → (txs l).length ≤ 208 * l.length
  | [], _ => by simp [txs]
  | s :: l, h => by
    have h1 := txs_len l (fun x hx => h x (List.mem_cons_of_mem _ hx))
    have h2 := tx_len s (h s (List.mem_cons_self ..))
    have e : txs (s :: l) = tx s ++ txs l := by simp [txs]
    rw [e, List.length_append, List.length_cons]; omega
theorem chkR_parts {x : Rc} (h : chkR x = true) : isK x.k = true ∧ 1 ≤ x.j ∧ x.j ≤ 72057594037927935 ∧ inS (hasR x.k 1) 0 15 x.t = true ∧ inS (hasR x.k 2) 0 63 x.w = true ∧ inS (hasR x.k 3) 0 7 x.s = true ∧ inS (hasR x.k 4) 1 9 x.e = true ∧ inS (hasR x.k 5) 1 16 (x.ns.length : Int) = true ∧ shortB x.ns = true := by
  unfold chkR at h
  simp only [Bool.and_eq_true, decide_eq_true_eq] at h
  obtain ⟨⟨⟨⟨⟨⟨⟨⟨h1, h2⟩, h3⟩, h4⟩, h5⟩, h6⟩, h7⟩, h8⟩, h9⟩ := h
  exact ⟨h1, h2, h3, h4, h5, h6, h7, h8, h9⟩
theorem chkR_ns {x : Rc} (h : chkR x = true) : x.ns.length ≤ 16 ∧ ∀ s ∈ x.ns, s.length ≤ 200 := by
  obtain ⟨_, _, _, _, _, _, _, h8, h9⟩ := chkR_parts h
  refine ⟨?_, shortB_le h9⟩
  unfold inS at h8
  split at h8
  · simp only [decide_eq_true_eq] at h8; omega
  · simp only [beq_iff_eq] at h8; omega

set_option maxRecDepth 20000 in
set_option maxHeartbeats 4000000 in
theorem recbytes_any (x : Rc) (A : Option Addr) (c : Nat) (W : World) (hx : TxAt W A c x.ns) : Calls Tryz.prog 81 #[.agg (rcc x A c)] W fun e w' => ∃ A' c', e = .returned (.slice A' (if chkR x then rb x else []).length c') ∧ OwnB w' W.heap.size A' c' (if chkR x then rb x else []) ∧ Below W.heap.size W w' := by
  have HC := hid (fun w (hw : Below W.heap.size W w) => rcheck_any x A c w (hx.below hw))
  have HX := hid hx
  have hll := hx.len
  have hb0 : Below W.heap.size W (W.alloc (.cells (rcc x A c) 107)) := (Below.refl _ _).alloc (Nat.le_refl _) _
  have h0 : (W.alloc (.cells (rcc x A c) 107)).heap[W.heap.size]? = some (.cells (rcc x A c) 107 (0, 0)) := heap_alloc_new _ _
  clear hx
  by_cases hc : chkR x = true
  case neg =>
    rw [Bool.not_eq_true] at hc
    rw [hc] at HC
    have HV : Hid ((if chkR x then rb x else []) = []) := hid (by rw [hc]; rfl)
    rw [HV.out]
    clear hc HV
    obtain ⟨k, j, t, w, s, e, ns⟩ := x
    simp only [rcc] at *
    go_enter Tryz.func81, Tryz.ntmps81
    go_upto_region 1 with (fail)
    refine at_world (fun u => u.heap[W.heap.size]? = some (.cells #[.int .i64 k, .int .i64 j, .int .i64 t, .int .i64 w, .int .i64 s, .int .i64 e, .slice A ns.length c] 107 (0, 0)) ∧ Below W.heap.size W u) ⟨h0, hb0⟩ ?_
    clear h0 hb0
    rintro w1 ⟨hm1, hB1⟩
    obtain ⟨p0, p1, p2, p3, p4, p5, p6⟩ := seven_cells hm1
    have HB1 := hid hB1
    clear hm1 hB1
    go_wp2_with fail
    refine (HC.out _ HB1.out).mono ?_
    rintro x w2 ⟨rfl, hb2⟩
    have HB2 := hid (HB1.out.trans (hb2.mono HB1.out.size))
    clear hb2 HB1 p0 p1 p2 p3 p4 p5 p6
    go_wp2
    go_ret
    exact ⟨none, 0, rfl, World.ownsRow_nil _ _ _ _, HB2.out⟩
  have HNS := hid (chkR_ns hc)
  have HV : Hid ((if chkR x then rb x else []) = headB x ++ txs x.ns) := hid (by rw [hc]; rfl)
  rw [HV.out]
  rw [hc] at HC
  clear hc HV
  have l0 := (numB_length _ (cl_le x.k)).2
  have l1 := (numB_length _ (cl_le x.j)).2
  have l2 := pt_len (hasR x.k 1) x.t
  have l3 := pt_len (hasR x.k 2) x.w
  have l4 := pt_len (hasR x.k 3) x.s
  have l5 := pt_len (hasR x.k 4) x.e
  have l6 := pt_len (hasR x.k 5) (x.ns.length : Int)
  have HHB : Hid (headB x = numB (cl x.k) ++ numB (cl x.j) ++ pt (hasR x.k 1) x.t ++ pt (hasR x.k 2) x.w ++ pt (hasR x.k 3) x.s ++ pt (hasR x.k 4) x.e ++ pt (hasR x.k 5) (x.ns.length : Int)) := hid rfl
  have HF := hid (fun w => rfields_any x.k w)
  obtain ⟨hb1, hb2, hb3, hb4, hb5⟩ := fldR_has x.k
  have HN0 := hid (fun w (hw : W.heap.size ≤ w.heap.size) => rnum_own W.heap.size none 0 [] x.k w (World.ownsRow_nil _ _ _ _) hw (by simp))
  have HN1 := hid (fun A c l w (h : OwnB w W.heap.size A c l) (hw : W.heap.size ≤ w.heap.size) (hl : l.length ≤ 100000) => rnum_own W.heap.size A c l x.j w h hw hl)
  have HP1 := hid (fun A c l w (h : OwnB w W.heap.size A c l) (hw : W.heap.size ≤ w.heap.size) (hl : l.length ≤ 100000) => rput_own W.heap.size A c l _ x.t _ hb1 w h hw hl)
  have HP2 := hid (fun A c l w (h : OwnB w W.heap.size A c l) (hw : W.heap.size ≤ w.heap.size) (hl : l.length ≤ 100000) => rput_own W.heap.size A c l _ x.w _ hb2 w h hw hl)
  have HP3 := hid (fun A c l w (h : OwnB w W.heap.size A c l) (hw : W.heap.size ≤ w.heap.size) (hl : l.length ≤ 100000) => rput_own W.heap.size A c l _ x.s _ hb3 w h hw hl)
  have HP4 := hid (fun A c l w (h : OwnB w W.heap.size A c l) (hw : W.heap.size ≤ w.heap.size) (hl : l.length ≤ 100000) => rput_own W.heap.size A c l _ x.e _ hb4 w h hw hl)
  have HP5 := hid (fun A c l w (h : OwnB w W.heap.size A c l) (hw : W.heap.size ≤ w.heap.size) (hl : l.length ≤ 100000) => rput_own W.heap.size A c l _ (x.ns.length : Int) _ hb5 w h hw hl)
  clear hb1 hb2 hb3 hb4 hb5
  generalize headB x = hd at *
  obtain ⟨k, j, t, w, s, e, ns⟩ := x
  simp only [rcc] at *
  generalize isK k = bk at *
  generalize numB (cl k) = q0 at *
  generalize numB (cl j) = q1 at *
  generalize pt (hasR k 1) t = q2 at *
  generalize pt (hasR k 2) w = q3 at *
  generalize pt (hasR k 3) s = q4 at *
  generalize pt (hasR k 4) e = q5 at *
  generalize pt (hasR k 5) (ns.length : Int) = q6 at *
  generalize fldR k = f at *
  have HL := hid (And.intro l0 (And.intro l1 (And.intro l2 (And.intro l3 (And.intro l4 (And.intro l5 l6))))))
  clear l0 l1 l2 l3 l4 l5 l6
  rw [List.nil_append] at HN0
  go_enter Tryz.func81, Tryz.ntmps81
  go_upto_region 1 with (fail)
  refine at_world (fun u => u.heap[W.heap.size]? = some (.cells #[.int .i64 k, .int .i64 j, .int .i64 t, .int .i64 w, .int .i64 s, .int .i64 e, .slice A ns.length c] 107 (0, 0)) ∧ Below W.heap.size W u) ⟨h0, hb0⟩ ?_
  clear h0 hb0
  rintro w1 ⟨hm1, hB1⟩
  obtain ⟨p0, p1, p2, p3, p4, p5, p6⟩ := seven_cells hm1
  have HM1 := hid hm1
  have HB1 := hid hB1
  clear hm1 hB1
  go_wp2_with fail
  refine (HC.out _ HB1.out).mono ?_
  rintro x w2 ⟨rfl, hb2⟩
  have HM2 := hid (keep0 HM1.out hb2)
  have HB2 := hid (HB1.out.trans (hb2.mono HB1.out.size))
  clear hb2 HM1 HB1 HC p0 p1 p2 p3 p4 p5 p6
  obtain ⟨p0, p1, p2, p3, p4, p5, p6⟩ := seven_cells HM2.out
  go_wp2_with (go_at_call 106; refine (HF.out _).mono ?_; rintro x w' ⟨rfl, rfl⟩)
  refine (HN0.out _ HB2.out.size).mono ?_
  rintro x w3 ⟨A3, c3, rfl, ho3, hb3⟩
  have HO3 := hid ho3
  have HM3 := hid (keep0 HM2.out hb3)
  have HB3 := hid (HB2.out.trans (hb3.mono HB2.out.size))
  have hl3 : q0.length ≤ 8 := HL.out.1
  generalize hL3 : q0 = L3 at *
  have HL3 := hid hL3
  clear hL3 ho3 hb3 HM2 HB2 HN0 HF p0 p1 p2 p3 p4 p5 p6
  obtain ⟨p0, p1, p2, p3, p4, p5, p6⟩ := seven_cells HM3.out
  go_wp2_with fail
  refine (HN1.out _ _ _ _ HO3.out HB3.out.size (by omega)).mono ?_
  rintro x w4 ⟨A4, c4, rfl, ho4, hb4⟩
  have hl4 : (L3 ++ q1).length ≤ 24 := by have := HL.out; rw [List.length_append]; omega
  have HO4 := hid ho4
  have HM4 := hid (keep0 HM3.out hb4)
  have HB4 := hid (HB3.out.trans (hb4.mono HB3.out.size))
  generalize L3 ++ q1 = L4 at *
  clear ho4 hb4 HM3 HB3 HO3 HN1 p0 p1 p2 p3 p4 p5 p6 hl3
  obtain ⟨p0, p1, p2, p3, p4, p5, p6⟩ := seven_cells HM4.out
  go_wp2_with fail
  refine (HP1.out _ _ _ _ HO4.out HB4.out.size (by omega)).mono ?_
  rintro x w5 ⟨A5, c5, rfl, ho5, hb5⟩
  have hl5 : (L4 ++ q2).length ≤ 32 := by have := HL.out; rw [List.length_append]; omega
  have HO5 := hid ho5
  have HM5 := hid (keep0 HM4.out hb5)
  have HB5 := hid (HB4.out.trans (hb5.mono HB4.out.size))
  generalize L4 ++ q2 = L5 at *
  clear ho5 hb5 HM4 HB4 HO4 HP1 p0 p1 p2 p3 p4 p5 p6 hl4
  obtain ⟨p0, p1, p2, p3, p4, p5, p6⟩ := seven_cells HM5.out
  go_wp2_with fail
  refine (HP2.out _ _ _ _ HO5.out HB5.out.size (by omega)).mono ?_
  rintro x w6 ⟨A6, c6, rfl, ho6, hb6⟩
  have hl6 : (L5 ++ q3).length ≤ 40 := by have := HL.out; rw [List.length_append]; omega
  have HO6 := hid ho6
  have HM6 := hid (keep0 HM5.out hb6)
  have HB6 := hid (HB5.out.trans (hb6.mono HB5.out.size))
  generalize L5 ++ q3 = L6 at *
  clear ho6 hb6 HM5 HB5 HO5 HP2 p0 p1 p2 p3 p4 p5 p6 hl5
  obtain ⟨p0, p1, p2, p3, p4, p5, p6⟩ := seven_cells HM6.out
  go_wp2_with fail
  refine (HP3.out _ _ _ _ HO6.out HB6.out.size (by omega)).mono ?_
  rintro x w7 ⟨A7, c7, rfl, ho7, hb7⟩
  have hl7 : (L6 ++ q4).length ≤ 48 := by have := HL.out; rw [List.length_append]; omega
  have HO7 := hid ho7
  have HM7 := hid (keep0 HM6.out hb7)
  have HB7 := hid (HB6.out.trans (hb7.mono HB6.out.size))
  generalize L6 ++ q4 = L7 at *
  clear ho7 hb7 HM6 HB6 HO6 HP3 p0 p1 p2 p3 p4 p5 p6 hl6
  obtain ⟨p0, p1, p2, p3, p4, p5, p6⟩ := seven_cells HM7.out
  go_wp2_with fail
  refine (HP4.out _ _ _ _ HO7.out HB7.out.size (by omega)).mono ?_
  rintro x w8 ⟨A8, c8, rfl, ho8, hb8⟩
  have hl8 : (L7 ++ q5).length ≤ 56 := by have := HL.out; rw [List.length_append]; omega
  have HO8 := hid ho8
  have HM8 := hid (keep0 HM7.out hb8)
  have HB8 := hid (HB7.out.trans (hb8.mono HB7.out.size))
  generalize L7 ++ q5 = L8 at *
  clear ho8 hb8 HM7 HB7 HO7 HP4 p0 p1 p2 p3 p4 p5 p6 hl7
  obtain ⟨p0, p1, p2, p3, p4, p5, p6⟩ := seven_cells HM8.out
  go_wp2_with fail
  refine (HP5.out _ _ _ _ HO8.out HB8.out.size (by omega)).mono ?_
  rintro x w9 ⟨A9, c9, rfl, ho9, hb9⟩
  have hl9 : (L8 ++ q6).length ≤ 64 := by have := HL.out; rw [List.length_append]; omega
  have HO9 := hid ho9
  have HM9 := hid (keep0 HM8.out hb9)
  have HB9 := hid (HB8.out.trans (hb9.mono HB8.out.size))
  generalize L8 ++ q6 = L9 at *
  clear ho9 hb9 HM8 HB8 HO8 HP5 p0 p1 p2 p3 p4 p5 p6 hl8
  obtain ⟨p0, p1, p2, p3, p4, p5, p6⟩ := seven_cells HM9.out
  clear HL
  go_wp2_with fail
  clear p0 p1 p2 p3 p4 p5 p6
  go_loopw [5, 58] (fun v i wr => ∃ (n : Nat) (A9' : Option Addr) (c9' : Nat), n ≤ ns.length ∧ i = .int .i64 (n : Int) ∧ v = .slice A9' (L9 ++ txs (ns.take n)).length c9' ∧ Hid (OwnB wr W.heap.size A9' c9' (L9 ++ txs (ns.take n))) ∧ Hid (Below W.heap.size W wr)) (fun _ i _ => ns.length - (intOf i).toNat)
  case atStart => exact ⟨0, A9, c9, by omega, rfl, by simp [txs], by rw [Hid]; simpa [txs] using HO9.out, HB9.out⟩
  case round =>
    obtain ⟨n, A', c', hn, rfl, rfl, HO, HB⟩ := hrel
    by_cases hlt : n < ns.length
    · have hlt2 : (n : Int) < (ns.length : Int) := by omega
      obtain ⟨b', off, rfl, hc⟩ := Sl.at (HX.out.below HB.out).1 n (by rw [scells_length]; exact hlt)
      have e1 : (scells ns)[n]'(by rw [scells_length]; exact hlt) = .string (str (ns[n]'hlt)) := by simp [scells]
      rw [e1] at hc
      have hsl := HNS.out.2 ns[n] (List.getElem_mem hlt)
      have htl := txs_len (ns.take n) (fun s hs => HNS.out.2 s (List.mem_of_mem_take hs))
      rw [List.length_take, Nat.min_eq_left hn] at htl
      have hn16 := HNS.out.1
      have HTS : Hid (L9 ++ txs (ns.take (n + 1)) = (L9 ++ txs (ns.take n)) ++ tx ns[n]) := hid (by rw [List.take_succ_eq_append_getElem hlt, txs_snoc, List.append_assoc])
      have HLN : Hid ((L9 ++ txs (ns.take n)).length ≤ 100000) := hid (by rw [List.length_append]; omega)
      generalize ns[n]'hlt = sx at *
      generalize L9 ++ txs (ns.take n) = cur at *
      have HT := hid (rtext_own W.heap.size A' c' cur sx wr HO.out HB.out.size HLN.out (by omega))
      rw [← HTS.out] at HT
      clear e1
      go_wp2_with fail
      refine HT.out.mono ?_
      rintro x w10 ⟨A10, c10, rfl, ho10, hb10⟩
      have HO10 := hid ho10
      have HB10 := hid (HB.out.trans (hb10.mono HB.out.size))
      clear ho10 hb10 HT HO HB hc
      go_wp2
      go_roundw
      case rel => exact ⟨n + 1, A10, c10, by omega, by go_num, by rw [List.length_append], HO10.out, HB10.out⟩
      case measure => simp [intOf]; omega
    · obtain rfl : n = ns.length := by omega
      have hge : ¬ ((ns.length : Nat) : Int) < ((ns.length : Nat) : Int) := by omega
      have HT := hid (List.take_length (l := ns))
      have HO2 : Hid (OwnB wr W.heap.size A' c' (L9 ++ txs ns)) := hid (by rw [← HT.out]; simpa using HO.out)
      clear hlt hn HO
      obtain rfl : hd = L9 := HHB.out
      have HQ : Hid ((hd ++ txs (ns.take ns.length)).length = (hd ++ txs ns).length) := hid (by rw [HT.out])
      go_wp2
      go_ret
      exact ⟨A', c', by simp, HO2.out, HB.out⟩

theorem convS {w : World} {a : Option Addr} {n cap : Nat} {l : List UInt8} (h : IsBytes w a n cap l) : (convert 136 9 (.slice a n cap)).run Tryz.prog w = .ok (.string (str l)) w :=
  conv_str (P := Tryz.prog) (src := 136) (dst := 9) Tryz.underlying136 Tryz.underlying5 Tryz.underlying9 h
theorem headB_len (x : Rc) : (headB x).length ≤ 56 := by
  have l0 := (numB_length _ (cl_le x.k)).2
  have l1 := (numB_length _ (cl_le x.j)).2
  have l2 := pt_len (hasR x.k 1) x.t
  have l3 := pt_len (hasR x.k 2) x.w
  have l4 := pt_len (hasR x.k 3) x.s
  have l5 := pt_len (hasR x.k 4) x.e
  have l6 := pt_len (hasR x.k 5) (x.ns.length : Int)
  unfold headB
  simp only [List.length_append]
  omega
theorem rb_len (x : Rc) (h : chkR x = true) : 2 ≤ (rb x).length ∧ (rb x).length ≤ 3384 := by
  have h1 := chkR_ns h
  have h2 := txs_len x.ns h1.2
  have h3 := headB_len x
  have l0 := (numB_length _ (cl_le x.k)).1
  have l1 := (numB_length _ (cl_le x.j)).1
  refine ⟨?_, ?_⟩
  · unfold rb headB
    simp only [List.length_append]
    omega
  · unfold rb
    rw [List.length_append]
    omega
/-- How many bytes a record's frame has. -/
def sizeR (x : Rc) : Nat := if chkR x then (frP (rb x)).length else 0
set_option maxRecDepth 20000 in
set_option maxHeartbeats 4000000 in
theorem recsize_any (x : Rc) (A : Option Addr) (c : Nat) (W : World) (hx : TxAt W A c x.ns) : Calls Tryz.prog 57 #[.agg (rcc x A c)] W fun e w' => e = .returned (.int .i64 (sizeR x : Nat)) ∧ Below W.heap.size W w' := by
  have HC := hid (fun w (hw : Below W.heap.size W w) => recbytes_any x A c w (hx.below hw))
  have hll := hx.len
  have hb0 : Below W.heap.size W (W.alloc (.cells (rcc x A c) 107)) := (Below.refl _ _).alloc (Nat.le_refl _) _
  have h0 : (W.alloc (.cells (rcc x A c) 107)).heap[W.heap.size]? = some (.cells (rcc x A c) 107 (0, 0)) := heap_alloc_new _ _
  clear hx
  by_cases hc : chkR x = true
  case neg =>
    rw [Bool.not_eq_true] at hc
    simp only [hc] at HC
    have HV : Hid (sizeR x = 0) := hid (by unfold sizeR; rw [hc]; rfl)
    rw [HV.out]
    clear hc HV
    obtain ⟨k, j, t, w, s, e, ns⟩ := x
    simp only [rcc] at *
    go_enter Tryz.func57, Tryz.ntmps57
    go_upto_region 1 with (fail)
    refine at_world (fun u => u.heap[W.heap.size]? = some (.cells #[.int .i64 k, .int .i64 j, .int .i64 t, .int .i64 w, .int .i64 s, .int .i64 e, .slice A ns.length c] 107 (0, 0)) ∧ Below W.heap.size W u) ⟨h0, hb0⟩ ?_
    clear h0 hb0
    rintro w1 ⟨hm1, hB1⟩
    obtain ⟨p0, p1, p2, p3, p4, p5, p6⟩ := seven_cells hm1
    have HB1 := hid hB1
    clear hm1 hB1
    go_wp2_with fail
    refine (HC.out _ HB1.out).mono ?_
    rintro x w2 ⟨A2, c2, rfl, ho2, hb2⟩
    have HB2 := hid (HB1.out.trans (hb2.mono HB1.out.size))
    clear hb2 HB1 p0 p1 p2 p3 p4 p5 p6 ho2
    go_wp2
    go_ret
    exact ⟨rfl, HB2.out⟩
  have HV : Hid (sizeR x = (frP (rb x)).length) := hid (by unfold sizeR; rw [hc]; rfl)
  rw [HV.out]
  simp only [hc, if_true] at HC
  have hrl := rb_len x hc
  clear hc HV
  have HFP := hid (fun w => fput_any none 0 0 [] (str (rb x)) w (isBytes_nil w none 0 (Nat.zero_le _)) (by simp) (by rw [str_size]; omega))
  have hsx : (str (rb x)).data.toList = rb x := rfl
  simp only [hsx, List.nil_append] at HFP
  have hfl : (frP (rb x)).length ≤ 100000 := by
    have := (numB_length (rb x).length (by omega)).2
    unfold frP
    rw [if_neg (by omega), seal_len, List.length_append]
    omega
  clear hsx
  generalize frP (rb x) = fr at *
  generalize rb x = bs at *
  obtain ⟨k, j, t, w, s, e, ns⟩ := x
  simp only [rcc] at *
  have hz : ((bs.length : Nat) : Int) ≠ 0 := by omega
  have hz2 : (((bs.length : Nat) : Int) == 0) = false := by simpa using hz
  go_enter Tryz.func57, Tryz.ntmps57
  go_upto_region 1 with (fail)
  refine at_world (fun u => u.heap[W.heap.size]? = some (.cells #[.int .i64 k, .int .i64 j, .int .i64 t, .int .i64 w, .int .i64 s, .int .i64 e, .slice A ns.length c] 107 (0, 0)) ∧ Below W.heap.size W u) ⟨h0, hb0⟩ ?_
  clear h0 hb0
  rintro w1 ⟨hm1, hB1⟩
  obtain ⟨p0, p1, p2, p3, p4, p5, p6⟩ := seven_cells hm1
  have HB1 := hid hB1
  clear hm1 hB1
  go_wp2_with fail
  refine (HC.out _ HB1.out).mono ?_
  rintro x w2 ⟨A2, c2, rfl, ho2, hb2⟩
  have HB2 := hid (HB1.out.trans (hb2.mono HB1.out.size))
  have hcv := convS ho2.bytes
  clear hb2 HB1 p0 p1 p2 p3 p4 p5 p6 ho2 HC
  generalize str bs = sb at *
  generalize hbl : bs.length = n at *
  clear hbl
  go_wp2_with fail
  refine (HFP.out _).mono ?_
  rintro x w3 ⟨A3, c3, rfl, _, hb3⟩
  have HB3 := hid (HB2.out.trans (hb3.mono HB2.out.size))
  clear hb3 hcv HFP HB2
  go_wp2
  go_ret
  exact ⟨rfl, HB3.out⟩
end Go.Proofs.YtgakobolhmdnnaaGreat

namespace Go.Proofs.YtgakobolhmdnnaaGreat
open Go.RowKit Go.Sort
set_option linter.unusedVariables false
set_option linter.unusedSimpArgs false

theorem rd_texts {w : World} {A : Option Addr} {len cap : Nat} (h : Rd Tryz.prog w 22 [.slice A len cap]) : ∃ l : List (List UInt8), l.length = len ∧ TxAt w A cap l := by
  obtain ⟨h1, h2, h3⟩ := Rd.slice_plain Tryz.underlying22 (n := 1) (by kernel_rfl) (by omega) h
  by_cases h0 : len = 0
  · subst h0
    exact ⟨[], rfl, Sl.nil _ _ _ _ h2, by simp⟩
  · obtain ⟨b, off, rfl, z, hz⟩ := h3 (by omega)
    have hs : ∀ i, i < len → ∃ s : ByteArray, z i = [.string s] ∧ s.size ≤ maxLen := fun i hi => Rd.string Tryz.underlying9 (hz i hi).2.1
    let f : Nat → List UInt8 := fun i => match z i with | [.string s] => s.data.toList | _ => []
    have hf : ∀ i, i < len → z i = [.string (str (f i))] ∧ (f i).length ≤ maxLen := fun i hi => by
      obtain ⟨s, e, hsz⟩ := hs i hi
      have e2 : f i = s.data.toList := by simp only [f, e]
      refine ⟨by rw [e, e2, str_back], ?_⟩
      rw [e2, Array.length_toList]
      exact hsz
    refine ⟨(List.range len).map f, by simp, ⟨by simp [scells], by simpa using h1, h2, fun _ => ⟨b, off, rfl, fun i hi => ?_⟩⟩, ?_⟩
    · rw [scells_length, List.length_map, List.length_range] at hi
      have h9 := (hz i hi).2.2 0 (by omega)
      rw [(hf i hi).1, Nat.mul_one, Nat.add_zero] at h9
      rw [h9]
      simp [scells, hi]
    · intro s hs2
      simp only [List.mem_map, List.mem_range] at hs2
      obtain ⟨i, hi, rfl⟩ := hs2
      exact (hf i hi).2
theorem rd_rec {w : World} {a : Array Value} (hn : a.size = 7) (h : Rd Tryz.prog w 107 a.toList) : ∃ (x : Rc) (A : Option Addr) (c : Nat), a = rcc x A c ∧ TxAt w A c x.ns := by
  have hc : Tryz.prog.cellsOf 3 = 1 := by kernel_rfl
  have hc2 : Tryz.prog.cellsOf 22 = 1 := by kernel_rfl
  obtain ⟨_, hf⟩ := Rd.struct Tryz.underlying107 h
  have f0 : Rd Tryz.prog w 3 ((a.toList.drop 0).take (Tryz.prog.cellsOf 3)) := hf 0 _ rfl
  have f1 : Rd Tryz.prog w 3 ((a.toList.drop 1).take (Tryz.prog.cellsOf 3)) := hf 1 _ rfl
  have f2 : Rd Tryz.prog w 3 ((a.toList.drop 2).take (Tryz.prog.cellsOf 3)) := hf 2 _ rfl
  have f3 : Rd Tryz.prog w 3 ((a.toList.drop 3).take (Tryz.prog.cellsOf 3)) := hf 3 _ rfl
  have f4 : Rd Tryz.prog w 3 ((a.toList.drop 4).take (Tryz.prog.cellsOf 3)) := hf 4 _ rfl
  have f5 : Rd Tryz.prog w 3 ((a.toList.drop 5).take (Tryz.prog.cellsOf 3)) := hf 5 _ rfl
  have f6 : Rd Tryz.prog w 22 ((a.toList.drop 6).take (Tryz.prog.cellsOf 22)) := hf 6 _ rfl
  rw [hc] at f0 f1 f2 f3 f4 f5
  rw [hc2] at f6
  obtain ⟨k, e0, _⟩ := Rd.int Tryz.underlying3 f0
  obtain ⟨j, e1, _⟩ := Rd.int Tryz.underlying3 f1
  obtain ⟨t, e2, _⟩ := Rd.int Tryz.underlying3 f2
  obtain ⟨i, e3, _⟩ := Rd.int Tryz.underlying3 f3
  obtain ⟨p, e4, _⟩ := Rd.int Tryz.underlying3 f4
  obtain ⟨s, e5, _⟩ := Rd.int Tryz.underlying3 f5
  obtain ⟨A, len, cap, e6⟩ : ∃ A len cap, (a.toList.drop 6).take 1 = [.slice A len cap] := by
    rcases Rd.slice Tryz.underlying22 f6 with h1 | ⟨ad, len, cap, _, h1, _⟩
    · exact ⟨_, _, _, h1⟩
    · exact ⟨_, _, _, h1⟩
  rw [e6] at f6
  obtain ⟨l, rfl, hl⟩ := rd_texts f6
  have one : ∀ {i : Nat} {v : Value}, (a.toList.drop i).take 1 = [v] → a.toList[i]? = some v := fun {i v} h => by
    have h9 : ((a.toList.drop i).take 1)[0]? = some v := by rw [h]; rfl
    rw [List.getElem?_take, if_pos (by omega), List.getElem?_drop, Nat.add_zero] at h9
    exact h9
  have g0 := one e0
  have g1 := one e1
  have g2 := one e2
  have g3 := one e3
  have g4 := one e4
  have g5 := one e5
  have g6 := one e6
  refine ⟨⟨k, j, t, i, p, s, l⟩, A, cap, ?_, hl⟩
  apply Array.ext'
  apply List.ext_getElem?
  intro j
  have hl : a.toList.length = 7 := by rw [Array.length_toList]; exact hn
  rcases (by omega : j = 0 ∨ j = 1 ∨ j = 2 ∨ j = 3 ∨ j = 4 ∨ j = 5 ∨ j = 6 ∨ 7 ≤ j) with rfl | rfl | rfl | rfl | rfl | rfl | rfl | h9
  · exact g0
  · exact g1
  · exact g2
  · exact g3
  · exact g4
  · exact g5
  · exact g6
  · rw [List.getElem?_eq_none (by omega), List.getElem?_eq_none (by simpa [rcc] using h9)]
theorem frP_len (l : List UInt8) (h : l.length ≤ 4096) : (frP l).length = (numB l.length).length + l.length + 4 := by
  unfold frP
  rw [if_neg (by omega), seal_len, List.length_append]
theorem numB_one (n : Nat) (h : n < 248) : (numB n).length = 1 := by unfold numB; rw [if_pos h]; rfl
theorem pt_small {hb : Bool} {lo hi n : Int} (h : inS hb lo hi n = true) (h0 : 0 ≤ lo) (h1 : hi ≤ 200) : (pt hb n).length = if hb then 1 else 0 := by
  unfold pt
  cases hb with
  | false => rfl
  | true =>
    simp only [inS, if_true, decide_eq_true_eq] at h
    rw [if_pos rfl, if_pos rfl, numB_one _ (by unfold cl; omega)]
theorem rb_len_k (x : Rc) (h : chkR x = true) (hk : x.k ≠ 1) : (rb x).length = (numB (cl x.k)).length + (numB (cl x.j)).length + (if hasR x.k 1 then 1 else 0) + (if hasR x.k 2 then 1 else 0) + (if hasR x.k 3 then 1 else 0) + (if hasR x.k 4 then 1 else 0) := by
  obtain ⟨hK, _, _, h1, h2, h3, h4, h5, _⟩ := chkR_parts h
  have e5 : hasR x.k 5 = false := by
    rcases kinds x.k with e | e | e | e | e
    · exact absurd e hk
    · rw [e]; rfl
    · rw [e]; rfl
    · rw [e]; rfl
    · exact hasR_out e 5
  rw [e5] at h5
  have hns : x.ns = [] := by
    simp only [inS, if_false, beq_iff_eq, Bool.false_eq_true] at h5
    exact List.eq_nil_of_length_eq_zero (by omega)
  unfold rb headB
  rw [hns, e5]
  simp only [List.length_append, pt_small h1 (by omega) (by omega), pt_small h2 (by omega) (by omega), pt_small h3 (by omega) (by omega), pt_small h4 (by omega) (by omega)]
  simp [txs, pt]
theorem size_same (x y : Rc) (hx : chkR x = true) (hy : chkR y = true) (hk : x.k = y.k) (h1 : x.k ≠ 1) (hj : x.j = y.j) : sizeR x = sizeR y := by
  have e : (rb x).length = (rb y).length := by rw [rb_len_k x hx h1, rb_len_k y hy (by rw [← hk]; exact h1), hk, hj]
  unfold sizeR
  rw [if_pos hx, if_pos hy, frP_len _ (by have := rb_len x hx; omega), frP_len _ (by have := rb_len y hy; omega), e]

theorem rb_ex : chkR ⟨3, 5, 2, 0, 0, 0, []⟩ = true ∧ rb ⟨3, 5, 2, 0, 0, 0, []⟩ = [3, 5, 2] := by decide +kernel
theorem size_ex : sizeR ⟨3, 5, 2, 0, 0, 0, []⟩ = 8 := by
  unfold sizeR
  rw [if_pos rb_ex.1, rb_ex.2, frP_len _ (by simp), numB_one _ (by simp)]
  rfl
theorem s_352 : (⟨#[3, 5, 2]⟩ : ByteArray) = str [3, 5, 2] := rfl
theorem set_seven {w : World} {b t : Nat} {a0 a1 a2 a3 a4 a5 a6 : Value} (h : w.heap[b]? = some (.cells #[a0, a1, a2, a3, a4, a5, a6] t (0, 0))) (v : Value) : (w.setCell ⟨b, 1, none⟩ v).heap[b]? = some (.cells #[a0, v, a2, a3, a4, a5, a6] t (0, 0)) := heap_setCell_same w b 1 _ _ v h
end Go.Proofs.YtgakobolhmdnnaaGreat

namespace Go.Proofs.YtgakobolhmdnnaaGreat
open Go.RowKit
set_option linter.unusedVariables false
set_option linter.unusedSimpArgs false

theorem r17has_any (k : Int) (f : Nat) (hf : f = 1 ∨ f = 2 ∨ f = 3 ∨ f = 4 ∨ f = 5) (w : World) : Calls Tryz.prog 114 #[.int .i64 k, .int .i64 (f : Nat)] w fun e w' => e = .returned (.bool (hasR k f)) ∧ w = w' := by
  rcases hf with rfl | rfl | rfl | rfl | rfl
  all_goals
    rcases kinds k with rfl | rfl | rfl | rfl | h
    case inr.inr.inr.inr =>
      have HF := hid (hasR_out h)
      have q1 : (k == 1) = false := by simp; omega
      have q2 : (k == 2) = false := by simp; omega
      have q3 : (k == 3) = false := by simp; omega
      have q4 : (k == 4) = false := by simp; omega
      clear h
      go_enter Tryz.func114, Tryz.ntmps114
      go_wp2
      go_ret
      exact ⟨by rw [HF.out]; rfl, rfl⟩
    all_goals
      go_enter Tryz.func114, Tryz.ntmps114
      go_wp2
      go_ret
      exact ⟨rfl, rfl⟩
theorem rin_any (k : Int) (f : Nat) (hf : f = 1 ∨ f = 2 ∨ f = 3 ∨ f = 4 ∨ f = 5) (n least most : Int) (w : World) : Calls Tryz.prog 111 #[.int .i64 k, .int .i64 (f : Nat), .int .i64 n, .int .i64 least, .int .i64 most] w fun e w' => e = .returned (.bool (inS (hasR k f) least most n)) ∧ w = w' := by
  have HH := hid (fun w => r17has_any k f hf w)
  generalize hasR k f = hb at *
  clear hf
  cases hb with
  | false =>
    go_enter Tryz.func111, Tryz.ntmps111
    go_wp2_with fail
    refine (HH.out _).mono ?_
    rintro e w1 ⟨rfl, rfl⟩
    go_wp2
    go_ret
    exact ⟨rfl, rfl⟩
  | true =>
    have HI : Hid (inS true least most n = decide (least ≤ n ∧ n ≤ most)) := hid rfl
    by_cases h1 : least ≤ n
    · have d1 : decide (least ≤ n) = true := decide_eq_true h1
      by_cases h2 : n ≤ most
      · have d2 : decide (n ≤ most) = true := decide_eq_true h2
        rw [decide_eq_true ⟨h1, h2⟩] at HI
        go_enter Tryz.func111, Tryz.ntmps111
        go_wp2_with fail
        refine (HH.out _).mono ?_
        rintro e w1 ⟨rfl, rfl⟩
        go_wp2
        go_ret
        exact ⟨by rw [HI.out]; rfl, rfl⟩
      · have d2 : decide (n ≤ most) = false := decide_eq_false h2
        rw [decide_eq_false (fun h => h2 h.2)] at HI
        have h2' : most < n := by omega
        clear h2
        go_enter Tryz.func111, Tryz.ntmps111
        go_wp2_with fail
        refine (HH.out _).mono ?_
        rintro e w1 ⟨rfl, rfl⟩
        go_wp2
        go_ret
        exact ⟨by rw [HI.out]; rfl, rfl⟩
    · have d1 : decide (least ≤ n) = false := decide_eq_false h1
      rw [decide_eq_false (fun h => h1 h.1)] at HI
      have h1' : n < least := by omega
      clear h1
      go_enter Tryz.func111, Tryz.ntmps111
      go_wp2_with fail
      refine (HH.out _).mono ?_
      rintro e w1 ⟨rfl, rfl⟩
      go_wp2
      go_ret
      exact ⟨by rw [HI.out]; rfl, rfl⟩
theorem longB_def (l : List (List UInt8)) (most each : Int) : longB l most each = (l.any (fun s => decide (each < (s.length : Int))) || decide (most < (l.length : Int))) := by
  unfold longB; rfl
theorem short_long (l : List (List UInt8)) : longB l 16 200 = !(shortB l && decide (l.length ≤ 16)) := by
  rw [longB_def, shortB, Bool.not_and]
  congr 1
  · rw [List.not_all_eq_any_not]
    congr 1
    funext s
    by_cases h : s.length ≤ 200
    · rw [decide_eq_true h, decide_eq_false (by omega)]; rfl
    · rw [decide_eq_false h, decide_eq_true (by omega)]; rfl
  · by_cases h : l.length ≤ 16
    · rw [decide_eq_true h, decide_eq_false (by omega)]; rfl
    · rw [decide_eq_false h, decide_eq_true (by omega)]; rfl
/-- The document's order of the same. -/
theorem chkR_doc (x : Rc) : chkR x = (decide (1 ≤ x.k) && decide (x.k ≤ 4) && decide (1 ≤ x.j) && decide (x.j ≤ 72057594037927935) && !longB x.ns 16 200 && inS (hasR x.k 1) 0 15 x.t && inS (hasR x.k 2) 0 63 x.w && inS (hasR x.k 3) 0 7 x.s && inS (hasR x.k 4) 1 9 x.e && inS (hasR x.k 5) 1 16 (x.ns.length : Int)) := by
  have h5 : inS (hasR x.k 5) 1 16 (x.ns.length : Int) = true → x.ns.length ≤ 16 := by
    intro h
    unfold inS at h
    split at h
    · simp only [decide_eq_true_eq] at h; omega
    · simp only [beq_iff_eq] at h; omega
  rw [short_long, Bool.not_not]
  unfold chkR isK
  rw [show decide (1 ≤ x.k ∧ x.k ≤ 4) = (decide (1 ≤ x.k) && decide (x.k ≤ 4)) by simp]
  generalize inS (hasR x.k 5) 1 16 (x.ns.length : Int) = b5 at *
  generalize decide (1 ≤ x.k) = a1
  generalize decide (x.k ≤ 4) = a2
  generalize decide (1 ≤ x.j) = a3
  generalize decide (x.j ≤ 72057594037927935) = a4
  generalize shortB x.ns = a5
  generalize inS (hasR x.k 1) 0 15 x.t = b1
  generalize inS (hasR x.k 2) 0 63 x.w = b2
  generalize inS (hasR x.k 3) 0 7 x.s = b3
  generalize inS (hasR x.k 4) 1 9 x.e = b4
  cases b5
  · simp
  · rw [decide_eq_true (h5 rfl)]
    cases a1 <;> cases a2 <;> cases a3 <;> cases a4 <;> cases a5 <;> cases b1 <;> cases b2 <;> cases b3 <;> cases b4 <;> rfl

set_option maxRecDepth 20000 in
set_option maxHeartbeats 4000000 in
theorem r17check_any (x : Rc) (A : Option Addr) (c : Nat) (W : World) (hx : TxAt W A c x.ns) : Calls Tryz.prog 83 #[.agg (rcc x A c)] W fun e w' => e = .returned (.bool (chkR x)) ∧ Below W.heap.size W w' := by
  have HI := hid (chkR_doc x)
  obtain ⟨k, j, t, w, s, e, ns⟩ := x
  have hll := hx.len
  have H1 : Hid (∀ w', Calls Tryz.prog 111 #[.int .i64 k, .int .i64 1, .int .i64 t, .int .i64 0, .int .i64 15] w' fun z w'' => z = .returned (.bool (inS (hasR k 1) 0 15 t)) ∧ w' = w'') := hid (fun w' => rin_any k 1 (by omega) t 0 15 w')
  have H2 : Hid (∀ w', Calls Tryz.prog 111 #[.int .i64 k, .int .i64 2, .int .i64 w, .int .i64 0, .int .i64 63] w' fun z w'' => z = .returned (.bool (inS (hasR k 2) 0 63 w)) ∧ w' = w'') := hid (fun w' => rin_any k 2 (by omega) w 0 63 w')
  have H3 : Hid (∀ w', Calls Tryz.prog 111 #[.int .i64 k, .int .i64 3, .int .i64 s, .int .i64 0, .int .i64 7] w' fun z w'' => z = .returned (.bool (inS (hasR k 3) 0 7 s)) ∧ w' = w'') := hid (fun w' => rin_any k 3 (by omega) s 0 7 w')
  have H4 : Hid (∀ w', Calls Tryz.prog 111 #[.int .i64 k, .int .i64 4, .int .i64 e, .int .i64 1, .int .i64 9] w' fun z w'' => z = .returned (.bool (inS (hasR k 4) 1 9 e)) ∧ w' = w'') := hid (fun w' => rin_any k 4 (by omega) e 1 9 w')
  have H5 : Hid (∀ w', Calls Tryz.prog 111 #[.int .i64 k, .int .i64 5, .int .i64 (ns.length : Int), .int .i64 1, .int .i64 16] w' fun z w'' => z = .returned (.bool (inS (hasR k 5) 1 16 (ns.length : Int))) ∧ w' = w'') := hid (fun w' => rin_any k 5 (by omega) (ns.length : Int) 1 16 w')
  have hbe : Below W.heap.size W (W.alloc (.cells (rcc ⟨k, j, t, w, s, e, ns⟩ A c) 107)) := (Below.refl _ _).alloc (Nat.le_refl _) _
  have HBE := hid hbe
  have HS := hid (long_any A ns.length c ns 16 200 _ (hx.below hbe).1 hx.2)
  simp only [rcc] at HS HBE hbe hll HI ⊢
  clear hx hbe
  generalize inS (hasR k 1) 0 15 t = b1 at *
  generalize inS (hasR k 2) 0 63 w = b2 at *
  generalize inS (hasR k 3) 0 7 s = b3 at *
  generalize inS (hasR k 4) 1 9 e = b4 at *
  generalize inS (hasR k 5) 1 16 (ns.length : Int) = b5 at *
  generalize longB ns 16 200 = b6 at *
  generalize chkR ⟨k, j, t, w, s, e, ns⟩ = r at *
  by_cases h1 : 1 ≤ k
  case neg =>
    have d1 : decide (1 ≤ k) = false := decide_eq_false h1
    have d1' : k < 1 := by omega
    have HV : Hid (r = false) := hid (by rw [HI.out]; first | (rw [d1]; rfl) | (rw [d1, d2]; rfl) | (rw [d1, d2, d3]; rfl) | (rw [d1, d2, d3, d4]; rfl) | (rw [d1, d2, d3, d4]; simp))
    clear HI
    go_enter Tryz.func83, Tryz.ntmps83
    go_wp2_with (first
      | (go_at_call 20; refine HS.out.mono ?_; rintro x w' ⟨rfl, rfl⟩)
      | (go_at_call 111; with_reducible refine (H1.out _).mono ?_; rintro x w' ⟨rfl, rfl⟩)
      | (go_at_call 111; with_reducible refine (H2.out _).mono ?_; rintro x w' ⟨rfl, rfl⟩)
      | (go_at_call 111; with_reducible refine (H3.out _).mono ?_; rintro x w' ⟨rfl, rfl⟩)
      | (go_at_call 111; with_reducible refine (H4.out _).mono ?_; rintro x w' ⟨rfl, rfl⟩)
      | (go_at_call 111; with_reducible refine (H5.out _).mono ?_; rintro x w' ⟨rfl, rfl⟩))
    go_ret
    exact ⟨by rw [HV.out]; rfl, HBE.out⟩
  have d1 : decide (1 ≤ k) = true := decide_eq_true h1
  by_cases h2 : k ≤ 4
  case neg =>
    have d2 : decide (k ≤ 4) = false := decide_eq_false h2
    have d2' : 4 < k := by omega
    have HV : Hid (r = false) := hid (by rw [HI.out]; first | (rw [d1]; rfl) | (rw [d1, d2]; rfl) | (rw [d1, d2, d3]; rfl) | (rw [d1, d2, d3, d4]; rfl) | (rw [d1, d2, d3, d4]; simp))
    clear HI
    go_enter Tryz.func83, Tryz.ntmps83
    go_wp2_with (first
      | (go_at_call 20; refine HS.out.mono ?_; rintro x w' ⟨rfl, rfl⟩)
      | (go_at_call 111; with_reducible refine (H1.out _).mono ?_; rintro x w' ⟨rfl, rfl⟩)
      | (go_at_call 111; with_reducible refine (H2.out _).mono ?_; rintro x w' ⟨rfl, rfl⟩)
      | (go_at_call 111; with_reducible refine (H3.out _).mono ?_; rintro x w' ⟨rfl, rfl⟩)
      | (go_at_call 111; with_reducible refine (H4.out _).mono ?_; rintro x w' ⟨rfl, rfl⟩)
      | (go_at_call 111; with_reducible refine (H5.out _).mono ?_; rintro x w' ⟨rfl, rfl⟩))
    go_ret
    exact ⟨by rw [HV.out]; rfl, HBE.out⟩
  have d2 : decide (k ≤ 4) = true := decide_eq_true h2
  by_cases h3 : 1 ≤ j
  case neg =>
    have d3 : decide (1 ≤ j) = false := decide_eq_false h3
    have d3' : j < 1 := by omega
    have HV : Hid (r = false) := hid (by rw [HI.out]; first | (rw [d1]; rfl) | (rw [d1, d2]; rfl) | (rw [d1, d2, d3]; rfl) | (rw [d1, d2, d3, d4]; rfl) | (rw [d1, d2, d3, d4]; simp))
    clear HI
    go_enter Tryz.func83, Tryz.ntmps83
    go_wp2_with (first
      | (go_at_call 20; refine HS.out.mono ?_; rintro x w' ⟨rfl, rfl⟩)
      | (go_at_call 111; with_reducible refine (H1.out _).mono ?_; rintro x w' ⟨rfl, rfl⟩)
      | (go_at_call 111; with_reducible refine (H2.out _).mono ?_; rintro x w' ⟨rfl, rfl⟩)
      | (go_at_call 111; with_reducible refine (H3.out _).mono ?_; rintro x w' ⟨rfl, rfl⟩)
      | (go_at_call 111; with_reducible refine (H4.out _).mono ?_; rintro x w' ⟨rfl, rfl⟩)
      | (go_at_call 111; with_reducible refine (H5.out _).mono ?_; rintro x w' ⟨rfl, rfl⟩))
    go_ret
    exact ⟨by rw [HV.out]; rfl, HBE.out⟩
  have d3 : decide (1 ≤ j) = true := decide_eq_true h3
  by_cases h4 : j ≤ 72057594037927935
  case neg =>
    have d4 : decide (j ≤ 72057594037927935) = false := decide_eq_false h4
    have d4' : 72057594037927935 < j := by omega
    have HV : Hid (r = false) := hid (by rw [HI.out]; first | (rw [d1]; rfl) | (rw [d1, d2]; rfl) | (rw [d1, d2, d3]; rfl) | (rw [d1, d2, d3, d4]; rfl) | (rw [d1, d2, d3, d4]; simp))
    clear HI
    go_enter Tryz.func83, Tryz.ntmps83
    go_wp2_with (first
      | (go_at_call 20; refine HS.out.mono ?_; rintro x w' ⟨rfl, rfl⟩)
      | (go_at_call 111; with_reducible refine (H1.out _).mono ?_; rintro x w' ⟨rfl, rfl⟩)
      | (go_at_call 111; with_reducible refine (H2.out _).mono ?_; rintro x w' ⟨rfl, rfl⟩)
      | (go_at_call 111; with_reducible refine (H3.out _).mono ?_; rintro x w' ⟨rfl, rfl⟩)
      | (go_at_call 111; with_reducible refine (H4.out _).mono ?_; rintro x w' ⟨rfl, rfl⟩)
      | (go_at_call 111; with_reducible refine (H5.out _).mono ?_; rintro x w' ⟨rfl, rfl⟩))
    go_ret
    exact ⟨by rw [HV.out]; rfl, HBE.out⟩
  have d4 : decide (j ≤ 72057594037927935) = true := decide_eq_true h4
  cases b6
  case true =>
    have HV : Hid (r = false) := hid (by rw [HI.out]; first | (rw [d1]; rfl) | (rw [d1, d2]; rfl) | (rw [d1, d2, d3]; rfl) | (rw [d1, d2, d3, d4]; rfl) | (rw [d1, d2, d3, d4]; simp))
    clear HI
    go_enter Tryz.func83, Tryz.ntmps83
    go_wp2_with (first
      | (go_at_call 20; refine HS.out.mono ?_; rintro x w' ⟨rfl, rfl⟩)
      | (go_at_call 111; with_reducible refine (H1.out _).mono ?_; rintro x w' ⟨rfl, rfl⟩)
      | (go_at_call 111; with_reducible refine (H2.out _).mono ?_; rintro x w' ⟨rfl, rfl⟩)
      | (go_at_call 111; with_reducible refine (H3.out _).mono ?_; rintro x w' ⟨rfl, rfl⟩)
      | (go_at_call 111; with_reducible refine (H4.out _).mono ?_; rintro x w' ⟨rfl, rfl⟩)
      | (go_at_call 111; with_reducible refine (H5.out _).mono ?_; rintro x w' ⟨rfl, rfl⟩))
    go_ret
    exact ⟨by rw [HV.out]; rfl, HBE.out⟩
  cases b1
  case false =>
    have HV : Hid (r = false) := hid (by rw [HI.out]; first | (rw [d1]; rfl) | (rw [d1, d2]; rfl) | (rw [d1, d2, d3]; rfl) | (rw [d1, d2, d3, d4]; rfl) | (rw [d1, d2, d3, d4]; simp))
    clear HI
    go_enter Tryz.func83, Tryz.ntmps83
    go_wp2_with (first
      | (go_at_call 20; refine HS.out.mono ?_; rintro x w' ⟨rfl, rfl⟩)
      | (go_at_call 111; with_reducible refine (H1.out _).mono ?_; rintro x w' ⟨rfl, rfl⟩)
      | (go_at_call 111; with_reducible refine (H2.out _).mono ?_; rintro x w' ⟨rfl, rfl⟩)
      | (go_at_call 111; with_reducible refine (H3.out _).mono ?_; rintro x w' ⟨rfl, rfl⟩)
      | (go_at_call 111; with_reducible refine (H4.out _).mono ?_; rintro x w' ⟨rfl, rfl⟩)
      | (go_at_call 111; with_reducible refine (H5.out _).mono ?_; rintro x w' ⟨rfl, rfl⟩))
    go_ret
    exact ⟨by rw [HV.out]; rfl, HBE.out⟩
  cases b2
  case false =>
    have HV : Hid (r = false) := hid (by rw [HI.out]; first | (rw [d1]; rfl) | (rw [d1, d2]; rfl) | (rw [d1, d2, d3]; rfl) | (rw [d1, d2, d3, d4]; rfl) | (rw [d1, d2, d3, d4]; simp))
    clear HI
    go_enter Tryz.func83, Tryz.ntmps83
    go_wp2_with (first
      | (go_at_call 20; refine HS.out.mono ?_; rintro x w' ⟨rfl, rfl⟩)
      | (go_at_call 111; with_reducible refine (H1.out _).mono ?_; rintro x w' ⟨rfl, rfl⟩)
      | (go_at_call 111; with_reducible refine (H2.out _).mono ?_; rintro x w' ⟨rfl, rfl⟩)
      | (go_at_call 111; with_reducible refine (H3.out _).mono ?_; rintro x w' ⟨rfl, rfl⟩)
      | (go_at_call 111; with_reducible refine (H4.out _).mono ?_; rintro x w' ⟨rfl, rfl⟩)
      | (go_at_call 111; with_reducible refine (H5.out _).mono ?_; rintro x w' ⟨rfl, rfl⟩))
    go_ret
    exact ⟨by rw [HV.out]; rfl, HBE.out⟩
  cases b3
  case false =>
    have HV : Hid (r = false) := hid (by rw [HI.out]; first | (rw [d1]; rfl) | (rw [d1, d2]; rfl) | (rw [d1, d2, d3]; rfl) | (rw [d1, d2, d3, d4]; rfl) | (rw [d1, d2, d3, d4]; simp))
    clear HI
    go_enter Tryz.func83, Tryz.ntmps83
    go_wp2_with (first
      | (go_at_call 20; refine HS.out.mono ?_; rintro x w' ⟨rfl, rfl⟩)
      | (go_at_call 111; with_reducible refine (H1.out _).mono ?_; rintro x w' ⟨rfl, rfl⟩)
      | (go_at_call 111; with_reducible refine (H2.out _).mono ?_; rintro x w' ⟨rfl, rfl⟩)
      | (go_at_call 111; with_reducible refine (H3.out _).mono ?_; rintro x w' ⟨rfl, rfl⟩)
      | (go_at_call 111; with_reducible refine (H4.out _).mono ?_; rintro x w' ⟨rfl, rfl⟩)
      | (go_at_call 111; with_reducible refine (H5.out _).mono ?_; rintro x w' ⟨rfl, rfl⟩))
    go_ret
    exact ⟨by rw [HV.out]; rfl, HBE.out⟩
  cases b4
  case false =>
    have HV : Hid (r = false) := hid (by rw [HI.out]; first | (rw [d1]; rfl) | (rw [d1, d2]; rfl) | (rw [d1, d2, d3]; rfl) | (rw [d1, d2, d3, d4]; rfl) | (rw [d1, d2, d3, d4]; simp))
    clear HI
    go_enter Tryz.func83, Tryz.ntmps83
    go_wp2_with (first
      | (go_at_call 20; refine HS.out.mono ?_; rintro x w' ⟨rfl, rfl⟩)
      | (go_at_call 111; with_reducible refine (H1.out _).mono ?_; rintro x w' ⟨rfl, rfl⟩)
      | (go_at_call 111; with_reducible refine (H2.out _).mono ?_; rintro x w' ⟨rfl, rfl⟩)
      | (go_at_call 111; with_reducible refine (H3.out _).mono ?_; rintro x w' ⟨rfl, rfl⟩)
      | (go_at_call 111; with_reducible refine (H4.out _).mono ?_; rintro x w' ⟨rfl, rfl⟩)
      | (go_at_call 111; with_reducible refine (H5.out _).mono ?_; rintro x w' ⟨rfl, rfl⟩))
    go_ret
    exact ⟨by rw [HV.out]; rfl, HBE.out⟩
  cases b5
  case false =>
    have HV : Hid (r = false) := hid (by rw [HI.out]; first | (rw [d1]; rfl) | (rw [d1, d2]; rfl) | (rw [d1, d2, d3]; rfl) | (rw [d1, d2, d3, d4]; rfl) | (rw [d1, d2, d3, d4]; simp))
    clear HI
    go_enter Tryz.func83, Tryz.ntmps83
    go_wp2_with (first
      | (go_at_call 20; refine HS.out.mono ?_; rintro x w' ⟨rfl, rfl⟩)
      | (go_at_call 111; with_reducible refine (H1.out _).mono ?_; rintro x w' ⟨rfl, rfl⟩)
      | (go_at_call 111; with_reducible refine (H2.out _).mono ?_; rintro x w' ⟨rfl, rfl⟩)
      | (go_at_call 111; with_reducible refine (H3.out _).mono ?_; rintro x w' ⟨rfl, rfl⟩)
      | (go_at_call 111; with_reducible refine (H4.out _).mono ?_; rintro x w' ⟨rfl, rfl⟩)
      | (go_at_call 111; with_reducible refine (H5.out _).mono ?_; rintro x w' ⟨rfl, rfl⟩))
    go_ret
    exact ⟨by rw [HV.out]; rfl, HBE.out⟩
  have HV : Hid (r = true) := hid (by rw [HI.out]; first | (rw [d1]; rfl) | (rw [d1, d2]; rfl) | (rw [d1, d2, d3]; rfl) | (rw [d1, d2, d3, d4]; rfl) | (rw [d1, d2, d3, d4]; simp))
  clear HI
  go_enter Tryz.func83, Tryz.ntmps83
  go_wp2_with (first
    | (go_at_call 20; refine HS.out.mono ?_; rintro x w' ⟨rfl, rfl⟩)
    | (go_at_call 111; with_reducible refine (H1.out _).mono ?_; rintro x w' ⟨rfl, rfl⟩)
    | (go_at_call 111; with_reducible refine (H2.out _).mono ?_; rintro x w' ⟨rfl, rfl⟩)
    | (go_at_call 111; with_reducible refine (H3.out _).mono ?_; rintro x w' ⟨rfl, rfl⟩)
    | (go_at_call 111; with_reducible refine (H4.out _).mono ?_; rintro x w' ⟨rfl, rfl⟩)
    | (go_at_call 111; with_reducible refine (H5.out _).mono ?_; rintro x w' ⟨rfl, rfl⟩))
  go_ret
  exact ⟨by rw [HV.out]; rfl, HBE.out⟩
end Go.Proofs.YtgakobolhmdnnaaGreat

namespace Go.Proofs.YtgakobolhmdnnaaGreat
open Go.RowKit Go.Sort
set_option linter.unusedVariables false
set_option linter.unusedSimpArgs false

/-- The five fields. -/
def flds (x : Rc) : List (Bool × Int) := [(hasR x.k 1, x.t), (hasR x.k 2, x.w), (hasR x.k 3, x.s), (hasR x.k 4, x.e), (hasR x.k 5, (x.ns.length : Int))]
def fb (l : List (Bool × Int)) : List UInt8 := (l.map fun p => pt p.1 p.2).flatten
theorem fb_snoc (l : List (Bool × Int)) (p : Bool × Int) : fb (l ++ [p]) = fb l ++ pt p.1 p.2 := by simp [fb]
theorem headB_fb (x : Rc) : headB x = numB (cl x.k) ++ numB (cl x.j) ++ fb (flds x) := by
  unfold headB fb flds
  simp
theorem fb_len (l : List (Bool × Int)) : (fb l).length ≤ 8 * l.length := by
  induction l with
  | nil => simp [fb]
  | cons p l ih =>
    have e : fb (p :: l) = pt p.1 p.2 ++ fb l := by simp [fb]
    have := pt_len p.1 p.2
    rw [e, List.length_append, List.length_cons]; omega

set_option maxRecDepth 20000 in
set_option maxHeartbeats 4000000 in
theorem r17bytes_any (x : Rc) (A : Option Addr) (c : Nat) (W : World) (hx : TxAt W A c x.ns) : Calls Tryz.prog 85 #[.agg (rcc x A c)] W fun e w' => e = .returned (.string (str (if chkR x then rb x else []))) ∧ Below W.heap.size W w' := by
  have HC := hid (fun w (hw : Below W.heap.size W w) => r17check_any x A c w (hx.below hw))
  have HX := hid hx
  have hll := hx.len
  have hb0 : Below W.heap.size W (W.alloc (.cells (rcc x A c) 107)) := (Below.refl _ _).alloc (Nat.le_refl _) _
  have h0 : (W.alloc (.cells (rcc x A c) 107)).heap[W.heap.size]? = some (.cells (rcc x A c) 107 (0, 0)) := heap_alloc_new _ _
  clear hx
  by_cases hc : chkR x = true
  case neg =>
    rw [Bool.not_eq_true] at hc
    rw [hc] at HC
    have HV : Hid (str (if chkR x then rb x else []) = ⟨#[]⟩) := hid (by rw [hc]; rfl)
    rw [HV.out]
    clear hc HV
    obtain ⟨k, j, t, w, s, e, ns⟩ := x
    simp only [rcc] at *
    go_enter Tryz.func85, Tryz.ntmps85
    go_upto_region 1 with (fail)
    refine at_world (fun u => u.heap[W.heap.size]? = some (.cells #[.int .i64 k, .int .i64 j, .int .i64 t, .int .i64 w, .int .i64 s, .int .i64 e, .slice A ns.length c] 107 (0, 0)) ∧ Below W.heap.size W u) ⟨h0, hb0⟩ ?_
    clear h0 hb0
    rintro w1 ⟨hm1, hB1⟩
    obtain ⟨p0, p1, p2, p3, p4, p5, p6⟩ := seven_cells hm1
    have HB1 := hid hB1
    clear hm1 hB1
    go_wp2_with fail
    refine (HC.out _ HB1.out).mono ?_
    rintro x w2 ⟨rfl, hb2⟩
    have HB2 := hid (HB1.out.trans (hb2.mono HB1.out.size))
    clear hb2 HB1 p0 p1 p2 p3 p4 p5 p6
    go_wp2
    go_ret
    exact ⟨rfl, HB2.out⟩
  have HNS := hid (chkR_ns hc)
  have HV : Hid (str (if chkR x then rb x else []) = str (numB (cl x.k) ++ numB (cl x.j) ++ fb (flds x) ++ txs x.ns)) := hid (by rw [hc, ← headB_fb]; rfl)
  rw [HV.out]
  rw [hc] at HC
  clear hc HV
  have l0 := (numB_length _ (cl_le x.k)).2
  have l1 := (numB_length _ (cl_le x.j)).2
  have HFL := hid (show (flds x).length = 5 from rfl)
  have HFE : Hid (∀ i (h : i < 5), (flds x)[i]'(by rw [HFL.out]; exact h) = (hasR x.k (i + 1), ([x.t, x.w, x.s, x.e, (x.ns.length : Int)] : List Int)[i]'(by simpa using h))) := hid (fun i h => by
    rcases (by omega : i = 0 ∨ i = 1 ∨ i = 2 ∨ i = 3 ∨ i = 4) with rfl | rfl | rfl | rfl | rfl
    all_goals rfl)
  have HH := hid (fun f hf w => r17has_any x.k f hf w)
  have HK := hid (fun w => rnum_any x.k w)
  have HJ := hid (fun w => rnum_any x.j w)
  generalize flds x = fl at *
  obtain ⟨k, j, t, w, s, e, ns⟩ := x
  simp only [rcc] at *
  generalize numB (cl k) = q0 at *
  generalize numB (cl j) = q1 at *
  go_enter Tryz.func85, Tryz.ntmps85
  go_upto_region 1 with (fail)
  refine at_world (fun u => u.heap[W.heap.size]? = some (.cells #[.int .i64 k, .int .i64 j, .int .i64 t, .int .i64 w, .int .i64 s, .int .i64 e, .slice A ns.length c] 107 (0, 0)) ∧ Below W.heap.size W u) ⟨h0, hb0⟩ ?_
  clear h0 hb0
  rintro w1 ⟨hm1, hB1⟩
  obtain ⟨p0, p1, p2, p3, p4, p5, p6⟩ := seven_cells hm1
  have HM1 := hid hm1
  have HB1 := hid hB1
  clear hm1 hB1
  go_wp2_with fail
  refine (HC.out _ HB1.out).mono ?_
  rintro x w2 ⟨rfl, hb2⟩
  have HM2 := hid (keep0 HM1.out hb2)
  have HB2 := hid (HB1.out.trans (hb2.mono HB1.out.size))
  clear hb2 HM1 HB1 HC p0 p1 p2 p3 p4 p5 p6
  obtain ⟨p0, p1, p2, p3, p4, p5, p6⟩ := seven_cells HM2.out
  go_upto_region 4 with (fail)
  have hbA : Below w2.heap.size w2 (w2.alloc (.cells #[.int .i64 t, .int .i64 w, .int .i64 s, .int .i64 e, .int .i64 (ns.length : Int)] 3)) := (Below.refl _ _).alloc (Nat.le_refl _) _
  refine at_world (fun u => u.heap[W.heap.size]? = some (.cells #[.int .i64 k, .int .i64 j, .int .i64 t, .int .i64 w, .int .i64 s, .int .i64 e, .slice A ns.length c] 107 (0, 0)) ∧ u.heap[w2.heap.size]? = some (.cells #[.int .i64 t, .int .i64 w, .int .i64 s, .int .i64 e, .int .i64 (ns.length : Int)] 3 (0, 0)) ∧ Below W.heap.size W u) ⟨keep0 HM2.out hbA, heap_alloc_new _ _, HB2.out.trans (hbA.mono HB2.out.size)⟩ ?_
  clear hbA HM2 HB2 p0 p1 p2 p3 p4 p5 p6
  rintro w3 ⟨hm3, hn3, hB3⟩
  obtain ⟨p0, p1, p2, p3, p4, p5, p6⟩ := seven_cells hm3
  have HM3 := hid hm3
  have HN3 := hid hn3
  have HB3 := hid hB3
  clear hm3 hn3 hB3
  generalize w2.heap.size = N at *
  have hz0 : (str q0).size + (str q1).size ≤ 9223372036854775807 := by rw [str_size, str_size]; omega
  replace p0 := cell_regrown p0
  replace p1 := cell_regrown p1
  have ck := reg (w := w3) (fun W' _ => HK.out W')
  have cj := reg (w := w3) (fun W' _ => HJ.out W')
  refine wp_region_quiet_below (by kernel_rfl) (by kernel_rfl) ?_
  repeat (go_big_quiet_step (first | (go_at_call 59; with_reducible exact ck _ _) | (go_at_call 59; with_reducible exact cj _ _)))
  refine wpQuiet_nil ?_
  intro _ hw'
  obtain ⟨⟨dq, osq⟩, hw''⟩ := hw'
  subst hw''
  have hbR := below_regrown w3 dq osq
  refine at_world (fun u => u.heap[W.heap.size]? = some (.cells #[.int .i64 k, .int .i64 j, .int .i64 t, .int .i64 w, .int .i64 s, .int .i64 e, .slice A ns.length c] 107 (0, 0)) ∧ u.heap[N]? = some (.cells #[.int .i64 t, .int .i64 w, .int .i64 s, .int .i64 e, .int .i64 (ns.length : Int)] 3 (0, 0)) ∧ Below W.heap.size W u) ⟨keep0 HM3.out hbR, keep0 HN3.out hbR, HB3.out.trans (hbR.mono HB3.out.size)⟩ ?_
  clear hbR HM3 HN3 HB3 p0 p1 p2 p3 p4 p5 p6 ck cj hz0
  rintro w4 ⟨hm4, hn4, hB4⟩
  have HM4 := hid hm4
  have HN4 := hid hn4
  have HB4 := hid hB4
  clear hm4 hn4 hB4
  have HQ : Hid ((q0 ++ q1).length ≤ 16) := hid (by rw [List.length_append]; omega)
  obtain ⟨qq, hqq⟩ : ∃ qq, qq = q0 ++ q1 := ⟨_, rfl⟩
  have HQQ := hid hqq
  rw [← hqq] at HQ
  clear hqq
  rw [str_app, ← HQQ.out]
  have HFB : Hid (∀ n, (fb (fl.take n)).length ≤ 40) := hid (fun n => by
    have h1 := fb_len (fl.take n)
    have h2 : (fl.take n).length ≤ 5 := by rw [List.length_take, HFL.out]; omega
    omega)
  clear l0 l1
  go_wp2_with fail
  go_loopw [4, 5] (fun v i wr => ∃ n : Nat, n ≤ 5 ∧ i = .int .i64 (n : Int) ∧ v = .string (str (qq ++ fb (fl.take n))) ∧ Hid (wr.heap[W.heap.size]? = some (.cells #[.int .i64 k, .int .i64 j, .int .i64 t, .int .i64 w, .int .i64 s, .int .i64 e, .slice A ns.length c] 107 (0, 0))) ∧ Hid (wr.heap[N]? = some (.cells #[.int .i64 t, .int .i64 w, .int .i64 s, .int .i64 e, .int .i64 (ns.length : Int)] 3 (0, 0))) ∧ Hid (Below W.heap.size W wr)) (fun _ i _ => 5 - (intOf i).toNat)
  case atStart => exact ⟨0, by omega, rfl, by simp [fb], HM4.out, HN4.out, HB4.out⟩
  case round =>
    obtain ⟨n, hn, rfl, rfl, HM, HN, HB⟩ := hrel
    by_cases hlt : n < 5
    · have hlt2 : (n : Int) < 5 := by omega
      obtain ⟨p0, p1, p2, p3, p4, p5, p6⟩ := seven_cells HM.out
      have hfe := HFE.out n hlt
      have hts := fb_snoc (fl.take n) (fl[n]'(by rw [HFL.out]; exact hlt))
      rw [← List.take_succ_eq_append_getElem (by rw [HFL.out]; exact hlt), hfe] at hts
      have hcn : wr.cell? ⟨N, n, none⟩ = some (.int .i64 (([t, w, s, e, (ns.length : Int)] : List Int)[n]'(by simpa using hlt))) := by
        rw [cell_of_row wr N n _ _ (0, 0) HN.out]
        rcases (by omega : n = 0 ∨ n = 1 ∨ n = 2 ∨ n = 3 ∨ n = 4) with rfl | rfl | rfl | rfl | rfl
        all_goals rfl
      generalize ([t, w, s, e, (ns.length : Int)] : List Int)[n]'(by simpa using hlt) = val at *
      have hhn := HH.out (n + 1) (by omega)
      rw [show (((n + 1 : Nat)) : Int) = (n : Int) + 1 by omega] at hhn
      simp only at hts
      have hbl := HFB.out n
      have hpl := pt_len (hasR k (n + 1)) val
      have HTS := hid hts
      have HHN := hid hhn
      have HVN := hid (fun w => rnum_any val w)
      have HPT : Hid (pt true val = numB (cl val)) := hid rfl
      clear hfe hts hhn
      generalize fb (fl.take n) = cur at *
      generalize hasR k (n + 1) = hb at *
      have HW5 : n + 1 ≤ 5 := by omega
      cases hb
      case false =>
        have HT2 : Hid (fb (fl.take (n + 1)) = cur) := hid (by rw [HTS.out]; simp [pt])
        go_wp2_with (go_at_call 114; refine (HHN.out _).mono ?_; rintro x w' ⟨rfl, rfl⟩)
        go_roundw
        case rel => exact ⟨n + 1, by omega, by go_num, by rw [HT2.out], HM.out, HN.out, HB.out⟩
        case measure => simp [intOf]; omega
      case true =>
        rw [HPT.out] at hpl
        rw [Hid, HPT.out] at HTS
        have HTS := hid HTS
        generalize numB (cl val) = nb' at *
        have z1 : (str (qq ++ cur)).size + (str nb').size ≤ 9223372036854775807 := by
          rw [str_size, str_size, List.length_append]
          have := HQ.out
          omega
        go_wp2_with (go_at_call 114; refine (HHN.out _).mono ?_; rintro x w' ⟨rfl, rfl⟩)
        refine (HVN.out _).mono ?_
        rintro x w5 ⟨rfl, hb5⟩
        have HM5 := hid (keep0 HM.out hb5)
        have HN5 := hid (keep0 HN.out hb5)
        have HB5 := hid (HB.out.trans (hb5.mono HB.out.size))
        clear hb5 HM HN HB hcn p0 p1 p2 p3 p4 p5 p6
        go_wp2
        go_roundw
        case rel => exact ⟨n + 1, by omega, by go_num, by rw [HTS.out, str_app, List.append_assoc], HM5.out, HN5.out, HB5.out⟩
        case measure => simp [intOf]; omega
    · obtain rfl : n = 5 := by omega
      have hge : ¬ ((5 : Nat) : Int) < 5 := by omega
      have HTK : Hid (fl.take 5 = fl) := hid (List.take_of_length_le (by rw [HFL.out]; exact Nat.le_refl _))
      have HHD : Hid ((qq ++ fb fl).length ≤ 56) := hid (by
        have h9 := HFB.out 5
        rw [HTK.out] at h9
        have := HQ.out
        rw [List.length_append]
        omega)
      rw [HTK.out]
      clear hlt hn
      obtain ⟨hd, hhd⟩ : ∃ hd, hd = qq ++ fb fl := ⟨_, rfl⟩
      have HDD := hid hhd
      rw [← hhd] at HHD ⊢
      clear hhd
      go_wp2_with fail
      go_loopw [4, 6] (fun v i wr => ∃ n : Nat, n ≤ ns.length ∧ i = .int .i64 (n : Int) ∧ v = .string (str (hd ++ txs (ns.take n))) ∧ Hid (wr.heap[W.heap.size]? = some (.cells #[.int .i64 k, .int .i64 j, .int .i64 t, .int .i64 w, .int .i64 s, .int .i64 e, .slice A ns.length c] 107 (0, 0))) ∧ Hid (Below W.heap.size W wr)) (fun _ i _ => ns.length - (intOf i).toNat)
      case atStart => exact ⟨0, by omega, rfl, by simp [txs], HM.out, HB.out⟩
      case round =>
        clear HM HN HB
        obtain ⟨n, hn, rfl, rfl, HM, HB⟩ := hrel
        obtain ⟨p0, p1, p2, p3, p4, p5, p6⟩ := seven_cells HM.out
        by_cases hlt : n < ns.length
        · have hlt2 : (n : Int) < (ns.length : Int) := by omega
          obtain ⟨b', off, rfl, hcc⟩ := Sl.at (HX.out.below HB.out).1 n (by rw [scells_length]; exact hlt)
          have e1 : (scells ns)[n]'(by rw [scells_length]; exact hlt) = .string (str (ns[n]'hlt)) := by simp [scells]
          rw [e1] at hcc
          have hsl := HNS.out.2 ns[n] (List.getElem_mem hlt)
          have htl := txs_len (ns.take n) (fun s hs => HNS.out.2 s (List.mem_of_mem_take hs))
          rw [List.length_take, Nat.min_eq_left hn] at htl
          have hn16 := HNS.out.1
          have HTS : Hid (hd ++ txs (ns.take (n + 1)) = (hd ++ txs (ns.take n)) ++ tx ns[n]) := hid (by rw [List.take_succ_eq_append_getElem hlt, txs_snoc, List.append_assoc])
          have HLN : (hd ++ txs (ns.take n)).length ≤ 100000 := by rw [List.length_append]; have := HHD.out; omega
          generalize ns[n]'hlt = sx at *
          generalize hd ++ txs (ns.take n) = cur at *
          have HT : Hid (∀ w, Calls Tryz.prog 113 #[.string (str sx)] w fun e w' => e = .returned (.string (str (tx sx))) ∧ Below w.heap.size w w') := hid (fun w => by
            have h9 := rtext_any (str sx) w (by rw [str_size]; omega)
            rw [str_size, str_app] at h9
            exact h9)
          have hxl := tx_len sx hsl
          have z1 : (str cur).size + (str (tx sx)).size ≤ 9223372036854775807 := by rw [str_size, str_size]; omega
          generalize tx sx = ts at *
          clear e1
          go_wp2_with fail
          refine (HT.out _).mono ?_
          rintro x w5 ⟨rfl, hb5⟩
          have HM5 := hid (keep0 HM.out hb5)
          have HB5 := hid (HB.out.trans (hb5.mono HB.out.size))
          clear hb5 HT HM HB hcc p0 p1 p2 p3 p4 p5 p6
          go_wp2
          go_roundw
          case rel => exact ⟨n + 1, by omega, by go_num, by rw [HTS.out, str_app], HM5.out, HB5.out⟩
          case measure => simp [intOf]; omega
        · obtain rfl : n = ns.length := by omega
          have hge : ¬ ((ns.length : Nat) : Int) < ((ns.length : Nat) : Int) := by omega
          have HT := hid (List.take_length (l := ns))
          rw [HT.out]
          clear hlt hn
          go_wp2
          go_ret
          have HEQ : Hid (str (hd ++ txs ns) = str (q0 ++ (q1 ++ (fb fl ++ txs ns)))) := hid (by rw [HDD.out, HQQ.out]; simp only [List.append_assoc])
          exact ⟨by rw [← HEQ.out]; rfl, HB.out⟩
end Go.Proofs.YtgakobolhmdnnaaGreat

namespace Go.Proofs.YtgakobolhmdnnaaGreat
open Go.RowKit Go.Sort
set_option linter.unusedVariables false
set_option linter.unusedSimpArgs false

set_option maxRecDepth 20000 in
set_option maxHeartbeats 4000000 in
theorem r17size_any (x : Rc) (A : Option Addr) (c : Nat) (W : World) (hx : TxAt W A c x.ns) : Calls Tryz.prog 58 #[.agg (rcc x A c)] W fun e w' => e = .returned (.int .i64 (sizeR x : Nat)) ∧ RowKit.Below W.heap.size W w' := by
  have HC := hid (fun w (hw : RowKit.Below W.heap.size W w) => r17check_any x A c w (hx.below hw))
  have HY := hid (fun w (hw : RowKit.Below W.heap.size W w) => r17bytes_any x A c w (hx.below hw))
  have hll := hx.len
  have hb0 : RowKit.Below W.heap.size W (W.alloc (.cells (rcc x A c) 107)) := (Below.refl _ _).alloc (Nat.le_refl _) _
  have h0 : (W.alloc (.cells (rcc x A c) 107)).heap[W.heap.size]? = some (.cells (rcc x A c) 107 (0, 0)) := heap_alloc_new _ _
  clear hx
  by_cases hc : chkR x = true
  case neg =>
    rw [Bool.not_eq_true] at hc
    simp only [hc] at HC
    have HV : Hid (sizeR x = 0) := hid (by unfold sizeR; rw [hc]; rfl)
    rw [HV.out]
    clear hc HV HY
    obtain ⟨k, j, t, w, s, e, ns⟩ := x
    simp only [rcc] at *
    go_enter Tryz.func58, Tryz.ntmps58
    go_upto_region 1 with (fail)
    refine at_world (fun u => u.heap[W.heap.size]? = some (.cells #[.int .i64 k, .int .i64 j, .int .i64 t, .int .i64 w, .int .i64 s, .int .i64 e, .slice A ns.length c] 107 (0, 0)) ∧ RowKit.Below W.heap.size W u) ⟨h0, hb0⟩ ?_
    clear h0 hb0
    rintro w1 ⟨hm1, hB1⟩
    obtain ⟨p0, p1, p2, p3, p4, p5, p6⟩ := seven_cells hm1
    have HB1 := hid hB1
    clear hm1 hB1
    go_wp2_with fail
    refine (HC.out _ HB1.out).mono ?_
    rintro x w2 ⟨rfl, hb2⟩
    have HB2 := hid (HB1.out.trans (hb2.mono HB1.out.size))
    clear hb2 HB1 p0 p1 p2 p3 p4 p5 p6
    go_wp2
    go_ret
    exact ⟨rfl, HB2.out⟩
  have HV : Hid (sizeR x = (frP (rb x)).length) := hid (by unfold sizeR; rw [hc]; rfl)
  rw [HV.out]
  simp only [hc, if_true] at HC HY
  have hrl := rb_len x hc
  clear hc HV
  have HFP : Hid (∀ w, Calls Tryz.prog 84 #[.string (str (rb x))] w fun e w' => e = .returned (.string (str (frP (rb x)))) ∧ RowKit.Below w.heap.size w w') := hid (fun w => rput_any (str (rb x)) w (by rw [str_size]; omega))
  have hfl : (frP (rb x)).length ≤ 100000 := by
    have := (numB_length (rb x).length (by omega)).2
    rw [frP_len _ (by omega)]
    omega
  have HFL := hid (str_size (frP (rb x)))
  generalize frP (rb x) = fr at *
  generalize rb x = bs at *
  obtain ⟨k, j, t, w, s, e, ns⟩ := x
  simp only [rcc] at *
  go_enter Tryz.func58, Tryz.ntmps58
  go_upto_region 1 with (fail)
  refine at_world (fun u => u.heap[W.heap.size]? = some (.cells #[.int .i64 k, .int .i64 j, .int .i64 t, .int .i64 w, .int .i64 s, .int .i64 e, .slice A ns.length c] 107 (0, 0)) ∧ RowKit.Below W.heap.size W u) ⟨h0, hb0⟩ ?_
  clear h0 hb0
  rintro w1 ⟨hm1, hB1⟩
  obtain ⟨p0, p1, p2, p3, p4, p5, p6⟩ := seven_cells hm1
  have HM1 := hid hm1
  have HB1 := hid hB1
  clear hm1 hB1
  go_wp2_with fail
  refine (HC.out _ HB1.out).mono ?_
  rintro x w2 ⟨rfl, hb2⟩
  have HM2 := hid (keep0 HM1.out hb2)
  have HB2 := hid (HB1.out.trans (hb2.mono HB1.out.size))
  clear hb2 HB1 HM1 p0 p1 p2 p3 p4 p5 p6 HC
  obtain ⟨p0, p1, p2, p3, p4, p5, p6⟩ := seven_cells HM2.out
  go_wp2_with fail
  refine (HY.out _ HB2.out).mono ?_
  rintro x w3 ⟨rfl, hb3⟩
  have HB3 := hid (HB2.out.trans (hb3.mono HB2.out.size))
  clear hb3 HB2 HM2 HY p0 p1 p2 p3 p4 p5 p6
  go_wp2_with fail
  refine (HFP.out _).mono ?_
  rintro x w4 ⟨rfl, hb4⟩
  have HB4 := hid (HB3.out.trans (hb4.mono HB3.out.size))
  clear hb4 HB3
  have hs9 : (str fr).size ≤ 9223372036854775807 := by rw [HFL.out]; omega
  go_wp2
  go_ret
  exact ⟨by rw [← HFL.out]; rfl, HB4.out⟩

theorem chk_bind (j : Int) (h1 : 1 ≤ j) (h2 : j ≤ 72057594037927935) : chkR ⟨2, j, 0, 0, 0, 1, []⟩ = true ∧ chkR ⟨3, j, 0, 0, 0, 0, []⟩ = true ∧ chkR ⟨4, j, 0, 0, 0, 1, []⟩ = true := by
  unfold chkR
  simp only [decide_eq_true h1, decide_eq_true h2]
  decide +kernel
theorem size_bind (j : Int) (h1 : 1 ≤ j) (h2 : j ≤ 72057594037927935) : sizeR ⟨2, j, 0, 0, 0, 1, []⟩ = (numB (cl j)).length + 9 ∧ sizeR ⟨3, j, 0, 0, 0, 0, []⟩ = (numB (cl j)).length + 7 ∧ sizeR ⟨4, j, 0, 0, 0, 1, []⟩ = (numB (cl j)).length + 8 := by
  obtain ⟨c1, c2, c3⟩ := chk_bind j h1 h2
  have l1 := numB_length _ (cl_le j)
  have f : ∀ x : Rc, chkR x = true → x.k ≠ 1 → x.j = j → (numB (cl x.k)).length = 1 → sizeR x = 6 + (numB (cl j)).length + ((if hasR x.k 1 then 1 else 0) + (if hasR x.k 2 then 1 else 0) + (if hasR x.k 3 then 1 else 0) + (if hasR x.k 4 then 1 else 0)) := fun x hc hk hj hkl => by
    have e := rb_len_k x hc hk
    rw [hj, hkl] at e
    have hsm : (rb x).length < 248 := by
      rw [e]
      split <;> split <;> split <;> split <;> omega
    unfold sizeR
    rw [if_pos hc, frP_len _ (by omega), numB_one _ hsm, e]
    omega
  refine ⟨?_, ?_, ?_⟩
  · rw [f _ c1 (by show (2 : Int) ≠ 1; decide) rfl (by show (numB (cl 2)).length = 1; decide +kernel)]
    simp [hasR]; omega
  · rw [f _ c2 (by show (3 : Int) ≠ 1; decide) rfl (by show (numB (cl 3)).length = 1; decide +kernel)]
    simp [hasR]; omega
  · rw [f _ c3 (by show (4 : Int) ≠ 1; decide) rfl (by show (numB (cl 4)).length = 1; decide +kernel)]
    simp [hasR]; omega
/-- How many bytes a job needs at most. -/
def mostR (j s : Int) (ns : List (List UInt8)) : Nat :=
  if sizeR ⟨1, j, 0, 0, s, 0, ns⟩ = 0 then 0 else sizeR ⟨1, j, 0, 0, s, 0, ns⟩ + ns.length * ((numB (cl j)).length + 9 + (numB (cl j)).length + 7) + 8 * ((numB (cl j)).length + 8)
theorem size_le (x : Rc) : sizeR x ≤ 4000 := by
  unfold sizeR
  split
  · rename_i h
    have h1 := rb_len x h
    have h2 := (numB_length (rb x).length (by omega)).2
    rw [frP_len _ (by omega)]
    omega
  · omega
theorem size_chk {x : Rc} (h : ¬ sizeR x = 0) : chkR x = true := by
  rcases Bool.eq_false_or_eq_true (chkR x) with h1 | h1
  · exact h1
  · exact absurd (by unfold sizeR; rw [h1]; rfl) h

set_option maxRecDepth 20000 in
set_option maxHeartbeats 4000000 in
theorem recmost_any (j s : Int) (ns : List (List UInt8)) (A : Option Addr) (c : Nat) (W : World) (hx : TxAt W A c ns) : Calls Tryz.prog 39 #[.int .i64 j, .int .i64 s, .slice A ns.length c] W fun e w' => e = .returned (.int .i64 (mostR j s ns : Nat)) ∧ RowKit.Below W.heap.size W w' := by
  have HA := hid (recsize_any ⟨1, j, 0, 0, s, 0, ns⟩ A c W hx)
  have hll := hx.len
  simp only [rcc] at HA
  by_cases h0 : sizeR ⟨1, j, 0, 0, s, 0, ns⟩ = 0
  · have HV : Hid (mostR j s ns = 0) := hid (if_pos h0)
    rw [h0] at HA
    rw [HV.out]
    clear h0 HV hx
    go_enter Tryz.func39, Tryz.ntmps39
    go_wp2_with fail
    refine HA.out.mono ?_
    rintro e w1 ⟨rfl, hb1⟩
    have HB1 := hid hb1
    clear hb1
    go_wp2
    go_ret
    exact ⟨rfl, HB1.out⟩
  · have HV : Hid (mostR j s ns = sizeR ⟨1, j, 0, 0, s, 0, ns⟩ + ns.length * ((numB (cl j)).length + 9 + (numB (cl j)).length + 7) + 8 * ((numB (cl j)).length + 8)) := hid (if_neg h0)
    have hc := size_chk h0
    have hns := (chkR_ns hc).1
    obtain ⟨_, hj1, hj2, _⟩ := chkR_parts hc
    obtain ⟨e1, e2, e3⟩ := size_bind j hj1 hj2
    have hnil : ∀ w, TxAt w none 0 [] := fun w => ⟨Sl.nil _ _ _ _ (Nat.zero_le _), by simp⟩
    have H2 : Hid (∀ w, Calls Tryz.prog 57 #[.agg #[.int .i64 2, .int .i64 j, .int .i64 0, .int .i64 0, .int .i64 0, .int .i64 1, .slice none 0 0]] w fun e w' => e = .returned (.int .i64 (((numB (cl j)).length + 9 : Nat) : Int)) ∧ RowKit.Below w.heap.size w w') := hid (fun w => by have h9 := recsize_any ⟨2, j, 0, 0, 0, 1, []⟩ none 0 w (hnil w); rw [e1] at h9; exact h9)
    have H3 : Hid (∀ w, Calls Tryz.prog 57 #[.agg #[.int .i64 3, .int .i64 j, .int .i64 0, .int .i64 0, .int .i64 0, .int .i64 0, .slice none 0 0]] w fun e w' => e = .returned (.int .i64 (((numB (cl j)).length + 7 : Nat) : Int)) ∧ RowKit.Below w.heap.size w w') := hid (fun w => by have h9 := recsize_any ⟨3, j, 0, 0, 0, 0, []⟩ none 0 w (hnil w); rw [e2] at h9; exact h9)
    have H4 : Hid (∀ w, Calls Tryz.prog 57 #[.agg #[.int .i64 4, .int .i64 j, .int .i64 0, .int .i64 0, .int .i64 0, .int .i64 1, .slice none 0 0]] w fun e w' => e = .returned (.int .i64 (((numB (cl j)).length + 8 : Nat) : Int)) ∧ RowKit.Below w.heap.size w w') := hid (fun w => by have h9 := recsize_any ⟨4, j, 0, 0, 0, 1, []⟩ none 0 w (hnil w); rw [e3] at h9; exact h9)
    have hle := size_le ⟨1, j, 0, 0, s, 0, ns⟩
    have hql := (numB_length _ (cl_le j)).2
    rw [HV.out]
    clear hc hj1 hj2 e1 e2 e3 hnil hx HV
    generalize sizeR ⟨1, j, 0, 0, s, 0, ns⟩ = a at *
    generalize (numB (cl j)).length = q at *
    generalize hN : ns.length = n at *
    clear hN
    have ha : ¬ ((a : Nat) : Int) = 0 := by omega
    have ha2 : (((a : Nat) : Int) == 0) = false := by simpa using ha
    have hp : (n : Int) * (((q + 9 : Nat) : Int) + ((q + 7 : Nat) : Int)) = ((n * (q + 9 + q + 7) : Nat) : Int) := by
      rw [show q + 9 + q + 7 = (q + 9) + (q + 7) by omega]
      push_cast
      rfl
    have hpb : n * (q + 9 + q + 7) ≤ 16 * 32 := Nat.mul_le_mul hns (by omega)
    have HP := hid hp
    generalize hP : n * (q + 9 + q + 7) = P at *
    clear hP
    go_enter Tryz.func39, Tryz.ntmps39
    go_wp2_with fail
    refine HA.out.mono ?_
    rintro e w1 ⟨rfl, hb1⟩
    have HB1 := hid hb1
    clear hb1
    go_wp2_with fail
    refine (H2.out _).mono ?_
    rintro e w2 ⟨rfl, hb2⟩
    have HB2 := hid (HB1.out.trans (hb2.mono HB1.out.size))
    clear hb2 HB1
    go_wp2_with fail
    refine (H3.out _).mono ?_
    rintro e w3 ⟨rfl, hb3⟩
    have HB3 := hid (HB2.out.trans (hb3.mono HB2.out.size))
    clear hb3 HB2
    go_wp2_with fail
    refine (H4.out _).mono ?_
    rintro e w4 ⟨rfl, hb4⟩
    have HB4 := hid (HB3.out.trans (hb4.mono HB3.out.size))
    clear hb4 HB3
    have hmul : (n : Int) * ((q : Int) + 9 + ((q : Int) + 7)) = (P : Int) := by
      rw [← HP.out]
      push_cast
      rfl
    have hval : wrap64 (wrap64 ((a : Int) + wrap64 ((n : Int) * ((q : Int) + 9 + ((q : Int) + 7)))) + 8 * ((q : Int) + 8)) = ((a + P + 8 * (q + 8) : Nat) : Int) := by
      rw [hmul]
      unfold wrap64
      omega
    have HVAL := hid hval
    clear hval hmul hp
    go_wp2
    go_ret
    exact ⟨by rw [← HVAL.out]; rfl, HB4.out⟩

set_option maxRecDepth 20000 in
set_option maxHeartbeats 4000000 in
theorem r17most_any (j s : Int) (ns : List (List UInt8)) (A : Option Addr) (c : Nat) (W : World) (hx : TxAt W A c ns) : Calls Tryz.prog 42 #[.int .i64 j, .int .i64 s, .slice A ns.length c] W fun e w' => e = .returned (.int .i64 (mostR j s ns : Nat)) ∧ RowKit.Below W.heap.size W w' := by
  have HA := hid (r17size_any ⟨1, j, 0, 0, s, 0, ns⟩ A c W hx)
  have hll := hx.len
  simp only [rcc] at HA
  by_cases h0 : sizeR ⟨1, j, 0, 0, s, 0, ns⟩ = 0
  · have HV : Hid (mostR j s ns = 0) := hid (if_pos h0)
    rw [h0] at HA
    rw [HV.out]
    clear h0 HV hx
    go_enter Tryz.func42, Tryz.ntmps42
    go_wp2_with fail
    refine HA.out.mono ?_
    rintro e w1 ⟨rfl, hb1⟩
    have HB1 := hid hb1
    clear hb1
    go_wp2
    go_ret
    exact ⟨rfl, HB1.out⟩
  · have HV : Hid (mostR j s ns = sizeR ⟨1, j, 0, 0, s, 0, ns⟩ + ns.length * ((numB (cl j)).length + 9 + (numB (cl j)).length + 7) + 8 * ((numB (cl j)).length + 8)) := hid (if_neg h0)
    have hc := size_chk h0
    have hns := (chkR_ns hc).1
    have hle := size_le ⟨1, j, 0, 0, s, 0, ns⟩
    have hql := (numB_length _ (cl_le j)).2
    have HJ := hid (fun w => rnum_any j w)
    have hqz : (str (numB (cl j))).size = (numB (cl j)).length := str_size _
    rw [HV.out]
    clear hc hx HV
    generalize sizeR ⟨1, j, 0, 0, s, 0, ns⟩ = a at *
    generalize str (numB (cl j)) = sq at *
    generalize (numB (cl j)).length = q at *
    generalize hN : ns.length = n at *
    clear hN
    subst hqz
    have ha : ¬ ((a : Nat) : Int) = 0 := by omega
    have ha2 : (((a : Nat) : Int) == 0) = false := by simpa using ha
    have hpb : n * (sq.size + 9 + sq.size + 7) ≤ 16 * 32 := Nat.mul_le_mul hns (by omega)
    have hmul : (n : Int) * ((sq.size : Int) + 9 + (sq.size : Int) + 7) = ((n * (sq.size + 9 + sq.size + 7) : Nat) : Int) := by
      push_cast
      rfl
    have hval : wrap64 (wrap64 ((a : Int) + wrap64 ((n : Int) * ((sq.size : Int) + 9 + (sq.size : Int) + 7))) + 8 * ((sq.size : Int) + 8)) = ((a + n * (sq.size + 9 + sq.size + 7) + 8 * (sq.size + 8) : Nat) : Int) := by
      rw [hmul]
      unfold wrap64
      omega
    have HVAL := hid hval
    clear hval hmul
    go_enter Tryz.func42, Tryz.ntmps42
    go_wp2_with fail
    refine HA.out.mono ?_
    rintro e w1 ⟨rfl, hb1⟩
    have HB1 := hid hb1
    clear hb1
    go_wp2_with fail
    refine (HJ.out _).mono ?_
    rintro e w2 ⟨rfl, hb2⟩
    have HB2 := hid (HB1.out.trans (hb2.mono HB1.out.size))
    clear hb2 HB1
    go_wp2
    go_ret
    exact ⟨by rw [← HVAL.out]; rfl, HB2.out⟩
end Go.Proofs.YtgakobolhmdnnaaGreat
