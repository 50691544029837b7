/- rec.Check: contract. -/
import Derived.Test.YtkepfkfoblocgaaRecC
namespace Go.Proofs.Ytkepfkfoblocgaa
open Go.RowKit
set_option linter.unusedVariables false
set_option linter.unusedSimpArgs false

/-- A record's texts lie where its slice says. -/
def TxAt (w : World) (A : Option Addr) (c : Nat) (l : List (List UInt8)) : Prop := Sl w 1 A l.length c (scells l) ∧ ∀ s ∈ l, s.length ≤ maxLen
theorem TxAt.below {w w' : World} {A : Option Addr} {c : Nat} {l : List (List UInt8)} (h : TxAt w A c l) (hb : Below w.heap.size w w') : TxAt w' A c l := ⟨h.1.below hb, h.2⟩
theorem TxAt.len {w : World} {A : Option Addr} {c : Nat} {l : List (List UInt8)} (h : TxAt w A c l) : l.length ≤ 9223372036854775807 := by
  have h1 := h.1.2.1
  have h2 := h.1.2.2.1
  unfold maxLen at h2
  omega

set_option maxRecDepth 20000 in
set_option maxHeartbeats 4000000 in
theorem rcheck_any (x : Rc) (A : Option Addr) (c : Nat) (W : World) (hx : TxAt W A c x.ns) : Calls Try.prog 28 #[.agg (rcc x A c)] W fun e w' => e = .returned (.bool (chkR x)) ∧ Below W.heap.size W w' := by
  obtain ⟨k, j, t, w, s, e, ns⟩ := x
  have hll := hx.len
  have HF := hid (fun w => rfields_any k w)
  obtain ⟨hb1, hb2, hb3, hb4, hb5⟩ := fldR_has k
  have H1 := hid (fun w' => rfits_any _ t 0 15 _ hb1 w')
  have H2 := hid (fun w' => rfits_any _ w 0 63 _ hb2 w')
  have H3 := hid (fun w' => rfits_any _ s 0 7 _ hb3 w')
  have H4 := hid (fun w' => rfits_any _ e 1 9 _ hb4 w')
  have H5 := hid (fun w' => rfits_any _ (ns.length : Int) 1 16 _ hb5 w')
  have HI : Hid (chkR ⟨k, j, t, w, s, e, ns⟩ = (isK k && decide (1 ≤ j) && decide (j ≤ 72057594037927935) && inS (hasR k 1) 0 15 t && inS (hasR k 2) 0 63 w && inS (hasR k 3) 0 7 s && inS (hasR k 4) 1 9 e && inS (hasR k 5) 1 16 (ns.length : Int) && shortB ns)) := hid rfl
  have hbe : Below W.heap.size W (W.alloc (.cells (rcc ⟨k, j, t, w, s, e, ns⟩ A c) 45)) := (Below.refl _ _).alloc (Nat.le_refl _) _
  have HBE := hid hbe
  have HS := hid (rshort_any A c ns _ (hx.below hbe).1 hx.2)
  simp only [rcc] at HS HBE hbe hll ⊢
  clear hb1 hb2 hb3 hb4 hb5 hx hbe
  generalize inS (hasR k 1) 0 15 t = b1 at *
  generalize inS (hasR k 2) 0 63 w = b2 at *
  generalize inS (hasR k 3) 0 7 s = b3 at *
  generalize inS (hasR k 4) 1 9 e = b4 at *
  generalize inS (hasR k 5) 1 16 (ns.length : Int) = b5 at *
  generalize shortB ns = b6 at *
  generalize isK k = bk at *
  generalize fldR k = f at *
  generalize chkR ⟨k, j, t, w, s, e, ns⟩ = r at *
  cases bk
  case false =>
    have HV : Hid (r = false) := hid (by rw [HI.out]; first | rfl | (rw [d1]; rfl) | (rw [d1, d2]; rfl))
    clear HI
    go_enter Try.func28, Try.ntmps28
    go_wp2_with (first
      | (go_at_call 84; refine (HF.out _).mono ?_; rintro x w' ⟨rfl, rfl⟩)
      | (go_at_call 86; refine HS.out.mono ?_; rintro x w' ⟨rfl, rfl⟩)
      | (go_at_call 85; with_reducible refine (H1.out _).mono ?_; rintro x w' ⟨rfl, rfl⟩)
      | (go_at_call 85; with_reducible refine (H2.out _).mono ?_; rintro x w' ⟨rfl, rfl⟩)
      | (go_at_call 85; with_reducible refine (H3.out _).mono ?_; rintro x w' ⟨rfl, rfl⟩)
      | (go_at_call 85; with_reducible refine (H4.out _).mono ?_; rintro x w' ⟨rfl, rfl⟩)
      | (go_at_call 85; with_reducible refine (H5.out _).mono ?_; rintro x w' ⟨rfl, rfl⟩))
    go_ret
    exact ⟨by rw [HV.out]; rfl, HBE.out⟩
  by_cases h1 : 1 ≤ j
  case neg =>
    have d1 : decide (1 ≤ j) = false := decide_eq_false h1
    have d1' : j < 1 := by omega
    have HV : Hid (r = false) := hid (by rw [HI.out]; first | rfl | (rw [d1]; rfl) | (rw [d1, d2]; rfl))
    clear HI
    go_enter Try.func28, Try.ntmps28
    go_wp2_with (first
      | (go_at_call 84; refine (HF.out _).mono ?_; rintro x w' ⟨rfl, rfl⟩)
      | (go_at_call 86; refine HS.out.mono ?_; rintro x w' ⟨rfl, rfl⟩)
      | (go_at_call 85; with_reducible refine (H1.out _).mono ?_; rintro x w' ⟨rfl, rfl⟩)
      | (go_at_call 85; with_reducible refine (H2.out _).mono ?_; rintro x w' ⟨rfl, rfl⟩)
      | (go_at_call 85; with_reducible refine (H3.out _).mono ?_; rintro x w' ⟨rfl, rfl⟩)
      | (go_at_call 85; with_reducible refine (H4.out _).mono ?_; rintro x w' ⟨rfl, rfl⟩)
      | (go_at_call 85; with_reducible refine (H5.out _).mono ?_; rintro x w' ⟨rfl, rfl⟩))
    go_ret
    exact ⟨by rw [HV.out]; rfl, HBE.out⟩
  have d1 : decide (1 ≤ j) = true := decide_eq_true h1
  by_cases h2 : j ≤ 72057594037927935
  case neg =>
    have d2 : decide (j ≤ 72057594037927935) = false := decide_eq_false h2
    have d2' : 72057594037927935 < j := by omega
    have HV : Hid (r = false) := hid (by rw [HI.out]; first | rfl | (rw [d1]; rfl) | (rw [d1, d2]; rfl))
    clear HI
    go_enter Try.func28, Try.ntmps28
    go_wp2_with (first
      | (go_at_call 84; refine (HF.out _).mono ?_; rintro x w' ⟨rfl, rfl⟩)
      | (go_at_call 86; refine HS.out.mono ?_; rintro x w' ⟨rfl, rfl⟩)
      | (go_at_call 85; with_reducible refine (H1.out _).mono ?_; rintro x w' ⟨rfl, rfl⟩)
      | (go_at_call 85; with_reducible refine (H2.out _).mono ?_; rintro x w' ⟨rfl, rfl⟩)
      | (go_at_call 85; with_reducible refine (H3.out _).mono ?_; rintro x w' ⟨rfl, rfl⟩)
      | (go_at_call 85; with_reducible refine (H4.out _).mono ?_; rintro x w' ⟨rfl, rfl⟩)
      | (go_at_call 85; with_reducible refine (H5.out _).mono ?_; rintro x w' ⟨rfl, rfl⟩))
    go_ret
    exact ⟨by rw [HV.out]; rfl, HBE.out⟩
  have d2 : decide (j ≤ 72057594037927935) = true := decide_eq_true h2
  cases b1
  case false =>
    have HV : Hid (r = false) := hid (by rw [HI.out]; first | rfl | (rw [d1]; rfl) | (rw [d1, d2]; rfl))
    clear HI
    go_enter Try.func28, Try.ntmps28
    go_wp2_with (first
      | (go_at_call 84; refine (HF.out _).mono ?_; rintro x w' ⟨rfl, rfl⟩)
      | (go_at_call 86; refine HS.out.mono ?_; rintro x w' ⟨rfl, rfl⟩)
      | (go_at_call 85; with_reducible refine (H1.out _).mono ?_; rintro x w' ⟨rfl, rfl⟩)
      | (go_at_call 85; with_reducible refine (H2.out _).mono ?_; rintro x w' ⟨rfl, rfl⟩)
      | (go_at_call 85; with_reducible refine (H3.out _).mono ?_; rintro x w' ⟨rfl, rfl⟩)
      | (go_at_call 85; with_reducible refine (H4.out _).mono ?_; rintro x w' ⟨rfl, rfl⟩)
      | (go_at_call 85; with_reducible refine (H5.out _).mono ?_; rintro x w' ⟨rfl, rfl⟩))
    go_ret
    exact ⟨by rw [HV.out]; rfl, HBE.out⟩
  cases b2
  case false =>
    have HV : Hid (r = false) := hid (by rw [HI.out]; first | rfl | (rw [d1]; rfl) | (rw [d1, d2]; rfl))
    clear HI
    go_enter Try.func28, Try.ntmps28
    go_wp2_with (first
      | (go_at_call 84; refine (HF.out _).mono ?_; rintro x w' ⟨rfl, rfl⟩)
      | (go_at_call 86; refine HS.out.mono ?_; rintro x w' ⟨rfl, rfl⟩)
      | (go_at_call 85; with_reducible refine (H1.out _).mono ?_; rintro x w' ⟨rfl, rfl⟩)
      | (go_at_call 85; with_reducible refine (H2.out _).mono ?_; rintro x w' ⟨rfl, rfl⟩)
      | (go_at_call 85; with_reducible refine (H3.out _).mono ?_; rintro x w' ⟨rfl, rfl⟩)
      | (go_at_call 85; with_reducible refine (H4.out _).mono ?_; rintro x w' ⟨rfl, rfl⟩)
      | (go_at_call 85; with_reducible refine (H5.out _).mono ?_; rintro x w' ⟨rfl, rfl⟩))
    go_ret
    exact ⟨by rw [HV.out]; rfl, HBE.out⟩
  cases b3
  case false =>
    have HV : Hid (r = false) := hid (by rw [HI.out]; first | rfl | (rw [d1]; rfl) | (rw [d1, d2]; rfl))
    clear HI
    go_enter Try.func28, Try.ntmps28
    go_wp2_with (first
      | (go_at_call 84; refine (HF.out _).mono ?_; rintro x w' ⟨rfl, rfl⟩)
      | (go_at_call 86; refine HS.out.mono ?_; rintro x w' ⟨rfl, rfl⟩)
      | (go_at_call 85; with_reducible refine (H1.out _).mono ?_; rintro x w' ⟨rfl, rfl⟩)
      | (go_at_call 85; with_reducible refine (H2.out _).mono ?_; rintro x w' ⟨rfl, rfl⟩)
      | (go_at_call 85; with_reducible refine (H3.out _).mono ?_; rintro x w' ⟨rfl, rfl⟩)
      | (go_at_call 85; with_reducible refine (H4.out _).mono ?_; rintro x w' ⟨rfl, rfl⟩)
      | (go_at_call 85; with_reducible refine (H5.out _).mono ?_; rintro x w' ⟨rfl, rfl⟩))
    go_ret
    exact ⟨by rw [HV.out]; rfl, HBE.out⟩
  cases b4
  case false =>
    have HV : Hid (r = false) := hid (by rw [HI.out]; first | rfl | (rw [d1]; rfl) | (rw [d1, d2]; rfl))
    clear HI
    go_enter Try.func28, Try.ntmps28
    go_wp2_with (first
      | (go_at_call 84; refine (HF.out _).mono ?_; rintro x w' ⟨rfl, rfl⟩)
      | (go_at_call 86; refine HS.out.mono ?_; rintro x w' ⟨rfl, rfl⟩)
      | (go_at_call 85; with_reducible refine (H1.out _).mono ?_; rintro x w' ⟨rfl, rfl⟩)
      | (go_at_call 85; with_reducible refine (H2.out _).mono ?_; rintro x w' ⟨rfl, rfl⟩)
      | (go_at_call 85; with_reducible refine (H3.out _).mono ?_; rintro x w' ⟨rfl, rfl⟩)
      | (go_at_call 85; with_reducible refine (H4.out _).mono ?_; rintro x w' ⟨rfl, rfl⟩)
      | (go_at_call 85; with_reducible refine (H5.out _).mono ?_; rintro x w' ⟨rfl, rfl⟩))
    go_ret
    exact ⟨by rw [HV.out]; rfl, HBE.out⟩
  cases b5
  case false =>
    have HV : Hid (r = false) := hid (by rw [HI.out]; first | rfl | (rw [d1]; rfl) | (rw [d1, d2]; rfl))
    clear HI
    go_enter Try.func28, Try.ntmps28
    go_wp2_with (first
      | (go_at_call 84; refine (HF.out _).mono ?_; rintro x w' ⟨rfl, rfl⟩)
      | (go_at_call 86; refine HS.out.mono ?_; rintro x w' ⟨rfl, rfl⟩)
      | (go_at_call 85; with_reducible refine (H1.out _).mono ?_; rintro x w' ⟨rfl, rfl⟩)
      | (go_at_call 85; with_reducible refine (H2.out _).mono ?_; rintro x w' ⟨rfl, rfl⟩)
      | (go_at_call 85; with_reducible refine (H3.out _).mono ?_; rintro x w' ⟨rfl, rfl⟩)
      | (go_at_call 85; with_reducible refine (H4.out _).mono ?_; rintro x w' ⟨rfl, rfl⟩)
      | (go_at_call 85; with_reducible refine (H5.out _).mono ?_; rintro x w' ⟨rfl, rfl⟩))
    go_ret
    exact ⟨by rw [HV.out]; rfl, HBE.out⟩
  cases b6
  case false =>
    have HV : Hid (r = false) := hid (by rw [HI.out]; first | rfl | (rw [d1]; rfl) | (rw [d1, d2]; rfl))
    clear HI
    go_enter Try.func28, Try.ntmps28
    go_wp2_with (first
      | (go_at_call 84; refine (HF.out _).mono ?_; rintro x w' ⟨rfl, rfl⟩)
      | (go_at_call 86; refine HS.out.mono ?_; rintro x w' ⟨rfl, rfl⟩)
      | (go_at_call 85; with_reducible refine (H1.out _).mono ?_; rintro x w' ⟨rfl, rfl⟩)
      | (go_at_call 85; with_reducible refine (H2.out _).mono ?_; rintro x w' ⟨rfl, rfl⟩)
      | (go_at_call 85; with_reducible refine (H3.out _).mono ?_; rintro x w' ⟨rfl, rfl⟩)
      | (go_at_call 85; with_reducible refine (H4.out _).mono ?_; rintro x w' ⟨rfl, rfl⟩)
      | (go_at_call 85; with_reducible refine (H5.out _).mono ?_; rintro x w' ⟨rfl, rfl⟩))
    go_ret
    exact ⟨by rw [HV.out]; rfl, HBE.out⟩
  have HV : Hid (r = true) := hid (by rw [HI.out]; first | rfl | (rw [d1]; rfl) | (rw [d1, d2]; rfl))
  clear HI
  go_enter Try.func28, Try.ntmps28
  go_wp2_with (first
    | (go_at_call 84; refine (HF.out _).mono ?_; rintro x w' ⟨rfl, rfl⟩)
    | (go_at_call 86; refine HS.out.mono ?_; rintro x w' ⟨rfl, rfl⟩)
    | (go_at_call 85; with_reducible refine (H1.out _).mono ?_; rintro x w' ⟨rfl, rfl⟩)
    | (go_at_call 85; with_reducible refine (H2.out _).mono ?_; rintro x w' ⟨rfl, rfl⟩)
    | (go_at_call 85; with_reducible refine (H3.out _).mono ?_; rintro x w' ⟨rfl, rfl⟩)
    | (go_at_call 85; with_reducible refine (H4.out _).mono ?_; rintro x w' ⟨rfl, rfl⟩)
    | (go_at_call 85; with_reducible refine (H5.out _).mono ?_; rintro x w' ⟨rfl, rfl⟩))
  go_ret
  exact ⟨by rw [HV.out]; rfl, HBE.out⟩
end Go.Proofs.Ytkepfkfoblocgaa
