/- The document's Has, In, Check of a record: contracts. -/
import Derived.Test.YtkepfkfoblocgaaGreatRcP
namespace Go.Proofs.YtkepfkfoblocgaaGreat
open Go.RowKit
set_option linter.unusedVariables false
set_option linter.unusedSimpArgs false

theorem rhas_any (k : Int) (f : Nat) (hf : f = 1 ∨ f = 2 ∨ f = 3 ∨ f = 4 ∨ f = 5) (w : World) : Calls Tryz.prog 81 #[.int .i64 k, .int .i64 (f : Nat)] w fun e w' => e = .returned (.bool (hasR k f)) ∧ w = w' := by
  rcases hf with rfl | rfl | rfl | rfl | rfl
  all_goals
    rcases kinds k with rfl | rfl | rfl | rfl | h
    case inr.inr.inr.inr =>
      have HF := hid (hasR_out h)
      have q1 : (k == 1) = false := by simp; omega
      have q2 : (k == 2) = false := by simp; omega
      have q3 : (k == 3) = false := by simp; omega
      have q4 : (k == 4) = false := by simp; omega
      clear h
      go_enter Tryz.func81, Tryz.ntmps81
      go_wp2
      go_ret
      exact ⟨by rw [HF.out]; rfl, rfl⟩
    all_goals
      go_enter Tryz.func81, Tryz.ntmps81
      go_wp2
      go_ret
      exact ⟨rfl, rfl⟩
theorem rin_any (k : Int) (f : Nat) (hf : f = 1 ∨ f = 2 ∨ f = 3 ∨ f = 4 ∨ f = 5) (n least most : Int) (w : World) : Calls Tryz.prog 78 #[.int .i64 k, .int .i64 (f : Nat), .int .i64 n, .int .i64 least, .int .i64 most] w fun e w' => e = .returned (.bool (inS (hasR k f) least most n)) ∧ w = w' := by
  have HH := hid (fun w => rhas_any k f hf w)
  generalize hasR k f = hb at *
  clear hf
  cases hb with
  | false =>
    go_enter Tryz.func78, Tryz.ntmps78
    go_wp2_with fail
    refine (HH.out _).mono ?_
    rintro e w1 ⟨rfl, rfl⟩
    go_wp2
    go_ret
    exact ⟨rfl, rfl⟩
  | true =>
    have HI : Hid (inS true least most n = decide (least ≤ n ∧ n ≤ most)) := hid rfl
    by_cases h1 : least ≤ n
    · have d1 : decide (least ≤ n) = true := decide_eq_true h1
      by_cases h2 : n ≤ most
      · have d2 : decide (n ≤ most) = true := decide_eq_true h2
        rw [decide_eq_true ⟨h1, h2⟩] at HI
        go_enter Tryz.func78, Tryz.ntmps78
        go_wp2_with fail
        refine (HH.out _).mono ?_
        rintro e w1 ⟨rfl, rfl⟩
        go_wp2
        go_ret
        exact ⟨by rw [HI.out]; rfl, rfl⟩
      · have d2 : decide (n ≤ most) = false := decide_eq_false h2
        rw [decide_eq_false (fun h => h2 h.2)] at HI
        have h2' : most < n := by omega
        clear h2
        go_enter Tryz.func78, Tryz.ntmps78
        go_wp2_with fail
        refine (HH.out _).mono ?_
        rintro e w1 ⟨rfl, rfl⟩
        go_wp2
        go_ret
        exact ⟨by rw [HI.out]; rfl, rfl⟩
    · have d1 : decide (least ≤ n) = false := decide_eq_false h1
      rw [decide_eq_false (fun h => h1 h.1)] at HI
      have h1' : n < least := by omega
      clear h1
      go_enter Tryz.func78, Tryz.ntmps78
      go_wp2_with fail
      refine (HH.out _).mono ?_
      rintro e w1 ⟨rfl, rfl⟩
      go_wp2
      go_ret
      exact ⟨by rw [HI.out]; rfl, rfl⟩
theorem longB_def (l : List (List UInt8)) (most each : Int) : longB l most each = (l.any (fun s => decide (each < (s.length : Int))) || decide (most < (l.length : Int))) := by
  unfold longB; rfl
theorem short_long (l : List (List UInt8)) : longB l 16 200 = !(shortB l && decide (l.length ≤ 16)) := by
  rw [longB_def, shortB, Bool.not_and]
  congr 1
  · rw [List.not_all_eq_any_not]
    congr 1
    funext s
    by_cases h : s.length ≤ 200
    · rw [decide_eq_true h, decide_eq_false (by omega)]; rfl
    · rw [decide_eq_false h, decide_eq_true (by omega)]; rfl
  · by_cases h : l.length ≤ 16
    · rw [decide_eq_true h, decide_eq_false (by omega)]; rfl
    · rw [decide_eq_false h, decide_eq_true (by omega)]; rfl
/-- The document's order of the same. -/
theorem chkR_doc (x : Rc) : chkR x = (decide (1 ≤ x.k) && decide (x.k ≤ 4) && decide (1 ≤ x.j) && decide (x.j ≤ 72057594037927935) && !longB x.ns 16 200 && inS (hasR x.k 1) 0 15 x.t && inS (hasR x.k 2) 0 63 x.w && inS (hasR x.k 3) 0 7 x.s && inS (hasR x.k 4) 1 9 x.e && inS (hasR x.k 5) 1 16 (x.ns.length : Int)) := by
  have h5 : inS (hasR x.k 5) 1 16 (x.ns.length : Int) = true → x.ns.length ≤ 16 := by
    intro h
    unfold inS at h
    split at h
    · simp only [decide_eq_true_eq] at h; omega
    · simp only [beq_iff_eq] at h; omega
  rw [short_long, Bool.not_not]
  unfold chkR isK
  rw [show decide (1 ≤ x.k ∧ x.k ≤ 4) = (decide (1 ≤ x.k) && decide (x.k ≤ 4)) by simp]
  generalize inS (hasR x.k 5) 1 16 (x.ns.length : Int) = b5 at *
  generalize decide (1 ≤ x.k) = a1
  generalize decide (x.k ≤ 4) = a2
  generalize decide (1 ≤ x.j) = a3
  generalize decide (x.j ≤ 72057594037927935) = a4
  generalize shortB x.ns = a5
  generalize inS (hasR x.k 1) 0 15 x.t = b1
  generalize inS (hasR x.k 2) 0 63 x.w = b2
  generalize inS (hasR x.k 3) 0 7 x.s = b3
  generalize inS (hasR x.k 4) 1 9 x.e = b4
  cases b5
  · simp
  · rw [decide_eq_true (h5 rfl)]
    cases a1 <;> cases a2 <;> cases a3 <;> cases a4 <;> cases a5 <;> cases b1 <;> cases b2 <;> cases b3 <;> cases b4 <;> rfl

set_option maxRecDepth 20000 in
set_option maxHeartbeats 4000000 in
theorem r17check_any (x : Rc) (A : Option Addr) (c : Nat) (W : World) (hx : TxAt W A c x.ns) : Calls Tryz.prog 60 #[.agg (rcc x A c)] W fun e w' => e = .returned (.bool (chkR x)) ∧ Below W.heap.size W w' := by
  have HI := hid (chkR_doc x)
  obtain ⟨k, j, t, w, s, e, ns⟩ := x
  have hll := hx.len
  have H1 : Hid (∀ w', Calls Tryz.prog 78 #[.int .i64 k, .int .i64 1, .int .i64 t, .int .i64 0, .int .i64 15] w' fun z w'' => z = .returned (.bool (inS (hasR k 1) 0 15 t)) ∧ w' = w'') := hid (fun w' => rin_any k 1 (by omega) t 0 15 w')
  have H2 : Hid (∀ w', Calls Tryz.prog 78 #[.int .i64 k, .int .i64 2, .int .i64 w, .int .i64 0, .int .i64 63] w' fun z w'' => z = .returned (.bool (inS (hasR k 2) 0 63 w)) ∧ w' = w'') := hid (fun w' => rin_any k 2 (by omega) w 0 63 w')
  have H3 : Hid (∀ w', Calls Tryz.prog 78 #[.int .i64 k, .int .i64 3, .int .i64 s, .int .i64 0, .int .i64 7] w' fun z w'' => z = .returned (.bool (inS (hasR k 3) 0 7 s)) ∧ w' = w'') := hid (fun w' => rin_any k 3 (by omega) s 0 7 w')
  have H4 : Hid (∀ w', Calls Tryz.prog 78 #[.int .i64 k, .int .i64 4, .int .i64 e, .int .i64 1, .int .i64 9] w' fun z w'' => z = .returned (.bool (inS (hasR k 4) 1 9 e)) ∧ w' = w'') := hid (fun w' => rin_any k 4 (by omega) e 1 9 w')
  have H5 : Hid (∀ w', Calls Tryz.prog 78 #[.int .i64 k, .int .i64 5, .int .i64 (ns.length : Int), .int .i64 1, .int .i64 16] w' fun z w'' => z = .returned (.bool (inS (hasR k 5) 1 16 (ns.length : Int))) ∧ w' = w'') := hid (fun w' => rin_any k 5 (by omega) (ns.length : Int) 1 16 w')
  have hbe : Below W.heap.size W (W.alloc (.cells (rcc ⟨k, j, t, w, s, e, ns⟩ A c) 46)) := (Below.refl _ _).alloc (Nat.le_refl _) _
  have HBE := hid hbe
  have HS := hid (long_any A ns.length c ns 16 200 _ (hx.below hbe).1 hx.2)
  simp only [rcc] at HS HBE hbe hll HI ⊢
  clear hx hbe
  generalize inS (hasR k 1) 0 15 t = b1 at *
  generalize inS (hasR k 2) 0 63 w = b2 at *
  generalize inS (hasR k 3) 0 7 s = b3 at *
  generalize inS (hasR k 4) 1 9 e = b4 at *
  generalize inS (hasR k 5) 1 16 (ns.length : Int) = b5 at *
  generalize longB ns 16 200 = b6 at *
  generalize chkR ⟨k, j, t, w, s, e, ns⟩ = r at *
  by_cases h1 : 1 ≤ k
  case neg =>
    have d1 : decide (1 ≤ k) = false := decide_eq_false h1
    have d1' : k < 1 := by omega
    have HV : Hid (r = false) := hid (by rw [HI.out]; first | (rw [d1]; rfl) | (rw [d1, d2]; rfl) | (rw [d1, d2, d3]; rfl) | (rw [d1, d2, d3, d4]; rfl) | (rw [d1, d2, d3, d4]; simp))
    clear HI
    go_enter Tryz.func60, Tryz.ntmps60
    go_wp2_with (first
      | (go_at_call 46; refine HS.out.mono ?_; rintro x w' ⟨rfl, rfl⟩)
      | (go_at_call 78; with_reducible refine (H1.out _).mono ?_; rintro x w' ⟨rfl, rfl⟩)
      | (go_at_call 78; with_reducible refine (H2.out _).mono ?_; rintro x w' ⟨rfl, rfl⟩)
      | (go_at_call 78; with_reducible refine (H3.out _).mono ?_; rintro x w' ⟨rfl, rfl⟩)
      | (go_at_call 78; with_reducible refine (H4.out _).mono ?_; rintro x w' ⟨rfl, rfl⟩)
      | (go_at_call 78; with_reducible refine (H5.out _).mono ?_; rintro x w' ⟨rfl, rfl⟩))
    go_ret
    exact ⟨by rw [HV.out]; rfl, HBE.out⟩
  have d1 : decide (1 ≤ k) = true := decide_eq_true h1
  by_cases h2 : k ≤ 4
  case neg =>
    have d2 : decide (k ≤ 4) = false := decide_eq_false h2
    have d2' : 4 < k := by omega
    have HV : Hid (r = false) := hid (by rw [HI.out]; first | (rw [d1]; rfl) | (rw [d1, d2]; rfl) | (rw [d1, d2, d3]; rfl) | (rw [d1, d2, d3, d4]; rfl) | (rw [d1, d2, d3, d4]; simp))
    clear HI
    go_enter Tryz.func60, Tryz.ntmps60
    go_wp2_with (first
      | (go_at_call 46; refine HS.out.mono ?_; rintro x w' ⟨rfl, rfl⟩)
      | (go_at_call 78; with_reducible refine (H1.out _).mono ?_; rintro x w' ⟨rfl, rfl⟩)
      | (go_at_call 78; with_reducible refine (H2.out _).mono ?_; rintro x w' ⟨rfl, rfl⟩)
      | (go_at_call 78; with_reducible refine (H3.out _).mono ?_; rintro x w' ⟨rfl, rfl⟩)
      | (go_at_call 78; with_reducible refine (H4.out _).mono ?_; rintro x w' ⟨rfl, rfl⟩)
      | (go_at_call 78; with_reducible refine (H5.out _).mono ?_; rintro x w' ⟨rfl, rfl⟩))
    go_ret
    exact ⟨by rw [HV.out]; rfl, HBE.out⟩
  have d2 : decide (k ≤ 4) = true := decide_eq_true h2
  by_cases h3 : 1 ≤ j
  case neg =>
    have d3 : decide (1 ≤ j) = false := decide_eq_false h3
    have d3' : j < 1 := by omega
    have HV : Hid (r = false) := hid (by rw [HI.out]; first | (rw [d1]; rfl) | (rw [d1, d2]; rfl) | (rw [d1, d2, d3]; rfl) | (rw [d1, d2, d3, d4]; rfl) | (rw [d1, d2, d3, d4]; simp))
    clear HI
    go_enter Tryz.func60, Tryz.ntmps60
    go_wp2_with (first
      | (go_at_call 46; refine HS.out.mono ?_; rintro x w' ⟨rfl, rfl⟩)
      | (go_at_call 78; with_reducible refine (H1.out _).mono ?_; rintro x w' ⟨rfl, rfl⟩)
      | (go_at_call 78; with_reducible refine (H2.out _).mono ?_; rintro x w' ⟨rfl, rfl⟩)
      | (go_at_call 78; with_reducible refine (H3.out _).mono ?_; rintro x w' ⟨rfl, rfl⟩)
      | (go_at_call 78; with_reducible refine (H4.out _).mono ?_; rintro x w' ⟨rfl, rfl⟩)
      | (go_at_call 78; with_reducible refine (H5.out _).mono ?_; rintro x w' ⟨rfl, rfl⟩))
    go_ret
    exact ⟨by rw [HV.out]; rfl, HBE.out⟩
  have d3 : decide (1 ≤ j) = true := decide_eq_true h3
  by_cases h4 : j ≤ 72057594037927935
  case neg =>
    have d4 : decide (j ≤ 72057594037927935) = false := decide_eq_false h4
    have d4' : 72057594037927935 < j := by omega
    have HV : Hid (r = false) := hid (by rw [HI.out]; first | (rw [d1]; rfl) | (rw [d1, d2]; rfl) | (rw [d1, d2, d3]; rfl) | (rw [d1, d2, d3, d4]; rfl) | (rw [d1, d2, d3, d4]; simp))
    clear HI
    go_enter Tryz.func60, Tryz.ntmps60
    go_wp2_with (first
      | (go_at_call 46; refine HS.out.mono ?_; rintro x w' ⟨rfl, rfl⟩)
      | (go_at_call 78; with_reducible refine (H1.out _).mono ?_; rintro x w' ⟨rfl, rfl⟩)
      | (go_at_call 78; with_reducible refine (H2.out _).mono ?_; rintro x w' ⟨rfl, rfl⟩)
      | (go_at_call 78; with_reducible refine (H3.out _).mono ?_; rintro x w' ⟨rfl, rfl⟩)
      | (go_at_call 78; with_reducible refine (H4.out _).mono ?_; rintro x w' ⟨rfl, rfl⟩)
      | (go_at_call 78; with_reducible refine (H5.out _).mono ?_; rintro x w' ⟨rfl, rfl⟩))
    go_ret
    exact ⟨by rw [HV.out]; rfl, HBE.out⟩
  have d4 : decide (j ≤ 72057594037927935) = true := decide_eq_true h4
  cases b6
  case true =>
    have HV : Hid (r = false) := hid (by rw [HI.out]; first | (rw [d1]; rfl) | (rw [d1, d2]; rfl) | (rw [d1, d2, d3]; rfl) | (rw [d1, d2, d3, d4]; rfl) | (rw [d1, d2, d3, d4]; simp))
    clear HI
    go_enter Tryz.func60, Tryz.ntmps60
    go_wp2_with (first
      | (go_at_call 46; refine HS.out.mono ?_; rintro x w' ⟨rfl, rfl⟩)
      | (go_at_call 78; with_reducible refine (H1.out _).mono ?_; rintro x w' ⟨rfl, rfl⟩)
      | (go_at_call 78; with_reducible refine (H2.out _).mono ?_; rintro x w' ⟨rfl, rfl⟩)
      | (go_at_call 78; with_reducible refine (H3.out _).mono ?_; rintro x w' ⟨rfl, rfl⟩)
      | (go_at_call 78; with_reducible refine (H4.out _).mono ?_; rintro x w' ⟨rfl, rfl⟩)
      | (go_at_call 78; with_reducible refine (H5.out _).mono ?_; rintro x w' ⟨rfl, rfl⟩))
    go_ret
    exact ⟨by rw [HV.out]; rfl, HBE.out⟩
  cases b1
  case false =>
    have HV : Hid (r = false) := hid (by rw [HI.out]; first | (rw [d1]; rfl) | (rw [d1, d2]; rfl) | (rw [d1, d2, d3]; rfl) | (rw [d1, d2, d3, d4]; rfl) | (rw [d1, d2, d3, d4]; simp))
    clear HI
    go_enter Tryz.func60, Tryz.ntmps60
    go_wp2_with (first
      | (go_at_call 46; refine HS.out.mono ?_; rintro x w' ⟨rfl, rfl⟩)
      | (go_at_call 78; with_reducible refine (H1.out _).mono ?_; rintro x w' ⟨rfl, rfl⟩)
      | (go_at_call 78; with_reducible refine (H2.out _).mono ?_; rintro x w' ⟨rfl, rfl⟩)
      | (go_at_call 78; with_reducible refine (H3.out _).mono ?_; rintro x w' ⟨rfl, rfl⟩)
      | (go_at_call 78; with_reducible refine (H4.out _).mono ?_; rintro x w' ⟨rfl, rfl⟩)
      | (go_at_call 78; with_reducible refine (H5.out _).mono ?_; rintro x w' ⟨rfl, rfl⟩))
    go_ret
    exact ⟨by rw [HV.out]; rfl, HBE.out⟩
  cases b2
  case false =>
    have HV : Hid (r = false) := hid (by rw [HI.out]; first | (rw [d1]; rfl) | (rw [d1, d2]; rfl) | (rw [d1, d2, d3]; rfl) | (rw [d1, d2, d3, d4]; rfl) | (rw [d1, d2, d3, d4]; simp))
    clear HI
    go_enter Tryz.func60, Tryz.ntmps60
    go_wp2_with (first
      | (go_at_call 46; refine HS.out.mono ?_; rintro x w' ⟨rfl, rfl⟩)
      | (go_at_call 78; with_reducible refine (H1.out _).mono ?_; rintro x w' ⟨rfl, rfl⟩)
      | (go_at_call 78; with_reducible refine (H2.out _).mono ?_; rintro x w' ⟨rfl, rfl⟩)
      | (go_at_call 78; with_reducible refine (H3.out _).mono ?_; rintro x w' ⟨rfl, rfl⟩)
      | (go_at_call 78; with_reducible refine (H4.out _).mono ?_; rintro x w' ⟨rfl, rfl⟩)
      | (go_at_call 78; with_reducible refine (H5.out _).mono ?_; rintro x w' ⟨rfl, rfl⟩))
    go_ret
    exact ⟨by rw [HV.out]; rfl, HBE.out⟩
  cases b3
  case false =>
    have HV : Hid (r = false) := hid (by rw [HI.out]; first | (rw [d1]; rfl) | (rw [d1, d2]; rfl) | (rw [d1, d2, d3]; rfl) | (rw [d1, d2, d3, d4]; rfl) | (rw [d1, d2, d3, d4]; simp))
    clear HI
    go_enter Tryz.func60, Tryz.ntmps60
    go_wp2_with (first
      | (go_at_call 46; refine HS.out.mono ?_; rintro x w' ⟨rfl, rfl⟩)
      | (go_at_call 78; with_reducible refine (H1.out _).mono ?_; rintro x w' ⟨rfl, rfl⟩)
      | (go_at_call 78; with_reducible refine (H2.out _).mono ?_; rintro x w' ⟨rfl, rfl⟩)
      | (go_at_call 78; with_reducible refine (H3.out _).mono ?_; rintro x w' ⟨rfl, rfl⟩)
      | (go_at_call 78; with_reducible refine (H4.out _).mono ?_; rintro x w' ⟨rfl, rfl⟩)
      | (go_at_call 78; with_reducible refine (H5.out _).mono ?_; rintro x w' ⟨rfl, rfl⟩))
    go_ret
    exact ⟨by rw [HV.out]; rfl, HBE.out⟩
  cases b4
  case false =>
    have HV : Hid (r = false) := hid (by rw [HI.out]; first | (rw [d1]; rfl) | (rw [d1, d2]; rfl) | (rw [d1, d2, d3]; rfl) | (rw [d1, d2, d3, d4]; rfl) | (rw [d1, d2, d3, d4]; simp))
    clear HI
    go_enter Tryz.func60, Tryz.ntmps60
    go_wp2_with (first
      | (go_at_call 46; refine HS.out.mono ?_; rintro x w' ⟨rfl, rfl⟩)
      | (go_at_call 78; with_reducible refine (H1.out _).mono ?_; rintro x w' ⟨rfl, rfl⟩)
      | (go_at_call 78; with_reducible refine (H2.out _).mono ?_; rintro x w' ⟨rfl, rfl⟩)
      | (go_at_call 78; with_reducible refine (H3.out _).mono ?_; rintro x w' ⟨rfl, rfl⟩)
      | (go_at_call 78; with_reducible refine (H4.out _).mono ?_; rintro x w' ⟨rfl, rfl⟩)
      | (go_at_call 78; with_reducible refine (H5.out _).mono ?_; rintro x w' ⟨rfl, rfl⟩))
    go_ret
    exact ⟨by rw [HV.out]; rfl, HBE.out⟩
  cases b5
  case false =>
    have HV : Hid (r = false) := hid (by rw [HI.out]; first | (rw [d1]; rfl) | (rw [d1, d2]; rfl) | (rw [d1, d2, d3]; rfl) | (rw [d1, d2, d3, d4]; rfl) | (rw [d1, d2, d3, d4]; simp))
    clear HI
    go_enter Tryz.func60, Tryz.ntmps60
    go_wp2_with (first
      | (go_at_call 46; refine HS.out.mono ?_; rintro x w' ⟨rfl, rfl⟩)
      | (go_at_call 78; with_reducible refine (H1.out _).mono ?_; rintro x w' ⟨rfl, rfl⟩)
      | (go_at_call 78; with_reducible refine (H2.out _).mono ?_; rintro x w' ⟨rfl, rfl⟩)
      | (go_at_call 78; with_reducible refine (H3.out _).mono ?_; rintro x w' ⟨rfl, rfl⟩)
      | (go_at_call 78; with_reducible refine (H4.out _).mono ?_; rintro x w' ⟨rfl, rfl⟩)
      | (go_at_call 78; with_reducible refine (H5.out _).mono ?_; rintro x w' ⟨rfl, rfl⟩))
    go_ret
    exact ⟨by rw [HV.out]; rfl, HBE.out⟩
  have HV : Hid (r = true) := hid (by rw [HI.out]; first | (rw [d1]; rfl) | (rw [d1, d2]; rfl) | (rw [d1, d2, d3]; rfl) | (rw [d1, d2, d3, d4]; rfl) | (rw [d1, d2, d3, d4]; simp))
  clear HI
  go_enter Tryz.func60, Tryz.ntmps60
  go_wp2_with (first
    | (go_at_call 46; refine HS.out.mono ?_; rintro x w' ⟨rfl, rfl⟩)
    | (go_at_call 78; with_reducible refine (H1.out _).mono ?_; rintro x w' ⟨rfl, rfl⟩)
    | (go_at_call 78; with_reducible refine (H2.out _).mono ?_; rintro x w' ⟨rfl, rfl⟩)
    | (go_at_call 78; with_reducible refine (H3.out _).mono ?_; rintro x w' ⟨rfl, rfl⟩)
    | (go_at_call 78; with_reducible refine (H4.out _).mono ?_; rintro x w' ⟨rfl, rfl⟩)
    | (go_at_call 78; with_reducible refine (H5.out _).mono ?_; rintro x w' ⟨rfl, rfl⟩))
  go_ret
  exact ⟨by rw [HV.out]; rfl, HBE.out⟩
end Go.Proofs.YtkepfkfoblocgaaGreat
