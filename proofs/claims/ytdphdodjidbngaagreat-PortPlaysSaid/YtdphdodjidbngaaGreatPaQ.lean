/- Packets where Open and Bytes are there too. -/
import Derived.Test.YtdphdodjidbngaaGreatSeP
import Derived.Test.YtdphdodjidbngaaGreatPaP
import Derived.Laws.StructEq
import Derived.BigQuiet
import Derived.Deep.QuietTactic
import Derived.Deep.CutRange
namespace Go.Proofs.YtdphdodjidbngaaGreat
end Go.Proofs.YtdphdodjidbngaaGreat

namespace Go.Proofs.YtdphdodjidbngaaGreat
open Go.RowKit Go.Sort
set_option linter.unusedVariables false
set_option linter.unusedSimpArgs false

theorem pknown_any (k : Int) (w : World) : Calls Tryz.prog 91 #[.int .i64 k] w fun e w' => e = .returned (.bool (decide (1 ≤ k ∧ k ≤ 4))) ∧ w = w' := by
  by_cases h : 1 ≤ k ∧ k ≤ 4
  · rw [decide_eq_true h]
    obtain ⟨h1, h2⟩ := h
    have d1 : decide (1 ≤ k) = true := decide_eq_true h1
    have d2 : decide (k ≤ 4) = true := decide_eq_true h2
    go_enter Tryz.func91, Tryz.ntmps91
    go_wp2
    go_ret
    exact ⟨rfl, rfl⟩
  · rw [decide_eq_false h]
    by_cases h1 : k < 1
    · have d1 : decide (1 ≤ k) = false := by simp; omega
      clear h
      go_enter Tryz.func91, Tryz.ntmps91
      go_wp2
      go_ret
      exact ⟨rfl, rfl⟩
    · have h3 : 1 ≤ k := by omega
      have h2 : 4 < k := by omega
      have d1 : decide (1 ≤ k) = true := decide_eq_true h3
      have d2 : decide (k ≤ 4) = false := by simp; omega
      clear h h1
      go_enter Tryz.func91, Tryz.ntmps91
      go_wp2
      go_ret
      exact ⟨rfl, rfl⟩
theorem node_any (k : Int) (w : World) : Calls Tryz.prog 93 #[.int .i64 k] w fun e w' => e = .returned (.bool (decide (0 ≤ k ∧ k ≤ 71))) ∧ w = w' := by
  by_cases h : 0 ≤ k ∧ k ≤ 71
  · rw [decide_eq_true h]
    obtain ⟨h1, h2⟩ := h
    have d1 : decide (0 ≤ k) = true := decide_eq_true h1
    have d2 : decide (k ≤ 71) = true := decide_eq_true h2
    go_enter Tryz.func93, Tryz.ntmps93
    go_wp2
    go_ret
    exact ⟨rfl, rfl⟩
  · rw [decide_eq_false h]
    by_cases h1 : k < 0
    · have d1 : decide (0 ≤ k) = false := by simp; omega
      clear h
      go_enter Tryz.func93, Tryz.ntmps93
      go_wp2
      go_ret
      exact ⟨rfl, rfl⟩
    · have h3 : 0 ≤ k := by omega
      have h2 : 71 < k := by omega
      have d1 : decide (0 ≤ k) = true := decide_eq_true h3
      have d2 : decide (k ≤ 71) = false := by simp; omega
      clear h h1
      go_enter Tryz.func93, Tryz.ntmps93
      go_wp2
      go_ret
      exact ⟨rfl, rfl⟩
theorem counted_any (k : Int) (w : World) : Calls Tryz.prog 94 #[.int .i64 k] w fun e w' => e = .returned (.bool (decide (1 ≤ k ∧ k ≤ 72057594037927935))) ∧ w = w' := by
  by_cases h : 1 ≤ k ∧ k ≤ 72057594037927935
  · rw [decide_eq_true h]
    obtain ⟨h1, h2⟩ := h
    have d1 : decide (1 ≤ k) = true := decide_eq_true h1
    have d2 : decide (k ≤ 72057594037927935) = true := decide_eq_true h2
    go_enter Tryz.func94, Tryz.ntmps94
    go_wp2
    go_ret
    exact ⟨rfl, rfl⟩
  · rw [decide_eq_false h]
    by_cases h1 : k < 1
    · have d1 : decide (1 ≤ k) = false := by simp; omega
      clear h
      go_enter Tryz.func94, Tryz.ntmps94
      go_wp2
      go_ret
      exact ⟨rfl, rfl⟩
    · have h3 : 1 ≤ k := by omega
      have h2 : 72057594037927935 < k := by omega
      have d1 : decide (1 ≤ k) = true := decide_eq_true h3
      have d2 : decide (k ≤ 72057594037927935) = false := by simp; omega
      clear h h1
      go_enter Tryz.func94, Tryz.ntmps94
      go_wp2
      go_ret
      exact ⟨rfl, rfl⟩

def kpt (k : Nat) (p s : Int) (b : ByteArray) : Int × Int × ByteArray := (if hpP k then p else 0, if hpS k then s else 0, if hpB k then b else ⟨#[]⟩)
set_option maxRecDepth 20000 in
set_option maxHeartbeats 1000000 in
theorem kept_any (k : Nat) (hk : k ≤ 4) (f t i p s : Int) (b : ByteArray) (W : World) : Calls Tryz.prog 92 #[.agg #[.int .i64 k, .int .i64 f, .int .i64 t, .int .i64 i, .int .i64 p, .int .i64 s, .string b]] W fun e w' => e = .returned (.agg #[.int .i64 k, .int .i64 f, .int .i64 t, .int .i64 i, .int .i64 (kpt k p s b).1, .int .i64 (kpt k p s b).2.1, .string (kpt k p s b).2.2]) ∧ Below W.heap.size W w' := by
  have HP := hid (hasPeer_any k hk)
  have HS := hid (hasSeq_any k hk)
  have HB := hid (hasBody_any k hk)
  have HV : Hid (kpt k p s b = (if hpP k then p else 0, if hpS k then s else 0, if hpB k then b else ⟨#[]⟩)) := hid rfl
  generalize kpt k p s b = v at *
  obtain ⟨p', s', b'⟩ := v
  clear hk
  generalize hpP k = hp at *
  generalize hpS k = hq at *
  generalize hpB k = hr at *
  go_enter Tryz.func92, Tryz.ntmps92
  go_upto_region 1 with (fail)
  refine at_world (fun w => Pc 90 w W.heap.size k f t i p s b ∧ Pc 90 w (W.heap.size + 1) 0 0 0 0 0 0 ⟨#[]⟩ ∧ Below W.heap.size W w) ⟨heap_first _ _ _, heap_second _ _ _, below2 _ _ _⟩ ?_
  rintro w1 ⟨hA, hR, hB⟩
  have hne : W.heap.size ≠ W.heap.size + 1 := by omega
  have hge : W.heap.size ≤ W.heap.size + 1 := by omega
  generalize W.heap.size + 1 = R at *
  have H1 : Hid (Pc 90 w1 W.heap.size k f t i p s b ∧ Pc 90 w1 R 0 0 0 0 0 0 ⟨#[]⟩ ∧ Below W.heap.size W w1) := hid ⟨hA, hR, hB⟩
  have HNE := hid (And.intro hne hge)
  clear hA hR hB hne hge
  have step : ∀ (w : World) (k f t i p s : Int) (b : ByteArray) (j : Nat) (v : Value), Pc 90 w R 0 0 0 0 0 0 ⟨#[]⟩ → Pc 90 (w.setCell ⟨W.heap.size, j, none⟩ v) R 0 0 0 0 0 0 ⟨#[]⟩ := fun w _ _ _ _ _ _ _ j v h => (Below.heap_setCell _ _ _ _ (fun e => HNE.out.1 e.symm)).trans h
  have HST := hid step
  clear step
  obtain ⟨⟨p0, p1, p2, p3, p4, p5, p6⟩, f0, f1, f2, f3, f4, f5, f6⟩ := seven_cells H1.out.1
  cases hp
  case' false =>
    go_upto_region 3 with (go_at_call 52; refine (HP.out _).mono ?_; rintro y w' ⟨rfl, rfl⟩)
    refine at_world (fun w => Pc 90 w W.heap.size k f t i p' s b ∧ Pc 90 w R 0 0 0 0 0 0 ⟨#[]⟩ ∧ Below W.heap.size W w) (by
      obtain ⟨h1, h2, h3⟩ := H1.out
      have hv : p' = 0 := by have := HV.out; simp at this; exact this.1
      rw [hv]
      exact ⟨heap_setCell_same w1 W.heap.size 4 _ _ _ h1, HST.out w1 0 0 0 0 0 0 ⟨#[]⟩ 4 _ h2, h3.setCell (Nat.le_refl _) _⟩) ?_
  case' true =>
    go_upto_region 3 with (go_at_call 52; refine (HP.out _).mono ?_; rintro y w' ⟨rfl, rfl⟩)
    refine at_world (fun w => Pc 90 w W.heap.size k f t i p' s b ∧ Pc 90 w R 0 0 0 0 0 0 ⟨#[]⟩ ∧ Below W.heap.size W w) (by
      have hv : p' = p := by have := HV.out; simp at this; exact this.1
      rw [hv]
      exact H1.out) ?_
  all_goals
    clear H1 p0 p1 p2 p3 p4 p5 p6 f0 f1 f2 f3 f4 f5 f6 HP
    rintro w2 h2
    have H1 := hid h2
    clear h2
    obtain ⟨⟨p0, p1, p2, p3, p4, p5, p6⟩, f0, f1, f2, f3, f4, f5, f6⟩ := seven_cells H1.out.1
    cases hq
    case' false =>
      go_upto_region 5 with (go_at_call 53; refine (HS.out _).mono ?_; rintro y w' ⟨rfl, rfl⟩)
      refine at_world (fun w => Pc 90 w W.heap.size k f t i p' s' b ∧ Pc 90 w R 0 0 0 0 0 0 ⟨#[]⟩ ∧ Below W.heap.size W w) (by
        obtain ⟨h1, h2, h3⟩ := H1.out
        have hv : s' = 0 := by have := HV.out; simp at this; exact this.2.1
        rw [hv]
        exact ⟨heap_setCell_same w2 W.heap.size 5 _ _ _ h1, HST.out w2 0 0 0 0 0 0 ⟨#[]⟩ 5 _ h2, h3.setCell (Nat.le_refl _) _⟩) ?_
    case' true =>
      go_upto_region 5 with (go_at_call 53; refine (HS.out _).mono ?_; rintro y w' ⟨rfl, rfl⟩)
      refine at_world (fun w => Pc 90 w W.heap.size k f t i p' s' b ∧ Pc 90 w R 0 0 0 0 0 0 ⟨#[]⟩ ∧ Below W.heap.size W w) (by
        have hv : s' = s := by have := HV.out; simp at this; exact this.2.1
        rw [hv]
        exact H1.out) ?_
  all_goals
    clear H1 p0 p1 p2 p3 p4 p5 p6 f0 f1 f2 f3 f4 f5 f6 HS
    rintro w3 h3
    have H1 := hid h3
    clear h3
    obtain ⟨⟨p0, p1, p2, p3, p4, p5, p6⟩, f0, f1, f2, f3, f4, f5, f6⟩ := seven_cells H1.out.1
    cases hr
    case' false =>
      go_upto_region 7 with (go_at_call 54; refine (HB.out _).mono ?_; rintro y w' ⟨rfl, rfl⟩)
      refine at_world (fun w => Pc 90 w W.heap.size k f t i p' s' b' ∧ Pc 90 w R 0 0 0 0 0 0 ⟨#[]⟩ ∧ Below W.heap.size W w) (by
        obtain ⟨h1, h2, h3⟩ := H1.out
        have hv : b' = ⟨#[]⟩ := by have := HV.out; simp at this; exact this.2.2
        rw [hv]
        exact ⟨heap_setCell_same w3 W.heap.size 6 _ _ _ h1, HST.out w3 0 0 0 0 0 0 ⟨#[]⟩ 6 _ h2, h3.setCell (Nat.le_refl _) _⟩) ?_
    case' true =>
      go_upto_region 7 with (go_at_call 54; refine (HB.out _).mono ?_; rintro y w' ⟨rfl, rfl⟩)
      refine at_world (fun w => Pc 90 w W.heap.size k f t i p' s' b' ∧ Pc 90 w R 0 0 0 0 0 0 ⟨#[]⟩ ∧ Below W.heap.size W w) (by
        have hv : b' = b := by have := HV.out; simp at this; exact this.2.2
        rw [hv]
        exact H1.out) ?_
  all_goals
    clear H1 p0 p1 p2 p3 p4 p5 p6 f0 f1 f2 f3 f4 f5 f6 HB HST
    rintro w4 h4
    have H1 := hid h4
    clear h4
    obtain ⟨⟨p0, p1, p2, p3, p4, p5, p6⟩, f0, f1, f2, f3, f4, f5, f6⟩ := seven_cells H1.out.1
    obtain ⟨⟨q0, q1, q2, q3, q4, q5, q6⟩, g0, g1, g2, g3, g4, g5, g6⟩ := seven_cells H1.out.2.1
    go_wp2_with fail
    obtain ⟨⟨r0, r1, r2, r3, r4, r5, r6⟩, _⟩ := seven_cells (set_seven H1.out.2.1 (.int .i64 k) (.int .i64 f) (.int .i64 t) (.int .i64 i) (.int .i64 p') (.int .i64 s') (.string b'))
    have hbe := below_set7 H1.out.2.2 HNE.out.2 (.int .i64 k) (.int .i64 f) (.int .i64 t) (.int .i64 i) (.int .i64 p') (.int .i64 s') (.string b')
    unfold set7 at r0 r1 r2 r3 r4 r5 r6 hbe
    exact bodyPost_ret (v := .agg #[.int .i64 k, .int .i64 f, .int .i64 t, .int .i64 i, .int .i64 p', .int .i64 s', .string b']) (by simp [results, Tryz.results92, go_sem, r0, r1, r2, r3, r4, r5, r6]) rfl ⟨rfl, hbe⟩

/-- What Check's second part says. -/
def ck3 (k : Nat) (p s : Int) : Bool := (!hpP k || decide (1 ≤ p ∧ p ≤ 72057594037927935)) && (!hpS k || decide (1 ≤ s ∧ s ≤ 72057594037927935))
def ck5 (k : Nat) (b : ByteArray) : Bool := !hpB k || (decide (b.size ≠ 0) && decide (b.size ≤ 32))
theorem bneil (b : ByteArray) (h : b.size ≠ 0) : ¬ b.toList = [] := fun e => h (by
  rw [ByteArray.toList_eq] at e
  show b.data.size = 0
  rw [← Array.length_toList, e]; rfl)
theorem beqil (b : ByteArray) (h : b.size = 0) : b.toList = [] := by
  rw [ByteArray.toList_eq]
  exact List.eq_nil_of_length_eq_zero (by rw [Array.length_toList]; exact h)

set_option maxRecDepth 20000 in
set_option maxHeartbeats 1000000 in
theorem check_bad0 (k : Int) (f t i p s : Int) (b : ByteArray) (W : World) (h : ¬ (1 ≤ k ∧ k ≤ 4)) :
    Calls Tryz.prog 50 #[.agg #[.int .i64 k, .int .i64 f, .int .i64 t, .int .i64 i, .int .i64 p, .int .i64 s, .string b]] W fun e w' => e = .returned (.bool false) ∧ Below W.heap.size W w' := by
  have HK := hid (pknown_any k)
  rw [decide_eq_false h] at HK
  clear h
  go_enter Tryz.func50, Tryz.ntmps50
  go_upto_region 1 with (fail)
  refine at_world (fun w => Pc 90 w W.heap.size k f t i p s b ∧ Below W.heap.size W w) ⟨heap_alloc_new _ _, (Below.refl _ _).alloc (Nat.le_refl _) _⟩ ?_
  rintro w2 ⟨k0, hb⟩
  obtain ⟨⟨p0, p1, p2, p3, p4, p5, p6⟩, _⟩ := seven_cells k0
  clear k0
  replace p0 := cell_regrown p0
  replace p1 := cell_regrown p1
  replace p2 := cell_regrown p2
  replace p3 := cell_regrown p3
  replace p4 := cell_regrown p4
  replace p5 := cell_regrown p5
  replace p6 := cell_regrown p6
  have c_known := reg (w := w2) (fun W' _ => same_below (HK.out W'))
  refine wp_region_quiet_below (by kernel_rfl) (by kernel_rfl) ?_
  repeat (go_big_quiet_step (first | (go_at_call 91; with_reducible exact c_known _ _)))
  refine wpQuiet_nil ?_
  intro _ hw'
  obtain ⟨⟨dq, osq⟩, hw''⟩ := hw'
  subst hw''
  go_wp2
  go_ret
  exact ⟨rfl, hb.trans ((below_regrown w2 dq osq).mono hb.size)⟩

set_option maxRecDepth 20000 in
set_option maxHeartbeats 1000000 in
theorem check_bad1a (k : Nat) (f t i p s : Int) (b : ByteArray) (W : World) (hk : 1 ≤ k ∧ k ≤ 4) (h : (kpt k p s b).1 ≠ p) :
    Calls Tryz.prog 50 #[.agg #[.int .i64 k, .int .i64 f, .int .i64 t, .int .i64 i, .int .i64 p, .int .i64 s, .string b]] W fun e w' => e = .returned (.bool false) ∧ Below W.heap.size W w' := by
  have HK := hid (pknown_any k)
  rw [decide_eq_true (show (1 : Int) ≤ (k : Int) ∧ (k : Int) ≤ 4 by omega)] at HK
  have HT := hid (fun w => kept_any k hk.2 f t i p s b w)
  generalize kpt k p s b = v at *
  obtain ⟨p', s', b'⟩ := v
  simp only at HT h
  clear hk
  have h1 : ¬ p = p' := fun e => h e.symm
  have h2 : (p == p') = false := by simp [h1]
  clear h
  go_enter Tryz.func50, Tryz.ntmps50
  go_upto_region 1 with (fail)
  refine at_world (fun w => Pc 90 w W.heap.size k f t i p s b ∧ Below W.heap.size W w) ⟨heap_alloc_new _ _, (Below.refl _ _).alloc (Nat.le_refl _) _⟩ ?_
  rintro w2 ⟨k0, hb⟩
  obtain ⟨⟨p0, p1, p2, p3, p4, p5, p6⟩, _⟩ := seven_cells k0
  clear k0
  replace p0 := cell_regrown p0
  replace p1 := cell_regrown p1
  replace p2 := cell_regrown p2
  replace p3 := cell_regrown p3
  replace p4 := cell_regrown p4
  replace p5 := cell_regrown p5
  replace p6 := cell_regrown p6
  have c_known := reg (w := w2) (fun W' _ => same_below (HK.out W'))
  have c_kept := reg (w := w2) (fun W' _ => HT.out W')
  refine wp_region_quiet_below (by kernel_rfl) (by kernel_rfl) ?_
  repeat (go_big_quiet_step (first | (go_at_call 91; with_reducible exact c_known _ _) | (go_at_call 92; with_reducible exact c_kept _ _)))
  refine wpQuiet_nil ?_
  intro _ hw'
  obtain ⟨⟨dq, osq⟩, hw''⟩ := hw'
  subst hw''
  go_wp2
  go_ret
  exact ⟨rfl, hb.trans ((below_regrown w2 dq osq).mono hb.size)⟩

set_option maxRecDepth 20000 in
set_option maxHeartbeats 1000000 in
theorem check_bad1b (k : Nat) (f t i p s : Int) (b : ByteArray) (W : World) (hk : 1 ≤ k ∧ k ≤ 4) (h : (kpt k p s b).1 = p ∧ (kpt k p s b).2.1 ≠ s) :
    Calls Tryz.prog 50 #[.agg #[.int .i64 k, .int .i64 f, .int .i64 t, .int .i64 i, .int .i64 p, .int .i64 s, .string b]] W fun e w' => e = .returned (.bool false) ∧ Below W.heap.size W w' := by
  have HK := hid (pknown_any k)
  rw [decide_eq_true (show (1 : Int) ≤ (k : Int) ∧ (k : Int) ≤ 4 by omega)] at HK
  have HT := hid (fun w => kept_any k hk.2 f t i p s b w)
  generalize kpt k p s b = v at *
  obtain ⟨p', s', b'⟩ := v
  simp only at HT h
  clear hk
  obtain ⟨h0, h⟩ := h
  obtain rfl : p = p' := h0.symm
  have h1 : ¬ s = s' := fun e => h e.symm
  have h2 : (s == s') = false := by simp [h1]
  clear h
  go_enter Tryz.func50, Tryz.ntmps50
  go_upto_region 1 with (fail)
  refine at_world (fun w => Pc 90 w W.heap.size k f t i p s b ∧ Below W.heap.size W w) ⟨heap_alloc_new _ _, (Below.refl _ _).alloc (Nat.le_refl _) _⟩ ?_
  rintro w2 ⟨k0, hb⟩
  obtain ⟨⟨p0, p1, p2, p3, p4, p5, p6⟩, _⟩ := seven_cells k0
  clear k0
  replace p0 := cell_regrown p0
  replace p1 := cell_regrown p1
  replace p2 := cell_regrown p2
  replace p3 := cell_regrown p3
  replace p4 := cell_regrown p4
  replace p5 := cell_regrown p5
  replace p6 := cell_regrown p6
  have c_known := reg (w := w2) (fun W' _ => same_below (HK.out W'))
  have c_kept := reg (w := w2) (fun W' _ => HT.out W')
  refine wp_region_quiet_below (by kernel_rfl) (by kernel_rfl) ?_
  repeat (go_big_quiet_step (first | (go_at_call 91; with_reducible exact c_known _ _) | (go_at_call 92; with_reducible exact c_kept _ _)))
  refine wpQuiet_nil ?_
  intro _ hw'
  obtain ⟨⟨dq, osq⟩, hw''⟩ := hw'
  subst hw''
  go_wp2
  go_ret
  exact ⟨rfl, hb.trans ((below_regrown w2 dq osq).mono hb.size)⟩

set_option maxRecDepth 20000 in
set_option maxHeartbeats 1000000 in
theorem check_bad1c (k : Nat) (f t i p s : Int) (b : ByteArray) (W : World) (hk : 1 ≤ k ∧ k ≤ 4) (h : (kpt k p s b).1 = p ∧ (kpt k p s b).2.1 = s ∧ (kpt k p s b).2.2 ≠ b) :
    Calls Tryz.prog 50 #[.agg #[.int .i64 k, .int .i64 f, .int .i64 t, .int .i64 i, .int .i64 p, .int .i64 s, .string b]] W fun e w' => e = .returned (.bool false) ∧ Below W.heap.size W w' := by
  have HK := hid (pknown_any k)
  rw [decide_eq_true (show (1 : Int) ≤ (k : Int) ∧ (k : Int) ≤ 4 by omega)] at HK
  have HT := hid (fun w => kept_any k hk.2 f t i p s b w)
  generalize kpt k p s b = v at *
  obtain ⟨p', s', b'⟩ := v
  simp only at HT h
  clear hk
  obtain ⟨h0, h00, h⟩ := h
  obtain rfl : p = p' := h0.symm
  obtain rfl : s = s' := h00.symm
  have h1 : ¬ b.toList = b'.toList := fun e => h (by rw [ByteArray.toList_eq, ByteArray.toList_eq] at e; exact ByteArray.ext (Array.ext' e.symm))
  have h2 : (b.toList == b'.toList) = false := by simp [h1]
  clear h
  go_enter Tryz.func50, Tryz.ntmps50
  go_upto_region 1 with (fail)
  refine at_world (fun w => Pc 90 w W.heap.size k f t i p s b ∧ Below W.heap.size W w) ⟨heap_alloc_new _ _, (Below.refl _ _).alloc (Nat.le_refl _) _⟩ ?_
  rintro w2 ⟨k0, hb⟩
  obtain ⟨⟨p0, p1, p2, p3, p4, p5, p6⟩, _⟩ := seven_cells k0
  clear k0
  replace p0 := cell_regrown p0
  replace p1 := cell_regrown p1
  replace p2 := cell_regrown p2
  replace p3 := cell_regrown p3
  replace p4 := cell_regrown p4
  replace p5 := cell_regrown p5
  replace p6 := cell_regrown p6
  have c_known := reg (w := w2) (fun W' _ => same_below (HK.out W'))
  have c_kept := reg (w := w2) (fun W' _ => HT.out W')
  refine wp_region_quiet_below (by kernel_rfl) (by kernel_rfl) ?_
  repeat (go_big_quiet_step (first | (go_at_call 91; with_reducible exact c_known _ _) | (go_at_call 92; with_reducible exact c_kept _ _)))
  refine wpQuiet_nil ?_
  intro _ hw'
  obtain ⟨⟨dq, osq⟩, hw''⟩ := hw'
  subst hw''
  go_wp2
  go_ret
  exact ⟨rfl, hb.trans ((below_regrown w2 dq osq).mono hb.size)⟩

set_option maxRecDepth 20000 in
set_option maxHeartbeats 1000000 in
theorem check_bad2 (k : Nat) (f t i p s : Int) (b : ByteArray) (W : World) (hk : 1 ≤ k ∧ k ≤ 4) (hkp : kpt k p s b = (p, s, b)) (h : ¬ (0 ≤ f ∧ f ≤ 71)) :
    Calls Tryz.prog 50 #[.agg #[.int .i64 k, .int .i64 f, .int .i64 t, .int .i64 i, .int .i64 p, .int .i64 s, .string b]] W fun e w' => e = .returned (.bool false) ∧ Below W.heap.size W w' := by
  have HK := hid (pknown_any k)
  rw [decide_eq_true (show (1 : Int) ≤ (k : Int) ∧ (k : Int) ≤ 4 by omega)] at HK
  have HT := hid (fun w => kept_any k hk.2 f t i p s b w)
  rw [hkp] at HT
  simp only at HT
  clear hk hkp
  have HNf := hid (node_any f)
  rw [decide_eq_false h] at HNf
  clear h
  go_enter Tryz.func50, Tryz.ntmps50
  go_upto_region 1 with (fail)
  refine at_world (fun w => Pc 90 w W.heap.size k f t i p s b ∧ Below W.heap.size W w) ⟨heap_alloc_new _ _, (Below.refl _ _).alloc (Nat.le_refl _) _⟩ ?_
  rintro w2 ⟨k0, hb⟩
  obtain ⟨⟨p0, p1, p2, p3, p4, p5, p6⟩, _⟩ := seven_cells k0
  clear k0
  replace p0 := cell_regrown p0
  replace p1 := cell_regrown p1
  replace p2 := cell_regrown p2
  replace p3 := cell_regrown p3
  replace p4 := cell_regrown p4
  replace p5 := cell_regrown p5
  replace p6 := cell_regrown p6
  have c_known := reg (w := w2) (fun W' _ => same_below (HK.out W'))
  have c_kept := reg (w := w2) (fun W' _ => HT.out W')
  have c_nodef := reg (w := w2) (fun W' _ => same_below (HNf.out W'))
  refine wp_region_quiet_below (by kernel_rfl) (by kernel_rfl) ?_
  repeat (go_big_quiet_step (first | (go_at_call 91; with_reducible exact c_known _ _) | (go_at_call 92; with_reducible exact c_kept _ _) | (go_at_call 93; with_reducible exact c_nodef _ _)))
  refine wpQuiet_nil ?_
  intro _ hw'
  obtain ⟨⟨dq, osq⟩, hw''⟩ := hw'
  subst hw''
  go_wp2
  go_ret
  exact ⟨rfl, hb.trans ((below_regrown w2 dq osq).mono hb.size)⟩

set_option maxRecDepth 20000 in
set_option maxHeartbeats 1000000 in
theorem check_bad3 (k : Nat) (f t i p s : Int) (b : ByteArray) (W : World) (hk : 1 ≤ k ∧ k ≤ 4) (hkp : kpt k p s b = (p, s, b)) (hf : 0 ≤ f ∧ f ≤ 71) (h : ¬ (0 ≤ t ∧ t ≤ 71)) :
    Calls Tryz.prog 50 #[.agg #[.int .i64 k, .int .i64 f, .int .i64 t, .int .i64 i, .int .i64 p, .int .i64 s, .string b]] W fun e w' => e = .returned (.bool false) ∧ Below W.heap.size W w' := by
  have HK := hid (pknown_any k)
  rw [decide_eq_true (show (1 : Int) ≤ (k : Int) ∧ (k : Int) ≤ 4 by omega)] at HK
  have HT := hid (fun w => kept_any k hk.2 f t i p s b w)
  rw [hkp] at HT
  simp only at HT
  clear hk hkp
  have HNf := hid (node_any f)
  have HNt := hid (node_any t)
  rw [decide_eq_true hf] at HNf
  rw [decide_eq_false h] at HNt
  clear hf h
  go_enter Tryz.func50, Tryz.ntmps50
  go_upto_region 1 with (fail)
  refine at_world (fun w => Pc 90 w W.heap.size k f t i p s b ∧ Below W.heap.size W w) ⟨heap_alloc_new _ _, (Below.refl _ _).alloc (Nat.le_refl _) _⟩ ?_
  rintro w2 ⟨k0, hb⟩
  obtain ⟨⟨p0, p1, p2, p3, p4, p5, p6⟩, _⟩ := seven_cells k0
  clear k0
  replace p0 := cell_regrown p0
  replace p1 := cell_regrown p1
  replace p2 := cell_regrown p2
  replace p3 := cell_regrown p3
  replace p4 := cell_regrown p4
  replace p5 := cell_regrown p5
  replace p6 := cell_regrown p6
  have c_known := reg (w := w2) (fun W' _ => same_below (HK.out W'))
  have c_kept := reg (w := w2) (fun W' _ => HT.out W')
  have c_nodef := reg (w := w2) (fun W' _ => same_below (HNf.out W'))
  have c_nodet := reg (w := w2) (fun W' _ => same_below (HNt.out W'))
  refine wp_region_quiet_below (by kernel_rfl) (by kernel_rfl) ?_
  repeat (go_big_quiet_step (first | (go_at_call 91; with_reducible exact c_known _ _) | (go_at_call 92; with_reducible exact c_kept _ _) | (go_at_call 93; with_reducible exact c_nodef _ _) | (go_at_call 93; with_reducible exact c_nodet _ _)))
  refine wpQuiet_nil ?_
  intro _ hw'
  obtain ⟨⟨dq, osq⟩, hw''⟩ := hw'
  subst hw''
  go_wp2
  go_ret
  exact ⟨rfl, hb.trans ((below_regrown w2 dq osq).mono hb.size)⟩

set_option maxRecDepth 20000 in
set_option maxHeartbeats 1000000 in
theorem check_bad4 (k : Nat) (f t i p s : Int) (b : ByteArray) (W : World) (hk : 1 ≤ k ∧ k ≤ 4) (hkp : kpt k p s b = (p, s, b)) (hf : 0 ≤ f ∧ f ≤ 71) (h : f = t) :
    Calls Tryz.prog 50 #[.agg #[.int .i64 k, .int .i64 f, .int .i64 t, .int .i64 i, .int .i64 p, .int .i64 s, .string b]] W fun e w' => e = .returned (.bool false) ∧ Below W.heap.size W w' := by
  have HK := hid (pknown_any k)
  rw [decide_eq_true (show (1 : Int) ≤ (k : Int) ∧ (k : Int) ≤ 4 by omega)] at HK
  have HT := hid (fun w => kept_any k hk.2 f t i p s b w)
  rw [hkp] at HT
  simp only at HT
  clear hk hkp
  have HNf := hid (node_any f)
  have HNt := hid (node_any t)
  rw [decide_eq_true (show 0 ≤ t ∧ t ≤ 71 by omega)] at HNt
  rw [decide_eq_true hf] at HNf
  have hft : (f == t) = true := by simp [h]
  clear hf h
  go_enter Tryz.func50, Tryz.ntmps50
  go_upto_region 1 with (fail)
  refine at_world (fun w => Pc 90 w W.heap.size k f t i p s b ∧ Below W.heap.size W w) ⟨heap_alloc_new _ _, (Below.refl _ _).alloc (Nat.le_refl _) _⟩ ?_
  rintro w2 ⟨k0, hb⟩
  obtain ⟨⟨p0, p1, p2, p3, p4, p5, p6⟩, _⟩ := seven_cells k0
  clear k0
  replace p0 := cell_regrown p0
  replace p1 := cell_regrown p1
  replace p2 := cell_regrown p2
  replace p3 := cell_regrown p3
  replace p4 := cell_regrown p4
  replace p5 := cell_regrown p5
  replace p6 := cell_regrown p6
  have c_known := reg (w := w2) (fun W' _ => same_below (HK.out W'))
  have c_kept := reg (w := w2) (fun W' _ => HT.out W')
  have c_nodef := reg (w := w2) (fun W' _ => same_below (HNf.out W'))
  have c_nodet := reg (w := w2) (fun W' _ => same_below (HNt.out W'))
  refine wp_region_quiet_below (by kernel_rfl) (by kernel_rfl) ?_
  repeat (go_big_quiet_step (first | (go_at_call 91; with_reducible exact c_known _ _) | (go_at_call 92; with_reducible exact c_kept _ _) | (go_at_call 93; with_reducible exact c_nodef _ _) | (go_at_call 93; with_reducible exact c_nodet _ _)))
  refine wpQuiet_nil ?_
  intro _ hw'
  obtain ⟨⟨dq, osq⟩, hw''⟩ := hw'
  subst hw''
  go_wp2
  go_ret
  exact ⟨rfl, hb.trans ((below_regrown w2 dq osq).mono hb.size)⟩

set_option maxRecDepth 20000 in
set_option maxHeartbeats 1000000 in
theorem check_bad5 (k : Nat) (f t i p s : Int) (b : ByteArray) (W : World) (hk : 1 ≤ k ∧ k ≤ 4) (hkp : kpt k p s b = (p, s, b)) (hf : 0 ≤ f ∧ f ≤ 71) (ht : 0 ≤ t ∧ t ≤ 71) (h2 : f ≠ t) (h : ¬ (1 ≤ i ∧ i ≤ 72057594037927935)) :
    Calls Tryz.prog 50 #[.agg #[.int .i64 k, .int .i64 f, .int .i64 t, .int .i64 i, .int .i64 p, .int .i64 s, .string b]] W fun e w' => e = .returned (.bool false) ∧ Below W.heap.size W w' := by
  have HK := hid (pknown_any k)
  rw [decide_eq_true (show (1 : Int) ≤ (k : Int) ∧ (k : Int) ≤ 4 by omega)] at HK
  have HT := hid (fun w => kept_any k hk.2 f t i p s b w)
  rw [hkp] at HT
  simp only at HT
  clear hk hkp
  have HNf := hid (node_any f)
  have HNt := hid (node_any t)
  rw [decide_eq_true hf] at HNf
  rw [decide_eq_true ht] at HNt
  have HC := hid (counted_any i)
  rw [decide_eq_false h] at HC
  have hft : (f == t) = false := by simpa using h2
  clear hf ht h h2
  go_enter Tryz.func50, Tryz.ntmps50
  go_upto_region 1 with (fail)
  refine at_world (fun w => Pc 90 w W.heap.size k f t i p s b ∧ Below W.heap.size W w) ⟨heap_alloc_new _ _, (Below.refl _ _).alloc (Nat.le_refl _) _⟩ ?_
  rintro w2 ⟨k0, hb⟩
  obtain ⟨⟨p0, p1, p2, p3, p4, p5, p6⟩, _⟩ := seven_cells k0
  clear k0
  replace p0 := cell_regrown p0
  replace p1 := cell_regrown p1
  replace p2 := cell_regrown p2
  replace p3 := cell_regrown p3
  replace p4 := cell_regrown p4
  replace p5 := cell_regrown p5
  replace p6 := cell_regrown p6
  have c_known := reg (w := w2) (fun W' _ => same_below (HK.out W'))
  have c_kept := reg (w := w2) (fun W' _ => HT.out W')
  have c_nodef := reg (w := w2) (fun W' _ => same_below (HNf.out W'))
  have c_nodet := reg (w := w2) (fun W' _ => same_below (HNt.out W'))
  have c_cnt := reg (w := w2) (fun W' _ => same_below (HC.out W'))
  refine wp_region_quiet_below (by kernel_rfl) (by kernel_rfl) ?_
  repeat (go_big_quiet_step (first | (go_at_call 91; with_reducible exact c_known _ _) | (go_at_call 92; with_reducible exact c_kept _ _) | (go_at_call 93; with_reducible exact c_nodef _ _) | (go_at_call 93; with_reducible exact c_nodet _ _) | (go_at_call 94; with_reducible exact c_cnt _ _)))
  refine wpQuiet_nil ?_
  intro _ hw'
  obtain ⟨⟨dq, osq⟩, hw''⟩ := hw'
  subst hw''
  go_wp2
  go_ret
  exact ⟨rfl, hb.trans ((below_regrown w2 dq osq).mono hb.size)⟩

set_option maxRecDepth 20000 in
set_option maxHeartbeats 4000000 in
theorem check_good (k : Nat) (f t i p s : Int) (b : ByteArray) (W : World) (hk : 1 ≤ k ∧ k ≤ 4) (hkp : kpt k p s b = (p, s, b)) (hf : 0 ≤ f ∧ f ≤ 71) (ht : 0 ≤ t ∧ t ≤ 71) (h2 : f ≠ t) (h : 1 ≤ i ∧ i ≤ 72057594037927935) :
    Calls Tryz.prog 50 #[.agg #[.int .i64 k, .int .i64 f, .int .i64 t, .int .i64 i, .int .i64 p, .int .i64 s, .string b]] W fun e w' => e = .returned (.bool (ck3 k p s && ck5 k b)) ∧ Below W.heap.size W w' := by
  have HP := hid (hasPeer_any k hk.2)
  have HS := hid (hasSeq_any k hk.2)
  have HB := hid (hasBody_any k hk.2)
  have HCP := hid (counted_any p)
  have HCS := hid (counted_any s)
  have HV3 : Hid (ck3 k p s = ((!hpP k || decide (1 ≤ p ∧ p ≤ 72057594037927935)) && (!hpS k || decide (1 ≤ s ∧ s ≤ 72057594037927935)))) := hid rfl
  have HV5 : Hid (ck5 k b = (!hpB k || (decide (b.size ≠ 0) && decide (b.size ≤ 32)))) := hid rfl
  have HK := hid (pknown_any k)
  rw [decide_eq_true (show (1 : Int) ≤ (k : Int) ∧ (k : Int) ≤ 4 by omega)] at HK
  have HT := hid (fun w => kept_any k hk.2 f t i p s b w)
  rw [hkp] at HT
  simp only at HT
  clear hk hkp
  have HNf := hid (node_any f)
  have HNt := hid (node_any t)
  rw [decide_eq_true hf] at HNf
  rw [decide_eq_true ht] at HNt
  have HC := hid (counted_any i)
  rw [decide_eq_true h] at HC
  have hft : (f == t) = false := by simpa using h2
  clear hf ht h h2
  generalize hpP k = hp at *
  generalize hpS k = hq at *
  generalize hpB k = hr at *
  generalize decide (1 ≤ p ∧ p ≤ 72057594037927935) = cp at *
  generalize decide (1 ≤ s ∧ s ≤ 72057594037927935) = cs at *
  generalize ck3 k p s = v3 at *
  generalize ck5 k b = v5 at *
  go_enter Tryz.func50, Tryz.ntmps50
  go_upto_region 1 with (fail)
  refine at_world (fun w => Pc 90 w W.heap.size k f t i p s b ∧ Below W.heap.size W w) ⟨heap_alloc_new _ _, (Below.refl _ _).alloc (Nat.le_refl _) _⟩ ?_
  rintro w2 ⟨k0, hb⟩
  obtain ⟨⟨p0, p1, p2, p3, p4, p5, p6⟩, _⟩ := seven_cells k0
  have K0 := hid k0
  clear k0
  replace p0 := cell_regrown p0
  replace p1 := cell_regrown p1
  replace p2 := cell_regrown p2
  replace p3 := cell_regrown p3
  replace p4 := cell_regrown p4
  replace p5 := cell_regrown p5
  replace p6 := cell_regrown p6
  have c_known := reg (w := w2) (fun W' _ => same_below (HK.out W'))
  have c_kept := reg (w := w2) (fun W' _ => HT.out W')
  have c_nodef := reg (w := w2) (fun W' _ => same_below (HNf.out W'))
  have c_nodet := reg (w := w2) (fun W' _ => same_below (HNt.out W'))
  have c_cnt := reg (w := w2) (fun W' _ => same_below (HC.out W'))
  refine wp_region_quiet_below (by kernel_rfl) (by kernel_rfl) ?_
  repeat (go_big_quiet_step (first | (go_at_call 91; with_reducible exact c_known _ _) | (go_at_call 92; with_reducible exact c_kept _ _) | (go_at_call 93; with_reducible exact c_nodef _ _) | (go_at_call 93; with_reducible exact c_nodet _ _) | (go_at_call 94; with_reducible exact c_cnt _ _)))
  refine wpQuiet_nil ?_
  intro _ hw'
  obtain ⟨⟨dq, osq⟩, hw''⟩ := hw'
  subst hw''
  clear p0 p1 p2 p3 p4 p5 p6 c_known c_kept c_nodef c_nodet c_cnt
  go_upto_region 3 with (fail)
  have KB := below_regrown w2 dq osq
  refine at_world (fun w => Pc 90 w W.heap.size k f t i p s b ∧ Below W.heap.size W w) ⟨keep0 K0.out KB, hb.trans (KB.mono hb.size)⟩ ?_
  clear KB K0 HK HT HNf HNt HC hb hft
  rintro w3 ⟨k3, hb⟩
  obtain ⟨⟨p0, p1, p2, p3, p4, p5, p6⟩, _⟩ := seven_cells k3
  have K3 := hid k3
  clear k3
  go_cut [57] from 38 to 57 (fun v wx => v = .bool (!v3) ∧ Below w3.heap.size w3 wx)
  case first =>
    clear HB HV5 K3
    cases hp <;> cases cp <;> cases hq <;> cases cs
    all_goals
      have HV : Hid (v3 = _) := hid HV3.out
      simp only [Bool.not_false, Bool.not_true, Bool.true_or, Bool.false_or, Bool.and_true, Bool.and_false, Bool.true_and, Bool.false_and] at HV
      clear HV3
      go_wp2_with (first
        | (go_at_call 52; refine (HP.out _).mono ?_; rintro y w' ⟨rfl, rfl⟩)
        | (go_at_call 53; refine (HS.out _).mono ?_; rintro y w' ⟨rfl, rfl⟩)
        | (go_at_call 94; with_reducible refine (HCP.out _).mono ?_; rintro y w' ⟨rfl, rfl⟩)
        | (go_at_call 94; with_reducible refine (HCS.out _).mono ?_; rintro y w' ⟨rfl, rfl⟩))
      go_meet
      exact ⟨by rw [HV.out]; rfl, Below.refl _ _⟩
  case rest =>
    obtain ⟨rfl, b4⟩ := hcut
    obtain ⟨w4, rfl⟩ : ∃ w, w = wc := ⟨_, rfl⟩
    have K4 := keep0 K3.out b4
    have hb4 := hb.trans (b4.mono hb.size)
    clear K3 b4 hb p0 p1 p2 p3 p4 p5 p6 HP HS HCP HCS HV3
    obtain ⟨⟨p0, p1, p2, p3, p4, p5, p6⟩, _⟩ := seven_cells K4
    clear K4
    cases v3
    · go_wp2
      go_ret
      exact ⟨rfl, hb4⟩
    · cases hr
      · have HV : Hid (v5 = true) := hid HV5.out
        clear HV5
        go_wp2_with (go_at_call 54; refine (HB.out _).mono ?_; rintro y w' ⟨rfl, rfl⟩)
        go_ret
        exact ⟨by rw [HV.out]; rfl, hb4⟩
      · by_cases hz : b.size = 0
        · have HV : Hid (v5 = false) := hid (by rw [HV5.out]; simp [hz])
          have hz1 := beqil b hz
          have hz2 : b.toList.isEmpty = true := by rw [hz1]; rfl
          clear HV5 hz
          go_wp2_with (go_at_call 54; refine (HB.out _).mono ?_; rintro y w' ⟨rfl, rfl⟩)
          go_ret
          exact ⟨by rw [HV.out]; rfl, hb4⟩
        · have hz1 := bneil b hz
          have hz2 : b.toList.isEmpty = false := by simpa using hz1
          by_cases hy : b.size ≤ 32
          · have HV : Hid (v5 = true) := hid (by rw [HV5.out]; simp [hz, hy])
            have hy1 : decide ((b.size : Int) ≤ 32) = true := by simp; omega
            have hy2 : (b.size : Int) ≤ 32 := by omega
            clear HV5 hz hy
            go_wp2_with (go_at_call 54; refine (HB.out _).mono ?_; rintro y w' ⟨rfl, rfl⟩)
            go_ret
            exact ⟨by rw [HV.out]; rfl, hb4⟩
          · have HV : Hid (v5 = false) := hid (by rw [HV5.out]; simp [hy])
            have hy1 : decide ((b.size : Int) ≤ 32) = false := by simp; omega
            have hy2 : 32 < (b.size : Int) := by omega
            clear HV5 hz hy
            go_wp2_with (go_at_call 54; refine (HB.out _).mono ?_; rintro y w' ⟨rfl, rfl⟩)
            go_ret
            exact ⟨by rw [HV.out]; rfl, hb4⟩
end Go.Proofs.YtdphdodjidbngaaGreat

namespace Go.Proofs.YtdphdodjidbngaaGreat
open Go.RowKit Go.Sort
set_option linter.unusedVariables false
set_option linter.unusedSimpArgs false

theorem kpt_is (k : Nat) (p s : Int) (b : ByteArray) : (kpt k p s b).1 = (if hpP k then p else 0) ∧ (kpt k p s b).2.1 = (if hpS k then s else 0) ∧ (kpt k p s b).2.2 = (if hpB k then b else ⟨#[]⟩) := ⟨rfl, rfl, rfl⟩
theorem pkcheck_any (k f t i p s : Int) (b : ByteArray) (W : World) :
    Calls Tryz.prog 50 #[.agg #[.int .i64 k, .int .i64 f, .int .i64 t, .int .i64 i, .int .i64 p, .int .i64 s, .string b]] W fun e w' => e = .returned (.bool (okP k f t i p s b.data.toList)) ∧ Below W.heap.size W w' := by
  have hbl : b.data.toList.length = b.size := by rw [Array.length_toList]; rfl
  by_cases hk : 1 ≤ k ∧ k ≤ 4
  case neg =>
    have : okP k f t i p s b.data.toList = false := by rw [okP, decide_eq_false hk]; simp
    rw [this]; exact check_bad0 k f t i p s b W hk
  obtain ⟨n, rfl⟩ : ∃ n : Nat, k = n := ⟨k.toNat, by omega⟩
  have hn : 1 ≤ n ∧ n ≤ 4 := by omega
  obtain ⟨e1, e2, e3⟩ := kpt_is n p s b
  by_cases h1 : (kpt n p s b).1 = p
  case neg =>
    have : okP n f t i p s b.data.toList = false := by
      rw [okP, Int.toNat_natCast]
      cases hp : hpP n with
      | true => rw [hp] at e1; exact absurd (by simpa using e1) h1
      | false =>
        rw [hp] at e1
        have : (p == 0) = false := by rw [beq_eq_false_iff_ne]; intro h; rw [e1] at h1; exact h1 (by simp [h])
        simp [inS, this]
    rw [this]; exact check_bad1a n f t i p s b W hn h1
  by_cases h2 : (kpt n p s b).2.1 = s
  case neg =>
    have : okP n f t i p s b.data.toList = false := by
      rw [okP, Int.toNat_natCast]
      cases hp : hpS n with
      | true => rw [hp] at e2; exact absurd (by simpa using e2) h2
      | false =>
        rw [hp] at e2
        have : (s == 0) = false := by rw [beq_eq_false_iff_ne]; intro h; rw [e2] at h2; exact h2 (by simp [h])
        simp [inS, this]
    rw [this]; exact check_bad1b n f t i p s b W hn ⟨h1, h2⟩
  by_cases h3 : (kpt n p s b).2.2 = b
  case neg =>
    have : okP n f t i p s b.data.toList = false := by
      rw [okP, Int.toNat_natCast]
      cases hp : hpB n with
      | true => rw [hp] at e3; exact absurd (by simpa using e3) h3
      | false =>
        rw [hp] at e3
        have : ¬ b.data.toList.length = 0 := by
          intro h
          have hb0 : b = ⟨#[]⟩ := ByteArray.ext (Array.ext' (by simpa using List.eq_nil_of_length_eq_zero h))
          rw [e3] at h3
          exact h3 (by simpa using hb0.symm)
        simp only [inT, this, decide_false, Bool.false_eq_true, if_false, Bool.and_false]
    rw [this]; exact check_bad1c n f t i p s b W hn ⟨h1, h2, h3⟩
  have hkp : kpt n p s b = (p, s, b) := Prod.ext h1 (Prod.ext h2 h3)
  by_cases hf : 0 ≤ f ∧ f ≤ 71
  case neg =>
    have : okP n f t i p s b.data.toList = false := by rw [okP, decide_eq_false hf]; simp
    rw [this]; exact check_bad2 n f t i p s b W hn hkp hf
  by_cases ht : 0 ≤ t ∧ t ≤ 71
  case neg =>
    have : okP n f t i p s b.data.toList = false := by rw [okP, decide_eq_false ht]; simp
    rw [this]; exact check_bad3 n f t i p s b W hn hkp hf ht
  by_cases hft : f = t
  · have : okP n f t i p s b.data.toList = false := by rw [okP, decide_eq_false (show ¬ f ≠ t by simp [hft])]; simp
    rw [this]; exact check_bad4 n f t i p s b W hn hkp hf hft
  by_cases hi : 1 ≤ i ∧ i ≤ 72057594037927935
  case neg =>
    have : okP n f t i p s b.data.toList = false := by rw [okP, show inS true 1 72057594037927935 i = false from decide_eq_false hi]; simp
    rw [this]; exact check_bad5 n f t i p s b W hn hkp hf ht hft hi
  have : okP n f t i p s b.data.toList = (ck3 n p s && ck5 n b) := by
    rw [okP, decide_eq_true hk, decide_eq_true hf, decide_eq_true ht, decide_eq_true hft, show inS true 1 72057594037927935 i = true from decide_eq_true hi, Int.toNat_natCast, ck3, ck5]
    rw [e1] at h1; rw [e2] at h2; rw [e3] at h3
    have g1 : inS (hpP n) 1 72057594037927935 p = (!hpP n || decide (1 ≤ p ∧ p ≤ 72057594037927935)) := by
      cases hp : hpP n with
      | true => simp [inS]
      | false => rw [hp] at h1; simp at h1; simp [inS, ← h1]
    have g2 : inS (hpS n) 1 72057594037927935 s = (!hpS n || decide (1 ≤ s ∧ s ≤ 72057594037927935)) := by
      cases hp : hpS n with
      | true => simp [inS]
      | false => rw [hp] at h2; simp at h2; simp [inS, ← h2]
    have g3 : inT (hpB n) b.data.toList = (!hpB n || (decide (b.size ≠ 0) && decide (b.size ≤ 32))) := by
      cases hp : hpB n with
      | true =>
        simp only [inT, if_true, hbl, Bool.not_true, Bool.false_or]
        rw [← Bool.decide_and]
        congr 1
        apply propext
        omega
      | false => rw [hp] at h3; simp at h3; simp [inT, ← h3]
    rw [g1, g2, g3]
    simp only [Bool.true_and, Bool.and_assoc]
  rw [this]
  exact check_good n f t i p s b W hn hkp hf ht hft hi

theorem r23num_any (hb : Bool) (n : Int) (w : World) : Calls Tryz.prog 42 #[.bool hb, .int .i64 n] w fun e w' => e = .returned (.bool (inS hb 1 72057594037927935 n)) ∧ w = w' := by
  cases hb with
  | false =>
    go_enter Tryz.func42, Tryz.ntmps42
    go_wp2
    go_ret
    exact ⟨rfl, rfl⟩
  | true =>
    have HI : Hid (inS true 1 72057594037927935 n = decide (1 ≤ n ∧ n ≤ 72057594037927935)) := hid rfl
    by_cases h1 : 0 < n
    · by_cases h2 : n ≤ 72057594037927935
      · have d1 : decide (0 < n) = true := decide_eq_true h1
        have d2 : decide (n ≤ 72057594037927935) = true := decide_eq_true h2
        rw [decide_eq_true (by omega)] at HI
        go_enter Tryz.func42, Tryz.ntmps42
        go_wp2
        go_ret
        exact ⟨by rw [HI.out]; rfl, rfl⟩
      · have d1 : decide (0 < n) = true := decide_eq_true h1
        have d2 : decide (n ≤ 72057594037927935) = false := decide_eq_false h2
        have h3 : 72057594037927935 < n := by omega
        rw [decide_eq_false (by omega)] at HI
        clear h2
        go_enter Tryz.func42, Tryz.ntmps42
        go_wp2
        go_ret
        exact ⟨by rw [HI.out]; rfl, rfl⟩
    · have d1 : decide (0 < n) = false := decide_eq_false h1
      have h3 : n ≤ 0 := by omega
      rw [decide_eq_false (by omega)] at HI
      clear h1
      go_enter Tryz.func42, Tryz.ntmps42
      go_wp2
      go_ret
      exact ⟨by rw [HI.out]; rfl, rfl⟩

theorem rcheck_bad0 (k f t i p s : Int) (b : ByteArray) (W : World) (h : k < 1) : Calls Tryz.prog 21 #[.agg #[.int .i64 k, .int .i64 f, .int .i64 t, .int .i64 i, .int .i64 p, .int .i64 s, .string b]] W fun e w' => e = .returned (.bool false) ∧ Below W.heap.size W w' := by
  have d_kl : decide (k < 1) = true := decide_eq_true h
  go_enter Tryz.func21, Tryz.ntmps21
  go_upto_region 1 with (fail)
  refine at_world (fun w => Pc 30 w W.heap.size k f t i p s b ∧ Below W.heap.size W w) ⟨heap_alloc_new _ _, (Below.refl _ _).alloc (Nat.le_refl _) _⟩ ?_
  rintro w2 ⟨k0, hb⟩
  obtain ⟨⟨p0, p1, p2, p3, p4, p5, p6⟩, f0, f1, f2, f3, f4, f5, f6⟩ := seven_cells k0
  clear k0
  go_wp2
  go_ret
  exact ⟨rfl, hb⟩

theorem rcheck_bad1 (k f t i p s : Int) (b : ByteArray) (W : World) (h0 : 1 ≤ k) (h : 4 < k) : Calls Tryz.prog 21 #[.agg #[.int .i64 k, .int .i64 f, .int .i64 t, .int .i64 i, .int .i64 p, .int .i64 s, .string b]] W fun e w' => e = .returned (.bool false) ∧ Below W.heap.size W w' := by
  have e_kl : 1 ≤ k := by omega
  have d_kl : decide (k < 1) = false := by simp; omega
  have d_kg : decide (4 < k) = true := decide_eq_true h
  clear h0
  go_enter Tryz.func21, Tryz.ntmps21
  go_upto_region 1 with (fail)
  refine at_world (fun w => Pc 30 w W.heap.size k f t i p s b ∧ Below W.heap.size W w) ⟨heap_alloc_new _ _, (Below.refl _ _).alloc (Nat.le_refl _) _⟩ ?_
  rintro w2 ⟨k0, hb⟩
  obtain ⟨⟨p0, p1, p2, p3, p4, p5, p6⟩, f0, f1, f2, f3, f4, f5, f6⟩ := seven_cells k0
  clear k0
  go_wp2
  go_ret
  exact ⟨rfl, hb⟩

theorem rcheck_bad2 (k f t i p s : Int) (b : ByteArray) (W : World) (h0 : 1 ≤ k) (h1 : k ≤ 4) (h : f < 0) : Calls Tryz.prog 21 #[.agg #[.int .i64 k, .int .i64 f, .int .i64 t, .int .i64 i, .int .i64 p, .int .i64 s, .string b]] W fun e w' => e = .returned (.bool false) ∧ Below W.heap.size W w' := by
  have e_kl : 1 ≤ k := by omega
  have d_kl : decide (k < 1) = false := by simp; omega
  have e_kg : k ≤ 4 := by omega
  have d_kg : decide (4 < k) = false := by simp; omega
  have d_fl : decide (f < 0) = true := decide_eq_true h
  clear h0
  clear h1
  go_enter Tryz.func21, Tryz.ntmps21
  go_upto_region 1 with (fail)
  refine at_world (fun w => Pc 30 w W.heap.size k f t i p s b ∧ Below W.heap.size W w) ⟨heap_alloc_new _ _, (Below.refl _ _).alloc (Nat.le_refl _) _⟩ ?_
  rintro w2 ⟨k0, hb⟩
  obtain ⟨⟨p0, p1, p2, p3, p4, p5, p6⟩, f0, f1, f2, f3, f4, f5, f6⟩ := seven_cells k0
  clear k0
  go_wp2
  go_ret
  exact ⟨rfl, hb⟩

theorem rcheck_bad3 (k f t i p s : Int) (b : ByteArray) (W : World) (h0 : 1 ≤ k) (h1 : k ≤ 4) (h2 : 0 ≤ f) (h : 71 < f) : Calls Tryz.prog 21 #[.agg #[.int .i64 k, .int .i64 f, .int .i64 t, .int .i64 i, .int .i64 p, .int .i64 s, .string b]] W fun e w' => e = .returned (.bool false) ∧ Below W.heap.size W w' := by
  have e_kl : 1 ≤ k := by omega
  have d_kl : decide (k < 1) = false := by simp; omega
  have e_kg : k ≤ 4 := by omega
  have d_kg : decide (4 < k) = false := by simp; omega
  have e_fl : 0 ≤ f := by omega
  have d_fl : decide (f < 0) = false := by simp; omega
  have d_fg : decide (71 < f) = true := decide_eq_true h
  clear h0
  clear h1
  clear h2
  go_enter Tryz.func21, Tryz.ntmps21
  go_upto_region 1 with (fail)
  refine at_world (fun w => Pc 30 w W.heap.size k f t i p s b ∧ Below W.heap.size W w) ⟨heap_alloc_new _ _, (Below.refl _ _).alloc (Nat.le_refl _) _⟩ ?_
  rintro w2 ⟨k0, hb⟩
  obtain ⟨⟨p0, p1, p2, p3, p4, p5, p6⟩, f0, f1, f2, f3, f4, f5, f6⟩ := seven_cells k0
  clear k0
  go_wp2
  go_ret
  exact ⟨rfl, hb⟩

theorem rcheck_bad4 (k f t i p s : Int) (b : ByteArray) (W : World) (h0 : 1 ≤ k) (h1 : k ≤ 4) (h2 : 0 ≤ f) (h3 : f ≤ 71) (h : t < 0) : Calls Tryz.prog 21 #[.agg #[.int .i64 k, .int .i64 f, .int .i64 t, .int .i64 i, .int .i64 p, .int .i64 s, .string b]] W fun e w' => e = .returned (.bool false) ∧ Below W.heap.size W w' := by
  have e_kl : 1 ≤ k := by omega
  have d_kl : decide (k < 1) = false := by simp; omega
  have e_kg : k ≤ 4 := by omega
  have d_kg : decide (4 < k) = false := by simp; omega
  have e_fl : 0 ≤ f := by omega
  have d_fl : decide (f < 0) = false := by simp; omega
  have e_fg : f ≤ 71 := by omega
  have d_fg : decide (71 < f) = false := by simp; omega
  have d_tl : decide (t < 0) = true := decide_eq_true h
  clear h0
  clear h1
  clear h2
  clear h3
  go_enter Tryz.func21, Tryz.ntmps21
  go_upto_region 1 with (fail)
  refine at_world (fun w => Pc 30 w W.heap.size k f t i p s b ∧ Below W.heap.size W w) ⟨heap_alloc_new _ _, (Below.refl _ _).alloc (Nat.le_refl _) _⟩ ?_
  rintro w2 ⟨k0, hb⟩
  obtain ⟨⟨p0, p1, p2, p3, p4, p5, p6⟩, f0, f1, f2, f3, f4, f5, f6⟩ := seven_cells k0
  clear k0
  go_wp2
  go_ret
  exact ⟨rfl, hb⟩

theorem rcheck_bad5 (k f t i p s : Int) (b : ByteArray) (W : World) (h0 : 1 ≤ k) (h1 : k ≤ 4) (h2 : 0 ≤ f) (h3 : f ≤ 71) (h4 : 0 ≤ t) (h : 71 < t) : Calls Tryz.prog 21 #[.agg #[.int .i64 k, .int .i64 f, .int .i64 t, .int .i64 i, .int .i64 p, .int .i64 s, .string b]] W fun e w' => e = .returned (.bool false) ∧ Below W.heap.size W w' := by
  have e_kl : 1 ≤ k := by omega
  have d_kl : decide (k < 1) = false := by simp; omega
  have e_kg : k ≤ 4 := by omega
  have d_kg : decide (4 < k) = false := by simp; omega
  have e_fl : 0 ≤ f := by omega
  have d_fl : decide (f < 0) = false := by simp; omega
  have e_fg : f ≤ 71 := by omega
  have d_fg : decide (71 < f) = false := by simp; omega
  have e_tl : 0 ≤ t := by omega
  have d_tl : decide (t < 0) = false := by simp; omega
  have d_tg : decide (71 < t) = true := decide_eq_true h
  clear h0
  clear h1
  clear h2
  clear h3
  clear h4
  go_enter Tryz.func21, Tryz.ntmps21
  go_upto_region 1 with (fail)
  refine at_world (fun w => Pc 30 w W.heap.size k f t i p s b ∧ Below W.heap.size W w) ⟨heap_alloc_new _ _, (Below.refl _ _).alloc (Nat.le_refl _) _⟩ ?_
  rintro w2 ⟨k0, hb⟩
  obtain ⟨⟨p0, p1, p2, p3, p4, p5, p6⟩, f0, f1, f2, f3, f4, f5, f6⟩ := seven_cells k0
  clear k0
  go_wp2
  go_ret
  exact ⟨rfl, hb⟩

theorem rcheck_bad6 (k f t i p s : Int) (b : ByteArray) (W : World) (h0 : 1 ≤ k) (h1 : k ≤ 4) (h2 : 0 ≤ f) (h3 : f ≤ 71) (h4 : 0 ≤ t) (h5 : t ≤ 71) (h : f = t) : Calls Tryz.prog 21 #[.agg #[.int .i64 k, .int .i64 f, .int .i64 t, .int .i64 i, .int .i64 p, .int .i64 s, .string b]] W fun e w' => e = .returned (.bool false) ∧ Below W.heap.size W w' := by
  have e_kl : 1 ≤ k := by omega
  have d_kl : decide (k < 1) = false := by simp; omega
  have e_kg : k ≤ 4 := by omega
  have d_kg : decide (4 < k) = false := by simp; omega
  have e_fl : 0 ≤ f := by omega
  have d_fl : decide (f < 0) = false := by simp; omega
  have e_fg : f ≤ 71 := by omega
  have d_fg : decide (71 < f) = false := by simp; omega
  have e_tl : 0 ≤ t := by omega
  have d_tl : decide (t < 0) = false := by simp; omega
  have e_tg : t ≤ 71 := by omega
  have d_tg : decide (71 < t) = false := by simp; omega
  have hft : (f == t) = true := by simp [h]
  clear h
  clear h0
  clear h1
  clear h2
  clear h3
  clear h4
  clear h5
  go_enter Tryz.func21, Tryz.ntmps21
  go_upto_region 1 with (fail)
  refine at_world (fun w => Pc 30 w W.heap.size k f t i p s b ∧ Below W.heap.size W w) ⟨heap_alloc_new _ _, (Below.refl _ _).alloc (Nat.le_refl _) _⟩ ?_
  rintro w2 ⟨k0, hb⟩
  obtain ⟨⟨p0, p1, p2, p3, p4, p5, p6⟩, f0, f1, f2, f3, f4, f5, f6⟩ := seven_cells k0
  clear k0
  go_wp2
  go_ret
  exact ⟨rfl, hb⟩

set_option maxHeartbeats 2000000 in
theorem rcheck_good1 (f t i p s : Int) (b : ByteArray) (W : World) (h2 : 0 ≤ f) (h3 : f ≤ 71) (h4 : 0 ≤ t) (h5 : t ≤ 71) (h6 : f ≠ t) : Calls Tryz.prog 21 #[.agg #[.int .i64 1, .int .i64 f, .int .i64 t, .int .i64 i, .int .i64 p, .int .i64 s, .string b]] W fun e w' => e = .returned (.bool (inS true 1 72057594037927935 i && inS true 1 72057594037927935 p && inS true 1 72057594037927935 s && decide (b.size ≤ 32) && (decide (0 < b.size) == true))) ∧ Below W.heap.size W w' := by
  have d_fl : decide (f < 0) = false := by simp; omega
  have d_fg : decide (71 < f) = false := by simp; omega
  have d_tl : decide (t < 0) = false := by simp; omega
  have d_tg : decide (71 < t) = false := by simp; omega
  have hft : (f == t) = false := by simpa using h6
  clear h6
  have H1 := hid (r23num_any true i)
  have H2 := hid (r23num_any true p)
  have H3 := hid (r23num_any true s)
  generalize inS true 1 72057594037927935 i = b1 at *
  generalize inS true 1 72057594037927935 p = b2 at *
  generalize inS true 1 72057594037927935 s = b3 at *
  cases b1
  case' true => cases b2
  case' true.true => cases b3
  case' true.true.true =>
    rcases (by omega : b.size = 0 ∨ (b.size ≠ 0 ∧ b.size ≤ 32) ∨ 32 < b.size) with hz | ⟨hz, hy⟩ | hz
    case' inl =>
      have HV : Hid ((true && true && true && decide (b.size ≤ 32) && (decide (0 < b.size) == true)) = (false == true)) := hid (by rw [hz]; rfl)
      have hz2 : decide (32 < (b.size : Int)) = false := by rw [hz]; rfl
      have hz3 : decide (0 < (b.size : Int)) = false := by rw [hz]; rfl
      have hz4 : (b.size : Int) ≤ 32 := by omega
      have hz5 : (b.size : Int) ≤ 0 := by omega
      have hz6 : decide (0 < b.size) = false := by rw [hz]; rfl
      clear hz
    case' inr.inl =>
      have HV : Hid ((true && true && true && decide (b.size ≤ 32) && (decide (0 < b.size) == true)) = (true == true)) := hid (by rw [decide_eq_true hy, decide_eq_true (by omega : 0 < b.size)]; rfl)
      have hz2 : decide (32 < (b.size : Int)) = false := decide_eq_false (by omega)
      have hz3 : decide (0 < (b.size : Int)) = true := decide_eq_true (by omega)
      have hz4 : (b.size : Int) ≤ 32 := by omega
      have hz5 : 0 < (b.size : Int) := by omega
      have hz6 : decide (0 < b.size) = true := decide_eq_true (by omega)
      clear hz hy
    case' inr.inr =>
      have HV : Hid ((true && true && true && decide (b.size ≤ 32) && (decide (0 < b.size) == true)) = false) := hid (by rw [decide_eq_false (by omega : ¬ b.size ≤ 32)]; rfl)
      have hz2 : decide (32 < (b.size : Int)) = true := decide_eq_true (by omega)
      have hz4 : 32 < (b.size : Int) := by omega
      clear hz
  case' true.true.false => have HV : Hid ((true && true && false && decide (b.size ≤ 32) && (decide (0 < b.size) == true)) = false) := hid rfl
  case' true.false => have HV : Hid ((true && false && b3 && decide (b.size ≤ 32) && (decide (0 < b.size) == true)) = false) := hid rfl
  case' false => have HV : Hid ((false && b2 && b3 && decide (b.size ≤ 32) && (decide (0 < b.size) == true)) = false) := hid rfl
  all_goals
    rw [HV.out]
    clear HV
    go_enter Tryz.func21, Tryz.ntmps21
    go_upto_region 1 with (fail)
    refine at_world (fun w => Pc 30 w W.heap.size 1 f t i p s b ∧ Below W.heap.size W w) ⟨heap_alloc_new _ _, (Below.refl _ _).alloc (Nat.le_refl _) _⟩ ?_
    rintro w2 ⟨k0, hb⟩
    obtain ⟨⟨p0, p1, p2, p3, p4, p5, p6⟩, f0, f1, f2, f3, f4, f5, f6⟩ := seven_cells k0
    clear k0
    go_wp2_with (first
      | (go_at_call 42; with_reducible refine (H1.out _).mono ?_; rintro y w' ⟨rfl, rfl⟩)
      | (go_at_call 42; with_reducible refine (H2.out _).mono ?_; rintro y w' ⟨rfl, rfl⟩)
      | (go_at_call 42; with_reducible refine (H3.out _).mono ?_; rintro y w' ⟨rfl, rfl⟩))
    go_ret
    exact ⟨rfl, hb⟩

set_option maxHeartbeats 2000000 in
theorem rcheck_good2 (f t i p s : Int) (b : ByteArray) (W : World) (h2 : 0 ≤ f) (h3 : f ≤ 71) (h4 : 0 ≤ t) (h5 : t ≤ 71) (h6 : f ≠ t) : Calls Tryz.prog 21 #[.agg #[.int .i64 2, .int .i64 f, .int .i64 t, .int .i64 i, .int .i64 p, .int .i64 s, .string b]] W fun e w' => e = .returned (.bool (inS true 1 72057594037927935 i && inS true 1 72057594037927935 p && inS true 1 72057594037927935 s && decide (b.size ≤ 32) && (decide (0 < b.size) == false))) ∧ Below W.heap.size W w' := by
  have d_fl : decide (f < 0) = false := by simp; omega
  have d_fg : decide (71 < f) = false := by simp; omega
  have d_tl : decide (t < 0) = false := by simp; omega
  have d_tg : decide (71 < t) = false := by simp; omega
  have hft : (f == t) = false := by simpa using h6
  clear h6
  have H1 := hid (r23num_any true i)
  have H2 := hid (r23num_any true p)
  have H3 := hid (r23num_any true s)
  generalize inS true 1 72057594037927935 i = b1 at *
  generalize inS true 1 72057594037927935 p = b2 at *
  generalize inS true 1 72057594037927935 s = b3 at *
  cases b1
  case' true => cases b2
  case' true.true => cases b3
  case' true.true.true =>
    rcases (by omega : b.size = 0 ∨ (b.size ≠ 0 ∧ b.size ≤ 32) ∨ 32 < b.size) with hz | ⟨hz, hy⟩ | hz
    case' inl =>
      have HV : Hid ((true && true && true && decide (b.size ≤ 32) && (decide (0 < b.size) == false)) = (false == false)) := hid (by rw [hz]; rfl)
      have hz2 : decide (32 < (b.size : Int)) = false := by rw [hz]; rfl
      have hz3 : decide (0 < (b.size : Int)) = false := by rw [hz]; rfl
      have hz4 : (b.size : Int) ≤ 32 := by omega
      have hz5 : (b.size : Int) ≤ 0 := by omega
      have hz6 : decide (0 < b.size) = false := by rw [hz]; rfl
      clear hz
    case' inr.inl =>
      have HV : Hid ((true && true && true && decide (b.size ≤ 32) && (decide (0 < b.size) == false)) = (true == false)) := hid (by rw [decide_eq_true hy, decide_eq_true (by omega : 0 < b.size)]; rfl)
      have hz2 : decide (32 < (b.size : Int)) = false := decide_eq_false (by omega)
      have hz3 : decide (0 < (b.size : Int)) = true := decide_eq_true (by omega)
      have hz4 : (b.size : Int) ≤ 32 := by omega
      have hz5 : 0 < (b.size : Int) := by omega
      have hz6 : decide (0 < b.size) = true := decide_eq_true (by omega)
      clear hz hy
    case' inr.inr =>
      have HV : Hid ((true && true && true && decide (b.size ≤ 32) && (decide (0 < b.size) == false)) = false) := hid (by rw [decide_eq_false (by omega : ¬ b.size ≤ 32)]; rfl)
      have hz2 : decide (32 < (b.size : Int)) = true := decide_eq_true (by omega)
      have hz4 : 32 < (b.size : Int) := by omega
      clear hz
  case' true.true.false => have HV : Hid ((true && true && false && decide (b.size ≤ 32) && (decide (0 < b.size) == false)) = false) := hid rfl
  case' true.false => have HV : Hid ((true && false && b3 && decide (b.size ≤ 32) && (decide (0 < b.size) == false)) = false) := hid rfl
  case' false => have HV : Hid ((false && b2 && b3 && decide (b.size ≤ 32) && (decide (0 < b.size) == false)) = false) := hid rfl
  all_goals
    rw [HV.out]
    clear HV
    go_enter Tryz.func21, Tryz.ntmps21
    go_upto_region 1 with (fail)
    refine at_world (fun w => Pc 30 w W.heap.size 2 f t i p s b ∧ Below W.heap.size W w) ⟨heap_alloc_new _ _, (Below.refl _ _).alloc (Nat.le_refl _) _⟩ ?_
    rintro w2 ⟨k0, hb⟩
    obtain ⟨⟨p0, p1, p2, p3, p4, p5, p6⟩, f0, f1, f2, f3, f4, f5, f6⟩ := seven_cells k0
    clear k0
    go_wp2_with (first
      | (go_at_call 42; with_reducible refine (H1.out _).mono ?_; rintro y w' ⟨rfl, rfl⟩)
      | (go_at_call 42; with_reducible refine (H2.out _).mono ?_; rintro y w' ⟨rfl, rfl⟩)
      | (go_at_call 42; with_reducible refine (H3.out _).mono ?_; rintro y w' ⟨rfl, rfl⟩))
    go_ret
    exact ⟨rfl, hb⟩

set_option maxHeartbeats 2000000 in
theorem rcheck_good3 (f t i p s : Int) (b : ByteArray) (W : World) (h2 : 0 ≤ f) (h3 : f ≤ 71) (h4 : 0 ≤ t) (h5 : t ≤ 71) (h6 : f ≠ t) : Calls Tryz.prog 21 #[.agg #[.int .i64 3, .int .i64 f, .int .i64 t, .int .i64 i, .int .i64 p, .int .i64 s, .string b]] W fun e w' => e = .returned (.bool (inS true 1 72057594037927935 i && inS true 1 72057594037927935 p && inS false 1 72057594037927935 s && decide (b.size ≤ 32) && (decide (0 < b.size) == false))) ∧ Below W.heap.size W w' := by
  have d_fl : decide (f < 0) = false := by simp; omega
  have d_fg : decide (71 < f) = false := by simp; omega
  have d_tl : decide (t < 0) = false := by simp; omega
  have d_tg : decide (71 < t) = false := by simp; omega
  have hft : (f == t) = false := by simpa using h6
  clear h6
  have H1 := hid (r23num_any true i)
  have H2 := hid (r23num_any true p)
  have H3 := hid (r23num_any false s)
  generalize inS true 1 72057594037927935 i = b1 at *
  generalize inS true 1 72057594037927935 p = b2 at *
  generalize inS false 1 72057594037927935 s = b3 at *
  cases b1
  case' true => cases b2
  case' true.true => cases b3
  case' true.true.true =>
    rcases (by omega : b.size = 0 ∨ (b.size ≠ 0 ∧ b.size ≤ 32) ∨ 32 < b.size) with hz | ⟨hz, hy⟩ | hz
    case' inl =>
      have HV : Hid ((true && true && true && decide (b.size ≤ 32) && (decide (0 < b.size) == false)) = (false == false)) := hid (by rw [hz]; rfl)
      have hz2 : decide (32 < (b.size : Int)) = false := by rw [hz]; rfl
      have hz3 : decide (0 < (b.size : Int)) = false := by rw [hz]; rfl
      have hz4 : (b.size : Int) ≤ 32 := by omega
      have hz5 : (b.size : Int) ≤ 0 := by omega
      have hz6 : decide (0 < b.size) = false := by rw [hz]; rfl
      clear hz
    case' inr.inl =>
      have HV : Hid ((true && true && true && decide (b.size ≤ 32) && (decide (0 < b.size) == false)) = (true == false)) := hid (by rw [decide_eq_true hy, decide_eq_true (by omega : 0 < b.size)]; rfl)
      have hz2 : decide (32 < (b.size : Int)) = false := decide_eq_false (by omega)
      have hz3 : decide (0 < (b.size : Int)) = true := decide_eq_true (by omega)
      have hz4 : (b.size : Int) ≤ 32 := by omega
      have hz5 : 0 < (b.size : Int) := by omega
      have hz6 : decide (0 < b.size) = true := decide_eq_true (by omega)
      clear hz hy
    case' inr.inr =>
      have HV : Hid ((true && true && true && decide (b.size ≤ 32) && (decide (0 < b.size) == false)) = false) := hid (by rw [decide_eq_false (by omega : ¬ b.size ≤ 32)]; rfl)
      have hz2 : decide (32 < (b.size : Int)) = true := decide_eq_true (by omega)
      have hz4 : 32 < (b.size : Int) := by omega
      clear hz
  case' true.true.false => have HV : Hid ((true && true && false && decide (b.size ≤ 32) && (decide (0 < b.size) == false)) = false) := hid rfl
  case' true.false => have HV : Hid ((true && false && b3 && decide (b.size ≤ 32) && (decide (0 < b.size) == false)) = false) := hid rfl
  case' false => have HV : Hid ((false && b2 && b3 && decide (b.size ≤ 32) && (decide (0 < b.size) == false)) = false) := hid rfl
  all_goals
    rw [HV.out]
    clear HV
    go_enter Tryz.func21, Tryz.ntmps21
    go_upto_region 1 with (fail)
    refine at_world (fun w => Pc 30 w W.heap.size 3 f t i p s b ∧ Below W.heap.size W w) ⟨heap_alloc_new _ _, (Below.refl _ _).alloc (Nat.le_refl _) _⟩ ?_
    rintro w2 ⟨k0, hb⟩
    obtain ⟨⟨p0, p1, p2, p3, p4, p5, p6⟩, f0, f1, f2, f3, f4, f5, f6⟩ := seven_cells k0
    clear k0
    go_wp2_with (first
      | (go_at_call 42; with_reducible refine (H1.out _).mono ?_; rintro y w' ⟨rfl, rfl⟩)
      | (go_at_call 42; with_reducible refine (H2.out _).mono ?_; rintro y w' ⟨rfl, rfl⟩)
      | (go_at_call 42; with_reducible refine (H3.out _).mono ?_; rintro y w' ⟨rfl, rfl⟩))
    go_ret
    exact ⟨rfl, hb⟩

set_option maxHeartbeats 2000000 in
theorem rcheck_good4 (f t i p s : Int) (b : ByteArray) (W : World) (h2 : 0 ≤ f) (h3 : f ≤ 71) (h4 : 0 ≤ t) (h5 : t ≤ 71) (h6 : f ≠ t) : Calls Tryz.prog 21 #[.agg #[.int .i64 4, .int .i64 f, .int .i64 t, .int .i64 i, .int .i64 p, .int .i64 s, .string b]] W fun e w' => e = .returned (.bool (inS true 1 72057594037927935 i && inS false 1 72057594037927935 p && inS false 1 72057594037927935 s && decide (b.size ≤ 32) && (decide (0 < b.size) == true))) ∧ Below W.heap.size W w' := by
  have d_fl : decide (f < 0) = false := by simp; omega
  have d_fg : decide (71 < f) = false := by simp; omega
  have d_tl : decide (t < 0) = false := by simp; omega
  have d_tg : decide (71 < t) = false := by simp; omega
  have hft : (f == t) = false := by simpa using h6
  clear h6
  have H1 := hid (r23num_any true i)
  have H2 := hid (r23num_any false p)
  have H3 := hid (r23num_any false s)
  generalize inS true 1 72057594037927935 i = b1 at *
  generalize inS false 1 72057594037927935 p = b2 at *
  generalize inS false 1 72057594037927935 s = b3 at *
  cases b1
  case' true => cases b2
  case' true.true => cases b3
  case' true.true.true =>
    rcases (by omega : b.size = 0 ∨ (b.size ≠ 0 ∧ b.size ≤ 32) ∨ 32 < b.size) with hz | ⟨hz, hy⟩ | hz
    case' inl =>
      have HV : Hid ((true && true && true && decide (b.size ≤ 32) && (decide (0 < b.size) == true)) = (false == true)) := hid (by rw [hz]; rfl)
      have hz2 : decide (32 < (b.size : Int)) = false := by rw [hz]; rfl
      have hz3 : decide (0 < (b.size : Int)) = false := by rw [hz]; rfl
      have hz4 : (b.size : Int) ≤ 32 := by omega
      have hz5 : (b.size : Int) ≤ 0 := by omega
      have hz6 : decide (0 < b.size) = false := by rw [hz]; rfl
      clear hz
    case' inr.inl =>
      have HV : Hid ((true && true && true && decide (b.size ≤ 32) && (decide (0 < b.size) == true)) = (true == true)) := hid (by rw [decide_eq_true hy, decide_eq_true (by omega : 0 < b.size)]; rfl)
      have hz2 : decide (32 < (b.size : Int)) = false := decide_eq_false (by omega)
      have hz3 : decide (0 < (b.size : Int)) = true := decide_eq_true (by omega)
      have hz4 : (b.size : Int) ≤ 32 := by omega
      have hz5 : 0 < (b.size : Int) := by omega
      have hz6 : decide (0 < b.size) = true := decide_eq_true (by omega)
      clear hz hy
    case' inr.inr =>
      have HV : Hid ((true && true && true && decide (b.size ≤ 32) && (decide (0 < b.size) == true)) = false) := hid (by rw [decide_eq_false (by omega : ¬ b.size ≤ 32)]; rfl)
      have hz2 : decide (32 < (b.size : Int)) = true := decide_eq_true (by omega)
      have hz4 : 32 < (b.size : Int) := by omega
      clear hz
  case' true.true.false => have HV : Hid ((true && true && false && decide (b.size ≤ 32) && (decide (0 < b.size) == true)) = false) := hid rfl
  case' true.false => have HV : Hid ((true && false && b3 && decide (b.size ≤ 32) && (decide (0 < b.size) == true)) = false) := hid rfl
  case' false => have HV : Hid ((false && b2 && b3 && decide (b.size ≤ 32) && (decide (0 < b.size) == true)) = false) := hid rfl
  all_goals
    rw [HV.out]
    clear HV
    go_enter Tryz.func21, Tryz.ntmps21
    go_upto_region 1 with (fail)
    refine at_world (fun w => Pc 30 w W.heap.size 4 f t i p s b ∧ Below W.heap.size W w) ⟨heap_alloc_new _ _, (Below.refl _ _).alloc (Nat.le_refl _) _⟩ ?_
    rintro w2 ⟨k0, hb⟩
    obtain ⟨⟨p0, p1, p2, p3, p4, p5, p6⟩, f0, f1, f2, f3, f4, f5, f6⟩ := seven_cells k0
    clear k0
    go_wp2_with (first
      | (go_at_call 42; with_reducible refine (H1.out _).mono ?_; rintro y w' ⟨rfl, rfl⟩)
      | (go_at_call 42; with_reducible refine (H2.out _).mono ?_; rintro y w' ⟨rfl, rfl⟩)
      | (go_at_call 42; with_reducible refine (H3.out _).mono ?_; rintro y w' ⟨rfl, rfl⟩))
    go_ret
    exact ⟨rfl, hb⟩

theorem rcheck_any (k f t i p s : Int) (b : ByteArray) (W : World) :
    Calls Tryz.prog 21 #[.agg #[.int .i64 k, .int .i64 f, .int .i64 t, .int .i64 i, .int .i64 p, .int .i64 s, .string b]] W fun e w' => e = .returned (.bool (okP k f t i p s b.data.toList)) ∧ Below W.heap.size W w' := by
  have hbl : b.data.toList.length = b.size := by rw [Array.length_toList]; rfl
  by_cases hk : 1 ≤ k ∧ k ≤ 4
  case neg =>
    have : okP k f t i p s b.data.toList = false := by rw [okP, decide_eq_false hk]; simp
    rw [this]
    rcases (by omega : k < 1 ∨ (1 ≤ k ∧ 4 < k)) with h | ⟨h, h'⟩
    · exact rcheck_bad0 k f t i p s b W h
    · exact rcheck_bad1 k f t i p s b W h h'
  by_cases hf : 0 ≤ f ∧ f ≤ 71
  case neg =>
    have : okP k f t i p s b.data.toList = false := by rw [okP, decide_eq_false hf]; simp
    rw [this]
    rcases (by omega : f < 0 ∨ (0 ≤ f ∧ 71 < f)) with h | ⟨h, h'⟩
    · exact rcheck_bad2 k f t i p s b W hk.1 hk.2 h
    · exact rcheck_bad3 k f t i p s b W hk.1 hk.2 h h'
  by_cases ht : 0 ≤ t ∧ t ≤ 71
  case neg =>
    have : okP k f t i p s b.data.toList = false := by rw [okP, decide_eq_false ht]; simp
    rw [this]
    rcases (by omega : t < 0 ∨ (0 ≤ t ∧ 71 < t)) with h | ⟨h, h'⟩
    · exact rcheck_bad4 k f t i p s b W hk.1 hk.2 hf.1 hf.2 h
    · exact rcheck_bad5 k f t i p s b W hk.1 hk.2 hf.1 hf.2 h h'
  by_cases hft : f = t
  · have : okP k f t i p s b.data.toList = false := by rw [okP, decide_eq_false (show ¬ f ≠ t by simp [hft])]; simp
    rw [this]
    exact rcheck_bad6 k f t i p s b W hk.1 hk.2 hf.1 hf.2 ht.1 ht.2 hft
  have g3 : ∀ n : Nat, inT (hpB n) b.data.toList = (decide (b.size ≤ 32) && (decide (0 < b.size) == hpB n)) := fun n => by
    cases hpB n with
    | true =>
      simp only [inT, if_true, hbl]
      rw [Bool.eq_iff_iff]; simp; omega
    | false =>
      by_cases h0 : b.size = 0
      · simp only [inT, hbl, h0]; rfl
      · have h9 : 0 < b.size := by omega
        simp only [inT, hbl, Bool.false_eq_true, if_false]
        rw [decide_eq_false h0, decide_eq_true h9]; simp
  have this : ∀ n : Nat, k = n → okP k f t i p s b.data.toList = (inS true 1 72057594037927935 i && inS (hpP n) 1 72057594037927935 p && inS (hpS n) 1 72057594037927935 s && decide (b.size ≤ 32) && (decide (0 < b.size) == hpB n)) := fun n hn => by
    subst hn
    rw [okP, decide_eq_true hk, decide_eq_true hf, decide_eq_true ht, decide_eq_true hft, Int.toNat_natCast, g3]
    simp only [Bool.true_and, Bool.and_assoc]
  rcases (by omega : k = 1 ∨ k = 2 ∨ k = 3 ∨ k = 4) with rfl | rfl | rfl | rfl
  · rw [this 1 rfl]; exact rcheck_good1 f t i p s b W hf.1 hf.2 ht.1 ht.2 hft
  · rw [this 2 rfl]; exact rcheck_good2 f t i p s b W hf.1 hf.2 ht.1 ht.2 hft
  · rw [this 3 rfl]; exact rcheck_good3 f t i p s b W hf.1 hf.2 ht.1 ht.2 hft
  · rw [this 4 rfl]; exact rcheck_good4 f t i p s b W hf.1 hf.2 ht.1 ht.2 hft
end Go.Proofs.YtdphdodjidbngaaGreat

