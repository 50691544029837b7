/- The document's table: Ahead, State, Check: contracts. -/
import Derived.Test.YtjdlomdhaoadkaaTabK
import Derived.Deep.QuietTactic
import Derived.Lib.QuietBelow
import Derived.BigQuiet
namespace Go.Proofs.Ytjdlomdhaoadkaa
open Go.RowKit Go.Lib
set_option linter.unusedVariables false
set_option linter.unusedSimpArgs false

def ahB (a b c d : Int) : Bool := decide (cmpT a b c d < 0)
theorem ahB_eq (a b c d : Int) : ahB a b c d = (decide (a < c) || (decide (a = c) && decide (b < d))) := by
  unfold ahB
  rw [Bool.eq_iff_iff]
  simp [cmpT_lt]
set_option maxRecDepth 20000 in
set_option maxHeartbeats 2000000 in
theorem rahead_any (a b c d : Int) (W : World) : Calls Try.prog 27 #[.agg #[.int .i64 a, .int .i64 b], .agg #[.int .i64 c, .int .i64 d]] W fun e w' => e = .returned (.bool (ahB a b c d)) ∧ Below W.heap.size W w' := by
  have HB0 : Hid (Below W.heap.size W ((W.alloc (.cells #[.int .i64 a, .int .i64 b] 28)).alloc (.cells #[.int .i64 c, .int .i64 d] 28))) := hid (below2 W _ _)
  by_cases h1 : a < c
  · have HV : Hid (ahB a b c d = true) := hid (by rw [ahB_eq, decide_eq_true h1]; rfl)
    have d1 : decide (a < c) = true := decide_eq_true h1
    go_enter Try.func27, Try.ntmps27
    go_wp2
    go_ret
    exact ⟨by rw [HV.out]; rfl, HB0.out⟩
  have d1 : decide (a < c) = false := decide_eq_false h1
  by_cases h2 : a = c
  · subst h2
    have e2 : (a == a) = true := by simp
    have HV : Hid (ahB a b a d = decide (b < d)) := hid (by rw [ahB_eq, d1]; simp)
    go_enter Try.func27, Try.ntmps27
    go_wp2
    go_ret
    exact ⟨by rw [HV.out]; rfl, HB0.out⟩
  · have e2 : (a == c) = false := by simpa using h2
    have HV : Hid (ahB a b c d = false) := hid (by rw [ahB_eq, d1, decide_eq_false h2]; rfl)
    clear h2
    go_enter Try.func27, Try.ntmps27
    go_wp2
    go_ret
    exact ⟨by rw [HV.out]; rfl, HB0.out⟩

set_option maxRecDepth 20000 in
set_option maxHeartbeats 2000000 in
theorem rstate_any (A : Option Addr) (cap : Nat) (l : List Tr) (c d : Int) (W : World) (h : Sl W 3 A l.length cap (gcells r3 l)) (hl : l.length ≤ 1000) :
    Calls Try.prog 13 #[.slice A l.length cap, .agg #[.int .i64 c, .int .i64 d]] W fun e w' => e = .returned (.int .i64 (stF c d l)) ∧ Below W.heap.size W w' := by
  have HA := hid h
  have HY := hid (fun k (hk : k < l.length) h hy => stF_hit c d l k hk h hy)
  have HN := hid (fun h => stF_none c d l h)
  generalize stF c d l = r at *
  clear h
  go_enter Try.func13, Try.ntmps13
  go_upto_region 1 with (fail)
  refine at_world (fun u => u.heap[W.heap.size]? = some (.cells #[.int .i64 c, .int .i64 d] 28 (0, 0)) ∧ Below W.heap.size W u) ⟨heap_alloc_new _ _, (Below.refl _ _).alloc (Nat.le_refl _) _⟩ ?_
  rintro w1 ⟨hx1, hb1⟩
  have HX1 := hid hx1
  have HB1 := hid hb1
  clear hx1 hb1
  go_wp2
  go_loopw [5] (fun i wr => ∃ k : Nat, k ≤ l.length ∧ i = .int .i64 (k : Int) ∧ Hid (Below w1.heap.size w1 wr) ∧ Hid (∀ j (hj : j < l.length), j < k → ¬ (l[j].1 = c ∧ l[j].2.1 = d))) (fun i _ => l.length - (intOf i).toNat)
  case atStart => exact ⟨0, by omega, rfl, Below.refl _ _, fun j hj h => absurd h (by omega)⟩
  case round =>
    obtain ⟨k, hk, rfl, HB, HT⟩ := hrel
    have HBW : Hid (Below W.heap.size W wr) := hid (HB1.out.trans (HB.out.mono HB1.out.size))
    by_cases hlt : k < l.length
    · have hlt2 : (k : Int) < (l.length : Int) := by omega
      obtain ⟨b, off, rfl, hcl⟩ := Sl.gat (f := r3) (n := 3) (fun _ => rfl) (HA.out.below HBW.out) k hlt (by omega)
      have c0 := hcl 0 _ rfl
      have c1 := hcl 1 _ rfl
      have c2 := hcl 2 _ rfl
      simp only [Nat.add_zero] at c0
      have HY2 := hid (HY.out k hlt HT.out)
      have HTN : Hid (¬ (l[k].1 = c ∧ l[k].2.1 = d) → ∀ j (hj : j < l.length), j < k + 1 → ¬ (l[j].1 = c ∧ l[j].2.1 = d)) := hid (fun hne j hj hjk => by
        by_cases hjk2 : j < k
        · exact HT.out j hj hjk2
        · obtain rfl : j = k := by omega
          exact hne)
      have HBD : Hid (∀ n, Below w1.heap.size w1 (wr.drewN n) ∧ Below W.heap.size W (wr.drewN n)) := hid (fun n => ⟨⟨HB.out.os, HB.out.tape, HB.out.output, HB.out.size, HB.out.block⟩, ⟨HBW.out.os, HBW.out.tape, HBW.out.output, HBW.out.size, HBW.out.block⟩⟩)
      obtain ⟨p0, p1, _, _⟩ := two_cells (keep0 HX1.out HB.out)
      clear hcl
      generalize l[k] = z at *
      obtain ⟨z0, z1, z2⟩ := z
      simp only at c0 c1 c2 HY2 HTN
      by_cases h1 : z0 = c
      · subst h1
        have e1 : (z0 == z0) = true := by simp
        by_cases h2 : z1 = d
        · subst h2
          have e2 : (z1 == z1) = true := by simp
          have HE := hid (HY2.out ⟨rfl, rfl⟩)
          clear HTN HY2
          go_wp2
          go_quiet (fail)
          go_wp2
          go_ret
          exact ⟨by rw [HE.out]; rfl, (HBD.out _).2⟩
        · have e2 : (z1 == d) = false := by rw [beq_eq_false_iff_ne]; exact h2
          have HT2 := hid (HTN.out (fun h9 => h2 h9.2))
          clear HTN HY2 h2
          go_wp2
          go_quiet (fail)
          go_wp2
          go_roundw
          case rel => exact ⟨k + 1, by omega, by go_num, (HBD.out _).1, HT2.out⟩
          case measure => simp [intOf]; omega
      · have e1 : (z0 == c) = false := by rw [beq_eq_false_iff_ne]; exact h1
        have HT2 := hid (HTN.out (fun h9 => h1 h9.1))
        clear HTN HY2 h1
        go_wp2
        go_quiet (fail)
        go_wp2
        go_roundw
        case rel => exact ⟨k + 1, by omega, by go_num, (HBD.out _).1, HT2.out⟩
        case measure => simp [intOf]; omega
    · have hge : ¬ (k : Int) < (l.length : Int) := by omega
      have HE := hid (HN.out (fun j hj => HT.out j hj (by omega)))
      go_wp2
      go_ret
      exact ⟨by rw [HE.out]; rfl, HBW.out⟩

set_option maxRecDepth 20000 in
set_option maxHeartbeats 4000000 in
theorem rcheck31_any (A : Option Addr) (cap : Nat) (l : List Tr) (W : World) (h : Sl W 3 A l.length cap (gcells r3 l)) (hl : l.length ≤ 1000) :
    Calls Try.prog 11 #[.slice A l.length cap] W fun e w' => e = .returned (.bool (chkB l)) ∧ Below W.heap.size W w' := by
  have HA := hid h
  have HNO := hid (fun k (hk : k < l.length) h => chkB_no hk h)
  have HYES := hid (fun h => chkB_yes (l := l) h)
  generalize chkB l = r at *
  clear h
  go_enter Try.func11, Try.ntmps11
  go_wp2_with fail
  go_loopw [3] (fun i wr => ∃ k : Nat, k ≤ l.length ∧ i = .int .i64 (k : Int) ∧ Hid (Below W.heap.size W wr) ∧ Hid (∀ j, j < k → okB l j = true)) (fun i _ => l.length - (intOf i).toNat)
  case atStart => exact ⟨0, by omega, rfl, Below.refl _ _, fun j h => absurd h (by omega)⟩
  case round =>
    obtain ⟨k, hk, rfl, HB2, HT⟩ := hrel
    by_cases hlt : k < l.length
    · have hlt2 : (k : Int) < (l.length : Int) := by omega
      obtain ⟨b, off, rfl, hcl⟩ := Sl.gat (f := r3) (n := 3) (fun _ => rfl) (HA.out.below HB2.out) k hlt (by omega)
      have c0 := hcl 0 _ rfl
      have c1 := hcl 1 _ rfl
      have c2 := hcl 2 _ rfl
      simp only [Nat.add_zero] at c0
      have HPREV : Hid (∀ j, k = j + 1 → ∀ (hj : j < l.length), wr.cell? ⟨b, off + j * 3, none⟩ = some (.int .i64 l[j].1) ∧ wr.cell? ⟨b, off + j * 3 + 1, none⟩ = some (.int .i64 l[j].2.1)) := hid (fun j _ hj => by
        obtain ⟨b', off', ha, hcl'⟩ := Sl.gat (f := r3) (n := 3) (fun _ => rfl) (HA.out.below HB2.out) j hj (by omega)
        simp only [Option.some.injEq, Addr.mk.injEq, and_true] at ha
        obtain ⟨rfl, rfl⟩ := ha
        exact ⟨hcl' 0 _ rfl, hcl' 1 _ rfl⟩)
      have HOK : Hid (okB l k = (decide (1 ≤ (l[k]).2.2) && (decide ((l[k]).2.2 ≤ 4) && (k == 0 || decide (cmpT (l.getD (k - 1) tz).1 (l.getD (k - 1) tz).2.1 (l[k]).1 (l[k]).2.1 < 0))))) := hid (by unfold okB; rw [getD_tz hlt])
      have HNO2 := hid (HNO.out k hlt)
      have HTN : Hid (okB l k = true → ∀ j, j < k + 1 → okB l j = true) := hid (fun h j hj => by
        by_cases hjk : j < k
        · exact HT.out j hjk
        · obtain rfl : j = k := by omega
          exact h)
      have HW9 := hid HB2.out.size
      clear hcl
      generalize l[k] = z at *
      obtain ⟨z0, z1, z2⟩ := z
      simp only at c0 c1 c2 HOK
      obtain ⟨w2, hw2⟩ : ∃ w2 : World, w2 = wr := ⟨_, rfl⟩
      subst hw2
      go_upto_region 4 with (fail)
      replace c0 := cell_regrown c0
      replace c1 := cell_regrown c1
      replace c2 := cell_regrown c2
      by_cases h1 : z2 < 1
      · have d1 : decide (z2 < 1) = true := decide_eq_true h1
        have HE := hid (HNO2.out (by rw [HOK.out, decide_eq_false (by omega)]; rfl))
        refine wp_region_quiet_below (by kernel_rfl) (by kernel_rfl) ?_
        repeat (go_big_quiet_step (fail))
        refine wpQuiet_nil ?_
        intro _ hw'
        obtain ⟨⟨dq, osq⟩, hw''⟩ := hw'
        subst hw''
        go_wp2
        go_ret
        exact ⟨by rw [HE.out]; rfl, HB2.out.trans ((below_regrown w2 dq osq).mono HB2.out.size)⟩
      have d1 : decide (z2 < 1) = false := decide_eq_false h1
      by_cases h2 : 4 < z2
      · have d2 : decide (4 < z2) = true := decide_eq_true h2
        have HE := hid (HNO2.out (by rw [HOK.out, decide_eq_false (p := z2 ≤ 4) (by omega)]; simp))
        refine wp_region_quiet_below (by kernel_rfl) (by kernel_rfl) ?_
        repeat (go_big_quiet_step (fail))
        refine wpQuiet_nil ?_
        intro _ hw'
        obtain ⟨⟨dq, osq⟩, hw''⟩ := hw'
        subst hw''
        go_wp2
        go_ret
        exact ⟨by rw [HE.out]; rfl, HB2.out.trans ((below_regrown w2 dq osq).mono HB2.out.size)⟩
      have d2 : decide (4 < z2) = false := decide_eq_false h2
      have HOK2 : Hid (okB l k = (k == 0 || decide (cmpT (l.getD (k - 1) tz).1 (l.getD (k - 1) tz).2.1 z0 z1 < 0))) := hid (by rw [HOK.out, decide_eq_true (p := 1 ≤ z2) (by omega), decide_eq_true (p := z2 ≤ 4) (by omega)]; rfl)
      rcases Nat.eq_zero_or_pos k with hk0 | hk0
      · subst hk0
        have HT2 := hid (HTN.out (by rw [HOK2.out]; rfl))
        refine wp_region_quiet_below (by kernel_rfl) (by kernel_rfl) ?_
        repeat (go_big_quiet_step (fail))
        refine wpQuiet_nil ?_
        intro _ hw'
        obtain ⟨⟨dq, osq⟩, hw''⟩ := hw'
        subst hw''
        go_wp2
        go_roundw
        case rel => exact ⟨1, by omega, by go_num, HB2.out.trans ((below_regrown w2 dq osq).mono HB2.out.size), HT2.out⟩
        case measure => simp [intOf]; omega
      obtain ⟨j, rfl⟩ : ∃ j, k = j + 1 := ⟨k - 1, by omega⟩
      have hjl : j < l.length := by omega
      obtain ⟨q0, q1⟩ := HPREV.out j rfl hjl
      have hg9 : l.getD (j + 1 - 1) tz = l[j] := by rw [Nat.add_sub_cancel]; exact getD_tz hjl
      rw [hg9] at HOK2
      clear hg9 HPREV
      generalize l[j] = y at *
      obtain ⟨y0, y1, y2⟩ := y
      simp only at q0 q1 HOK2
      replace q0 := cell_regrown q0
      replace q1 := cell_regrown q1
      have c9 := reg (w := w2) (fun W' _ => rahead_any y0 y1 z0 z1 W')
      have d3 : decide ((0 : Int) < (j : Int) + 1) = true := decide_eq_true (by omega)
      have i3 : (0 : Int) < (j : Int) + 1 := by omega
      have hw0 : IntKind.i64.wrap (j : Int) = (j : Int) := by simp [IntKind.wrap, IntKind.bits, IntKind.signed]; omega
      have hj2 : (j : Int) < (l.length : Int) := by omega
      cases hcc : ahB y0 y1 z0 z1 with
      | true =>
        have HT2 := hid (HTN.out (by rw [HOK2.out]; unfold ahB at hcc; rw [hcc]; simp))
        rw [hcc] at c9
        clear hcc
        refine wp_region_quiet_below (by kernel_rfl) (by kernel_rfl) ?_
        repeat (go_big_quiet_step (first | (go_at_call 27; with_reducible exact c9 _ _) | fail))
        refine wpQuiet_nil ?_
        intro _ hw'
        obtain ⟨⟨dq, osq⟩, hw''⟩ := hw'
        subst hw''
        go_wp2
        go_roundw
        case rel => exact ⟨j + 1 + 1, by omega, by go_num, HB2.out.trans ((below_regrown w2 dq osq).mono HB2.out.size), HT2.out⟩
        case measure => simp [intOf]; omega
      | false =>
        have HE := hid (HNO2.out (by rw [HOK2.out]; unfold ahB at hcc; rw [hcc]; simp))
        rw [hcc] at c9
        clear hcc
        refine wp_region_quiet_below (by kernel_rfl) (by kernel_rfl) ?_
        repeat (go_big_quiet_step (first | (go_at_call 27; with_reducible exact c9 _ _) | fail))
        refine wpQuiet_nil ?_
        intro _ hw'
        obtain ⟨⟨dq, osq⟩, hw''⟩ := hw'
        subst hw''
        go_wp2
        go_ret
        exact ⟨by rw [HE.out]; rfl, HB2.out.trans ((below_regrown w2 dq osq).mono HB2.out.size)⟩
    · have hge : ¬ (k : Int) < (l.length : Int) := by omega
      have HE := hid (HYES.out (fun j hj => HT.out j (by omega)))
      go_wp2
      go_ret
      exact ⟨by rw [HE.out]; rfl, HB2.out⟩
end Go.Proofs.Ytjdlomdhaoadkaa
