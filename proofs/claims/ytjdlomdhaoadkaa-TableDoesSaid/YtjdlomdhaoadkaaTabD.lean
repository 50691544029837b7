/- Table: BinarySearchFunc: contract. -/
import Derived.Test.YtjdlomdhaoadkaaTabC
import Derived.Lib.BitFns
namespace Go.Proofs.Ytjdlomdhaoadkaa
open Go.RowKit Go.Lib
set_option linter.unusedVariables false
set_option linter.unusedSimpArgs false

theorem cmpI_lt (x y : Int) : cmpI x y < 0 ↔ x < y := by unfold cmpI; (repeat' split) <;> omega
theorem cmpI_zero (x y : Int) : cmpI x y = 0 ↔ x = y := by unfold cmpI; (repeat' split) <;> omega
theorem cmpT_lt (a b c d : Int) : cmpT a b c d < 0 ↔ (a < c ∨ (a = c ∧ b < d)) := by
  have h1 := cmpI_lt a c
  have h2 := cmpI_zero a c
  have h3 := cmpI_lt b d
  unfold cmpT
  split <;> omega
theorem cmpT_zero (a b c d : Int) : cmpT a b c d = 0 ↔ (a = c ∧ b = d) := by
  have h2 := cmpI_zero a c
  have h3 := cmpI_zero b d
  unfold cmpT
  split <;> omega
theorem chk_next {l : List Tr} (h : chkB l = true) (k : Nat) (hk : k + 1 < l.length) : cmpT l[k].1 l[k].2.1 l[k + 1].1 l[k + 1].2.1 < 0 := by
  have h1 := chkB_at h (k + 1) hk
  unfold okB at h1
  rw [getD_tz hk, Nat.add_sub_cancel, getD_tz (show k < l.length by omega)] at h1
  simp only [Bool.and_eq_true, Bool.or_eq_true, decide_eq_true_eq] at h1
  rcases h1.2.2 with h2 | h2
  · simp at h2
  · exact h2
theorem chk_mono {l : List Tr} (h : chkB l = true) (c d : Int) (i : Nat) : ∀ (n : Nat) (hn : i + n < l.length), cmpR (l[i + n]) c d < 0 → cmpR (l[i]'(by omega)) c d < 0
  | 0, _, h0 => h0
  | n + 1, hn, h0 => by
    refine chk_mono h c d i n (by omega) ?_
    have h1 := chk_next h (i + n) hn
    have h2 : cmpR (l[i + n + 1]) c d < 0 := h0
    unfold cmpR at h2 ⊢
    rw [cmpT_lt] at h1 h2 ⊢
    omega
def fndB (l : List Tr) (c d : Int) (k : Nat) : Bool := if k < l.length then cmpR (l.getD k tz) c d == 0 else false
/-- Where a task stands, or would stand, among rows. -/
def PosR (l : List Tr) (c d : Int) (k : Nat) : Prop := k ≤ l.length ∧ (∀ j (hj : j < l.length), j < k → cmpR l[j] c d < 0) ∧ (∀ j (hj : j < l.length), k ≤ j → ¬ cmpR l[j] c d < 0)
set_option maxRecDepth 20000 in
set_option maxHeartbeats 4000000 in
theorem search_any (A : Option Addr) (cap : Nat) (l : List Tr) (c d : Int) (W : World) (h : Sl W 3 A l.length cap (gcells r3 l)) (hc : chkB l = true) (hl : l.length ≤ 1000) :
    Calls Try.prog 23 #[.slice A l.length cap, .agg #[.int .i64 c, .int .i64 d], .func (.func 24) #[] #[]] W fun e w' => (∃ k, PosR l c d k ∧ e = .returned (.tuple #[.int .i64 (k : Nat), .bool (fndB l c d k)])) ∧ Below W.heap.size W w' := by
  have HA := hid h
  have HM := hid (fun i n hn => chk_mono hc c d i n hn)
  clear h hc
  go_enter Try.func23, Try.ntmps23
  go_upto_region 1 with (fail)
  refine at_world (fun u => u.heap[W.heap.size]? = some (.cells #[.int .i64 c, .int .i64 d] 28 (0, 0)) ∧ Below W.heap.size W u) ⟨heap_alloc_new _ _, (Below.refl _ _).alloc (Nat.le_refl _) _⟩ ?_
  rintro w1 ⟨hx1, hb1⟩
  have HX1 := hid hx1
  have HB1 := hid hb1
  clear hx1 hb1
  go_wp2
  go_loopw [9, 10, 11] (fun i j _ wr => ∃ lo hi : Nat, lo ≤ hi ∧ hi ≤ l.length ∧ i = .int .i64 (lo : Int) ∧ j = .int .i64 (hi : Int) ∧ Hid (Below w1.heap.size w1 wr) ∧ Hid (∀ j (hj : j < l.length), j < lo → cmpR l[j] c d < 0) ∧ Hid (∀ j (hj : j < l.length), hi ≤ j → ¬ cmpR l[j] c d < 0)) (fun i j _ _ => (intOf j - intOf i).toNat)
  case atStart => exact ⟨0, l.length, by omega, by omega, rfl, rfl, Below.refl _ _, fun j hj h => absurd h (by omega), fun j hj h => absurd h (by omega)⟩
  case round =>
    obtain ⟨lo, hi, hlh, hhl, rfl, rfl, HB, HLO, HHI⟩ := hrel
    have HBW := hid (HB1.out.trans (HB.out.mono HB1.out.size))
    by_cases hlt : lo < hi
    · have hlt2 : (lo : Int) < (hi : Int) := by omega
      obtain ⟨m, hm⟩ : ∃ m, m = (lo + hi) / 2 := ⟨_, rfl⟩
      have hm1 : lo ≤ m := by omega
      have hm2 : m < hi := by omega
      have hml : m < l.length := by omega
      have HMI : Hid (((lo : Int) + (hi : Int)) / 2 = (m : Int)) := hid (by omega)
      clear hm
      have hml2 : (m : Int) < (l.length : Int) := by omega
      go_upto_region 5 with (fail)
      rw [HMI.out]
      obtain ⟨b, off, rfl, hcl⟩ := Sl.gat (f := r3) (n := 3) (fun _ => rfl) (HA.out.below HBW.out) m (by omega) (by omega)
      have q0 := cell_regrown (hcl 0 _ rfl)
      have q1 := cell_regrown (hcl 1 _ rfl)
      have q2 := cell_regrown (hcl 2 _ rfl)
      simp only [Nat.add_zero] at q0
      obtain ⟨p0', p1', _, _⟩ := two_cells (keep0 HX1.out HB.out)
      have p0 := cell_regrown p0'
      have p1 := cell_regrown p1'
      clear hcl p0' p1'
      have HLO2 : Hid (cmpR l[m] c d < 0 → ∀ j (hj : j < l.length), j < m + 1 → cmpR l[j] c d < 0) := hid (fun h j hj hjm => by
        have e : j + (m - j) = m := by omega
        exact HM.out j (m - j) (by omega) (by simpa only [e] using h))
      have HHI2 : Hid (¬ cmpR l[m] c d < 0 → ∀ j (hj : j < l.length), m ≤ j → ¬ cmpR l[j] c d < 0) := hid (fun h j hj hjm h9 => h (by
        have e : m + (j - m) = j := by omega
        exact HM.out m (j - m) (by omega) (by simpa only [e] using h9)))
      generalize l[m] = z at *
      obtain ⟨z0, z1, z2⟩ := z
      simp only [cmpR] at q0 q1 q2 HLO2 HHI2
      have c9 := reg (w := wr) (fun W' _ => set1_any z0 z1 z2 c d W')
      generalize hcc : cmpT z0 z1 c d = cc at *
      clear hcc
      by_cases h4 : cc < 0
      · have d4 : decide (cc < 0) = true := decide_eq_true h4
        have HL3 := hid (HLO2.out h4)
        refine wp_region_quiet_below (by kernel_rfl) (by kernel_rfl) ?_
        repeat (go_big_quiet_step (first | (go_at_call 24; with_reducible exact c9 _ _) | fail))
        refine wpQuiet_nil ?_
        intro _ hw'
        obtain ⟨⟨dq, osq⟩, hw''⟩ := hw'
        subst hw''
        go_wp2
        go_roundw
        case rel => exact ⟨m + 1, hi, by omega, by omega, by go_num, rfl, HB.out.trans ((below_regrown wr dq osq).mono HB.out.size), HL3.out, HHI.out⟩
        case measure => simp [intOf]; omega
      · have d4 : decide (cc < 0) = false := decide_eq_false h4
        have HH3 := hid (HHI2.out h4)
        refine wp_region_quiet_below (by kernel_rfl) (by kernel_rfl) ?_
        repeat (go_big_quiet_step (first | (go_at_call 24; with_reducible exact c9 _ _) | fail))
        refine wpQuiet_nil ?_
        intro _ hw'
        obtain ⟨⟨dq, osq⟩, hw''⟩ := hw'
        subst hw''
        go_wp2
        go_roundw
        case rel => exact ⟨lo, m, by omega, by omega, rfl, rfl, HB.out.trans ((below_regrown wr dq osq).mono HB.out.size), HLO.out, HH3.out⟩
        case measure => simp [intOf]; omega
    · have hge : ¬ (lo : Int) < (hi : Int) := by omega
      obtain rfl : lo = hi := by omega
      have HPOS : Hid (PosR l c d lo) := hid ⟨hhl, HLO.out, HHI.out⟩
      clear HLO HHI
      by_cases hln : lo < l.length
      · have d1 : decide ((lo : Int) < (l.length : Int)) = true := decide_eq_true (by omega)
        have hln2 : (lo : Int) < (l.length : Int) := by omega
        have HRES : Hid (fndB l c d lo = (cmpR l[lo] c d == 0)) := hid (by unfold fndB; rw [if_pos hln, getD_tz hln])
        obtain ⟨b, off, rfl, hcl⟩ := Sl.gat (f := r3) (n := 3) (fun _ => rfl) (HA.out.below HBW.out) lo (by omega) (by omega)
        have q0 := cell_regrown (hcl 0 _ rfl)
        have q1 := cell_regrown (hcl 1 _ rfl)
        have q2 := cell_regrown (hcl 2 _ rfl)
        simp only [Nat.add_zero] at q0
        obtain ⟨p0', p1', _, _⟩ := two_cells (keep0 HX1.out HB.out)
        have p0 := cell_regrown p0'
        have p1 := cell_regrown p1'
        clear hcl p0' p1'
        generalize l[lo] = z at *
        obtain ⟨z0, z1, z2⟩ := z
        simp only [cmpR] at q0 q1 q2 HRES
        have c9 := reg (w := wr) (fun W' _ => set1_any z0 z1 z2 c d W')
        generalize hcc : cmpT z0 z1 c d = cc at *
        clear hcc
        go_upto_region 8 with (fail)
        by_cases h4 : cc = 0
        · subst h4
          have HR2 : Hid (fndB l c d lo = true) := hid (by rw [HRES.out]; rfl)
          refine wp_region_quiet_below (by kernel_rfl) (by kernel_rfl) ?_
          repeat (go_big_quiet_step (first | (go_at_call 24; with_reducible exact c9 _ _) | fail))
          refine wpQuiet_nil ?_
          intro _ hw'
          obtain ⟨⟨dq, osq⟩, hw''⟩ := hw'
          subst hw''
          go_wp2
          go_ret2
          exact ⟨⟨lo, HPOS.out, by rw [HR2.out]; rfl⟩, HBW.out.trans ((below_regrown wr dq osq).mono HBW.out.size)⟩
        · have d4 : (cc == 0) = false := by simpa using h4
          have HR2 : Hid (fndB l c d lo = false) := hid (by rw [HRES.out]; exact d4)
          refine wp_region_quiet_below (by kernel_rfl) (by kernel_rfl) ?_
          repeat (go_big_quiet_step (first | (go_at_call 24; with_reducible exact c9 _ _) | fail))
          refine wpQuiet_nil ?_
          intro _ hw'
          obtain ⟨⟨dq, osq⟩, hw''⟩ := hw'
          subst hw''
          go_wp2
          go_ret2
          exact ⟨⟨lo, HPOS.out, by rw [HR2.out]; rfl⟩, HBW.out.trans ((below_regrown wr dq osq).mono HBW.out.size)⟩
      · have d1 : decide ((lo : Int) < (l.length : Int)) = false := decide_eq_false (by omega)
        have hln2 : ¬ (lo : Int) < (l.length : Int) := by omega
        have HR2 : Hid (fndB l c d lo = false) := hid (by unfold fndB; rw [if_neg hln])
        go_upto_region 8 with (fail)
        refine wp_region_quiet_below (by kernel_rfl) (by kernel_rfl) ?_
        repeat (go_big_quiet_step (fail))
        refine wpQuiet_nil ?_
        intro _ hw'
        obtain ⟨⟨dq, osq⟩, hw''⟩ := hw'
        subst hw''
        go_wp2
        go_ret2
        exact ⟨⟨lo, HPOS.out, by rw [HR2.out]; rfl⟩, HBW.out.trans ((below_regrown wr dq osq).mono HBW.out.size)⟩
end Go.Proofs.Ytjdlomdhaoadkaa
