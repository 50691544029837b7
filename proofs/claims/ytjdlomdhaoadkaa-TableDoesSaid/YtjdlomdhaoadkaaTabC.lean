/- Table: Check: contract. -/
import Derived.Test.YtjdlomdhaoadkaaTabB
import Derived.Lib.QuietBelow
import Derived.BigQuiet
namespace Go.Proofs.Ytjdlomdhaoadkaa
open Go.RowKit Go.Lib
set_option linter.unusedVariables false
set_option linter.unusedSimpArgs false

def tz : Tr := (0, 0, 0)
def okB (l : List Tr) (k : Nat) : Bool := decide (1 ≤ (l.getD k tz).2.2) && (decide ((l.getD k tz).2.2 ≤ 4) && (k == 0 || decide (cmpT (l.getD (k - 1) tz).1 (l.getD (k - 1) tz).2.1 (l.getD k tz).1 (l.getD k tz).2.1 < 0)))
def chkB (l : List Tr) : Bool := (List.range l.length).all (okB l)
theorem chkB_no {l : List Tr} {k : Nat} (hk : k < l.length) (h : okB l k = false) : chkB l = false := by
  cases hc : chkB l with
  | false => rfl
  | true =>
    unfold chkB at hc
    rw [List.all_eq_true] at hc
    rw [hc k (List.mem_range.2 hk)] at h
    simp at h
theorem chkB_yes {l : List Tr} (h : ∀ k, k < l.length → okB l k = true) : chkB l = true := by
  unfold chkB
  rw [List.all_eq_true]
  exact fun k hk => h k (List.mem_range.1 hk)
theorem chkB_at {l : List Tr} (h : chkB l = true) (k : Nat) (hk : k < l.length) : okB l k = true := by
  unfold chkB at h
  rw [List.all_eq_true] at h
  exact h k (List.mem_range.2 hk)
theorem getD_tz {l : List Tr} {k : Nat} (hk : k < l.length) : l.getD k tz = l[k] := by rw [List.getD_eq_getElem?_getD, List.getElem?_eq_getElem hk]; rfl
set_option maxRecDepth 20000 in
set_option maxHeartbeats 4000000 in
theorem tcheck_any (A : Option Addr) (cap : Nat) (l : List Tr) (W : World) (h : Sl W 3 A l.length cap (gcells r3 l)) :
    Calls Try.prog 10 #[.slice A l.length cap] W fun e w' => e = .returned (.bool (chkB l)) ∧ Below W.heap.size W w' := by
  have HA := hid h
  have hm : l.length ≤ 9223372036854775807 := by have h1 := h.2.1; have h2 := h.2.2.1; unfold maxLen at h2; omega
  have HNO := hid (fun k (hk : k < l.length) h => chkB_no hk h)
  have HYES := hid (fun h => chkB_yes (l := l) h)
  generalize chkB l = r at *
  clear h
  go_enter Try.func10, Try.ntmps10
  go_wp2_with fail
  go_loopw [3, 4, 7] (fun _ _ i wr => ∃ k : Nat, k ≤ l.length ∧ i = .int .i64 (k : Int) ∧ Hid (Below W.heap.size W wr) ∧ Hid (∀ j, j < k → okB l j = true)) (fun _ _ i _ => l.length - (intOf i).toNat)
  case atStart => exact ⟨0, by omega, rfl, Below.refl _ _, fun j h => absurd h (by omega)⟩
  case round =>
    obtain ⟨k, hk, rfl, HB, HT⟩ := hrel
    by_cases hlt : k < l.length
    · have hlt2 : (k : Int) < (l.length : Int) := by omega
      obtain ⟨b, off, rfl, hcl⟩ := Sl.gat (f := r3) (n := 3) (fun _ => rfl) (HA.out.below HB.out) k hlt (by omega)
      have c0 := hcl 0 _ rfl
      have c1 := hcl 1 _ rfl
      have c2 := hcl 2 _ rfl
      simp only [Nat.add_zero] at c0
      have HPREV : Hid (∀ j, k = j + 1 → ∀ (hj : j < l.length), wr.cell? ⟨b, off + j * 3, none⟩ = some (.int .i64 l[j].1) ∧ wr.cell? ⟨b, off + j * 3 + 1, none⟩ = some (.int .i64 l[j].2.1)) := hid (fun j _ hj => by
        obtain ⟨b', off', ha, hcl'⟩ := Sl.gat (f := r3) (n := 3) (fun _ => rfl) (HA.out.below HB.out) j hj (by omega)
        simp only [Option.some.injEq, Addr.mk.injEq, and_true] at ha
        obtain ⟨rfl, rfl⟩ := ha
        exact ⟨hcl' 0 _ rfl, hcl' 1 _ rfl⟩)
      have HOK : Hid (okB l k = (decide (1 ≤ (l[k]).2.2) && (decide ((l[k]).2.2 ≤ 4) && (k == 0 || decide (cmpT (l.getD (k - 1) tz).1 (l.getD (k - 1) tz).2.1 (l[k]).1 (l[k]).2.1 < 0))))) := hid (by unfold okB; rw [getD_tz hlt])
      have HNO2 := hid (HNO.out k hlt)
      have HTN : Hid (okB l k = true → ∀ j, j < k + 1 → okB l j = true) := hid (fun h j hj => by
        by_cases hjk : j < k
        · exact HT.out j hjk
        · obtain rfl : j = k := by omega
          exact h)
      have HW9 := hid HB.out.size
      clear hcl
      generalize l[k] = z at *
      obtain ⟨z0, z1, z2⟩ := z
      simp only at c0 c1 c2 HOK
      go_upto_region 4 with (fail)
      refine at_world (fun u => u.heap[wr.heap.size]? = some (.cells #[.int .i64 z0, .int .i64 z1, .int .i64 z2] 51 (0, 0)) ∧ Below wr.heap.size wr u) ⟨heap_alloc_new _ _, (Below.refl _ _).alloc (Nat.le_refl _) _⟩ ?_
      rintro w2 ⟨k0, hb⟩
      have HBX := hid hb
      have HB2 := hid (HB.out.trans (hb.mono HW9.out))
      obtain ⟨⟨p0, p1, p2⟩, _⟩ := three_cells k0
      replace p0 := cell_regrown p0
      replace p1 := cell_regrown p1
      replace p2 := cell_regrown p2
      clear k0 hb c0 c1 c2
      by_cases h1 : z2 < 1
      · have d1 : decide (z2 < 1) = true := decide_eq_true h1
        have HE := hid (HNO2.out (by rw [HOK.out, decide_eq_false (by omega)]; rfl))
        refine wp_region_quiet_below (by kernel_rfl) (by kernel_rfl) ?_
        repeat (go_big_quiet_step (fail))
        refine wpQuiet_nil ?_
        intro _ hw'
        obtain ⟨⟨dq, osq⟩, hw''⟩ := hw'
        subst hw''
        go_wp2
        go_ret
        exact ⟨by rw [HE.out]; rfl, HB2.out.trans ((below_regrown w2 dq osq).mono HB2.out.size)⟩
      have d1 : decide (z2 < 1) = false := decide_eq_false h1
      by_cases h2 : 4 < z2
      · have d2 : decide (4 < z2) = true := decide_eq_true h2
        have HE := hid (HNO2.out (by rw [HOK.out, decide_eq_false (p := z2 ≤ 4) (by omega)]; simp))
        refine wp_region_quiet_below (by kernel_rfl) (by kernel_rfl) ?_
        repeat (go_big_quiet_step (fail))
        refine wpQuiet_nil ?_
        intro _ hw'
        obtain ⟨⟨dq, osq⟩, hw''⟩ := hw'
        subst hw''
        go_wp2
        go_ret
        exact ⟨by rw [HE.out]; rfl, HB2.out.trans ((below_regrown w2 dq osq).mono HB2.out.size)⟩
      have d2 : decide (4 < z2) = false := decide_eq_false h2
      have HOK2 : Hid (okB l k = (k == 0 || decide (cmpT (l.getD (k - 1) tz).1 (l.getD (k - 1) tz).2.1 z0 z1 < 0))) := hid (by rw [HOK.out, decide_eq_true (p := 1 ≤ z2) (by omega), decide_eq_true (p := z2 ≤ 4) (by omega)]; rfl)
      rcases Nat.eq_zero_or_pos k with hk0 | hk0
      · subst hk0
        have HT2 := hid (HTN.out (by rw [HOK2.out]; rfl))
        refine wp_region_quiet_below (by kernel_rfl) (by kernel_rfl) ?_
        repeat (go_big_quiet_step (fail))
        refine wpQuiet_nil ?_
        intro _ hw'
        obtain ⟨⟨dq, osq⟩, hw''⟩ := hw'
        subst hw''
        go_wp2
        go_roundw
        case rel => exact ⟨1, by omega, by go_num, HB2.out.trans ((below_regrown w2 dq osq).mono HB2.out.size), HT2.out⟩
        case measure => simp [intOf]; omega
      obtain ⟨j, rfl⟩ : ∃ j, k = j + 1 := ⟨k - 1, by omega⟩
      have hjl : j < l.length := by omega
      obtain ⟨q0, q1⟩ := HPREV.out j rfl hjl
      have hg9 : l.getD (j + 1 - 1) tz = l[j] := by rw [Nat.add_sub_cancel]; exact getD_tz hjl
      rw [hg9] at HOK2
      clear hg9 HPREV
      generalize l[j] = y at *
      obtain ⟨y0, y1, y2⟩ := y
      simp only at q0 q1 HOK2
      replace q0 := cell_regrown ((HBX.out.cell (p := ⟨b, off + j * 3, none⟩) (lt_of_cell q0)).trans q0)
      replace q1 := cell_regrown ((HBX.out.cell (p := ⟨b, off + j * 3 + 1, none⟩) (lt_of_cell q1)).trans q1)
      have c9 := reg (w := w2) (fun W' _ => compared_any y0 y1 z0 z1 W')
      have d3 : decide ((0 : Int) < (j : Int) + 1) = true := decide_eq_true (by omega)
      have i3 : (0 : Int) < (j : Int) + 1 := by omega
      have hw0 : IntKind.i64.wrap (j : Int) = (j : Int) := by simp [IntKind.wrap, IntKind.bits, IntKind.signed]; omega
      have hj2 : (j : Int) < (l.length : Int) := by omega
      generalize hcc : cmpT y0 y1 z0 z1 = cc at *
      by_cases h4 : cc < 0
      · have d4 : decide (0 ≤ cc) = false := decide_eq_false (by omega)
        have HT2 := hid (HTN.out (by rw [HOK2.out, decide_eq_true h4]; simp))
        refine wp_region_quiet_below (by kernel_rfl) (by kernel_rfl) ?_
        repeat (go_big_quiet_step (first | (go_at_call 25; with_reducible exact c9 _ _) | fail))
        refine wpQuiet_nil ?_
        intro _ hw'
        obtain ⟨⟨dq, osq⟩, hw''⟩ := hw'
        subst hw''
        go_wp2
        go_roundw
        case rel => exact ⟨j + 1 + 1, by omega, by go_num, HB2.out.trans ((below_regrown w2 dq osq).mono HB2.out.size), HT2.out⟩
        case measure => simp [intOf]; omega
      · have d4 : decide (0 ≤ cc) = true := decide_eq_true (by omega)
        have HE := hid (HNO2.out (by rw [HOK2.out, decide_eq_false h4]; simp))
        refine wp_region_quiet_below (by kernel_rfl) (by kernel_rfl) ?_
        repeat (go_big_quiet_step (first | (go_at_call 25; with_reducible exact c9 _ _) | fail))
        refine wpQuiet_nil ?_
        intro _ hw'
        obtain ⟨⟨dq, osq⟩, hw''⟩ := hw'
        subst hw''
        go_wp2
        go_ret
        exact ⟨by rw [HE.out]; rfl, HB2.out.trans ((below_regrown w2 dq osq).mono HB2.out.size)⟩
    · have hge : ¬ (k : Int) < (l.length : Int) := by omega
      have HE := hid (HYES.out (fun j hj => HT.out j (by omega)))
      go_wp2
      go_ret
      exact ⟨by rw [HE.out]; rfl, HB.out⟩
end Go.Proofs.Ytjdlomdhaoadkaa
