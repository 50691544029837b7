/- The document's Accept of layer 39: contract. -/
import Derived.Test.YtgakobolhmdnnaaGreatDoorQEvE
namespace Go.Proofs.YtgakobolhmdnnaaGreatDoor
open Go.RowKit Go.Sort
set_option linter.unusedVariables false
set_option linter.unusedSimpArgs false

set_option maxRecDepth 20000 in
set_option maxHeartbeats 8000000 in
theorem raccept_any (x : Cf) (N : Option Addr) (nc : Nat) (K : Option Addr) (kc : Nat) (J : Option Addr) (jc : Nat) (js : List Jo) (S : Option Addr) (sc : Nat) (xs : List Ee) (kd j t w : Int) (W : World) (hC : CfAt W x N nc K kc) (hJ : InJs W J jc js) (hS : InBk W S sc xs) (hs : SmJ js) (hn : xs.length ≤ 100) (hw : x.ws.length ≤ 1000) :
    Calls Tryz.prog 23 #[.agg (cfc x N nc K kc), .slice J js.length jc, .slice S xs.length sc, .agg #[.int .i64 kd, .int .i64 j, .int .i64 t, .int .i64 w]] W fun e w' => ∃ A' c' ys, e = .returned (.tuple #[.slice A' ys.length c', .bool (accB x js (xs.map (·.1)) j t w)]) ∧ ys.map (·.1) = (if accB x js (xs.map (·.1)) j t w then xs.map (·.1) ++ [newE j (js.getD (ljI js j).toNat default).ns] else xs.map (·.1)) ∧ InBk w' A' c' ys ∧ RowKit.Below W.heap.size W w' := by
  have HPL := hid (fun u (hu : RowKit.Below W.heap.size W u) => r20place_any S sc xs j u (hS.below hu))
  have HXS := hid (fun u (hu : RowKit.Below W.heap.size W u) => hS.below hu)
  have HJS := hid (fun u (hu : RowKit.Below W.heap.size W u) => hJ.below hu)
  have HCK := hid (fun k (hk : k < js.length) u (hu : RowKit.Below W.heap.size W u) => rjcheck_any x N nc K kc js[k].id js[k].A js[k].c js[k].ns u (hC.below hu) ((hJ.2 _ (List.getElem_mem hk)).below hu) (hs _ (List.getElem_mem hk)).2 hw)
  have HSM := hid hs
  obtain ⟨R, hR⟩ : ∃ R, accB x js (xs.map (·.1)) j t w = R := ⟨_, rfl⟩
  have HNO := hid (fun (h : t ≠ 0 ∨ w ≠ 0 ∨ ljI js j < 0 ∨ 0 ≤ plI (xs.map (·.1)) j) => show R = false by rw [← hR]; unfold accB; rw [if_pos h])
  have HYE := hid (fun (h : ¬ (t ≠ 0 ∨ w ≠ 0 ∨ 0 ≤ plI (xs.map (·.1)) j)) (k : Nat) (hk : ljI js j = (k : Int)) (hk2 : k < js.length) => show R = decide ((chkJ js[k].id x.T x.ws js[k].ns).2.2 = 0) by
    rw [← hR]
    unfold accB
    rw [if_neg (by omega), hk]
    simp [List.getD, hk2])
  have HLB := hid (fun (k : Nat) (hk : k < js.length) (h1 : js[k].id = j) (h2 : ∀ i (hi : i < js.length), i < k → js[i].id ≠ j) => show ljI js j = (k : Int) by
    unfold ljI
    rw [ljB_of hk h1 (fun i hi => h2 i (by omega) hi)])
  have HLN := hid (fun (h2 : ∀ i (hi : i < js.length), js[i].id ≠ j) => show ljI js j = -1 by
    unfold ljI
    rw [ljB_of_none (fun e he => by
      obtain ⟨i, hi, rfl⟩ := List.getElem_of_mem he
      exact h2 i hi)])
  have HGD := hid (fun (k : Nat) (hk : ljI js j = (k : Int)) (hk2 : k < js.length) => show (js.getD (ljI js j).toNat default).ns = js[k].ns by rw [hk]; simp [List.getD, hk2])
  have hjl : js.length ≤ 9223372036854775807 := by have := hJ.len; unfold maxLen at this; omega
  have hgl := gcells_length (f := ebl) (n := 6) ebl_len xs
  rw [hR]
  clear hC hJ hS hs hw hR
  have hidx := idx3e
  obtain ⟨NN, hNN⟩ : ∃ NN, newE j (js.getD (ljI js j).toNat default).ns = NN := ⟨_, rfl⟩
  have HNN := hid hNN
  rw [hNN]
  clear hNN
  obtain ⟨XM, hXM⟩ : ∃ XM, xs.map (·.1) = XM := ⟨_, rfl⟩
  have HXM := hid hXM
  rw [hXM]
  clear hXM
  obtain ⟨YL, hYL⟩ : ∃ YL, (if R = true then XM ++ [NN] else XM) = YL := ⟨_, rfl⟩
  have HYL := hid hYL
  rw [hYL]
  clear hYL
  obtain ⟨c0, le, ag, ro, ou, T, ws⟩ := x
  simp only [cfc] at *
  go_enter Tryz.func23, Tryz.ntmps23
  go_upto_region 1 with (fail)
  refine at_world (fun u => u.heap[W.heap.size]? = some (.cells #[.int .i64 c0, .int .i64 le, .int .i64 ag, .int .i64 ro, .int .i64 ou, .slice N T.length nc, .slice K ws.length kc] 25 (0, 0)) ∧ u.heap[W.heap.size + 1]? = some (.cells #[.int .i64 kd, .int .i64 j, .int .i64 t, .int .i64 w] 31 (0, 0)) ∧ RowKit.Below W.heap.size W u) (lay2E W _ _) ?_
  rintro w1 ⟨hq, hj, hb⟩
  have HB := hid hb
  have HQ := hid hq
  have HJ := hid hj
  clear hq hj hb
  generalize W.heap.size + 1 = Ev at *
  generalize hQ : W.heap.size = Q at HQ
  clear hQ
  obtain ⟨p0, p1, p2, p3⟩ := four_cellsE HJ.out
  by_cases ht : t = 0
  case neg =>
    have hd : (t != 0) = true := by simpa using ht
    have HR9 := hid (HNO.out (.inl ht))
    clear HNO HYE HPL HCK HLB HLN
    go_wp2
    refine bodyPost_ret (v := .tuple #[.slice S xs.length sc, .bool false]) (by simp [results, Tryz.results23, go_sem]) rfl ⟨S, sc, xs, by rw [HR9.out], by rw [← HYL.out, HR9.out, if_neg (by simp)]; exact HXM.out, HXS.out _ HB.out, HB.out⟩
  subst ht
  by_cases hww : w = 0
  case neg =>
    have hd : (w != 0) = true := by simpa using hww
    have HR9 := hid (HNO.out (.inr (.inl hww)))
    clear HNO HYE HPL HCK HLB HLN
    go_wp2
    refine bodyPost_ret (v := .tuple #[.slice S xs.length sc, .bool false]) (by simp [results, Tryz.results23, go_sem]) rfl ⟨S, sc, xs, by rw [HR9.out], by rw [← HYL.out, HR9.out, if_neg (by simp)]; exact HXM.out, HXS.out _ HB.out, HB.out⟩
  subst hww
  go_wp2_with fail
  refine (HPL.out _ HB.out).mono ?_
  rintro e w2 ⟨rfl, rfl⟩
  clear HPL
  by_cases hpl : 0 ≤ plI XM j
  · have hpl9 : 0 ≤ plI (xs.map (·.1)) j := by rw [HXM.out]; exact hpl
    have HR9 := hid (HNO.out (.inr (.inr (.inr hpl9))))
    have hpl2 : plI (xs.map (·.1)) j ≥ 0 := hpl9
    clear HNO HYE HCK HLB HLN hpl
    go_wp2
    refine bodyPost_ret (v := .tuple #[.slice S xs.length sc, .bool false]) (by simp [results, Tryz.results23, go_sem]) rfl ⟨S, sc, xs, by rw [HR9.out], by rw [← HYL.out, HR9.out, if_neg (by simp)]; exact HXM.out, HXS.out _ HB.out, HB.out⟩
  have hpl9 : ¬ 0 ≤ plI (xs.map (·.1)) j := by rw [HXM.out]; exact hpl
  have hpl2 : ¬ plI (xs.map (·.1)) j ≥ 0 := hpl9
  have HPN := hid hpl9
  clear hpl hpl9
  go_wp2
  clear p0 p1 p2 p3 hpl2
  go_loopw [10] (fun i wr => ∃ n : Nat, n ≤ js.length ∧ i = .int .i64 (n : Int) ∧ Hid (∀ i (hi : i < js.length), i < n → js[i].id ≠ j) ∧ Hid (RowKit.Below w1.heap.size w1 wr)) (fun i _ => js.length - (intOf i).toNat)
  case atStart => exact ⟨0, by omega, rfl, fun i hi h => absurd h (by omega), RowKit.Below.refl _ _⟩
  case round =>
    obtain ⟨n, hn9, rfl, HT, HBr⟩ := hrel
    have HB2 := hid (HB.out.trans (HBr.out.mono HB.out.size))
    have HQ2 := hid (keep0 HQ.out HBr.out)
    have HJ2 := hid (keep0 HJ.out HBr.out)
    obtain ⟨p0, p1, p2, p3⟩ := four_cellsE HJ2.out
    by_cases hlt : n < js.length
    case neg =>
      obtain rfl : n = js.length := by omega
      have hge : ¬ (js.length : Int) < (js.length : Int) := by omega
      have HR9 := hid (HNO.out (.inr (.inr (.inl (by rw [HLN.out (fun i hi => HT.out i hi hi)]; omega)))))
      clear HNO HYE HCK HLB HLN
      go_wp2
      refine bodyPost_ret (v := .tuple #[.slice S xs.length sc, .bool false]) (by simp [results, Tryz.results23, go_sem]) rfl ⟨S, sc, xs, by rw [HR9.out], by rw [← HYL.out, HR9.out, if_neg (by simp)]; exact HXM.out, HXS.out _ HB2.out, HB2.out⟩
    have hlt2 : (n : Int) < (js.length : Int) := by omega
    have hn0 : ¬ (n : Int) < 0 := by omega
    have HEL := hid (fun u (hu : RowKit.Below W.heap.size W u) => (HJS.out u hu).el n hlt)
    have HTX := hid (fun u (hu : RowKit.Below W.heap.size W u) => (HJS.out u hu).2 _ (List.getElem_mem hlt))
    obtain ⟨jb, joff, hJ9, e0, e1⟩ := HEL.out wr HB2.out
    subst hJ9
    have HCN := hid (HCK.out n hlt)
    have hsm := HSM.out _ (List.getElem_mem hlt)
    have HLB2 := hid (fun h => HLB.out n hlt h HT.out)
    have HYE2 := hid (fun (h : ljI js j = (n : Int)) => HYE.out (by have := HPN.out; omega) n h hlt)
    have HGD2 := hid (fun (h : ljI js j = (n : Int)) => HGD.out n h hlt)
    have HNXT := hid (fun (h : js[n].id ≠ j) => show ∀ i (hi : i < js.length), i < n + 1 → js[i].id ≠ j from fun i hi hin => by
      by_cases h9 : i < n
      · exact HT.out i hi h9
      · obtain rfl : i = n := by omega
        exact h)
    generalize js[n].id = ji at *
    generalize js[n].ns = ns at *
    generalize js[n].A = Ax at *
    generalize js[n].c = cx at *
    go_upto_region 6 with (fail)
    by_cases hji : ji = j
    case neg =>
      have hd : (ji != j) = true := by simpa using hji
      have HNX2 := hid (HNXT.out hji)
      clear HLB2 HYE2 HGD2 HNXT HCN
      generalize ns.length = nn at *
      replace p1 := cell_regrown p1
      replace e0 := cell_regrown e0
      replace e1 := cell_regrown e1
      refine wp_region_quiet_below (by kernel_rfl) (by kernel_rfl) ?_
      repeat (go_big_quiet_step (fail))
      refine wpQuiet_nil ?_
      intro _ hw'
      obtain ⟨⟨dq, osq⟩, hw''⟩ := hw'
      subst hw''
      have hbR := below_regrown wr dq osq
      refine at_world (fun u => RowKit.Below wr.heap.size wr u) hbR ?_
      clear hbR p0 p1 p2 p3 e0 e1
      rintro w4 hbR
      have HB9 := hid (HBr.out.trans (hbR.mono HBr.out.size))
      clear hbR
      go_wp2
      go_roundw
      case rel => exact ⟨n + 1, by omega, by go_num, HNX2.out, HB9.out⟩
      case measure => simp [intOf]; omega
    subst hji
    have hd : (ji != ji) = false := by simp
    have hlj := HLB2.out rfl
    have HR2 := hid (HYE2.out hlj)
    have HG2 := hid (HGD2.out hlj)
    clear HLB2 HYE2 HGD2 HNXT hlj HLB HLN HYE HNO
    try simp only at HR2
    generalize chkJ ji T ws ns = ck at *
    obtain ⟨ck1, ck2, ck3⟩ := ck
    try simp only at HR2
    try simp only at HCN
    have hnl : ns.length ≤ 1000 := hsm.1
    have HNS := hid hsm.2
    clear hsm
    generalize hnn : ns.length = n9 at *
    have HNL := hid hnn
    clear hnn
    replace p1 := cell_regrown p1
    replace e0 := cell_regrown e0
    replace e1 := cell_regrown e1
    refine wp_region_quiet_below (by kernel_rfl) (by kernel_rfl) ?_
    repeat (go_big_quiet_step (fail))
    refine wpQuiet_nil ?_
    intro _ hw'
    obtain ⟨⟨dq, osq⟩, hw''⟩ := hw'
    subst hw''
    have hbR := below_regrown wr dq osq
    refine at_world (fun u => RowKit.Below wr.heap.size wr u) hbR ?_
    clear hbR p0 p1 p2 p3 e0 e1
    rintro w4 hbR
    have HB3 := hid (HB2.out.trans (hbR.mono HB2.out.size))
    have HQ3 := hid (keep0 HQ2.out hbR)
    have HJ3 := hid (keep0 HJ2.out hbR)
    have HBr3 := hid (HBr.out.trans (hbR.mono HBr.out.size))
    clear hbR HB2 HQ2 HJ2 HBr
    obtain ⟨p0, p1, p2, p3⟩ := four_cellsE HJ3.out
    obtain ⟨q0, q1, q2, q3, q4, q5, q6⟩ := seven_cellsJ HQ3.out
    obtain ⟨jb2, joff2, hJ9, e0, e1⟩ := HEL.out w4 HB3.out
    cases hJ9
    have ck := reg (w := w4) (fun W' hW' => HCN.out W' (HB3.out.trans (hW'.mono HB3.out.size)))
    go_upto_region 7 with (fail)
    by_cases hc : ck3 = 0
    case neg =>
      have hd : (ck3 != 0) = true := by simpa using hc
      have HR9 : Hid (R = false) := hid (by rw [HR2.out]; simpa using hc)
      clear HR2 HG2 HCN
      replace q0 := cell_regrown q0
      replace q1 := cell_regrown q1
      replace q2 := cell_regrown q2
      replace q3 := cell_regrown q3
      replace q4 := cell_regrown q4
      replace q5 := cell_regrown q5
      replace q6 := cell_regrown q6
      replace e0 := cell_regrown e0
      replace e1 := cell_regrown e1
      refine wp_region_quiet_below (by kernel_rfl) (by kernel_rfl) ?_
      repeat (go_big_quiet_step (first | (go_at_call 42; with_reducible exact ck _ _)))
      refine wpQuiet_nil ?_
      intro _ hw'
      obtain ⟨⟨dq, osq⟩, hw''⟩ := hw'
      subst hw''
      have hbR := below_regrown w4 dq osq
      refine at_world (fun u => RowKit.Below w4.heap.size w4 u) hbR ?_
      clear hbR p0 p1 p2 p3 q0 q1 q2 q3 q4 q5 q6 e0 e1 ck
      rintro w5 hbR
      have HB4 := hid (HB3.out.trans (hbR.mono HB3.out.size))
      clear hbR
      go_wp2
      refine bodyPost_ret (v := .tuple #[.slice S xs.length sc, .bool false]) (by simp [results, Tryz.results23, go_sem]) rfl ⟨S, sc, xs, by rw [HR9.out], by rw [← HYL.out, HR9.out, if_neg (by simp)]; exact HXM.out, HXS.out _ HB4.out, HB4.out⟩
    subst hc
    have HR9 : Hid (R = true) := hid (by rw [HR2.out]; simp)
    clear HR2 HCN
    replace q0 := cell_regrown q0
    replace q1 := cell_regrown q1
    replace q2 := cell_regrown q2
    replace q3 := cell_regrown q3
    replace q4 := cell_regrown q4
    replace q5 := cell_regrown q5
    replace q6 := cell_regrown q6
    replace e0 := cell_regrown e0
    replace e1 := cell_regrown e1
    refine wp_region_quiet_below (by kernel_rfl) (by kernel_rfl) ?_
    repeat (go_big_quiet_step (first | (go_at_call 42; with_reducible exact ck _ _)))
    refine wpQuiet_nil ?_
    intro _ hw'
    obtain ⟨⟨dq, osq⟩, hw''⟩ := hw'
    subst hw''
    have hbR := below_regrown w4 dq osq
    refine at_world (fun u => RowKit.Below w4.heap.size w4 u) hbR ?_
    clear hbR p0 p1 p2 p3 q0 q1 q2 q3 q4 q5 q6 e0 e1 ck
    rintro w5 hbR
    have HB4 := hid (HB3.out.trans (hbR.mono HB3.out.size))
    have HJ4 := hid (keep0 HJ3.out hbR)
    clear hbR HB3 HQ3 HJ3 HBr3
    obtain ⟨p0, p1, p2, p3⟩ := four_cellsE HJ4.out
    obtain ⟨jb2, joff2, hJ9, e0, e1⟩ := HEL.out w5 HB4.out
    cases hJ9
    have HEL2 := hid (fun u (hu : RowKit.Below w5.heap.size w5 u) => show u.cell? ⟨jb, joff + n * 2 + 1, none⟩ = some (.slice Ax n9 cx) by
      obtain ⟨b7, o7, h7, _, h6⟩ := HEL.out u (HB4.out.trans (hu.mono HB4.out.size))
      cases h7
      exact h6)
    have hmk1 := run_make_1 (P := Tryz.prog) 42 3 Tryz.underlying42 info_int rfl n9 n9 (Nat.le_refl _) (by omega) (by unfold maxLen; omega)
    have hmk2 := run_make_1 (P := Tryz.prog) 43 4 Tryz.underlying43 info_bool rfl n9 n9 (Nat.le_refl _) (by omega) (by unfold maxLen; omega)
    go_upto_region 10 with (fail)
    have hS : ∀ U, RowKit.Below w5.heap.size w5 U → ((U.cell? ⟨Ev, 1, none⟩ = some (.int .i64 ji) ∧ U.cell? ⟨jb, joff + n * 2 + 1, none⟩ = some (.slice Ax n9 cx)) ∧ RowKit.Below w5.heap.size w5 U) := fun U hU => ⟨⟨(four_cellsE (keep0 HJ4.out hU)).2.1, HEL2.out U hU⟩, hU⟩
    have hu0 : RowKit.Below w5.heap.size w5 w5.drew := below_drew (RowKit.Below.refl _ _)
    clear p0 p1 p2 p3 e0 e1
    refine wp_region_held_drew (S := fun U => (U.cell? ⟨Ev, 1, none⟩ = some (.int .i64 ji) ∧ U.cell? ⟨jb, joff + n * 2 + 1, none⟩ = some (.slice Ax n9 cx)) ∧ RowKit.Below w5.heap.size w5 U) (by kernel_rfl) (hS _ hu0) (fun hHeld => ?_)
    generalize w5.drew = u0 at *
    refine wpAnyH_take (i := 0) (v := ?_) rfl (by kernel_rfl) (by kernel_rfl) (by kernel_rfl) (fun _ _ _ h => h) (Or.inl ⟨by rfl, ?_⟩) (by assumption) ?_
    rotate_left
    focus
      intro U hU
      try dsimp only at hU
      go_simp
      try (with_reducible rfl)
    simp only [List.getElem_toArray, List.getElem_cons_succ, List.getElem_cons_zero, Act.put, List.setIfInBounds_toArray, List.set_cons_zero, List.set_cons_succ]
    refine wpAnyH_take (i := 1) (v := ?_) rfl (by kernel_rfl) (by kernel_rfl) (by kernel_rfl) (fun _ _ _ h => h) (Or.inl ⟨by rfl, ?_⟩) (by assumption) ?_
    rotate_left
    focus
      intro U hU
      try dsimp only at hU
      go_simp
      try (with_reducible rfl)
    simp only [List.getElem_toArray, List.getElem_cons_succ, List.getElem_cons_zero, Act.put, List.setIfInBounds_toArray, List.set_cons_zero, List.set_cons_succ]
    refine wpAnyH_take (i := 2) (v := ?_) rfl (by kernel_rfl) (by kernel_rfl) (by kernel_rfl) (fun _ _ _ h => h) (Or.inl ⟨by rfl, ?_⟩) (by assumption) ?_
    rotate_left
    focus
      intro U hU
      try dsimp only at hU
      go_simp
      try (with_reducible rfl)
    simp only [List.getElem_toArray, List.getElem_cons_succ, List.getElem_cons_zero, Act.put, List.setIfInBounds_toArray, List.set_cons_zero, List.set_cons_succ]
    refine wpAnyH_take (i := 3) (v := ?_) rfl (by kernel_rfl) (by kernel_rfl) (by kernel_rfl) (fun _ _ _ h => h) (Or.inl ⟨by rfl, ?_⟩) (by assumption) ?_
    rotate_left
    focus
      intro U hU
      try dsimp only at hU
      go_simp
      try (with_reducible rfl)
    simp only [List.getElem_toArray, List.getElem_cons_succ, List.getElem_cons_zero, Act.put, List.setIfInBounds_toArray, List.set_cons_zero, List.set_cons_succ]
    refine wpAnyH_take (i := 4) (v := ?_) rfl (by kernel_rfl) (by kernel_rfl) (by kernel_rfl) (fun _ _ _ h => h) (Or.inl ⟨by rfl, ?_⟩) (by assumption) ?_
    rotate_left
    focus
      intro U hU
      try dsimp only at hU
      go_simp
      try (with_reducible rfl)
    simp only [List.getElem_toArray, List.getElem_cons_succ, List.getElem_cons_zero, Act.put, List.setIfInBounds_toArray, List.set_cons_zero, List.set_cons_succ]
    refine wpAnyH_take (i := 5) (v := ?_) rfl (by kernel_rfl) (by kernel_rfl) (by kernel_rfl) (fun _ _ _ h => h) (Or.inl ⟨by rfl, ?_⟩) (by assumption) ?_
    rotate_left
    focus
      intro U hU
      try dsimp only at hU
      go_simp
      try (with_reducible rfl)
    simp only [List.getElem_toArray, List.getElem_cons_succ, List.getElem_cons_zero, Act.put, List.setIfInBounds_toArray, List.set_cons_zero, List.set_cons_succ]
    refine wpAnyH_take (i := 6) (v := ?_) rfl (by kernel_rfl) (by kernel_rfl) (by kernel_rfl) (fun _ _ _ h => h) (Or.inl ⟨by rfl, ?_⟩) (by assumption) ?_
    rotate_left
    focus
      intro U hU
      try dsimp only at hU
      go_simp
      try (with_reducible rfl)
    simp only [List.getElem_toArray, List.getElem_cons_succ, List.getElem_cons_zero, Act.put, List.setIfInBounds_toArray, List.set_cons_zero, List.set_cons_succ]
    refine wpAnyH_take (i := 7) (v := ?_) rfl (by kernel_rfl) (by kernel_rfl) (by kernel_rfl) (fun _ _ _ h => h) (Or.inl ⟨by rfl, ?_⟩) (by assumption) ?_
    rotate_left
    focus
      intro U hU
      try dsimp only at hU
      go_simp
      try (with_reducible rfl)
    simp only [List.getElem_toArray, List.getElem_cons_succ, List.getElem_cons_zero, Act.put, List.setIfInBounds_toArray, List.set_cons_zero, List.set_cons_succ]
    refine wpAnyH_take (i := 9) (v := ?_) rfl (by kernel_rfl) (by kernel_rfl) (by kernel_rfl) (fun _ _ _ h => h) (Or.inl ⟨by rfl, ?_⟩) (by assumption) ?_
    rotate_left
    focus
      intro U hU
      try dsimp only at hU
      go_simp
      try (with_reducible rfl)
    simp only [List.getElem_toArray, List.getElem_cons_succ, List.getElem_cons_zero, Act.put, List.setIfInBounds_toArray, List.set_cons_zero, List.set_cons_succ]
    refine wpAnyH_ready (rs := [8, 10, 12]) (by kernel_rfl) (by simp) ?_
    refine (AllReadyH.cons rfl (fun K hK => ?_) (AllReadyH.cons rfl (fun K hK => ?_) (AllReadyH.cons rfl (fun K hK => ?_) AllReadyH.nil)))
    · skip
      simp only [List.getElem_toArray, List.getElem_cons_succ, List.getElem_cons_zero]
      go_simp
      refine hK.out _ _ ?_ (fun hHeld2 => ?_)
      focus
        exact hS _ (hu0.alloc hu0.size _)
      clear hHeld
      have hHeld := hHeld2
      clear hHeld2 hK K
      try simp only [List.getElem_toArray, List.getElem_cons_succ, List.getElem_cons_zero, Act.put, List.setIfInBounds_toArray, List.set_cons_zero, List.set_cons_succ]
      have gg : RowKit.Below (World.heap u0).size u0 (World.alloc u0 (.cells (Array.replicate n9 (.int .i64 0)) 3 (0, 0))) := (RowKit.Below.refl _ _).alloc (Nat.le_refl _) _
      have hu1 := hu0.trans (gg.mono hu0.size)
      have hsb : (World.alloc u0 (.cells (Array.replicate n9 (.int .i64 0)) 3 (0, 0))).ownsRow w5.heap.size 3 1 (.slice (some ⟨(World.heap u0).size, 0, none⟩) n9 n9) n9 (icells .i64 (List.replicate n9 0)) := own_rep (heap_alloc_new u0 _) hu0.size (by unfold maxLen; omega) (by simp [icells])
      clear gg
      generalize World.alloc u0 (.cells (Array.replicate n9 (.int .i64 0)) 3 (0, 0)) = u1 at *
      generalize (World.heap u0).size = M1 at *
      refine wpAnyH_ready (rs := [10, 12]) (by kernel_rfl) (by simp) ?_
      refine (AllReadyH.cons rfl (fun K hK => ?_) (AllReadyH.cons rfl (fun K hK => ?_) AllReadyH.nil))
      · skip
        simp only [List.getElem_toArray, List.getElem_cons_succ, List.getElem_cons_zero]
        go_simp
        refine hK.out _ _ ?_ (fun hHeld2 => ?_)
        focus
          exact hS _ (hu1.alloc hu1.size _)
        clear hHeld
        have hHeld := hHeld2
        clear hHeld2 hK K
        try simp only [List.getElem_toArray, List.getElem_cons_succ, List.getElem_cons_zero, Act.put, List.setIfInBounds_toArray, List.set_cons_zero, List.set_cons_succ]
        have gg : RowKit.Below (World.heap u1).size u1 (World.alloc u1 (.cells (Array.replicate n9 (.bool false)) 4 (0, 0))) := (RowKit.Below.refl _ _).alloc (Nat.le_refl _) _
        have hu2 := hu1.trans (gg.mono hu1.size)
        have hsd : (World.alloc u1 (.cells (Array.replicate n9 (.bool false)) 4 (0, 0))).ownsRow w5.heap.size 4 1 (.slice (some ⟨(World.heap u1).size, 0, none⟩) n9 n9) n9 (blcells (List.replicate n9 false)) := own_rep (heap_alloc_new u1 _) hu1.size (by unfold maxLen; omega) (by simp [blcells])
        replace hsb := own_keep hsb gg
        clear gg
        generalize World.alloc u1 (.cells (Array.replicate n9 (.bool false)) 4 (0, 0)) = u2 at *
        generalize (World.heap u1).size = M2 at *
        refine wpAnyH_take (i := 11) (v := ?_) rfl (by kernel_rfl) (by kernel_rfl) (by kernel_rfl) (fun _ _ _ h => h) (Or.inl ⟨by rfl, ?_⟩) (by assumption) ?_
        rotate_left
        focus
          intro U hU
          try dsimp only at hU
          go_simp
          try (with_reducible rfl)
        simp only [List.getElem_toArray, List.getElem_cons_succ, List.getElem_cons_zero, Act.put, List.setIfInBounds_toArray, List.set_cons_zero, List.set_cons_succ]
        refine wpAnyH_ready (rs := [12]) (by kernel_rfl) (by simp) ?_
        refine (AllReadyH.cons rfl (fun K hK => ?_) AllReadyH.nil)
        simp only [List.getElem_toArray, List.getElem_cons_succ, List.getElem_cons_zero]
        go_simp
        refine hK.out _ _ ?_ (fun hHeld2 => ?_)
        focus
          exact hS _ (hu2.alloc hu2.size _)
        clear hHeld
        have hHeld := hHeld2
        clear hHeld2 hK K
        try simp only [List.getElem_toArray, List.getElem_cons_succ, List.getElem_cons_zero, Act.put, List.setIfInBounds_toArray, List.set_cons_zero, List.set_cons_succ]
        have gg : RowKit.Below (World.heap u2).size u2 (World.alloc u2 (.cells #[.int .i64 0, .int .i64 0, .int .i64 0, .slice none 0 0, .slice none 0 0, .slice none 0 0] 45 (0, 0))) := (RowKit.Below.refl _ _).alloc (Nat.le_refl _) _
        have hu3 := hu2.trans (gg.mono hu2.size)
        have hm3 : w5.heap.size ≤ (World.heap u2).size := hu2.size
        have hz : (World.alloc u2 (.cells #[.int .i64 0, .int .i64 0, .int .i64 0, .slice none 0 0, .slice none 0 0, .slice none 0 0] 45 (0, 0))).heap[(World.heap u2).size]? = some (.cells #[.int .i64 0, .int .i64 0, .int .i64 0, .slice none 0 0, .slice none 0 0, .slice none 0 0] 45 (0, 0)) := heap_alloc_new u2 (.cells #[.int .i64 0, .int .i64 0, .int .i64 0, .slice none 0 0, .slice none 0 0, .slice none 0 0] 45)
        replace hsb := own_keep hsb gg
        replace hsd := own_keep hsd gg
        clear gg
        generalize World.alloc u2 (.cells #[.int .i64 0, .int .i64 0, .int .i64 0, .slice none 0 0, .slice none 0 0, .slice none 0 0] 45 (0, 0)) = u3 at *
        generalize (World.heap u2).size = M3 at *
        obtain ⟨⟨z0, z1, z2, z3, z4, z5⟩, f0, f1, f2, f3, f4, f5⟩ := six_cells hz
        refine wpAnyH_ready (rs := [13]) (by kernel_rfl) (by simp) ?_
        refine (AllReadyH.cons rfl (fun K hK => ?_) AllReadyH.nil)
        simp only [List.getElem_toArray, List.getElem_cons_succ, List.getElem_cons_zero]
        go_simp
        refine hK.out _ _ ?_ (fun hHeld2 => ?_)
        focus
          exact hS _ (put6_below hu3 hm3 (.int .i64 ji) (.int .i64 0) (.int .i64 1) (.slice Ax n9 cx) (.slice (some ⟨M1, 0, none⟩) n9 n9) (.slice (some ⟨M2, 0, none⟩) n9 n9))
        clear hHeld
        have hHeld := hHeld2
        clear hHeld2 hK K
        try simp only [List.getElem_toArray, List.getElem_cons_succ, List.getElem_cons_zero, Act.put, List.setIfInBounds_toArray, List.set_cons_zero, List.set_cons_succ]
        have hx9 := put6_heap hz (.int .i64 ji) (.int .i64 0) (.int .i64 1) (.slice Ax n9 cx) (.slice (some ⟨M1, 0, none⟩) n9 n9) (.slice (some ⟨M2, 0, none⟩) n9 n9)
        have hb9 := put6_below hu3 hm3 (.int .i64 ji) (.int .i64 0) (.int .i64 1) (.slice Ax n9 cx) (.slice (some ⟨M1, 0, none⟩) n9 n9) (.slice (some ⟨M2, 0, none⟩) n9 n9)
        have hsb9 := own_same hsb hz (by decide) (fun g hg => put6_other (w := u3) (b := M3) hg (.int .i64 ji) (.int .i64 0) (.int .i64 1) (.slice Ax n9 cx) (.slice (some ⟨M1, 0, none⟩) n9 n9) (.slice (some ⟨M2, 0, none⟩) n9 n9))
        have hsd9 := own_same hsd hz (by decide) (fun g hg => put6_other (w := u3) (b := M3) hg (.int .i64 ji) (.int .i64 0) (.int .i64 1) (.slice Ax n9 cx) (.slice (some ⟨M1, 0, none⟩) n9 n9) (.slice (some ⟨M2, 0, none⟩) n9 n9))
        refine wpAnyH_done (by kernel_rfl) ?_ _
        clear hHeld hS hmk1 hmk2
        go_upto_region 11 with (fail)
        refine at_world (fun u => u.heap[M3]? = some (.cells #[.int .i64 ji, .int .i64 0, .int .i64 1, .slice Ax n9 cx, .slice (some ⟨M1, 0, none⟩) n9 n9, .slice (some ⟨M2, 0, none⟩) n9 n9] 45 (0, 0)) ∧ u.ownsRow w5.heap.size 3 1 (.slice (some ⟨M1, 0, none⟩) n9 n9) n9 (icells .i64 (List.replicate n9 0)) ∧ u.ownsRow w5.heap.size 4 1 (.slice (some ⟨M2, 0, none⟩) n9 n9) n9 (blcells (List.replicate n9 false)) ∧ RowKit.Below w5.heap.size w5 u) ⟨hx9, hsb9, hsd9, hb9⟩ ?_
        rintro w6 ⟨hx6, hsb6, hsd6, hb6⟩
        have HX6 := hid hx6
        have HSB := hid hsb6
        have HSD := hid hsd6
        have HB6 := hid (HB4.out.trans (hb6.mono HB4.out.size))
        have HJ6 := hid (keep0 HJ4.out hb6)
        clear hx6 hsb6 hsd6 hb6
        have HXS6 := hid (fun u (hu : RowKit.Below w6.heap.size w6 u) => HXS.out u (HB6.out.trans (hu.mono HB6.out.size)))
        have hone : ∀ u ∈ gcells ebl xs, u.oneCell' = true := ebl_one xs
        have HTX6 := hid (fun u (hu : RowKit.Below w6.heap.size w6 u) => HTX.out u (HB6.out.trans (hu.mono HB6.out.size)))
        have hS2 : ∀ U, RowKit.Below w6.heap.size w6 U → ((U.cell? ⟨M3, 0, none⟩ = some (.int .i64 ji) ∧ U.cell? ⟨M3, 1, none⟩ = some (.int .i64 0) ∧ U.cell? ⟨M3, 2, none⟩ = some (.int .i64 1) ∧ U.cell? ⟨M3, 3, none⟩ = some (.slice Ax n9 cx) ∧ U.cell? ⟨M3, 4, none⟩ = some (.slice (some ⟨M1, 0, none⟩) n9 n9) ∧ U.cell? ⟨M3, 5, none⟩ = some (.slice (some ⟨M2, 0, none⟩) n9 n9)) ∧ RowKit.Below w6.heap.size w6 U) := fun U hU => ⟨(six_cells (keep0 HX6.out hU)).1, hU⟩
        have hv0 : RowKit.Below w6.heap.size w6 w6.drew := below_drew (RowKit.Below.refl _ _)
        refine wp_region_held_drew (S := fun U => (U.cell? ⟨M3, 0, none⟩ = some (.int .i64 ji) ∧ U.cell? ⟨M3, 1, none⟩ = some (.int .i64 0) ∧ U.cell? ⟨M3, 2, none⟩ = some (.int .i64 1) ∧ U.cell? ⟨M3, 3, none⟩ = some (.slice Ax n9 cx) ∧ U.cell? ⟨M3, 4, none⟩ = some (.slice (some ⟨M1, 0, none⟩) n9 n9) ∧ U.cell? ⟨M3, 5, none⟩ = some (.slice (some ⟨M2, 0, none⟩) n9 n9)) ∧ RowKit.Below w6.heap.size w6 U) (by kernel_rfl) (hS2 _ hv0) (fun hHeld => ?_)
        generalize w6.drew = v0 at *
        refine wpAnyH_take (i := 1) (v := ?_) rfl (by kernel_rfl) (by kernel_rfl) (by kernel_rfl) (fun _ _ _ h => h) (Or.inl ⟨by rfl, ?_⟩) (by assumption) ?_
        rotate_left
        focus
          intro U hU
          try dsimp only at hU
          go_simp
          try (with_reducible rfl)
        simp only [List.getElem_toArray, List.getElem_cons_succ, List.getElem_cons_zero, Act.put, List.setIfInBounds_toArray, List.set_cons_zero, List.set_cons_succ]
        refine wpAnyH_take (i := 3) (v := ?_) rfl (by kernel_rfl) (by kernel_rfl) (by kernel_rfl) (fun _ _ _ h => h) (Or.inl ⟨by rfl, ?_⟩) (by assumption) ?_
        rotate_left
        focus
          intro U hU
          try dsimp only at hU
          go_simp
          try (with_reducible rfl)
        simp only [List.getElem_toArray, List.getElem_cons_succ, List.getElem_cons_zero, Act.put, List.setIfInBounds_toArray, List.set_cons_zero, List.set_cons_succ]
        refine wpAnyH_ready (rs := [0, 4]) (by kernel_rfl) (by simp) ?_
        refine (AllReadyH.cons rfl (fun K hK => ?_) (AllReadyH.cons rfl (fun K hK => ?_) AllReadyH.nil))
        · skip
          simp only [List.getElem_toArray, List.getElem_cons_succ, List.getElem_cons_zero]
          go_simp
          refine hK.out _ _ ?_ (fun hHeld2 => ?_)
          focus
            exact hS2 _ (hv0.alloc hv0.size _)
          clear hHeld
          have hHeld := hHeld2
          clear hHeld2 hK K
          try simp only [List.getElem_toArray, List.getElem_cons_succ, List.getElem_cons_zero, Act.put, List.setIfInBounds_toArray, List.set_cons_zero, List.set_cons_succ]
          have gg : RowKit.Below (World.heap v0).size v0 (World.alloc v0 (.cells #[] 45 (0, 0))) := (RowKit.Below.refl _ _).alloc (Nat.le_refl _) _
          have hv1 := hv0.trans (gg.mono hv0.size)
          have hE : (World.alloc v0 (.cells #[] 45 (0, 0))).ownsRow w6.heap.size 45 6 (.slice (some ⟨(World.heap v0).size, 0, none⟩) 0 0) 0 [] := own_mono (own_empty v0 45 6) hv0.size
          clear gg
          generalize World.alloc v0 (.cells #[] 45 (0, 0)) = v1 at *
          generalize (World.heap v0).size = M4 at *
          refine wpAnyH_ready (rs := [2, 4]) (by kernel_rfl) (by simp) ?_
          refine (AllReadyH.cons rfl (fun K hK => ?_) (AllReadyH.cons rfl (fun K hK => ?_) AllReadyH.nil))
          · skip
            refine step_append_sl rfl (.tmp 70) (.tmp 71) 29 rfl w6.heap.size 45 Tryz.underlying29 info_entry rfl (by omega) rfl hE rfl (HXS6.out _ hv1).1 hone ?d1a ?d1b hv1.size ?_
            case d1a => unfold maxLen; omega
            case d1b => omega
            intro y9 v2 ho9 hb9 _ hk9
            have hv2 := hv1.trans hb9
            have hP : (v2).ownsRow w6.heap.size 45 6 y9 xs.length (gcells ebl xs) := by simpa using ho9
            obtain ⟨A9, c9, rfl, _⟩ := Sl.of_own hP
            clear hb9 ho9 hk9
            refine hK.out _ _ ?_ (fun hHeld2 => ?_)
            focus
              exact hS2 _ hv2
            clear hHeld
            have hHeld := hHeld2
            clear hHeld2 hK K
            try simp only [List.getElem_toArray, List.getElem_cons_succ, List.getElem_cons_zero, Act.put, List.setIfInBounds_toArray, List.set_cons_zero, List.set_cons_succ]
            refine wpAnyH_ready (rs := [4]) (by kernel_rfl) (by simp) ?_
            refine (AllReadyH.cons rfl (fun K hK => ?_) AllReadyH.nil)
            simp only [List.getElem_toArray, List.getElem_cons_succ, List.getElem_cons_zero]
            go_simp
            refine hK.out _ _ ?_ (fun hHeld2 => ?_)
            focus
              exact hS2 _ (hv2.alloc hv2.size _)
            clear hHeld
            have hHeld := hHeld2
            clear hHeld2 hK K
            try simp only [List.getElem_toArray, List.getElem_cons_succ, List.getElem_cons_zero, Act.put, List.setIfInBounds_toArray, List.set_cons_zero, List.set_cons_succ]
            have gg : RowKit.Below (World.heap v2).size v2 (World.alloc v2 (.cells #[.int .i64 ji, .int .i64 0, .int .i64 1, .slice Ax n9 cx, .slice (some ⟨M1, 0, none⟩) n9 n9, .slice (some ⟨M2, 0, none⟩) n9 n9] 45 (0, 0))) := (RowKit.Below.refl _ _).alloc (Nat.le_refl _) _
            have hv3 := hv2.trans (gg.mono hv2.size)
            have hm5 : w6.heap.size ≤ (World.heap v2).size := hv2.size
            have hF : (World.alloc v2 (.cells #[.int .i64 ji, .int .i64 0, .int .i64 1, .slice Ax n9 cx, .slice (some ⟨M1, 0, none⟩) n9 n9, .slice (some ⟨M2, 0, none⟩) n9 n9] 45 (0, 0))).heap[(World.heap v2).size]? = some (.cells #[.int .i64 ji, .int .i64 0, .int .i64 1, .slice Ax n9 cx, .slice (some ⟨M1, 0, none⟩) n9 n9, .slice (some ⟨M2, 0, none⟩) n9 n9] 45 (0, 0)) := heap_alloc_new v2 (.cells #[.int .i64 ji, .int .i64 0, .int .i64 1, .slice Ax n9 cx, .slice (some ⟨M1, 0, none⟩) n9 n9, .slice (some ⟨M2, 0, none⟩) n9 n9] 45)
            replace hP := own_keep hP gg
            clear gg
            generalize World.alloc v2 (.cells #[.int .i64 ji, .int .i64 0, .int .i64 1, .slice Ax n9 cx, .slice (some ⟨M1, 0, none⟩) n9 n9, .slice (some ⟨M2, 0, none⟩) n9 n9] 45 (0, 0)) = v3 at *
            generalize (World.heap v2).size = M5 at *
            refine wpAnyH_ready (rs := [5]) (by kernel_rfl) (by simp) ?_
            refine (AllReadyH.cons rfl (fun K hK => ?_) AllReadyH.nil)
            refine step_append_sl rfl (.tmp 72) (.tmp 74) 29 rfl w6.heap.size 45 Tryz.underlying29 info_entry rfl (by omega) rfl hP rfl (sl_blk6 hF) (by simp [Value.oneCell']) ?d2a ?d2b hv3.size ?_
            case d2a => unfold maxLen; omega
            case d2b => omega
            intro y9 v4 ho9 hb9 _ _
            have hv4 := hv3.trans hb9
            obtain ⟨A8, c8, rfl, hs8⟩ := Sl.of_own ho9
            clear hb9 ho9 hP hF hE
            refine hK.out _ _ ?_ (fun hHeld2 => ?_)
            focus
              exact hS2 _ hv4
            clear hHeld
            have hHeld := hHeld2
            clear hHeld2 hK K
            try simp only [List.getElem_toArray, List.getElem_cons_succ, List.getElem_cons_zero, Act.put, List.setIfInBounds_toArray, List.set_cons_zero, List.set_cons_succ]
            refine wpAnyH_take (i := 6) (v := ?_) rfl (by kernel_rfl) (by kernel_rfl) (by kernel_rfl) (fun _ _ _ h => h) (Or.inl ⟨by rfl, ?_⟩) (by assumption) ?_
            rotate_left
            focus
              intro U hU
              try dsimp only at hU
              go_simp
              try (with_reducible rfl)
            simp only [List.getElem_toArray, List.getElem_cons_succ, List.getElem_cons_zero, Act.put, List.setIfInBounds_toArray, List.set_cons_zero, List.set_cons_succ]
            refine wpAnyH_take (i := 7) (v := ?_) rfl (by kernel_rfl) (by kernel_rfl) (by kernel_rfl) (fun _ _ _ h => h) (Or.inl ⟨by rfl, ?_⟩) (by assumption) ?_
            rotate_left
            focus
              intro U hU
              try dsimp only at hU
              go_simp
              try (with_reducible rfl)
            simp only [List.getElem_toArray, List.getElem_cons_succ, List.getElem_cons_zero, Act.put, List.setIfInBounds_toArray, List.set_cons_zero, List.set_cons_succ]
            refine wpAnyH_done (by kernel_rfl) ?_ _
            clear hHeld hS2
            have HV9 := hid hv4
            have HS8 := hid hs8
            clear hs8 hv4
            have hSB9 := own_keep HSB.out HV9.out
            have hSD9 := own_keep HSD.out HV9.out
            have HIN9 : Hid (InBk v4 A8 c8 (xs ++ [((newE ji ns), (⟨Ax, cx, some ⟨M1, 0, none⟩, n9, some ⟨M2, 0, none⟩, n9⟩ : Pt))])) := hid ⟨by rw [List.length_append, gcells_append]; simpa [ebl, newE, HNL.out, gcells] using HS8.out, fun y hy => by
              rcases List.mem_append.1 hy with h8 | h8
              · exact (HXS6.out _ HV9.out).2 y h8
              · obtain rfl := List.mem_singleton.1 h8
                exact ⟨HTX6.out _ HV9.out, by simpa [newE, HNL.out] using sl_own hSB9, by simpa [newE, HNL.out] using sl_own hSD9⟩⟩
            clear hSB9 hSD9
            go_wp2
            refine bodyPost_ret (v := .tuple #[.slice A8 (xs.length + 1) c8, .bool true]) (by simp [results, Tryz.results23, go_sem]) rfl ⟨A8, c8, xs ++ [((newE ji ns), (⟨Ax, cx, some ⟨M1, 0, none⟩, n9, some ⟨M2, 0, none⟩, n9⟩ : Pt))], by rw [HR9.out, List.length_append]; rfl, ?_, HIN9.out, HB6.out.trans (HV9.out.mono HB6.out.size)⟩
            rw [← HYL.out, HR9.out, if_pos rfl, List.map_append, HXM.out, ← HNN.out, HG2.out]
            rfl
          · skip
            simp only [List.getElem_toArray, List.getElem_cons_succ, List.getElem_cons_zero]
            go_simp
            refine hK.out _ _ ?_ (fun hHeld2 => ?_)
            focus
              exact hS2 _ (hv1.alloc hv1.size _)
            clear hHeld
            have hHeld := hHeld2
            clear hHeld2 hK K
            try simp only [List.getElem_toArray, List.getElem_cons_succ, List.getElem_cons_zero, Act.put, List.setIfInBounds_toArray, List.set_cons_zero, List.set_cons_succ]
            have gg : RowKit.Below (World.heap v1).size v1 (World.alloc v1 (.cells #[.int .i64 ji, .int .i64 0, .int .i64 1, .slice Ax n9 cx, .slice (some ⟨M1, 0, none⟩) n9 n9, .slice (some ⟨M2, 0, none⟩) n9 n9] 45 (0, 0))) := (RowKit.Below.refl _ _).alloc (Nat.le_refl _) _
            have hv2 := hv1.trans (gg.mono hv1.size)
            have hm5 : w6.heap.size ≤ (World.heap v1).size := hv1.size
            have hne : M4 ≠ (World.heap v1).size := Nat.ne_of_lt (own_lt hE M4 rfl).2.1
            have hF : (World.alloc v1 (.cells #[.int .i64 ji, .int .i64 0, .int .i64 1, .slice Ax n9 cx, .slice (some ⟨M1, 0, none⟩) n9 n9, .slice (some ⟨M2, 0, none⟩) n9 n9] 45 (0, 0))).heap[(World.heap v1).size]? = some (.cells #[.int .i64 ji, .int .i64 0, .int .i64 1, .slice Ax n9 cx, .slice (some ⟨M1, 0, none⟩) n9 n9, .slice (some ⟨M2, 0, none⟩) n9 n9] 45 (0, 0)) := heap_alloc_new v1 (.cells #[.int .i64 ji, .int .i64 0, .int .i64 1, .slice Ax n9 cx, .slice (some ⟨M1, 0, none⟩) n9 n9, .slice (some ⟨M2, 0, none⟩) n9 n9] 45)
            replace hE := own_keep hE gg
            clear gg
            generalize World.alloc v1 (.cells #[.int .i64 ji, .int .i64 0, .int .i64 1, .slice Ax n9 cx, .slice (some ⟨M1, 0, none⟩) n9 n9, .slice (some ⟨M2, 0, none⟩) n9 n9] 45 (0, 0)) = v2 at *
            generalize (World.heap v1).size = M5 at *
            refine wpAnyH_ready (rs := [2]) (by kernel_rfl) (by simp) ?_
            refine (AllReadyH.cons rfl (fun K hK => ?_) AllReadyH.nil)
            refine step_append_sl rfl (.tmp 70) (.tmp 71) 29 rfl w6.heap.size 45 Tryz.underlying29 info_entry rfl (by omega) rfl hE rfl (HXS6.out _ hv2).1 hone ?d3a ?d3b hv2.size ?_
            case d3a => unfold maxLen; omega
            case d3b => omega
            intro y9 v3 ho9 hb9 _ hk9
            have hv3 := hv2.trans hb9
            have hP : (v3).ownsRow w6.heap.size 45 6 y9 xs.length (gcells ebl xs) := by simpa using ho9
            obtain ⟨A9, c9, rfl, _⟩ := Sl.of_own hP
            replace hF := (hk9 M5 hm5 (lt_of_block hF) (fun h9 => hne (Option.some.inj h9))).trans hF
            clear hb9 ho9 hk9
            refine hK.out _ _ ?_ (fun hHeld2 => ?_)
            focus
              exact hS2 _ hv3
            clear hHeld
            have hHeld := hHeld2
            clear hHeld2 hK K
            try simp only [List.getElem_toArray, List.getElem_cons_succ, List.getElem_cons_zero, Act.put, List.setIfInBounds_toArray, List.set_cons_zero, List.set_cons_succ]
            refine wpAnyH_ready (rs := [5]) (by kernel_rfl) (by simp) ?_
            refine (AllReadyH.cons rfl (fun K hK => ?_) AllReadyH.nil)
            refine step_append_sl rfl (.tmp 72) (.tmp 74) 29 rfl w6.heap.size 45 Tryz.underlying29 info_entry rfl (by omega) rfl hP rfl (sl_blk6 hF) (by simp [Value.oneCell']) ?d4a ?d4b hv3.size ?_
            case d4a => unfold maxLen; omega
            case d4b => omega
            intro y9 v4 ho9 hb9 _ _
            have hv4 := hv3.trans hb9
            obtain ⟨A8, c8, rfl, hs8⟩ := Sl.of_own ho9
            clear hb9 ho9 hP hF hE
            refine hK.out _ _ ?_ (fun hHeld2 => ?_)
            focus
              exact hS2 _ hv4
            clear hHeld
            have hHeld := hHeld2
            clear hHeld2 hK K
            try simp only [List.getElem_toArray, List.getElem_cons_succ, List.getElem_cons_zero, Act.put, List.setIfInBounds_toArray, List.set_cons_zero, List.set_cons_succ]
            refine wpAnyH_take (i := 6) (v := ?_) rfl (by kernel_rfl) (by kernel_rfl) (by kernel_rfl) (fun _ _ _ h => h) (Or.inl ⟨by rfl, ?_⟩) (by assumption) ?_
            rotate_left
            focus
              intro U hU
              try dsimp only at hU
              go_simp
              try (with_reducible rfl)
            simp only [List.getElem_toArray, List.getElem_cons_succ, List.getElem_cons_zero, Act.put, List.setIfInBounds_toArray, List.set_cons_zero, List.set_cons_succ]
            refine wpAnyH_take (i := 7) (v := ?_) rfl (by kernel_rfl) (by kernel_rfl) (by kernel_rfl) (fun _ _ _ h => h) (Or.inl ⟨by rfl, ?_⟩) (by assumption) ?_
            rotate_left
            focus
              intro U hU
              try dsimp only at hU
              go_simp
              try (with_reducible rfl)
            simp only [List.getElem_toArray, List.getElem_cons_succ, List.getElem_cons_zero, Act.put, List.setIfInBounds_toArray, List.set_cons_zero, List.set_cons_succ]
            refine wpAnyH_done (by kernel_rfl) ?_ _
            clear hHeld hS2
            have HV9 := hid hv4
            have HS8 := hid hs8
            clear hs8 hv4
            have hSB9 := own_keep HSB.out HV9.out
            have hSD9 := own_keep HSD.out HV9.out
            have HIN9 : Hid (InBk v4 A8 c8 (xs ++ [((newE ji ns), (⟨Ax, cx, some ⟨M1, 0, none⟩, n9, some ⟨M2, 0, none⟩, n9⟩ : Pt))])) := hid ⟨by rw [List.length_append, gcells_append]; simpa [ebl, newE, HNL.out, gcells] using HS8.out, fun y hy => by
              rcases List.mem_append.1 hy with h8 | h8
              · exact (HXS6.out _ HV9.out).2 y h8
              · obtain rfl := List.mem_singleton.1 h8
                exact ⟨HTX6.out _ HV9.out, by simpa [newE, HNL.out] using sl_own hSB9, by simpa [newE, HNL.out] using sl_own hSD9⟩⟩
            clear hSB9 hSD9
            go_wp2
            refine bodyPost_ret (v := .tuple #[.slice A8 (xs.length + 1) c8, .bool true]) (by simp [results, Tryz.results23, go_sem]) rfl ⟨A8, c8, xs ++ [((newE ji ns), (⟨Ax, cx, some ⟨M1, 0, none⟩, n9, some ⟨M2, 0, none⟩, n9⟩ : Pt))], by rw [HR9.out, List.length_append]; rfl, ?_, HIN9.out, HB6.out.trans (HV9.out.mono HB6.out.size)⟩
            rw [← HYL.out, HR9.out, if_pos rfl, List.map_append, HXM.out, ← HNN.out, HG2.out]
            rfl
        · skip
          simp only [List.getElem_toArray, List.getElem_cons_succ, List.getElem_cons_zero]
          go_simp
          refine hK.out _ _ ?_ (fun hHeld2 => ?_)
          focus
            exact hS2 _ (hv0.alloc hv0.size _)
          clear hHeld
          have hHeld := hHeld2
          clear hHeld2 hK K
          try simp only [List.getElem_toArray, List.getElem_cons_succ, List.getElem_cons_zero, Act.put, List.setIfInBounds_toArray, List.set_cons_zero, List.set_cons_succ]
          have gg : RowKit.Below (World.heap v0).size v0 (World.alloc v0 (.cells #[.int .i64 ji, .int .i64 0, .int .i64 1, .slice Ax n9 cx, .slice (some ⟨M1, 0, none⟩) n9 n9, .slice (some ⟨M2, 0, none⟩) n9 n9] 45 (0, 0))) := (RowKit.Below.refl _ _).alloc (Nat.le_refl _) _
          have hv1 := hv0.trans (gg.mono hv0.size)
          have hm5 : w6.heap.size ≤ (World.heap v0).size := hv0.size
          have hF : (World.alloc v0 (.cells #[.int .i64 ji, .int .i64 0, .int .i64 1, .slice Ax n9 cx, .slice (some ⟨M1, 0, none⟩) n9 n9, .slice (some ⟨M2, 0, none⟩) n9 n9] 45 (0, 0))).heap[(World.heap v0).size]? = some (.cells #[.int .i64 ji, .int .i64 0, .int .i64 1, .slice Ax n9 cx, .slice (some ⟨M1, 0, none⟩) n9 n9, .slice (some ⟨M2, 0, none⟩) n9 n9] 45 (0, 0)) := heap_alloc_new v0 (.cells #[.int .i64 ji, .int .i64 0, .int .i64 1, .slice Ax n9 cx, .slice (some ⟨M1, 0, none⟩) n9 n9, .slice (some ⟨M2, 0, none⟩) n9 n9] 45)
          clear gg
          generalize World.alloc v0 (.cells #[.int .i64 ji, .int .i64 0, .int .i64 1, .slice Ax n9 cx, .slice (some ⟨M1, 0, none⟩) n9 n9, .slice (some ⟨M2, 0, none⟩) n9 n9] 45 (0, 0)) = v1 at *
          generalize (World.heap v0).size = M5 at *
          refine wpAnyH_ready (rs := [0]) (by kernel_rfl) (by simp) ?_
          refine (AllReadyH.cons rfl (fun K hK => ?_) AllReadyH.nil)
          simp only [List.getElem_toArray, List.getElem_cons_succ, List.getElem_cons_zero]
          go_simp
          refine hK.out _ _ ?_ (fun hHeld2 => ?_)
          focus
            exact hS2 _ (hv1.alloc hv1.size _)
          clear hHeld
          have hHeld := hHeld2
          clear hHeld2 hK K
          try simp only [List.getElem_toArray, List.getElem_cons_succ, List.getElem_cons_zero, Act.put, List.setIfInBounds_toArray, List.set_cons_zero, List.set_cons_succ]
          have gg : RowKit.Below (World.heap v1).size v1 (World.alloc v1 (.cells #[] 45 (0, 0))) := (RowKit.Below.refl _ _).alloc (Nat.le_refl _) _
          have hv2 := hv1.trans (gg.mono hv1.size)
          have hne : (World.heap v1).size ≠ M5 := Nat.ne_of_gt (lt_of_block hF)
          have hE : (World.alloc v1 (.cells #[] 45 (0, 0))).ownsRow w6.heap.size 45 6 (.slice (some ⟨(World.heap v1).size, 0, none⟩) 0 0) 0 [] := own_mono (own_empty v1 45 6) hv1.size
          replace hF := keep0 hF gg
          clear gg
          generalize World.alloc v1 (.cells #[] 45 (0, 0)) = v2 at *
          generalize (World.heap v1).size = M4 at *
          refine wpAnyH_ready (rs := [2]) (by kernel_rfl) (by simp) ?_
          refine (AllReadyH.cons rfl (fun K hK => ?_) AllReadyH.nil)
          refine step_append_sl rfl (.tmp 70) (.tmp 71) 29 rfl w6.heap.size 45 Tryz.underlying29 info_entry rfl (by omega) rfl hE rfl (HXS6.out _ hv2).1 hone ?d5a ?d5b hv2.size ?_
          case d5a => unfold maxLen; omega
          case d5b => omega
          intro y9 v3 ho9 hb9 _ hk9
          have hv3 := hv2.trans hb9
          have hP : (v3).ownsRow w6.heap.size 45 6 y9 xs.length (gcells ebl xs) := by simpa using ho9
          obtain ⟨A9, c9, rfl, _⟩ := Sl.of_own hP
          replace hF := (hk9 M5 hm5 (lt_of_block hF) (fun h9 => hne (Option.some.inj h9))).trans hF
          clear hb9 ho9 hk9
          refine hK.out _ _ ?_ (fun hHeld2 => ?_)
          focus
            exact hS2 _ hv3
          clear hHeld
          have hHeld := hHeld2
          clear hHeld2 hK K
          try simp only [List.getElem_toArray, List.getElem_cons_succ, List.getElem_cons_zero, Act.put, List.setIfInBounds_toArray, List.set_cons_zero, List.set_cons_succ]
          refine wpAnyH_ready (rs := [5]) (by kernel_rfl) (by simp) ?_
          refine (AllReadyH.cons rfl (fun K hK => ?_) AllReadyH.nil)
          refine step_append_sl rfl (.tmp 72) (.tmp 74) 29 rfl w6.heap.size 45 Tryz.underlying29 info_entry rfl (by omega) rfl hP rfl (sl_blk6 hF) (by simp [Value.oneCell']) ?d6a ?d6b hv3.size ?_
          case d6a => unfold maxLen; omega
          case d6b => omega
          intro y9 v4 ho9 hb9 _ _
          have hv4 := hv3.trans hb9
          obtain ⟨A8, c8, rfl, hs8⟩ := Sl.of_own ho9
          clear hb9 ho9 hP hF hE
          refine hK.out _ _ ?_ (fun hHeld2 => ?_)
          focus
            exact hS2 _ hv4
          clear hHeld
          have hHeld := hHeld2
          clear hHeld2 hK K
          try simp only [List.getElem_toArray, List.getElem_cons_succ, List.getElem_cons_zero, Act.put, List.setIfInBounds_toArray, List.set_cons_zero, List.set_cons_succ]
          refine wpAnyH_take (i := 6) (v := ?_) rfl (by kernel_rfl) (by kernel_rfl) (by kernel_rfl) (fun _ _ _ h => h) (Or.inl ⟨by rfl, ?_⟩) (by assumption) ?_
          rotate_left
          focus
            intro U hU
            try dsimp only at hU
            go_simp
            try (with_reducible rfl)
          simp only [List.getElem_toArray, List.getElem_cons_succ, List.getElem_cons_zero, Act.put, List.setIfInBounds_toArray, List.set_cons_zero, List.set_cons_succ]
          refine wpAnyH_take (i := 7) (v := ?_) rfl (by kernel_rfl) (by kernel_rfl) (by kernel_rfl) (fun _ _ _ h => h) (Or.inl ⟨by rfl, ?_⟩) (by assumption) ?_
          rotate_left
          focus
            intro U hU
            try dsimp only at hU
            go_simp
            try (with_reducible rfl)
          simp only [List.getElem_toArray, List.getElem_cons_succ, List.getElem_cons_zero, Act.put, List.setIfInBounds_toArray, List.set_cons_zero, List.set_cons_succ]
          refine wpAnyH_done (by kernel_rfl) ?_ _
          clear hHeld hS2
          have HV9 := hid hv4
          have HS8 := hid hs8
          clear hs8 hv4
          have hSB9 := own_keep HSB.out HV9.out
          have hSD9 := own_keep HSD.out HV9.out
          have HIN9 : Hid (InBk v4 A8 c8 (xs ++ [((newE ji ns), (⟨Ax, cx, some ⟨M1, 0, none⟩, n9, some ⟨M2, 0, none⟩, n9⟩ : Pt))])) := hid ⟨by rw [List.length_append, gcells_append]; simpa [ebl, newE, HNL.out, gcells] using HS8.out, fun y hy => by
            rcases List.mem_append.1 hy with h8 | h8
            · exact (HXS6.out _ HV9.out).2 y h8
            · obtain rfl := List.mem_singleton.1 h8
              exact ⟨HTX6.out _ HV9.out, by simpa [newE, HNL.out] using sl_own hSB9, by simpa [newE, HNL.out] using sl_own hSD9⟩⟩
          clear hSB9 hSD9
          go_wp2
          refine bodyPost_ret (v := .tuple #[.slice A8 (xs.length + 1) c8, .bool true]) (by simp [results, Tryz.results23, go_sem]) rfl ⟨A8, c8, xs ++ [((newE ji ns), (⟨Ax, cx, some ⟨M1, 0, none⟩, n9, some ⟨M2, 0, none⟩, n9⟩ : Pt))], by rw [HR9.out, List.length_append]; rfl, ?_, HIN9.out, HB6.out.trans (HV9.out.mono HB6.out.size)⟩
          rw [← HYL.out, HR9.out, if_pos rfl, List.map_append, HXM.out, ← HNN.out, HG2.out]
          rfl
      · skip
        simp only [List.getElem_toArray, List.getElem_cons_succ, List.getElem_cons_zero]
        go_simp
        refine hK.out _ _ ?_ (fun hHeld2 => ?_)
        focus
          exact hS _ (hu1.alloc hu1.size _)
        clear hHeld
        have hHeld := hHeld2
        clear hHeld2 hK K
        try simp only [List.getElem_toArray, List.getElem_cons_succ, List.getElem_cons_zero, Act.put, List.setIfInBounds_toArray, List.set_cons_zero, List.set_cons_succ]
        have gg : RowKit.Below (World.heap u1).size u1 (World.alloc u1 (.cells #[.int .i64 0, .int .i64 0, .int .i64 0, .slice none 0 0, .slice none 0 0, .slice none 0 0] 45 (0, 0))) := (RowKit.Below.refl _ _).alloc (Nat.le_refl _) _
        have hu2 := hu1.trans (gg.mono hu1.size)
        have hm3 : w5.heap.size ≤ (World.heap u1).size := hu1.size
        have hz : (World.alloc u1 (.cells #[.int .i64 0, .int .i64 0, .int .i64 0, .slice none 0 0, .slice none 0 0, .slice none 0 0] 45 (0, 0))).heap[(World.heap u1).size]? = some (.cells #[.int .i64 0, .int .i64 0, .int .i64 0, .slice none 0 0, .slice none 0 0, .slice none 0 0] 45 (0, 0)) := heap_alloc_new u1 (.cells #[.int .i64 0, .int .i64 0, .int .i64 0, .slice none 0 0, .slice none 0 0, .slice none 0 0] 45)
        replace hsb := own_keep hsb gg
        clear gg
        generalize World.alloc u1 (.cells #[.int .i64 0, .int .i64 0, .int .i64 0, .slice none 0 0, .slice none 0 0, .slice none 0 0] 45 (0, 0)) = u2 at *
        generalize (World.heap u1).size = M3 at *
        refine wpAnyH_ready (rs := [10]) (by kernel_rfl) (by simp) ?_
        refine (AllReadyH.cons rfl (fun K hK => ?_) AllReadyH.nil)
        simp only [List.getElem_toArray, List.getElem_cons_succ, List.getElem_cons_zero]
        go_simp
        refine hK.out _ _ ?_ (fun hHeld2 => ?_)
        focus
          exact hS _ (hu2.alloc hu2.size _)
        clear hHeld
        have hHeld := hHeld2
        clear hHeld2 hK K
        try simp only [List.getElem_toArray, List.getElem_cons_succ, List.getElem_cons_zero, Act.put, List.setIfInBounds_toArray, List.set_cons_zero, List.set_cons_succ]
        have gg : RowKit.Below (World.heap u2).size u2 (World.alloc u2 (.cells (Array.replicate n9 (.bool false)) 4 (0, 0))) := (RowKit.Below.refl _ _).alloc (Nat.le_refl _) _
        have hu3 := hu2.trans (gg.mono hu2.size)
        have hsd : (World.alloc u2 (.cells (Array.replicate n9 (.bool false)) 4 (0, 0))).ownsRow w5.heap.size 4 1 (.slice (some ⟨(World.heap u2).size, 0, none⟩) n9 n9) n9 (blcells (List.replicate n9 false)) := own_rep (heap_alloc_new u2 _) hu2.size (by unfold maxLen; omega) (by simp [blcells])
        replace hsb := own_keep hsb gg
        replace hz := keep0 hz gg
        clear gg
        generalize World.alloc u2 (.cells (Array.replicate n9 (.bool false)) 4 (0, 0)) = u3 at *
        generalize (World.heap u2).size = M2 at *
        refine wpAnyH_take (i := 11) (v := ?_) rfl (by kernel_rfl) (by kernel_rfl) (by kernel_rfl) (fun _ _ _ h => h) (Or.inl ⟨by rfl, ?_⟩) (by assumption) ?_
        rotate_left
        focus
          intro U hU
          try dsimp only at hU
          go_simp
          try (with_reducible rfl)
        simp only [List.getElem_toArray, List.getElem_cons_succ, List.getElem_cons_zero, Act.put, List.setIfInBounds_toArray, List.set_cons_zero, List.set_cons_succ]
        obtain ⟨⟨z0, z1, z2, z3, z4, z5⟩, f0, f1, f2, f3, f4, f5⟩ := six_cells hz
        refine wpAnyH_ready (rs := [13]) (by kernel_rfl) (by simp) ?_
        refine (AllReadyH.cons rfl (fun K hK => ?_) AllReadyH.nil)
        simp only [List.getElem_toArray, List.getElem_cons_succ, List.getElem_cons_zero]
        go_simp
        refine hK.out _ _ ?_ (fun hHeld2 => ?_)
        focus
          exact hS _ (put6_below hu3 hm3 (.int .i64 ji) (.int .i64 0) (.int .i64 1) (.slice Ax n9 cx) (.slice (some ⟨M1, 0, none⟩) n9 n9) (.slice (some ⟨M2, 0, none⟩) n9 n9))
        clear hHeld
        have hHeld := hHeld2
        clear hHeld2 hK K
        try simp only [List.getElem_toArray, List.getElem_cons_succ, List.getElem_cons_zero, Act.put, List.setIfInBounds_toArray, List.set_cons_zero, List.set_cons_succ]
        have hx9 := put6_heap hz (.int .i64 ji) (.int .i64 0) (.int .i64 1) (.slice Ax n9 cx) (.slice (some ⟨M1, 0, none⟩) n9 n9) (.slice (some ⟨M2, 0, none⟩) n9 n9)
        have hb9 := put6_below hu3 hm3 (.int .i64 ji) (.int .i64 0) (.int .i64 1) (.slice Ax n9 cx) (.slice (some ⟨M1, 0, none⟩) n9 n9) (.slice (some ⟨M2, 0, none⟩) n9 n9)
        have hsb9 := own_same hsb hz (by decide) (fun g hg => put6_other (w := u3) (b := M3) hg (.int .i64 ji) (.int .i64 0) (.int .i64 1) (.slice Ax n9 cx) (.slice (some ⟨M1, 0, none⟩) n9 n9) (.slice (some ⟨M2, 0, none⟩) n9 n9))
        have hsd9 := own_same hsd hz (by decide) (fun g hg => put6_other (w := u3) (b := M3) hg (.int .i64 ji) (.int .i64 0) (.int .i64 1) (.slice Ax n9 cx) (.slice (some ⟨M1, 0, none⟩) n9 n9) (.slice (some ⟨M2, 0, none⟩) n9 n9))
        refine wpAnyH_done (by kernel_rfl) ?_ _
        clear hHeld hS hmk1 hmk2
        go_upto_region 11 with (fail)
        refine at_world (fun u => u.heap[M3]? = some (.cells #[.int .i64 ji, .int .i64 0, .int .i64 1, .slice Ax n9 cx, .slice (some ⟨M1, 0, none⟩) n9 n9, .slice (some ⟨M2, 0, none⟩) n9 n9] 45 (0, 0)) ∧ u.ownsRow w5.heap.size 3 1 (.slice (some ⟨M1, 0, none⟩) n9 n9) n9 (icells .i64 (List.replicate n9 0)) ∧ u.ownsRow w5.heap.size 4 1 (.slice (some ⟨M2, 0, none⟩) n9 n9) n9 (blcells (List.replicate n9 false)) ∧ RowKit.Below w5.heap.size w5 u) ⟨hx9, hsb9, hsd9, hb9⟩ ?_
        rintro w6 ⟨hx6, hsb6, hsd6, hb6⟩
        have HX6 := hid hx6
        have HSB := hid hsb6
        have HSD := hid hsd6
        have HB6 := hid (HB4.out.trans (hb6.mono HB4.out.size))
        have HJ6 := hid (keep0 HJ4.out hb6)
        clear hx6 hsb6 hsd6 hb6
        have HXS6 := hid (fun u (hu : RowKit.Below w6.heap.size w6 u) => HXS.out u (HB6.out.trans (hu.mono HB6.out.size)))
        have hone : ∀ u ∈ gcells ebl xs, u.oneCell' = true := ebl_one xs
        have HTX6 := hid (fun u (hu : RowKit.Below w6.heap.size w6 u) => HTX.out u (HB6.out.trans (hu.mono HB6.out.size)))
        have hS2 : ∀ U, RowKit.Below w6.heap.size w6 U → ((U.cell? ⟨M3, 0, none⟩ = some (.int .i64 ji) ∧ U.cell? ⟨M3, 1, none⟩ = some (.int .i64 0) ∧ U.cell? ⟨M3, 2, none⟩ = some (.int .i64 1) ∧ U.cell? ⟨M3, 3, none⟩ = some (.slice Ax n9 cx) ∧ U.cell? ⟨M3, 4, none⟩ = some (.slice (some ⟨M1, 0, none⟩) n9 n9) ∧ U.cell? ⟨M3, 5, none⟩ = some (.slice (some ⟨M2, 0, none⟩) n9 n9)) ∧ RowKit.Below w6.heap.size w6 U) := fun U hU => ⟨(six_cells (keep0 HX6.out hU)).1, hU⟩
        have hv0 : RowKit.Below w6.heap.size w6 w6.drew := below_drew (RowKit.Below.refl _ _)
        refine wp_region_held_drew (S := fun U => (U.cell? ⟨M3, 0, none⟩ = some (.int .i64 ji) ∧ U.cell? ⟨M3, 1, none⟩ = some (.int .i64 0) ∧ U.cell? ⟨M3, 2, none⟩ = some (.int .i64 1) ∧ U.cell? ⟨M3, 3, none⟩ = some (.slice Ax n9 cx) ∧ U.cell? ⟨M3, 4, none⟩ = some (.slice (some ⟨M1, 0, none⟩) n9 n9) ∧ U.cell? ⟨M3, 5, none⟩ = some (.slice (some ⟨M2, 0, none⟩) n9 n9)) ∧ RowKit.Below w6.heap.size w6 U) (by kernel_rfl) (hS2 _ hv0) (fun hHeld => ?_)
        generalize w6.drew = v0 at *
        refine wpAnyH_take (i := 1) (v := ?_) rfl (by kernel_rfl) (by kernel_rfl) (by kernel_rfl) (fun _ _ _ h => h) (Or.inl ⟨by rfl, ?_⟩) (by assumption) ?_
        rotate_left
        focus
          intro U hU
          try dsimp only at hU
          go_simp
          try (with_reducible rfl)
        simp only [List.getElem_toArray, List.getElem_cons_succ, List.getElem_cons_zero, Act.put, List.setIfInBounds_toArray, List.set_cons_zero, List.set_cons_succ]
        refine wpAnyH_take (i := 3) (v := ?_) rfl (by kernel_rfl) (by kernel_rfl) (by kernel_rfl) (fun _ _ _ h => h) (Or.inl ⟨by rfl, ?_⟩) (by assumption) ?_
        rotate_left
        focus
          intro U hU
          try dsimp only at hU
          go_simp
          try (with_reducible rfl)
        simp only [List.getElem_toArray, List.getElem_cons_succ, List.getElem_cons_zero, Act.put, List.setIfInBounds_toArray, List.set_cons_zero, List.set_cons_succ]
        refine wpAnyH_ready (rs := [0, 4]) (by kernel_rfl) (by simp) ?_
        refine (AllReadyH.cons rfl (fun K hK => ?_) (AllReadyH.cons rfl (fun K hK => ?_) AllReadyH.nil))
        · skip
          simp only [List.getElem_toArray, List.getElem_cons_succ, List.getElem_cons_zero]
          go_simp
          refine hK.out _ _ ?_ (fun hHeld2 => ?_)
          focus
            exact hS2 _ (hv0.alloc hv0.size _)
          clear hHeld
          have hHeld := hHeld2
          clear hHeld2 hK K
          try simp only [List.getElem_toArray, List.getElem_cons_succ, List.getElem_cons_zero, Act.put, List.setIfInBounds_toArray, List.set_cons_zero, List.set_cons_succ]
          have gg : RowKit.Below (World.heap v0).size v0 (World.alloc v0 (.cells #[] 45 (0, 0))) := (RowKit.Below.refl _ _).alloc (Nat.le_refl _) _
          have hv1 := hv0.trans (gg.mono hv0.size)
          have hE : (World.alloc v0 (.cells #[] 45 (0, 0))).ownsRow w6.heap.size 45 6 (.slice (some ⟨(World.heap v0).size, 0, none⟩) 0 0) 0 [] := own_mono (own_empty v0 45 6) hv0.size
          clear gg
          generalize World.alloc v0 (.cells #[] 45 (0, 0)) = v1 at *
          generalize (World.heap v0).size = M4 at *
          refine wpAnyH_ready (rs := [2, 4]) (by kernel_rfl) (by simp) ?_
          refine (AllReadyH.cons rfl (fun K hK => ?_) (AllReadyH.cons rfl (fun K hK => ?_) AllReadyH.nil))
          · skip
            refine step_append_sl rfl (.tmp 70) (.tmp 71) 29 rfl w6.heap.size 45 Tryz.underlying29 info_entry rfl (by omega) rfl hE rfl (HXS6.out _ hv1).1 hone ?d7a ?d7b hv1.size ?_
            case d7a => unfold maxLen; omega
            case d7b => omega
            intro y9 v2 ho9 hb9 _ hk9
            have hv2 := hv1.trans hb9
            have hP : (v2).ownsRow w6.heap.size 45 6 y9 xs.length (gcells ebl xs) := by simpa using ho9
            obtain ⟨A9, c9, rfl, _⟩ := Sl.of_own hP
            clear hb9 ho9 hk9
            refine hK.out _ _ ?_ (fun hHeld2 => ?_)
            focus
              exact hS2 _ hv2
            clear hHeld
            have hHeld := hHeld2
            clear hHeld2 hK K
            try simp only [List.getElem_toArray, List.getElem_cons_succ, List.getElem_cons_zero, Act.put, List.setIfInBounds_toArray, List.set_cons_zero, List.set_cons_succ]
            refine wpAnyH_ready (rs := [4]) (by kernel_rfl) (by simp) ?_
            refine (AllReadyH.cons rfl (fun K hK => ?_) AllReadyH.nil)
            simp only [List.getElem_toArray, List.getElem_cons_succ, List.getElem_cons_zero]
            go_simp
            refine hK.out _ _ ?_ (fun hHeld2 => ?_)
            focus
              exact hS2 _ (hv2.alloc hv2.size _)
            clear hHeld
            have hHeld := hHeld2
            clear hHeld2 hK K
            try simp only [List.getElem_toArray, List.getElem_cons_succ, List.getElem_cons_zero, Act.put, List.setIfInBounds_toArray, List.set_cons_zero, List.set_cons_succ]
            have gg : RowKit.Below (World.heap v2).size v2 (World.alloc v2 (.cells #[.int .i64 ji, .int .i64 0, .int .i64 1, .slice Ax n9 cx, .slice (some ⟨M1, 0, none⟩) n9 n9, .slice (some ⟨M2, 0, none⟩) n9 n9] 45 (0, 0))) := (RowKit.Below.refl _ _).alloc (Nat.le_refl _) _
            have hv3 := hv2.trans (gg.mono hv2.size)
            have hm5 : w6.heap.size ≤ (World.heap v2).size := hv2.size
            have hF : (World.alloc v2 (.cells #[.int .i64 ji, .int .i64 0, .int .i64 1, .slice Ax n9 cx, .slice (some ⟨M1, 0, none⟩) n9 n9, .slice (some ⟨M2, 0, none⟩) n9 n9] 45 (0, 0))).heap[(World.heap v2).size]? = some (.cells #[.int .i64 ji, .int .i64 0, .int .i64 1, .slice Ax n9 cx, .slice (some ⟨M1, 0, none⟩) n9 n9, .slice (some ⟨M2, 0, none⟩) n9 n9] 45 (0, 0)) := heap_alloc_new v2 (.cells #[.int .i64 ji, .int .i64 0, .int .i64 1, .slice Ax n9 cx, .slice (some ⟨M1, 0, none⟩) n9 n9, .slice (some ⟨M2, 0, none⟩) n9 n9] 45)
            replace hP := own_keep hP gg
            clear gg
            generalize World.alloc v2 (.cells #[.int .i64 ji, .int .i64 0, .int .i64 1, .slice Ax n9 cx, .slice (some ⟨M1, 0, none⟩) n9 n9, .slice (some ⟨M2, 0, none⟩) n9 n9] 45 (0, 0)) = v3 at *
            generalize (World.heap v2).size = M5 at *
            refine wpAnyH_ready (rs := [5]) (by kernel_rfl) (by simp) ?_
            refine (AllReadyH.cons rfl (fun K hK => ?_) AllReadyH.nil)
            refine step_append_sl rfl (.tmp 72) (.tmp 74) 29 rfl w6.heap.size 45 Tryz.underlying29 info_entry rfl (by omega) rfl hP rfl (sl_blk6 hF) (by simp [Value.oneCell']) ?d8a ?d8b hv3.size ?_
            case d8a => unfold maxLen; omega
            case d8b => omega
            intro y9 v4 ho9 hb9 _ _
            have hv4 := hv3.trans hb9
            obtain ⟨A8, c8, rfl, hs8⟩ := Sl.of_own ho9
            clear hb9 ho9 hP hF hE
            refine hK.out _ _ ?_ (fun hHeld2 => ?_)
            focus
              exact hS2 _ hv4
            clear hHeld
            have hHeld := hHeld2
            clear hHeld2 hK K
            try simp only [List.getElem_toArray, List.getElem_cons_succ, List.getElem_cons_zero, Act.put, List.setIfInBounds_toArray, List.set_cons_zero, List.set_cons_succ]
            refine wpAnyH_take (i := 6) (v := ?_) rfl (by kernel_rfl) (by kernel_rfl) (by kernel_rfl) (fun _ _ _ h => h) (Or.inl ⟨by rfl, ?_⟩) (by assumption) ?_
            rotate_left
            focus
              intro U hU
              try dsimp only at hU
              go_simp
              try (with_reducible rfl)
            simp only [List.getElem_toArray, List.getElem_cons_succ, List.getElem_cons_zero, Act.put, List.setIfInBounds_toArray, List.set_cons_zero, List.set_cons_succ]
            refine wpAnyH_take (i := 7) (v := ?_) rfl (by kernel_rfl) (by kernel_rfl) (by kernel_rfl) (fun _ _ _ h => h) (Or.inl ⟨by rfl, ?_⟩) (by assumption) ?_
            rotate_left
            focus
              intro U hU
              try dsimp only at hU
              go_simp
              try (with_reducible rfl)
            simp only [List.getElem_toArray, List.getElem_cons_succ, List.getElem_cons_zero, Act.put, List.setIfInBounds_toArray, List.set_cons_zero, List.set_cons_succ]
            refine wpAnyH_done (by kernel_rfl) ?_ _
            clear hHeld hS2
            have HV9 := hid hv4
            have HS8 := hid hs8
            clear hs8 hv4
            have hSB9 := own_keep HSB.out HV9.out
            have hSD9 := own_keep HSD.out HV9.out
            have HIN9 : Hid (InBk v4 A8 c8 (xs ++ [((newE ji ns), (⟨Ax, cx, some ⟨M1, 0, none⟩, n9, some ⟨M2, 0, none⟩, n9⟩ : Pt))])) := hid ⟨by rw [List.length_append, gcells_append]; simpa [ebl, newE, HNL.out, gcells] using HS8.out, fun y hy => by
              rcases List.mem_append.1 hy with h8 | h8
              · exact (HXS6.out _ HV9.out).2 y h8
              · obtain rfl := List.mem_singleton.1 h8
                exact ⟨HTX6.out _ HV9.out, by simpa [newE, HNL.out] using sl_own hSB9, by simpa [newE, HNL.out] using sl_own hSD9⟩⟩
            clear hSB9 hSD9
            go_wp2
            refine bodyPost_ret (v := .tuple #[.slice A8 (xs.length + 1) c8, .bool true]) (by simp [results, Tryz.results23, go_sem]) rfl ⟨A8, c8, xs ++ [((newE ji ns), (⟨Ax, cx, some ⟨M1, 0, none⟩, n9, some ⟨M2, 0, none⟩, n9⟩ : Pt))], by rw [HR9.out, List.length_append]; rfl, ?_, HIN9.out, HB6.out.trans (HV9.out.mono HB6.out.size)⟩
            rw [← HYL.out, HR9.out, if_pos rfl, List.map_append, HXM.out, ← HNN.out, HG2.out]
            rfl
          · skip
            simp only [List.getElem_toArray, List.getElem_cons_succ, List.getElem_cons_zero]
            go_simp
            refine hK.out _ _ ?_ (fun hHeld2 => ?_)
            focus
              exact hS2 _ (hv1.alloc hv1.size _)
            clear hHeld
            have hHeld := hHeld2
            clear hHeld2 hK K
            try simp only [List.getElem_toArray, List.getElem_cons_succ, List.getElem_cons_zero, Act.put, List.setIfInBounds_toArray, List.set_cons_zero, List.set_cons_succ]
            have gg : RowKit.Below (World.heap v1).size v1 (World.alloc v1 (.cells #[.int .i64 ji, .int .i64 0, .int .i64 1, .slice Ax n9 cx, .slice (some ⟨M1, 0, none⟩) n9 n9, .slice (some ⟨M2, 0, none⟩) n9 n9] 45 (0, 0))) := (RowKit.Below.refl _ _).alloc (Nat.le_refl _) _
            have hv2 := hv1.trans (gg.mono hv1.size)
            have hm5 : w6.heap.size ≤ (World.heap v1).size := hv1.size
            have hne : M4 ≠ (World.heap v1).size := Nat.ne_of_lt (own_lt hE M4 rfl).2.1
            have hF : (World.alloc v1 (.cells #[.int .i64 ji, .int .i64 0, .int .i64 1, .slice Ax n9 cx, .slice (some ⟨M1, 0, none⟩) n9 n9, .slice (some ⟨M2, 0, none⟩) n9 n9] 45 (0, 0))).heap[(World.heap v1).size]? = some (.cells #[.int .i64 ji, .int .i64 0, .int .i64 1, .slice Ax n9 cx, .slice (some ⟨M1, 0, none⟩) n9 n9, .slice (some ⟨M2, 0, none⟩) n9 n9] 45 (0, 0)) := heap_alloc_new v1 (.cells #[.int .i64 ji, .int .i64 0, .int .i64 1, .slice Ax n9 cx, .slice (some ⟨M1, 0, none⟩) n9 n9, .slice (some ⟨M2, 0, none⟩) n9 n9] 45)
            replace hE := own_keep hE gg
            clear gg
            generalize World.alloc v1 (.cells #[.int .i64 ji, .int .i64 0, .int .i64 1, .slice Ax n9 cx, .slice (some ⟨M1, 0, none⟩) n9 n9, .slice (some ⟨M2, 0, none⟩) n9 n9] 45 (0, 0)) = v2 at *
            generalize (World.heap v1).size = M5 at *
            refine wpAnyH_ready (rs := [2]) (by kernel_rfl) (by simp) ?_
            refine (AllReadyH.cons rfl (fun K hK => ?_) AllReadyH.nil)
            refine step_append_sl rfl (.tmp 70) (.tmp 71) 29 rfl w6.heap.size 45 Tryz.underlying29 info_entry rfl (by omega) rfl hE rfl (HXS6.out _ hv2).1 hone ?d9a ?d9b hv2.size ?_
            case d9a => unfold maxLen; omega
            case d9b => omega
            intro y9 v3 ho9 hb9 _ hk9
            have hv3 := hv2.trans hb9
            have hP : (v3).ownsRow w6.heap.size 45 6 y9 xs.length (gcells ebl xs) := by simpa using ho9
            obtain ⟨A9, c9, rfl, _⟩ := Sl.of_own hP
            replace hF := (hk9 M5 hm5 (lt_of_block hF) (fun h9 => hne (Option.some.inj h9))).trans hF
            clear hb9 ho9 hk9
            refine hK.out _ _ ?_ (fun hHeld2 => ?_)
            focus
              exact hS2 _ hv3
            clear hHeld
            have hHeld := hHeld2
            clear hHeld2 hK K
            try simp only [List.getElem_toArray, List.getElem_cons_succ, List.getElem_cons_zero, Act.put, List.setIfInBounds_toArray, List.set_cons_zero, List.set_cons_succ]
            refine wpAnyH_ready (rs := [5]) (by kernel_rfl) (by simp) ?_
            refine (AllReadyH.cons rfl (fun K hK => ?_) AllReadyH.nil)
            refine step_append_sl rfl (.tmp 72) (.tmp 74) 29 rfl w6.heap.size 45 Tryz.underlying29 info_entry rfl (by omega) rfl hP rfl (sl_blk6 hF) (by simp [Value.oneCell']) ?d10a ?d10b hv3.size ?_
            case d10a => unfold maxLen; omega
            case d10b => omega
            intro y9 v4 ho9 hb9 _ _
            have hv4 := hv3.trans hb9
            obtain ⟨A8, c8, rfl, hs8⟩ := Sl.of_own ho9
            clear hb9 ho9 hP hF hE
            refine hK.out _ _ ?_ (fun hHeld2 => ?_)
            focus
              exact hS2 _ hv4
            clear hHeld
            have hHeld := hHeld2
            clear hHeld2 hK K
            try simp only [List.getElem_toArray, List.getElem_cons_succ, List.getElem_cons_zero, Act.put, List.setIfInBounds_toArray, List.set_cons_zero, List.set_cons_succ]
            refine wpAnyH_take (i := 6) (v := ?_) rfl (by kernel_rfl) (by kernel_rfl) (by kernel_rfl) (fun _ _ _ h => h) (Or.inl ⟨by rfl, ?_⟩) (by assumption) ?_
            rotate_left
            focus
              intro U hU
              try dsimp only at hU
              go_simp
              try (with_reducible rfl)
            simp only [List.getElem_toArray, List.getElem_cons_succ, List.getElem_cons_zero, Act.put, List.setIfInBounds_toArray, List.set_cons_zero, List.set_cons_succ]
            refine wpAnyH_take (i := 7) (v := ?_) rfl (by kernel_rfl) (by kernel_rfl) (by kernel_rfl) (fun _ _ _ h => h) (Or.inl ⟨by rfl, ?_⟩) (by assumption) ?_
            rotate_left
            focus
              intro U hU
              try dsimp only at hU
              go_simp
              try (with_reducible rfl)
            simp only [List.getElem_toArray, List.getElem_cons_succ, List.getElem_cons_zero, Act.put, List.setIfInBounds_toArray, List.set_cons_zero, List.set_cons_succ]
            refine wpAnyH_done (by kernel_rfl) ?_ _
            clear hHeld hS2
            have HV9 := hid hv4
            have HS8 := hid hs8
            clear hs8 hv4
            have hSB9 := own_keep HSB.out HV9.out
            have hSD9 := own_keep HSD.out HV9.out
            have HIN9 : Hid (InBk v4 A8 c8 (xs ++ [((newE ji ns), (⟨Ax, cx, some ⟨M1, 0, none⟩, n9, some ⟨M2, 0, none⟩, n9⟩ : Pt))])) := hid ⟨by rw [List.length_append, gcells_append]; simpa [ebl, newE, HNL.out, gcells] using HS8.out, fun y hy => by
              rcases List.mem_append.1 hy with h8 | h8
              · exact (HXS6.out _ HV9.out).2 y h8
              · obtain rfl := List.mem_singleton.1 h8
                exact ⟨HTX6.out _ HV9.out, by simpa [newE, HNL.out] using sl_own hSB9, by simpa [newE, HNL.out] using sl_own hSD9⟩⟩
            clear hSB9 hSD9
            go_wp2
            refine bodyPost_ret (v := .tuple #[.slice A8 (xs.length + 1) c8, .bool true]) (by simp [results, Tryz.results23, go_sem]) rfl ⟨A8, c8, xs ++ [((newE ji ns), (⟨Ax, cx, some ⟨M1, 0, none⟩, n9, some ⟨M2, 0, none⟩, n9⟩ : Pt))], by rw [HR9.out, List.length_append]; rfl, ?_, HIN9.out, HB6.out.trans (HV9.out.mono HB6.out.size)⟩
            rw [← HYL.out, HR9.out, if_pos rfl, List.map_append, HXM.out, ← HNN.out, HG2.out]
            rfl
        · skip
          simp only [List.getElem_toArray, List.getElem_cons_succ, List.getElem_cons_zero]
          go_simp
          refine hK.out _ _ ?_ (fun hHeld2 => ?_)
          focus
            exact hS2 _ (hv0.alloc hv0.size _)
          clear hHeld
          have hHeld := hHeld2
          clear hHeld2 hK K
          try simp only [List.getElem_toArray, List.getElem_cons_succ, List.getElem_cons_zero, Act.put, List.setIfInBounds_toArray, List.set_cons_zero, List.set_cons_succ]
          have gg : RowKit.Below (World.heap v0).size v0 (World.alloc v0 (.cells #[.int .i64 ji, .int .i64 0, .int .i64 1, .slice Ax n9 cx, .slice (some ⟨M1, 0, none⟩) n9 n9, .slice (some ⟨M2, 0, none⟩) n9 n9] 45 (0, 0))) := (RowKit.Below.refl _ _).alloc (Nat.le_refl _) _
          have hv1 := hv0.trans (gg.mono hv0.size)
          have hm5 : w6.heap.size ≤ (World.heap v0).size := hv0.size
          have hF : (World.alloc v0 (.cells #[.int .i64 ji, .int .i64 0, .int .i64 1, .slice Ax n9 cx, .slice (some ⟨M1, 0, none⟩) n9 n9, .slice (some ⟨M2, 0, none⟩) n9 n9] 45 (0, 0))).heap[(World.heap v0).size]? = some (.cells #[.int .i64 ji, .int .i64 0, .int .i64 1, .slice Ax n9 cx, .slice (some ⟨M1, 0, none⟩) n9 n9, .slice (some ⟨M2, 0, none⟩) n9 n9] 45 (0, 0)) := heap_alloc_new v0 (.cells #[.int .i64 ji, .int .i64 0, .int .i64 1, .slice Ax n9 cx, .slice (some ⟨M1, 0, none⟩) n9 n9, .slice (some ⟨M2, 0, none⟩) n9 n9] 45)
          clear gg
          generalize World.alloc v0 (.cells #[.int .i64 ji, .int .i64 0, .int .i64 1, .slice Ax n9 cx, .slice (some ⟨M1, 0, none⟩) n9 n9, .slice (some ⟨M2, 0, none⟩) n9 n9] 45 (0, 0)) = v1 at *
          generalize (World.heap v0).size = M5 at *
          refine wpAnyH_ready (rs := [0]) (by kernel_rfl) (by simp) ?_
          refine (AllReadyH.cons rfl (fun K hK => ?_) AllReadyH.nil)
          simp only [List.getElem_toArray, List.getElem_cons_succ, List.getElem_cons_zero]
          go_simp
          refine hK.out _ _ ?_ (fun hHeld2 => ?_)
          focus
            exact hS2 _ (hv1.alloc hv1.size _)
          clear hHeld
          have hHeld := hHeld2
          clear hHeld2 hK K
          try simp only [List.getElem_toArray, List.getElem_cons_succ, List.getElem_cons_zero, Act.put, List.setIfInBounds_toArray, List.set_cons_zero, List.set_cons_succ]
          have gg : RowKit.Below (World.heap v1).size v1 (World.alloc v1 (.cells #[] 45 (0, 0))) := (RowKit.Below.refl _ _).alloc (Nat.le_refl _) _
          have hv2 := hv1.trans (gg.mono hv1.size)
          have hne : (World.heap v1).size ≠ M5 := Nat.ne_of_gt (lt_of_block hF)
          have hE : (World.alloc v1 (.cells #[] 45 (0, 0))).ownsRow w6.heap.size 45 6 (.slice (some ⟨(World.heap v1).size, 0, none⟩) 0 0) 0 [] := own_mono (own_empty v1 45 6) hv1.size
          replace hF := keep0 hF gg
          clear gg
          generalize World.alloc v1 (.cells #[] 45 (0, 0)) = v2 at *
          generalize (World.heap v1).size = M4 at *
          refine wpAnyH_ready (rs := [2]) (by kernel_rfl) (by simp) ?_
          refine (AllReadyH.cons rfl (fun K hK => ?_) AllReadyH.nil)
          refine step_append_sl rfl (.tmp 70) (.tmp 71) 29 rfl w6.heap.size 45 Tryz.underlying29 info_entry rfl (by omega) rfl hE rfl (HXS6.out _ hv2).1 hone ?d11a ?d11b hv2.size ?_
          case d11a => unfold maxLen; omega
          case d11b => omega
          intro y9 v3 ho9 hb9 _ hk9
          have hv3 := hv2.trans hb9
          have hP : (v3).ownsRow w6.heap.size 45 6 y9 xs.length (gcells ebl xs) := by simpa using ho9
          obtain ⟨A9, c9, rfl, _⟩ := Sl.of_own hP
          replace hF := (hk9 M5 hm5 (lt_of_block hF) (fun h9 => hne (Option.some.inj h9))).trans hF
          clear hb9 ho9 hk9
          refine hK.out _ _ ?_ (fun hHeld2 => ?_)
          focus
            exact hS2 _ hv3
          clear hHeld
          have hHeld := hHeld2
          clear hHeld2 hK K
          try simp only [List.getElem_toArray, List.getElem_cons_succ, List.getElem_cons_zero, Act.put, List.setIfInBounds_toArray, List.set_cons_zero, List.set_cons_succ]
          refine wpAnyH_ready (rs := [5]) (by kernel_rfl) (by simp) ?_
          refine (AllReadyH.cons rfl (fun K hK => ?_) AllReadyH.nil)
          refine step_append_sl rfl (.tmp 72) (.tmp 74) 29 rfl w6.heap.size 45 Tryz.underlying29 info_entry rfl (by omega) rfl hP rfl (sl_blk6 hF) (by simp [Value.oneCell']) ?d12a ?d12b hv3.size ?_
          case d12a => unfold maxLen; omega
          case d12b => omega
          intro y9 v4 ho9 hb9 _ _
          have hv4 := hv3.trans hb9
          obtain ⟨A8, c8, rfl, hs8⟩ := Sl.of_own ho9
          clear hb9 ho9 hP hF hE
          refine hK.out _ _ ?_ (fun hHeld2 => ?_)
          focus
            exact hS2 _ hv4
          clear hHeld
          have hHeld := hHeld2
          clear hHeld2 hK K
          try simp only [List.getElem_toArray, List.getElem_cons_succ, List.getElem_cons_zero, Act.put, List.setIfInBounds_toArray, List.set_cons_zero, List.set_cons_succ]
          refine wpAnyH_take (i := 6) (v := ?_) rfl (by kernel_rfl) (by kernel_rfl) (by kernel_rfl) (fun _ _ _ h => h) (Or.inl ⟨by rfl, ?_⟩) (by assumption) ?_
          rotate_left
          focus
            intro U hU
            try dsimp only at hU
            go_simp
            try (with_reducible rfl)
          simp only [List.getElem_toArray, List.getElem_cons_succ, List.getElem_cons_zero, Act.put, List.setIfInBounds_toArray, List.set_cons_zero, List.set_cons_succ]
          refine wpAnyH_take (i := 7) (v := ?_) rfl (by kernel_rfl) (by kernel_rfl) (by kernel_rfl) (fun _ _ _ h => h) (Or.inl ⟨by rfl, ?_⟩) (by assumption) ?_
          rotate_left
          focus
            intro U hU
            try dsimp only at hU
            go_simp
            try (with_reducible rfl)
          simp only [List.getElem_toArray, List.getElem_cons_succ, List.getElem_cons_zero, Act.put, List.setIfInBounds_toArray, List.set_cons_zero, List.set_cons_succ]
          refine wpAnyH_done (by kernel_rfl) ?_ _
          clear hHeld hS2
          have HV9 := hid hv4
          have HS8 := hid hs8
          clear hs8 hv4
          have hSB9 := own_keep HSB.out HV9.out
          have hSD9 := own_keep HSD.out HV9.out
          have HIN9 : Hid (InBk v4 A8 c8 (xs ++ [((newE ji ns), (⟨Ax, cx, some ⟨M1, 0, none⟩, n9, some ⟨M2, 0, none⟩, n9⟩ : Pt))])) := hid ⟨by rw [List.length_append, gcells_append]; simpa [ebl, newE, HNL.out, gcells] using HS8.out, fun y hy => by
            rcases List.mem_append.1 hy with h8 | h8
            · exact (HXS6.out _ HV9.out).2 y h8
            · obtain rfl := List.mem_singleton.1 h8
              exact ⟨HTX6.out _ HV9.out, by simpa [newE, HNL.out] using sl_own hSB9, by simpa [newE, HNL.out] using sl_own hSD9⟩⟩
          clear hSB9 hSD9
          go_wp2
          refine bodyPost_ret (v := .tuple #[.slice A8 (xs.length + 1) c8, .bool true]) (by simp [results, Tryz.results23, go_sem]) rfl ⟨A8, c8, xs ++ [((newE ji ns), (⟨Ax, cx, some ⟨M1, 0, none⟩, n9, some ⟨M2, 0, none⟩, n9⟩ : Pt))], by rw [HR9.out, List.length_append]; rfl, ?_, HIN9.out, HB6.out.trans (HV9.out.mono HB6.out.size)⟩
          rw [← HYL.out, HR9.out, if_pos rfl, List.map_append, HXM.out, ← HNN.out, HG2.out]
          rfl
    · skip
      simp only [List.getElem_toArray, List.getElem_cons_succ, List.getElem_cons_zero]
      go_simp
      refine hK.out _ _ ?_ (fun hHeld2 => ?_)
      focus
        exact hS _ (hu0.alloc hu0.size _)
      clear hHeld
      have hHeld := hHeld2
      clear hHeld2 hK K
      try simp only [List.getElem_toArray, List.getElem_cons_succ, List.getElem_cons_zero, Act.put, List.setIfInBounds_toArray, List.set_cons_zero, List.set_cons_succ]
      have gg : RowKit.Below (World.heap u0).size u0 (World.alloc u0 (.cells (Array.replicate n9 (.bool false)) 4 (0, 0))) := (RowKit.Below.refl _ _).alloc (Nat.le_refl _) _
      have hu1 := hu0.trans (gg.mono hu0.size)
      have hsd : (World.alloc u0 (.cells (Array.replicate n9 (.bool false)) 4 (0, 0))).ownsRow w5.heap.size 4 1 (.slice (some ⟨(World.heap u0).size, 0, none⟩) n9 n9) n9 (blcells (List.replicate n9 false)) := own_rep (heap_alloc_new u0 _) hu0.size (by unfold maxLen; omega) (by simp [blcells])
      clear gg
      generalize World.alloc u0 (.cells (Array.replicate n9 (.bool false)) 4 (0, 0)) = u1 at *
      generalize (World.heap u0).size = M2 at *
      refine wpAnyH_ready (rs := [8, 12]) (by kernel_rfl) (by simp) ?_
      refine (AllReadyH.cons rfl (fun K hK => ?_) (AllReadyH.cons rfl (fun K hK => ?_) AllReadyH.nil))
      · skip
        simp only [List.getElem_toArray, List.getElem_cons_succ, List.getElem_cons_zero]
        go_simp
        refine hK.out _ _ ?_ (fun hHeld2 => ?_)
        focus
          exact hS _ (hu1.alloc hu1.size _)
        clear hHeld
        have hHeld := hHeld2
        clear hHeld2 hK K
        try simp only [List.getElem_toArray, List.getElem_cons_succ, List.getElem_cons_zero, Act.put, List.setIfInBounds_toArray, List.set_cons_zero, List.set_cons_succ]
        have gg : RowKit.Below (World.heap u1).size u1 (World.alloc u1 (.cells (Array.replicate n9 (.int .i64 0)) 3 (0, 0))) := (RowKit.Below.refl _ _).alloc (Nat.le_refl _) _
        have hu2 := hu1.trans (gg.mono hu1.size)
        have hsb : (World.alloc u1 (.cells (Array.replicate n9 (.int .i64 0)) 3 (0, 0))).ownsRow w5.heap.size 3 1 (.slice (some ⟨(World.heap u1).size, 0, none⟩) n9 n9) n9 (icells .i64 (List.replicate n9 0)) := own_rep (heap_alloc_new u1 _) hu1.size (by unfold maxLen; omega) (by simp [icells])
        replace hsd := own_keep hsd gg
        clear gg
        generalize World.alloc u1 (.cells (Array.replicate n9 (.int .i64 0)) 3 (0, 0)) = u2 at *
        generalize (World.heap u1).size = M1 at *
        refine wpAnyH_take (i := 11) (v := ?_) rfl (by kernel_rfl) (by kernel_rfl) (by kernel_rfl) (fun _ _ _ h => h) (Or.inl ⟨by rfl, ?_⟩) (by assumption) ?_
        rotate_left
        focus
          intro U hU
          try dsimp only at hU
          go_simp
          try (with_reducible rfl)
        simp only [List.getElem_toArray, List.getElem_cons_succ, List.getElem_cons_zero, Act.put, List.setIfInBounds_toArray, List.set_cons_zero, List.set_cons_succ]
        refine wpAnyH_ready (rs := [12]) (by kernel_rfl) (by simp) ?_
        refine (AllReadyH.cons rfl (fun K hK => ?_) AllReadyH.nil)
        simp only [List.getElem_toArray, List.getElem_cons_succ, List.getElem_cons_zero]
        go_simp
        refine hK.out _ _ ?_ (fun hHeld2 => ?_)
        focus
          exact hS _ (hu2.alloc hu2.size _)
        clear hHeld
        have hHeld := hHeld2
        clear hHeld2 hK K
        try simp only [List.getElem_toArray, List.getElem_cons_succ, List.getElem_cons_zero, Act.put, List.setIfInBounds_toArray, List.set_cons_zero, List.set_cons_succ]
        have gg : RowKit.Below (World.heap u2).size u2 (World.alloc u2 (.cells #[.int .i64 0, .int .i64 0, .int .i64 0, .slice none 0 0, .slice none 0 0, .slice none 0 0] 45 (0, 0))) := (RowKit.Below.refl _ _).alloc (Nat.le_refl _) _
        have hu3 := hu2.trans (gg.mono hu2.size)
        have hm3 : w5.heap.size ≤ (World.heap u2).size := hu2.size
        have hz : (World.alloc u2 (.cells #[.int .i64 0, .int .i64 0, .int .i64 0, .slice none 0 0, .slice none 0 0, .slice none 0 0] 45 (0, 0))).heap[(World.heap u2).size]? = some (.cells #[.int .i64 0, .int .i64 0, .int .i64 0, .slice none 0 0, .slice none 0 0, .slice none 0 0] 45 (0, 0)) := heap_alloc_new u2 (.cells #[.int .i64 0, .int .i64 0, .int .i64 0, .slice none 0 0, .slice none 0 0, .slice none 0 0] 45)
        replace hsb := own_keep hsb gg
        replace hsd := own_keep hsd gg
        clear gg
        generalize World.alloc u2 (.cells #[.int .i64 0, .int .i64 0, .int .i64 0, .slice none 0 0, .slice none 0 0, .slice none 0 0] 45 (0, 0)) = u3 at *
        generalize (World.heap u2).size = M3 at *
        obtain ⟨⟨z0, z1, z2, z3, z4, z5⟩, f0, f1, f2, f3, f4, f5⟩ := six_cells hz
        refine wpAnyH_ready (rs := [13]) (by kernel_rfl) (by simp) ?_
        refine (AllReadyH.cons rfl (fun K hK => ?_) AllReadyH.nil)
        simp only [List.getElem_toArray, List.getElem_cons_succ, List.getElem_cons_zero]
        go_simp
        refine hK.out _ _ ?_ (fun hHeld2 => ?_)
        focus
          exact hS _ (put6_below hu3 hm3 (.int .i64 ji) (.int .i64 0) (.int .i64 1) (.slice Ax n9 cx) (.slice (some ⟨M1, 0, none⟩) n9 n9) (.slice (some ⟨M2, 0, none⟩) n9 n9))
        clear hHeld
        have hHeld := hHeld2
        clear hHeld2 hK K
        try simp only [List.getElem_toArray, List.getElem_cons_succ, List.getElem_cons_zero, Act.put, List.setIfInBounds_toArray, List.set_cons_zero, List.set_cons_succ]
        have hx9 := put6_heap hz (.int .i64 ji) (.int .i64 0) (.int .i64 1) (.slice Ax n9 cx) (.slice (some ⟨M1, 0, none⟩) n9 n9) (.slice (some ⟨M2, 0, none⟩) n9 n9)
        have hb9 := put6_below hu3 hm3 (.int .i64 ji) (.int .i64 0) (.int .i64 1) (.slice Ax n9 cx) (.slice (some ⟨M1, 0, none⟩) n9 n9) (.slice (some ⟨M2, 0, none⟩) n9 n9)
        have hsb9 := own_same hsb hz (by decide) (fun g hg => put6_other (w := u3) (b := M3) hg (.int .i64 ji) (.int .i64 0) (.int .i64 1) (.slice Ax n9 cx) (.slice (some ⟨M1, 0, none⟩) n9 n9) (.slice (some ⟨M2, 0, none⟩) n9 n9))
        have hsd9 := own_same hsd hz (by decide) (fun g hg => put6_other (w := u3) (b := M3) hg (.int .i64 ji) (.int .i64 0) (.int .i64 1) (.slice Ax n9 cx) (.slice (some ⟨M1, 0, none⟩) n9 n9) (.slice (some ⟨M2, 0, none⟩) n9 n9))
        refine wpAnyH_done (by kernel_rfl) ?_ _
        clear hHeld hS hmk1 hmk2
        go_upto_region 11 with (fail)
        refine at_world (fun u => u.heap[M3]? = some (.cells #[.int .i64 ji, .int .i64 0, .int .i64 1, .slice Ax n9 cx, .slice (some ⟨M1, 0, none⟩) n9 n9, .slice (some ⟨M2, 0, none⟩) n9 n9] 45 (0, 0)) ∧ u.ownsRow w5.heap.size 3 1 (.slice (some ⟨M1, 0, none⟩) n9 n9) n9 (icells .i64 (List.replicate n9 0)) ∧ u.ownsRow w5.heap.size 4 1 (.slice (some ⟨M2, 0, none⟩) n9 n9) n9 (blcells (List.replicate n9 false)) ∧ RowKit.Below w5.heap.size w5 u) ⟨hx9, hsb9, hsd9, hb9⟩ ?_
        rintro w6 ⟨hx6, hsb6, hsd6, hb6⟩
        have HX6 := hid hx6
        have HSB := hid hsb6
        have HSD := hid hsd6
        have HB6 := hid (HB4.out.trans (hb6.mono HB4.out.size))
        have HJ6 := hid (keep0 HJ4.out hb6)
        clear hx6 hsb6 hsd6 hb6
        have HXS6 := hid (fun u (hu : RowKit.Below w6.heap.size w6 u) => HXS.out u (HB6.out.trans (hu.mono HB6.out.size)))
        have hone : ∀ u ∈ gcells ebl xs, u.oneCell' = true := ebl_one xs
        have HTX6 := hid (fun u (hu : RowKit.Below w6.heap.size w6 u) => HTX.out u (HB6.out.trans (hu.mono HB6.out.size)))
        have hS2 : ∀ U, RowKit.Below w6.heap.size w6 U → ((U.cell? ⟨M3, 0, none⟩ = some (.int .i64 ji) ∧ U.cell? ⟨M3, 1, none⟩ = some (.int .i64 0) ∧ U.cell? ⟨M3, 2, none⟩ = some (.int .i64 1) ∧ U.cell? ⟨M3, 3, none⟩ = some (.slice Ax n9 cx) ∧ U.cell? ⟨M3, 4, none⟩ = some (.slice (some ⟨M1, 0, none⟩) n9 n9) ∧ U.cell? ⟨M3, 5, none⟩ = some (.slice (some ⟨M2, 0, none⟩) n9 n9)) ∧ RowKit.Below w6.heap.size w6 U) := fun U hU => ⟨(six_cells (keep0 HX6.out hU)).1, hU⟩
        have hv0 : RowKit.Below w6.heap.size w6 w6.drew := below_drew (RowKit.Below.refl _ _)
        refine wp_region_held_drew (S := fun U => (U.cell? ⟨M3, 0, none⟩ = some (.int .i64 ji) ∧ U.cell? ⟨M3, 1, none⟩ = some (.int .i64 0) ∧ U.cell? ⟨M3, 2, none⟩ = some (.int .i64 1) ∧ U.cell? ⟨M3, 3, none⟩ = some (.slice Ax n9 cx) ∧ U.cell? ⟨M3, 4, none⟩ = some (.slice (some ⟨M1, 0, none⟩) n9 n9) ∧ U.cell? ⟨M3, 5, none⟩ = some (.slice (some ⟨M2, 0, none⟩) n9 n9)) ∧ RowKit.Below w6.heap.size w6 U) (by kernel_rfl) (hS2 _ hv0) (fun hHeld => ?_)
        generalize w6.drew = v0 at *
        refine wpAnyH_take (i := 1) (v := ?_) rfl (by kernel_rfl) (by kernel_rfl) (by kernel_rfl) (fun _ _ _ h => h) (Or.inl ⟨by rfl, ?_⟩) (by assumption) ?_
        rotate_left
        focus
          intro U hU
          try dsimp only at hU
          go_simp
          try (with_reducible rfl)
        simp only [List.getElem_toArray, List.getElem_cons_succ, List.getElem_cons_zero, Act.put, List.setIfInBounds_toArray, List.set_cons_zero, List.set_cons_succ]
        refine wpAnyH_take (i := 3) (v := ?_) rfl (by kernel_rfl) (by kernel_rfl) (by kernel_rfl) (fun _ _ _ h => h) (Or.inl ⟨by rfl, ?_⟩) (by assumption) ?_
        rotate_left
        focus
          intro U hU
          try dsimp only at hU
          go_simp
          try (with_reducible rfl)
        simp only [List.getElem_toArray, List.getElem_cons_succ, List.getElem_cons_zero, Act.put, List.setIfInBounds_toArray, List.set_cons_zero, List.set_cons_succ]
        refine wpAnyH_ready (rs := [0, 4]) (by kernel_rfl) (by simp) ?_
        refine (AllReadyH.cons rfl (fun K hK => ?_) (AllReadyH.cons rfl (fun K hK => ?_) AllReadyH.nil))
        · skip
          simp only [List.getElem_toArray, List.getElem_cons_succ, List.getElem_cons_zero]
          go_simp
          refine hK.out _ _ ?_ (fun hHeld2 => ?_)
          focus
            exact hS2 _ (hv0.alloc hv0.size _)
          clear hHeld
          have hHeld := hHeld2
          clear hHeld2 hK K
          try simp only [List.getElem_toArray, List.getElem_cons_succ, List.getElem_cons_zero, Act.put, List.setIfInBounds_toArray, List.set_cons_zero, List.set_cons_succ]
          have gg : RowKit.Below (World.heap v0).size v0 (World.alloc v0 (.cells #[] 45 (0, 0))) := (RowKit.Below.refl _ _).alloc (Nat.le_refl _) _
          have hv1 := hv0.trans (gg.mono hv0.size)
          have hE : (World.alloc v0 (.cells #[] 45 (0, 0))).ownsRow w6.heap.size 45 6 (.slice (some ⟨(World.heap v0).size, 0, none⟩) 0 0) 0 [] := own_mono (own_empty v0 45 6) hv0.size
          clear gg
          generalize World.alloc v0 (.cells #[] 45 (0, 0)) = v1 at *
          generalize (World.heap v0).size = M4 at *
          refine wpAnyH_ready (rs := [2, 4]) (by kernel_rfl) (by simp) ?_
          refine (AllReadyH.cons rfl (fun K hK => ?_) (AllReadyH.cons rfl (fun K hK => ?_) AllReadyH.nil))
          · skip
            refine step_append_sl rfl (.tmp 70) (.tmp 71) 29 rfl w6.heap.size 45 Tryz.underlying29 info_entry rfl (by omega) rfl hE rfl (HXS6.out _ hv1).1 hone ?d13a ?d13b hv1.size ?_
            case d13a => unfold maxLen; omega
            case d13b => omega
            intro y9 v2 ho9 hb9 _ hk9
            have hv2 := hv1.trans hb9
            have hP : (v2).ownsRow w6.heap.size 45 6 y9 xs.length (gcells ebl xs) := by simpa using ho9
            obtain ⟨A9, c9, rfl, _⟩ := Sl.of_own hP
            clear hb9 ho9 hk9
            refine hK.out _ _ ?_ (fun hHeld2 => ?_)
            focus
              exact hS2 _ hv2
            clear hHeld
            have hHeld := hHeld2
            clear hHeld2 hK K
            try simp only [List.getElem_toArray, List.getElem_cons_succ, List.getElem_cons_zero, Act.put, List.setIfInBounds_toArray, List.set_cons_zero, List.set_cons_succ]
            refine wpAnyH_ready (rs := [4]) (by kernel_rfl) (by simp) ?_
            refine (AllReadyH.cons rfl (fun K hK => ?_) AllReadyH.nil)
            simp only [List.getElem_toArray, List.getElem_cons_succ, List.getElem_cons_zero]
            go_simp
            refine hK.out _ _ ?_ (fun hHeld2 => ?_)
            focus
              exact hS2 _ (hv2.alloc hv2.size _)
            clear hHeld
            have hHeld := hHeld2
            clear hHeld2 hK K
            try simp only [List.getElem_toArray, List.getElem_cons_succ, List.getElem_cons_zero, Act.put, List.setIfInBounds_toArray, List.set_cons_zero, List.set_cons_succ]
            have gg : RowKit.Below (World.heap v2).size v2 (World.alloc v2 (.cells #[.int .i64 ji, .int .i64 0, .int .i64 1, .slice Ax n9 cx, .slice (some ⟨M1, 0, none⟩) n9 n9, .slice (some ⟨M2, 0, none⟩) n9 n9] 45 (0, 0))) := (RowKit.Below.refl _ _).alloc (Nat.le_refl _) _
            have hv3 := hv2.trans (gg.mono hv2.size)
            have hm5 : w6.heap.size ≤ (World.heap v2).size := hv2.size
            have hF : (World.alloc v2 (.cells #[.int .i64 ji, .int .i64 0, .int .i64 1, .slice Ax n9 cx, .slice (some ⟨M1, 0, none⟩) n9 n9, .slice (some ⟨M2, 0, none⟩) n9 n9] 45 (0, 0))).heap[(World.heap v2).size]? = some (.cells #[.int .i64 ji, .int .i64 0, .int .i64 1, .slice Ax n9 cx, .slice (some ⟨M1, 0, none⟩) n9 n9, .slice (some ⟨M2, 0, none⟩) n9 n9] 45 (0, 0)) := heap_alloc_new v2 (.cells #[.int .i64 ji, .int .i64 0, .int .i64 1, .slice Ax n9 cx, .slice (some ⟨M1, 0, none⟩) n9 n9, .slice (some ⟨M2, 0, none⟩) n9 n9] 45)
            replace hP := own_keep hP gg
            clear gg
            generalize World.alloc v2 (.cells #[.int .i64 ji, .int .i64 0, .int .i64 1, .slice Ax n9 cx, .slice (some ⟨M1, 0, none⟩) n9 n9, .slice (some ⟨M2, 0, none⟩) n9 n9] 45 (0, 0)) = v3 at *
            generalize (World.heap v2).size = M5 at *
            refine wpAnyH_ready (rs := [5]) (by kernel_rfl) (by simp) ?_
            refine (AllReadyH.cons rfl (fun K hK => ?_) AllReadyH.nil)
            refine step_append_sl rfl (.tmp 72) (.tmp 74) 29 rfl w6.heap.size 45 Tryz.underlying29 info_entry rfl (by omega) rfl hP rfl (sl_blk6 hF) (by simp [Value.oneCell']) ?d14a ?d14b hv3.size ?_
            case d14a => unfold maxLen; omega
            case d14b => omega
            intro y9 v4 ho9 hb9 _ _
            have hv4 := hv3.trans hb9
            obtain ⟨A8, c8, rfl, hs8⟩ := Sl.of_own ho9
            clear hb9 ho9 hP hF hE
            refine hK.out _ _ ?_ (fun hHeld2 => ?_)
            focus
              exact hS2 _ hv4
            clear hHeld
            have hHeld := hHeld2
            clear hHeld2 hK K
            try simp only [List.getElem_toArray, List.getElem_cons_succ, List.getElem_cons_zero, Act.put, List.setIfInBounds_toArray, List.set_cons_zero, List.set_cons_succ]
            refine wpAnyH_take (i := 6) (v := ?_) rfl (by kernel_rfl) (by kernel_rfl) (by kernel_rfl) (fun _ _ _ h => h) (Or.inl ⟨by rfl, ?_⟩) (by assumption) ?_
            rotate_left
            focus
              intro U hU
              try dsimp only at hU
              go_simp
              try (with_reducible rfl)
            simp only [List.getElem_toArray, List.getElem_cons_succ, List.getElem_cons_zero, Act.put, List.setIfInBounds_toArray, List.set_cons_zero, List.set_cons_succ]
            refine wpAnyH_take (i := 7) (v := ?_) rfl (by kernel_rfl) (by kernel_rfl) (by kernel_rfl) (fun _ _ _ h => h) (Or.inl ⟨by rfl, ?_⟩) (by assumption) ?_
            rotate_left
            focus
              intro U hU
              try dsimp only at hU
              go_simp
              try (with_reducible rfl)
            simp only [List.getElem_toArray, List.getElem_cons_succ, List.getElem_cons_zero, Act.put, List.setIfInBounds_toArray, List.set_cons_zero, List.set_cons_succ]
            refine wpAnyH_done (by kernel_rfl) ?_ _
            clear hHeld hS2
            have HV9 := hid hv4
            have HS8 := hid hs8
            clear hs8 hv4
            have hSB9 := own_keep HSB.out HV9.out
            have hSD9 := own_keep HSD.out HV9.out
            have HIN9 : Hid (InBk v4 A8 c8 (xs ++ [((newE ji ns), (⟨Ax, cx, some ⟨M1, 0, none⟩, n9, some ⟨M2, 0, none⟩, n9⟩ : Pt))])) := hid ⟨by rw [List.length_append, gcells_append]; simpa [ebl, newE, HNL.out, gcells] using HS8.out, fun y hy => by
              rcases List.mem_append.1 hy with h8 | h8
              · exact (HXS6.out _ HV9.out).2 y h8
              · obtain rfl := List.mem_singleton.1 h8
                exact ⟨HTX6.out _ HV9.out, by simpa [newE, HNL.out] using sl_own hSB9, by simpa [newE, HNL.out] using sl_own hSD9⟩⟩
            clear hSB9 hSD9
            go_wp2
            refine bodyPost_ret (v := .tuple #[.slice A8 (xs.length + 1) c8, .bool true]) (by simp [results, Tryz.results23, go_sem]) rfl ⟨A8, c8, xs ++ [((newE ji ns), (⟨Ax, cx, some ⟨M1, 0, none⟩, n9, some ⟨M2, 0, none⟩, n9⟩ : Pt))], by rw [HR9.out, List.length_append]; rfl, ?_, HIN9.out, HB6.out.trans (HV9.out.mono HB6.out.size)⟩
            rw [← HYL.out, HR9.out, if_pos rfl, List.map_append, HXM.out, ← HNN.out, HG2.out]
            rfl
          · skip
            simp only [List.getElem_toArray, List.getElem_cons_succ, List.getElem_cons_zero]
            go_simp
            refine hK.out _ _ ?_ (fun hHeld2 => ?_)
            focus
              exact hS2 _ (hv1.alloc hv1.size _)
            clear hHeld
            have hHeld := hHeld2
            clear hHeld2 hK K
            try simp only [List.getElem_toArray, List.getElem_cons_succ, List.getElem_cons_zero, Act.put, List.setIfInBounds_toArray, List.set_cons_zero, List.set_cons_succ]
            have gg : RowKit.Below (World.heap v1).size v1 (World.alloc v1 (.cells #[.int .i64 ji, .int .i64 0, .int .i64 1, .slice Ax n9 cx, .slice (some ⟨M1, 0, none⟩) n9 n9, .slice (some ⟨M2, 0, none⟩) n9 n9] 45 (0, 0))) := (RowKit.Below.refl _ _).alloc (Nat.le_refl _) _
            have hv2 := hv1.trans (gg.mono hv1.size)
            have hm5 : w6.heap.size ≤ (World.heap v1).size := hv1.size
            have hne : M4 ≠ (World.heap v1).size := Nat.ne_of_lt (own_lt hE M4 rfl).2.1
            have hF : (World.alloc v1 (.cells #[.int .i64 ji, .int .i64 0, .int .i64 1, .slice Ax n9 cx, .slice (some ⟨M1, 0, none⟩) n9 n9, .slice (some ⟨M2, 0, none⟩) n9 n9] 45 (0, 0))).heap[(World.heap v1).size]? = some (.cells #[.int .i64 ji, .int .i64 0, .int .i64 1, .slice Ax n9 cx, .slice (some ⟨M1, 0, none⟩) n9 n9, .slice (some ⟨M2, 0, none⟩) n9 n9] 45 (0, 0)) := heap_alloc_new v1 (.cells #[.int .i64 ji, .int .i64 0, .int .i64 1, .slice Ax n9 cx, .slice (some ⟨M1, 0, none⟩) n9 n9, .slice (some ⟨M2, 0, none⟩) n9 n9] 45)
            replace hE := own_keep hE gg
            clear gg
            generalize World.alloc v1 (.cells #[.int .i64 ji, .int .i64 0, .int .i64 1, .slice Ax n9 cx, .slice (some ⟨M1, 0, none⟩) n9 n9, .slice (some ⟨M2, 0, none⟩) n9 n9] 45 (0, 0)) = v2 at *
            generalize (World.heap v1).size = M5 at *
            refine wpAnyH_ready (rs := [2]) (by kernel_rfl) (by simp) ?_
            refine (AllReadyH.cons rfl (fun K hK => ?_) AllReadyH.nil)
            refine step_append_sl rfl (.tmp 70) (.tmp 71) 29 rfl w6.heap.size 45 Tryz.underlying29 info_entry rfl (by omega) rfl hE rfl (HXS6.out _ hv2).1 hone ?d15a ?d15b hv2.size ?_
            case d15a => unfold maxLen; omega
            case d15b => omega
            intro y9 v3 ho9 hb9 _ hk9
            have hv3 := hv2.trans hb9
            have hP : (v3).ownsRow w6.heap.size 45 6 y9 xs.length (gcells ebl xs) := by simpa using ho9
            obtain ⟨A9, c9, rfl, _⟩ := Sl.of_own hP
            replace hF := (hk9 M5 hm5 (lt_of_block hF) (fun h9 => hne (Option.some.inj h9))).trans hF
            clear hb9 ho9 hk9
            refine hK.out _ _ ?_ (fun hHeld2 => ?_)
            focus
              exact hS2 _ hv3
            clear hHeld
            have hHeld := hHeld2
            clear hHeld2 hK K
            try simp only [List.getElem_toArray, List.getElem_cons_succ, List.getElem_cons_zero, Act.put, List.setIfInBounds_toArray, List.set_cons_zero, List.set_cons_succ]
            refine wpAnyH_ready (rs := [5]) (by kernel_rfl) (by simp) ?_
            refine (AllReadyH.cons rfl (fun K hK => ?_) AllReadyH.nil)
            refine step_append_sl rfl (.tmp 72) (.tmp 74) 29 rfl w6.heap.size 45 Tryz.underlying29 info_entry rfl (by omega) rfl hP rfl (sl_blk6 hF) (by simp [Value.oneCell']) ?d16a ?d16b hv3.size ?_
            case d16a => unfold maxLen; omega
            case d16b => omega
            intro y9 v4 ho9 hb9 _ _
            have hv4 := hv3.trans hb9
            obtain ⟨A8, c8, rfl, hs8⟩ := Sl.of_own ho9
            clear hb9 ho9 hP hF hE
            refine hK.out _ _ ?_ (fun hHeld2 => ?_)
            focus
              exact hS2 _ hv4
            clear hHeld
            have hHeld := hHeld2
            clear hHeld2 hK K
            try simp only [List.getElem_toArray, List.getElem_cons_succ, List.getElem_cons_zero, Act.put, List.setIfInBounds_toArray, List.set_cons_zero, List.set_cons_succ]
            refine wpAnyH_take (i := 6) (v := ?_) rfl (by kernel_rfl) (by kernel_rfl) (by kernel_rfl) (fun _ _ _ h => h) (Or.inl ⟨by rfl, ?_⟩) (by assumption) ?_
            rotate_left
            focus
              intro U hU
              try dsimp only at hU
              go_simp
              try (with_reducible rfl)
            simp only [List.getElem_toArray, List.getElem_cons_succ, List.getElem_cons_zero, Act.put, List.setIfInBounds_toArray, List.set_cons_zero, List.set_cons_succ]
            refine wpAnyH_take (i := 7) (v := ?_) rfl (by kernel_rfl) (by kernel_rfl) (by kernel_rfl) (fun _ _ _ h => h) (Or.inl ⟨by rfl, ?_⟩) (by assumption) ?_
            rotate_left
            focus
              intro U hU
              try dsimp only at hU
              go_simp
              try (with_reducible rfl)
            simp only [List.getElem_toArray, List.getElem_cons_succ, List.getElem_cons_zero, Act.put, List.setIfInBounds_toArray, List.set_cons_zero, List.set_cons_succ]
            refine wpAnyH_done (by kernel_rfl) ?_ _
            clear hHeld hS2
            have HV9 := hid hv4
            have HS8 := hid hs8
            clear hs8 hv4
            have hSB9 := own_keep HSB.out HV9.out
            have hSD9 := own_keep HSD.out HV9.out
            have HIN9 : Hid (InBk v4 A8 c8 (xs ++ [((newE ji ns), (⟨Ax, cx, some ⟨M1, 0, none⟩, n9, some ⟨M2, 0, none⟩, n9⟩ : Pt))])) := hid ⟨by rw [List.length_append, gcells_append]; simpa [ebl, newE, HNL.out, gcells] using HS8.out, fun y hy => by
              rcases List.mem_append.1 hy with h8 | h8
              · exact (HXS6.out _ HV9.out).2 y h8
              · obtain rfl := List.mem_singleton.1 h8
                exact ⟨HTX6.out _ HV9.out, by simpa [newE, HNL.out] using sl_own hSB9, by simpa [newE, HNL.out] using sl_own hSD9⟩⟩
            clear hSB9 hSD9
            go_wp2
            refine bodyPost_ret (v := .tuple #[.slice A8 (xs.length + 1) c8, .bool true]) (by simp [results, Tryz.results23, go_sem]) rfl ⟨A8, c8, xs ++ [((newE ji ns), (⟨Ax, cx, some ⟨M1, 0, none⟩, n9, some ⟨M2, 0, none⟩, n9⟩ : Pt))], by rw [HR9.out, List.length_append]; rfl, ?_, HIN9.out, HB6.out.trans (HV9.out.mono HB6.out.size)⟩
            rw [← HYL.out, HR9.out, if_pos rfl, List.map_append, HXM.out, ← HNN.out, HG2.out]
            rfl
        · skip
          simp only [List.getElem_toArray, List.getElem_cons_succ, List.getElem_cons_zero]
          go_simp
          refine hK.out _ _ ?_ (fun hHeld2 => ?_)
          focus
            exact hS2 _ (hv0.alloc hv0.size _)
          clear hHeld
          have hHeld := hHeld2
          clear hHeld2 hK K
          try simp only [List.getElem_toArray, List.getElem_cons_succ, List.getElem_cons_zero, Act.put, List.setIfInBounds_toArray, List.set_cons_zero, List.set_cons_succ]
          have gg : RowKit.Below (World.heap v0).size v0 (World.alloc v0 (.cells #[.int .i64 ji, .int .i64 0, .int .i64 1, .slice Ax n9 cx, .slice (some ⟨M1, 0, none⟩) n9 n9, .slice (some ⟨M2, 0, none⟩) n9 n9] 45 (0, 0))) := (RowKit.Below.refl _ _).alloc (Nat.le_refl _) _
          have hv1 := hv0.trans (gg.mono hv0.size)
          have hm5 : w6.heap.size ≤ (World.heap v0).size := hv0.size
          have hF : (World.alloc v0 (.cells #[.int .i64 ji, .int .i64 0, .int .i64 1, .slice Ax n9 cx, .slice (some ⟨M1, 0, none⟩) n9 n9, .slice (some ⟨M2, 0, none⟩) n9 n9] 45 (0, 0))).heap[(World.heap v0).size]? = some (.cells #[.int .i64 ji, .int .i64 0, .int .i64 1, .slice Ax n9 cx, .slice (some ⟨M1, 0, none⟩) n9 n9, .slice (some ⟨M2, 0, none⟩) n9 n9] 45 (0, 0)) := heap_alloc_new v0 (.cells #[.int .i64 ji, .int .i64 0, .int .i64 1, .slice Ax n9 cx, .slice (some ⟨M1, 0, none⟩) n9 n9, .slice (some ⟨M2, 0, none⟩) n9 n9] 45)
          clear gg
          generalize World.alloc v0 (.cells #[.int .i64 ji, .int .i64 0, .int .i64 1, .slice Ax n9 cx, .slice (some ⟨M1, 0, none⟩) n9 n9, .slice (some ⟨M2, 0, none⟩) n9 n9] 45 (0, 0)) = v1 at *
          generalize (World.heap v0).size = M5 at *
          refine wpAnyH_ready (rs := [0]) (by kernel_rfl) (by simp) ?_
          refine (AllReadyH.cons rfl (fun K hK => ?_) AllReadyH.nil)
          simp only [List.getElem_toArray, List.getElem_cons_succ, List.getElem_cons_zero]
          go_simp
          refine hK.out _ _ ?_ (fun hHeld2 => ?_)
          focus
            exact hS2 _ (hv1.alloc hv1.size _)
          clear hHeld
          have hHeld := hHeld2
          clear hHeld2 hK K
          try simp only [List.getElem_toArray, List.getElem_cons_succ, List.getElem_cons_zero, Act.put, List.setIfInBounds_toArray, List.set_cons_zero, List.set_cons_succ]
          have gg : RowKit.Below (World.heap v1).size v1 (World.alloc v1 (.cells #[] 45 (0, 0))) := (RowKit.Below.refl _ _).alloc (Nat.le_refl _) _
          have hv2 := hv1.trans (gg.mono hv1.size)
          have hne : (World.heap v1).size ≠ M5 := Nat.ne_of_gt (lt_of_block hF)
          have hE : (World.alloc v1 (.cells #[] 45 (0, 0))).ownsRow w6.heap.size 45 6 (.slice (some ⟨(World.heap v1).size, 0, none⟩) 0 0) 0 [] := own_mono (own_empty v1 45 6) hv1.size
          replace hF := keep0 hF gg
          clear gg
          generalize World.alloc v1 (.cells #[] 45 (0, 0)) = v2 at *
          generalize (World.heap v1).size = M4 at *
          refine wpAnyH_ready (rs := [2]) (by kernel_rfl) (by simp) ?_
          refine (AllReadyH.cons rfl (fun K hK => ?_) AllReadyH.nil)
          refine step_append_sl rfl (.tmp 70) (.tmp 71) 29 rfl w6.heap.size 45 Tryz.underlying29 info_entry rfl (by omega) rfl hE rfl (HXS6.out _ hv2).1 hone ?d17a ?d17b hv2.size ?_
          case d17a => unfold maxLen; omega
          case d17b => omega
          intro y9 v3 ho9 hb9 _ hk9
          have hv3 := hv2.trans hb9
          have hP : (v3).ownsRow w6.heap.size 45 6 y9 xs.length (gcells ebl xs) := by simpa using ho9
          obtain ⟨A9, c9, rfl, _⟩ := Sl.of_own hP
          replace hF := (hk9 M5 hm5 (lt_of_block hF) (fun h9 => hne (Option.some.inj h9))).trans hF
          clear hb9 ho9 hk9
          refine hK.out _ _ ?_ (fun hHeld2 => ?_)
          focus
            exact hS2 _ hv3
          clear hHeld
          have hHeld := hHeld2
          clear hHeld2 hK K
          try simp only [List.getElem_toArray, List.getElem_cons_succ, List.getElem_cons_zero, Act.put, List.setIfInBounds_toArray, List.set_cons_zero, List.set_cons_succ]
          refine wpAnyH_ready (rs := [5]) (by kernel_rfl) (by simp) ?_
          refine (AllReadyH.cons rfl (fun K hK => ?_) AllReadyH.nil)
          refine step_append_sl rfl (.tmp 72) (.tmp 74) 29 rfl w6.heap.size 45 Tryz.underlying29 info_entry rfl (by omega) rfl hP rfl (sl_blk6 hF) (by simp [Value.oneCell']) ?d18a ?d18b hv3.size ?_
          case d18a => unfold maxLen; omega
          case d18b => omega
          intro y9 v4 ho9 hb9 _ _
          have hv4 := hv3.trans hb9
          obtain ⟨A8, c8, rfl, hs8⟩ := Sl.of_own ho9
          clear hb9 ho9 hP hF hE
          refine hK.out _ _ ?_ (fun hHeld2 => ?_)
          focus
            exact hS2 _ hv4
          clear hHeld
          have hHeld := hHeld2
          clear hHeld2 hK K
          try simp only [List.getElem_toArray, List.getElem_cons_succ, List.getElem_cons_zero, Act.put, List.setIfInBounds_toArray, List.set_cons_zero, List.set_cons_succ]
          refine wpAnyH_take (i := 6) (v := ?_) rfl (by kernel_rfl) (by kernel_rfl) (by kernel_rfl) (fun _ _ _ h => h) (Or.inl ⟨by rfl, ?_⟩) (by assumption) ?_
          rotate_left
          focus
            intro U hU
            try dsimp only at hU
            go_simp
            try (with_reducible rfl)
          simp only [List.getElem_toArray, List.getElem_cons_succ, List.getElem_cons_zero, Act.put, List.setIfInBounds_toArray, List.set_cons_zero, List.set_cons_succ]
          refine wpAnyH_take (i := 7) (v := ?_) rfl (by kernel_rfl) (by kernel_rfl) (by kernel_rfl) (fun _ _ _ h => h) (Or.inl ⟨by rfl, ?_⟩) (by assumption) ?_
          rotate_left
          focus
            intro U hU
            try dsimp only at hU
            go_simp
            try (with_reducible rfl)
          simp only [List.getElem_toArray, List.getElem_cons_succ, List.getElem_cons_zero, Act.put, List.setIfInBounds_toArray, List.set_cons_zero, List.set_cons_succ]
          refine wpAnyH_done (by kernel_rfl) ?_ _
          clear hHeld hS2
          have HV9 := hid hv4
          have HS8 := hid hs8
          clear hs8 hv4
          have hSB9 := own_keep HSB.out HV9.out
          have hSD9 := own_keep HSD.out HV9.out
          have HIN9 : Hid (InBk v4 A8 c8 (xs ++ [((newE ji ns), (⟨Ax, cx, some ⟨M1, 0, none⟩, n9, some ⟨M2, 0, none⟩, n9⟩ : Pt))])) := hid ⟨by rw [List.length_append, gcells_append]; simpa [ebl, newE, HNL.out, gcells] using HS8.out, fun y hy => by
            rcases List.mem_append.1 hy with h8 | h8
            · exact (HXS6.out _ HV9.out).2 y h8
            · obtain rfl := List.mem_singleton.1 h8
              exact ⟨HTX6.out _ HV9.out, by simpa [newE, HNL.out] using sl_own hSB9, by simpa [newE, HNL.out] using sl_own hSD9⟩⟩
          clear hSB9 hSD9
          go_wp2
          refine bodyPost_ret (v := .tuple #[.slice A8 (xs.length + 1) c8, .bool true]) (by simp [results, Tryz.results23, go_sem]) rfl ⟨A8, c8, xs ++ [((newE ji ns), (⟨Ax, cx, some ⟨M1, 0, none⟩, n9, some ⟨M2, 0, none⟩, n9⟩ : Pt))], by rw [HR9.out, List.length_append]; rfl, ?_, HIN9.out, HB6.out.trans (HV9.out.mono HB6.out.size)⟩
          rw [← HYL.out, HR9.out, if_pos rfl, List.map_append, HXM.out, ← HNN.out, HG2.out]
          rfl
      · skip
        simp only [List.getElem_toArray, List.getElem_cons_succ, List.getElem_cons_zero]
        go_simp
        refine hK.out _ _ ?_ (fun hHeld2 => ?_)
        focus
          exact hS _ (hu1.alloc hu1.size _)
        clear hHeld
        have hHeld := hHeld2
        clear hHeld2 hK K
        try simp only [List.getElem_toArray, List.getElem_cons_succ, List.getElem_cons_zero, Act.put, List.setIfInBounds_toArray, List.set_cons_zero, List.set_cons_succ]
        have gg : RowKit.Below (World.heap u1).size u1 (World.alloc u1 (.cells #[.int .i64 0, .int .i64 0, .int .i64 0, .slice none 0 0, .slice none 0 0, .slice none 0 0] 45 (0, 0))) := (RowKit.Below.refl _ _).alloc (Nat.le_refl _) _
        have hu2 := hu1.trans (gg.mono hu1.size)
        have hm3 : w5.heap.size ≤ (World.heap u1).size := hu1.size
        have hz : (World.alloc u1 (.cells #[.int .i64 0, .int .i64 0, .int .i64 0, .slice none 0 0, .slice none 0 0, .slice none 0 0] 45 (0, 0))).heap[(World.heap u1).size]? = some (.cells #[.int .i64 0, .int .i64 0, .int .i64 0, .slice none 0 0, .slice none 0 0, .slice none 0 0] 45 (0, 0)) := heap_alloc_new u1 (.cells #[.int .i64 0, .int .i64 0, .int .i64 0, .slice none 0 0, .slice none 0 0, .slice none 0 0] 45)
        replace hsd := own_keep hsd gg
        clear gg
        generalize World.alloc u1 (.cells #[.int .i64 0, .int .i64 0, .int .i64 0, .slice none 0 0, .slice none 0 0, .slice none 0 0] 45 (0, 0)) = u2 at *
        generalize (World.heap u1).size = M3 at *
        refine wpAnyH_ready (rs := [8]) (by kernel_rfl) (by simp) ?_
        refine (AllReadyH.cons rfl (fun K hK => ?_) AllReadyH.nil)
        simp only [List.getElem_toArray, List.getElem_cons_succ, List.getElem_cons_zero]
        go_simp
        refine hK.out _ _ ?_ (fun hHeld2 => ?_)
        focus
          exact hS _ (hu2.alloc hu2.size _)
        clear hHeld
        have hHeld := hHeld2
        clear hHeld2 hK K
        try simp only [List.getElem_toArray, List.getElem_cons_succ, List.getElem_cons_zero, Act.put, List.setIfInBounds_toArray, List.set_cons_zero, List.set_cons_succ]
        have gg : RowKit.Below (World.heap u2).size u2 (World.alloc u2 (.cells (Array.replicate n9 (.int .i64 0)) 3 (0, 0))) := (RowKit.Below.refl _ _).alloc (Nat.le_refl _) _
        have hu3 := hu2.trans (gg.mono hu2.size)
        have hsb : (World.alloc u2 (.cells (Array.replicate n9 (.int .i64 0)) 3 (0, 0))).ownsRow w5.heap.size 3 1 (.slice (some ⟨(World.heap u2).size, 0, none⟩) n9 n9) n9 (icells .i64 (List.replicate n9 0)) := own_rep (heap_alloc_new u2 _) hu2.size (by unfold maxLen; omega) (by simp [icells])
        replace hsd := own_keep hsd gg
        replace hz := keep0 hz gg
        clear gg
        generalize World.alloc u2 (.cells (Array.replicate n9 (.int .i64 0)) 3 (0, 0)) = u3 at *
        generalize (World.heap u2).size = M1 at *
        refine wpAnyH_take (i := 11) (v := ?_) rfl (by kernel_rfl) (by kernel_rfl) (by kernel_rfl) (fun _ _ _ h => h) (Or.inl ⟨by rfl, ?_⟩) (by assumption) ?_
        rotate_left
        focus
          intro U hU
          try dsimp only at hU
          go_simp
          try (with_reducible rfl)
        simp only [List.getElem_toArray, List.getElem_cons_succ, List.getElem_cons_zero, Act.put, List.setIfInBounds_toArray, List.set_cons_zero, List.set_cons_succ]
        obtain ⟨⟨z0, z1, z2, z3, z4, z5⟩, f0, f1, f2, f3, f4, f5⟩ := six_cells hz
        refine wpAnyH_ready (rs := [13]) (by kernel_rfl) (by simp) ?_
        refine (AllReadyH.cons rfl (fun K hK => ?_) AllReadyH.nil)
        simp only [List.getElem_toArray, List.getElem_cons_succ, List.getElem_cons_zero]
        go_simp
        refine hK.out _ _ ?_ (fun hHeld2 => ?_)
        focus
          exact hS _ (put6_below hu3 hm3 (.int .i64 ji) (.int .i64 0) (.int .i64 1) (.slice Ax n9 cx) (.slice (some ⟨M1, 0, none⟩) n9 n9) (.slice (some ⟨M2, 0, none⟩) n9 n9))
        clear hHeld
        have hHeld := hHeld2
        clear hHeld2 hK K
        try simp only [List.getElem_toArray, List.getElem_cons_succ, List.getElem_cons_zero, Act.put, List.setIfInBounds_toArray, List.set_cons_zero, List.set_cons_succ]
        have hx9 := put6_heap hz (.int .i64 ji) (.int .i64 0) (.int .i64 1) (.slice Ax n9 cx) (.slice (some ⟨M1, 0, none⟩) n9 n9) (.slice (some ⟨M2, 0, none⟩) n9 n9)
        have hb9 := put6_below hu3 hm3 (.int .i64 ji) (.int .i64 0) (.int .i64 1) (.slice Ax n9 cx) (.slice (some ⟨M1, 0, none⟩) n9 n9) (.slice (some ⟨M2, 0, none⟩) n9 n9)
        have hsb9 := own_same hsb hz (by decide) (fun g hg => put6_other (w := u3) (b := M3) hg (.int .i64 ji) (.int .i64 0) (.int .i64 1) (.slice Ax n9 cx) (.slice (some ⟨M1, 0, none⟩) n9 n9) (.slice (some ⟨M2, 0, none⟩) n9 n9))
        have hsd9 := own_same hsd hz (by decide) (fun g hg => put6_other (w := u3) (b := M3) hg (.int .i64 ji) (.int .i64 0) (.int .i64 1) (.slice Ax n9 cx) (.slice (some ⟨M1, 0, none⟩) n9 n9) (.slice (some ⟨M2, 0, none⟩) n9 n9))
        refine wpAnyH_done (by kernel_rfl) ?_ _
        clear hHeld hS hmk1 hmk2
        go_upto_region 11 with (fail)
        refine at_world (fun u => u.heap[M3]? = some (.cells #[.int .i64 ji, .int .i64 0, .int .i64 1, .slice Ax n9 cx, .slice (some ⟨M1, 0, none⟩) n9 n9, .slice (some ⟨M2, 0, none⟩) n9 n9] 45 (0, 0)) ∧ u.ownsRow w5.heap.size 3 1 (.slice (some ⟨M1, 0, none⟩) n9 n9) n9 (icells .i64 (List.replicate n9 0)) ∧ u.ownsRow w5.heap.size 4 1 (.slice (some ⟨M2, 0, none⟩) n9 n9) n9 (blcells (List.replicate n9 false)) ∧ RowKit.Below w5.heap.size w5 u) ⟨hx9, hsb9, hsd9, hb9⟩ ?_
        rintro w6 ⟨hx6, hsb6, hsd6, hb6⟩
        have HX6 := hid hx6
        have HSB := hid hsb6
        have HSD := hid hsd6
        have HB6 := hid (HB4.out.trans (hb6.mono HB4.out.size))
        have HJ6 := hid (keep0 HJ4.out hb6)
        clear hx6 hsb6 hsd6 hb6
        have HXS6 := hid (fun u (hu : RowKit.Below w6.heap.size w6 u) => HXS.out u (HB6.out.trans (hu.mono HB6.out.size)))
        have hone : ∀ u ∈ gcells ebl xs, u.oneCell' = true := ebl_one xs
        have HTX6 := hid (fun u (hu : RowKit.Below w6.heap.size w6 u) => HTX.out u (HB6.out.trans (hu.mono HB6.out.size)))
        have hS2 : ∀ U, RowKit.Below w6.heap.size w6 U → ((U.cell? ⟨M3, 0, none⟩ = some (.int .i64 ji) ∧ U.cell? ⟨M3, 1, none⟩ = some (.int .i64 0) ∧ U.cell? ⟨M3, 2, none⟩ = some (.int .i64 1) ∧ U.cell? ⟨M3, 3, none⟩ = some (.slice Ax n9 cx) ∧ U.cell? ⟨M3, 4, none⟩ = some (.slice (some ⟨M1, 0, none⟩) n9 n9) ∧ U.cell? ⟨M3, 5, none⟩ = some (.slice (some ⟨M2, 0, none⟩) n9 n9)) ∧ RowKit.Below w6.heap.size w6 U) := fun U hU => ⟨(six_cells (keep0 HX6.out hU)).1, hU⟩
        have hv0 : RowKit.Below w6.heap.size w6 w6.drew := below_drew (RowKit.Below.refl _ _)
        refine wp_region_held_drew (S := fun U => (U.cell? ⟨M3, 0, none⟩ = some (.int .i64 ji) ∧ U.cell? ⟨M3, 1, none⟩ = some (.int .i64 0) ∧ U.cell? ⟨M3, 2, none⟩ = some (.int .i64 1) ∧ U.cell? ⟨M3, 3, none⟩ = some (.slice Ax n9 cx) ∧ U.cell? ⟨M3, 4, none⟩ = some (.slice (some ⟨M1, 0, none⟩) n9 n9) ∧ U.cell? ⟨M3, 5, none⟩ = some (.slice (some ⟨M2, 0, none⟩) n9 n9)) ∧ RowKit.Below w6.heap.size w6 U) (by kernel_rfl) (hS2 _ hv0) (fun hHeld => ?_)
        generalize w6.drew = v0 at *
        refine wpAnyH_take (i := 1) (v := ?_) rfl (by kernel_rfl) (by kernel_rfl) (by kernel_rfl) (fun _ _ _ h => h) (Or.inl ⟨by rfl, ?_⟩) (by assumption) ?_
        rotate_left
        focus
          intro U hU
          try dsimp only at hU
          go_simp
          try (with_reducible rfl)
        simp only [List.getElem_toArray, List.getElem_cons_succ, List.getElem_cons_zero, Act.put, List.setIfInBounds_toArray, List.set_cons_zero, List.set_cons_succ]
        refine wpAnyH_take (i := 3) (v := ?_) rfl (by kernel_rfl) (by kernel_rfl) (by kernel_rfl) (fun _ _ _ h => h) (Or.inl ⟨by rfl, ?_⟩) (by assumption) ?_
        rotate_left
        focus
          intro U hU
          try dsimp only at hU
          go_simp
          try (with_reducible rfl)
        simp only [List.getElem_toArray, List.getElem_cons_succ, List.getElem_cons_zero, Act.put, List.setIfInBounds_toArray, List.set_cons_zero, List.set_cons_succ]
        refine wpAnyH_ready (rs := [0, 4]) (by kernel_rfl) (by simp) ?_
        refine (AllReadyH.cons rfl (fun K hK => ?_) (AllReadyH.cons rfl (fun K hK => ?_) AllReadyH.nil))
        · skip
          simp only [List.getElem_toArray, List.getElem_cons_succ, List.getElem_cons_zero]
          go_simp
          refine hK.out _ _ ?_ (fun hHeld2 => ?_)
          focus
            exact hS2 _ (hv0.alloc hv0.size _)
          clear hHeld
          have hHeld := hHeld2
          clear hHeld2 hK K
          try simp only [List.getElem_toArray, List.getElem_cons_succ, List.getElem_cons_zero, Act.put, List.setIfInBounds_toArray, List.set_cons_zero, List.set_cons_succ]
          have gg : RowKit.Below (World.heap v0).size v0 (World.alloc v0 (.cells #[] 45 (0, 0))) := (RowKit.Below.refl _ _).alloc (Nat.le_refl _) _
          have hv1 := hv0.trans (gg.mono hv0.size)
          have hE : (World.alloc v0 (.cells #[] 45 (0, 0))).ownsRow w6.heap.size 45 6 (.slice (some ⟨(World.heap v0).size, 0, none⟩) 0 0) 0 [] := own_mono (own_empty v0 45 6) hv0.size
          clear gg
          generalize World.alloc v0 (.cells #[] 45 (0, 0)) = v1 at *
          generalize (World.heap v0).size = M4 at *
          refine wpAnyH_ready (rs := [2, 4]) (by kernel_rfl) (by simp) ?_
          refine (AllReadyH.cons rfl (fun K hK => ?_) (AllReadyH.cons rfl (fun K hK => ?_) AllReadyH.nil))
          · skip
            refine step_append_sl rfl (.tmp 70) (.tmp 71) 29 rfl w6.heap.size 45 Tryz.underlying29 info_entry rfl (by omega) rfl hE rfl (HXS6.out _ hv1).1 hone ?d19a ?d19b hv1.size ?_
            case d19a => unfold maxLen; omega
            case d19b => omega
            intro y9 v2 ho9 hb9 _ hk9
            have hv2 := hv1.trans hb9
            have hP : (v2).ownsRow w6.heap.size 45 6 y9 xs.length (gcells ebl xs) := by simpa using ho9
            obtain ⟨A9, c9, rfl, _⟩ := Sl.of_own hP
            clear hb9 ho9 hk9
            refine hK.out _ _ ?_ (fun hHeld2 => ?_)
            focus
              exact hS2 _ hv2
            clear hHeld
            have hHeld := hHeld2
            clear hHeld2 hK K
            try simp only [List.getElem_toArray, List.getElem_cons_succ, List.getElem_cons_zero, Act.put, List.setIfInBounds_toArray, List.set_cons_zero, List.set_cons_succ]
            refine wpAnyH_ready (rs := [4]) (by kernel_rfl) (by simp) ?_
            refine (AllReadyH.cons rfl (fun K hK => ?_) AllReadyH.nil)
            simp only [List.getElem_toArray, List.getElem_cons_succ, List.getElem_cons_zero]
            go_simp
            refine hK.out _ _ ?_ (fun hHeld2 => ?_)
            focus
              exact hS2 _ (hv2.alloc hv2.size _)
            clear hHeld
            have hHeld := hHeld2
            clear hHeld2 hK K
            try simp only [List.getElem_toArray, List.getElem_cons_succ, List.getElem_cons_zero, Act.put, List.setIfInBounds_toArray, List.set_cons_zero, List.set_cons_succ]
            have gg : RowKit.Below (World.heap v2).size v2 (World.alloc v2 (.cells #[.int .i64 ji, .int .i64 0, .int .i64 1, .slice Ax n9 cx, .slice (some ⟨M1, 0, none⟩) n9 n9, .slice (some ⟨M2, 0, none⟩) n9 n9] 45 (0, 0))) := (RowKit.Below.refl _ _).alloc (Nat.le_refl _) _
            have hv3 := hv2.trans (gg.mono hv2.size)
            have hm5 : w6.heap.size ≤ (World.heap v2).size := hv2.size
            have hF : (World.alloc v2 (.cells #[.int .i64 ji, .int .i64 0, .int .i64 1, .slice Ax n9 cx, .slice (some ⟨M1, 0, none⟩) n9 n9, .slice (some ⟨M2, 0, none⟩) n9 n9] 45 (0, 0))).heap[(World.heap v2).size]? = some (.cells #[.int .i64 ji, .int .i64 0, .int .i64 1, .slice Ax n9 cx, .slice (some ⟨M1, 0, none⟩) n9 n9, .slice (some ⟨M2, 0, none⟩) n9 n9] 45 (0, 0)) := heap_alloc_new v2 (.cells #[.int .i64 ji, .int .i64 0, .int .i64 1, .slice Ax n9 cx, .slice (some ⟨M1, 0, none⟩) n9 n9, .slice (some ⟨M2, 0, none⟩) n9 n9] 45)
            replace hP := own_keep hP gg
            clear gg
            generalize World.alloc v2 (.cells #[.int .i64 ji, .int .i64 0, .int .i64 1, .slice Ax n9 cx, .slice (some ⟨M1, 0, none⟩) n9 n9, .slice (some ⟨M2, 0, none⟩) n9 n9] 45 (0, 0)) = v3 at *
            generalize (World.heap v2).size = M5 at *
            refine wpAnyH_ready (rs := [5]) (by kernel_rfl) (by simp) ?_
            refine (AllReadyH.cons rfl (fun K hK => ?_) AllReadyH.nil)
            refine step_append_sl rfl (.tmp 72) (.tmp 74) 29 rfl w6.heap.size 45 Tryz.underlying29 info_entry rfl (by omega) rfl hP rfl (sl_blk6 hF) (by simp [Value.oneCell']) ?d20a ?d20b hv3.size ?_
            case d20a => unfold maxLen; omega
            case d20b => omega
            intro y9 v4 ho9 hb9 _ _
            have hv4 := hv3.trans hb9
            obtain ⟨A8, c8, rfl, hs8⟩ := Sl.of_own ho9
            clear hb9 ho9 hP hF hE
            refine hK.out _ _ ?_ (fun hHeld2 => ?_)
            focus
              exact hS2 _ hv4
            clear hHeld
            have hHeld := hHeld2
            clear hHeld2 hK K
            try simp only [List.getElem_toArray, List.getElem_cons_succ, List.getElem_cons_zero, Act.put, List.setIfInBounds_toArray, List.set_cons_zero, List.set_cons_succ]
            refine wpAnyH_take (i := 6) (v := ?_) rfl (by kernel_rfl) (by kernel_rfl) (by kernel_rfl) (fun _ _ _ h => h) (Or.inl ⟨by rfl, ?_⟩) (by assumption) ?_
            rotate_left
            focus
              intro U hU
              try dsimp only at hU
              go_simp
              try (with_reducible rfl)
            simp only [List.getElem_toArray, List.getElem_cons_succ, List.getElem_cons_zero, Act.put, List.setIfInBounds_toArray, List.set_cons_zero, List.set_cons_succ]
            refine wpAnyH_take (i := 7) (v := ?_) rfl (by kernel_rfl) (by kernel_rfl) (by kernel_rfl) (fun _ _ _ h => h) (Or.inl ⟨by rfl, ?_⟩) (by assumption) ?_
            rotate_left
            focus
              intro U hU
              try dsimp only at hU
              go_simp
              try (with_reducible rfl)
            simp only [List.getElem_toArray, List.getElem_cons_succ, List.getElem_cons_zero, Act.put, List.setIfInBounds_toArray, List.set_cons_zero, List.set_cons_succ]
            refine wpAnyH_done (by kernel_rfl) ?_ _
            clear hHeld hS2
            have HV9 := hid hv4
            have HS8 := hid hs8
            clear hs8 hv4
            have hSB9 := own_keep HSB.out HV9.out
            have hSD9 := own_keep HSD.out HV9.out
            have HIN9 : Hid (InBk v4 A8 c8 (xs ++ [((newE ji ns), (⟨Ax, cx, some ⟨M1, 0, none⟩, n9, some ⟨M2, 0, none⟩, n9⟩ : Pt))])) := hid ⟨by rw [List.length_append, gcells_append]; simpa [ebl, newE, HNL.out, gcells] using HS8.out, fun y hy => by
              rcases List.mem_append.1 hy with h8 | h8
              · exact (HXS6.out _ HV9.out).2 y h8
              · obtain rfl := List.mem_singleton.1 h8
                exact ⟨HTX6.out _ HV9.out, by simpa [newE, HNL.out] using sl_own hSB9, by simpa [newE, HNL.out] using sl_own hSD9⟩⟩
            clear hSB9 hSD9
            go_wp2
            refine bodyPost_ret (v := .tuple #[.slice A8 (xs.length + 1) c8, .bool true]) (by simp [results, Tryz.results23, go_sem]) rfl ⟨A8, c8, xs ++ [((newE ji ns), (⟨Ax, cx, some ⟨M1, 0, none⟩, n9, some ⟨M2, 0, none⟩, n9⟩ : Pt))], by rw [HR9.out, List.length_append]; rfl, ?_, HIN9.out, HB6.out.trans (HV9.out.mono HB6.out.size)⟩
            rw [← HYL.out, HR9.out, if_pos rfl, List.map_append, HXM.out, ← HNN.out, HG2.out]
            rfl
          · skip
            simp only [List.getElem_toArray, List.getElem_cons_succ, List.getElem_cons_zero]
            go_simp
            refine hK.out _ _ ?_ (fun hHeld2 => ?_)
            focus
              exact hS2 _ (hv1.alloc hv1.size _)
            clear hHeld
            have hHeld := hHeld2
            clear hHeld2 hK K
            try simp only [List.getElem_toArray, List.getElem_cons_succ, List.getElem_cons_zero, Act.put, List.setIfInBounds_toArray, List.set_cons_zero, List.set_cons_succ]
            have gg : RowKit.Below (World.heap v1).size v1 (World.alloc v1 (.cells #[.int .i64 ji, .int .i64 0, .int .i64 1, .slice Ax n9 cx, .slice (some ⟨M1, 0, none⟩) n9 n9, .slice (some ⟨M2, 0, none⟩) n9 n9] 45 (0, 0))) := (RowKit.Below.refl _ _).alloc (Nat.le_refl _) _
            have hv2 := hv1.trans (gg.mono hv1.size)
            have hm5 : w6.heap.size ≤ (World.heap v1).size := hv1.size
            have hne : M4 ≠ (World.heap v1).size := Nat.ne_of_lt (own_lt hE M4 rfl).2.1
            have hF : (World.alloc v1 (.cells #[.int .i64 ji, .int .i64 0, .int .i64 1, .slice Ax n9 cx, .slice (some ⟨M1, 0, none⟩) n9 n9, .slice (some ⟨M2, 0, none⟩) n9 n9] 45 (0, 0))).heap[(World.heap v1).size]? = some (.cells #[.int .i64 ji, .int .i64 0, .int .i64 1, .slice Ax n9 cx, .slice (some ⟨M1, 0, none⟩) n9 n9, .slice (some ⟨M2, 0, none⟩) n9 n9] 45 (0, 0)) := heap_alloc_new v1 (.cells #[.int .i64 ji, .int .i64 0, .int .i64 1, .slice Ax n9 cx, .slice (some ⟨M1, 0, none⟩) n9 n9, .slice (some ⟨M2, 0, none⟩) n9 n9] 45)
            replace hE := own_keep hE gg
            clear gg
            generalize World.alloc v1 (.cells #[.int .i64 ji, .int .i64 0, .int .i64 1, .slice Ax n9 cx, .slice (some ⟨M1, 0, none⟩) n9 n9, .slice (some ⟨M2, 0, none⟩) n9 n9] 45 (0, 0)) = v2 at *
            generalize (World.heap v1).size = M5 at *
            refine wpAnyH_ready (rs := [2]) (by kernel_rfl) (by simp) ?_
            refine (AllReadyH.cons rfl (fun K hK => ?_) AllReadyH.nil)
            refine step_append_sl rfl (.tmp 70) (.tmp 71) 29 rfl w6.heap.size 45 Tryz.underlying29 info_entry rfl (by omega) rfl hE rfl (HXS6.out _ hv2).1 hone ?d21a ?d21b hv2.size ?_
            case d21a => unfold maxLen; omega
            case d21b => omega
            intro y9 v3 ho9 hb9 _ hk9
            have hv3 := hv2.trans hb9
            have hP : (v3).ownsRow w6.heap.size 45 6 y9 xs.length (gcells ebl xs) := by simpa using ho9
            obtain ⟨A9, c9, rfl, _⟩ := Sl.of_own hP
            replace hF := (hk9 M5 hm5 (lt_of_block hF) (fun h9 => hne (Option.some.inj h9))).trans hF
            clear hb9 ho9 hk9
            refine hK.out _ _ ?_ (fun hHeld2 => ?_)
            focus
              exact hS2 _ hv3
            clear hHeld
            have hHeld := hHeld2
            clear hHeld2 hK K
            try simp only [List.getElem_toArray, List.getElem_cons_succ, List.getElem_cons_zero, Act.put, List.setIfInBounds_toArray, List.set_cons_zero, List.set_cons_succ]
            refine wpAnyH_ready (rs := [5]) (by kernel_rfl) (by simp) ?_
            refine (AllReadyH.cons rfl (fun K hK => ?_) AllReadyH.nil)
            refine step_append_sl rfl (.tmp 72) (.tmp 74) 29 rfl w6.heap.size 45 Tryz.underlying29 info_entry rfl (by omega) rfl hP rfl (sl_blk6 hF) (by simp [Value.oneCell']) ?d22a ?d22b hv3.size ?_
            case d22a => unfold maxLen; omega
            case d22b => omega
            intro y9 v4 ho9 hb9 _ _
            have hv4 := hv3.trans hb9
            obtain ⟨A8, c8, rfl, hs8⟩ := Sl.of_own ho9
            clear hb9 ho9 hP hF hE
            refine hK.out _ _ ?_ (fun hHeld2 => ?_)
            focus
              exact hS2 _ hv4
            clear hHeld
            have hHeld := hHeld2
            clear hHeld2 hK K
            try simp only [List.getElem_toArray, List.getElem_cons_succ, List.getElem_cons_zero, Act.put, List.setIfInBounds_toArray, List.set_cons_zero, List.set_cons_succ]
            refine wpAnyH_take (i := 6) (v := ?_) rfl (by kernel_rfl) (by kernel_rfl) (by kernel_rfl) (fun _ _ _ h => h) (Or.inl ⟨by rfl, ?_⟩) (by assumption) ?_
            rotate_left
            focus
              intro U hU
              try dsimp only at hU
              go_simp
              try (with_reducible rfl)
            simp only [List.getElem_toArray, List.getElem_cons_succ, List.getElem_cons_zero, Act.put, List.setIfInBounds_toArray, List.set_cons_zero, List.set_cons_succ]
            refine wpAnyH_take (i := 7) (v := ?_) rfl (by kernel_rfl) (by kernel_rfl) (by kernel_rfl) (fun _ _ _ h => h) (Or.inl ⟨by rfl, ?_⟩) (by assumption) ?_
            rotate_left
            focus
              intro U hU
              try dsimp only at hU
              go_simp
              try (with_reducible rfl)
            simp only [List.getElem_toArray, List.getElem_cons_succ, List.getElem_cons_zero, Act.put, List.setIfInBounds_toArray, List.set_cons_zero, List.set_cons_succ]
            refine wpAnyH_done (by kernel_rfl) ?_ _
            clear hHeld hS2
            have HV9 := hid hv4
            have HS8 := hid hs8
            clear hs8 hv4
            have hSB9 := own_keep HSB.out HV9.out
            have hSD9 := own_keep HSD.out HV9.out
            have HIN9 : Hid (InBk v4 A8 c8 (xs ++ [((newE ji ns), (⟨Ax, cx, some ⟨M1, 0, none⟩, n9, some ⟨M2, 0, none⟩, n9⟩ : Pt))])) := hid ⟨by rw [List.length_append, gcells_append]; simpa [ebl, newE, HNL.out, gcells] using HS8.out, fun y hy => by
              rcases List.mem_append.1 hy with h8 | h8
              · exact (HXS6.out _ HV9.out).2 y h8
              · obtain rfl := List.mem_singleton.1 h8
                exact ⟨HTX6.out _ HV9.out, by simpa [newE, HNL.out] using sl_own hSB9, by simpa [newE, HNL.out] using sl_own hSD9⟩⟩
            clear hSB9 hSD9
            go_wp2
            refine bodyPost_ret (v := .tuple #[.slice A8 (xs.length + 1) c8, .bool true]) (by simp [results, Tryz.results23, go_sem]) rfl ⟨A8, c8, xs ++ [((newE ji ns), (⟨Ax, cx, some ⟨M1, 0, none⟩, n9, some ⟨M2, 0, none⟩, n9⟩ : Pt))], by rw [HR9.out, List.length_append]; rfl, ?_, HIN9.out, HB6.out.trans (HV9.out.mono HB6.out.size)⟩
            rw [← HYL.out, HR9.out, if_pos rfl, List.map_append, HXM.out, ← HNN.out, HG2.out]
            rfl
        · skip
          simp only [List.getElem_toArray, List.getElem_cons_succ, List.getElem_cons_zero]
          go_simp
          refine hK.out _ _ ?_ (fun hHeld2 => ?_)
          focus
            exact hS2 _ (hv0.alloc hv0.size _)
          clear hHeld
          have hHeld := hHeld2
          clear hHeld2 hK K
          try simp only [List.getElem_toArray, List.getElem_cons_succ, List.getElem_cons_zero, Act.put, List.setIfInBounds_toArray, List.set_cons_zero, List.set_cons_succ]
          have gg : RowKit.Below (World.heap v0).size v0 (World.alloc v0 (.cells #[.int .i64 ji, .int .i64 0, .int .i64 1, .slice Ax n9 cx, .slice (some ⟨M1, 0, none⟩) n9 n9, .slice (some ⟨M2, 0, none⟩) n9 n9] 45 (0, 0))) := (RowKit.Below.refl _ _).alloc (Nat.le_refl _) _
          have hv1 := hv0.trans (gg.mono hv0.size)
          have hm5 : w6.heap.size ≤ (World.heap v0).size := hv0.size
          have hF : (World.alloc v0 (.cells #[.int .i64 ji, .int .i64 0, .int .i64 1, .slice Ax n9 cx, .slice (some ⟨M1, 0, none⟩) n9 n9, .slice (some ⟨M2, 0, none⟩) n9 n9] 45 (0, 0))).heap[(World.heap v0).size]? = some (.cells #[.int .i64 ji, .int .i64 0, .int .i64 1, .slice Ax n9 cx, .slice (some ⟨M1, 0, none⟩) n9 n9, .slice (some ⟨M2, 0, none⟩) n9 n9] 45 (0, 0)) := heap_alloc_new v0 (.cells #[.int .i64 ji, .int .i64 0, .int .i64 1, .slice Ax n9 cx, .slice (some ⟨M1, 0, none⟩) n9 n9, .slice (some ⟨M2, 0, none⟩) n9 n9] 45)
          clear gg
          generalize World.alloc v0 (.cells #[.int .i64 ji, .int .i64 0, .int .i64 1, .slice Ax n9 cx, .slice (some ⟨M1, 0, none⟩) n9 n9, .slice (some ⟨M2, 0, none⟩) n9 n9] 45 (0, 0)) = v1 at *
          generalize (World.heap v0).size = M5 at *
          refine wpAnyH_ready (rs := [0]) (by kernel_rfl) (by simp) ?_
          refine (AllReadyH.cons rfl (fun K hK => ?_) AllReadyH.nil)
          simp only [List.getElem_toArray, List.getElem_cons_succ, List.getElem_cons_zero]
          go_simp
          refine hK.out _ _ ?_ (fun hHeld2 => ?_)
          focus
            exact hS2 _ (hv1.alloc hv1.size _)
          clear hHeld
          have hHeld := hHeld2
          clear hHeld2 hK K
          try simp only [List.getElem_toArray, List.getElem_cons_succ, List.getElem_cons_zero, Act.put, List.setIfInBounds_toArray, List.set_cons_zero, List.set_cons_succ]
          have gg : RowKit.Below (World.heap v1).size v1 (World.alloc v1 (.cells #[] 45 (0, 0))) := (RowKit.Below.refl _ _).alloc (Nat.le_refl _) _
          have hv2 := hv1.trans (gg.mono hv1.size)
          have hne : (World.heap v1).size ≠ M5 := Nat.ne_of_gt (lt_of_block hF)
          have hE : (World.alloc v1 (.cells #[] 45 (0, 0))).ownsRow w6.heap.size 45 6 (.slice (some ⟨(World.heap v1).size, 0, none⟩) 0 0) 0 [] := own_mono (own_empty v1 45 6) hv1.size
          replace hF := keep0 hF gg
          clear gg
          generalize World.alloc v1 (.cells #[] 45 (0, 0)) = v2 at *
          generalize (World.heap v1).size = M4 at *
          refine wpAnyH_ready (rs := [2]) (by kernel_rfl) (by simp) ?_
          refine (AllReadyH.cons rfl (fun K hK => ?_) AllReadyH.nil)
          refine step_append_sl rfl (.tmp 70) (.tmp 71) 29 rfl w6.heap.size 45 Tryz.underlying29 info_entry rfl (by omega) rfl hE rfl (HXS6.out _ hv2).1 hone ?d23a ?d23b hv2.size ?_
          case d23a => unfold maxLen; omega
          case d23b => omega
          intro y9 v3 ho9 hb9 _ hk9
          have hv3 := hv2.trans hb9
          have hP : (v3).ownsRow w6.heap.size 45 6 y9 xs.length (gcells ebl xs) := by simpa using ho9
          obtain ⟨A9, c9, rfl, _⟩ := Sl.of_own hP
          replace hF := (hk9 M5 hm5 (lt_of_block hF) (fun h9 => hne (Option.some.inj h9))).trans hF
          clear hb9 ho9 hk9
          refine hK.out _ _ ?_ (fun hHeld2 => ?_)
          focus
            exact hS2 _ hv3
          clear hHeld
          have hHeld := hHeld2
          clear hHeld2 hK K
          try simp only [List.getElem_toArray, List.getElem_cons_succ, List.getElem_cons_zero, Act.put, List.setIfInBounds_toArray, List.set_cons_zero, List.set_cons_succ]
          refine wpAnyH_ready (rs := [5]) (by kernel_rfl) (by simp) ?_
          refine (AllReadyH.cons rfl (fun K hK => ?_) AllReadyH.nil)
          refine step_append_sl rfl (.tmp 72) (.tmp 74) 29 rfl w6.heap.size 45 Tryz.underlying29 info_entry rfl (by omega) rfl hP rfl (sl_blk6 hF) (by simp [Value.oneCell']) ?d24a ?d24b hv3.size ?_
          case d24a => unfold maxLen; omega
          case d24b => omega
          intro y9 v4 ho9 hb9 _ _
          have hv4 := hv3.trans hb9
          obtain ⟨A8, c8, rfl, hs8⟩ := Sl.of_own ho9
          clear hb9 ho9 hP hF hE
          refine hK.out _ _ ?_ (fun hHeld2 => ?_)
          focus
            exact hS2 _ hv4
          clear hHeld
          have hHeld := hHeld2
          clear hHeld2 hK K
          try simp only [List.getElem_toArray, List.getElem_cons_succ, List.getElem_cons_zero, Act.put, List.setIfInBounds_toArray, List.set_cons_zero, List.set_cons_succ]
          refine wpAnyH_take (i := 6) (v := ?_) rfl (by kernel_rfl) (by kernel_rfl) (by kernel_rfl) (fun _ _ _ h => h) (Or.inl ⟨by rfl, ?_⟩) (by assumption) ?_
          rotate_left
          focus
            intro U hU
            try dsimp only at hU
            go_simp
            try (with_reducible rfl)
          simp only [List.getElem_toArray, List.getElem_cons_succ, List.getElem_cons_zero, Act.put, List.setIfInBounds_toArray, List.set_cons_zero, List.set_cons_succ]
          refine wpAnyH_take (i := 7) (v := ?_) rfl (by kernel_rfl) (by kernel_rfl) (by kernel_rfl) (fun _ _ _ h => h) (Or.inl ⟨by rfl, ?_⟩) (by assumption) ?_
          rotate_left
          focus
            intro U hU
            try dsimp only at hU
            go_simp
            try (with_reducible rfl)
          simp only [List.getElem_toArray, List.getElem_cons_succ, List.getElem_cons_zero, Act.put, List.setIfInBounds_toArray, List.set_cons_zero, List.set_cons_succ]
          refine wpAnyH_done (by kernel_rfl) ?_ _
          clear hHeld hS2
          have HV9 := hid hv4
          have HS8 := hid hs8
          clear hs8 hv4
          have hSB9 := own_keep HSB.out HV9.out
          have hSD9 := own_keep HSD.out HV9.out
          have HIN9 : Hid (InBk v4 A8 c8 (xs ++ [((newE ji ns), (⟨Ax, cx, some ⟨M1, 0, none⟩, n9, some ⟨M2, 0, none⟩, n9⟩ : Pt))])) := hid ⟨by rw [List.length_append, gcells_append]; simpa [ebl, newE, HNL.out, gcells] using HS8.out, fun y hy => by
            rcases List.mem_append.1 hy with h8 | h8
            · exact (HXS6.out _ HV9.out).2 y h8
            · obtain rfl := List.mem_singleton.1 h8
              exact ⟨HTX6.out _ HV9.out, by simpa [newE, HNL.out] using sl_own hSB9, by simpa [newE, HNL.out] using sl_own hSD9⟩⟩
          clear hSB9 hSD9
          go_wp2
          refine bodyPost_ret (v := .tuple #[.slice A8 (xs.length + 1) c8, .bool true]) (by simp [results, Tryz.results23, go_sem]) rfl ⟨A8, c8, xs ++ [((newE ji ns), (⟨Ax, cx, some ⟨M1, 0, none⟩, n9, some ⟨M2, 0, none⟩, n9⟩ : Pt))], by rw [HR9.out, List.length_append]; rfl, ?_, HIN9.out, HB6.out.trans (HV9.out.mono HB6.out.size)⟩
          rw [← HYL.out, HR9.out, if_pos rfl, List.map_append, HXM.out, ← HNN.out, HG2.out]
          rfl
    · skip
      simp only [List.getElem_toArray, List.getElem_cons_succ, List.getElem_cons_zero]
      go_simp
      refine hK.out _ _ ?_ (fun hHeld2 => ?_)
      focus
        exact hS _ (hu0.alloc hu0.size _)
      clear hHeld
      have hHeld := hHeld2
      clear hHeld2 hK K
      try simp only [List.getElem_toArray, List.getElem_cons_succ, List.getElem_cons_zero, Act.put, List.setIfInBounds_toArray, List.set_cons_zero, List.set_cons_succ]
      have gg : RowKit.Below (World.heap u0).size u0 (World.alloc u0 (.cells #[.int .i64 0, .int .i64 0, .int .i64 0, .slice none 0 0, .slice none 0 0, .slice none 0 0] 45 (0, 0))) := (RowKit.Below.refl _ _).alloc (Nat.le_refl _) _
      have hu1 := hu0.trans (gg.mono hu0.size)
      have hm3 : w5.heap.size ≤ (World.heap u0).size := hu0.size
      have hz : (World.alloc u0 (.cells #[.int .i64 0, .int .i64 0, .int .i64 0, .slice none 0 0, .slice none 0 0, .slice none 0 0] 45 (0, 0))).heap[(World.heap u0).size]? = some (.cells #[.int .i64 0, .int .i64 0, .int .i64 0, .slice none 0 0, .slice none 0 0, .slice none 0 0] 45 (0, 0)) := heap_alloc_new u0 (.cells #[.int .i64 0, .int .i64 0, .int .i64 0, .slice none 0 0, .slice none 0 0, .slice none 0 0] 45)
      clear gg
      generalize World.alloc u0 (.cells #[.int .i64 0, .int .i64 0, .int .i64 0, .slice none 0 0, .slice none 0 0, .slice none 0 0] 45 (0, 0)) = u1 at *
      generalize (World.heap u0).size = M3 at *
      refine wpAnyH_ready (rs := [8, 10]) (by kernel_rfl) (by simp) ?_
      refine (AllReadyH.cons rfl (fun K hK => ?_) (AllReadyH.cons rfl (fun K hK => ?_) AllReadyH.nil))
      · skip
        simp only [List.getElem_toArray, List.getElem_cons_succ, List.getElem_cons_zero]
        go_simp
        refine hK.out _ _ ?_ (fun hHeld2 => ?_)
        focus
          exact hS _ (hu1.alloc hu1.size _)
        clear hHeld
        have hHeld := hHeld2
        clear hHeld2 hK K
        try simp only [List.getElem_toArray, List.getElem_cons_succ, List.getElem_cons_zero, Act.put, List.setIfInBounds_toArray, List.set_cons_zero, List.set_cons_succ]
        have gg : RowKit.Below (World.heap u1).size u1 (World.alloc u1 (.cells (Array.replicate n9 (.int .i64 0)) 3 (0, 0))) := (RowKit.Below.refl _ _).alloc (Nat.le_refl _) _
        have hu2 := hu1.trans (gg.mono hu1.size)
        have hsb : (World.alloc u1 (.cells (Array.replicate n9 (.int .i64 0)) 3 (0, 0))).ownsRow w5.heap.size 3 1 (.slice (some ⟨(World.heap u1).size, 0, none⟩) n9 n9) n9 (icells .i64 (List.replicate n9 0)) := own_rep (heap_alloc_new u1 _) hu1.size (by unfold maxLen; omega) (by simp [icells])
        replace hz := keep0 hz gg
        clear gg
        generalize World.alloc u1 (.cells (Array.replicate n9 (.int .i64 0)) 3 (0, 0)) = u2 at *
        generalize (World.heap u1).size = M1 at *
        refine wpAnyH_ready (rs := [10]) (by kernel_rfl) (by simp) ?_
        refine (AllReadyH.cons rfl (fun K hK => ?_) AllReadyH.nil)
        simp only [List.getElem_toArray, List.getElem_cons_succ, List.getElem_cons_zero]
        go_simp
        refine hK.out _ _ ?_ (fun hHeld2 => ?_)
        focus
          exact hS _ (hu2.alloc hu2.size _)
        clear hHeld
        have hHeld := hHeld2
        clear hHeld2 hK K
        try simp only [List.getElem_toArray, List.getElem_cons_succ, List.getElem_cons_zero, Act.put, List.setIfInBounds_toArray, List.set_cons_zero, List.set_cons_succ]
        have gg : RowKit.Below (World.heap u2).size u2 (World.alloc u2 (.cells (Array.replicate n9 (.bool false)) 4 (0, 0))) := (RowKit.Below.refl _ _).alloc (Nat.le_refl _) _
        have hu3 := hu2.trans (gg.mono hu2.size)
        have hsd : (World.alloc u2 (.cells (Array.replicate n9 (.bool false)) 4 (0, 0))).ownsRow w5.heap.size 4 1 (.slice (some ⟨(World.heap u2).size, 0, none⟩) n9 n9) n9 (blcells (List.replicate n9 false)) := own_rep (heap_alloc_new u2 _) hu2.size (by unfold maxLen; omega) (by simp [blcells])
        replace hsb := own_keep hsb gg
        replace hz := keep0 hz gg
        clear gg
        generalize World.alloc u2 (.cells (Array.replicate n9 (.bool false)) 4 (0, 0)) = u3 at *
        generalize (World.heap u2).size = M2 at *
        refine wpAnyH_take (i := 11) (v := ?_) rfl (by kernel_rfl) (by kernel_rfl) (by kernel_rfl) (fun _ _ _ h => h) (Or.inl ⟨by rfl, ?_⟩) (by assumption) ?_
        rotate_left
        focus
          intro U hU
          try dsimp only at hU
          go_simp
          try (with_reducible rfl)
        simp only [List.getElem_toArray, List.getElem_cons_succ, List.getElem_cons_zero, Act.put, List.setIfInBounds_toArray, List.set_cons_zero, List.set_cons_succ]
        obtain ⟨⟨z0, z1, z2, z3, z4, z5⟩, f0, f1, f2, f3, f4, f5⟩ := six_cells hz
        refine wpAnyH_ready (rs := [13]) (by kernel_rfl) (by simp) ?_
        refine (AllReadyH.cons rfl (fun K hK => ?_) AllReadyH.nil)
        simp only [List.getElem_toArray, List.getElem_cons_succ, List.getElem_cons_zero]
        go_simp
        refine hK.out _ _ ?_ (fun hHeld2 => ?_)
        focus
          exact hS _ (put6_below hu3 hm3 (.int .i64 ji) (.int .i64 0) (.int .i64 1) (.slice Ax n9 cx) (.slice (some ⟨M1, 0, none⟩) n9 n9) (.slice (some ⟨M2, 0, none⟩) n9 n9))
        clear hHeld
        have hHeld := hHeld2
        clear hHeld2 hK K
        try simp only [List.getElem_toArray, List.getElem_cons_succ, List.getElem_cons_zero, Act.put, List.setIfInBounds_toArray, List.set_cons_zero, List.set_cons_succ]
        have hx9 := put6_heap hz (.int .i64 ji) (.int .i64 0) (.int .i64 1) (.slice Ax n9 cx) (.slice (some ⟨M1, 0, none⟩) n9 n9) (.slice (some ⟨M2, 0, none⟩) n9 n9)
        have hb9 := put6_below hu3 hm3 (.int .i64 ji) (.int .i64 0) (.int .i64 1) (.slice Ax n9 cx) (.slice (some ⟨M1, 0, none⟩) n9 n9) (.slice (some ⟨M2, 0, none⟩) n9 n9)
        have hsb9 := own_same hsb hz (by decide) (fun g hg => put6_other (w := u3) (b := M3) hg (.int .i64 ji) (.int .i64 0) (.int .i64 1) (.slice Ax n9 cx) (.slice (some ⟨M1, 0, none⟩) n9 n9) (.slice (some ⟨M2, 0, none⟩) n9 n9))
        have hsd9 := own_same hsd hz (by decide) (fun g hg => put6_other (w := u3) (b := M3) hg (.int .i64 ji) (.int .i64 0) (.int .i64 1) (.slice Ax n9 cx) (.slice (some ⟨M1, 0, none⟩) n9 n9) (.slice (some ⟨M2, 0, none⟩) n9 n9))
        refine wpAnyH_done (by kernel_rfl) ?_ _
        clear hHeld hS hmk1 hmk2
        go_upto_region 11 with (fail)
        refine at_world (fun u => u.heap[M3]? = some (.cells #[.int .i64 ji, .int .i64 0, .int .i64 1, .slice Ax n9 cx, .slice (some ⟨M1, 0, none⟩) n9 n9, .slice (some ⟨M2, 0, none⟩) n9 n9] 45 (0, 0)) ∧ u.ownsRow w5.heap.size 3 1 (.slice (some ⟨M1, 0, none⟩) n9 n9) n9 (icells .i64 (List.replicate n9 0)) ∧ u.ownsRow w5.heap.size 4 1 (.slice (some ⟨M2, 0, none⟩) n9 n9) n9 (blcells (List.replicate n9 false)) ∧ RowKit.Below w5.heap.size w5 u) ⟨hx9, hsb9, hsd9, hb9⟩ ?_
        rintro w6 ⟨hx6, hsb6, hsd6, hb6⟩
        have HX6 := hid hx6
        have HSB := hid hsb6
        have HSD := hid hsd6
        have HB6 := hid (HB4.out.trans (hb6.mono HB4.out.size))
        have HJ6 := hid (keep0 HJ4.out hb6)
        clear hx6 hsb6 hsd6 hb6
        have HXS6 := hid (fun u (hu : RowKit.Below w6.heap.size w6 u) => HXS.out u (HB6.out.trans (hu.mono HB6.out.size)))
        have hone : ∀ u ∈ gcells ebl xs, u.oneCell' = true := ebl_one xs
        have HTX6 := hid (fun u (hu : RowKit.Below w6.heap.size w6 u) => HTX.out u (HB6.out.trans (hu.mono HB6.out.size)))
        have hS2 : ∀ U, RowKit.Below w6.heap.size w6 U → ((U.cell? ⟨M3, 0, none⟩ = some (.int .i64 ji) ∧ U.cell? ⟨M3, 1, none⟩ = some (.int .i64 0) ∧ U.cell? ⟨M3, 2, none⟩ = some (.int .i64 1) ∧ U.cell? ⟨M3, 3, none⟩ = some (.slice Ax n9 cx) ∧ U.cell? ⟨M3, 4, none⟩ = some (.slice (some ⟨M1, 0, none⟩) n9 n9) ∧ U.cell? ⟨M3, 5, none⟩ = some (.slice (some ⟨M2, 0, none⟩) n9 n9)) ∧ RowKit.Below w6.heap.size w6 U) := fun U hU => ⟨(six_cells (keep0 HX6.out hU)).1, hU⟩
        have hv0 : RowKit.Below w6.heap.size w6 w6.drew := below_drew (RowKit.Below.refl _ _)
        refine wp_region_held_drew (S := fun U => (U.cell? ⟨M3, 0, none⟩ = some (.int .i64 ji) ∧ U.cell? ⟨M3, 1, none⟩ = some (.int .i64 0) ∧ U.cell? ⟨M3, 2, none⟩ = some (.int .i64 1) ∧ U.cell? ⟨M3, 3, none⟩ = some (.slice Ax n9 cx) ∧ U.cell? ⟨M3, 4, none⟩ = some (.slice (some ⟨M1, 0, none⟩) n9 n9) ∧ U.cell? ⟨M3, 5, none⟩ = some (.slice (some ⟨M2, 0, none⟩) n9 n9)) ∧ RowKit.Below w6.heap.size w6 U) (by kernel_rfl) (hS2 _ hv0) (fun hHeld => ?_)
        generalize w6.drew = v0 at *
        refine wpAnyH_take (i := 1) (v := ?_) rfl (by kernel_rfl) (by kernel_rfl) (by kernel_rfl) (fun _ _ _ h => h) (Or.inl ⟨by rfl, ?_⟩) (by assumption) ?_
        rotate_left
        focus
          intro U hU
          try dsimp only at hU
          go_simp
          try (with_reducible rfl)
        simp only [List.getElem_toArray, List.getElem_cons_succ, List.getElem_cons_zero, Act.put, List.setIfInBounds_toArray, List.set_cons_zero, List.set_cons_succ]
        refine wpAnyH_take (i := 3) (v := ?_) rfl (by kernel_rfl) (by kernel_rfl) (by kernel_rfl) (fun _ _ _ h => h) (Or.inl ⟨by rfl, ?_⟩) (by assumption) ?_
        rotate_left
        focus
          intro U hU
          try dsimp only at hU
          go_simp
          try (with_reducible rfl)
        simp only [List.getElem_toArray, List.getElem_cons_succ, List.getElem_cons_zero, Act.put, List.setIfInBounds_toArray, List.set_cons_zero, List.set_cons_succ]
        refine wpAnyH_ready (rs := [0, 4]) (by kernel_rfl) (by simp) ?_
        refine (AllReadyH.cons rfl (fun K hK => ?_) (AllReadyH.cons rfl (fun K hK => ?_) AllReadyH.nil))
        · skip
          simp only [List.getElem_toArray, List.getElem_cons_succ, List.getElem_cons_zero]
          go_simp
          refine hK.out _ _ ?_ (fun hHeld2 => ?_)
          focus
            exact hS2 _ (hv0.alloc hv0.size _)
          clear hHeld
          have hHeld := hHeld2
          clear hHeld2 hK K
          try simp only [List.getElem_toArray, List.getElem_cons_succ, List.getElem_cons_zero, Act.put, List.setIfInBounds_toArray, List.set_cons_zero, List.set_cons_succ]
          have gg : RowKit.Below (World.heap v0).size v0 (World.alloc v0 (.cells #[] 45 (0, 0))) := (RowKit.Below.refl _ _).alloc (Nat.le_refl _) _
          have hv1 := hv0.trans (gg.mono hv0.size)
          have hE : (World.alloc v0 (.cells #[] 45 (0, 0))).ownsRow w6.heap.size 45 6 (.slice (some ⟨(World.heap v0).size, 0, none⟩) 0 0) 0 [] := own_mono (own_empty v0 45 6) hv0.size
          clear gg
          generalize World.alloc v0 (.cells #[] 45 (0, 0)) = v1 at *
          generalize (World.heap v0).size = M4 at *
          refine wpAnyH_ready (rs := [2, 4]) (by kernel_rfl) (by simp) ?_
          refine (AllReadyH.cons rfl (fun K hK => ?_) (AllReadyH.cons rfl (fun K hK => ?_) AllReadyH.nil))
          · skip
            refine step_append_sl rfl (.tmp 70) (.tmp 71) 29 rfl w6.heap.size 45 Tryz.underlying29 info_entry rfl (by omega) rfl hE rfl (HXS6.out _ hv1).1 hone ?d25a ?d25b hv1.size ?_
            case d25a => unfold maxLen; omega
            case d25b => omega
            intro y9 v2 ho9 hb9 _ hk9
            have hv2 := hv1.trans hb9
            have hP : (v2).ownsRow w6.heap.size 45 6 y9 xs.length (gcells ebl xs) := by simpa using ho9
            obtain ⟨A9, c9, rfl, _⟩ := Sl.of_own hP
            clear hb9 ho9 hk9
            refine hK.out _ _ ?_ (fun hHeld2 => ?_)
            focus
              exact hS2 _ hv2
            clear hHeld
            have hHeld := hHeld2
            clear hHeld2 hK K
            try simp only [List.getElem_toArray, List.getElem_cons_succ, List.getElem_cons_zero, Act.put, List.setIfInBounds_toArray, List.set_cons_zero, List.set_cons_succ]
            refine wpAnyH_ready (rs := [4]) (by kernel_rfl) (by simp) ?_
            refine (AllReadyH.cons rfl (fun K hK => ?_) AllReadyH.nil)
            simp only [List.getElem_toArray, List.getElem_cons_succ, List.getElem_cons_zero]
            go_simp
            refine hK.out _ _ ?_ (fun hHeld2 => ?_)
            focus
              exact hS2 _ (hv2.alloc hv2.size _)
            clear hHeld
            have hHeld := hHeld2
            clear hHeld2 hK K
            try simp only [List.getElem_toArray, List.getElem_cons_succ, List.getElem_cons_zero, Act.put, List.setIfInBounds_toArray, List.set_cons_zero, List.set_cons_succ]
            have gg : RowKit.Below (World.heap v2).size v2 (World.alloc v2 (.cells #[.int .i64 ji, .int .i64 0, .int .i64 1, .slice Ax n9 cx, .slice (some ⟨M1, 0, none⟩) n9 n9, .slice (some ⟨M2, 0, none⟩) n9 n9] 45 (0, 0))) := (RowKit.Below.refl _ _).alloc (Nat.le_refl _) _
            have hv3 := hv2.trans (gg.mono hv2.size)
            have hm5 : w6.heap.size ≤ (World.heap v2).size := hv2.size
            have hF : (World.alloc v2 (.cells #[.int .i64 ji, .int .i64 0, .int .i64 1, .slice Ax n9 cx, .slice (some ⟨M1, 0, none⟩) n9 n9, .slice (some ⟨M2, 0, none⟩) n9 n9] 45 (0, 0))).heap[(World.heap v2).size]? = some (.cells #[.int .i64 ji, .int .i64 0, .int .i64 1, .slice Ax n9 cx, .slice (some ⟨M1, 0, none⟩) n9 n9, .slice (some ⟨M2, 0, none⟩) n9 n9] 45 (0, 0)) := heap_alloc_new v2 (.cells #[.int .i64 ji, .int .i64 0, .int .i64 1, .slice Ax n9 cx, .slice (some ⟨M1, 0, none⟩) n9 n9, .slice (some ⟨M2, 0, none⟩) n9 n9] 45)
            replace hP := own_keep hP gg
            clear gg
            generalize World.alloc v2 (.cells #[.int .i64 ji, .int .i64 0, .int .i64 1, .slice Ax n9 cx, .slice (some ⟨M1, 0, none⟩) n9 n9, .slice (some ⟨M2, 0, none⟩) n9 n9] 45 (0, 0)) = v3 at *
            generalize (World.heap v2).size = M5 at *
            refine wpAnyH_ready (rs := [5]) (by kernel_rfl) (by simp) ?_
            refine (AllReadyH.cons rfl (fun K hK => ?_) AllReadyH.nil)
            refine step_append_sl rfl (.tmp 72) (.tmp 74) 29 rfl w6.heap.size 45 Tryz.underlying29 info_entry rfl (by omega) rfl hP rfl (sl_blk6 hF) (by simp [Value.oneCell']) ?d26a ?d26b hv3.size ?_
            case d26a => unfold maxLen; omega
            case d26b => omega
            intro y9 v4 ho9 hb9 _ _
            have hv4 := hv3.trans hb9
            obtain ⟨A8, c8, rfl, hs8⟩ := Sl.of_own ho9
            clear hb9 ho9 hP hF hE
            refine hK.out _ _ ?_ (fun hHeld2 => ?_)
            focus
              exact hS2 _ hv4
            clear hHeld
            have hHeld := hHeld2
            clear hHeld2 hK K
            try simp only [List.getElem_toArray, List.getElem_cons_succ, List.getElem_cons_zero, Act.put, List.setIfInBounds_toArray, List.set_cons_zero, List.set_cons_succ]
            refine wpAnyH_take (i := 6) (v := ?_) rfl (by kernel_rfl) (by kernel_rfl) (by kernel_rfl) (fun _ _ _ h => h) (Or.inl ⟨by rfl, ?_⟩) (by assumption) ?_
            rotate_left
            focus
              intro U hU
              try dsimp only at hU
              go_simp
              try (with_reducible rfl)
            simp only [List.getElem_toArray, List.getElem_cons_succ, List.getElem_cons_zero, Act.put, List.setIfInBounds_toArray, List.set_cons_zero, List.set_cons_succ]
            refine wpAnyH_take (i := 7) (v := ?_) rfl (by kernel_rfl) (by kernel_rfl) (by kernel_rfl) (fun _ _ _ h => h) (Or.inl ⟨by rfl, ?_⟩) (by assumption) ?_
            rotate_left
            focus
              intro U hU
              try dsimp only at hU
              go_simp
              try (with_reducible rfl)
            simp only [List.getElem_toArray, List.getElem_cons_succ, List.getElem_cons_zero, Act.put, List.setIfInBounds_toArray, List.set_cons_zero, List.set_cons_succ]
            refine wpAnyH_done (by kernel_rfl) ?_ _
            clear hHeld hS2
            have HV9 := hid hv4
            have HS8 := hid hs8
            clear hs8 hv4
            have hSB9 := own_keep HSB.out HV9.out
            have hSD9 := own_keep HSD.out HV9.out
            have HIN9 : Hid (InBk v4 A8 c8 (xs ++ [((newE ji ns), (⟨Ax, cx, some ⟨M1, 0, none⟩, n9, some ⟨M2, 0, none⟩, n9⟩ : Pt))])) := hid ⟨by rw [List.length_append, gcells_append]; simpa [ebl, newE, HNL.out, gcells] using HS8.out, fun y hy => by
              rcases List.mem_append.1 hy with h8 | h8
              · exact (HXS6.out _ HV9.out).2 y h8
              · obtain rfl := List.mem_singleton.1 h8
                exact ⟨HTX6.out _ HV9.out, by simpa [newE, HNL.out] using sl_own hSB9, by simpa [newE, HNL.out] using sl_own hSD9⟩⟩
            clear hSB9 hSD9
            go_wp2
            refine bodyPost_ret (v := .tuple #[.slice A8 (xs.length + 1) c8, .bool true]) (by simp [results, Tryz.results23, go_sem]) rfl ⟨A8, c8, xs ++ [((newE ji ns), (⟨Ax, cx, some ⟨M1, 0, none⟩, n9, some ⟨M2, 0, none⟩, n9⟩ : Pt))], by rw [HR9.out, List.length_append]; rfl, ?_, HIN9.out, HB6.out.trans (HV9.out.mono HB6.out.size)⟩
            rw [← HYL.out, HR9.out, if_pos rfl, List.map_append, HXM.out, ← HNN.out, HG2.out]
            rfl
          · skip
            simp only [List.getElem_toArray, List.getElem_cons_succ, List.getElem_cons_zero]
            go_simp
            refine hK.out _ _ ?_ (fun hHeld2 => ?_)
            focus
              exact hS2 _ (hv1.alloc hv1.size _)
            clear hHeld
            have hHeld := hHeld2
            clear hHeld2 hK K
            try simp only [List.getElem_toArray, List.getElem_cons_succ, List.getElem_cons_zero, Act.put, List.setIfInBounds_toArray, List.set_cons_zero, List.set_cons_succ]
            have gg : RowKit.Below (World.heap v1).size v1 (World.alloc v1 (.cells #[.int .i64 ji, .int .i64 0, .int .i64 1, .slice Ax n9 cx, .slice (some ⟨M1, 0, none⟩) n9 n9, .slice (some ⟨M2, 0, none⟩) n9 n9] 45 (0, 0))) := (RowKit.Below.refl _ _).alloc (Nat.le_refl _) _
            have hv2 := hv1.trans (gg.mono hv1.size)
            have hm5 : w6.heap.size ≤ (World.heap v1).size := hv1.size
            have hne : M4 ≠ (World.heap v1).size := Nat.ne_of_lt (own_lt hE M4 rfl).2.1
            have hF : (World.alloc v1 (.cells #[.int .i64 ji, .int .i64 0, .int .i64 1, .slice Ax n9 cx, .slice (some ⟨M1, 0, none⟩) n9 n9, .slice (some ⟨M2, 0, none⟩) n9 n9] 45 (0, 0))).heap[(World.heap v1).size]? = some (.cells #[.int .i64 ji, .int .i64 0, .int .i64 1, .slice Ax n9 cx, .slice (some ⟨M1, 0, none⟩) n9 n9, .slice (some ⟨M2, 0, none⟩) n9 n9] 45 (0, 0)) := heap_alloc_new v1 (.cells #[.int .i64 ji, .int .i64 0, .int .i64 1, .slice Ax n9 cx, .slice (some ⟨M1, 0, none⟩) n9 n9, .slice (some ⟨M2, 0, none⟩) n9 n9] 45)
            replace hE := own_keep hE gg
            clear gg
            generalize World.alloc v1 (.cells #[.int .i64 ji, .int .i64 0, .int .i64 1, .slice Ax n9 cx, .slice (some ⟨M1, 0, none⟩) n9 n9, .slice (some ⟨M2, 0, none⟩) n9 n9] 45 (0, 0)) = v2 at *
            generalize (World.heap v1).size = M5 at *
            refine wpAnyH_ready (rs := [2]) (by kernel_rfl) (by simp) ?_
            refine (AllReadyH.cons rfl (fun K hK => ?_) AllReadyH.nil)
            refine step_append_sl rfl (.tmp 70) (.tmp 71) 29 rfl w6.heap.size 45 Tryz.underlying29 info_entry rfl (by omega) rfl hE rfl (HXS6.out _ hv2).1 hone ?d27a ?d27b hv2.size ?_
            case d27a => unfold maxLen; omega
            case d27b => omega
            intro y9 v3 ho9 hb9 _ hk9
            have hv3 := hv2.trans hb9
            have hP : (v3).ownsRow w6.heap.size 45 6 y9 xs.length (gcells ebl xs) := by simpa using ho9
            obtain ⟨A9, c9, rfl, _⟩ := Sl.of_own hP
            replace hF := (hk9 M5 hm5 (lt_of_block hF) (fun h9 => hne (Option.some.inj h9))).trans hF
            clear hb9 ho9 hk9
            refine hK.out _ _ ?_ (fun hHeld2 => ?_)
            focus
              exact hS2 _ hv3
            clear hHeld
            have hHeld := hHeld2
            clear hHeld2 hK K
            try simp only [List.getElem_toArray, List.getElem_cons_succ, List.getElem_cons_zero, Act.put, List.setIfInBounds_toArray, List.set_cons_zero, List.set_cons_succ]
            refine wpAnyH_ready (rs := [5]) (by kernel_rfl) (by simp) ?_
            refine (AllReadyH.cons rfl (fun K hK => ?_) AllReadyH.nil)
            refine step_append_sl rfl (.tmp 72) (.tmp 74) 29 rfl w6.heap.size 45 Tryz.underlying29 info_entry rfl (by omega) rfl hP rfl (sl_blk6 hF) (by simp [Value.oneCell']) ?d28a ?d28b hv3.size ?_
            case d28a => unfold maxLen; omega
            case d28b => omega
            intro y9 v4 ho9 hb9 _ _
            have hv4 := hv3.trans hb9
            obtain ⟨A8, c8, rfl, hs8⟩ := Sl.of_own ho9
            clear hb9 ho9 hP hF hE
            refine hK.out _ _ ?_ (fun hHeld2 => ?_)
            focus
              exact hS2 _ hv4
            clear hHeld
            have hHeld := hHeld2
            clear hHeld2 hK K
            try simp only [List.getElem_toArray, List.getElem_cons_succ, List.getElem_cons_zero, Act.put, List.setIfInBounds_toArray, List.set_cons_zero, List.set_cons_succ]
            refine wpAnyH_take (i := 6) (v := ?_) rfl (by kernel_rfl) (by kernel_rfl) (by kernel_rfl) (fun _ _ _ h => h) (Or.inl ⟨by rfl, ?_⟩) (by assumption) ?_
            rotate_left
            focus
              intro U hU
              try dsimp only at hU
              go_simp
              try (with_reducible rfl)
            simp only [List.getElem_toArray, List.getElem_cons_succ, List.getElem_cons_zero, Act.put, List.setIfInBounds_toArray, List.set_cons_zero, List.set_cons_succ]
            refine wpAnyH_take (i := 7) (v := ?_) rfl (by kernel_rfl) (by kernel_rfl) (by kernel_rfl) (fun _ _ _ h => h) (Or.inl ⟨by rfl, ?_⟩) (by assumption) ?_
            rotate_left
            focus
              intro U hU
              try dsimp only at hU
              go_simp
              try (with_reducible rfl)
            simp only [List.getElem_toArray, List.getElem_cons_succ, List.getElem_cons_zero, Act.put, List.setIfInBounds_toArray, List.set_cons_zero, List.set_cons_succ]
            refine wpAnyH_done (by kernel_rfl) ?_ _
            clear hHeld hS2
            have HV9 := hid hv4
            have HS8 := hid hs8
            clear hs8 hv4
            have hSB9 := own_keep HSB.out HV9.out
            have hSD9 := own_keep HSD.out HV9.out
            have HIN9 : Hid (InBk v4 A8 c8 (xs ++ [((newE ji ns), (⟨Ax, cx, some ⟨M1, 0, none⟩, n9, some ⟨M2, 0, none⟩, n9⟩ : Pt))])) := hid ⟨by rw [List.length_append, gcells_append]; simpa [ebl, newE, HNL.out, gcells] using HS8.out, fun y hy => by
              rcases List.mem_append.1 hy with h8 | h8
              · exact (HXS6.out _ HV9.out).2 y h8
              · obtain rfl := List.mem_singleton.1 h8
                exact ⟨HTX6.out _ HV9.out, by simpa [newE, HNL.out] using sl_own hSB9, by simpa [newE, HNL.out] using sl_own hSD9⟩⟩
            clear hSB9 hSD9
            go_wp2
            refine bodyPost_ret (v := .tuple #[.slice A8 (xs.length + 1) c8, .bool true]) (by simp [results, Tryz.results23, go_sem]) rfl ⟨A8, c8, xs ++ [((newE ji ns), (⟨Ax, cx, some ⟨M1, 0, none⟩, n9, some ⟨M2, 0, none⟩, n9⟩ : Pt))], by rw [HR9.out, List.length_append]; rfl, ?_, HIN9.out, HB6.out.trans (HV9.out.mono HB6.out.size)⟩
            rw [← HYL.out, HR9.out, if_pos rfl, List.map_append, HXM.out, ← HNN.out, HG2.out]
            rfl
        · skip
          simp only [List.getElem_toArray, List.getElem_cons_succ, List.getElem_cons_zero]
          go_simp
          refine hK.out _ _ ?_ (fun hHeld2 => ?_)
          focus
            exact hS2 _ (hv0.alloc hv0.size _)
          clear hHeld
          have hHeld := hHeld2
          clear hHeld2 hK K
          try simp only [List.getElem_toArray, List.getElem_cons_succ, List.getElem_cons_zero, Act.put, List.setIfInBounds_toArray, List.set_cons_zero, List.set_cons_succ]
          have gg : RowKit.Below (World.heap v0).size v0 (World.alloc v0 (.cells #[.int .i64 ji, .int .i64 0, .int .i64 1, .slice Ax n9 cx, .slice (some ⟨M1, 0, none⟩) n9 n9, .slice (some ⟨M2, 0, none⟩) n9 n9] 45 (0, 0))) := (RowKit.Below.refl _ _).alloc (Nat.le_refl _) _
          have hv1 := hv0.trans (gg.mono hv0.size)
          have hm5 : w6.heap.size ≤ (World.heap v0).size := hv0.size
          have hF : (World.alloc v0 (.cells #[.int .i64 ji, .int .i64 0, .int .i64 1, .slice Ax n9 cx, .slice (some ⟨M1, 0, none⟩) n9 n9, .slice (some ⟨M2, 0, none⟩) n9 n9] 45 (0, 0))).heap[(World.heap v0).size]? = some (.cells #[.int .i64 ji, .int .i64 0, .int .i64 1, .slice Ax n9 cx, .slice (some ⟨M1, 0, none⟩) n9 n9, .slice (some ⟨M2, 0, none⟩) n9 n9] 45 (0, 0)) := heap_alloc_new v0 (.cells #[.int .i64 ji, .int .i64 0, .int .i64 1, .slice Ax n9 cx, .slice (some ⟨M1, 0, none⟩) n9 n9, .slice (some ⟨M2, 0, none⟩) n9 n9] 45)
          clear gg
          generalize World.alloc v0 (.cells #[.int .i64 ji, .int .i64 0, .int .i64 1, .slice Ax n9 cx, .slice (some ⟨M1, 0, none⟩) n9 n9, .slice (some ⟨M2, 0, none⟩) n9 n9] 45 (0, 0)) = v1 at *
          generalize (World.heap v0).size = M5 at *
          refine wpAnyH_ready (rs := [0]) (by kernel_rfl) (by simp) ?_
          refine (AllReadyH.cons rfl (fun K hK => ?_) AllReadyH.nil)
          simp only [List.getElem_toArray, List.getElem_cons_succ, List.getElem_cons_zero]
          go_simp
          refine hK.out _ _ ?_ (fun hHeld2 => ?_)
          focus
            exact hS2 _ (hv1.alloc hv1.size _)
          clear hHeld
          have hHeld := hHeld2
          clear hHeld2 hK K
          try simp only [List.getElem_toArray, List.getElem_cons_succ, List.getElem_cons_zero, Act.put, List.setIfInBounds_toArray, List.set_cons_zero, List.set_cons_succ]
          have gg : RowKit.Below (World.heap v1).size v1 (World.alloc v1 (.cells #[] 45 (0, 0))) := (RowKit.Below.refl _ _).alloc (Nat.le_refl _) _
          have hv2 := hv1.trans (gg.mono hv1.size)
          have hne : (World.heap v1).size ≠ M5 := Nat.ne_of_gt (lt_of_block hF)
          have hE : (World.alloc v1 (.cells #[] 45 (0, 0))).ownsRow w6.heap.size 45 6 (.slice (some ⟨(World.heap v1).size, 0, none⟩) 0 0) 0 [] := own_mono (own_empty v1 45 6) hv1.size
          replace hF := keep0 hF gg
          clear gg
          generalize World.alloc v1 (.cells #[] 45 (0, 0)) = v2 at *
          generalize (World.heap v1).size = M4 at *
          refine wpAnyH_ready (rs := [2]) (by kernel_rfl) (by simp) ?_
          refine (AllReadyH.cons rfl (fun K hK => ?_) AllReadyH.nil)
          refine step_append_sl rfl (.tmp 70) (.tmp 71) 29 rfl w6.heap.size 45 Tryz.underlying29 info_entry rfl (by omega) rfl hE rfl (HXS6.out _ hv2).1 hone ?d29a ?d29b hv2.size ?_
          case d29a => unfold maxLen; omega
          case d29b => omega
          intro y9 v3 ho9 hb9 _ hk9
          have hv3 := hv2.trans hb9
          have hP : (v3).ownsRow w6.heap.size 45 6 y9 xs.length (gcells ebl xs) := by simpa using ho9
          obtain ⟨A9, c9, rfl, _⟩ := Sl.of_own hP
          replace hF := (hk9 M5 hm5 (lt_of_block hF) (fun h9 => hne (Option.some.inj h9))).trans hF
          clear hb9 ho9 hk9
          refine hK.out _ _ ?_ (fun hHeld2 => ?_)
          focus
            exact hS2 _ hv3
          clear hHeld
          have hHeld := hHeld2
          clear hHeld2 hK K
          try simp only [List.getElem_toArray, List.getElem_cons_succ, List.getElem_cons_zero, Act.put, List.setIfInBounds_toArray, List.set_cons_zero, List.set_cons_succ]
          refine wpAnyH_ready (rs := [5]) (by kernel_rfl) (by simp) ?_
          refine (AllReadyH.cons rfl (fun K hK => ?_) AllReadyH.nil)
          refine step_append_sl rfl (.tmp 72) (.tmp 74) 29 rfl w6.heap.size 45 Tryz.underlying29 info_entry rfl (by omega) rfl hP rfl (sl_blk6 hF) (by simp [Value.oneCell']) ?d30a ?d30b hv3.size ?_
          case d30a => unfold maxLen; omega
          case d30b => omega
          intro y9 v4 ho9 hb9 _ _
          have hv4 := hv3.trans hb9
          obtain ⟨A8, c8, rfl, hs8⟩ := Sl.of_own ho9
          clear hb9 ho9 hP hF hE
          refine hK.out _ _ ?_ (fun hHeld2 => ?_)
          focus
            exact hS2 _ hv4
          clear hHeld
          have hHeld := hHeld2
          clear hHeld2 hK K
          try simp only [List.getElem_toArray, List.getElem_cons_succ, List.getElem_cons_zero, Act.put, List.setIfInBounds_toArray, List.set_cons_zero, List.set_cons_succ]
          refine wpAnyH_take (i := 6) (v := ?_) rfl (by kernel_rfl) (by kernel_rfl) (by kernel_rfl) (fun _ _ _ h => h) (Or.inl ⟨by rfl, ?_⟩) (by assumption) ?_
          rotate_left
          focus
            intro U hU
            try dsimp only at hU
            go_simp
            try (with_reducible rfl)
          simp only [List.getElem_toArray, List.getElem_cons_succ, List.getElem_cons_zero, Act.put, List.setIfInBounds_toArray, List.set_cons_zero, List.set_cons_succ]
          refine wpAnyH_take (i := 7) (v := ?_) rfl (by kernel_rfl) (by kernel_rfl) (by kernel_rfl) (fun _ _ _ h => h) (Or.inl ⟨by rfl, ?_⟩) (by assumption) ?_
          rotate_left
          focus
            intro U hU
            try dsimp only at hU
            go_simp
            try (with_reducible rfl)
          simp only [List.getElem_toArray, List.getElem_cons_succ, List.getElem_cons_zero, Act.put, List.setIfInBounds_toArray, List.set_cons_zero, List.set_cons_succ]
          refine wpAnyH_done (by kernel_rfl) ?_ _
          clear hHeld hS2
          have HV9 := hid hv4
          have HS8 := hid hs8
          clear hs8 hv4
          have hSB9 := own_keep HSB.out HV9.out
          have hSD9 := own_keep HSD.out HV9.out
          have HIN9 : Hid (InBk v4 A8 c8 (xs ++ [((newE ji ns), (⟨Ax, cx, some ⟨M1, 0, none⟩, n9, some ⟨M2, 0, none⟩, n9⟩ : Pt))])) := hid ⟨by rw [List.length_append, gcells_append]; simpa [ebl, newE, HNL.out, gcells] using HS8.out, fun y hy => by
            rcases List.mem_append.1 hy with h8 | h8
            · exact (HXS6.out _ HV9.out).2 y h8
            · obtain rfl := List.mem_singleton.1 h8
              exact ⟨HTX6.out _ HV9.out, by simpa [newE, HNL.out] using sl_own hSB9, by simpa [newE, HNL.out] using sl_own hSD9⟩⟩
          clear hSB9 hSD9
          go_wp2
          refine bodyPost_ret (v := .tuple #[.slice A8 (xs.length + 1) c8, .bool true]) (by simp [results, Tryz.results23, go_sem]) rfl ⟨A8, c8, xs ++ [((newE ji ns), (⟨Ax, cx, some ⟨M1, 0, none⟩, n9, some ⟨M2, 0, none⟩, n9⟩ : Pt))], by rw [HR9.out, List.length_append]; rfl, ?_, HIN9.out, HB6.out.trans (HV9.out.mono HB6.out.size)⟩
          rw [← HYL.out, HR9.out, if_pos rfl, List.map_append, HXM.out, ← HNN.out, HG2.out]
          rfl
      · skip
        simp only [List.getElem_toArray, List.getElem_cons_succ, List.getElem_cons_zero]
        go_simp
        refine hK.out _ _ ?_ (fun hHeld2 => ?_)
        focus
          exact hS _ (hu1.alloc hu1.size _)
        clear hHeld
        have hHeld := hHeld2
        clear hHeld2 hK K
        try simp only [List.getElem_toArray, List.getElem_cons_succ, List.getElem_cons_zero, Act.put, List.setIfInBounds_toArray, List.set_cons_zero, List.set_cons_succ]
        have gg : RowKit.Below (World.heap u1).size u1 (World.alloc u1 (.cells (Array.replicate n9 (.bool false)) 4 (0, 0))) := (RowKit.Below.refl _ _).alloc (Nat.le_refl _) _
        have hu2 := hu1.trans (gg.mono hu1.size)
        have hsd : (World.alloc u1 (.cells (Array.replicate n9 (.bool false)) 4 (0, 0))).ownsRow w5.heap.size 4 1 (.slice (some ⟨(World.heap u1).size, 0, none⟩) n9 n9) n9 (blcells (List.replicate n9 false)) := own_rep (heap_alloc_new u1 _) hu1.size (by unfold maxLen; omega) (by simp [blcells])
        replace hz := keep0 hz gg
        clear gg
        generalize World.alloc u1 (.cells (Array.replicate n9 (.bool false)) 4 (0, 0)) = u2 at *
        generalize (World.heap u1).size = M2 at *
        refine wpAnyH_ready (rs := [8]) (by kernel_rfl) (by simp) ?_
        refine (AllReadyH.cons rfl (fun K hK => ?_) AllReadyH.nil)
        simp only [List.getElem_toArray, List.getElem_cons_succ, List.getElem_cons_zero]
        go_simp
        refine hK.out _ _ ?_ (fun hHeld2 => ?_)
        focus
          exact hS _ (hu2.alloc hu2.size _)
        clear hHeld
        have hHeld := hHeld2
        clear hHeld2 hK K
        try simp only [List.getElem_toArray, List.getElem_cons_succ, List.getElem_cons_zero, Act.put, List.setIfInBounds_toArray, List.set_cons_zero, List.set_cons_succ]
        have gg : RowKit.Below (World.heap u2).size u2 (World.alloc u2 (.cells (Array.replicate n9 (.int .i64 0)) 3 (0, 0))) := (RowKit.Below.refl _ _).alloc (Nat.le_refl _) _
        have hu3 := hu2.trans (gg.mono hu2.size)
        have hsb : (World.alloc u2 (.cells (Array.replicate n9 (.int .i64 0)) 3 (0, 0))).ownsRow w5.heap.size 3 1 (.slice (some ⟨(World.heap u2).size, 0, none⟩) n9 n9) n9 (icells .i64 (List.replicate n9 0)) := own_rep (heap_alloc_new u2 _) hu2.size (by unfold maxLen; omega) (by simp [icells])
        replace hsd := own_keep hsd gg
        replace hz := keep0 hz gg
        clear gg
        generalize World.alloc u2 (.cells (Array.replicate n9 (.int .i64 0)) 3 (0, 0)) = u3 at *
        generalize (World.heap u2).size = M1 at *
        refine wpAnyH_take (i := 11) (v := ?_) rfl (by kernel_rfl) (by kernel_rfl) (by kernel_rfl) (fun _ _ _ h => h) (Or.inl ⟨by rfl, ?_⟩) (by assumption) ?_
        rotate_left
        focus
          intro U hU
          try dsimp only at hU
          go_simp
          try (with_reducible rfl)
        simp only [List.getElem_toArray, List.getElem_cons_succ, List.getElem_cons_zero, Act.put, List.setIfInBounds_toArray, List.set_cons_zero, List.set_cons_succ]
        obtain ⟨⟨z0, z1, z2, z3, z4, z5⟩, f0, f1, f2, f3, f4, f5⟩ := six_cells hz
        refine wpAnyH_ready (rs := [13]) (by kernel_rfl) (by simp) ?_
        refine (AllReadyH.cons rfl (fun K hK => ?_) AllReadyH.nil)
        simp only [List.getElem_toArray, List.getElem_cons_succ, List.getElem_cons_zero]
        go_simp
        refine hK.out _ _ ?_ (fun hHeld2 => ?_)
        focus
          exact hS _ (put6_below hu3 hm3 (.int .i64 ji) (.int .i64 0) (.int .i64 1) (.slice Ax n9 cx) (.slice (some ⟨M1, 0, none⟩) n9 n9) (.slice (some ⟨M2, 0, none⟩) n9 n9))
        clear hHeld
        have hHeld := hHeld2
        clear hHeld2 hK K
        try simp only [List.getElem_toArray, List.getElem_cons_succ, List.getElem_cons_zero, Act.put, List.setIfInBounds_toArray, List.set_cons_zero, List.set_cons_succ]
        have hx9 := put6_heap hz (.int .i64 ji) (.int .i64 0) (.int .i64 1) (.slice Ax n9 cx) (.slice (some ⟨M1, 0, none⟩) n9 n9) (.slice (some ⟨M2, 0, none⟩) n9 n9)
        have hb9 := put6_below hu3 hm3 (.int .i64 ji) (.int .i64 0) (.int .i64 1) (.slice Ax n9 cx) (.slice (some ⟨M1, 0, none⟩) n9 n9) (.slice (some ⟨M2, 0, none⟩) n9 n9)
        have hsb9 := own_same hsb hz (by decide) (fun g hg => put6_other (w := u3) (b := M3) hg (.int .i64 ji) (.int .i64 0) (.int .i64 1) (.slice Ax n9 cx) (.slice (some ⟨M1, 0, none⟩) n9 n9) (.slice (some ⟨M2, 0, none⟩) n9 n9))
        have hsd9 := own_same hsd hz (by decide) (fun g hg => put6_other (w := u3) (b := M3) hg (.int .i64 ji) (.int .i64 0) (.int .i64 1) (.slice Ax n9 cx) (.slice (some ⟨M1, 0, none⟩) n9 n9) (.slice (some ⟨M2, 0, none⟩) n9 n9))
        refine wpAnyH_done (by kernel_rfl) ?_ _
        clear hHeld hS hmk1 hmk2
        go_upto_region 11 with (fail)
        refine at_world (fun u => u.heap[M3]? = some (.cells #[.int .i64 ji, .int .i64 0, .int .i64 1, .slice Ax n9 cx, .slice (some ⟨M1, 0, none⟩) n9 n9, .slice (some ⟨M2, 0, none⟩) n9 n9] 45 (0, 0)) ∧ u.ownsRow w5.heap.size 3 1 (.slice (some ⟨M1, 0, none⟩) n9 n9) n9 (icells .i64 (List.replicate n9 0)) ∧ u.ownsRow w5.heap.size 4 1 (.slice (some ⟨M2, 0, none⟩) n9 n9) n9 (blcells (List.replicate n9 false)) ∧ RowKit.Below w5.heap.size w5 u) ⟨hx9, hsb9, hsd9, hb9⟩ ?_
        rintro w6 ⟨hx6, hsb6, hsd6, hb6⟩
        have HX6 := hid hx6
        have HSB := hid hsb6
        have HSD := hid hsd6
        have HB6 := hid (HB4.out.trans (hb6.mono HB4.out.size))
        have HJ6 := hid (keep0 HJ4.out hb6)
        clear hx6 hsb6 hsd6 hb6
        have HXS6 := hid (fun u (hu : RowKit.Below w6.heap.size w6 u) => HXS.out u (HB6.out.trans (hu.mono HB6.out.size)))
        have hone : ∀ u ∈ gcells ebl xs, u.oneCell' = true := ebl_one xs
        have HTX6 := hid (fun u (hu : RowKit.Below w6.heap.size w6 u) => HTX.out u (HB6.out.trans (hu.mono HB6.out.size)))
        have hS2 : ∀ U, RowKit.Below w6.heap.size w6 U → ((U.cell? ⟨M3, 0, none⟩ = some (.int .i64 ji) ∧ U.cell? ⟨M3, 1, none⟩ = some (.int .i64 0) ∧ U.cell? ⟨M3, 2, none⟩ = some (.int .i64 1) ∧ U.cell? ⟨M3, 3, none⟩ = some (.slice Ax n9 cx) ∧ U.cell? ⟨M3, 4, none⟩ = some (.slice (some ⟨M1, 0, none⟩) n9 n9) ∧ U.cell? ⟨M3, 5, none⟩ = some (.slice (some ⟨M2, 0, none⟩) n9 n9)) ∧ RowKit.Below w6.heap.size w6 U) := fun U hU => ⟨(six_cells (keep0 HX6.out hU)).1, hU⟩
        have hv0 : RowKit.Below w6.heap.size w6 w6.drew := below_drew (RowKit.Below.refl _ _)
        refine wp_region_held_drew (S := fun U => (U.cell? ⟨M3, 0, none⟩ = some (.int .i64 ji) ∧ U.cell? ⟨M3, 1, none⟩ = some (.int .i64 0) ∧ U.cell? ⟨M3, 2, none⟩ = some (.int .i64 1) ∧ U.cell? ⟨M3, 3, none⟩ = some (.slice Ax n9 cx) ∧ U.cell? ⟨M3, 4, none⟩ = some (.slice (some ⟨M1, 0, none⟩) n9 n9) ∧ U.cell? ⟨M3, 5, none⟩ = some (.slice (some ⟨M2, 0, none⟩) n9 n9)) ∧ RowKit.Below w6.heap.size w6 U) (by kernel_rfl) (hS2 _ hv0) (fun hHeld => ?_)
        generalize w6.drew = v0 at *
        refine wpAnyH_take (i := 1) (v := ?_) rfl (by kernel_rfl) (by kernel_rfl) (by kernel_rfl) (fun _ _ _ h => h) (Or.inl ⟨by rfl, ?_⟩) (by assumption) ?_
        rotate_left
        focus
          intro U hU
          try dsimp only at hU
          go_simp
          try (with_reducible rfl)
        simp only [List.getElem_toArray, List.getElem_cons_succ, List.getElem_cons_zero, Act.put, List.setIfInBounds_toArray, List.set_cons_zero, List.set_cons_succ]
        refine wpAnyH_take (i := 3) (v := ?_) rfl (by kernel_rfl) (by kernel_rfl) (by kernel_rfl) (fun _ _ _ h => h) (Or.inl ⟨by rfl, ?_⟩) (by assumption) ?_
        rotate_left
        focus
          intro U hU
          try dsimp only at hU
          go_simp
          try (with_reducible rfl)
        simp only [List.getElem_toArray, List.getElem_cons_succ, List.getElem_cons_zero, Act.put, List.setIfInBounds_toArray, List.set_cons_zero, List.set_cons_succ]
        refine wpAnyH_ready (rs := [0, 4]) (by kernel_rfl) (by simp) ?_
        refine (AllReadyH.cons rfl (fun K hK => ?_) (AllReadyH.cons rfl (fun K hK => ?_) AllReadyH.nil))
        · skip
          simp only [List.getElem_toArray, List.getElem_cons_succ, List.getElem_cons_zero]
          go_simp
          refine hK.out _ _ ?_ (fun hHeld2 => ?_)
          focus
            exact hS2 _ (hv0.alloc hv0.size _)
          clear hHeld
          have hHeld := hHeld2
          clear hHeld2 hK K
          try simp only [List.getElem_toArray, List.getElem_cons_succ, List.getElem_cons_zero, Act.put, List.setIfInBounds_toArray, List.set_cons_zero, List.set_cons_succ]
          have gg : RowKit.Below (World.heap v0).size v0 (World.alloc v0 (.cells #[] 45 (0, 0))) := (RowKit.Below.refl _ _).alloc (Nat.le_refl _) _
          have hv1 := hv0.trans (gg.mono hv0.size)
          have hE : (World.alloc v0 (.cells #[] 45 (0, 0))).ownsRow w6.heap.size 45 6 (.slice (some ⟨(World.heap v0).size, 0, none⟩) 0 0) 0 [] := own_mono (own_empty v0 45 6) hv0.size
          clear gg
          generalize World.alloc v0 (.cells #[] 45 (0, 0)) = v1 at *
          generalize (World.heap v0).size = M4 at *
          refine wpAnyH_ready (rs := [2, 4]) (by kernel_rfl) (by simp) ?_
          refine (AllReadyH.cons rfl (fun K hK => ?_) (AllReadyH.cons rfl (fun K hK => ?_) AllReadyH.nil))
          · skip
            refine step_append_sl rfl (.tmp 70) (.tmp 71) 29 rfl w6.heap.size 45 Tryz.underlying29 info_entry rfl (by omega) rfl hE rfl (HXS6.out _ hv1).1 hone ?d31a ?d31b hv1.size ?_
            case d31a => unfold maxLen; omega
            case d31b => omega
            intro y9 v2 ho9 hb9 _ hk9
            have hv2 := hv1.trans hb9
            have hP : (v2).ownsRow w6.heap.size 45 6 y9 xs.length (gcells ebl xs) := by simpa using ho9
            obtain ⟨A9, c9, rfl, _⟩ := Sl.of_own hP
            clear hb9 ho9 hk9
            refine hK.out _ _ ?_ (fun hHeld2 => ?_)
            focus
              exact hS2 _ hv2
            clear hHeld
            have hHeld := hHeld2
            clear hHeld2 hK K
            try simp only [List.getElem_toArray, List.getElem_cons_succ, List.getElem_cons_zero, Act.put, List.setIfInBounds_toArray, List.set_cons_zero, List.set_cons_succ]
            refine wpAnyH_ready (rs := [4]) (by kernel_rfl) (by simp) ?_
            refine (AllReadyH.cons rfl (fun K hK => ?_) AllReadyH.nil)
            simp only [List.getElem_toArray, List.getElem_cons_succ, List.getElem_cons_zero]
            go_simp
            refine hK.out _ _ ?_ (fun hHeld2 => ?_)
            focus
              exact hS2 _ (hv2.alloc hv2.size _)
            clear hHeld
            have hHeld := hHeld2
            clear hHeld2 hK K
            try simp only [List.getElem_toArray, List.getElem_cons_succ, List.getElem_cons_zero, Act.put, List.setIfInBounds_toArray, List.set_cons_zero, List.set_cons_succ]
            have gg : RowKit.Below (World.heap v2).size v2 (World.alloc v2 (.cells #[.int .i64 ji, .int .i64 0, .int .i64 1, .slice Ax n9 cx, .slice (some ⟨M1, 0, none⟩) n9 n9, .slice (some ⟨M2, 0, none⟩) n9 n9] 45 (0, 0))) := (RowKit.Below.refl _ _).alloc (Nat.le_refl _) _
            have hv3 := hv2.trans (gg.mono hv2.size)
            have hm5 : w6.heap.size ≤ (World.heap v2).size := hv2.size
            have hF : (World.alloc v2 (.cells #[.int .i64 ji, .int .i64 0, .int .i64 1, .slice Ax n9 cx, .slice (some ⟨M1, 0, none⟩) n9 n9, .slice (some ⟨M2, 0, none⟩) n9 n9] 45 (0, 0))).heap[(World.heap v2).size]? = some (.cells #[.int .i64 ji, .int .i64 0, .int .i64 1, .slice Ax n9 cx, .slice (some ⟨M1, 0, none⟩) n9 n9, .slice (some ⟨M2, 0, none⟩) n9 n9] 45 (0, 0)) := heap_alloc_new v2 (.cells #[.int .i64 ji, .int .i64 0, .int .i64 1, .slice Ax n9 cx, .slice (some ⟨M1, 0, none⟩) n9 n9, .slice (some ⟨M2, 0, none⟩) n9 n9] 45)
            replace hP := own_keep hP gg
            clear gg
            generalize World.alloc v2 (.cells #[.int .i64 ji, .int .i64 0, .int .i64 1, .slice Ax n9 cx, .slice (some ⟨M1, 0, none⟩) n9 n9, .slice (some ⟨M2, 0, none⟩) n9 n9] 45 (0, 0)) = v3 at *
            generalize (World.heap v2).size = M5 at *
            refine wpAnyH_ready (rs := [5]) (by kernel_rfl) (by simp) ?_
            refine (AllReadyH.cons rfl (fun K hK => ?_) AllReadyH.nil)
            refine step_append_sl rfl (.tmp 72) (.tmp 74) 29 rfl w6.heap.size 45 Tryz.underlying29 info_entry rfl (by omega) rfl hP rfl (sl_blk6 hF) (by simp [Value.oneCell']) ?d32a ?d32b hv3.size ?_
            case d32a => unfold maxLen; omega
            case d32b => omega
            intro y9 v4 ho9 hb9 _ _
            have hv4 := hv3.trans hb9
            obtain ⟨A8, c8, rfl, hs8⟩ := Sl.of_own ho9
            clear hb9 ho9 hP hF hE
            refine hK.out _ _ ?_ (fun hHeld2 => ?_)
            focus
              exact hS2 _ hv4
            clear hHeld
            have hHeld := hHeld2
            clear hHeld2 hK K
            try simp only [List.getElem_toArray, List.getElem_cons_succ, List.getElem_cons_zero, Act.put, List.setIfInBounds_toArray, List.set_cons_zero, List.set_cons_succ]
            refine wpAnyH_take (i := 6) (v := ?_) rfl (by kernel_rfl) (by kernel_rfl) (by kernel_rfl) (fun _ _ _ h => h) (Or.inl ⟨by rfl, ?_⟩) (by assumption) ?_
            rotate_left
            focus
              intro U hU
              try dsimp only at hU
              go_simp
              try (with_reducible rfl)
            simp only [List.getElem_toArray, List.getElem_cons_succ, List.getElem_cons_zero, Act.put, List.setIfInBounds_toArray, List.set_cons_zero, List.set_cons_succ]
            refine wpAnyH_take (i := 7) (v := ?_) rfl (by kernel_rfl) (by kernel_rfl) (by kernel_rfl) (fun _ _ _ h => h) (Or.inl ⟨by rfl, ?_⟩) (by assumption) ?_
            rotate_left
            focus
              intro U hU
              try dsimp only at hU
              go_simp
              try (with_reducible rfl)
            simp only [List.getElem_toArray, List.getElem_cons_succ, List.getElem_cons_zero, Act.put, List.setIfInBounds_toArray, List.set_cons_zero, List.set_cons_succ]
            refine wpAnyH_done (by kernel_rfl) ?_ _
            clear hHeld hS2
            have HV9 := hid hv4
            have HS8 := hid hs8
            clear hs8 hv4
            have hSB9 := own_keep HSB.out HV9.out
            have hSD9 := own_keep HSD.out HV9.out
            have HIN9 : Hid (InBk v4 A8 c8 (xs ++ [((newE ji ns), (⟨Ax, cx, some ⟨M1, 0, none⟩, n9, some ⟨M2, 0, none⟩, n9⟩ : Pt))])) := hid ⟨by rw [List.length_append, gcells_append]; simpa [ebl, newE, HNL.out, gcells] using HS8.out, fun y hy => by
              rcases List.mem_append.1 hy with h8 | h8
              · exact (HXS6.out _ HV9.out).2 y h8
              · obtain rfl := List.mem_singleton.1 h8
                exact ⟨HTX6.out _ HV9.out, by simpa [newE, HNL.out] using sl_own hSB9, by simpa [newE, HNL.out] using sl_own hSD9⟩⟩
            clear hSB9 hSD9
            go_wp2
            refine bodyPost_ret (v := .tuple #[.slice A8 (xs.length + 1) c8, .bool true]) (by simp [results, Tryz.results23, go_sem]) rfl ⟨A8, c8, xs ++ [((newE ji ns), (⟨Ax, cx, some ⟨M1, 0, none⟩, n9, some ⟨M2, 0, none⟩, n9⟩ : Pt))], by rw [HR9.out, List.length_append]; rfl, ?_, HIN9.out, HB6.out.trans (HV9.out.mono HB6.out.size)⟩
            rw [← HYL.out, HR9.out, if_pos rfl, List.map_append, HXM.out, ← HNN.out, HG2.out]
            rfl
          · skip
            simp only [List.getElem_toArray, List.getElem_cons_succ, List.getElem_cons_zero]
            go_simp
            refine hK.out _ _ ?_ (fun hHeld2 => ?_)
            focus
              exact hS2 _ (hv1.alloc hv1.size _)
            clear hHeld
            have hHeld := hHeld2
            clear hHeld2 hK K
            try simp only [List.getElem_toArray, List.getElem_cons_succ, List.getElem_cons_zero, Act.put, List.setIfInBounds_toArray, List.set_cons_zero, List.set_cons_succ]
            have gg : RowKit.Below (World.heap v1).size v1 (World.alloc v1 (.cells #[.int .i64 ji, .int .i64 0, .int .i64 1, .slice Ax n9 cx, .slice (some ⟨M1, 0, none⟩) n9 n9, .slice (some ⟨M2, 0, none⟩) n9 n9] 45 (0, 0))) := (RowKit.Below.refl _ _).alloc (Nat.le_refl _) _
            have hv2 := hv1.trans (gg.mono hv1.size)
            have hm5 : w6.heap.size ≤ (World.heap v1).size := hv1.size
            have hne : M4 ≠ (World.heap v1).size := Nat.ne_of_lt (own_lt hE M4 rfl).2.1
            have hF : (World.alloc v1 (.cells #[.int .i64 ji, .int .i64 0, .int .i64 1, .slice Ax n9 cx, .slice (some ⟨M1, 0, none⟩) n9 n9, .slice (some ⟨M2, 0, none⟩) n9 n9] 45 (0, 0))).heap[(World.heap v1).size]? = some (.cells #[.int .i64 ji, .int .i64 0, .int .i64 1, .slice Ax n9 cx, .slice (some ⟨M1, 0, none⟩) n9 n9, .slice (some ⟨M2, 0, none⟩) n9 n9] 45 (0, 0)) := heap_alloc_new v1 (.cells #[.int .i64 ji, .int .i64 0, .int .i64 1, .slice Ax n9 cx, .slice (some ⟨M1, 0, none⟩) n9 n9, .slice (some ⟨M2, 0, none⟩) n9 n9] 45)
            replace hE := own_keep hE gg
            clear gg
            generalize World.alloc v1 (.cells #[.int .i64 ji, .int .i64 0, .int .i64 1, .slice Ax n9 cx, .slice (some ⟨M1, 0, none⟩) n9 n9, .slice (some ⟨M2, 0, none⟩) n9 n9] 45 (0, 0)) = v2 at *
            generalize (World.heap v1).size = M5 at *
            refine wpAnyH_ready (rs := [2]) (by kernel_rfl) (by simp) ?_
            refine (AllReadyH.cons rfl (fun K hK => ?_) AllReadyH.nil)
            refine step_append_sl rfl (.tmp 70) (.tmp 71) 29 rfl w6.heap.size 45 Tryz.underlying29 info_entry rfl (by omega) rfl hE rfl (HXS6.out _ hv2).1 hone ?d33a ?d33b hv2.size ?_
            case d33a => unfold maxLen; omega
            case d33b => omega
            intro y9 v3 ho9 hb9 _ hk9
            have hv3 := hv2.trans hb9
            have hP : (v3).ownsRow w6.heap.size 45 6 y9 xs.length (gcells ebl xs) := by simpa using ho9
            obtain ⟨A9, c9, rfl, _⟩ := Sl.of_own hP
            replace hF := (hk9 M5 hm5 (lt_of_block hF) (fun h9 => hne (Option.some.inj h9))).trans hF
            clear hb9 ho9 hk9
            refine hK.out _ _ ?_ (fun hHeld2 => ?_)
            focus
              exact hS2 _ hv3
            clear hHeld
            have hHeld := hHeld2
            clear hHeld2 hK K
            try simp only [List.getElem_toArray, List.getElem_cons_succ, List.getElem_cons_zero, Act.put, List.setIfInBounds_toArray, List.set_cons_zero, List.set_cons_succ]
            refine wpAnyH_ready (rs := [5]) (by kernel_rfl) (by simp) ?_
            refine (AllReadyH.cons rfl (fun K hK => ?_) AllReadyH.nil)
            refine step_append_sl rfl (.tmp 72) (.tmp 74) 29 rfl w6.heap.size 45 Tryz.underlying29 info_entry rfl (by omega) rfl hP rfl (sl_blk6 hF) (by simp [Value.oneCell']) ?d34a ?d34b hv3.size ?_
            case d34a => unfold maxLen; omega
            case d34b => omega
            intro y9 v4 ho9 hb9 _ _
            have hv4 := hv3.trans hb9
            obtain ⟨A8, c8, rfl, hs8⟩ := Sl.of_own ho9
            clear hb9 ho9 hP hF hE
            refine hK.out _ _ ?_ (fun hHeld2 => ?_)
            focus
              exact hS2 _ hv4
            clear hHeld
            have hHeld := hHeld2
            clear hHeld2 hK K
            try simp only [List.getElem_toArray, List.getElem_cons_succ, List.getElem_cons_zero, Act.put, List.setIfInBounds_toArray, List.set_cons_zero, List.set_cons_succ]
            refine wpAnyH_take (i := 6) (v := ?_) rfl (by kernel_rfl) (by kernel_rfl) (by kernel_rfl) (fun _ _ _ h => h) (Or.inl ⟨by rfl, ?_⟩) (by assumption) ?_
            rotate_left
            focus
              intro U hU
              try dsimp only at hU
              go_simp
              try (with_reducible rfl)
            simp only [List.getElem_toArray, List.getElem_cons_succ, List.getElem_cons_zero, Act.put, List.setIfInBounds_toArray, List.set_cons_zero, List.set_cons_succ]
            refine wpAnyH_take (i := 7) (v := ?_) rfl (by kernel_rfl) (by kernel_rfl) (by kernel_rfl) (fun _ _ _ h => h) (Or.inl ⟨by rfl, ?_⟩) (by assumption) ?_
            rotate_left
            focus
              intro U hU
              try dsimp only at hU
              go_simp
              try (with_reducible rfl)
            simp only [List.getElem_toArray, List.getElem_cons_succ, List.getElem_cons_zero, Act.put, List.setIfInBounds_toArray, List.set_cons_zero, List.set_cons_succ]
            refine wpAnyH_done (by kernel_rfl) ?_ _
            clear hHeld hS2
            have HV9 := hid hv4
            have HS8 := hid hs8
            clear hs8 hv4
            have hSB9 := own_keep HSB.out HV9.out
            have hSD9 := own_keep HSD.out HV9.out
            have HIN9 : Hid (InBk v4 A8 c8 (xs ++ [((newE ji ns), (⟨Ax, cx, some ⟨M1, 0, none⟩, n9, some ⟨M2, 0, none⟩, n9⟩ : Pt))])) := hid ⟨by rw [List.length_append, gcells_append]; simpa [ebl, newE, HNL.out, gcells] using HS8.out, fun y hy => by
              rcases List.mem_append.1 hy with h8 | h8
              · exact (HXS6.out _ HV9.out).2 y h8
              · obtain rfl := List.mem_singleton.1 h8
                exact ⟨HTX6.out _ HV9.out, by simpa [newE, HNL.out] using sl_own hSB9, by simpa [newE, HNL.out] using sl_own hSD9⟩⟩
            clear hSB9 hSD9
            go_wp2
            refine bodyPost_ret (v := .tuple #[.slice A8 (xs.length + 1) c8, .bool true]) (by simp [results, Tryz.results23, go_sem]) rfl ⟨A8, c8, xs ++ [((newE ji ns), (⟨Ax, cx, some ⟨M1, 0, none⟩, n9, some ⟨M2, 0, none⟩, n9⟩ : Pt))], by rw [HR9.out, List.length_append]; rfl, ?_, HIN9.out, HB6.out.trans (HV9.out.mono HB6.out.size)⟩
            rw [← HYL.out, HR9.out, if_pos rfl, List.map_append, HXM.out, ← HNN.out, HG2.out]
            rfl
        · skip
          simp only [List.getElem_toArray, List.getElem_cons_succ, List.getElem_cons_zero]
          go_simp
          refine hK.out _ _ ?_ (fun hHeld2 => ?_)
          focus
            exact hS2 _ (hv0.alloc hv0.size _)
          clear hHeld
          have hHeld := hHeld2
          clear hHeld2 hK K
          try simp only [List.getElem_toArray, List.getElem_cons_succ, List.getElem_cons_zero, Act.put, List.setIfInBounds_toArray, List.set_cons_zero, List.set_cons_succ]
          have gg : RowKit.Below (World.heap v0).size v0 (World.alloc v0 (.cells #[.int .i64 ji, .int .i64 0, .int .i64 1, .slice Ax n9 cx, .slice (some ⟨M1, 0, none⟩) n9 n9, .slice (some ⟨M2, 0, none⟩) n9 n9] 45 (0, 0))) := (RowKit.Below.refl _ _).alloc (Nat.le_refl _) _
          have hv1 := hv0.trans (gg.mono hv0.size)
          have hm5 : w6.heap.size ≤ (World.heap v0).size := hv0.size
          have hF : (World.alloc v0 (.cells #[.int .i64 ji, .int .i64 0, .int .i64 1, .slice Ax n9 cx, .slice (some ⟨M1, 0, none⟩) n9 n9, .slice (some ⟨M2, 0, none⟩) n9 n9] 45 (0, 0))).heap[(World.heap v0).size]? = some (.cells #[.int .i64 ji, .int .i64 0, .int .i64 1, .slice Ax n9 cx, .slice (some ⟨M1, 0, none⟩) n9 n9, .slice (some ⟨M2, 0, none⟩) n9 n9] 45 (0, 0)) := heap_alloc_new v0 (.cells #[.int .i64 ji, .int .i64 0, .int .i64 1, .slice Ax n9 cx, .slice (some ⟨M1, 0, none⟩) n9 n9, .slice (some ⟨M2, 0, none⟩) n9 n9] 45)
          clear gg
          generalize World.alloc v0 (.cells #[.int .i64 ji, .int .i64 0, .int .i64 1, .slice Ax n9 cx, .slice (some ⟨M1, 0, none⟩) n9 n9, .slice (some ⟨M2, 0, none⟩) n9 n9] 45 (0, 0)) = v1 at *
          generalize (World.heap v0).size = M5 at *
          refine wpAnyH_ready (rs := [0]) (by kernel_rfl) (by simp) ?_
          refine (AllReadyH.cons rfl (fun K hK => ?_) AllReadyH.nil)
          simp only [List.getElem_toArray, List.getElem_cons_succ, List.getElem_cons_zero]
          go_simp
          refine hK.out _ _ ?_ (fun hHeld2 => ?_)
          focus
            exact hS2 _ (hv1.alloc hv1.size _)
          clear hHeld
          have hHeld := hHeld2
          clear hHeld2 hK K
          try simp only [List.getElem_toArray, List.getElem_cons_succ, List.getElem_cons_zero, Act.put, List.setIfInBounds_toArray, List.set_cons_zero, List.set_cons_succ]
          have gg : RowKit.Below (World.heap v1).size v1 (World.alloc v1 (.cells #[] 45 (0, 0))) := (RowKit.Below.refl _ _).alloc (Nat.le_refl _) _
          have hv2 := hv1.trans (gg.mono hv1.size)
          have hne : (World.heap v1).size ≠ M5 := Nat.ne_of_gt (lt_of_block hF)
          have hE : (World.alloc v1 (.cells #[] 45 (0, 0))).ownsRow w6.heap.size 45 6 (.slice (some ⟨(World.heap v1).size, 0, none⟩) 0 0) 0 [] := own_mono (own_empty v1 45 6) hv1.size
          replace hF := keep0 hF gg
          clear gg
          generalize World.alloc v1 (.cells #[] 45 (0, 0)) = v2 at *
          generalize (World.heap v1).size = M4 at *
          refine wpAnyH_ready (rs := [2]) (by kernel_rfl) (by simp) ?_
          refine (AllReadyH.cons rfl (fun K hK => ?_) AllReadyH.nil)
          refine step_append_sl rfl (.tmp 70) (.tmp 71) 29 rfl w6.heap.size 45 Tryz.underlying29 info_entry rfl (by omega) rfl hE rfl (HXS6.out _ hv2).1 hone ?d35a ?d35b hv2.size ?_
          case d35a => unfold maxLen; omega
          case d35b => omega
          intro y9 v3 ho9 hb9 _ hk9
          have hv3 := hv2.trans hb9
          have hP : (v3).ownsRow w6.heap.size 45 6 y9 xs.length (gcells ebl xs) := by simpa using ho9
          obtain ⟨A9, c9, rfl, _⟩ := Sl.of_own hP
          replace hF := (hk9 M5 hm5 (lt_of_block hF) (fun h9 => hne (Option.some.inj h9))).trans hF
          clear hb9 ho9 hk9
          refine hK.out _ _ ?_ (fun hHeld2 => ?_)
          focus
            exact hS2 _ hv3
          clear hHeld
          have hHeld := hHeld2
          clear hHeld2 hK K
          try simp only [List.getElem_toArray, List.getElem_cons_succ, List.getElem_cons_zero, Act.put, List.setIfInBounds_toArray, List.set_cons_zero, List.set_cons_succ]
          refine wpAnyH_ready (rs := [5]) (by kernel_rfl) (by simp) ?_
          refine (AllReadyH.cons rfl (fun K hK => ?_) AllReadyH.nil)
          refine step_append_sl rfl (.tmp 72) (.tmp 74) 29 rfl w6.heap.size 45 Tryz.underlying29 info_entry rfl (by omega) rfl hP rfl (sl_blk6 hF) (by simp [Value.oneCell']) ?d36a ?d36b hv3.size ?_
          case d36a => unfold maxLen; omega
          case d36b => omega
          intro y9 v4 ho9 hb9 _ _
          have hv4 := hv3.trans hb9
          obtain ⟨A8, c8, rfl, hs8⟩ := Sl.of_own ho9
          clear hb9 ho9 hP hF hE
          refine hK.out _ _ ?_ (fun hHeld2 => ?_)
          focus
            exact hS2 _ hv4
          clear hHeld
          have hHeld := hHeld2
          clear hHeld2 hK K
          try simp only [List.getElem_toArray, List.getElem_cons_succ, List.getElem_cons_zero, Act.put, List.setIfInBounds_toArray, List.set_cons_zero, List.set_cons_succ]
          refine wpAnyH_take (i := 6) (v := ?_) rfl (by kernel_rfl) (by kernel_rfl) (by kernel_rfl) (fun _ _ _ h => h) (Or.inl ⟨by rfl, ?_⟩) (by assumption) ?_
          rotate_left
          focus
            intro U hU
            try dsimp only at hU
            go_simp
            try (with_reducible rfl)
          simp only [List.getElem_toArray, List.getElem_cons_succ, List.getElem_cons_zero, Act.put, List.setIfInBounds_toArray, List.set_cons_zero, List.set_cons_succ]
          refine wpAnyH_take (i := 7) (v := ?_) rfl (by kernel_rfl) (by kernel_rfl) (by kernel_rfl) (fun _ _ _ h => h) (Or.inl ⟨by rfl, ?_⟩) (by assumption) ?_
          rotate_left
          focus
            intro U hU
            try dsimp only at hU
            go_simp
            try (with_reducible rfl)
          simp only [List.getElem_toArray, List.getElem_cons_succ, List.getElem_cons_zero, Act.put, List.setIfInBounds_toArray, List.set_cons_zero, List.set_cons_succ]
          refine wpAnyH_done (by kernel_rfl) ?_ _
          clear hHeld hS2
          have HV9 := hid hv4
          have HS8 := hid hs8
          clear hs8 hv4
          have hSB9 := own_keep HSB.out HV9.out
          have hSD9 := own_keep HSD.out HV9.out
          have HIN9 : Hid (InBk v4 A8 c8 (xs ++ [((newE ji ns), (⟨Ax, cx, some ⟨M1, 0, none⟩, n9, some ⟨M2, 0, none⟩, n9⟩ : Pt))])) := hid ⟨by rw [List.length_append, gcells_append]; simpa [ebl, newE, HNL.out, gcells] using HS8.out, fun y hy => by
            rcases List.mem_append.1 hy with h8 | h8
            · exact (HXS6.out _ HV9.out).2 y h8
            · obtain rfl := List.mem_singleton.1 h8
              exact ⟨HTX6.out _ HV9.out, by simpa [newE, HNL.out] using sl_own hSB9, by simpa [newE, HNL.out] using sl_own hSD9⟩⟩
          clear hSB9 hSD9
          go_wp2
          refine bodyPost_ret (v := .tuple #[.slice A8 (xs.length + 1) c8, .bool true]) (by simp [results, Tryz.results23, go_sem]) rfl ⟨A8, c8, xs ++ [((newE ji ns), (⟨Ax, cx, some ⟨M1, 0, none⟩, n9, some ⟨M2, 0, none⟩, n9⟩ : Pt))], by rw [HR9.out, List.length_append]; rfl, ?_, HIN9.out, HB6.out.trans (HV9.out.mono HB6.out.size)⟩
          rw [← HYL.out, HR9.out, if_pos rfl, List.map_append, HXM.out, ← HNN.out, HG2.out]
          rfl
end Go.Proofs.YtgakobolhmdnnaaGreatDoor
