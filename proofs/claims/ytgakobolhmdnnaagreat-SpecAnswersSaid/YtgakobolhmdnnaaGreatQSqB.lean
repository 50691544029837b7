/- SpecAnswers: the law. -/
import Derived.Test.YtgakobolhmdnnaaGreatQSqA
import Derived.Test.YtgakobolhmdnnaaGreatQSpE
import Derived.Lib.MinMax
namespace Go.Proofs.YtgakobolhmdnnaaGreat
open Go.RowKit Go.Sort
set_option linter.unusedVariables false
set_option linter.unusedSimpArgs false

theorem conf_ro {w : World} {x : Cf} {N : Option Addr} {nc : Nat} {K : Option Addr} {kc : Nat} (h : Rd Tryz.prog w 25 (cfc x N nc K kc).toList) : -9223372036854775808 ≤ x.ro ∧ x.ro ≤ 9223372036854775807 := by
  have hc : Tryz.prog.cellsOf 3 = 1 := by kernel_rfl
  obtain ⟨_, hf⟩ := Rd.struct Tryz.underlying25 h
  have f3 : Rd Tryz.prog w 3 (((cfc x N nc K kc).toList.drop 3).take (Tryz.prog.cellsOf 3)) := hf 3 _ rfl
  rw [hc] at f3
  obtain ⟨i, e3, hw⟩ := Rd.int Tryz.underlying3 f3
  have e4 : x.ro = i := by simpa [cfc] using e3
  rw [e4]
  exact wf_i64 hw

set_option maxRecDepth 20000 in
set_option maxHeartbeats 16000000 in
theorem specAnswers_law (x : Cf) (N : Option Addr) (nc : Nat) (K : Option Addr) (kc : Nat) (S : Option Addr) (sc : Nat) (xs : List Ee) (id : Int) (A : Option Addr) (c : Nat) (ns : List (List UInt8)) (W : World) (hC : CfAt W x N nc K kc) (hS : InBk W S sc xs) (hX : TxJ W A c ns) (hro : x.ro ≤ 9223372036854775807) :
    Calls Tryz.prog 4 #[.agg (cfc x N nc K kc), .slice S xs.length sc, .agg #[.int .i64 id, .slice A ns.length c]] W fun e w' => e = .returned (.bool true) ∧ Below W.heap.size W w' := by
  have HW := hid works40_any
  have HLC := hid (fun u (hu : Below W.heap.size W u) => r14long_any x N nc K kc u (hC.below hu))
  have HLB := hid (fun u (hu : Below W.heap.size W u) => r20long_any S sc xs u (hS.below hu))
  have HLX := hid (fun u (hu : Below W.heap.size W u) => long_any A ns.length c ns 20 300 u (hX.below hu).1 hX.2)
  have hlc : longCf x = false → longBk (xs.map (·.1)) = false → longB ns 20 300 = false → (x.ws.length ≤ 1000 ∧ ns.length ≤ 1000 ∧ ∀ s ∈ ns, s.length ≤ 1000) ∧ xs.length ≤ 60 := fun h1 h2 h3 => by
    have h4 := (longCf_no h1).2
    obtain ⟨h6, h5⟩ := longB_no h3
    obtain ⟨h7, h8⟩ := longBk_sm h2
    exact ⟨⟨by omega, by omega, fun s hs => by have := h6 s hs; omega⟩, by omega⟩
  have HAN := hid (fun (h : (x.ws.length ≤ 1000 ∧ ns.length ≤ 1000 ∧ ∀ s ∈ ns, s.length ≤ 1000) ∧ xs.length ≤ 60) u (hu : Below W.heap.size W u) => answer_any x N nc K kc S sc xs id A c ns u (hC.below hu) (hS.below hu) (hX.below hu) (by omega) h.1.2.2 h.1.1)
  have HRA := hid (fun (h : (x.ws.length ≤ 1000 ∧ ns.length ≤ 1000 ∧ ∀ s ∈ ns, s.length ≤ 1000) ∧ xs.length ≤ 60) u (hu : Below W.heap.size W u) => ranswer_any x N nc K kc S sc xs id A c ns u (hC.below hu) (hS.below hu) (hX.below hu) h.2 h.1.2.2 h.1.1)
  have HKP := hid (fun (h : xs.length ≤ 60) u (hu : Below W.heap.size W u) => kept_any S sc xs u (hS.below hu) (by omega))
  have HRK := hid (fun (h : xs.length ≤ 60) u (hu : Below W.heap.size W u) => rkept_any S sc xs u (hS.below hu) (by omega))
  have HFR := hid (fun (h : xs.length ≤ 60) u (hu : Below W.heap.size W u) => free_any x N nc K kc S sc xs u (hS.below hu) (by omega) hro)
  have hkl := keptB_le (xs.map (·.1))
  rw [List.length_map] at hkl
  have HKL := hid (fun (h : xs.length ≤ 60) => show keptB (xs.map (·.1)) ≤ 300000 by omega)
  have HFV : Hid (0 ≤ x.ro → freeB x.ro (xs.map (·.1)) = max (x.ro - (keptB (xs.map (·.1)) : Int)) 0) := hid (fun h0 => by unfold freeB; split <;> omega)
  have HLN := hid hlc
  clear hC hX hS hlc hkl
  generalize longCf x = lc at *
  generalize longBk (xs.map (·.1)) = lb at *
  generalize longB ns 20 300 = lx at *
  generalize freeB x.ro (xs.map (·.1)) = fb at *
  generalize keptB (xs.map (·.1)) = kp at *
  generalize ansB x (xs.map (·.1)) id ns = an at *
  obtain ⟨c0, le, ag, ro, ou, T, ws⟩ := x
  simp only [cfc] at HLC HAN HRA HFR hro HFV ⊢
  generalize hn : ns.length = n at *
  clear hn
  go_enter Tryz.func4, Tryz.ntmps4
  go_upto_region 1 with (fail)
  refine at_world (fun u => u.heap[W.heap.size]? = some (.cells #[.int .i64 c0, .int .i64 le, .int .i64 ag, .int .i64 ro, .int .i64 ou, .slice N T.length nc, .slice K ws.length kc] 25 (0, 0)) ∧ u.heap[W.heap.size + 1]? = some (.cells #[.int .i64 id, .slice A n c] 53 (0, 0)) ∧ Below W.heap.size W u) (lay2E W _ _) ?_
  rintro w1 ⟨hq, hj, hb⟩
  have HQ := hid hq
  have HJ := hid hj
  have HB := hid hb
  obtain ⟨j0, j1⟩ := two_cellsR hj
  obtain ⟨q0, q1, q2, q3, q4, q5, q6⟩ := seven_cellsJ hq
  clear hq hj hb
  generalize W.heap.size + 1 = J at *
  generalize hQ : W.heap.size = Q at HQ q0 q1 q2 q3 q4 q5 q6
  clear hQ
  go_wp2_with fail
  refine (HLC.out _ HB.out).mono ?_
  rintro e w2 ⟨rfl, hb⟩
  have HB2 := hid (HB.out.trans (hb.mono HB.out.size))
  have HQ2 := hid (keep0 HQ.out hb)
  have HJ2 := hid (keep0 HJ.out hb)
  clear hb q0 q1 q2 q3 q4 q5 q6 j0 j1 HB HQ HJ HLC
  cases lc with
  | true =>
    go_wp2_with (go_at_call 21; refine (HW.out _).mono ?_; rintro e w7 ⟨rfl, hb7⟩)
    go_ret
    exact ⟨rfl, HB2.out.trans (hb7.mono HB2.out.size)⟩
  | false =>
    go_wp2_with fail
    refine (HLB.out _ HB2.out).mono ?_
    rintro e w4 ⟨rfl, hb⟩
    have HB3 := hid (HB2.out.trans (hb.mono HB2.out.size))
    have HQ3 := hid (keep0 HQ2.out hb)
    have HJ3 := hid (keep0 HJ2.out hb)
    clear hb HB2 HQ2 HJ2 HLB
    cases lb with
    | true =>
      go_wp2_with (go_at_call 21; refine (HW.out _).mono ?_; rintro e w7 ⟨rfl, hb7⟩)
      go_ret
      exact ⟨rfl, HB3.out.trans (hb7.mono HB3.out.size)⟩
    | false =>
      obtain ⟨j0, j1⟩ := two_cellsR HJ3.out
      obtain ⟨q0, q1, q2, q3, q4, q5, q6⟩ := seven_cellsJ HQ3.out
      go_wp2_with fail
      refine (HLX.out _ HB3.out).mono ?_
      rintro e w5 ⟨rfl, rfl⟩
      clear HLX
      cases lx with
      | true =>
        clear j0 j1 q0 q1 q2 q3 q4 q5 q6
        go_wp2_with (go_at_call 21; refine (HW.out _).mono ?_; rintro e w7 ⟨rfl, hb7⟩)
        go_ret
        exact ⟨rfl, HB3.out.trans (hb7.mono HB3.out.size)⟩
      | false =>
        by_cases hro0 : ro < 0
        · go_wp2_with (go_at_call 21; refine (HW.out _).mono ?_; rintro e w7 ⟨rfl, hb7⟩)
          go_ret
          exact ⟨rfl, HB3.out.trans (hb7.mono HB3.out.size)⟩
        have hln := HLN.out (by first | rfl | trivial) (by first | rfl | trivial) (by first | rfl | trivial)
        have HAN := hid (HAN.out hln)
        have HRA := hid (HRA.out hln)
        have HKP := hid (HKP.out hln.2)
        have HRK := hid (HRK.out hln.2)
        have HFR := hid (HFR.out hln.2)
        have hkl := HKL.out hln.2
        obtain rfl := HFV.out (by omega)
        have hwr : IntKind.i64.wrap (ro - (kp : Int)) = ro - (kp : Int) := by simp [IntKind.wrap, IntKind.bits, IntKind.signed]; omega
        clear HLN hln HFV HKL
        go_upto_region 3 with (fail)
        clear j0 j1 q0 q1 q2 q3 q4 q5 q6
        have e98 : ((an : Int) == (an : Int)) = true := by simp
        have e97 : ((kp : Int) == (kp : Int)) = true := by simp
        have e96 : (max (ro - (kp : Int)) 0 == max (ro - (kp : Int)) 0) = true := by simp
        have hS : ∀ U, Below w4.heap.size w4 U → (((U.cell? ⟨Q, 0, none⟩ = some (.int .i64 c0) ∧ U.cell? ⟨Q, 1, none⟩ = some (.int .i64 le) ∧ U.cell? ⟨Q, 2, none⟩ = some (.int .i64 ag) ∧ U.cell? ⟨Q, 3, none⟩ = some (.int .i64 ro) ∧ U.cell? ⟨Q, 4, none⟩ = some (.int .i64 ou) ∧ U.cell? ⟨Q, 5, none⟩ = some (.slice N T.length nc) ∧ U.cell? ⟨Q, 6, none⟩ = some (.slice K ws.length kc)) ∧ (U.cell? ⟨J, 0, none⟩ = some (.int .i64 id) ∧ U.cell? ⟨J, 1, none⟩ = some (.slice A n c))) ∧ Below w4.heap.size w4 U) := fun U hU => ⟨⟨seven_cellsJ (keep0 HQ3.out hU), two_cellsR (keep0 HJ3.out hU)⟩, hU⟩
        have hu0 : Below w4.heap.size w4 w4.drew := below_drew (Below.refl _ _)
        have HU := hid (fun U (h : Below w4.heap.size w4 U) => HB3.out.trans (h.mono HB3.out.size))
        refine wp_region_held_drew (S := (fun U => ((U.cell? ⟨Q, 0, none⟩ = some (.int .i64 c0) ∧ U.cell? ⟨Q, 1, none⟩ = some (.int .i64 le) ∧ U.cell? ⟨Q, 2, none⟩ = some (.int .i64 ag) ∧ U.cell? ⟨Q, 3, none⟩ = some (.int .i64 ro) ∧ U.cell? ⟨Q, 4, none⟩ = some (.int .i64 ou) ∧ U.cell? ⟨Q, 5, none⟩ = some (.slice N T.length nc) ∧ U.cell? ⟨Q, 6, none⟩ = some (.slice K ws.length kc)) ∧ (U.cell? ⟨J, 0, none⟩ = some (.int .i64 id) ∧ U.cell? ⟨J, 1, none⟩ = some (.slice A n c))) ∧ Below w4.heap.size w4 U)) (by kernel_rfl) (hS _ hu0) (fun hHeld => ?_)
        generalize w4.drew = u0 at *
        refine wpAnyH_take (i := 0) (v := ?_) rfl (by kernel_rfl) (by kernel_rfl) (by kernel_rfl) (fun _ _ _ h => h) (Or.inl ⟨by rfl, ?_⟩) (by assumption) ?_
        rotate_left
        focus
          intro U hU
          try dsimp only at hU
          go_simp
          try (with_reducible rfl)
        simp only [List.getElem_toArray, List.getElem_cons_succ, List.getElem_cons_zero, Act.put, List.setIfInBounds_toArray, List.set_cons_zero, List.set_cons_succ]
        refine wpAnyH_take (i := 1) (v := ?_) rfl (by kernel_rfl) (by kernel_rfl) (by kernel_rfl) (fun _ _ _ h => h) (Or.inl ⟨by rfl, ?_⟩) (by assumption) ?_
        rotate_left
        focus
          intro U hU
          try dsimp only at hU
          go_simp
          try (with_reducible rfl)
        simp only [List.getElem_toArray, List.getElem_cons_succ, List.getElem_cons_zero, Act.put, List.setIfInBounds_toArray, List.set_cons_zero, List.set_cons_succ]
        refine wpAnyH_take (i := 2) (v := ?_) rfl (by kernel_rfl) (by kernel_rfl) (by kernel_rfl) (fun _ _ _ h => h) (Or.inl ⟨by rfl, ?_⟩) (by assumption) ?_
        rotate_left
        focus
          intro U hU
          try dsimp only at hU
          go_simp
          try (with_reducible rfl)
        simp only [List.getElem_toArray, List.getElem_cons_succ, List.getElem_cons_zero, Act.put, List.setIfInBounds_toArray, List.set_cons_zero, List.set_cons_succ]
        refine wpAnyH_take (i := 4) (v := ?_) rfl (by kernel_rfl) (by kernel_rfl) (by kernel_rfl) (fun _ _ _ h => h) (Or.inl ⟨by rfl, ?_⟩) (by assumption) ?_
        rotate_left
        focus
          intro U hU
          try dsimp only at hU
          go_simp
          try (with_reducible rfl)
        simp only [List.getElem_toArray, List.getElem_cons_succ, List.getElem_cons_zero, Act.put, List.setIfInBounds_toArray, List.set_cons_zero, List.set_cons_succ]
        refine wpAnyH_take (i := 5) (v := ?_) rfl (by kernel_rfl) (by kernel_rfl) (by kernel_rfl) (fun _ _ _ h => h) (Or.inl ⟨by rfl, ?_⟩) (by assumption) ?_
        rotate_left
        focus
          intro U hU
          try dsimp only at hU
          go_simp
          try (with_reducible rfl)
        simp only [List.getElem_toArray, List.getElem_cons_succ, List.getElem_cons_zero, Act.put, List.setIfInBounds_toArray, List.set_cons_zero, List.set_cons_succ]
        refine wpAnyH_take (i := 6) (v := ?_) rfl (by kernel_rfl) (by kernel_rfl) (by kernel_rfl) (fun _ _ _ h => h) (Or.inl ⟨by rfl, ?_⟩) (by assumption) ?_
        rotate_left
        focus
          intro U hU
          try dsimp only at hU
          go_simp
          try (with_reducible rfl)
        simp only [List.getElem_toArray, List.getElem_cons_succ, List.getElem_cons_zero, Act.put, List.setIfInBounds_toArray, List.set_cons_zero, List.set_cons_succ]
        refine wpAnyH_ready (rs := [3]) (by kernel_rfl) (by simp) ?_
        refine AllReadyH.cons rfl (fun K hK => ?_) AllReadyH.nil
        simp only [List.getElem_toArray, List.getElem_cons_succ, List.getElem_cons_zero]
        go_simp
        refine (HAN.out _ (HU.out _ hu0)).mono ?_
        rintro q u1 ⟨rfl, hb1⟩
        have hu1 : Below w4.heap.size w4 u1 := hu0.trans (hb1.mono hu0.size)
        clear hb1
        go_wp2_with fail
        refine hK.out _ _ ?_ (fun hHeld2 => ?_)
        focus
          exact hS _ (by with_reducible assumption)
        clear hHeld
        have hHeld := hHeld2
        clear hHeld2 hK K
        try simp only [List.getElem_toArray, List.getElem_cons_succ, List.getElem_cons_zero, Act.put, List.setIfInBounds_toArray, List.set_cons_zero, List.set_cons_succ]
        refine wpAnyH_ready (rs := [7]) (by kernel_rfl) (by simp) ?_
        refine AllReadyH.cons rfl (fun K hK => ?_) AllReadyH.nil
        simp only [List.getElem_toArray, List.getElem_cons_succ, List.getElem_cons_zero]
        go_simp
        refine (HRA.out _ (HU.out _ hu1)).mono ?_
        rintro q u2 ⟨rfl, hb2⟩
        have hu2 : Below w4.heap.size w4 u2 := hu1.trans (hb2.mono hu1.size)
        clear hb2
        go_wp2_with fail
        refine hK.out _ _ ?_ (fun hHeld2 => ?_)
        focus
          exact hS _ (by with_reducible assumption)
        clear hHeld
        have hHeld := hHeld2
        clear hHeld2 hK K
        try simp only [List.getElem_toArray, List.getElem_cons_succ, List.getElem_cons_zero, Act.put, List.setIfInBounds_toArray, List.set_cons_zero, List.set_cons_succ]
        refine wpAnyH_take (i := 8) (v := ?_) rfl (by kernel_rfl) (by kernel_rfl) (by kernel_rfl) (fun _ _ _ h => h) (Or.inl ⟨by rfl, ?_⟩) (by assumption) ?_
        rotate_left
        focus
          intro U hU
          try dsimp only at hU
          go_simp
          try (with_reducible rfl)
        simp only [List.getElem_toArray, List.getElem_cons_succ, List.getElem_cons_zero, Act.put, List.setIfInBounds_toArray, List.set_cons_zero, List.set_cons_succ]
        refine wpAnyH_take (i := 9) (v := ?_) rfl (by kernel_rfl) (by kernel_rfl) (by kernel_rfl) (fun _ _ _ h => h) (Or.inl ⟨by rfl, ?_⟩) (by assumption) ?_
        rotate_left
        focus
          intro U hU
          try dsimp only at hU
          go_simp
          try (with_reducible rfl)
        simp only [List.getElem_toArray, List.getElem_cons_succ, List.getElem_cons_zero, Act.put, List.setIfInBounds_toArray, List.set_cons_zero, List.set_cons_succ]
        refine wpAnyH_take (i := 10) (v := ?_) rfl (by kernel_rfl) (by kernel_rfl) (by kernel_rfl) (fun _ _ _ h => h) (Or.inl ⟨by rfl, ?_⟩) (by assumption) ?_
        rotate_left
        focus
          intro U hU
          try dsimp only at hU
          go_simp
          try (with_reducible rfl)
        simp only [List.getElem_toArray, List.getElem_cons_succ, List.getElem_cons_zero, Act.put, List.setIfInBounds_toArray, List.set_cons_zero, List.set_cons_succ]
        refine wpAnyH_take (i := 12) (v := ?_) rfl (by kernel_rfl) (by kernel_rfl) (by kernel_rfl) (fun _ _ _ h => h) (Or.inl ⟨by rfl, ?_⟩) (by assumption) ?_
        rotate_left
        focus
          intro U hU
          try dsimp only at hU
          go_simp
          try (with_reducible rfl)
        simp only [List.getElem_toArray, List.getElem_cons_succ, List.getElem_cons_zero, Act.put, List.setIfInBounds_toArray, List.set_cons_zero, List.set_cons_succ]
        refine wpAnyH_ready (rs := [11]) (by kernel_rfl) (by simp) ?_
        refine AllReadyH.cons rfl (fun K hK => ?_) AllReadyH.nil
        simp only [List.getElem_toArray, List.getElem_cons_succ, List.getElem_cons_zero]
        go_simp
        refine (HKP.out _ (HU.out _ hu2)).mono ?_
        rintro q u3 ⟨rfl, hb3⟩
        have hu3 : Below w4.heap.size w4 u3 := hu2.trans (hb3.mono hu2.size)
        clear hb3
        go_wp2_with fail
        refine hK.out _ _ ?_ (fun hHeld2 => ?_)
        focus
          exact hS _ (by with_reducible assumption)
        clear hHeld
        have hHeld := hHeld2
        clear hHeld2 hK K
        try simp only [List.getElem_toArray, List.getElem_cons_succ, List.getElem_cons_zero, Act.put, List.setIfInBounds_toArray, List.set_cons_zero, List.set_cons_succ]
        refine wpAnyH_ready (rs := [13]) (by kernel_rfl) (by simp) ?_
        refine AllReadyH.cons rfl (fun K hK => ?_) AllReadyH.nil
        simp only [List.getElem_toArray, List.getElem_cons_succ, List.getElem_cons_zero]
        go_simp
        refine (HRK.out _ (HU.out _ hu3)).mono ?_
        rintro q u4 ⟨rfl, hb4⟩
        have hu4 : Below w4.heap.size w4 u4 := hu3.trans (hb4.mono hu3.size)
        clear hb4
        go_wp2_with fail
        refine hK.out _ _ ?_ (fun hHeld2 => ?_)
        focus
          exact hS _ (by with_reducible assumption)
        clear hHeld
        have hHeld := hHeld2
        clear hHeld2 hK K
        try simp only [List.getElem_toArray, List.getElem_cons_succ, List.getElem_cons_zero, Act.put, List.setIfInBounds_toArray, List.set_cons_zero, List.set_cons_succ]
        refine wpAnyH_take (i := 14) (v := ?_) rfl (by kernel_rfl) (by kernel_rfl) (by kernel_rfl) (fun _ _ _ h => h) (Or.inl ⟨by rfl, ?_⟩) (by assumption) ?_
        rotate_left
        focus
          intro U hU
          try dsimp only at hU
          go_simp
          try (with_reducible rfl)
        simp only [List.getElem_toArray, List.getElem_cons_succ, List.getElem_cons_zero, Act.put, List.setIfInBounds_toArray, List.set_cons_zero, List.set_cons_succ]
        refine wpAnyH_take (i := 15) (v := ?_) rfl (by kernel_rfl) (by kernel_rfl) (by kernel_rfl) (fun _ _ _ h => h) (Or.inl ⟨by rfl, ?_⟩) (by assumption) ?_
        rotate_left
        focus
          intro U hU
          try dsimp only at hU
          go_simp
          try (with_reducible rfl)
        simp only [List.getElem_toArray, List.getElem_cons_succ, List.getElem_cons_zero, Act.put, List.setIfInBounds_toArray, List.set_cons_zero, List.set_cons_succ]
        refine wpAnyH_take (i := 16) (v := ?_) rfl (by kernel_rfl) (by kernel_rfl) (by kernel_rfl) (fun _ _ _ h => h) (Or.inl ⟨by rfl, ?_⟩) (by assumption) ?_
        rotate_left
        focus
          intro U hU
          try dsimp only at hU
          go_simp
          try (with_reducible rfl)
        simp only [List.getElem_toArray, List.getElem_cons_succ, List.getElem_cons_zero, Act.put, List.setIfInBounds_toArray, List.set_cons_zero, List.set_cons_succ]
        refine wpAnyH_take (i := 17) (v := ?_) rfl (by kernel_rfl) (by kernel_rfl) (by kernel_rfl) (fun _ _ _ h => h) (Or.inl ⟨by rfl, ?_⟩) (by assumption) ?_
        rotate_left
        focus
          intro U hU
          try dsimp only at hU
          go_simp
          try (with_reducible rfl)
        simp only [List.getElem_toArray, List.getElem_cons_succ, List.getElem_cons_zero, Act.put, List.setIfInBounds_toArray, List.set_cons_zero, List.set_cons_succ]
        refine wpAnyH_take (i := 18) (v := ?_) rfl (by kernel_rfl) (by kernel_rfl) (by kernel_rfl) (fun _ _ _ h => h) (Or.inl ⟨by rfl, ?_⟩) (by assumption) ?_
        rotate_left
        focus
          intro U hU
          try dsimp only at hU
          go_simp
          try (with_reducible rfl)
        simp only [List.getElem_toArray, List.getElem_cons_succ, List.getElem_cons_zero, Act.put, List.setIfInBounds_toArray, List.set_cons_zero, List.set_cons_succ]
        refine wpAnyH_take (i := 20) (v := ?_) rfl (by kernel_rfl) (by kernel_rfl) (by kernel_rfl) (fun _ _ _ h => h) (Or.inl ⟨by rfl, ?_⟩) (by assumption) ?_
        rotate_left
        focus
          intro U hU
          try dsimp only at hU
          go_simp
          try (with_reducible rfl)
        simp only [List.getElem_toArray, List.getElem_cons_succ, List.getElem_cons_zero, Act.put, List.setIfInBounds_toArray, List.set_cons_zero, List.set_cons_succ]
        refine wpAnyH_take (i := 21) (v := ?_) rfl (by kernel_rfl) (by kernel_rfl) (by kernel_rfl) (fun _ _ _ h => h) (Or.inl ⟨by rfl, ?_⟩) (by assumption) ?_
        rotate_left
        focus
          intro U hU
          try dsimp only at hU
          go_simp
          try (with_reducible rfl)
        simp only [List.getElem_toArray, List.getElem_cons_succ, List.getElem_cons_zero, Act.put, List.setIfInBounds_toArray, List.set_cons_zero, List.set_cons_succ]
        refine wpAnyH_take (i := 22) (v := ?_) rfl (by kernel_rfl) (by kernel_rfl) (by kernel_rfl) (fun _ _ _ h => h) (Or.inl ⟨by rfl, ?_⟩) (by assumption) ?_
        rotate_left
        focus
          intro U hU
          try dsimp only at hU
          go_simp
          try (with_reducible rfl)
        simp only [List.getElem_toArray, List.getElem_cons_succ, List.getElem_cons_zero, Act.put, List.setIfInBounds_toArray, List.set_cons_zero, List.set_cons_succ]
        refine wpAnyH_ready (rs := [19]) (by kernel_rfl) (by simp) ?_
        refine AllReadyH.cons rfl (fun K hK => ?_) AllReadyH.nil
        simp only [List.getElem_toArray, List.getElem_cons_succ, List.getElem_cons_zero]
        go_simp
        refine (HFR.out _ (HU.out _ hu4)).mono ?_
        rintro q u5 ⟨rfl, hb5⟩
        have hu5 : Below w4.heap.size w4 u5 := hu4.trans (hb5.mono hu4.size)
        clear hb5
        go_wp2_with fail
        refine hK.out _ _ ?_ (fun hHeld2 => ?_)
        focus
          exact hS _ (by with_reducible assumption)
        clear hHeld
        have hHeld := hHeld2
        clear hHeld2 hK K
        try simp only [List.getElem_toArray, List.getElem_cons_succ, List.getElem_cons_zero, Act.put, List.setIfInBounds_toArray, List.set_cons_zero, List.set_cons_succ]
        refine wpAnyH_ready (rs := [23]) (by kernel_rfl) (by simp) ?_
        refine AllReadyH.cons rfl (fun K hK => ?_) AllReadyH.nil
        simp only [List.getElem_toArray, List.getElem_cons_succ, List.getElem_cons_zero]
        go_simp
        refine (HRK.out _ (HU.out _ hu5)).mono ?_
        rintro q u6 ⟨rfl, hb6⟩
        have hu6 : Below w4.heap.size w4 u6 := hu5.trans (hb6.mono hu5.size)
        clear hb6
        go_wp2_with fail
        refine hK.out _ _ ?_ (fun hHeld2 => ?_)
        focus
          exact hS _ (by with_reducible assumption)
        clear hHeld
        have hHeld := hHeld2
        clear hHeld2 hK K
        try simp only [List.getElem_toArray, List.getElem_cons_succ, List.getElem_cons_zero, Act.put, List.setIfInBounds_toArray, List.set_cons_zero, List.set_cons_succ]
        refine wpAnyH_take (i := 24) (v := ?_) rfl (by kernel_rfl) (by kernel_rfl) (by kernel_rfl) (fun _ _ _ h => h) (Or.inl ⟨by rfl, ?_⟩) (by assumption) ?_
        rotate_left
        focus
          intro U hU
          try dsimp only at hU
          go_simp
          try (with_reducible rfl)
        simp only [List.getElem_toArray, List.getElem_cons_succ, List.getElem_cons_zero, Act.put, List.setIfInBounds_toArray, List.set_cons_zero, List.set_cons_succ]
        refine wpAnyH_take (i := 25) (v := ?_) rfl (by kernel_rfl) (by kernel_rfl) (by kernel_rfl) (fun _ _ _ h => h) (Or.inl ⟨by rfl, ?_⟩) (by assumption) ?_
        rotate_left
        focus
          intro U hU
          try dsimp only at hU
          go_simp
          try (with_reducible rfl)
        simp only [List.getElem_toArray, List.getElem_cons_succ, List.getElem_cons_zero, Act.put, List.setIfInBounds_toArray, List.set_cons_zero, List.set_cons_succ]
        refine wpAnyH_take (i := 26) (v := ?_) rfl (by kernel_rfl) (by kernel_rfl) (by kernel_rfl) (fun _ _ _ h => h) (Or.inl ⟨by rfl, ?_⟩) (by assumption) ?_
        rotate_left
        focus
          intro U hU
          try dsimp only at hU
          go_simp
          try (with_reducible rfl)
        simp only [List.getElem_toArray, List.getElem_cons_succ, List.getElem_cons_zero, Act.put, List.setIfInBounds_toArray, List.set_cons_zero, List.set_cons_succ]
        refine wpAnyH_take (i := 27) (v := ?_) rfl (by kernel_rfl) (by kernel_rfl) (by kernel_rfl) (fun _ _ _ h => h) (Or.inl ⟨by rfl, ?_⟩) (by assumption) ?_
        rotate_left
        focus
          intro U hU
          try dsimp only at hU
          go_simp
          try (with_reducible rfl)
        simp only [List.getElem_toArray, List.getElem_cons_succ, List.getElem_cons_zero, Act.put, List.setIfInBounds_toArray, List.set_cons_zero, List.set_cons_succ]
        refine wpAnyH_take (i := 28) (v := ?_) rfl (by kernel_rfl) (by kernel_rfl) (by kernel_rfl) (fun _ _ _ h => h) (Or.inl ⟨by rfl, ?_⟩) (by assumption) ?_
        rotate_left
        focus
          intro U hU
          try dsimp only at hU
          go_simp
          try (with_reducible rfl)
        simp only [List.getElem_toArray, List.getElem_cons_succ, List.getElem_cons_zero, Act.put, List.setIfInBounds_toArray, List.set_cons_zero, List.set_cons_succ]
        refine wpAnyH_ready (rs := [29]) (by kernel_rfl) (by simp) ?_
        refine AllReadyH.cons rfl (fun K hK => ?_) AllReadyH.nil
        simp only [List.getElem_toArray, List.getElem_cons_succ, List.getElem_cons_zero]
        go_simp
        refine (HW.out _ ).mono ?_
        rintro q u7 ⟨rfl, hb7⟩
        have hu7 : Below w4.heap.size w4 u7 := hu6.trans (hb7.mono hu6.size)
        clear hb7
        go_wp2_with fail
        refine hK.out _ _ ?_ (fun hHeld2 => ?_)
        focus
          exact hS _ (by with_reducible assumption)
        clear hHeld
        have hHeld := hHeld2
        clear hHeld2 hK K
        try simp only [List.getElem_toArray, List.getElem_cons_succ, List.getElem_cons_zero, Act.put, List.setIfInBounds_toArray, List.set_cons_zero, List.set_cons_succ]
        refine wpAnyH_take (i := 30) (v := ?_) rfl (by kernel_rfl) (by kernel_rfl) (by kernel_rfl) (fun _ _ _ h => h) (Or.inl ⟨by rfl, ?_⟩) (by assumption) ?_
        rotate_left
        focus
          intro U hU
          try dsimp only at hU
          go_simp
          try (with_reducible rfl)
        simp only [List.getElem_toArray, List.getElem_cons_succ, List.getElem_cons_zero, Act.put, List.setIfInBounds_toArray, List.set_cons_zero, List.set_cons_succ]
        refine wpAnyH_take (i := 31) (v := ?_) rfl (by kernel_rfl) (by kernel_rfl) (by kernel_rfl) (fun _ _ _ h => h) (Or.inl ⟨by rfl, ?_⟩) (by assumption) ?_
        rotate_left
        focus
          intro U hU
          try dsimp only at hU
          go_simp
          try (with_reducible rfl)
        simp only [List.getElem_toArray, List.getElem_cons_succ, List.getElem_cons_zero, Act.put, List.setIfInBounds_toArray, List.set_cons_zero, List.set_cons_succ]
        refine wpAnyH_done (by kernel_rfl) ?_ _
        clear hHeld hS
        go_wp2
        go_ret
        exact ⟨rfl, HU.out _ hu7⟩
end Go.Proofs.YtgakobolhmdnnaaGreat
