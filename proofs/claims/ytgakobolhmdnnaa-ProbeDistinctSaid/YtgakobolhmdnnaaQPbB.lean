/- probe: the law's example. -/
import Derived.Test.YtgakobolhmdnnaaQPbA
import Derived.Deep.RegionHeld3
namespace Go.Proofs.Ytgakobolhmdnnaa
open Go.RowKit Go.Sort
set_option linter.unusedVariables false
set_option linter.unusedSimpArgs false

set_option maxRecDepth 20000 in
set_option maxHeartbeats 3000000 in
theorem works33_any (W : World) : Calls Try.prog 28 #[] W fun e w' => e = .returned (.bool true) ∧ RowKit.Below W.heap.size W w' := by
  have HNW := hid (fun u A c (h : Sl u 1 A 2 c (ucells [2, 0])) => newG A 2 c [2, 0] u h (by omega))
  have HRD := hid (fun u KK AA BB TT G E (hC : CfAt u (⟨0, 0, 0, 0, 0, [], [(0, 0, 0), (0, 0, 0), (0, 0, 0)]⟩ : Cf) none 0 KK 3) (hE : InE u ((⟨1, 0, 0, [[42]], [0], []⟩ : En), ⟨AA, 1, BB, 1, none, 0⟩)) hT hG => round_any (⟨0, 0, 0, 0, 0, [], [(0, 0, 0), (0, 0, 0), (0, 0, 0)]⟩ : Cf) none 0 KK 3 ((⟨1, 0, 0, [[42]], [0], []⟩ : En), ⟨AA, 1, BB, 1, none, 0⟩) TT G E [2, 0] u hC hE (by simp) (by intro s h; simp at h; subst h; simp) (by simp) hT hG (by simp) (by intro y h; simp at h; omega))
  have HPB := hid (fun u KK AA BB (hC : CfAt u (⟨0, 0, 0, 0, 0, [], [(0, 0, 0), (0, 0, 0), (0, 0, 0)]⟩ : Cf) none 0 KK 3) (hE : InE u ((⟨1, 0, 0, [[42]], [0], []⟩ : En), ⟨AA, 1, BB, 1, none, 0⟩)) => pbw_any (⟨0, 0, 0, 0, 0, [], [(0, 0, 0), (0, 0, 0), (0, 0, 0)]⟩ : Cf) none 0 KK 3 ((⟨1, 0, 0, [[42]], [0], []⟩ : En), ⟨AA, 1, BB, 1, none, 0⟩) u hC hE (by simp) (by intro s h; simp at h; subst h; simp) (by simp))
  simp only [ex33a, ex33b, ecE, cfc, List.length_cons, List.length_nil, Nat.zero_add, Nat.reduceAdd] at HRD HPB
  have hmk1 := make_wk3
  go_enter Try.func28, Try.ntmps28
  go_upto_region 2 with (fail)
  refine at_world (fun u => CfAt u (⟨0, 0, 0, 0, 0, [], [(0, 0, 0), (0, 0, 0), (0, 0, 0)]⟩ : Cf) none 0 (some ⟨W.heap.size, 0, none⟩) 3 ∧ u.heap[W.heap.size + 1]? = some (.cells #[.int .i64 0, .int .i64 0, .int .i64 0, .int .i64 0, .int .i64 0, .slice none 0 0, .slice (some ⟨W.heap.size, 0, none⟩) 3 3] 25 (0, 0)) ∧ RowKit.Below W.heap.size W u) (lay34a W) ?_
  generalize (some (⟨W.heap.size, 0, none⟩ : Addr)) = KK at *
  generalize W.heap.size + 1 = Q at *
  rintro w1 ⟨hC, hq, hb⟩
  have HB := hid hb
  have HC := hid hC
  have HQ := hid hq
  clear hC hq hb hmk1
  go_upto_region 3 with (fail)
  refine at_world (fun u => InE u ((⟨1, 0, 0, [[42]], [0], []⟩ : En), ⟨some ⟨w1.heap.size, 0, none⟩, 1, some ⟨w1.heap.size + 1, 0, none⟩, 1, none, 0⟩) ∧ u.heap[w1.heap.size + 1 + 1]? = some (.cells #[.int .i64 1, .int .i64 0, .int .i64 0, .slice (some ⟨w1.heap.size, 0, none⟩) 1 1, .slice (some ⟨w1.heap.size + 1, 0, none⟩) 1 1, .slice none 0 0] 55 (0, 0)) ∧ RowKit.Below w1.heap.size w1 u) (lay33b w1 _ _ _ rfl rfl rfl) ?_
  generalize (some (⟨w1.heap.size, 0, none⟩ : Addr)) = AA at *
  generalize (some (⟨w1.heap.size + 1, 0, none⟩ : Addr)) = BB at *
  generalize w1.heap.size + 1 + 1 = J at *
  rintro w2 ⟨hE, hj, hb⟩
  have HB2 := hid (HB.out.trans (hb.mono HB.out.size))
  have HQ2 := hid (keep0 HQ.out hb)
  have HJ2 := hid hj
  have HRD2 := hid (fun u (hu : RowKit.Below w2.heap.size w2 u) TT G E hT hG => HRD.out u KK AA BB TT G E ((HC.out.below hb).below hu) (hE.below hu) hT hG)
  have HPB2 := hid (fun u (hu : RowKit.Below w2.heap.size w2 u) => HPB.out u KK AA BB ((HC.out.below hb).below hu) (hE.below hu))
  clear hE hj hb HB HC HQ HRD HPB
  have hSU : ∀ U, RowKit.Below w2.heap.size w2 U → ((U.cell? ⟨Q, 0, none⟩ = some (.int .i64 0) ∧ U.cell? ⟨Q, 1, none⟩ = some (.int .i64 0) ∧ U.cell? ⟨Q, 2, none⟩ = some (.int .i64 0) ∧ U.cell? ⟨Q, 3, none⟩ = some (.int .i64 0) ∧ U.cell? ⟨Q, 4, none⟩ = some (.int .i64 0) ∧ U.cell? ⟨Q, 5, none⟩ = some (.slice none 0 0) ∧ U.cell? ⟨Q, 6, none⟩ = some (.slice KK 3 3)) ∧ (U.cell? ⟨J, 0, none⟩ = some (.int .i64 1) ∧ U.cell? ⟨J, 1, none⟩ = some (.int .i64 0) ∧ U.cell? ⟨J, 2, none⟩ = some (.int .i64 0) ∧ U.cell? ⟨J, 3, none⟩ = some (.slice AA 1 1) ∧ U.cell? ⟨J, 4, none⟩ = some (.slice BB 1 1) ∧ U.cell? ⟨J, 5, none⟩ = some (.slice none 0 0))) := fun U hU => ⟨seven_cellsJ (keep0 HQ2.out hU), (six_cells (keep0 HJ2.out hU)).1⟩
  have hk0 : RowKit.Below w2.heap.size w2 w2.drew := below_drew (RowKit.Below.refl _ _)
  refine wp_region_held_drew (S := fun U => (U.cell? ⟨Q, 0, none⟩ = some (.int .i64 0) ∧ U.cell? ⟨Q, 1, none⟩ = some (.int .i64 0) ∧ U.cell? ⟨Q, 2, none⟩ = some (.int .i64 0) ∧ U.cell? ⟨Q, 3, none⟩ = some (.int .i64 0) ∧ U.cell? ⟨Q, 4, none⟩ = some (.int .i64 0) ∧ U.cell? ⟨Q, 5, none⟩ = some (.slice none 0 0) ∧ U.cell? ⟨Q, 6, none⟩ = some (.slice KK 3 3)) ∧ (U.cell? ⟨J, 0, none⟩ = some (.int .i64 1) ∧ U.cell? ⟨J, 1, none⟩ = some (.int .i64 0) ∧ U.cell? ⟨J, 2, none⟩ = some (.int .i64 0) ∧ U.cell? ⟨J, 3, none⟩ = some (.slice AA 1 1) ∧ U.cell? ⟨J, 4, none⟩ = some (.slice BB 1 1) ∧ U.cell? ⟨J, 5, none⟩ = some (.slice none 0 0))) (by kernel_rfl) (hSU _ hk0) (fun hHeld => ?_)
  generalize w2.drew = k0 at *
  refine wpAnyH_take (i := 2) (v := ?_) rfl (by kernel_rfl) (by kernel_rfl) (by kernel_rfl) (fun _ _ _ h => h) (Or.inl ⟨by rfl, ?_⟩) (by assumption) ?_
  rotate_left
  focus
    intro U hU
    try dsimp only at hU
    go_simp
    try (with_reducible rfl)
  simp only [List.getElem_toArray, List.getElem_cons_succ, List.getElem_cons_zero, Act.put, List.setIfInBounds_toArray, List.set_cons_zero, List.set_cons_succ]
  refine wpAnyH_take (i := 3) (v := ?_) rfl (by kernel_rfl) (by kernel_rfl) (by kernel_rfl) (fun _ _ _ h => h) (Or.inl ⟨by rfl, ?_⟩) (by assumption) ?_
  rotate_left
  focus
    intro U hU
    try dsimp only at hU
    go_simp
    try (with_reducible rfl)
  simp only [List.getElem_toArray, List.getElem_cons_succ, List.getElem_cons_zero, Act.put, List.setIfInBounds_toArray, List.set_cons_zero, List.set_cons_succ]
  refine wpAnyH_ready (rs := [0, 5]) (by kernel_rfl) (by simp) ?_
  refine (AllReadyH.cons rfl (fun K hK => ?_) (AllReadyH.cons rfl (fun K hK => ?_) AllReadyH.nil))
  · skip
    simp only [List.getElem_toArray, List.getElem_cons_succ, List.getElem_cons_zero]
    go_simp
    refine hK.out _ _ ?_ (fun hHeld2 => ?_)
    focus
      exact hSU _ (hk0.trans ((bel_alloc (RowKit.Below.refl _ _) _).mono hk0.size))
    clear hHeld
    have hHeld := hHeld2
    clear hHeld2 hK K
    try simp only [List.getElem_toArray, List.getElem_cons_succ, List.getElem_cons_zero, Act.put, List.setIfInBounds_toArray, List.set_cons_zero, List.set_cons_succ]
    have hb9 : RowKit.Below k0.heap.size k0 (k0.alloc (.cells #[.int .u64 2, .int .u64 0] 36)) := bel_alloc (RowKit.Below.refl _ _) _
    have hsA : Sl (k0.alloc (.cells #[.int .u64 2, .int .u64 0] 36)) 1 (some ⟨k0.heap.size, 0, none⟩) 2 2 (ucells [2, 0]) := Sl.lit k0 36 1 2 #[.int .u64 2, .int .u64 0] rfl (by unfold maxLen; omega)
    have hu1 := hk0.trans (hb9.mono hk0.size)
    clear hb9
    generalize k0.alloc (.cells #[.int .u64 2, .int .u64 0] 36) = u1 at *
    refine wpAnyH_ready (rs := [1, 5]) (by kernel_rfl) (by simp) ?_
    refine (AllReadyH.cons rfl (fun K hK => ?_) (AllReadyH.cons rfl (fun K hK => ?_) AllReadyH.nil))
    · skip
      simp only [List.getElem_toArray, List.getElem_cons_succ, List.getElem_cons_zero]
      go_simp
      refine (HNW.out u1 _ _ hsA).mono ?_
      rintro q u3 ⟨TT, G, E, rfl, hWT, hTG, hRG, hb1⟩
      have hu3 := hu1.trans (hb1.mono hu1.size)
      have hTT := Nat.le_trans hu1.size hWT
      clear hb1 hsA
      go_wp2_with fail
      refine hK.out _ _ ?_ (fun hHeld2 => ?_)
      focus
        exact hSU _ hu3
      clear hHeld
      have hHeld := hHeld2
      clear hHeld2 hK K
      try simp only [List.getElem_toArray, List.getElem_cons_succ, List.getElem_cons_zero, Act.put, List.setIfInBounds_toArray, List.set_cons_zero, List.set_cons_succ]
      refine wpAnyH_ready (rs := [4, 5]) (by kernel_rfl) (by simp) ?_
      refine (AllReadyH.cons rfl (fun K hK => ?_) (AllReadyH.cons rfl (fun K hK => ?_) AllReadyH.nil))
      · skip
        simp only [List.getElem_toArray, List.getElem_cons_succ, List.getElem_cons_zero]
        go_simp
        refine (HRD2.out u3 hu3 TT G E hTG (fun g hg => hRG.ltP hg)).mono ?_
        rintro q u5 ⟨A9, c9, rfl, ho9, hO⟩
        have hu5 := hu3.trans (hO.below w2.heap.size hTT hu3.size)
        have hs9 := sl_own ho9
        clear ho9 hO
        go_wp2_with fail
        refine hK.out _ _ ?_ (fun hHeld2 => ?_)
        focus
          exact hSU _ hu5
        clear hHeld
        have hHeld := hHeld2
        clear hHeld2 hK K
        try simp only [List.getElem_toArray, List.getElem_cons_succ, List.getElem_cons_zero, Act.put, List.setIfInBounds_toArray, List.set_cons_zero, List.set_cons_succ]
        refine wpAnyH_ready (rs := [5]) (by kernel_rfl) (by simp) ?_
        refine (AllReadyH.cons rfl (fun K hK => ?_) AllReadyH.nil)
        simp only [List.getElem_toArray, List.getElem_cons_succ, List.getElem_cons_zero]
        go_simp
        refine hK.out _ _ ?_ (fun hHeld2 => ?_)
        focus
          exact hSU _ (hu5.trans ((bel_alloc (RowKit.Below.refl _ _) _).mono hu5.size))
        clear hHeld
        have hHeld := hHeld2
        clear hHeld2 hK K
        try simp only [List.getElem_toArray, List.getElem_cons_succ, List.getElem_cons_zero, Act.put, List.setIfInBounds_toArray, List.set_cons_zero, List.set_cons_succ]
        have hb9 : RowKit.Below u5.heap.size u5 (u5.alloc (.cells #[.int .i64 2, .int .i64 0] 3)) := bel_alloc (RowKit.Below.refl _ _) _
        obtain ⟨gL, hgL⟩ : ∃ g, g = u5.heap.size := ⟨_, rfl⟩
        have hlit : Sl (u5.alloc (.cells #[.int .i64 2, .int .i64 0] 3)) 1 (some ⟨u5.heap.size, 0, none⟩) 2 2 (icells .i64 [2, 0]) := Sl.lit u5 3 1 2 #[.int .i64 2, .int .i64 0] rfl (by unfold maxLen; omega)
        rw [← hgL] at hlit
        have hgl : gL < (u5.alloc (.cells #[.int .i64 2, .int .i64 0] 3)).heap.size := by rw [hgL, World.size_alloc]; omega
        have hu7 := hu5.trans (hb9.mono hu5.size)
        replace hs9 := hs9.below hb9
        clear hb9
        generalize u5.alloc (.cells #[.int .i64 2, .int .i64 0] 3) = u7 at *
        refine wpAnyH_ready (rs := [6]) (by kernel_rfl) (by simp) ?_
        refine AllReadyH.cons rfl (fun K hK => ?_) AllReadyH.nil
        simp only [List.getElem_toArray, List.getElem_cons_succ, List.getElem_cons_zero]
        go_simp
        rw [hgL] at hlit
        have HSM := same06 _ _ _ _ _ _ [2, 0] [2, 0] u7 hs9 hlit (by omega) (by omega)
        rw [show (([2, 0] : List Int) == [2, 0]) = true from rfl] at HSM
        refine HSM.mono ?_
        rintro q v1 ⟨rfl, qq, rfl⟩
        have hkz : RowKit.Below w2.heap.size w2 (u7.drewN qq) := below_drewNP hu7 qq
        generalize u7.drewN qq = v1 at *
        go_wp2_with fail
        refine hK.out _ _ ?_ (fun hHeld2 => ?_)
        focus
          exact hSU _ hkz
        clear hHeld
        have hHeld := hHeld2
        clear hHeld2 hK K
        try simp only [List.getElem_toArray, List.getElem_cons_succ, List.getElem_cons_zero, Act.put, List.setIfInBounds_toArray, List.set_cons_zero, List.set_cons_succ]
        refine wpAnyH_take (i := 7) (v := ?_) rfl (by kernel_rfl) (by kernel_rfl) (by kernel_rfl) (fun _ _ _ h => h) (Or.inl ⟨by rfl, ?_⟩) (by assumption) ?_
        rotate_left
        focus
          intro U hU
          try dsimp only at hU
          go_simp
          try (with_reducible rfl)
        simp only [List.getElem_toArray, List.getElem_cons_succ, List.getElem_cons_zero, Act.put, List.setIfInBounds_toArray, List.set_cons_zero, List.set_cons_succ]
        refine wpAnyH_take (i := 8) (v := ?_) rfl (by kernel_rfl) (by kernel_rfl) (by kernel_rfl) (fun _ _ _ h => h) (Or.inl ⟨by rfl, ?_⟩) (by assumption) ?_
        rotate_left
        focus
          intro U hU
          try dsimp only at hU
          go_simp
          try (with_reducible rfl)
        simp only [List.getElem_toArray, List.getElem_cons_succ, List.getElem_cons_zero, Act.put, List.setIfInBounds_toArray, List.set_cons_zero, List.set_cons_succ]
        refine wpAnyH_take (i := 9) (v := ?_) rfl (by kernel_rfl) (by kernel_rfl) (by kernel_rfl) (fun _ _ _ h => h) (Or.inl ⟨by rfl, ?_⟩) (by assumption) ?_
        rotate_left
        focus
          intro U hU
          try dsimp only at hU
          go_simp
          try (with_reducible rfl)
        simp only [List.getElem_toArray, List.getElem_cons_succ, List.getElem_cons_zero, Act.put, List.setIfInBounds_toArray, List.set_cons_zero, List.set_cons_succ]
        refine wpAnyH_ready (rs := [10]) (by kernel_rfl) (by simp) ?_
        refine AllReadyH.cons rfl (fun K hK => ?_) AllReadyH.nil
        simp only [List.getElem_toArray, List.getElem_cons_succ, List.getElem_cons_zero]
        go_simp
        refine (HPB2.out v1 hkz).mono ?_
        rintro q v2 ⟨rfl, hb1⟩
        have hky := hkz.trans (hb1.mono hkz.size)
        clear hb1
        go_wp2_with fail
        refine hK.out _ _ ?_ (fun hHeld2 => ?_)
        focus
          exact hSU _ hky
        clear hHeld
        have hHeld := hHeld2
        clear hHeld2 hK K
        try simp only [List.getElem_toArray, List.getElem_cons_succ, List.getElem_cons_zero, Act.put, List.setIfInBounds_toArray, List.set_cons_zero, List.set_cons_succ]
        refine wpAnyH_take (i := 11) (v := ?_) rfl (by kernel_rfl) (by kernel_rfl) (by kernel_rfl) (fun _ _ _ h => h) (Or.inl ⟨by rfl, ?_⟩) (by assumption) ?_
        rotate_left
        focus
          intro U hU
          try dsimp only at hU
          go_simp
          try (with_reducible rfl)
        simp only [List.getElem_toArray, List.getElem_cons_succ, List.getElem_cons_zero, Act.put, List.setIfInBounds_toArray, List.set_cons_zero, List.set_cons_succ]
        refine wpAnyH_take (i := 12) (v := ?_) rfl (by kernel_rfl) (by kernel_rfl) (by kernel_rfl) (fun _ _ _ h => h) (Or.inl ⟨by rfl, ?_⟩) (by assumption) ?_
        rotate_left
        focus
          intro U hU
          try dsimp only at hU
          go_simp
          try (with_reducible rfl)
        simp only [List.getElem_toArray, List.getElem_cons_succ, List.getElem_cons_zero, Act.put, List.setIfInBounds_toArray, List.set_cons_zero, List.set_cons_succ]
        refine wpAnyH_take (i := 13) (v := ?_) rfl (by kernel_rfl) (by kernel_rfl) (by kernel_rfl) (fun _ _ _ h => h) (Or.inl ⟨by rfl, ?_⟩) (by assumption) ?_
        rotate_left
        focus
          intro U hU
          try dsimp only at hU
          go_simp
          try (with_reducible rfl)
        simp only [List.getElem_toArray, List.getElem_cons_succ, List.getElem_cons_zero, Act.put, List.setIfInBounds_toArray, List.set_cons_zero, List.set_cons_succ]
        refine wpAnyH_done (by kernel_rfl) ?_ _
        have HFIN := hid (HB2.out.trans (hky.mono HB2.out.size))
        clear hHeld hSU
        go_wp2
        go_ret
        exact ⟨rfl, HFIN.out⟩
      · skip
        simp only [List.getElem_toArray, List.getElem_cons_succ, List.getElem_cons_zero]
        go_simp
        refine hK.out _ _ ?_ (fun hHeld2 => ?_)
        focus
          exact hSU _ (hu3.trans ((bel_alloc (RowKit.Below.refl _ _) _).mono hu3.size))
        clear hHeld
        have hHeld := hHeld2
        clear hHeld2 hK K
        try simp only [List.getElem_toArray, List.getElem_cons_succ, List.getElem_cons_zero, Act.put, List.setIfInBounds_toArray, List.set_cons_zero, List.set_cons_succ]
        have hb9 : RowKit.Below u3.heap.size u3 (u3.alloc (.cells #[.int .i64 2, .int .i64 0] 3)) := bel_alloc (RowKit.Below.refl _ _) _
        obtain ⟨gL, hgL⟩ : ∃ g, g = u3.heap.size := ⟨_, rfl⟩
        have hlit : Sl (u3.alloc (.cells #[.int .i64 2, .int .i64 0] 3)) 1 (some ⟨u3.heap.size, 0, none⟩) 2 2 (icells .i64 [2, 0]) := Sl.lit u3 3 1 2 #[.int .i64 2, .int .i64 0] rfl (by unfold maxLen; omega)
        rw [← hgL] at hlit
        have hgl : gL < (u3.alloc (.cells #[.int .i64 2, .int .i64 0] 3)).heap.size := by rw [hgL, World.size_alloc]; omega
        have hu6 := hu3.trans (hb9.mono hu3.size)
        have hne : gL ≠ TT := by have := hTG.lt; omega
        replace hTG := hTG.below hb9
        replace hRG := hRG.below hb9
        clear hb9
        generalize u3.alloc (.cells #[.int .i64 2, .int .i64 0] 3) = u6 at *
        refine wpAnyH_ready (rs := [4]) (by kernel_rfl) (by simp) ?_
        refine (AllReadyH.cons rfl (fun K hK => ?_) AllReadyH.nil)
        simp only [List.getElem_toArray, List.getElem_cons_succ, List.getElem_cons_zero]
        go_simp
        refine (HRD2.out u6 hu6 TT G E hTG (fun g hg => hRG.ltP hg)).mono ?_
        rintro q u8 ⟨A9, c9, rfl, ho9, hO⟩
        have hu8 := hu6.trans (hO.below w2.heap.size hTT hu6.size)
        have hs9 := sl_own ho9
        replace hlit := hlit.onlyP (fun b off h => by cases h; exact hO.keep _ hne hgl)
        clear ho9 hO
        go_wp2_with fail
        refine hK.out _ _ ?_ (fun hHeld2 => ?_)
        focus
          exact hSU _ hu8
        clear hHeld
        have hHeld := hHeld2
        clear hHeld2 hK K
        try simp only [List.getElem_toArray, List.getElem_cons_succ, List.getElem_cons_zero, Act.put, List.setIfInBounds_toArray, List.set_cons_zero, List.set_cons_succ]
        refine wpAnyH_ready (rs := [6]) (by kernel_rfl) (by simp) ?_
        refine AllReadyH.cons rfl (fun K hK => ?_) AllReadyH.nil
        simp only [List.getElem_toArray, List.getElem_cons_succ, List.getElem_cons_zero]
        go_simp
        rw [hgL] at hlit
        have HSM := same06 _ _ _ _ _ _ [2, 0] [2, 0] u8 hs9 hlit (by omega) (by omega)
        rw [show (([2, 0] : List Int) == [2, 0]) = true from rfl] at HSM
        refine HSM.mono ?_
        rintro q v1 ⟨rfl, qq, rfl⟩
        have hkz : RowKit.Below w2.heap.size w2 (u8.drewN qq) := below_drewNP hu8 qq
        generalize u8.drewN qq = v1 at *
        go_wp2_with fail
        refine hK.out _ _ ?_ (fun hHeld2 => ?_)
        focus
          exact hSU _ hkz
        clear hHeld
        have hHeld := hHeld2
        clear hHeld2 hK K
        try simp only [List.getElem_toArray, List.getElem_cons_succ, List.getElem_cons_zero, Act.put, List.setIfInBounds_toArray, List.set_cons_zero, List.set_cons_succ]
        refine wpAnyH_take (i := 7) (v := ?_) rfl (by kernel_rfl) (by kernel_rfl) (by kernel_rfl) (fun _ _ _ h => h) (Or.inl ⟨by rfl, ?_⟩) (by assumption) ?_
        rotate_left
        focus
          intro U hU
          try dsimp only at hU
          go_simp
          try (with_reducible rfl)
        simp only [List.getElem_toArray, List.getElem_cons_succ, List.getElem_cons_zero, Act.put, List.setIfInBounds_toArray, List.set_cons_zero, List.set_cons_succ]
        refine wpAnyH_take (i := 8) (v := ?_) rfl (by kernel_rfl) (by kernel_rfl) (by kernel_rfl) (fun _ _ _ h => h) (Or.inl ⟨by rfl, ?_⟩) (by assumption) ?_
        rotate_left
        focus
          intro U hU
          try dsimp only at hU
          go_simp
          try (with_reducible rfl)
        simp only [List.getElem_toArray, List.getElem_cons_succ, List.getElem_cons_zero, Act.put, List.setIfInBounds_toArray, List.set_cons_zero, List.set_cons_succ]
        refine wpAnyH_take (i := 9) (v := ?_) rfl (by kernel_rfl) (by kernel_rfl) (by kernel_rfl) (fun _ _ _ h => h) (Or.inl ⟨by rfl, ?_⟩) (by assumption) ?_
        rotate_left
        focus
          intro U hU
          try dsimp only at hU
          go_simp
          try (with_reducible rfl)
        simp only [List.getElem_toArray, List.getElem_cons_succ, List.getElem_cons_zero, Act.put, List.setIfInBounds_toArray, List.set_cons_zero, List.set_cons_succ]
        refine wpAnyH_ready (rs := [10]) (by kernel_rfl) (by simp) ?_
        refine AllReadyH.cons rfl (fun K hK => ?_) AllReadyH.nil
        simp only [List.getElem_toArray, List.getElem_cons_succ, List.getElem_cons_zero]
        go_simp
        refine (HPB2.out v1 hkz).mono ?_
        rintro q v2 ⟨rfl, hb1⟩
        have hky := hkz.trans (hb1.mono hkz.size)
        clear hb1
        go_wp2_with fail
        refine hK.out _ _ ?_ (fun hHeld2 => ?_)
        focus
          exact hSU _ hky
        clear hHeld
        have hHeld := hHeld2
        clear hHeld2 hK K
        try simp only [List.getElem_toArray, List.getElem_cons_succ, List.getElem_cons_zero, Act.put, List.setIfInBounds_toArray, List.set_cons_zero, List.set_cons_succ]
        refine wpAnyH_take (i := 11) (v := ?_) rfl (by kernel_rfl) (by kernel_rfl) (by kernel_rfl) (fun _ _ _ h => h) (Or.inl ⟨by rfl, ?_⟩) (by assumption) ?_
        rotate_left
        focus
          intro U hU
          try dsimp only at hU
          go_simp
          try (with_reducible rfl)
        simp only [List.getElem_toArray, List.getElem_cons_succ, List.getElem_cons_zero, Act.put, List.setIfInBounds_toArray, List.set_cons_zero, List.set_cons_succ]
        refine wpAnyH_take (i := 12) (v := ?_) rfl (by kernel_rfl) (by kernel_rfl) (by kernel_rfl) (fun _ _ _ h => h) (Or.inl ⟨by rfl, ?_⟩) (by assumption) ?_
        rotate_left
        focus
          intro U hU
          try dsimp only at hU
          go_simp
          try (with_reducible rfl)
        simp only [List.getElem_toArray, List.getElem_cons_succ, List.getElem_cons_zero, Act.put, List.setIfInBounds_toArray, List.set_cons_zero, List.set_cons_succ]
        refine wpAnyH_take (i := 13) (v := ?_) rfl (by kernel_rfl) (by kernel_rfl) (by kernel_rfl) (fun _ _ _ h => h) (Or.inl ⟨by rfl, ?_⟩) (by assumption) ?_
        rotate_left
        focus
          intro U hU
          try dsimp only at hU
          go_simp
          try (with_reducible rfl)
        simp only [List.getElem_toArray, List.getElem_cons_succ, List.getElem_cons_zero, Act.put, List.setIfInBounds_toArray, List.set_cons_zero, List.set_cons_succ]
        refine wpAnyH_done (by kernel_rfl) ?_ _
        have HFIN := hid (HB2.out.trans (hky.mono HB2.out.size))
        clear hHeld hSU
        go_wp2
        go_ret
        exact ⟨rfl, HFIN.out⟩
    · skip
      simp only [List.getElem_toArray, List.getElem_cons_succ, List.getElem_cons_zero]
      go_simp
      refine hK.out _ _ ?_ (fun hHeld2 => ?_)
      focus
        exact hSU _ (hu1.trans ((bel_alloc (RowKit.Below.refl _ _) _).mono hu1.size))
      clear hHeld
      have hHeld := hHeld2
      clear hHeld2 hK K
      try simp only [List.getElem_toArray, List.getElem_cons_succ, List.getElem_cons_zero, Act.put, List.setIfInBounds_toArray, List.set_cons_zero, List.set_cons_succ]
      have hb9 : RowKit.Below u1.heap.size u1 (u1.alloc (.cells #[.int .i64 2, .int .i64 0] 3)) := bel_alloc (RowKit.Below.refl _ _) _
      obtain ⟨gL, hgL⟩ : ∃ g, g = u1.heap.size := ⟨_, rfl⟩
      have hlit : Sl (u1.alloc (.cells #[.int .i64 2, .int .i64 0] 3)) 1 (some ⟨u1.heap.size, 0, none⟩) 2 2 (icells .i64 [2, 0]) := Sl.lit u1 3 1 2 #[.int .i64 2, .int .i64 0] rfl (by unfold maxLen; omega)
      rw [← hgL] at hlit
      have hgl : gL < (u1.alloc (.cells #[.int .i64 2, .int .i64 0] 3)).heap.size := by rw [hgL, World.size_alloc]; omega
      have hu4 := hu1.trans (hb9.mono hu1.size)
      replace hsA := hsA.below hb9
      clear hb9
      generalize u1.alloc (.cells #[.int .i64 2, .int .i64 0] 3) = u4 at *
      refine wpAnyH_ready (rs := [1]) (by kernel_rfl) (by simp) ?_
      refine (AllReadyH.cons rfl (fun K hK => ?_) AllReadyH.nil)
      simp only [List.getElem_toArray, List.getElem_cons_succ, List.getElem_cons_zero]
      go_simp
      refine (HNW.out u4 _ _ hsA).mono ?_
      rintro q u9 ⟨TT, G, E, rfl, hWT, hTG, hRG, hb1⟩
      have hu9 := hu4.trans (hb1.mono hu4.size)
      have hTT := Nat.le_trans hu4.size hWT
      have hne : gL ≠ TT := by omega
      replace hlit := hlit.below hb1
      have hgl := Nat.lt_of_lt_of_le hgl hb1.size
      clear hb1 hsA
      go_wp2_with fail
      refine hK.out _ _ ?_ (fun hHeld2 => ?_)
      focus
        exact hSU _ hu9
      clear hHeld
      have hHeld := hHeld2
      clear hHeld2 hK K
      try simp only [List.getElem_toArray, List.getElem_cons_succ, List.getElem_cons_zero, Act.put, List.setIfInBounds_toArray, List.set_cons_zero, List.set_cons_succ]
      refine wpAnyH_ready (rs := [4]) (by kernel_rfl) (by simp) ?_
      refine (AllReadyH.cons rfl (fun K hK => ?_) AllReadyH.nil)
      simp only [List.getElem_toArray, List.getElem_cons_succ, List.getElem_cons_zero]
      go_simp
      refine (HRD2.out u9 hu9 TT G E hTG (fun g hg => hRG.ltP hg)).mono ?_
      rintro q u10 ⟨A9, c9, rfl, ho9, hO⟩
      have hu10 := hu9.trans (hO.below w2.heap.size hTT hu9.size)
      have hs9 := sl_own ho9
      replace hlit := hlit.onlyP (fun b off h => by cases h; exact hO.keep _ hne hgl)
      clear ho9 hO
      go_wp2_with fail
      refine hK.out _ _ ?_ (fun hHeld2 => ?_)
      focus
        exact hSU _ hu10
      clear hHeld
      have hHeld := hHeld2
      clear hHeld2 hK K
      try simp only [List.getElem_toArray, List.getElem_cons_succ, List.getElem_cons_zero, Act.put, List.setIfInBounds_toArray, List.set_cons_zero, List.set_cons_succ]
      refine wpAnyH_ready (rs := [6]) (by kernel_rfl) (by simp) ?_
      refine AllReadyH.cons rfl (fun K hK => ?_) AllReadyH.nil
      simp only [List.getElem_toArray, List.getElem_cons_succ, List.getElem_cons_zero]
      go_simp
      rw [hgL] at hlit
      have HSM := same06 _ _ _ _ _ _ [2, 0] [2, 0] u10 hs9 hlit (by omega) (by omega)
      rw [show (([2, 0] : List Int) == [2, 0]) = true from rfl] at HSM
      refine HSM.mono ?_
      rintro q v1 ⟨rfl, qq, rfl⟩
      have hkz : RowKit.Below w2.heap.size w2 (u10.drewN qq) := below_drewNP hu10 qq
      generalize u10.drewN qq = v1 at *
      go_wp2_with fail
      refine hK.out _ _ ?_ (fun hHeld2 => ?_)
      focus
        exact hSU _ hkz
      clear hHeld
      have hHeld := hHeld2
      clear hHeld2 hK K
      try simp only [List.getElem_toArray, List.getElem_cons_succ, List.getElem_cons_zero, Act.put, List.setIfInBounds_toArray, List.set_cons_zero, List.set_cons_succ]
      refine wpAnyH_take (i := 7) (v := ?_) rfl (by kernel_rfl) (by kernel_rfl) (by kernel_rfl) (fun _ _ _ h => h) (Or.inl ⟨by rfl, ?_⟩) (by assumption) ?_
      rotate_left
      focus
        intro U hU
        try dsimp only at hU
        go_simp
        try (with_reducible rfl)
      simp only [List.getElem_toArray, List.getElem_cons_succ, List.getElem_cons_zero, Act.put, List.setIfInBounds_toArray, List.set_cons_zero, List.set_cons_succ]
      refine wpAnyH_take (i := 8) (v := ?_) rfl (by kernel_rfl) (by kernel_rfl) (by kernel_rfl) (fun _ _ _ h => h) (Or.inl ⟨by rfl, ?_⟩) (by assumption) ?_
      rotate_left
      focus
        intro U hU
        try dsimp only at hU
        go_simp
        try (with_reducible rfl)
      simp only [List.getElem_toArray, List.getElem_cons_succ, List.getElem_cons_zero, Act.put, List.setIfInBounds_toArray, List.set_cons_zero, List.set_cons_succ]
      refine wpAnyH_take (i := 9) (v := ?_) rfl (by kernel_rfl) (by kernel_rfl) (by kernel_rfl) (fun _ _ _ h => h) (Or.inl ⟨by rfl, ?_⟩) (by assumption) ?_
      rotate_left
      focus
        intro U hU
        try dsimp only at hU
        go_simp
        try (with_reducible rfl)
      simp only [List.getElem_toArray, List.getElem_cons_succ, List.getElem_cons_zero, Act.put, List.setIfInBounds_toArray, List.set_cons_zero, List.set_cons_succ]
      refine wpAnyH_ready (rs := [10]) (by kernel_rfl) (by simp) ?_
      refine AllReadyH.cons rfl (fun K hK => ?_) AllReadyH.nil
      simp only [List.getElem_toArray, List.getElem_cons_succ, List.getElem_cons_zero]
      go_simp
      refine (HPB2.out v1 hkz).mono ?_
      rintro q v2 ⟨rfl, hb1⟩
      have hky := hkz.trans (hb1.mono hkz.size)
      clear hb1
      go_wp2_with fail
      refine hK.out _ _ ?_ (fun hHeld2 => ?_)
      focus
        exact hSU _ hky
      clear hHeld
      have hHeld := hHeld2
      clear hHeld2 hK K
      try simp only [List.getElem_toArray, List.getElem_cons_succ, List.getElem_cons_zero, Act.put, List.setIfInBounds_toArray, List.set_cons_zero, List.set_cons_succ]
      refine wpAnyH_take (i := 11) (v := ?_) rfl (by kernel_rfl) (by kernel_rfl) (by kernel_rfl) (fun _ _ _ h => h) (Or.inl ⟨by rfl, ?_⟩) (by assumption) ?_
      rotate_left
      focus
        intro U hU
        try dsimp only at hU
        go_simp
        try (with_reducible rfl)
      simp only [List.getElem_toArray, List.getElem_cons_succ, List.getElem_cons_zero, Act.put, List.setIfInBounds_toArray, List.set_cons_zero, List.set_cons_succ]
      refine wpAnyH_take (i := 12) (v := ?_) rfl (by kernel_rfl) (by kernel_rfl) (by kernel_rfl) (fun _ _ _ h => h) (Or.inl ⟨by rfl, ?_⟩) (by assumption) ?_
      rotate_left
      focus
        intro U hU
        try dsimp only at hU
        go_simp
        try (with_reducible rfl)
      simp only [List.getElem_toArray, List.getElem_cons_succ, List.getElem_cons_zero, Act.put, List.setIfInBounds_toArray, List.set_cons_zero, List.set_cons_succ]
      refine wpAnyH_take (i := 13) (v := ?_) rfl (by kernel_rfl) (by kernel_rfl) (by kernel_rfl) (fun _ _ _ h => h) (Or.inl ⟨by rfl, ?_⟩) (by assumption) ?_
      rotate_left
      focus
        intro U hU
        try dsimp only at hU
        go_simp
        try (with_reducible rfl)
      simp only [List.getElem_toArray, List.getElem_cons_succ, List.getElem_cons_zero, Act.put, List.setIfInBounds_toArray, List.set_cons_zero, List.set_cons_succ]
      refine wpAnyH_done (by kernel_rfl) ?_ _
      have HFIN := hid (HB2.out.trans (hky.mono HB2.out.size))
      clear hHeld hSU
      go_wp2
      go_ret
      exact ⟨rfl, HFIN.out⟩
  · skip
    simp only [List.getElem_toArray, List.getElem_cons_succ, List.getElem_cons_zero]
    go_simp
    refine hK.out _ _ ?_ (fun hHeld2 => ?_)
    focus
      exact hSU _ (hk0.trans ((bel_alloc (RowKit.Below.refl _ _) _).mono hk0.size))
    clear hHeld
    have hHeld := hHeld2
    clear hHeld2 hK K
    try simp only [List.getElem_toArray, List.getElem_cons_succ, List.getElem_cons_zero, Act.put, List.setIfInBounds_toArray, List.set_cons_zero, List.set_cons_succ]
    have hb9 : RowKit.Below k0.heap.size k0 (k0.alloc (.cells #[.int .i64 2, .int .i64 0] 3)) := bel_alloc (RowKit.Below.refl _ _) _
    obtain ⟨gL, hgL⟩ : ∃ g, g = k0.heap.size := ⟨_, rfl⟩
    have hlit : Sl (k0.alloc (.cells #[.int .i64 2, .int .i64 0] 3)) 1 (some ⟨k0.heap.size, 0, none⟩) 2 2 (icells .i64 [2, 0]) := Sl.lit k0 3 1 2 #[.int .i64 2, .int .i64 0] rfl (by unfold maxLen; omega)
    rw [← hgL] at hlit
    have hgl : gL < (k0.alloc (.cells #[.int .i64 2, .int .i64 0] 3)).heap.size := by rw [hgL, World.size_alloc]; omega
    have hu2 := hk0.trans (hb9.mono hk0.size)
    clear hb9
    generalize k0.alloc (.cells #[.int .i64 2, .int .i64 0] 3) = u2 at *
    refine wpAnyH_ready (rs := [0]) (by kernel_rfl) (by simp) ?_
    refine (AllReadyH.cons rfl (fun K hK => ?_) AllReadyH.nil)
    simp only [List.getElem_toArray, List.getElem_cons_succ, List.getElem_cons_zero]
    go_simp
    refine hK.out _ _ ?_ (fun hHeld2 => ?_)
    focus
      exact hSU _ (hu2.trans ((bel_alloc (RowKit.Below.refl _ _) _).mono hu2.size))
    clear hHeld
    have hHeld := hHeld2
    clear hHeld2 hK K
    try simp only [List.getElem_toArray, List.getElem_cons_succ, List.getElem_cons_zero, Act.put, List.setIfInBounds_toArray, List.set_cons_zero, List.set_cons_succ]
    have hb9 : RowKit.Below u2.heap.size u2 (u2.alloc (.cells #[.int .u64 2, .int .u64 0] 36)) := bel_alloc (RowKit.Below.refl _ _) _
    have hsA : Sl (u2.alloc (.cells #[.int .u64 2, .int .u64 0] 36)) 1 (some ⟨u2.heap.size, 0, none⟩) 2 2 (ucells [2, 0]) := Sl.lit u2 36 1 2 #[.int .u64 2, .int .u64 0] rfl (by unfold maxLen; omega)
    have hu11 := hu2.trans (hb9.mono hu2.size)
    replace hlit := hlit.below hb9
    have hgl := Nat.lt_of_lt_of_le hgl hb9.size
    clear hb9
    generalize u2.alloc (.cells #[.int .u64 2, .int .u64 0] 36) = u11 at *
    refine wpAnyH_ready (rs := [1]) (by kernel_rfl) (by simp) ?_
    refine (AllReadyH.cons rfl (fun K hK => ?_) AllReadyH.nil)
    simp only [List.getElem_toArray, List.getElem_cons_succ, List.getElem_cons_zero]
    go_simp
    refine (HNW.out u11 _ _ hsA).mono ?_
    rintro q u12 ⟨TT, G, E, rfl, hWT, hTG, hRG, hb1⟩
    have hu12 := hu11.trans (hb1.mono hu11.size)
    have hTT := Nat.le_trans hu11.size hWT
    have hne : gL ≠ TT := by omega
    replace hlit := hlit.below hb1
    have hgl := Nat.lt_of_lt_of_le hgl hb1.size
    clear hb1 hsA
    go_wp2_with fail
    refine hK.out _ _ ?_ (fun hHeld2 => ?_)
    focus
      exact hSU _ hu12
    clear hHeld
    have hHeld := hHeld2
    clear hHeld2 hK K
    try simp only [List.getElem_toArray, List.getElem_cons_succ, List.getElem_cons_zero, Act.put, List.setIfInBounds_toArray, List.set_cons_zero, List.set_cons_succ]
    refine wpAnyH_ready (rs := [4]) (by kernel_rfl) (by simp) ?_
    refine (AllReadyH.cons rfl (fun K hK => ?_) AllReadyH.nil)
    simp only [List.getElem_toArray, List.getElem_cons_succ, List.getElem_cons_zero]
    go_simp
    refine (HRD2.out u12 hu12 TT G E hTG (fun g hg => hRG.ltP hg)).mono ?_
    rintro q u13 ⟨A9, c9, rfl, ho9, hO⟩
    have hu13 := hu12.trans (hO.below w2.heap.size hTT hu12.size)
    have hs9 := sl_own ho9
    replace hlit := hlit.onlyP (fun b off h => by cases h; exact hO.keep _ hne hgl)
    clear ho9 hO
    go_wp2_with fail
    refine hK.out _ _ ?_ (fun hHeld2 => ?_)
    focus
      exact hSU _ hu13
    clear hHeld
    have hHeld := hHeld2
    clear hHeld2 hK K
    try simp only [List.getElem_toArray, List.getElem_cons_succ, List.getElem_cons_zero, Act.put, List.setIfInBounds_toArray, List.set_cons_zero, List.set_cons_succ]
    refine wpAnyH_ready (rs := [6]) (by kernel_rfl) (by simp) ?_
    refine AllReadyH.cons rfl (fun K hK => ?_) AllReadyH.nil
    simp only [List.getElem_toArray, List.getElem_cons_succ, List.getElem_cons_zero]
    go_simp
    rw [hgL] at hlit
    have HSM := same06 _ _ _ _ _ _ [2, 0] [2, 0] u13 hs9 hlit (by omega) (by omega)
    rw [show (([2, 0] : List Int) == [2, 0]) = true from rfl] at HSM
    refine HSM.mono ?_
    rintro q v1 ⟨rfl, qq, rfl⟩
    have hkz : RowKit.Below w2.heap.size w2 (u13.drewN qq) := below_drewNP hu13 qq
    generalize u13.drewN qq = v1 at *
    go_wp2_with fail
    refine hK.out _ _ ?_ (fun hHeld2 => ?_)
    focus
      exact hSU _ hkz
    clear hHeld
    have hHeld := hHeld2
    clear hHeld2 hK K
    try simp only [List.getElem_toArray, List.getElem_cons_succ, List.getElem_cons_zero, Act.put, List.setIfInBounds_toArray, List.set_cons_zero, List.set_cons_succ]
    refine wpAnyH_take (i := 7) (v := ?_) rfl (by kernel_rfl) (by kernel_rfl) (by kernel_rfl) (fun _ _ _ h => h) (Or.inl ⟨by rfl, ?_⟩) (by assumption) ?_
    rotate_left
    focus
      intro U hU
      try dsimp only at hU
      go_simp
      try (with_reducible rfl)
    simp only [List.getElem_toArray, List.getElem_cons_succ, List.getElem_cons_zero, Act.put, List.setIfInBounds_toArray, List.set_cons_zero, List.set_cons_succ]
    refine wpAnyH_take (i := 8) (v := ?_) rfl (by kernel_rfl) (by kernel_rfl) (by kernel_rfl) (fun _ _ _ h => h) (Or.inl ⟨by rfl, ?_⟩) (by assumption) ?_
    rotate_left
    focus
      intro U hU
      try dsimp only at hU
      go_simp
      try (with_reducible rfl)
    simp only [List.getElem_toArray, List.getElem_cons_succ, List.getElem_cons_zero, Act.put, List.setIfInBounds_toArray, List.set_cons_zero, List.set_cons_succ]
    refine wpAnyH_take (i := 9) (v := ?_) rfl (by kernel_rfl) (by kernel_rfl) (by kernel_rfl) (fun _ _ _ h => h) (Or.inl ⟨by rfl, ?_⟩) (by assumption) ?_
    rotate_left
    focus
      intro U hU
      try dsimp only at hU
      go_simp
      try (with_reducible rfl)
    simp only [List.getElem_toArray, List.getElem_cons_succ, List.getElem_cons_zero, Act.put, List.setIfInBounds_toArray, List.set_cons_zero, List.set_cons_succ]
    refine wpAnyH_ready (rs := [10]) (by kernel_rfl) (by simp) ?_
    refine AllReadyH.cons rfl (fun K hK => ?_) AllReadyH.nil
    simp only [List.getElem_toArray, List.getElem_cons_succ, List.getElem_cons_zero]
    go_simp
    refine (HPB2.out v1 hkz).mono ?_
    rintro q v2 ⟨rfl, hb1⟩
    have hky := hkz.trans (hb1.mono hkz.size)
    clear hb1
    go_wp2_with fail
    refine hK.out _ _ ?_ (fun hHeld2 => ?_)
    focus
      exact hSU _ hky
    clear hHeld
    have hHeld := hHeld2
    clear hHeld2 hK K
    try simp only [List.getElem_toArray, List.getElem_cons_succ, List.getElem_cons_zero, Act.put, List.setIfInBounds_toArray, List.set_cons_zero, List.set_cons_succ]
    refine wpAnyH_take (i := 11) (v := ?_) rfl (by kernel_rfl) (by kernel_rfl) (by kernel_rfl) (fun _ _ _ h => h) (Or.inl ⟨by rfl, ?_⟩) (by assumption) ?_
    rotate_left
    focus
      intro U hU
      try dsimp only at hU
      go_simp
      try (with_reducible rfl)
    simp only [List.getElem_toArray, List.getElem_cons_succ, List.getElem_cons_zero, Act.put, List.setIfInBounds_toArray, List.set_cons_zero, List.set_cons_succ]
    refine wpAnyH_take (i := 12) (v := ?_) rfl (by kernel_rfl) (by kernel_rfl) (by kernel_rfl) (fun _ _ _ h => h) (Or.inl ⟨by rfl, ?_⟩) (by assumption) ?_
    rotate_left
    focus
      intro U hU
      try dsimp only at hU
      go_simp
      try (with_reducible rfl)
    simp only [List.getElem_toArray, List.getElem_cons_succ, List.getElem_cons_zero, Act.put, List.setIfInBounds_toArray, List.set_cons_zero, List.set_cons_succ]
    refine wpAnyH_take (i := 13) (v := ?_) rfl (by kernel_rfl) (by kernel_rfl) (by kernel_rfl) (fun _ _ _ h => h) (Or.inl ⟨by rfl, ?_⟩) (by assumption) ?_
    rotate_left
    focus
      intro U hU
      try dsimp only at hU
      go_simp
      try (with_reducible rfl)
    simp only [List.getElem_toArray, List.getElem_cons_succ, List.getElem_cons_zero, Act.put, List.setIfInBounds_toArray, List.set_cons_zero, List.set_cons_succ]
    refine wpAnyH_done (by kernel_rfl) ?_ _
    have HFIN := hid (HB2.out.trans (hky.mono HB2.out.size))
    clear hHeld hSU
    go_wp2
    go_ret
    exact ⟨rfl, HFIN.out⟩
end Go.Proofs.Ytgakobolhmdnnaa
