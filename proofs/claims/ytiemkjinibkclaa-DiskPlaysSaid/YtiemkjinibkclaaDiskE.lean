/- The works of the disk's law. -/
import Derived.Test.YtiemkjinibkclaaDiskD
import Derived.Deep.RegionHeld3
namespace Go.Proofs.Ytiemkjinibkclaa
open Go.RowKit
set_option linter.unusedVariables false
set_option linter.unusedSimpArgs false

theorem lit12 (W : World) (n : Nat) (hn : W.heap.size = n) : IsBytes (W.alloc (.cells #[.int .u8 1, .int .u8 2] 5)) (some ⟨n, 0, none⟩) 2 2 [1, 2] := by
  subst hn
  exact Sl.lit W 5 1 2 #[.int .u8 1, .int .u8 2] rfl (by unfold maxLen; omega)
theorem lit00 (W : World) (n : Nat) (hn : W.heap.size = n) : IsBytes (W.alloc (.cells (Array.replicate 5 (.int .u8 0)) 5)) (some ⟨n, 0, none⟩) 5 5 [0, 0, 0, 0, 0] := by
  subst hn
  exact Sl.lit W 5 1 5 (Array.replicate 5 (.int .u8 0)) rfl (by unfold maxLen; omega)
theorem bl1 (w : World) (o : Obj) : Below w.heap.size w (w.alloc o) := (Below.refl _ _).alloc (Nat.le_refl _) _
theorem bl2 (w : World) (o o' : Obj) : Below w.heap.size w ((w.alloc o).alloc o') := below2 w o o'

set_option maxRecDepth 20000 in
set_option maxHeartbeats 400000 in
theorem works16_any (W : World) : Calls Try.prog 19 #[] W fun e w' => e = .returned (.bool true) ∧ Below W.heap.size W w' := by
  have HN := hid (dnew_in 5 (by omega) W)
  have HU := hid (fun w (h : DiskAt w W.heap.size 5 [] false 0) => dfuse_any W.heap.size 5 [] false 0 1 w h)
  have HA1 := hid (fun w A (h : DiskAt w W.heap.size 5 [] true 1) (h2 : IsBytes w A 2 2 [1, 2]) => dappend_any W.heap.size 5 [] [1, 2] true 1 A 2 w h h2 (by omega) (by simp) (by simp))
  have HA2 := hid (fun w A (h : DiskAt w W.heap.size 5 [1] false 1) (h2 : IsBytes w A 5 5 [0, 0, 0, 0, 0]) => dappend_any W.heap.size 5 [1] [0, 0, 0, 0, 0] false 1 A 5 w h h2 (by omega) (by simp) (by simp))
  rw [show apE 5 [] [1, 2] true = 14 by decide, show apL 5 [] [1, 2] true 1 = [1] by decide, show apA 5 [] [1, 2] true = false by decide] at HA1
  rw [show apE 5 [1] [0, 0, 0, 0, 0] false = 7 by decide, show apL 5 [1] [0, 0, 0, 0, 0] false 1 = [1] by decide, show apA 5 [1] [0, 0, 0, 0, 0] false = false by decide] at HA2
  have HS := hid (fun w (h : DiskAt w W.heap.size 5 [1] false 1) => dsize_any W.heap.size 5 [1] false 1 w h)
  have HF := hid (fun w (h : DiskAt w W.heap.size 5 [1] false 1) => dfree_any W.heap.size 5 [1] false 1 w h (by omega) (by simp))
  go_enter Try.func19, Try.ntmps19
  go_wp2_with fail
  refine HN.out.mono ?_
  rintro x w1 ⟨rfl, hD1, hb1⟩
  have HD1 := hid hD1
  have HB1 := hid hb1
  clear hD1 hb1 HN
  go_wp2_with fail
  refine (HU.out w1 HD1.out).mono ?_
  rintro x w2 ⟨⟨v, rfl⟩, hD2, hO2⟩
  have HD2 : Hid (DiskAt w2 W.heap.size 5 [] true 1) := hid hD2
  have HB2 := hid (HB1.out.trans (hO2.below W.heap.size (Nat.le_refl _) HB1.out.size))
  clear hD2 hO2 HD1 HB1 HU
  go_upto_region 3 with (fail)
  have HD3 := hid (HD2.out.below (below_drew (Below.refl _ _)))
  have HX : Hid (∀ w w' A, Only W.heap.size w w' → DiskAt w W.heap.size 5 [] true 1 → IsBytes w A 5 5 [0, 0, 0, 0, 0] → IsBytes w' A 5 5 [0, 0, 0, 0, 0]) := hid (fun w w' A ho hd hi => isBytes_disk hi hd ho)
  have hmk : ∀ W : World, (Instr.makeSlice 39 (.int .i64 5) (.int .i64 5)).run Try.prog W = .ok (.slice (some ⟨W.heap.size, 0, none⟩) 5 5) (W.alloc (.cells (Array.replicate 5 (.int .u8 0)) 5)) := fun W => run_make_1 (P := Try.prog) 39 5 Try.underlying39 info_u8 rfl 5 5 (Nat.le_refl _) (by omega) (by unfold maxLen; omega) W
  have HB3 := hid (show Below W.heap.size W w2.drew from below_drew HB2.out)
  refine Go.wp_region_held_drew (S := fun _ => True) (by kernel_rfl) trivial (fun hHeld => ?_)
  refine wpAnyH_take (i := 0) (v := ?_) rfl (by kernel_rfl) (by kernel_rfl) (by kernel_rfl) (fun _ _ _ h => h) (Or.inl ⟨by rfl, ?_⟩) (by assumption) ?_
  rotate_left
  focus
    intro U hU
    try dsimp only at hU
    go_simp
    try (with_reducible rfl)
  simp only [List.getElem_toArray, List.getElem_cons_succ, List.getElem_cons_zero, Act.put, List.setIfInBounds_toArray, List.set_cons_zero, List.set_cons_succ]
  refine wpAnyH_take (i := 3) (v := ?_) rfl (by kernel_rfl) (by kernel_rfl) (by kernel_rfl) (fun _ _ _ h => h) (Or.inl ⟨by rfl, ?_⟩) (by assumption) ?_
  rotate_left
  focus
    intro U hU
    try dsimp only at hU
    go_simp
    try (with_reducible rfl)
  simp only [List.getElem_toArray, List.getElem_cons_succ, List.getElem_cons_zero, Act.put, List.setIfInBounds_toArray, List.set_cons_zero, List.set_cons_succ]
  refine wpAnyH_ready (rs := [1, 4]) (by kernel_rfl) (by simp) ?_
  refine AllReadyH.cons rfl (fun K hK => ?_) (AllReadyH.cons rfl (fun K hK => ?_) AllReadyH.nil)
  · simp only [List.getElem_toArray, List.getElem_cons_succ, List.getElem_cons_zero]
    go_simp
    refine hK.out _ _ ?_ (fun hHeld2 => ?_)
    focus
      trivial
    clear hHeld
    have hHeld := hHeld2
    clear hHeld2 hK K
    try simp only [List.getElem_toArray, List.getElem_cons_succ, List.getElem_cons_zero, Act.put, List.setIfInBounds_toArray, List.set_cons_zero, List.set_cons_succ]
    refine wpAnyH_ready (rs := [2, 4]) (by kernel_rfl) (by simp) ?_
    refine AllReadyH.cons rfl (fun K hK => ?_) (AllReadyH.cons rfl (fun K hK => ?_) AllReadyH.nil)
    · simp only [List.getElem_toArray, List.getElem_cons_succ, List.getElem_cons_zero]
      go_simp
      refine (HA1.out _ _ (HD3.out.below (bl1 _ _)) (lit12 w2.drew _ rfl)).mono ?_
      rintro x u1 ⟨rfl, hD4, hO4⟩
      have hBU1 : Below W.heap.size W u1 := HB3.out.trans (((bl1 w2.drew _).mono HB3.out.size).trans (hO4.below W.heap.size (Nat.le_refl _) (by simp only [World.size_alloc]; have := HB3.out.size; omega)))
      go_wp2_with fail
      refine hK.out _ _ ?_ (fun hHeld2 => ?_)
      focus
        trivial
      clear hHeld
      have hHeld := hHeld2
      clear hHeld2 hK K
      try simp only [List.getElem_toArray, List.getElem_cons_succ, List.getElem_cons_zero, Act.put, List.setIfInBounds_toArray, List.set_cons_zero, List.set_cons_succ]
      refine wpAnyH_ready (rs := [4]) (by kernel_rfl) (by simp) ?_
      refine AllReadyH.cons rfl (fun K hK => ?_) AllReadyH.nil
      simp only [List.getElem_toArray, List.getElem_cons_succ, List.getElem_cons_zero]
      go_simp
      refine hK.out _ _ ?_ (fun hHeld2 => ?_)
      focus
        trivial
      clear hHeld
      have hHeld := hHeld2
      clear hHeld2 hK K
      try simp only [List.getElem_toArray, List.getElem_cons_succ, List.getElem_cons_zero, Act.put, List.setIfInBounds_toArray, List.set_cons_zero, List.set_cons_succ]
      refine wpAnyH_ready (rs := [5]) (by kernel_rfl) (by simp) ?_
      refine AllReadyH.cons rfl (fun K hK => ?_) AllReadyH.nil
      simp only [List.getElem_toArray, List.getElem_cons_succ, List.getElem_cons_zero]
      go_simp
      refine (HA2.out _ _ (hD4.below (bl1 _ _)) (lit00 u1 _ rfl)).mono ?_
      rintro x u2 ⟨rfl, hD5, hO5⟩
      have hBU2 : Below W.heap.size W u2 := hBU1.trans (((bl1 u1 _).mono hBU1.size).trans (hO5.below W.heap.size (Nat.le_refl _) (by simp only [World.size_alloc]; have := hBU1.size; omega)))
      go_wp2_with fail
      refine hK.out _ _ ?_ (fun hHeld2 => ?_)
      focus
        trivial
      clear hHeld
      have hHeld := hHeld2
      clear hHeld2 hK K
      try simp only [List.getElem_toArray, List.getElem_cons_succ, List.getElem_cons_zero, Act.put, List.setIfInBounds_toArray, List.set_cons_zero, List.set_cons_succ]
      refine wpAnyH_take (i := 6) (v := ?_) rfl (by kernel_rfl) (by kernel_rfl) (by kernel_rfl) (fun _ _ _ h => h) (Or.inl ⟨by rfl, ?_⟩) (by assumption) ?_
      rotate_left
      focus
        intro U hU
        try dsimp only at hU
        go_simp
        try (with_reducible rfl)
      simp only [List.getElem_toArray, List.getElem_cons_succ, List.getElem_cons_zero, Act.put, List.setIfInBounds_toArray, List.set_cons_zero, List.set_cons_succ]
      refine wpAnyH_take (i := 7) (v := ?_) rfl (by kernel_rfl) (by kernel_rfl) (by kernel_rfl) (fun _ _ _ h => h) (Or.inl ⟨by rfl, ?_⟩) (by assumption) ?_
      rotate_left
      focus
        intro U hU
        try dsimp only at hU
        go_simp
        try (with_reducible rfl)
      simp only [List.getElem_toArray, List.getElem_cons_succ, List.getElem_cons_zero, Act.put, List.setIfInBounds_toArray, List.set_cons_zero, List.set_cons_succ]
      refine wpAnyH_done (by kernel_rfl) ?_ _
      have HD5 := hid hD5
      have HBU2 := hid hBU2
      clear hD4 hO4 hD5 hO5 hBU1 hBU2 hmk
      go_wp2_with (first
        | (go_at_call 29; refine (HS.out _ HD5.out).mono ?_; rintro x w' ⟨rfl, rfl⟩)
        | (go_at_call 30; refine (HF.out _ HD5.out).mono ?_; rintro x w' ⟨rfl, q, rfl⟩))
      go_ret
      exact ⟨rfl, HBU2.out.trans ((below_drewN0 _ _).mono HBU2.out.size)⟩
    · simp only [List.getElem_toArray, List.getElem_cons_succ, List.getElem_cons_zero]
      go_simp
      refine hK.out _ _ ?_ (fun hHeld2 => ?_)
      focus
        trivial
      clear hHeld
      have hHeld := hHeld2
      clear hHeld2 hK K
      try simp only [List.getElem_toArray, List.getElem_cons_succ, List.getElem_cons_zero, Act.put, List.setIfInBounds_toArray, List.set_cons_zero, List.set_cons_succ]
      refine wpAnyH_ready (rs := [2]) (by kernel_rfl) (by simp) ?_
      refine AllReadyH.cons rfl (fun K hK => ?_) AllReadyH.nil
      simp only [List.getElem_toArray, List.getElem_cons_succ, List.getElem_cons_zero]
      go_simp
      refine (HA1.out _ _ (HD3.out.below (bl2 _ _ _)) ((lit12 w2.drew _ rfl).below (bl1 _ _))).mono ?_
      rintro x u1 ⟨rfl, hD4, hO4⟩
      have hBU1 : Below W.heap.size W u1 := HB3.out.trans (((bl2 w2.drew _ _).mono HB3.out.size).trans (hO4.below W.heap.size (Nat.le_refl _) (by simp only [World.size_alloc]; have := HB3.out.size; omega)))
      go_wp2_with fail
      refine hK.out _ _ ?_ (fun hHeld2 => ?_)
      focus
        trivial
      clear hHeld
      have hHeld := hHeld2
      clear hHeld2 hK K
      try simp only [List.getElem_toArray, List.getElem_cons_succ, List.getElem_cons_zero, Act.put, List.setIfInBounds_toArray, List.set_cons_zero, List.set_cons_succ]
      refine wpAnyH_ready (rs := [5]) (by kernel_rfl) (by simp) ?_
      refine AllReadyH.cons rfl (fun K hK => ?_) AllReadyH.nil
      simp only [List.getElem_toArray, List.getElem_cons_succ, List.getElem_cons_zero]
      go_simp
      refine (HA2.out _ _ (hD4) (HX.out _ _ _ hO4 (HD3.out.below (bl2 _ _ _)) (lit00 (w2.drew.alloc _) _ (World.size_alloc _ _)))).mono ?_
      rintro x u2 ⟨rfl, hD5, hO5⟩
      have hBU2 : Below W.heap.size W u2 := hBU1.trans (hO5.below W.heap.size (Nat.le_refl _) hBU1.size)
      go_wp2_with fail
      refine hK.out _ _ ?_ (fun hHeld2 => ?_)
      focus
        trivial
      clear hHeld
      have hHeld := hHeld2
      clear hHeld2 hK K
      try simp only [List.getElem_toArray, List.getElem_cons_succ, List.getElem_cons_zero, Act.put, List.setIfInBounds_toArray, List.set_cons_zero, List.set_cons_succ]
      refine wpAnyH_take (i := 6) (v := ?_) rfl (by kernel_rfl) (by kernel_rfl) (by kernel_rfl) (fun _ _ _ h => h) (Or.inl ⟨by rfl, ?_⟩) (by assumption) ?_
      rotate_left
      focus
        intro U hU
        try dsimp only at hU
        go_simp
        try (with_reducible rfl)
      simp only [List.getElem_toArray, List.getElem_cons_succ, List.getElem_cons_zero, Act.put, List.setIfInBounds_toArray, List.set_cons_zero, List.set_cons_succ]
      refine wpAnyH_take (i := 7) (v := ?_) rfl (by kernel_rfl) (by kernel_rfl) (by kernel_rfl) (fun _ _ _ h => h) (Or.inl ⟨by rfl, ?_⟩) (by assumption) ?_
      rotate_left
      focus
        intro U hU
        try dsimp only at hU
        go_simp
        try (with_reducible rfl)
      simp only [List.getElem_toArray, List.getElem_cons_succ, List.getElem_cons_zero, Act.put, List.setIfInBounds_toArray, List.set_cons_zero, List.set_cons_succ]
      refine wpAnyH_done (by kernel_rfl) ?_ _
      have HD5 := hid hD5
      have HBU2 := hid hBU2
      clear hD4 hO4 hD5 hO5 hBU1 hBU2 hmk
      go_wp2_with (first
        | (go_at_call 29; refine (HS.out _ HD5.out).mono ?_; rintro x w' ⟨rfl, rfl⟩)
        | (go_at_call 30; refine (HF.out _ HD5.out).mono ?_; rintro x w' ⟨rfl, q, rfl⟩))
      go_ret
      exact ⟨rfl, HBU2.out.trans ((below_drewN0 _ _).mono HBU2.out.size)⟩
  · simp only [List.getElem_toArray, List.getElem_cons_succ, List.getElem_cons_zero]
    go_simp
    refine hK.out _ _ ?_ (fun hHeld2 => ?_)
    focus
      trivial
    clear hHeld
    have hHeld := hHeld2
    clear hHeld2 hK K
    try simp only [List.getElem_toArray, List.getElem_cons_succ, List.getElem_cons_zero, Act.put, List.setIfInBounds_toArray, List.set_cons_zero, List.set_cons_succ]
    refine wpAnyH_ready (rs := [1]) (by kernel_rfl) (by simp) ?_
    refine AllReadyH.cons rfl (fun K hK => ?_) AllReadyH.nil
    simp only [List.getElem_toArray, List.getElem_cons_succ, List.getElem_cons_zero]
    go_simp
    refine hK.out _ _ ?_ (fun hHeld2 => ?_)
    focus
      trivial
    clear hHeld
    have hHeld := hHeld2
    clear hHeld2 hK K
    try simp only [List.getElem_toArray, List.getElem_cons_succ, List.getElem_cons_zero, Act.put, List.setIfInBounds_toArray, List.set_cons_zero, List.set_cons_succ]
    refine wpAnyH_ready (rs := [2]) (by kernel_rfl) (by simp) ?_
    refine AllReadyH.cons rfl (fun K hK => ?_) AllReadyH.nil
    simp only [List.getElem_toArray, List.getElem_cons_succ, List.getElem_cons_zero]
    go_simp
    refine (HA1.out _ _ (HD3.out.below (bl2 _ _ _)) (lit12 (w2.drew.alloc _) _ (World.size_alloc _ _))).mono ?_
    rintro x u1 ⟨rfl, hD4, hO4⟩
    have hBU1 : Below W.heap.size W u1 := HB3.out.trans (((bl2 w2.drew _ _).mono HB3.out.size).trans (hO4.below W.heap.size (Nat.le_refl _) (by simp only [World.size_alloc]; have := HB3.out.size; omega)))
    go_wp2_with fail
    refine hK.out _ _ ?_ (fun hHeld2 => ?_)
    focus
      trivial
    clear hHeld
    have hHeld := hHeld2
    clear hHeld2 hK K
    try simp only [List.getElem_toArray, List.getElem_cons_succ, List.getElem_cons_zero, Act.put, List.setIfInBounds_toArray, List.set_cons_zero, List.set_cons_succ]
    refine wpAnyH_ready (rs := [5]) (by kernel_rfl) (by simp) ?_
    refine AllReadyH.cons rfl (fun K hK => ?_) AllReadyH.nil
    simp only [List.getElem_toArray, List.getElem_cons_succ, List.getElem_cons_zero]
    go_simp
    refine (HA2.out _ _ (hD4) (HX.out _ _ _ hO4 (HD3.out.below (bl2 _ _ _)) ((lit00 w2.drew _ rfl).below (bl1 _ _)))).mono ?_
    rintro x u2 ⟨rfl, hD5, hO5⟩
    have hBU2 : Below W.heap.size W u2 := hBU1.trans (hO5.below W.heap.size (Nat.le_refl _) hBU1.size)
    go_wp2_with fail
    refine hK.out _ _ ?_ (fun hHeld2 => ?_)
    focus
      trivial
    clear hHeld
    have hHeld := hHeld2
    clear hHeld2 hK K
    try simp only [List.getElem_toArray, List.getElem_cons_succ, List.getElem_cons_zero, Act.put, List.setIfInBounds_toArray, List.set_cons_zero, List.set_cons_succ]
    refine wpAnyH_take (i := 6) (v := ?_) rfl (by kernel_rfl) (by kernel_rfl) (by kernel_rfl) (fun _ _ _ h => h) (Or.inl ⟨by rfl, ?_⟩) (by assumption) ?_
    rotate_left
    focus
      intro U hU
      try dsimp only at hU
      go_simp
      try (with_reducible rfl)
    simp only [List.getElem_toArray, List.getElem_cons_succ, List.getElem_cons_zero, Act.put, List.setIfInBounds_toArray, List.set_cons_zero, List.set_cons_succ]
    refine wpAnyH_take (i := 7) (v := ?_) rfl (by kernel_rfl) (by kernel_rfl) (by kernel_rfl) (fun _ _ _ h => h) (Or.inl ⟨by rfl, ?_⟩) (by assumption) ?_
    rotate_left
    focus
      intro U hU
      try dsimp only at hU
      go_simp
      try (with_reducible rfl)
    simp only [List.getElem_toArray, List.getElem_cons_succ, List.getElem_cons_zero, Act.put, List.setIfInBounds_toArray, List.set_cons_zero, List.set_cons_succ]
    refine wpAnyH_done (by kernel_rfl) ?_ _
    have HD5 := hid hD5
    have HBU2 := hid hBU2
    clear hD4 hO4 hD5 hO5 hBU1 hBU2 hmk
    go_wp2_with (first
      | (go_at_call 29; refine (HS.out _ HD5.out).mono ?_; rintro x w' ⟨rfl, rfl⟩)
      | (go_at_call 30; refine (HF.out _ HD5.out).mono ?_; rintro x w' ⟨rfl, q, rfl⟩))
    go_ret
    exact ⟨rfl, HBU2.out.trans ((below_drewN0 _ _).mono HBU2.out.size)⟩
end Go.Proofs.Ytiemkjinibkclaa
