/- net: Clone tells where its row lies; the document's net and texts beside a call. -/
import Derived.Test.YtdphdodjidbngaaNetT
import Derived.Test.YtdphdodjidbngaaNetQ
namespace Go.Proofs.Ytdphdodjidbngaa
open Go.RowKit
set_option linter.unusedVariables false
set_option linter.unusedSimpArgs false

theorem RnAt.oth {B b c : Nat} {m m' : Int} {l l' : List Tg} {w w' : World} (h : RnAt B c m l w) (hn : NetAt B b m' l' w) (ho : Oth b w w') : RnAt B c m l w' := by
  have hbc := Two.ne hn h
  obtain ⟨h0, A, cap, h1, h2⟩ := h
  obtain ⟨_, A0, c0, h3, h4⟩ := hn
  have e0 := (two_cells h3).2.1
  refine ⟨h0, A, cap, ho.keep c _ (fun h => hbc h.symm) (fun v hv he => ?_) h1, own_other2 h2 fun g hg => ?_⟩
  · rw [e0] at hv
    cases hv
    exact own_blk_ne2 h4 h1 (by decide) he
  · obtain ⟨_, _, cur, hg1⟩ := own_lt h2 g hg
    rw [hg1]
    refine ho.keep g _ (own_apart_blk h2 h3 (by decide) g hg) (fun v hv he => ?_) hg1
    rw [e0] at hv
    cases hv
    exact own_apart h4 h2 (by decide) g he hg
/-- A block of another kind stands. -/
theorem Oth.blk {B b k T : Nat} {m : Int} {l : List Tg} {w w' : World} {cs : Array Value} {fr : Nat × Nat} (ho : Oth b w w') (hn : NetAt B b m l w) (hk : k ≠ b) (hT : 60 ≠ T) (h : w.heap[k]? = some (.cells cs T fr)) : w'.heap[k]? = some (.cells cs T fr) := by
  obtain ⟨_, A0, c0, h3, h4⟩ := hn
  refine ho.keep k _ hk (fun v hv he => ?_) h
  rw [(two_cells h3).2.1] at hv
  cases hv
  exact own_blk_ne2 h4 h hT he
theorem nsend_x (B b N : Nat) (m : Int) (l : List Tg) (w : World) (h : NetAt B b m l w) (hN : w.heap[N]? = some (.cells #[.string ⟨#[120]⟩] 9 (0, 0))) (hne : N ≠ b) (hB : B ≤ w.heap.size) (hl : l.length ≤ 50000) :
    Calls Try.prog 25 #[.pointer (some ⟨b, 0, none⟩), .int .i64 3, .int .i64 4, .slice (some ⟨N, 0, none⟩) 1 1] w fun e w' => ∃ r : Int, e = .returned (.int .i64 r) ∧ NetAt B b m (sendL m 3 4 l [[120]]) w' ∧ Below B w w' ∧ Oth b w w' := by
  have hs : ∀ w', w'.heap[N]? = some (.cells #[.string ⟨#[120]⟩] 9 (0, 0)) → Sl w' 1 (some ⟨N, 0, none⟩) 1 1 (scells [[120]]) := fun w' h9 => ⟨rfl, Nat.le_refl _, by unfold maxLen; omega, fun _ => ⟨N, 0, rfl, fun i hi => by
    have hi2 : i < 1 := hi
    rw [cell_of_row _ N (0 + i) _ _ (0, 0) h9, Nat.zero_add]
    obtain rfl : i = 0 := by omega
    rfl⟩⟩
  have h1 := nsend_oth B b m 3 4 l (some ⟨N, 0, none⟩) 1 [[120]] w h (hs w hN) (fun w' _ ho => hs w' (ho.blk h hne (by decide) hN)) hB hl (by simp)
  refine h1.mono ?_
  rintro e w' ⟨rfl, hn, hb, ho⟩
  exact ⟨_, rfl, hn, hb, ho⟩
theorem same_one (x : Tg) (N N' c c' : Nat) (W : World) (h : W.heap[N]? = some (.cells (tc x) 60 (0, 0))) (h' : W.heap[N']? = some (.cells (tc x) 64 (0, 0))) : Calls Try.prog 29 #[.slice (some ⟨N, 0, none⟩) 1 1, .slice (some ⟨N', 0, none⟩) 1 1] W fun e w' => e = .returned (.bool true) ∧ Below W.heap.size W w' :=
  same_yes (some ⟨N, 0, none⟩) (some ⟨N', 0, none⟩) 1 1 [x] W (sl_blk4 h) (sl_blk4 h')
theorem rowlt {B b : Nat} {m : Int} {l : List Tg} {w w' : World} (h : NetAt B b m l w) (hb : Below w.heap.size w w') (v : Value) (k : Nat) (hv : w'.cell? ⟨b, 1, none⟩ = some v) (hk : v.ownBlock = some k) : k < w.heap.size := by
  obtain ⟨h0, A, c, h1, h2⟩ := h
  have e0 := (two_cells (keep0 h1 hb)).2.1
  have e1 := e0.symm.trans hv
  cases e1
  exact (own_lt h2 k hk).2.1
set_option maxRecDepth 20000 in
set_option maxHeartbeats 2000000 in
theorem nclone_far (B b : Nat) (m : Int) (l : List Tg) (W : World) (h : NetAt B b m l W) (hB : B ≤ W.heap.size) (hl : l.length ≤ 100000) : Calls Try.prog 34 #[.pointer (some ⟨b, 0, none⟩)] W fun e w' => ∃ b', W.heap.size ≤ b' ∧ e = .returned (.pointer (some ⟨b', 0, none⟩)) ∧ Below W.heap.size W w' ∧ NetAt B b' m l w' ∧ (∀ v k, w'.cell? ⟨b', 1, none⟩ = some v → v.ownBlock = some k → W.heap.size ≤ k) := by
  have HL := hid (fun u (hu : Below W.heap.size W u) => nlist_any B b m l u (h.below hu) hl)
  obtain ⟨h0, A, c, h1, h2⟩ := h
  have H1 := hid h1
  clear h0 h1 h2
  have HB0 := hid hB
  go_enter Try.func34, Try.ntmps34
  have hS : ∀ U, Below W.heap.size W U → (U.cell? ⟨b, 0, none⟩ = some (.int .i64 m)) ∧ Below W.heap.size W U := fun U hU => ⟨(two_cells (keep0 H1.out hU)).1, hU⟩
  go_upto_region 3 with (fail)
  have hu0 : Below W.heap.size W W.drew := below_drew (Below.refl _ _)
  refine wp_region_held_drew (S := fun U => (U.cell? ⟨b, 0, none⟩ = some (.int .i64 m)) ∧ Below W.heap.size W U) (by kernel_rfl) (hS _ hu0) (fun hHeld => ?_)
  generalize W.drew = u0 at *
  refine wpAnyH_take (i := 0) (v := ?_) rfl (by kernel_rfl) (by kernel_rfl) (by kernel_rfl) (fun _ _ _ h => h) (Or.inl ⟨by rfl, ?_⟩) (by assumption) ?_
  rotate_left
  focus
    intro U hU
    try dsimp only at hU
    go_simp
    try (with_reducible rfl)
  simp only [List.getElem_toArray, List.getElem_cons_succ, List.getElem_cons_zero, Act.put, List.setIfInBounds_toArray, List.set_cons_zero, List.set_cons_succ]
  refine wpAnyH_take (i := 1) (v := ?_) rfl (by kernel_rfl) (by kernel_rfl) (by kernel_rfl) (fun _ _ _ h => h) (Or.inl ⟨by rfl, ?_⟩) (by assumption) ?_
  rotate_left
  focus
    intro U hU
    try dsimp only at hU
    go_simp
    try (with_reducible rfl)
  simp only [List.getElem_toArray, List.getElem_cons_succ, List.getElem_cons_zero, Act.put, List.setIfInBounds_toArray, List.set_cons_zero, List.set_cons_succ]
  refine wpAnyH_take (i := 2) (v := ?_) rfl (by kernel_rfl) (by kernel_rfl) (by kernel_rfl) (fun _ _ _ h => h) (Or.inl ⟨by rfl, ?_⟩) (by assumption) ?_
  rotate_left
  focus
    intro U hU
    try dsimp only at hU
    go_simp
    try (with_reducible rfl)
  simp only [List.getElem_toArray, List.getElem_cons_succ, List.getElem_cons_zero, Act.put, List.setIfInBounds_toArray, List.set_cons_zero, List.set_cons_succ]
  refine wpAnyH_take (i := 3) (v := ?_) rfl (by kernel_rfl) (by kernel_rfl) (by kernel_rfl) (fun _ _ _ h => h) (Or.inl ⟨by rfl, ?_⟩) (by assumption) ?_
  rotate_left
  focus
    intro U hU
    try dsimp only at hU
    go_simp
    try (with_reducible rfl)
  simp only [List.getElem_toArray, List.getElem_cons_succ, List.getElem_cons_zero, Act.put, List.setIfInBounds_toArray, List.set_cons_zero, List.set_cons_succ]
  refine wpAnyH_take (i := 4) (v := ?_) rfl (by kernel_rfl) (by kernel_rfl) (by kernel_rfl) (fun _ _ _ h => h) (Or.inl ⟨by rfl, ?_⟩) (by assumption) ?_
  rotate_left
  focus
    intro U hU
    try dsimp only at hU
    go_simp
    try (with_reducible rfl)
  simp only [List.getElem_toArray, List.getElem_cons_succ, List.getElem_cons_zero, Act.put, List.setIfInBounds_toArray, List.set_cons_zero, List.set_cons_succ]
  refine wpAnyH_ready (rs := [5]) (by kernel_rfl) (by simp) ?_
  refine AllReadyH.cons rfl (fun K hK => ?_) AllReadyH.nil
  simp only [List.getElem_toArray, List.getElem_cons_succ, List.getElem_cons_zero]
  go_simp
  refine (HL.out _ hu0).mono ?_
  rintro q u1 ⟨A5, c5, rfl, hb1, ho⟩
  have hu1 : Below W.heap.size W u1 := hu0.trans (hb1.mono hu0.size)
  have HG := hid (fun g (hg : (Value.slice A5 l.length c5).ownBlock = some g) => Nat.le_trans hu0.size (own_lt ho g hg).1)
  have HO := hid (own_mono ho (show B ≤ u0.heap.size from Nat.le_trans HB0.out hu0.size))
  clear hb1 ho
  go_wp2_with fail
  refine hK.out _ _ ?_ (fun hHeld2 => ?_)
  focus
    exact hS _ (by first | with_reducible assumption | exact bel_alloc hu1 _)
  clear hHeld
  have hHeld := hHeld2
  clear hHeld2 hK K
  try simp only [List.getElem_toArray, List.getElem_cons_succ, List.getElem_cons_zero, Act.put, List.setIfInBounds_toArray, List.set_cons_zero, List.set_cons_succ]
  refine wpAnyH_take (i := 6) (v := ?_) rfl (by kernel_rfl) (by kernel_rfl) (by kernel_rfl) (fun _ _ _ h => h) (Or.inl ⟨by rfl, ?_⟩) (by assumption) ?_
  rotate_left
  focus
    intro U hU
    try dsimp only at hU
    go_simp
    try (with_reducible rfl)
  simp only [List.getElem_toArray, List.getElem_cons_succ, List.getElem_cons_zero, Act.put, List.setIfInBounds_toArray, List.set_cons_zero, List.set_cons_succ]
  refine wpAnyH_ready (rs := [7]) (by kernel_rfl) (by simp) ?_
  refine AllReadyH.cons rfl (fun K hK => ?_) AllReadyH.nil
  simp only [List.getElem_toArray, List.getElem_cons_succ, List.getElem_cons_zero]
  go_simp
  refine hK.out _ _ ?_ (fun hHeld2 => ?_)
  focus
    exact hS _ (by first | with_reducible assumption | exact bel_alloc hu1 _)
  clear hHeld
  have hHeld := hHeld2
  clear hHeld2 hK K
  try simp only [List.getElem_toArray, List.getElem_cons_succ, List.getElem_cons_zero, Act.put, List.setIfInBounds_toArray, List.set_cons_zero, List.set_cons_succ]
  refine wpAnyH_take (i := 8) (v := ?_) rfl (by kernel_rfl) (by kernel_rfl) (by kernel_rfl) (fun _ _ _ h => h) (Or.inl ⟨by rfl, ?_⟩) (by assumption) ?_
  rotate_left
  focus
    intro U hU
    try dsimp only at hU
    go_simp
    try (with_reducible rfl)
  simp only [List.getElem_toArray, List.getElem_cons_succ, List.getElem_cons_zero, Act.put, List.setIfInBounds_toArray, List.set_cons_zero, List.set_cons_succ]
  refine wpAnyH_done (by kernel_rfl) ?_ _
  clear hHeld hS
  have hal : Below u1.heap.size u1 (u1.alloc (.cells #[.int .i64 m, .slice A5 l.length c5] 133)) := bel_alloc (Below.refl _ _) _
  have HR := hid (And.intro (heap_alloc_new u1 (.cells #[.int .i64 m, .slice A5 l.length c5] 133)) (And.intro (own_keep HO.out hal) (hu1.trans (hal.mono hu1.size))))
  have HSZ := hid (And.intro hu1.size (Nat.le_trans HB0.out hu1.size))
  clear hal hu0 hu1 HO HL H1
  go_wp2
  go_ret
  refine ⟨_, HSZ.out.1, rfl, HR.out.2.2, ⟨HSZ.out.2, _, _, HR.out.1, HR.out.2.1⟩, fun v k hv hk => ?_⟩
  have e0 := (two_cells HR.out.1).2.1
  have e1 := e0.symm.trans hv
  cases e1
  exact HG.out k hk
end Go.Proofs.Ytdphdodjidbngaa
