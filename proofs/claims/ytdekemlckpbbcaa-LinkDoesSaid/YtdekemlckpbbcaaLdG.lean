/- The program's outbox and end of the document's: contracts. -/
import Derived.Test.YtdekemlckpbbcaaLdF
namespace Go.Proofs.Ytdekemlckpbbcaa
open Go.RowKit Go.Sort
set_option linter.unusedVariables false
set_option linter.unusedSimpArgs false

set_option maxRecDepth 20000 in
set_option maxHeartbeats 4000000 in
theorem of24_any (o : Ov) (A : Option Addr) (c : Nat) (W : World) (h : Sl W 1 A o.l.length c (scells o.l)) (hl : o.l.length ≤ 1000) :
    Calls Try.prog 44 #[.agg (oc o A c)] W fun e w' => ∃ A' c', e = .returned (.agg (oc o A' c')) ∧ w'.ownsRow W.heap.size 9 1 (.slice A' o.l.length c') o.l.length (scells o.l) ∧ Below W.heap.size W w' := by
  have HS := hid h
  obtain ⟨p, q, l, wt, fl⟩ := o
  simp only at HS hl
  clear h
  simp only [oc]
  go_enter Try.func44, Try.ntmps44
  go_upto_region 1 with (fail)
  refine at_world (fun u => u.heap[W.heap.size]? = some (.cells #[.int .i64 p, .int .i64 q, .slice A l.length c, .int .i64 wt, .int .i64 fl] 44 (0, 0)) ∧ u.heap[W.heap.size + 1]? = some (.cells oz 28 (0, 0)) ∧ Below W.heap.size W u) ⟨heap_first _ _ _, heap_second _ _ _, below2 _ _ _⟩ ?_
  rintro w1 ⟨hx, hz, hb⟩
  have HX := hid hx
  have HZ := hid hz
  have HB := hid hb
  have hS : ∀ U, Below w1.heap.size w1 U → ((U.cell? ⟨W.heap.size, 0, none⟩ = some (.int .i64 p) ∧ U.cell? ⟨W.heap.size, 1, none⟩ = some (.int .i64 q) ∧ U.cell? ⟨W.heap.size, 2, none⟩ = some (.slice A l.length c) ∧ U.cell? ⟨W.heap.size, 3, none⟩ = some (.int .i64 wt) ∧ U.cell? ⟨W.heap.size, 4, none⟩ = some (.int .i64 fl)) ∧ Below W.heap.size W U) := fun U hU => ⟨(five_cells (keep0 HX.out hU)).1, HB.out.trans (hU.mono HB.out.size)⟩
  have hk0 : Below w1.heap.size w1 w1.drew := below_drew (Below.refl _ _)
  clear hx hz hb
  go_upto_region 1 with (fail)
  refine wp_region_held_drew (S := fun U => (U.cell? ⟨W.heap.size, 0, none⟩ = some (.int .i64 p) ∧ U.cell? ⟨W.heap.size, 1, none⟩ = some (.int .i64 q) ∧ U.cell? ⟨W.heap.size, 2, none⟩ = some (.slice A l.length c) ∧ U.cell? ⟨W.heap.size, 3, none⟩ = some (.int .i64 wt) ∧ U.cell? ⟨W.heap.size, 4, none⟩ = some (.int .i64 fl)) ∧ Below W.heap.size W U) (by kernel_rfl) (hS _ hk0) (fun hHeld => ?_)
  generalize w1.drew = k0 at *
  refine wpAnyH_take (i := 0) (v := ?_) rfl (by kernel_rfl) (by kernel_rfl) (by kernel_rfl) (fun _ _ _ h => h) (Or.inl ⟨by rfl, ?_⟩) (by assumption) ?_
  rotate_left
  focus
    intro U hU
    try dsimp only at hU
    go_simp
    try (with_reducible rfl)
  simp only [List.getElem_toArray, List.getElem_cons_succ, List.getElem_cons_zero, Act.put, List.setIfInBounds_toArray, List.set_cons_zero, List.set_cons_succ]
  refine wpAnyH_take (i := 1) (v := ?_) rfl (by kernel_rfl) (by kernel_rfl) (by kernel_rfl) (fun _ _ _ h => h) (Or.inl ⟨by rfl, ?_⟩) (by assumption) ?_
  rotate_left
  focus
    intro U hU
    try dsimp only at hU
    go_simp
    try (with_reducible rfl)
  simp only [List.getElem_toArray, List.getElem_cons_succ, List.getElem_cons_zero, Act.put, List.setIfInBounds_toArray, List.set_cons_zero, List.set_cons_succ]
  refine wpAnyH_take (i := 2) (v := ?_) rfl (by kernel_rfl) (by kernel_rfl) (by kernel_rfl) (fun _ _ _ h => h) (Or.inl ⟨by rfl, ?_⟩) (by assumption) ?_
  rotate_left
  focus
    intro U hU
    try dsimp only at hU
    go_simp
    try (with_reducible rfl)
  simp only [List.getElem_toArray, List.getElem_cons_succ, List.getElem_cons_zero, Act.put, List.setIfInBounds_toArray, List.set_cons_zero, List.set_cons_succ]
  refine wpAnyH_take (i := 3) (v := ?_) rfl (by kernel_rfl) (by kernel_rfl) (by kernel_rfl) (fun _ _ _ h => h) (Or.inl ⟨by rfl, ?_⟩) (by assumption) ?_
  rotate_left
  focus
    intro U hU
    try dsimp only at hU
    go_simp
    try (with_reducible rfl)
  simp only [List.getElem_toArray, List.getElem_cons_succ, List.getElem_cons_zero, Act.put, List.setIfInBounds_toArray, List.set_cons_zero, List.set_cons_succ]
  refine wpAnyH_take (i := 5) (v := ?_) rfl (by kernel_rfl) (by kernel_rfl) (by kernel_rfl) (fun _ _ _ h => h) (Or.inl ⟨by rfl, ?_⟩) (by assumption) ?_
  rotate_left
  focus
    intro U hU
    try dsimp only at hU
    go_simp
    try (with_reducible rfl)
  simp only [List.getElem_toArray, List.getElem_cons_succ, List.getElem_cons_zero, Act.put, List.setIfInBounds_toArray, List.set_cons_zero, List.set_cons_succ]
  refine wpAnyH_take (i := 6) (v := ?_) rfl (by kernel_rfl) (by kernel_rfl) (by kernel_rfl) (fun _ _ _ h => h) (Or.inl ⟨by rfl, ?_⟩) (by assumption) ?_
  rotate_left
  focus
    intro U hU
    try dsimp only at hU
    go_simp
    try (with_reducible rfl)
  simp only [List.getElem_toArray, List.getElem_cons_succ, List.getElem_cons_zero, Act.put, List.setIfInBounds_toArray, List.set_cons_zero, List.set_cons_succ]
  refine wpAnyH_take (i := 8) (v := ?_) rfl (by kernel_rfl) (by kernel_rfl) (by kernel_rfl) (fun _ _ _ h => h) (Or.inl ⟨by rfl, ?_⟩) (by assumption) ?_
  rotate_left
  focus
    intro U hU
    try dsimp only at hU
    go_simp
    try (with_reducible rfl)
  simp only [List.getElem_toArray, List.getElem_cons_succ, List.getElem_cons_zero, Act.put, List.setIfInBounds_toArray, List.set_cons_zero, List.set_cons_succ]
  refine wpAnyH_take (i := 9) (v := ?_) rfl (by kernel_rfl) (by kernel_rfl) (by kernel_rfl) (fun _ _ _ h => h) (Or.inl ⟨by rfl, ?_⟩) (by assumption) ?_
  rotate_left
  focus
    intro U hU
    try dsimp only at hU
    go_simp
    try (with_reducible rfl)
  simp only [List.getElem_toArray, List.getElem_cons_succ, List.getElem_cons_zero, Act.put, List.setIfInBounds_toArray, List.set_cons_zero, List.set_cons_succ]
  refine wpAnyH_take (i := 10) (v := ?_) rfl (by kernel_rfl) (by kernel_rfl) (by kernel_rfl) (fun _ _ _ h => h) (Or.inl ⟨by rfl, ?_⟩) (by assumption) ?_
  rotate_left
  focus
    intro U hU
    try dsimp only at hU
    go_simp
    try (with_reducible rfl)
  simp only [List.getElem_toArray, List.getElem_cons_succ, List.getElem_cons_zero, Act.put, List.setIfInBounds_toArray, List.set_cons_zero, List.set_cons_succ]
  refine wpAnyH_take (i := 11) (v := ?_) rfl (by kernel_rfl) (by kernel_rfl) (by kernel_rfl) (fun _ _ _ h => h) (Or.inl ⟨by rfl, ?_⟩) (by assumption) ?_
  rotate_left
  focus
    intro U hU
    try dsimp only at hU
    go_simp
    try (with_reducible rfl)
  simp only [List.getElem_toArray, List.getElem_cons_succ, List.getElem_cons_zero, Act.put, List.setIfInBounds_toArray, List.set_cons_zero, List.set_cons_succ]
  refine wpAnyH_take (i := 12) (v := ?_) rfl (by kernel_rfl) (by kernel_rfl) (by kernel_rfl) (fun _ _ _ h => h) (Or.inl ⟨by rfl, ?_⟩) (by assumption) ?_
  rotate_left
  focus
    intro U hU
    try dsimp only at hU
    go_simp
    try (with_reducible rfl)
  simp only [List.getElem_toArray, List.getElem_cons_succ, List.getElem_cons_zero, Act.put, List.setIfInBounds_toArray, List.set_cons_zero, List.set_cons_succ]
  refine wpAnyH_take (i := 13) (v := ?_) rfl (by kernel_rfl) (by kernel_rfl) (by kernel_rfl) (fun _ _ _ h => h) (Or.inl ⟨by rfl, ?_⟩) (by assumption) ?_
  rotate_left
  focus
    intro U hU
    try dsimp only at hU
    go_simp
    try (with_reducible rfl)
  simp only [List.getElem_toArray, List.getElem_cons_succ, List.getElem_cons_zero, Act.put, List.setIfInBounds_toArray, List.set_cons_zero, List.set_cons_succ]
  refine wpAnyH_take (i := 14) (v := ?_) rfl (by kernel_rfl) (by kernel_rfl) (by kernel_rfl) (fun _ _ _ h => h) (Or.inl ⟨by rfl, ?_⟩) (by assumption) ?_
  rotate_left
  focus
    intro U hU
    try dsimp only at hU
    go_simp
    try (with_reducible rfl)
  simp only [List.getElem_toArray, List.getElem_cons_succ, List.getElem_cons_zero, Act.put, List.setIfInBounds_toArray, List.set_cons_zero, List.set_cons_succ]
  refine wpAnyH_ready (rs := [4]) (by kernel_rfl) (by simp) ?_
  refine (AllReadyH.cons rfl (fun K hK => ?_) AllReadyH.nil)
  have hbs : Below (World.heap k0).size k0 (World.alloc k0 (.cells #[] 9)) := (Below.refl _ _).alloc (Nat.le_refl _) _
  have HE := hid (own_mono (own_empty k0 9 1) hk0.size)
  have hk2 := hk0.trans (hbs.mono hk0.size)
  clear hbs
  simp only [List.getElem_toArray, List.getElem_cons_succ, List.getElem_cons_zero]
  go_simp
  refine hK.out _ _ ?_ (fun hHeld2 => ?_)
  focus
    exact hS _ hk2
  clear hHeld
  have hHeld := hHeld2
  clear hHeld2 hK K
  try simp only [List.getElem_toArray, List.getElem_cons_succ, List.getElem_cons_zero, Act.put, List.setIfInBounds_toArray, List.set_cons_zero, List.set_cons_succ]
  refine wpAnyH_ready (rs := [7]) (by kernel_rfl) (by simp) ?_
  refine (AllReadyH.cons rfl (fun K hK => ?_) AllReadyH.nil)
  have HSL := hid (HS.out.below (HB.out.trans (hk2.mono HB.out.size)))
  refine step_append_sl rfl (.tmp 7) (.tmp 9) 24 rfl w1.heap.size 9 Try.underlying24 info_str rfl (by omega) rfl HE.out rfl HSL.out (scells_one _) (by unfold maxLen; omega) (by omega) hk2.size ?_
  intro v5 w5 ho5 hb5 hsz5 hk5
  simp only [Nat.zero_add, List.nil_append] at ho5
  obtain ⟨A5, c5, rfl, _⟩ := Sl.of_own ho5
  have hk3 := hk2.trans hb5
  clear hb5 hsz5 hk5 HE HSL
  simp only [List.getElem_toArray, List.getElem_cons_succ, List.getElem_cons_zero]
  refine hK.out _ _ ?_ (fun hHeld2 => ?_)
  focus
    exact hS _ hk3
  clear hHeld
  have hHeld := hHeld2
  clear hHeld2 hK K
  try simp only [List.getElem_toArray, List.getElem_cons_succ, List.getElem_cons_zero, Act.put, List.setIfInBounds_toArray, List.set_cons_zero, List.set_cons_succ]
  refine wpAnyH_take (i := 15) (v := ?_) rfl (by kernel_rfl) (by kernel_rfl) (by kernel_rfl) (fun _ _ _ h => h) (Or.inl ⟨by rfl, ?_⟩) (by assumption) ?_
  rotate_left
  focus
    intro U hU
    try dsimp only at hU
    go_simp
    try (with_reducible rfl)
  simp only [List.getElem_toArray, List.getElem_cons_succ, List.getElem_cons_zero, Act.put, List.setIfInBounds_toArray, List.set_cons_zero, List.set_cons_succ]
  have hx5 := keep0 HX.out hk3
  have hz5 := keep0 HZ.out hk3
  have hb5 := HB.out.trans (hk3.mono HB.out.size)
  obtain ⟨_, f0, f1, f2, f3, f4⟩ := five_cells hz5
  have hq := put5_heap hz5 (.int .i64 p) (.int .i64 q) (.slice A5 l.length c5) (.int .i64 wt) (.int .i64 fl)
  obtain ⟨⟨r0, r1, r2, r3, r4⟩, _⟩ := five_cells hq
  have hx6 := (put5_other (b := W.heap.size + 1) (g := W.heap.size) (by omega) (.int .i64 p) (.int .i64 q) (.slice A5 l.length c5) (.int .i64 wt) (.int .i64 fl)).trans hx5
  have hb6 := put5_below hb5 (show W.heap.size ≤ W.heap.size + 1 by omega) (.int .i64 p) (.int .i64 q) (.slice A5 l.length c5) (.int .i64 wt) (.int .i64 fl)
  have ho6 := own_mono (own_at ho5 hz5 (by decide) fun g hg => put5_other hg (.int .i64 p) (.int .i64 q) (.slice A5 l.length c5) (.int .i64 wt) (.int .i64 fl)) HB.out.size
  have hs6 := (five_cells hx6).1
  simp only [put5] at r0 r1 r2 r3 r4 hb6 ho6 hs6
  clear hq hx5 hz5 hx6
  refine wpAnyH_ready (rs := [16]) (by kernel_rfl) (by simp) ?_
  refine (AllReadyH.cons rfl (fun K hK => ?_) AllReadyH.nil)
  simp only [List.getElem_toArray, List.getElem_cons_succ, List.getElem_cons_zero]
  go_simp
  refine hK.out _ _ ?_ (fun hHeld2 => ?_)
  focus
    exact ⟨hs6, hb6⟩
  clear hHeld
  have hHeld := hHeld2
  clear hHeld2 hK K
  try simp only [List.getElem_toArray, List.getElem_cons_succ, List.getElem_cons_zero, Act.put, List.setIfInBounds_toArray, List.set_cons_zero, List.set_cons_succ]
  refine wpAnyH_done (by kernel_rfl) ?_ _
  clear hHeld hS f0 f1 f2 f3 f4 hs6 hk0 hk2 hk3
  go_wp2
  exact bodyPost_ret (v := .agg #[.int .i64 p, .int .i64 q, .slice A5 l.length c5, .int .i64 wt, .int .i64 fl]) (by simp [results, Try.results44, go_sem, r0, r1, r2, r3, r4]) rfl ⟨A5, c5, rfl, ho6, hb6⟩
end Go.Proofs.Ytdekemlckpbbcaa
