/- The law's works: contract. -/
import Derived.Test.YtdekemlckpbbcaaLnkG
namespace Go.Proofs.Ytdekemlckpbbcaa
open Go.RowKit Go.Sort
set_option linter.unusedVariables false
set_option linter.unusedSimpArgs false

theorem OwnP.one {W U : World} {B : Option Addr} {d : Nat} {x : Pk} (h : OwnP W U (.slice B 1 d) [x]) : ∃ b, B = some ⟨b, 0, none⟩ ∧ U.cell? ⟨b, 0, none⟩ = some (.int .i64 x.k) ∧ U.cell? ⟨b, 1, none⟩ = some (.int .i64 x.f) ∧ U.cell? ⟨b, 2, none⟩ = some (.int .i64 x.t) ∧ U.cell? ⟨b, 3, none⟩ = some (.int .i64 x.i) ∧ U.cell? ⟨b, 4, none⟩ = some (.int .i64 x.p) ∧ U.cell? ⟨b, 5, none⟩ = some (.int .i64 x.s) ∧ U.cell? ⟨b, 6, none⟩ = some (.string (str x.b)) := by
  rcases h.2 with ⟨h1, _⟩ | ⟨g, cap, cur, h1, _, hg, _, _, hs, ht⟩
  · cases h1
  · injection h1 with h1
    subst h1
    have hh : ∀ i, i < 7 → U.cell? ⟨g, i, none⟩ = (pkc x)[i]? := fun i hi => by
      have h2 : cur.toList.take 7 = pkc x := by simpa [gcells] using ht
      have h3 := congrArg (·[i]?) h2
      rw [cell_of_row U g i cur _ (0, 0) hg, ← h3, List.getElem?_take, if_pos hi]
      simp
    exact ⟨g, rfl, hh 0 (by omega), hh 1 (by omega), hh 2 (by omega), hh 3 (by omega), hh 4 (by omega), hh 5 (by omega), hh 6 (by omega)⟩

set_option maxRecDepth 20000 in
set_option maxHeartbeats 8000000 in
theorem works26_any (W : World) : Calls Try.prog 17 #[] W fun e w' => e = .returned (.bool true) ∧ Below W.heap.size W w' := by
  have HN1 := hid (fun w => lnew_any 0 8 1 w)
  have HN2 := hid (fun w => lnew_any 8 0 1 w)
  have HP := hid (fun w => lput_any (newE 0 8 1) 4 [97] none 0 w (sl_nil0 w) (by decide) (by unfold maxLen; decide))
  have HT1 := hid (fun w => ltake_any (newE 8 0 1) ⟨1, 0, 8, 1, 1, 1, [97]⟩ none 0 w (sl_nil0 w) (by decide) (by decide) (by decide) (by decide) (by decide) (by decide) (by decide))
  have HT2 := hid (fun A c w h9 => ltake_any ⟨0, 8, 1, ⟨1, 1, [[97]], 1, 1⟩, 1, 1, 0⟩ ⟨2, 8, 0, 1, 1, 1, []⟩ A c w h9 (by decide) (by decide) (by decide) (by decide) (by decide) (by decide) (by decide))
  rw [ex1] at HP
  rw [ex2] at HT1
  rw [ex3] at HT2
  simp only [newE, ec, pca, List.length_cons, List.length_nil, Nat.zero_add] at HN1 HN2 HP HT1 HT2
  rw [show str [97] = ⟨#[97]⟩ from rfl] at HP HT1
  rw [show str [] = ⟨#[]⟩ from rfl] at HT2
  have ea : ((⟨#[97]⟩ : ByteArray).toList != (⟨#[97]⟩ : ByteArray).toList) = false := by simp
  go_enter Try.func17, Try.ntmps17
  go_wp2_with fail
  refine (HN1.out _).mono ?_
  rintro e w1 ⟨rfl, hb1⟩
  go_wp2_with fail
  refine (HP.out _).mono ?_
  rintro e w2 ⟨A2, c2, B2, d2, rfl, ho2, hP2, hb2⟩
  simp only [ec, List.length_cons, List.length_nil, Nat.zero_add]
  have HB2 := hid (hb1.trans (hb2.mono hb1.size))
  have HO2 := hid (own_mono ho2 hb1.size)
  have HP2 := hid (own_mono hP2 hb1.size)
  clear hb1 hb2 ho2 hP2 HN1 HP
  go_upto_region 4 with (fail)
  refine at_world (fun u => u.heap[w2.heap.size]? = some (.cells (ec ⟨0, 8, 1, ⟨1, 1, [[97]], 1, 1⟩, 1, 1, 0⟩ A2 c2) 54 (0, 0)) ∧ u.ownsRow W.heap.size 9 1 (.slice A2 1 c2) 1 (scells [[97]]) ∧ OwnP W u (.slice B2 1 d2) [⟨1, 0, 8, 1, 1, 1, [97]⟩] ∧ Below W.heap.size W u) ⟨heap_alloc_new _ _, own_keep HO2.out ((Below.refl _ _).alloc (Nat.le_refl _) _), own_keep HP2.out ((Below.refl _ _).alloc (Nat.le_refl _) _), HB2.out.alloc HB2.out.size _⟩ ?_
  rintro w3 ⟨hx3, ho3, hP3, hb3⟩
  have hX1 : W.heap.size ≤ w2.heap.size := HB2.out.size
  clear HB2 HO2 HP2
  generalize w2.heap.size = X at *
  obtain ⟨b, rfl, hc3⟩ := hP3.one
  have hS : ∀ U, Below w3.heap.size w3 U → ((U.cell? ⟨b, 0, none⟩ = some (.int .i64 1) ∧ U.cell? ⟨b, 1, none⟩ = some (.int .i64 0) ∧ U.cell? ⟨b, 2, none⟩ = some (.int .i64 8) ∧ U.cell? ⟨b, 3, none⟩ = some (.int .i64 1) ∧ U.cell? ⟨b, 4, none⟩ = some (.int .i64 1) ∧ U.cell? ⟨b, 5, none⟩ = some (.int .i64 1) ∧ U.cell? ⟨b, 6, none⟩ = some (.string ⟨#[97]⟩)) ∧ Below w3.heap.size w3 U) := fun U hU => by
    obtain ⟨b', hb', hc⟩ := (show OwnP W U (.slice (some ⟨b, 0, none⟩) 1 d2) [⟨1, 0, 8, 1, 1, 1, [97]⟩] from own_keep hP3 hU).one
    cases hb'
    exact ⟨hc, hU⟩
  have HX3 := hid hx3
  have HO3 := hid ho3
  have HB3 := hid hb3
  clear hx3 ho3 hb3 hc3 hP3
  have hk0 : Below w3.heap.size w3 w3.drew := below_drew (Below.refl _ _)
  refine wp_region_held_drew (S := fun U => (U.cell? ⟨b, 0, none⟩ = some (.int .i64 1) ∧ U.cell? ⟨b, 1, none⟩ = some (.int .i64 0) ∧ U.cell? ⟨b, 2, none⟩ = some (.int .i64 8) ∧ U.cell? ⟨b, 3, none⟩ = some (.int .i64 1) ∧ U.cell? ⟨b, 4, none⟩ = some (.int .i64 1) ∧ U.cell? ⟨b, 5, none⟩ = some (.int .i64 1) ∧ U.cell? ⟨b, 6, none⟩ = some (.string ⟨#[97]⟩)) ∧ Below w3.heap.size w3 U) (by kernel_rfl) (hS _ hk0) (fun hHeld => ?_)
  generalize w3.drew = k0 at *
  refine wpAnyH_take (i := 1) (v := ?_) rfl (by kernel_rfl) (by kernel_rfl) (by kernel_rfl) (fun _ _ _ h => h) (Or.inl ⟨by rfl, ?_⟩) (by assumption) ?_
  rotate_left
  focus
    intro U hU
    try dsimp only at hU
    go_simp
    try (with_reducible rfl)
  simp only [List.getElem_toArray, List.getElem_cons_succ, List.getElem_cons_zero, Act.put, List.setIfInBounds_toArray, List.set_cons_zero, List.set_cons_succ]
  refine wpAnyH_take (i := 2) (v := ?_) rfl (by kernel_rfl) (by kernel_rfl) (by kernel_rfl) (fun _ _ _ h => h) (Or.inl ⟨by rfl, ?_⟩) (by assumption) ?_
  rotate_left
  focus
    intro U hU
    try dsimp only at hU
    go_simp
    try (with_reducible rfl)
  simp only [List.getElem_toArray, List.getElem_cons_succ, List.getElem_cons_zero, Act.put, List.setIfInBounds_toArray, List.set_cons_zero, List.set_cons_succ]
  refine wpAnyH_take (i := 3) (v := ?_) rfl (by kernel_rfl) (by kernel_rfl) (by kernel_rfl) (fun _ _ _ h => h) (Or.inl ⟨by rfl, ?_⟩) (by assumption) ?_
  rotate_left
  focus
    intro U hU
    try dsimp only at hU
    go_simp
    try (with_reducible rfl)
  simp only [List.getElem_toArray, List.getElem_cons_succ, List.getElem_cons_zero, Act.put, List.setIfInBounds_toArray, List.set_cons_zero, List.set_cons_succ]
  refine wpAnyH_ready (rs := [0, 10]) (by kernel_rfl) (by simp) ?_
  refine (AllReadyH.cons rfl (fun K hK => ?_) (AllReadyH.cons rfl (fun K hK => ?_) AllReadyH.nil))
  · skip
    simp only [List.getElem_toArray, List.getElem_cons_succ, List.getElem_cons_zero]
    go_simp
    refine (HN2.out _).mono ?_
    rintro e u1 ⟨rfl, g1⟩
    have hk1 := hk0.trans (g1.mono hk0.size)
    clear g1
    go_wp2_with fail
    refine hK.out _ _ ?_ (fun hHeld2 => ?_)
    focus
      exact hS _ hk1
    clear hHeld
    have hHeld := hHeld2
    clear hHeld2 hK K
    try simp only [List.getElem_toArray, List.getElem_cons_succ, List.getElem_cons_zero, Act.put, List.setIfInBounds_toArray, List.set_cons_zero, List.set_cons_succ]
    refine wpAnyH_ready (rs := [4, 10]) (by kernel_rfl) (by simp) ?_
    refine (AllReadyH.cons rfl (fun K hK => ?_) (AllReadyH.cons rfl (fun K hK => ?_) AllReadyH.nil))
    · skip
      simp only [List.getElem_toArray, List.getElem_cons_succ, List.getElem_cons_zero]
      go_simp
      refine (HT1.out _).mono ?_
      rintro e u2 ⟨A3, c3, B3, d3, rfl, ho3, hP3, g2⟩
      simp only [ec, List.length_cons, List.length_nil, Nat.zero_add]
      have hk2 := hk1.trans (g2.mono hk1.size)
      have hP4 := own_mono hP3 (show W.heap.size ≤ _ from Nat.le_trans HB3.out.size hk1.size)
      clear g2 ho3 hP3
      go_wp2_with fail
      refine hK.out _ _ ?_ (fun hHeld2 => ?_)
      focus
        exact hS _ hk2
      clear hHeld
      have hHeld := hHeld2
      clear hHeld2 hK K
      try simp only [List.getElem_toArray, List.getElem_cons_succ, List.getElem_cons_zero, Act.put, List.setIfInBounds_toArray, List.set_cons_zero, List.set_cons_succ]
      refine wpAnyH_take (i := 5) (v := ?_) rfl (by kernel_rfl) (by kernel_rfl) (by kernel_rfl) (fun _ _ _ h => h) (Or.inl ⟨by rfl, ?_⟩) (by assumption) ?_
      rotate_left
      focus
        intro U hU
        try dsimp only at hU
        go_simp
        try (with_reducible rfl)
      simp only [List.getElem_toArray, List.getElem_cons_succ, List.getElem_cons_zero, Act.put, List.setIfInBounds_toArray, List.set_cons_zero, List.set_cons_succ]
      refine wpAnyH_take (i := 6) (v := ?_) rfl (by kernel_rfl) (by kernel_rfl) (by kernel_rfl) (fun _ _ _ h => h) (Or.inl ⟨by rfl, ?_⟩) (by assumption) ?_
      rotate_left
      focus
        intro U hU
        try dsimp only at hU
        go_simp
        try (with_reducible rfl)
      simp only [List.getElem_toArray, List.getElem_cons_succ, List.getElem_cons_zero, Act.put, List.setIfInBounds_toArray, List.set_cons_zero, List.set_cons_succ]
      refine wpAnyH_take (i := 7) (v := ?_) rfl (by kernel_rfl) (by kernel_rfl) (by kernel_rfl) (fun _ _ _ h => h) (Or.inl ⟨by rfl, ?_⟩) (by assumption) ?_
      rotate_left
      focus
        intro U hU
        try dsimp only at hU
        go_simp
        try (with_reducible rfl)
      simp only [List.getElem_toArray, List.getElem_cons_succ, List.getElem_cons_zero, Act.put, List.setIfInBounds_toArray, List.set_cons_zero, List.set_cons_succ]
      refine wpAnyH_take (i := 8) (v := ?_) rfl (by kernel_rfl) (by kernel_rfl) (by kernel_rfl) (fun _ _ _ h => h) (Or.inl ⟨by rfl, ?_⟩) (by assumption) ?_
      rotate_left
      focus
        intro U hU
        try dsimp only at hU
        go_simp
        try (with_reducible rfl)
      simp only [List.getElem_toArray, List.getElem_cons_succ, List.getElem_cons_zero, Act.put, List.setIfInBounds_toArray, List.set_cons_zero, List.set_cons_succ]
      refine wpAnyH_take (i := 9) (v := ?_) rfl (by kernel_rfl) (by kernel_rfl) (by kernel_rfl) (fun _ _ _ h => h) (Or.inl ⟨by rfl, ?_⟩) (by assumption) ?_
      rotate_left
      focus
        intro U hU
        try dsimp only at hU
        go_simp
        try (with_reducible rfl)
      simp only [List.getElem_toArray, List.getElem_cons_succ, List.getElem_cons_zero, Act.put, List.setIfInBounds_toArray, List.set_cons_zero, List.set_cons_succ]
      refine wpAnyH_ready (rs := [10]) (by kernel_rfl) (by simp) ?_
      refine (AllReadyH.cons rfl (fun K hK => ?_) AllReadyH.nil)
      simp only [List.getElem_toArray, List.getElem_cons_succ, List.getElem_cons_zero]
      go_simp
      refine hK.out _ _ ?_ (fun hHeld2 => ?_)
      focus
        exact hS _ (hk2.alloc hk2.size _)
      clear hHeld
      have hHeld := hHeld2
      clear hHeld2 hK K
      try simp only [List.getElem_toArray, List.getElem_cons_succ, List.getElem_cons_zero, Act.put, List.setIfInBounds_toArray, List.set_cons_zero, List.set_cons_succ]
      have hbn : Below (World.heap u2).size u2 (World.alloc u2 (.cells #[.int .i64 0, .int .i64 0, .int .i64 0, .int .i64 0, .int .i64 0, .slice none 0 0, .int .i64 0, .int .i64 0, .int .i64 0, .int .i64 0, .int .i64 0] 54)) := (Below.refl _ _).alloc (Nat.le_refl _) _
      have hk3 := hk2.trans (hbn.mono hk2.size)
      have hz3 := heap_alloc_new u2 (.cells #[.int .i64 0, .int .i64 0, .int .i64 0, .int .i64 0, .int .i64 0, .slice none 0 0, .int .i64 0, .int .i64 0, .int .i64 0, .int .i64 0, .int .i64 0] 54)
      have hle : w3.heap.size ≤ (World.heap u2).size := hk2.size
      have hP5 := own_keep hP4 hbn
      clear hbn
      generalize World.alloc u2 (.cells #[.int .i64 0, .int .i64 0, .int .i64 0, .int .i64 0, .int .i64 0, .slice none 0 0, .int .i64 0, .int .i64 0, .int .i64 0, .int .i64 0, .int .i64 0] 54) = k9 at *
      generalize (World.heap u2).size = Zb at *
      have hk4 := put11_below hk3 hle (.int .i64 8) (.int .i64 0) (.int .i64 1) (.int .i64 1) (.int .i64 1) (.slice A3 0 c3) (.int .i64 1) (.int .i64 0) (.int .i64 1) (.int .i64 1) (.int .i64 1)
      have hP6 := own_at hP5 hz3 (by decide) fun g hg => put11_other (b := Zb) hg (.int .i64 8) (.int .i64 0) (.int .i64 1) (.int .i64 1) (.int .i64 1) (.slice A3 0 c3) (.int .i64 1) (.int .i64 0) (.int .i64 1) (.int .i64 1) (.int .i64 1)
      obtain ⟨_, ⟨cg0, cg1, cg2, cg3, cg4, cg5, cg6, cg7, cg8, cg9, cg10⟩⟩ := eleven_cells hz3
      simp only [put11] at hk4 hP6
      refine wpAnyH_ready (rs := [11]) (by kernel_rfl) (by simp) ?_
      refine AllReadyH.cons rfl (fun K hK => ?_) AllReadyH.nil
      simp only [List.getElem_toArray, List.getElem_cons_succ, List.getElem_cons_zero]
      go_simp
      refine hK.out _ _ ?_ (fun hHeld2 => ?_)
      focus
        exact hS _ hk4
      clear hHeld
      have hHeld := hHeld2
      clear hHeld2 hK K
      try simp only [List.getElem_toArray, List.getElem_cons_succ, List.getElem_cons_zero, Act.put, List.setIfInBounds_toArray, List.set_cons_zero, List.set_cons_succ]
      refine wpAnyH_take (i := 12) (v := ?_) rfl (by kernel_rfl) (by kernel_rfl) (by kernel_rfl) (fun _ _ _ h => h) (Or.inl ⟨by rfl, ?_⟩) (by assumption) ?_
      rotate_left
      focus
        intro U hU
        try dsimp only at hU
        go_simp
        try (with_reducible rfl)
      simp only [List.getElem_toArray, List.getElem_cons_succ, List.getElem_cons_zero, Act.put, List.setIfInBounds_toArray, List.set_cons_zero, List.set_cons_succ]
      refine wpAnyH_take (i := 13) (v := ?_) rfl (by kernel_rfl) (by kernel_rfl) (by kernel_rfl) (fun _ _ _ h => h) (Or.inl ⟨by rfl, ?_⟩) (by assumption) ?_
      rotate_left
      focus
        intro U hU
        try dsimp only at hU
        go_simp
        try (with_reducible rfl)
      simp only [List.getElem_toArray, List.getElem_cons_succ, List.getElem_cons_zero, Act.put, List.setIfInBounds_toArray, List.set_cons_zero, List.set_cons_succ]
      refine wpAnyH_take (i := 14) (v := ?_) rfl (by kernel_rfl) (by kernel_rfl) (by kernel_rfl) (fun _ _ _ h => h) (Or.inl ⟨by rfl, ?_⟩) (by assumption) ?_
      rotate_left
      focus
        intro U hU
        try dsimp only at hU
        go_simp
        try (with_reducible rfl)
      simp only [List.getElem_toArray, List.getElem_cons_succ, List.getElem_cons_zero, Act.put, List.setIfInBounds_toArray, List.set_cons_zero, List.set_cons_succ]
      refine wpAnyH_done (by kernel_rfl) ?_ _
      have HK4 := hid hk4
      have HP6 := hid hP6
      clear hHeld hS cg0 cg1 cg2 cg3 cg4 cg5 cg6 cg7 cg8 cg9 cg10 HN2 HT1
      clear hk4 hP6
      go_upto_region 7 with (fail)
      refine at_world (fun u => Below w3.heap.size w3 u ∧ OwnP W u (.slice B3 1 d3) [⟨2, 8, 0, 1, 1, 1, []⟩]) ⟨HK4.out, HP6.out⟩ ?_
      clear HK4 HP6
      rintro w4 ⟨hb4, hP4⟩
      have HB4 := hid (HB3.out.trans (hb4.mono HB3.out.size))
      have hx4 := keep0 HX3.out hb4
      have HO4 := hid (own_keep HO3.out hb4)
      obtain ⟨b', rfl, hc4⟩ := hP4.one
      clear HX3 HO3 HB3 hb4 hc4
      go_upto_region 7 with (fail)
      have hS : ∀ U, OwnP W U (.slice (some ⟨b', 0, none⟩) 1 d3) [⟨2, 8, 0, 1, 1, 1, []⟩] → ((U.cell? ⟨b', 0, none⟩ = some (.int .i64 2) ∧ U.cell? ⟨b', 1, none⟩ = some (.int .i64 8) ∧ U.cell? ⟨b', 2, none⟩ = some (.int .i64 0) ∧ U.cell? ⟨b', 3, none⟩ = some (.int .i64 1) ∧ U.cell? ⟨b', 4, none⟩ = some (.int .i64 1) ∧ U.cell? ⟨b', 5, none⟩ = some (.int .i64 1) ∧ U.cell? ⟨b', 6, none⟩ = some (.string ⟨#[]⟩)) ∧ OwnP W U (.slice (some ⟨b', 0, none⟩) 1 d3) [⟨2, 8, 0, 1, 1, 1, []⟩]) := fun U hU => by
        obtain ⟨b9, hb9, hc⟩ := hU.one
        cases hb9
        exact ⟨hc, hU⟩
      have hdr : Below w4.heap.size w4 w4.drew := below_drew (Below.refl _ _)
      have hk0 : OwnP W w4.drew (.slice (some ⟨b', 0, none⟩) 1 d3) [⟨2, 8, 0, 1, 1, 1, []⟩] := own_keep hP4 hdr
      have hxd := keep0 hx4 hdr
      have HOD := hid (own_keep HO4.out hdr)
      have HBD := hid (HB4.out.trans (hdr.mono HB4.out.size))
      clear hP4 hx4 HO4 HB4 hdr
      refine wp_region_held_drew (S := fun U => (U.cell? ⟨b', 0, none⟩ = some (.int .i64 2) ∧ U.cell? ⟨b', 1, none⟩ = some (.int .i64 8) ∧ U.cell? ⟨b', 2, none⟩ = some (.int .i64 0) ∧ U.cell? ⟨b', 3, none⟩ = some (.int .i64 1) ∧ U.cell? ⟨b', 4, none⟩ = some (.int .i64 1) ∧ U.cell? ⟨b', 5, none⟩ = some (.int .i64 1) ∧ U.cell? ⟨b', 6, none⟩ = some (.string ⟨#[]⟩)) ∧ OwnP W U (.slice (some ⟨b', 0, none⟩) 1 d3) [⟨2, 8, 0, 1, 1, 1, []⟩]) (by kernel_rfl) (hS _ hk0) (fun hHeld => ?_)
      generalize w4.drew = k0 at *
      obtain ⟨⟨cp0, cp1, cp2, cp3, cp4, cp5, cp6, cp7, cp8, cp9, cp10⟩, _⟩ := eleven_cells hxd
      refine wpAnyH_take (i := 1) (v := ?_) rfl (by kernel_rfl) (by kernel_rfl) (by kernel_rfl) (fun _ _ _ h => h) (Or.inl ⟨by rfl, ?_⟩) (by assumption) ?_
      rotate_left
      focus
        intro U hU
        try dsimp only at hU
        go_simp
        try (with_reducible rfl)
      simp only [List.getElem_toArray, List.getElem_cons_succ, List.getElem_cons_zero, Act.put, List.setIfInBounds_toArray, List.set_cons_zero, List.set_cons_succ]
      refine wpAnyH_take (i := 2) (v := ?_) rfl (by kernel_rfl) (by kernel_rfl) (by kernel_rfl) (fun _ _ _ h => h) (Or.inl ⟨by rfl, ?_⟩) (by assumption) ?_
      rotate_left
      focus
        intro U hU
        try dsimp only at hU
        go_simp
        try (with_reducible rfl)
      simp only [List.getElem_toArray, List.getElem_cons_succ, List.getElem_cons_zero, Act.put, List.setIfInBounds_toArray, List.set_cons_zero, List.set_cons_succ]
      refine wpAnyH_take (i := 3) (v := ?_) rfl (by kernel_rfl) (by kernel_rfl) (by kernel_rfl) (fun _ _ _ h => h) (Or.inl ⟨by rfl, ?_⟩) (by assumption) ?_
      rotate_left
      focus
        intro U hU
        try dsimp only at hU
        go_simp
        try (with_reducible rfl)
      simp only [List.getElem_toArray, List.getElem_cons_succ, List.getElem_cons_zero, Act.put, List.setIfInBounds_toArray, List.set_cons_zero, List.set_cons_succ]
      refine wpAnyH_ready (rs := [0]) (by kernel_rfl) (by simp) ?_
      refine AllReadyH.cons rfl (fun K hK => ?_) AllReadyH.nil
      simp only [List.getElem_toArray, List.getElem_cons_succ, List.getElem_cons_zero]
      go_simp
      refine hK.out _ _ ?_ (fun hHeld2 => ?_)
      focus
        first | with_reducible exact hS _ hk1 | with_reducible exact hS _ hk0
      clear hHeld
      have hHeld := hHeld2
      clear hHeld2 hK K
      try simp only [List.getElem_toArray, List.getElem_cons_succ, List.getElem_cons_zero, Act.put, List.setIfInBounds_toArray, List.set_cons_zero, List.set_cons_succ]
      refine wpAnyH_ready (rs := [4]) (by kernel_rfl) (by simp) ?_
      refine AllReadyH.cons rfl (fun K hK => ?_) AllReadyH.nil
      simp only [List.getElem_toArray, List.getElem_cons_succ, List.getElem_cons_zero]
      go_simp
      refine (HT2.out A2 c2 _ (sl_own HOD.out)).mono ?_
      rintro e u3 ⟨A5, c5, B5, d5, rfl, ho5, hP5, g3⟩
      simp only [ec, List.length_cons, List.length_nil, Nat.zero_add]
      have hk1 : OwnP W u3 (.slice (some ⟨b', 0, none⟩) 1 d3) [⟨2, 8, 0, 1, 1, 1, []⟩] := own_keep hk0 g3
      have hx5 := keep0 hxd g3
      have HB5 := hid (put11_below (HBD.out.trans (g3.mono HBD.out.size)) hX1 (.int .i64 0) (.int .i64 8) (.int .i64 1) (.int .i64 1) (.int .i64 2) (.slice A5 0 c5) (.int .i64 1) (.int .i64 0) (.int .i64 1) (.int .i64 1) (.int .i64 0))
      have hk2 : OwnP W (put11 u3 X (.int .i64 0) (.int .i64 8) (.int .i64 1) (.int .i64 1) (.int .i64 2) (.slice A5 0 c5) (.int .i64 1) (.int .i64 0) (.int .i64 1) (.int .i64 1) (.int .i64 0)) (.slice (some ⟨b', 0, none⟩) 1 d3) [⟨2, 8, 0, 1, 1, 1, []⟩] := own_at hk1 hx5 (by decide) fun g hg => put11_other hg (.int .i64 0) (.int .i64 8) (.int .i64 1) (.int .i64 1) (.int .i64 2) (.slice A5 0 c5) (.int .i64 1) (.int .i64 0) (.int .i64 1) (.int .i64 1) (.int .i64 0)
      have hz5 := put11_heap hx5 (.int .i64 0) (.int .i64 8) (.int .i64 1) (.int .i64 1) (.int .i64 2) (.slice A5 0 c5) (.int .i64 1) (.int .i64 0) (.int .i64 1) (.int .i64 1) (.int .i64 0)
      clear cp0 cp1 cp2 cp3 cp4 cp5 cp6 cp7 cp8 cp9 cp10
      obtain ⟨_, ⟨cg0, cg1, cg2, cg3, cg4, cg5, cg6, cg7, cg8, cg9, cg10⟩⟩ := eleven_cells hx5
      simp only [put11] at HB5 hk2 hz5
      clear g3 ho5 hP5 hx5 hxd
      go_wp2_with fail
      refine hK.out _ _ ?_ (fun hHeld2 => ?_)
      focus
        first | with_reducible exact hS _ hk1 | with_reducible exact hS _ hk0
      clear hHeld
      have hHeld := hHeld2
      clear hHeld2 hK K
      try simp only [List.getElem_toArray, List.getElem_cons_succ, List.getElem_cons_zero, Act.put, List.setIfInBounds_toArray, List.set_cons_zero, List.set_cons_succ]
      refine wpAnyH_take (i := 5) (v := ?_) rfl (by kernel_rfl) (by kernel_rfl) (by kernel_rfl) (fun _ _ _ h => h) (Or.inl ⟨by rfl, ?_⟩) (by assumption) ?_
      rotate_left
      focus
        intro U hU
        try dsimp only at hU
        go_simp
        try (with_reducible rfl)
      simp only [List.getElem_toArray, List.getElem_cons_succ, List.getElem_cons_zero, Act.put, List.setIfInBounds_toArray, List.set_cons_zero, List.set_cons_succ]
      refine wpAnyH_take (i := 6) (v := ?_) rfl (by kernel_rfl) (by kernel_rfl) (by kernel_rfl) (fun _ _ _ h => h) (Or.inl ⟨by rfl, ?_⟩) (by assumption) ?_
      rotate_left
      focus
        intro U hU
        try dsimp only at hU
        go_simp
        try (with_reducible rfl)
      simp only [List.getElem_toArray, List.getElem_cons_succ, List.getElem_cons_zero, Act.put, List.setIfInBounds_toArray, List.set_cons_zero, List.set_cons_succ]
      refine wpAnyH_take (i := 7) (v := ?_) rfl (by kernel_rfl) (by kernel_rfl) (by kernel_rfl) (fun _ _ _ h => h) (Or.inl ⟨by rfl, ?_⟩) (by assumption) ?_
      rotate_left
      focus
        intro U hU
        try dsimp only at hU
        go_simp
        try (with_reducible rfl)
      simp only [List.getElem_toArray, List.getElem_cons_succ, List.getElem_cons_zero, Act.put, List.setIfInBounds_toArray, List.set_cons_zero, List.set_cons_succ]
      refine wpAnyH_take (i := 8) (v := ?_) rfl (by kernel_rfl) (by kernel_rfl) (by kernel_rfl) (fun _ _ _ h => h) (Or.inl ⟨by rfl, ?_⟩) (by assumption) ?_
      rotate_left
      focus
        intro U hU
        try dsimp only at hU
        go_simp
        try (with_reducible rfl)
      simp only [List.getElem_toArray, List.getElem_cons_succ, List.getElem_cons_zero, Act.put, List.setIfInBounds_toArray, List.set_cons_zero, List.set_cons_succ]
      refine wpAnyH_take (i := 9) (v := ?_) rfl (by kernel_rfl) (by kernel_rfl) (by kernel_rfl) (fun _ _ _ h => h) (Or.inl ⟨by rfl, ?_⟩) (by assumption) ?_
      rotate_left
      focus
        intro U hU
        try dsimp only at hU
        go_simp
        try (with_reducible rfl)
      simp only [List.getElem_toArray, List.getElem_cons_succ, List.getElem_cons_zero, Act.put, List.setIfInBounds_toArray, List.set_cons_zero, List.set_cons_succ]
      refine wpAnyH_ready (rs := [10]) (by kernel_rfl) (by simp) ?_
      refine AllReadyH.cons rfl (fun K hK => ?_) AllReadyH.nil
      simp only [List.getElem_toArray, List.getElem_cons_succ, List.getElem_cons_zero]
      go_simp
      refine hK.out _ _ ?_ (fun hHeld2 => ?_)
      focus
        exact hS _ hk2
      clear hHeld
      have hHeld := hHeld2
      clear hHeld2 hK K
      try simp only [List.getElem_toArray, List.getElem_cons_succ, List.getElem_cons_zero, Act.put, List.setIfInBounds_toArray, List.set_cons_zero, List.set_cons_succ]
      refine wpAnyH_take (i := 11) (v := ?_) rfl (by kernel_rfl) (by kernel_rfl) (by kernel_rfl) (fun _ _ _ h => h) (Or.inl ⟨by rfl, ?_⟩) (by assumption) ?_
      rotate_left
      focus
        intro U hU
        try dsimp only at hU
        go_simp
        try (with_reducible rfl)
      simp only [List.getElem_toArray, List.getElem_cons_succ, List.getElem_cons_zero, Act.put, List.setIfInBounds_toArray, List.set_cons_zero, List.set_cons_succ]
      refine wpAnyH_take (i := 12) (v := ?_) rfl (by kernel_rfl) (by kernel_rfl) (by kernel_rfl) (fun _ _ _ h => h) (Or.inl ⟨by rfl, ?_⟩) (by assumption) ?_
      rotate_left
      focus
        intro U hU
        try dsimp only at hU
        go_simp
        try (with_reducible rfl)
      simp only [List.getElem_toArray, List.getElem_cons_succ, List.getElem_cons_zero, Act.put, List.setIfInBounds_toArray, List.set_cons_zero, List.set_cons_succ]
      refine wpAnyH_take (i := 13) (v := ?_) rfl (by kernel_rfl) (by kernel_rfl) (by kernel_rfl) (fun _ _ _ h => h) (Or.inl ⟨by rfl, ?_⟩) (by assumption) ?_
      rotate_left
      focus
        intro U hU
        try dsimp only at hU
        go_simp
        try (with_reducible rfl)
      simp only [List.getElem_toArray, List.getElem_cons_succ, List.getElem_cons_zero, Act.put, List.setIfInBounds_toArray, List.set_cons_zero, List.set_cons_succ]
      refine wpAnyH_done (by kernel_rfl) ?_ _
      obtain ⟨⟨cr0, cr1, cr2, cr3, cr4, cr5, cr6, cr7, cr8, cr9, cr10⟩, _⟩ := eleven_cells hz5
      clear hHeld hS hk0 hk1 hk2 hz5
      go_wp2
      go_ret
      exact ⟨rfl, HB5.out⟩
    · skip
      simp only [List.getElem_toArray, List.getElem_cons_succ, List.getElem_cons_zero]
      go_simp
      refine hK.out _ _ ?_ (fun hHeld2 => ?_)
      focus
        exact hS _ (hk1.alloc hk1.size _)
      clear hHeld
      have hHeld := hHeld2
      clear hHeld2 hK K
      try simp only [List.getElem_toArray, List.getElem_cons_succ, List.getElem_cons_zero, Act.put, List.setIfInBounds_toArray, List.set_cons_zero, List.set_cons_succ]
      have hbn : Below (World.heap u1).size u1 (World.alloc u1 (.cells #[.int .i64 0, .int .i64 0, .int .i64 0, .int .i64 0, .int .i64 0, .slice none 0 0, .int .i64 0, .int .i64 0, .int .i64 0, .int .i64 0, .int .i64 0] 54)) := (Below.refl _ _).alloc (Nat.le_refl _) _
      have hk1b := hk1.trans (hbn.mono hk1.size)
      have hz2 := heap_alloc_new u1 (.cells #[.int .i64 0, .int .i64 0, .int .i64 0, .int .i64 0, .int .i64 0, .slice none 0 0, .int .i64 0, .int .i64 0, .int .i64 0, .int .i64 0, .int .i64 0] 54)
      have hle : w3.heap.size ≤ (World.heap u1).size := hk1.size
      clear hbn
      generalize World.alloc u1 (.cells #[.int .i64 0, .int .i64 0, .int .i64 0, .int .i64 0, .int .i64 0, .slice none 0 0, .int .i64 0, .int .i64 0, .int .i64 0, .int .i64 0, .int .i64 0] 54) = k9 at *
      generalize (World.heap u1).size = Zb at *
      refine wpAnyH_ready (rs := [4]) (by kernel_rfl) (by simp) ?_
      refine (AllReadyH.cons rfl (fun K hK => ?_) AllReadyH.nil)
      simp only [List.getElem_toArray, List.getElem_cons_succ, List.getElem_cons_zero]
      go_simp
      refine (HT1.out _).mono ?_
      rintro e u2 ⟨A3, c3, B3, d3, rfl, ho3, hP3, g2⟩
      simp only [ec, List.length_cons, List.length_nil, Nat.zero_add]
      have hk2 := hk1b.trans (g2.mono hk1b.size)
      have hP4 := own_mono hP3 (show W.heap.size ≤ _ from Nat.le_trans HB3.out.size hk1b.size)
      have hz3 := keep0 hz2 g2
      clear g2 ho3 hP3
      go_wp2_with fail
      refine hK.out _ _ ?_ (fun hHeld2 => ?_)
      focus
        exact hS _ hk2
      clear hHeld
      have hHeld := hHeld2
      clear hHeld2 hK K
      try simp only [List.getElem_toArray, List.getElem_cons_succ, List.getElem_cons_zero, Act.put, List.setIfInBounds_toArray, List.set_cons_zero, List.set_cons_succ]
      refine wpAnyH_take (i := 5) (v := ?_) rfl (by kernel_rfl) (by kernel_rfl) (by kernel_rfl) (fun _ _ _ h => h) (Or.inl ⟨by rfl, ?_⟩) (by assumption) ?_
      rotate_left
      focus
        intro U hU
        try dsimp only at hU
        go_simp
        try (with_reducible rfl)
      simp only [List.getElem_toArray, List.getElem_cons_succ, List.getElem_cons_zero, Act.put, List.setIfInBounds_toArray, List.set_cons_zero, List.set_cons_succ]
      refine wpAnyH_take (i := 6) (v := ?_) rfl (by kernel_rfl) (by kernel_rfl) (by kernel_rfl) (fun _ _ _ h => h) (Or.inl ⟨by rfl, ?_⟩) (by assumption) ?_
      rotate_left
      focus
        intro U hU
        try dsimp only at hU
        go_simp
        try (with_reducible rfl)
      simp only [List.getElem_toArray, List.getElem_cons_succ, List.getElem_cons_zero, Act.put, List.setIfInBounds_toArray, List.set_cons_zero, List.set_cons_succ]
      refine wpAnyH_take (i := 7) (v := ?_) rfl (by kernel_rfl) (by kernel_rfl) (by kernel_rfl) (fun _ _ _ h => h) (Or.inl ⟨by rfl, ?_⟩) (by assumption) ?_
      rotate_left
      focus
        intro U hU
        try dsimp only at hU
        go_simp
        try (with_reducible rfl)
      simp only [List.getElem_toArray, List.getElem_cons_succ, List.getElem_cons_zero, Act.put, List.setIfInBounds_toArray, List.set_cons_zero, List.set_cons_succ]
      refine wpAnyH_take (i := 8) (v := ?_) rfl (by kernel_rfl) (by kernel_rfl) (by kernel_rfl) (fun _ _ _ h => h) (Or.inl ⟨by rfl, ?_⟩) (by assumption) ?_
      rotate_left
      focus
        intro U hU
        try dsimp only at hU
        go_simp
        try (with_reducible rfl)
      simp only [List.getElem_toArray, List.getElem_cons_succ, List.getElem_cons_zero, Act.put, List.setIfInBounds_toArray, List.set_cons_zero, List.set_cons_succ]
      refine wpAnyH_take (i := 9) (v := ?_) rfl (by kernel_rfl) (by kernel_rfl) (by kernel_rfl) (fun _ _ _ h => h) (Or.inl ⟨by rfl, ?_⟩) (by assumption) ?_
      rotate_left
      focus
        intro U hU
        try dsimp only at hU
        go_simp
        try (with_reducible rfl)
      simp only [List.getElem_toArray, List.getElem_cons_succ, List.getElem_cons_zero, Act.put, List.setIfInBounds_toArray, List.set_cons_zero, List.set_cons_succ]
      have hk4 := put11_below hk2 hle (.int .i64 8) (.int .i64 0) (.int .i64 1) (.int .i64 1) (.int .i64 1) (.slice A3 0 c3) (.int .i64 1) (.int .i64 0) (.int .i64 1) (.int .i64 1) (.int .i64 1)
      have hP6 := own_at hP4 hz3 (by decide) fun g hg => put11_other (b := Zb) hg (.int .i64 8) (.int .i64 0) (.int .i64 1) (.int .i64 1) (.int .i64 1) (.slice A3 0 c3) (.int .i64 1) (.int .i64 0) (.int .i64 1) (.int .i64 1) (.int .i64 1)
      obtain ⟨_, ⟨cg0, cg1, cg2, cg3, cg4, cg5, cg6, cg7, cg8, cg9, cg10⟩⟩ := eleven_cells hz3
      simp only [put11] at hk4 hP6
      refine wpAnyH_ready (rs := [11]) (by kernel_rfl) (by simp) ?_
      refine AllReadyH.cons rfl (fun K hK => ?_) AllReadyH.nil
      simp only [List.getElem_toArray, List.getElem_cons_succ, List.getElem_cons_zero]
      go_simp
      refine hK.out _ _ ?_ (fun hHeld2 => ?_)
      focus
        exact hS _ hk4
      clear hHeld
      have hHeld := hHeld2
      clear hHeld2 hK K
      try simp only [List.getElem_toArray, List.getElem_cons_succ, List.getElem_cons_zero, Act.put, List.setIfInBounds_toArray, List.set_cons_zero, List.set_cons_succ]
      refine wpAnyH_take (i := 12) (v := ?_) rfl (by kernel_rfl) (by kernel_rfl) (by kernel_rfl) (fun _ _ _ h => h) (Or.inl ⟨by rfl, ?_⟩) (by assumption) ?_
      rotate_left
      focus
        intro U hU
        try dsimp only at hU
        go_simp
        try (with_reducible rfl)
      simp only [List.getElem_toArray, List.getElem_cons_succ, List.getElem_cons_zero, Act.put, List.setIfInBounds_toArray, List.set_cons_zero, List.set_cons_succ]
      refine wpAnyH_take (i := 13) (v := ?_) rfl (by kernel_rfl) (by kernel_rfl) (by kernel_rfl) (fun _ _ _ h => h) (Or.inl ⟨by rfl, ?_⟩) (by assumption) ?_
      rotate_left
      focus
        intro U hU
        try dsimp only at hU
        go_simp
        try (with_reducible rfl)
      simp only [List.getElem_toArray, List.getElem_cons_succ, List.getElem_cons_zero, Act.put, List.setIfInBounds_toArray, List.set_cons_zero, List.set_cons_succ]
      refine wpAnyH_take (i := 14) (v := ?_) rfl (by kernel_rfl) (by kernel_rfl) (by kernel_rfl) (fun _ _ _ h => h) (Or.inl ⟨by rfl, ?_⟩) (by assumption) ?_
      rotate_left
      focus
        intro U hU
        try dsimp only at hU
        go_simp
        try (with_reducible rfl)
      simp only [List.getElem_toArray, List.getElem_cons_succ, List.getElem_cons_zero, Act.put, List.setIfInBounds_toArray, List.set_cons_zero, List.set_cons_succ]
      refine wpAnyH_done (by kernel_rfl) ?_ _
      have HK4 := hid hk4
      have HP6 := hid hP6
      clear hHeld hS cg0 cg1 cg2 cg3 cg4 cg5 cg6 cg7 cg8 cg9 cg10 HN2 HT1
      clear hk4 hP6
      go_upto_region 7 with (fail)
      refine at_world (fun u => Below w3.heap.size w3 u ∧ OwnP W u (.slice B3 1 d3) [⟨2, 8, 0, 1, 1, 1, []⟩]) ⟨HK4.out, HP6.out⟩ ?_
      clear HK4 HP6
      rintro w4 ⟨hb4, hP4⟩
      have HB4 := hid (HB3.out.trans (hb4.mono HB3.out.size))
      have hx4 := keep0 HX3.out hb4
      have HO4 := hid (own_keep HO3.out hb4)
      obtain ⟨b', rfl, hc4⟩ := hP4.one
      clear HX3 HO3 HB3 hb4 hc4
      go_upto_region 7 with (fail)
      have hS : ∀ U, OwnP W U (.slice (some ⟨b', 0, none⟩) 1 d3) [⟨2, 8, 0, 1, 1, 1, []⟩] → ((U.cell? ⟨b', 0, none⟩ = some (.int .i64 2) ∧ U.cell? ⟨b', 1, none⟩ = some (.int .i64 8) ∧ U.cell? ⟨b', 2, none⟩ = some (.int .i64 0) ∧ U.cell? ⟨b', 3, none⟩ = some (.int .i64 1) ∧ U.cell? ⟨b', 4, none⟩ = some (.int .i64 1) ∧ U.cell? ⟨b', 5, none⟩ = some (.int .i64 1) ∧ U.cell? ⟨b', 6, none⟩ = some (.string ⟨#[]⟩)) ∧ OwnP W U (.slice (some ⟨b', 0, none⟩) 1 d3) [⟨2, 8, 0, 1, 1, 1, []⟩]) := fun U hU => by
        obtain ⟨b9, hb9, hc⟩ := hU.one
        cases hb9
        exact ⟨hc, hU⟩
      have hdr : Below w4.heap.size w4 w4.drew := below_drew (Below.refl _ _)
      have hk0 : OwnP W w4.drew (.slice (some ⟨b', 0, none⟩) 1 d3) [⟨2, 8, 0, 1, 1, 1, []⟩] := own_keep hP4 hdr
      have hxd := keep0 hx4 hdr
      have HOD := hid (own_keep HO4.out hdr)
      have HBD := hid (HB4.out.trans (hdr.mono HB4.out.size))
      clear hP4 hx4 HO4 HB4 hdr
      refine wp_region_held_drew (S := fun U => (U.cell? ⟨b', 0, none⟩ = some (.int .i64 2) ∧ U.cell? ⟨b', 1, none⟩ = some (.int .i64 8) ∧ U.cell? ⟨b', 2, none⟩ = some (.int .i64 0) ∧ U.cell? ⟨b', 3, none⟩ = some (.int .i64 1) ∧ U.cell? ⟨b', 4, none⟩ = some (.int .i64 1) ∧ U.cell? ⟨b', 5, none⟩ = some (.int .i64 1) ∧ U.cell? ⟨b', 6, none⟩ = some (.string ⟨#[]⟩)) ∧ OwnP W U (.slice (some ⟨b', 0, none⟩) 1 d3) [⟨2, 8, 0, 1, 1, 1, []⟩]) (by kernel_rfl) (hS _ hk0) (fun hHeld => ?_)
      generalize w4.drew = k0 at *
      obtain ⟨⟨cp0, cp1, cp2, cp3, cp4, cp5, cp6, cp7, cp8, cp9, cp10⟩, _⟩ := eleven_cells hxd
      refine wpAnyH_take (i := 1) (v := ?_) rfl (by kernel_rfl) (by kernel_rfl) (by kernel_rfl) (fun _ _ _ h => h) (Or.inl ⟨by rfl, ?_⟩) (by assumption) ?_
      rotate_left
      focus
        intro U hU
        try dsimp only at hU
        go_simp
        try (with_reducible rfl)
      simp only [List.getElem_toArray, List.getElem_cons_succ, List.getElem_cons_zero, Act.put, List.setIfInBounds_toArray, List.set_cons_zero, List.set_cons_succ]
      refine wpAnyH_take (i := 2) (v := ?_) rfl (by kernel_rfl) (by kernel_rfl) (by kernel_rfl) (fun _ _ _ h => h) (Or.inl ⟨by rfl, ?_⟩) (by assumption) ?_
      rotate_left
      focus
        intro U hU
        try dsimp only at hU
        go_simp
        try (with_reducible rfl)
      simp only [List.getElem_toArray, List.getElem_cons_succ, List.getElem_cons_zero, Act.put, List.setIfInBounds_toArray, List.set_cons_zero, List.set_cons_succ]
      refine wpAnyH_take (i := 3) (v := ?_) rfl (by kernel_rfl) (by kernel_rfl) (by kernel_rfl) (fun _ _ _ h => h) (Or.inl ⟨by rfl, ?_⟩) (by assumption) ?_
      rotate_left
      focus
        intro U hU
        try dsimp only at hU
        go_simp
        try (with_reducible rfl)
      simp only [List.getElem_toArray, List.getElem_cons_succ, List.getElem_cons_zero, Act.put, List.setIfInBounds_toArray, List.set_cons_zero, List.set_cons_succ]
      refine wpAnyH_ready (rs := [0]) (by kernel_rfl) (by simp) ?_
      refine AllReadyH.cons rfl (fun K hK => ?_) AllReadyH.nil
      simp only [List.getElem_toArray, List.getElem_cons_succ, List.getElem_cons_zero]
      go_simp
      refine hK.out _ _ ?_ (fun hHeld2 => ?_)
      focus
        first | with_reducible exact hS _ hk1 | with_reducible exact hS _ hk0
      clear hHeld
      have hHeld := hHeld2
      clear hHeld2 hK K
      try simp only [List.getElem_toArray, List.getElem_cons_succ, List.getElem_cons_zero, Act.put, List.setIfInBounds_toArray, List.set_cons_zero, List.set_cons_succ]
      refine wpAnyH_ready (rs := [4]) (by kernel_rfl) (by simp) ?_
      refine AllReadyH.cons rfl (fun K hK => ?_) AllReadyH.nil
      simp only [List.getElem_toArray, List.getElem_cons_succ, List.getElem_cons_zero]
      go_simp
      refine (HT2.out A2 c2 _ (sl_own HOD.out)).mono ?_
      rintro e u3 ⟨A5, c5, B5, d5, rfl, ho5, hP5, g3⟩
      simp only [ec, List.length_cons, List.length_nil, Nat.zero_add]
      have hk1 : OwnP W u3 (.slice (some ⟨b', 0, none⟩) 1 d3) [⟨2, 8, 0, 1, 1, 1, []⟩] := own_keep hk0 g3
      have hx5 := keep0 hxd g3
      have HB5 := hid (put11_below (HBD.out.trans (g3.mono HBD.out.size)) hX1 (.int .i64 0) (.int .i64 8) (.int .i64 1) (.int .i64 1) (.int .i64 2) (.slice A5 0 c5) (.int .i64 1) (.int .i64 0) (.int .i64 1) (.int .i64 1) (.int .i64 0))
      have hk2 : OwnP W (put11 u3 X (.int .i64 0) (.int .i64 8) (.int .i64 1) (.int .i64 1) (.int .i64 2) (.slice A5 0 c5) (.int .i64 1) (.int .i64 0) (.int .i64 1) (.int .i64 1) (.int .i64 0)) (.slice (some ⟨b', 0, none⟩) 1 d3) [⟨2, 8, 0, 1, 1, 1, []⟩] := own_at hk1 hx5 (by decide) fun g hg => put11_other hg (.int .i64 0) (.int .i64 8) (.int .i64 1) (.int .i64 1) (.int .i64 2) (.slice A5 0 c5) (.int .i64 1) (.int .i64 0) (.int .i64 1) (.int .i64 1) (.int .i64 0)
      have hz5 := put11_heap hx5 (.int .i64 0) (.int .i64 8) (.int .i64 1) (.int .i64 1) (.int .i64 2) (.slice A5 0 c5) (.int .i64 1) (.int .i64 0) (.int .i64 1) (.int .i64 1) (.int .i64 0)
      clear cp0 cp1 cp2 cp3 cp4 cp5 cp6 cp7 cp8 cp9 cp10
      obtain ⟨_, ⟨cg0, cg1, cg2, cg3, cg4, cg5, cg6, cg7, cg8, cg9, cg10⟩⟩ := eleven_cells hx5
      simp only [put11] at HB5 hk2 hz5
      clear g3 ho5 hP5 hx5 hxd
      go_wp2_with fail
      refine hK.out _ _ ?_ (fun hHeld2 => ?_)
      focus
        first | with_reducible exact hS _ hk1 | with_reducible exact hS _ hk0
      clear hHeld
      have hHeld := hHeld2
      clear hHeld2 hK K
      try simp only [List.getElem_toArray, List.getElem_cons_succ, List.getElem_cons_zero, Act.put, List.setIfInBounds_toArray, List.set_cons_zero, List.set_cons_succ]
      refine wpAnyH_take (i := 5) (v := ?_) rfl (by kernel_rfl) (by kernel_rfl) (by kernel_rfl) (fun _ _ _ h => h) (Or.inl ⟨by rfl, ?_⟩) (by assumption) ?_
      rotate_left
      focus
        intro U hU
        try dsimp only at hU
        go_simp
        try (with_reducible rfl)
      simp only [List.getElem_toArray, List.getElem_cons_succ, List.getElem_cons_zero, Act.put, List.setIfInBounds_toArray, List.set_cons_zero, List.set_cons_succ]
      refine wpAnyH_take (i := 6) (v := ?_) rfl (by kernel_rfl) (by kernel_rfl) (by kernel_rfl) (fun _ _ _ h => h) (Or.inl ⟨by rfl, ?_⟩) (by assumption) ?_
      rotate_left
      focus
        intro U hU
        try dsimp only at hU
        go_simp
        try (with_reducible rfl)
      simp only [List.getElem_toArray, List.getElem_cons_succ, List.getElem_cons_zero, Act.put, List.setIfInBounds_toArray, List.set_cons_zero, List.set_cons_succ]
      refine wpAnyH_take (i := 7) (v := ?_) rfl (by kernel_rfl) (by kernel_rfl) (by kernel_rfl) (fun _ _ _ h => h) (Or.inl ⟨by rfl, ?_⟩) (by assumption) ?_
      rotate_left
      focus
        intro U hU
        try dsimp only at hU
        go_simp
        try (with_reducible rfl)
      simp only [List.getElem_toArray, List.getElem_cons_succ, List.getElem_cons_zero, Act.put, List.setIfInBounds_toArray, List.set_cons_zero, List.set_cons_succ]
      refine wpAnyH_take (i := 8) (v := ?_) rfl (by kernel_rfl) (by kernel_rfl) (by kernel_rfl) (fun _ _ _ h => h) (Or.inl ⟨by rfl, ?_⟩) (by assumption) ?_
      rotate_left
      focus
        intro U hU
        try dsimp only at hU
        go_simp
        try (with_reducible rfl)
      simp only [List.getElem_toArray, List.getElem_cons_succ, List.getElem_cons_zero, Act.put, List.setIfInBounds_toArray, List.set_cons_zero, List.set_cons_succ]
      refine wpAnyH_take (i := 9) (v := ?_) rfl (by kernel_rfl) (by kernel_rfl) (by kernel_rfl) (fun _ _ _ h => h) (Or.inl ⟨by rfl, ?_⟩) (by assumption) ?_
      rotate_left
      focus
        intro U hU
        try dsimp only at hU
        go_simp
        try (with_reducible rfl)
      simp only [List.getElem_toArray, List.getElem_cons_succ, List.getElem_cons_zero, Act.put, List.setIfInBounds_toArray, List.set_cons_zero, List.set_cons_succ]
      refine wpAnyH_ready (rs := [10]) (by kernel_rfl) (by simp) ?_
      refine AllReadyH.cons rfl (fun K hK => ?_) AllReadyH.nil
      simp only [List.getElem_toArray, List.getElem_cons_succ, List.getElem_cons_zero]
      go_simp
      refine hK.out _ _ ?_ (fun hHeld2 => ?_)
      focus
        exact hS _ hk2
      clear hHeld
      have hHeld := hHeld2
      clear hHeld2 hK K
      try simp only [List.getElem_toArray, List.getElem_cons_succ, List.getElem_cons_zero, Act.put, List.setIfInBounds_toArray, List.set_cons_zero, List.set_cons_succ]
      refine wpAnyH_take (i := 11) (v := ?_) rfl (by kernel_rfl) (by kernel_rfl) (by kernel_rfl) (fun _ _ _ h => h) (Or.inl ⟨by rfl, ?_⟩) (by assumption) ?_
      rotate_left
      focus
        intro U hU
        try dsimp only at hU
        go_simp
        try (with_reducible rfl)
      simp only [List.getElem_toArray, List.getElem_cons_succ, List.getElem_cons_zero, Act.put, List.setIfInBounds_toArray, List.set_cons_zero, List.set_cons_succ]
      refine wpAnyH_take (i := 12) (v := ?_) rfl (by kernel_rfl) (by kernel_rfl) (by kernel_rfl) (fun _ _ _ h => h) (Or.inl ⟨by rfl, ?_⟩) (by assumption) ?_
      rotate_left
      focus
        intro U hU
        try dsimp only at hU
        go_simp
        try (with_reducible rfl)
      simp only [List.getElem_toArray, List.getElem_cons_succ, List.getElem_cons_zero, Act.put, List.setIfInBounds_toArray, List.set_cons_zero, List.set_cons_succ]
      refine wpAnyH_take (i := 13) (v := ?_) rfl (by kernel_rfl) (by kernel_rfl) (by kernel_rfl) (fun _ _ _ h => h) (Or.inl ⟨by rfl, ?_⟩) (by assumption) ?_
      rotate_left
      focus
        intro U hU
        try dsimp only at hU
        go_simp
        try (with_reducible rfl)
      simp only [List.getElem_toArray, List.getElem_cons_succ, List.getElem_cons_zero, Act.put, List.setIfInBounds_toArray, List.set_cons_zero, List.set_cons_succ]
      refine wpAnyH_done (by kernel_rfl) ?_ _
      obtain ⟨⟨cr0, cr1, cr2, cr3, cr4, cr5, cr6, cr7, cr8, cr9, cr10⟩, _⟩ := eleven_cells hz5
      clear hHeld hS hk0 hk1 hk2 hz5
      go_wp2
      go_ret
      exact ⟨rfl, HB5.out⟩
  · skip
    simp only [List.getElem_toArray, List.getElem_cons_succ, List.getElem_cons_zero]
    go_simp
    refine hK.out _ _ ?_ (fun hHeld2 => ?_)
    focus
      exact hS _ (hk0.alloc hk0.size _)
    clear hHeld
    have hHeld := hHeld2
    clear hHeld2 hK K
    try simp only [List.getElem_toArray, List.getElem_cons_succ, List.getElem_cons_zero, Act.put, List.setIfInBounds_toArray, List.set_cons_zero, List.set_cons_succ]
    have hbn : Below (World.heap k0).size k0 (World.alloc k0 (.cells #[.int .i64 0, .int .i64 0, .int .i64 0, .int .i64 0, .int .i64 0, .slice none 0 0, .int .i64 0, .int .i64 0, .int .i64 0, .int .i64 0, .int .i64 0] 54)) := (Below.refl _ _).alloc (Nat.le_refl _) _
    have hk0b := hk0.trans (hbn.mono hk0.size)
    have hz1 := heap_alloc_new k0 (.cells #[.int .i64 0, .int .i64 0, .int .i64 0, .int .i64 0, .int .i64 0, .slice none 0 0, .int .i64 0, .int .i64 0, .int .i64 0, .int .i64 0, .int .i64 0] 54)
    have hle : w3.heap.size ≤ (World.heap k0).size := hk0.size
    clear hbn
    generalize World.alloc k0 (.cells #[.int .i64 0, .int .i64 0, .int .i64 0, .int .i64 0, .int .i64 0, .slice none 0 0, .int .i64 0, .int .i64 0, .int .i64 0, .int .i64 0, .int .i64 0] 54) = k9 at *
    generalize (World.heap k0).size = Zb at *
    refine wpAnyH_ready (rs := [0]) (by kernel_rfl) (by simp) ?_
    refine (AllReadyH.cons rfl (fun K hK => ?_) AllReadyH.nil)
    simp only [List.getElem_toArray, List.getElem_cons_succ, List.getElem_cons_zero]
    go_simp
    refine (HN2.out _).mono ?_
    rintro e u1 ⟨rfl, g1⟩
    have hk1 := hk0b.trans (g1.mono hk0b.size)
    have hz2 := keep0 hz1 g1
    clear g1
    go_wp2_with fail
    refine hK.out _ _ ?_ (fun hHeld2 => ?_)
    focus
      exact hS _ hk1
    clear hHeld
    have hHeld := hHeld2
    clear hHeld2 hK K
    try simp only [List.getElem_toArray, List.getElem_cons_succ, List.getElem_cons_zero, Act.put, List.setIfInBounds_toArray, List.set_cons_zero, List.set_cons_succ]
    refine wpAnyH_ready (rs := [4]) (by kernel_rfl) (by simp) ?_
    refine (AllReadyH.cons rfl (fun K hK => ?_) AllReadyH.nil)
    simp only [List.getElem_toArray, List.getElem_cons_succ, List.getElem_cons_zero]
    go_simp
    refine (HT1.out _).mono ?_
    rintro e u2 ⟨A3, c3, B3, d3, rfl, ho3, hP3, g2⟩
    simp only [ec, List.length_cons, List.length_nil, Nat.zero_add]
    have hk2 := hk1.trans (g2.mono hk1.size)
    have hP4 := own_mono hP3 (show W.heap.size ≤ _ from Nat.le_trans HB3.out.size hk1.size)
    have hz3 := keep0 hz2 g2
    clear g2 ho3 hP3
    go_wp2_with fail
    refine hK.out _ _ ?_ (fun hHeld2 => ?_)
    focus
      exact hS _ hk2
    clear hHeld
    have hHeld := hHeld2
    clear hHeld2 hK K
    try simp only [List.getElem_toArray, List.getElem_cons_succ, List.getElem_cons_zero, Act.put, List.setIfInBounds_toArray, List.set_cons_zero, List.set_cons_succ]
    refine wpAnyH_take (i := 5) (v := ?_) rfl (by kernel_rfl) (by kernel_rfl) (by kernel_rfl) (fun _ _ _ h => h) (Or.inl ⟨by rfl, ?_⟩) (by assumption) ?_
    rotate_left
    focus
      intro U hU
      try dsimp only at hU
      go_simp
      try (with_reducible rfl)
    simp only [List.getElem_toArray, List.getElem_cons_succ, List.getElem_cons_zero, Act.put, List.setIfInBounds_toArray, List.set_cons_zero, List.set_cons_succ]
    refine wpAnyH_take (i := 6) (v := ?_) rfl (by kernel_rfl) (by kernel_rfl) (by kernel_rfl) (fun _ _ _ h => h) (Or.inl ⟨by rfl, ?_⟩) (by assumption) ?_
    rotate_left
    focus
      intro U hU
      try dsimp only at hU
      go_simp
      try (with_reducible rfl)
    simp only [List.getElem_toArray, List.getElem_cons_succ, List.getElem_cons_zero, Act.put, List.setIfInBounds_toArray, List.set_cons_zero, List.set_cons_succ]
    refine wpAnyH_take (i := 7) (v := ?_) rfl (by kernel_rfl) (by kernel_rfl) (by kernel_rfl) (fun _ _ _ h => h) (Or.inl ⟨by rfl, ?_⟩) (by assumption) ?_
    rotate_left
    focus
      intro U hU
      try dsimp only at hU
      go_simp
      try (with_reducible rfl)
    simp only [List.getElem_toArray, List.getElem_cons_succ, List.getElem_cons_zero, Act.put, List.setIfInBounds_toArray, List.set_cons_zero, List.set_cons_succ]
    refine wpAnyH_take (i := 8) (v := ?_) rfl (by kernel_rfl) (by kernel_rfl) (by kernel_rfl) (fun _ _ _ h => h) (Or.inl ⟨by rfl, ?_⟩) (by assumption) ?_
    rotate_left
    focus
      intro U hU
      try dsimp only at hU
      go_simp
      try (with_reducible rfl)
    simp only [List.getElem_toArray, List.getElem_cons_succ, List.getElem_cons_zero, Act.put, List.setIfInBounds_toArray, List.set_cons_zero, List.set_cons_succ]
    refine wpAnyH_take (i := 9) (v := ?_) rfl (by kernel_rfl) (by kernel_rfl) (by kernel_rfl) (fun _ _ _ h => h) (Or.inl ⟨by rfl, ?_⟩) (by assumption) ?_
    rotate_left
    focus
      intro U hU
      try dsimp only at hU
      go_simp
      try (with_reducible rfl)
    simp only [List.getElem_toArray, List.getElem_cons_succ, List.getElem_cons_zero, Act.put, List.setIfInBounds_toArray, List.set_cons_zero, List.set_cons_succ]
    have hk4 := put11_below hk2 hle (.int .i64 8) (.int .i64 0) (.int .i64 1) (.int .i64 1) (.int .i64 1) (.slice A3 0 c3) (.int .i64 1) (.int .i64 0) (.int .i64 1) (.int .i64 1) (.int .i64 1)
    have hP6 := own_at hP4 hz3 (by decide) fun g hg => put11_other (b := Zb) hg (.int .i64 8) (.int .i64 0) (.int .i64 1) (.int .i64 1) (.int .i64 1) (.slice A3 0 c3) (.int .i64 1) (.int .i64 0) (.int .i64 1) (.int .i64 1) (.int .i64 1)
    obtain ⟨_, ⟨cg0, cg1, cg2, cg3, cg4, cg5, cg6, cg7, cg8, cg9, cg10⟩⟩ := eleven_cells hz3
    simp only [put11] at hk4 hP6
    refine wpAnyH_ready (rs := [11]) (by kernel_rfl) (by simp) ?_
    refine AllReadyH.cons rfl (fun K hK => ?_) AllReadyH.nil
    simp only [List.getElem_toArray, List.getElem_cons_succ, List.getElem_cons_zero]
    go_simp
    refine hK.out _ _ ?_ (fun hHeld2 => ?_)
    focus
      exact hS _ hk4
    clear hHeld
    have hHeld := hHeld2
    clear hHeld2 hK K
    try simp only [List.getElem_toArray, List.getElem_cons_succ, List.getElem_cons_zero, Act.put, List.setIfInBounds_toArray, List.set_cons_zero, List.set_cons_succ]
    refine wpAnyH_take (i := 12) (v := ?_) rfl (by kernel_rfl) (by kernel_rfl) (by kernel_rfl) (fun _ _ _ h => h) (Or.inl ⟨by rfl, ?_⟩) (by assumption) ?_
    rotate_left
    focus
      intro U hU
      try dsimp only at hU
      go_simp
      try (with_reducible rfl)
    simp only [List.getElem_toArray, List.getElem_cons_succ, List.getElem_cons_zero, Act.put, List.setIfInBounds_toArray, List.set_cons_zero, List.set_cons_succ]
    refine wpAnyH_take (i := 13) (v := ?_) rfl (by kernel_rfl) (by kernel_rfl) (by kernel_rfl) (fun _ _ _ h => h) (Or.inl ⟨by rfl, ?_⟩) (by assumption) ?_
    rotate_left
    focus
      intro U hU
      try dsimp only at hU
      go_simp
      try (with_reducible rfl)
    simp only [List.getElem_toArray, List.getElem_cons_succ, List.getElem_cons_zero, Act.put, List.setIfInBounds_toArray, List.set_cons_zero, List.set_cons_succ]
    refine wpAnyH_take (i := 14) (v := ?_) rfl (by kernel_rfl) (by kernel_rfl) (by kernel_rfl) (fun _ _ _ h => h) (Or.inl ⟨by rfl, ?_⟩) (by assumption) ?_
    rotate_left
    focus
      intro U hU
      try dsimp only at hU
      go_simp
      try (with_reducible rfl)
    simp only [List.getElem_toArray, List.getElem_cons_succ, List.getElem_cons_zero, Act.put, List.setIfInBounds_toArray, List.set_cons_zero, List.set_cons_succ]
    refine wpAnyH_done (by kernel_rfl) ?_ _
    have HK4 := hid hk4
    have HP6 := hid hP6
    clear hHeld hS cg0 cg1 cg2 cg3 cg4 cg5 cg6 cg7 cg8 cg9 cg10 HN2 HT1
    clear hk4 hP6
    go_upto_region 7 with (fail)
    refine at_world (fun u => Below w3.heap.size w3 u ∧ OwnP W u (.slice B3 1 d3) [⟨2, 8, 0, 1, 1, 1, []⟩]) ⟨HK4.out, HP6.out⟩ ?_
    clear HK4 HP6
    rintro w4 ⟨hb4, hP4⟩
    have HB4 := hid (HB3.out.trans (hb4.mono HB3.out.size))
    have hx4 := keep0 HX3.out hb4
    have HO4 := hid (own_keep HO3.out hb4)
    obtain ⟨b', rfl, hc4⟩ := hP4.one
    clear HX3 HO3 HB3 hb4 hc4
    go_upto_region 7 with (fail)
    have hS : ∀ U, OwnP W U (.slice (some ⟨b', 0, none⟩) 1 d3) [⟨2, 8, 0, 1, 1, 1, []⟩] → ((U.cell? ⟨b', 0, none⟩ = some (.int .i64 2) ∧ U.cell? ⟨b', 1, none⟩ = some (.int .i64 8) ∧ U.cell? ⟨b', 2, none⟩ = some (.int .i64 0) ∧ U.cell? ⟨b', 3, none⟩ = some (.int .i64 1) ∧ U.cell? ⟨b', 4, none⟩ = some (.int .i64 1) ∧ U.cell? ⟨b', 5, none⟩ = some (.int .i64 1) ∧ U.cell? ⟨b', 6, none⟩ = some (.string ⟨#[]⟩)) ∧ OwnP W U (.slice (some ⟨b', 0, none⟩) 1 d3) [⟨2, 8, 0, 1, 1, 1, []⟩]) := fun U hU => by
      obtain ⟨b9, hb9, hc⟩ := hU.one
      cases hb9
      exact ⟨hc, hU⟩
    have hdr : Below w4.heap.size w4 w4.drew := below_drew (Below.refl _ _)
    have hk0 : OwnP W w4.drew (.slice (some ⟨b', 0, none⟩) 1 d3) [⟨2, 8, 0, 1, 1, 1, []⟩] := own_keep hP4 hdr
    have hxd := keep0 hx4 hdr
    have HOD := hid (own_keep HO4.out hdr)
    have HBD := hid (HB4.out.trans (hdr.mono HB4.out.size))
    clear hP4 hx4 HO4 HB4 hdr
    refine wp_region_held_drew (S := fun U => (U.cell? ⟨b', 0, none⟩ = some (.int .i64 2) ∧ U.cell? ⟨b', 1, none⟩ = some (.int .i64 8) ∧ U.cell? ⟨b', 2, none⟩ = some (.int .i64 0) ∧ U.cell? ⟨b', 3, none⟩ = some (.int .i64 1) ∧ U.cell? ⟨b', 4, none⟩ = some (.int .i64 1) ∧ U.cell? ⟨b', 5, none⟩ = some (.int .i64 1) ∧ U.cell? ⟨b', 6, none⟩ = some (.string ⟨#[]⟩)) ∧ OwnP W U (.slice (some ⟨b', 0, none⟩) 1 d3) [⟨2, 8, 0, 1, 1, 1, []⟩]) (by kernel_rfl) (hS _ hk0) (fun hHeld => ?_)
    generalize w4.drew = k0 at *
    obtain ⟨⟨cp0, cp1, cp2, cp3, cp4, cp5, cp6, cp7, cp8, cp9, cp10⟩, _⟩ := eleven_cells hxd
    refine wpAnyH_take (i := 1) (v := ?_) rfl (by kernel_rfl) (by kernel_rfl) (by kernel_rfl) (fun _ _ _ h => h) (Or.inl ⟨by rfl, ?_⟩) (by assumption) ?_
    rotate_left
    focus
      intro U hU
      try dsimp only at hU
      go_simp
      try (with_reducible rfl)
    simp only [List.getElem_toArray, List.getElem_cons_succ, List.getElem_cons_zero, Act.put, List.setIfInBounds_toArray, List.set_cons_zero, List.set_cons_succ]
    refine wpAnyH_take (i := 2) (v := ?_) rfl (by kernel_rfl) (by kernel_rfl) (by kernel_rfl) (fun _ _ _ h => h) (Or.inl ⟨by rfl, ?_⟩) (by assumption) ?_
    rotate_left
    focus
      intro U hU
      try dsimp only at hU
      go_simp
      try (with_reducible rfl)
    simp only [List.getElem_toArray, List.getElem_cons_succ, List.getElem_cons_zero, Act.put, List.setIfInBounds_toArray, List.set_cons_zero, List.set_cons_succ]
    refine wpAnyH_take (i := 3) (v := ?_) rfl (by kernel_rfl) (by kernel_rfl) (by kernel_rfl) (fun _ _ _ h => h) (Or.inl ⟨by rfl, ?_⟩) (by assumption) ?_
    rotate_left
    focus
      intro U hU
      try dsimp only at hU
      go_simp
      try (with_reducible rfl)
    simp only [List.getElem_toArray, List.getElem_cons_succ, List.getElem_cons_zero, Act.put, List.setIfInBounds_toArray, List.set_cons_zero, List.set_cons_succ]
    refine wpAnyH_ready (rs := [0]) (by kernel_rfl) (by simp) ?_
    refine AllReadyH.cons rfl (fun K hK => ?_) AllReadyH.nil
    simp only [List.getElem_toArray, List.getElem_cons_succ, List.getElem_cons_zero]
    go_simp
    refine hK.out _ _ ?_ (fun hHeld2 => ?_)
    focus
      first | with_reducible exact hS _ hk1 | with_reducible exact hS _ hk0
    clear hHeld
    have hHeld := hHeld2
    clear hHeld2 hK K
    try simp only [List.getElem_toArray, List.getElem_cons_succ, List.getElem_cons_zero, Act.put, List.setIfInBounds_toArray, List.set_cons_zero, List.set_cons_succ]
    refine wpAnyH_ready (rs := [4]) (by kernel_rfl) (by simp) ?_
    refine AllReadyH.cons rfl (fun K hK => ?_) AllReadyH.nil
    simp only [List.getElem_toArray, List.getElem_cons_succ, List.getElem_cons_zero]
    go_simp
    refine (HT2.out A2 c2 _ (sl_own HOD.out)).mono ?_
    rintro e u3 ⟨A5, c5, B5, d5, rfl, ho5, hP5, g3⟩
    simp only [ec, List.length_cons, List.length_nil, Nat.zero_add]
    have hk1 : OwnP W u3 (.slice (some ⟨b', 0, none⟩) 1 d3) [⟨2, 8, 0, 1, 1, 1, []⟩] := own_keep hk0 g3
    have hx5 := keep0 hxd g3
    have HB5 := hid (put11_below (HBD.out.trans (g3.mono HBD.out.size)) hX1 (.int .i64 0) (.int .i64 8) (.int .i64 1) (.int .i64 1) (.int .i64 2) (.slice A5 0 c5) (.int .i64 1) (.int .i64 0) (.int .i64 1) (.int .i64 1) (.int .i64 0))
    have hk2 : OwnP W (put11 u3 X (.int .i64 0) (.int .i64 8) (.int .i64 1) (.int .i64 1) (.int .i64 2) (.slice A5 0 c5) (.int .i64 1) (.int .i64 0) (.int .i64 1) (.int .i64 1) (.int .i64 0)) (.slice (some ⟨b', 0, none⟩) 1 d3) [⟨2, 8, 0, 1, 1, 1, []⟩] := own_at hk1 hx5 (by decide) fun g hg => put11_other hg (.int .i64 0) (.int .i64 8) (.int .i64 1) (.int .i64 1) (.int .i64 2) (.slice A5 0 c5) (.int .i64 1) (.int .i64 0) (.int .i64 1) (.int .i64 1) (.int .i64 0)
    have hz5 := put11_heap hx5 (.int .i64 0) (.int .i64 8) (.int .i64 1) (.int .i64 1) (.int .i64 2) (.slice A5 0 c5) (.int .i64 1) (.int .i64 0) (.int .i64 1) (.int .i64 1) (.int .i64 0)
    clear cp0 cp1 cp2 cp3 cp4 cp5 cp6 cp7 cp8 cp9 cp10
    obtain ⟨_, ⟨cg0, cg1, cg2, cg3, cg4, cg5, cg6, cg7, cg8, cg9, cg10⟩⟩ := eleven_cells hx5
    simp only [put11] at HB5 hk2 hz5
    clear g3 ho5 hP5 hx5 hxd
    go_wp2_with fail
    refine hK.out _ _ ?_ (fun hHeld2 => ?_)
    focus
      first | with_reducible exact hS _ hk1 | with_reducible exact hS _ hk0
    clear hHeld
    have hHeld := hHeld2
    clear hHeld2 hK K
    try simp only [List.getElem_toArray, List.getElem_cons_succ, List.getElem_cons_zero, Act.put, List.setIfInBounds_toArray, List.set_cons_zero, List.set_cons_succ]
    refine wpAnyH_take (i := 5) (v := ?_) rfl (by kernel_rfl) (by kernel_rfl) (by kernel_rfl) (fun _ _ _ h => h) (Or.inl ⟨by rfl, ?_⟩) (by assumption) ?_
    rotate_left
    focus
      intro U hU
      try dsimp only at hU
      go_simp
      try (with_reducible rfl)
    simp only [List.getElem_toArray, List.getElem_cons_succ, List.getElem_cons_zero, Act.put, List.setIfInBounds_toArray, List.set_cons_zero, List.set_cons_succ]
    refine wpAnyH_take (i := 6) (v := ?_) rfl (by kernel_rfl) (by kernel_rfl) (by kernel_rfl) (fun _ _ _ h => h) (Or.inl ⟨by rfl, ?_⟩) (by assumption) ?_
    rotate_left
    focus
      intro U hU
      try dsimp only at hU
      go_simp
      try (with_reducible rfl)
    simp only [List.getElem_toArray, List.getElem_cons_succ, List.getElem_cons_zero, Act.put, List.setIfInBounds_toArray, List.set_cons_zero, List.set_cons_succ]
    refine wpAnyH_take (i := 7) (v := ?_) rfl (by kernel_rfl) (by kernel_rfl) (by kernel_rfl) (fun _ _ _ h => h) (Or.inl ⟨by rfl, ?_⟩) (by assumption) ?_
    rotate_left
    focus
      intro U hU
      try dsimp only at hU
      go_simp
      try (with_reducible rfl)
    simp only [List.getElem_toArray, List.getElem_cons_succ, List.getElem_cons_zero, Act.put, List.setIfInBounds_toArray, List.set_cons_zero, List.set_cons_succ]
    refine wpAnyH_take (i := 8) (v := ?_) rfl (by kernel_rfl) (by kernel_rfl) (by kernel_rfl) (fun _ _ _ h => h) (Or.inl ⟨by rfl, ?_⟩) (by assumption) ?_
    rotate_left
    focus
      intro U hU
      try dsimp only at hU
      go_simp
      try (with_reducible rfl)
    simp only [List.getElem_toArray, List.getElem_cons_succ, List.getElem_cons_zero, Act.put, List.setIfInBounds_toArray, List.set_cons_zero, List.set_cons_succ]
    refine wpAnyH_take (i := 9) (v := ?_) rfl (by kernel_rfl) (by kernel_rfl) (by kernel_rfl) (fun _ _ _ h => h) (Or.inl ⟨by rfl, ?_⟩) (by assumption) ?_
    rotate_left
    focus
      intro U hU
      try dsimp only at hU
      go_simp
      try (with_reducible rfl)
    simp only [List.getElem_toArray, List.getElem_cons_succ, List.getElem_cons_zero, Act.put, List.setIfInBounds_toArray, List.set_cons_zero, List.set_cons_succ]
    refine wpAnyH_ready (rs := [10]) (by kernel_rfl) (by simp) ?_
    refine AllReadyH.cons rfl (fun K hK => ?_) AllReadyH.nil
    simp only [List.getElem_toArray, List.getElem_cons_succ, List.getElem_cons_zero]
    go_simp
    refine hK.out _ _ ?_ (fun hHeld2 => ?_)
    focus
      exact hS _ hk2
    clear hHeld
    have hHeld := hHeld2
    clear hHeld2 hK K
    try simp only [List.getElem_toArray, List.getElem_cons_succ, List.getElem_cons_zero, Act.put, List.setIfInBounds_toArray, List.set_cons_zero, List.set_cons_succ]
    refine wpAnyH_take (i := 11) (v := ?_) rfl (by kernel_rfl) (by kernel_rfl) (by kernel_rfl) (fun _ _ _ h => h) (Or.inl ⟨by rfl, ?_⟩) (by assumption) ?_
    rotate_left
    focus
      intro U hU
      try dsimp only at hU
      go_simp
      try (with_reducible rfl)
    simp only [List.getElem_toArray, List.getElem_cons_succ, List.getElem_cons_zero, Act.put, List.setIfInBounds_toArray, List.set_cons_zero, List.set_cons_succ]
    refine wpAnyH_take (i := 12) (v := ?_) rfl (by kernel_rfl) (by kernel_rfl) (by kernel_rfl) (fun _ _ _ h => h) (Or.inl ⟨by rfl, ?_⟩) (by assumption) ?_
    rotate_left
    focus
      intro U hU
      try dsimp only at hU
      go_simp
      try (with_reducible rfl)
    simp only [List.getElem_toArray, List.getElem_cons_succ, List.getElem_cons_zero, Act.put, List.setIfInBounds_toArray, List.set_cons_zero, List.set_cons_succ]
    refine wpAnyH_take (i := 13) (v := ?_) rfl (by kernel_rfl) (by kernel_rfl) (by kernel_rfl) (fun _ _ _ h => h) (Or.inl ⟨by rfl, ?_⟩) (by assumption) ?_
    rotate_left
    focus
      intro U hU
      try dsimp only at hU
      go_simp
      try (with_reducible rfl)
    simp only [List.getElem_toArray, List.getElem_cons_succ, List.getElem_cons_zero, Act.put, List.setIfInBounds_toArray, List.set_cons_zero, List.set_cons_succ]
    refine wpAnyH_done (by kernel_rfl) ?_ _
    obtain ⟨⟨cr0, cr1, cr2, cr3, cr4, cr5, cr6, cr7, cr8, cr9, cr10⟩, _⟩ := eleven_cells hz5
    clear hHeld hS hk0 hk1 hk2 hz5
    go_wp2
    go_ret
    exact ⟨rfl, HB5.out⟩
end Go.Proofs.Ytdekemlckpbbcaa
