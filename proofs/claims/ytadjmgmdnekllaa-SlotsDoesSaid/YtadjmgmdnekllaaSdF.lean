/- The law's Of: the program's slots: contract. -/
import Derived.Test.YtadjmgmdnekllaaSdE
namespace Go.Proofs.Ytadjmgmdnekllaa
open Go.RowKit Go.Sort
set_option linter.unusedVariables false
set_option linter.unusedSimpArgs false

theorem own_nil_at {w : World} {X B e s : Nat} (h : w.heap[X]? = some (.cells #[] e (0, 0))) (hb : B ≤ X) : w.ownsRow B e s (.slice (some ⟨X, 0, none⟩) 0 0) 0 [] := ⟨by simp, .inr ⟨X, 0, #[], rfl, hb, h, Nat.le_refl _, Nat.zero_le _, by simp, by simp⟩⟩
theorem keepP {w w' : World} {B X c : Nat} {A : Option Addr} {l : List (Int × Int)} (hp : w.ownsRow B 119 2 (.slice A l.length c) l.length (pcells l)) (h9 : w.heap[X]? = some (.cells #[] 119 (0, 0))) (hk : ∀ g, B ≤ g → g < w.heap.size → (Value.slice (some ⟨X, 0, none⟩) 0 0).ownBlock ≠ some g → w'.heap[g]? = w.heap[g]?) : w'.ownsRow B 119 2 (.slice A l.length c) l.length (pcells l) ∨ (l = [] ∧ c ≤ maxLen) := by
  rcases hp.2 with ⟨h1, h2⟩ | ⟨g, cap, cur, h3, h4, h5, h6, h7, h8, h10⟩
  · exact .inl ⟨hp.1, .inl ⟨h1, h2⟩⟩
  · obtain ⟨rfl, rfl⟩ : A = some ⟨g, 0, none⟩ ∧ c = cap := by injection h3 with a b c; exact ⟨a, c⟩
    by_cases hg : g = X
    · subst hg
      right
      rw [h9] at h5
      have hc : cur = #[] := by injection h5 with h5; injection h5 with h5; exact h5.symm
      rw [hc] at h10
      refine ⟨?_, h7⟩
      have : pcells l = pcells [] := by rw [← h10]; simp [pcells_nil]
      exact pcells_inj this
    · left
      exact ⟨hp.1, .inr ⟨g, c, cur, rfl, h4, (hk g h4 (lt_of_block h5) (fun e => hg (by have := Option.some.inj e; exact this.symm))).trans h5, h6, h7, h8, h10⟩⟩
theorem endP {w : World} {B Z c : Nat} {A : Option Addr} {l : List (Int × Int)} {x0 x1 x2 x3 : Value} (h : w.ownsRow B 119 2 (.slice A l.length c) l.length (pcells l) ∨ (l = [] ∧ c ≤ maxLen)) (hZ : Z < B) : Sl (put4 w Z x0 x1 x2 x3) 2 A l.length c (pcells l) := by
  rcases h with h | ⟨rfl, h⟩
  · exact sl_own (own_put4 h hZ)
  · exact Sl.nil _ _ _ _ h

set_option maxRecDepth 20000 in
set_option maxHeartbeats 8000000 in
theorem of30_any (s : Sv) (A O R : Option Addr) (ca co cr : Nat) (W : World) (h : InV W s A O R ca co cr) (hk : OkV s) :
    Calls Try.prog 77 #[.agg (svv s A O R ca co cr)] W fun e w' => ∃ A' O' R' ca' co' cr', e = .returned (.agg (svv s A' O' R' ca' co' cr')) ∧ InV w' s A' O' R' ca' co' cr' ∧ Below W.heap.size W w' := by
  have HOF := hid (fun w (hw : Below W.heap.size W w) => qof_any A s.a.length ca s.a w (h.1.below hw) (by have := hk.2.1; omega))
  have HSO := hid (fun w (hw : Below W.heap.size W w) => h.2.1.below hw)
  have HSR := hid (fun w (hw : Below W.heap.size W w) => h.2.2.below hw)
  have hla := hk.2.1
  have hlo := hk.2.2.1
  have hlr := hk.2.2.2
  clear h hk
  obtain ⟨n, a, o, r⟩ := s
  simp only [svv] at *
  go_enter Try.func77, Try.ntmps77
  go_upto_region 1 with (fail)
  refine at_world (fun u => u.heap[W.heap.size]? = some (.cells #[.int .i64 n, .slice A a.length ca, .slice O o.length co, .slice R r.length cr] 113 (0, 0)) ∧ u.heap[W.heap.size + 1]? = some (.cells #[.int .i64 0, .slice none 0 0, .slice none 0 0, .slice none 0 0] 116 (0, 0)) ∧ Below W.heap.size W u) (heap2 _ _ _) ?_
  rintro w1 ⟨hx1, hz1, hb1⟩
  have HZ := hid (lt_of_block hz1)
  have HB1 := hid hb1
  clear hb1
  go_cut [0] from 3 to 16 (fun _ wx => ∃ A9 c9 A5 c5 A6 c6, wx.heap[W.heap.size + 1]? = some (.cells #[.int .i64 n, .slice A9 a.length c9, .slice A5 o.length c5, .slice A6 r.length c6] 116 (0, 0)) ∧ InV wx ⟨n, a, o, r⟩ A9 A5 A6 c9 c5 c6 ∧ Below W.heap.size W wx)
  case rest =>
    obtain ⟨A9, c9, A5, c5, A6, c6, hz, hi, hb⟩ := hcut
    obtain ⟨⟨r0, r1, r2, r3⟩, _⟩ := four_cells hz
    have HI := hid hi
    have HB := hid hb
    clear hz hi hb hx1 hz1
    go_wp2
    exact bodyPost_ret (v := .agg #[.int .i64 n, .slice A9 a.length c9, .slice A5 o.length c5, .slice A6 r.length c6]) (by simp [results, Try.results77, go_sem, r0, r1, r2, r3]) rfl ⟨A9, A5, A6, c9, c5, c6, rfl, HI.out, HB.out⟩
  have hS : ∀ U, Below (W.heap.size + 1) w1 U → ((U.cell? ⟨W.heap.size, 0, none⟩ = some (.int .i64 n) ∧ U.cell? ⟨W.heap.size, 1, none⟩ = some (.slice A a.length ca) ∧ U.cell? ⟨W.heap.size, 2, none⟩ = some (.slice O o.length co) ∧ U.cell? ⟨W.heap.size, 3, none⟩ = some (.slice R r.length cr)) ∧ Below (W.heap.size + 1) w1 U) := fun U hU => ⟨(four_cells ((hU.block W.heap.size (Nat.lt_succ_self _)).trans hx1)).1, hU⟩
  have hM : ∀ U, Below w1.heap.size w1 U → Below (W.heap.size + 1) w1 U := fun U hU => hU.mono (Nat.le_of_lt HZ.out)
  have hT : ∀ U, Below w1.heap.size w1 U → Below W.heap.size W U := fun U hU => HB1.out.trans (hU.mono HB1.out.size)
  have hk : Below w1.heap.size w1 w1.drew := below_drew (Below.refl _ _)
  refine wp_region_held_drew (S := fun U => ((U.cell? ⟨W.heap.size, 0, none⟩ = some (.int .i64 n) ∧ U.cell? ⟨W.heap.size, 1, none⟩ = some (.slice A a.length ca) ∧ U.cell? ⟨W.heap.size, 2, none⟩ = some (.slice O o.length co) ∧ U.cell? ⟨W.heap.size, 3, none⟩ = some (.slice R r.length cr)) ∧ Below (W.heap.size + 1) w1 U)) (by kernel_rfl) (hS _ (hM _ hk)) (fun hHeld => ?_)
  generalize w1.drew = k0 at *
  refine wpAnyH_take (i := 0) (v := ?_) rfl (by kernel_rfl) (by kernel_rfl) (by kernel_rfl) (fun _ _ _ h => h) (Or.inl ⟨by rfl, ?_⟩) (by exact hS _ (hM _ hk)) ?_
  rotate_left
  focus
    intro U hU
    try dsimp only at hU
    go_simp
    try (with_reducible rfl)
  simp only [List.getElem_toArray, List.getElem_cons_succ, List.getElem_cons_zero, Act.put, List.setIfInBounds_toArray, List.set_cons_zero, List.set_cons_succ]
  refine wpAnyH_take (i := 1) (v := ?_) rfl (by kernel_rfl) (by kernel_rfl) (by kernel_rfl) (fun _ _ _ h => h) (Or.inl ⟨by rfl, ?_⟩) (by exact hS _ (hM _ hk)) ?_
  rotate_left
  focus
    intro U hU
    try dsimp only at hU
    go_simp
    try (with_reducible rfl)
  simp only [List.getElem_toArray, List.getElem_cons_succ, List.getElem_cons_zero, Act.put, List.setIfInBounds_toArray, List.set_cons_zero, List.set_cons_succ]
  refine wpAnyH_take (i := 2) (v := ?_) rfl (by kernel_rfl) (by kernel_rfl) (by kernel_rfl) (fun _ _ _ h => h) (Or.inl ⟨by rfl, ?_⟩) (by exact hS _ (hM _ hk)) ?_
  rotate_left
  focus
    intro U hU
    try dsimp only at hU
    go_simp
    try (with_reducible rfl)
  simp only [List.getElem_toArray, List.getElem_cons_succ, List.getElem_cons_zero, Act.put, List.setIfInBounds_toArray, List.set_cons_zero, List.set_cons_succ]
  refine wpAnyH_take (i := 3) (v := ?_) rfl (by kernel_rfl) (by kernel_rfl) (by kernel_rfl) (fun _ _ _ h => h) (Or.inl ⟨by rfl, ?_⟩) (by exact hS _ (hM _ hk)) ?_
  rotate_left
  focus
    intro U hU
    try dsimp only at hU
    go_simp
    try (with_reducible rfl)
  simp only [List.getElem_toArray, List.getElem_cons_succ, List.getElem_cons_zero, Act.put, List.setIfInBounds_toArray, List.set_cons_zero, List.set_cons_succ]
  refine wpAnyH_take (i := 6) (v := ?_) rfl (by kernel_rfl) (by kernel_rfl) (by kernel_rfl) (fun _ _ _ h => h) (Or.inl ⟨by rfl, ?_⟩) (by exact hS _ (hM _ hk)) ?_
  rotate_left
  focus
    intro U hU
    try dsimp only at hU
    go_simp
    try (with_reducible rfl)
  simp only [List.getElem_toArray, List.getElem_cons_succ, List.getElem_cons_zero, Act.put, List.setIfInBounds_toArray, List.set_cons_zero, List.set_cons_succ]
  refine wpAnyH_take (i := 7) (v := ?_) rfl (by kernel_rfl) (by kernel_rfl) (by kernel_rfl) (fun _ _ _ h => h) (Or.inl ⟨by rfl, ?_⟩) (by exact hS _ (hM _ hk)) ?_
  rotate_left
  focus
    intro U hU
    try dsimp only at hU
    go_simp
    try (with_reducible rfl)
  simp only [List.getElem_toArray, List.getElem_cons_succ, List.getElem_cons_zero, Act.put, List.setIfInBounds_toArray, List.set_cons_zero, List.set_cons_succ]
  refine wpAnyH_take (i := 10) (v := ?_) rfl (by kernel_rfl) (by kernel_rfl) (by kernel_rfl) (fun _ _ _ h => h) (Or.inl ⟨by rfl, ?_⟩) (by exact hS _ (hM _ hk)) ?_
  rotate_left
  focus
    intro U hU
    try dsimp only at hU
    go_simp
    try (with_reducible rfl)
  simp only [List.getElem_toArray, List.getElem_cons_succ, List.getElem_cons_zero, Act.put, List.setIfInBounds_toArray, List.set_cons_zero, List.set_cons_succ]
  refine wpAnyH_take (i := 11) (v := ?_) rfl (by kernel_rfl) (by kernel_rfl) (by kernel_rfl) (fun _ _ _ h => h) (Or.inl ⟨by rfl, ?_⟩) (by exact hS _ (hM _ hk)) ?_
  rotate_left
  focus
    intro U hU
    try dsimp only at hU
    go_simp
    try (with_reducible rfl)
  simp only [List.getElem_toArray, List.getElem_cons_succ, List.getElem_cons_zero, Act.put, List.setIfInBounds_toArray, List.set_cons_zero, List.set_cons_succ]
  refine wpAnyH_ready (rs := [4, 5, 9]) (by kernel_rfl) (by simp) ?_
  refine (AllReadyH.cons rfl (fun K hK => ?_) (AllReadyH.cons rfl (fun K hK => ?_) (AllReadyH.cons rfl (fun K hK => ?_) AllReadyH.nil)))
  · skip
    simp only [List.getElem_toArray, List.getElem_cons_succ, List.getElem_cons_zero]
    go_simp
    refine (HOF.out _ (hT _ hk)).mono ?_
    rintro e u1 ⟨A9, c9, rfl, ho9, hbs⟩
    have HC := hid (own_mono ho9 hk.size)
    clear ho9
    replace hk := hk.trans (hbs.mono hk.size)
    clear hbs
    go_wp2_with fail
    refine hK.out _ _ ?_ (fun hHeld2 => ?_)
    focus
      exact hS _ (hM _ hk)
    clear hHeld
    have hHeld := hHeld2
    clear hHeld2 hK K
    try simp only [List.getElem_toArray, List.getElem_cons_succ, List.getElem_cons_zero, Act.put, List.setIfInBounds_toArray, List.set_cons_zero, List.set_cons_succ]
    refine wpAnyH_ready (rs := [5, 9]) (by kernel_rfl) (by simp) ?_
    refine (AllReadyH.cons rfl (fun K hK => ?_) (AllReadyH.cons rfl (fun K hK => ?_) AllReadyH.nil))
    · skip
      have hbs : Below (World.heap u1).size u1 (World.alloc u1 (.cells #[] 119)) := (Below.refl _ _).alloc (Nat.le_refl _) _
      have HE := hid (own_mono (own_empty u1 119 2) hk.size)
      replace HC := hid (own_keep HC.out hbs)
      replace hk := hk.trans (hbs.mono hk.size)
      clear hbs
      simp only [List.getElem_toArray, List.getElem_cons_succ, List.getElem_cons_zero]
      go_simp
      refine hK.out _ _ ?_ (fun hHeld2 => ?_)
      focus
        exact hS _ (hM _ hk)
      clear hHeld
      have hHeld := hHeld2
      clear hHeld2 hK K
      try simp only [List.getElem_toArray, List.getElem_cons_succ, List.getElem_cons_zero, Act.put, List.setIfInBounds_toArray, List.set_cons_zero, List.set_cons_succ]
      generalize (World.alloc u1 (.cells #[] 119)) = u2 at *
      generalize (World.heap u1).size = XE at *
      refine wpAnyH_ready (rs := [8, 9]) (by kernel_rfl) (by simp) ?_
      refine (AllReadyH.cons rfl (fun K hK => ?_) (AllReadyH.cons rfl (fun K hK => ?_) AllReadyH.nil))
      · skip
        refine step_append_sl rfl (.tmp 8) (.tmp 10) 111 rfl w1.heap.size 119 Try.underlying111 info_task rfl (by omega) rfl HE.out rfl (HSO.out _ (hT _ hk)) (pcells_one _) (by unfold maxLen; omega) (by omega) hk.size ?_
        intro vu3 u3 ho5 hb5 hsz5 hk5
        simp only [Nat.zero_add, List.nil_append] at ho5
        obtain ⟨A5, c5, rfl, _⟩ := Sl.of_own ho5
        replace HC := hid (own_at HC.out fun g hg => hk5 g (own_blk_lt HC.out hg).2 (own_blk_lt HC.out hg).1 (fun e => own_apart (by decide) HC.out HE.out g e hg))
        clear HE
        have HP := hid ho5
        replace hk := hk.trans hb5
        clear hb5 hsz5 hk5 ho5
        simp only [List.getElem_toArray, List.getElem_cons_succ, List.getElem_cons_zero]
        refine hK.out _ _ ?_ (fun hHeld2 => ?_)
        focus
          exact hS _ (hM _ hk)
        clear hHeld
        have hHeld := hHeld2
        clear hHeld2 hK K
        try simp only [List.getElem_toArray, List.getElem_cons_succ, List.getElem_cons_zero, Act.put, List.setIfInBounds_toArray, List.set_cons_zero, List.set_cons_succ]
        refine wpAnyH_ready (rs := [9]) (by kernel_rfl) (by simp) ?_
        refine (AllReadyH.cons rfl (fun K hK => ?_) AllReadyH.nil)
        have hbs : Below (World.heap u3).size u3 (World.alloc u3 (.cells #[] 119)) := (Below.refl _ _).alloc (Nat.le_refl _) _
        have H9 : Hid ((World.alloc u3 (.cells #[] 119)).heap[(World.heap u3).size]? = some (.cells #[] 119 (0, 0))) := hid (heap_alloc_new _ _)
        have HXF : Hid (w1.heap.size ≤ (World.heap u3).size) := hid hk.size
        replace HP := hid (own_keep HP.out hbs)
        replace HC := hid (own_keep HC.out hbs)
        replace hk := hk.trans (hbs.mono hk.size)
        clear hbs
        simp only [List.getElem_toArray, List.getElem_cons_succ, List.getElem_cons_zero]
        go_simp
        refine hK.out _ _ ?_ (fun hHeld2 => ?_)
        focus
          exact hS _ (hM _ hk)
        clear hHeld
        have hHeld := hHeld2
        clear hHeld2 hK K
        try simp only [List.getElem_toArray, List.getElem_cons_succ, List.getElem_cons_zero, Act.put, List.setIfInBounds_toArray, List.set_cons_zero, List.set_cons_succ]
        generalize (World.alloc u3 (.cells #[] 119)) = u4 at *
        generalize (World.heap u3).size = XF at *
        refine wpAnyH_ready (rs := [12]) (by kernel_rfl) (by simp) ?_
        refine (AllReadyH.cons rfl (fun K hK => ?_) AllReadyH.nil)
        have HE := hid (own_nil_at (s := 2) H9.out HXF.out)
        refine step_append_sl rfl (.tmp 12) (.tmp 14) 111 rfl w1.heap.size 119 Try.underlying111 info_task rfl (by omega) rfl HE.out rfl (HSR.out _ (hT _ hk)) (pcells_one _) (by unfold maxLen; omega) (by omega) hk.size ?_
        intro vu5 u5 ho5 hb5 hsz5 hk5
        simp only [Nat.zero_add, List.nil_append] at ho5
        obtain ⟨A6, c6, rfl, _⟩ := Sl.of_own ho5
        replace HC := hid (own_at HC.out fun g hg => hk5 g (own_blk_lt HC.out hg).2 (own_blk_lt HC.out hg).1 (fun e => own_apart (by decide) HC.out HE.out g e hg))
        have HPD := hid (keepP HP.out H9.out hk5)
        clear HE HP H9
        have HQ := hid ho5
        replace hk := hk.trans hb5
        clear hb5 hsz5 hk5 ho5
        simp only [List.getElem_toArray, List.getElem_cons_succ, List.getElem_cons_zero]
        refine hK.out _ _ ?_ (fun hHeld2 => ?_)
        focus
          exact hS _ (hM _ hk)
        clear hHeld
        have hHeld := hHeld2
        clear hHeld2 hK K
        try simp only [List.getElem_toArray, List.getElem_cons_succ, List.getElem_cons_zero, Act.put, List.setIfInBounds_toArray, List.set_cons_zero, List.set_cons_succ]
        refine wpAnyH_take (i := 13) (v := ?_) rfl (by kernel_rfl) (by kernel_rfl) (by kernel_rfl) (fun _ _ _ h => h) (Or.inl ⟨by rfl, ?_⟩) (by exact hS _ (hM _ hk)) ?_
        rotate_left
        focus
          intro U hU
          try dsimp only at hU
          go_simp
          try (with_reducible rfl)
        simp only [List.getElem_toArray, List.getElem_cons_succ, List.getElem_cons_zero, Act.put, List.setIfInBounds_toArray, List.set_cons_zero, List.set_cons_succ]
        have hz := keep0 hz1 hk
        refine wpAnyH_ready (rs := [14]) (by kernel_rfl) (by simp) ?_
        refine AllReadyH.cons rfl (fun K hK => ?_) AllReadyH.nil
        obtain ⟨_, f0, f1, f2, f3⟩ := four_cells hz
        simp only [List.getElem_toArray, List.getElem_cons_succ, List.getElem_cons_zero]
        go_simp
        refine hK.out _ _ ?_ (fun hHeld2 => ?_)
        focus
          exact hS _ (((((hM _ hk).setCell (p := ⟨W.heap.size + 1, 0, none⟩) (Nat.le_refl _) _).setCell (p := ⟨W.heap.size + 1, 1, none⟩) (Nat.le_refl _) _).setCell (p := ⟨W.heap.size + 1, 2, none⟩) (Nat.le_refl _) _).setCell (p := ⟨W.heap.size + 1, 3, none⟩) (Nat.le_refl _) _)
        clear hHeld
        have hHeld := hHeld2
        clear hHeld2 hK K
        try simp only [List.getElem_toArray, List.getElem_cons_succ, List.getElem_cons_zero, Act.put, List.setIfInBounds_toArray, List.set_cons_zero, List.set_cons_succ]
        refine wpAnyH_done (by kernel_rfl) ?_ _
        clear hHeld f0 f1 f2 f3
        go_wp2_with fail
        go_meet
        exact ⟨A9, c9, A5, c5, A6, c6, put4_heap hz _ _ _ _, ⟨sl_own (own_put4 HC.out HZ.out), endP HPD.out HZ.out, sl_own (own_put4 HQ.out HZ.out)⟩, put4_below (hT _ hk) (Nat.le_succ _) _ _ _ _⟩
      · skip
        have hbs : Below (World.heap u2).size u2 (World.alloc u2 (.cells #[] 119)) := (Below.refl _ _).alloc (Nat.le_refl _) _
        have H9 : Hid ((World.alloc u2 (.cells #[] 119)).heap[(World.heap u2).size]? = some (.cells #[] 119 (0, 0))) := hid (heap_alloc_new _ _)
        have HXF : Hid (w1.heap.size ≤ (World.heap u2).size) := hid hk.size
        have HNE : Hid ((World.heap u2).size ≠ XE) := hid (Nat.ne_of_gt (own_blk_lt HE.out rfl).1)
        replace HE := hid (own_keep HE.out hbs)
        replace HC := hid (own_keep HC.out hbs)
        replace hk := hk.trans (hbs.mono hk.size)
        clear hbs
        simp only [List.getElem_toArray, List.getElem_cons_succ, List.getElem_cons_zero]
        go_simp
        refine hK.out _ _ ?_ (fun hHeld2 => ?_)
        focus
          exact hS _ (hM _ hk)
        clear hHeld
        have hHeld := hHeld2
        clear hHeld2 hK K
        try simp only [List.getElem_toArray, List.getElem_cons_succ, List.getElem_cons_zero, Act.put, List.setIfInBounds_toArray, List.set_cons_zero, List.set_cons_succ]
        generalize (World.alloc u2 (.cells #[] 119)) = u6 at *
        generalize (World.heap u2).size = XF at *
        refine wpAnyH_ready (rs := [8]) (by kernel_rfl) (by simp) ?_
        refine (AllReadyH.cons rfl (fun K hK => ?_) AllReadyH.nil)
        refine step_append_sl rfl (.tmp 8) (.tmp 10) 111 rfl w1.heap.size 119 Try.underlying111 info_task rfl (by omega) rfl HE.out rfl (HSO.out _ (hT _ hk)) (pcells_one _) (by unfold maxLen; omega) (by omega) hk.size ?_
        intro vu7 u7 ho5 hb5 hsz5 hk5
        simp only [Nat.zero_add, List.nil_append] at ho5
        obtain ⟨A5, c5, rfl, _⟩ := Sl.of_own ho5
        replace HC := hid (own_at HC.out fun g hg => hk5 g (own_blk_lt HC.out hg).2 (own_blk_lt HC.out hg).1 (fun e => own_apart (by decide) HC.out HE.out g e hg))
        replace H9 := hid ((hk5 XF HXF.out (lt_of_block H9.out) (fun e => HNE.out (Option.some.inj e).symm)).trans H9.out)
        clear HE
        have HP := hid ho5
        replace hk := hk.trans hb5
        clear hb5 hsz5 hk5 ho5
        simp only [List.getElem_toArray, List.getElem_cons_succ, List.getElem_cons_zero]
        refine hK.out _ _ ?_ (fun hHeld2 => ?_)
        focus
          exact hS _ (hM _ hk)
        clear hHeld
        have hHeld := hHeld2
        clear hHeld2 hK K
        try simp only [List.getElem_toArray, List.getElem_cons_succ, List.getElem_cons_zero, Act.put, List.setIfInBounds_toArray, List.set_cons_zero, List.set_cons_succ]
        refine wpAnyH_ready (rs := [12]) (by kernel_rfl) (by simp) ?_
        refine (AllReadyH.cons rfl (fun K hK => ?_) AllReadyH.nil)
        have HE := hid (own_nil_at (s := 2) H9.out HXF.out)
        refine step_append_sl rfl (.tmp 12) (.tmp 14) 111 rfl w1.heap.size 119 Try.underlying111 info_task rfl (by omega) rfl HE.out rfl (HSR.out _ (hT _ hk)) (pcells_one _) (by unfold maxLen; omega) (by omega) hk.size ?_
        intro vu8 u8 ho5 hb5 hsz5 hk5
        simp only [Nat.zero_add, List.nil_append] at ho5
        obtain ⟨A6, c6, rfl, _⟩ := Sl.of_own ho5
        replace HC := hid (own_at HC.out fun g hg => hk5 g (own_blk_lt HC.out hg).2 (own_blk_lt HC.out hg).1 (fun e => own_apart (by decide) HC.out HE.out g e hg))
        have HPD := hid (keepP HP.out H9.out hk5)
        clear HE HP H9
        have HQ := hid ho5
        replace hk := hk.trans hb5
        clear hb5 hsz5 hk5 ho5
        simp only [List.getElem_toArray, List.getElem_cons_succ, List.getElem_cons_zero]
        refine hK.out _ _ ?_ (fun hHeld2 => ?_)
        focus
          exact hS _ (hM _ hk)
        clear hHeld
        have hHeld := hHeld2
        clear hHeld2 hK K
        try simp only [List.getElem_toArray, List.getElem_cons_succ, List.getElem_cons_zero, Act.put, List.setIfInBounds_toArray, List.set_cons_zero, List.set_cons_succ]
        refine wpAnyH_take (i := 13) (v := ?_) rfl (by kernel_rfl) (by kernel_rfl) (by kernel_rfl) (fun _ _ _ h => h) (Or.inl ⟨by rfl, ?_⟩) (by exact hS _ (hM _ hk)) ?_
        rotate_left
        focus
          intro U hU
          try dsimp only at hU
          go_simp
          try (with_reducible rfl)
        simp only [List.getElem_toArray, List.getElem_cons_succ, List.getElem_cons_zero, Act.put, List.setIfInBounds_toArray, List.set_cons_zero, List.set_cons_succ]
        have hz := keep0 hz1 hk
        refine wpAnyH_ready (rs := [14]) (by kernel_rfl) (by simp) ?_
        refine AllReadyH.cons rfl (fun K hK => ?_) AllReadyH.nil
        obtain ⟨_, f0, f1, f2, f3⟩ := four_cells hz
        simp only [List.getElem_toArray, List.getElem_cons_succ, List.getElem_cons_zero]
        go_simp
        refine hK.out _ _ ?_ (fun hHeld2 => ?_)
        focus
          exact hS _ (((((hM _ hk).setCell (p := ⟨W.heap.size + 1, 0, none⟩) (Nat.le_refl _) _).setCell (p := ⟨W.heap.size + 1, 1, none⟩) (Nat.le_refl _) _).setCell (p := ⟨W.heap.size + 1, 2, none⟩) (Nat.le_refl _) _).setCell (p := ⟨W.heap.size + 1, 3, none⟩) (Nat.le_refl _) _)
        clear hHeld
        have hHeld := hHeld2
        clear hHeld2 hK K
        try simp only [List.getElem_toArray, List.getElem_cons_succ, List.getElem_cons_zero, Act.put, List.setIfInBounds_toArray, List.set_cons_zero, List.set_cons_succ]
        refine wpAnyH_done (by kernel_rfl) ?_ _
        clear hHeld f0 f1 f2 f3
        go_wp2_with fail
        go_meet
        exact ⟨A9, c9, A5, c5, A6, c6, put4_heap hz _ _ _ _, ⟨sl_own (own_put4 HC.out HZ.out), endP HPD.out HZ.out, sl_own (own_put4 HQ.out HZ.out)⟩, put4_below (hT _ hk) (Nat.le_succ _) _ _ _ _⟩
    · skip
      have hbs : Below (World.heap u1).size u1 (World.alloc u1 (.cells #[] 119)) := (Below.refl _ _).alloc (Nat.le_refl _) _
      have H9 : Hid ((World.alloc u1 (.cells #[] 119)).heap[(World.heap u1).size]? = some (.cells #[] 119 (0, 0))) := hid (heap_alloc_new _ _)
      have HXF : Hid (w1.heap.size ≤ (World.heap u1).size) := hid hk.size
      replace HC := hid (own_keep HC.out hbs)
      replace hk := hk.trans (hbs.mono hk.size)
      clear hbs
      simp only [List.getElem_toArray, List.getElem_cons_succ, List.getElem_cons_zero]
      go_simp
      refine hK.out _ _ ?_ (fun hHeld2 => ?_)
      focus
        exact hS _ (hM _ hk)
      clear hHeld
      have hHeld := hHeld2
      clear hHeld2 hK K
      try simp only [List.getElem_toArray, List.getElem_cons_succ, List.getElem_cons_zero, Act.put, List.setIfInBounds_toArray, List.set_cons_zero, List.set_cons_succ]
      generalize (World.alloc u1 (.cells #[] 119)) = u9 at *
      generalize (World.heap u1).size = XF at *
      refine wpAnyH_ready (rs := [5]) (by kernel_rfl) (by simp) ?_
      refine (AllReadyH.cons rfl (fun K hK => ?_) AllReadyH.nil)
      have hbs : Below (World.heap u9).size u9 (World.alloc u9 (.cells #[] 119)) := (Below.refl _ _).alloc (Nat.le_refl _) _
      have HE := hid (own_mono (own_empty u9 119 2) hk.size)
      have HNE : Hid (XF ≠ (World.heap u9).size) := hid (Nat.ne_of_lt (lt_of_block H9.out))
      replace H9 := hid (keep0 H9.out hbs)
      replace HC := hid (own_keep HC.out hbs)
      replace hk := hk.trans (hbs.mono hk.size)
      clear hbs
      simp only [List.getElem_toArray, List.getElem_cons_succ, List.getElem_cons_zero]
      go_simp
      refine hK.out _ _ ?_ (fun hHeld2 => ?_)
      focus
        exact hS _ (hM _ hk)
      clear hHeld
      have hHeld := hHeld2
      clear hHeld2 hK K
      try simp only [List.getElem_toArray, List.getElem_cons_succ, List.getElem_cons_zero, Act.put, List.setIfInBounds_toArray, List.set_cons_zero, List.set_cons_succ]
      generalize (World.alloc u9 (.cells #[] 119)) = u10 at *
      generalize (World.heap u9).size = XE at *
      refine wpAnyH_ready (rs := [8]) (by kernel_rfl) (by simp) ?_
      refine (AllReadyH.cons rfl (fun K hK => ?_) AllReadyH.nil)
      refine step_append_sl rfl (.tmp 8) (.tmp 10) 111 rfl w1.heap.size 119 Try.underlying111 info_task rfl (by omega) rfl HE.out rfl (HSO.out _ (hT _ hk)) (pcells_one _) (by unfold maxLen; omega) (by omega) hk.size ?_
      intro vu11 u11 ho5 hb5 hsz5 hk5
      simp only [Nat.zero_add, List.nil_append] at ho5
      obtain ⟨A5, c5, rfl, _⟩ := Sl.of_own ho5
      replace HC := hid (own_at HC.out fun g hg => hk5 g (own_blk_lt HC.out hg).2 (own_blk_lt HC.out hg).1 (fun e => own_apart (by decide) HC.out HE.out g e hg))
      replace H9 := hid ((hk5 XF HXF.out (lt_of_block H9.out) (fun e => HNE.out (Option.some.inj e).symm)).trans H9.out)
      clear HE
      have HP := hid ho5
      replace hk := hk.trans hb5
      clear hb5 hsz5 hk5 ho5
      simp only [List.getElem_toArray, List.getElem_cons_succ, List.getElem_cons_zero]
      refine hK.out _ _ ?_ (fun hHeld2 => ?_)
      focus
        exact hS _ (hM _ hk)
      clear hHeld
      have hHeld := hHeld2
      clear hHeld2 hK K
      try simp only [List.getElem_toArray, List.getElem_cons_succ, List.getElem_cons_zero, Act.put, List.setIfInBounds_toArray, List.set_cons_zero, List.set_cons_succ]
      refine wpAnyH_ready (rs := [12]) (by kernel_rfl) (by simp) ?_
      refine (AllReadyH.cons rfl (fun K hK => ?_) AllReadyH.nil)
      have HE := hid (own_nil_at (s := 2) H9.out HXF.out)
      refine step_append_sl rfl (.tmp 12) (.tmp 14) 111 rfl w1.heap.size 119 Try.underlying111 info_task rfl (by omega) rfl HE.out rfl (HSR.out _ (hT _ hk)) (pcells_one _) (by unfold maxLen; omega) (by omega) hk.size ?_
      intro vu12 u12 ho5 hb5 hsz5 hk5
      simp only [Nat.zero_add, List.nil_append] at ho5
      obtain ⟨A6, c6, rfl, _⟩ := Sl.of_own ho5
      replace HC := hid (own_at HC.out fun g hg => hk5 g (own_blk_lt HC.out hg).2 (own_blk_lt HC.out hg).1 (fun e => own_apart (by decide) HC.out HE.out g e hg))
      have HPD := hid (keepP HP.out H9.out hk5)
      clear HE HP H9
      have HQ := hid ho5
      replace hk := hk.trans hb5
      clear hb5 hsz5 hk5 ho5
      simp only [List.getElem_toArray, List.getElem_cons_succ, List.getElem_cons_zero]
      refine hK.out _ _ ?_ (fun hHeld2 => ?_)
      focus
        exact hS _ (hM _ hk)
      clear hHeld
      have hHeld := hHeld2
      clear hHeld2 hK K
      try simp only [List.getElem_toArray, List.getElem_cons_succ, List.getElem_cons_zero, Act.put, List.setIfInBounds_toArray, List.set_cons_zero, List.set_cons_succ]
      refine wpAnyH_take (i := 13) (v := ?_) rfl (by kernel_rfl) (by kernel_rfl) (by kernel_rfl) (fun _ _ _ h => h) (Or.inl ⟨by rfl, ?_⟩) (by exact hS _ (hM _ hk)) ?_
      rotate_left
      focus
        intro U hU
        try dsimp only at hU
        go_simp
        try (with_reducible rfl)
      simp only [List.getElem_toArray, List.getElem_cons_succ, List.getElem_cons_zero, Act.put, List.setIfInBounds_toArray, List.set_cons_zero, List.set_cons_succ]
      have hz := keep0 hz1 hk
      refine wpAnyH_ready (rs := [14]) (by kernel_rfl) (by simp) ?_
      refine AllReadyH.cons rfl (fun K hK => ?_) AllReadyH.nil
      obtain ⟨_, f0, f1, f2, f3⟩ := four_cells hz
      simp only [List.getElem_toArray, List.getElem_cons_succ, List.getElem_cons_zero]
      go_simp
      refine hK.out _ _ ?_ (fun hHeld2 => ?_)
      focus
        exact hS _ (((((hM _ hk).setCell (p := ⟨W.heap.size + 1, 0, none⟩) (Nat.le_refl _) _).setCell (p := ⟨W.heap.size + 1, 1, none⟩) (Nat.le_refl _) _).setCell (p := ⟨W.heap.size + 1, 2, none⟩) (Nat.le_refl _) _).setCell (p := ⟨W.heap.size + 1, 3, none⟩) (Nat.le_refl _) _)
      clear hHeld
      have hHeld := hHeld2
      clear hHeld2 hK K
      try simp only [List.getElem_toArray, List.getElem_cons_succ, List.getElem_cons_zero, Act.put, List.setIfInBounds_toArray, List.set_cons_zero, List.set_cons_succ]
      refine wpAnyH_done (by kernel_rfl) ?_ _
      clear hHeld f0 f1 f2 f3
      go_wp2_with fail
      go_meet
      exact ⟨A9, c9, A5, c5, A6, c6, put4_heap hz _ _ _ _, ⟨sl_own (own_put4 HC.out HZ.out), endP HPD.out HZ.out, sl_own (own_put4 HQ.out HZ.out)⟩, put4_below (hT _ hk) (Nat.le_succ _) _ _ _ _⟩
  · skip
    have hbs : Below (World.heap k0).size k0 (World.alloc k0 (.cells #[] 119)) := (Below.refl _ _).alloc (Nat.le_refl _) _
    have HE := hid (own_mono (own_empty k0 119 2) hk.size)
    replace hk := hk.trans (hbs.mono hk.size)
    clear hbs
    simp only [List.getElem_toArray, List.getElem_cons_succ, List.getElem_cons_zero]
    go_simp
    refine hK.out _ _ ?_ (fun hHeld2 => ?_)
    focus
      exact hS _ (hM _ hk)
    clear hHeld
    have hHeld := hHeld2
    clear hHeld2 hK K
    try simp only [List.getElem_toArray, List.getElem_cons_succ, List.getElem_cons_zero, Act.put, List.setIfInBounds_toArray, List.set_cons_zero, List.set_cons_succ]
    generalize (World.alloc k0 (.cells #[] 119)) = u13 at *
    generalize (World.heap k0).size = XE at *
    refine wpAnyH_ready (rs := [4, 9]) (by kernel_rfl) (by simp) ?_
    refine (AllReadyH.cons rfl (fun K hK => ?_) (AllReadyH.cons rfl (fun K hK => ?_) AllReadyH.nil))
    · skip
      simp only [List.getElem_toArray, List.getElem_cons_succ, List.getElem_cons_zero]
      go_simp
      refine (HOF.out _ (hT _ hk)).mono ?_
      rintro e u14 ⟨A9, c9, rfl, ho9, hbs⟩
      have HC := hid (own_mono ho9 hk.size)
      clear ho9
      replace HE := hid (own_keep HE.out hbs)
      replace hk := hk.trans (hbs.mono hk.size)
      clear hbs
      go_wp2_with fail
      refine hK.out _ _ ?_ (fun hHeld2 => ?_)
      focus
        exact hS _ (hM _ hk)
      clear hHeld
      have hHeld := hHeld2
      clear hHeld2 hK K
      try simp only [List.getElem_toArray, List.getElem_cons_succ, List.getElem_cons_zero, Act.put, List.setIfInBounds_toArray, List.set_cons_zero, List.set_cons_succ]
      refine wpAnyH_ready (rs := [8, 9]) (by kernel_rfl) (by simp) ?_
      refine (AllReadyH.cons rfl (fun K hK => ?_) (AllReadyH.cons rfl (fun K hK => ?_) AllReadyH.nil))
      · skip
        refine step_append_sl rfl (.tmp 8) (.tmp 10) 111 rfl w1.heap.size 119 Try.underlying111 info_task rfl (by omega) rfl HE.out rfl (HSO.out _ (hT _ hk)) (pcells_one _) (by unfold maxLen; omega) (by omega) hk.size ?_
        intro vu15 u15 ho5 hb5 hsz5 hk5
        simp only [Nat.zero_add, List.nil_append] at ho5
        obtain ⟨A5, c5, rfl, _⟩ := Sl.of_own ho5
        replace HC := hid (own_at HC.out fun g hg => hk5 g (own_blk_lt HC.out hg).2 (own_blk_lt HC.out hg).1 (fun e => own_apart (by decide) HC.out HE.out g e hg))
        clear HE
        have HP := hid ho5
        replace hk := hk.trans hb5
        clear hb5 hsz5 hk5 ho5
        simp only [List.getElem_toArray, List.getElem_cons_succ, List.getElem_cons_zero]
        refine hK.out _ _ ?_ (fun hHeld2 => ?_)
        focus
          exact hS _ (hM _ hk)
        clear hHeld
        have hHeld := hHeld2
        clear hHeld2 hK K
        try simp only [List.getElem_toArray, List.getElem_cons_succ, List.getElem_cons_zero, Act.put, List.setIfInBounds_toArray, List.set_cons_zero, List.set_cons_succ]
        refine wpAnyH_ready (rs := [9]) (by kernel_rfl) (by simp) ?_
        refine (AllReadyH.cons rfl (fun K hK => ?_) AllReadyH.nil)
        have hbs : Below (World.heap u15).size u15 (World.alloc u15 (.cells #[] 119)) := (Below.refl _ _).alloc (Nat.le_refl _) _
        have H9 : Hid ((World.alloc u15 (.cells #[] 119)).heap[(World.heap u15).size]? = some (.cells #[] 119 (0, 0))) := hid (heap_alloc_new _ _)
        have HXF : Hid (w1.heap.size ≤ (World.heap u15).size) := hid hk.size
        replace HP := hid (own_keep HP.out hbs)
        replace HC := hid (own_keep HC.out hbs)
        replace hk := hk.trans (hbs.mono hk.size)
        clear hbs
        simp only [List.getElem_toArray, List.getElem_cons_succ, List.getElem_cons_zero]
        go_simp
        refine hK.out _ _ ?_ (fun hHeld2 => ?_)
        focus
          exact hS _ (hM _ hk)
        clear hHeld
        have hHeld := hHeld2
        clear hHeld2 hK K
        try simp only [List.getElem_toArray, List.getElem_cons_succ, List.getElem_cons_zero, Act.put, List.setIfInBounds_toArray, List.set_cons_zero, List.set_cons_succ]
        generalize (World.alloc u15 (.cells #[] 119)) = u16 at *
        generalize (World.heap u15).size = XF at *
        refine wpAnyH_ready (rs := [12]) (by kernel_rfl) (by simp) ?_
        refine (AllReadyH.cons rfl (fun K hK => ?_) AllReadyH.nil)
        have HE := hid (own_nil_at (s := 2) H9.out HXF.out)
        refine step_append_sl rfl (.tmp 12) (.tmp 14) 111 rfl w1.heap.size 119 Try.underlying111 info_task rfl (by omega) rfl HE.out rfl (HSR.out _ (hT _ hk)) (pcells_one _) (by unfold maxLen; omega) (by omega) hk.size ?_
        intro vu17 u17 ho5 hb5 hsz5 hk5
        simp only [Nat.zero_add, List.nil_append] at ho5
        obtain ⟨A6, c6, rfl, _⟩ := Sl.of_own ho5
        replace HC := hid (own_at HC.out fun g hg => hk5 g (own_blk_lt HC.out hg).2 (own_blk_lt HC.out hg).1 (fun e => own_apart (by decide) HC.out HE.out g e hg))
        have HPD := hid (keepP HP.out H9.out hk5)
        clear HE HP H9
        have HQ := hid ho5
        replace hk := hk.trans hb5
        clear hb5 hsz5 hk5 ho5
        simp only [List.getElem_toArray, List.getElem_cons_succ, List.getElem_cons_zero]
        refine hK.out _ _ ?_ (fun hHeld2 => ?_)
        focus
          exact hS _ (hM _ hk)
        clear hHeld
        have hHeld := hHeld2
        clear hHeld2 hK K
        try simp only [List.getElem_toArray, List.getElem_cons_succ, List.getElem_cons_zero, Act.put, List.setIfInBounds_toArray, List.set_cons_zero, List.set_cons_succ]
        refine wpAnyH_take (i := 13) (v := ?_) rfl (by kernel_rfl) (by kernel_rfl) (by kernel_rfl) (fun _ _ _ h => h) (Or.inl ⟨by rfl, ?_⟩) (by exact hS _ (hM _ hk)) ?_
        rotate_left
        focus
          intro U hU
          try dsimp only at hU
          go_simp
          try (with_reducible rfl)
        simp only [List.getElem_toArray, List.getElem_cons_succ, List.getElem_cons_zero, Act.put, List.setIfInBounds_toArray, List.set_cons_zero, List.set_cons_succ]
        have hz := keep0 hz1 hk
        refine wpAnyH_ready (rs := [14]) (by kernel_rfl) (by simp) ?_
        refine AllReadyH.cons rfl (fun K hK => ?_) AllReadyH.nil
        obtain ⟨_, f0, f1, f2, f3⟩ := four_cells hz
        simp only [List.getElem_toArray, List.getElem_cons_succ, List.getElem_cons_zero]
        go_simp
        refine hK.out _ _ ?_ (fun hHeld2 => ?_)
        focus
          exact hS _ (((((hM _ hk).setCell (p := ⟨W.heap.size + 1, 0, none⟩) (Nat.le_refl _) _).setCell (p := ⟨W.heap.size + 1, 1, none⟩) (Nat.le_refl _) _).setCell (p := ⟨W.heap.size + 1, 2, none⟩) (Nat.le_refl _) _).setCell (p := ⟨W.heap.size + 1, 3, none⟩) (Nat.le_refl _) _)
        clear hHeld
        have hHeld := hHeld2
        clear hHeld2 hK K
        try simp only [List.getElem_toArray, List.getElem_cons_succ, List.getElem_cons_zero, Act.put, List.setIfInBounds_toArray, List.set_cons_zero, List.set_cons_succ]
        refine wpAnyH_done (by kernel_rfl) ?_ _
        clear hHeld f0 f1 f2 f3
        go_wp2_with fail
        go_meet
        exact ⟨A9, c9, A5, c5, A6, c6, put4_heap hz _ _ _ _, ⟨sl_own (own_put4 HC.out HZ.out), endP HPD.out HZ.out, sl_own (own_put4 HQ.out HZ.out)⟩, put4_below (hT _ hk) (Nat.le_succ _) _ _ _ _⟩
      · skip
        have hbs : Below (World.heap u14).size u14 (World.alloc u14 (.cells #[] 119)) := (Below.refl _ _).alloc (Nat.le_refl _) _
        have H9 : Hid ((World.alloc u14 (.cells #[] 119)).heap[(World.heap u14).size]? = some (.cells #[] 119 (0, 0))) := hid (heap_alloc_new _ _)
        have HXF : Hid (w1.heap.size ≤ (World.heap u14).size) := hid hk.size
        have HNE : Hid ((World.heap u14).size ≠ XE) := hid (Nat.ne_of_gt (own_blk_lt HE.out rfl).1)
        replace HE := hid (own_keep HE.out hbs)
        replace HC := hid (own_keep HC.out hbs)
        replace hk := hk.trans (hbs.mono hk.size)
        clear hbs
        simp only [List.getElem_toArray, List.getElem_cons_succ, List.getElem_cons_zero]
        go_simp
        refine hK.out _ _ ?_ (fun hHeld2 => ?_)
        focus
          exact hS _ (hM _ hk)
        clear hHeld
        have hHeld := hHeld2
        clear hHeld2 hK K
        try simp only [List.getElem_toArray, List.getElem_cons_succ, List.getElem_cons_zero, Act.put, List.setIfInBounds_toArray, List.set_cons_zero, List.set_cons_succ]
        generalize (World.alloc u14 (.cells #[] 119)) = u18 at *
        generalize (World.heap u14).size = XF at *
        refine wpAnyH_ready (rs := [8]) (by kernel_rfl) (by simp) ?_
        refine (AllReadyH.cons rfl (fun K hK => ?_) AllReadyH.nil)
        refine step_append_sl rfl (.tmp 8) (.tmp 10) 111 rfl w1.heap.size 119 Try.underlying111 info_task rfl (by omega) rfl HE.out rfl (HSO.out _ (hT _ hk)) (pcells_one _) (by unfold maxLen; omega) (by omega) hk.size ?_
        intro vu19 u19 ho5 hb5 hsz5 hk5
        simp only [Nat.zero_add, List.nil_append] at ho5
        obtain ⟨A5, c5, rfl, _⟩ := Sl.of_own ho5
        replace HC := hid (own_at HC.out fun g hg => hk5 g (own_blk_lt HC.out hg).2 (own_blk_lt HC.out hg).1 (fun e => own_apart (by decide) HC.out HE.out g e hg))
        replace H9 := hid ((hk5 XF HXF.out (lt_of_block H9.out) (fun e => HNE.out (Option.some.inj e).symm)).trans H9.out)
        clear HE
        have HP := hid ho5
        replace hk := hk.trans hb5
        clear hb5 hsz5 hk5 ho5
        simp only [List.getElem_toArray, List.getElem_cons_succ, List.getElem_cons_zero]
        refine hK.out _ _ ?_ (fun hHeld2 => ?_)
        focus
          exact hS _ (hM _ hk)
        clear hHeld
        have hHeld := hHeld2
        clear hHeld2 hK K
        try simp only [List.getElem_toArray, List.getElem_cons_succ, List.getElem_cons_zero, Act.put, List.setIfInBounds_toArray, List.set_cons_zero, List.set_cons_succ]
        refine wpAnyH_ready (rs := [12]) (by kernel_rfl) (by simp) ?_
        refine (AllReadyH.cons rfl (fun K hK => ?_) AllReadyH.nil)
        have HE := hid (own_nil_at (s := 2) H9.out HXF.out)
        refine step_append_sl rfl (.tmp 12) (.tmp 14) 111 rfl w1.heap.size 119 Try.underlying111 info_task rfl (by omega) rfl HE.out rfl (HSR.out _ (hT _ hk)) (pcells_one _) (by unfold maxLen; omega) (by omega) hk.size ?_
        intro vu20 u20 ho5 hb5 hsz5 hk5
        simp only [Nat.zero_add, List.nil_append] at ho5
        obtain ⟨A6, c6, rfl, _⟩ := Sl.of_own ho5
        replace HC := hid (own_at HC.out fun g hg => hk5 g (own_blk_lt HC.out hg).2 (own_blk_lt HC.out hg).1 (fun e => own_apart (by decide) HC.out HE.out g e hg))
        have HPD := hid (keepP HP.out H9.out hk5)
        clear HE HP H9
        have HQ := hid ho5
        replace hk := hk.trans hb5
        clear hb5 hsz5 hk5 ho5
        simp only [List.getElem_toArray, List.getElem_cons_succ, List.getElem_cons_zero]
        refine hK.out _ _ ?_ (fun hHeld2 => ?_)
        focus
          exact hS _ (hM _ hk)
        clear hHeld
        have hHeld := hHeld2
        clear hHeld2 hK K
        try simp only [List.getElem_toArray, List.getElem_cons_succ, List.getElem_cons_zero, Act.put, List.setIfInBounds_toArray, List.set_cons_zero, List.set_cons_succ]
        refine wpAnyH_take (i := 13) (v := ?_) rfl (by kernel_rfl) (by kernel_rfl) (by kernel_rfl) (fun _ _ _ h => h) (Or.inl ⟨by rfl, ?_⟩) (by exact hS _ (hM _ hk)) ?_
        rotate_left
        focus
          intro U hU
          try dsimp only at hU
          go_simp
          try (with_reducible rfl)
        simp only [List.getElem_toArray, List.getElem_cons_succ, List.getElem_cons_zero, Act.put, List.setIfInBounds_toArray, List.set_cons_zero, List.set_cons_succ]
        have hz := keep0 hz1 hk
        refine wpAnyH_ready (rs := [14]) (by kernel_rfl) (by simp) ?_
        refine AllReadyH.cons rfl (fun K hK => ?_) AllReadyH.nil
        obtain ⟨_, f0, f1, f2, f3⟩ := four_cells hz
        simp only [List.getElem_toArray, List.getElem_cons_succ, List.getElem_cons_zero]
        go_simp
        refine hK.out _ _ ?_ (fun hHeld2 => ?_)
        focus
          exact hS _ (((((hM _ hk).setCell (p := ⟨W.heap.size + 1, 0, none⟩) (Nat.le_refl _) _).setCell (p := ⟨W.heap.size + 1, 1, none⟩) (Nat.le_refl _) _).setCell (p := ⟨W.heap.size + 1, 2, none⟩) (Nat.le_refl _) _).setCell (p := ⟨W.heap.size + 1, 3, none⟩) (Nat.le_refl _) _)
        clear hHeld
        have hHeld := hHeld2
        clear hHeld2 hK K
        try simp only [List.getElem_toArray, List.getElem_cons_succ, List.getElem_cons_zero, Act.put, List.setIfInBounds_toArray, List.set_cons_zero, List.set_cons_succ]
        refine wpAnyH_done (by kernel_rfl) ?_ _
        clear hHeld f0 f1 f2 f3
        go_wp2_with fail
        go_meet
        exact ⟨A9, c9, A5, c5, A6, c6, put4_heap hz _ _ _ _, ⟨sl_own (own_put4 HC.out HZ.out), endP HPD.out HZ.out, sl_own (own_put4 HQ.out HZ.out)⟩, put4_below (hT _ hk) (Nat.le_succ _) _ _ _ _⟩
    · skip
      have hbs : Below (World.heap u13).size u13 (World.alloc u13 (.cells #[] 119)) := (Below.refl _ _).alloc (Nat.le_refl _) _
      have H9 : Hid ((World.alloc u13 (.cells #[] 119)).heap[(World.heap u13).size]? = some (.cells #[] 119 (0, 0))) := hid (heap_alloc_new _ _)
      have HXF : Hid (w1.heap.size ≤ (World.heap u13).size) := hid hk.size
      have HNE : Hid ((World.heap u13).size ≠ XE) := hid (Nat.ne_of_gt (own_blk_lt HE.out rfl).1)
      replace HE := hid (own_keep HE.out hbs)
      replace hk := hk.trans (hbs.mono hk.size)
      clear hbs
      simp only [List.getElem_toArray, List.getElem_cons_succ, List.getElem_cons_zero]
      go_simp
      refine hK.out _ _ ?_ (fun hHeld2 => ?_)
      focus
        exact hS _ (hM _ hk)
      clear hHeld
      have hHeld := hHeld2
      clear hHeld2 hK K
      try simp only [List.getElem_toArray, List.getElem_cons_succ, List.getElem_cons_zero, Act.put, List.setIfInBounds_toArray, List.set_cons_zero, List.set_cons_succ]
      generalize (World.alloc u13 (.cells #[] 119)) = u21 at *
      generalize (World.heap u13).size = XF at *
      refine wpAnyH_ready (rs := [4]) (by kernel_rfl) (by simp) ?_
      refine (AllReadyH.cons rfl (fun K hK => ?_) AllReadyH.nil)
      simp only [List.getElem_toArray, List.getElem_cons_succ, List.getElem_cons_zero]
      go_simp
      refine (HOF.out _ (hT _ hk)).mono ?_
      rintro e u22 ⟨A9, c9, rfl, ho9, hbs⟩
      have HC := hid (own_mono ho9 hk.size)
      clear ho9
      replace HE := hid (own_keep HE.out hbs)
      replace H9 := hid (keep0 H9.out hbs)
      replace hk := hk.trans (hbs.mono hk.size)
      clear hbs
      go_wp2_with fail
      refine hK.out _ _ ?_ (fun hHeld2 => ?_)
      focus
        exact hS _ (hM _ hk)
      clear hHeld
      have hHeld := hHeld2
      clear hHeld2 hK K
      try simp only [List.getElem_toArray, List.getElem_cons_succ, List.getElem_cons_zero, Act.put, List.setIfInBounds_toArray, List.set_cons_zero, List.set_cons_succ]
      refine wpAnyH_ready (rs := [8]) (by kernel_rfl) (by simp) ?_
      refine (AllReadyH.cons rfl (fun K hK => ?_) AllReadyH.nil)
      refine step_append_sl rfl (.tmp 8) (.tmp 10) 111 rfl w1.heap.size 119 Try.underlying111 info_task rfl (by omega) rfl HE.out rfl (HSO.out _ (hT _ hk)) (pcells_one _) (by unfold maxLen; omega) (by omega) hk.size ?_
      intro vu23 u23 ho5 hb5 hsz5 hk5
      simp only [Nat.zero_add, List.nil_append] at ho5
      obtain ⟨A5, c5, rfl, _⟩ := Sl.of_own ho5
      replace HC := hid (own_at HC.out fun g hg => hk5 g (own_blk_lt HC.out hg).2 (own_blk_lt HC.out hg).1 (fun e => own_apart (by decide) HC.out HE.out g e hg))
      replace H9 := hid ((hk5 XF HXF.out (lt_of_block H9.out) (fun e => HNE.out (Option.some.inj e).symm)).trans H9.out)
      clear HE
      have HP := hid ho5
      replace hk := hk.trans hb5
      clear hb5 hsz5 hk5 ho5
      simp only [List.getElem_toArray, List.getElem_cons_succ, List.getElem_cons_zero]
      refine hK.out _ _ ?_ (fun hHeld2 => ?_)
      focus
        exact hS _ (hM _ hk)
      clear hHeld
      have hHeld := hHeld2
      clear hHeld2 hK K
      try simp only [List.getElem_toArray, List.getElem_cons_succ, List.getElem_cons_zero, Act.put, List.setIfInBounds_toArray, List.set_cons_zero, List.set_cons_succ]
      refine wpAnyH_ready (rs := [12]) (by kernel_rfl) (by simp) ?_
      refine (AllReadyH.cons rfl (fun K hK => ?_) AllReadyH.nil)
      have HE := hid (own_nil_at (s := 2) H9.out HXF.out)
      refine step_append_sl rfl (.tmp 12) (.tmp 14) 111 rfl w1.heap.size 119 Try.underlying111 info_task rfl (by omega) rfl HE.out rfl (HSR.out _ (hT _ hk)) (pcells_one _) (by unfold maxLen; omega) (by omega) hk.size ?_
      intro vu24 u24 ho5 hb5 hsz5 hk5
      simp only [Nat.zero_add, List.nil_append] at ho5
      obtain ⟨A6, c6, rfl, _⟩ := Sl.of_own ho5
      replace HC := hid (own_at HC.out fun g hg => hk5 g (own_blk_lt HC.out hg).2 (own_blk_lt HC.out hg).1 (fun e => own_apart (by decide) HC.out HE.out g e hg))
      have HPD := hid (keepP HP.out H9.out hk5)
      clear HE HP H9
      have HQ := hid ho5
      replace hk := hk.trans hb5
      clear hb5 hsz5 hk5 ho5
      simp only [List.getElem_toArray, List.getElem_cons_succ, List.getElem_cons_zero]
      refine hK.out _ _ ?_ (fun hHeld2 => ?_)
      focus
        exact hS _ (hM _ hk)
      clear hHeld
      have hHeld := hHeld2
      clear hHeld2 hK K
      try simp only [List.getElem_toArray, List.getElem_cons_succ, List.getElem_cons_zero, Act.put, List.setIfInBounds_toArray, List.set_cons_zero, List.set_cons_succ]
      refine wpAnyH_take (i := 13) (v := ?_) rfl (by kernel_rfl) (by kernel_rfl) (by kernel_rfl) (fun _ _ _ h => h) (Or.inl ⟨by rfl, ?_⟩) (by exact hS _ (hM _ hk)) ?_
      rotate_left
      focus
        intro U hU
        try dsimp only at hU
        go_simp
        try (with_reducible rfl)
      simp only [List.getElem_toArray, List.getElem_cons_succ, List.getElem_cons_zero, Act.put, List.setIfInBounds_toArray, List.set_cons_zero, List.set_cons_succ]
      have hz := keep0 hz1 hk
      refine wpAnyH_ready (rs := [14]) (by kernel_rfl) (by simp) ?_
      refine AllReadyH.cons rfl (fun K hK => ?_) AllReadyH.nil
      obtain ⟨_, f0, f1, f2, f3⟩ := four_cells hz
      simp only [List.getElem_toArray, List.getElem_cons_succ, List.getElem_cons_zero]
      go_simp
      refine hK.out _ _ ?_ (fun hHeld2 => ?_)
      focus
        exact hS _ (((((hM _ hk).setCell (p := ⟨W.heap.size + 1, 0, none⟩) (Nat.le_refl _) _).setCell (p := ⟨W.heap.size + 1, 1, none⟩) (Nat.le_refl _) _).setCell (p := ⟨W.heap.size + 1, 2, none⟩) (Nat.le_refl _) _).setCell (p := ⟨W.heap.size + 1, 3, none⟩) (Nat.le_refl _) _)
      clear hHeld
      have hHeld := hHeld2
      clear hHeld2 hK K
      try simp only [List.getElem_toArray, List.getElem_cons_succ, List.getElem_cons_zero, Act.put, List.setIfInBounds_toArray, List.set_cons_zero, List.set_cons_succ]
      refine wpAnyH_done (by kernel_rfl) ?_ _
      clear hHeld f0 f1 f2 f3
      go_wp2_with fail
      go_meet
      exact ⟨A9, c9, A5, c5, A6, c6, put4_heap hz _ _ _ _, ⟨sl_own (own_put4 HC.out HZ.out), endP HPD.out HZ.out, sl_own (own_put4 HQ.out HZ.out)⟩, put4_below (hT _ hk) (Nat.le_succ _) _ _ _ _⟩
  · skip
    have hbs : Below (World.heap k0).size k0 (World.alloc k0 (.cells #[] 119)) := (Below.refl _ _).alloc (Nat.le_refl _) _
    have H9 : Hid ((World.alloc k0 (.cells #[] 119)).heap[(World.heap k0).size]? = some (.cells #[] 119 (0, 0))) := hid (heap_alloc_new _ _)
    have HXF : Hid (w1.heap.size ≤ (World.heap k0).size) := hid hk.size
    replace hk := hk.trans (hbs.mono hk.size)
    clear hbs
    simp only [List.getElem_toArray, List.getElem_cons_succ, List.getElem_cons_zero]
    go_simp
    refine hK.out _ _ ?_ (fun hHeld2 => ?_)
    focus
      exact hS _ (hM _ hk)
    clear hHeld
    have hHeld := hHeld2
    clear hHeld2 hK K
    try simp only [List.getElem_toArray, List.getElem_cons_succ, List.getElem_cons_zero, Act.put, List.setIfInBounds_toArray, List.set_cons_zero, List.set_cons_succ]
    generalize (World.alloc k0 (.cells #[] 119)) = u25 at *
    generalize (World.heap k0).size = XF at *
    refine wpAnyH_ready (rs := [4, 5]) (by kernel_rfl) (by simp) ?_
    refine (AllReadyH.cons rfl (fun K hK => ?_) (AllReadyH.cons rfl (fun K hK => ?_) AllReadyH.nil))
    · skip
      simp only [List.getElem_toArray, List.getElem_cons_succ, List.getElem_cons_zero]
      go_simp
      refine (HOF.out _ (hT _ hk)).mono ?_
      rintro e u26 ⟨A9, c9, rfl, ho9, hbs⟩
      have HC := hid (own_mono ho9 hk.size)
      clear ho9
      replace H9 := hid (keep0 H9.out hbs)
      replace hk := hk.trans (hbs.mono hk.size)
      clear hbs
      go_wp2_with fail
      refine hK.out _ _ ?_ (fun hHeld2 => ?_)
      focus
        exact hS _ (hM _ hk)
      clear hHeld
      have hHeld := hHeld2
      clear hHeld2 hK K
      try simp only [List.getElem_toArray, List.getElem_cons_succ, List.getElem_cons_zero, Act.put, List.setIfInBounds_toArray, List.set_cons_zero, List.set_cons_succ]
      refine wpAnyH_ready (rs := [5]) (by kernel_rfl) (by simp) ?_
      refine (AllReadyH.cons rfl (fun K hK => ?_) AllReadyH.nil)
      have hbs : Below (World.heap u26).size u26 (World.alloc u26 (.cells #[] 119)) := (Below.refl _ _).alloc (Nat.le_refl _) _
      have HE := hid (own_mono (own_empty u26 119 2) hk.size)
      have HNE : Hid (XF ≠ (World.heap u26).size) := hid (Nat.ne_of_lt (lt_of_block H9.out))
      replace H9 := hid (keep0 H9.out hbs)
      replace HC := hid (own_keep HC.out hbs)
      replace hk := hk.trans (hbs.mono hk.size)
      clear hbs
      simp only [List.getElem_toArray, List.getElem_cons_succ, List.getElem_cons_zero]
      go_simp
      refine hK.out _ _ ?_ (fun hHeld2 => ?_)
      focus
        exact hS _ (hM _ hk)
      clear hHeld
      have hHeld := hHeld2
      clear hHeld2 hK K
      try simp only [List.getElem_toArray, List.getElem_cons_succ, List.getElem_cons_zero, Act.put, List.setIfInBounds_toArray, List.set_cons_zero, List.set_cons_succ]
      generalize (World.alloc u26 (.cells #[] 119)) = u27 at *
      generalize (World.heap u26).size = XE at *
      refine wpAnyH_ready (rs := [8]) (by kernel_rfl) (by simp) ?_
      refine (AllReadyH.cons rfl (fun K hK => ?_) AllReadyH.nil)
      refine step_append_sl rfl (.tmp 8) (.tmp 10) 111 rfl w1.heap.size 119 Try.underlying111 info_task rfl (by omega) rfl HE.out rfl (HSO.out _ (hT _ hk)) (pcells_one _) (by unfold maxLen; omega) (by omega) hk.size ?_
      intro vu28 u28 ho5 hb5 hsz5 hk5
      simp only [Nat.zero_add, List.nil_append] at ho5
      obtain ⟨A5, c5, rfl, _⟩ := Sl.of_own ho5
      replace HC := hid (own_at HC.out fun g hg => hk5 g (own_blk_lt HC.out hg).2 (own_blk_lt HC.out hg).1 (fun e => own_apart (by decide) HC.out HE.out g e hg))
      replace H9 := hid ((hk5 XF HXF.out (lt_of_block H9.out) (fun e => HNE.out (Option.some.inj e).symm)).trans H9.out)
      clear HE
      have HP := hid ho5
      replace hk := hk.trans hb5
      clear hb5 hsz5 hk5 ho5
      simp only [List.getElem_toArray, List.getElem_cons_succ, List.getElem_cons_zero]
      refine hK.out _ _ ?_ (fun hHeld2 => ?_)
      focus
        exact hS _ (hM _ hk)
      clear hHeld
      have hHeld := hHeld2
      clear hHeld2 hK K
      try simp only [List.getElem_toArray, List.getElem_cons_succ, List.getElem_cons_zero, Act.put, List.setIfInBounds_toArray, List.set_cons_zero, List.set_cons_succ]
      refine wpAnyH_ready (rs := [12]) (by kernel_rfl) (by simp) ?_
      refine (AllReadyH.cons rfl (fun K hK => ?_) AllReadyH.nil)
      have HE := hid (own_nil_at (s := 2) H9.out HXF.out)
      refine step_append_sl rfl (.tmp 12) (.tmp 14) 111 rfl w1.heap.size 119 Try.underlying111 info_task rfl (by omega) rfl HE.out rfl (HSR.out _ (hT _ hk)) (pcells_one _) (by unfold maxLen; omega) (by omega) hk.size ?_
      intro vu29 u29 ho5 hb5 hsz5 hk5
      simp only [Nat.zero_add, List.nil_append] at ho5
      obtain ⟨A6, c6, rfl, _⟩ := Sl.of_own ho5
      replace HC := hid (own_at HC.out fun g hg => hk5 g (own_blk_lt HC.out hg).2 (own_blk_lt HC.out hg).1 (fun e => own_apart (by decide) HC.out HE.out g e hg))
      have HPD := hid (keepP HP.out H9.out hk5)
      clear HE HP H9
      have HQ := hid ho5
      replace hk := hk.trans hb5
      clear hb5 hsz5 hk5 ho5
      simp only [List.getElem_toArray, List.getElem_cons_succ, List.getElem_cons_zero]
      refine hK.out _ _ ?_ (fun hHeld2 => ?_)
      focus
        exact hS _ (hM _ hk)
      clear hHeld
      have hHeld := hHeld2
      clear hHeld2 hK K
      try simp only [List.getElem_toArray, List.getElem_cons_succ, List.getElem_cons_zero, Act.put, List.setIfInBounds_toArray, List.set_cons_zero, List.set_cons_succ]
      refine wpAnyH_take (i := 13) (v := ?_) rfl (by kernel_rfl) (by kernel_rfl) (by kernel_rfl) (fun _ _ _ h => h) (Or.inl ⟨by rfl, ?_⟩) (by exact hS _ (hM _ hk)) ?_
      rotate_left
      focus
        intro U hU
        try dsimp only at hU
        go_simp
        try (with_reducible rfl)
      simp only [List.getElem_toArray, List.getElem_cons_succ, List.getElem_cons_zero, Act.put, List.setIfInBounds_toArray, List.set_cons_zero, List.set_cons_succ]
      have hz := keep0 hz1 hk
      refine wpAnyH_ready (rs := [14]) (by kernel_rfl) (by simp) ?_
      refine AllReadyH.cons rfl (fun K hK => ?_) AllReadyH.nil
      obtain ⟨_, f0, f1, f2, f3⟩ := four_cells hz
      simp only [List.getElem_toArray, List.getElem_cons_succ, List.getElem_cons_zero]
      go_simp
      refine hK.out _ _ ?_ (fun hHeld2 => ?_)
      focus
        exact hS _ (((((hM _ hk).setCell (p := ⟨W.heap.size + 1, 0, none⟩) (Nat.le_refl _) _).setCell (p := ⟨W.heap.size + 1, 1, none⟩) (Nat.le_refl _) _).setCell (p := ⟨W.heap.size + 1, 2, none⟩) (Nat.le_refl _) _).setCell (p := ⟨W.heap.size + 1, 3, none⟩) (Nat.le_refl _) _)
      clear hHeld
      have hHeld := hHeld2
      clear hHeld2 hK K
      try simp only [List.getElem_toArray, List.getElem_cons_succ, List.getElem_cons_zero, Act.put, List.setIfInBounds_toArray, List.set_cons_zero, List.set_cons_succ]
      refine wpAnyH_done (by kernel_rfl) ?_ _
      clear hHeld f0 f1 f2 f3
      go_wp2_with fail
      go_meet
      exact ⟨A9, c9, A5, c5, A6, c6, put4_heap hz _ _ _ _, ⟨sl_own (own_put4 HC.out HZ.out), endP HPD.out HZ.out, sl_own (own_put4 HQ.out HZ.out)⟩, put4_below (hT _ hk) (Nat.le_succ _) _ _ _ _⟩
    · skip
      have hbs : Below (World.heap u25).size u25 (World.alloc u25 (.cells #[] 119)) := (Below.refl _ _).alloc (Nat.le_refl _) _
      have HE := hid (own_mono (own_empty u25 119 2) hk.size)
      have HNE : Hid (XF ≠ (World.heap u25).size) := hid (Nat.ne_of_lt (lt_of_block H9.out))
      replace H9 := hid (keep0 H9.out hbs)
      replace hk := hk.trans (hbs.mono hk.size)
      clear hbs
      simp only [List.getElem_toArray, List.getElem_cons_succ, List.getElem_cons_zero]
      go_simp
      refine hK.out _ _ ?_ (fun hHeld2 => ?_)
      focus
        exact hS _ (hM _ hk)
      clear hHeld
      have hHeld := hHeld2
      clear hHeld2 hK K
      try simp only [List.getElem_toArray, List.getElem_cons_succ, List.getElem_cons_zero, Act.put, List.setIfInBounds_toArray, List.set_cons_zero, List.set_cons_succ]
      generalize (World.alloc u25 (.cells #[] 119)) = u30 at *
      generalize (World.heap u25).size = XE at *
      refine wpAnyH_ready (rs := [4]) (by kernel_rfl) (by simp) ?_
      refine (AllReadyH.cons rfl (fun K hK => ?_) AllReadyH.nil)
      simp only [List.getElem_toArray, List.getElem_cons_succ, List.getElem_cons_zero]
      go_simp
      refine (HOF.out _ (hT _ hk)).mono ?_
      rintro e u31 ⟨A9, c9, rfl, ho9, hbs⟩
      have HC := hid (own_mono ho9 hk.size)
      clear ho9
      replace HE := hid (own_keep HE.out hbs)
      replace H9 := hid (keep0 H9.out hbs)
      replace hk := hk.trans (hbs.mono hk.size)
      clear hbs
      go_wp2_with fail
      refine hK.out _ _ ?_ (fun hHeld2 => ?_)
      focus
        exact hS _ (hM _ hk)
      clear hHeld
      have hHeld := hHeld2
      clear hHeld2 hK K
      try simp only [List.getElem_toArray, List.getElem_cons_succ, List.getElem_cons_zero, Act.put, List.setIfInBounds_toArray, List.set_cons_zero, List.set_cons_succ]
      refine wpAnyH_ready (rs := [8]) (by kernel_rfl) (by simp) ?_
      refine (AllReadyH.cons rfl (fun K hK => ?_) AllReadyH.nil)
      refine step_append_sl rfl (.tmp 8) (.tmp 10) 111 rfl w1.heap.size 119 Try.underlying111 info_task rfl (by omega) rfl HE.out rfl (HSO.out _ (hT _ hk)) (pcells_one _) (by unfold maxLen; omega) (by omega) hk.size ?_
      intro vu32 u32 ho5 hb5 hsz5 hk5
      simp only [Nat.zero_add, List.nil_append] at ho5
      obtain ⟨A5, c5, rfl, _⟩ := Sl.of_own ho5
      replace HC := hid (own_at HC.out fun g hg => hk5 g (own_blk_lt HC.out hg).2 (own_blk_lt HC.out hg).1 (fun e => own_apart (by decide) HC.out HE.out g e hg))
      replace H9 := hid ((hk5 XF HXF.out (lt_of_block H9.out) (fun e => HNE.out (Option.some.inj e).symm)).trans H9.out)
      clear HE
      have HP := hid ho5
      replace hk := hk.trans hb5
      clear hb5 hsz5 hk5 ho5
      simp only [List.getElem_toArray, List.getElem_cons_succ, List.getElem_cons_zero]
      refine hK.out _ _ ?_ (fun hHeld2 => ?_)
      focus
        exact hS _ (hM _ hk)
      clear hHeld
      have hHeld := hHeld2
      clear hHeld2 hK K
      try simp only [List.getElem_toArray, List.getElem_cons_succ, List.getElem_cons_zero, Act.put, List.setIfInBounds_toArray, List.set_cons_zero, List.set_cons_succ]
      refine wpAnyH_ready (rs := [12]) (by kernel_rfl) (by simp) ?_
      refine (AllReadyH.cons rfl (fun K hK => ?_) AllReadyH.nil)
      have HE := hid (own_nil_at (s := 2) H9.out HXF.out)
      refine step_append_sl rfl (.tmp 12) (.tmp 14) 111 rfl w1.heap.size 119 Try.underlying111 info_task rfl (by omega) rfl HE.out rfl (HSR.out _ (hT _ hk)) (pcells_one _) (by unfold maxLen; omega) (by omega) hk.size ?_
      intro vu33 u33 ho5 hb5 hsz5 hk5
      simp only [Nat.zero_add, List.nil_append] at ho5
      obtain ⟨A6, c6, rfl, _⟩ := Sl.of_own ho5
      replace HC := hid (own_at HC.out fun g hg => hk5 g (own_blk_lt HC.out hg).2 (own_blk_lt HC.out hg).1 (fun e => own_apart (by decide) HC.out HE.out g e hg))
      have HPD := hid (keepP HP.out H9.out hk5)
      clear HE HP H9
      have HQ := hid ho5
      replace hk := hk.trans hb5
      clear hb5 hsz5 hk5 ho5
      simp only [List.getElem_toArray, List.getElem_cons_succ, List.getElem_cons_zero]
      refine hK.out _ _ ?_ (fun hHeld2 => ?_)
      focus
        exact hS _ (hM _ hk)
      clear hHeld
      have hHeld := hHeld2
      clear hHeld2 hK K
      try simp only [List.getElem_toArray, List.getElem_cons_succ, List.getElem_cons_zero, Act.put, List.setIfInBounds_toArray, List.set_cons_zero, List.set_cons_succ]
      refine wpAnyH_take (i := 13) (v := ?_) rfl (by kernel_rfl) (by kernel_rfl) (by kernel_rfl) (fun _ _ _ h => h) (Or.inl ⟨by rfl, ?_⟩) (by exact hS _ (hM _ hk)) ?_
      rotate_left
      focus
        intro U hU
        try dsimp only at hU
        go_simp
        try (with_reducible rfl)
      simp only [List.getElem_toArray, List.getElem_cons_succ, List.getElem_cons_zero, Act.put, List.setIfInBounds_toArray, List.set_cons_zero, List.set_cons_succ]
      have hz := keep0 hz1 hk
      refine wpAnyH_ready (rs := [14]) (by kernel_rfl) (by simp) ?_
      refine AllReadyH.cons rfl (fun K hK => ?_) AllReadyH.nil
      obtain ⟨_, f0, f1, f2, f3⟩ := four_cells hz
      simp only [List.getElem_toArray, List.getElem_cons_succ, List.getElem_cons_zero]
      go_simp
      refine hK.out _ _ ?_ (fun hHeld2 => ?_)
      focus
        exact hS _ (((((hM _ hk).setCell (p := ⟨W.heap.size + 1, 0, none⟩) (Nat.le_refl _) _).setCell (p := ⟨W.heap.size + 1, 1, none⟩) (Nat.le_refl _) _).setCell (p := ⟨W.heap.size + 1, 2, none⟩) (Nat.le_refl _) _).setCell (p := ⟨W.heap.size + 1, 3, none⟩) (Nat.le_refl _) _)
      clear hHeld
      have hHeld := hHeld2
      clear hHeld2 hK K
      try simp only [List.getElem_toArray, List.getElem_cons_succ, List.getElem_cons_zero, Act.put, List.setIfInBounds_toArray, List.set_cons_zero, List.set_cons_succ]
      refine wpAnyH_done (by kernel_rfl) ?_ _
      clear hHeld f0 f1 f2 f3
      go_wp2_with fail
      go_meet
      exact ⟨A9, c9, A5, c5, A6, c6, put4_heap hz _ _ _ _, ⟨sl_own (own_put4 HC.out HZ.out), endP HPD.out HZ.out, sl_own (own_put4 HQ.out HZ.out)⟩, put4_below (hT _ hk) (Nat.le_succ _) _ _ _ _⟩
end Go.Proofs.Ytadjmgmdnekllaa
