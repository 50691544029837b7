/- The document's slots: None, Give: contracts. -/
import Derived.Test.YtadjmgmdnekllaaSdB
namespace Go.Proofs.Ytadjmgmdnekllaa
open Go.RowKit Go.Sort
set_option linter.unusedVariables false
set_option linter.unusedSimpArgs false

theorem hasJ_drop (l : List (Int × Int)) (j : Int) : hasJ l j = decide ((dropJ l j).length < l.length) := by
  cases h : hasJ l j with
  | true =>
    obtain ⟨k, hk, he⟩ := (hasJ_iff l j).1 h
    rw [eq_comm, decide_eq_true_eq]
    unfold dropJ
    exact List.length_filter_lt_length_iff_exists.2 ⟨l[k], List.getElem_mem hk, by simp [he]⟩
  | false =>
    have : dropJ l j = l := dropJ_no fun i hi he => by
      have := (hasJ_iff l j).2 ⟨i, hi, he⟩
      rw [h] at this
      cases this
    rw [this, eq_comm, decide_eq_false_iff_not]
    omega
theorem freeV_nn (s : Sv) : 0 ≤ freeV s := by
  unfold freeV
  split <;> omega
theorem rset1 {u : World} {N : Nat} {x0 x1 x2 x3 : Value} (v : Value) (hx : u.heap[N]? = some (.cells #[x0, x1, x2, x3] 113 (0, 0))) : (u.setCell ⟨N, 1, none⟩ v).heap[N]? = some (.cells #[x0, v, x2, x3] 113 (0, 0)) := by
  rw [heap_setCell_same _ _ _ _ _ _ hx]; rfl
theorem rset2 {u : World} {N : Nat} {x0 x1 x2 x3 : Value} (v : Value) (hx : u.heap[N]? = some (.cells #[x0, x1, x2, x3] 113 (0, 0))) : (u.setCell ⟨N, 2, none⟩ v).heap[N]? = some (.cells #[x0, x1, v, x3] 113 (0, 0)) := by
  rw [heap_setCell_same _ _ _ _ _ _ hx]; rfl

set_option maxRecDepth 20000 in
set_option maxHeartbeats 4000000 in
theorem rnone_any (s : Sv) (j : Int) (A O R : Option Addr) (ca co cr : Nat) (W : World) (h : InV W s A O R ca co cr) (hk : OkV s) :
    Calls Try.prog 84 #[.agg (svv s A O R ca co cr), .int .i64 j] W fun e w' => ∃ A' O' R' ca' co' cr', e = .returned (.tuple #[.agg (svv (noneV s j).1 A' O' R' ca' co' cr'), .bool (noneV s j).2]) ∧ InV w' (noneV s j).1 A' O' R' ca' co' cr' ∧ Below W.heap.size W w' := by
  have HIN := hid (fun w (hw : Below W.heap.size W w) => h.below hw)
  have HAS := hid (fun w (hw : Below W.heap.size W w) => rqhas_any A s.a.length ca s.a j w (h.1.below hw))
  have HDR := hid (fun w (hw : Below W.heap.size W w) => rdrop_any A s.a.length ca s.a j w (h.1.below hw) (by have := hk.2.1; omega))
  have HVV : Hid (noneV s j = (⟨s.n, dropJ s.a j, s.o, s.r⟩, hasJ s.a j)) := hid (by rw [hasJ_drop]; rfl)
  clear h hk
  generalize noneV s j = av at *
  obtain ⟨n, a, o, r⟩ := s
  simp only [svv] at *
  generalize hasJ a j = hj at *
  go_enter Try.func84, Try.ntmps84
  go_upto_region 1 with (fail)
  refine at_world (fun u => u.heap[W.heap.size]? = some (.cells #[.int .i64 n, .slice A a.length ca, .slice O o.length co, .slice R r.length cr] 113 (0, 0)) ∧ u.heap[W.heap.size + 1]? = some (.cells #[.int .i64 0, .slice none 0 0, .slice none 0 0, .slice none 0 0] 113 (0, 0)) ∧ Below W.heap.size W u) (heap2 _ _ _) ?_
  rintro w1 ⟨hx1, hz1, hb1⟩
  obtain ⟨⟨p0, p1, p2, p3⟩, _⟩ := four_cells hx1
  have HX1 := hid hx1
  have HZ1 := hid hz1
  have HB1 := hid hb1
  clear hx1 hz1 hb1
  go_wp2_with fail
  refine (HAS.out _ HB1.out).mono ?_
  rintro e w2 ⟨rfl, rfl⟩
  clear HAS
  go_wp2_with fail
  refine (HDR.out _ HB1.out).mono ?_
  rintro e w3 ⟨A1, c1, rfl, ho3, hb3⟩
  have hx3 := keep0 HX1.out hb3
  have hz3 := keep0 HZ1.out hb3
  have HN3 := hid (And.intro (rset1 (.slice A1 (dropJ a j).length c1) hx3) (And.intro ((Below.heap_setCell w3 ⟨W.heap.size, 1, none⟩ (.slice A1 (dropJ a j).length c1) _ (show W.heap.size + 1 ≠ W.heap.size by omega)).trans hz3) (And.intro (own_setOld ho3 ⟨W.heap.size, 1, none⟩ (.slice A1 (dropJ a j).length c1) (lt_of_block HX1.out)) ((HB1.out.trans (hb3.mono HB1.out.size)).setCell (p := ⟨W.heap.size, 1, none⟩) (Nat.le_refl _) (.slice A1 (dropJ a j).length c1)))))
  clear p0 p1 p2 p3
  obtain ⟨⟨p0, p1, p2, p3⟩, f0, f1, f2, f3⟩ := four_cells hx3
  have HZL := hid (lt_of_block HZ1.out)
  clear hx3 hz3 ho3 hb3 HX1 HZ1 HDR HB1
  go_upto_region 3 with (fail)
  refine at_world (fun u => u.heap[W.heap.size]? = some (.cells #[.int .i64 n, .slice A1 (dropJ a j).length c1, .slice O o.length co, .slice R r.length cr] 113 (0, 0)) ∧ u.heap[W.heap.size + 1]? = some (.cells #[.int .i64 0, .slice none 0 0, .slice none 0 0, .slice none 0 0] 113 (0, 0)) ∧ u.ownsRow w1.heap.size 87 2 (.slice A1 (dropJ a j).length c1) (dropJ a j).length (pcells (dropJ a j)) ∧ Below W.heap.size W u) HN3.out ?_
  clear p0 p1 p2 p3 f0 f1 f2 f3 HN3
  rintro w4 ⟨hx, hz, ho, hb⟩
  obtain ⟨⟨p0, p1, p2, p3⟩, _⟩ := four_cells hx
  obtain ⟨_, g0, g1, g2, g3⟩ := four_cells hz
  obtain ⟨⟨r0, r1, r2, r3⟩, _⟩ := four_cells (put4_heap hz (.int .i64 n) (.slice A1 (dropJ a j).length c1) (.slice O o.length co) (.slice R r.length cr))
  simp only [put4] at r0 r1 r2 r3
  have hr := put4_below hb (show W.heap.size ≤ W.heap.size + 1 by omega) (.int .i64 n) (.slice A1 (dropJ a j).length c1) (.slice O o.length co) (.slice R r.length cr)
  have HR0 := hid (sl_own (own_put4 (x0 := .int .i64 n) (x1 := .slice A1 (dropJ a j).length c1) (x2 := .slice O o.length co) (x3 := .slice R r.length cr) ho HZL.out))
  have HB9 := hid hr
  clear hr hb hx hz
  go_wp2
  exact bodyPost_ret (v := .tuple #[.agg #[.int .i64 n, .slice A1 (dropJ a j).length c1, .slice O o.length co, .slice R r.length cr], .bool hj]) (by simp [results, Try.results84, go_sem, r0, r1, r2, r3]) rfl ⟨A1, O, R, c1, co, cr, by rw [HVV.out] <;> (first | rfl | simp [svv]), by rw [HVV.out]; exact ⟨HR0.out, (HIN.out _ HB9.out).2⟩, HB9.out⟩
set_option maxRecDepth 20000 in
set_option maxHeartbeats 8000000 in
theorem rgive_any (s : Sv) (j x : Int) (A O R : Option Addr) (ca co cr : Nat) (W : World) (h : InV W s A O R ca co cr) (hk : OkV s) (hnn : NonNeg s) :
    Calls Try.prog 86 #[.agg (svv s A O R ca co cr), .agg #[.int .i64 j, .int .i64 x]] W fun e w' => ∃ A' O' R' ca' co' cr', e = .returned (.tuple #[.agg (svv (giveV s (j, x)).1 A' O' R' ca' co' cr'), .bool (giveV s (j, x)).2]) ∧ InV w' (giveV s (j, x)).1 A' O' R' ca' co' cr' ∧ Below W.heap.size W w' := by
  have HIN := hid (fun w (hw : Below W.heap.size W w) => h.below hw)
  have HSO := hid (fun w (hw : Below W.heap.size W w) => h.2.1.below hw)
  have HSR := hid (fun w (hw : Below W.heap.size W w) => h.2.2.below hw)
  have HDR := hid (fun w (hw : Below W.heap.size W w) => rdrop_any A s.a.length ca s.a j w (h.1.below hw) (by have := hk.2.1; omega))
  have HFR := hid (fun A ca w => rfree_any (noneV s j).1 A O R ca co cr w (none_ok j hk) hnn)
  have HV : Hid (giveV s (j, x) = if freeV (noneV s j).1 = 0 then (⟨s.n, dropJ s.a j, s.o ++ [(j, x)], s.r⟩, false) else (⟨s.n, dropJ s.a j, s.o, s.r ++ [(j, x)]⟩, true)) := hid rfl
  have hnn2 := freeV_nn (noneV s j).1
  have hlo := hk.2.2.1
  have hlr := hk.2.2.2
  clear h hk hnn
  generalize giveV s (j, x) = av at *
  generalize freeV (noneV s j).1 = f at *
  obtain ⟨n, a, o, r⟩ := s
  simp only [svv, noneV] at *
  go_enter Try.func86, Try.ntmps86
  go_upto_region 1 with (fail)
  refine at_world (fun u => u.heap[W.heap.size]? = some (.cells #[.int .i64 n, .slice A a.length ca, .slice O o.length co, .slice R r.length cr] 113 (0, 0)) ∧ u.heap[W.heap.size + 1]? = some (.cells #[.int .i64 j, .int .i64 x] 119 (0, 0)) ∧ u.heap[W.heap.size + 2]? = some (.cells #[.int .i64 0, .slice none 0 0, .slice none 0 0, .slice none 0 0] 113 (0, 0)) ∧ Below W.heap.size W u) (heap3 _ _ _ _) ?_
  rintro w1 ⟨hx1, hy1, hz1, hb1⟩
  obtain ⟨⟨p0, p1, p2, p3⟩, _⟩ := four_cells hx1
  obtain ⟨y0, y1, _, _⟩ := two_cells hy1
  have HX1 := hid hx1
  have HY1 := hid hy1
  have HZ1 := hid hz1
  have HB1 := hid hb1
  clear hx1 hy1 hz1 hb1
  go_wp2_with fail
  refine (HDR.out _ HB1.out).mono ?_
  rintro e w3 ⟨A1, c1, rfl, ho3, hb3⟩
  have hx3 := keep0 HX1.out hb3
  have hy3 := keep0 HY1.out hb3
  have hz3 := keep0 HZ1.out hb3
  have HN3 := hid (And.intro (rset1 (.slice A1 (dropJ a j).length c1) hx3) (And.intro ((Below.heap_setCell w3 ⟨W.heap.size, 1, none⟩ (.slice A1 (dropJ a j).length c1) _ (show W.heap.size + 1 ≠ W.heap.size by omega)).trans hy3) (And.intro ((Below.heap_setCell w3 ⟨W.heap.size, 1, none⟩ (.slice A1 (dropJ a j).length c1) _ (show W.heap.size + 2 ≠ W.heap.size by omega)).trans hz3) (And.intro (own_setOld ho3 ⟨W.heap.size, 1, none⟩ (.slice A1 (dropJ a j).length c1) (lt_of_block HX1.out)) ((HB1.out.trans (hb3.mono HB1.out.size)).setCell (p := ⟨W.heap.size, 1, none⟩) (Nat.le_refl _) (.slice A1 (dropJ a j).length c1))))))
  clear p0 p1 p2 p3 y0 y1
  obtain ⟨⟨p0, p1, p2, p3⟩, f0, f1, f2, f3⟩ := four_cells hx3
  have HZB := hid (lt_of_block HZ1.out)
  have HNB := hid (lt_of_block HX1.out)
  clear hx3 hy3 hz3 ho3 hb3 HX1 HY1 HZ1 HDR HB1
  go_upto_region 2 with (fail)
  generalize w1.heap.size = B at *
  refine at_world (fun u => u.heap[W.heap.size]? = some (.cells #[.int .i64 n, .slice A1 (dropJ a j).length c1, .slice O o.length co, .slice R r.length cr] 113 (0, 0)) ∧ u.heap[W.heap.size + 1]? = some (.cells #[.int .i64 j, .int .i64 x] 119 (0, 0)) ∧ u.heap[W.heap.size + 2]? = some (.cells #[.int .i64 0, .slice none 0 0, .slice none 0 0, .slice none 0 0] 113 (0, 0)) ∧ u.ownsRow B 87 2 (.slice A1 (dropJ a j).length c1) (dropJ a j).length (pcells (dropJ a j)) ∧ Below W.heap.size W u) HN3.out ?_
  clear p0 p1 p2 p3 f0 f1 f2 f3 HN3
  rintro w4 ⟨hx4, hy4, hz4, ho4, hb4⟩
  obtain ⟨⟨p0, p1, p2, p3⟩, _⟩ := four_cells hx4
  have HX4 := hid hx4
  have HY4 := hid hy4
  have HZ4 := hid hz4
  have HO4 := hid ho4
  have HB4 := hid hb4
  clear hx4 hy4 hz4 ho4 hb4
  go_wp2_with fail
  refine (HFR.out _ _ _).mono ?_
  rintro e w3 ⟨rfl, hb3⟩
  have hn3 := keep0 HX4.out hb3
  have hy3 := keep0 HY4.out hb3
  have hz3 := keep0 HZ4.out hb3
  have HB3 := hid (HB4.out.trans (hb3.mono HB4.out.size))
  have HD := hid (own_keep HO4.out hb3)
  clear hb3 HFR p0 p1 p2 p3 HX4 HY4 HZ4 HO4 HB4
  obtain ⟨⟨p0, p1, p2, p3⟩, _⟩ := four_cells hn3
  obtain ⟨y0, y1, _, _⟩ := two_cells hy3
  by_cases hf : f = 0
  · subst hf
    clear hnn2
    have HVV : Hid (av = (⟨n, dropJ a j, o ++ [(j, x)], r⟩, false)) := hid (by rw [HV.out]; rw [if_pos rfl])
    go_upto_region 5 with (fail)
    go_cut [23] from 24 to 31 (fun _ wx => ∃ A6 c6, wx.heap[W.heap.size]? = some (.cells #[.int .i64 n, .slice A1 (dropJ a j).length c1, .slice A6 (o.length + 1) c6, .slice R r.length cr] 113 (0, 0)) ∧ wx.heap[W.heap.size + 2]? = some (.cells #[.int .i64 0, .slice none 0 0, .slice none 0 0, .slice none 0 0] 113 (0, 0)) ∧ (wx.ownsRow w3.heap.size 119 2 (.slice A6 (o.length + 1) c6) (o.length + 1) (pcells o ++ [.int .i64 j, .int .i64 x]) ∧ wx.ownsRow B 87 2 (.slice A1 (dropJ a j).length c1) (dropJ a j).length (pcells (dropJ a j))) ∧ Below W.heap.size W wx)
    case rest =>
      obtain ⟨A6, c6, hx, hz, ⟨ho, hd⟩, hb⟩ := hcut
      have hzl := lt_of_block hz3
      clear p0 p1 p2 p3 y0 y1
      obtain ⟨⟨p0, p1, p2, p3⟩, _⟩ := four_cells hx
      obtain ⟨_, g0, g1, g2, g3⟩ := four_cells hz
      obtain ⟨⟨r0, r1, r2, r3⟩, _⟩ := four_cells (put4_heap hz (.int .i64 n) (.slice A1 (dropJ a j).length c1) (.slice A6 (o.length + 1) c6) (.slice R r.length cr))
      simp only [put4] at r0 r1 r2 r3
      have hr := put4_below hb (show W.heap.size ≤ W.heap.size + 2 by omega) (.int .i64 n) (.slice A1 (dropJ a j).length c1) (.slice A6 (o.length + 1) c6) (.slice R r.length cr)
      have HR0 := hid (sl_own (own_put4 (x0 := .int .i64 n) (x1 := .slice A1 (dropJ a j).length c1) (x2 := .slice A6 (o.length + 1) c6) (x3 := .slice R r.length cr) ho hzl))
      have HR1 := hid (sl_own (own_put4 (x0 := .int .i64 n) (x1 := .slice A1 (dropJ a j).length c1) (x2 := .slice A6 (o.length + 1) c6) (x3 := .slice R r.length cr) hd HZB.out))
      have HB9 := hid hr
      clear hr hb hx hz
      go_wp2
      exact bodyPost_ret (v := .tuple #[.agg #[.int .i64 n, .slice A1 (dropJ a j).length c1, .slice A6 (o.length + 1) c6, .slice R r.length cr], .bool false]) (by simp [results, Try.results86, go_sem, r0, r1, r2, r3]) rfl ⟨A1, A6, R, c1, c6, cr, by rw [HVV.out] <;> (first | rfl | simp [svv]), by rw [HVV.out]; exact ⟨HR1.out, by rw [List.length_append, pcells_append]; exact HR0.out, (HIN.out _ HB9.out).2.2⟩, HB9.out⟩
    clear p0 p1 p2 p3 y0 y1 HIN HV HVV
    have hS : ∀ U, Below w3.heap.size w3 U → (fun U => (U.cell? ⟨(W.heap.size + 1), 0, none⟩ = some (.int .i64 j) ∧ U.cell? ⟨(W.heap.size + 1), 1, none⟩ = some (.int .i64 x)) ∧ Below W.heap.size W U) U := fun U hU => ⟨⟨(two_cells (keep0 hy3 hU)).1, (two_cells (keep0 hy3 hU)).2.1⟩, HB3.out.trans (hU.mono HB3.out.size)⟩
    have hk : Below w3.heap.size w3 w3.drew := below_drew (Below.refl _ _)
    refine wp_region_held_drew (S := (fun U => (U.cell? ⟨(W.heap.size + 1), 0, none⟩ = some (.int .i64 j) ∧ U.cell? ⟨(W.heap.size + 1), 1, none⟩ = some (.int .i64 x)) ∧ Below W.heap.size W U)) (by kernel_rfl) (hS _ hk) (fun hHeld => ?_)
    generalize w3.drew = k0 at *
    refine wpAnyH_take (i := 1) (v := ?_) rfl (by kernel_rfl) (by kernel_rfl) (by kernel_rfl) (fun _ _ _ h => h) (Or.inl ⟨by rfl, ?_⟩) (by exact hS _ hk) ?_
    rotate_left
    focus
      intro U hU
      try dsimp only at hU
      go_simp
      try (with_reducible rfl)
    simp only [List.getElem_toArray, List.getElem_cons_succ, List.getElem_cons_zero, Act.put, List.setIfInBounds_toArray, List.set_cons_zero, List.set_cons_succ]
    refine wpAnyH_take (i := 4) (v := ?_) rfl (by kernel_rfl) (by kernel_rfl) (by kernel_rfl) (fun _ _ _ h => h) (Or.inl ⟨by rfl, ?_⟩) (by exact hS _ hk) ?_
    rotate_left
    focus
      intro U hU
      try dsimp only at hU
      go_simp
      try (with_reducible rfl)
    simp only [List.getElem_toArray, List.getElem_cons_succ, List.getElem_cons_zero, Act.put, List.setIfInBounds_toArray, List.set_cons_zero, List.set_cons_succ]
    refine wpAnyH_ready (rs := [0, 2, 5]) (by kernel_rfl) (by simp) ?_
    refine (AllReadyH.cons rfl (fun K hK => ?_) (AllReadyH.cons rfl (fun K hK => ?_) (AllReadyH.cons rfl (fun K hK => ?_) AllReadyH.nil)))
    · skip
      have hbs : Below (World.heap k0).size k0 (World.alloc k0 (.cells #[] 119)) := (Below.refl _ _).alloc (Nat.le_refl _) _
      have HE := hid (own_mono (own_empty k0 119 2) hk.size)
      replace hk := hk.trans (hbs.mono hk.size)
      clear hbs
      simp only [List.getElem_toArray, List.getElem_cons_succ, List.getElem_cons_zero]
      go_simp
      refine hK.out _ _ ?_ (fun hHeld2 => ?_)
      focus
        exact hS _ hk
      clear hHeld
      have hHeld := hHeld2
      clear hHeld2 hK K
      try simp only [List.getElem_toArray, List.getElem_cons_succ, List.getElem_cons_zero, Act.put, List.setIfInBounds_toArray, List.set_cons_zero, List.set_cons_succ]
      generalize (World.alloc k0 (.cells #[] 119)) = k1 at *
      generalize (World.heap k0).size = XE at *
      refine wpAnyH_ready (rs := [2, 5]) (by kernel_rfl) (by simp) ?_
      refine (AllReadyH.cons rfl (fun K hK => ?_) (AllReadyH.cons rfl (fun K hK => ?_) AllReadyH.nil))
      · skip
        obtain ⟨⟨p0, p1, p2, p3⟩, _⟩ := four_cells (keep0 hn3 hk)
        simp only [List.getElem_toArray, List.getElem_cons_succ, List.getElem_cons_zero]
        go_simp
        refine hK.out _ _ ?_ (fun hHeld2 => ?_)
        focus
          exact hS _ hk
        clear hHeld
        have hHeld := hHeld2
        clear hHeld2 hK K
        try simp only [List.getElem_toArray, List.getElem_cons_succ, List.getElem_cons_zero, Act.put, List.setIfInBounds_toArray, List.set_cons_zero, List.set_cons_succ]
        clear p0 p1 p2 p3
        refine wpAnyH_ready (rs := [3, 5]) (by kernel_rfl) (by simp) ?_
        refine (AllReadyH.cons rfl (fun K hK => ?_) (AllReadyH.cons rfl (fun K hK => ?_) AllReadyH.nil))
        · skip
          refine step_append_sl rfl (.tmp 24) (.tmp 26) 111 rfl w3.heap.size 119 Try.underlying111 info_task rfl (by omega) rfl HE.out rfl (HSO.out _ (HB3.out.trans (hk.mono HB3.out.size))) (pcells_one _) (by unfold maxLen; omega) (by omega) hk.size ?_
          intro vk2 k2 ho5 hb5 hsz5 hk5
          simp only [Nat.zero_add, List.nil_append] at ho5
          obtain ⟨A5, c5, rfl, _⟩ := Sl.of_own ho5
          clear HE
          have HE := hid ho5
          replace hk := hk.trans hb5
          clear hb5 hsz5 hk5 ho5
          simp only [List.getElem_toArray, List.getElem_cons_succ, List.getElem_cons_zero]
          refine hK.out _ _ ?_ (fun hHeld2 => ?_)
          focus
            exact hS _ hk
          clear hHeld
          have hHeld := hHeld2
          clear hHeld2 hK K
          try simp only [List.getElem_toArray, List.getElem_cons_succ, List.getElem_cons_zero, Act.put, List.setIfInBounds_toArray, List.set_cons_zero, List.set_cons_succ]
          refine wpAnyH_ready (rs := [5]) (by kernel_rfl) (by simp) ?_
          refine (AllReadyH.cons rfl (fun K hK => ?_) AllReadyH.nil)
          have hbs : Below (World.heap k2).size k2 (World.alloc k2 (.cells #[.int .i64 j, .int .i64 x] 119)) := (Below.refl _ _).alloc (Nat.le_refl _) _
          have HL : Hid ((World.alloc k2 (.cells #[.int .i64 j, .int .i64 x] 119)).heap[(World.heap k2).size]? = some (.cells #[.int .i64 j, .int .i64 x] 119 (0, 0))) := hid (heap_alloc_new _ _)
          have HXL : Hid (w3.heap.size ≤ (World.heap k2).size) := hid hk.size
          replace HE := hid (own_keep HE.out hbs)
          replace hk := hk.trans (hbs.mono hk.size)
          clear hbs
          simp only [List.getElem_toArray, List.getElem_cons_succ, List.getElem_cons_zero]
          go_simp
          refine hK.out _ _ ?_ (fun hHeld2 => ?_)
          focus
            exact hS _ hk
          clear hHeld
          have hHeld := hHeld2
          clear hHeld2 hK K
          try simp only [List.getElem_toArray, List.getElem_cons_succ, List.getElem_cons_zero, Act.put, List.setIfInBounds_toArray, List.set_cons_zero, List.set_cons_succ]
          generalize (World.alloc k2 (.cells #[.int .i64 j, .int .i64 x] 119)) = k3 at *
          generalize (World.heap k2).size = XL at *
          refine wpAnyH_ready (rs := [6]) (by kernel_rfl) (by simp) ?_
          refine AllReadyH.cons rfl (fun K hK => ?_) AllReadyH.nil
          refine step_append_sl rfl (.tmp 27) (.tmp 29) 111 rfl w3.heap.size 119 Try.underlying111 info_task rfl (by omega) rfl HE.out rfl (by exact sl_heap HL.out) (by simp; exact ⟨rfl, rfl⟩) (by unfold maxLen; omega) (by omega) hk.size ?_
          intro v6 w6 ho6 hb6 hsz6 hk6
          obtain ⟨A6, c6, rfl, _⟩ := Sl.of_own ho6
          replace hk := hk.trans hb6
          have HO6 := hid ho6
          clear hb6 hsz6 hk6 ho6 HE HL
          simp only [List.getElem_toArray, List.getElem_cons_succ, List.getElem_cons_zero]
          refine hK.out _ _ ?_ (fun hHeld2 => ?_)
          focus
            exact hS _ hk
          clear hHeld
          have hHeld := hHeld2
          clear hHeld2 hK K
          try simp only [List.getElem_toArray, List.getElem_cons_succ, List.getElem_cons_zero, Act.put, List.setIfInBounds_toArray, List.set_cons_zero, List.set_cons_succ]
          refine wpAnyH_take (i := 7) (v := ?_) rfl (by kernel_rfl) (by kernel_rfl) (by kernel_rfl) (fun _ _ _ h => h) (Or.inl ⟨by rfl, ?_⟩) (by exact hS _ hk) ?_
          rotate_left
          focus
            intro U hU
            try dsimp only at hU
            go_simp
            try (with_reducible rfl)
          simp only [List.getElem_toArray, List.getElem_cons_succ, List.getElem_cons_zero, Act.put, List.setIfInBounds_toArray, List.set_cons_zero, List.set_cons_succ]
          refine wpAnyH_ready (rs := [8]) (by kernel_rfl) (by simp) ?_
          refine AllReadyH.cons rfl (fun K hK => ?_) AllReadyH.nil
          obtain ⟨_, f0, f1, f2, f3⟩ := four_cells (keep0 hn3 hk)
          simp only [List.getElem_toArray, List.getElem_cons_succ, List.getElem_cons_zero]
          go_simp
          refine hK.out _ _ ?_ (fun hHeld2 => ?_)
          focus
            exact ⟨⟨(two_cells ((Below.heap_setCell _ _ _ _ (show W.heap.size + 1 ≠ W.heap.size by omega)).trans (keep0 hy3 hk))).1, (two_cells ((Below.heap_setCell _ _ _ _ (show W.heap.size + 1 ≠ W.heap.size by omega)).trans (keep0 hy3 hk))).2.1⟩, (HB3.out.trans (hk.mono HB3.out.size)).setCell (p := ⟨W.heap.size, 2, none⟩) (Nat.le_refl _) _⟩
          clear hHeld
          have hHeld := hHeld2
          clear hHeld2 hK K
          try simp only [List.getElem_toArray, List.getElem_cons_succ, List.getElem_cons_zero, Act.put, List.setIfInBounds_toArray, List.set_cons_zero, List.set_cons_succ]
          refine wpAnyH_done (by kernel_rfl) ?_ _
          clear hHeld f0 f1 f2 f3
          go_wp2_with fail
          go_meet
          refine ⟨A6, c6, ?_, (Below.heap_setCell _ _ _ _ (show W.heap.size + 2 ≠ W.heap.size by omega)).trans (keep0 hz3 hk), ⟨own_setOld HO6.out _ _ (lt_of_block hn3), own_setOld (own_keep HD.out hk) _ _ HNB.out⟩, (HB3.out.trans (hk.mono HB3.out.size)).setCell (p := ⟨W.heap.size, 2, none⟩) (Nat.le_refl _) _⟩
          rw [heap_setCell_same _ _ _ _ _ _ (keep0 hn3 hk)]
          simp
        · skip
          have hbs : Below (World.heap k1).size k1 (World.alloc k1 (.cells #[.int .i64 j, .int .i64 x] 119)) := (Below.refl _ _).alloc (Nat.le_refl _) _
          have HL : Hid ((World.alloc k1 (.cells #[.int .i64 j, .int .i64 x] 119)).heap[(World.heap k1).size]? = some (.cells #[.int .i64 j, .int .i64 x] 119 (0, 0))) := hid (heap_alloc_new _ _)
          have HXL : Hid (w3.heap.size ≤ (World.heap k1).size) := hid hk.size
          have HNE : Hid ((World.heap k1).size ≠ XE) := hid (Nat.ne_of_gt (own_blk_lt HE.out rfl).1)
          replace HE := hid (own_keep HE.out hbs)
          replace hk := hk.trans (hbs.mono hk.size)
          clear hbs
          simp only [List.getElem_toArray, List.getElem_cons_succ, List.getElem_cons_zero]
          go_simp
          refine hK.out _ _ ?_ (fun hHeld2 => ?_)
          focus
            exact hS _ hk
          clear hHeld
          have hHeld := hHeld2
          clear hHeld2 hK K
          try simp only [List.getElem_toArray, List.getElem_cons_succ, List.getElem_cons_zero, Act.put, List.setIfInBounds_toArray, List.set_cons_zero, List.set_cons_succ]
          generalize (World.alloc k1 (.cells #[.int .i64 j, .int .i64 x] 119)) = k4 at *
          generalize (World.heap k1).size = XL at *
          refine wpAnyH_ready (rs := [3]) (by kernel_rfl) (by simp) ?_
          refine (AllReadyH.cons rfl (fun K hK => ?_) AllReadyH.nil)
          refine step_append_sl rfl (.tmp 24) (.tmp 26) 111 rfl w3.heap.size 119 Try.underlying111 info_task rfl (by omega) rfl HE.out rfl (HSO.out _ (HB3.out.trans (hk.mono HB3.out.size))) (pcells_one _) (by unfold maxLen; omega) (by omega) hk.size ?_
          intro vk5 k5 ho5 hb5 hsz5 hk5
          simp only [Nat.zero_add, List.nil_append] at ho5
          obtain ⟨A5, c5, rfl, _⟩ := Sl.of_own ho5
          replace HL := hid ((hk5 XL HXL.out (lt_of_block HL.out) (fun e => HNE.out (Option.some.inj e).symm)).trans HL.out)
          clear HE
          have HE := hid ho5
          replace hk := hk.trans hb5
          clear hb5 hsz5 hk5 ho5
          simp only [List.getElem_toArray, List.getElem_cons_succ, List.getElem_cons_zero]
          refine hK.out _ _ ?_ (fun hHeld2 => ?_)
          focus
            exact hS _ hk
          clear hHeld
          have hHeld := hHeld2
          clear hHeld2 hK K
          try simp only [List.getElem_toArray, List.getElem_cons_succ, List.getElem_cons_zero, Act.put, List.setIfInBounds_toArray, List.set_cons_zero, List.set_cons_succ]
          refine wpAnyH_ready (rs := [6]) (by kernel_rfl) (by simp) ?_
          refine AllReadyH.cons rfl (fun K hK => ?_) AllReadyH.nil
          refine step_append_sl rfl (.tmp 27) (.tmp 29) 111 rfl w3.heap.size 119 Try.underlying111 info_task rfl (by omega) rfl HE.out rfl (by exact sl_heap HL.out) (by simp; exact ⟨rfl, rfl⟩) (by unfold maxLen; omega) (by omega) hk.size ?_
          intro v6 w6 ho6 hb6 hsz6 hk6
          obtain ⟨A6, c6, rfl, _⟩ := Sl.of_own ho6
          replace hk := hk.trans hb6
          have HO6 := hid ho6
          clear hb6 hsz6 hk6 ho6 HE HL
          simp only [List.getElem_toArray, List.getElem_cons_succ, List.getElem_cons_zero]
          refine hK.out _ _ ?_ (fun hHeld2 => ?_)
          focus
            exact hS _ hk
          clear hHeld
          have hHeld := hHeld2
          clear hHeld2 hK K
          try simp only [List.getElem_toArray, List.getElem_cons_succ, List.getElem_cons_zero, Act.put, List.setIfInBounds_toArray, List.set_cons_zero, List.set_cons_succ]
          refine wpAnyH_take (i := 7) (v := ?_) rfl (by kernel_rfl) (by kernel_rfl) (by kernel_rfl) (fun _ _ _ h => h) (Or.inl ⟨by rfl, ?_⟩) (by exact hS _ hk) ?_
          rotate_left
          focus
            intro U hU
            try dsimp only at hU
            go_simp
            try (with_reducible rfl)
          simp only [List.getElem_toArray, List.getElem_cons_succ, List.getElem_cons_zero, Act.put, List.setIfInBounds_toArray, List.set_cons_zero, List.set_cons_succ]
          refine wpAnyH_ready (rs := [8]) (by kernel_rfl) (by simp) ?_
          refine AllReadyH.cons rfl (fun K hK => ?_) AllReadyH.nil
          obtain ⟨_, f0, f1, f2, f3⟩ := four_cells (keep0 hn3 hk)
          simp only [List.getElem_toArray, List.getElem_cons_succ, List.getElem_cons_zero]
          go_simp
          refine hK.out _ _ ?_ (fun hHeld2 => ?_)
          focus
            exact ⟨⟨(two_cells ((Below.heap_setCell _ _ _ _ (show W.heap.size + 1 ≠ W.heap.size by omega)).trans (keep0 hy3 hk))).1, (two_cells ((Below.heap_setCell _ _ _ _ (show W.heap.size + 1 ≠ W.heap.size by omega)).trans (keep0 hy3 hk))).2.1⟩, (HB3.out.trans (hk.mono HB3.out.size)).setCell (p := ⟨W.heap.size, 2, none⟩) (Nat.le_refl _) _⟩
          clear hHeld
          have hHeld := hHeld2
          clear hHeld2 hK K
          try simp only [List.getElem_toArray, List.getElem_cons_succ, List.getElem_cons_zero, Act.put, List.setIfInBounds_toArray, List.set_cons_zero, List.set_cons_succ]
          refine wpAnyH_done (by kernel_rfl) ?_ _
          clear hHeld f0 f1 f2 f3
          go_wp2_with fail
          go_meet
          refine ⟨A6, c6, ?_, (Below.heap_setCell _ _ _ _ (show W.heap.size + 2 ≠ W.heap.size by omega)).trans (keep0 hz3 hk), ⟨own_setOld HO6.out _ _ (lt_of_block hn3), own_setOld (own_keep HD.out hk) _ _ HNB.out⟩, (HB3.out.trans (hk.mono HB3.out.size)).setCell (p := ⟨W.heap.size, 2, none⟩) (Nat.le_refl _) _⟩
          rw [heap_setCell_same _ _ _ _ _ _ (keep0 hn3 hk)]
          simp
      · skip
        have hbs : Below (World.heap k1).size k1 (World.alloc k1 (.cells #[.int .i64 j, .int .i64 x] 119)) := (Below.refl _ _).alloc (Nat.le_refl _) _
        have HL : Hid ((World.alloc k1 (.cells #[.int .i64 j, .int .i64 x] 119)).heap[(World.heap k1).size]? = some (.cells #[.int .i64 j, .int .i64 x] 119 (0, 0))) := hid (heap_alloc_new _ _)
        have HXL : Hid (w3.heap.size ≤ (World.heap k1).size) := hid hk.size
        have HNE : Hid ((World.heap k1).size ≠ XE) := hid (Nat.ne_of_gt (own_blk_lt HE.out rfl).1)
        replace HE := hid (own_keep HE.out hbs)
        replace hk := hk.trans (hbs.mono hk.size)
        clear hbs
        simp only [List.getElem_toArray, List.getElem_cons_succ, List.getElem_cons_zero]
        go_simp
        refine hK.out _ _ ?_ (fun hHeld2 => ?_)
        focus
          exact hS _ hk
        clear hHeld
        have hHeld := hHeld2
        clear hHeld2 hK K
        try simp only [List.getElem_toArray, List.getElem_cons_succ, List.getElem_cons_zero, Act.put, List.setIfInBounds_toArray, List.set_cons_zero, List.set_cons_succ]
        generalize (World.alloc k1 (.cells #[.int .i64 j, .int .i64 x] 119)) = k6 at *
        generalize (World.heap k1).size = XL at *
        refine wpAnyH_ready (rs := [2]) (by kernel_rfl) (by simp) ?_
        refine (AllReadyH.cons rfl (fun K hK => ?_) AllReadyH.nil)
        obtain ⟨⟨p0, p1, p2, p3⟩, _⟩ := four_cells (keep0 hn3 hk)
        simp only [List.getElem_toArray, List.getElem_cons_succ, List.getElem_cons_zero]
        go_simp
        refine hK.out _ _ ?_ (fun hHeld2 => ?_)
        focus
          exact hS _ hk
        clear hHeld
        have hHeld := hHeld2
        clear hHeld2 hK K
        try simp only [List.getElem_toArray, List.getElem_cons_succ, List.getElem_cons_zero, Act.put, List.setIfInBounds_toArray, List.set_cons_zero, List.set_cons_succ]
        clear p0 p1 p2 p3
        refine wpAnyH_ready (rs := [3]) (by kernel_rfl) (by simp) ?_
        refine (AllReadyH.cons rfl (fun K hK => ?_) AllReadyH.nil)
        refine step_append_sl rfl (.tmp 24) (.tmp 26) 111 rfl w3.heap.size 119 Try.underlying111 info_task rfl (by omega) rfl HE.out rfl (HSO.out _ (HB3.out.trans (hk.mono HB3.out.size))) (pcells_one _) (by unfold maxLen; omega) (by omega) hk.size ?_
        intro vk7 k7 ho5 hb5 hsz5 hk5
        simp only [Nat.zero_add, List.nil_append] at ho5
        obtain ⟨A5, c5, rfl, _⟩ := Sl.of_own ho5
        replace HL := hid ((hk5 XL HXL.out (lt_of_block HL.out) (fun e => HNE.out (Option.some.inj e).symm)).trans HL.out)
        clear HE
        have HE := hid ho5
        replace hk := hk.trans hb5
        clear hb5 hsz5 hk5 ho5
        simp only [List.getElem_toArray, List.getElem_cons_succ, List.getElem_cons_zero]
        refine hK.out _ _ ?_ (fun hHeld2 => ?_)
        focus
          exact hS _ hk
        clear hHeld
        have hHeld := hHeld2
        clear hHeld2 hK K
        try simp only [List.getElem_toArray, List.getElem_cons_succ, List.getElem_cons_zero, Act.put, List.setIfInBounds_toArray, List.set_cons_zero, List.set_cons_succ]
        refine wpAnyH_ready (rs := [6]) (by kernel_rfl) (by simp) ?_
        refine AllReadyH.cons rfl (fun K hK => ?_) AllReadyH.nil
        refine step_append_sl rfl (.tmp 27) (.tmp 29) 111 rfl w3.heap.size 119 Try.underlying111 info_task rfl (by omega) rfl HE.out rfl (by exact sl_heap HL.out) (by simp; exact ⟨rfl, rfl⟩) (by unfold maxLen; omega) (by omega) hk.size ?_
        intro v6 w6 ho6 hb6 hsz6 hk6
        obtain ⟨A6, c6, rfl, _⟩ := Sl.of_own ho6
        replace hk := hk.trans hb6
        have HO6 := hid ho6
        clear hb6 hsz6 hk6 ho6 HE HL
        simp only [List.getElem_toArray, List.getElem_cons_succ, List.getElem_cons_zero]
        refine hK.out _ _ ?_ (fun hHeld2 => ?_)
        focus
          exact hS _ hk
        clear hHeld
        have hHeld := hHeld2
        clear hHeld2 hK K
        try simp only [List.getElem_toArray, List.getElem_cons_succ, List.getElem_cons_zero, Act.put, List.setIfInBounds_toArray, List.set_cons_zero, List.set_cons_succ]
        refine wpAnyH_take (i := 7) (v := ?_) rfl (by kernel_rfl) (by kernel_rfl) (by kernel_rfl) (fun _ _ _ h => h) (Or.inl ⟨by rfl, ?_⟩) (by exact hS _ hk) ?_
        rotate_left
        focus
          intro U hU
          try dsimp only at hU
          go_simp
          try (with_reducible rfl)
        simp only [List.getElem_toArray, List.getElem_cons_succ, List.getElem_cons_zero, Act.put, List.setIfInBounds_toArray, List.set_cons_zero, List.set_cons_succ]
        refine wpAnyH_ready (rs := [8]) (by kernel_rfl) (by simp) ?_
        refine AllReadyH.cons rfl (fun K hK => ?_) AllReadyH.nil
        obtain ⟨_, f0, f1, f2, f3⟩ := four_cells (keep0 hn3 hk)
        simp only [List.getElem_toArray, List.getElem_cons_succ, List.getElem_cons_zero]
        go_simp
        refine hK.out _ _ ?_ (fun hHeld2 => ?_)
        focus
          exact ⟨⟨(two_cells ((Below.heap_setCell _ _ _ _ (show W.heap.size + 1 ≠ W.heap.size by omega)).trans (keep0 hy3 hk))).1, (two_cells ((Below.heap_setCell _ _ _ _ (show W.heap.size + 1 ≠ W.heap.size by omega)).trans (keep0 hy3 hk))).2.1⟩, (HB3.out.trans (hk.mono HB3.out.size)).setCell (p := ⟨W.heap.size, 2, none⟩) (Nat.le_refl _) _⟩
        clear hHeld
        have hHeld := hHeld2
        clear hHeld2 hK K
        try simp only [List.getElem_toArray, List.getElem_cons_succ, List.getElem_cons_zero, Act.put, List.setIfInBounds_toArray, List.set_cons_zero, List.set_cons_succ]
        refine wpAnyH_done (by kernel_rfl) ?_ _
        clear hHeld f0 f1 f2 f3
        go_wp2_with fail
        go_meet
        refine ⟨A6, c6, ?_, (Below.heap_setCell _ _ _ _ (show W.heap.size + 2 ≠ W.heap.size by omega)).trans (keep0 hz3 hk), ⟨own_setOld HO6.out _ _ (lt_of_block hn3), own_setOld (own_keep HD.out hk) _ _ HNB.out⟩, (HB3.out.trans (hk.mono HB3.out.size)).setCell (p := ⟨W.heap.size, 2, none⟩) (Nat.le_refl _) _⟩
        rw [heap_setCell_same _ _ _ _ _ _ (keep0 hn3 hk)]
        simp
    · skip
      obtain ⟨⟨p0, p1, p2, p3⟩, _⟩ := four_cells (keep0 hn3 hk)
      simp only [List.getElem_toArray, List.getElem_cons_succ, List.getElem_cons_zero]
      go_simp
      refine hK.out _ _ ?_ (fun hHeld2 => ?_)
      focus
        exact hS _ hk
      clear hHeld
      have hHeld := hHeld2
      clear hHeld2 hK K
      try simp only [List.getElem_toArray, List.getElem_cons_succ, List.getElem_cons_zero, Act.put, List.setIfInBounds_toArray, List.set_cons_zero, List.set_cons_succ]
      clear p0 p1 p2 p3
      refine wpAnyH_ready (rs := [0, 5]) (by kernel_rfl) (by simp) ?_
      refine (AllReadyH.cons rfl (fun K hK => ?_) (AllReadyH.cons rfl (fun K hK => ?_) AllReadyH.nil))
      · skip
        have hbs : Below (World.heap k0).size k0 (World.alloc k0 (.cells #[] 119)) := (Below.refl _ _).alloc (Nat.le_refl _) _
        have HE := hid (own_mono (own_empty k0 119 2) hk.size)
        replace hk := hk.trans (hbs.mono hk.size)
        clear hbs
        simp only [List.getElem_toArray, List.getElem_cons_succ, List.getElem_cons_zero]
        go_simp
        refine hK.out _ _ ?_ (fun hHeld2 => ?_)
        focus
          exact hS _ hk
        clear hHeld
        have hHeld := hHeld2
        clear hHeld2 hK K
        try simp only [List.getElem_toArray, List.getElem_cons_succ, List.getElem_cons_zero, Act.put, List.setIfInBounds_toArray, List.set_cons_zero, List.set_cons_succ]
        generalize (World.alloc k0 (.cells #[] 119)) = k8 at *
        generalize (World.heap k0).size = XE at *
        refine wpAnyH_ready (rs := [3, 5]) (by kernel_rfl) (by simp) ?_
        refine (AllReadyH.cons rfl (fun K hK => ?_) (AllReadyH.cons rfl (fun K hK => ?_) AllReadyH.nil))
        · skip
          refine step_append_sl rfl (.tmp 24) (.tmp 26) 111 rfl w3.heap.size 119 Try.underlying111 info_task rfl (by omega) rfl HE.out rfl (HSO.out _ (HB3.out.trans (hk.mono HB3.out.size))) (pcells_one _) (by unfold maxLen; omega) (by omega) hk.size ?_
          intro vk9 k9 ho5 hb5 hsz5 hk5
          simp only [Nat.zero_add, List.nil_append] at ho5
          obtain ⟨A5, c5, rfl, _⟩ := Sl.of_own ho5
          clear HE
          have HE := hid ho5
          replace hk := hk.trans hb5
          clear hb5 hsz5 hk5 ho5
          simp only [List.getElem_toArray, List.getElem_cons_succ, List.getElem_cons_zero]
          refine hK.out _ _ ?_ (fun hHeld2 => ?_)
          focus
            exact hS _ hk
          clear hHeld
          have hHeld := hHeld2
          clear hHeld2 hK K
          try simp only [List.getElem_toArray, List.getElem_cons_succ, List.getElem_cons_zero, Act.put, List.setIfInBounds_toArray, List.set_cons_zero, List.set_cons_succ]
          refine wpAnyH_ready (rs := [5]) (by kernel_rfl) (by simp) ?_
          refine (AllReadyH.cons rfl (fun K hK => ?_) AllReadyH.nil)
          have hbs : Below (World.heap k9).size k9 (World.alloc k9 (.cells #[.int .i64 j, .int .i64 x] 119)) := (Below.refl _ _).alloc (Nat.le_refl _) _
          have HL : Hid ((World.alloc k9 (.cells #[.int .i64 j, .int .i64 x] 119)).heap[(World.heap k9).size]? = some (.cells #[.int .i64 j, .int .i64 x] 119 (0, 0))) := hid (heap_alloc_new _ _)
          have HXL : Hid (w3.heap.size ≤ (World.heap k9).size) := hid hk.size
          replace HE := hid (own_keep HE.out hbs)
          replace hk := hk.trans (hbs.mono hk.size)
          clear hbs
          simp only [List.getElem_toArray, List.getElem_cons_succ, List.getElem_cons_zero]
          go_simp
          refine hK.out _ _ ?_ (fun hHeld2 => ?_)
          focus
            exact hS _ hk
          clear hHeld
          have hHeld := hHeld2
          clear hHeld2 hK K
          try simp only [List.getElem_toArray, List.getElem_cons_succ, List.getElem_cons_zero, Act.put, List.setIfInBounds_toArray, List.set_cons_zero, List.set_cons_succ]
          generalize (World.alloc k9 (.cells #[.int .i64 j, .int .i64 x] 119)) = k10 at *
          generalize (World.heap k9).size = XL at *
          refine wpAnyH_ready (rs := [6]) (by kernel_rfl) (by simp) ?_
          refine AllReadyH.cons rfl (fun K hK => ?_) AllReadyH.nil
          refine step_append_sl rfl (.tmp 27) (.tmp 29) 111 rfl w3.heap.size 119 Try.underlying111 info_task rfl (by omega) rfl HE.out rfl (by exact sl_heap HL.out) (by simp; exact ⟨rfl, rfl⟩) (by unfold maxLen; omega) (by omega) hk.size ?_
          intro v6 w6 ho6 hb6 hsz6 hk6
          obtain ⟨A6, c6, rfl, _⟩ := Sl.of_own ho6
          replace hk := hk.trans hb6
          have HO6 := hid ho6
          clear hb6 hsz6 hk6 ho6 HE HL
          simp only [List.getElem_toArray, List.getElem_cons_succ, List.getElem_cons_zero]
          refine hK.out _ _ ?_ (fun hHeld2 => ?_)
          focus
            exact hS _ hk
          clear hHeld
          have hHeld := hHeld2
          clear hHeld2 hK K
          try simp only [List.getElem_toArray, List.getElem_cons_succ, List.getElem_cons_zero, Act.put, List.setIfInBounds_toArray, List.set_cons_zero, List.set_cons_succ]
          refine wpAnyH_take (i := 7) (v := ?_) rfl (by kernel_rfl) (by kernel_rfl) (by kernel_rfl) (fun _ _ _ h => h) (Or.inl ⟨by rfl, ?_⟩) (by exact hS _ hk) ?_
          rotate_left
          focus
            intro U hU
            try dsimp only at hU
            go_simp
            try (with_reducible rfl)
          simp only [List.getElem_toArray, List.getElem_cons_succ, List.getElem_cons_zero, Act.put, List.setIfInBounds_toArray, List.set_cons_zero, List.set_cons_succ]
          refine wpAnyH_ready (rs := [8]) (by kernel_rfl) (by simp) ?_
          refine AllReadyH.cons rfl (fun K hK => ?_) AllReadyH.nil
          obtain ⟨_, f0, f1, f2, f3⟩ := four_cells (keep0 hn3 hk)
          simp only [List.getElem_toArray, List.getElem_cons_succ, List.getElem_cons_zero]
          go_simp
          refine hK.out _ _ ?_ (fun hHeld2 => ?_)
          focus
            exact ⟨⟨(two_cells ((Below.heap_setCell _ _ _ _ (show W.heap.size + 1 ≠ W.heap.size by omega)).trans (keep0 hy3 hk))).1, (two_cells ((Below.heap_setCell _ _ _ _ (show W.heap.size + 1 ≠ W.heap.size by omega)).trans (keep0 hy3 hk))).2.1⟩, (HB3.out.trans (hk.mono HB3.out.size)).setCell (p := ⟨W.heap.size, 2, none⟩) (Nat.le_refl _) _⟩
          clear hHeld
          have hHeld := hHeld2
          clear hHeld2 hK K
          try simp only [List.getElem_toArray, List.getElem_cons_succ, List.getElem_cons_zero, Act.put, List.setIfInBounds_toArray, List.set_cons_zero, List.set_cons_succ]
          refine wpAnyH_done (by kernel_rfl) ?_ _
          clear hHeld f0 f1 f2 f3
          go_wp2_with fail
          go_meet
          refine ⟨A6, c6, ?_, (Below.heap_setCell _ _ _ _ (show W.heap.size + 2 ≠ W.heap.size by omega)).trans (keep0 hz3 hk), ⟨own_setOld HO6.out _ _ (lt_of_block hn3), own_setOld (own_keep HD.out hk) _ _ HNB.out⟩, (HB3.out.trans (hk.mono HB3.out.size)).setCell (p := ⟨W.heap.size, 2, none⟩) (Nat.le_refl _) _⟩
          rw [heap_setCell_same _ _ _ _ _ _ (keep0 hn3 hk)]
          simp
        · skip
          have hbs : Below (World.heap k8).size k8 (World.alloc k8 (.cells #[.int .i64 j, .int .i64 x] 119)) := (Below.refl _ _).alloc (Nat.le_refl _) _
          have HL : Hid ((World.alloc k8 (.cells #[.int .i64 j, .int .i64 x] 119)).heap[(World.heap k8).size]? = some (.cells #[.int .i64 j, .int .i64 x] 119 (0, 0))) := hid (heap_alloc_new _ _)
          have HXL : Hid (w3.heap.size ≤ (World.heap k8).size) := hid hk.size
          have HNE : Hid ((World.heap k8).size ≠ XE) := hid (Nat.ne_of_gt (own_blk_lt HE.out rfl).1)
          replace HE := hid (own_keep HE.out hbs)
          replace hk := hk.trans (hbs.mono hk.size)
          clear hbs
          simp only [List.getElem_toArray, List.getElem_cons_succ, List.getElem_cons_zero]
          go_simp
          refine hK.out _ _ ?_ (fun hHeld2 => ?_)
          focus
            exact hS _ hk
          clear hHeld
          have hHeld := hHeld2
          clear hHeld2 hK K
          try simp only [List.getElem_toArray, List.getElem_cons_succ, List.getElem_cons_zero, Act.put, List.setIfInBounds_toArray, List.set_cons_zero, List.set_cons_succ]
          generalize (World.alloc k8 (.cells #[.int .i64 j, .int .i64 x] 119)) = k11 at *
          generalize (World.heap k8).size = XL at *
          refine wpAnyH_ready (rs := [3]) (by kernel_rfl) (by simp) ?_
          refine (AllReadyH.cons rfl (fun K hK => ?_) AllReadyH.nil)
          refine step_append_sl rfl (.tmp 24) (.tmp 26) 111 rfl w3.heap.size 119 Try.underlying111 info_task rfl (by omega) rfl HE.out rfl (HSO.out _ (HB3.out.trans (hk.mono HB3.out.size))) (pcells_one _) (by unfold maxLen; omega) (by omega) hk.size ?_
          intro vk12 k12 ho5 hb5 hsz5 hk5
          simp only [Nat.zero_add, List.nil_append] at ho5
          obtain ⟨A5, c5, rfl, _⟩ := Sl.of_own ho5
          replace HL := hid ((hk5 XL HXL.out (lt_of_block HL.out) (fun e => HNE.out (Option.some.inj e).symm)).trans HL.out)
          clear HE
          have HE := hid ho5
          replace hk := hk.trans hb5
          clear hb5 hsz5 hk5 ho5
          simp only [List.getElem_toArray, List.getElem_cons_succ, List.getElem_cons_zero]
          refine hK.out _ _ ?_ (fun hHeld2 => ?_)
          focus
            exact hS _ hk
          clear hHeld
          have hHeld := hHeld2
          clear hHeld2 hK K
          try simp only [List.getElem_toArray, List.getElem_cons_succ, List.getElem_cons_zero, Act.put, List.setIfInBounds_toArray, List.set_cons_zero, List.set_cons_succ]
          refine wpAnyH_ready (rs := [6]) (by kernel_rfl) (by simp) ?_
          refine AllReadyH.cons rfl (fun K hK => ?_) AllReadyH.nil
          refine step_append_sl rfl (.tmp 27) (.tmp 29) 111 rfl w3.heap.size 119 Try.underlying111 info_task rfl (by omega) rfl HE.out rfl (by exact sl_heap HL.out) (by simp; exact ⟨rfl, rfl⟩) (by unfold maxLen; omega) (by omega) hk.size ?_
          intro v6 w6 ho6 hb6 hsz6 hk6
          obtain ⟨A6, c6, rfl, _⟩ := Sl.of_own ho6
          replace hk := hk.trans hb6
          have HO6 := hid ho6
          clear hb6 hsz6 hk6 ho6 HE HL
          simp only [List.getElem_toArray, List.getElem_cons_succ, List.getElem_cons_zero]
          refine hK.out _ _ ?_ (fun hHeld2 => ?_)
          focus
            exact hS _ hk
          clear hHeld
          have hHeld := hHeld2
          clear hHeld2 hK K
          try simp only [List.getElem_toArray, List.getElem_cons_succ, List.getElem_cons_zero, Act.put, List.setIfInBounds_toArray, List.set_cons_zero, List.set_cons_succ]
          refine wpAnyH_take (i := 7) (v := ?_) rfl (by kernel_rfl) (by kernel_rfl) (by kernel_rfl) (fun _ _ _ h => h) (Or.inl ⟨by rfl, ?_⟩) (by exact hS _ hk) ?_
          rotate_left
          focus
            intro U hU
            try dsimp only at hU
            go_simp
            try (with_reducible rfl)
          simp only [List.getElem_toArray, List.getElem_cons_succ, List.getElem_cons_zero, Act.put, List.setIfInBounds_toArray, List.set_cons_zero, List.set_cons_succ]
          refine wpAnyH_ready (rs := [8]) (by kernel_rfl) (by simp) ?_
          refine AllReadyH.cons rfl (fun K hK => ?_) AllReadyH.nil
          obtain ⟨_, f0, f1, f2, f3⟩ := four_cells (keep0 hn3 hk)
          simp only [List.getElem_toArray, List.getElem_cons_succ, List.getElem_cons_zero]
          go_simp
          refine hK.out _ _ ?_ (fun hHeld2 => ?_)
          focus
            exact ⟨⟨(two_cells ((Below.heap_setCell _ _ _ _ (show W.heap.size + 1 ≠ W.heap.size by omega)).trans (keep0 hy3 hk))).1, (two_cells ((Below.heap_setCell _ _ _ _ (show W.heap.size + 1 ≠ W.heap.size by omega)).trans (keep0 hy3 hk))).2.1⟩, (HB3.out.trans (hk.mono HB3.out.size)).setCell (p := ⟨W.heap.size, 2, none⟩) (Nat.le_refl _) _⟩
          clear hHeld
          have hHeld := hHeld2
          clear hHeld2 hK K
          try simp only [List.getElem_toArray, List.getElem_cons_succ, List.getElem_cons_zero, Act.put, List.setIfInBounds_toArray, List.set_cons_zero, List.set_cons_succ]
          refine wpAnyH_done (by kernel_rfl) ?_ _
          clear hHeld f0 f1 f2 f3
          go_wp2_with fail
          go_meet
          refine ⟨A6, c6, ?_, (Below.heap_setCell _ _ _ _ (show W.heap.size + 2 ≠ W.heap.size by omega)).trans (keep0 hz3 hk), ⟨own_setOld HO6.out _ _ (lt_of_block hn3), own_setOld (own_keep HD.out hk) _ _ HNB.out⟩, (HB3.out.trans (hk.mono HB3.out.size)).setCell (p := ⟨W.heap.size, 2, none⟩) (Nat.le_refl _) _⟩
          rw [heap_setCell_same _ _ _ _ _ _ (keep0 hn3 hk)]
          simp
      · skip
        have hbs : Below (World.heap k0).size k0 (World.alloc k0 (.cells #[.int .i64 j, .int .i64 x] 119)) := (Below.refl _ _).alloc (Nat.le_refl _) _
        have HL : Hid ((World.alloc k0 (.cells #[.int .i64 j, .int .i64 x] 119)).heap[(World.heap k0).size]? = some (.cells #[.int .i64 j, .int .i64 x] 119 (0, 0))) := hid (heap_alloc_new _ _)
        have HXL : Hid (w3.heap.size ≤ (World.heap k0).size) := hid hk.size
        replace hk := hk.trans (hbs.mono hk.size)
        clear hbs
        simp only [List.getElem_toArray, List.getElem_cons_succ, List.getElem_cons_zero]
        go_simp
        refine hK.out _ _ ?_ (fun hHeld2 => ?_)
        focus
          exact hS _ hk
        clear hHeld
        have hHeld := hHeld2
        clear hHeld2 hK K
        try simp only [List.getElem_toArray, List.getElem_cons_succ, List.getElem_cons_zero, Act.put, List.setIfInBounds_toArray, List.set_cons_zero, List.set_cons_succ]
        generalize (World.alloc k0 (.cells #[.int .i64 j, .int .i64 x] 119)) = k13 at *
        generalize (World.heap k0).size = XL at *
        refine wpAnyH_ready (rs := [0]) (by kernel_rfl) (by simp) ?_
        refine (AllReadyH.cons rfl (fun K hK => ?_) AllReadyH.nil)
        have hbs : Below (World.heap k13).size k13 (World.alloc k13 (.cells #[] 119)) := (Below.refl _ _).alloc (Nat.le_refl _) _
        have HE := hid (own_mono (own_empty k13 119 2) hk.size)
        have HNE : Hid (XL ≠ (World.heap k13).size) := hid (Nat.ne_of_lt (lt_of_block HL.out))
        replace HL := hid (keep0 HL.out hbs)
        replace hk := hk.trans (hbs.mono hk.size)
        clear hbs
        simp only [List.getElem_toArray, List.getElem_cons_succ, List.getElem_cons_zero]
        go_simp
        refine hK.out _ _ ?_ (fun hHeld2 => ?_)
        focus
          exact hS _ hk
        clear hHeld
        have hHeld := hHeld2
        clear hHeld2 hK K
        try simp only [List.getElem_toArray, List.getElem_cons_succ, List.getElem_cons_zero, Act.put, List.setIfInBounds_toArray, List.set_cons_zero, List.set_cons_succ]
        generalize (World.alloc k13 (.cells #[] 119)) = k14 at *
        generalize (World.heap k13).size = XE at *
        refine wpAnyH_ready (rs := [3]) (by kernel_rfl) (by simp) ?_
        refine (AllReadyH.cons rfl (fun K hK => ?_) AllReadyH.nil)
        refine step_append_sl rfl (.tmp 24) (.tmp 26) 111 rfl w3.heap.size 119 Try.underlying111 info_task rfl (by omega) rfl HE.out rfl (HSO.out _ (HB3.out.trans (hk.mono HB3.out.size))) (pcells_one _) (by unfold maxLen; omega) (by omega) hk.size ?_
        intro vk15 k15 ho5 hb5 hsz5 hk5
        simp only [Nat.zero_add, List.nil_append] at ho5
        obtain ⟨A5, c5, rfl, _⟩ := Sl.of_own ho5
        replace HL := hid ((hk5 XL HXL.out (lt_of_block HL.out) (fun e => HNE.out (Option.some.inj e).symm)).trans HL.out)
        clear HE
        have HE := hid ho5
        replace hk := hk.trans hb5
        clear hb5 hsz5 hk5 ho5
        simp only [List.getElem_toArray, List.getElem_cons_succ, List.getElem_cons_zero]
        refine hK.out _ _ ?_ (fun hHeld2 => ?_)
        focus
          exact hS _ hk
        clear hHeld
        have hHeld := hHeld2
        clear hHeld2 hK K
        try simp only [List.getElem_toArray, List.getElem_cons_succ, List.getElem_cons_zero, Act.put, List.setIfInBounds_toArray, List.set_cons_zero, List.set_cons_succ]
        refine wpAnyH_ready (rs := [6]) (by kernel_rfl) (by simp) ?_
        refine AllReadyH.cons rfl (fun K hK => ?_) AllReadyH.nil
        refine step_append_sl rfl (.tmp 27) (.tmp 29) 111 rfl w3.heap.size 119 Try.underlying111 info_task rfl (by omega) rfl HE.out rfl (by exact sl_heap HL.out) (by simp; exact ⟨rfl, rfl⟩) (by unfold maxLen; omega) (by omega) hk.size ?_
        intro v6 w6 ho6 hb6 hsz6 hk6
        obtain ⟨A6, c6, rfl, _⟩ := Sl.of_own ho6
        replace hk := hk.trans hb6
        have HO6 := hid ho6
        clear hb6 hsz6 hk6 ho6 HE HL
        simp only [List.getElem_toArray, List.getElem_cons_succ, List.getElem_cons_zero]
        refine hK.out _ _ ?_ (fun hHeld2 => ?_)
        focus
          exact hS _ hk
        clear hHeld
        have hHeld := hHeld2
        clear hHeld2 hK K
        try simp only [List.getElem_toArray, List.getElem_cons_succ, List.getElem_cons_zero, Act.put, List.setIfInBounds_toArray, List.set_cons_zero, List.set_cons_succ]
        refine wpAnyH_take (i := 7) (v := ?_) rfl (by kernel_rfl) (by kernel_rfl) (by kernel_rfl) (fun _ _ _ h => h) (Or.inl ⟨by rfl, ?_⟩) (by exact hS _ hk) ?_
        rotate_left
        focus
          intro U hU
          try dsimp only at hU
          go_simp
          try (with_reducible rfl)
        simp only [List.getElem_toArray, List.getElem_cons_succ, List.getElem_cons_zero, Act.put, List.setIfInBounds_toArray, List.set_cons_zero, List.set_cons_succ]
        refine wpAnyH_ready (rs := [8]) (by kernel_rfl) (by simp) ?_
        refine AllReadyH.cons rfl (fun K hK => ?_) AllReadyH.nil
        obtain ⟨_, f0, f1, f2, f3⟩ := four_cells (keep0 hn3 hk)
        simp only [List.getElem_toArray, List.getElem_cons_succ, List.getElem_cons_zero]
        go_simp
        refine hK.out _ _ ?_ (fun hHeld2 => ?_)
        focus
          exact ⟨⟨(two_cells ((Below.heap_setCell _ _ _ _ (show W.heap.size + 1 ≠ W.heap.size by omega)).trans (keep0 hy3 hk))).1, (two_cells ((Below.heap_setCell _ _ _ _ (show W.heap.size + 1 ≠ W.heap.size by omega)).trans (keep0 hy3 hk))).2.1⟩, (HB3.out.trans (hk.mono HB3.out.size)).setCell (p := ⟨W.heap.size, 2, none⟩) (Nat.le_refl _) _⟩
        clear hHeld
        have hHeld := hHeld2
        clear hHeld2 hK K
        try simp only [List.getElem_toArray, List.getElem_cons_succ, List.getElem_cons_zero, Act.put, List.setIfInBounds_toArray, List.set_cons_zero, List.set_cons_succ]
        refine wpAnyH_done (by kernel_rfl) ?_ _
        clear hHeld f0 f1 f2 f3
        go_wp2_with fail
        go_meet
        refine ⟨A6, c6, ?_, (Below.heap_setCell _ _ _ _ (show W.heap.size + 2 ≠ W.heap.size by omega)).trans (keep0 hz3 hk), ⟨own_setOld HO6.out _ _ (lt_of_block hn3), own_setOld (own_keep HD.out hk) _ _ HNB.out⟩, (HB3.out.trans (hk.mono HB3.out.size)).setCell (p := ⟨W.heap.size, 2, none⟩) (Nat.le_refl _) _⟩
        rw [heap_setCell_same _ _ _ _ _ _ (keep0 hn3 hk)]
        simp
    · skip
      have hbs : Below (World.heap k0).size k0 (World.alloc k0 (.cells #[.int .i64 j, .int .i64 x] 119)) := (Below.refl _ _).alloc (Nat.le_refl _) _
      have HL : Hid ((World.alloc k0 (.cells #[.int .i64 j, .int .i64 x] 119)).heap[(World.heap k0).size]? = some (.cells #[.int .i64 j, .int .i64 x] 119 (0, 0))) := hid (heap_alloc_new _ _)
      have HXL : Hid (w3.heap.size ≤ (World.heap k0).size) := hid hk.size
      replace hk := hk.trans (hbs.mono hk.size)
      clear hbs
      simp only [List.getElem_toArray, List.getElem_cons_succ, List.getElem_cons_zero]
      go_simp
      refine hK.out _ _ ?_ (fun hHeld2 => ?_)
      focus
        exact hS _ hk
      clear hHeld
      have hHeld := hHeld2
      clear hHeld2 hK K
      try simp only [List.getElem_toArray, List.getElem_cons_succ, List.getElem_cons_zero, Act.put, List.setIfInBounds_toArray, List.set_cons_zero, List.set_cons_succ]
      generalize (World.alloc k0 (.cells #[.int .i64 j, .int .i64 x] 119)) = k16 at *
      generalize (World.heap k0).size = XL at *
      refine wpAnyH_ready (rs := [0, 2]) (by kernel_rfl) (by simp) ?_
      refine (AllReadyH.cons rfl (fun K hK => ?_) (AllReadyH.cons rfl (fun K hK => ?_) AllReadyH.nil))
      · skip
        have hbs : Below (World.heap k16).size k16 (World.alloc k16 (.cells #[] 119)) := (Below.refl _ _).alloc (Nat.le_refl _) _
        have HE := hid (own_mono (own_empty k16 119 2) hk.size)
        have HNE : Hid (XL ≠ (World.heap k16).size) := hid (Nat.ne_of_lt (lt_of_block HL.out))
        replace HL := hid (keep0 HL.out hbs)
        replace hk := hk.trans (hbs.mono hk.size)
        clear hbs
        simp only [List.getElem_toArray, List.getElem_cons_succ, List.getElem_cons_zero]
        go_simp
        refine hK.out _ _ ?_ (fun hHeld2 => ?_)
        focus
          exact hS _ hk
        clear hHeld
        have hHeld := hHeld2
        clear hHeld2 hK K
        try simp only [List.getElem_toArray, List.getElem_cons_succ, List.getElem_cons_zero, Act.put, List.setIfInBounds_toArray, List.set_cons_zero, List.set_cons_succ]
        generalize (World.alloc k16 (.cells #[] 119)) = k17 at *
        generalize (World.heap k16).size = XE at *
        refine wpAnyH_ready (rs := [2]) (by kernel_rfl) (by simp) ?_
        refine (AllReadyH.cons rfl (fun K hK => ?_) AllReadyH.nil)
        obtain ⟨⟨p0, p1, p2, p3⟩, _⟩ := four_cells (keep0 hn3 hk)
        simp only [List.getElem_toArray, List.getElem_cons_succ, List.getElem_cons_zero]
        go_simp
        refine hK.out _ _ ?_ (fun hHeld2 => ?_)
        focus
          exact hS _ hk
        clear hHeld
        have hHeld := hHeld2
        clear hHeld2 hK K
        try simp only [List.getElem_toArray, List.getElem_cons_succ, List.getElem_cons_zero, Act.put, List.setIfInBounds_toArray, List.set_cons_zero, List.set_cons_succ]
        clear p0 p1 p2 p3
        refine wpAnyH_ready (rs := [3]) (by kernel_rfl) (by simp) ?_
        refine (AllReadyH.cons rfl (fun K hK => ?_) AllReadyH.nil)
        refine step_append_sl rfl (.tmp 24) (.tmp 26) 111 rfl w3.heap.size 119 Try.underlying111 info_task rfl (by omega) rfl HE.out rfl (HSO.out _ (HB3.out.trans (hk.mono HB3.out.size))) (pcells_one _) (by unfold maxLen; omega) (by omega) hk.size ?_
        intro vk18 k18 ho5 hb5 hsz5 hk5
        simp only [Nat.zero_add, List.nil_append] at ho5
        obtain ⟨A5, c5, rfl, _⟩ := Sl.of_own ho5
        replace HL := hid ((hk5 XL HXL.out (lt_of_block HL.out) (fun e => HNE.out (Option.some.inj e).symm)).trans HL.out)
        clear HE
        have HE := hid ho5
        replace hk := hk.trans hb5
        clear hb5 hsz5 hk5 ho5
        simp only [List.getElem_toArray, List.getElem_cons_succ, List.getElem_cons_zero]
        refine hK.out _ _ ?_ (fun hHeld2 => ?_)
        focus
          exact hS _ hk
        clear hHeld
        have hHeld := hHeld2
        clear hHeld2 hK K
        try simp only [List.getElem_toArray, List.getElem_cons_succ, List.getElem_cons_zero, Act.put, List.setIfInBounds_toArray, List.set_cons_zero, List.set_cons_succ]
        refine wpAnyH_ready (rs := [6]) (by kernel_rfl) (by simp) ?_
        refine AllReadyH.cons rfl (fun K hK => ?_) AllReadyH.nil
        refine step_append_sl rfl (.tmp 27) (.tmp 29) 111 rfl w3.heap.size 119 Try.underlying111 info_task rfl (by omega) rfl HE.out rfl (by exact sl_heap HL.out) (by simp; exact ⟨rfl, rfl⟩) (by unfold maxLen; omega) (by omega) hk.size ?_
        intro v6 w6 ho6 hb6 hsz6 hk6
        obtain ⟨A6, c6, rfl, _⟩ := Sl.of_own ho6
        replace hk := hk.trans hb6
        have HO6 := hid ho6
        clear hb6 hsz6 hk6 ho6 HE HL
        simp only [List.getElem_toArray, List.getElem_cons_succ, List.getElem_cons_zero]
        refine hK.out _ _ ?_ (fun hHeld2 => ?_)
        focus
          exact hS _ hk
        clear hHeld
        have hHeld := hHeld2
        clear hHeld2 hK K
        try simp only [List.getElem_toArray, List.getElem_cons_succ, List.getElem_cons_zero, Act.put, List.setIfInBounds_toArray, List.set_cons_zero, List.set_cons_succ]
        refine wpAnyH_take (i := 7) (v := ?_) rfl (by kernel_rfl) (by kernel_rfl) (by kernel_rfl) (fun _ _ _ h => h) (Or.inl ⟨by rfl, ?_⟩) (by exact hS _ hk) ?_
        rotate_left
        focus
          intro U hU
          try dsimp only at hU
          go_simp
          try (with_reducible rfl)
        simp only [List.getElem_toArray, List.getElem_cons_succ, List.getElem_cons_zero, Act.put, List.setIfInBounds_toArray, List.set_cons_zero, List.set_cons_succ]
        refine wpAnyH_ready (rs := [8]) (by kernel_rfl) (by simp) ?_
        refine AllReadyH.cons rfl (fun K hK => ?_) AllReadyH.nil
        obtain ⟨_, f0, f1, f2, f3⟩ := four_cells (keep0 hn3 hk)
        simp only [List.getElem_toArray, List.getElem_cons_succ, List.getElem_cons_zero]
        go_simp
        refine hK.out _ _ ?_ (fun hHeld2 => ?_)
        focus
          exact ⟨⟨(two_cells ((Below.heap_setCell _ _ _ _ (show W.heap.size + 1 ≠ W.heap.size by omega)).trans (keep0 hy3 hk))).1, (two_cells ((Below.heap_setCell _ _ _ _ (show W.heap.size + 1 ≠ W.heap.size by omega)).trans (keep0 hy3 hk))).2.1⟩, (HB3.out.trans (hk.mono HB3.out.size)).setCell (p := ⟨W.heap.size, 2, none⟩) (Nat.le_refl _) _⟩
        clear hHeld
        have hHeld := hHeld2
        clear hHeld2 hK K
        try simp only [List.getElem_toArray, List.getElem_cons_succ, List.getElem_cons_zero, Act.put, List.setIfInBounds_toArray, List.set_cons_zero, List.set_cons_succ]
        refine wpAnyH_done (by kernel_rfl) ?_ _
        clear hHeld f0 f1 f2 f3
        go_wp2_with fail
        go_meet
        refine ⟨A6, c6, ?_, (Below.heap_setCell _ _ _ _ (show W.heap.size + 2 ≠ W.heap.size by omega)).trans (keep0 hz3 hk), ⟨own_setOld HO6.out _ _ (lt_of_block hn3), own_setOld (own_keep HD.out hk) _ _ HNB.out⟩, (HB3.out.trans (hk.mono HB3.out.size)).setCell (p := ⟨W.heap.size, 2, none⟩) (Nat.le_refl _) _⟩
        rw [heap_setCell_same _ _ _ _ _ _ (keep0 hn3 hk)]
        simp
      · skip
        obtain ⟨⟨p0, p1, p2, p3⟩, _⟩ := four_cells (keep0 hn3 hk)
        simp only [List.getElem_toArray, List.getElem_cons_succ, List.getElem_cons_zero]
        go_simp
        refine hK.out _ _ ?_ (fun hHeld2 => ?_)
        focus
          exact hS _ hk
        clear hHeld
        have hHeld := hHeld2
        clear hHeld2 hK K
        try simp only [List.getElem_toArray, List.getElem_cons_succ, List.getElem_cons_zero, Act.put, List.setIfInBounds_toArray, List.set_cons_zero, List.set_cons_succ]
        clear p0 p1 p2 p3
        refine wpAnyH_ready (rs := [0]) (by kernel_rfl) (by simp) ?_
        refine (AllReadyH.cons rfl (fun K hK => ?_) AllReadyH.nil)
        have hbs : Below (World.heap k16).size k16 (World.alloc k16 (.cells #[] 119)) := (Below.refl _ _).alloc (Nat.le_refl _) _
        have HE := hid (own_mono (own_empty k16 119 2) hk.size)
        have HNE : Hid (XL ≠ (World.heap k16).size) := hid (Nat.ne_of_lt (lt_of_block HL.out))
        replace HL := hid (keep0 HL.out hbs)
        replace hk := hk.trans (hbs.mono hk.size)
        clear hbs
        simp only [List.getElem_toArray, List.getElem_cons_succ, List.getElem_cons_zero]
        go_simp
        refine hK.out _ _ ?_ (fun hHeld2 => ?_)
        focus
          exact hS _ hk
        clear hHeld
        have hHeld := hHeld2
        clear hHeld2 hK K
        try simp only [List.getElem_toArray, List.getElem_cons_succ, List.getElem_cons_zero, Act.put, List.setIfInBounds_toArray, List.set_cons_zero, List.set_cons_succ]
        generalize (World.alloc k16 (.cells #[] 119)) = k19 at *
        generalize (World.heap k16).size = XE at *
        refine wpAnyH_ready (rs := [3]) (by kernel_rfl) (by simp) ?_
        refine (AllReadyH.cons rfl (fun K hK => ?_) AllReadyH.nil)
        refine step_append_sl rfl (.tmp 24) (.tmp 26) 111 rfl w3.heap.size 119 Try.underlying111 info_task rfl (by omega) rfl HE.out rfl (HSO.out _ (HB3.out.trans (hk.mono HB3.out.size))) (pcells_one _) (by unfold maxLen; omega) (by omega) hk.size ?_
        intro vk20 k20 ho5 hb5 hsz5 hk5
        simp only [Nat.zero_add, List.nil_append] at ho5
        obtain ⟨A5, c5, rfl, _⟩ := Sl.of_own ho5
        replace HL := hid ((hk5 XL HXL.out (lt_of_block HL.out) (fun e => HNE.out (Option.some.inj e).symm)).trans HL.out)
        clear HE
        have HE := hid ho5
        replace hk := hk.trans hb5
        clear hb5 hsz5 hk5 ho5
        simp only [List.getElem_toArray, List.getElem_cons_succ, List.getElem_cons_zero]
        refine hK.out _ _ ?_ (fun hHeld2 => ?_)
        focus
          exact hS _ hk
        clear hHeld
        have hHeld := hHeld2
        clear hHeld2 hK K
        try simp only [List.getElem_toArray, List.getElem_cons_succ, List.getElem_cons_zero, Act.put, List.setIfInBounds_toArray, List.set_cons_zero, List.set_cons_succ]
        refine wpAnyH_ready (rs := [6]) (by kernel_rfl) (by simp) ?_
        refine AllReadyH.cons rfl (fun K hK => ?_) AllReadyH.nil
        refine step_append_sl rfl (.tmp 27) (.tmp 29) 111 rfl w3.heap.size 119 Try.underlying111 info_task rfl (by omega) rfl HE.out rfl (by exact sl_heap HL.out) (by simp; exact ⟨rfl, rfl⟩) (by unfold maxLen; omega) (by omega) hk.size ?_
        intro v6 w6 ho6 hb6 hsz6 hk6
        obtain ⟨A6, c6, rfl, _⟩ := Sl.of_own ho6
        replace hk := hk.trans hb6
        have HO6 := hid ho6
        clear hb6 hsz6 hk6 ho6 HE HL
        simp only [List.getElem_toArray, List.getElem_cons_succ, List.getElem_cons_zero]
        refine hK.out _ _ ?_ (fun hHeld2 => ?_)
        focus
          exact hS _ hk
        clear hHeld
        have hHeld := hHeld2
        clear hHeld2 hK K
        try simp only [List.getElem_toArray, List.getElem_cons_succ, List.getElem_cons_zero, Act.put, List.setIfInBounds_toArray, List.set_cons_zero, List.set_cons_succ]
        refine wpAnyH_take (i := 7) (v := ?_) rfl (by kernel_rfl) (by kernel_rfl) (by kernel_rfl) (fun _ _ _ h => h) (Or.inl ⟨by rfl, ?_⟩) (by exact hS _ hk) ?_
        rotate_left
        focus
          intro U hU
          try dsimp only at hU
          go_simp
          try (with_reducible rfl)
        simp only [List.getElem_toArray, List.getElem_cons_succ, List.getElem_cons_zero, Act.put, List.setIfInBounds_toArray, List.set_cons_zero, List.set_cons_succ]
        refine wpAnyH_ready (rs := [8]) (by kernel_rfl) (by simp) ?_
        refine AllReadyH.cons rfl (fun K hK => ?_) AllReadyH.nil
        obtain ⟨_, f0, f1, f2, f3⟩ := four_cells (keep0 hn3 hk)
        simp only [List.getElem_toArray, List.getElem_cons_succ, List.getElem_cons_zero]
        go_simp
        refine hK.out _ _ ?_ (fun hHeld2 => ?_)
        focus
          exact ⟨⟨(two_cells ((Below.heap_setCell _ _ _ _ (show W.heap.size + 1 ≠ W.heap.size by omega)).trans (keep0 hy3 hk))).1, (two_cells ((Below.heap_setCell _ _ _ _ (show W.heap.size + 1 ≠ W.heap.size by omega)).trans (keep0 hy3 hk))).2.1⟩, (HB3.out.trans (hk.mono HB3.out.size)).setCell (p := ⟨W.heap.size, 2, none⟩) (Nat.le_refl _) _⟩
        clear hHeld
        have hHeld := hHeld2
        clear hHeld2 hK K
        try simp only [List.getElem_toArray, List.getElem_cons_succ, List.getElem_cons_zero, Act.put, List.setIfInBounds_toArray, List.set_cons_zero, List.set_cons_succ]
        refine wpAnyH_done (by kernel_rfl) ?_ _
        clear hHeld f0 f1 f2 f3
        go_wp2_with fail
        go_meet
        refine ⟨A6, c6, ?_, (Below.heap_setCell _ _ _ _ (show W.heap.size + 2 ≠ W.heap.size by omega)).trans (keep0 hz3 hk), ⟨own_setOld HO6.out _ _ (lt_of_block hn3), own_setOld (own_keep HD.out hk) _ _ HNB.out⟩, (HB3.out.trans (hk.mono HB3.out.size)).setCell (p := ⟨W.heap.size, 2, none⟩) (Nat.le_refl _) _⟩
        rw [heap_setCell_same _ _ _ _ _ _ (keep0 hn3 hk)]
        simp
  · have hf2 : 0 < f := by omega
    clear hnn2
    have HVV : Hid (av = (⟨n, dropJ a j, o, r ++ [(j, x)]⟩, true)) := hid (by rw [HV.out]; rw [if_neg hf])
    go_upto_region 3 with (fail)
    go_cut [14] from 15 to 22 (fun _ wx => ∃ A6 c6, wx.heap[W.heap.size]? = some (.cells #[.int .i64 n, .slice A1 (dropJ a j).length c1, .slice O o.length co, .slice A6 (r.length + 1) c6] 113 (0, 0)) ∧ wx.heap[W.heap.size + 2]? = some (.cells #[.int .i64 0, .slice none 0 0, .slice none 0 0, .slice none 0 0] 113 (0, 0)) ∧ (wx.ownsRow w3.heap.size 119 2 (.slice A6 (r.length + 1) c6) (r.length + 1) (pcells r ++ [.int .i64 j, .int .i64 x]) ∧ wx.ownsRow B 87 2 (.slice A1 (dropJ a j).length c1) (dropJ a j).length (pcells (dropJ a j))) ∧ Below W.heap.size W wx)
    case rest =>
      obtain ⟨A6, c6, hx, hz, ⟨ho, hd⟩, hb⟩ := hcut
      have hzl := lt_of_block hz3
      clear p0 p1 p2 p3 y0 y1
      obtain ⟨⟨p0, p1, p2, p3⟩, _⟩ := four_cells hx
      obtain ⟨_, g0, g1, g2, g3⟩ := four_cells hz
      obtain ⟨⟨r0, r1, r2, r3⟩, _⟩ := four_cells (put4_heap hz (.int .i64 n) (.slice A1 (dropJ a j).length c1) (.slice O o.length co) (.slice A6 (r.length + 1) c6))
      simp only [put4] at r0 r1 r2 r3
      have hr := put4_below hb (show W.heap.size ≤ W.heap.size + 2 by omega) (.int .i64 n) (.slice A1 (dropJ a j).length c1) (.slice O o.length co) (.slice A6 (r.length + 1) c6)
      have HR0 := hid (sl_own (own_put4 (x0 := .int .i64 n) (x1 := .slice A1 (dropJ a j).length c1) (x2 := .slice O o.length co) (x3 := .slice A6 (r.length + 1) c6) ho hzl))
      have HR1 := hid (sl_own (own_put4 (x0 := .int .i64 n) (x1 := .slice A1 (dropJ a j).length c1) (x2 := .slice O o.length co) (x3 := .slice A6 (r.length + 1) c6) hd HZB.out))
      have HB9 := hid hr
      clear hr hb hx hz
      go_wp2
      exact bodyPost_ret (v := .tuple #[.agg #[.int .i64 n, .slice A1 (dropJ a j).length c1, .slice O o.length co, .slice A6 (r.length + 1) c6], .bool true]) (by simp [results, Try.results86, go_sem, r0, r1, r2, r3]) rfl ⟨A1, O, A6, c1, co, c6, by rw [HVV.out] <;> (first | rfl | simp [svv]), by rw [HVV.out]; exact ⟨HR1.out, (HIN.out _ HB9.out).2.1, by rw [List.length_append, pcells_append]; exact HR0.out⟩, HB9.out⟩
    clear p0 p1 p2 p3 y0 y1 HIN HV HVV
    have hS : ∀ U, Below w3.heap.size w3 U → (fun U => (U.cell? ⟨(W.heap.size + 1), 0, none⟩ = some (.int .i64 j) ∧ U.cell? ⟨(W.heap.size + 1), 1, none⟩ = some (.int .i64 x)) ∧ Below W.heap.size W U) U := fun U hU => ⟨⟨(two_cells (keep0 hy3 hU)).1, (two_cells (keep0 hy3 hU)).2.1⟩, HB3.out.trans (hU.mono HB3.out.size)⟩
    have hk : Below w3.heap.size w3 w3.drew := below_drew (Below.refl _ _)
    refine wp_region_held_drew (S := (fun U => (U.cell? ⟨(W.heap.size + 1), 0, none⟩ = some (.int .i64 j) ∧ U.cell? ⟨(W.heap.size + 1), 1, none⟩ = some (.int .i64 x)) ∧ Below W.heap.size W U)) (by kernel_rfl) (hS _ hk) (fun hHeld => ?_)
    generalize w3.drew = k0 at *
    refine wpAnyH_take (i := 1) (v := ?_) rfl (by kernel_rfl) (by kernel_rfl) (by kernel_rfl) (fun _ _ _ h => h) (Or.inl ⟨by rfl, ?_⟩) (by exact hS _ hk) ?_
    rotate_left
    focus
      intro U hU
      try dsimp only at hU
      go_simp
      try (with_reducible rfl)
    simp only [List.getElem_toArray, List.getElem_cons_succ, List.getElem_cons_zero, Act.put, List.setIfInBounds_toArray, List.set_cons_zero, List.set_cons_succ]
    refine wpAnyH_take (i := 4) (v := ?_) rfl (by kernel_rfl) (by kernel_rfl) (by kernel_rfl) (fun _ _ _ h => h) (Or.inl ⟨by rfl, ?_⟩) (by exact hS _ hk) ?_
    rotate_left
    focus
      intro U hU
      try dsimp only at hU
      go_simp
      try (with_reducible rfl)
    simp only [List.getElem_toArray, List.getElem_cons_succ, List.getElem_cons_zero, Act.put, List.setIfInBounds_toArray, List.set_cons_zero, List.set_cons_succ]
    refine wpAnyH_ready (rs := [0, 2, 5]) (by kernel_rfl) (by simp) ?_
    refine (AllReadyH.cons rfl (fun K hK => ?_) (AllReadyH.cons rfl (fun K hK => ?_) (AllReadyH.cons rfl (fun K hK => ?_) AllReadyH.nil)))
    · skip
      have hbs : Below (World.heap k0).size k0 (World.alloc k0 (.cells #[] 119)) := (Below.refl _ _).alloc (Nat.le_refl _) _
      have HE := hid (own_mono (own_empty k0 119 2) hk.size)
      replace hk := hk.trans (hbs.mono hk.size)
      clear hbs
      simp only [List.getElem_toArray, List.getElem_cons_succ, List.getElem_cons_zero]
      go_simp
      refine hK.out _ _ ?_ (fun hHeld2 => ?_)
      focus
        exact hS _ hk
      clear hHeld
      have hHeld := hHeld2
      clear hHeld2 hK K
      try simp only [List.getElem_toArray, List.getElem_cons_succ, List.getElem_cons_zero, Act.put, List.setIfInBounds_toArray, List.set_cons_zero, List.set_cons_succ]
      generalize (World.alloc k0 (.cells #[] 119)) = k1 at *
      generalize (World.heap k0).size = XE at *
      refine wpAnyH_ready (rs := [2, 5]) (by kernel_rfl) (by simp) ?_
      refine (AllReadyH.cons rfl (fun K hK => ?_) (AllReadyH.cons rfl (fun K hK => ?_) AllReadyH.nil))
      · skip
        obtain ⟨⟨p0, p1, p2, p3⟩, _⟩ := four_cells (keep0 hn3 hk)
        simp only [List.getElem_toArray, List.getElem_cons_succ, List.getElem_cons_zero]
        go_simp
        refine hK.out _ _ ?_ (fun hHeld2 => ?_)
        focus
          exact hS _ hk
        clear hHeld
        have hHeld := hHeld2
        clear hHeld2 hK K
        try simp only [List.getElem_toArray, List.getElem_cons_succ, List.getElem_cons_zero, Act.put, List.setIfInBounds_toArray, List.set_cons_zero, List.set_cons_succ]
        clear p0 p1 p2 p3
        refine wpAnyH_ready (rs := [3, 5]) (by kernel_rfl) (by simp) ?_
        refine (AllReadyH.cons rfl (fun K hK => ?_) (AllReadyH.cons rfl (fun K hK => ?_) AllReadyH.nil))
        · skip
          refine step_append_sl rfl (.tmp 15) (.tmp 17) 111 rfl w3.heap.size 119 Try.underlying111 info_task rfl (by omega) rfl HE.out rfl (HSR.out _ (HB3.out.trans (hk.mono HB3.out.size))) (pcells_one _) (by unfold maxLen; omega) (by omega) hk.size ?_
          intro vk2 k2 ho5 hb5 hsz5 hk5
          simp only [Nat.zero_add, List.nil_append] at ho5
          obtain ⟨A5, c5, rfl, _⟩ := Sl.of_own ho5
          clear HE
          have HE := hid ho5
          replace hk := hk.trans hb5
          clear hb5 hsz5 hk5 ho5
          simp only [List.getElem_toArray, List.getElem_cons_succ, List.getElem_cons_zero]
          refine hK.out _ _ ?_ (fun hHeld2 => ?_)
          focus
            exact hS _ hk
          clear hHeld
          have hHeld := hHeld2
          clear hHeld2 hK K
          try simp only [List.getElem_toArray, List.getElem_cons_succ, List.getElem_cons_zero, Act.put, List.setIfInBounds_toArray, List.set_cons_zero, List.set_cons_succ]
          refine wpAnyH_ready (rs := [5]) (by kernel_rfl) (by simp) ?_
          refine (AllReadyH.cons rfl (fun K hK => ?_) AllReadyH.nil)
          have hbs : Below (World.heap k2).size k2 (World.alloc k2 (.cells #[.int .i64 j, .int .i64 x] 119)) := (Below.refl _ _).alloc (Nat.le_refl _) _
          have HL : Hid ((World.alloc k2 (.cells #[.int .i64 j, .int .i64 x] 119)).heap[(World.heap k2).size]? = some (.cells #[.int .i64 j, .int .i64 x] 119 (0, 0))) := hid (heap_alloc_new _ _)
          have HXL : Hid (w3.heap.size ≤ (World.heap k2).size) := hid hk.size
          replace HE := hid (own_keep HE.out hbs)
          replace hk := hk.trans (hbs.mono hk.size)
          clear hbs
          simp only [List.getElem_toArray, List.getElem_cons_succ, List.getElem_cons_zero]
          go_simp
          refine hK.out _ _ ?_ (fun hHeld2 => ?_)
          focus
            exact hS _ hk
          clear hHeld
          have hHeld := hHeld2
          clear hHeld2 hK K
          try simp only [List.getElem_toArray, List.getElem_cons_succ, List.getElem_cons_zero, Act.put, List.setIfInBounds_toArray, List.set_cons_zero, List.set_cons_succ]
          generalize (World.alloc k2 (.cells #[.int .i64 j, .int .i64 x] 119)) = k3 at *
          generalize (World.heap k2).size = XL at *
          refine wpAnyH_ready (rs := [6]) (by kernel_rfl) (by simp) ?_
          refine AllReadyH.cons rfl (fun K hK => ?_) AllReadyH.nil
          refine step_append_sl rfl (.tmp 18) (.tmp 20) 111 rfl w3.heap.size 119 Try.underlying111 info_task rfl (by omega) rfl HE.out rfl (by exact sl_heap HL.out) (by simp; exact ⟨rfl, rfl⟩) (by unfold maxLen; omega) (by omega) hk.size ?_
          intro v6 w6 ho6 hb6 hsz6 hk6
          obtain ⟨A6, c6, rfl, _⟩ := Sl.of_own ho6
          replace hk := hk.trans hb6
          have HO6 := hid ho6
          clear hb6 hsz6 hk6 ho6 HE HL
          simp only [List.getElem_toArray, List.getElem_cons_succ, List.getElem_cons_zero]
          refine hK.out _ _ ?_ (fun hHeld2 => ?_)
          focus
            exact hS _ hk
          clear hHeld
          have hHeld := hHeld2
          clear hHeld2 hK K
          try simp only [List.getElem_toArray, List.getElem_cons_succ, List.getElem_cons_zero, Act.put, List.setIfInBounds_toArray, List.set_cons_zero, List.set_cons_succ]
          refine wpAnyH_take (i := 7) (v := ?_) rfl (by kernel_rfl) (by kernel_rfl) (by kernel_rfl) (fun _ _ _ h => h) (Or.inl ⟨by rfl, ?_⟩) (by exact hS _ hk) ?_
          rotate_left
          focus
            intro U hU
            try dsimp only at hU
            go_simp
            try (with_reducible rfl)
          simp only [List.getElem_toArray, List.getElem_cons_succ, List.getElem_cons_zero, Act.put, List.setIfInBounds_toArray, List.set_cons_zero, List.set_cons_succ]
          refine wpAnyH_ready (rs := [8]) (by kernel_rfl) (by simp) ?_
          refine AllReadyH.cons rfl (fun K hK => ?_) AllReadyH.nil
          obtain ⟨_, f0, f1, f2, f3⟩ := four_cells (keep0 hn3 hk)
          simp only [List.getElem_toArray, List.getElem_cons_succ, List.getElem_cons_zero]
          go_simp
          refine hK.out _ _ ?_ (fun hHeld2 => ?_)
          focus
            exact ⟨⟨(two_cells ((Below.heap_setCell _ _ _ _ (show W.heap.size + 1 ≠ W.heap.size by omega)).trans (keep0 hy3 hk))).1, (two_cells ((Below.heap_setCell _ _ _ _ (show W.heap.size + 1 ≠ W.heap.size by omega)).trans (keep0 hy3 hk))).2.1⟩, (HB3.out.trans (hk.mono HB3.out.size)).setCell (p := ⟨W.heap.size, 3, none⟩) (Nat.le_refl _) _⟩
          clear hHeld
          have hHeld := hHeld2
          clear hHeld2 hK K
          try simp only [List.getElem_toArray, List.getElem_cons_succ, List.getElem_cons_zero, Act.put, List.setIfInBounds_toArray, List.set_cons_zero, List.set_cons_succ]
          refine wpAnyH_done (by kernel_rfl) ?_ _
          clear hHeld f0 f1 f2 f3
          go_wp2_with fail
          go_meet
          refine ⟨A6, c6, ?_, (Below.heap_setCell _ _ _ _ (show W.heap.size + 2 ≠ W.heap.size by omega)).trans (keep0 hz3 hk), ⟨own_setOld HO6.out _ _ (lt_of_block hn3), own_setOld (own_keep HD.out hk) _ _ HNB.out⟩, (HB3.out.trans (hk.mono HB3.out.size)).setCell (p := ⟨W.heap.size, 3, none⟩) (Nat.le_refl _) _⟩
          rw [heap_setCell_same _ _ _ _ _ _ (keep0 hn3 hk)]
          simp
        · skip
          have hbs : Below (World.heap k1).size k1 (World.alloc k1 (.cells #[.int .i64 j, .int .i64 x] 119)) := (Below.refl _ _).alloc (Nat.le_refl _) _
          have HL : Hid ((World.alloc k1 (.cells #[.int .i64 j, .int .i64 x] 119)).heap[(World.heap k1).size]? = some (.cells #[.int .i64 j, .int .i64 x] 119 (0, 0))) := hid (heap_alloc_new _ _)
          have HXL : Hid (w3.heap.size ≤ (World.heap k1).size) := hid hk.size
          have HNE : Hid ((World.heap k1).size ≠ XE) := hid (Nat.ne_of_gt (own_blk_lt HE.out rfl).1)
          replace HE := hid (own_keep HE.out hbs)
          replace hk := hk.trans (hbs.mono hk.size)
          clear hbs
          simp only [List.getElem_toArray, List.getElem_cons_succ, List.getElem_cons_zero]
          go_simp
          refine hK.out _ _ ?_ (fun hHeld2 => ?_)
          focus
            exact hS _ hk
          clear hHeld
          have hHeld := hHeld2
          clear hHeld2 hK K
          try simp only [List.getElem_toArray, List.getElem_cons_succ, List.getElem_cons_zero, Act.put, List.setIfInBounds_toArray, List.set_cons_zero, List.set_cons_succ]
          generalize (World.alloc k1 (.cells #[.int .i64 j, .int .i64 x] 119)) = k4 at *
          generalize (World.heap k1).size = XL at *
          refine wpAnyH_ready (rs := [3]) (by kernel_rfl) (by simp) ?_
          refine (AllReadyH.cons rfl (fun K hK => ?_) AllReadyH.nil)
          refine step_append_sl rfl (.tmp 15) (.tmp 17) 111 rfl w3.heap.size 119 Try.underlying111 info_task rfl (by omega) rfl HE.out rfl (HSR.out _ (HB3.out.trans (hk.mono HB3.out.size))) (pcells_one _) (by unfold maxLen; omega) (by omega) hk.size ?_
          intro vk5 k5 ho5 hb5 hsz5 hk5
          simp only [Nat.zero_add, List.nil_append] at ho5
          obtain ⟨A5, c5, rfl, _⟩ := Sl.of_own ho5
          replace HL := hid ((hk5 XL HXL.out (lt_of_block HL.out) (fun e => HNE.out (Option.some.inj e).symm)).trans HL.out)
          clear HE
          have HE := hid ho5
          replace hk := hk.trans hb5
          clear hb5 hsz5 hk5 ho5
          simp only [List.getElem_toArray, List.getElem_cons_succ, List.getElem_cons_zero]
          refine hK.out _ _ ?_ (fun hHeld2 => ?_)
          focus
            exact hS _ hk
          clear hHeld
          have hHeld := hHeld2
          clear hHeld2 hK K
          try simp only [List.getElem_toArray, List.getElem_cons_succ, List.getElem_cons_zero, Act.put, List.setIfInBounds_toArray, List.set_cons_zero, List.set_cons_succ]
          refine wpAnyH_ready (rs := [6]) (by kernel_rfl) (by simp) ?_
          refine AllReadyH.cons rfl (fun K hK => ?_) AllReadyH.nil
          refine step_append_sl rfl (.tmp 18) (.tmp 20) 111 rfl w3.heap.size 119 Try.underlying111 info_task rfl (by omega) rfl HE.out rfl (by exact sl_heap HL.out) (by simp; exact ⟨rfl, rfl⟩) (by unfold maxLen; omega) (by omega) hk.size ?_
          intro v6 w6 ho6 hb6 hsz6 hk6
          obtain ⟨A6, c6, rfl, _⟩ := Sl.of_own ho6
          replace hk := hk.trans hb6
          have HO6 := hid ho6
          clear hb6 hsz6 hk6 ho6 HE HL
          simp only [List.getElem_toArray, List.getElem_cons_succ, List.getElem_cons_zero]
          refine hK.out _ _ ?_ (fun hHeld2 => ?_)
          focus
            exact hS _ hk
          clear hHeld
          have hHeld := hHeld2
          clear hHeld2 hK K
          try simp only [List.getElem_toArray, List.getElem_cons_succ, List.getElem_cons_zero, Act.put, List.setIfInBounds_toArray, List.set_cons_zero, List.set_cons_succ]
          refine wpAnyH_take (i := 7) (v := ?_) rfl (by kernel_rfl) (by kernel_rfl) (by kernel_rfl) (fun _ _ _ h => h) (Or.inl ⟨by rfl, ?_⟩) (by exact hS _ hk) ?_
          rotate_left
          focus
            intro U hU
            try dsimp only at hU
            go_simp
            try (with_reducible rfl)
          simp only [List.getElem_toArray, List.getElem_cons_succ, List.getElem_cons_zero, Act.put, List.setIfInBounds_toArray, List.set_cons_zero, List.set_cons_succ]
          refine wpAnyH_ready (rs := [8]) (by kernel_rfl) (by simp) ?_
          refine AllReadyH.cons rfl (fun K hK => ?_) AllReadyH.nil
          obtain ⟨_, f0, f1, f2, f3⟩ := four_cells (keep0 hn3 hk)
          simp only [List.getElem_toArray, List.getElem_cons_succ, List.getElem_cons_zero]
          go_simp
          refine hK.out _ _ ?_ (fun hHeld2 => ?_)
          focus
            exact ⟨⟨(two_cells ((Below.heap_setCell _ _ _ _ (show W.heap.size + 1 ≠ W.heap.size by omega)).trans (keep0 hy3 hk))).1, (two_cells ((Below.heap_setCell _ _ _ _ (show W.heap.size + 1 ≠ W.heap.size by omega)).trans (keep0 hy3 hk))).2.1⟩, (HB3.out.trans (hk.mono HB3.out.size)).setCell (p := ⟨W.heap.size, 3, none⟩) (Nat.le_refl _) _⟩
          clear hHeld
          have hHeld := hHeld2
          clear hHeld2 hK K
          try simp only [List.getElem_toArray, List.getElem_cons_succ, List.getElem_cons_zero, Act.put, List.setIfInBounds_toArray, List.set_cons_zero, List.set_cons_succ]
          refine wpAnyH_done (by kernel_rfl) ?_ _
          clear hHeld f0 f1 f2 f3
          go_wp2_with fail
          go_meet
          refine ⟨A6, c6, ?_, (Below.heap_setCell _ _ _ _ (show W.heap.size + 2 ≠ W.heap.size by omega)).trans (keep0 hz3 hk), ⟨own_setOld HO6.out _ _ (lt_of_block hn3), own_setOld (own_keep HD.out hk) _ _ HNB.out⟩, (HB3.out.trans (hk.mono HB3.out.size)).setCell (p := ⟨W.heap.size, 3, none⟩) (Nat.le_refl _) _⟩
          rw [heap_setCell_same _ _ _ _ _ _ (keep0 hn3 hk)]
          simp
      · skip
        have hbs : Below (World.heap k1).size k1 (World.alloc k1 (.cells #[.int .i64 j, .int .i64 x] 119)) := (Below.refl _ _).alloc (Nat.le_refl _) _
        have HL : Hid ((World.alloc k1 (.cells #[.int .i64 j, .int .i64 x] 119)).heap[(World.heap k1).size]? = some (.cells #[.int .i64 j, .int .i64 x] 119 (0, 0))) := hid (heap_alloc_new _ _)
        have HXL : Hid (w3.heap.size ≤ (World.heap k1).size) := hid hk.size
        have HNE : Hid ((World.heap k1).size ≠ XE) := hid (Nat.ne_of_gt (own_blk_lt HE.out rfl).1)
        replace HE := hid (own_keep HE.out hbs)
        replace hk := hk.trans (hbs.mono hk.size)
        clear hbs
        simp only [List.getElem_toArray, List.getElem_cons_succ, List.getElem_cons_zero]
        go_simp
        refine hK.out _ _ ?_ (fun hHeld2 => ?_)
        focus
          exact hS _ hk
        clear hHeld
        have hHeld := hHeld2
        clear hHeld2 hK K
        try simp only [List.getElem_toArray, List.getElem_cons_succ, List.getElem_cons_zero, Act.put, List.setIfInBounds_toArray, List.set_cons_zero, List.set_cons_succ]
        generalize (World.alloc k1 (.cells #[.int .i64 j, .int .i64 x] 119)) = k6 at *
        generalize (World.heap k1).size = XL at *
        refine wpAnyH_ready (rs := [2]) (by kernel_rfl) (by simp) ?_
        refine (AllReadyH.cons rfl (fun K hK => ?_) AllReadyH.nil)
        obtain ⟨⟨p0, p1, p2, p3⟩, _⟩ := four_cells (keep0 hn3 hk)
        simp only [List.getElem_toArray, List.getElem_cons_succ, List.getElem_cons_zero]
        go_simp
        refine hK.out _ _ ?_ (fun hHeld2 => ?_)
        focus
          exact hS _ hk
        clear hHeld
        have hHeld := hHeld2
        clear hHeld2 hK K
        try simp only [List.getElem_toArray, List.getElem_cons_succ, List.getElem_cons_zero, Act.put, List.setIfInBounds_toArray, List.set_cons_zero, List.set_cons_succ]
        clear p0 p1 p2 p3
        refine wpAnyH_ready (rs := [3]) (by kernel_rfl) (by simp) ?_
        refine (AllReadyH.cons rfl (fun K hK => ?_) AllReadyH.nil)
        refine step_append_sl rfl (.tmp 15) (.tmp 17) 111 rfl w3.heap.size 119 Try.underlying111 info_task rfl (by omega) rfl HE.out rfl (HSR.out _ (HB3.out.trans (hk.mono HB3.out.size))) (pcells_one _) (by unfold maxLen; omega) (by omega) hk.size ?_
        intro vk7 k7 ho5 hb5 hsz5 hk5
        simp only [Nat.zero_add, List.nil_append] at ho5
        obtain ⟨A5, c5, rfl, _⟩ := Sl.of_own ho5
        replace HL := hid ((hk5 XL HXL.out (lt_of_block HL.out) (fun e => HNE.out (Option.some.inj e).symm)).trans HL.out)
        clear HE
        have HE := hid ho5
        replace hk := hk.trans hb5
        clear hb5 hsz5 hk5 ho5
        simp only [List.getElem_toArray, List.getElem_cons_succ, List.getElem_cons_zero]
        refine hK.out _ _ ?_ (fun hHeld2 => ?_)
        focus
          exact hS _ hk
        clear hHeld
        have hHeld := hHeld2
        clear hHeld2 hK K
        try simp only [List.getElem_toArray, List.getElem_cons_succ, List.getElem_cons_zero, Act.put, List.setIfInBounds_toArray, List.set_cons_zero, List.set_cons_succ]
        refine wpAnyH_ready (rs := [6]) (by kernel_rfl) (by simp) ?_
        refine AllReadyH.cons rfl (fun K hK => ?_) AllReadyH.nil
        refine step_append_sl rfl (.tmp 18) (.tmp 20) 111 rfl w3.heap.size 119 Try.underlying111 info_task rfl (by omega) rfl HE.out rfl (by exact sl_heap HL.out) (by simp; exact ⟨rfl, rfl⟩) (by unfold maxLen; omega) (by omega) hk.size ?_
        intro v6 w6 ho6 hb6 hsz6 hk6
        obtain ⟨A6, c6, rfl, _⟩ := Sl.of_own ho6
        replace hk := hk.trans hb6
        have HO6 := hid ho6
        clear hb6 hsz6 hk6 ho6 HE HL
        simp only [List.getElem_toArray, List.getElem_cons_succ, List.getElem_cons_zero]
        refine hK.out _ _ ?_ (fun hHeld2 => ?_)
        focus
          exact hS _ hk
        clear hHeld
        have hHeld := hHeld2
        clear hHeld2 hK K
        try simp only [List.getElem_toArray, List.getElem_cons_succ, List.getElem_cons_zero, Act.put, List.setIfInBounds_toArray, List.set_cons_zero, List.set_cons_succ]
        refine wpAnyH_take (i := 7) (v := ?_) rfl (by kernel_rfl) (by kernel_rfl) (by kernel_rfl) (fun _ _ _ h => h) (Or.inl ⟨by rfl, ?_⟩) (by exact hS _ hk) ?_
        rotate_left
        focus
          intro U hU
          try dsimp only at hU
          go_simp
          try (with_reducible rfl)
        simp only [List.getElem_toArray, List.getElem_cons_succ, List.getElem_cons_zero, Act.put, List.setIfInBounds_toArray, List.set_cons_zero, List.set_cons_succ]
        refine wpAnyH_ready (rs := [8]) (by kernel_rfl) (by simp) ?_
        refine AllReadyH.cons rfl (fun K hK => ?_) AllReadyH.nil
        obtain ⟨_, f0, f1, f2, f3⟩ := four_cells (keep0 hn3 hk)
        simp only [List.getElem_toArray, List.getElem_cons_succ, List.getElem_cons_zero]
        go_simp
        refine hK.out _ _ ?_ (fun hHeld2 => ?_)
        focus
          exact ⟨⟨(two_cells ((Below.heap_setCell _ _ _ _ (show W.heap.size + 1 ≠ W.heap.size by omega)).trans (keep0 hy3 hk))).1, (two_cells ((Below.heap_setCell _ _ _ _ (show W.heap.size + 1 ≠ W.heap.size by omega)).trans (keep0 hy3 hk))).2.1⟩, (HB3.out.trans (hk.mono HB3.out.size)).setCell (p := ⟨W.heap.size, 3, none⟩) (Nat.le_refl _) _⟩
        clear hHeld
        have hHeld := hHeld2
        clear hHeld2 hK K
        try simp only [List.getElem_toArray, List.getElem_cons_succ, List.getElem_cons_zero, Act.put, List.setIfInBounds_toArray, List.set_cons_zero, List.set_cons_succ]
        refine wpAnyH_done (by kernel_rfl) ?_ _
        clear hHeld f0 f1 f2 f3
        go_wp2_with fail
        go_meet
        refine ⟨A6, c6, ?_, (Below.heap_setCell _ _ _ _ (show W.heap.size + 2 ≠ W.heap.size by omega)).trans (keep0 hz3 hk), ⟨own_setOld HO6.out _ _ (lt_of_block hn3), own_setOld (own_keep HD.out hk) _ _ HNB.out⟩, (HB3.out.trans (hk.mono HB3.out.size)).setCell (p := ⟨W.heap.size, 3, none⟩) (Nat.le_refl _) _⟩
        rw [heap_setCell_same _ _ _ _ _ _ (keep0 hn3 hk)]
        simp
    · skip
      obtain ⟨⟨p0, p1, p2, p3⟩, _⟩ := four_cells (keep0 hn3 hk)
      simp only [List.getElem_toArray, List.getElem_cons_succ, List.getElem_cons_zero]
      go_simp
      refine hK.out _ _ ?_ (fun hHeld2 => ?_)
      focus
        exact hS _ hk
      clear hHeld
      have hHeld := hHeld2
      clear hHeld2 hK K
      try simp only [List.getElem_toArray, List.getElem_cons_succ, List.getElem_cons_zero, Act.put, List.setIfInBounds_toArray, List.set_cons_zero, List.set_cons_succ]
      clear p0 p1 p2 p3
      refine wpAnyH_ready (rs := [0, 5]) (by kernel_rfl) (by simp) ?_
      refine (AllReadyH.cons rfl (fun K hK => ?_) (AllReadyH.cons rfl (fun K hK => ?_) AllReadyH.nil))
      · skip
        have hbs : Below (World.heap k0).size k0 (World.alloc k0 (.cells #[] 119)) := (Below.refl _ _).alloc (Nat.le_refl _) _
        have HE := hid (own_mono (own_empty k0 119 2) hk.size)
        replace hk := hk.trans (hbs.mono hk.size)
        clear hbs
        simp only [List.getElem_toArray, List.getElem_cons_succ, List.getElem_cons_zero]
        go_simp
        refine hK.out _ _ ?_ (fun hHeld2 => ?_)
        focus
          exact hS _ hk
        clear hHeld
        have hHeld := hHeld2
        clear hHeld2 hK K
        try simp only [List.getElem_toArray, List.getElem_cons_succ, List.getElem_cons_zero, Act.put, List.setIfInBounds_toArray, List.set_cons_zero, List.set_cons_succ]
        generalize (World.alloc k0 (.cells #[] 119)) = k8 at *
        generalize (World.heap k0).size = XE at *
        refine wpAnyH_ready (rs := [3, 5]) (by kernel_rfl) (by simp) ?_
        refine (AllReadyH.cons rfl (fun K hK => ?_) (AllReadyH.cons rfl (fun K hK => ?_) AllReadyH.nil))
        · skip
          refine step_append_sl rfl (.tmp 15) (.tmp 17) 111 rfl w3.heap.size 119 Try.underlying111 info_task rfl (by omega) rfl HE.out rfl (HSR.out _ (HB3.out.trans (hk.mono HB3.out.size))) (pcells_one _) (by unfold maxLen; omega) (by omega) hk.size ?_
          intro vk9 k9 ho5 hb5 hsz5 hk5
          simp only [Nat.zero_add, List.nil_append] at ho5
          obtain ⟨A5, c5, rfl, _⟩ := Sl.of_own ho5
          clear HE
          have HE := hid ho5
          replace hk := hk.trans hb5
          clear hb5 hsz5 hk5 ho5
          simp only [List.getElem_toArray, List.getElem_cons_succ, List.getElem_cons_zero]
          refine hK.out _ _ ?_ (fun hHeld2 => ?_)
          focus
            exact hS _ hk
          clear hHeld
          have hHeld := hHeld2
          clear hHeld2 hK K
          try simp only [List.getElem_toArray, List.getElem_cons_succ, List.getElem_cons_zero, Act.put, List.setIfInBounds_toArray, List.set_cons_zero, List.set_cons_succ]
          refine wpAnyH_ready (rs := [5]) (by kernel_rfl) (by simp) ?_
          refine (AllReadyH.cons rfl (fun K hK => ?_) AllReadyH.nil)
          have hbs : Below (World.heap k9).size k9 (World.alloc k9 (.cells #[.int .i64 j, .int .i64 x] 119)) := (Below.refl _ _).alloc (Nat.le_refl _) _
          have HL : Hid ((World.alloc k9 (.cells #[.int .i64 j, .int .i64 x] 119)).heap[(World.heap k9).size]? = some (.cells #[.int .i64 j, .int .i64 x] 119 (0, 0))) := hid (heap_alloc_new _ _)
          have HXL : Hid (w3.heap.size ≤ (World.heap k9).size) := hid hk.size
          replace HE := hid (own_keep HE.out hbs)
          replace hk := hk.trans (hbs.mono hk.size)
          clear hbs
          simp only [List.getElem_toArray, List.getElem_cons_succ, List.getElem_cons_zero]
          go_simp
          refine hK.out _ _ ?_ (fun hHeld2 => ?_)
          focus
            exact hS _ hk
          clear hHeld
          have hHeld := hHeld2
          clear hHeld2 hK K
          try simp only [List.getElem_toArray, List.getElem_cons_succ, List.getElem_cons_zero, Act.put, List.setIfInBounds_toArray, List.set_cons_zero, List.set_cons_succ]
          generalize (World.alloc k9 (.cells #[.int .i64 j, .int .i64 x] 119)) = k10 at *
          generalize (World.heap k9).size = XL at *
          refine wpAnyH_ready (rs := [6]) (by kernel_rfl) (by simp) ?_
          refine AllReadyH.cons rfl (fun K hK => ?_) AllReadyH.nil
          refine step_append_sl rfl (.tmp 18) (.tmp 20) 111 rfl w3.heap.size 119 Try.underlying111 info_task rfl (by omega) rfl HE.out rfl (by exact sl_heap HL.out) (by simp; exact ⟨rfl, rfl⟩) (by unfold maxLen; omega) (by omega) hk.size ?_
          intro v6 w6 ho6 hb6 hsz6 hk6
          obtain ⟨A6, c6, rfl, _⟩ := Sl.of_own ho6
          replace hk := hk.trans hb6
          have HO6 := hid ho6
          clear hb6 hsz6 hk6 ho6 HE HL
          simp only [List.getElem_toArray, List.getElem_cons_succ, List.getElem_cons_zero]
          refine hK.out _ _ ?_ (fun hHeld2 => ?_)
          focus
            exact hS _ hk
          clear hHeld
          have hHeld := hHeld2
          clear hHeld2 hK K
          try simp only [List.getElem_toArray, List.getElem_cons_succ, List.getElem_cons_zero, Act.put, List.setIfInBounds_toArray, List.set_cons_zero, List.set_cons_succ]
          refine wpAnyH_take (i := 7) (v := ?_) rfl (by kernel_rfl) (by kernel_rfl) (by kernel_rfl) (fun _ _ _ h => h) (Or.inl ⟨by rfl, ?_⟩) (by exact hS _ hk) ?_
          rotate_left
          focus
            intro U hU
            try dsimp only at hU
            go_simp
            try (with_reducible rfl)
          simp only [List.getElem_toArray, List.getElem_cons_succ, List.getElem_cons_zero, Act.put, List.setIfInBounds_toArray, List.set_cons_zero, List.set_cons_succ]
          refine wpAnyH_ready (rs := [8]) (by kernel_rfl) (by simp) ?_
          refine AllReadyH.cons rfl (fun K hK => ?_) AllReadyH.nil
          obtain ⟨_, f0, f1, f2, f3⟩ := four_cells (keep0 hn3 hk)
          simp only [List.getElem_toArray, List.getElem_cons_succ, List.getElem_cons_zero]
          go_simp
          refine hK.out _ _ ?_ (fun hHeld2 => ?_)
          focus
            exact ⟨⟨(two_cells ((Below.heap_setCell _ _ _ _ (show W.heap.size + 1 ≠ W.heap.size by omega)).trans (keep0 hy3 hk))).1, (two_cells ((Below.heap_setCell _ _ _ _ (show W.heap.size + 1 ≠ W.heap.size by omega)).trans (keep0 hy3 hk))).2.1⟩, (HB3.out.trans (hk.mono HB3.out.size)).setCell (p := ⟨W.heap.size, 3, none⟩) (Nat.le_refl _) _⟩
          clear hHeld
          have hHeld := hHeld2
          clear hHeld2 hK K
          try simp only [List.getElem_toArray, List.getElem_cons_succ, List.getElem_cons_zero, Act.put, List.setIfInBounds_toArray, List.set_cons_zero, List.set_cons_succ]
          refine wpAnyH_done (by kernel_rfl) ?_ _
          clear hHeld f0 f1 f2 f3
          go_wp2_with fail
          go_meet
          refine ⟨A6, c6, ?_, (Below.heap_setCell _ _ _ _ (show W.heap.size + 2 ≠ W.heap.size by omega)).trans (keep0 hz3 hk), ⟨own_setOld HO6.out _ _ (lt_of_block hn3), own_setOld (own_keep HD.out hk) _ _ HNB.out⟩, (HB3.out.trans (hk.mono HB3.out.size)).setCell (p := ⟨W.heap.size, 3, none⟩) (Nat.le_refl _) _⟩
          rw [heap_setCell_same _ _ _ _ _ _ (keep0 hn3 hk)]
          simp
        · skip
          have hbs : Below (World.heap k8).size k8 (World.alloc k8 (.cells #[.int .i64 j, .int .i64 x] 119)) := (Below.refl _ _).alloc (Nat.le_refl _) _
          have HL : Hid ((World.alloc k8 (.cells #[.int .i64 j, .int .i64 x] 119)).heap[(World.heap k8).size]? = some (.cells #[.int .i64 j, .int .i64 x] 119 (0, 0))) := hid (heap_alloc_new _ _)
          have HXL : Hid (w3.heap.size ≤ (World.heap k8).size) := hid hk.size
          have HNE : Hid ((World.heap k8).size ≠ XE) := hid (Nat.ne_of_gt (own_blk_lt HE.out rfl).1)
          replace HE := hid (own_keep HE.out hbs)
          replace hk := hk.trans (hbs.mono hk.size)
          clear hbs
          simp only [List.getElem_toArray, List.getElem_cons_succ, List.getElem_cons_zero]
          go_simp
          refine hK.out _ _ ?_ (fun hHeld2 => ?_)
          focus
            exact hS _ hk
          clear hHeld
          have hHeld := hHeld2
          clear hHeld2 hK K
          try simp only [List.getElem_toArray, List.getElem_cons_succ, List.getElem_cons_zero, Act.put, List.setIfInBounds_toArray, List.set_cons_zero, List.set_cons_succ]
          generalize (World.alloc k8 (.cells #[.int .i64 j, .int .i64 x] 119)) = k11 at *
          generalize (World.heap k8).size = XL at *
          refine wpAnyH_ready (rs := [3]) (by kernel_rfl) (by simp) ?_
          refine (AllReadyH.cons rfl (fun K hK => ?_) AllReadyH.nil)
          refine step_append_sl rfl (.tmp 15) (.tmp 17) 111 rfl w3.heap.size 119 Try.underlying111 info_task rfl (by omega) rfl HE.out rfl (HSR.out _ (HB3.out.trans (hk.mono HB3.out.size))) (pcells_one _) (by unfold maxLen; omega) (by omega) hk.size ?_
          intro vk12 k12 ho5 hb5 hsz5 hk5
          simp only [Nat.zero_add, List.nil_append] at ho5
          obtain ⟨A5, c5, rfl, _⟩ := Sl.of_own ho5
          replace HL := hid ((hk5 XL HXL.out (lt_of_block HL.out) (fun e => HNE.out (Option.some.inj e).symm)).trans HL.out)
          clear HE
          have HE := hid ho5
          replace hk := hk.trans hb5
          clear hb5 hsz5 hk5 ho5
          simp only [List.getElem_toArray, List.getElem_cons_succ, List.getElem_cons_zero]
          refine hK.out _ _ ?_ (fun hHeld2 => ?_)
          focus
            exact hS _ hk
          clear hHeld
          have hHeld := hHeld2
          clear hHeld2 hK K
          try simp only [List.getElem_toArray, List.getElem_cons_succ, List.getElem_cons_zero, Act.put, List.setIfInBounds_toArray, List.set_cons_zero, List.set_cons_succ]
          refine wpAnyH_ready (rs := [6]) (by kernel_rfl) (by simp) ?_
          refine AllReadyH.cons rfl (fun K hK => ?_) AllReadyH.nil
          refine step_append_sl rfl (.tmp 18) (.tmp 20) 111 rfl w3.heap.size 119 Try.underlying111 info_task rfl (by omega) rfl HE.out rfl (by exact sl_heap HL.out) (by simp; exact ⟨rfl, rfl⟩) (by unfold maxLen; omega) (by omega) hk.size ?_
          intro v6 w6 ho6 hb6 hsz6 hk6
          obtain ⟨A6, c6, rfl, _⟩ := Sl.of_own ho6
          replace hk := hk.trans hb6
          have HO6 := hid ho6
          clear hb6 hsz6 hk6 ho6 HE HL
          simp only [List.getElem_toArray, List.getElem_cons_succ, List.getElem_cons_zero]
          refine hK.out _ _ ?_ (fun hHeld2 => ?_)
          focus
            exact hS _ hk
          clear hHeld
          have hHeld := hHeld2
          clear hHeld2 hK K
          try simp only [List.getElem_toArray, List.getElem_cons_succ, List.getElem_cons_zero, Act.put, List.setIfInBounds_toArray, List.set_cons_zero, List.set_cons_succ]
          refine wpAnyH_take (i := 7) (v := ?_) rfl (by kernel_rfl) (by kernel_rfl) (by kernel_rfl) (fun _ _ _ h => h) (Or.inl ⟨by rfl, ?_⟩) (by exact hS _ hk) ?_
          rotate_left
          focus
            intro U hU
            try dsimp only at hU
            go_simp
            try (with_reducible rfl)
          simp only [List.getElem_toArray, List.getElem_cons_succ, List.getElem_cons_zero, Act.put, List.setIfInBounds_toArray, List.set_cons_zero, List.set_cons_succ]
          refine wpAnyH_ready (rs := [8]) (by kernel_rfl) (by simp) ?_
          refine AllReadyH.cons rfl (fun K hK => ?_) AllReadyH.nil
          obtain ⟨_, f0, f1, f2, f3⟩ := four_cells (keep0 hn3 hk)
          simp only [List.getElem_toArray, List.getElem_cons_succ, List.getElem_cons_zero]
          go_simp
          refine hK.out _ _ ?_ (fun hHeld2 => ?_)
          focus
            exact ⟨⟨(two_cells ((Below.heap_setCell _ _ _ _ (show W.heap.size + 1 ≠ W.heap.size by omega)).trans (keep0 hy3 hk))).1, (two_cells ((Below.heap_setCell _ _ _ _ (show W.heap.size + 1 ≠ W.heap.size by omega)).trans (keep0 hy3 hk))).2.1⟩, (HB3.out.trans (hk.mono HB3.out.size)).setCell (p := ⟨W.heap.size, 3, none⟩) (Nat.le_refl _) _⟩
          clear hHeld
          have hHeld := hHeld2
          clear hHeld2 hK K
          try simp only [List.getElem_toArray, List.getElem_cons_succ, List.getElem_cons_zero, Act.put, List.setIfInBounds_toArray, List.set_cons_zero, List.set_cons_succ]
          refine wpAnyH_done (by kernel_rfl) ?_ _
          clear hHeld f0 f1 f2 f3
          go_wp2_with fail
          go_meet
          refine ⟨A6, c6, ?_, (Below.heap_setCell _ _ _ _ (show W.heap.size + 2 ≠ W.heap.size by omega)).trans (keep0 hz3 hk), ⟨own_setOld HO6.out _ _ (lt_of_block hn3), own_setOld (own_keep HD.out hk) _ _ HNB.out⟩, (HB3.out.trans (hk.mono HB3.out.size)).setCell (p := ⟨W.heap.size, 3, none⟩) (Nat.le_refl _) _⟩
          rw [heap_setCell_same _ _ _ _ _ _ (keep0 hn3 hk)]
          simp
      · skip
        have hbs : Below (World.heap k0).size k0 (World.alloc k0 (.cells #[.int .i64 j, .int .i64 x] 119)) := (Below.refl _ _).alloc (Nat.le_refl _) _
        have HL : Hid ((World.alloc k0 (.cells #[.int .i64 j, .int .i64 x] 119)).heap[(World.heap k0).size]? = some (.cells #[.int .i64 j, .int .i64 x] 119 (0, 0))) := hid (heap_alloc_new _ _)
        have HXL : Hid (w3.heap.size ≤ (World.heap k0).size) := hid hk.size
        replace hk := hk.trans (hbs.mono hk.size)
        clear hbs
        simp only [List.getElem_toArray, List.getElem_cons_succ, List.getElem_cons_zero]
        go_simp
        refine hK.out _ _ ?_ (fun hHeld2 => ?_)
        focus
          exact hS _ hk
        clear hHeld
        have hHeld := hHeld2
        clear hHeld2 hK K
        try simp only [List.getElem_toArray, List.getElem_cons_succ, List.getElem_cons_zero, Act.put, List.setIfInBounds_toArray, List.set_cons_zero, List.set_cons_succ]
        generalize (World.alloc k0 (.cells #[.int .i64 j, .int .i64 x] 119)) = k13 at *
        generalize (World.heap k0).size = XL at *
        refine wpAnyH_ready (rs := [0]) (by kernel_rfl) (by simp) ?_
        refine (AllReadyH.cons rfl (fun K hK => ?_) AllReadyH.nil)
        have hbs : Below (World.heap k13).size k13 (World.alloc k13 (.cells #[] 119)) := (Below.refl _ _).alloc (Nat.le_refl _) _
        have HE := hid (own_mono (own_empty k13 119 2) hk.size)
        have HNE : Hid (XL ≠ (World.heap k13).size) := hid (Nat.ne_of_lt (lt_of_block HL.out))
        replace HL := hid (keep0 HL.out hbs)
        replace hk := hk.trans (hbs.mono hk.size)
        clear hbs
        simp only [List.getElem_toArray, List.getElem_cons_succ, List.getElem_cons_zero]
        go_simp
        refine hK.out _ _ ?_ (fun hHeld2 => ?_)
        focus
          exact hS _ hk
        clear hHeld
        have hHeld := hHeld2
        clear hHeld2 hK K
        try simp only [List.getElem_toArray, List.getElem_cons_succ, List.getElem_cons_zero, Act.put, List.setIfInBounds_toArray, List.set_cons_zero, List.set_cons_succ]
        generalize (World.alloc k13 (.cells #[] 119)) = k14 at *
        generalize (World.heap k13).size = XE at *
        refine wpAnyH_ready (rs := [3]) (by kernel_rfl) (by simp) ?_
        refine (AllReadyH.cons rfl (fun K hK => ?_) AllReadyH.nil)
        refine step_append_sl rfl (.tmp 15) (.tmp 17) 111 rfl w3.heap.size 119 Try.underlying111 info_task rfl (by omega) rfl HE.out rfl (HSR.out _ (HB3.out.trans (hk.mono HB3.out.size))) (pcells_one _) (by unfold maxLen; omega) (by omega) hk.size ?_
        intro vk15 k15 ho5 hb5 hsz5 hk5
        simp only [Nat.zero_add, List.nil_append] at ho5
        obtain ⟨A5, c5, rfl, _⟩ := Sl.of_own ho5
        replace HL := hid ((hk5 XL HXL.out (lt_of_block HL.out) (fun e => HNE.out (Option.some.inj e).symm)).trans HL.out)
        clear HE
        have HE := hid ho5
        replace hk := hk.trans hb5
        clear hb5 hsz5 hk5 ho5
        simp only [List.getElem_toArray, List.getElem_cons_succ, List.getElem_cons_zero]
        refine hK.out _ _ ?_ (fun hHeld2 => ?_)
        focus
          exact hS _ hk
        clear hHeld
        have hHeld := hHeld2
        clear hHeld2 hK K
        try simp only [List.getElem_toArray, List.getElem_cons_succ, List.getElem_cons_zero, Act.put, List.setIfInBounds_toArray, List.set_cons_zero, List.set_cons_succ]
        refine wpAnyH_ready (rs := [6]) (by kernel_rfl) (by simp) ?_
        refine AllReadyH.cons rfl (fun K hK => ?_) AllReadyH.nil
        refine step_append_sl rfl (.tmp 18) (.tmp 20) 111 rfl w3.heap.size 119 Try.underlying111 info_task rfl (by omega) rfl HE.out rfl (by exact sl_heap HL.out) (by simp; exact ⟨rfl, rfl⟩) (by unfold maxLen; omega) (by omega) hk.size ?_
        intro v6 w6 ho6 hb6 hsz6 hk6
        obtain ⟨A6, c6, rfl, _⟩ := Sl.of_own ho6
        replace hk := hk.trans hb6
        have HO6 := hid ho6
        clear hb6 hsz6 hk6 ho6 HE HL
        simp only [List.getElem_toArray, List.getElem_cons_succ, List.getElem_cons_zero]
        refine hK.out _ _ ?_ (fun hHeld2 => ?_)
        focus
          exact hS _ hk
        clear hHeld
        have hHeld := hHeld2
        clear hHeld2 hK K
        try simp only [List.getElem_toArray, List.getElem_cons_succ, List.getElem_cons_zero, Act.put, List.setIfInBounds_toArray, List.set_cons_zero, List.set_cons_succ]
        refine wpAnyH_take (i := 7) (v := ?_) rfl (by kernel_rfl) (by kernel_rfl) (by kernel_rfl) (fun _ _ _ h => h) (Or.inl ⟨by rfl, ?_⟩) (by exact hS _ hk) ?_
        rotate_left
        focus
          intro U hU
          try dsimp only at hU
          go_simp
          try (with_reducible rfl)
        simp only [List.getElem_toArray, List.getElem_cons_succ, List.getElem_cons_zero, Act.put, List.setIfInBounds_toArray, List.set_cons_zero, List.set_cons_succ]
        refine wpAnyH_ready (rs := [8]) (by kernel_rfl) (by simp) ?_
        refine AllReadyH.cons rfl (fun K hK => ?_) AllReadyH.nil
        obtain ⟨_, f0, f1, f2, f3⟩ := four_cells (keep0 hn3 hk)
        simp only [List.getElem_toArray, List.getElem_cons_succ, List.getElem_cons_zero]
        go_simp
        refine hK.out _ _ ?_ (fun hHeld2 => ?_)
        focus
          exact ⟨⟨(two_cells ((Below.heap_setCell _ _ _ _ (show W.heap.size + 1 ≠ W.heap.size by omega)).trans (keep0 hy3 hk))).1, (two_cells ((Below.heap_setCell _ _ _ _ (show W.heap.size + 1 ≠ W.heap.size by omega)).trans (keep0 hy3 hk))).2.1⟩, (HB3.out.trans (hk.mono HB3.out.size)).setCell (p := ⟨W.heap.size, 3, none⟩) (Nat.le_refl _) _⟩
        clear hHeld
        have hHeld := hHeld2
        clear hHeld2 hK K
        try simp only [List.getElem_toArray, List.getElem_cons_succ, List.getElem_cons_zero, Act.put, List.setIfInBounds_toArray, List.set_cons_zero, List.set_cons_succ]
        refine wpAnyH_done (by kernel_rfl) ?_ _
        clear hHeld f0 f1 f2 f3
        go_wp2_with fail
        go_meet
        refine ⟨A6, c6, ?_, (Below.heap_setCell _ _ _ _ (show W.heap.size + 2 ≠ W.heap.size by omega)).trans (keep0 hz3 hk), ⟨own_setOld HO6.out _ _ (lt_of_block hn3), own_setOld (own_keep HD.out hk) _ _ HNB.out⟩, (HB3.out.trans (hk.mono HB3.out.size)).setCell (p := ⟨W.heap.size, 3, none⟩) (Nat.le_refl _) _⟩
        rw [heap_setCell_same _ _ _ _ _ _ (keep0 hn3 hk)]
        simp
    · skip
      have hbs : Below (World.heap k0).size k0 (World.alloc k0 (.cells #[.int .i64 j, .int .i64 x] 119)) := (Below.refl _ _).alloc (Nat.le_refl _) _
      have HL : Hid ((World.alloc k0 (.cells #[.int .i64 j, .int .i64 x] 119)).heap[(World.heap k0).size]? = some (.cells #[.int .i64 j, .int .i64 x] 119 (0, 0))) := hid (heap_alloc_new _ _)
      have HXL : Hid (w3.heap.size ≤ (World.heap k0).size) := hid hk.size
      replace hk := hk.trans (hbs.mono hk.size)
      clear hbs
      simp only [List.getElem_toArray, List.getElem_cons_succ, List.getElem_cons_zero]
      go_simp
      refine hK.out _ _ ?_ (fun hHeld2 => ?_)
      focus
        exact hS _ hk
      clear hHeld
      have hHeld := hHeld2
      clear hHeld2 hK K
      try simp only [List.getElem_toArray, List.getElem_cons_succ, List.getElem_cons_zero, Act.put, List.setIfInBounds_toArray, List.set_cons_zero, List.set_cons_succ]
      generalize (World.alloc k0 (.cells #[.int .i64 j, .int .i64 x] 119)) = k16 at *
      generalize (World.heap k0).size = XL at *
      refine wpAnyH_ready (rs := [0, 2]) (by kernel_rfl) (by simp) ?_
      refine (AllReadyH.cons rfl (fun K hK => ?_) (AllReadyH.cons rfl (fun K hK => ?_) AllReadyH.nil))
      · skip
        have hbs : Below (World.heap k16).size k16 (World.alloc k16 (.cells #[] 119)) := (Below.refl _ _).alloc (Nat.le_refl _) _
        have HE := hid (own_mono (own_empty k16 119 2) hk.size)
        have HNE : Hid (XL ≠ (World.heap k16).size) := hid (Nat.ne_of_lt (lt_of_block HL.out))
        replace HL := hid (keep0 HL.out hbs)
        replace hk := hk.trans (hbs.mono hk.size)
        clear hbs
        simp only [List.getElem_toArray, List.getElem_cons_succ, List.getElem_cons_zero]
        go_simp
        refine hK.out _ _ ?_ (fun hHeld2 => ?_)
        focus
          exact hS _ hk
        clear hHeld
        have hHeld := hHeld2
        clear hHeld2 hK K
        try simp only [List.getElem_toArray, List.getElem_cons_succ, List.getElem_cons_zero, Act.put, List.setIfInBounds_toArray, List.set_cons_zero, List.set_cons_succ]
        generalize (World.alloc k16 (.cells #[] 119)) = k17 at *
        generalize (World.heap k16).size = XE at *
        refine wpAnyH_ready (rs := [2]) (by kernel_rfl) (by simp) ?_
        refine (AllReadyH.cons rfl (fun K hK => ?_) AllReadyH.nil)
        obtain ⟨⟨p0, p1, p2, p3⟩, _⟩ := four_cells (keep0 hn3 hk)
        simp only [List.getElem_toArray, List.getElem_cons_succ, List.getElem_cons_zero]
        go_simp
        refine hK.out _ _ ?_ (fun hHeld2 => ?_)
        focus
          exact hS _ hk
        clear hHeld
        have hHeld := hHeld2
        clear hHeld2 hK K
        try simp only [List.getElem_toArray, List.getElem_cons_succ, List.getElem_cons_zero, Act.put, List.setIfInBounds_toArray, List.set_cons_zero, List.set_cons_succ]
        clear p0 p1 p2 p3
        refine wpAnyH_ready (rs := [3]) (by kernel_rfl) (by simp) ?_
        refine (AllReadyH.cons rfl (fun K hK => ?_) AllReadyH.nil)
        refine step_append_sl rfl (.tmp 15) (.tmp 17) 111 rfl w3.heap.size 119 Try.underlying111 info_task rfl (by omega) rfl HE.out rfl (HSR.out _ (HB3.out.trans (hk.mono HB3.out.size))) (pcells_one _) (by unfold maxLen; omega) (by omega) hk.size ?_
        intro vk18 k18 ho5 hb5 hsz5 hk5
        simp only [Nat.zero_add, List.nil_append] at ho5
        obtain ⟨A5, c5, rfl, _⟩ := Sl.of_own ho5
        replace HL := hid ((hk5 XL HXL.out (lt_of_block HL.out) (fun e => HNE.out (Option.some.inj e).symm)).trans HL.out)
        clear HE
        have HE := hid ho5
        replace hk := hk.trans hb5
        clear hb5 hsz5 hk5 ho5
        simp only [List.getElem_toArray, List.getElem_cons_succ, List.getElem_cons_zero]
        refine hK.out _ _ ?_ (fun hHeld2 => ?_)
        focus
          exact hS _ hk
        clear hHeld
        have hHeld := hHeld2
        clear hHeld2 hK K
        try simp only [List.getElem_toArray, List.getElem_cons_succ, List.getElem_cons_zero, Act.put, List.setIfInBounds_toArray, List.set_cons_zero, List.set_cons_succ]
        refine wpAnyH_ready (rs := [6]) (by kernel_rfl) (by simp) ?_
        refine AllReadyH.cons rfl (fun K hK => ?_) AllReadyH.nil
        refine step_append_sl rfl (.tmp 18) (.tmp 20) 111 rfl w3.heap.size 119 Try.underlying111 info_task rfl (by omega) rfl HE.out rfl (by exact sl_heap HL.out) (by simp; exact ⟨rfl, rfl⟩) (by unfold maxLen; omega) (by omega) hk.size ?_
        intro v6 w6 ho6 hb6 hsz6 hk6
        obtain ⟨A6, c6, rfl, _⟩ := Sl.of_own ho6
        replace hk := hk.trans hb6
        have HO6 := hid ho6
        clear hb6 hsz6 hk6 ho6 HE HL
        simp only [List.getElem_toArray, List.getElem_cons_succ, List.getElem_cons_zero]
        refine hK.out _ _ ?_ (fun hHeld2 => ?_)
        focus
          exact hS _ hk
        clear hHeld
        have hHeld := hHeld2
        clear hHeld2 hK K
        try simp only [List.getElem_toArray, List.getElem_cons_succ, List.getElem_cons_zero, Act.put, List.setIfInBounds_toArray, List.set_cons_zero, List.set_cons_succ]
        refine wpAnyH_take (i := 7) (v := ?_) rfl (by kernel_rfl) (by kernel_rfl) (by kernel_rfl) (fun _ _ _ h => h) (Or.inl ⟨by rfl, ?_⟩) (by exact hS _ hk) ?_
        rotate_left
        focus
          intro U hU
          try dsimp only at hU
          go_simp
          try (with_reducible rfl)
        simp only [List.getElem_toArray, List.getElem_cons_succ, List.getElem_cons_zero, Act.put, List.setIfInBounds_toArray, List.set_cons_zero, List.set_cons_succ]
        refine wpAnyH_ready (rs := [8]) (by kernel_rfl) (by simp) ?_
        refine AllReadyH.cons rfl (fun K hK => ?_) AllReadyH.nil
        obtain ⟨_, f0, f1, f2, f3⟩ := four_cells (keep0 hn3 hk)
        simp only [List.getElem_toArray, List.getElem_cons_succ, List.getElem_cons_zero]
        go_simp
        refine hK.out _ _ ?_ (fun hHeld2 => ?_)
        focus
          exact ⟨⟨(two_cells ((Below.heap_setCell _ _ _ _ (show W.heap.size + 1 ≠ W.heap.size by omega)).trans (keep0 hy3 hk))).1, (two_cells ((Below.heap_setCell _ _ _ _ (show W.heap.size + 1 ≠ W.heap.size by omega)).trans (keep0 hy3 hk))).2.1⟩, (HB3.out.trans (hk.mono HB3.out.size)).setCell (p := ⟨W.heap.size, 3, none⟩) (Nat.le_refl _) _⟩
        clear hHeld
        have hHeld := hHeld2
        clear hHeld2 hK K
        try simp only [List.getElem_toArray, List.getElem_cons_succ, List.getElem_cons_zero, Act.put, List.setIfInBounds_toArray, List.set_cons_zero, List.set_cons_succ]
        refine wpAnyH_done (by kernel_rfl) ?_ _
        clear hHeld f0 f1 f2 f3
        go_wp2_with fail
        go_meet
        refine ⟨A6, c6, ?_, (Below.heap_setCell _ _ _ _ (show W.heap.size + 2 ≠ W.heap.size by omega)).trans (keep0 hz3 hk), ⟨own_setOld HO6.out _ _ (lt_of_block hn3), own_setOld (own_keep HD.out hk) _ _ HNB.out⟩, (HB3.out.trans (hk.mono HB3.out.size)).setCell (p := ⟨W.heap.size, 3, none⟩) (Nat.le_refl _) _⟩
        rw [heap_setCell_same _ _ _ _ _ _ (keep0 hn3 hk)]
        simp
      · skip
        obtain ⟨⟨p0, p1, p2, p3⟩, _⟩ := four_cells (keep0 hn3 hk)
        simp only [List.getElem_toArray, List.getElem_cons_succ, List.getElem_cons_zero]
        go_simp
        refine hK.out _ _ ?_ (fun hHeld2 => ?_)
        focus
          exact hS _ hk
        clear hHeld
        have hHeld := hHeld2
        clear hHeld2 hK K
        try simp only [List.getElem_toArray, List.getElem_cons_succ, List.getElem_cons_zero, Act.put, List.setIfInBounds_toArray, List.set_cons_zero, List.set_cons_succ]
        clear p0 p1 p2 p3
        refine wpAnyH_ready (rs := [0]) (by kernel_rfl) (by simp) ?_
        refine (AllReadyH.cons rfl (fun K hK => ?_) AllReadyH.nil)
        have hbs : Below (World.heap k16).size k16 (World.alloc k16 (.cells #[] 119)) := (Below.refl _ _).alloc (Nat.le_refl _) _
        have HE := hid (own_mono (own_empty k16 119 2) hk.size)
        have HNE : Hid (XL ≠ (World.heap k16).size) := hid (Nat.ne_of_lt (lt_of_block HL.out))
        replace HL := hid (keep0 HL.out hbs)
        replace hk := hk.trans (hbs.mono hk.size)
        clear hbs
        simp only [List.getElem_toArray, List.getElem_cons_succ, List.getElem_cons_zero]
        go_simp
        refine hK.out _ _ ?_ (fun hHeld2 => ?_)
        focus
          exact hS _ hk
        clear hHeld
        have hHeld := hHeld2
        clear hHeld2 hK K
        try simp only [List.getElem_toArray, List.getElem_cons_succ, List.getElem_cons_zero, Act.put, List.setIfInBounds_toArray, List.set_cons_zero, List.set_cons_succ]
        generalize (World.alloc k16 (.cells #[] 119)) = k19 at *
        generalize (World.heap k16).size = XE at *
        refine wpAnyH_ready (rs := [3]) (by kernel_rfl) (by simp) ?_
        refine (AllReadyH.cons rfl (fun K hK => ?_) AllReadyH.nil)
        refine step_append_sl rfl (.tmp 15) (.tmp 17) 111 rfl w3.heap.size 119 Try.underlying111 info_task rfl (by omega) rfl HE.out rfl (HSR.out _ (HB3.out.trans (hk.mono HB3.out.size))) (pcells_one _) (by unfold maxLen; omega) (by omega) hk.size ?_
        intro vk20 k20 ho5 hb5 hsz5 hk5
        simp only [Nat.zero_add, List.nil_append] at ho5
        obtain ⟨A5, c5, rfl, _⟩ := Sl.of_own ho5
        replace HL := hid ((hk5 XL HXL.out (lt_of_block HL.out) (fun e => HNE.out (Option.some.inj e).symm)).trans HL.out)
        clear HE
        have HE := hid ho5
        replace hk := hk.trans hb5
        clear hb5 hsz5 hk5 ho5
        simp only [List.getElem_toArray, List.getElem_cons_succ, List.getElem_cons_zero]
        refine hK.out _ _ ?_ (fun hHeld2 => ?_)
        focus
          exact hS _ hk
        clear hHeld
        have hHeld := hHeld2
        clear hHeld2 hK K
        try simp only [List.getElem_toArray, List.getElem_cons_succ, List.getElem_cons_zero, Act.put, List.setIfInBounds_toArray, List.set_cons_zero, List.set_cons_succ]
        refine wpAnyH_ready (rs := [6]) (by kernel_rfl) (by simp) ?_
        refine AllReadyH.cons rfl (fun K hK => ?_) AllReadyH.nil
        refine step_append_sl rfl (.tmp 18) (.tmp 20) 111 rfl w3.heap.size 119 Try.underlying111 info_task rfl (by omega) rfl HE.out rfl (by exact sl_heap HL.out) (by simp; exact ⟨rfl, rfl⟩) (by unfold maxLen; omega) (by omega) hk.size ?_
        intro v6 w6 ho6 hb6 hsz6 hk6
        obtain ⟨A6, c6, rfl, _⟩ := Sl.of_own ho6
        replace hk := hk.trans hb6
        have HO6 := hid ho6
        clear hb6 hsz6 hk6 ho6 HE HL
        simp only [List.getElem_toArray, List.getElem_cons_succ, List.getElem_cons_zero]
        refine hK.out _ _ ?_ (fun hHeld2 => ?_)
        focus
          exact hS _ hk
        clear hHeld
        have hHeld := hHeld2
        clear hHeld2 hK K
        try simp only [List.getElem_toArray, List.getElem_cons_succ, List.getElem_cons_zero, Act.put, List.setIfInBounds_toArray, List.set_cons_zero, List.set_cons_succ]
        refine wpAnyH_take (i := 7) (v := ?_) rfl (by kernel_rfl) (by kernel_rfl) (by kernel_rfl) (fun _ _ _ h => h) (Or.inl ⟨by rfl, ?_⟩) (by exact hS _ hk) ?_
        rotate_left
        focus
          intro U hU
          try dsimp only at hU
          go_simp
          try (with_reducible rfl)
        simp only [List.getElem_toArray, List.getElem_cons_succ, List.getElem_cons_zero, Act.put, List.setIfInBounds_toArray, List.set_cons_zero, List.set_cons_succ]
        refine wpAnyH_ready (rs := [8]) (by kernel_rfl) (by simp) ?_
        refine AllReadyH.cons rfl (fun K hK => ?_) AllReadyH.nil
        obtain ⟨_, f0, f1, f2, f3⟩ := four_cells (keep0 hn3 hk)
        simp only [List.getElem_toArray, List.getElem_cons_succ, List.getElem_cons_zero]
        go_simp
        refine hK.out _ _ ?_ (fun hHeld2 => ?_)
        focus
          exact ⟨⟨(two_cells ((Below.heap_setCell _ _ _ _ (show W.heap.size + 1 ≠ W.heap.size by omega)).trans (keep0 hy3 hk))).1, (two_cells ((Below.heap_setCell _ _ _ _ (show W.heap.size + 1 ≠ W.heap.size by omega)).trans (keep0 hy3 hk))).2.1⟩, (HB3.out.trans (hk.mono HB3.out.size)).setCell (p := ⟨W.heap.size, 3, none⟩) (Nat.le_refl _) _⟩
        clear hHeld
        have hHeld := hHeld2
        clear hHeld2 hK K
        try simp only [List.getElem_toArray, List.getElem_cons_succ, List.getElem_cons_zero, Act.put, List.setIfInBounds_toArray, List.set_cons_zero, List.set_cons_succ]
        refine wpAnyH_done (by kernel_rfl) ?_ _
        clear hHeld f0 f1 f2 f3
        go_wp2_with fail
        go_meet
        refine ⟨A6, c6, ?_, (Below.heap_setCell _ _ _ _ (show W.heap.size + 2 ≠ W.heap.size by omega)).trans (keep0 hz3 hk), ⟨own_setOld HO6.out _ _ (lt_of_block hn3), own_setOld (own_keep HD.out hk) _ _ HNB.out⟩, (HB3.out.trans (hk.mono HB3.out.size)).setCell (p := ⟨W.heap.size, 3, none⟩) (Nat.le_refl _) _⟩
        rw [heap_setCell_same _ _ _ _ _ _ (keep0 hn3 hk)]
        simp
end Go.Proofs.Ytadjmgmdnekllaa
