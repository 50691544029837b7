/- The document's slots: End: contract. -/
import Derived.Test.YtadjmgmdnekllaaSdD
namespace Go.Proofs.Ytadjmgmdnekllaa
open Go.RowKit Go.Sort
set_option linter.unusedVariables false
set_option linter.unusedSimpArgs false

theorem erase_cells (r : List (Int × Int)) (k : Nat) : pcells (r.take k) ++ pcells (r.drop (k + 1)) = pcells (r.eraseIdx k) := by
  rw [← pcells_append, List.eraseIdx_eq_take_drop_succ]
set_option maxRecDepth 20000 in
set_option maxHeartbeats 8000000 in
theorem rend_any (s : Sv) (j x : Int) (A O R : Option Addr) (ca co cr : Nat) (W : World) (h : InV W s A O R ca co cr) (hk : OkV s) :
    Calls Try.prog 92 #[.agg (svv s A O R ca co cr), .agg #[.int .i64 j, .int .i64 x]] W fun e w' => ∃ A' O' R' ca' co' cr', e = .returned (.tuple #[.agg (svv (endV s (j, x)).1 A' O' R' ca' co' cr'), .bool (endV s (j, x)).2]) ∧ InV w' (endV s (j, x)).1 A' O' R' ca' co' cr' ∧ Below W.heap.size W w' := by
  have HIN := hid (fun w (hw : Below W.heap.size W w) => h.below hw)
  have HSR := hid (fun w (hw : Below W.heap.size W w) => h.2.2.below hw)
  have HV : Hid (endV s (j, x) = if idxT s.r (j, x) < 0 then (s, false) else (⟨s.n, s.a, s.o, s.r.eraseIdx (idxT s.r (j, x)).toNat⟩, true)) := hid rfl
  have hlr := hk.2.2.2
  clear h hk
  generalize endV s (j, x) = av at *
  obtain ⟨n, a, o, r⟩ := s
  simp only [svv] at *
  have HY := hid (fun k (hk : k < r.length) h hy => idxT_yes (t := (j, x)) hk h hy)
  have HN := hid (fun h => idxT_no (l := r) (t := (j, x)) h)
  generalize idxT r (j, x) = ix at *
  generalize hL : r.length = lr at HSR hlr ⊢
  have HLR := hid hL
  clear hL
  have hlri : (lr : Int) ≤ 1000 := by omega
  go_enter Try.func92, Try.ntmps92
  go_upto_region 1 with (fail)
  refine at_world (fun u => u.heap[W.heap.size]? = some (.cells #[.int .i64 n, .slice A a.length ca, .slice O o.length co, .slice R lr cr] 113 (0, 0)) ∧ u.heap[W.heap.size + 1]? = some (.cells #[.int .i64 j, .int .i64 x] 119 (0, 0)) ∧ u.heap[W.heap.size + 2]? = some (.cells #[.int .i64 0, .slice none 0 0, .slice none 0 0, .slice none 0 0] 113 (0, 0)) ∧ Below W.heap.size W u) (heap3 _ _ _ _) ?_
  rintro w1 ⟨hx1, hy1, hz1, hb1⟩
  obtain ⟨⟨p0, p1, p2, p3⟩, _⟩ := four_cells hx1
  obtain ⟨y0, y1, _, _⟩ := two_cells hy1
  have HX1 := hid hx1
  have HY1 := hid hy1
  have HZ1 := hid hz1
  have HB1 := hid hb1
  clear hx1 hy1 hz1 hb1
  go_wp2
  go_loopw [6] (fun i wr => ∃ k q : Nat, k ≤ lr ∧ i = .int .i64 (k : Int) ∧ wr = w1.drewN q ∧ Hid (∀ i (hi : i < r.length), i < k → r[i] ≠ (j, x))) (fun i _ => lr - (intOf i).toNat)
  case atStart => exact ⟨0, 0, by omega, rfl, rfl, fun j hj h => absurd h (by omega)⟩
  case round =>
    obtain ⟨k, q, hk, rfl, rfl, HT⟩ := hrel
    by_cases hlt : k < lr
    · have hlt2 : (k : Int) < (lr : Int) := by omega
      have hltr : k < r.length := by have := HLR.out; omega
      have HS1 := hid (HSR.out _ HB1.out)
      obtain ⟨b, off, hA⟩ := HS1.out.addr (by have := HLR.out; rw [pcells_length]; omega)
      subst hA
      obtain ⟨c1, c2⟩ := HS1.out.pair k hltr
      have HY2 := hid (HY.out k hltr HT.out)
      have HTN : Hid (r[k] ≠ (j, x) → ∀ i (hi : i < r.length), i < k + 1 → r[i] ≠ (j, x)) := hid (fun hne i hi hik => by
        by_cases hik2 : i < k
        · exact HT.out i hi hik2
        · obtain rfl : i = k := by omega
          exact hne)
      generalize hzz : r[k] = z at *
      clear hzz
      obtain ⟨z1, z2⟩ := z
      simp only at c1 c2
      by_cases hxy : z1 = j ∧ z2 = x
      · obtain ⟨rfl, rfl⟩ := hxy
        have HE := hid (HY2.out rfl)
        have HVV : Hid (av = (⟨n, a, o, r.eraseIdx k⟩, true)) := hid (by rw [HV.out, HE.out, if_neg (by omega)]; rfl)
        have e1 : (z1 == z1) = true := by simp
        have e2 : (z2 == z2) = true := by simp
        have HT1 := hid (by
          have h9 := fun w (hw : Below W.heap.size W w) => (HSR.out w hw).take k (by omega)
          exact (fun w hw => by rw [← pcells_take]; exact h9 w hw : ∀ w, Below W.heap.size W w → Sl w 2 (some ⟨b, off, none⟩) k cr (pcells (r.take k))))
        have HT2 := hid (by
          have h9 := fun w (hw : Below W.heap.size W w) => (HSR.out w hw).drop (k + 1) (by omega)
          exact (fun w hw => by rw [← pcells_drop]; exact h9 w hw : ∀ w, Below W.heap.size W w → Sl w 2 (dropA (some ⟨b, off, none⟩) cr (k + 1) 2) (lr - (k + 1)) (cr - (k + 1)) (pcells (r.drop (k + 1)))))
        have hcr : lr ≤ cr := HS1.out.2.1
        have hrun1 : ∀ w : World, (Instr.slice 111 (.slice (some ⟨b, off, none⟩) lr cr) none (some (.int .i64 (k : Int))) none).run Try.prog w = .ok (.slice (some ⟨b, off, none⟩) k cr) w := fun w => run_to Try.underlying111 info_task (some ⟨b, off, none⟩) lr cr k (by omega) w
        have hrun2 : ∀ w : World, (Instr.slice 111 (.slice (some ⟨b, off, none⟩) lr cr) (some (.int .i64 ((k : Int) + 1))) none none).run Try.prog w = .ok (.slice (dropA (some ⟨b, off, none⟩) cr (k + 1) 2) (lr - (k + 1)) (cr - (k + 1))) w := fun w => run_from Try.underlying111 info_task (some ⟨b, off, none⟩) lr cr (k + 1) (by omega) w
        have hw : IntKind.i64.wrap ((k : Int) + 1) = (k : Int) + 1 := IntWalk.i64_in _ (by omega)
        have hmm : k + (lr - (k + 1)) = (r.eraseIdx k).length := by rw [List.length_eraseIdx, if_pos hltr, HLR.out]; omega
        have HEC := hid (erase_cells r k)
        have h1000 : k + (lr - (k + 1)) ≤ 1000 := by omega
        have HMM := hid hmm
        clear HTN HY2 HE HV HT HY HN hmm hltr HS1
        go_wp2
        go_quiet (fail)
        go_upto_region 5 with (fail)
        have hbq : Below w1.heap.size w1 ((w1.drewN q).drewN nq) := drew_belowN (drew_belowN (Below.refl _ _) _) _
        refine at_world (fun u => Below w1.heap.size w1 u) hbq ?_
        clear hbq p0 p1 p2 p3 y0 y1 c1 c2
        rintro w3 hb3
        have hn3 := keep0 HX1.out hb3
        have hz3 := keep0 HZ1.out hb3
        have HB3 := hid (HB1.out.trans (hb3.mono HB1.out.size))
        clear HX1 HY1 HZ1 HB1 hb3
        go_cut [5] from 7 to 34 (fun _ wx => ∃ A6 c6, wx.heap[W.heap.size]? = some (.cells #[.int .i64 n, .slice A a.length ca, .slice O o.length co, .slice A6 (r.eraseIdx k).length c6] 113 (0, 0)) ∧ wx.heap[W.heap.size + 2]? = some (.cells #[.int .i64 0, .slice none 0 0, .slice none 0 0, .slice none 0 0] 113 (0, 0)) ∧ wx.ownsRow w3.heap.size 119 2 (.slice A6 (r.eraseIdx k).length c6) (r.eraseIdx k).length (pcells (r.eraseIdx k)) ∧ Below W.heap.size W wx)
        case rest =>
          obtain ⟨A6, c6, hx, hz, ho, hb⟩ := hcut
          have hzl := lt_of_block hz3
          clear hn3 hz3 hrun1 hrun2
          obtain ⟨⟨p0, p1, p2, p3⟩, _⟩ := four_cells hx
          obtain ⟨_, g0, g1, g2, g3⟩ := four_cells hz
          obtain ⟨⟨r0, r1, r2, r3⟩, _⟩ := four_cells (put4_heap hz (.int .i64 n) (.slice A a.length ca) (.slice O o.length co) (.slice A6 (r.eraseIdx k).length c6))
          simp only [put4] at r0 r1 r2 r3
          have hr := put4_below hb (show W.heap.size ≤ W.heap.size + 2 by omega) (.int .i64 n) (.slice A a.length ca) (.slice O o.length co) (.slice A6 (r.eraseIdx k).length c6)
          have HR0 := hid (sl_own (own_put4 (x0 := .int .i64 n) (x1 := .slice A a.length ca) (x2 := .slice O o.length co) (x3 := .slice A6 (r.eraseIdx k).length c6) ho hzl))
          have HB9 := hid hr
          clear hr hb hx hz ho
          go_wp2
          exact bodyPost_ret (v := .tuple #[.agg #[.int .i64 n, .slice A a.length ca, .slice O o.length co, .slice A6 (r.eraseIdx k).length c6], .bool true]) (by simp [results, Try.results92, go_sem, r0, r1, r2, r3]) rfl ⟨A, O, A6, ca, co, c6, by rw [HVV.out] <;> (first | rfl | simp [svv]), by rw [HVV.out]; exact ⟨(HIN.out _ HB9.out).1, (HIN.out _ HB9.out).2.1, HR0.out⟩, HB9.out⟩
        clear HIN HVV HLR
        have hS : ∀ U, Below w3.heap.size w3 U → Below W.heap.size W U := fun U hU => HB3.out.trans (hU.mono HB3.out.size)
        have hk0 : Below w3.heap.size w3 w3.drew := below_drew (Below.refl _ _)
        refine wp_region_held_drew (S := fun U => Below W.heap.size W U) (by kernel_rfl) (hS _ hk0) (fun hHeld => ?_)
        generalize w3.drew = k0 at *
        refine wpAnyH_take (i := 1) (v := ?_) rfl (by kernel_rfl) (by kernel_rfl) (by kernel_rfl) (fun _ _ _ h => h) (Or.inl ⟨by rfl, ?_⟩) (by exact hS _ hk0) ?_
        rotate_left
        focus
          intro U hU
          try dsimp only at hU
          go_simp
          try (with_reducible rfl)
        simp only [List.getElem_toArray, List.getElem_cons_succ, List.getElem_cons_zero, Act.put, List.setIfInBounds_toArray, List.set_cons_zero, List.set_cons_succ]
        refine wpAnyH_take (i := 3) (v := ?_) rfl (by kernel_rfl) (by kernel_rfl) (by kernel_rfl) (fun _ _ _ h => h) (Or.inl ⟨by rfl, ?_⟩) (by exact hS _ hk0) ?_
        rotate_left
        focus
          intro U hU
          try dsimp only at hU
          go_simp
          try (with_reducible rfl)
        simp only [List.getElem_toArray, List.getElem_cons_succ, List.getElem_cons_zero, Act.put, List.setIfInBounds_toArray, List.set_cons_zero, List.set_cons_succ]
        refine wpAnyH_take (i := 6) (v := ?_) rfl (by kernel_rfl) (by kernel_rfl) (by kernel_rfl) (fun _ _ _ h => h) (Or.inl ⟨by rfl, ?_⟩) (by exact hS _ hk0) ?_
        rotate_left
        focus
          intro U hU
          try dsimp only at hU
          go_simp
          try (with_reducible rfl)
        simp only [List.getElem_toArray, List.getElem_cons_succ, List.getElem_cons_zero, Act.put, List.setIfInBounds_toArray, List.set_cons_zero, List.set_cons_succ]
        refine wpAnyH_take (i := 8) (v := ?_) rfl (by kernel_rfl) (by kernel_rfl) (by kernel_rfl) (fun _ _ _ h => h) (Or.inl ⟨by rfl, ?_⟩) (by exact hS _ hk0) ?_
        rotate_left
        focus
          intro U hU
          try dsimp only at hU
          go_simp
          try (with_reducible rfl)
        simp only [List.getElem_toArray, List.getElem_cons_succ, List.getElem_cons_zero, Act.put, List.setIfInBounds_toArray, List.set_cons_zero, List.set_cons_succ]
        refine wpAnyH_take (i := 9) (v := ?_) rfl (by kernel_rfl) (by kernel_rfl) (by kernel_rfl) (fun _ _ _ h => h) (Or.inl ⟨by rfl, ?_⟩) (by exact hS _ hk0) ?_
        rotate_left
        focus
          intro U hU
          try dsimp only at hU
          go_simp
          try (with_reducible rfl)
        simp only [List.getElem_toArray, List.getElem_cons_succ, List.getElem_cons_zero, Act.put, List.setIfInBounds_toArray, List.set_cons_zero, List.set_cons_succ]
        refine wpAnyH_ready (rs := [0, 2, 7]) (by kernel_rfl) (by simp) ?_
        refine (AllReadyH.cons rfl (fun K hK => ?_) (AllReadyH.cons rfl (fun K hK => ?_) (AllReadyH.cons rfl (fun K hK => ?_) AllReadyH.nil)))
        · skip
          have hbs : Below (World.heap k0).size k0 (World.alloc k0 (.cells #[] 119)) := (Below.refl _ _).alloc (Nat.le_refl _) _
          have HE := hid (own_mono (own_empty k0 119 2) hk0.size)
          replace hk0 := hk0.trans (hbs.mono hk0.size)
          clear hbs
          simp only [List.getElem_toArray, List.getElem_cons_succ, List.getElem_cons_zero]
          go_simp
          refine hK.out _ _ ?_ (fun hHeld2 => ?_)
          focus
            exact hS _ hk0
          clear hHeld
          have hHeld := hHeld2
          clear hHeld2 hK K
          try simp only [List.getElem_toArray, List.getElem_cons_succ, List.getElem_cons_zero, Act.put, List.setIfInBounds_toArray, List.set_cons_zero, List.set_cons_succ]
          generalize (World.alloc k0 (.cells #[] 119)) = u1 at *
          generalize (World.heap k0).size = XE at *
          refine wpAnyH_ready (rs := [2, 7]) (by kernel_rfl) (by simp) ?_
          refine (AllReadyH.cons rfl (fun K hK => ?_) (AllReadyH.cons rfl (fun K hK => ?_) AllReadyH.nil))
          · skip
            obtain ⟨⟨p0, p1, p2, p3⟩, _⟩ := four_cells (keep0 hn3 hk0)
            simp only [List.getElem_toArray, List.getElem_cons_succ, List.getElem_cons_zero]
            try go_simp
            refine hK.out _ _ ?_ (fun hHeld2 => ?_)
            focus
              exact hS _ hk0
            clear hHeld
            have hHeld := hHeld2
            clear hHeld2 hK K
            try simp only [List.getElem_toArray, List.getElem_cons_succ, List.getElem_cons_zero, Act.put, List.setIfInBounds_toArray, List.set_cons_zero, List.set_cons_succ]
            clear p0 p1 p2 p3
            refine wpAnyH_take (i := 4) (v := ?_) rfl (by kernel_rfl) (by kernel_rfl) (by kernel_rfl) (fun _ _ _ h => h) (Or.inl ⟨by rfl, ?_⟩) (by exact hS _ hk0) ?_
            rotate_left
            focus
              intro U hU
              try dsimp only at hU
              go_simp
              try (with_reducible rfl)
            try simp only [List.getElem_toArray, List.getElem_cons_succ, List.getElem_cons_zero, Act.put, List.setIfInBounds_toArray, List.set_cons_zero, List.set_cons_succ]
            refine wpAnyH_ready (rs := [5, 7]) (by kernel_rfl) (by simp) ?_
            refine (AllReadyH.cons rfl (fun K hK => ?_) (AllReadyH.cons rfl (fun K hK => ?_) AllReadyH.nil))
            · skip
              refine step_append_sl rfl (.tmp 21) (.tmp 25) 111 rfl w3.heap.size 119 Try.underlying111 info_task rfl (by omega) rfl HE.out rfl (HT1.out _ (HB3.out.trans (hk0.mono HB3.out.size))) (pcells_one _) (by unfold maxLen; omega) (by omega) hk0.size ?_
              intro vu2 u2 ho5 hb5 hsz5 hk5
              simp only [Nat.zero_add, List.nil_append] at ho5
              obtain ⟨A5, c5, rfl, _⟩ := Sl.of_own ho5
              clear HE
              have HE := hid ho5
              replace hk0 := hk0.trans hb5
              clear hb5 hsz5 hk5 ho5
              simp only [List.getElem_toArray, List.getElem_cons_succ, List.getElem_cons_zero]
              refine hK.out _ _ ?_ (fun hHeld2 => ?_)
              focus
                exact hS _ hk0
              clear hHeld
              have hHeld := hHeld2
              clear hHeld2 hK K
              try simp only [List.getElem_toArray, List.getElem_cons_succ, List.getElem_cons_zero, Act.put, List.setIfInBounds_toArray, List.set_cons_zero, List.set_cons_succ]
              refine wpAnyH_ready (rs := [7]) (by kernel_rfl) (by simp) ?_
              refine (AllReadyH.cons rfl (fun K hK => ?_) AllReadyH.nil)
              obtain ⟨⟨p0, p1, p2, p3⟩, _⟩ := four_cells (keep0 hn3 hk0)
              simp only [List.getElem_toArray, List.getElem_cons_succ, List.getElem_cons_zero]
              try go_simp
              refine hK.out _ _ ?_ (fun hHeld2 => ?_)
              focus
                exact hS _ hk0
              clear hHeld
              have hHeld := hHeld2
              clear hHeld2 hK K
              try simp only [List.getElem_toArray, List.getElem_cons_succ, List.getElem_cons_zero, Act.put, List.setIfInBounds_toArray, List.set_cons_zero, List.set_cons_succ]
              clear p0 p1 p2 p3
              refine wpAnyH_take (i := 10) (v := ?_) rfl (by kernel_rfl) (by kernel_rfl) (by kernel_rfl) (fun _ _ _ h => h) (Or.inl ⟨by rfl, ?_⟩) (by exact hS _ hk0) ?_
              rotate_left
              focus
                intro U hU
                try dsimp only at hU
                go_simp
                try (with_reducible rfl)
              try simp only [List.getElem_toArray, List.getElem_cons_succ, List.getElem_cons_zero, Act.put, List.setIfInBounds_toArray, List.set_cons_zero, List.set_cons_succ]
              refine wpAnyH_ready (rs := [11]) (by kernel_rfl) (by simp) ?_
              refine (AllReadyH.cons rfl (fun K hK => ?_) AllReadyH.nil)
              refine step_append_sl rfl (.tmp 26) (.tmp 31) 111 rfl w3.heap.size 119 Try.underlying111 info_task rfl (by omega) rfl HE.out rfl (HT2.out _ (HB3.out.trans (hk0.mono HB3.out.size))) (pcells_one _) (by unfold maxLen; omega) (by omega) hk0.size ?_
              intro vu3 u3 ho6 hb6 hsz6 hk6
              rw [HEC.out, HMM.out] at ho6
              obtain ⟨A6, c6, rfl, _⟩ := Sl.of_own ho6
              replace hk0 := hk0.trans hb6
              have HO6 := hid ho6
              clear hb6 hsz6 hk6 ho6 HE
              simp only [List.getElem_toArray, List.getElem_cons_succ, List.getElem_cons_zero]
              refine hK.out _ _ ?_ (fun hHeld2 => ?_)
              focus
                exact hS _ hk0
              clear hHeld
              have hHeld := hHeld2
              clear hHeld2 hK K
              try simp only [List.getElem_toArray, List.getElem_cons_succ, List.getElem_cons_zero, Act.put, List.setIfInBounds_toArray, List.set_cons_zero, List.set_cons_succ]
              refine wpAnyH_take (i := 12) (v := ?_) rfl (by kernel_rfl) (by kernel_rfl) (by kernel_rfl) (fun _ _ _ h => h) (Or.inl ⟨by rfl, ?_⟩) (by exact hS _ hk0) ?_
              rotate_left
              focus
                intro U hU
                try dsimp only at hU
                go_simp
                try (with_reducible rfl)
              simp only [List.getElem_toArray, List.getElem_cons_succ, List.getElem_cons_zero, Act.put, List.setIfInBounds_toArray, List.set_cons_zero, List.set_cons_succ]
              refine wpAnyH_ready (rs := [13]) (by kernel_rfl) (by simp) ?_
              refine AllReadyH.cons rfl (fun K hK => ?_) AllReadyH.nil
              obtain ⟨_, f0, f1, f2, f3⟩ := four_cells (keep0 hn3 hk0)
              simp only [List.getElem_toArray, List.getElem_cons_succ, List.getElem_cons_zero]
              go_simp
              refine hK.out _ _ ?_ (fun hHeld2 => ?_)
              focus
                exact (HB3.out.trans (hk0.mono HB3.out.size)).setCell (p := ⟨W.heap.size, 3, none⟩) (Nat.le_refl _) _
              clear hHeld
              have hHeld := hHeld2
              clear hHeld2 hK K
              try simp only [List.getElem_toArray, List.getElem_cons_succ, List.getElem_cons_zero, Act.put, List.setIfInBounds_toArray, List.set_cons_zero, List.set_cons_succ]
              refine wpAnyH_done (by kernel_rfl) ?_ _
              clear hHeld f0 f1 f2 f3
              go_wp2_with fail
              go_meet
              refine ⟨A6, c6, ?_, (Below.heap_setCell _ _ _ _ (show W.heap.size + 2 ≠ W.heap.size by omega)).trans (keep0 hz3 hk0), own_setOld HO6.out _ _ (lt_of_block hn3), (HB3.out.trans (hk0.mono HB3.out.size)).setCell (p := ⟨W.heap.size, 3, none⟩) (Nat.le_refl _) _⟩
              rw [heap_setCell_same _ _ _ _ _ _ (keep0 hn3 hk0)]
              simp
            · skip
              obtain ⟨⟨p0, p1, p2, p3⟩, _⟩ := four_cells (keep0 hn3 hk0)
              simp only [List.getElem_toArray, List.getElem_cons_succ, List.getElem_cons_zero]
              try go_simp
              refine hK.out _ _ ?_ (fun hHeld2 => ?_)
              focus
                exact hS _ hk0
              clear hHeld
              have hHeld := hHeld2
              clear hHeld2 hK K
              try simp only [List.getElem_toArray, List.getElem_cons_succ, List.getElem_cons_zero, Act.put, List.setIfInBounds_toArray, List.set_cons_zero, List.set_cons_succ]
              clear p0 p1 p2 p3
              refine wpAnyH_take (i := 10) (v := ?_) rfl (by kernel_rfl) (by kernel_rfl) (by kernel_rfl) (fun _ _ _ h => h) (Or.inl ⟨by rfl, ?_⟩) (by exact hS _ hk0) ?_
              rotate_left
              focus
                intro U hU
                try dsimp only at hU
                go_simp
                try (with_reducible rfl)
              try simp only [List.getElem_toArray, List.getElem_cons_succ, List.getElem_cons_zero, Act.put, List.setIfInBounds_toArray, List.set_cons_zero, List.set_cons_succ]
              refine wpAnyH_ready (rs := [5]) (by kernel_rfl) (by simp) ?_
              refine (AllReadyH.cons rfl (fun K hK => ?_) AllReadyH.nil)
              refine step_append_sl rfl (.tmp 21) (.tmp 25) 111 rfl w3.heap.size 119 Try.underlying111 info_task rfl (by omega) rfl HE.out rfl (HT1.out _ (HB3.out.trans (hk0.mono HB3.out.size))) (pcells_one _) (by unfold maxLen; omega) (by omega) hk0.size ?_
              intro vu4 u4 ho5 hb5 hsz5 hk5
              simp only [Nat.zero_add, List.nil_append] at ho5
              obtain ⟨A5, c5, rfl, _⟩ := Sl.of_own ho5
              clear HE
              have HE := hid ho5
              replace hk0 := hk0.trans hb5
              clear hb5 hsz5 hk5 ho5
              simp only [List.getElem_toArray, List.getElem_cons_succ, List.getElem_cons_zero]
              refine hK.out _ _ ?_ (fun hHeld2 => ?_)
              focus
                exact hS _ hk0
              clear hHeld
              have hHeld := hHeld2
              clear hHeld2 hK K
              try simp only [List.getElem_toArray, List.getElem_cons_succ, List.getElem_cons_zero, Act.put, List.setIfInBounds_toArray, List.set_cons_zero, List.set_cons_succ]
              refine wpAnyH_ready (rs := [11]) (by kernel_rfl) (by simp) ?_
              refine (AllReadyH.cons rfl (fun K hK => ?_) AllReadyH.nil)
              refine step_append_sl rfl (.tmp 26) (.tmp 31) 111 rfl w3.heap.size 119 Try.underlying111 info_task rfl (by omega) rfl HE.out rfl (HT2.out _ (HB3.out.trans (hk0.mono HB3.out.size))) (pcells_one _) (by unfold maxLen; omega) (by omega) hk0.size ?_
              intro vu5 u5 ho6 hb6 hsz6 hk6
              rw [HEC.out, HMM.out] at ho6
              obtain ⟨A6, c6, rfl, _⟩ := Sl.of_own ho6
              replace hk0 := hk0.trans hb6
              have HO6 := hid ho6
              clear hb6 hsz6 hk6 ho6 HE
              simp only [List.getElem_toArray, List.getElem_cons_succ, List.getElem_cons_zero]
              refine hK.out _ _ ?_ (fun hHeld2 => ?_)
              focus
                exact hS _ hk0
              clear hHeld
              have hHeld := hHeld2
              clear hHeld2 hK K
              try simp only [List.getElem_toArray, List.getElem_cons_succ, List.getElem_cons_zero, Act.put, List.setIfInBounds_toArray, List.set_cons_zero, List.set_cons_succ]
              refine wpAnyH_take (i := 12) (v := ?_) rfl (by kernel_rfl) (by kernel_rfl) (by kernel_rfl) (fun _ _ _ h => h) (Or.inl ⟨by rfl, ?_⟩) (by exact hS _ hk0) ?_
              rotate_left
              focus
                intro U hU
                try dsimp only at hU
                go_simp
                try (with_reducible rfl)
              simp only [List.getElem_toArray, List.getElem_cons_succ, List.getElem_cons_zero, Act.put, List.setIfInBounds_toArray, List.set_cons_zero, List.set_cons_succ]
              refine wpAnyH_ready (rs := [13]) (by kernel_rfl) (by simp) ?_
              refine AllReadyH.cons rfl (fun K hK => ?_) AllReadyH.nil
              obtain ⟨_, f0, f1, f2, f3⟩ := four_cells (keep0 hn3 hk0)
              simp only [List.getElem_toArray, List.getElem_cons_succ, List.getElem_cons_zero]
              go_simp
              refine hK.out _ _ ?_ (fun hHeld2 => ?_)
              focus
                exact (HB3.out.trans (hk0.mono HB3.out.size)).setCell (p := ⟨W.heap.size, 3, none⟩) (Nat.le_refl _) _
              clear hHeld
              have hHeld := hHeld2
              clear hHeld2 hK K
              try simp only [List.getElem_toArray, List.getElem_cons_succ, List.getElem_cons_zero, Act.put, List.setIfInBounds_toArray, List.set_cons_zero, List.set_cons_succ]
              refine wpAnyH_done (by kernel_rfl) ?_ _
              clear hHeld f0 f1 f2 f3
              go_wp2_with fail
              go_meet
              refine ⟨A6, c6, ?_, (Below.heap_setCell _ _ _ _ (show W.heap.size + 2 ≠ W.heap.size by omega)).trans (keep0 hz3 hk0), own_setOld HO6.out _ _ (lt_of_block hn3), (HB3.out.trans (hk0.mono HB3.out.size)).setCell (p := ⟨W.heap.size, 3, none⟩) (Nat.le_refl _) _⟩
              rw [heap_setCell_same _ _ _ _ _ _ (keep0 hn3 hk0)]
              simp
          · skip
            obtain ⟨⟨p0, p1, p2, p3⟩, _⟩ := four_cells (keep0 hn3 hk0)
            simp only [List.getElem_toArray, List.getElem_cons_succ, List.getElem_cons_zero]
            try go_simp
            refine hK.out _ _ ?_ (fun hHeld2 => ?_)
            focus
              exact hS _ hk0
            clear hHeld
            have hHeld := hHeld2
            clear hHeld2 hK K
            try simp only [List.getElem_toArray, List.getElem_cons_succ, List.getElem_cons_zero, Act.put, List.setIfInBounds_toArray, List.set_cons_zero, List.set_cons_succ]
            clear p0 p1 p2 p3
            refine wpAnyH_take (i := 10) (v := ?_) rfl (by kernel_rfl) (by kernel_rfl) (by kernel_rfl) (fun _ _ _ h => h) (Or.inl ⟨by rfl, ?_⟩) (by exact hS _ hk0) ?_
            rotate_left
            focus
              intro U hU
              try dsimp only at hU
              go_simp
              try (with_reducible rfl)
            try simp only [List.getElem_toArray, List.getElem_cons_succ, List.getElem_cons_zero, Act.put, List.setIfInBounds_toArray, List.set_cons_zero, List.set_cons_succ]
            refine wpAnyH_ready (rs := [2]) (by kernel_rfl) (by simp) ?_
            refine (AllReadyH.cons rfl (fun K hK => ?_) AllReadyH.nil)
            obtain ⟨⟨p0, p1, p2, p3⟩, _⟩ := four_cells (keep0 hn3 hk0)
            simp only [List.getElem_toArray, List.getElem_cons_succ, List.getElem_cons_zero]
            try go_simp
            refine hK.out _ _ ?_ (fun hHeld2 => ?_)
            focus
              exact hS _ hk0
            clear hHeld
            have hHeld := hHeld2
            clear hHeld2 hK K
            try simp only [List.getElem_toArray, List.getElem_cons_succ, List.getElem_cons_zero, Act.put, List.setIfInBounds_toArray, List.set_cons_zero, List.set_cons_succ]
            clear p0 p1 p2 p3
            refine wpAnyH_take (i := 4) (v := ?_) rfl (by kernel_rfl) (by kernel_rfl) (by kernel_rfl) (fun _ _ _ h => h) (Or.inl ⟨by rfl, ?_⟩) (by exact hS _ hk0) ?_
            rotate_left
            focus
              intro U hU
              try dsimp only at hU
              go_simp
              try (with_reducible rfl)
            try simp only [List.getElem_toArray, List.getElem_cons_succ, List.getElem_cons_zero, Act.put, List.setIfInBounds_toArray, List.set_cons_zero, List.set_cons_succ]
            refine wpAnyH_ready (rs := [5]) (by kernel_rfl) (by simp) ?_
            refine (AllReadyH.cons rfl (fun K hK => ?_) AllReadyH.nil)
            refine step_append_sl rfl (.tmp 21) (.tmp 25) 111 rfl w3.heap.size 119 Try.underlying111 info_task rfl (by omega) rfl HE.out rfl (HT1.out _ (HB3.out.trans (hk0.mono HB3.out.size))) (pcells_one _) (by unfold maxLen; omega) (by omega) hk0.size ?_
            intro vu6 u6 ho5 hb5 hsz5 hk5
            simp only [Nat.zero_add, List.nil_append] at ho5
            obtain ⟨A5, c5, rfl, _⟩ := Sl.of_own ho5
            clear HE
            have HE := hid ho5
            replace hk0 := hk0.trans hb5
            clear hb5 hsz5 hk5 ho5
            simp only [List.getElem_toArray, List.getElem_cons_succ, List.getElem_cons_zero]
            refine hK.out _ _ ?_ (fun hHeld2 => ?_)
            focus
              exact hS _ hk0
            clear hHeld
            have hHeld := hHeld2
            clear hHeld2 hK K
            try simp only [List.getElem_toArray, List.getElem_cons_succ, List.getElem_cons_zero, Act.put, List.setIfInBounds_toArray, List.set_cons_zero, List.set_cons_succ]
            refine wpAnyH_ready (rs := [11]) (by kernel_rfl) (by simp) ?_
            refine (AllReadyH.cons rfl (fun K hK => ?_) AllReadyH.nil)
            refine step_append_sl rfl (.tmp 26) (.tmp 31) 111 rfl w3.heap.size 119 Try.underlying111 info_task rfl (by omega) rfl HE.out rfl (HT2.out _ (HB3.out.trans (hk0.mono HB3.out.size))) (pcells_one _) (by unfold maxLen; omega) (by omega) hk0.size ?_
            intro vu7 u7 ho6 hb6 hsz6 hk6
            rw [HEC.out, HMM.out] at ho6
            obtain ⟨A6, c6, rfl, _⟩ := Sl.of_own ho6
            replace hk0 := hk0.trans hb6
            have HO6 := hid ho6
            clear hb6 hsz6 hk6 ho6 HE
            simp only [List.getElem_toArray, List.getElem_cons_succ, List.getElem_cons_zero]
            refine hK.out _ _ ?_ (fun hHeld2 => ?_)
            focus
              exact hS _ hk0
            clear hHeld
            have hHeld := hHeld2
            clear hHeld2 hK K
            try simp only [List.getElem_toArray, List.getElem_cons_succ, List.getElem_cons_zero, Act.put, List.setIfInBounds_toArray, List.set_cons_zero, List.set_cons_succ]
            refine wpAnyH_take (i := 12) (v := ?_) rfl (by kernel_rfl) (by kernel_rfl) (by kernel_rfl) (fun _ _ _ h => h) (Or.inl ⟨by rfl, ?_⟩) (by exact hS _ hk0) ?_
            rotate_left
            focus
              intro U hU
              try dsimp only at hU
              go_simp
              try (with_reducible rfl)
            simp only [List.getElem_toArray, List.getElem_cons_succ, List.getElem_cons_zero, Act.put, List.setIfInBounds_toArray, List.set_cons_zero, List.set_cons_succ]
            refine wpAnyH_ready (rs := [13]) (by kernel_rfl) (by simp) ?_
            refine AllReadyH.cons rfl (fun K hK => ?_) AllReadyH.nil
            obtain ⟨_, f0, f1, f2, f3⟩ := four_cells (keep0 hn3 hk0)
            simp only [List.getElem_toArray, List.getElem_cons_succ, List.getElem_cons_zero]
            go_simp
            refine hK.out _ _ ?_ (fun hHeld2 => ?_)
            focus
              exact (HB3.out.trans (hk0.mono HB3.out.size)).setCell (p := ⟨W.heap.size, 3, none⟩) (Nat.le_refl _) _
            clear hHeld
            have hHeld := hHeld2
            clear hHeld2 hK K
            try simp only [List.getElem_toArray, List.getElem_cons_succ, List.getElem_cons_zero, Act.put, List.setIfInBounds_toArray, List.set_cons_zero, List.set_cons_succ]
            refine wpAnyH_done (by kernel_rfl) ?_ _
            clear hHeld f0 f1 f2 f3
            go_wp2_with fail
            go_meet
            refine ⟨A6, c6, ?_, (Below.heap_setCell _ _ _ _ (show W.heap.size + 2 ≠ W.heap.size by omega)).trans (keep0 hz3 hk0), own_setOld HO6.out _ _ (lt_of_block hn3), (HB3.out.trans (hk0.mono HB3.out.size)).setCell (p := ⟨W.heap.size, 3, none⟩) (Nat.le_refl _) _⟩
            rw [heap_setCell_same _ _ _ _ _ _ (keep0 hn3 hk0)]
            simp
        · skip
          obtain ⟨⟨p0, p1, p2, p3⟩, _⟩ := four_cells (keep0 hn3 hk0)
          simp only [List.getElem_toArray, List.getElem_cons_succ, List.getElem_cons_zero]
          try go_simp
          refine hK.out _ _ ?_ (fun hHeld2 => ?_)
          focus
            exact hS _ hk0
          clear hHeld
          have hHeld := hHeld2
          clear hHeld2 hK K
          try simp only [List.getElem_toArray, List.getElem_cons_succ, List.getElem_cons_zero, Act.put, List.setIfInBounds_toArray, List.set_cons_zero, List.set_cons_succ]
          clear p0 p1 p2 p3
          refine wpAnyH_take (i := 4) (v := ?_) rfl (by kernel_rfl) (by kernel_rfl) (by kernel_rfl) (fun _ _ _ h => h) (Or.inl ⟨by rfl, ?_⟩) (by exact hS _ hk0) ?_
          rotate_left
          focus
            intro U hU
            try dsimp only at hU
            go_simp
            try (with_reducible rfl)
          try simp only [List.getElem_toArray, List.getElem_cons_succ, List.getElem_cons_zero, Act.put, List.setIfInBounds_toArray, List.set_cons_zero, List.set_cons_succ]
          refine wpAnyH_ready (rs := [0, 7]) (by kernel_rfl) (by simp) ?_
          refine (AllReadyH.cons rfl (fun K hK => ?_) (AllReadyH.cons rfl (fun K hK => ?_) AllReadyH.nil))
          · skip
            have hbs : Below (World.heap k0).size k0 (World.alloc k0 (.cells #[] 119)) := (Below.refl _ _).alloc (Nat.le_refl _) _
            have HE := hid (own_mono (own_empty k0 119 2) hk0.size)
            replace hk0 := hk0.trans (hbs.mono hk0.size)
            clear hbs
            simp only [List.getElem_toArray, List.getElem_cons_succ, List.getElem_cons_zero]
            go_simp
            refine hK.out _ _ ?_ (fun hHeld2 => ?_)
            focus
              exact hS _ hk0
            clear hHeld
            have hHeld := hHeld2
            clear hHeld2 hK K
            try simp only [List.getElem_toArray, List.getElem_cons_succ, List.getElem_cons_zero, Act.put, List.setIfInBounds_toArray, List.set_cons_zero, List.set_cons_succ]
            generalize (World.alloc k0 (.cells #[] 119)) = u8 at *
            generalize (World.heap k0).size = XE at *
            refine wpAnyH_ready (rs := [5, 7]) (by kernel_rfl) (by simp) ?_
            refine (AllReadyH.cons rfl (fun K hK => ?_) (AllReadyH.cons rfl (fun K hK => ?_) AllReadyH.nil))
            · skip
              refine step_append_sl rfl (.tmp 21) (.tmp 25) 111 rfl w3.heap.size 119 Try.underlying111 info_task rfl (by omega) rfl HE.out rfl (HT1.out _ (HB3.out.trans (hk0.mono HB3.out.size))) (pcells_one _) (by unfold maxLen; omega) (by omega) hk0.size ?_
              intro vu9 u9 ho5 hb5 hsz5 hk5
              simp only [Nat.zero_add, List.nil_append] at ho5
              obtain ⟨A5, c5, rfl, _⟩ := Sl.of_own ho5
              clear HE
              have HE := hid ho5
              replace hk0 := hk0.trans hb5
              clear hb5 hsz5 hk5 ho5
              simp only [List.getElem_toArray, List.getElem_cons_succ, List.getElem_cons_zero]
              refine hK.out _ _ ?_ (fun hHeld2 => ?_)
              focus
                exact hS _ hk0
              clear hHeld
              have hHeld := hHeld2
              clear hHeld2 hK K
              try simp only [List.getElem_toArray, List.getElem_cons_succ, List.getElem_cons_zero, Act.put, List.setIfInBounds_toArray, List.set_cons_zero, List.set_cons_succ]
              refine wpAnyH_ready (rs := [7]) (by kernel_rfl) (by simp) ?_
              refine (AllReadyH.cons rfl (fun K hK => ?_) AllReadyH.nil)
              obtain ⟨⟨p0, p1, p2, p3⟩, _⟩ := four_cells (keep0 hn3 hk0)
              simp only [List.getElem_toArray, List.getElem_cons_succ, List.getElem_cons_zero]
              try go_simp
              refine hK.out _ _ ?_ (fun hHeld2 => ?_)
              focus
                exact hS _ hk0
              clear hHeld
              have hHeld := hHeld2
              clear hHeld2 hK K
              try simp only [List.getElem_toArray, List.getElem_cons_succ, List.getElem_cons_zero, Act.put, List.setIfInBounds_toArray, List.set_cons_zero, List.set_cons_succ]
              clear p0 p1 p2 p3
              refine wpAnyH_take (i := 10) (v := ?_) rfl (by kernel_rfl) (by kernel_rfl) (by kernel_rfl) (fun _ _ _ h => h) (Or.inl ⟨by rfl, ?_⟩) (by exact hS _ hk0) ?_
              rotate_left
              focus
                intro U hU
                try dsimp only at hU
                go_simp
                try (with_reducible rfl)
              try simp only [List.getElem_toArray, List.getElem_cons_succ, List.getElem_cons_zero, Act.put, List.setIfInBounds_toArray, List.set_cons_zero, List.set_cons_succ]
              refine wpAnyH_ready (rs := [11]) (by kernel_rfl) (by simp) ?_
              refine (AllReadyH.cons rfl (fun K hK => ?_) AllReadyH.nil)
              refine step_append_sl rfl (.tmp 26) (.tmp 31) 111 rfl w3.heap.size 119 Try.underlying111 info_task rfl (by omega) rfl HE.out rfl (HT2.out _ (HB3.out.trans (hk0.mono HB3.out.size))) (pcells_one _) (by unfold maxLen; omega) (by omega) hk0.size ?_
              intro vu10 u10 ho6 hb6 hsz6 hk6
              rw [HEC.out, HMM.out] at ho6
              obtain ⟨A6, c6, rfl, _⟩ := Sl.of_own ho6
              replace hk0 := hk0.trans hb6
              have HO6 := hid ho6
              clear hb6 hsz6 hk6 ho6 HE
              simp only [List.getElem_toArray, List.getElem_cons_succ, List.getElem_cons_zero]
              refine hK.out _ _ ?_ (fun hHeld2 => ?_)
              focus
                exact hS _ hk0
              clear hHeld
              have hHeld := hHeld2
              clear hHeld2 hK K
              try simp only [List.getElem_toArray, List.getElem_cons_succ, List.getElem_cons_zero, Act.put, List.setIfInBounds_toArray, List.set_cons_zero, List.set_cons_succ]
              refine wpAnyH_take (i := 12) (v := ?_) rfl (by kernel_rfl) (by kernel_rfl) (by kernel_rfl) (fun _ _ _ h => h) (Or.inl ⟨by rfl, ?_⟩) (by exact hS _ hk0) ?_
              rotate_left
              focus
                intro U hU
                try dsimp only at hU
                go_simp
                try (with_reducible rfl)
              simp only [List.getElem_toArray, List.getElem_cons_succ, List.getElem_cons_zero, Act.put, List.setIfInBounds_toArray, List.set_cons_zero, List.set_cons_succ]
              refine wpAnyH_ready (rs := [13]) (by kernel_rfl) (by simp) ?_
              refine AllReadyH.cons rfl (fun K hK => ?_) AllReadyH.nil
              obtain ⟨_, f0, f1, f2, f3⟩ := four_cells (keep0 hn3 hk0)
              simp only [List.getElem_toArray, List.getElem_cons_succ, List.getElem_cons_zero]
              go_simp
              refine hK.out _ _ ?_ (fun hHeld2 => ?_)
              focus
                exact (HB3.out.trans (hk0.mono HB3.out.size)).setCell (p := ⟨W.heap.size, 3, none⟩) (Nat.le_refl _) _
              clear hHeld
              have hHeld := hHeld2
              clear hHeld2 hK K
              try simp only [List.getElem_toArray, List.getElem_cons_succ, List.getElem_cons_zero, Act.put, List.setIfInBounds_toArray, List.set_cons_zero, List.set_cons_succ]
              refine wpAnyH_done (by kernel_rfl) ?_ _
              clear hHeld f0 f1 f2 f3
              go_wp2_with fail
              go_meet
              refine ⟨A6, c6, ?_, (Below.heap_setCell _ _ _ _ (show W.heap.size + 2 ≠ W.heap.size by omega)).trans (keep0 hz3 hk0), own_setOld HO6.out _ _ (lt_of_block hn3), (HB3.out.trans (hk0.mono HB3.out.size)).setCell (p := ⟨W.heap.size, 3, none⟩) (Nat.le_refl _) _⟩
              rw [heap_setCell_same _ _ _ _ _ _ (keep0 hn3 hk0)]
              simp
            · skip
              obtain ⟨⟨p0, p1, p2, p3⟩, _⟩ := four_cells (keep0 hn3 hk0)
              simp only [List.getElem_toArray, List.getElem_cons_succ, List.getElem_cons_zero]
              try go_simp
              refine hK.out _ _ ?_ (fun hHeld2 => ?_)
              focus
                exact hS _ hk0
              clear hHeld
              have hHeld := hHeld2
              clear hHeld2 hK K
              try simp only [List.getElem_toArray, List.getElem_cons_succ, List.getElem_cons_zero, Act.put, List.setIfInBounds_toArray, List.set_cons_zero, List.set_cons_succ]
              clear p0 p1 p2 p3
              refine wpAnyH_take (i := 10) (v := ?_) rfl (by kernel_rfl) (by kernel_rfl) (by kernel_rfl) (fun _ _ _ h => h) (Or.inl ⟨by rfl, ?_⟩) (by exact hS _ hk0) ?_
              rotate_left
              focus
                intro U hU
                try dsimp only at hU
                go_simp
                try (with_reducible rfl)
              try simp only [List.getElem_toArray, List.getElem_cons_succ, List.getElem_cons_zero, Act.put, List.setIfInBounds_toArray, List.set_cons_zero, List.set_cons_succ]
              refine wpAnyH_ready (rs := [5]) (by kernel_rfl) (by simp) ?_
              refine (AllReadyH.cons rfl (fun K hK => ?_) AllReadyH.nil)
              refine step_append_sl rfl (.tmp 21) (.tmp 25) 111 rfl w3.heap.size 119 Try.underlying111 info_task rfl (by omega) rfl HE.out rfl (HT1.out _ (HB3.out.trans (hk0.mono HB3.out.size))) (pcells_one _) (by unfold maxLen; omega) (by omega) hk0.size ?_
              intro vu11 u11 ho5 hb5 hsz5 hk5
              simp only [Nat.zero_add, List.nil_append] at ho5
              obtain ⟨A5, c5, rfl, _⟩ := Sl.of_own ho5
              clear HE
              have HE := hid ho5
              replace hk0 := hk0.trans hb5
              clear hb5 hsz5 hk5 ho5
              simp only [List.getElem_toArray, List.getElem_cons_succ, List.getElem_cons_zero]
              refine hK.out _ _ ?_ (fun hHeld2 => ?_)
              focus
                exact hS _ hk0
              clear hHeld
              have hHeld := hHeld2
              clear hHeld2 hK K
              try simp only [List.getElem_toArray, List.getElem_cons_succ, List.getElem_cons_zero, Act.put, List.setIfInBounds_toArray, List.set_cons_zero, List.set_cons_succ]
              refine wpAnyH_ready (rs := [11]) (by kernel_rfl) (by simp) ?_
              refine (AllReadyH.cons rfl (fun K hK => ?_) AllReadyH.nil)
              refine step_append_sl rfl (.tmp 26) (.tmp 31) 111 rfl w3.heap.size 119 Try.underlying111 info_task rfl (by omega) rfl HE.out rfl (HT2.out _ (HB3.out.trans (hk0.mono HB3.out.size))) (pcells_one _) (by unfold maxLen; omega) (by omega) hk0.size ?_
              intro vu12 u12 ho6 hb6 hsz6 hk6
              rw [HEC.out, HMM.out] at ho6
              obtain ⟨A6, c6, rfl, _⟩ := Sl.of_own ho6
              replace hk0 := hk0.trans hb6
              have HO6 := hid ho6
              clear hb6 hsz6 hk6 ho6 HE
              simp only [List.getElem_toArray, List.getElem_cons_succ, List.getElem_cons_zero]
              refine hK.out _ _ ?_ (fun hHeld2 => ?_)
              focus
                exact hS _ hk0
              clear hHeld
              have hHeld := hHeld2
              clear hHeld2 hK K
              try simp only [List.getElem_toArray, List.getElem_cons_succ, List.getElem_cons_zero, Act.put, List.setIfInBounds_toArray, List.set_cons_zero, List.set_cons_succ]
              refine wpAnyH_take (i := 12) (v := ?_) rfl (by kernel_rfl) (by kernel_rfl) (by kernel_rfl) (fun _ _ _ h => h) (Or.inl ⟨by rfl, ?_⟩) (by exact hS _ hk0) ?_
              rotate_left
              focus
                intro U hU
                try dsimp only at hU
                go_simp
                try (with_reducible rfl)
              simp only [List.getElem_toArray, List.getElem_cons_succ, List.getElem_cons_zero, Act.put, List.setIfInBounds_toArray, List.set_cons_zero, List.set_cons_succ]
              refine wpAnyH_ready (rs := [13]) (by kernel_rfl) (by simp) ?_
              refine AllReadyH.cons rfl (fun K hK => ?_) AllReadyH.nil
              obtain ⟨_, f0, f1, f2, f3⟩ := four_cells (keep0 hn3 hk0)
              simp only [List.getElem_toArray, List.getElem_cons_succ, List.getElem_cons_zero]
              go_simp
              refine hK.out _ _ ?_ (fun hHeld2 => ?_)
              focus
                exact (HB3.out.trans (hk0.mono HB3.out.size)).setCell (p := ⟨W.heap.size, 3, none⟩) (Nat.le_refl _) _
              clear hHeld
              have hHeld := hHeld2
              clear hHeld2 hK K
              try simp only [List.getElem_toArray, List.getElem_cons_succ, List.getElem_cons_zero, Act.put, List.setIfInBounds_toArray, List.set_cons_zero, List.set_cons_succ]
              refine wpAnyH_done (by kernel_rfl) ?_ _
              clear hHeld f0 f1 f2 f3
              go_wp2_with fail
              go_meet
              refine ⟨A6, c6, ?_, (Below.heap_setCell _ _ _ _ (show W.heap.size + 2 ≠ W.heap.size by omega)).trans (keep0 hz3 hk0), own_setOld HO6.out _ _ (lt_of_block hn3), (HB3.out.trans (hk0.mono HB3.out.size)).setCell (p := ⟨W.heap.size, 3, none⟩) (Nat.le_refl _) _⟩
              rw [heap_setCell_same _ _ _ _ _ _ (keep0 hn3 hk0)]
              simp
          · skip
            obtain ⟨⟨p0, p1, p2, p3⟩, _⟩ := four_cells (keep0 hn3 hk0)
            simp only [List.getElem_toArray, List.getElem_cons_succ, List.getElem_cons_zero]
            try go_simp
            refine hK.out _ _ ?_ (fun hHeld2 => ?_)
            focus
              exact hS _ hk0
            clear hHeld
            have hHeld := hHeld2
            clear hHeld2 hK K
            try simp only [List.getElem_toArray, List.getElem_cons_succ, List.getElem_cons_zero, Act.put, List.setIfInBounds_toArray, List.set_cons_zero, List.set_cons_succ]
            clear p0 p1 p2 p3
            refine wpAnyH_take (i := 10) (v := ?_) rfl (by kernel_rfl) (by kernel_rfl) (by kernel_rfl) (fun _ _ _ h => h) (Or.inl ⟨by rfl, ?_⟩) (by exact hS _ hk0) ?_
            rotate_left
            focus
              intro U hU
              try dsimp only at hU
              go_simp
              try (with_reducible rfl)
            try simp only [List.getElem_toArray, List.getElem_cons_succ, List.getElem_cons_zero, Act.put, List.setIfInBounds_toArray, List.set_cons_zero, List.set_cons_succ]
            refine wpAnyH_ready (rs := [0]) (by kernel_rfl) (by simp) ?_
            refine (AllReadyH.cons rfl (fun K hK => ?_) AllReadyH.nil)
            have hbs : Below (World.heap k0).size k0 (World.alloc k0 (.cells #[] 119)) := (Below.refl _ _).alloc (Nat.le_refl _) _
            have HE := hid (own_mono (own_empty k0 119 2) hk0.size)
            replace hk0 := hk0.trans (hbs.mono hk0.size)
            clear hbs
            simp only [List.getElem_toArray, List.getElem_cons_succ, List.getElem_cons_zero]
            go_simp
            refine hK.out _ _ ?_ (fun hHeld2 => ?_)
            focus
              exact hS _ hk0
            clear hHeld
            have hHeld := hHeld2
            clear hHeld2 hK K
            try simp only [List.getElem_toArray, List.getElem_cons_succ, List.getElem_cons_zero, Act.put, List.setIfInBounds_toArray, List.set_cons_zero, List.set_cons_succ]
            generalize (World.alloc k0 (.cells #[] 119)) = u13 at *
            generalize (World.heap k0).size = XE at *
            refine wpAnyH_ready (rs := [5]) (by kernel_rfl) (by simp) ?_
            refine (AllReadyH.cons rfl (fun K hK => ?_) AllReadyH.nil)
            refine step_append_sl rfl (.tmp 21) (.tmp 25) 111 rfl w3.heap.size 119 Try.underlying111 info_task rfl (by omega) rfl HE.out rfl (HT1.out _ (HB3.out.trans (hk0.mono HB3.out.size))) (pcells_one _) (by unfold maxLen; omega) (by omega) hk0.size ?_
            intro vu14 u14 ho5 hb5 hsz5 hk5
            simp only [Nat.zero_add, List.nil_append] at ho5
            obtain ⟨A5, c5, rfl, _⟩ := Sl.of_own ho5
            clear HE
            have HE := hid ho5
            replace hk0 := hk0.trans hb5
            clear hb5 hsz5 hk5 ho5
            simp only [List.getElem_toArray, List.getElem_cons_succ, List.getElem_cons_zero]
            refine hK.out _ _ ?_ (fun hHeld2 => ?_)
            focus
              exact hS _ hk0
            clear hHeld
            have hHeld := hHeld2
            clear hHeld2 hK K
            try simp only [List.getElem_toArray, List.getElem_cons_succ, List.getElem_cons_zero, Act.put, List.setIfInBounds_toArray, List.set_cons_zero, List.set_cons_succ]
            refine wpAnyH_ready (rs := [11]) (by kernel_rfl) (by simp) ?_
            refine (AllReadyH.cons rfl (fun K hK => ?_) AllReadyH.nil)
            refine step_append_sl rfl (.tmp 26) (.tmp 31) 111 rfl w3.heap.size 119 Try.underlying111 info_task rfl (by omega) rfl HE.out rfl (HT2.out _ (HB3.out.trans (hk0.mono HB3.out.size))) (pcells_one _) (by unfold maxLen; omega) (by omega) hk0.size ?_
            intro vu15 u15 ho6 hb6 hsz6 hk6
            rw [HEC.out, HMM.out] at ho6
            obtain ⟨A6, c6, rfl, _⟩ := Sl.of_own ho6
            replace hk0 := hk0.trans hb6
            have HO6 := hid ho6
            clear hb6 hsz6 hk6 ho6 HE
            simp only [List.getElem_toArray, List.getElem_cons_succ, List.getElem_cons_zero]
            refine hK.out _ _ ?_ (fun hHeld2 => ?_)
            focus
              exact hS _ hk0
            clear hHeld
            have hHeld := hHeld2
            clear hHeld2 hK K
            try simp only [List.getElem_toArray, List.getElem_cons_succ, List.getElem_cons_zero, Act.put, List.setIfInBounds_toArray, List.set_cons_zero, List.set_cons_succ]
            refine wpAnyH_take (i := 12) (v := ?_) rfl (by kernel_rfl) (by kernel_rfl) (by kernel_rfl) (fun _ _ _ h => h) (Or.inl ⟨by rfl, ?_⟩) (by exact hS _ hk0) ?_
            rotate_left
            focus
              intro U hU
              try dsimp only at hU
              go_simp
              try (with_reducible rfl)
            simp only [List.getElem_toArray, List.getElem_cons_succ, List.getElem_cons_zero, Act.put, List.setIfInBounds_toArray, List.set_cons_zero, List.set_cons_succ]
            refine wpAnyH_ready (rs := [13]) (by kernel_rfl) (by simp) ?_
            refine AllReadyH.cons rfl (fun K hK => ?_) AllReadyH.nil
            obtain ⟨_, f0, f1, f2, f3⟩ := four_cells (keep0 hn3 hk0)
            simp only [List.getElem_toArray, List.getElem_cons_succ, List.getElem_cons_zero]
            go_simp
            refine hK.out _ _ ?_ (fun hHeld2 => ?_)
            focus
              exact (HB3.out.trans (hk0.mono HB3.out.size)).setCell (p := ⟨W.heap.size, 3, none⟩) (Nat.le_refl _) _
            clear hHeld
            have hHeld := hHeld2
            clear hHeld2 hK K
            try simp only [List.getElem_toArray, List.getElem_cons_succ, List.getElem_cons_zero, Act.put, List.setIfInBounds_toArray, List.set_cons_zero, List.set_cons_succ]
            refine wpAnyH_done (by kernel_rfl) ?_ _
            clear hHeld f0 f1 f2 f3
            go_wp2_with fail
            go_meet
            refine ⟨A6, c6, ?_, (Below.heap_setCell _ _ _ _ (show W.heap.size + 2 ≠ W.heap.size by omega)).trans (keep0 hz3 hk0), own_setOld HO6.out _ _ (lt_of_block hn3), (HB3.out.trans (hk0.mono HB3.out.size)).setCell (p := ⟨W.heap.size, 3, none⟩) (Nat.le_refl _) _⟩
            rw [heap_setCell_same _ _ _ _ _ _ (keep0 hn3 hk0)]
            simp
        · skip
          obtain ⟨⟨p0, p1, p2, p3⟩, _⟩ := four_cells (keep0 hn3 hk0)
          simp only [List.getElem_toArray, List.getElem_cons_succ, List.getElem_cons_zero]
          try go_simp
          refine hK.out _ _ ?_ (fun hHeld2 => ?_)
          focus
            exact hS _ hk0
          clear hHeld
          have hHeld := hHeld2
          clear hHeld2 hK K
          try simp only [List.getElem_toArray, List.getElem_cons_succ, List.getElem_cons_zero, Act.put, List.setIfInBounds_toArray, List.set_cons_zero, List.set_cons_succ]
          clear p0 p1 p2 p3
          refine wpAnyH_take (i := 10) (v := ?_) rfl (by kernel_rfl) (by kernel_rfl) (by kernel_rfl) (fun _ _ _ h => h) (Or.inl ⟨by rfl, ?_⟩) (by exact hS _ hk0) ?_
          rotate_left
          focus
            intro U hU
            try dsimp only at hU
            go_simp
            try (with_reducible rfl)
          try simp only [List.getElem_toArray, List.getElem_cons_succ, List.getElem_cons_zero, Act.put, List.setIfInBounds_toArray, List.set_cons_zero, List.set_cons_succ]
          refine wpAnyH_ready (rs := [0, 2]) (by kernel_rfl) (by simp) ?_
          refine (AllReadyH.cons rfl (fun K hK => ?_) (AllReadyH.cons rfl (fun K hK => ?_) AllReadyH.nil))
          · skip
            have hbs : Below (World.heap k0).size k0 (World.alloc k0 (.cells #[] 119)) := (Below.refl _ _).alloc (Nat.le_refl _) _
            have HE := hid (own_mono (own_empty k0 119 2) hk0.size)
            replace hk0 := hk0.trans (hbs.mono hk0.size)
            clear hbs
            simp only [List.getElem_toArray, List.getElem_cons_succ, List.getElem_cons_zero]
            go_simp
            refine hK.out _ _ ?_ (fun hHeld2 => ?_)
            focus
              exact hS _ hk0
            clear hHeld
            have hHeld := hHeld2
            clear hHeld2 hK K
            try simp only [List.getElem_toArray, List.getElem_cons_succ, List.getElem_cons_zero, Act.put, List.setIfInBounds_toArray, List.set_cons_zero, List.set_cons_succ]
            generalize (World.alloc k0 (.cells #[] 119)) = u16 at *
            generalize (World.heap k0).size = XE at *
            refine wpAnyH_ready (rs := [2]) (by kernel_rfl) (by simp) ?_
            refine (AllReadyH.cons rfl (fun K hK => ?_) AllReadyH.nil)
            obtain ⟨⟨p0, p1, p2, p3⟩, _⟩ := four_cells (keep0 hn3 hk0)
            simp only [List.getElem_toArray, List.getElem_cons_succ, List.getElem_cons_zero]
            try go_simp
            refine hK.out _ _ ?_ (fun hHeld2 => ?_)
            focus
              exact hS _ hk0
            clear hHeld
            have hHeld := hHeld2
            clear hHeld2 hK K
            try simp only [List.getElem_toArray, List.getElem_cons_succ, List.getElem_cons_zero, Act.put, List.setIfInBounds_toArray, List.set_cons_zero, List.set_cons_succ]
            clear p0 p1 p2 p3
            refine wpAnyH_take (i := 4) (v := ?_) rfl (by kernel_rfl) (by kernel_rfl) (by kernel_rfl) (fun _ _ _ h => h) (Or.inl ⟨by rfl, ?_⟩) (by exact hS _ hk0) ?_
            rotate_left
            focus
              intro U hU
              try dsimp only at hU
              go_simp
              try (with_reducible rfl)
            try simp only [List.getElem_toArray, List.getElem_cons_succ, List.getElem_cons_zero, Act.put, List.setIfInBounds_toArray, List.set_cons_zero, List.set_cons_succ]
            refine wpAnyH_ready (rs := [5]) (by kernel_rfl) (by simp) ?_
            refine (AllReadyH.cons rfl (fun K hK => ?_) AllReadyH.nil)
            refine step_append_sl rfl (.tmp 21) (.tmp 25) 111 rfl w3.heap.size 119 Try.underlying111 info_task rfl (by omega) rfl HE.out rfl (HT1.out _ (HB3.out.trans (hk0.mono HB3.out.size))) (pcells_one _) (by unfold maxLen; omega) (by omega) hk0.size ?_
            intro vu17 u17 ho5 hb5 hsz5 hk5
            simp only [Nat.zero_add, List.nil_append] at ho5
            obtain ⟨A5, c5, rfl, _⟩ := Sl.of_own ho5
            clear HE
            have HE := hid ho5
            replace hk0 := hk0.trans hb5
            clear hb5 hsz5 hk5 ho5
            simp only [List.getElem_toArray, List.getElem_cons_succ, List.getElem_cons_zero]
            refine hK.out _ _ ?_ (fun hHeld2 => ?_)
            focus
              exact hS _ hk0
            clear hHeld
            have hHeld := hHeld2
            clear hHeld2 hK K
            try simp only [List.getElem_toArray, List.getElem_cons_succ, List.getElem_cons_zero, Act.put, List.setIfInBounds_toArray, List.set_cons_zero, List.set_cons_succ]
            refine wpAnyH_ready (rs := [11]) (by kernel_rfl) (by simp) ?_
            refine (AllReadyH.cons rfl (fun K hK => ?_) AllReadyH.nil)
            refine step_append_sl rfl (.tmp 26) (.tmp 31) 111 rfl w3.heap.size 119 Try.underlying111 info_task rfl (by omega) rfl HE.out rfl (HT2.out _ (HB3.out.trans (hk0.mono HB3.out.size))) (pcells_one _) (by unfold maxLen; omega) (by omega) hk0.size ?_
            intro vu18 u18 ho6 hb6 hsz6 hk6
            rw [HEC.out, HMM.out] at ho6
            obtain ⟨A6, c6, rfl, _⟩ := Sl.of_own ho6
            replace hk0 := hk0.trans hb6
            have HO6 := hid ho6
            clear hb6 hsz6 hk6 ho6 HE
            simp only [List.getElem_toArray, List.getElem_cons_succ, List.getElem_cons_zero]
            refine hK.out _ _ ?_ (fun hHeld2 => ?_)
            focus
              exact hS _ hk0
            clear hHeld
            have hHeld := hHeld2
            clear hHeld2 hK K
            try simp only [List.getElem_toArray, List.getElem_cons_succ, List.getElem_cons_zero, Act.put, List.setIfInBounds_toArray, List.set_cons_zero, List.set_cons_succ]
            refine wpAnyH_take (i := 12) (v := ?_) rfl (by kernel_rfl) (by kernel_rfl) (by kernel_rfl) (fun _ _ _ h => h) (Or.inl ⟨by rfl, ?_⟩) (by exact hS _ hk0) ?_
            rotate_left
            focus
              intro U hU
              try dsimp only at hU
              go_simp
              try (with_reducible rfl)
            simp only [List.getElem_toArray, List.getElem_cons_succ, List.getElem_cons_zero, Act.put, List.setIfInBounds_toArray, List.set_cons_zero, List.set_cons_succ]
            refine wpAnyH_ready (rs := [13]) (by kernel_rfl) (by simp) ?_
            refine AllReadyH.cons rfl (fun K hK => ?_) AllReadyH.nil
            obtain ⟨_, f0, f1, f2, f3⟩ := four_cells (keep0 hn3 hk0)
            simp only [List.getElem_toArray, List.getElem_cons_succ, List.getElem_cons_zero]
            go_simp
            refine hK.out _ _ ?_ (fun hHeld2 => ?_)
            focus
              exact (HB3.out.trans (hk0.mono HB3.out.size)).setCell (p := ⟨W.heap.size, 3, none⟩) (Nat.le_refl _) _
            clear hHeld
            have hHeld := hHeld2
            clear hHeld2 hK K
            try simp only [List.getElem_toArray, List.getElem_cons_succ, List.getElem_cons_zero, Act.put, List.setIfInBounds_toArray, List.set_cons_zero, List.set_cons_succ]
            refine wpAnyH_done (by kernel_rfl) ?_ _
            clear hHeld f0 f1 f2 f3
            go_wp2_with fail
            go_meet
            refine ⟨A6, c6, ?_, (Below.heap_setCell _ _ _ _ (show W.heap.size + 2 ≠ W.heap.size by omega)).trans (keep0 hz3 hk0), own_setOld HO6.out _ _ (lt_of_block hn3), (HB3.out.trans (hk0.mono HB3.out.size)).setCell (p := ⟨W.heap.size, 3, none⟩) (Nat.le_refl _) _⟩
            rw [heap_setCell_same _ _ _ _ _ _ (keep0 hn3 hk0)]
            simp
          · skip
            obtain ⟨⟨p0, p1, p2, p3⟩, _⟩ := four_cells (keep0 hn3 hk0)
            simp only [List.getElem_toArray, List.getElem_cons_succ, List.getElem_cons_zero]
            try go_simp
            refine hK.out _ _ ?_ (fun hHeld2 => ?_)
            focus
              exact hS _ hk0
            clear hHeld
            have hHeld := hHeld2
            clear hHeld2 hK K
            try simp only [List.getElem_toArray, List.getElem_cons_succ, List.getElem_cons_zero, Act.put, List.setIfInBounds_toArray, List.set_cons_zero, List.set_cons_succ]
            clear p0 p1 p2 p3
            refine wpAnyH_take (i := 4) (v := ?_) rfl (by kernel_rfl) (by kernel_rfl) (by kernel_rfl) (fun _ _ _ h => h) (Or.inl ⟨by rfl, ?_⟩) (by exact hS _ hk0) ?_
            rotate_left
            focus
              intro U hU
              try dsimp only at hU
              go_simp
              try (with_reducible rfl)
            try simp only [List.getElem_toArray, List.getElem_cons_succ, List.getElem_cons_zero, Act.put, List.setIfInBounds_toArray, List.set_cons_zero, List.set_cons_succ]
            refine wpAnyH_ready (rs := [0]) (by kernel_rfl) (by simp) ?_
            refine (AllReadyH.cons rfl (fun K hK => ?_) AllReadyH.nil)
            have hbs : Below (World.heap k0).size k0 (World.alloc k0 (.cells #[] 119)) := (Below.refl _ _).alloc (Nat.le_refl _) _
            have HE := hid (own_mono (own_empty k0 119 2) hk0.size)
            replace hk0 := hk0.trans (hbs.mono hk0.size)
            clear hbs
            simp only [List.getElem_toArray, List.getElem_cons_succ, List.getElem_cons_zero]
            go_simp
            refine hK.out _ _ ?_ (fun hHeld2 => ?_)
            focus
              exact hS _ hk0
            clear hHeld
            have hHeld := hHeld2
            clear hHeld2 hK K
            try simp only [List.getElem_toArray, List.getElem_cons_succ, List.getElem_cons_zero, Act.put, List.setIfInBounds_toArray, List.set_cons_zero, List.set_cons_succ]
            generalize (World.alloc k0 (.cells #[] 119)) = u19 at *
            generalize (World.heap k0).size = XE at *
            refine wpAnyH_ready (rs := [5]) (by kernel_rfl) (by simp) ?_
            refine (AllReadyH.cons rfl (fun K hK => ?_) AllReadyH.nil)
            refine step_append_sl rfl (.tmp 21) (.tmp 25) 111 rfl w3.heap.size 119 Try.underlying111 info_task rfl (by omega) rfl HE.out rfl (HT1.out _ (HB3.out.trans (hk0.mono HB3.out.size))) (pcells_one _) (by unfold maxLen; omega) (by omega) hk0.size ?_
            intro vu20 u20 ho5 hb5 hsz5 hk5
            simp only [Nat.zero_add, List.nil_append] at ho5
            obtain ⟨A5, c5, rfl, _⟩ := Sl.of_own ho5
            clear HE
            have HE := hid ho5
            replace hk0 := hk0.trans hb5
            clear hb5 hsz5 hk5 ho5
            simp only [List.getElem_toArray, List.getElem_cons_succ, List.getElem_cons_zero]
            refine hK.out _ _ ?_ (fun hHeld2 => ?_)
            focus
              exact hS _ hk0
            clear hHeld
            have hHeld := hHeld2
            clear hHeld2 hK K
            try simp only [List.getElem_toArray, List.getElem_cons_succ, List.getElem_cons_zero, Act.put, List.setIfInBounds_toArray, List.set_cons_zero, List.set_cons_succ]
            refine wpAnyH_ready (rs := [11]) (by kernel_rfl) (by simp) ?_
            refine (AllReadyH.cons rfl (fun K hK => ?_) AllReadyH.nil)
            refine step_append_sl rfl (.tmp 26) (.tmp 31) 111 rfl w3.heap.size 119 Try.underlying111 info_task rfl (by omega) rfl HE.out rfl (HT2.out _ (HB3.out.trans (hk0.mono HB3.out.size))) (pcells_one _) (by unfold maxLen; omega) (by omega) hk0.size ?_
            intro vu21 u21 ho6 hb6 hsz6 hk6
            rw [HEC.out, HMM.out] at ho6
            obtain ⟨A6, c6, rfl, _⟩ := Sl.of_own ho6
            replace hk0 := hk0.trans hb6
            have HO6 := hid ho6
            clear hb6 hsz6 hk6 ho6 HE
            simp only [List.getElem_toArray, List.getElem_cons_succ, List.getElem_cons_zero]
            refine hK.out _ _ ?_ (fun hHeld2 => ?_)
            focus
              exact hS _ hk0
            clear hHeld
            have hHeld := hHeld2
            clear hHeld2 hK K
            try simp only [List.getElem_toArray, List.getElem_cons_succ, List.getElem_cons_zero, Act.put, List.setIfInBounds_toArray, List.set_cons_zero, List.set_cons_succ]
            refine wpAnyH_take (i := 12) (v := ?_) rfl (by kernel_rfl) (by kernel_rfl) (by kernel_rfl) (fun _ _ _ h => h) (Or.inl ⟨by rfl, ?_⟩) (by exact hS _ hk0) ?_
            rotate_left
            focus
              intro U hU
              try dsimp only at hU
              go_simp
              try (with_reducible rfl)
            simp only [List.getElem_toArray, List.getElem_cons_succ, List.getElem_cons_zero, Act.put, List.setIfInBounds_toArray, List.set_cons_zero, List.set_cons_succ]
            refine wpAnyH_ready (rs := [13]) (by kernel_rfl) (by simp) ?_
            refine AllReadyH.cons rfl (fun K hK => ?_) AllReadyH.nil
            obtain ⟨_, f0, f1, f2, f3⟩ := four_cells (keep0 hn3 hk0)
            simp only [List.getElem_toArray, List.getElem_cons_succ, List.getElem_cons_zero]
            go_simp
            refine hK.out _ _ ?_ (fun hHeld2 => ?_)
            focus
              exact (HB3.out.trans (hk0.mono HB3.out.size)).setCell (p := ⟨W.heap.size, 3, none⟩) (Nat.le_refl _) _
            clear hHeld
            have hHeld := hHeld2
            clear hHeld2 hK K
            try simp only [List.getElem_toArray, List.getElem_cons_succ, List.getElem_cons_zero, Act.put, List.setIfInBounds_toArray, List.set_cons_zero, List.set_cons_succ]
            refine wpAnyH_done (by kernel_rfl) ?_ _
            clear hHeld f0 f1 f2 f3
            go_wp2_with fail
            go_meet
            refine ⟨A6, c6, ?_, (Below.heap_setCell _ _ _ _ (show W.heap.size + 2 ≠ W.heap.size by omega)).trans (keep0 hz3 hk0), own_setOld HO6.out _ _ (lt_of_block hn3), (HB3.out.trans (hk0.mono HB3.out.size)).setCell (p := ⟨W.heap.size, 3, none⟩) (Nat.le_refl _) _⟩
            rw [heap_setCell_same _ _ _ _ _ _ (keep0 hn3 hk0)]
            simp
      · have HT2 := hid (HTN.out (fun h9 => hxy (by simpa only [Prod.mk.injEq] using h9)))
        clear HTN HY2
        by_cases h1 : z1 = j
        · subst h1
          have e1 : (z1 == z1) = true := by simp
          have e2 : (z2 == x) = false := by rw [beq_eq_false_iff_ne]; exact fun h => hxy ⟨rfl, h⟩
          clear hxy
          go_wp2
          go_quiet (fail)
          go_wp2
          go_roundw
          case rel => exact ⟨k + 1, q + nq, by omega, by go_num, rfl, HT2.out⟩
          case measure => simp [intOf]; omega
        · have e1 : (z1 == j) = false := by rw [beq_eq_false_iff_ne]; exact h1
          clear hxy h1
          go_wp2
          go_quiet (fail)
          go_wp2
          go_roundw
          case rel => exact ⟨k + 1, q + nq, by omega, by go_num, rfl, HT2.out⟩
          case measure => simp [intOf]; omega
    · have hge : ¬ (k : Int) < (lr : Int) := by omega
      have HE := hid (HN.out (fun i hi => HT.out i hi (by have := HLR.out; omega)))
      have HVV : Hid (av = (⟨n, a, o, r⟩, false)) := hid (by rw [HV.out, HE.out]; rfl)
      have hzq : (w1.drewN q).heap[W.heap.size + 2]? = some (.cells #[.int .i64 0, .slice none 0 0, .slice none 0 0, .slice none 0 0] 113 (0, 0)) := HZ1.out
      have hbq : Below W.heap.size W (w1.drewN q) := drew_belowN HB1.out _
      obtain ⟨_, g0, g1, g2, g3⟩ := four_cells hzq
      obtain ⟨⟨r0, r1, r2, r3⟩, _⟩ := four_cells (put4_heap hzq (.int .i64 n) (.slice A a.length ca) (.slice O o.length co) (.slice R lr cr))
      simp only [put4] at r0 r1 r2 r3
      have hr := put4_below hbq (show W.heap.size ≤ W.heap.size + 2 by omega) (.int .i64 n) (.slice A a.length ca) (.slice O o.length co) (.slice R lr cr)
      have HB9 := hid hr
      clear hzq hbq hr HT HY
      go_wp2
      exact bodyPost_ret (v := .tuple #[.agg #[.int .i64 n, .slice A a.length ca, .slice O o.length co, .slice R lr cr], .bool false]) (by simp [results, Try.results92, go_sem, r0, r1, r2, r3]) rfl ⟨A, O, R, ca, co, cr, by rw [HVV.out] <;> simp [svv, HLR.out], by rw [HVV.out]; exact HIN.out _ HB9.out, HB9.out⟩
end Go.Proofs.Ytadjmgmdnekllaa
