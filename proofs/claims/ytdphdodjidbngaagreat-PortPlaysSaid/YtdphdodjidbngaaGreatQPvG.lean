/- The document's Tick, with the row told: contracts. -/
import Derived.Test.YtdphdodjidbngaaGreatQGt
import Derived.Test.YtdphdodjidbngaaGreatLv5
namespace Go.Proofs.YtdphdodjidbngaaGreat
open Go.RowKit Go.Sort
set_option linter.unusedVariables false
set_option linter.unusedSimpArgs false

set_option maxRecDepth 20000 in
theorem r24tick_ex (o : Ov) (A : Option Addr) (c : Nat) (W : World) (h : Sl W 1 A o.l.length c (scells o.l)) :
    Calls Tryz.prog 80 #[.agg (oc o A c)] W fun e w' => e = .returned (.tuple #[.agg (oc (tikV o).1 A c), .bool (tikV o).2]) ∧ Below W.heap.size W w' := by
  have HS := hid h
  have HV : Hid (tikV o = if o.l = [] then (o, false) else (⟨o.p, o.q, o.l, tkW o.w o.f, tkL o.w o.f⟩, tkB o.w o.f)) := hid rfl
  have HT := hid (fun w => r13tick_any o.w o.f w)
  obtain ⟨p, q, l, wt, fl⟩ := o
  simp only at HV HS HT
  clear h
  simp only [oc]
  by_cases h0 : l = []
  · rw [HV.out, if_pos h0]
    subst h0
    clear HV HT
    go_enter Tryz.func80, Tryz.ntmps80
    go_wp2
    exact bodyPost_ret (v := .tuple #[.agg #[.int .i64 p, .int .i64 q, .slice A 0 c, .int .i64 wt, .int .i64 fl], .bool false]) (by simp [results, Tryz.results80, go_sem]) rfl ⟨rfl, below2 _ _ _⟩
  · rw [HV.out, if_neg h0]
    have e0 : ((l.length : Int) == 0) = false := beq_eq_false_iff_ne.2 (by
      intro h
      exact h0 (List.eq_nil_of_length_eq_zero (by omega)))
    clear HV h0
    generalize tkW wt fl = w' at *
    generalize tkL wt fl = f' at *
    generalize tkB wt fl = b' at *
    go_enter Tryz.func80, Tryz.ntmps80
    go_wp2_with fail
    refine (HT.out _).mono ?_
    rintro e w2 ⟨rfl, hb2⟩
    have hx2 := keep0 (heap_first W (.cells #[.int .i64 p, .int .i64 q, .slice A l.length c, .int .i64 wt, .int .i64 fl] 79) (.cells oz 79)) hb2
    have hz2 := keep0 (heap_second W (.cells #[.int .i64 p, .int .i64 q, .slice A l.length c, .int .i64 wt, .int .i64 fl] 79) (.cells oz 79)) hb2
    have HB2 := hid ((below2 W _ _).trans (hb2.mono (below2 W _ _).size))
    clear hb2 HT
    go_upto_region 4 with (fail)
    have hbn : Below w2.heap.size w2 (w2.alloc (.cells #[.int .i64 w', .int .i64 f'] 77)) := (Below.refl _ _).alloc (Nat.le_refl _) _
    refine at_world (fun u => u.heap[W.heap.size]? = some (.cells #[.int .i64 p, .int .i64 q, .slice A l.length c, .int .i64 wt, .int .i64 fl] 79 (0, 0)) ∧ u.heap[W.heap.size + 1]? = some (.cells oz 79 (0, 0)) ∧ u.heap[w2.heap.size]? = some (.cells #[.int .i64 w', .int .i64 f'] 77 (0, 0)) ∧ Below W.heap.size W u) ⟨keep0 hx2 hbn, keep0 hz2 hbn, heap_alloc_new _ _, HB2.out.trans (hbn.mono HB2.out.size)⟩ ?_
    have hne : W.heap.size ≠ w2.heap.size := by have := lt_of_block hx2; omega
    clear hx2 hz2 HB2 hbn
    generalize w2.heap.size = Pz at *
    rintro u ⟨hx, hz, hp, hb⟩
    obtain ⟨⟨p0, p1, p2, p3, p4⟩, f0, f1, f2, f3, f4⟩ := five_cells hx
    obtain ⟨t0, t1⟩ := two_cellsd hp
    have HX := hid (pace_set hx (.int .i64 w') (.int .i64 f'))
    have HZ := hid ((pace_other (show W.heap.size + 1 ≠ W.heap.size by omega) (.int .i64 w') (.int .i64 f')).trans hz)
    have HB := hid (pace_below hb (Nat.le_refl _) (.int .i64 w') (.int .i64 f'))
    clear hx hz hp hb hne
    go_upto_region 5 with (fail)
    refine at_world (fun u => u.heap[W.heap.size]? = some (.cells #[.int .i64 p, .int .i64 q, .slice A l.length c, .int .i64 w', .int .i64 f'] 79 (0, 0)) ∧ u.heap[W.heap.size + 1]? = some (.cells oz 79 (0, 0)) ∧ Below W.heap.size W u) ⟨HX.out, HZ.out, HB.out⟩ ?_
    clear p0 p1 p2 p3 p4 f0 f1 f2 f3 f4 t0 t1 HX HZ HB
    rintro u ⟨hx, hz, hb⟩
    obtain ⟨⟨p0, p1, p2, p3, p4⟩, _⟩ := five_cells hx
    obtain ⟨_, f0, f1, f2, f3, f4⟩ := five_cells hz
    have hq := put5_heap hz (.int .i64 p) (.int .i64 q) (.slice A l.length c) (.int .i64 w') (.int .i64 f')
    obtain ⟨⟨r0, r1, r2, r3, r4⟩, _⟩ := five_cells hq
    simp only [put5] at r0 r1 r2 r3 r4
    have HB := hid (put5_below hb (show W.heap.size ≤ W.heap.size + 1 by omega) (.int .i64 p) (.int .i64 q) (.slice A l.length c) (.int .i64 w') (.int .i64 f'))
    clear hx hz hb hq
    go_wp2
    exact bodyPost_ret (v := .tuple #[.agg #[.int .i64 p, .int .i64 q, .slice A l.length c, .int .i64 w', .int .i64 f'], .bool b']) (by simp [results, Tryz.results80, go_sem, r0, r1, r2, r3, r4]) rfl ⟨rfl, HB.out⟩
set_option maxRecDepth 20000 in
set_option maxHeartbeats 8000000 in
theorem r26tick_ex (e : Ev) (A : Option Addr) (c : Nat) (W : World) (h : Sl W 1 A e.o.l.length c (scells e.o.l)) (hl : e.o.l.length ≤ 1000) :
    Calls Tryz.prog 40 #[.agg (ec e A c)] W (REndX (tikE e) A c W) := by
  have HC := hid (fun w (hw : Below W.heap.size W w) => r24tick_ex e.o A c w (h.below hw))
  have hne := tikV_ne e.o
  have HS0 := hid h
  have HL2 : Hid ((tikV e.o).1.l = e.o.l) := hid (tikV_l _)
  have hll : (tikV e.o).1.l.length ≤ 1000 := by rw [tikV_l]; exact hl
  have HV : Hid (tikE e = (setO e (tikV e.o).1, dataV (setO e (tikV e.o).1) (tikV e.o).2)) := hid rfl
  generalize tikE e = rv at *
  generalize tikV e.o = ov at *
  obtain ⟨⟨p2, q2, l2, wt2, fl2⟩, bb⟩ := ov
  obtain ⟨f, t, i, ⟨p, q, l, wt, fl⟩, gm, gp, gl⟩ := e
  simp only [setO] at HV
  have HNE := hid hne
  have HLL := hid hll
  clear h hl hne hll
  simp only [ec, oc] at *
  go_enter Tryz.func40, Tryz.ntmps40
  go_upto_region 1 with (fail)
  refine at_world (fun u => u.heap[W.heap.size]? = some (.cells (ec ⟨f, t, i, ⟨p, q, l, wt, fl⟩, gm, gp, gl⟩ A c) 82 (0, 0)) ∧ u.heap[W.heap.size + 1]? = some (.cells ez 82 (0, 0)) ∧ Below W.heap.size W u) ⟨heap_first _ _ _, heap_second _ _ _, below2 _ _ _⟩ ?_
  rintro w1 ⟨hx1, hz1, hb1⟩
  obtain ⟨⟨cp0, cp1, cp2, cp3, cp4, cp5, cp6, cp7, cp8, cp9, cp10⟩, _⟩ := eleven_cells hx1
  have HX1 := hid hx1
  have HZ1 := hid hz1
  have HB1 := hid hb1
  clear hx1 hz1 hb1
  go_wp2_with fail
  refine (HC.out _ HB1.out).mono ?_
  rintro e w2 ⟨rfl, hb2⟩
  have ho2 : Sl w2 1 A l2.length c (scells l2) := by
    rw [HL2.out]
    exact HS0.out.below (HB1.out.trans (hb2.mono HB1.out.size))
  simp only [oc]
  clear cp0 cp1 cp2 cp3 cp4 cp5 cp6 cp7 cp8 cp9 cp10
  have HX2 := hid (keep0 HX1.out hb2)
  have HZ2 := hid (keep0 HZ1.out hb2)
  have HO2 := hid (ho2)
  have HB2 := hid (HB1.out.trans (hb2.mono HB1.out.size))
  clear HX1 HZ1 ho2 hb2 HB1 HC
  go_upto_region 2 with (fail)
  refine at_world (fun u => u.heap[w2.heap.size]? = some (.cells (oc ⟨p2, q2, l2, wt2, fl2⟩ A c) 79 (0, 0)) ∧ u.heap[W.heap.size]? = some (.cells (ec ⟨f, t, i, ⟨p, q, l, wt, fl⟩, gm, gp, gl⟩ A c) 82 (0, 0)) ∧ u.heap[W.heap.size + 1]? = some (.cells ez 82 (0, 0)) ∧ Sl u 1 A l2.length c (scells l2) ∧ Below W.heap.size W u) ⟨heap_alloc_new _ _, keep0 HX2.out ((Below.refl _ _).alloc (Nat.le_refl _) _), keep0 HZ2.out ((Below.refl _ _).alloc (Nat.le_refl _) _), Sl.below HO2.out ((Below.refl _ _).alloc (Nat.le_refl _) _), HB2.out.alloc HB2.out.size _⟩ ?_
  rintro w3 ⟨ht3, hx3, hz3, ho3, hb3⟩
  obtain ⟨⟨z0, z1, z2, z3, z4⟩, _⟩ := five_cells ht3
  obtain ⟨_, ⟨cg0, cg1, cg2, cg3, cg4, cg5, cg6, cg7, cg8, cg9, cg10⟩⟩ := eleven_cells hx3
  have HS3 := hid (EY.out (o' := ⟨p2, q2, l2, wt2, fl2⟩) hx3 ho3 hb3 (Nat.le_refl _) rfl)
  have HZ3 := hid hz3
  clear ht3 hx3 hz3 ho3 hb3 HX2 HZ2 HO2 HB2
  generalize w2.heap.size = T at *
  go_upto_region 3 with (fail)
  refine at_world (fun u => EY W u W.heap.size ⟨f, t, i, ⟨p2, q2, l2, wt2, fl2⟩, gm, gp, gl⟩ A c ∧ u.heap[W.heap.size + 1]? = some (.cells ez 82 (0, 0))) ⟨HS3.out, by
    have hne : W.heap.size + 1 ≠ W.heap.size := by omega
    rw [Below.heap_setCell _ _ _ _ hne, Below.heap_setCell _ _ _ _ hne, Below.heap_setCell _ _ _ _ hne, Below.heap_setCell _ _ _ _ hne, Below.heap_setCell _ _ _ _ hne]
    exact HZ3.out⟩ ?_
  clear z0 z1 z2 z3 z4 cg0 cg1 cg2 cg3 cg4 cg5 cg6 cg7 cg8 cg9 cg10 HS3 HZ3
  rintro w4 ⟨hs4, hz4⟩
  have hk4 : KY W W.heap.size (W.heap.size + 1) ⟨f, t, i, ⟨p2, q2, l2, wt2, fl2⟩, gm, gp, gl⟩ A c w4 := ⟨hs4, _, _, _, _, _, _, _, _, _, _, _, hz4, ez_ns⟩
  have HK := hid hk4
  have HF := hid (fun w (hw : EY W w W.heap.size ⟨f, t, i, ⟨p2, q2, l2, wt2, fl2⟩, gm, gp, gl⟩ A c) => data26_any ⟨f, t, i, ⟨p2, q2, l2, wt2, fl2⟩, gm, gp, gl⟩ bb HNE.out A c w hw.2.1)
  generalize hdv : dataV ⟨f, t, i, ⟨p2, q2, l2, wt2, fl2⟩, gm, gp, gl⟩ bb = D at *
  simp only [ec] at HF
  obtain ⟨⟨cp0, cp1, cp2, cp3, cp4, cp5, cp6, cp7, cp8, cp9, cp10⟩, ⟨cg0, cg1, cg2, cg3, cg4, cg5, cg6, cg7, cg8, cg9, cg10⟩⟩ := hk4.cells
  have hS : ∀ U, KY W W.heap.size (W.heap.size + 1) ⟨f, t, i, ⟨p2, q2, l2, wt2, fl2⟩, gm, gp, gl⟩ A c U → (((U.cell? ⟨W.heap.size, 0, none⟩ = some (.int .i64 f) ∧ U.cell? ⟨W.heap.size, 1, none⟩ = some (.int .i64 t) ∧ U.cell? ⟨W.heap.size, 2, none⟩ = some (.int .i64 i) ∧ U.cell? ⟨W.heap.size, 3, none⟩ = some (.int .i64 p2) ∧ U.cell? ⟨W.heap.size, 4, none⟩ = some (.int .i64 q2) ∧ U.cell? ⟨W.heap.size, 5, none⟩ = some (.slice A l2.length c) ∧ U.cell? ⟨W.heap.size, 6, none⟩ = some (.int .i64 wt2) ∧ U.cell? ⟨W.heap.size, 7, none⟩ = some (.int .i64 fl2) ∧ U.cell? ⟨W.heap.size, 8, none⟩ = some (.int .i64 gm) ∧ U.cell? ⟨W.heap.size, 9, none⟩ = some (.int .i64 gp) ∧ U.cell? ⟨W.heap.size, 10, none⟩ = some (.int .i64 gl)) ∧ (U.frozen? ⟨W.heap.size + 1, 0, none⟩ = false ∧ U.frozen? ⟨W.heap.size + 1, 1, none⟩ = false ∧ U.frozen? ⟨W.heap.size + 1, 2, none⟩ = false ∧ U.frozen? ⟨W.heap.size + 1, 3, none⟩ = false ∧ U.frozen? ⟨W.heap.size + 1, 4, none⟩ = false ∧ U.frozen? ⟨W.heap.size + 1, 5, none⟩ = false ∧ U.frozen? ⟨W.heap.size + 1, 6, none⟩ = false ∧ U.frozen? ⟨W.heap.size + 1, 7, none⟩ = false ∧ U.frozen? ⟨W.heap.size + 1, 8, none⟩ = false ∧ U.frozen? ⟨W.heap.size + 1, 9, none⟩ = false ∧ U.frozen? ⟨W.heap.size + 1, 10, none⟩ = false)) ∧ KY W W.heap.size (W.heap.size + 1) ⟨f, t, i, ⟨p2, q2, l2, wt2, fl2⟩, gm, gp, gl⟩ A c U) := fun U h => ⟨h.cells, h⟩
  clear hs4 hz4 hk4
  go_upto_region 3 with (fail)
  have hk0 : KY W W.heap.size (W.heap.size + 1) ⟨f, t, i, ⟨p2, q2, l2, wt2, fl2⟩, gm, gp, gl⟩ A c w4.drew := HK.out.call (below_drew (Below.refl _ _))
  refine wp_region_held_drew (S := fun U => ((U.cell? ⟨W.heap.size, 0, none⟩ = some (.int .i64 f) ∧ U.cell? ⟨W.heap.size, 1, none⟩ = some (.int .i64 t) ∧ U.cell? ⟨W.heap.size, 2, none⟩ = some (.int .i64 i) ∧ U.cell? ⟨W.heap.size, 3, none⟩ = some (.int .i64 p2) ∧ U.cell? ⟨W.heap.size, 4, none⟩ = some (.int .i64 q2) ∧ U.cell? ⟨W.heap.size, 5, none⟩ = some (.slice A l2.length c) ∧ U.cell? ⟨W.heap.size, 6, none⟩ = some (.int .i64 wt2) ∧ U.cell? ⟨W.heap.size, 7, none⟩ = some (.int .i64 fl2) ∧ U.cell? ⟨W.heap.size, 8, none⟩ = some (.int .i64 gm) ∧ U.cell? ⟨W.heap.size, 9, none⟩ = some (.int .i64 gp) ∧ U.cell? ⟨W.heap.size, 10, none⟩ = some (.int .i64 gl)) ∧ (U.frozen? ⟨W.heap.size + 1, 0, none⟩ = false ∧ U.frozen? ⟨W.heap.size + 1, 1, none⟩ = false ∧ U.frozen? ⟨W.heap.size + 1, 2, none⟩ = false ∧ U.frozen? ⟨W.heap.size + 1, 3, none⟩ = false ∧ U.frozen? ⟨W.heap.size + 1, 4, none⟩ = false ∧ U.frozen? ⟨W.heap.size + 1, 5, none⟩ = false ∧ U.frozen? ⟨W.heap.size + 1, 6, none⟩ = false ∧ U.frozen? ⟨W.heap.size + 1, 7, none⟩ = false ∧ U.frozen? ⟨W.heap.size + 1, 8, none⟩ = false ∧ U.frozen? ⟨W.heap.size + 1, 9, none⟩ = false ∧ U.frozen? ⟨W.heap.size + 1, 10, none⟩ = false)) ∧ KY W W.heap.size (W.heap.size + 1) ⟨f, t, i, ⟨p2, q2, l2, wt2, fl2⟩, gm, gp, gl⟩ A c U) (by kernel_rfl) (hS _ hk0) (fun hHeld => ?_)
  refine tkA 0 ?_ rfl ?_ (by assumption) ?_; rotate_left; focus (intro U hU; (try dsimp only at hU); go_simp; try (with_reducible rfl))
  simp only [gt6, Act.put]
  refine tkA 1 ?_ rfl ?_ (by assumption) ?_; rotate_left; focus (intro U hU; (try dsimp only at hU); go_simp; try (with_reducible rfl))
  simp only [gt6, Act.put]
  refine tkA 2 ?_ rfl ?_ (by assumption) ?_; rotate_left; focus (intro U hU; (try dsimp only at hU); go_simp; try (with_reducible rfl))
  simp only [gt6, Act.put]
  refine wpAnyH_ready (rs := [3]) (by kernel_rfl) (by simp) ?_
  refine AllReadyH.cons rfl (fun K hK => ?_) AllReadyH.nil
  simp only [gt3]
  go_simp
  refine (HF.out _ hk0.1).mono ?_
  rintro e u1 ⟨B, d, rfl, ho1, g1⟩
  have hk1 := hk0.call g1
  have hk1' := hk1
  obtain ⟨_, ⟨y0, y1, y2, y3, y4, y5, y6, y7, y8, y9, y10, hz1, hns1⟩⟩ := hk1'
  have hk2 := hk1.store (by omega) (by omega) (.int .i64 f) (.int .i64 t) (.int .i64 i) (.int .i64 p2) (.int .i64 q2) (.slice A l2.length c) (.int .i64 wt2) (.int .i64 fl2) (.int .i64 gm) (.int .i64 gp) (.int .i64 gl) (ec_ns ⟨f, t, i, ⟨p2, q2, l2, wt2, fl2⟩, gm, gp, gl⟩ A c)
  have hz5 := put11_heap hz1 (.int .i64 f) (.int .i64 t) (.int .i64 i) (.int .i64 p2) (.int .i64 q2) (.slice A l2.length c) (.int .i64 wt2) (.int .i64 fl2) (.int .i64 gm) (.int .i64 gp) (.int .i64 gl)
  have ho5 : OwnR W (put11 u1 (W.heap.size + 1) (.int .i64 f) (.int .i64 t) (.int .i64 i) (.int .i64 p2) (.int .i64 q2) (.slice A l2.length c) (.int .i64 wt2) (.int .i64 fl2) (.int .i64 gm) (.int .i64 gp) (.int .i64 gl)) (.slice B D.length d) D := own_at (own_mono ho1 hk0.1.2.2.size) hz1 (by decide) fun g hg => put11_other hg _ _ _ _ _ _ _ _ _ _ _
  simp only [put11] at hz5 ho5
  obtain ⟨_, ⟨cg0, cg1, cg2, cg3, cg4, cg5, cg6, cg7, cg8, cg9, cg10⟩⟩ := eleven_cells hz1
  clear ho1 hz1 g1
  go_wp2_with fail
  refine hK.out _ _ ?_ (fun hHeld2 => ?_)
  focus
    first | with_reducible exact hS _ hk2 | with_reducible exact hS _ hk1
  clear hHeld
  have hHeld := hHeld2
  clear hHeld2 hK K
  try simp only [gt6, Act.put]
  refine wpAnyH_ready (rs := [4]) (by kernel_rfl) (by simp) ?_
  refine AllReadyH.cons rfl (fun K hK => ?_) AllReadyH.nil
  simp only [gt3]
  go_simp
  refine hK.out _ _ ?_ (fun hHeld2 => ?_)
  focus
    first | with_reducible exact hS _ hk2 | with_reducible exact hS _ hk1
  clear hHeld
  have hHeld := hHeld2
  clear hHeld2 hK K
  try simp only [gt6, Act.put]
  refine tkA 5 ?_ rfl ?_ (by assumption) ?_; rotate_left; focus (intro U hU; (try dsimp only at hU); go_simp; try (with_reducible rfl))
  simp only [gt6, Act.put]
  refine wpAnyH_done (by kernel_rfl) ?_ _
  clear hHeld hS
  obtain ⟨⟨cr0, cr1, cr2, cr3, cr4, cr5, cr6, cr7, cr8, cr9, cr10⟩, _⟩ := eleven_cells hz5
  have HO := hid ho5
  have HK2 := hid hk2
  clear hz5 ho5 hk0 hk1 hk2
  go_wp2_with fail
  exact bodyPost_ret (v := .tuple #[.agg #[.int .i64 f, .int .i64 t, .int .i64 i, .int .i64 p2, .int .i64 q2, .slice A l2.length c, .int .i64 wt2, .int .i64 fl2, .int .i64 gm, .int .i64 gp, .int .i64 gl], .slice B D.length d]) (by simp [results, Tryz.results40, go_sem, cr0, cr1, cr2, cr3, cr4, cr5, cr6, cr7, cr8, cr9, cr10]) rfl (by rw [HV.out]; exact ⟨B, d, rfl, HO.out, HK2.out.1.2.2⟩)
end Go.Proofs.YtdphdodjidbngaaGreat

