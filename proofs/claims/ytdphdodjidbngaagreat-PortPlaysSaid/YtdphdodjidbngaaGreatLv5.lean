/- The document's Learn, Acked, with the row told: contracts. -/
import Derived.Test.YtdphdodjidbngaaGreatQGt
import Derived.Test.YtdphdodjidbngaaGreatLv4
namespace Go.Proofs.YtdphdodjidbngaaGreat
open Go.RowKit Go.Sort
set_option linter.unusedVariables false
set_option linter.unusedSimpArgs false

set_option maxRecDepth 20000 in
theorem r24learn_ex (o : Ov) (pr : Int) (A : Option Addr) (c : Nat) (W : World) (h : Sl W 1 A o.l.length c (scells o.l)) :
    Calls Tryz.prog 108 #[.agg (oc o A c), .int .i64 pr] W fun e w' => e = .returned (.tuple #[.agg (oc (lrnV o pr).1 A c), .bool (lrnV o pr).2]) ∧ Below W.heap.size W w' := by
  have HS := hid h
  have HV : Hid (lrnV o pr = if pr ≤ o.p then (o, false) else if o.l.length = 0 then (⟨pr, 1, o.l, o.w, o.f⟩, false) else (⟨pr, 1, o.l, 1, 1⟩, true)) := hid (by
    unfold lrnV begV
    split
    · rfl
    · split <;> rfl)
  obtain ⟨p, q, l, wt, fl⟩ := o
  simp only at HV HS
  clear h
  simp only [oc]
  by_cases h1 : pr ≤ p
  · rw [HV.out, if_pos h1]
    clear HV
    have d1 : decide (pr ≤ p) = true := decide_eq_true h1
    go_enter Tryz.func108, Tryz.ntmps108
    go_wp2
    exact bodyPost_ret (v := .tuple #[.agg #[.int .i64 p, .int .i64 q, .slice A l.length c, .int .i64 wt, .int .i64 fl], .bool false]) (by simp [results, Tryz.results108, go_sem]) rfl ⟨rfl, below2 _ _ _⟩
  · rw [HV.out, if_neg h1]
    have d1 : decide (pr ≤ p) = false := decide_eq_false h1
    by_cases h0 : l.length = 0
    · rw [if_pos h0]
      obtain rfl := List.eq_nil_of_length_eq_zero h0
      clear HV h0
      go_enter Tryz.func108, Tryz.ntmps108
      go_wp2
      exact bodyPost_ret (v := .tuple #[.agg #[.int .i64 pr, .int .i64 1, .slice A 0 c, .int .i64 wt, .int .i64 fl], .bool false]) (by simp [results, Tryz.results108, go_sem]) rfl ⟨rfl, below2 _ _ _⟩
    · rw [if_neg h0]
      have e0 : ((l.length : Int) == 0) = false := beq_eq_false_iff_ne.2 (by omega)
      clear HV h0
      go_enter Tryz.func108, Tryz.ntmps108
      go_wp2
      exact bodyPost_ret (v := .tuple #[.agg #[.int .i64 pr, .int .i64 1, .slice A l.length c, .int .i64 1, .int .i64 1], .bool true]) (by simp [results, Tryz.results108, go_sem]) rfl ⟨rfl, below2 _ _ _⟩

/-- What Learn answers: the end's row is the argument's. -/
def REndX (r : Ev × List Pk) (A : Option Addr) (c : Nat) (W : World) (x : Ending) (w' : World) : Prop :=
  ∃ B d, x = .returned (.tuple #[.agg (ec r.1 A c), .slice B r.2.length d]) ∧ OwnR W w' (.slice B r.2.length d) r.2 ∧ Below W.heap.size W w'

set_option maxRecDepth 20000 in
set_option maxHeartbeats 8000000 in
theorem r26learn_ex (e : Ev) (inc : Int) (A : Option Addr) (c : Nat) (W : World) (h : Sl W 1 A e.o.l.length c (scells e.o.l)) (hl : e.o.l.length ≤ 1000) :
    Calls Tryz.prog 75 #[.agg (ec e A c), .int .i64 inc] W (REndX (lrnE e inc) A c W) := by
  have HC := hid (fun w (hw : Below W.heap.size W w) => r24learn_ex e.o inc A c w (h.below hw))
  have HG := hid (fun w => rlearn_any e.m e.p e.l inc w)
  have hne := lrnV_ne e.o inc
  have HS0 := hid h
  have HL2 : Hid ((lrnV e.o inc).1.l = e.o.l) := hid (lrnV_l _ _)
  have hll : (lrnV e.o inc).1.l.length ≤ 1000 := by rw [lrnV_l]; exact hl
  have HV : Hid (lrnE e inc = (⟨e.f, e.t, e.i, (lrnV e.o inc).1, e.m, gP e.p inc, gL e.p e.l inc⟩, dataV ⟨e.f, e.t, e.i, (lrnV e.o inc).1, e.m, gP e.p inc, gL e.p e.l inc⟩ (lrnV e.o inc).2)) := hid rfl
  generalize lrnE e inc = rv at *
  generalize gP e.p inc = gp2 at *
  generalize gL e.p e.l inc = gl2 at *
  generalize lrnV e.o inc = ov at *
  obtain ⟨⟨p2, q2, l2, wt2, fl2⟩, bb⟩ := ov
  obtain ⟨f, t, i, ⟨p, q, l, wt, fl⟩, gm, gp, gl⟩ := e
  have HNE := hid hne
  have HLL := hid hll
  clear h hl hne hll
  simp only [ec, oc] at *
  go_enter Tryz.func75, Tryz.ntmps75
  go_upto_region 1 with (fail)
  refine at_world (fun u => u.heap[W.heap.size]? = some (.cells (ec ⟨f, t, i, ⟨p, q, l, wt, fl⟩, gm, gp, gl⟩ A c) 82 (0, 0)) ∧ u.heap[W.heap.size + 1]? = some (.cells ez 82 (0, 0)) ∧ Below W.heap.size W u) ⟨heap_first _ _ _, heap_second _ _ _, below2 _ _ _⟩ ?_
  rintro w1 ⟨hx1, hz1, hb1⟩
  obtain ⟨⟨cp0, cp1, cp2, cp3, cp4, cp5, cp6, cp7, cp8, cp9, cp10⟩, _⟩ := eleven_cells hx1
  have HX1 := hid hx1
  have HZ1 := hid hz1
  have HB1 := hid hb1
  clear hx1 hz1 hb1
  go_wp2_with fail
  refine (HC.out _ HB1.out).mono ?_
  rintro e w2 ⟨rfl, hb2⟩
  have ho2 : Sl w2 1 A l2.length c (scells l2) := by
    rw [HL2.out]
    exact HS0.out.below (HB1.out.trans (hb2.mono HB1.out.size))
  simp only [oc]
  clear cp0 cp1 cp2 cp3 cp4 cp5 cp6 cp7 cp8 cp9 cp10
  have HX2 := hid (keep0 HX1.out hb2)
  have HZ2 := hid (keep0 HZ1.out hb2)
  have HO2 := hid (ho2)
  have HB2 := hid (HB1.out.trans (hb2.mono HB1.out.size))
  clear HX1 HZ1 ho2 hb2 HB1 HC
  go_upto_region 2 with (fail)
  refine at_world (fun u => u.heap[w2.heap.size]? = some (.cells (oc ⟨p2, q2, l2, wt2, fl2⟩ A c) 79 (0, 0)) ∧ u.heap[W.heap.size]? = some (.cells (ec ⟨f, t, i, ⟨p, q, l, wt, fl⟩, gm, gp, gl⟩ A c) 82 (0, 0)) ∧ u.heap[W.heap.size + 1]? = some (.cells ez 82 (0, 0)) ∧ Sl u 1 A l2.length c (scells l2) ∧ Below W.heap.size W u) ⟨heap_alloc_new _ _, keep0 HX2.out ((Below.refl _ _).alloc (Nat.le_refl _) _), keep0 HZ2.out ((Below.refl _ _).alloc (Nat.le_refl _) _), Sl.below HO2.out ((Below.refl _ _).alloc (Nat.le_refl _) _), HB2.out.alloc HB2.out.size _⟩ ?_
  rintro w3 ⟨ht3, hx3, hz3, ho3, hb3⟩
  obtain ⟨⟨z0, z1, z2, z3, z4⟩, _⟩ := five_cells ht3
  obtain ⟨_, ⟨cg0, cg1, cg2, cg3, cg4, cg5, cg6, cg7, cg8, cg9, cg10⟩⟩ := eleven_cells hx3
  have HS3 := hid (EY.out (o' := ⟨p2, q2, l2, wt2, fl2⟩) hx3 ho3 hb3 (Nat.le_refl _) rfl)
  have HZ3 := hid hz3
  clear ht3 hx3 hz3 ho3 hb3 HX2 HZ2 HO2 HB2
  generalize w2.heap.size = T at *
  go_upto_region 3 with (fail)
  refine at_world (fun u => EY W u W.heap.size ⟨f, t, i, ⟨p2, q2, l2, wt2, fl2⟩, gm, gp, gl⟩ A c ∧ u.heap[W.heap.size + 1]? = some (.cells ez 82 (0, 0))) ⟨HS3.out, by
    have hne : W.heap.size + 1 ≠ W.heap.size := by omega
    rw [Below.heap_setCell _ _ _ _ hne, Below.heap_setCell _ _ _ _ hne, Below.heap_setCell _ _ _ _ hne, Below.heap_setCell _ _ _ _ hne, Below.heap_setCell _ _ _ _ hne]
    exact HZ3.out⟩ ?_
  clear z0 z1 z2 z3 z4 cg0 cg1 cg2 cg3 cg4 cg5 cg6 cg7 cg8 cg9 cg10 HS3 HZ3
  rintro w4 ⟨hs4, hz4⟩
  obtain ⟨⟨cp0, cp1, cp2, cp3, cp4, cp5, cp6, cp7, cp8, cp9, cp10⟩, _⟩ := eleven_cells hs4.1
  have HS4 := hid hs4
  have HZ4 := hid hz4
  clear hs4 hz4
  go_wp2_with fail
  refine (HG.out _).mono ?_
  rintro e w5 ⟨rfl, hb5⟩
  have HS5 := hid (HS4.out.keep hb5)
  have HZ5 := hid (keep0 HZ4.out hb5)
  clear cp0 cp1 cp2 cp3 cp4 cp5 cp6 cp7 cp8 cp9 cp10 HS4 HZ4 hb5 HG
  obtain ⟨⟨cp0, cp1, cp2, cp3, cp4, cp5, cp6, cp7, cp8, cp9, cp10⟩, ⟨cg0, cg1, cg2, cg3, cg4, cg5, cg6, cg7, cg8, cg9, cg10⟩⟩ := eleven_cells HS5.out.1
  go_upto_region 4 with (fail)
  refine at_world (fun u => EY W u W.heap.size ⟨f, t, i, ⟨p2, q2, l2, wt2, fl2⟩, gm, gp2, gl2⟩ A c ∧ u.heap[W.heap.size + 1]? = some (.cells ez 82 (0, 0))) ⟨HS5.out.gate (Nat.le_refl _) gm gp2 gl2 rfl, by
    have hne : W.heap.size + 1 ≠ W.heap.size := by omega
    rw [Below.heap_setCell _ _ _ _ hne, Below.heap_setCell _ _ _ _ hne, Below.heap_setCell _ _ _ _ hne]
    exact HZ5.out⟩ ?_
  clear cp0 cp1 cp2 cp3 cp4 cp5 cp6 cp7 cp8 cp9 cp10 cg0 cg1 cg2 cg3 cg4 cg5 cg6 cg7 cg8 cg9 cg10 HS5 HZ5
  rintro w4 ⟨hs4, hz4⟩
  have hk4 : KY W W.heap.size (W.heap.size + 1) ⟨f, t, i, ⟨p2, q2, l2, wt2, fl2⟩, gm, gp2, gl2⟩ A c w4 := ⟨hs4, _, _, _, _, _, _, _, _, _, _, _, hz4, ez_ns⟩
  have HK := hid hk4
  have HF := hid (fun w (hw : EY W w W.heap.size ⟨f, t, i, ⟨p2, q2, l2, wt2, fl2⟩, gm, gp2, gl2⟩ A c) => data26_any ⟨f, t, i, ⟨p2, q2, l2, wt2, fl2⟩, gm, gp2, gl2⟩ bb HNE.out A c w hw.2.1)
  generalize hdv : dataV ⟨f, t, i, ⟨p2, q2, l2, wt2, fl2⟩, gm, gp2, gl2⟩ bb = D at *
  simp only [ec] at HF
  obtain ⟨⟨cp0, cp1, cp2, cp3, cp4, cp5, cp6, cp7, cp8, cp9, cp10⟩, ⟨cg0, cg1, cg2, cg3, cg4, cg5, cg6, cg7, cg8, cg9, cg10⟩⟩ := hk4.cells
  have hS : ∀ U, KY W W.heap.size (W.heap.size + 1) ⟨f, t, i, ⟨p2, q2, l2, wt2, fl2⟩, gm, gp2, gl2⟩ A c U → (((U.cell? ⟨W.heap.size, 0, none⟩ = some (.int .i64 f) ∧ U.cell? ⟨W.heap.size, 1, none⟩ = some (.int .i64 t) ∧ U.cell? ⟨W.heap.size, 2, none⟩ = some (.int .i64 i) ∧ U.cell? ⟨W.heap.size, 3, none⟩ = some (.int .i64 p2) ∧ U.cell? ⟨W.heap.size, 4, none⟩ = some (.int .i64 q2) ∧ U.cell? ⟨W.heap.size, 5, none⟩ = some (.slice A l2.length c) ∧ U.cell? ⟨W.heap.size, 6, none⟩ = some (.int .i64 wt2) ∧ U.cell? ⟨W.heap.size, 7, none⟩ = some (.int .i64 fl2) ∧ U.cell? ⟨W.heap.size, 8, none⟩ = some (.int .i64 gm) ∧ U.cell? ⟨W.heap.size, 9, none⟩ = some (.int .i64 gp2) ∧ U.cell? ⟨W.heap.size, 10, none⟩ = some (.int .i64 gl2)) ∧ (U.frozen? ⟨W.heap.size + 1, 0, none⟩ = false ∧ U.frozen? ⟨W.heap.size + 1, 1, none⟩ = false ∧ U.frozen? ⟨W.heap.size + 1, 2, none⟩ = false ∧ U.frozen? ⟨W.heap.size + 1, 3, none⟩ = false ∧ U.frozen? ⟨W.heap.size + 1, 4, none⟩ = false ∧ U.frozen? ⟨W.heap.size + 1, 5, none⟩ = false ∧ U.frozen? ⟨W.heap.size + 1, 6, none⟩ = false ∧ U.frozen? ⟨W.heap.size + 1, 7, none⟩ = false ∧ U.frozen? ⟨W.heap.size + 1, 8, none⟩ = false ∧ U.frozen? ⟨W.heap.size + 1, 9, none⟩ = false ∧ U.frozen? ⟨W.heap.size + 1, 10, none⟩ = false)) ∧ KY W W.heap.size (W.heap.size + 1) ⟨f, t, i, ⟨p2, q2, l2, wt2, fl2⟩, gm, gp2, gl2⟩ A c U) := fun U h => ⟨h.cells, h⟩
  clear hs4 hz4 hk4
  go_upto_region 4 with (fail)
  have hk0 : KY W W.heap.size (W.heap.size + 1) ⟨f, t, i, ⟨p2, q2, l2, wt2, fl2⟩, gm, gp2, gl2⟩ A c w4.drew := HK.out.call (below_drew (Below.refl _ _))
  refine wp_region_held_drew (S := fun U => ((U.cell? ⟨W.heap.size, 0, none⟩ = some (.int .i64 f) ∧ U.cell? ⟨W.heap.size, 1, none⟩ = some (.int .i64 t) ∧ U.cell? ⟨W.heap.size, 2, none⟩ = some (.int .i64 i) ∧ U.cell? ⟨W.heap.size, 3, none⟩ = some (.int .i64 p2) ∧ U.cell? ⟨W.heap.size, 4, none⟩ = some (.int .i64 q2) ∧ U.cell? ⟨W.heap.size, 5, none⟩ = some (.slice A l2.length c) ∧ U.cell? ⟨W.heap.size, 6, none⟩ = some (.int .i64 wt2) ∧ U.cell? ⟨W.heap.size, 7, none⟩ = some (.int .i64 fl2) ∧ U.cell? ⟨W.heap.size, 8, none⟩ = some (.int .i64 gm) ∧ U.cell? ⟨W.heap.size, 9, none⟩ = some (.int .i64 gp2) ∧ U.cell? ⟨W.heap.size, 10, none⟩ = some (.int .i64 gl2)) ∧ (U.frozen? ⟨W.heap.size + 1, 0, none⟩ = false ∧ U.frozen? ⟨W.heap.size + 1, 1, none⟩ = false ∧ U.frozen? ⟨W.heap.size + 1, 2, none⟩ = false ∧ U.frozen? ⟨W.heap.size + 1, 3, none⟩ = false ∧ U.frozen? ⟨W.heap.size + 1, 4, none⟩ = false ∧ U.frozen? ⟨W.heap.size + 1, 5, none⟩ = false ∧ U.frozen? ⟨W.heap.size + 1, 6, none⟩ = false ∧ U.frozen? ⟨W.heap.size + 1, 7, none⟩ = false ∧ U.frozen? ⟨W.heap.size + 1, 8, none⟩ = false ∧ U.frozen? ⟨W.heap.size + 1, 9, none⟩ = false ∧ U.frozen? ⟨W.heap.size + 1, 10, none⟩ = false)) ∧ KY W W.heap.size (W.heap.size + 1) ⟨f, t, i, ⟨p2, q2, l2, wt2, fl2⟩, gm, gp2, gl2⟩ A c U) (by kernel_rfl) (hS _ hk0) (fun hHeld => ?_)
  refine tkA 0 ?_ rfl ?_ (by assumption) ?_; rotate_left; focus (intro U hU; (try dsimp only at hU); go_simp; try (with_reducible rfl))
  simp only [gt6, Act.put]
  refine tkA 1 ?_ rfl ?_ (by assumption) ?_; rotate_left; focus (intro U hU; (try dsimp only at hU); go_simp; try (with_reducible rfl))
  simp only [gt6, Act.put]
  refine tkA 2 ?_ rfl ?_ (by assumption) ?_; rotate_left; focus (intro U hU; (try dsimp only at hU); go_simp; try (with_reducible rfl))
  simp only [gt6, Act.put]
  refine wpAnyH_ready (rs := [3]) (by kernel_rfl) (by simp) ?_
  refine AllReadyH.cons rfl (fun K hK => ?_) AllReadyH.nil
  simp only [gt3]
  go_simp
  refine (HF.out _ hk0.1).mono ?_
  rintro e u1 ⟨B, d, rfl, ho1, g1⟩
  have hk1 := hk0.call g1
  have hk1' := hk1
  obtain ⟨_, ⟨y0, y1, y2, y3, y4, y5, y6, y7, y8, y9, y10, hz1, hns1⟩⟩ := hk1'
  have hk2 := hk1.store (by omega) (by omega) (.int .i64 f) (.int .i64 t) (.int .i64 i) (.int .i64 p2) (.int .i64 q2) (.slice A l2.length c) (.int .i64 wt2) (.int .i64 fl2) (.int .i64 gm) (.int .i64 gp2) (.int .i64 gl2) (ec_ns ⟨f, t, i, ⟨p2, q2, l2, wt2, fl2⟩, gm, gp2, gl2⟩ A c)
  have hz5 := put11_heap hz1 (.int .i64 f) (.int .i64 t) (.int .i64 i) (.int .i64 p2) (.int .i64 q2) (.slice A l2.length c) (.int .i64 wt2) (.int .i64 fl2) (.int .i64 gm) (.int .i64 gp2) (.int .i64 gl2)
  have ho5 : OwnR W (put11 u1 (W.heap.size + 1) (.int .i64 f) (.int .i64 t) (.int .i64 i) (.int .i64 p2) (.int .i64 q2) (.slice A l2.length c) (.int .i64 wt2) (.int .i64 fl2) (.int .i64 gm) (.int .i64 gp2) (.int .i64 gl2)) (.slice B D.length d) D := own_at (own_mono ho1 hk0.1.2.2.size) hz1 (by decide) fun g hg => put11_other hg _ _ _ _ _ _ _ _ _ _ _
  simp only [put11] at hz5 ho5
  obtain ⟨_, ⟨cg0, cg1, cg2, cg3, cg4, cg5, cg6, cg7, cg8, cg9, cg10⟩⟩ := eleven_cells hz1
  clear ho1 hz1 g1
  go_wp2_with fail
  refine hK.out _ _ ?_ (fun hHeld2 => ?_)
  focus
    first | with_reducible exact hS _ hk2 | with_reducible exact hS _ hk1
  clear hHeld
  have hHeld := hHeld2
  clear hHeld2 hK K
  try simp only [gt6, Act.put]
  refine wpAnyH_ready (rs := [4]) (by kernel_rfl) (by simp) ?_
  refine AllReadyH.cons rfl (fun K hK => ?_) AllReadyH.nil
  simp only [gt3]
  go_simp
  refine hK.out _ _ ?_ (fun hHeld2 => ?_)
  focus
    first | with_reducible exact hS _ hk2 | with_reducible exact hS _ hk1
  clear hHeld
  have hHeld := hHeld2
  clear hHeld2 hK K
  try simp only [gt6, Act.put]
  refine tkA 5 ?_ rfl ?_ (by assumption) ?_; rotate_left; focus (intro U hU; (try dsimp only at hU); go_simp; try (with_reducible rfl))
  simp only [gt6, Act.put]
  refine wpAnyH_done (by kernel_rfl) ?_ _
  clear hHeld hS
  obtain ⟨⟨cr0, cr1, cr2, cr3, cr4, cr5, cr6, cr7, cr8, cr9, cr10⟩, _⟩ := eleven_cells hz5
  have HO := hid ho5
  have HK2 := hid hk2
  clear hz5 ho5 hk0 hk1 hk2
  go_wp2_with fail
  exact bodyPost_ret (v := .tuple #[.agg #[.int .i64 f, .int .i64 t, .int .i64 i, .int .i64 p2, .int .i64 q2, .slice A l2.length c, .int .i64 wt2, .int .i64 fl2, .int .i64 gm, .int .i64 gp2, .int .i64 gl2], .slice B D.length d]) (by simp [results, Tryz.results75, go_sem, cr0, cr1, cr2, cr3, cr4, cr5, cr6, cr7, cr8, cr9, cr10]) rfl (by rw [HV.out]; exact ⟨B, d, rfl, HO.out, HK2.out.1.2.2⟩)

end Go.Proofs.YtdphdodjidbngaaGreat

namespace Go.Proofs.YtdphdodjidbngaaGreat
open Go.RowKit Go.Sort
set_option linter.unusedVariables false
set_option linter.unusedSimpArgs false

/-- What Acked answers: its row is read wherever the argument's is. -/
def RAck (o : Ov) (r : Ov × Bool) (A : Option Addr) (c : Nat) (W : World) (e : Ending) (w' : World) : Prop :=
  ∃ A' c', e = .returned (.tuple #[.agg (oc r.1 A' c'), .bool r.2]) ∧ (∀ V, Sl V 1 A o.l.length c (scells o.l) → Sl V 1 A' r.1.l.length c' (scells r.1.l)) ∧ Below W.heap.size W w'

set_option maxRecDepth 20000 in
theorem r24acked_ex (o : Ov) (pr sq : Int) (A : Option Addr) (c : Nat) (W : World) (h : Sl W 1 A o.l.length c (scells o.l)) (hl : o.l.length ≤ 1000) (hq : o.q < 9223372036854775807) (hq0 : -9223372036854775808 ≤ o.q) :
    Calls Tryz.prog 76 #[.agg (oc o A c), .int .i64 pr, .int .i64 sq] W (RAck o (ackV o pr sq) A c W) := by
  have HS := hid h
  have HV : Hid (ackV o pr sq = if o.l = [] ∨ pr ≠ o.p ∨ sq ≠ o.q then (o, false) else if o.l.tail.length = 0 then (⟨o.p, o.q + 1, o.l.tail, 1, 0⟩, false) else (⟨o.p, o.q + 1, o.l.tail, 1, 1⟩, true)) := hid (by
    unfold ackV begV
    split
    · rfl
    · split <;> rfl)
  have hwr : IntKind.i64.wrap (o.q + 1) = o.q + 1 := by simp [IntKind.wrap, IntKind.bits, IntKind.signed]; omega
  have HW := hid hwr
  obtain ⟨p, q, l, wt, fl⟩ := o
  simp only at HV HS hl HW
  clear h hwr hq hq0
  simp only [oc]
  cases l with
  | nil =>
    rw [HV.out, if_pos (.inl rfl)]
    clear HV HW
    go_enter Tryz.func76, Tryz.ntmps76
    go_wp2
    exact bodyPost_ret (v := .tuple #[.agg #[.int .i64 p, .int .i64 q, .slice A 0 c, .int .i64 wt, .int .i64 fl], .bool false]) (by simp [results, Tryz.results76, go_sem]) rfl ⟨A, c, rfl, (fun V h => h), below2 _ _ _⟩
  | cons y r =>
  have hrl : r.length + 1 ≤ 1000 := by simpa using hl
  have HTL := hid (fun V (h0 : Sl V 1 A (y :: r).length c (scells (y :: r))) => (show Sl V 1 (dropA A c 1 1) (r.length + 1 - 1) (c - 1) (scells r) by
    have h9 := h0.drop 1 (by simp)
    rw [scells_tail] at h9
    exact h9))
  have hsc := HS.out
  rw [List.length_cons] at hsc
  have hcl : r.length + 1 ≤ c := hsc.2.1
  have hrun : ∀ w : World, (Instr.slice 33 (.slice A (r.length + 1) c) (some (.int .i64 1)) none none).run Tryz.prog w = .ok (.slice (dropA A c 1 1) (r.length + 1 - 1) (c - 1)) w := fun w => run_from Tryz.underlying33 info_str A (r.length + 1) c 1 (by omega) w
  have HRUN := hid hrun
  have HSC := hid hsc
  have e0 : (((r.length + 1 : Nat) : Int) == 0) = false := beq_eq_false_iff_ne.2 (by omega)
  rw [List.length_cons]
  clear hrun hsc HS hl
  generalize hL : r.length + 1 = L at *
  by_cases h1 : pr = p
  case neg =>
    rw [HV.out, if_pos (.inr (.inl h1))]
    have d1 : (pr != p) = true := by simpa using h1
    clear HV HW h1 HRUN HTL
    go_enter Tryz.func76, Tryz.ntmps76
    go_wp2
    exact bodyPost_ret (v := .tuple #[.agg #[.int .i64 p, .int .i64 q, .slice A L c, .int .i64 wt, .int .i64 fl], .bool false]) (by simp [results, Tryz.results76, go_sem]) rfl ⟨A, c, (by subst hL; rfl), (fun V h => h), below2 _ _ _⟩
  have d1 : (pr != p) = false := by simpa using h1
  by_cases h2 : sq = q
  case neg =>
    rw [HV.out, if_pos (.inr (.inr h2))]
    have d2 : (sq != q) = true := by simpa using h2
    clear HV HW h1 h2 HRUN HTL
    go_enter Tryz.func76, Tryz.ntmps76
    go_wp2
    exact bodyPost_ret (v := .tuple #[.agg #[.int .i64 p, .int .i64 q, .slice A L c, .int .i64 wt, .int .i64 fl], .bool false]) (by simp [results, Tryz.results76, go_sem]) rfl ⟨A, c, (by subst hL; rfl), (fun V h => h), below2 _ _ _⟩
  have d2 : (sq != q) = false := by simpa using h2
  rw [HV.out, if_neg (by simp [h1, h2])]
  have hrun := HRUN.out
  have hwr := HW.out
  have hL1 : L - 1 = r.length := by omega
  rw [hL1] at hrun
  have HT2 := HTL.out
  rw [hL1] at HT2
  replace HT2 := hid HT2
  clear HV HW h1 h2 HRUN HTL HSC hL1 hL hrl
  generalize dropA A c 1 1 = A' at *
  generalize c - 1 = c' at *
  by_cases h0 : r.length = 0
  · rw [if_pos (show (y :: r).tail.length = 0 from h0)]
    obtain rfl := List.eq_nil_of_length_eq_zero h0
    clear h0
    go_enter Tryz.func76, Tryz.ntmps76
    go_wp2
    exact bodyPost_ret (v := .tuple #[.agg #[.int .i64 p, .int .i64 (q + 1), .slice A' 0 c', .int .i64 1, .int .i64 0], .bool false]) (by simp [results, Tryz.results76, go_sem]) rfl ⟨A', c', rfl, HT2.out, below2 _ _ _⟩
  · rw [if_neg (show ¬ (y :: r).tail.length = 0 from h0)]
    have e1 : ((r.length : Int) == 0) = false := beq_eq_false_iff_ne.2 (by omega)
    clear h0
    go_enter Tryz.func76, Tryz.ntmps76
    go_wp2
    exact bodyPost_ret (v := .tuple #[.agg #[.int .i64 p, .int .i64 (q + 1), .slice A' r.length c', .int .i64 1, .int .i64 1], .bool true]) (by simp [results, Tryz.results76, go_sem]) rfl ⟨A', c', rfl, HT2.out, below2 _ _ _⟩

end Go.Proofs.YtdphdodjidbngaaGreat

