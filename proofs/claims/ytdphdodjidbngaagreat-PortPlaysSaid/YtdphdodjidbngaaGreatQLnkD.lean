/- link.takeAck: contract. -/
import Derived.Test.YtdphdodjidbngaaGreatQGt
import Derived.Test.YtdphdodjidbngaaGreatQLnkC
namespace Go.Proofs.YtdphdodjidbngaaGreat
open Go.RowKit Go.Sort
set_option linter.unusedVariables false
set_option linter.unusedSimpArgs false

def pca (x : Pk) : Array Value := #[.int .i64 x.k, .int .i64 x.f, .int .i64 x.t, .int .i64 x.i, .int .i64 x.p, .int .i64 x.s, .string (str x.b)]
theorem info_pkt : (Tryz.prog.info? 90).map (fun i => (i.zero, i.size, i.bytes)) = some (some (.agg #[.int .i64 0, .int .i64 0, .int .i64 0, .int .i64 0, .int .i64 0, .int .i64 0, .string ⟨#[]⟩]), 7, 64) := by kernel_rfl
theorem dataV_len (e : Ev) (b : Bool) : (dataV e b).length ≤ 1 := by
  unfold dataV
  split
  · split <;> simp
  · simp
theorem lrnV_q (o : Ov) (k : Int) : (lrnV o k).1.q = o.q ∨ (lrnV o k).1.q = 1 := by
  unfold lrnV
  split
  · exact .inl rfl
  · refine .inr ?_
    unfold begV
    split <;> rfl
/-- What takeAck makes of an end, where the packet is to this incarnation. -/
def ackE (e : Ev) (x : Pk) : Ev × List Pk :=
  (setO (lrnE e x.i).1 (ackV (lrnE e x.i).1.o x.i x.s).1, (lrnE e x.i).2 ++ dataV (setO (lrnE e x.i).1 (ackV (lrnE e x.i).1.o x.i x.s).1) (ackV (lrnE e x.i).1.o x.i x.s).2)
theorem ackV_ne (o : Ov) (a b : Int) (h : (ackV o a b).2 = true) : (ackV o a b).1.l ≠ [] := by
  unfold ackV at h ⊢
  split at h
  · cases h
  · rename_i h2
    rw [if_neg h2]
    exact begV_ne _ h
theorem ackV_len (o : Ov) (a b : Int) : (ackV o a b).1.l.length ≤ o.l.length := by
  unfold ackV
  split
  · exact Nat.le_refl _
  · rw [begV_l]
    simp
theorem KZ.app {W U V : World} {X Z n : Nat} {e : Ev} {A : Option Addr} {c : Nat} {v : Value} {ys : List Value} (h : KZ W X Z e A c U) (ho : U.ownsRow W.heap.size 90 7 v n ys) (hb : Below W.heap.size U V) (hk : ∀ g, W.heap.size ≤ g → g < U.heap.size → v.ownBlock ≠ some g → V.heap[g]? = U.heap[g]?) (hX : W.heap.size ≤ X) (hZ : W.heap.size ≤ Z) : KZ W X Z e A c V := by
  obtain ⟨⟨hx, ht, hb0⟩, x0, x1, x2, x3, x4, x5, x6, x7, x8, x9, x10, hz⟩ := h
  exact ⟨⟨(hk X hX (lt_of_block hx) (own_blk_ne ho hx (by decide))).trans hx, own_other ht ho (by decide) hk, hb0.trans hb⟩, x0, x1, x2, x3, x4, x5, x6, x7, x8, x9, x10, (hk Z hZ (lt_of_block hz) (own_blk_ne ho hz (by decide))).trans hz⟩
theorem ownP_app {W w : World} {v : Value} {D E : List Pk} (h : w.ownsRow W.heap.size 90 7 v (D.length + E.length) (gcells pkc D ++ gcells pkc E)) : OwnP W w v (D ++ E) := by
  unfold OwnP
  rw [gcells_append, List.length_append]
  exact h

set_option maxRecDepth 20000 in
set_option maxHeartbeats 8000000 in
theorem tack_yes (e : Ev) (x : Pk) (hxp : x.p = e.i) (A : Option Addr) (c : Nat) (W : World) (h : Sl W 1 A e.o.l.length c (scells e.o.l)) (hl : e.o.l.length ≤ 1000) (hq : e.o.q < 9223372036854775807) (hq0 : -9223372036854775808 ≤ e.o.q) :
    Calls Tryz.prog 67 #[.agg (ec e A c), .agg (pca x)] W (EndR (ackE e x) W) := by
  have HC := hid (fun w (hw : Below W.heap.size W w) => learned_any e x.i A c w (h.below hw) hl)
  have HD1 : Hid ((lrnE e x.i).2.length ≤ 1) := hid (dataV_len _ _)
  have hl1 : (lrnE e x.i).1.o.l.length ≤ 1000 := by show (lrnV e.o x.i).1.l.length ≤ 1000; rw [lrnV_l]; exact hl
  have hq1 : (lrnE e x.i).1.o.q < 9223372036854775807 ∧ -9223372036854775808 ≤ (lrnE e x.i).1.o.q := by
    show (lrnV e.o x.i).1.q < 9223372036854775807 ∧ -9223372036854775808 ≤ (lrnV e.o x.i).1.q
    rcases lrnV_q e.o x.i with h9 | h9 <;> rw [h9] <;> omega
  have HA := hid (fun A1 c1 w h9 => acked_any (lrnE e x.i).1.o x.i x.s A1 c1 w h9 hl1 hq1.1 hq1.2)
  have hne := ackV_ne (lrnE e x.i).1.o x.i x.s
  have hll : (ackV (lrnE e x.i).1.o x.i x.s).1.l.length ≤ 1000 := by have := ackV_len (lrnE e x.i).1.o x.i x.s; omega
  have HV : Hid (ackE e x = (setO (lrnE e x.i).1 (ackV (lrnE e x.i).1.o x.i x.s).1, (lrnE e x.i).2 ++ dataV (setO (lrnE e x.i).1 (ackV (lrnE e x.i).1.o x.i x.s).1) (ackV (lrnE e x.i).1.o x.i x.s).2)) := hid rfl
  generalize ackE e x = rv at *
  generalize ackV (lrnE e x.i).1.o x.i x.s = ov at *
  generalize lrnE e x.i = r at *
  obtain ⟨⟨p2, q2, l2, wt2, fl2⟩, bb⟩ := ov
  obtain ⟨⟨f1, t1, i1, ⟨p1, q1, l1, wt1, fl1⟩, m1, gp1, gl1⟩, D1⟩ := r
  obtain ⟨f, t, i, ⟨p, q, l, wt, fl⟩, gm, gp, gl⟩ := e
  obtain ⟨kd, xf, xt, xi, xp, xs, xb⟩ := x
  have hxp2 : i = xp := by simpa using hxp.symm
  clear hxp
  subst hxp2
  simp only [setO] at HV
  simp only at HD1
  have HNE := hid hne
  have HLL := hid hll
  have e0 : (i != i) = false := by simp
  clear h hl hq hq0 hl1 hq1 hne hll
  simp only [ec, oc, pca] at *
  go_enter Tryz.func67, Tryz.ntmps67
  go_upto_region 1 with (fail)
  refine at_world (fun u => u.heap[W.heap.size]? = some (.cells (ec ⟨f, t, i, ⟨p, q, l, wt, fl⟩, gm, gp, gl⟩ A c) 71 (0, 0)) ∧ u.heap[W.heap.size + 1]? = some (.cells (pca ⟨kd, xf, xt, xi, i, xs, xb⟩) 90 (0, 0)) ∧ u.heap[W.heap.size + 2]? = some (.cells ez 71 (0, 0)) ∧ Below W.heap.size W u) (al3 _ _ _ _) ?_
  rintro w1 ⟨hx1, hy1, hz1, hb1⟩
  obtain ⟨⟨cp0, cp1, cp2, cp3, cp4, cp5, cp6, cp7, cp8, cp9, cp10⟩, _⟩ := eleven_cells hx1
  obtain ⟨⟨y0, y1, y2, y3, y4, y5, y6⟩, _⟩ := seven_cells hy1
  have HY1 := hid hy1
  have HZ1 := hid hz1
  have HB1 := hid hb1
  clear hx1 hy1 hz1 hb1
  go_wp2_with fail
  refine (HC.out _ HB1.out).mono ?_
  rintro e w2 ⟨A1, c1, B1, d1, rfl, ho2, hP2, hb2⟩
  simp only [ec]
  have HY2 := hid (keep0 HY1.out hb2)
  have HZ2 := hid (keep0 HZ1.out hb2)
  have HO2 := hid (own_mono ho2 HB1.out.size)
  have HP2 := hid (own_mono hP2 HB1.out.size)
  have HB2 := hid (HB1.out.trans (hb2.mono HB1.out.size))
  have hX : W.heap.size + 3 ≤ w2.heap.size := by have h8 := lt_of_block HZ2.out; omega
  clear cp0 cp1 cp2 cp3 cp4 cp5 cp6 cp7 cp8 cp9 cp10 y0 y1 y2 y3 y4 y5 y6 HY1 HZ1 ho2 hP2 hb2 HB1 HC
  go_upto_region 4 with (fail)
  refine at_world (fun u => u.heap[w2.heap.size]? = some (.cells (ec ⟨f1, t1, i1, ⟨p1, q1, l1, wt1, fl1⟩, m1, gp1, gl1⟩ A1 c1) 71 (0, 0)) ∧ u.heap[W.heap.size + 1]? = some (.cells (pca ⟨kd, xf, xt, xi, i, xs, xb⟩) 90 (0, 0)) ∧ u.heap[W.heap.size + 2]? = some (.cells ez 71 (0, 0)) ∧ u.ownsRow W.heap.size 9 1 (.slice A1 l1.length c1) l1.length (scells l1) ∧ u.ownsRow W.heap.size 90 7 (.slice B1 D1.length d1) D1.length (gcells pkc D1) ∧ Below W.heap.size W u) ⟨heap_alloc_new _ _, keep0 HY2.out ((Below.refl _ _).alloc (Nat.le_refl _) _), keep0 HZ2.out ((Below.refl _ _).alloc (Nat.le_refl _) _), own_keep HO2.out ((Below.refl _ _).alloc (Nat.le_refl _) _), own_keep HP2.out ((Below.refl _ _).alloc (Nat.le_refl _) _), HB2.out.alloc HB2.out.size _⟩ ?_
  clear HY2 HZ2 HO2 HP2 HB2
  generalize w2.heap.size = X at *
  rintro w3 ⟨hx3, hy3, hz3, ho3, hP3, hb3⟩
  obtain ⟨⟨cp0, cp1, cp2, cp3, cp4, cp5, cp6, cp7, cp8, cp9, cp10⟩, _⟩ := eleven_cells hx3
  obtain ⟨⟨y0, y1, y2, y3, y4, y5, y6⟩, _⟩ := seven_cells hy3
  have HA1 := hid (HA.out A1 c1 w3 (sl_own ho3))
  have HX3 := hid hx3
  have HZ3 := hid hz3
  have HP3 := hid hP3
  have HB3 := hid hb3
  clear hx3 hy3 hz3 ho3 hP3 hb3 HA
  go_wp2_with fail
  refine HA1.out.mono ?_
  rintro e w4 ⟨A2, c2, rfl, ho4, hb4⟩
  simp only [oc]
  have HX4 := hid (keep0 HX3.out hb4)
  have HZ4 := hid (keep0 HZ3.out hb4)
  have HO4 := hid (own_mono ho4 HB3.out.size)
  have HP4 := hid (own_keep HP3.out hb4)
  have HB4 := hid (HB3.out.trans (hb4.mono HB3.out.size))
  clear cp0 cp1 cp2 cp3 cp4 cp5 cp6 cp7 cp8 cp9 cp10 y0 y1 y2 y3 y4 y5 y6 HX3 HZ3 HP3 ho4 hb4 HB3 HA1
  go_upto_region 5 with (fail)
  refine at_world (fun u => u.heap[w4.heap.size]? = some (.cells (oc ⟨p2, q2, l2, wt2, fl2⟩ A2 c2) 67 (0, 0)) ∧ u.heap[X]? = some (.cells (ec ⟨f1, t1, i1, ⟨p1, q1, l1, wt1, fl1⟩, m1, gp1, gl1⟩ A1 c1) 71 (0, 0)) ∧ u.heap[W.heap.size + 2]? = some (.cells ez 71 (0, 0)) ∧ u.ownsRow W.heap.size 9 1 (.slice A2 l2.length c2) l2.length (scells l2) ∧ u.ownsRow W.heap.size 90 7 (.slice B1 D1.length d1) D1.length (gcells pkc D1) ∧ Below W.heap.size W u) ⟨heap_alloc_new _ _, keep0 HX4.out ((Below.refl _ _).alloc (Nat.le_refl _) _), keep0 HZ4.out ((Below.refl _ _).alloc (Nat.le_refl _) _), own_keep HO4.out ((Below.refl _ _).alloc (Nat.le_refl _) _), own_keep HP4.out ((Below.refl _ _).alloc (Nat.le_refl _) _), HB4.out.alloc HB4.out.size _⟩ ?_
  clear HX4 HZ4 HO4 HP4 HB4
  generalize w4.heap.size = T at *
  rintro w5 ⟨ht5, hx5, hz5, ho5, hP5, hb5⟩
  obtain ⟨⟨z0, z1, z2, z3, z4⟩, _⟩ := five_cells ht5
  obtain ⟨_, ⟨cg0, cg1, cg2, cg3, cg4, cg5, cg6, cg7, cg8, cg9, cg10⟩⟩ := eleven_cells hx5
  have HS5 := hid (EX.out (o' := ⟨p2, q2, l2, wt2, fl2⟩) hx5 ho5 hb5 (by omega) rfl)
  have HX5 := hid hx5
  have HZ5 := hid hz5
  have HP5 := hid hP5
  clear ht5 hx5 hz5 ho5 hP5 hb5
  go_upto_region 6 with (fail)
  refine at_world (fun u => EX W u X ⟨f1, t1, i1, ⟨p2, q2, l2, wt2, fl2⟩, m1, gp1, gl1⟩ A2 c2 ∧ u.heap[W.heap.size + 2]? = some (.cells ez 71 (0, 0)) ∧ OwnP W u (.slice B1 D1.length d1) D1) ⟨HS5.out, by
    have hne : W.heap.size + 2 ≠ X := by omega
    rw [Below.heap_setCell _ _ _ _ hne, Below.heap_setCell _ _ _ _ hne, Below.heap_setCell _ _ _ _ hne, Below.heap_setCell _ _ _ _ hne, Below.heap_setCell _ _ _ _ hne]
    exact HZ5.out, own_at HP5.out HX5.out (by decide) fun g hg => by rw [Below.heap_setCell _ _ _ _ hg, Below.heap_setCell _ _ _ _ hg, Below.heap_setCell _ _ _ _ hg, Below.heap_setCell _ _ _ _ hg, Below.heap_setCell _ _ _ _ hg]⟩ ?_
  clear z0 z1 z2 z3 z4 cg0 cg1 cg2 cg3 cg4 cg5 cg6 cg7 cg8 cg9 cg10 HS5 HZ5 HX5 HP5
  rintro w6 ⟨hs6, hz6, hP6⟩
  have hk : KZ W X (W.heap.size + 2) ⟨f1, t1, i1, ⟨p2, q2, l2, wt2, fl2⟩, m1, gp1, gl1⟩ A2 c2 w6 := ⟨hs6, _, _, _, _, _, _, _, _, _, _, _, hz6⟩
  have HF := hid (fun w (hw : EX W w X ⟨f1, t1, i1, ⟨p2, q2, l2, wt2, fl2⟩, m1, gp1, gl1⟩ A2 c2) => lfirst_any ⟨f1, t1, i1, ⟨p2, q2, l2, wt2, fl2⟩, m1, gp1, gl1⟩ bb HNE.out A2 c2 w (sl_own hw.2.1) HLL.out)
  have HD : Hid ((dataV ⟨f1, t1, i1, ⟨p2, q2, l2, wt2, fl2⟩, m1, gp1, gl1⟩ bb).length ≤ 1) := hid (dataV_len _ _)
  generalize hdv : dataV ⟨f1, t1, i1, ⟨p2, q2, l2, wt2, fl2⟩, m1, gp1, gl1⟩ bb = D at *
  simp only [ec] at HF
  have hS : ∀ U, KZ W X (W.heap.size + 2) ⟨f1, t1, i1, ⟨p2, q2, l2, wt2, fl2⟩, m1, gp1, gl1⟩ A2 c2 U → (((U.cell? ⟨X, 0, none⟩ = some (.int .i64 f1) ∧ U.cell? ⟨X, 1, none⟩ = some (.int .i64 t1) ∧ U.cell? ⟨X, 2, none⟩ = some (.int .i64 i1) ∧ U.cell? ⟨X, 3, none⟩ = some (.int .i64 p2) ∧ U.cell? ⟨X, 4, none⟩ = some (.int .i64 q2) ∧ U.cell? ⟨X, 5, none⟩ = some (.slice A2 l2.length c2) ∧ U.cell? ⟨X, 6, none⟩ = some (.int .i64 wt2) ∧ U.cell? ⟨X, 7, none⟩ = some (.int .i64 fl2) ∧ U.cell? ⟨X, 8, none⟩ = some (.int .i64 m1) ∧ U.cell? ⟨X, 9, none⟩ = some (.int .i64 gp1) ∧ U.cell? ⟨X, 10, none⟩ = some (.int .i64 gl1)) ∧ (U.frozen? ⟨W.heap.size + 2, 0, none⟩ = false ∧ U.frozen? ⟨W.heap.size + 2, 1, none⟩ = false ∧ U.frozen? ⟨W.heap.size + 2, 2, none⟩ = false ∧ U.frozen? ⟨W.heap.size + 2, 3, none⟩ = false ∧ U.frozen? ⟨W.heap.size + 2, 4, none⟩ = false ∧ U.frozen? ⟨W.heap.size + 2, 5, none⟩ = false ∧ U.frozen? ⟨W.heap.size + 2, 6, none⟩ = false ∧ U.frozen? ⟨W.heap.size + 2, 7, none⟩ = false ∧ U.frozen? ⟨W.heap.size + 2, 8, none⟩ = false ∧ U.frozen? ⟨W.heap.size + 2, 9, none⟩ = false ∧ U.frozen? ⟨W.heap.size + 2, 10, none⟩ = false)) ∧ KZ W X (W.heap.size + 2) ⟨f1, t1, i1, ⟨p2, q2, l2, wt2, fl2⟩, m1, gp1, gl1⟩ A2 c2 U) := fun U h => ⟨h.cells, h⟩
  obtain ⟨⟨cp0, cp1, cp2, cp3, cp4, cp5, cp6, cp7, cp8, cp9, cp10⟩, ⟨cg0, cg1, cg2, cg3, cg4, cg5, cg6, cg7, cg8, cg9, cg10⟩⟩ := hk.cells
  have HK := hid (And.intro hk hP6)
  clear hs6 hz6 hk hP6 hdv
  go_upto_region 6 with (fail)
  have hk0 : KZ W X (W.heap.size + 2) ⟨f1, t1, i1, ⟨p2, q2, l2, wt2, fl2⟩, m1, gp1, gl1⟩ A2 c2 w6.drew ∧ OwnP W w6.drew (.slice B1 D1.length d1) D1 := ⟨HK.out.1.call (below_drew (Below.refl _ _)), own_keep HK.out.2 (below_drew (Below.refl _ _))⟩
  refine wp_region_held_drew (S := fun U => ((U.cell? ⟨X, 0, none⟩ = some (.int .i64 f1) ∧ U.cell? ⟨X, 1, none⟩ = some (.int .i64 t1) ∧ U.cell? ⟨X, 2, none⟩ = some (.int .i64 i1) ∧ U.cell? ⟨X, 3, none⟩ = some (.int .i64 p2) ∧ U.cell? ⟨X, 4, none⟩ = some (.int .i64 q2) ∧ U.cell? ⟨X, 5, none⟩ = some (.slice A2 l2.length c2) ∧ U.cell? ⟨X, 6, none⟩ = some (.int .i64 wt2) ∧ U.cell? ⟨X, 7, none⟩ = some (.int .i64 fl2) ∧ U.cell? ⟨X, 8, none⟩ = some (.int .i64 m1) ∧ U.cell? ⟨X, 9, none⟩ = some (.int .i64 gp1) ∧ U.cell? ⟨X, 10, none⟩ = some (.int .i64 gl1)) ∧ (U.frozen? ⟨W.heap.size + 2, 0, none⟩ = false ∧ U.frozen? ⟨W.heap.size + 2, 1, none⟩ = false ∧ U.frozen? ⟨W.heap.size + 2, 2, none⟩ = false ∧ U.frozen? ⟨W.heap.size + 2, 3, none⟩ = false ∧ U.frozen? ⟨W.heap.size + 2, 4, none⟩ = false ∧ U.frozen? ⟨W.heap.size + 2, 5, none⟩ = false ∧ U.frozen? ⟨W.heap.size + 2, 6, none⟩ = false ∧ U.frozen? ⟨W.heap.size + 2, 7, none⟩ = false ∧ U.frozen? ⟨W.heap.size + 2, 8, none⟩ = false ∧ U.frozen? ⟨W.heap.size + 2, 9, none⟩ = false ∧ U.frozen? ⟨W.heap.size + 2, 10, none⟩ = false)) ∧ KZ W X (W.heap.size + 2) ⟨f1, t1, i1, ⟨p2, q2, l2, wt2, fl2⟩, m1, gp1, gl1⟩ A2 c2 U) (by kernel_rfl) (hS _ hk0.1) (fun hHeld => ?_)
  refine tkA 0 ?_ rfl ?_ (by assumption) ?_; rotate_left; focus (intro U hU; (try dsimp only at hU); go_simp; try (with_reducible rfl))
  simp only [gt6, Act.put]
  refine tkA 1 ?_ rfl ?_ (by assumption) ?_; rotate_left; focus (intro U hU; (try dsimp only at hU); go_simp; try (with_reducible rfl))
  simp only [gt6, Act.put]
  refine tkA 2 ?_ rfl ?_ (by assumption) ?_; rotate_left; focus (intro U hU; (try dsimp only at hU); go_simp; try (with_reducible rfl))
  simp only [gt6, Act.put]
  refine tkA 3 ?_ rfl ?_ (by assumption) ?_; rotate_left; focus (intro U hU; (try dsimp only at hU); go_simp; try (with_reducible rfl))
  simp only [gt6, Act.put]
  refine wpAnyH_ready (rs := [4]) (by kernel_rfl) (by simp) ?_
  refine AllReadyH.cons rfl (fun K hK => ?_) AllReadyH.nil
  simp only [gt3]
  go_simp
  refine (HF.out _ hk0.1.1).mono ?_
  rintro e u1 ⟨B, d, rfl, ho1, g1⟩
  have hk1 := And.intro (hk0.1.call g1) (own_keep hk0.2 g1)
  have hsl1 := sl_own ho1
  clear ho1
  go_wp2_with fail
  refine hK.out _ _ ?_ (fun hHeld2 => ?_)
  focus
    exact hS _ hk1.1
  clear hHeld
  have hHeld := hHeld2
  clear hHeld2 hK K
  try simp only [gt6, Act.put]
  refine wpAnyH_ready (rs := [5]) (by kernel_rfl) (by simp) ?_
  refine AllReadyH.cons rfl (fun K hK => ?_) AllReadyH.nil
  refine step_append_sl rfl (.tmp 36) (.tmp 39) 72 rfl W.heap.size 90 Tryz.underlying72 info_pkt rfl (by omega) rfl hk1.2 rfl hsl1 (pkc_one _) (by unfold maxLen; have := HD1.out; have := HD.out; omega) (by have := HD1.out; have := HD.out; omega) (by have := hk1.1.1.2.2.size; omega) ?_
  intro v5 w5 ho5 hb5 hsz5 hk5
  simp only [gt3]
  have hk6 := hk1.1.app hk1.2 hb5 hk5 (by omega) (by omega)
  obtain ⟨B5, d5, rfl, _⟩ := Sl.of_own ho5
  have hk7 := hk6
  obtain ⟨_, ⟨y0, y1, y2, y3, y4, y5, y6, y7, y8, y9, y10, hz1⟩⟩ := hk6
  have hk8 := hk7.store (by omega) (by omega) (.int .i64 f1) (.int .i64 t1) (.int .i64 i1) (.int .i64 p2) (.int .i64 q2) (.slice A2 l2.length c2) (.int .i64 wt2) (.int .i64 fl2) (.int .i64 m1) (.int .i64 gp1) (.int .i64 gl1)
  have hz5 := put11_heap hz1 (.int .i64 f1) (.int .i64 t1) (.int .i64 i1) (.int .i64 p2) (.int .i64 q2) (.slice A2 l2.length c2) (.int .i64 wt2) (.int .i64 fl2) (.int .i64 m1) (.int .i64 gp1) (.int .i64 gl1)
  have hP5 := own_at ho5 hz1 (by decide) fun g hg => put11_other (w := w5) hg (.int .i64 f1) (.int .i64 t1) (.int .i64 i1) (.int .i64 p2) (.int .i64 q2) (.slice A2 l2.length c2) (.int .i64 wt2) (.int .i64 fl2) (.int .i64 m1) (.int .i64 gp1) (.int .i64 gl1)
  simp only [put11] at hz5 hP5
  obtain ⟨_, ⟨cg0, cg1, cg2, cg3, cg4, cg5, cg6, cg7, cg8, cg9, cg10⟩⟩ := eleven_cells hz1
  clear hz1 hb5 hsz5 hk5
  refine hK.out _ _ ?_ (fun hHeld2 => ?_)
  focus
    exact hS _ hk7
  clear hHeld
  have hHeld := hHeld2
  clear hHeld2 hK K
  try simp only [gt6, Act.put]
  refine wpAnyH_ready (rs := [6]) (by kernel_rfl) (by simp) ?_
  refine AllReadyH.cons rfl (fun K hK => ?_) AllReadyH.nil
  simp only [gt3]
  go_simp
  refine hK.out _ _ ?_ (fun hHeld2 => ?_)
  focus
    exact hS _ hk8
  clear hHeld
  have hHeld := hHeld2
  clear hHeld2 hK K
  try simp only [gt6, Act.put]
  refine tkA 7 ?_ rfl ?_ (by assumption) ?_; rotate_left; focus (intro U hU; (try dsimp only at hU); go_simp; try (with_reducible rfl))
  simp only [gt6, Act.put]
  refine wpAnyH_done (by kernel_rfl) ?_ _
  obtain ⟨⟨cr0, cr1, cr2, cr3, cr4, cr5, cr6, cr7, cr8, cr9, cr10⟩, _⟩ := eleven_cells hz5
  have HO := hid (ownP_app hP5)
  have HK8 := hid hk8
  have HLE : Hid (D1.length + D.length = (D1 ++ D).length) := hid (by simp)
  clear hHeld hS hz5 hP5 hk0 hk1 hk7 hk8
  go_wp2_with fail
  exact bodyPost_ret (v := .tuple #[.agg #[.int .i64 f1, .int .i64 t1, .int .i64 i1, .int .i64 p2, .int .i64 q2, .slice A2 l2.length c2, .int .i64 wt2, .int .i64 fl2, .int .i64 m1, .int .i64 gp1, .int .i64 gl1], .slice B5 (D1.length + D.length) d5]) (by simp [results, Tryz.results67, go_sem, cr0, cr1, cr2, cr3, cr4, cr5, cr6, cr7, cr8, cr9, cr10]) rfl (by rw [HV.out]; exact ⟨A2, c2, B5, d5, by rw [← HLE.out]; rfl, HK8.out.1.2.1, by rw [← HLE.out]; exact HO.out, HK8.out.1.2.2⟩)

set_option maxRecDepth 20000 in
set_option maxHeartbeats 4000000 in
theorem tack_no (e : Ev) (x : Pk) (hxp : x.p ≠ e.i) (A : Option Addr) (c : Nat) (W : World) :
    Calls Tryz.prog 67 #[.agg (ec e A c), .agg (pca x)] W fun y w' => y = .returned (.tuple #[.agg (ec e A c), .slice none 0 0]) ∧ Below W.heap.size W w' := by
  obtain ⟨f, t, i, ⟨p, q, l, wt, fl⟩, gm, gp, gl⟩ := e
  obtain ⟨kd, xf, xt, xi, xp, xs, xb⟩ := x
  have e0 : (xp != i) = true := by simpa using hxp
  clear hxp
  simp only [ec, pca] at *
  go_enter Tryz.func67, Tryz.ntmps67
  go_upto_region 1 with (fail)
  refine at_world (fun u => u.heap[W.heap.size]? = some (.cells (ec ⟨f, t, i, ⟨p, q, l, wt, fl⟩, gm, gp, gl⟩ A c) 71 (0, 0)) ∧ u.heap[W.heap.size + 1]? = some (.cells (pca ⟨kd, xf, xt, xi, xp, xs, xb⟩) 90 (0, 0)) ∧ u.heap[W.heap.size + 2]? = some (.cells ez 71 (0, 0)) ∧ Below W.heap.size W u) (al3 _ _ _ _) ?_
  rintro w1 ⟨hx1, hy1, hz1, hb1⟩
  obtain ⟨⟨cp0, cp1, cp2, cp3, cp4, cp5, cp6, cp7, cp8, cp9, cp10⟩, _⟩ := eleven_cells hx1
  obtain ⟨⟨y0, y1, y2, y3, y4, y5, y6⟩, _⟩ := seven_cells hy1
  obtain ⟨_, ⟨cg0, cg1, cg2, cg3, cg4, cg5, cg6, cg7, cg8, cg9, cg10⟩⟩ := eleven_cells hz1
  have HB := hid (put11_below hb1 (show W.heap.size ≤ W.heap.size + 2 by omega) (.int .i64 f) (.int .i64 t) (.int .i64 i) (.int .i64 p) (.int .i64 q) (.slice A l.length c) (.int .i64 wt) (.int .i64 fl) (.int .i64 gm) (.int .i64 gp) (.int .i64 gl))
  have hz5 := put11_heap hz1 (.int .i64 f) (.int .i64 t) (.int .i64 i) (.int .i64 p) (.int .i64 q) (.slice A l.length c) (.int .i64 wt) (.int .i64 fl) (.int .i64 gm) (.int .i64 gp) (.int .i64 gl)
  simp only [put11] at hz5
  obtain ⟨⟨cr0, cr1, cr2, cr3, cr4, cr5, cr6, cr7, cr8, cr9, cr10⟩, _⟩ := eleven_cells hz5
  clear hx1 hy1 hz1 hb1 hz5
  go_wp2
  exact bodyPost_ret (v := .tuple #[.agg #[.int .i64 f, .int .i64 t, .int .i64 i, .int .i64 p, .int .i64 q, .slice A l.length c, .int .i64 wt, .int .i64 fl, .int .i64 gm, .int .i64 gp, .int .i64 gl], .slice none 0 0]) (by simp [results, Tryz.results67, go_sem, cr0, cr1, cr2, cr3, cr4, cr5, cr6, cr7, cr8, cr9, cr10]) rfl ⟨rfl, HB.out⟩
end Go.Proofs.YtdphdodjidbngaaGreat

