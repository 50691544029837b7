/- link.learned, Tick, Put: contracts. -/
import Derived.Test.YtdphdodjidbngaaGreatQGt
import Derived.Test.YtdphdodjidbngaaGreatLkP
namespace Go.Proofs.YtdphdodjidbngaaGreat
open Go.RowKit Go.Sort
set_option linter.unusedVariables false
set_option linter.unusedSimpArgs false

/-- What a call answers that gives an end and packets. -/
def EndR (r : Ev × List Pk) (W : World) (x : Ending) (w' : World) : Prop :=
  ∃ A c B d, x = .returned (.tuple #[.agg (ec r.1 A c), .slice B r.2.length d]) ∧ w'.ownsRow W.heap.size 9 1 (.slice A r.1.o.l.length c) r.1.o.l.length (scells r.1.o.l) ∧ OwnP W w' (.slice B r.2.length d) r.2 ∧ Below W.heap.size W w'
def setO (e : Ev) (o : Ov) : Ev := ⟨e.f, e.t, e.i, o, e.m, e.p, e.l⟩
def lrnE (e : Ev) (inc : Int) : Ev × List Pk := (⟨e.f, e.t, e.i, (lrnV e.o inc).1, e.m, gP e.p inc, gL e.p e.l inc⟩, dataV ⟨e.f, e.t, e.i, (lrnV e.o inc).1, e.m, gP e.p inc, gL e.p e.l inc⟩ (lrnV e.o inc).2)
def tikE (e : Ev) : Ev × List Pk := (setO e (tikV e.o).1, dataV (setO e (tikV e.o).1) (tikV e.o).2)
def putE (e : Ev) (bound : Int) (y : List UInt8) : (Ev × List Pk) × Int :=
  if 32 < y.length then ((e, []), 1) else ((setO e (putV e.o bound y).1.1, dataV (setO e (putV e.o bound y).1.1) (putV e.o bound y).1.2), (putV e.o bound y).2)
theorem begV_ne (o : Ov) (h : (begV o).2 = true) : (begV o).1.l ≠ [] := by
  rw [begV_l]
  unfold begV at h
  split at h
  · cases h
  · intro h2; rename_i h3; exact h3 (by rw [h2]; rfl)
theorem lrnV_ne (o : Ov) (k : Int) (h : (lrnV o k).2 = true) : (lrnV o k).1.l ≠ [] := by
  unfold lrnV at h ⊢
  split at h
  · cases h
  · rename_i h2
    rw [if_neg h2]
    exact begV_ne _ h
theorem lrnV_l (o : Ov) (k : Int) : (lrnV o k).1.l = o.l := by
  unfold lrnV
  split
  · rfl
  · rw [begV_l]
theorem tikV_l (o : Ov) : (tikV o).1.l = o.l := by
  unfold tikV
  split <;> rfl
theorem tikV_ne (o : Ov) (h : (tikV o).2 = true) : (tikV o).1.l ≠ [] := by
  rw [tikV_l]
  unfold tikV at h
  split at h
  · cases h
  · assumption
theorem putV_ne (o : Ov) (k : Int) (y : List UInt8) (h : (putV o k y).1.2 = true) : (putV o k y).1.1.l ≠ [] := by
  unfold putV at h ⊢
  split at h
  · cases h
  · rename_i h1
    split at h
    · cases h
    · rename_i h2
      split at h
      · cases h
      · rename_i h3
        split at h
        · rename_i h4
          rw [if_neg h1, if_neg h2, if_neg h3, if_pos h4]
          simp
        · cases h
theorem putV_len (o : Ov) (k : Int) (y : List UInt8) : (putV o k y).1.1.l.length ≤ o.l.length + 1 := by
  unfold putV
  split
  · simp
  · split
    · simp
    · split
      · simp
      · split
        · simp
        · simp
/-- The copy at X, the result at Z. -/
def KZ (W : World) (X Z : Nat) (e : Ev) (A : Option Addr) (c : Nat) (U : World) : Prop := EX W U X e A c ∧ ∃ x0 x1 x2 x3 x4 x5 x6 x7 x8 x9 x10, U.heap[Z]? = some (.cells #[x0, x1, x2, x3, x4, x5, x6, x7, x8, x9, x10] 71 (0, 0))
theorem KZ.call {W U V : World} {X Z : Nat} {e : Ev} {A : Option Addr} {c : Nat} (h : KZ W X Z e A c U) (hb : Below U.heap.size U V) : KZ W X Z e A c V := by
  obtain ⟨h1, x0, x1, x2, x3, x4, x5, x6, x7, x8, x9, x10, h2⟩ := h
  exact ⟨h1.keep hb, x0, x1, x2, x3, x4, x5, x6, x7, x8, x9, x10, keep0 h2 hb⟩
theorem KZ.store {W U : World} {X Z : Nat} {e : Ev} {A : Option Addr} {c : Nat} (h : KZ W X Z e A c U) (hne : X ≠ Z) (hZ : W.heap.size ≤ Z) (a0 a1 a2 a3 a4 a5 a6 a7 a8 a9 a10 : Value) : KZ W X Z e A c (((((((((((U.setCell ⟨Z, 0, none⟩ a0).setCell ⟨Z, 1, none⟩ a1).setCell ⟨Z, 2, none⟩ a2).setCell ⟨Z, 3, none⟩ a3).setCell ⟨Z, 4, none⟩ a4).setCell ⟨Z, 5, none⟩ a5).setCell ⟨Z, 6, none⟩ a6).setCell ⟨Z, 7, none⟩ a7).setCell ⟨Z, 8, none⟩ a8).setCell ⟨Z, 9, none⟩ a9).setCell ⟨Z, 10, none⟩ a10) := by
  obtain ⟨h1, x0, x1, x2, x3, x4, x5, x6, x7, x8, x9, x10, h2⟩ := h
  have h3 := EX.ret h1 h2 hZ a0 a1 a2 a3 a4 a5 a6 a7 a8 a9 a10
  exact ⟨⟨(put11_other hne a0 a1 a2 a3 a4 a5 a6 a7 a8 a9 a10).trans h1.1, h3.1, h3.2⟩, a0, a1, a2, a3, a4, a5, a6, a7, a8, a9, a10, put11_heap h2 a0 a1 a2 a3 a4 a5 a6 a7 a8 a9 a10⟩
theorem KZ.cells {W U : World} {X Z : Nat} {e : Ev} {A : Option Addr} {c : Nat} (h : KZ W X Z e A c U) : (U.cell? ⟨X, 0, none⟩ = some (.int .i64 e.f) ∧ U.cell? ⟨X, 1, none⟩ = some (.int .i64 e.t) ∧ U.cell? ⟨X, 2, none⟩ = some (.int .i64 e.i) ∧ U.cell? ⟨X, 3, none⟩ = some (.int .i64 e.o.p) ∧ U.cell? ⟨X, 4, none⟩ = some (.int .i64 e.o.q) ∧ U.cell? ⟨X, 5, none⟩ = some (.slice A e.o.l.length c) ∧ U.cell? ⟨X, 6, none⟩ = some (.int .i64 e.o.w) ∧ U.cell? ⟨X, 7, none⟩ = some (.int .i64 e.o.f) ∧ U.cell? ⟨X, 8, none⟩ = some (.int .i64 e.m) ∧ U.cell? ⟨X, 9, none⟩ = some (.int .i64 e.p) ∧ U.cell? ⟨X, 10, none⟩ = some (.int .i64 e.l)) ∧ (U.frozen? ⟨Z, 0, none⟩ = false ∧ U.frozen? ⟨Z, 1, none⟩ = false ∧ U.frozen? ⟨Z, 2, none⟩ = false ∧ U.frozen? ⟨Z, 3, none⟩ = false ∧ U.frozen? ⟨Z, 4, none⟩ = false ∧ U.frozen? ⟨Z, 5, none⟩ = false ∧ U.frozen? ⟨Z, 6, none⟩ = false ∧ U.frozen? ⟨Z, 7, none⟩ = false ∧ U.frozen? ⟨Z, 8, none⟩ = false ∧ U.frozen? ⟨Z, 9, none⟩ = false ∧ U.frozen? ⟨Z, 10, none⟩ = false) := by
  obtain ⟨h1, x0, x1, x2, x3, x4, x5, x6, x7, x8, x9, x10, h2⟩ := h
  exact ⟨(eleven_cells h1.1).1, (eleven_cells h2).2⟩

set_option maxRecDepth 20000 in
set_option maxHeartbeats 8000000 in
theorem learned_any (e : Ev) (inc : Int) (A : Option Addr) (c : Nat) (W : World) (h : Sl W 1 A e.o.l.length c (scells e.o.l)) (hl : e.o.l.length ≤ 1000) :
    Calls Tryz.prog 68 #[.agg (ec e A c), .int .i64 inc] W (EndR (lrnE e inc) W) := by
  have HC := hid (fun w (hw : Below W.heap.size W w) => learn_any e.o inc A c w (h.below hw) hl)
  have HG := hid (fun w => glearn_any e.m e.p e.l inc w)
  have hne := lrnV_ne e.o inc
  have hll : (lrnV e.o inc).1.l.length ≤ 1000 := by rw [lrnV_l]; exact hl
  have HV : Hid (lrnE e inc = (⟨e.f, e.t, e.i, (lrnV e.o inc).1, e.m, gP e.p inc, gL e.p e.l inc⟩, dataV ⟨e.f, e.t, e.i, (lrnV e.o inc).1, e.m, gP e.p inc, gL e.p e.l inc⟩ (lrnV e.o inc).2)) := hid rfl
  generalize lrnE e inc = rv at *
  generalize gP e.p inc = gp2 at *
  generalize gL e.p e.l inc = gl2 at *
  generalize lrnV e.o inc = ov at *
  obtain ⟨⟨p2, q2, l2, wt2, fl2⟩, bb⟩ := ov
  obtain ⟨f, t, i, ⟨p, q, l, wt, fl⟩, gm, gp, gl⟩ := e
  have HNE := hid hne
  have HLL := hid hll
  clear h hl hne hll
  simp only [ec, oc] at *
  go_enter Tryz.func68, Tryz.ntmps68
  go_upto_region 1 with (fail)
  refine at_world (fun u => u.heap[W.heap.size]? = some (.cells (ec ⟨f, t, i, ⟨p, q, l, wt, fl⟩, gm, gp, gl⟩ A c) 71 (0, 0)) ∧ u.heap[W.heap.size + 1]? = some (.cells ez 71 (0, 0)) ∧ Below W.heap.size W u) ⟨heap_first _ _ _, heap_second _ _ _, below2 _ _ _⟩ ?_
  rintro w1 ⟨hx1, hz1, hb1⟩
  obtain ⟨⟨cp0, cp1, cp2, cp3, cp4, cp5, cp6, cp7, cp8, cp9, cp10⟩, _⟩ := eleven_cells hx1
  have HX1 := hid hx1
  have HZ1 := hid hz1
  have HB1 := hid hb1
  clear hx1 hz1 hb1
  go_wp2_with fail
  refine (HC.out _ HB1.out).mono ?_
  rintro e w2 ⟨A2, c2, rfl, ho2, hb2⟩
  simp only [oc]
  clear cp0 cp1 cp2 cp3 cp4 cp5 cp6 cp7 cp8 cp9 cp10
  have HX2 := hid (keep0 HX1.out hb2)
  have HZ2 := hid (keep0 HZ1.out hb2)
  have HO2 := hid (own_mono ho2 HB1.out.size)
  have HB2 := hid (HB1.out.trans (hb2.mono HB1.out.size))
  clear HX1 HZ1 ho2 hb2 HB1 HC
  go_upto_region 2 with (fail)
  refine at_world (fun u => u.heap[w2.heap.size]? = some (.cells (oc ⟨p2, q2, l2, wt2, fl2⟩ A2 c2) 67 (0, 0)) ∧ u.heap[W.heap.size]? = some (.cells (ec ⟨f, t, i, ⟨p, q, l, wt, fl⟩, gm, gp, gl⟩ A c) 71 (0, 0)) ∧ u.heap[W.heap.size + 1]? = some (.cells ez 71 (0, 0)) ∧ u.ownsRow W.heap.size 9 1 (.slice A2 l2.length c2) l2.length (scells l2) ∧ Below W.heap.size W u) ⟨heap_alloc_new _ _, keep0 HX2.out ((Below.refl _ _).alloc (Nat.le_refl _) _), keep0 HZ2.out ((Below.refl _ _).alloc (Nat.le_refl _) _), own_keep HO2.out ((Below.refl _ _).alloc (Nat.le_refl _) _), HB2.out.alloc HB2.out.size _⟩ ?_
  rintro w3 ⟨ht3, hx3, hz3, ho3, hb3⟩
  obtain ⟨⟨z0, z1, z2, z3, z4⟩, _⟩ := five_cells ht3
  obtain ⟨_, ⟨cg0, cg1, cg2, cg3, cg4, cg5, cg6, cg7, cg8, cg9, cg10⟩⟩ := eleven_cells hx3
  have HS3 := hid (EX.out (o' := ⟨p2, q2, l2, wt2, fl2⟩) hx3 ho3 hb3 (Nat.le_refl _) rfl)
  have HZ3 := hid hz3
  clear ht3 hx3 hz3 ho3 hb3 HX2 HZ2 HO2 HB2
  generalize w2.heap.size = T at *
  go_upto_region 3 with (fail)
  refine at_world (fun u => EX W u W.heap.size ⟨f, t, i, ⟨p2, q2, l2, wt2, fl2⟩, gm, gp, gl⟩ A2 c2 ∧ u.heap[W.heap.size + 1]? = some (.cells ez 71 (0, 0))) ⟨HS3.out, by
    have hne : W.heap.size + 1 ≠ W.heap.size := by omega
    rw [Below.heap_setCell _ _ _ _ hne, Below.heap_setCell _ _ _ _ hne, Below.heap_setCell _ _ _ _ hne, Below.heap_setCell _ _ _ _ hne, Below.heap_setCell _ _ _ _ hne]
    exact HZ3.out⟩ ?_
  clear z0 z1 z2 z3 z4 cg0 cg1 cg2 cg3 cg4 cg5 cg6 cg7 cg8 cg9 cg10 HS3 HZ3
  rintro w4 ⟨hs4, hz4⟩
  obtain ⟨⟨cp0, cp1, cp2, cp3, cp4, cp5, cp6, cp7, cp8, cp9, cp10⟩, _⟩ := eleven_cells hs4.1
  have HS4 := hid hs4
  have HZ4 := hid hz4
  clear hs4 hz4
  go_wp2_with fail
  refine (HG.out _).mono ?_
  rintro e w5 ⟨rfl, hb5⟩
  have HS5 := hid (HS4.out.keep hb5)
  have HZ5 := hid (keep0 HZ4.out hb5)
  clear cp0 cp1 cp2 cp3 cp4 cp5 cp6 cp7 cp8 cp9 cp10 HS4 HZ4 hb5 HG
  obtain ⟨⟨cp0, cp1, cp2, cp3, cp4, cp5, cp6, cp7, cp8, cp9, cp10⟩, ⟨cg0, cg1, cg2, cg3, cg4, cg5, cg6, cg7, cg8, cg9, cg10⟩⟩ := eleven_cells HS5.out.1
  go_upto_region 4 with (fail)
  refine at_world (fun u => EX W u W.heap.size ⟨f, t, i, ⟨p2, q2, l2, wt2, fl2⟩, gm, gp2, gl2⟩ A2 c2 ∧ u.heap[W.heap.size + 1]? = some (.cells ez 71 (0, 0))) ⟨HS5.out.gate (Nat.le_refl _) gm gp2 gl2 rfl, by
    have hne : W.heap.size + 1 ≠ W.heap.size := by omega
    rw [Below.heap_setCell _ _ _ _ hne, Below.heap_setCell _ _ _ _ hne, Below.heap_setCell _ _ _ _ hne]
    exact HZ5.out⟩ ?_
  clear cp0 cp1 cp2 cp3 cp4 cp5 cp6 cp7 cp8 cp9 cp10 cg0 cg1 cg2 cg3 cg4 cg5 cg6 cg7 cg8 cg9 cg10 HS5 HZ5
  rintro w4 ⟨hs4, hz4⟩
  have hk4 : KZ W W.heap.size (W.heap.size + 1) ⟨f, t, i, ⟨p2, q2, l2, wt2, fl2⟩, gm, gp2, gl2⟩ A2 c2 w4 := ⟨hs4, _, _, _, _, _, _, _, _, _, _, _, hz4⟩
  have HK := hid hk4
  have HF := hid (fun w (hw : EX W w W.heap.size ⟨f, t, i, ⟨p2, q2, l2, wt2, fl2⟩, gm, gp2, gl2⟩ A2 c2) => lfirst_any ⟨f, t, i, ⟨p2, q2, l2, wt2, fl2⟩, gm, gp2, gl2⟩ bb HNE.out A2 c2 w (sl_own hw.2.1) HLL.out)
  generalize hdv : dataV ⟨f, t, i, ⟨p2, q2, l2, wt2, fl2⟩, gm, gp2, gl2⟩ bb = D at *
  simp only [ec] at HF
  obtain ⟨⟨cp0, cp1, cp2, cp3, cp4, cp5, cp6, cp7, cp8, cp9, cp10⟩, ⟨cg0, cg1, cg2, cg3, cg4, cg5, cg6, cg7, cg8, cg9, cg10⟩⟩ := hk4.cells
  have hS : ∀ U, KZ W W.heap.size (W.heap.size + 1) ⟨f, t, i, ⟨p2, q2, l2, wt2, fl2⟩, gm, gp2, gl2⟩ A2 c2 U → (((U.cell? ⟨W.heap.size, 0, none⟩ = some (.int .i64 f) ∧ U.cell? ⟨W.heap.size, 1, none⟩ = some (.int .i64 t) ∧ U.cell? ⟨W.heap.size, 2, none⟩ = some (.int .i64 i) ∧ U.cell? ⟨W.heap.size, 3, none⟩ = some (.int .i64 p2) ∧ U.cell? ⟨W.heap.size, 4, none⟩ = some (.int .i64 q2) ∧ U.cell? ⟨W.heap.size, 5, none⟩ = some (.slice A2 l2.length c2) ∧ U.cell? ⟨W.heap.size, 6, none⟩ = some (.int .i64 wt2) ∧ U.cell? ⟨W.heap.size, 7, none⟩ = some (.int .i64 fl2) ∧ U.cell? ⟨W.heap.size, 8, none⟩ = some (.int .i64 gm) ∧ U.cell? ⟨W.heap.size, 9, none⟩ = some (.int .i64 gp2) ∧ U.cell? ⟨W.heap.size, 10, none⟩ = some (.int .i64 gl2)) ∧ (U.frozen? ⟨W.heap.size + 1, 0, none⟩ = false ∧ U.frozen? ⟨W.heap.size + 1, 1, none⟩ = false ∧ U.frozen? ⟨W.heap.size + 1, 2, none⟩ = false ∧ U.frozen? ⟨W.heap.size + 1, 3, none⟩ = false ∧ U.frozen? ⟨W.heap.size + 1, 4, none⟩ = false ∧ U.frozen? ⟨W.heap.size + 1, 5, none⟩ = false ∧ U.frozen? ⟨W.heap.size + 1, 6, none⟩ = false ∧ U.frozen? ⟨W.heap.size + 1, 7, none⟩ = false ∧ U.frozen? ⟨W.heap.size + 1, 8, none⟩ = false ∧ U.frozen? ⟨W.heap.size + 1, 9, none⟩ = false ∧ U.frozen? ⟨W.heap.size + 1, 10, none⟩ = false)) ∧ KZ W W.heap.size (W.heap.size + 1) ⟨f, t, i, ⟨p2, q2, l2, wt2, fl2⟩, gm, gp2, gl2⟩ A2 c2 U) := fun U h => ⟨h.cells, h⟩
  clear hs4 hz4 hk4
  go_upto_region 4 with (fail)
  have hk0 : KZ W W.heap.size (W.heap.size + 1) ⟨f, t, i, ⟨p2, q2, l2, wt2, fl2⟩, gm, gp2, gl2⟩ A2 c2 w4.drew := HK.out.call (below_drew (Below.refl _ _))
  refine wp_region_held_drew (S := fun U => ((U.cell? ⟨W.heap.size, 0, none⟩ = some (.int .i64 f) ∧ U.cell? ⟨W.heap.size, 1, none⟩ = some (.int .i64 t) ∧ U.cell? ⟨W.heap.size, 2, none⟩ = some (.int .i64 i) ∧ U.cell? ⟨W.heap.size, 3, none⟩ = some (.int .i64 p2) ∧ U.cell? ⟨W.heap.size, 4, none⟩ = some (.int .i64 q2) ∧ U.cell? ⟨W.heap.size, 5, none⟩ = some (.slice A2 l2.length c2) ∧ U.cell? ⟨W.heap.size, 6, none⟩ = some (.int .i64 wt2) ∧ U.cell? ⟨W.heap.size, 7, none⟩ = some (.int .i64 fl2) ∧ U.cell? ⟨W.heap.size, 8, none⟩ = some (.int .i64 gm) ∧ U.cell? ⟨W.heap.size, 9, none⟩ = some (.int .i64 gp2) ∧ U.cell? ⟨W.heap.size, 10, none⟩ = some (.int .i64 gl2)) ∧ (U.frozen? ⟨W.heap.size + 1, 0, none⟩ = false ∧ U.frozen? ⟨W.heap.size + 1, 1, none⟩ = false ∧ U.frozen? ⟨W.heap.size + 1, 2, none⟩ = false ∧ U.frozen? ⟨W.heap.size + 1, 3, none⟩ = false ∧ U.frozen? ⟨W.heap.size + 1, 4, none⟩ = false ∧ U.frozen? ⟨W.heap.size + 1, 5, none⟩ = false ∧ U.frozen? ⟨W.heap.size + 1, 6, none⟩ = false ∧ U.frozen? ⟨W.heap.size + 1, 7, none⟩ = false ∧ U.frozen? ⟨W.heap.size + 1, 8, none⟩ = false ∧ U.frozen? ⟨W.heap.size + 1, 9, none⟩ = false ∧ U.frozen? ⟨W.heap.size + 1, 10, none⟩ = false)) ∧ KZ W W.heap.size (W.heap.size + 1) ⟨f, t, i, ⟨p2, q2, l2, wt2, fl2⟩, gm, gp2, gl2⟩ A2 c2 U) (by kernel_rfl) (hS _ hk0) (fun hHeld => ?_)
  refine tkA 0 ?_ rfl ?_ (by assumption) ?_; rotate_left; focus (intro U hU; (try dsimp only at hU); go_simp; try (with_reducible rfl))
  simp only [gt6, Act.put]
  refine tkA 1 ?_ rfl ?_ (by assumption) ?_; rotate_left; focus (intro U hU; (try dsimp only at hU); go_simp; try (with_reducible rfl))
  simp only [gt6, Act.put]
  refine tkA 2 ?_ rfl ?_ (by assumption) ?_; rotate_left; focus (intro U hU; (try dsimp only at hU); go_simp; try (with_reducible rfl))
  simp only [gt6, Act.put]
  refine wpAnyH_ready (rs := [3]) (by kernel_rfl) (by simp) ?_
  refine AllReadyH.cons rfl (fun K hK => ?_) AllReadyH.nil
  simp only [gt3]
  go_simp
  refine (HF.out _ hk0.1).mono ?_
  rintro e u1 ⟨B, d, rfl, ho1, g1⟩
  have hk1 := hk0.call g1
  have hk1' := hk1
  obtain ⟨_, ⟨y0, y1, y2, y3, y4, y5, y6, y7, y8, y9, y10, hz1⟩⟩ := hk1'
  have hk2 := hk1.store (by omega) (by omega) (.int .i64 f) (.int .i64 t) (.int .i64 i) (.int .i64 p2) (.int .i64 q2) (.slice A2 l2.length c2) (.int .i64 wt2) (.int .i64 fl2) (.int .i64 gm) (.int .i64 gp2) (.int .i64 gl2)
  have hz5 := put11_heap hz1 (.int .i64 f) (.int .i64 t) (.int .i64 i) (.int .i64 p2) (.int .i64 q2) (.slice A2 l2.length c2) (.int .i64 wt2) (.int .i64 fl2) (.int .i64 gm) (.int .i64 gp2) (.int .i64 gl2)
  have ho5 : OwnP W (put11 u1 (W.heap.size + 1) (.int .i64 f) (.int .i64 t) (.int .i64 i) (.int .i64 p2) (.int .i64 q2) (.slice A2 l2.length c2) (.int .i64 wt2) (.int .i64 fl2) (.int .i64 gm) (.int .i64 gp2) (.int .i64 gl2)) (.slice B D.length d) D := own_at (own_mono ho1 hk0.1.2.2.size) hz1 (by decide) fun g hg => put11_other hg _ _ _ _ _ _ _ _ _ _ _
  simp only [put11] at hz5 ho5
  obtain ⟨_, ⟨cg0, cg1, cg2, cg3, cg4, cg5, cg6, cg7, cg8, cg9, cg10⟩⟩ := eleven_cells hz1
  clear ho1 hz1 g1
  go_wp2_with fail
  refine hK.out _ _ ?_ (fun hHeld2 => ?_)
  focus
    first | with_reducible exact hS _ hk2 | with_reducible exact hS _ hk1
  clear hHeld
  have hHeld := hHeld2
  clear hHeld2 hK K
  try simp only [gt6, Act.put]
  refine wpAnyH_ready (rs := [4]) (by kernel_rfl) (by simp) ?_
  refine AllReadyH.cons rfl (fun K hK => ?_) AllReadyH.nil
  simp only [gt3]
  go_simp
  refine hK.out _ _ ?_ (fun hHeld2 => ?_)
  focus
    first | with_reducible exact hS _ hk2 | with_reducible exact hS _ hk1
  clear hHeld
  have hHeld := hHeld2
  clear hHeld2 hK K
  try simp only [gt6, Act.put]
  refine tkA 5 ?_ rfl ?_ (by assumption) ?_; rotate_left; focus (intro U hU; (try dsimp only at hU); go_simp; try (with_reducible rfl))
  simp only [gt6, Act.put]
  refine wpAnyH_done (by kernel_rfl) ?_ _
  clear hHeld hS
  obtain ⟨⟨cr0, cr1, cr2, cr3, cr4, cr5, cr6, cr7, cr8, cr9, cr10⟩, _⟩ := eleven_cells hz5
  have HO := hid ho5
  have HK2 := hid hk2
  clear hz5 ho5 hk0 hk1 hk2
  go_wp2_with fail
  exact bodyPost_ret (v := .tuple #[.agg #[.int .i64 f, .int .i64 t, .int .i64 i, .int .i64 p2, .int .i64 q2, .slice A2 l2.length c2, .int .i64 wt2, .int .i64 fl2, .int .i64 gm, .int .i64 gp2, .int .i64 gl2], .slice B D.length d]) (by simp [results, Tryz.results68, go_sem, cr0, cr1, cr2, cr3, cr4, cr5, cr6, cr7, cr8, cr9, cr10]) rfl (by rw [HV.out]; exact ⟨A2, c2, B, d, rfl, HK2.out.1.2.1, HO.out, HK2.out.1.2.2⟩)

set_option maxRecDepth 20000 in
set_option maxHeartbeats 8000000 in
theorem ltick_any (e : Ev) (A : Option Addr) (c : Nat) (W : World) (h : Sl W 1 A e.o.l.length c (scells e.o.l)) (hl : e.o.l.length ≤ 1000) :
    Calls Tryz.prog 39 #[.agg (ec e A c)] W (EndR (tikE e) W) := by
  have HC := hid (fun w (hw : Below W.heap.size W w) => otick_any e.o A c w (h.below hw) hl)
  have hne := tikV_ne e.o
  have hll : (tikV e.o).1.l.length ≤ 1000 := by rw [tikV_l]; exact hl
  have HV : Hid (tikE e = (setO e (tikV e.o).1, dataV (setO e (tikV e.o).1) (tikV e.o).2)) := hid rfl
  generalize tikE e = rv at *
  generalize tikV e.o = ov at *
  obtain ⟨⟨p2, q2, l2, wt2, fl2⟩, bb⟩ := ov
  obtain ⟨f, t, i, ⟨p, q, l, wt, fl⟩, gm, gp, gl⟩ := e
  simp only [setO] at HV
  have HNE := hid hne
  have HLL := hid hll
  clear h hl hne hll
  simp only [ec, oc] at *
  go_enter Tryz.func39, Tryz.ntmps39
  go_upto_region 1 with (fail)
  refine at_world (fun u => u.heap[W.heap.size]? = some (.cells (ec ⟨f, t, i, ⟨p, q, l, wt, fl⟩, gm, gp, gl⟩ A c) 71 (0, 0)) ∧ u.heap[W.heap.size + 1]? = some (.cells ez 71 (0, 0)) ∧ Below W.heap.size W u) ⟨heap_first _ _ _, heap_second _ _ _, below2 _ _ _⟩ ?_
  rintro w1 ⟨hx1, hz1, hb1⟩
  obtain ⟨⟨cp0, cp1, cp2, cp3, cp4, cp5, cp6, cp7, cp8, cp9, cp10⟩, _⟩ := eleven_cells hx1
  have HX1 := hid hx1
  have HZ1 := hid hz1
  have HB1 := hid hb1
  clear hx1 hz1 hb1
  go_wp2_with fail
  refine (HC.out _ HB1.out).mono ?_
  rintro e w2 ⟨A2, c2, rfl, ho2, hb2⟩
  simp only [oc]
  clear cp0 cp1 cp2 cp3 cp4 cp5 cp6 cp7 cp8 cp9 cp10
  have HX2 := hid (keep0 HX1.out hb2)
  have HZ2 := hid (keep0 HZ1.out hb2)
  have HO2 := hid (own_mono ho2 HB1.out.size)
  have HB2 := hid (HB1.out.trans (hb2.mono HB1.out.size))
  clear HX1 HZ1 ho2 hb2 HB1 HC
  go_upto_region 2 with (fail)
  refine at_world (fun u => u.heap[w2.heap.size]? = some (.cells (oc ⟨p2, q2, l2, wt2, fl2⟩ A2 c2) 67 (0, 0)) ∧ u.heap[W.heap.size]? = some (.cells (ec ⟨f, t, i, ⟨p, q, l, wt, fl⟩, gm, gp, gl⟩ A c) 71 (0, 0)) ∧ u.heap[W.heap.size + 1]? = some (.cells ez 71 (0, 0)) ∧ u.ownsRow W.heap.size 9 1 (.slice A2 l2.length c2) l2.length (scells l2) ∧ Below W.heap.size W u) ⟨heap_alloc_new _ _, keep0 HX2.out ((Below.refl _ _).alloc (Nat.le_refl _) _), keep0 HZ2.out ((Below.refl _ _).alloc (Nat.le_refl _) _), own_keep HO2.out ((Below.refl _ _).alloc (Nat.le_refl _) _), HB2.out.alloc HB2.out.size _⟩ ?_
  rintro w3 ⟨ht3, hx3, hz3, ho3, hb3⟩
  obtain ⟨⟨z0, z1, z2, z3, z4⟩, _⟩ := five_cells ht3
  obtain ⟨_, ⟨cg0, cg1, cg2, cg3, cg4, cg5, cg6, cg7, cg8, cg9, cg10⟩⟩ := eleven_cells hx3
  have HS3 := hid (EX.out (o' := ⟨p2, q2, l2, wt2, fl2⟩) hx3 ho3 hb3 (Nat.le_refl _) rfl)
  have HZ3 := hid hz3
  clear ht3 hx3 hz3 ho3 hb3 HX2 HZ2 HO2 HB2
  generalize w2.heap.size = T at *
  go_upto_region 3 with (fail)
  refine at_world (fun u => EX W u W.heap.size ⟨f, t, i, ⟨p2, q2, l2, wt2, fl2⟩, gm, gp, gl⟩ A2 c2 ∧ u.heap[W.heap.size + 1]? = some (.cells ez 71 (0, 0))) ⟨HS3.out, by
    have hne : W.heap.size + 1 ≠ W.heap.size := by omega
    rw [Below.heap_setCell _ _ _ _ hne, Below.heap_setCell _ _ _ _ hne, Below.heap_setCell _ _ _ _ hne, Below.heap_setCell _ _ _ _ hne, Below.heap_setCell _ _ _ _ hne]
    exact HZ3.out⟩ ?_
  clear z0 z1 z2 z3 z4 cg0 cg1 cg2 cg3 cg4 cg5 cg6 cg7 cg8 cg9 cg10 HS3 HZ3
  rintro w4 ⟨hs4, hz4⟩
  have hk4 : KZ W W.heap.size (W.heap.size + 1) ⟨f, t, i, ⟨p2, q2, l2, wt2, fl2⟩, gm, gp, gl⟩ A2 c2 w4 := ⟨hs4, _, _, _, _, _, _, _, _, _, _, _, hz4⟩
  have HK := hid hk4
  have HF := hid (fun w (hw : EX W w W.heap.size ⟨f, t, i, ⟨p2, q2, l2, wt2, fl2⟩, gm, gp, gl⟩ A2 c2) => lfirst_any ⟨f, t, i, ⟨p2, q2, l2, wt2, fl2⟩, gm, gp, gl⟩ bb HNE.out A2 c2 w (sl_own hw.2.1) HLL.out)
  generalize hdv : dataV ⟨f, t, i, ⟨p2, q2, l2, wt2, fl2⟩, gm, gp, gl⟩ bb = D at *
  simp only [ec] at HF
  obtain ⟨⟨cp0, cp1, cp2, cp3, cp4, cp5, cp6, cp7, cp8, cp9, cp10⟩, ⟨cg0, cg1, cg2, cg3, cg4, cg5, cg6, cg7, cg8, cg9, cg10⟩⟩ := hk4.cells
  have hS : ∀ U, KZ W W.heap.size (W.heap.size + 1) ⟨f, t, i, ⟨p2, q2, l2, wt2, fl2⟩, gm, gp, gl⟩ A2 c2 U → (((U.cell? ⟨W.heap.size, 0, none⟩ = some (.int .i64 f) ∧ U.cell? ⟨W.heap.size, 1, none⟩ = some (.int .i64 t) ∧ U.cell? ⟨W.heap.size, 2, none⟩ = some (.int .i64 i) ∧ U.cell? ⟨W.heap.size, 3, none⟩ = some (.int .i64 p2) ∧ U.cell? ⟨W.heap.size, 4, none⟩ = some (.int .i64 q2) ∧ U.cell? ⟨W.heap.size, 5, none⟩ = some (.slice A2 l2.length c2) ∧ U.cell? ⟨W.heap.size, 6, none⟩ = some (.int .i64 wt2) ∧ U.cell? ⟨W.heap.size, 7, none⟩ = some (.int .i64 fl2) ∧ U.cell? ⟨W.heap.size, 8, none⟩ = some (.int .i64 gm) ∧ U.cell? ⟨W.heap.size, 9, none⟩ = some (.int .i64 gp) ∧ U.cell? ⟨W.heap.size, 10, none⟩ = some (.int .i64 gl)) ∧ (U.frozen? ⟨W.heap.size + 1, 0, none⟩ = false ∧ U.frozen? ⟨W.heap.size + 1, 1, none⟩ = false ∧ U.frozen? ⟨W.heap.size + 1, 2, none⟩ = false ∧ U.frozen? ⟨W.heap.size + 1, 3, none⟩ = false ∧ U.frozen? ⟨W.heap.size + 1, 4, none⟩ = false ∧ U.frozen? ⟨W.heap.size + 1, 5, none⟩ = false ∧ U.frozen? ⟨W.heap.size + 1, 6, none⟩ = false ∧ U.frozen? ⟨W.heap.size + 1, 7, none⟩ = false ∧ U.frozen? ⟨W.heap.size + 1, 8, none⟩ = false ∧ U.frozen? ⟨W.heap.size + 1, 9, none⟩ = false ∧ U.frozen? ⟨W.heap.size + 1, 10, none⟩ = false)) ∧ KZ W W.heap.size (W.heap.size + 1) ⟨f, t, i, ⟨p2, q2, l2, wt2, fl2⟩, gm, gp, gl⟩ A2 c2 U) := fun U h => ⟨h.cells, h⟩
  clear hs4 hz4 hk4
  go_upto_region 3 with (fail)
  have hk0 : KZ W W.heap.size (W.heap.size + 1) ⟨f, t, i, ⟨p2, q2, l2, wt2, fl2⟩, gm, gp, gl⟩ A2 c2 w4.drew := HK.out.call (below_drew (Below.refl _ _))
  refine wp_region_held_drew (S := fun U => ((U.cell? ⟨W.heap.size, 0, none⟩ = some (.int .i64 f) ∧ U.cell? ⟨W.heap.size, 1, none⟩ = some (.int .i64 t) ∧ U.cell? ⟨W.heap.size, 2, none⟩ = some (.int .i64 i) ∧ U.cell? ⟨W.heap.size, 3, none⟩ = some (.int .i64 p2) ∧ U.cell? ⟨W.heap.size, 4, none⟩ = some (.int .i64 q2) ∧ U.cell? ⟨W.heap.size, 5, none⟩ = some (.slice A2 l2.length c2) ∧ U.cell? ⟨W.heap.size, 6, none⟩ = some (.int .i64 wt2) ∧ U.cell? ⟨W.heap.size, 7, none⟩ = some (.int .i64 fl2) ∧ U.cell? ⟨W.heap.size, 8, none⟩ = some (.int .i64 gm) ∧ U.cell? ⟨W.heap.size, 9, none⟩ = some (.int .i64 gp) ∧ U.cell? ⟨W.heap.size, 10, none⟩ = some (.int .i64 gl)) ∧ (U.frozen? ⟨W.heap.size + 1, 0, none⟩ = false ∧ U.frozen? ⟨W.heap.size + 1, 1, none⟩ = false ∧ U.frozen? ⟨W.heap.size + 1, 2, none⟩ = false ∧ U.frozen? ⟨W.heap.size + 1, 3, none⟩ = false ∧ U.frozen? ⟨W.heap.size + 1, 4, none⟩ = false ∧ U.frozen? ⟨W.heap.size + 1, 5, none⟩ = false ∧ U.frozen? ⟨W.heap.size + 1, 6, none⟩ = false ∧ U.frozen? ⟨W.heap.size + 1, 7, none⟩ = false ∧ U.frozen? ⟨W.heap.size + 1, 8, none⟩ = false ∧ U.frozen? ⟨W.heap.size + 1, 9, none⟩ = false ∧ U.frozen? ⟨W.heap.size + 1, 10, none⟩ = false)) ∧ KZ W W.heap.size (W.heap.size + 1) ⟨f, t, i, ⟨p2, q2, l2, wt2, fl2⟩, gm, gp, gl⟩ A2 c2 U) (by kernel_rfl) (hS _ hk0) (fun hHeld => ?_)
  refine tkA 0 ?_ rfl ?_ (by assumption) ?_; rotate_left; focus (intro U hU; (try dsimp only at hU); go_simp; try (with_reducible rfl))
  simp only [gt6, Act.put]
  refine tkA 1 ?_ rfl ?_ (by assumption) ?_; rotate_left; focus (intro U hU; (try dsimp only at hU); go_simp; try (with_reducible rfl))
  simp only [gt6, Act.put]
  refine tkA 2 ?_ rfl ?_ (by assumption) ?_; rotate_left; focus (intro U hU; (try dsimp only at hU); go_simp; try (with_reducible rfl))
  simp only [gt6, Act.put]
  refine wpAnyH_ready (rs := [3]) (by kernel_rfl) (by simp) ?_
  refine AllReadyH.cons rfl (fun K hK => ?_) AllReadyH.nil
  simp only [gt3]
  go_simp
  refine (HF.out _ hk0.1).mono ?_
  rintro e u1 ⟨B, d, rfl, ho1, g1⟩
  have hk1 := hk0.call g1
  have hk1' := hk1
  obtain ⟨_, ⟨y0, y1, y2, y3, y4, y5, y6, y7, y8, y9, y10, hz1⟩⟩ := hk1'
  have hk2 := hk1.store (by omega) (by omega) (.int .i64 f) (.int .i64 t) (.int .i64 i) (.int .i64 p2) (.int .i64 q2) (.slice A2 l2.length c2) (.int .i64 wt2) (.int .i64 fl2) (.int .i64 gm) (.int .i64 gp) (.int .i64 gl)
  have hz5 := put11_heap hz1 (.int .i64 f) (.int .i64 t) (.int .i64 i) (.int .i64 p2) (.int .i64 q2) (.slice A2 l2.length c2) (.int .i64 wt2) (.int .i64 fl2) (.int .i64 gm) (.int .i64 gp) (.int .i64 gl)
  have ho5 : OwnP W (put11 u1 (W.heap.size + 1) (.int .i64 f) (.int .i64 t) (.int .i64 i) (.int .i64 p2) (.int .i64 q2) (.slice A2 l2.length c2) (.int .i64 wt2) (.int .i64 fl2) (.int .i64 gm) (.int .i64 gp) (.int .i64 gl)) (.slice B D.length d) D := own_at (own_mono ho1 hk0.1.2.2.size) hz1 (by decide) fun g hg => put11_other hg _ _ _ _ _ _ _ _ _ _ _
  simp only [put11] at hz5 ho5
  obtain ⟨_, ⟨cg0, cg1, cg2, cg3, cg4, cg5, cg6, cg7, cg8, cg9, cg10⟩⟩ := eleven_cells hz1
  clear ho1 hz1 g1
  go_wp2_with fail
  refine hK.out _ _ ?_ (fun hHeld2 => ?_)
  focus
    first | with_reducible exact hS _ hk2 | with_reducible exact hS _ hk1
  clear hHeld
  have hHeld := hHeld2
  clear hHeld2 hK K
  try simp only [gt6, Act.put]
  refine wpAnyH_ready (rs := [4]) (by kernel_rfl) (by simp) ?_
  refine AllReadyH.cons rfl (fun K hK => ?_) AllReadyH.nil
  simp only [gt3]
  go_simp
  refine hK.out _ _ ?_ (fun hHeld2 => ?_)
  focus
    first | with_reducible exact hS _ hk2 | with_reducible exact hS _ hk1
  clear hHeld
  have hHeld := hHeld2
  clear hHeld2 hK K
  try simp only [gt6, Act.put]
  refine tkA 5 ?_ rfl ?_ (by assumption) ?_; rotate_left; focus (intro U hU; (try dsimp only at hU); go_simp; try (with_reducible rfl))
  simp only [gt6, Act.put]
  refine wpAnyH_done (by kernel_rfl) ?_ _
  clear hHeld hS
  obtain ⟨⟨cr0, cr1, cr2, cr3, cr4, cr5, cr6, cr7, cr8, cr9, cr10⟩, _⟩ := eleven_cells hz5
  have HO := hid ho5
  have HK2 := hid hk2
  clear hz5 ho5 hk0 hk1 hk2
  go_wp2_with fail
  exact bodyPost_ret (v := .tuple #[.agg #[.int .i64 f, .int .i64 t, .int .i64 i, .int .i64 p2, .int .i64 q2, .slice A2 l2.length c2, .int .i64 wt2, .int .i64 fl2, .int .i64 gm, .int .i64 gp, .int .i64 gl], .slice B D.length d]) (by simp [results, Tryz.results39, go_sem, cr0, cr1, cr2, cr3, cr4, cr5, cr6, cr7, cr8, cr9, cr10]) rfl (by rw [HV.out]; exact ⟨A2, c2, B, d, rfl, HK2.out.1.2.1, HO.out, HK2.out.1.2.2⟩)

/-- What Put answers. -/
def EndPR (r : (Ev × List Pk) × Int) (W : World) (x : Ending) (w' : World) : Prop :=
  ∃ A c B d, x = .returned (.tuple #[.agg (ec r.1.1 A c), .slice B r.1.2.length d, .int .i64 r.2]) ∧ w'.ownsRow W.heap.size 9 1 (.slice A r.1.1.o.l.length c) r.1.1.o.l.length (scells r.1.1.o.l) ∧ OwnP W w' (.slice B r.1.2.length d) r.1.2 ∧ Below W.heap.size W w'

set_option maxRecDepth 20000 in
set_option maxHeartbeats 8000000 in
theorem lput_any (e : Ev) (bound : Int) (y : List UInt8) (A : Option Addr) (c : Nat) (W : World) (h : Sl W 1 A e.o.l.length c (scells e.o.l)) (hl : e.o.l.length ≤ 999) (hy : y.length ≤ maxLen) :
    Calls Tryz.prog 23 #[.agg (ec e A c), .int .i64 bound, .string (str y)] W (EndPR (putE e bound y) W) := by
  have HC := hid (fun w (hw : Below W.heap.size W w) => sput_any e.o bound y A c w (h.below hw) hl)
  have HCL := hid (fun w (hw : Below W.heap.size W w) => ecloned_any e A c w (h.below hw) (by omega))
  have hne := putV_ne e.o bound y
  have hll : (putV e.o bound y).1.1.l.length ≤ 1000 := by have := putV_len e.o bound y; omega
  have HV0 : Hid (putE e bound y = if 32 < y.length then ((e, []), 1) else ((setO e (putV e.o bound y).1.1, dataV (setO e (putV e.o bound y).1.1) (putV e.o bound y).1.2), (putV e.o bound y).2)) := hid rfl
  have hsz : (str y).size = y.length := str_size y
  unfold maxLen at hy
  generalize putE e bound y = rv at *
  generalize putV e.o bound y = ov at *
  obtain ⟨⟨⟨p2, q2, l2, wt2, fl2⟩, bb⟩, er⟩ := ov
  obtain ⟨f, t, i, ⟨p, q, l, wt, fl⟩, gm, gp, gl⟩ := e
  simp only [setO] at HV0
  have HNE := hid hne
  have HLL := hid hll
  clear h hl hne hll
  simp only [ec, oc] at *
  by_cases h32 : 32 < y.length
  · have HV : Hid (rv = ((⟨f, t, i, ⟨p, q, l, wt, fl⟩, gm, gp, gl⟩, []), 1)) := hid (by rw [HV0.out, if_pos h32])
    have d1 : decide ((32 : Int) < (y.length : Int)) = true := decide_eq_true (by omega)
    clear HV0 HC HNE HLL
    go_enter Tryz.func23, Tryz.ntmps23
    go_upto_region 1 with (fail)
    refine at_world (fun u => u.heap[W.heap.size]? = some (.cells (ec ⟨f, t, i, ⟨p, q, l, wt, fl⟩, gm, gp, gl⟩ A c) 71 (0, 0)) ∧ u.heap[W.heap.size + 1]? = some (.cells ez 71 (0, 0)) ∧ Below W.heap.size W u) ⟨heap_first _ _ _, heap_second _ _ _, below2 _ _ _⟩ ?_
    rintro w1 ⟨hx1, hz1, hb1⟩
    obtain ⟨⟨cp0, cp1, cp2, cp3, cp4, cp5, cp6, cp7, cp8, cp9, cp10⟩, _⟩ := eleven_cells hx1
    have HX1 := hid hx1
    have HZ1 := hid hz1
    have HB1 := hid hb1
    clear hx1 hz1 hb1
    go_wp2_with fail
    refine (HCL.out _ HB1.out).mono ?_
    rintro e w2 ⟨A2, c2, rfl, ho2, hb2⟩
    simp only [ec]
    have hz2 := keep0 HZ1.out hb2
    have hb9 := HB1.out.trans (hb2.mono HB1.out.size)
    have ho9 := own_mono ho2 HB1.out.size
    have HO := hid (own_at ho9 hz2 (by decide) fun g hg => put11_other (w := w2) hg (.int .i64 f) (.int .i64 t) (.int .i64 i) (.int .i64 p) (.int .i64 q) (.slice A2 l.length c2) (.int .i64 wt) (.int .i64 fl) (.int .i64 gm) (.int .i64 gp) (.int .i64 gl))
    have HB := hid (put11_below hb9 (show W.heap.size ≤ W.heap.size + 1 by omega) (.int .i64 f) (.int .i64 t) (.int .i64 i) (.int .i64 p) (.int .i64 q) (.slice A2 l.length c2) (.int .i64 wt) (.int .i64 fl) (.int .i64 gm) (.int .i64 gp) (.int .i64 gl))
    have hz5 := put11_heap hz2 (.int .i64 f) (.int .i64 t) (.int .i64 i) (.int .i64 p) (.int .i64 q) (.slice A2 l.length c2) (.int .i64 wt) (.int .i64 fl) (.int .i64 gm) (.int .i64 gp) (.int .i64 gl)
    simp only [put11] at hz5
    obtain ⟨⟨cr0, cr1, cr2, cr3, cr4, cr5, cr6, cr7, cr8, cr9, cr10⟩, _⟩ := eleven_cells hz5
    obtain ⟨_, ⟨cg0, cg1, cg2, cg3, cg4, cg5, cg6, cg7, cg8, cg9, cg10⟩⟩ := eleven_cells hz2
    clear hz2 hb9 ho9 hz5 hb2 ho2 cp0 cp1 cp2 cp3 cp4 cp5 cp6 cp7 cp8 cp9 cp10
    go_wp2
    exact bodyPost_ret (v := .tuple #[.agg #[.int .i64 f, .int .i64 t, .int .i64 i, .int .i64 p, .int .i64 q, .slice A2 l.length c2, .int .i64 wt, .int .i64 fl, .int .i64 gm, .int .i64 gp, .int .i64 gl], .slice none 0 0, .int .i64 1]) (by simp [results, Tryz.results23, go_sem, cr0, cr1, cr2, cr3, cr4, cr5, cr6, cr7, cr8, cr9, cr10]) rfl (by rw [HV.out]; exact ⟨A2, c2, none, 0, rfl, HO.out, ownP_nil _ _, HB.out⟩)
  have HV : Hid (rv = ((⟨f, t, i, ⟨p2, q2, l2, wt2, fl2⟩, gm, gp, gl⟩, dataV ⟨f, t, i, ⟨p2, q2, l2, wt2, fl2⟩, gm, gp, gl⟩ bb), er)) := hid (by rw [HV0.out, if_neg h32])
  have d1 : decide ((32 : Int) < (y.length : Int)) = false := decide_eq_false (by omega)
  clear HV0 HCL h32
  go_enter Tryz.func23, Tryz.ntmps23
  go_upto_region 1 with (fail)
  refine at_world (fun u => u.heap[W.heap.size]? = some (.cells (ec ⟨f, t, i, ⟨p, q, l, wt, fl⟩, gm, gp, gl⟩ A c) 71 (0, 0)) ∧ u.heap[W.heap.size + 1]? = some (.cells ez 71 (0, 0)) ∧ Below W.heap.size W u) ⟨heap_first _ _ _, heap_second _ _ _, below2 _ _ _⟩ ?_
  rintro w1 ⟨hx1, hz1, hb1⟩
  obtain ⟨⟨cp0, cp1, cp2, cp3, cp4, cp5, cp6, cp7, cp8, cp9, cp10⟩, _⟩ := eleven_cells hx1
  have HX1 := hid hx1
  have HZ1 := hid hz1
  have HB1 := hid hb1
  clear hx1 hz1 hb1
  go_wp2_with fail
  refine (HC.out _ HB1.out).mono ?_
  rintro e w2 ⟨A2, c2, rfl, ho2, hb2⟩
  simp only [oc]
  clear cp0 cp1 cp2 cp3 cp4 cp5 cp6 cp7 cp8 cp9 cp10
  have HX2 := hid (keep0 HX1.out hb2)
  have HZ2 := hid (keep0 HZ1.out hb2)
  have HO2 := hid (own_mono ho2 HB1.out.size)
  have HB2 := hid (HB1.out.trans (hb2.mono HB1.out.size))
  clear HX1 HZ1 ho2 hb2 HB1 HC
  go_upto_region 4 with (fail)
  refine at_world (fun u => u.heap[w2.heap.size]? = some (.cells (oc ⟨p2, q2, l2, wt2, fl2⟩ A2 c2) 67 (0, 0)) ∧ u.heap[W.heap.size]? = some (.cells (ec ⟨f, t, i, ⟨p, q, l, wt, fl⟩, gm, gp, gl⟩ A c) 71 (0, 0)) ∧ u.heap[W.heap.size + 1]? = some (.cells ez 71 (0, 0)) ∧ u.ownsRow W.heap.size 9 1 (.slice A2 l2.length c2) l2.length (scells l2) ∧ Below W.heap.size W u) ⟨heap_alloc_new _ _, keep0 HX2.out ((Below.refl _ _).alloc (Nat.le_refl _) _), keep0 HZ2.out ((Below.refl _ _).alloc (Nat.le_refl _) _), own_keep HO2.out ((Below.refl _ _).alloc (Nat.le_refl _) _), HB2.out.alloc HB2.out.size _⟩ ?_
  rintro w3 ⟨ht3, hx3, hz3, ho3, hb3⟩
  obtain ⟨⟨z0, z1, z2, z3, z4⟩, _⟩ := five_cells ht3
  obtain ⟨_, ⟨cg0, cg1, cg2, cg3, cg4, cg5, cg6, cg7, cg8, cg9, cg10⟩⟩ := eleven_cells hx3
  have HS3 := hid (EX.out (o' := ⟨p2, q2, l2, wt2, fl2⟩) hx3 ho3 hb3 (Nat.le_refl _) rfl)
  have HZ3 := hid hz3
  clear ht3 hx3 hz3 ho3 hb3 HX2 HZ2 HO2 HB2
  generalize w2.heap.size = T at *
  go_upto_region 5 with (fail)
  refine at_world (fun u => EX W u W.heap.size ⟨f, t, i, ⟨p2, q2, l2, wt2, fl2⟩, gm, gp, gl⟩ A2 c2 ∧ u.heap[W.heap.size + 1]? = some (.cells ez 71 (0, 0))) ⟨HS3.out, by
    have hne : W.heap.size + 1 ≠ W.heap.size := by omega
    rw [Below.heap_setCell _ _ _ _ hne, Below.heap_setCell _ _ _ _ hne, Below.heap_setCell _ _ _ _ hne, Below.heap_setCell _ _ _ _ hne, Below.heap_setCell _ _ _ _ hne]
    exact HZ3.out⟩ ?_
  clear z0 z1 z2 z3 z4 cg0 cg1 cg2 cg3 cg4 cg5 cg6 cg7 cg8 cg9 cg10 HS3 HZ3
  rintro w4 ⟨hs4, hz4⟩
  have hk4 : KZ W W.heap.size (W.heap.size + 1) ⟨f, t, i, ⟨p2, q2, l2, wt2, fl2⟩, gm, gp, gl⟩ A2 c2 w4 := ⟨hs4, _, _, _, _, _, _, _, _, _, _, _, hz4⟩
  have HK := hid hk4
  have HF := hid (fun w (hw : EX W w W.heap.size ⟨f, t, i, ⟨p2, q2, l2, wt2, fl2⟩, gm, gp, gl⟩ A2 c2) => lfirst_any ⟨f, t, i, ⟨p2, q2, l2, wt2, fl2⟩, gm, gp, gl⟩ bb HNE.out A2 c2 w (sl_own hw.2.1) HLL.out)
  generalize hdv : dataV ⟨f, t, i, ⟨p2, q2, l2, wt2, fl2⟩, gm, gp, gl⟩ bb = D at *
  simp only [ec] at HF
  obtain ⟨⟨cp0, cp1, cp2, cp3, cp4, cp5, cp6, cp7, cp8, cp9, cp10⟩, ⟨cg0, cg1, cg2, cg3, cg4, cg5, cg6, cg7, cg8, cg9, cg10⟩⟩ := hk4.cells
  have hS : ∀ U, KZ W W.heap.size (W.heap.size + 1) ⟨f, t, i, ⟨p2, q2, l2, wt2, fl2⟩, gm, gp, gl⟩ A2 c2 U → (((U.cell? ⟨W.heap.size, 0, none⟩ = some (.int .i64 f) ∧ U.cell? ⟨W.heap.size, 1, none⟩ = some (.int .i64 t) ∧ U.cell? ⟨W.heap.size, 2, none⟩ = some (.int .i64 i) ∧ U.cell? ⟨W.heap.size, 3, none⟩ = some (.int .i64 p2) ∧ U.cell? ⟨W.heap.size, 4, none⟩ = some (.int .i64 q2) ∧ U.cell? ⟨W.heap.size, 5, none⟩ = some (.slice A2 l2.length c2) ∧ U.cell? ⟨W.heap.size, 6, none⟩ = some (.int .i64 wt2) ∧ U.cell? ⟨W.heap.size, 7, none⟩ = some (.int .i64 fl2) ∧ U.cell? ⟨W.heap.size, 8, none⟩ = some (.int .i64 gm) ∧ U.cell? ⟨W.heap.size, 9, none⟩ = some (.int .i64 gp) ∧ U.cell? ⟨W.heap.size, 10, none⟩ = some (.int .i64 gl)) ∧ (U.frozen? ⟨W.heap.size + 1, 0, none⟩ = false ∧ U.frozen? ⟨W.heap.size + 1, 1, none⟩ = false ∧ U.frozen? ⟨W.heap.size + 1, 2, none⟩ = false ∧ U.frozen? ⟨W.heap.size + 1, 3, none⟩ = false ∧ U.frozen? ⟨W.heap.size + 1, 4, none⟩ = false ∧ U.frozen? ⟨W.heap.size + 1, 5, none⟩ = false ∧ U.frozen? ⟨W.heap.size + 1, 6, none⟩ = false ∧ U.frozen? ⟨W.heap.size + 1, 7, none⟩ = false ∧ U.frozen? ⟨W.heap.size + 1, 8, none⟩ = false ∧ U.frozen? ⟨W.heap.size + 1, 9, none⟩ = false ∧ U.frozen? ⟨W.heap.size + 1, 10, none⟩ = false)) ∧ KZ W W.heap.size (W.heap.size + 1) ⟨f, t, i, ⟨p2, q2, l2, wt2, fl2⟩, gm, gp, gl⟩ A2 c2 U) := fun U h => ⟨h.cells, h⟩
  clear hs4 hz4 hk4
  go_upto_region 5 with (fail)
  have hk0 : KZ W W.heap.size (W.heap.size + 1) ⟨f, t, i, ⟨p2, q2, l2, wt2, fl2⟩, gm, gp, gl⟩ A2 c2 w4.drew := HK.out.call (below_drew (Below.refl _ _))
  refine wp_region_held_drew (S := fun U => ((U.cell? ⟨W.heap.size, 0, none⟩ = some (.int .i64 f) ∧ U.cell? ⟨W.heap.size, 1, none⟩ = some (.int .i64 t) ∧ U.cell? ⟨W.heap.size, 2, none⟩ = some (.int .i64 i) ∧ U.cell? ⟨W.heap.size, 3, none⟩ = some (.int .i64 p2) ∧ U.cell? ⟨W.heap.size, 4, none⟩ = some (.int .i64 q2) ∧ U.cell? ⟨W.heap.size, 5, none⟩ = some (.slice A2 l2.length c2) ∧ U.cell? ⟨W.heap.size, 6, none⟩ = some (.int .i64 wt2) ∧ U.cell? ⟨W.heap.size, 7, none⟩ = some (.int .i64 fl2) ∧ U.cell? ⟨W.heap.size, 8, none⟩ = some (.int .i64 gm) ∧ U.cell? ⟨W.heap.size, 9, none⟩ = some (.int .i64 gp) ∧ U.cell? ⟨W.heap.size, 10, none⟩ = some (.int .i64 gl)) ∧ (U.frozen? ⟨W.heap.size + 1, 0, none⟩ = false ∧ U.frozen? ⟨W.heap.size + 1, 1, none⟩ = false ∧ U.frozen? ⟨W.heap.size + 1, 2, none⟩ = false ∧ U.frozen? ⟨W.heap.size + 1, 3, none⟩ = false ∧ U.frozen? ⟨W.heap.size + 1, 4, none⟩ = false ∧ U.frozen? ⟨W.heap.size + 1, 5, none⟩ = false ∧ U.frozen? ⟨W.heap.size + 1, 6, none⟩ = false ∧ U.frozen? ⟨W.heap.size + 1, 7, none⟩ = false ∧ U.frozen? ⟨W.heap.size + 1, 8, none⟩ = false ∧ U.frozen? ⟨W.heap.size + 1, 9, none⟩ = false ∧ U.frozen? ⟨W.heap.size + 1, 10, none⟩ = false)) ∧ KZ W W.heap.size (W.heap.size + 1) ⟨f, t, i, ⟨p2, q2, l2, wt2, fl2⟩, gm, gp, gl⟩ A2 c2 U) (by kernel_rfl) (hS _ hk0) (fun hHeld => ?_)
  refine tkA 0 ?_ rfl ?_ (by assumption) ?_; rotate_left; focus (intro U hU; (try dsimp only at hU); go_simp; try (with_reducible rfl))
  simp only [gt6, Act.put]
  refine tkA 1 ?_ rfl ?_ (by assumption) ?_; rotate_left; focus (intro U hU; (try dsimp only at hU); go_simp; try (with_reducible rfl))
  simp only [gt6, Act.put]
  refine tkA 2 ?_ rfl ?_ (by assumption) ?_; rotate_left; focus (intro U hU; (try dsimp only at hU); go_simp; try (with_reducible rfl))
  simp only [gt6, Act.put]
  refine tkA 4 ?_ rfl ?_ (by assumption) ?_; rotate_left; focus (intro U hU; (try dsimp only at hU); go_simp; try (with_reducible rfl))
  simp only [gt6, Act.put]
  refine wpAnyH_ready (rs := [3]) (by kernel_rfl) (by simp) ?_
  refine AllReadyH.cons rfl (fun K hK => ?_) AllReadyH.nil
  simp only [gt3]
  go_simp
  refine (HF.out _ hk0.1).mono ?_
  rintro e u1 ⟨B, d, rfl, ho1, g1⟩
  have hk1 := hk0.call g1
  have hk1' := hk1
  obtain ⟨_, ⟨y0, y1, y2, y3, y4, y5, y6, y7, y8, y9, y10, hz1⟩⟩ := hk1'
  have hk2 := hk1.store (by omega) (by omega) (.int .i64 f) (.int .i64 t) (.int .i64 i) (.int .i64 p2) (.int .i64 q2) (.slice A2 l2.length c2) (.int .i64 wt2) (.int .i64 fl2) (.int .i64 gm) (.int .i64 gp) (.int .i64 gl)
  have hz5 := put11_heap hz1 (.int .i64 f) (.int .i64 t) (.int .i64 i) (.int .i64 p2) (.int .i64 q2) (.slice A2 l2.length c2) (.int .i64 wt2) (.int .i64 fl2) (.int .i64 gm) (.int .i64 gp) (.int .i64 gl)
  have ho5 : OwnP W (put11 u1 (W.heap.size + 1) (.int .i64 f) (.int .i64 t) (.int .i64 i) (.int .i64 p2) (.int .i64 q2) (.slice A2 l2.length c2) (.int .i64 wt2) (.int .i64 fl2) (.int .i64 gm) (.int .i64 gp) (.int .i64 gl)) (.slice B D.length d) D := own_at (own_mono ho1 hk0.1.2.2.size) hz1 (by decide) fun g hg => put11_other hg _ _ _ _ _ _ _ _ _ _ _
  simp only [put11] at hz5 ho5
  obtain ⟨_, ⟨cg0, cg1, cg2, cg3, cg4, cg5, cg6, cg7, cg8, cg9, cg10⟩⟩ := eleven_cells hz1
  clear ho1 hz1 g1
  go_wp2_with fail
  refine hK.out _ _ ?_ (fun hHeld2 => ?_)
  focus
    first | with_reducible exact hS _ hk2 | with_reducible exact hS _ hk1
  clear hHeld
  have hHeld := hHeld2
  clear hHeld2 hK K
  try simp only [gt6, Act.put]
  refine wpAnyH_ready (rs := [5]) (by kernel_rfl) (by simp) ?_
  refine AllReadyH.cons rfl (fun K hK => ?_) AllReadyH.nil
  simp only [gt3]
  go_simp
  refine hK.out _ _ ?_ (fun hHeld2 => ?_)
  focus
    first | with_reducible exact hS _ hk2 | with_reducible exact hS _ hk1
  clear hHeld
  have hHeld := hHeld2
  clear hHeld2 hK K
  try simp only [gt6, Act.put]
  refine tkA 6 ?_ rfl ?_ (by assumption) ?_; rotate_left; focus (intro U hU; (try dsimp only at hU); go_simp; try (with_reducible rfl))
  simp only [gt6, Act.put]
  refine tkA 7 ?_ rfl ?_ (by assumption) ?_; rotate_left; focus (intro U hU; (try dsimp only at hU); go_simp; try (with_reducible rfl))
  simp only [gt6, Act.put]
  refine wpAnyH_done (by kernel_rfl) ?_ _
  clear hHeld hS
  obtain ⟨⟨cr0, cr1, cr2, cr3, cr4, cr5, cr6, cr7, cr8, cr9, cr10⟩, _⟩ := eleven_cells hz5
  have HO := hid ho5
  have HK2 := hid hk2
  clear hz5 ho5 hk0 hk1 hk2
  go_wp2_with fail
  exact bodyPost_ret (v := .tuple #[.agg #[.int .i64 f, .int .i64 t, .int .i64 i, .int .i64 p2, .int .i64 q2, .slice A2 l2.length c2, .int .i64 wt2, .int .i64 fl2, .int .i64 gm, .int .i64 gp, .int .i64 gl], .slice B D.length d, .int .i64 er]) (by simp [results, Tryz.results23, go_sem, cr0, cr1, cr2, cr3, cr4, cr5, cr6, cr7, cr8, cr9, cr10]) rfl (by rw [HV.out]; exact ⟨A2, c2, B, d, rfl, HK2.out.1.2.1, HO.out, HK2.out.1.2.2⟩)
end Go.Proofs.YtdphdodjidbngaaGreat

