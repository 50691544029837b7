/- The document's end: Put, New: contracts. -/
import Derived.Test.YtdekemlckpbbcaaLdJ
namespace Go.Proofs.Ytdekemlckpbbcaa
open Go.RowKit Go.Sort
set_option linter.unusedVariables false
set_option linter.unusedSimpArgs false

/-- What Put answers. -/
def REndP (r : (Ev × List Pk) × Int) (W : World) (x : Ending) (w' : World) : Prop :=
  ∃ A c B d, x = .returned (.tuple #[.agg (ec r.1.1 A c), .slice B r.1.2.length d, .int .i64 r.2]) ∧ Sl w' 1 A r.1.1.o.l.length c (scells r.1.1.o.l) ∧ OwnR W w' (.slice B r.1.2.length d) r.1.2 ∧ Below W.heap.size W w'

set_option maxRecDepth 20000 in
set_option maxHeartbeats 8000000 in
theorem r26put_any (e : Ev) (bound : Int) (y : List UInt8) (A : Option Addr) (c : Nat) (W : World) (h : Sl W 1 A e.o.l.length c (scells e.o.l)) (hl : e.o.l.length ≤ 999) (hy : y.length ≤ maxLen) :
    Calls Try.prog 20 #[.agg (ec e A c), .int .i64 bound, .string (str y)] W (REndP (putE e bound y) W) := by
  have HC := hid (fun w (hw : Below W.heap.size W w) => r24put_any e.o bound y A c w (h.below hw) hl hy)
  have HS0 := hid h
  have hne := putV_ne e.o bound y
  have hll : (putV e.o bound y).1.1.l.length ≤ 1000 := by have := putV_len e.o bound y; omega
  have HV0 : Hid (putE e bound y = if 32 < y.length then ((e, []), 1) else ((setO e (putV e.o bound y).1.1, dataV (setO e (putV e.o bound y).1.1) (putV e.o bound y).1.2), (putV e.o bound y).2)) := hid rfl
  have hsz : (str y).size = y.length := str_size y
  unfold maxLen at hy
  generalize putE e bound y = rv at *
  generalize putV e.o bound y = ov at *
  obtain ⟨⟨⟨p2, q2, l2, wt2, fl2⟩, bb⟩, er⟩ := ov
  obtain ⟨f, t, i, ⟨p, q, l, wt, fl⟩, gm, gp, gl⟩ := e
  simp only [setO] at HV0
  have HNE := hid hne
  have HLL := hid hll
  clear h hl hne hll
  simp only [ec, oc] at *
  by_cases h32 : 32 < y.length
  · have HV : Hid (rv = ((⟨f, t, i, ⟨p, q, l, wt, fl⟩, gm, gp, gl⟩, []), 1)) := hid (by rw [HV0.out, if_pos h32])
    have d1 : decide ((32 : Int) < (y.length : Int)) = true := decide_eq_true (by omega)
    clear HV0 HC HNE HLL
    rw [HV.out]
    clear HV
    go_enter Try.func20, Try.ntmps20
    go_wp2
    exact bodyPost_ret (v := .tuple #[.agg #[.int .i64 f, .int .i64 t, .int .i64 i, .int .i64 p, .int .i64 q, .slice A l.length c, .int .i64 wt, .int .i64 fl, .int .i64 gm, .int .i64 gp, .int .i64 gl], .slice none 0 0, .int .i64 1]) (by simp [results, Try.results20, go_sem]) rfl ⟨A, c, none, 0, rfl, HS0.out.below (below2 _ _ _), ownR_nil _ _, below2 _ _ _⟩
  have HV : Hid (rv = ((⟨f, t, i, ⟨p2, q2, l2, wt2, fl2⟩, gm, gp, gl⟩, dataV ⟨f, t, i, ⟨p2, q2, l2, wt2, fl2⟩, gm, gp, gl⟩ bb), er)) := hid (by rw [HV0.out, if_neg h32])
  have d1 : decide ((32 : Int) < (y.length : Int)) = false := decide_eq_false (by omega)
  clear HV0 h32
  go_enter Try.func20, Try.ntmps20
  go_upto_region 1 with (fail)
  refine at_world (fun u => u.heap[W.heap.size]? = some (.cells (ec ⟨f, t, i, ⟨p, q, l, wt, fl⟩, gm, gp, gl⟩ A c) 48 (0, 0)) ∧ u.heap[W.heap.size + 1]? = some (.cells ez 48 (0, 0)) ∧ Below W.heap.size W u) ⟨heap_first _ _ _, heap_second _ _ _, below2 _ _ _⟩ ?_
  rintro w1 ⟨hx1, hz1, hb1⟩
  obtain ⟨⟨cp0, cp1, cp2, cp3, cp4, cp5, cp6, cp7, cp8, cp9, cp10⟩, _⟩ := eleven_cells hx1
  have HX1 := hid hx1
  have HZ1 := hid hz1
  have HB1 := hid hb1
  clear hx1 hz1 hb1
  go_wp2_with fail
  refine (HC.out _ HB1.out).mono ?_
  rintro e w2 ⟨A2, c2, rfl, ho2, hb2⟩
  simp only [oc]
  clear cp0 cp1 cp2 cp3 cp4 cp5 cp6 cp7 cp8 cp9 cp10
  have HX2 := hid (keep0 HX1.out hb2)
  have HZ2 := hid (keep0 HZ1.out hb2)
  have HO2 := hid (ho2)
  have HB2 := hid (HB1.out.trans (hb2.mono HB1.out.size))
  clear HX1 HZ1 ho2 hb2 HB1 HC
  go_upto_region 4 with (fail)
  refine at_world (fun u => u.heap[w2.heap.size]? = some (.cells (oc ⟨p2, q2, l2, wt2, fl2⟩ A2 c2) 44 (0, 0)) ∧ u.heap[W.heap.size]? = some (.cells (ec ⟨f, t, i, ⟨p, q, l, wt, fl⟩, gm, gp, gl⟩ A c) 48 (0, 0)) ∧ u.heap[W.heap.size + 1]? = some (.cells ez 48 (0, 0)) ∧ Sl u 1 A2 l2.length c2 (scells l2) ∧ Below W.heap.size W u) ⟨heap_alloc_new _ _, keep0 HX2.out ((Below.refl _ _).alloc (Nat.le_refl _) _), keep0 HZ2.out ((Below.refl _ _).alloc (Nat.le_refl _) _), Sl.below HO2.out ((Below.refl _ _).alloc (Nat.le_refl _) _), HB2.out.alloc HB2.out.size _⟩ ?_
  rintro w3 ⟨ht3, hx3, hz3, ho3, hb3⟩
  obtain ⟨⟨z0, z1, z2, z3, z4⟩, _⟩ := five_cells ht3
  obtain ⟨_, ⟨cg0, cg1, cg2, cg3, cg4, cg5, cg6, cg7, cg8, cg9, cg10⟩⟩ := eleven_cells hx3
  have HS3 := hid (EY.out (o' := ⟨p2, q2, l2, wt2, fl2⟩) hx3 ho3 hb3 (Nat.le_refl _) rfl)
  have HZ3 := hid hz3
  clear ht3 hx3 hz3 ho3 hb3 HX2 HZ2 HO2 HB2
  generalize w2.heap.size = T at *
  go_upto_region 5 with (fail)
  refine at_world (fun u => EY W u W.heap.size ⟨f, t, i, ⟨p2, q2, l2, wt2, fl2⟩, gm, gp, gl⟩ A2 c2 ∧ u.heap[W.heap.size + 1]? = some (.cells ez 48 (0, 0))) ⟨HS3.out, by
    have hne : W.heap.size + 1 ≠ W.heap.size := by omega
    rw [Below.heap_setCell _ _ _ _ hne, Below.heap_setCell _ _ _ _ hne, Below.heap_setCell _ _ _ _ hne, Below.heap_setCell _ _ _ _ hne, Below.heap_setCell _ _ _ _ hne]
    exact HZ3.out⟩ ?_
  clear z0 z1 z2 z3 z4 cg0 cg1 cg2 cg3 cg4 cg5 cg6 cg7 cg8 cg9 cg10 HS3 HZ3
  rintro w4 ⟨hs4, hz4⟩
  have hk4 : KY W W.heap.size (W.heap.size + 1) ⟨f, t, i, ⟨p2, q2, l2, wt2, fl2⟩, gm, gp, gl⟩ A2 c2 w4 := ⟨hs4, _, _, _, _, _, _, _, _, _, _, _, hz4, ez_ns⟩
  have HK := hid hk4
  have HF := hid (fun w (hw : EY W w W.heap.size ⟨f, t, i, ⟨p2, q2, l2, wt2, fl2⟩, gm, gp, gl⟩ A2 c2) => data26_any ⟨f, t, i, ⟨p2, q2, l2, wt2, fl2⟩, gm, gp, gl⟩ bb HNE.out A2 c2 w hw.2.1)
  generalize hdv : dataV ⟨f, t, i, ⟨p2, q2, l2, wt2, fl2⟩, gm, gp, gl⟩ bb = D at *
  simp only [ec] at HF
  obtain ⟨⟨cp0, cp1, cp2, cp3, cp4, cp5, cp6, cp7, cp8, cp9, cp10⟩, ⟨cg0, cg1, cg2, cg3, cg4, cg5, cg6, cg7, cg8, cg9, cg10⟩⟩ := hk4.cells
  have hS : ∀ U, KY W W.heap.size (W.heap.size + 1) ⟨f, t, i, ⟨p2, q2, l2, wt2, fl2⟩, gm, gp, gl⟩ A2 c2 U → (((U.cell? ⟨W.heap.size, 0, none⟩ = some (.int .i64 f) ∧ U.cell? ⟨W.heap.size, 1, none⟩ = some (.int .i64 t) ∧ U.cell? ⟨W.heap.size, 2, none⟩ = some (.int .i64 i) ∧ U.cell? ⟨W.heap.size, 3, none⟩ = some (.int .i64 p2) ∧ U.cell? ⟨W.heap.size, 4, none⟩ = some (.int .i64 q2) ∧ U.cell? ⟨W.heap.size, 5, none⟩ = some (.slice A2 l2.length c2) ∧ U.cell? ⟨W.heap.size, 6, none⟩ = some (.int .i64 wt2) ∧ U.cell? ⟨W.heap.size, 7, none⟩ = some (.int .i64 fl2) ∧ U.cell? ⟨W.heap.size, 8, none⟩ = some (.int .i64 gm) ∧ U.cell? ⟨W.heap.size, 9, none⟩ = some (.int .i64 gp) ∧ U.cell? ⟨W.heap.size, 10, none⟩ = some (.int .i64 gl)) ∧ (U.frozen? ⟨W.heap.size + 1, 0, none⟩ = false ∧ U.frozen? ⟨W.heap.size + 1, 1, none⟩ = false ∧ U.frozen? ⟨W.heap.size + 1, 2, none⟩ = false ∧ U.frozen? ⟨W.heap.size + 1, 3, none⟩ = false ∧ U.frozen? ⟨W.heap.size + 1, 4, none⟩ = false ∧ U.frozen? ⟨W.heap.size + 1, 5, none⟩ = false ∧ U.frozen? ⟨W.heap.size + 1, 6, none⟩ = false ∧ U.frozen? ⟨W.heap.size + 1, 7, none⟩ = false ∧ U.frozen? ⟨W.heap.size + 1, 8, none⟩ = false ∧ U.frozen? ⟨W.heap.size + 1, 9, none⟩ = false ∧ U.frozen? ⟨W.heap.size + 1, 10, none⟩ = false)) ∧ KY W W.heap.size (W.heap.size + 1) ⟨f, t, i, ⟨p2, q2, l2, wt2, fl2⟩, gm, gp, gl⟩ A2 c2 U) := fun U h => ⟨h.cells, h⟩
  clear hs4 hz4 hk4
  go_upto_region 5 with (fail)
  have hk0 : KY W W.heap.size (W.heap.size + 1) ⟨f, t, i, ⟨p2, q2, l2, wt2, fl2⟩, gm, gp, gl⟩ A2 c2 w4.drew := HK.out.call (below_drew (Below.refl _ _))
  refine wp_region_held_drew (S := fun U => ((U.cell? ⟨W.heap.size, 0, none⟩ = some (.int .i64 f) ∧ U.cell? ⟨W.heap.size, 1, none⟩ = some (.int .i64 t) ∧ U.cell? ⟨W.heap.size, 2, none⟩ = some (.int .i64 i) ∧ U.cell? ⟨W.heap.size, 3, none⟩ = some (.int .i64 p2) ∧ U.cell? ⟨W.heap.size, 4, none⟩ = some (.int .i64 q2) ∧ U.cell? ⟨W.heap.size, 5, none⟩ = some (.slice A2 l2.length c2) ∧ U.cell? ⟨W.heap.size, 6, none⟩ = some (.int .i64 wt2) ∧ U.cell? ⟨W.heap.size, 7, none⟩ = some (.int .i64 fl2) ∧ U.cell? ⟨W.heap.size, 8, none⟩ = some (.int .i64 gm) ∧ U.cell? ⟨W.heap.size, 9, none⟩ = some (.int .i64 gp) ∧ U.cell? ⟨W.heap.size, 10, none⟩ = some (.int .i64 gl)) ∧ (U.frozen? ⟨W.heap.size + 1, 0, none⟩ = false ∧ U.frozen? ⟨W.heap.size + 1, 1, none⟩ = false ∧ U.frozen? ⟨W.heap.size + 1, 2, none⟩ = false ∧ U.frozen? ⟨W.heap.size + 1, 3, none⟩ = false ∧ U.frozen? ⟨W.heap.size + 1, 4, none⟩ = false ∧ U.frozen? ⟨W.heap.size + 1, 5, none⟩ = false ∧ U.frozen? ⟨W.heap.size + 1, 6, none⟩ = false ∧ U.frozen? ⟨W.heap.size + 1, 7, none⟩ = false ∧ U.frozen? ⟨W.heap.size + 1, 8, none⟩ = false ∧ U.frozen? ⟨W.heap.size + 1, 9, none⟩ = false ∧ U.frozen? ⟨W.heap.size + 1, 10, none⟩ = false)) ∧ KY W W.heap.size (W.heap.size + 1) ⟨f, t, i, ⟨p2, q2, l2, wt2, fl2⟩, gm, gp, gl⟩ A2 c2 U) (by kernel_rfl) (hS _ hk0) (fun hHeld => ?_)
  refine wpAnyH_take (i := 0) (v := ?_) rfl (by kernel_rfl) (by kernel_rfl) (by kernel_rfl) (fun _ _ _ h => h) (Or.inl ⟨by rfl, ?_⟩) (by assumption) ?_
  rotate_left
  focus
    intro U hU
    try dsimp only at hU
    go_simp
    try (with_reducible rfl)
  simp only [List.getElem_toArray, List.getElem_cons_succ, List.getElem_cons_zero, Act.put, List.setIfInBounds_toArray, List.set_cons_zero, List.set_cons_succ]
  refine wpAnyH_take (i := 1) (v := ?_) rfl (by kernel_rfl) (by kernel_rfl) (by kernel_rfl) (fun _ _ _ h => h) (Or.inl ⟨by rfl, ?_⟩) (by assumption) ?_
  rotate_left
  focus
    intro U hU
    try dsimp only at hU
    go_simp
    try (with_reducible rfl)
  simp only [List.getElem_toArray, List.getElem_cons_succ, List.getElem_cons_zero, Act.put, List.setIfInBounds_toArray, List.set_cons_zero, List.set_cons_succ]
  refine wpAnyH_take (i := 2) (v := ?_) rfl (by kernel_rfl) (by kernel_rfl) (by kernel_rfl) (fun _ _ _ h => h) (Or.inl ⟨by rfl, ?_⟩) (by assumption) ?_
  rotate_left
  focus
    intro U hU
    try dsimp only at hU
    go_simp
    try (with_reducible rfl)
  simp only [List.getElem_toArray, List.getElem_cons_succ, List.getElem_cons_zero, Act.put, List.setIfInBounds_toArray, List.set_cons_zero, List.set_cons_succ]
  refine wpAnyH_take (i := 4) (v := ?_) rfl (by kernel_rfl) (by kernel_rfl) (by kernel_rfl) (fun _ _ _ h => h) (Or.inl ⟨by rfl, ?_⟩) (by assumption) ?_
  rotate_left
  focus
    intro U hU
    try dsimp only at hU
    go_simp
    try (with_reducible rfl)
  simp only [List.getElem_toArray, List.getElem_cons_succ, List.getElem_cons_zero, Act.put, List.setIfInBounds_toArray, List.set_cons_zero, List.set_cons_succ]
  refine wpAnyH_ready (rs := [3]) (by kernel_rfl) (by simp) ?_
  refine AllReadyH.cons rfl (fun K hK => ?_) AllReadyH.nil
  simp only [List.getElem_toArray, List.getElem_cons_succ, List.getElem_cons_zero]
  go_simp
  refine (HF.out _ hk0.1).mono ?_
  rintro e u1 ⟨B, d, rfl, ho1, g1⟩
  have hk1 := hk0.call g1
  have hk1' := hk1
  obtain ⟨_, ⟨y0, y1, y2, y3, y4, y5, y6, y7, y8, y9, y10, hz1, hns1⟩⟩ := hk1'
  have hk2 := hk1.store (by omega) (by omega) (.int .i64 f) (.int .i64 t) (.int .i64 i) (.int .i64 p2) (.int .i64 q2) (.slice A2 l2.length c2) (.int .i64 wt2) (.int .i64 fl2) (.int .i64 gm) (.int .i64 gp) (.int .i64 gl) (ec_ns ⟨f, t, i, ⟨p2, q2, l2, wt2, fl2⟩, gm, gp, gl⟩ A2 c2)
  have hz5 := put11_heap hz1 (.int .i64 f) (.int .i64 t) (.int .i64 i) (.int .i64 p2) (.int .i64 q2) (.slice A2 l2.length c2) (.int .i64 wt2) (.int .i64 fl2) (.int .i64 gm) (.int .i64 gp) (.int .i64 gl)
  have ho5 : OwnR W (put11 u1 (W.heap.size + 1) (.int .i64 f) (.int .i64 t) (.int .i64 i) (.int .i64 p2) (.int .i64 q2) (.slice A2 l2.length c2) (.int .i64 wt2) (.int .i64 fl2) (.int .i64 gm) (.int .i64 gp) (.int .i64 gl)) (.slice B D.length d) D := own_at (own_mono ho1 hk0.1.2.2.size) hz1 (by decide) fun g hg => put11_other hg _ _ _ _ _ _ _ _ _ _ _
  simp only [put11] at hz5 ho5
  obtain ⟨_, ⟨cg0, cg1, cg2, cg3, cg4, cg5, cg6, cg7, cg8, cg9, cg10⟩⟩ := eleven_cells hz1
  clear ho1 hz1 g1
  go_wp2_with fail
  refine hK.out _ _ ?_ (fun hHeld2 => ?_)
  focus
    first | with_reducible exact hS _ hk2 | with_reducible exact hS _ hk1
  clear hHeld
  have hHeld := hHeld2
  clear hHeld2 hK K
  try simp only [List.getElem_toArray, List.getElem_cons_succ, List.getElem_cons_zero, Act.put, List.setIfInBounds_toArray, List.set_cons_zero, List.set_cons_succ]
  refine wpAnyH_ready (rs := [5]) (by kernel_rfl) (by simp) ?_
  refine AllReadyH.cons rfl (fun K hK => ?_) AllReadyH.nil
  simp only [List.getElem_toArray, List.getElem_cons_succ, List.getElem_cons_zero]
  go_simp
  refine hK.out _ _ ?_ (fun hHeld2 => ?_)
  focus
    first | with_reducible exact hS _ hk2 | with_reducible exact hS _ hk1
  clear hHeld
  have hHeld := hHeld2
  clear hHeld2 hK K
  try simp only [List.getElem_toArray, List.getElem_cons_succ, List.getElem_cons_zero, Act.put, List.setIfInBounds_toArray, List.set_cons_zero, List.set_cons_succ]
  refine wpAnyH_take (i := 6) (v := ?_) rfl (by kernel_rfl) (by kernel_rfl) (by kernel_rfl) (fun _ _ _ h => h) (Or.inl ⟨by rfl, ?_⟩) (by assumption) ?_
  rotate_left
  focus
    intro U hU
    try dsimp only at hU
    go_simp
    try (with_reducible rfl)
  simp only [List.getElem_toArray, List.getElem_cons_succ, List.getElem_cons_zero, Act.put, List.setIfInBounds_toArray, List.set_cons_zero, List.set_cons_succ]
  refine wpAnyH_take (i := 7) (v := ?_) rfl (by kernel_rfl) (by kernel_rfl) (by kernel_rfl) (fun _ _ _ h => h) (Or.inl ⟨by rfl, ?_⟩) (by assumption) ?_
  rotate_left
  focus
    intro U hU
    try dsimp only at hU
    go_simp
    try (with_reducible rfl)
  simp only [List.getElem_toArray, List.getElem_cons_succ, List.getElem_cons_zero, Act.put, List.setIfInBounds_toArray, List.set_cons_zero, List.set_cons_succ]
  refine wpAnyH_done (by kernel_rfl) ?_ _
  clear hHeld hS
  obtain ⟨⟨cr0, cr1, cr2, cr3, cr4, cr5, cr6, cr7, cr8, cr9, cr10⟩, _⟩ := eleven_cells hz5
  have HO := hid ho5
  have HK2 := hid hk2
  clear hz5 ho5 hk0 hk1 hk2
  go_wp2_with fail
  exact bodyPost_ret (v := .tuple #[.agg #[.int .i64 f, .int .i64 t, .int .i64 i, .int .i64 p2, .int .i64 q2, .slice A2 l2.length c2, .int .i64 wt2, .int .i64 fl2, .int .i64 gm, .int .i64 gp, .int .i64 gl], .slice B D.length d, .int .i64 er]) (by simp [results, Try.results20, go_sem, cr0, cr1, cr2, cr3, cr4, cr5, cr6, cr7, cr8, cr9, cr10]) rfl (by rw [HV.out]; exact ⟨A2, c2, B, d, rfl, HK2.out.1.2.1, HO.out, HK2.out.1.2.2⟩)

set_option maxRecDepth 20000 in
theorem r24new_any (W : World) : Calls Try.prog 61 #[] W fun e w' => e = .returned (.agg (oc ⟨1, 1, [], 1, 0⟩ none 0)) ∧ Below W.heap.size W w' := by
  go_enter Try.func61, Try.ntmps61
  go_wp2
  exact bodyPost_ret (v := .agg #[.int .i64 1, .int .i64 1, .slice none 0 0, .int .i64 1, .int .i64 0]) (by simp [results, Try.results61, go_sem]) rfl ⟨rfl, (Below.refl _ _).alloc (Nat.le_refl _) _⟩
end Go.Proofs.Ytdekemlckpbbcaa
