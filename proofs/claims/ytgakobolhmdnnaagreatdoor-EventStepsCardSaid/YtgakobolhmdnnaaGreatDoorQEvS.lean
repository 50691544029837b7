/- EventSteps: the law. -/
import Derived.Test.YtgakobolhmdnnaaGreatDoorQEvH
import Derived.Test.YtgakobolhmdnnaaGreatDoorQEvX
import Derived.Test.YtgakobolhmdnnaaGreatDoorEyP
import Derived.Test.YtgakobolhmdnnaaGreatDoorQR20A
import Derived.Test.YtgakobolhmdnnaaGreatDoorQHdL
namespace Go.Proofs.YtgakobolhmdnnaaGreatDoor
open Go.RowKit Go.Sort Go.Shelf
set_option linter.unusedVariables false
set_option linter.unusedSimpArgs false

/-- The lists of workers of a book of the call's own may be written. -/
structure W99 (w : World) (B : Nat) (A : Option Addr) (xs : List Ee) : Prop where
  out : ∀ i (hi : i < xs.length), ∃ g off, A = some ⟨g, off, none⟩ ∧ w.cell? ⟨g, off + i * 6 + 4, none⟩ = some (.slice xs[i].2.B xs[i].1.bd.length xs[i].2.cb)
  bd : ∀ i (hi : i < xs.length) k (hk : k < xs[i].1.bd.length), ∃ b v, xs[i].2.B = some ⟨b, 0, none⟩ ∧ B ≤ b ∧ w.cell? ⟨b, k, none⟩ = some (.int .i64 v) ∧ w.frozen? ⟨b, k, none⟩ = false
  nl : xs.length ≤ maxLen
  bl : ∀ i (hi : i < xs.length), xs[i].1.bd.length ≤ maxLen
theorem w99_of {w : World} {B : Nat} {A : Option Addr} {c : Nat} {xs : List Ee} (h : RowBk w B (.slice A xs.length c) xs) : W99 w B A xs := by
  refine ⟨fun i hi => ?_, fun i hi k hk => ?_, h.inBk.len, fun i hi => Nat.le_trans (h.inBk.2 _ (List.getElem_mem hi)).2.1.2.1 (h.inBk.2 _ (List.getElem_mem hi)).2.1.2.2.1⟩
  · obtain ⟨g, off, hA, _, _, _, _, q4, _⟩ := h.inBk.el i hi
    exact ⟨g, off, hA, q4⟩
  · obtain ⟨g, cap, hv, hB, _, _, hc, _, _⟩ := own_open (h.2.1 _ (List.getElem_mem hi)).2.1 (by omega) (by omega)
    simp only [Value.slice.injEq] at hv
    obtain ⟨h1, h2⟩ := hc k (by rw [icells_length]; exact hk)
    exact ⟨g, _, hv.1, hB, by rw [h1]; simp [icells]; rfl, h2⟩
theorem w99_set {w : World} {B : Nat} {A : Option Addr} {xs : List Ee} (h : W99 w B A xs) {p : Addr} {v9 : Int} (hp : w.cell? p = some (.int .i64 v9)) : W99 (w.setCell p (.int .i64 99)) B A xs := by
  refine ⟨fun i hi => ?_, fun i hi k hk => ?_, h.nl, h.bl⟩
  · obtain ⟨g, off, hA, q4⟩ := h.out i hi
    refine ⟨g, off, hA, ?_⟩
    by_cases hpq : p = ⟨g, off + i * 6 + 4, none⟩
    · rw [← hpq, hp] at q4
      cases q4
    · rw [World.cell?_setCell_other (h := hpq)]
      exact q4
  · obtain ⟨b, v, hb, hB, h1, h2⟩ := h.bd i hi k hk
    by_cases hpq : p = ⟨b, k, none⟩
    · refine ⟨b, 99, hb, hB, ?_, ?_⟩
      · rw [← hpq]
        exact World.cell?_setCell_same _ _ _ hp
      · rw [World.frozen?_setCell]
        exact h2
    · refine ⟨b, v, hb, hB, ?_, ?_⟩
      · rw [World.cell?_setCell_other (h := hpq)]
        exact h1
      · rw [World.frozen?_setCell]
        exact h2
theorem ev_in {w : World} {a : Array Value} (hn : a.size = 4) (h : Rd Tryz.prog w 31 a.toList) : ∃ kd j t i : Int, a = #[.int .i64 kd, .int .i64 j, .int .i64 t, .int .i64 i] ∧ I64 j ∧ I64 t ∧ I64 i := by
  have hc : Tryz.prog.cellsOf 3 = 1 := by kernel_rfl
  obtain ⟨_, hf⟩ := Rd.struct Tryz.underlying31 h
  have f0 : Rd Tryz.prog w 3 ((a.toList.drop 0).take (Tryz.prog.cellsOf 3)) := hf 0 _ rfl
  have f1 : Rd Tryz.prog w 3 ((a.toList.drop 1).take (Tryz.prog.cellsOf 3)) := hf 1 _ rfl
  have f2 : Rd Tryz.prog w 3 ((a.toList.drop 2).take (Tryz.prog.cellsOf 3)) := hf 2 _ rfl
  have f3 : Rd Tryz.prog w 3 ((a.toList.drop 3).take (Tryz.prog.cellsOf 3)) := hf 3 _ rfl
  rw [hc] at f0 f1 f2 f3
  obtain ⟨k, e0, _⟩ := Rd.int Tryz.underlying3 f0
  obtain ⟨j, e1, w1⟩ := Rd.int Tryz.underlying3 f1
  obtain ⟨t, e2, w2⟩ := Rd.int Tryz.underlying3 f2
  obtain ⟨i, e3, w3⟩ := Rd.int Tryz.underlying3 f3
  obtain ⟨y0, y1, y2, y3, hl⟩ := list4 (show a.toList.length = 4 by rw [Array.length_toList]; exact hn)
  rw [hl] at e0 e1 e2 e3
  simp at e0 e1 e2 e3
  refine ⟨k, j, t, i, Array.toList_inj.1 ?_, wf_i64 w1, wf_i64 w2, wf_i64 w3⟩
  rw [hl, e0, e1, e2, e3]
instance : Inhabited Ee := ⟨(⟨0, 0, 0, [], [], []⟩, ⟨none, 0, none, 0, none, 0⟩)⟩
theorem books_in {w : World} {A : Option Addr} {len cap : Nat} (h : Rd Tryz.prog w 29 [.slice A len cap]) : ∃ xs : List Ee, xs.length = len ∧ InBk w A cap xs := by
  obtain ⟨l, h1, h2, h3⟩ := rows_in (α := Ee) (f := ebl) (fun x => InE w x) Tryz.underlying29 (n := 6) (by kernel_rfl) (by omega) ebl_len (fun cs hl hr => by
    obtain ⟨x, e, hx⟩ := rd_entry (a := cs.toArray) (by simpa using hl) (by simpa using hr)
    exact ⟨x, by simpa using e, hx⟩) h
  subst h2
  exact ⟨l, rfl, h1, h3⟩
def put7 (w : World) (b : Nat) (a0 a1 a2 a3 a4 a5 a6 : Value) : World := ((((((w.setCell ⟨b, 0, none⟩ a0).setCell ⟨b, 1, none⟩ a1).setCell ⟨b, 2, none⟩ a2).setCell ⟨b, 3, none⟩ a3).setCell ⟨b, 4, none⟩ a4).setCell ⟨b, 5, none⟩ a5).setCell ⟨b, 6, none⟩ a6
theorem put7_heap {w : World} {b t : Nat} {x0 x1 x2 x3 x4 x5 x6 : Value} (h : w.heap[b]? = some (.cells #[x0, x1, x2, x3, x4, x5, x6] t (0, 0))) (a0 a1 a2 a3 a4 a5 a6 : Value) :
    (put7 w b a0 a1 a2 a3 a4 a5 a6).heap[b]? = some (.cells #[a0, a1, a2, a3, a4, a5, a6] t (0, 0)) := by
  have h1 := heap_setCell_same w b 0 _ t a0 h
  have h2 := heap_setCell_same _ b 1 _ t a1 h1
  have h3 := heap_setCell_same _ b 2 _ t a2 h2
  have h4 := heap_setCell_same _ b 3 _ t a3 h3
  have h5 := heap_setCell_same _ b 4 _ t a4 h4
  have h6 := heap_setCell_same _ b 5 _ t a5 h5
  have h7 := heap_setCell_same _ b 6 _ t a6 h6
  unfold put7
  rw [h7]
  rfl
theorem put7_below {n : Nat} {W w : World} {b : Nat} (h : RowKit.Below n W w) (hb : n ≤ b) (a0 a1 a2 a3 a4 a5 a6 : Value) : RowKit.Below n W (put7 w b a0 a1 a2 a3 a4 a5 a6) :=
  ((((((h.setCell (p := ⟨b, 0, none⟩) hb a0).setCell (p := ⟨b, 1, none⟩) hb a1).setCell (p := ⟨b, 2, none⟩) hb a2).setCell (p := ⟨b, 3, none⟩) hb a3).setCell (p := ⟨b, 4, none⟩) hb a4).setCell (p := ⟨b, 5, none⟩) hb a5).setCell (p := ⟨b, 6, none⟩) hb a6
theorem seven_all {w : World} {b t : Nat} {x0 x1 x2 x3 x4 x5 x6 : Value} (h : w.heap[b]? = some (.cells #[x0, x1, x2, x3, x4, x5, x6] t (0, 0))) :
    (w.cell? ⟨b, 0, none⟩ = some x0 ∧ w.cell? ⟨b, 1, none⟩ = some x1 ∧ w.cell? ⟨b, 2, none⟩ = some x2 ∧ w.cell? ⟨b, 3, none⟩ = some x3 ∧ w.cell? ⟨b, 4, none⟩ = some x4 ∧ w.cell? ⟨b, 5, none⟩ = some x5 ∧ w.cell? ⟨b, 6, none⟩ = some x6) ∧ w.frozen? ⟨b, 0, none⟩ = false ∧ w.frozen? ⟨b, 1, none⟩ = false ∧ w.frozen? ⟨b, 2, none⟩ = false ∧ w.frozen? ⟨b, 3, none⟩ = false ∧ w.frozen? ⟨b, 4, none⟩ = false ∧ w.frozen? ⟨b, 5, none⟩ = false ∧ w.frozen? ⟨b, 6, none⟩ = false := by
  refine ⟨⟨?_, ?_, ?_, ?_, ?_, ?_, ?_⟩, ?_, ?_, ?_, ?_, ?_, ?_, ?_⟩ <;> first | (rw [cell_of_row w b _ _ _ _ h]; rfl) | exact frozen_of_row w b _ _ t h

set_option maxRecDepth 20000 in
set_option maxHeartbeats 16000000 in
theorem eventSteps_law (x : Cf) (N : Option Addr) (nc : Nat) (Kx : Option Addr) (kc : Nat) (J : Option Addr) (jc : Nat) (js : List Jo) (S : Option Addr) (sc : Nat) (xs : List Ee) (kd j t w : Int) (W : World) (hC : CfAt W x N nc Kx kc) (hJ : InJs W J jc js) (hS : InBk W S sc xs) (hj : I64 j) (ht : I64 t) (hw : I64 w) (hT : Pow W) :
    Calls Tryz.prog 3 #[.agg (wdc x N nc Kx kc J jc js.length), .slice S xs.length sc, .agg #[.int .i64 kd, .int .i64 j, .int .i64 t, .int .i64 w]] W fun e w' => e = .returned (.bool true) ∧ RowKit.Below W.heap.size W w' := by
  have HW := hid works39_any
  have HLC := hid (fun u (hu : RowKit.Below W.heap.size W u) => r14long_any x N nc Kx kc u (hC.below hu))
  have HLJ := hid (fun u (hu : RowKit.Below W.heap.size W u) => long39_any J jc js u (hJ.below hu))
  have HLB := hid (fun u (hu : RowKit.Below W.heap.size W u) => r20long_any S sc xs u (hS.below hu))
  have hln : longCf x = false → longJs js = false → longBk (xs.map (·.1)) = false → (x.ws.length ≤ 1000 ∧ SmJ js) ∧ xs.length ≤ 100 ∧ ∀ y ∈ xs, smE y.1 := fun h1 h2 h3 => by
    have h4 := (longCf_no h1).2
    obtain ⟨h7, h8⟩ := longBk_sm h3
    refine ⟨⟨by omega, (longJs_sm h2).2⟩, by omega, fun y hy => ?_⟩
    obtain ⟨g1, g2, g3⟩ := h8 y hy
    obtain ⟨g5, g4⟩ := longB_no g3
    exact ⟨⟨by omega, by omega, by omega⟩, fun s hs => by have := g5 s hs; omega⟩
  have HLN := hid hln
  have HCL := hid (fun (h : (x.ws.length ≤ 1000 ∧ SmJ js) ∧ xs.length ≤ 100 ∧ ∀ y ∈ xs, smE y.1) u (hu : RowKit.Below W.heap.size W u) => bclone_any S sc xs u (hS.below hu) (by have := h.2.1; omega) (fun x hx => ⟨by have := (h.2.2 x hx).1; omega, by have := (h.2.2 x hx).1; omega, by have := (h.2.2 x hx).1; omega⟩))
  have HST := hid (fun (h : (x.ws.length ≤ 1000 ∧ SmJ js) ∧ xs.length ≤ 100 ∧ ∀ y ∈ xs, smE y.1) u (hu : RowKit.Below W.heap.size W u) => step_any x N nc Kx kc J jc js S sc xs kd j t w u (hC.below hu) (hJ.below hu) (hS.below hu) h.2.1 h.2.2 h.1.2 h.1.1)
  have HRS := hid (fun (h : (x.ws.length ≤ 1000 ∧ SmJ js) ∧ xs.length ≤ 100 ∧ ∀ y ∈ xs, smE y.1) u (hu : RowKit.Below W.heap.size W u) => rstep_any x N nc Kx kc J jc js S sc xs kd j t w u (hC.below hu) (hJ.below hu) (hS.below hu) h.1.2 h.2.1 h.2.2 h.1.1)
  have HRU := hid (fun (h : (x.ws.length ≤ 1000 ∧ SmJ js) ∧ xs.length ≤ 100 ∧ ∀ y ∈ xs, smE y.1) u (hu : RowKit.Below W.heap.size W u) => running_any S sc xs w u (hS.below hu) h.2.1 (fun x hx => (h.2.2 x hx).1))
  have HRR := hid (fun (h : (x.ws.length ≤ 1000 ∧ SmJ js) ∧ xs.length ≤ 100 ∧ ∀ y ∈ xs, smE y.1) u (hu : RowKit.Below W.heap.size W u) => rrunning_any S sc xs w u (hS.below hu) h.2.1 (fun x hx => (h.2.2 x hx).1))
  have HTX := hid (fun u (hu : RowKit.Below W.heap.size W u) => text_any kd j t w u (hT.below hu) hj ht hw)
  have HRT := hid (fun u => rtext_any kd j t w u hj ht hw)
  have HIN := hid (fun u (hu : RowKit.Below W.heap.size W u) => hS.below hu)
  clear hC hJ hS hln hj ht hw hT
  generalize longCf x = lc9 at *
  generalize longJs js = lj at *
  generalize longBk (xs.map (·.1)) = lb at *
  generalize posB x js (xs.map (·.1)) kd j t w = R at *
  generalize (if R = true then aftB js (xs.map (·.1)) kd j t w else xs.map (·.1)) = YL at *
  generalize runS w (xs.map (·.1)) = rs at *
  generalize str (txtL kd j t w) = TX at *
  obtain ⟨c0, le, ag, ro, ou, T, ws⟩ := x
  simp only [cfc, wdc] at *
  generalize js.length = jn at *
  go_enter Tryz.func3, Tryz.ntmps3
  go_upto_region 1 with (fail)
  refine at_world (fun u => u.heap[W.heap.size]? = some (.cells #[.int .i64 c0, .int .i64 le, .int .i64 ag, .int .i64 ro, .int .i64 ou, .slice N T.length nc, .slice Kx ws.length kc, .slice J jn jc] 28 (0, 0)) ∧ u.heap[W.heap.size + 1]? = some (.cells #[.int .i64 kd, .int .i64 j, .int .i64 t, .int .i64 w] 31 (0, 0)) ∧ RowKit.Below W.heap.size W u) (lay2E W _ _) ?_
  rintro w1 ⟨hq, hj, hb⟩
  have HQ := hid hq
  have HJ := hid hj
  have HB := hid hb
  clear hq hj hb
  generalize W.heap.size + 1 = Ev at *
  generalize hQ : W.heap.size = Q at HQ
  have HQW := hid hQ
  clear hQ
  have hS : ∀ U, RowKit.Below w1.heap.size w1 U → (U.heap[Q]? = some (.cells #[.int .i64 c0, .int .i64 le, .int .i64 ag, .int .i64 ro, .int .i64 ou, .slice N T.length nc, .slice Kx ws.length kc, .slice J jn jc] 28 (0, 0)) ∧ RowKit.Below w1.heap.size w1 U) := fun U hU => ⟨keep0 HQ.out hU, hU⟩
  have hu0 : RowKit.Below w1.heap.size w1 w1.drew := below_drew (RowKit.Below.refl _ _)
  refine wp_region_held_drew (S := fun U => (U.heap[Q]? = some (.cells #[.int .i64 c0, .int .i64 le, .int .i64 ag, .int .i64 ro, .int .i64 ou, .slice N T.length nc, .slice Kx ws.length kc, .slice J jn jc] 28 (0, 0)) ∧ RowKit.Below w1.heap.size w1 U)) (by kernel_rfl) (hS _ hu0) (fun hHeld => ?_)
  generalize w1.drew = u0 at *
  refine wpAnyH_take (i := 0) (v := ?_) rfl (by kernel_rfl) (by kernel_rfl) (by kernel_rfl) (fun _ _ _ h => h) (Or.inl ⟨by rfl, ?_⟩) (by assumption) ?_
  rotate_left
  focus
    intro U hU
    try dsimp only at hU
    obtain ⟨q0, q1, q2, q3, q4, q5, q6, q7⟩ := cells8 hU.1
    go_simp
    try (with_reducible rfl)
  simp only [List.getElem_toArray, List.getElem_cons_succ, List.getElem_cons_zero, Act.put, List.setIfInBounds_toArray, List.set_cons_zero, List.set_cons_succ]
  refine wpAnyH_take (i := 1) (v := ?_) rfl (by kernel_rfl) (by kernel_rfl) (by kernel_rfl) (fun _ _ _ h => h) (Or.inl ⟨by rfl, ?_⟩) (by assumption) ?_
  rotate_left
  focus
    intro U hU
    try dsimp only at hU
    obtain ⟨q0, q1, q2, q3, q4, q5, q6, q7⟩ := cells8 hU.1
    go_simp
    try (with_reducible rfl)
  simp only [List.getElem_toArray, List.getElem_cons_succ, List.getElem_cons_zero, Act.put, List.setIfInBounds_toArray, List.set_cons_zero, List.set_cons_succ]
  refine wpAnyH_take (i := 2) (v := ?_) rfl (by kernel_rfl) (by kernel_rfl) (by kernel_rfl) (fun _ _ _ h => h) (Or.inl ⟨by rfl, ?_⟩) (by assumption) ?_
  rotate_left
  focus
    intro U hU
    try dsimp only at hU
    obtain ⟨q0, q1, q2, q3, q4, q5, q6, q7⟩ := cells8 hU.1
    go_simp
    try (with_reducible rfl)
  simp only [List.getElem_toArray, List.getElem_cons_succ, List.getElem_cons_zero, Act.put, List.setIfInBounds_toArray, List.set_cons_zero, List.set_cons_succ]
  refine wpAnyH_take (i := 3) (v := ?_) rfl (by kernel_rfl) (by kernel_rfl) (by kernel_rfl) (fun _ _ _ h => h) (Or.inl ⟨by rfl, ?_⟩) (by assumption) ?_
  rotate_left
  focus
    intro U hU
    try dsimp only at hU
    obtain ⟨q0, q1, q2, q3, q4, q5, q6, q7⟩ := cells8 hU.1
    go_simp
    try (with_reducible rfl)
  simp only [List.getElem_toArray, List.getElem_cons_succ, List.getElem_cons_zero, Act.put, List.setIfInBounds_toArray, List.set_cons_zero, List.set_cons_succ]
  refine wpAnyH_ready (rs := [4]) (by kernel_rfl) (by simp) ?_
  refine AllReadyH.cons rfl (fun K hK => ?_) AllReadyH.nil
  simp only [List.getElem_toArray, List.getElem_cons_succ, List.getElem_cons_zero]
  go_simp
  refine hK.out _ _ ?_ (fun hHeld2 => ?_)
  focus
    exact hS _ (hu0.alloc hu0.size _)
  clear hHeld
  have hHeld := hHeld2
  clear hHeld2 hK K
  try simp only [List.getElem_toArray, List.getElem_cons_succ, List.getElem_cons_zero, Act.put, List.setIfInBounds_toArray, List.set_cons_zero, List.set_cons_succ]
  have hz : (World.alloc u0 (.cells #[.int .i64 0, .int .i64 0, .int .i64 0, .int .i64 0, .int .i64 0, .slice none 0 0, .slice none 0 0] 25 (0, 0))).heap[(World.heap u0).size]? = some (.cells #[.int .i64 0, .int .i64 0, .int .i64 0, .int .i64 0, .int .i64 0, .slice none 0 0, .slice none 0 0] 25 (0, 0)) := heap_alloc_new u0 (.cells #[.int .i64 0, .int .i64 0, .int .i64 0, .int .i64 0, .int .i64 0, .slice none 0 0, .slice none 0 0] 25)
  have gg : RowKit.Below (World.heap u0).size u0 (World.alloc u0 (.cells #[.int .i64 0, .int .i64 0, .int .i64 0, .int .i64 0, .int .i64 0, .slice none 0 0, .slice none 0 0] 25 (0, 0))) := (RowKit.Below.refl _ _).alloc (Nat.le_refl _) _
  have hu1 := hu0.trans (gg.mono hu0.size)
  have hm3 : w1.heap.size ≤ (World.heap u0).size := hu0.size
  clear gg
  generalize World.alloc u0 (.cells #[.int .i64 0, .int .i64 0, .int .i64 0, .int .i64 0, .int .i64 0, .slice none 0 0, .slice none 0 0] 25 (0, 0)) = u1 at *
  generalize (World.heap u0).size = C at *
  obtain ⟨⟨z0, z1, z2, z3, z4, z5, z6⟩, f0, f1, f2, f3, f4, f5, f6⟩ := seven_all hz
  refine wpAnyH_ready (rs := [5]) (by kernel_rfl) (by simp) ?_
  refine AllReadyH.cons rfl (fun K hK => ?_) AllReadyH.nil
  simp only [List.getElem_toArray, List.getElem_cons_succ, List.getElem_cons_zero]
  go_simp
  refine hK.out _ _ ?_ (fun hHeld2 => ?_)
  focus
    exact hS _ (put7_below hu1 hm3 (.int .i64 c0) (.int .i64 le) (.int .i64 ag) (.int .i64 ro) (.int .i64 ou) (.slice N T.length nc) (.slice Kx ws.length kc))
  clear hHeld
  have hHeld := hHeld2
  clear hHeld2 hK K
  try simp only [List.getElem_toArray, List.getElem_cons_succ, List.getElem_cons_zero, Act.put, List.setIfInBounds_toArray, List.set_cons_zero, List.set_cons_succ]
  refine wpAnyH_take (i := 6) (v := ?_) rfl (by kernel_rfl) (by kernel_rfl) (by kernel_rfl) (fun _ _ _ h => h) (Or.inl ⟨by rfl, ?_⟩) (by assumption) ?_
  rotate_left
  focus
    intro U hU
    try dsimp only at hU
    go_simp
    try (with_reducible rfl)
  simp only [List.getElem_toArray, List.getElem_cons_succ, List.getElem_cons_zero, Act.put, List.setIfInBounds_toArray, List.set_cons_zero, List.set_cons_succ]
  refine wpAnyH_done (by kernel_rfl) ?_ _
  clear z0 z1 z2 z3 z4 z5 z6 f0 f1 f2 f3 f4 f5 f6 hHeld hS
  have hx9 := put7_heap hz (.int .i64 c0) (.int .i64 le) (.int .i64 ag) (.int .i64 ro) (.int .i64 ou) (.slice N T.length nc) (.slice Kx ws.length kc)
  have hb9 := put7_below hu1 hm3 (.int .i64 c0) (.int .i64 le) (.int .i64 ag) (.int .i64 ro) (.int .i64 ou) (.slice N T.length nc) (.slice Kx ws.length kc)
  clear hz hu0 hu1 hm3
  go_upto_region 2 with (fail)
  refine at_world (fun u => u.heap[C]? = some (.cells #[.int .i64 c0, .int .i64 le, .int .i64 ag, .int .i64 ro, .int .i64 ou, .slice N T.length nc, .slice Kx ws.length kc] 25 (0, 0)) ∧ RowKit.Below w1.heap.size w1 u) ⟨hx9, hb9⟩ ?_
  clear hx9 hb9
  rintro w2 ⟨hq, hb⟩
  have HC2 := hid hq
  have HB2 := hid (HB.out.trans (hb.mono HB.out.size))
  have HJ2 := hid (keep0 HJ.out hb)
  clear hq hb HB HJ HQ
  obtain ⟨q0, q1, q2, q3, q4, q5, q6⟩ := seven_cellsJ HC2.out
  go_wp2_with fail
  refine (HLC.out _ HB2.out).mono ?_
  rintro e w3 ⟨rfl, hb⟩
  have HB3 := hid (HB2.out.trans (hb.mono HB2.out.size))
  have HC3 := hid (keep0 HC2.out hb)
  have HJ3 := hid (keep0 HJ2.out hb)
  clear hb q0 q1 q2 q3 q4 q5 q6 HB2 HC2 HJ2 HLC
  cases lc9
  rotate_left
  · skip
    go_wp2_with (go_at_call 8; refine (HW.out _).mono ?_; rintro e w7 ⟨rfl, hb7⟩)
    go_ret
    exact ⟨rfl, HB3.out.trans (hb7.mono HB3.out.size)⟩
  go_wp2_with fail
  refine (HLJ.out _ HB3.out).mono ?_
  rintro e w4 ⟨rfl, rfl⟩
  clear HLJ
  cases lj
  rotate_left
  · skip
    go_wp2_with (go_at_call 8; refine (HW.out _).mono ?_; rintro e w7 ⟨rfl, hb7⟩)
    go_ret
    exact ⟨rfl, HB3.out.trans (hb7.mono HB3.out.size)⟩
  go_wp2_with fail
  refine (HLB.out _ HB3.out).mono ?_
  rintro e w4 ⟨rfl, hb⟩
  have HB4 := hid (HB3.out.trans (hb.mono HB3.out.size))
  have HC4 := hid (keep0 HC3.out hb)
  have HJ4 := hid (keep0 HJ3.out hb)
  clear hb HB3 HC3 HJ3 HLB
  cases lb
  rotate_left
  · skip
    go_wp2_with (go_at_call 8; refine (HW.out _).mono ?_; rintro e w7 ⟨rfl, hb7⟩)
    go_ret
    exact ⟨rfl, HB4.out.trans (hb7.mono HB4.out.size)⟩
  have HSM := hid (HLN.out (by first | rfl | trivial) (by first | rfl | trivial) (by first | rfl | trivial))
  have HCL9 := hid (HCL.out HSM.out)
  have HST9 := hid (HST.out HSM.out)
  have HRS9 := hid (HRS.out HSM.out)
  have HRU9 := hid (HRU.out HSM.out)
  have HRR9 := hid (HRR.out HSM.out)
  clear HLN HCL HST HRS HRU HRR
  -- the clone
  go_wp2_with fail
  refine (HCL9.out _ HB4.out).mono ?_
  rintro e w5 ⟨A5, c5, bs, rfl, has, hra, hb⟩
  have HB5 := hid (HB4.out.trans (hb.mono HB4.out.size))
  have HC5 := hid (keep0 HC4.out hb)
  have HJ5 := hid (keep0 HJ4.out hb)
  have HAS := hid (And.intro has hra.inBk)
  clear hb has hra HB4 HC4 HJ4 HCL9
  -- the step
  obtain ⟨q0, q1, q2, q3, q4, q5, q6⟩ := seven_cellsJ HC5.out
  obtain ⟨p0, p1, p2, p3⟩ := four_cellsE HJ5.out
  go_wp2_with fail
  refine (HST9.out _ HB5.out).mono ?_
  rintro e w6 ⟨A6, c6, ys, rfl, hys, hry, hb⟩
  have HB6 := hid (HB5.out.trans (hb.mono HB5.out.size))
  have HC6 := hid (keep0 HC5.out hb)
  have HJ6 := hid (keep0 HJ5.out hb)
  have HY6 := hid (And.intro hys (And.intro hry hb))
  clear hb hys hry q0 q1 q2 q3 q4 q5 q6 p0 p1 p2 p3 HC5 HJ5 HST9
  -- the document's step
  obtain ⟨q0, q1, q2, q3, q4, q5, q6⟩ := seven_cellsJ HC6.out
  obtain ⟨p0, p1, p2, p3⟩ := four_cellsE HJ6.out
  go_wp2_with fail
  refine (HRS9.out _ HB6.out).mono ?_
  rintro e w7 ⟨A7, c7, zs, rfl, hzs, hiz, hb⟩
  have HB7 := hid (HB6.out.trans (hb.mono HB6.out.size))
  have HJ7 := hid (keep0 HJ6.out hb)
  have HY7 := hid (And.intro HY6.out.1 (And.intro (HY6.out.2.1.keep hb) (HY6.out.2.2.trans (hb.mono HY6.out.2.2.size))))
  have HZ7 := hid (And.intro hzs hiz)
  clear hb hzs hiz q0 q1 q2 q3 q4 q5 q6 p0 p1 p2 p3 HB6 HC6 HJ6 HRS9 HY6
  obtain ⟨p0, p1, p2, p3⟩ := four_cellsE HJ7.out
  have hyz : ys.map (·.1) = zs.map (·.1) := by rw [HY7.out.1, HZ7.out.1]
  have cs := reg (w := w7) (v := .bool true) (fun u hu => by have h := r20same_any A6 A7 c6 c7 ys zs u ((HY7.out.2.1.keep hu).inBk) (HZ7.out.2.below hu); rw [decide_eq_true hyz] at h; exact h)
  have cr := reg (w := w7) (fun u hu => HRU9.out u (HB7.out.trans (hu.mono HB7.out.size)))
  have crr := reg (w := w7) (fun u hu => HRR9.out u (HB7.out.trans (hu.mono HB7.out.size)))
  have ct := reg (w := w7) (fun u hu => HTX.out u (HB7.out.trans (hu.mono HB7.out.size)))
  have crt := reg (w := w7) (fun u hu => HRT.out u)
  clear hyz
  go_upto_region 7 with (fail)
  replace p0 := cell_regrown p0
  replace p1 := cell_regrown p1
  replace p2 := cell_regrown p2
  replace p3 := cell_regrown p3
  refine wp_region_quiet_below (by kernel_rfl) (by kernel_rfl) ?_
  repeat (go_big_quiet_step (first | (go_at_call 12; with_reducible exact cs _ _) | (go_at_call 13; with_reducible exact cr _ _) | (go_at_call 14; with_reducible exact crr _ _) | (go_at_call 15; with_reducible exact ct _ _) | (go_at_call 16; with_reducible exact crt _ _)))
  refine wpQuiet_nil ?_
  intro _ hw'
  obtain ⟨⟨dq, osq⟩, hw''⟩ := hw'
  subst hw''
  have hbR := below_regrown w7 dq osq
  refine at_world (fun u => RowKit.Below w7.heap.size w7 u) hbR ?_
  clear hbR p0 p1 p2 p3 cs cr crr ct crt
  rintro w8 hbR
  have HB8 := hid (HB7.out.trans (hbR.mono HB7.out.size))
  have HW9 := hid (w99_of (HY7.out.2.1.keep hbR))
  have HL8 := hid (HY7.out.2.2.trans (hbR.mono HY7.out.2.2.size))
  clear hbR HRU9 HRR9 HTX HRT HJ7 HZ7 HY7
  go_wp2
  go_loopw [14, 15] (fun i _ wr => ∃ n : Nat, n ≤ ys.length ∧ i = .int .i64 (n : Int) ∧ Hid (W99 wr w5.heap.size A6 ys) ∧ Hid (RowKit.Below w5.heap.size w5 wr)) (fun i _ _ => ys.length - (intOf i).toNat)
  case atStart => exact ⟨0, by omega, rfl, HW9.out, HL8.out⟩
  case round =>
    clear HW9 HL8 HB7 HB8
    obtain ⟨n, hn9, rfl, H9, HL9⟩ := hrel
    cases R
    · skip
      have HWR := hid (HB5.out.trans (HL9.out.mono HB5.out.size))
      have HSM9 := hid (r20same_any A5 S c5 sc bs xs wr (HAS.out.2.below HL9.out) (HIN.out _ HWR.out))
      go_wp2_with fail
      refine HSM9.out.mono ?_
      rintro e w9 ⟨rfl, hb⟩
      have HB9 := hid (HWR.out.trans (hb.mono HWR.out.size))
      rw [decide_eq_true HAS.out.1]
      clear hb HSM9 HWR H9 HL9
      go_wp2_with (go_at_call 8; refine (HW.out _).mono ?_; rintro e w10 ⟨rfl, hb7⟩)
      go_ret
      exact ⟨rfl, HB9.out.trans (hb7.mono HB9.out.size)⟩
    by_cases hlt : n < ys.length
    · have hlt2 : (n : Int) < (ys.length : Int) := by omega
      have hn0 : ¬ (n : Int) < 0 := by omega
      obtain ⟨g, off, hA, _⟩ := H9.out.out n hlt
      subst hA
      have HON := hid (fun u (h : W99 u w5.heap.size (some ⟨g, off, none⟩) ys) => show u.cell? ⟨g, off + n * 6 + 4, none⟩ = some (.slice ys[n].2.B ys[n].1.bd.length ys[n].2.cb) by
        obtain ⟨g', off', h1, h2⟩ := h.out n hlt
        cases h1
        exact h2)
      have HBN := hid (fun u (h : W99 u w5.heap.size (some ⟨g, off, none⟩) ys) k (hk : k < ys[n].1.bd.length) => h.bd n hlt k hk)
      have hbl := H9.out.bl n hlt
      have hyl := H9.out.nl
      unfold maxLen at hbl hyl
      generalize ys[n].1.bd.length = bl at *
      generalize ys[n].2.B = Bp at *
      generalize ys[n].2.cb = cb at *
      go_wp2
      go_loopw [15] (fun k wr2 => ∃ m : Nat, m ≤ bl ∧ k = .int .i64 (m : Int) ∧ Hid (W99 wr2 w5.heap.size (some ⟨g, off, none⟩) ys) ∧ Hid (RowKit.Below w5.heap.size w5 wr2)) (fun k _ => bl - (intOf k).toNat)
      case atStart => exact ⟨0, by omega, rfl, H9.out, HL9.out⟩
      case round =>
        clear H9 HL9
        obtain ⟨m, hm9, rfl, H9k, HLk⟩ := hrel
        have c4 := HON.out _ H9k.out
        by_cases hm : m < bl
        · obtain ⟨b, v, hB, hBb, cv, cf⟩ := HBN.out _ H9k.out m hm
          subst hB
          have hm2 : (m : Int) < (bl : Int) := by omega
          have hm0 : ¬ (m : Int) < 0 := by omega
          have HN9 := hid (w99_set H9k.out cv)
          have HLN9 := hid (HLk.out.setCell (p := ⟨b, m, none⟩) hBb (.int .i64 99))
          clear H9k HLk
          go_wp2
          go_roundw
          case rel => exact ⟨m + 1, by omega, by go_num, HN9.out, HLN9.out⟩
          case measure => simp [intOf]; omega
        · have hge : ¬ (m : Int) < (bl : Int) := by omega
          go_wp2
          go_roundw
          case rel => exact ⟨n + 1, by omega, by go_num, H9k.out, HLk.out⟩
          case measure => simp [intOf]; omega
    · have hge : ¬ (n : Int) < (ys.length : Int) := by omega
      have HWR := hid (HB5.out.trans (HL9.out.mono HB5.out.size))
      have HSM9 := hid (r20same_any A5 S c5 sc bs xs wr (HAS.out.2.below HL9.out) (HIN.out _ HWR.out))
      go_wp2_with fail
      refine HSM9.out.mono ?_
      rintro e w9 ⟨rfl, hb⟩
      have HB9 := hid (HWR.out.trans (hb.mono HWR.out.size))
      rw [decide_eq_true HAS.out.1]
      clear hb HSM9 HWR H9 HL9
      go_wp2_with (go_at_call 8; refine (HW.out _).mono ?_; rintro e w10 ⟨rfl, hb7⟩)
      go_ret
      exact ⟨rfl, HB9.out.trans (hb7.mono HB9.out.size)⟩
end Go.Proofs.YtgakobolhmdnnaaGreatDoor
