/- HandFits: the law. -/
import Derived.Test.YtgakobolhmdnnaaQHdC
import Derived.Test.YtgakobolhmdnnaaQHdL
import Derived.Deep.RegionHeld3
import Derived.BigQuiet
namespace Go.Proofs.Ytgakobolhmdnnaa
open Go.RowKit Go.Sort
set_option linter.unusedVariables false
set_option linter.unusedSimpArgs false

theorem pick_cases (e : En) (T : List (List UInt8)) (ws : List Wk) (wk : Int) (h : List Bool) :
    pickB e T ws wk h = (-1, false, false) ∨
    (∃ j : Nat, pickB e T ws wk h = ((j : Int), true, true) ∧ pndW e h wk = [] ∧ j < e.ns.length ∧ j < e.bd.length ∧ e.bd.getD j 0 = 0 ∧ hasS (setJ T ws (e.ns.getD j [])) wk = true) ∨
    (∃ j : Nat, pickB e T ws wk h = ((j : Int), false, true) ∧ j < e.ns.length ∧ j < e.bd.length ∧ j < e.dn.length ∧ e.bd.getD j 0 = wk + 1 ∧ 1 ≤ e.bd.getD j 0 ∧ e.dn.getD j false = false ∧ notB h j = false) := by
  cases hp : pndW e h wk with
  | cons t r =>
    have hm : t ∈ pndW e h wk := by rw [hp]; exact List.mem_cons_self
    unfold pndW at hm
    obtain ⟨h1, h2⟩ := List.mem_filter.1 hm
    obtain ⟨j, rfl, a1, a2, a3, a4, a5, a6⟩ := pnd_mem h1
    refine .inr (.inr ⟨j, pick_old hp, a1, a2, a3, ?_, a4, a5, a6⟩)
    have h3 : e.bd.getD j 0 - 1 = wk := by simpa using h2
    omega
  | nil =>
    cases hf : (openB e).find? (mayF e T ws wk) with
    | none => exact .inl (pick_none hp hf)
    | some i =>
      have h1 := List.find?_some hf
      have h2 := List.mem_of_find?_eq_some hf
      obtain ⟨j, rfl, a1, a2, a3⟩ := open_mem h2
      exact .inr (.inl ⟨j, pick_new hp hf, rfl, a1, a2, a3, h1⟩)
theorem lay3 (W : World) (C E O : Obj) : (((W.alloc C).alloc E).alloc O).heap[W.heap.size]? = some C ∧ (((W.alloc C).alloc E).alloc O).heap[W.heap.size + 1]? = some E ∧ (((W.alloc C).alloc E).alloc O).heap[W.heap.size + 1 + 1]? = some O ∧ RowKit.Below W.heap.size W (((W.alloc C).alloc E).alloc O) := by
  have h2 := heap_alloc_new (W.alloc C) E
  have h3 := heap_alloc_new ((W.alloc C).alloc E) O
  rw [World.size_alloc] at h2
  rw [World.size_alloc, World.size_alloc] at h3
  exact ⟨keep0 (keep0 (heap_alloc_new W C) (bel_alloc (RowKit.Below.refl _ _) E)) (bel_alloc (RowKit.Below.refl _ _) O), keep0 h2 (bel_alloc (RowKit.Below.refl _ _) O), h3, bel_alloc (bel_alloc (bel_alloc (RowKit.Below.refl _ _) _) _) _⟩
set_option maxRecDepth 20000 in
set_option maxHeartbeats 8000000 in
theorem handFits_law (x : Cf) (N : Option Addr) (nc : Nat) (K : Option Addr) (kc : Nat) (e : Ee) (wk : Int) (H : Option Addr) (hc : Nat) (h : List Bool) (W : World) (hC : CfAt W x N nc K kc) (hE : InE W e) (hh : HadAt W H hc h) :
    Calls Try.prog 8 #[.agg (cfc x N nc K kc), .agg (ecE e), .agg #[.int .i64 wk, .slice H h.length hc]] W fun q w' => q = .returned (.bool true) ∧ RowKit.Below W.heap.size W w' := by
  have HW := hid works34_any
  have HLC := hid (fun u (hu : RowKit.Below W.heap.size W u) => r14long_any x N nc K kc u (hC.below hu))
  have HOB := hid (fun u (hu : RowKit.Below W.heap.size W u) => bound34_any e u (hE.below hu))
  have HPK := hid (fun (hb : okb e.1 = true) (hl : longCf x = false) u (hu : RowKit.Below W.heap.size W u) => pick_any x N nc K kc e wk H hc h u (hC.below hu) (hE.below hu) (Sl.below hh hu) (okb_bd hb) (by have := okb_len hb; omega) (okb_len hb).2.2.2 (by have := (longCf_no hl).2; omega))
  have HPW := hid (fun (hb : okb e.1 = true) u (hu : RowKit.Below W.heap.size W u) => pendw_any e wk H hc h u (hE.below hu) (Sl.below hh hu) (okb_bd hb) (by have := okb_len hb; omega))
  have HJS := hid (fun (hb : okb e.1 = true) (hl : longCf x = false) u (hu : RowKit.Below W.heap.size W u) (j : Nat) (hj : j < e.1.ns.length) => show Calls _ _ _ _ _ from rjset_any x N nc K kc (e.1.ns.getD j []) u (hC.below hu) (by
    have e2 : e.1.ns.getD j [] = e.1.ns[j] := by simp [List.getD, hj]
    rw [e2]
    exact (okb_len hb).2.2.2 _ (List.getElem_mem hj)) (by have := (longCf_no hl).2; omega))
  have HRH := hid (fun u l => rhas_any (setJ x.T x.ws l) wk u (setJ_lt _ _ _))
  have HCA := hid (pick_cases e.1 x.T x.ws wk h)
  have HBO := hid (fun (hb : okb e.1 = true) => okb_bd hb)
  have HTX := hid (fun u (hu : RowKit.Below W.heap.size W u) (j : Nat) (hj : j < e.1.ns.length) => show ∃ b off, e.2.A = some ⟨b, off, none⟩ ∧ u.cell? ⟨b, off + j, none⟩ = some (.string (str (e.1.ns.getD j []))) by
    have e2 : e.1.ns.getD j [] = e.1.ns[j] := by simp [List.getD, hj]
    rw [e2]
    exact text_at (hE.below hu).1 j hj)
  have HBD := hid hE.2.1
  have HDN := hid hE.2.2
  have HHH := hid hh
  have hl1 := sl_len64 hE.1.1
  have hl2 := sl_len64 hE.2.1
  have hl3 := sl_len64 hE.2.2
  have hl4 := sl_len64 hh
  obtain ⟨⟨id, scE, ee, ms, bd, dn⟩, ⟨A1, ca, P, cb, D, cd⟩⟩ := e
  obtain ⟨sc, le, ag, ro, ou, T, ws⟩ := x
  simp only at HPK HPW HJS HRH HCA HBO HTX HBD HDN hl1 hl2 hl3
  clear hC hE hh
  simp only [ecE, cfc] at *
  generalize pickB ⟨id, scE, ee, ms, bd, dn⟩ T ws wk h = R at *
  generalize pndW ⟨id, scE, ee, ms, bd, dn⟩ h wk = PL at *
  generalize longCf ⟨sc, le, ag, ro, ou, T, ws⟩ = lc at *
  generalize hob : okb ⟨id, scE, ee, ms, bd, dn⟩ = ob at *
  clear hob
  obtain ⟨r1, r2, r3⟩ := R
  simp only at HPK HCA
  generalize hhn : h.length = hn at *
  have HHN := hid hhn
  clear hhn
  go_enter Try.func8, Try.ntmps8
  go_upto_region 1 with (fail)
  refine at_world (fun u => u.heap[W.heap.size]? = some (.cells #[.int .i64 sc, .int .i64 le, .int .i64 ag, .int .i64 ro, .int .i64 ou, .slice N T.length nc, .slice K ws.length kc] 25 (0, 0)) ∧ u.heap[W.heap.size + 1]? = some (.cells #[.int .i64 id, .int .i64 scE, .int .i64 ee, .slice A1 ms.length ca, .slice P bd.length cb, .slice D dn.length cd] 55 (0, 0)) ∧ u.heap[W.heap.size + 1 + 1]? = some (.cells #[.int .i64 wk, .slice H hn hc] 68 (0, 0)) ∧ RowKit.Below W.heap.size W u) (lay3 W _ _ _) ?_
  rintro w1 ⟨hq, hj, ho, hb⟩
  have HB0 := hid hb
  have HQ0 := hid hq
  have HJ0 := hid hj
  have HO0 := hid ho
  clear hq hj ho hb
  generalize W.heap.size + 1 + 1 = O at *
  generalize W.heap.size + 1 = J at *
  generalize hQ : W.heap.size = Q at HQ0
  clear hQ
  have hSU : ∀ U, RowKit.Below w1.heap.size w1 U → (U.cell? ⟨O, 0, none⟩ = some (.int .i64 wk) ∧ U.cell? ⟨O, 1, none⟩ = some (.slice H hn hc)) := fun U hU => two_cellsR (keep0 HO0.out hU)
  have hk0 : RowKit.Below w1.heap.size w1 w1.drew := below_drew (RowKit.Below.refl _ _)
  refine wp_region_held_drew (S := fun U => U.cell? ⟨O, 0, none⟩ = some (.int .i64 wk) ∧ U.cell? ⟨O, 1, none⟩ = some (.slice H hn hc)) (by kernel_rfl) (hSU _ hk0) (fun hHeld => ?_)
  have HB := hid (HB0.out.trans (hk0.mono HB0.out.size))
  have HQ := hid (keep0 HQ0.out hk0)
  have HJ := hid (keep0 HJ0.out hk0)
  clear hk0 HB0 HQ0 HJ0
  generalize w1.drew = k0 at *
  refine wpAnyH_take (i := 0) (v := ?_) rfl (by kernel_rfl) (by kernel_rfl) (by kernel_rfl) (fun _ _ _ h => h) (Or.inl ⟨by rfl, ?_⟩) (by assumption) ?_
  rotate_left
  focus
    intro U hU
    try dsimp only at hU
    go_simp
    try (with_reducible rfl)
  simp only [List.getElem_toArray, List.getElem_cons_succ, List.getElem_cons_zero, Act.put, List.setIfInBounds_toArray, List.set_cons_zero, List.set_cons_succ]
  refine wpAnyH_take (i := 1) (v := ?_) rfl (by kernel_rfl) (by kernel_rfl) (by kernel_rfl) (fun _ _ _ h => h) (Or.inl ⟨by rfl, ?_⟩) (by assumption) ?_
  rotate_left
  focus
    intro U hU
    try dsimp only at hU
    go_simp
    try (with_reducible rfl)
  simp only [List.getElem_toArray, List.getElem_cons_succ, List.getElem_cons_zero, Act.put, List.setIfInBounds_toArray, List.set_cons_zero, List.set_cons_succ]
  refine wpAnyH_take (i := 2) (v := ?_) rfl (by kernel_rfl) (by kernel_rfl) (by kernel_rfl) (fun _ _ _ h => h) (Or.inl ⟨by rfl, ?_⟩) (by assumption) ?_
  rotate_left
  focus
    intro U hU
    try dsimp only at hU
    go_simp
    try (with_reducible rfl)
  simp only [List.getElem_toArray, List.getElem_cons_succ, List.getElem_cons_zero, Act.put, List.setIfInBounds_toArray, List.set_cons_zero, List.set_cons_succ]
  refine wpAnyH_take (i := 3) (v := ?_) rfl (by kernel_rfl) (by kernel_rfl) (by kernel_rfl) (fun _ _ _ h => h) (Or.inl ⟨by rfl, ?_⟩) (by assumption) ?_
  rotate_left
  focus
    intro U hU
    try dsimp only at hU
    go_simp
    try (with_reducible rfl)
  simp only [List.getElem_toArray, List.getElem_cons_succ, List.getElem_cons_zero, Act.put, List.setIfInBounds_toArray, List.set_cons_zero, List.set_cons_succ]
  refine wpAnyH_take (i := 4) (v := ?_) rfl (by kernel_rfl) (by kernel_rfl) (by kernel_rfl) (fun _ _ _ h => h) (Or.inl ⟨by rfl, ?_⟩) (by assumption) ?_
  rotate_left
  focus
    intro U hU
    try dsimp only at hU
    go_simp
    try (with_reducible rfl)
  simp only [List.getElem_toArray, List.getElem_cons_succ, List.getElem_cons_zero, Act.put, List.setIfInBounds_toArray, List.set_cons_zero, List.set_cons_succ]
  refine wpAnyH_take (i := 5) (v := ?_) rfl (by kernel_rfl) (by kernel_rfl) (by kernel_rfl) (fun _ _ _ h => h) (Or.inl ⟨by rfl, ?_⟩) (by assumption) ?_
  rotate_left
  focus
    intro U hU
    try dsimp only at hU
    go_simp
    try (with_reducible rfl)
  simp only [List.getElem_toArray, List.getElem_cons_succ, List.getElem_cons_zero, Act.put, List.setIfInBounds_toArray, List.set_cons_zero, List.set_cons_succ]
  refine wpAnyH_done (by kernel_rfl) ?_ _
  clear hHeld hSU HO0
  obtain ⟨⟨p0, p1, p2, p3, p4, p5⟩, _⟩ := six_cells HJ.out
  obtain ⟨q0, q1, q2, q3, q4, q5, q6⟩ := seven_cellsJ HQ.out
  go_wp2_with fail
  refine (HLC.out _ HB.out).mono ?_
  rintro e w2 ⟨rfl, hb⟩
  have HB2 := hid (HB.out.trans (hb.mono HB.out.size))
  have HQ2 := hid (keep0 HQ.out hb)
  have HJ2 := hid (keep0 HJ.out hb)
  clear hb p0 p1 p2 p3 p4 p5 q0 q1 q2 q3 q4 q5 q6 HB HQ HJ HLC
  cases lc with
  | true =>
    go_wp2_with fail
    refine (HW.out _).mono ?_
    rintro e w3 ⟨rfl, hb⟩
    have HB3 := hid (HB2.out.trans (hb.mono HB2.out.size))
    clear hb
    go_wp2
    go_ret
    exact ⟨rfl, HB3.out⟩
  | false =>
    obtain ⟨⟨p0, p1, p2, p3, p4, p5⟩, _⟩ := six_cells HJ2.out
    go_wp2_with fail
    refine (HOB.out _ HB2.out).mono ?_
    rintro e w3 ⟨rfl, hb⟩
    have HB3 := hid (HB2.out.trans (hb.mono HB2.out.size))
    have HQ3 := hid (keep0 HQ2.out hb)
    have HJ3 := hid (keep0 HJ2.out hb)
    clear hb p0 p1 p2 p3 p4 p5 HB2 HQ2 HJ2 HOB
    cases ob with
    | false =>
      go_wp2_with fail
      refine (HW.out _).mono ?_
      rintro e w4 ⟨rfl, hb⟩
      have HB4 := hid (HB3.out.trans (hb.mono HB3.out.size))
      clear hb
      go_wp2
      go_ret
      exact ⟨rfl, HB4.out⟩
    | true =>
      have HPK2 := hid (HPK.out rfl trivial)
      have HPW2 := hid (HPW.out rfl)
      have HJS2 := hid (HJS.out rfl trivial)
      have HBO2 := hid (HBO.out rfl)
      clear HPK HPW HJS HBO
      obtain ⟨⟨p0, p1, p2, p3, p4, p5⟩, _⟩ := six_cells HJ3.out
      obtain ⟨q0, q1, q2, q3, q4, q5, q6⟩ := seven_cellsJ HQ3.out
      go_wp2_with fail
      refine (HPK2.out _ HB3.out).mono ?_
      rintro e w4 ⟨rfl, hb⟩
      have HB4 := hid (HB3.out.trans (hb.mono HB3.out.size))
      have HQ4 := hid (keep0 HQ3.out hb)
      have HJ4 := hid (keep0 HJ3.out hb)
      clear hb p0 p1 p2 p3 p4 p5 q0 q1 q2 q3 q4 q5 q6 HB3 HQ3 HJ3 HPK2
      have hca := HCA.out
      clear HCA
      simp only [Prod.mk.injEq] at hca
      rcases hca with ⟨rfl, rfl, rfl⟩ | ⟨j, ⟨rfl, rfl, rfl⟩, hpl, a1, a2, a3, a4⟩ | ⟨j, ⟨rfl, rfl, rfl⟩, a1, a2, a3, a4, a5, a6, a7⟩
      · go_wp2_with fail
        refine (HW.out _).mono ?_
        rintro e w5 ⟨rfl, hb⟩
        have HB5 := hid (HB4.out.trans (hb.mono HB4.out.size))
        clear hb
        go_wp2
        go_ret
        exact ⟨rfl, HB5.out⟩
      · subst hpl
        have i0 : ¬ (j : Int) < 0 := by omega
        have i1 : ¬ (j : Int) ≥ (ms.length : Int) := by omega
        have i2 : ¬ (j : Int) ≥ (bd.length : Int) := by omega
        have i1b : ¬ (ms.length : Int) ≤ (j : Int) := by omega
        have i2b : ¬ (bd.length : Int) ≤ (j : Int) := by omega
        have i3 : (j : Int) < (ms.length : Int) := by omega
        have i4 : (j : Int) < (bd.length : Int) := by omega
        have hSU0 := hid (fun U (hU : RowKit.Below w4.heap.size w4 U) => HTX.out U (HB4.out.trans (hU.mono HB4.out.size)) j a1)
        obtain ⟨b, off, hA, _⟩ := hSU0.out w4 (RowKit.Below.refl _ _)
        have sP := HBD.out.below HB4.out
        obtain ⟨bP, oP, hP9, _⟩ := sP.2.2.2 (by rw [icells_length]; omega)
        rw [hP9] at sP
        have cP := Sl.cell sP j a2
        rw [a3] at cP
        have HJS3 := hid (fun u hu => HJS2.out u hu j a1)
        have HRH3 := hid (fun u => HRH.out u (ms.getD j []))
        rw [a4] at HRH3
        have HCT := hid (fun U (hU : RowKit.Below w4.heap.size w4 U) => show U.cell? ⟨b, off + j, none⟩ = some (.string (str (ms.getD j []))) by
          obtain ⟨b2, off2, hA2, h9⟩ := hSU0.out U hU
          have e9 := hA.symm.trans hA2
          simp only [Option.some.injEq, Addr.mk.injEq] at e9
          obtain ⟨rfl, rfl, _⟩ := e9
          exact h9)
        subst hA
        subst hP9
        clear sP a1 a2 a3 a4 hSU0 HJS2 HRH HTX
        generalize setJ T ws (ms.getD j []) = sj at *
        generalize str (ms.getD j []) = st at *
        go_upto_region 7 with (fail)
        obtain ⟨⟨p0, p1, p2, p3, p4, p5⟩, _⟩ := six_cells HJ4.out
        go_upto_region 10 with (fail)
        clear p0 p1 p2 p3 p4 p5
        have hSU : ∀ U, RowKit.Below w4.heap.size w4 U → ((U.cell? ⟨Q, 0, none⟩ = some (.int .i64 sc) ∧ U.cell? ⟨Q, 1, none⟩ = some (.int .i64 le) ∧ U.cell? ⟨Q, 2, none⟩ = some (.int .i64 ag) ∧ U.cell? ⟨Q, 3, none⟩ = some (.int .i64 ro) ∧ U.cell? ⟨Q, 4, none⟩ = some (.int .i64 ou) ∧ U.cell? ⟨Q, 5, none⟩ = some (.slice N T.length nc) ∧ U.cell? ⟨Q, 6, none⟩ = some (.slice K ws.length kc)) ∧ (U.cell? ⟨J, 0, none⟩ = some (.int .i64 id) ∧ U.cell? ⟨J, 1, none⟩ = some (.int .i64 scE) ∧ U.cell? ⟨J, 2, none⟩ = some (.int .i64 ee) ∧ U.cell? ⟨J, 3, none⟩ = some (.slice (some ⟨b, off, none⟩) ms.length ca) ∧ U.cell? ⟨J, 4, none⟩ = some (.slice (some ⟨bP, oP, none⟩) bd.length cb) ∧ U.cell? ⟨J, 5, none⟩ = some (.slice D dn.length cd)) ∧ U.cell? ⟨b, off + j, none⟩ = some (.string st) ∧ U.cell? ⟨bP, oP + j, none⟩ = some (.int .i64 0)) := fun U hU => ⟨seven_cellsJ (keep0 HQ4.out hU), (six_cells (keep0 HJ4.out hU)).1, HCT.out U hU, cellb hU cP⟩
        have hk0 : RowKit.Below w4.heap.size w4 w4.drew := below_drew (RowKit.Below.refl _ _)
        refine wp_region_held_drew (S := fun U => (U.cell? ⟨Q, 0, none⟩ = some (.int .i64 sc) ∧ U.cell? ⟨Q, 1, none⟩ = some (.int .i64 le) ∧ U.cell? ⟨Q, 2, none⟩ = some (.int .i64 ag) ∧ U.cell? ⟨Q, 3, none⟩ = some (.int .i64 ro) ∧ U.cell? ⟨Q, 4, none⟩ = some (.int .i64 ou) ∧ U.cell? ⟨Q, 5, none⟩ = some (.slice N T.length nc) ∧ U.cell? ⟨Q, 6, none⟩ = some (.slice K ws.length kc)) ∧ (U.cell? ⟨J, 0, none⟩ = some (.int .i64 id) ∧ U.cell? ⟨J, 1, none⟩ = some (.int .i64 scE) ∧ U.cell? ⟨J, 2, none⟩ = some (.int .i64 ee) ∧ U.cell? ⟨J, 3, none⟩ = some (.slice (some ⟨b, off, none⟩) ms.length ca) ∧ U.cell? ⟨J, 4, none⟩ = some (.slice (some ⟨bP, oP, none⟩) bd.length cb) ∧ U.cell? ⟨J, 5, none⟩ = some (.slice D dn.length cd)) ∧ U.cell? ⟨b, off + j, none⟩ = some (.string st) ∧ U.cell? ⟨bP, oP + j, none⟩ = some (.int .i64 0)) (by kernel_rfl) (hSU _ hk0) (fun hHeld => ?_)
        generalize w4.drew = k0 at *
        refine wpAnyH_take (i := 0) (v := ?_) rfl (by kernel_rfl) (by kernel_rfl) (by kernel_rfl) (fun _ _ _ h => h) (Or.inl ⟨by rfl, ?_⟩) (by assumption) ?_
        rotate_left
        focus
          intro U hU
          try dsimp only at hU
          go_simp
          try (with_reducible rfl)
        simp only [List.getElem_toArray, List.getElem_cons_succ, List.getElem_cons_zero, Act.put, List.setIfInBounds_toArray, List.set_cons_zero, List.set_cons_succ]
        refine wpAnyH_take (i := 1) (v := ?_) rfl (by kernel_rfl) (by kernel_rfl) (by kernel_rfl) (fun _ _ _ h => h) (Or.inl ⟨by rfl, ?_⟩) (by assumption) ?_
        rotate_left
        focus
          intro U hU
          try dsimp only at hU
          go_simp
          try (with_reducible rfl)
        simp only [List.getElem_toArray, List.getElem_cons_succ, List.getElem_cons_zero, Act.put, List.setIfInBounds_toArray, List.set_cons_zero, List.set_cons_succ]
        refine wpAnyH_take (i := 2) (v := ?_) rfl (by kernel_rfl) (by kernel_rfl) (by kernel_rfl) (fun _ _ _ h => h) (Or.inl ⟨by rfl, ?_⟩) (by assumption) ?_
        rotate_left
        focus
          intro U hU
          try dsimp only at hU
          go_simp
          try (with_reducible rfl)
        simp only [List.getElem_toArray, List.getElem_cons_succ, List.getElem_cons_zero, Act.put, List.setIfInBounds_toArray, List.set_cons_zero, List.set_cons_succ]
        refine wpAnyH_take (i := 3) (v := ?_) rfl (by kernel_rfl) (by kernel_rfl) (by kernel_rfl) (fun _ _ _ h => h) (Or.inl ⟨by rfl, ?_⟩) (by assumption) ?_
        rotate_left
        focus
          intro U hU
          try dsimp only at hU
          go_simp
          try (with_reducible rfl)
        simp only [List.getElem_toArray, List.getElem_cons_succ, List.getElem_cons_zero, Act.put, List.setIfInBounds_toArray, List.set_cons_zero, List.set_cons_succ]
        refine wpAnyH_take (i := 4) (v := ?_) rfl (by kernel_rfl) (by kernel_rfl) (by kernel_rfl) (fun _ _ _ h => h) (Or.inl ⟨by rfl, ?_⟩) (by assumption) ?_
        rotate_left
        focus
          intro U hU
          try dsimp only at hU
          go_simp
          try (with_reducible rfl)
        simp only [List.getElem_toArray, List.getElem_cons_succ, List.getElem_cons_zero, Act.put, List.setIfInBounds_toArray, List.set_cons_zero, List.set_cons_succ]
        refine wpAnyH_take (i := 5) (v := ?_) rfl (by kernel_rfl) (by kernel_rfl) (by kernel_rfl) (fun _ _ _ h => h) (Or.inl ⟨by rfl, ?_⟩) (by assumption) ?_
        rotate_left
        focus
          intro U hU
          try dsimp only at hU
          go_simp
          try (with_reducible rfl)
        simp only [List.getElem_toArray, List.getElem_cons_succ, List.getElem_cons_zero, Act.put, List.setIfInBounds_toArray, List.set_cons_zero, List.set_cons_succ]
        refine wpAnyH_take (i := 6) (v := ?_) rfl (by kernel_rfl) (by kernel_rfl) (by kernel_rfl) (fun _ _ _ h => h) (Or.inl ⟨by rfl, ?_⟩) (by assumption) ?_
        rotate_left
        focus
          intro U hU
          try dsimp only at hU
          go_simp
          try (with_reducible rfl)
        simp only [List.getElem_toArray, List.getElem_cons_succ, List.getElem_cons_zero, Act.put, List.setIfInBounds_toArray, List.set_cons_zero, List.set_cons_succ]
        refine wpAnyH_take (i := 7) (v := ?_) rfl (by kernel_rfl) (by kernel_rfl) (by kernel_rfl) (fun _ _ _ h => h) (Or.inl ⟨by rfl, ?_⟩) (by assumption) ?_
        rotate_left
        focus
          intro U hU
          try dsimp only at hU
          go_simp
          try (with_reducible rfl)
        simp only [List.getElem_toArray, List.getElem_cons_succ, List.getElem_cons_zero, Act.put, List.setIfInBounds_toArray, List.set_cons_zero, List.set_cons_succ]
        refine wpAnyH_take (i := 8) (v := ?_) rfl (by kernel_rfl) (by kernel_rfl) (by kernel_rfl) (fun _ _ _ h => h) (Or.inl ⟨by rfl, ?_⟩) (by assumption) ?_
        rotate_left
        focus
          intro U hU
          try dsimp only at hU
          go_simp
          try (with_reducible rfl)
        simp only [List.getElem_toArray, List.getElem_cons_succ, List.getElem_cons_zero, Act.put, List.setIfInBounds_toArray, List.set_cons_zero, List.set_cons_succ]
        refine wpAnyH_take (i := 9) (v := ?_) rfl (by kernel_rfl) (by kernel_rfl) (by kernel_rfl) (fun _ _ _ h => h) (Or.inl ⟨by rfl, ?_⟩) (by assumption) ?_
        rotate_left
        focus
          intro U hU
          try dsimp only at hU
          go_simp
          try (with_reducible rfl)
        simp only [List.getElem_toArray, List.getElem_cons_succ, List.getElem_cons_zero, Act.put, List.setIfInBounds_toArray, List.set_cons_zero, List.set_cons_succ]
        refine wpAnyH_take (i := 10) (v := ?_) rfl (by kernel_rfl) (by kernel_rfl) (by kernel_rfl) (fun _ _ _ h => h) (Or.inl ⟨by rfl, ?_⟩) (by assumption) ?_
        rotate_left
        focus
          intro U hU
          try dsimp only at hU
          go_simp
          try (with_reducible rfl)
        simp only [List.getElem_toArray, List.getElem_cons_succ, List.getElem_cons_zero, Act.put, List.setIfInBounds_toArray, List.set_cons_zero, List.set_cons_succ]
        refine wpAnyH_take (i := 11) (v := ?_) rfl (by kernel_rfl) (by kernel_rfl) (by kernel_rfl) (fun _ _ _ h => h) (Or.inl ⟨by rfl, ?_⟩) (by assumption) ?_
        rotate_left
        focus
          intro U hU
          try dsimp only at hU
          go_simp
          try (with_reducible rfl)
        simp only [List.getElem_toArray, List.getElem_cons_succ, List.getElem_cons_zero, Act.put, List.setIfInBounds_toArray, List.set_cons_zero, List.set_cons_succ]
        refine wpAnyH_take (i := 12) (v := ?_) rfl (by kernel_rfl) (by kernel_rfl) (by kernel_rfl) (fun _ _ _ h => h) (Or.inl ⟨by rfl, ?_⟩) (by assumption) ?_
        rotate_left
        focus
          intro U hU
          try dsimp only at hU
          go_simp
          try (with_reducible rfl)
        simp only [List.getElem_toArray, List.getElem_cons_succ, List.getElem_cons_zero, Act.put, List.setIfInBounds_toArray, List.set_cons_zero, List.set_cons_succ]
        refine wpAnyH_take (i := 14) (v := ?_) rfl (by kernel_rfl) (by kernel_rfl) (by kernel_rfl) (fun _ _ _ h => h) (Or.inl ⟨by rfl, ?_⟩) (by assumption) ?_
        rotate_left
        focus
          intro U hU
          try dsimp only at hU
          go_simp
          try (with_reducible rfl)
        simp only [List.getElem_toArray, List.getElem_cons_succ, List.getElem_cons_zero, Act.put, List.setIfInBounds_toArray, List.set_cons_zero, List.set_cons_succ]
        refine wpAnyH_ready (rs := [13]) (by kernel_rfl) (by simp) ?_
        refine AllReadyH.cons rfl (fun K hK => ?_) AllReadyH.nil
        simp only [List.getElem_toArray, List.getElem_cons_succ, List.getElem_cons_zero]
        go_simp
        refine (HJS3.out k0 (HB4.out.trans (hk0.mono HB4.out.size))).mono ?_
        rintro q k1 ⟨rfl, hb1⟩
        have hk1 := hk0.trans (hb1.mono hk0.size)
        clear hb1
        go_wp2_with fail
        refine hK.out _ _ ?_ (fun hHeld2 => ?_)
        focus
          exact hSU _ hk1
        clear hHeld
        have hHeld := hHeld2
        clear hHeld2 hK K
        try simp only [List.getElem_toArray, List.getElem_cons_succ, List.getElem_cons_zero, Act.put, List.setIfInBounds_toArray, List.set_cons_zero, List.set_cons_succ]
        refine wpAnyH_ready (rs := [15]) (by kernel_rfl) (by simp) ?_
        refine AllReadyH.cons rfl (fun K hK => ?_) AllReadyH.nil
        simp only [List.getElem_toArray, List.getElem_cons_succ, List.getElem_cons_zero]
        go_simp
        refine (HRH3.out k1).mono ?_
        rintro q k2 ⟨rfl, rfl⟩
        go_wp2_with fail
        refine hK.out _ _ ?_ (fun hHeld2 => ?_)
        focus
          exact hSU _ hk1
        clear hHeld
        have hHeld := hHeld2
        clear hHeld2 hK K
        try simp only [List.getElem_toArray, List.getElem_cons_succ, List.getElem_cons_zero, Act.put, List.setIfInBounds_toArray, List.set_cons_zero, List.set_cons_succ]
        refine wpAnyH_take (i := 16) (v := ?_) rfl (by kernel_rfl) (by kernel_rfl) (by kernel_rfl) (fun _ _ _ h => h) (Or.inl ⟨by rfl, ?_⟩) (by assumption) ?_
        rotate_left
        focus
          intro U hU
          try dsimp only at hU
          go_simp
          try (with_reducible rfl)
        simp only [List.getElem_toArray, List.getElem_cons_succ, List.getElem_cons_zero, Act.put, List.setIfInBounds_toArray, List.set_cons_zero, List.set_cons_succ]
        refine wpAnyH_take (i := 17) (v := ?_) rfl (by kernel_rfl) (by kernel_rfl) (by kernel_rfl) (fun _ _ _ h => h) (Or.inl ⟨by rfl, ?_⟩) (by assumption) ?_
        rotate_left
        focus
          intro U hU
          try dsimp only at hU
          go_simp
          try (with_reducible rfl)
        simp only [List.getElem_toArray, List.getElem_cons_succ, List.getElem_cons_zero, Act.put, List.setIfInBounds_toArray, List.set_cons_zero, List.set_cons_succ]
        refine wpAnyH_take (i := 18) (v := ?_) rfl (by kernel_rfl) (by kernel_rfl) (by kernel_rfl) (fun _ _ _ h => h) (Or.inl ⟨by rfl, ?_⟩) (by assumption) ?_
        rotate_left
        focus
          intro U hU
          try dsimp only at hU
          go_simp
          try (with_reducible rfl)
        simp only [List.getElem_toArray, List.getElem_cons_succ, List.getElem_cons_zero, Act.put, List.setIfInBounds_toArray, List.set_cons_zero, List.set_cons_succ]
        refine wpAnyH_take (i := 19) (v := ?_) rfl (by kernel_rfl) (by kernel_rfl) (by kernel_rfl) (fun _ _ _ h => h) (Or.inl ⟨by rfl, ?_⟩) (by assumption) ?_
        rotate_left
        focus
          intro U hU
          try dsimp only at hU
          go_simp
          try (with_reducible rfl)
        simp only [List.getElem_toArray, List.getElem_cons_succ, List.getElem_cons_zero, Act.put, List.setIfInBounds_toArray, List.set_cons_zero, List.set_cons_succ]
        refine wpAnyH_take (i := 20) (v := ?_) rfl (by kernel_rfl) (by kernel_rfl) (by kernel_rfl) (fun _ _ _ h => h) (Or.inl ⟨by rfl, ?_⟩) (by assumption) ?_
        rotate_left
        focus
          intro U hU
          try dsimp only at hU
          go_simp
          try (with_reducible rfl)
        simp only [List.getElem_toArray, List.getElem_cons_succ, List.getElem_cons_zero, Act.put, List.setIfInBounds_toArray, List.set_cons_zero, List.set_cons_succ]
        refine wpAnyH_ready (rs := [21]) (by kernel_rfl) (by simp) ?_
        refine AllReadyH.cons rfl (fun K hK => ?_) AllReadyH.nil
        simp only [List.getElem_toArray, List.getElem_cons_succ, List.getElem_cons_zero]
        go_simp
        refine (HPW2.out k1 (HB4.out.trans (hk1.mono HB4.out.size))).mono ?_
        rintro q k2 ⟨A2, c2, rfl, _, hb1⟩
        have hk2 := hk1.trans (hb1.mono hk1.size)
        clear hb1
        go_wp2_with fail
        refine hK.out _ _ ?_ (fun hHeld2 => ?_)
        focus
          exact hSU _ hk2
        clear hHeld
        have hHeld := hHeld2
        clear hHeld2 hK K
        try simp only [List.getElem_toArray, List.getElem_cons_succ, List.getElem_cons_zero, Act.put, List.setIfInBounds_toArray, List.set_cons_zero, List.set_cons_succ]
        refine wpAnyH_take (i := 22) (v := ?_) rfl (by kernel_rfl) (by kernel_rfl) (by kernel_rfl) (fun _ _ _ h => h) (Or.inl ⟨by rfl, ?_⟩) (by assumption) ?_
        rotate_left
        focus
          intro U hU
          try dsimp only at hU
          go_simp
          try (with_reducible rfl)
        simp only [List.getElem_toArray, List.getElem_cons_succ, List.getElem_cons_zero, Act.put, List.setIfInBounds_toArray, List.set_cons_zero, List.set_cons_succ]
        refine wpAnyH_take (i := 23) (v := ?_) rfl (by kernel_rfl) (by kernel_rfl) (by kernel_rfl) (fun _ _ _ h => h) (Or.inl ⟨by rfl, ?_⟩) (by assumption) ?_
        rotate_left
        focus
          intro U hU
          try dsimp only at hU
          go_simp
          try (with_reducible rfl)
        simp only [List.getElem_toArray, List.getElem_cons_succ, List.getElem_cons_zero, Act.put, List.setIfInBounds_toArray, List.set_cons_zero, List.set_cons_succ]
        refine wpAnyH_take (i := 24) (v := ?_) rfl (by kernel_rfl) (by kernel_rfl) (by kernel_rfl) (fun _ _ _ h => h) (Or.inl ⟨by rfl, ?_⟩) (by assumption) ?_
        rotate_left
        focus
          intro U hU
          try dsimp only at hU
          go_simp
          try (with_reducible rfl)
        simp only [List.getElem_toArray, List.getElem_cons_succ, List.getElem_cons_zero, Act.put, List.setIfInBounds_toArray, List.set_cons_zero, List.set_cons_succ]
        refine wpAnyH_take (i := 25) (v := ?_) rfl (by kernel_rfl) (by kernel_rfl) (by kernel_rfl) (fun _ _ _ h => h) (Or.inl ⟨by rfl, ?_⟩) (by assumption) ?_
        rotate_left
        focus
          intro U hU
          try dsimp only at hU
          go_simp
          try (with_reducible rfl)
        simp only [List.getElem_toArray, List.getElem_cons_succ, List.getElem_cons_zero, Act.put, List.setIfInBounds_toArray, List.set_cons_zero, List.set_cons_succ]
        refine wpAnyH_ready (rs := [26]) (by kernel_rfl) (by simp) ?_
        refine AllReadyH.cons rfl (fun K hK => ?_) AllReadyH.nil
        simp only [List.getElem_toArray, List.getElem_cons_succ, List.getElem_cons_zero]
        go_simp
        refine (HW.out k2).mono ?_
        rintro q k3 ⟨rfl, hb1⟩
        have hk3 := hk2.trans (hb1.mono hk2.size)
        clear hb1
        go_wp2_with fail
        refine hK.out _ _ ?_ (fun hHeld2 => ?_)
        focus
          exact hSU _ hk3
        clear hHeld
        have hHeld := hHeld2
        clear hHeld2 hK K
        try simp only [List.getElem_toArray, List.getElem_cons_succ, List.getElem_cons_zero, Act.put, List.setIfInBounds_toArray, List.set_cons_zero, List.set_cons_succ]
        refine wpAnyH_take (i := 27) (v := ?_) rfl (by kernel_rfl) (by kernel_rfl) (by kernel_rfl) (fun _ _ _ h => h) (Or.inl ⟨by rfl, ?_⟩) (by assumption) ?_
        rotate_left
        focus
          intro U hU
          try dsimp only at hU
          go_simp
          try (with_reducible rfl)
        simp only [List.getElem_toArray, List.getElem_cons_succ, List.getElem_cons_zero, Act.put, List.setIfInBounds_toArray, List.set_cons_zero, List.set_cons_succ]
        refine wpAnyH_take (i := 28) (v := ?_) rfl (by kernel_rfl) (by kernel_rfl) (by kernel_rfl) (fun _ _ _ h => h) (Or.inl ⟨by rfl, ?_⟩) (by assumption) ?_
        rotate_left
        focus
          intro U hU
          try dsimp only at hU
          go_simp
          try (with_reducible rfl)
        simp only [List.getElem_toArray, List.getElem_cons_succ, List.getElem_cons_zero, Act.put, List.setIfInBounds_toArray, List.set_cons_zero, List.set_cons_succ]
        refine wpAnyH_done (by kernel_rfl) ?_ _
        go_wp2
        go_ret
        exact ⟨rfl, HB4.out.trans (hk3.mono HB4.out.size)⟩
      · have i0 : ¬ (j : Int) < 0 := by omega
        have i1 : ¬ (j : Int) ≥ (ms.length : Int) := by omega
        have i2 : ¬ (j : Int) ≥ (bd.length : Int) := by omega
        have i1b : ¬ (ms.length : Int) ≤ (j : Int) := by omega
        have i2b : ¬ (bd.length : Int) ≤ (j : Int) := by omega
        have i4 : (j : Int) < (bd.length : Int) := by omega
        have i5 : (j : Int) < (dn.length : Int) := by omega
        have hr := HBO2.out j
        have sP := HBD.out.below HB4.out
        obtain ⟨bP, oP, hP9, _⟩ := sP.2.2.2 (by rw [icells_length]; omega)
        rw [hP9] at sP
        have cP := Sl.cell sP j a2
        simp only at hr
        have hw0 : ∀ z : Int, 0 ≤ z ∧ z ≤ 64 → IntKind.i64.wrap z = z := fun z hz => by
          simp [IntKind.wrap, IntKind.bits, IntKind.signed]
          omega
        have hw : IntKind.i64.wrap (wk + 1) = bd.getD j 0 := by
          rw [← a4]
          exact hw0 _ hr
        clear hw0
        have sD := HDN.out.below HB4.out
        obtain ⟨bD, oD, hD9, _⟩ := sD.2.2.2 (by rw [blcells_length]; omega)
        rw [hD9] at sD
        have cD := Sl.blcell sD j a3
        rw [a6] at cD
        subst hP9
        subst hD9
        have HNB := hid a7
        clear sP sD a1 a2 a3 a4 a5 a6 a7 hr HTX HJS2 HPW2 HRH HBO2
        generalize bd.getD j 0 = z at *
        obtain ⟨⟨p0, p1, p2, p3, p4, p5⟩, _⟩ := six_cells HJ4.out
        by_cases hlt : j < hn
        · have hlt2 : (j : Int) < (hn : Int) := by omega
          have hjh : j < h.length := by rw [HHN.out]; exact hlt
          have hg : h.getD j false = false := by
            have h9 := HNB.out
            unfold notB at h9
            rw [decide_eq_true hjh, Bool.true_and] at h9
            exact h9
          have sH := Sl.below HHH.out HB4.out
          obtain ⟨bH, oH, hH9, _⟩ := sH.2.2.2 (by rw [blcells_length]; omega)
          rw [hH9] at sH
          have cH := Sl.blcell sH j hjh
          rw [hg] at cH
          subst hH9
          clear sH hg hjh
          go_wp2_with fail
          refine (HW.out _).mono ?_
          rintro e w5 ⟨rfl, hb⟩
          have HB5 := hid (HB4.out.trans (hb.mono HB4.out.size))
          clear hb p0 p1 p2 p3 p4 p5 cP cD cH
          go_wp2
          go_ret
          exact ⟨rfl, HB5.out⟩
        · have hlt2 : ¬ (j : Int) < (hn : Int) := by omega
          go_wp2_with fail
          refine (HW.out _).mono ?_
          rintro e w5 ⟨rfl, hb⟩
          have HB5 := hid (HB4.out.trans (hb.mono HB4.out.size))
          clear hb p0 p1 p2 p3 p4 p5 cP cD
          go_wp2
          go_ret
          exact ⟨rfl, HB5.out⟩
/-- What comes in. -/
theorem who_in {w : World} {a : Array Value} (hn : a.size = 2) (h : Rd Try.prog w 68 a.toList) : ∃ (wk : Int) (H : Option Addr) (hc : Nat) (l : List Bool), a = #[.int .i64 wk, .slice H l.length hc] ∧ HadAt w H hc l := by
  have hc : Try.prog.cellsOf 3 = 1 := by kernel_rfl
  have hc2 : Try.prog.cellsOf 53 = 1 := by kernel_rfl
  obtain ⟨_, hf⟩ := Rd.struct Try.underlying68 h
  have f0 : Rd Try.prog w 3 ((a.toList.drop 0).take (Try.prog.cellsOf 3)) := hf 0 _ rfl
  have f1 : Rd Try.prog w 53 ((a.toList.drop 1).take (Try.prog.cellsOf 53)) := hf 1 _ rfl
  rw [hc] at f0
  rw [hc2] at f1
  obtain ⟨k, e0, _⟩ := Rd.int Try.underlying3 f0
  obtain ⟨A, n, c, e1⟩ : ∃ A len cap, (a.toList.drop 1).take 1 = [.slice A len cap] := by
    rcases Rd.slice Try.underlying53 f1 with h1 | ⟨ad, len, cap, _, h1, _⟩
    · exact ⟨_, _, _, h1⟩
    · exact ⟨_, _, _, h1⟩
  rw [e1] at f1
  obtain ⟨l, h1, rfl⟩ := bools_inB f1
  refine ⟨k, A, c, l, ?_, h1⟩
  have hl : a.toList.length = 2 := by rw [Array.length_toList]; exact hn
  have he : a.toList = (#[.int .i64 k, .slice A l.length c] : Array Value).toList := by
    match ha : a.toList, hl, e0, e1 with
    | [u, v], _, e0, e1 =>
      simp at e0 e1
      rw [e0, e1]
  exact Array.toList_inj.1 he
theorem entry_in {w : World} {a : Array Value} (hn : a.size = 6) (h : Rd Try.prog w 55 a.toList) : ∃ x : Ee, a = ecE x ∧ InE w x := by
  obtain ⟨x, h1, h2⟩ := rd_entry hn h
  exact ⟨x, Array.toList_inj.1 h1, h2⟩
end Go.Proofs.Ytgakobolhmdnnaa
