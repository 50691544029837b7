/- The document's Round; ProbeRounds: the law. -/
import Derived.Test.YtgakobolhmdnnaaGreatPbP
import Derived.Test.YtgakobolhmdnnaaGreatDwP
import Derived.Deep.RegionHeld3
namespace Go.Proofs.YtgakobolhmdnnaaGreat
open Go.RowKit Go.Sort
set_option linter.unusedVariables false
set_option linter.unusedSimpArgs false

theorem rndL_le (x : Cf) (e : En) (l : List Nat) : (rndL x e l).length ≤ 100 := by
  unfold rndL
  rw [pk_len]
  have : (elems (workS x e)).length ≤ 64 := by rw [elems_def]; exact elemsU_len _ 64
  omega
set_option maxRecDepth 20000 in
set_option maxHeartbeats 4000000 in
theorem rround33_any (x : Cf) (N : Option Addr) (nc : Nat) (K : Option Addr) (kc : Nat) (e : Ee) (A9 : Option Addr) (c9 : Nat) (l : List Nat) (W : World) (hC : CfAt W x N nc K kc) (hE : InE W e) (hl : e.1.ns.length ≤ 1000 ∧ e.1.bd.length ≤ 1000 ∧ e.1.dn.length ≤ 1000) (hs : ∀ s ∈ e.1.ns, s.length ≤ 1000) (hw : x.ws.length ≤ 1000) (hA : Sl W 1 A9 l.length c9 (ucells l)) (hll : l.length ≤ 1000) (hu : ∀ y ∈ l, y < 18446744073709551616) :
    Calls Tryz.prog 10 #[.slice A9 l.length c9, .agg (cfc x N nc K kc), .agg (ecE e)] W fun q w' => ∃ A' c' A2 c2, q = .returned (.tuple #[.slice A' (rndL x e.1 l).length c', .slice A2 (rndT x e.1 l).length c2]) ∧ Sl w' 1 A' (rndL x e.1 l).length c' (icells .i64 (rndL x e.1 l)) ∧ Sl w' 1 A2 (rndT x e.1 l).length c2 (ucells (rndT x e.1 l)) ∧ RowKit.Below W.heap.size W w' := by
  have hol := openB_le e.1
  have hnl := needsL_len e.1
  have HOP := hid (fun u (hu : RowKit.Below W.heap.size W u) => (ropen33_any e u (hE.below hu) hl).mono fun q w' ⟨A', c', h1, h2, h3⟩ => show ∃ A' c', q = Ending.returned (.slice A' (openB e.1).length c') ∧ TxJ w' A' c' (needsL e.1) ∧ RowKit.Below u.heap.size u w' from ⟨A', c', by rw [← hnl]; exact h1, ⟨h2, fun s h => by have := hs s (needsL_mem h); unfold maxLen; omega⟩, h3⟩)
  have HJA := hid (fun u (hu : RowKit.Below W.heap.size W u) A c (hX : TxJ u A c (needsL e.1)) => show Calls Tryz.prog 15 #[.agg (cfc x N nc K kc), .slice A (openB e.1).length c] u fun q w' => q = .returned (.int .u64 (workS x e.1 : Nat)) ∧ RowKit.Below u.heap.size u w' by
    have h9 := rjany_any x N nc K kc A c (needsL e.1) u (hC.below hu) hX (by omega) (fun s h => hs s (needsL_mem h)) hw
    rw [hnl] at h9
    have h8 : orK x.T x.ws (needsL e.1) (openB e.1).length = workS x e.1 := by unfold workS; rw [hnl]
    rw [h8] at h9
    exact h9)
  have HSM := hid (fun u (hb : RowKit.Below W.heap.size W u) => show Calls Tryz.prog 30 #[.slice A9 l.length c9, .int .u64 (workS x e.1 : Int), .int .i64 (2 * ((openB e.1).length : Int))] u fun q w' => ∃ A1 c1 A2 c2, q = .returned (.tuple #[.slice A1 (rndL x e.1 l).length c1, .slice A2 (rndT x e.1 l).length c2]) ∧ w'.ownsRow u.heap.size 3 1 (.slice A1 (rndL x e.1 l).length c1) (rndL x e.1 l).length (icells .i64 (rndL x e.1 l)) ∧ Sl w' 1 A2 (rndT x e.1 l).length c2 (ucells (rndT x e.1 l)) ∧ Fro A9 A2 ∧ RowKit.Below u.heap.size u w' from rsome_any A9 l.length c9 l (workS x e.1) (2 * ((openB e.1).length : Int)) u (hA.below hb) hll hu (workS_lt _ _) (by omega))
  have hw2 : IntKind.i64.wrap (2 * ((openB e.1).length : Int)) = 2 * ((openB e.1).length : Int) := by
    simp [IntKind.wrap, IntKind.bits, IntKind.signed]
    omega
  obtain ⟨⟨id, scE, ee, ms, bd, dn⟩, ⟨A1, ca, P, cb, D, cd⟩⟩ := e
  obtain ⟨sc, le, ag, ro, ou, T, ws⟩ := x
  simp only at HOP HJA HSM hw2 ⊢
  clear hC hE hs hw hl hA hll hu hol hnl
  simp only [ecE, cfc] at *
  generalize rndL ⟨sc, le, ag, ro, ou, T, ws⟩ ⟨id, scE, ee, ms, bd, dn⟩ l = RL at *
  generalize rndT ⟨sc, le, ag, ro, ou, T, ws⟩ ⟨id, scE, ee, ms, bd, dn⟩ l = RT at *
  generalize workS ⟨sc, le, ag, ro, ou, T, ws⟩ ⟨id, scE, ee, ms, bd, dn⟩ = sW at *
  generalize needsL ⟨id, scE, ee, ms, bd, dn⟩ = NL at *
  generalize openB ⟨id, scE, ee, ms, bd, dn⟩ = L0 at *
  generalize l.length = ln at *
  go_enter Tryz.func10, Tryz.ntmps10
  go_upto_region 1 with (fail)
  refine at_world (fun u => u.heap[W.heap.size]? = some (.cells #[.int .i64 sc, .int .i64 le, .int .i64 ag, .int .i64 ro, .int .i64 ou, .slice N T.length nc, .slice K ws.length kc] 25 (0, 0)) ∧ u.heap[W.heap.size + 1]? = some (.cells #[.int .i64 id, .int .i64 scE, .int .i64 ee, .slice A1 ms.length ca, .slice P bd.length cb, .slice D dn.length cd] 29 (0, 0)) ∧ RowKit.Below W.heap.size W u) (lay2 W _ _) ?_
  rintro w1 ⟨hq, hj, hb⟩
  have HB := hid hb
  have HQ := hid hq
  have HJ := hid hj
  clear hq hj hb
  generalize W.heap.size + 1 = J at *
  generalize hQ : W.heap.size = Q at HQ
  clear hQ
  have hS : ∀ U, RowKit.Below w1.heap.size w1 U → (((U.cell? ⟨Q, 0, none⟩ = some (.int .i64 sc) ∧ U.cell? ⟨Q, 1, none⟩ = some (.int .i64 le) ∧ U.cell? ⟨Q, 2, none⟩ = some (.int .i64 ag) ∧ U.cell? ⟨Q, 3, none⟩ = some (.int .i64 ro) ∧ U.cell? ⟨Q, 4, none⟩ = some (.int .i64 ou) ∧ U.cell? ⟨Q, 5, none⟩ = some (.slice N T.length nc) ∧ U.cell? ⟨Q, 6, none⟩ = some (.slice K ws.length kc)) ∧ (U.cell? ⟨J, 0, none⟩ = some (.int .i64 id) ∧ U.cell? ⟨J, 1, none⟩ = some (.int .i64 scE) ∧ U.cell? ⟨J, 2, none⟩ = some (.int .i64 ee) ∧ U.cell? ⟨J, 3, none⟩ = some (.slice A1 ms.length ca) ∧ U.cell? ⟨J, 4, none⟩ = some (.slice P bd.length cb) ∧ U.cell? ⟨J, 5, none⟩ = some (.slice D dn.length cd))) ∧ RowKit.Below w1.heap.size w1 U) := fun U hU => ⟨⟨seven_cellsJ (keep0 HQ.out hU), (six_cells (keep0 HJ.out hU)).1⟩, hU⟩
  have hu0 : RowKit.Below w1.heap.size w1 w1.drew := below_drew (RowKit.Below.refl _ _)
  have HU := hid (fun U (h : RowKit.Below w1.heap.size w1 U) => HB.out.trans (h.mono HB.out.size))
  refine wp_region_held_drew (S := fun U => ((U.cell? ⟨Q, 0, none⟩ = some (.int .i64 sc) ∧ U.cell? ⟨Q, 1, none⟩ = some (.int .i64 le) ∧ U.cell? ⟨Q, 2, none⟩ = some (.int .i64 ag) ∧ U.cell? ⟨Q, 3, none⟩ = some (.int .i64 ro) ∧ U.cell? ⟨Q, 4, none⟩ = some (.int .i64 ou) ∧ U.cell? ⟨Q, 5, none⟩ = some (.slice N T.length nc) ∧ U.cell? ⟨Q, 6, none⟩ = some (.slice K ws.length kc)) ∧ (U.cell? ⟨J, 0, none⟩ = some (.int .i64 id) ∧ U.cell? ⟨J, 1, none⟩ = some (.int .i64 scE) ∧ U.cell? ⟨J, 2, none⟩ = some (.int .i64 ee) ∧ U.cell? ⟨J, 3, none⟩ = some (.slice A1 ms.length ca) ∧ U.cell? ⟨J, 4, none⟩ = some (.slice P bd.length cb) ∧ U.cell? ⟨J, 5, none⟩ = some (.slice D dn.length cd))) ∧ RowKit.Below w1.heap.size w1 U) (by kernel_rfl) (hS _ hu0) (fun hHeld => ?_)
  generalize w1.drew = u0 at *
  refine wpAnyH_take (i := 0) (v := ?_) rfl (by kernel_rfl) (by kernel_rfl) (by kernel_rfl) (fun _ _ _ h => h) (Or.inl ⟨by rfl, ?_⟩) (by assumption) ?_
  rotate_left
  focus
    intro U hU
    try dsimp only at hU
    go_simp
    try (with_reducible rfl)
  simp only [List.getElem_toArray, List.getElem_cons_succ, List.getElem_cons_zero, Act.put, List.setIfInBounds_toArray, List.set_cons_zero, List.set_cons_succ]
  refine wpAnyH_take (i := 1) (v := ?_) rfl (by kernel_rfl) (by kernel_rfl) (by kernel_rfl) (fun _ _ _ h => h) (Or.inl ⟨by rfl, ?_⟩) (by assumption) ?_
  rotate_left
  focus
    intro U hU
    try dsimp only at hU
    go_simp
    try (with_reducible rfl)
  simp only [List.getElem_toArray, List.getElem_cons_succ, List.getElem_cons_zero, Act.put, List.setIfInBounds_toArray, List.set_cons_zero, List.set_cons_succ]
  refine wpAnyH_take (i := 2) (v := ?_) rfl (by kernel_rfl) (by kernel_rfl) (by kernel_rfl) (fun _ _ _ h => h) (Or.inl ⟨by rfl, ?_⟩) (by assumption) ?_
  rotate_left
  focus
    intro U hU
    try dsimp only at hU
    go_simp
    try (with_reducible rfl)
  simp only [List.getElem_toArray, List.getElem_cons_succ, List.getElem_cons_zero, Act.put, List.setIfInBounds_toArray, List.set_cons_zero, List.set_cons_succ]
  refine wpAnyH_take (i := 5) (v := ?_) rfl (by kernel_rfl) (by kernel_rfl) (by kernel_rfl) (fun _ _ _ h => h) (Or.inl ⟨by rfl, ?_⟩) (by assumption) ?_
  rotate_left
  focus
    intro U hU
    try dsimp only at hU
    go_simp
    try (with_reducible rfl)
  simp only [List.getElem_toArray, List.getElem_cons_succ, List.getElem_cons_zero, Act.put, List.setIfInBounds_toArray, List.set_cons_zero, List.set_cons_succ]
  refine wpAnyH_ready (rs := [3]) (by kernel_rfl) (by simp) ?_
  refine AllReadyH.cons rfl (fun K hK => ?_) AllReadyH.nil
  simp only [List.getElem_toArray, List.getElem_cons_succ, List.getElem_cons_zero]
  go_simp
  refine (HOP.out _ (HU.out _ hu0)).mono ?_
  rintro q u1 ⟨A3, c3, rfl, hX3, hb1⟩
  have hu1 : RowKit.Below w1.heap.size w1 u1 := hu0.trans (hb1.mono hu0.size)
  clear hb1
  go_wp2_with fail
  refine hK.out _ _ ?_ (fun hHeld2 => ?_)
  focus
    exact hS _ (by with_reducible assumption)
  clear hHeld
  have hHeld := hHeld2
  clear hHeld2 hK K
  try simp only [List.getElem_toArray, List.getElem_cons_succ, List.getElem_cons_zero, Act.put, List.setIfInBounds_toArray, List.set_cons_zero, List.set_cons_succ]
  refine wpAnyH_ready (rs := [4]) (by kernel_rfl) (by simp) ?_
  refine AllReadyH.cons rfl (fun K hK => ?_) AllReadyH.nil
  simp only [List.getElem_toArray, List.getElem_cons_succ, List.getElem_cons_zero]
  go_simp
  refine (HJA.out _ (HU.out _ hu1) _ _ hX3).mono ?_
  rintro q u2 ⟨rfl, hb2⟩
  have hu2 : RowKit.Below w1.heap.size w1 u2 := hu1.trans (hb2.mono hu1.size)
  clear hb2
  go_wp2_with fail
  refine hK.out _ _ ?_ (fun hHeld2 => ?_)
  focus
    exact hS _ (by with_reducible assumption)
  clear hHeld
  have hHeld := hHeld2
  clear hHeld2 hK K
  try simp only [List.getElem_toArray, List.getElem_cons_succ, List.getElem_cons_zero, Act.put, List.setIfInBounds_toArray, List.set_cons_zero, List.set_cons_succ]
  refine wpAnyH_ready (rs := [6]) (by kernel_rfl) (by simp) ?_
  refine AllReadyH.cons rfl (fun K hK => ?_) AllReadyH.nil
  simp only [List.getElem_toArray, List.getElem_cons_succ, List.getElem_cons_zero]
  go_simp
  refine (HOP.out _ (HU.out _ hu2)).mono ?_
  rintro q u3 ⟨A4, c4, rfl, _, hb3⟩
  have hu3 : RowKit.Below w1.heap.size w1 u3 := hu2.trans (hb3.mono hu2.size)
  clear hb3
  go_wp2_with fail
  refine hK.out _ _ ?_ (fun hHeld2 => ?_)
  focus
    exact hS _ (by with_reducible assumption)
  clear hHeld
  have hHeld := hHeld2
  clear hHeld2 hK K
  try simp only [List.getElem_toArray, List.getElem_cons_succ, List.getElem_cons_zero, Act.put, List.setIfInBounds_toArray, List.set_cons_zero, List.set_cons_succ]
  refine wpAnyH_take (i := 7) (v := ?_) rfl (by kernel_rfl) (by kernel_rfl) (by kernel_rfl) (fun _ _ _ h => h) (Or.inl ⟨by rfl, ?_⟩) (by assumption) ?_
  rotate_left
  focus
    intro U hU
    try dsimp only at hU
    go_simp
    try (with_reducible rfl)
  simp only [List.getElem_toArray, List.getElem_cons_succ, List.getElem_cons_zero, Act.put, List.setIfInBounds_toArray, List.set_cons_zero, List.set_cons_succ]
  refine wpAnyH_take (i := 8) (v := ?_) rfl (by kernel_rfl) (by kernel_rfl) (by kernel_rfl) (fun _ _ _ h => h) (Or.inl ⟨by rfl, ?_⟩) (by assumption) ?_
  rotate_left
  focus
    intro U hU
    try dsimp only at hU
    go_simp
    try (with_reducible rfl)
  simp only [List.getElem_toArray, List.getElem_cons_succ, List.getElem_cons_zero, Act.put, List.setIfInBounds_toArray, List.set_cons_zero, List.set_cons_succ]
  refine wpAnyH_ready (rs := [9]) (by kernel_rfl) (by simp) ?_
  refine AllReadyH.cons rfl (fun K hK => ?_) AllReadyH.nil
  simp only [List.getElem_toArray, List.getElem_cons_succ, List.getElem_cons_zero]
  go_simp
  refine (HSM.out _ (HU.out _ hu3)).mono ?_
  rintro q u4 ⟨A5, c5, A6, c6, rfl, ho5, hs6, _, hb4⟩
  have hu4 : RowKit.Below w1.heap.size w1 u4 := hu3.trans (hb4.mono hu3.size)
  clear hb4
  go_wp2_with fail
  refine hK.out _ _ ?_ (fun hHeld2 => ?_)
  focus
    exact hS _ (by with_reducible assumption)
  clear hHeld
  have hHeld := hHeld2
  clear hHeld2 hK K
  try simp only [List.getElem_toArray, List.getElem_cons_succ, List.getElem_cons_zero, Act.put, List.setIfInBounds_toArray, List.set_cons_zero, List.set_cons_succ]
  refine wpAnyH_take (i := 10) (v := ?_) rfl (by kernel_rfl) (by kernel_rfl) (by kernel_rfl) (fun _ _ _ h => h) (Or.inl ⟨by rfl, ?_⟩) (by assumption) ?_
  rotate_left
  focus
    intro U hU
    try dsimp only at hU
    go_simp
    try (with_reducible rfl)
  simp only [List.getElem_toArray, List.getElem_cons_succ, List.getElem_cons_zero, Act.put, List.setIfInBounds_toArray, List.set_cons_zero, List.set_cons_succ]
  refine wpAnyH_take (i := 11) (v := ?_) rfl (by kernel_rfl) (by kernel_rfl) (by kernel_rfl) (fun _ _ _ h => h) (Or.inl ⟨by rfl, ?_⟩) (by assumption) ?_
  rotate_left
  focus
    intro U hU
    try dsimp only at hU
    go_simp
    try (with_reducible rfl)
  simp only [List.getElem_toArray, List.getElem_cons_succ, List.getElem_cons_zero, Act.put, List.setIfInBounds_toArray, List.set_cons_zero, List.set_cons_succ]
  refine wpAnyH_take (i := 12) (v := ?_) rfl (by kernel_rfl) (by kernel_rfl) (by kernel_rfl) (fun _ _ _ h => h) (Or.inl ⟨by rfl, ?_⟩) (by assumption) ?_
  rotate_left
  focus
    intro U hU
    try dsimp only at hU
    go_simp
    try (with_reducible rfl)
  simp only [List.getElem_toArray, List.getElem_cons_succ, List.getElem_cons_zero, Act.put, List.setIfInBounds_toArray, List.set_cons_zero, List.set_cons_succ]
  refine wpAnyH_take (i := 13) (v := ?_) rfl (by kernel_rfl) (by kernel_rfl) (by kernel_rfl) (fun _ _ _ h => h) (Or.inl ⟨by rfl, ?_⟩) (by assumption) ?_
  rotate_left
  focus
    intro U hU
    try dsimp only at hU
    go_simp
    try (with_reducible rfl)
  simp only [List.getElem_toArray, List.getElem_cons_succ, List.getElem_cons_zero, Act.put, List.setIfInBounds_toArray, List.set_cons_zero, List.set_cons_succ]
  refine wpAnyH_done (by kernel_rfl) ?_ _
  clear hHeld hS
  go_wp2
  exact bodyPost_ret (v := .tuple #[.slice A5 RL.length c5, .slice A6 RT.length c6]) (by simp [results, Tryz.results10, go_sem]) rfl ⟨A5, c5, A6, c6, rfl, sl_own ho5, hs6, HU.out _ hu4⟩

theorem told_ex (e : En) : toldL e [-1, 63, 64, 0] = toldL e [63, 0] := rfl
set_option maxRecDepth 20000 in
set_option maxHeartbeats 16000000 in
theorem probeRounds_law (x : Cf) (N : Option Addr) (nc : Nat) (K : Option Addr) (kc : Nat) (e : Ee) (A9 : Option Addr) (c9 : Nat) (l : List Nat) (W : World) (hC : CfAt W x N nc K kc) (hE : InE W e) (hA : Sl W 1 A9 l.length c9 (ucells l)) (hu : ∀ y ∈ l, y < 18446744073709551616) :
    Calls Tryz.prog 3 #[.agg (cfc x N nc K kc), .agg (ecE e), .slice A9 l.length c9] W fun q w' => q = .returned (.bool true) ∧ RowKit.Below W.heap.size W w' := by
  have HW := hid works33_any
  have HLC := hid (fun u (hu : RowKit.Below W.heap.size W u) => r14long_any x N nc K kc u (hC.below hu))
  have HLB := hid (fun u (hu : RowKit.Below W.heap.size W u) (B : Option Addr) (hB : Sl u 6 B 1 1 (gcells ebl [e])) => r20long_any B 1 [e] u ⟨hB, fun y hy => by obtain rfl := List.mem_singleton.1 hy; exact hE.below hu⟩)
  have hsm : longBk [e.1] = false → (e.1.ns.length ≤ 1000 ∧ e.1.bd.length ≤ 1000 ∧ e.1.dn.length ≤ 1000) ∧ ∀ s ∈ e.1.ns, s.length ≤ 1000 := fun h9 => by
    obtain ⟨h1, h2⟩ := longBk_sm (xs := [e]) (by simpa using h9)
    obtain ⟨h3, h4, h5⟩ := h2 _ (List.mem_singleton.2 rfl)
    obtain ⟨h6, h7⟩ := longB_no h5
    exact ⟨by omega, fun s hs => by have := h6 s hs; omega⟩
  have hol := openB_le e.1
  have hnl := needsL_len e.1
  have HNW := hid (fun u (hb : RowKit.Below W.heap.size W u) (hl : l.length ≤ 100) => newG A9 l.length c9 l u (hA.below hb) (by omega))
  have HRD := hid (fun (hb : longBk [e.1] = false) (hl : longCf x = false) (hll : l.length ≤ 100) u (hu9 : RowKit.Below W.heap.size W u) TT G E hT hG => roundT_any x N nc K kc e TT G E l u (hC.below hu9) (hE.below hu9) (hsm hb).1 (hsm hb).2 (by have := (longCf_no hl).2; omega) hT hG (by omega) hu)
  have HRR := hid (fun (hb : longBk [e.1] = false) (hl : longCf x = false) (hll : l.length ≤ 100) u (hu9 : RowKit.Below W.heap.size W u) => rround33_any x N nc K kc e A9 c9 l u (hC.below hu9) (hE.below hu9) (hsm hb).1 (hsm hb).2 (by have := (longCf_no hl).2; omega) (hA.below hu9) (by omega) hu)
  have HPW := hid (fun (hb : longBk [e.1] = false) (hl : longCf x = false) u (hu9 : RowKit.Below W.heap.size W u) => pbw_any x N nc K kc e u (hC.below hu9) (hE.below hu9) (hsm hb).1 (hsm hb).2 (by have := (longCf_no hl).2; omega))
  have HOP := hid (fun (hb : longBk [e.1] = false) u (hu : RowKit.Below W.heap.size W u) => (ropen33_any e u (hE.below hu) (hsm hb).1).mono fun q w' ⟨A', c', h1, h2, h3⟩ => show ∃ A' c', q = Ending.returned (.slice A' (openB e.1).length c') ∧ TxJ w' A' c' (needsL e.1) ∧ RowKit.Below u.heap.size u w' from ⟨A', c', by rw [← hnl]; exact h1, ⟨h2, fun s h => by have := (hsm hb).2 s (needsL_mem h); unfold maxLen; omega⟩, h3⟩)
  have HJA := hid (fun (hb : longBk [e.1] = false) (hl : longCf x = false) u (hu : RowKit.Below W.heap.size W u) A c (hX : TxJ u A c (needsL e.1)) => show Calls Tryz.prog 15 #[.agg (cfc x N nc K kc), .slice A (openB e.1).length c] u fun q w' => q = .returned (.int .u64 (workS x e.1 : Nat)) ∧ RowKit.Below u.heap.size u w' by
    have h9 := rjany_any x N nc K kc A c (needsL e.1) u (hC.below hu) hX (by have := (hsm hb).1; omega) (fun s h => (hsm hb).2 s (needsL_mem h)) (by have := (longCf_no hl).2; omega)
    rw [hnl] at h9
    have h8 : orK x.T x.ws (needsL e.1) (openB e.1).length = workS x e.1 := by unfold workS; rw [hnl]
    rw [h8] at h9
    exact h9)
  have hrl := rndL_le x e.1 l
  have hrt : l.length ≤ 100 → (rndT x e.1 l).length ≤ 1000 := fun h => by
    have h9 : ∀ (k : Nat) (l : List Nat) (s : List Int), (pk k l s).2.length ≤ l.length := by
      intro k
      induction k with
      | zero => intro l s; rw [pk_zero]; exact Nat.le_refl _
      | succ k ih =>
        intro l s
        by_cases h0 : s.length = 0
        · rw [pk, if_pos h0]
          exact Nat.le_refl _
        · rw [pk_step _ _ _ h0]
          exact Nat.le_trans (ih _ _) (by rw [List.length_tail]; omega)
    have := h9 (2 * ((openB e.1).length : Int)).toNat l (elems (workS x e.1))
    unfold rndT
    omega
  have HTO := hid (fun u A c (h : Sl u 1 A (rndL x e.1 l).length c (icells .i64 (rndL x e.1 l))) => And.intro (told_any e A c (rndL x e.1 l) u h (by omega)) (rtold_any e A c (rndL x e.1 l) u h (by omega)))
  have HTP := hid (fun u A (h : Sl u 1 A 4 4 (icells .i64 [-1, 63, 64, 0])) => show Calls Tryz.prog 18 #[.agg (ecE e), .slice A 4 4] u fun q w' => ∃ A' c', q = .returned (.slice A' (toldL e.1 [63, 0]).length c') ∧ Sl w' 5 A' (toldL e.1 [63, 0]).length c' (gcells ocl (toldL e.1 [63, 0])) ∧ RowKit.Below u.heap.size u w' from told_ex e.1 ▸ told_any e A 4 [-1, 63, 64, 0] u h (by simp))
  have HTQ := hid (fun u A (h : Sl u 1 A 2 2 (icells .i64 [63, 0])) => show Calls Tryz.prog 19 #[.agg (ecE e), .slice A 2 2] u fun q w' => ∃ A' c', q = .returned (.slice A' (toldL e.1 [63, 0]).length c') ∧ Sl w' 5 A' (toldL e.1 [63, 0]).length c' (gcells ocl (toldL e.1 [63, 0])) ∧ RowKit.Below u.heap.size u w' from rtold_any e A 2 [63, 0] u h (by simp))
  have hns := sl_len64 hE.1.1
  have hl4 := sl_len64 hA
  obtain ⟨⟨id, scE, ee, ms, bd, dn⟩, ⟨A1, ca, P, cb, D, cd⟩⟩ := e
  obtain ⟨sc, le, ag, ro, ou, T, ws⟩ := x
  simp only at HNW HRD HRR HPW HOP HJA HTO HTP HTQ hrl hrt hns hol hnl
  clear hC hE hA hu hsm hol hnl
  simp only [ecE, cfc, List.map_cons, List.map_nil, List.length_singleton] at *
  generalize toldL ⟨id, scE, ee, ms, bd, dn⟩ [63, 0] = OE at *
  generalize toldL ⟨id, scE, ee, ms, bd, dn⟩ (rndL ⟨sc, le, ag, ro, ou, T, ws⟩ ⟨id, scE, ee, ms, bd, dn⟩ l) = OL at *
  generalize rndL ⟨sc, le, ag, ro, ou, T, ws⟩ ⟨id, scE, ee, ms, bd, dn⟩ l = RL at *
  generalize rndT ⟨sc, le, ag, ro, ou, T, ws⟩ ⟨id, scE, ee, ms, bd, dn⟩ l = RT at *
  generalize workS ⟨sc, le, ag, ro, ou, T, ws⟩ ⟨id, scE, ee, ms, bd, dn⟩ = sW at *
  generalize needsL ⟨id, scE, ee, ms, bd, dn⟩ = NL at *
  generalize openB ⟨id, scE, ee, ms, bd, dn⟩ = L0 at *
  generalize longCf ⟨sc, le, ag, ro, ou, T, ws⟩ = lc at *
  generalize longBk [⟨id, scE, ee, ms, bd, dn⟩] = lb at *
  generalize l.length = ln at *
  go_enter Tryz.func3, Tryz.ntmps3
  go_upto_region 1 with (fail)
  refine at_world (fun u => u.heap[W.heap.size]? = some (.cells #[.int .i64 sc, .int .i64 le, .int .i64 ag, .int .i64 ro, .int .i64 ou, .slice N T.length nc, .slice K ws.length kc] 25 (0, 0)) ∧ u.heap[W.heap.size + 1]? = some (.cells #[.int .i64 id, .int .i64 scE, .int .i64 ee, .slice A1 ms.length ca, .slice P bd.length cb, .slice D dn.length cd] 29 (0, 0)) ∧ RowKit.Below W.heap.size W u) (lay2 W _ _) ?_
  rintro w1 ⟨hq, hj, hb⟩
  have HB := hid hb
  have HQ := hid hq
  have HJ := hid hj
  clear hq hj hb
  generalize W.heap.size + 1 = J at *
  generalize hQ : W.heap.size = Q at HQ
  clear hQ
  obtain ⟨⟨p0, p1, p2, p3, p4, p5⟩, _⟩ := six_cells HJ.out
  obtain ⟨q0, q1, q2, q3, q4, q5, q6⟩ := seven_cellsJ HQ.out
  go_wp2_with fail
  refine (HLC.out _ HB.out).mono ?_
  rintro e w2 ⟨rfl, hb⟩
  have HB2 := hid (HB.out.trans (hb.mono HB.out.size))
  have HQ2 := hid (keep0 HQ.out hb)
  have HJ2 := hid (keep0 HJ.out hb)
  clear hb p0 p1 p2 p3 p4 p5 q0 q1 q2 q3 q4 q5 q6 HB HQ HJ HLC
  cases lc with
  | true =>
    go_wp2_with (go_at_call 7; refine (HW.out _).mono ?_; rintro e w7 ⟨rfl, hb7⟩)
    go_ret
    exact ⟨rfl, HB2.out.trans (hb7.mono HB2.out.size)⟩
  | false =>
    obtain ⟨⟨p0, p1, p2, p3, p4, p5⟩, _⟩ := six_cells HJ2.out
    have hal : RowKit.Below w2.heap.size w2 (w2.alloc (.cells #[.int .i64 id, .int .i64 scE, .int .i64 ee, .slice A1 ms.length ca, .slice P bd.length cb, .slice D dn.length cd] 29)) := bel_alloc (RowKit.Below.refl _ _) _
    have HLL := hid (HLB.out _ (HB2.out.trans (hal.mono HB2.out.size)) _ (Sl.lit w2 29 6 1 #[.int .i64 id, .int .i64 scE, .int .i64 ee, .slice A1 ms.length ca, .slice P bd.length cb, .slice D dn.length cd] rfl (by unfold maxLen; omega)))
    have HB3 := hid (HB2.out.trans (hal.mono HB2.out.size))
    have HQ3 := hid (keep0 HQ2.out hal)
    have HJ3 := hid (keep0 HJ2.out hal)
    clear hal HB2 HQ2 HJ2 HLB
    go_wp2_with fail
    refine HLL.out.mono ?_
    rintro e w3 ⟨rfl, hb⟩
    have HB4 := hid (HB3.out.trans (hb.mono HB3.out.size))
    have HQ4 := hid (keep0 HQ3.out hb)
    have HJ4 := hid (keep0 HJ3.out hb)
    clear hb p0 p1 p2 p3 p4 p5 HB3 HQ3 HJ3 HLL
    cases lb with
    | true =>
      go_wp2_with (go_at_call 7; refine (HW.out _).mono ?_; rintro e w7 ⟨rfl, hb7⟩)
      go_ret
      exact ⟨rfl, HB4.out.trans (hb7.mono HB4.out.size)⟩
    | false =>
      by_cases hlong : 100 < ln
      · have hlong2 : (100 : Int) < (ln : Int) := by omega
        go_wp2_with (go_at_call 7; refine (HW.out _).mono ?_; rintro e w7 ⟨rfl, hb7⟩)
        go_ret
        exact ⟨rfl, HB4.out.trans (hb7.mono HB4.out.size)⟩
      · have hlong2 : ¬ (100 : Int) < (ln : Int) := by omega
        have h100 : ln ≤ 100 := by omega
        have HNW2 := hid (fun u hb => HNW.out u hb h100)
        have HRD2 := hid (HRD.out (by first | rfl | trivial) (by first | rfl | trivial) h100)
        have HRR2 := hid (HRR.out (by first | rfl | trivial) (by first | rfl | trivial) h100)
        have HPW2 := hid (HPW.out (by first | rfl | trivial) (by first | rfl | trivial))
        have HOP2 := hid (HOP.out (by first | rfl | trivial))
        have HJA2 := hid (HJA.out (by first | rfl | trivial) (by first | rfl | trivial))
        have hrt2 := hrt h100
        clear HNW HRD HRR HPW HOP HJA hlong hrt
        go_wp2_with fail
        refine (HNW2.out _ HB4.out).mono ?_
        rintro q w4 ⟨TT, G, E, rfl, hWT, hTG, hRG, hb⟩
        have HB5 := hid (HB4.out.trans (hb.mono HB4.out.size))
        have HQ5 := hid (keep0 HQ4.out hb)
        have HJ5 := hid (keep0 HJ4.out hb)
        have HLT := hid (And.intro (show Q < TT from Nat.lt_of_lt_of_le (lt_of_block HQ4.out) hWT) (And.intro (show J < TT from Nat.lt_of_lt_of_le (lt_of_block HJ4.out) hWT) (show W.heap.size ≤ TT from Nat.le_trans HB4.out.size hWT)))
        have HTG := hid hTG
        have HRG := hid hRG
        clear hWT hTG hRG hb HB4 HQ4 HJ4 HNW2
        obtain ⟨⟨p0, p1, p2, p3, p4, p5⟩, _⟩ := six_cells HJ5.out
        obtain ⟨q0, q1, q2, q3, q4, q5, q6⟩ := seven_cellsJ HQ5.out
        go_wp2_with fail
        refine (HRD2.out _ HB5.out TT G E HTG.out (fun g hg => HRG.out.ltP hg)).mono ?_
        rintro q w5 ⟨A6, c6, rfl, ho6, hT6, hO⟩
        have HB6 := hid (HB5.out.trans (hO.below W.heap.size HLT.out.2.2 HB5.out.size))
        have HQ6 := hid (hO.block HQ5.out (Nat.ne_of_lt HLT.out.1))
        have HJ6 := hid (hO.block HJ5.out (Nat.ne_of_lt HLT.out.2.1))
        have HS6 := hid (sl_own ho6)
        have HT6 := hid hT6
        clear ho6 hT6 hO p0 p1 p2 p3 p4 p5 q0 q1 q2 q3 q4 q5 q6 HB5 HQ5 HJ5 HTG HRG HRD2 HLT
        obtain ⟨⟨p0, p1, p2, p3, p4, p5⟩, _⟩ := six_cells HJ6.out
        obtain ⟨q0, q1, q2, q3, q4, q5, q6⟩ := seven_cellsJ HQ6.out
        go_wp2_with fail
        refine (HRR2.out _ HB6.out).mono ?_
        rintro q w6 ⟨A7, c7, A8, c8, rfl, hs7, hs8, hb⟩
        have HB7 := hid (HB6.out.trans (hb.mono HB6.out.size))
        have HQ7 := hid (keep0 HQ6.out hb)
        have HJ7 := hid (keep0 HJ6.out hb)
        have HSA := hid (fun u (hu : RowKit.Below w6.heap.size w6 u) => (same06 A6 A7 RL.length c6 RL.length c7 RL RL u ((HS6.out.below hb).below hu) (hs7.below hu) (by omega) (by omega)).mono fun q w' ⟨h1, n9, h2⟩ => show q = Ending.returned (.bool true) ∧ RowKit.Below u.heap.size u w' from ⟨by rw [h1]; simp, by subst h2; exact below_drewNP (RowKit.Below.refl _ _) _⟩)
        have HLF := hid (fun u (hu : RowKit.Below w6.heap.size w6 u) => (leftG TT G E RT u ((HT6.out.below hb).below hu) (by omega)).mono fun q w' ⟨A, c, h1, h2, h3⟩ => show ∃ A c, q = Ending.returned (.slice A RT.length c) ∧ Sl w' 1 A RT.length c (ucells RT) ∧ RowKit.Below u.heap.size u w' from ⟨A, c, h1, sl_own h2, h3⟩)
        have HRS := hid (fun u (hu : RowKit.Below w6.heap.size w6 u) A c (h : Sl u 1 A RT.length c (ucells RT)) => (rdsame_any A A8 RT.length c RT.length c8 RT RT u h (hs8.below hu) (by omega) (by omega)).mono fun q w' ⟨h1, n9, h2⟩ => show q = Ending.returned (.bool true) ∧ RowKit.Below u.heap.size u w' from ⟨by rw [h1]; simp, by subst h2; exact below_drewNP (RowKit.Below.refl _ _) _⟩)
        have HTA := hid (fun u (hu : RowKit.Below w6.heap.size w6 u) => HTO.out u A7 c7 (hs7.below hu))
        have HOU := hid (fun u A c B d (h1 : Sl u 5 A OL.length c (gcells ocl OL)) (h2 : Sl u 5 B OL.length d (gcells ocl OL)) => outs_any A B c d OL u h1 h2)
        have HOV := hid (fun u A c B d (h1 : Sl u 5 A OE.length c (gcells ocl OE)) (h2 : Sl u 5 B OE.length d (gcells ocl OE)) => outs_any A B c d OE u h1 h2)
        clear hb hs7 hs8 p0 p1 p2 p3 p4 p5 q0 q1 q2 q3 q4 q5 q6 HB6 HQ6 HJ6 HS6 HT6 HRR2 HTO
        generalize RL.length = rn at *
        generalize RT.length = tn at *
        generalize OL.length = on at *
        generalize OE.length = en at *
        have e97 : (((sW : Nat) : Int) == ((sW : Nat) : Int)) = true := by simp
        have hS : ∀ U, RowKit.Below w6.heap.size w6 U → (((U.cell? ⟨Q, 0, none⟩ = some (.int .i64 sc) ∧ U.cell? ⟨Q, 1, none⟩ = some (.int .i64 le) ∧ U.cell? ⟨Q, 2, none⟩ = some (.int .i64 ag) ∧ U.cell? ⟨Q, 3, none⟩ = some (.int .i64 ro) ∧ U.cell? ⟨Q, 4, none⟩ = some (.int .i64 ou) ∧ U.cell? ⟨Q, 5, none⟩ = some (.slice N T.length nc) ∧ U.cell? ⟨Q, 6, none⟩ = some (.slice K ws.length kc)) ∧ (U.cell? ⟨J, 0, none⟩ = some (.int .i64 id) ∧ U.cell? ⟨J, 1, none⟩ = some (.int .i64 scE) ∧ U.cell? ⟨J, 2, none⟩ = some (.int .i64 ee) ∧ U.cell? ⟨J, 3, none⟩ = some (.slice A1 ms.length ca) ∧ U.cell? ⟨J, 4, none⟩ = some (.slice P bd.length cb) ∧ U.cell? ⟨J, 5, none⟩ = some (.slice D dn.length cd))) ∧ RowKit.Below w6.heap.size w6 U) := fun U hU => ⟨⟨seven_cellsJ (keep0 HQ7.out hU), (six_cells (keep0 HJ7.out hU)).1⟩, hU⟩
        have hu0 : RowKit.Below w6.heap.size w6 w6.drew := below_drew (RowKit.Below.refl _ _)
        have HU := hid (fun U (h : RowKit.Below w6.heap.size w6 U) => HB7.out.trans (h.mono HB7.out.size))
        go_upto_region 6 with (fail)
        refine wp_region_held_drew (S := fun U => ((U.cell? ⟨Q, 0, none⟩ = some (.int .i64 sc) ∧ U.cell? ⟨Q, 1, none⟩ = some (.int .i64 le) ∧ U.cell? ⟨Q, 2, none⟩ = some (.int .i64 ag) ∧ U.cell? ⟨Q, 3, none⟩ = some (.int .i64 ro) ∧ U.cell? ⟨Q, 4, none⟩ = some (.int .i64 ou) ∧ U.cell? ⟨Q, 5, none⟩ = some (.slice N T.length nc) ∧ U.cell? ⟨Q, 6, none⟩ = some (.slice K ws.length kc)) ∧ (U.cell? ⟨J, 0, none⟩ = some (.int .i64 id) ∧ U.cell? ⟨J, 1, none⟩ = some (.int .i64 scE) ∧ U.cell? ⟨J, 2, none⟩ = some (.int .i64 ee) ∧ U.cell? ⟨J, 3, none⟩ = some (.slice A1 ms.length ca) ∧ U.cell? ⟨J, 4, none⟩ = some (.slice P bd.length cb) ∧ U.cell? ⟨J, 5, none⟩ = some (.slice D dn.length cd))) ∧ RowKit.Below w6.heap.size w6 U) (by kernel_rfl) (hS _ hu0) (fun hHeld => ?_)
        generalize w6.drew = u0 at *
        refine wpAnyH_take (i := 0) (v := ?_) rfl (by kernel_rfl) (by kernel_rfl) (by kernel_rfl) (fun _ _ _ h => h) (Or.inl ⟨by rfl, ?_⟩) (by assumption) ?_
        rotate_left
        focus
          intro U hU
          try dsimp only at hU
          go_simp
          try (with_reducible rfl)
        simp only [List.getElem_toArray, List.getElem_cons_succ, List.getElem_cons_zero, Act.put, List.setIfInBounds_toArray, List.set_cons_zero, List.set_cons_succ]
        refine wpAnyH_take (i := 1) (v := ?_) rfl (by kernel_rfl) (by kernel_rfl) (by kernel_rfl) (fun _ _ _ h => h) (Or.inl ⟨by rfl, ?_⟩) (by assumption) ?_
        rotate_left
        focus
          intro U hU
          try dsimp only at hU
          go_simp
          try (with_reducible rfl)
        simp only [List.getElem_toArray, List.getElem_cons_succ, List.getElem_cons_zero, Act.put, List.setIfInBounds_toArray, List.set_cons_zero, List.set_cons_succ]
        refine wpAnyH_ready (rs := [2]) (by kernel_rfl) (by simp) ?_
        refine AllReadyH.cons rfl (fun K hK => ?_) AllReadyH.nil
        simp only [List.getElem_toArray, List.getElem_cons_succ, List.getElem_cons_zero]
        go_simp
        refine (HSA.out _ hu0).mono ?_
        rintro q u1 ⟨rfl, hb1⟩
        have hu1 : RowKit.Below w6.heap.size w6 u1 := hu0.trans (hb1.mono hu0.size)
        clear hb1
        go_wp2_with fail
        refine hK.out _ _ ?_ (fun hHeld2 => ?_)
        focus
          exact hS _ (by with_reducible assumption)
        clear hHeld
        have hHeld := hHeld2
        clear hHeld2 hK K
        try simp only [List.getElem_toArray, List.getElem_cons_succ, List.getElem_cons_zero, Act.put, List.setIfInBounds_toArray, List.set_cons_zero, List.set_cons_succ]
        refine wpAnyH_take (i := 3) (v := ?_) rfl (by kernel_rfl) (by kernel_rfl) (by kernel_rfl) (fun _ _ _ h => h) (Or.inl ⟨by rfl, ?_⟩) (by assumption) ?_
        rotate_left
        focus
          intro U hU
          try dsimp only at hU
          go_simp
          try (with_reducible rfl)
        simp only [List.getElem_toArray, List.getElem_cons_succ, List.getElem_cons_zero, Act.put, List.setIfInBounds_toArray, List.set_cons_zero, List.set_cons_succ]
        refine wpAnyH_take (i := 4) (v := ?_) rfl (by kernel_rfl) (by kernel_rfl) (by kernel_rfl) (fun _ _ _ h => h) (Or.inl ⟨by rfl, ?_⟩) (by assumption) ?_
        rotate_left
        focus
          intro U hU
          try dsimp only at hU
          go_simp
          try (with_reducible rfl)
        simp only [List.getElem_toArray, List.getElem_cons_succ, List.getElem_cons_zero, Act.put, List.setIfInBounds_toArray, List.set_cons_zero, List.set_cons_succ]
        refine wpAnyH_take (i := 6) (v := ?_) rfl (by kernel_rfl) (by kernel_rfl) (by kernel_rfl) (fun _ _ _ h => h) (Or.inl ⟨by rfl, ?_⟩) (by assumption) ?_
        rotate_left
        focus
          intro U hU
          try dsimp only at hU
          go_simp
          try (with_reducible rfl)
        simp only [List.getElem_toArray, List.getElem_cons_succ, List.getElem_cons_zero, Act.put, List.setIfInBounds_toArray, List.set_cons_zero, List.set_cons_succ]
        refine wpAnyH_ready (rs := [5]) (by kernel_rfl) (by simp) ?_
        refine AllReadyH.cons rfl (fun K hK => ?_) AllReadyH.nil
        simp only [List.getElem_toArray, List.getElem_cons_succ, List.getElem_cons_zero]
        go_simp
        refine (HLF.out _ hu1).mono ?_
        rintro q u2 ⟨AL, cL, rfl, hl2, hb2⟩
        have hu2 : RowKit.Below w6.heap.size w6 u2 := hu1.trans (hb2.mono hu1.size)
        clear hb2
        go_wp2_with fail
        refine hK.out _ _ ?_ (fun hHeld2 => ?_)
        focus
          exact hS _ (by with_reducible assumption)
        clear hHeld
        have hHeld := hHeld2
        clear hHeld2 hK K
        try simp only [List.getElem_toArray, List.getElem_cons_succ, List.getElem_cons_zero, Act.put, List.setIfInBounds_toArray, List.set_cons_zero, List.set_cons_succ]
        refine wpAnyH_ready (rs := [7]) (by kernel_rfl) (by simp) ?_
        refine AllReadyH.cons rfl (fun K hK => ?_) AllReadyH.nil
        simp only [List.getElem_toArray, List.getElem_cons_succ, List.getElem_cons_zero]
        go_simp
        refine (HRS.out _ hu2 _ _ hl2).mono ?_
        rintro q u3 ⟨rfl, hb3⟩
        have hu3 : RowKit.Below w6.heap.size w6 u3 := hu2.trans (hb3.mono hu2.size)
        clear hb3
        go_wp2_with fail
        refine hK.out _ _ ?_ (fun hHeld2 => ?_)
        focus
          exact hS _ (by with_reducible assumption)
        clear hHeld
        have hHeld := hHeld2
        clear hHeld2 hK K
        try simp only [List.getElem_toArray, List.getElem_cons_succ, List.getElem_cons_zero, Act.put, List.setIfInBounds_toArray, List.set_cons_zero, List.set_cons_succ]
        refine wpAnyH_take (i := 8) (v := ?_) rfl (by kernel_rfl) (by kernel_rfl) (by kernel_rfl) (fun _ _ _ h => h) (Or.inl ⟨by rfl, ?_⟩) (by assumption) ?_
        rotate_left
        focus
          intro U hU
          try dsimp only at hU
          go_simp
          try (with_reducible rfl)
        simp only [List.getElem_toArray, List.getElem_cons_succ, List.getElem_cons_zero, Act.put, List.setIfInBounds_toArray, List.set_cons_zero, List.set_cons_succ]
        refine wpAnyH_take (i := 9) (v := ?_) rfl (by kernel_rfl) (by kernel_rfl) (by kernel_rfl) (fun _ _ _ h => h) (Or.inl ⟨by rfl, ?_⟩) (by assumption) ?_
        rotate_left
        focus
          intro U hU
          try dsimp only at hU
          go_simp
          try (with_reducible rfl)
        simp only [List.getElem_toArray, List.getElem_cons_succ, List.getElem_cons_zero, Act.put, List.setIfInBounds_toArray, List.set_cons_zero, List.set_cons_succ]
        refine wpAnyH_take (i := 10) (v := ?_) rfl (by kernel_rfl) (by kernel_rfl) (by kernel_rfl) (fun _ _ _ h => h) (Or.inl ⟨by rfl, ?_⟩) (by assumption) ?_
        rotate_left
        focus
          intro U hU
          try dsimp only at hU
          go_simp
          try (with_reducible rfl)
        simp only [List.getElem_toArray, List.getElem_cons_succ, List.getElem_cons_zero, Act.put, List.setIfInBounds_toArray, List.set_cons_zero, List.set_cons_succ]
        refine wpAnyH_take (i := 11) (v := ?_) rfl (by kernel_rfl) (by kernel_rfl) (by kernel_rfl) (fun _ _ _ h => h) (Or.inl ⟨by rfl, ?_⟩) (by assumption) ?_
        rotate_left
        focus
          intro U hU
          try dsimp only at hU
          go_simp
          try (with_reducible rfl)
        simp only [List.getElem_toArray, List.getElem_cons_succ, List.getElem_cons_zero, Act.put, List.setIfInBounds_toArray, List.set_cons_zero, List.set_cons_succ]
        refine wpAnyH_take (i := 13) (v := ?_) rfl (by kernel_rfl) (by kernel_rfl) (by kernel_rfl) (fun _ _ _ h => h) (Or.inl ⟨by rfl, ?_⟩) (by assumption) ?_
        rotate_left
        focus
          intro U hU
          try dsimp only at hU
          go_simp
          try (with_reducible rfl)
        simp only [List.getElem_toArray, List.getElem_cons_succ, List.getElem_cons_zero, Act.put, List.setIfInBounds_toArray, List.set_cons_zero, List.set_cons_succ]
        refine wpAnyH_take (i := 14) (v := ?_) rfl (by kernel_rfl) (by kernel_rfl) (by kernel_rfl) (fun _ _ _ h => h) (Or.inl ⟨by rfl, ?_⟩) (by assumption) ?_
        rotate_left
        focus
          intro U hU
          try dsimp only at hU
          go_simp
          try (with_reducible rfl)
        simp only [List.getElem_toArray, List.getElem_cons_succ, List.getElem_cons_zero, Act.put, List.setIfInBounds_toArray, List.set_cons_zero, List.set_cons_succ]
        refine wpAnyH_ready (rs := [12]) (by kernel_rfl) (by simp) ?_
        refine AllReadyH.cons rfl (fun K hK => ?_) AllReadyH.nil
        simp only [List.getElem_toArray, List.getElem_cons_succ, List.getElem_cons_zero]
        go_simp
        refine (HPW2.out _ (HU.out _ hu3)).mono ?_
        rintro q u4 ⟨rfl, hb4⟩
        have hu4 : RowKit.Below w6.heap.size w6 u4 := hu3.trans (hb4.mono hu3.size)
        clear hb4
        go_wp2_with fail
        refine hK.out _ _ ?_ (fun hHeld2 => ?_)
        focus
          exact hS _ (by with_reducible assumption)
        clear hHeld
        have hHeld := hHeld2
        clear hHeld2 hK K
        try simp only [List.getElem_toArray, List.getElem_cons_succ, List.getElem_cons_zero, Act.put, List.setIfInBounds_toArray, List.set_cons_zero, List.set_cons_succ]
        refine wpAnyH_ready (rs := [15]) (by kernel_rfl) (by simp) ?_
        refine AllReadyH.cons rfl (fun K hK => ?_) AllReadyH.nil
        simp only [List.getElem_toArray, List.getElem_cons_succ, List.getElem_cons_zero]
        go_simp
        refine (HOP2.out _ (HU.out _ hu4)).mono ?_
        rintro q u5 ⟨AX, cX, rfl, hX5, hb5⟩
        have hu5 : RowKit.Below w6.heap.size w6 u5 := hu4.trans (hb5.mono hu4.size)
        clear hb5
        go_wp2_with fail
        refine hK.out _ _ ?_ (fun hHeld2 => ?_)
        focus
          exact hS _ (by with_reducible assumption)
        clear hHeld
        have hHeld := hHeld2
        clear hHeld2 hK K
        try simp only [List.getElem_toArray, List.getElem_cons_succ, List.getElem_cons_zero, Act.put, List.setIfInBounds_toArray, List.set_cons_zero, List.set_cons_succ]
        refine wpAnyH_ready (rs := [16]) (by kernel_rfl) (by simp) ?_
        refine AllReadyH.cons rfl (fun K hK => ?_) AllReadyH.nil
        simp only [List.getElem_toArray, List.getElem_cons_succ, List.getElem_cons_zero]
        go_simp
        refine (HJA2.out _ (HU.out _ hu5) _ _ hX5).mono ?_
        rintro q u6 ⟨rfl, hb6⟩
        have hu6 : RowKit.Below w6.heap.size w6 u6 := hu5.trans (hb6.mono hu5.size)
        clear hb6
        go_wp2_with fail
        refine hK.out _ _ ?_ (fun hHeld2 => ?_)
        focus
          exact hS _ (by with_reducible assumption)
        clear hHeld
        have hHeld := hHeld2
        clear hHeld2 hK K
        try simp only [List.getElem_toArray, List.getElem_cons_succ, List.getElem_cons_zero, Act.put, List.setIfInBounds_toArray, List.set_cons_zero, List.set_cons_succ]
        refine wpAnyH_take (i := 17) (v := ?_) rfl (by kernel_rfl) (by kernel_rfl) (by kernel_rfl) (fun _ _ _ h => h) (Or.inl ⟨by rfl, ?_⟩) (by assumption) ?_
        rotate_left
        focus
          intro U hU
          try dsimp only at hU
          go_simp
          try (with_reducible rfl)
        simp only [List.getElem_toArray, List.getElem_cons_succ, List.getElem_cons_zero, Act.put, List.setIfInBounds_toArray, List.set_cons_zero, List.set_cons_succ]
        refine wpAnyH_take (i := 18) (v := ?_) rfl (by kernel_rfl) (by kernel_rfl) (by kernel_rfl) (fun _ _ _ h => h) (Or.inl ⟨by rfl, ?_⟩) (by assumption) ?_
        rotate_left
        focus
          intro U hU
          try dsimp only at hU
          go_simp
          try (with_reducible rfl)
        simp only [List.getElem_toArray, List.getElem_cons_succ, List.getElem_cons_zero, Act.put, List.setIfInBounds_toArray, List.set_cons_zero, List.set_cons_succ]
        refine wpAnyH_take (i := 19) (v := ?_) rfl (by kernel_rfl) (by kernel_rfl) (by kernel_rfl) (fun _ _ _ h => h) (Or.inl ⟨by rfl, ?_⟩) (by assumption) ?_
        rotate_left
        focus
          intro U hU
          try dsimp only at hU
          go_simp
          try (with_reducible rfl)
        simp only [List.getElem_toArray, List.getElem_cons_succ, List.getElem_cons_zero, Act.put, List.setIfInBounds_toArray, List.set_cons_zero, List.set_cons_succ]
        refine wpAnyH_take (i := 20) (v := ?_) rfl (by kernel_rfl) (by kernel_rfl) (by kernel_rfl) (fun _ _ _ h => h) (Or.inl ⟨by rfl, ?_⟩) (by assumption) ?_
        rotate_left
        focus
          intro U hU
          try dsimp only at hU
          go_simp
          try (with_reducible rfl)
        simp only [List.getElem_toArray, List.getElem_cons_succ, List.getElem_cons_zero, Act.put, List.setIfInBounds_toArray, List.set_cons_zero, List.set_cons_succ]
        refine wpAnyH_take (i := 21) (v := ?_) rfl (by kernel_rfl) (by kernel_rfl) (by kernel_rfl) (fun _ _ _ h => h) (Or.inl ⟨by rfl, ?_⟩) (by assumption) ?_
        rotate_left
        focus
          intro U hU
          try dsimp only at hU
          go_simp
          try (with_reducible rfl)
        simp only [List.getElem_toArray, List.getElem_cons_succ, List.getElem_cons_zero, Act.put, List.setIfInBounds_toArray, List.set_cons_zero, List.set_cons_succ]
        refine wpAnyH_take (i := 23) (v := ?_) rfl (by kernel_rfl) (by kernel_rfl) (by kernel_rfl) (fun _ _ _ h => h) (Or.inl ⟨by rfl, ?_⟩) (by assumption) ?_
        rotate_left
        focus
          intro U hU
          try dsimp only at hU
          go_simp
          try (with_reducible rfl)
        simp only [List.getElem_toArray, List.getElem_cons_succ, List.getElem_cons_zero, Act.put, List.setIfInBounds_toArray, List.set_cons_zero, List.set_cons_succ]
        refine wpAnyH_take (i := 24) (v := ?_) rfl (by kernel_rfl) (by kernel_rfl) (by kernel_rfl) (fun _ _ _ h => h) (Or.inl ⟨by rfl, ?_⟩) (by assumption) ?_
        rotate_left
        focus
          intro U hU
          try dsimp only at hU
          go_simp
          try (with_reducible rfl)
        simp only [List.getElem_toArray, List.getElem_cons_succ, List.getElem_cons_zero, Act.put, List.setIfInBounds_toArray, List.set_cons_zero, List.set_cons_succ]
        refine wpAnyH_ready (rs := [22]) (by kernel_rfl) (by simp) ?_
        refine AllReadyH.cons rfl (fun K hK => ?_) AllReadyH.nil
        simp only [List.getElem_toArray, List.getElem_cons_succ, List.getElem_cons_zero]
        go_simp
        refine (HTA.out _ hu6).1.mono ?_
        rintro q u7 ⟨AT, cT, rfl, hT7, hb7⟩
        have hu7 : RowKit.Below w6.heap.size w6 u7 := hu6.trans (hb7.mono hu6.size)
        clear hb7
        go_wp2_with fail
        refine hK.out _ _ ?_ (fun hHeld2 => ?_)
        focus
          exact hS _ (by with_reducible assumption)
        clear hHeld
        have hHeld := hHeld2
        clear hHeld2 hK K
        try simp only [List.getElem_toArray, List.getElem_cons_succ, List.getElem_cons_zero, Act.put, List.setIfInBounds_toArray, List.set_cons_zero, List.set_cons_succ]
        refine wpAnyH_ready (rs := [25]) (by kernel_rfl) (by simp) ?_
        refine AllReadyH.cons rfl (fun K hK => ?_) AllReadyH.nil
        simp only [List.getElem_toArray, List.getElem_cons_succ, List.getElem_cons_zero]
        go_simp
        refine (HTA.out _ hu7).2.mono ?_
        rintro q u8 ⟨AR, cR, rfl, hR8, hb8⟩
        replace hT7 := hT7.below hb8
        have hu8 : RowKit.Below w6.heap.size w6 u8 := hu7.trans (hb8.mono hu7.size)
        clear hb8
        go_wp2_with fail
        refine hK.out _ _ ?_ (fun hHeld2 => ?_)
        focus
          exact hS _ (by with_reducible assumption)
        clear hHeld
        have hHeld := hHeld2
        clear hHeld2 hK K
        try simp only [List.getElem_toArray, List.getElem_cons_succ, List.getElem_cons_zero, Act.put, List.setIfInBounds_toArray, List.set_cons_zero, List.set_cons_succ]
        refine wpAnyH_ready (rs := [26]) (by kernel_rfl) (by simp) ?_
        refine AllReadyH.cons rfl (fun K hK => ?_) AllReadyH.nil
        simp only [List.getElem_toArray, List.getElem_cons_succ, List.getElem_cons_zero]
        go_simp
        refine (HOU.out _ _ _ _ _ hT7 hR8).mono ?_
        rintro q u9 ⟨rfl, hb9⟩
        have hu9 : RowKit.Below w6.heap.size w6 u9 := hu8.trans (hb9.mono hu8.size)
        clear hb9
        go_wp2_with fail
        refine hK.out _ _ ?_ (fun hHeld2 => ?_)
        focus
          exact hS _ (by with_reducible assumption)
        clear hHeld
        have hHeld := hHeld2
        clear hHeld2 hK K
        try simp only [List.getElem_toArray, List.getElem_cons_succ, List.getElem_cons_zero, Act.put, List.setIfInBounds_toArray, List.set_cons_zero, List.set_cons_succ]
        refine wpAnyH_take (i := 27) (v := ?_) rfl (by kernel_rfl) (by kernel_rfl) (by kernel_rfl) (fun _ _ _ h => h) (Or.inl ⟨by rfl, ?_⟩) (by assumption) ?_
        rotate_left
        focus
          intro U hU
          try dsimp only at hU
          go_simp
          try (with_reducible rfl)
        simp only [List.getElem_toArray, List.getElem_cons_succ, List.getElem_cons_zero, Act.put, List.setIfInBounds_toArray, List.set_cons_zero, List.set_cons_succ]
        refine wpAnyH_take (i := 28) (v := ?_) rfl (by kernel_rfl) (by kernel_rfl) (by kernel_rfl) (fun _ _ _ h => h) (Or.inl ⟨by rfl, ?_⟩) (by assumption) ?_
        rotate_left
        focus
          intro U hU
          try dsimp only at hU
          go_simp
          try (with_reducible rfl)
        simp only [List.getElem_toArray, List.getElem_cons_succ, List.getElem_cons_zero, Act.put, List.setIfInBounds_toArray, List.set_cons_zero, List.set_cons_succ]
        refine wpAnyH_take (i := 29) (v := ?_) rfl (by kernel_rfl) (by kernel_rfl) (by kernel_rfl) (fun _ _ _ h => h) (Or.inl ⟨by rfl, ?_⟩) (by assumption) ?_
        rotate_left
        focus
          intro U hU
          try dsimp only at hU
          go_simp
          try (with_reducible rfl)
        simp only [List.getElem_toArray, List.getElem_cons_succ, List.getElem_cons_zero, Act.put, List.setIfInBounds_toArray, List.set_cons_zero, List.set_cons_succ]
        refine wpAnyH_take (i := 32) (v := ?_) rfl (by kernel_rfl) (by kernel_rfl) (by kernel_rfl) (fun _ _ _ h => h) (Or.inl ⟨by rfl, ?_⟩) (by assumption) ?_
        rotate_left
        focus
          intro U hU
          try dsimp only at hU
          go_simp
          try (with_reducible rfl)
        simp only [List.getElem_toArray, List.getElem_cons_succ, List.getElem_cons_zero, Act.put, List.setIfInBounds_toArray, List.set_cons_zero, List.set_cons_succ]
        refine wpAnyH_ready (rs := [30, 33]) (by kernel_rfl) (by simp) ?_
        refine (AllReadyH.cons rfl (fun K hK => ?_) (AllReadyH.cons rfl (fun K hK => ?_) AllReadyH.nil))
        · skip
          simp only [List.getElem_toArray, List.getElem_cons_succ, List.getElem_cons_zero]
          go_simp
          refine hK.out _ _ ?_ (fun hHeld2 => ?_)
          focus
            exact hS _ (hu9.alloc hu9.size _)
          clear hHeld
          have hHeld := hHeld2
          clear hHeld2 hK K
          try simp only [List.getElem_toArray, List.getElem_cons_succ, List.getElem_cons_zero, Act.put, List.setIfInBounds_toArray, List.set_cons_zero, List.set_cons_succ]
          have gg : RowKit.Below (World.heap u9).size u9 (World.alloc u9 (.cells #[.int .i64 (-1), .int .i64 63, .int .i64 64, .int .i64 0] 3 (0, 0))) := (RowKit.Below.refl _ _).alloc (Nat.le_refl _) _
          have hu10 := hu9.trans (gg.mono hu9.size)
          have hE : Sl (World.alloc u9 (.cells #[.int .i64 (-1), .int .i64 63, .int .i64 64, .int .i64 0] 3 (0, 0))) 1 (some ⟨(World.heap u9).size, 0, none⟩) 4 4 (icells .i64 [-1, 63, 64, 0]) := Sl.lit u9 3 1 4 #[.int .i64 (-1), .int .i64 63, .int .i64 64, .int .i64 0] rfl (by unfold maxLen; omega)
          clear gg
          generalize World.alloc u9 (.cells #[.int .i64 (-1), .int .i64 63, .int .i64 64, .int .i64 0] 3 (0, 0)) = u10 at *
          generalize (World.heap u9).size = M1 at *
          refine wpAnyH_ready (rs := [31, 33]) (by kernel_rfl) (by simp) ?_
          refine (AllReadyH.cons rfl (fun K hK => ?_) (AllReadyH.cons rfl (fun K hK => ?_) AllReadyH.nil))
          · skip
            simp only [List.getElem_toArray, List.getElem_cons_succ, List.getElem_cons_zero]
            go_simp
            refine (HTP.out _ _ hE).mono ?_
            rintro q u11 ⟨AC, cC, rfl, hC, hb11⟩
            have hu11 : RowKit.Below w6.heap.size w6 u11 := hu10.trans (hb11.mono hu10.size)
            clear hb11
            clear hE
            go_wp2_with fail
            refine hK.out _ _ ?_ (fun hHeld2 => ?_)
            focus
              exact hS _ hu11
            clear hHeld
            have hHeld := hHeld2
            clear hHeld2 hK K
            try simp only [List.getElem_toArray, List.getElem_cons_succ, List.getElem_cons_zero, Act.put, List.setIfInBounds_toArray, List.set_cons_zero, List.set_cons_succ]
            refine wpAnyH_ready (rs := [33]) (by kernel_rfl) (by simp) ?_
            refine (AllReadyH.cons rfl (fun K hK => ?_) AllReadyH.nil)
            simp only [List.getElem_toArray, List.getElem_cons_succ, List.getElem_cons_zero]
            go_simp
            refine hK.out _ _ ?_ (fun hHeld2 => ?_)
            focus
              exact hS _ (hu11.alloc hu11.size _)
            clear hHeld
            have hHeld := hHeld2
            clear hHeld2 hK K
            try simp only [List.getElem_toArray, List.getElem_cons_succ, List.getElem_cons_zero, Act.put, List.setIfInBounds_toArray, List.set_cons_zero, List.set_cons_succ]
            have gg : RowKit.Below (World.heap u11).size u11 (World.alloc u11 (.cells #[.int .i64 63, .int .i64 0] 3 (0, 0))) := (RowKit.Below.refl _ _).alloc (Nat.le_refl _) _
            have hu12 := hu11.trans (gg.mono hu11.size)
            have hF : Sl (World.alloc u11 (.cells #[.int .i64 63, .int .i64 0] 3 (0, 0))) 1 (some ⟨(World.heap u11).size, 0, none⟩) 2 2 (icells .i64 [63, 0]) := Sl.lit u11 3 1 2 #[.int .i64 63, .int .i64 0] rfl (by unfold maxLen; omega)
            replace hC := hC.below gg
            clear gg
            generalize World.alloc u11 (.cells #[.int .i64 63, .int .i64 0] 3 (0, 0)) = u12 at *
            generalize (World.heap u11).size = M2 at *
            refine wpAnyH_ready (rs := [34]) (by kernel_rfl) (by simp) ?_
            refine AllReadyH.cons rfl (fun K hK => ?_) AllReadyH.nil
            simp only [List.getElem_toArray, List.getElem_cons_succ, List.getElem_cons_zero]
            go_simp
            refine (HTQ.out _ _ hF).mono ?_
            rintro q u13 ⟨AD, cD, rfl, hD, hb13⟩
            replace hC := hC.below hb13
            have hu13 : RowKit.Below w6.heap.size w6 u13 := hu12.trans (hb13.mono hu12.size)
            clear hb13
            go_wp2_with fail
            refine hK.out _ _ ?_ (fun hHeld2 => ?_)
            focus
              exact hS _ (by with_reducible assumption)
            clear hHeld
            have hHeld := hHeld2
            clear hHeld2 hK K
            try simp only [List.getElem_toArray, List.getElem_cons_succ, List.getElem_cons_zero, Act.put, List.setIfInBounds_toArray, List.set_cons_zero, List.set_cons_succ]
            refine wpAnyH_ready (rs := [35]) (by kernel_rfl) (by simp) ?_
            refine AllReadyH.cons rfl (fun K hK => ?_) AllReadyH.nil
            simp only [List.getElem_toArray, List.getElem_cons_succ, List.getElem_cons_zero]
            go_simp
            refine (HOV.out _ _ _ _ _ hC hD).mono ?_
            rintro q u14 ⟨rfl, hb14⟩
            have hu14 : RowKit.Below w6.heap.size w6 u14 := hu13.trans (hb14.mono hu13.size)
            clear hb14
            go_wp2_with fail
            refine hK.out _ _ ?_ (fun hHeld2 => ?_)
            focus
              exact hS _ (by with_reducible assumption)
            clear hHeld
            have hHeld := hHeld2
            clear hHeld2 hK K
            try simp only [List.getElem_toArray, List.getElem_cons_succ, List.getElem_cons_zero, Act.put, List.setIfInBounds_toArray, List.set_cons_zero, List.set_cons_succ]
            refine wpAnyH_take (i := 36) (v := ?_) rfl (by kernel_rfl) (by kernel_rfl) (by kernel_rfl) (fun _ _ _ h => h) (Or.inl ⟨by rfl, ?_⟩) (by assumption) ?_
            rotate_left
            focus
              intro U hU
              try dsimp only at hU
              go_simp
              try (with_reducible rfl)
            simp only [List.getElem_toArray, List.getElem_cons_succ, List.getElem_cons_zero, Act.put, List.setIfInBounds_toArray, List.set_cons_zero, List.set_cons_succ]
            refine wpAnyH_take (i := 37) (v := ?_) rfl (by kernel_rfl) (by kernel_rfl) (by kernel_rfl) (fun _ _ _ h => h) (Or.inl ⟨by rfl, ?_⟩) (by assumption) ?_
            rotate_left
            focus
              intro U hU
              try dsimp only at hU
              go_simp
              try (with_reducible rfl)
            simp only [List.getElem_toArray, List.getElem_cons_succ, List.getElem_cons_zero, Act.put, List.setIfInBounds_toArray, List.set_cons_zero, List.set_cons_succ]
            refine wpAnyH_ready (rs := [38]) (by kernel_rfl) (by simp) ?_
            refine AllReadyH.cons rfl (fun K hK => ?_) AllReadyH.nil
            simp only [List.getElem_toArray, List.getElem_cons_succ, List.getElem_cons_zero]
            go_simp
            refine (HW.out _).mono ?_
            rintro q u15 ⟨rfl, hb15⟩
            have hu15 : RowKit.Below w6.heap.size w6 u15 := hu14.trans (hb15.mono hu14.size)
            clear hb15
            go_wp2_with fail
            refine hK.out _ _ ?_ (fun hHeld2 => ?_)
            focus
              exact hS _ (by with_reducible assumption)
            clear hHeld
            have hHeld := hHeld2
            clear hHeld2 hK K
            try simp only [List.getElem_toArray, List.getElem_cons_succ, List.getElem_cons_zero, Act.put, List.setIfInBounds_toArray, List.set_cons_zero, List.set_cons_succ]
            refine wpAnyH_take (i := 39) (v := ?_) rfl (by kernel_rfl) (by kernel_rfl) (by kernel_rfl) (fun _ _ _ h => h) (Or.inl ⟨by rfl, ?_⟩) (by assumption) ?_
            rotate_left
            focus
              intro U hU
              try dsimp only at hU
              go_simp
              try (with_reducible rfl)
            simp only [List.getElem_toArray, List.getElem_cons_succ, List.getElem_cons_zero, Act.put, List.setIfInBounds_toArray, List.set_cons_zero, List.set_cons_succ]
            refine wpAnyH_take (i := 40) (v := ?_) rfl (by kernel_rfl) (by kernel_rfl) (by kernel_rfl) (fun _ _ _ h => h) (Or.inl ⟨by rfl, ?_⟩) (by assumption) ?_
            rotate_left
            focus
              intro U hU
              try dsimp only at hU
              go_simp
              try (with_reducible rfl)
            simp only [List.getElem_toArray, List.getElem_cons_succ, List.getElem_cons_zero, Act.put, List.setIfInBounds_toArray, List.set_cons_zero, List.set_cons_succ]
            refine wpAnyH_done (by kernel_rfl) ?_ _
            clear hHeld hS
            go_wp2
            go_ret
            exact ⟨rfl, HU.out _ hu15⟩
          · skip
            simp only [List.getElem_toArray, List.getElem_cons_succ, List.getElem_cons_zero]
            go_simp
            refine hK.out _ _ ?_ (fun hHeld2 => ?_)
            focus
              exact hS _ (hu10.alloc hu10.size _)
            clear hHeld
            have hHeld := hHeld2
            clear hHeld2 hK K
            try simp only [List.getElem_toArray, List.getElem_cons_succ, List.getElem_cons_zero, Act.put, List.setIfInBounds_toArray, List.set_cons_zero, List.set_cons_succ]
            have gg : RowKit.Below (World.heap u10).size u10 (World.alloc u10 (.cells #[.int .i64 63, .int .i64 0] 3 (0, 0))) := (RowKit.Below.refl _ _).alloc (Nat.le_refl _) _
            have hu11 := hu10.trans (gg.mono hu10.size)
            have hF : Sl (World.alloc u10 (.cells #[.int .i64 63, .int .i64 0] 3 (0, 0))) 1 (some ⟨(World.heap u10).size, 0, none⟩) 2 2 (icells .i64 [63, 0]) := Sl.lit u10 3 1 2 #[.int .i64 63, .int .i64 0] rfl (by unfold maxLen; omega)
            replace hE := hE.below gg
            clear gg
            generalize World.alloc u10 (.cells #[.int .i64 63, .int .i64 0] 3 (0, 0)) = u11 at *
            generalize (World.heap u10).size = M2 at *
            refine wpAnyH_ready (rs := [31]) (by kernel_rfl) (by simp) ?_
            refine (AllReadyH.cons rfl (fun K hK => ?_) AllReadyH.nil)
            simp only [List.getElem_toArray, List.getElem_cons_succ, List.getElem_cons_zero]
            go_simp
            refine (HTP.out _ _ hE).mono ?_
            rintro q u12 ⟨AC, cC, rfl, hC, hb12⟩
            replace hF := hF.below hb12
            have hu12 : RowKit.Below w6.heap.size w6 u12 := hu11.trans (hb12.mono hu11.size)
            clear hb12
            clear hE
            go_wp2_with fail
            refine hK.out _ _ ?_ (fun hHeld2 => ?_)
            focus
              exact hS _ hu12
            clear hHeld
            have hHeld := hHeld2
            clear hHeld2 hK K
            try simp only [List.getElem_toArray, List.getElem_cons_succ, List.getElem_cons_zero, Act.put, List.setIfInBounds_toArray, List.set_cons_zero, List.set_cons_succ]
            refine wpAnyH_ready (rs := [34]) (by kernel_rfl) (by simp) ?_
            refine AllReadyH.cons rfl (fun K hK => ?_) AllReadyH.nil
            simp only [List.getElem_toArray, List.getElem_cons_succ, List.getElem_cons_zero]
            go_simp
            refine (HTQ.out _ _ hF).mono ?_
            rintro q u13 ⟨AD, cD, rfl, hD, hb13⟩
            replace hC := hC.below hb13
            have hu13 : RowKit.Below w6.heap.size w6 u13 := hu12.trans (hb13.mono hu12.size)
            clear hb13
            go_wp2_with fail
            refine hK.out _ _ ?_ (fun hHeld2 => ?_)
            focus
              exact hS _ (by with_reducible assumption)
            clear hHeld
            have hHeld := hHeld2
            clear hHeld2 hK K
            try simp only [List.getElem_toArray, List.getElem_cons_succ, List.getElem_cons_zero, Act.put, List.setIfInBounds_toArray, List.set_cons_zero, List.set_cons_succ]
            refine wpAnyH_ready (rs := [35]) (by kernel_rfl) (by simp) ?_
            refine AllReadyH.cons rfl (fun K hK => ?_) AllReadyH.nil
            simp only [List.getElem_toArray, List.getElem_cons_succ, List.getElem_cons_zero]
            go_simp
            refine (HOV.out _ _ _ _ _ hC hD).mono ?_
            rintro q u14 ⟨rfl, hb14⟩
            have hu14 : RowKit.Below w6.heap.size w6 u14 := hu13.trans (hb14.mono hu13.size)
            clear hb14
            go_wp2_with fail
            refine hK.out _ _ ?_ (fun hHeld2 => ?_)
            focus
              exact hS _ (by with_reducible assumption)
            clear hHeld
            have hHeld := hHeld2
            clear hHeld2 hK K
            try simp only [List.getElem_toArray, List.getElem_cons_succ, List.getElem_cons_zero, Act.put, List.setIfInBounds_toArray, List.set_cons_zero, List.set_cons_succ]
            refine wpAnyH_take (i := 36) (v := ?_) rfl (by kernel_rfl) (by kernel_rfl) (by kernel_rfl) (fun _ _ _ h => h) (Or.inl ⟨by rfl, ?_⟩) (by assumption) ?_
            rotate_left
            focus
              intro U hU
              try dsimp only at hU
              go_simp
              try (with_reducible rfl)
            simp only [List.getElem_toArray, List.getElem_cons_succ, List.getElem_cons_zero, Act.put, List.setIfInBounds_toArray, List.set_cons_zero, List.set_cons_succ]
            refine wpAnyH_take (i := 37) (v := ?_) rfl (by kernel_rfl) (by kernel_rfl) (by kernel_rfl) (fun _ _ _ h => h) (Or.inl ⟨by rfl, ?_⟩) (by assumption) ?_
            rotate_left
            focus
              intro U hU
              try dsimp only at hU
              go_simp
              try (with_reducible rfl)
            simp only [List.getElem_toArray, List.getElem_cons_succ, List.getElem_cons_zero, Act.put, List.setIfInBounds_toArray, List.set_cons_zero, List.set_cons_succ]
            refine wpAnyH_ready (rs := [38]) (by kernel_rfl) (by simp) ?_
            refine AllReadyH.cons rfl (fun K hK => ?_) AllReadyH.nil
            simp only [List.getElem_toArray, List.getElem_cons_succ, List.getElem_cons_zero]
            go_simp
            refine (HW.out _).mono ?_
            rintro q u15 ⟨rfl, hb15⟩
            have hu15 : RowKit.Below w6.heap.size w6 u15 := hu14.trans (hb15.mono hu14.size)
            clear hb15
            go_wp2_with fail
            refine hK.out _ _ ?_ (fun hHeld2 => ?_)
            focus
              exact hS _ (by with_reducible assumption)
            clear hHeld
            have hHeld := hHeld2
            clear hHeld2 hK K
            try simp only [List.getElem_toArray, List.getElem_cons_succ, List.getElem_cons_zero, Act.put, List.setIfInBounds_toArray, List.set_cons_zero, List.set_cons_succ]
            refine wpAnyH_take (i := 39) (v := ?_) rfl (by kernel_rfl) (by kernel_rfl) (by kernel_rfl) (fun _ _ _ h => h) (Or.inl ⟨by rfl, ?_⟩) (by assumption) ?_
            rotate_left
            focus
              intro U hU
              try dsimp only at hU
              go_simp
              try (with_reducible rfl)
            simp only [List.getElem_toArray, List.getElem_cons_succ, List.getElem_cons_zero, Act.put, List.setIfInBounds_toArray, List.set_cons_zero, List.set_cons_succ]
            refine wpAnyH_take (i := 40) (v := ?_) rfl (by kernel_rfl) (by kernel_rfl) (by kernel_rfl) (fun _ _ _ h => h) (Or.inl ⟨by rfl, ?_⟩) (by assumption) ?_
            rotate_left
            focus
              intro U hU
              try dsimp only at hU
              go_simp
              try (with_reducible rfl)
            simp only [List.getElem_toArray, List.getElem_cons_succ, List.getElem_cons_zero, Act.put, List.setIfInBounds_toArray, List.set_cons_zero, List.set_cons_succ]
            refine wpAnyH_done (by kernel_rfl) ?_ _
            clear hHeld hS
            go_wp2
            go_ret
            exact ⟨rfl, HU.out _ hu15⟩
        · skip
          simp only [List.getElem_toArray, List.getElem_cons_succ, List.getElem_cons_zero]
          go_simp
          refine hK.out _ _ ?_ (fun hHeld2 => ?_)
          focus
            exact hS _ (hu9.alloc hu9.size _)
          clear hHeld
          have hHeld := hHeld2
          clear hHeld2 hK K
          try simp only [List.getElem_toArray, List.getElem_cons_succ, List.getElem_cons_zero, Act.put, List.setIfInBounds_toArray, List.set_cons_zero, List.set_cons_succ]
          have gg : RowKit.Below (World.heap u9).size u9 (World.alloc u9 (.cells #[.int .i64 63, .int .i64 0] 3 (0, 0))) := (RowKit.Below.refl _ _).alloc (Nat.le_refl _) _
          have hu10 := hu9.trans (gg.mono hu9.size)
          have hF : Sl (World.alloc u9 (.cells #[.int .i64 63, .int .i64 0] 3 (0, 0))) 1 (some ⟨(World.heap u9).size, 0, none⟩) 2 2 (icells .i64 [63, 0]) := Sl.lit u9 3 1 2 #[.int .i64 63, .int .i64 0] rfl (by unfold maxLen; omega)
          clear gg
          generalize World.alloc u9 (.cells #[.int .i64 63, .int .i64 0] 3 (0, 0)) = u10 at *
          generalize (World.heap u9).size = M2 at *
          refine wpAnyH_ready (rs := [30]) (by kernel_rfl) (by simp) ?_
          refine (AllReadyH.cons rfl (fun K hK => ?_) AllReadyH.nil)
          simp only [List.getElem_toArray, List.getElem_cons_succ, List.getElem_cons_zero]
          go_simp
          refine hK.out _ _ ?_ (fun hHeld2 => ?_)
          focus
            exact hS _ (hu10.alloc hu10.size _)
          clear hHeld
          have hHeld := hHeld2
          clear hHeld2 hK K
          try simp only [List.getElem_toArray, List.getElem_cons_succ, List.getElem_cons_zero, Act.put, List.setIfInBounds_toArray, List.set_cons_zero, List.set_cons_succ]
          have gg : RowKit.Below (World.heap u10).size u10 (World.alloc u10 (.cells #[.int .i64 (-1), .int .i64 63, .int .i64 64, .int .i64 0] 3 (0, 0))) := (RowKit.Below.refl _ _).alloc (Nat.le_refl _) _
          have hu11 := hu10.trans (gg.mono hu10.size)
          have hE : Sl (World.alloc u10 (.cells #[.int .i64 (-1), .int .i64 63, .int .i64 64, .int .i64 0] 3 (0, 0))) 1 (some ⟨(World.heap u10).size, 0, none⟩) 4 4 (icells .i64 [-1, 63, 64, 0]) := Sl.lit u10 3 1 4 #[.int .i64 (-1), .int .i64 63, .int .i64 64, .int .i64 0] rfl (by unfold maxLen; omega)
          replace hF := hF.below gg
          clear gg
          generalize World.alloc u10 (.cells #[.int .i64 (-1), .int .i64 63, .int .i64 64, .int .i64 0] 3 (0, 0)) = u11 at *
          generalize (World.heap u10).size = M1 at *
          refine wpAnyH_ready (rs := [31]) (by kernel_rfl) (by simp) ?_
          refine (AllReadyH.cons rfl (fun K hK => ?_) AllReadyH.nil)
          simp only [List.getElem_toArray, List.getElem_cons_succ, List.getElem_cons_zero]
          go_simp
          refine (HTP.out _ _ hE).mono ?_
          rintro q u12 ⟨AC, cC, rfl, hC, hb12⟩
          replace hF := hF.below hb12
          have hu12 : RowKit.Below w6.heap.size w6 u12 := hu11.trans (hb12.mono hu11.size)
          clear hb12
          clear hE
          go_wp2_with fail
          refine hK.out _ _ ?_ (fun hHeld2 => ?_)
          focus
            exact hS _ hu12
          clear hHeld
          have hHeld := hHeld2
          clear hHeld2 hK K
          try simp only [List.getElem_toArray, List.getElem_cons_succ, List.getElem_cons_zero, Act.put, List.setIfInBounds_toArray, List.set_cons_zero, List.set_cons_succ]
          refine wpAnyH_ready (rs := [34]) (by kernel_rfl) (by simp) ?_
          refine AllReadyH.cons rfl (fun K hK => ?_) AllReadyH.nil
          simp only [List.getElem_toArray, List.getElem_cons_succ, List.getElem_cons_zero]
          go_simp
          refine (HTQ.out _ _ hF).mono ?_
          rintro q u13 ⟨AD, cD, rfl, hD, hb13⟩
          replace hC := hC.below hb13
          have hu13 : RowKit.Below w6.heap.size w6 u13 := hu12.trans (hb13.mono hu12.size)
          clear hb13
          go_wp2_with fail
          refine hK.out _ _ ?_ (fun hHeld2 => ?_)
          focus
            exact hS _ (by with_reducible assumption)
          clear hHeld
          have hHeld := hHeld2
          clear hHeld2 hK K
          try simp only [List.getElem_toArray, List.getElem_cons_succ, List.getElem_cons_zero, Act.put, List.setIfInBounds_toArray, List.set_cons_zero, List.set_cons_succ]
          refine wpAnyH_ready (rs := [35]) (by kernel_rfl) (by simp) ?_
          refine AllReadyH.cons rfl (fun K hK => ?_) AllReadyH.nil
          simp only [List.getElem_toArray, List.getElem_cons_succ, List.getElem_cons_zero]
          go_simp
          refine (HOV.out _ _ _ _ _ hC hD).mono ?_
          rintro q u14 ⟨rfl, hb14⟩
          have hu14 : RowKit.Below w6.heap.size w6 u14 := hu13.trans (hb14.mono hu13.size)
          clear hb14
          go_wp2_with fail
          refine hK.out _ _ ?_ (fun hHeld2 => ?_)
          focus
            exact hS _ (by with_reducible assumption)
          clear hHeld
          have hHeld := hHeld2
          clear hHeld2 hK K
          try simp only [List.getElem_toArray, List.getElem_cons_succ, List.getElem_cons_zero, Act.put, List.setIfInBounds_toArray, List.set_cons_zero, List.set_cons_succ]
          refine wpAnyH_take (i := 36) (v := ?_) rfl (by kernel_rfl) (by kernel_rfl) (by kernel_rfl) (fun _ _ _ h => h) (Or.inl ⟨by rfl, ?_⟩) (by assumption) ?_
          rotate_left
          focus
            intro U hU
            try dsimp only at hU
            go_simp
            try (with_reducible rfl)
          simp only [List.getElem_toArray, List.getElem_cons_succ, List.getElem_cons_zero, Act.put, List.setIfInBounds_toArray, List.set_cons_zero, List.set_cons_succ]
          refine wpAnyH_take (i := 37) (v := ?_) rfl (by kernel_rfl) (by kernel_rfl) (by kernel_rfl) (fun _ _ _ h => h) (Or.inl ⟨by rfl, ?_⟩) (by assumption) ?_
          rotate_left
          focus
            intro U hU
            try dsimp only at hU
            go_simp
            try (with_reducible rfl)
          simp only [List.getElem_toArray, List.getElem_cons_succ, List.getElem_cons_zero, Act.put, List.setIfInBounds_toArray, List.set_cons_zero, List.set_cons_succ]
          refine wpAnyH_ready (rs := [38]) (by kernel_rfl) (by simp) ?_
          refine AllReadyH.cons rfl (fun K hK => ?_) AllReadyH.nil
          simp only [List.getElem_toArray, List.getElem_cons_succ, List.getElem_cons_zero]
          go_simp
          refine (HW.out _).mono ?_
          rintro q u15 ⟨rfl, hb15⟩
          have hu15 : RowKit.Below w6.heap.size w6 u15 := hu14.trans (hb15.mono hu14.size)
          clear hb15
          go_wp2_with fail
          refine hK.out _ _ ?_ (fun hHeld2 => ?_)
          focus
            exact hS _ (by with_reducible assumption)
          clear hHeld
          have hHeld := hHeld2
          clear hHeld2 hK K
          try simp only [List.getElem_toArray, List.getElem_cons_succ, List.getElem_cons_zero, Act.put, List.setIfInBounds_toArray, List.set_cons_zero, List.set_cons_succ]
          refine wpAnyH_take (i := 39) (v := ?_) rfl (by kernel_rfl) (by kernel_rfl) (by kernel_rfl) (fun _ _ _ h => h) (Or.inl ⟨by rfl, ?_⟩) (by assumption) ?_
          rotate_left
          focus
            intro U hU
            try dsimp only at hU
            go_simp
            try (with_reducible rfl)
          simp only [List.getElem_toArray, List.getElem_cons_succ, List.getElem_cons_zero, Act.put, List.setIfInBounds_toArray, List.set_cons_zero, List.set_cons_succ]
          refine wpAnyH_take (i := 40) (v := ?_) rfl (by kernel_rfl) (by kernel_rfl) (by kernel_rfl) (fun _ _ _ h => h) (Or.inl ⟨by rfl, ?_⟩) (by assumption) ?_
          rotate_left
          focus
            intro U hU
            try dsimp only at hU
            go_simp
            try (with_reducible rfl)
          simp only [List.getElem_toArray, List.getElem_cons_succ, List.getElem_cons_zero, Act.put, List.setIfInBounds_toArray, List.set_cons_zero, List.set_cons_succ]
          refine wpAnyH_done (by kernel_rfl) ?_ _
          clear hHeld hS
          go_wp2
          go_ret
          exact ⟨rfl, HU.out _ hu15⟩
end Go.Proofs.YtgakobolhmdnnaaGreat
