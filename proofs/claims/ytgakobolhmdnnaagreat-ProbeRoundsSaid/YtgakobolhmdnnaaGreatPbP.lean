/- probe: Workers, Round; the law's example. -/
import Derived.Test.YtgakobolhmdnnaaGreatHdP
import Derived.Test.YtgakobolhmdnnaaGreatDwP
import Derived.Test.YtgakobolhmdnnaaGreatQSame06
import Derived.Deep.RegionHeld3
import Derived.Test.YtgakobolhmdnnaaGreatQHdL
namespace Go.Proofs.YtgakobolhmdnnaaGreat
open Go.RowKit Go.Sort
set_option linter.unusedVariables false
set_option linter.unusedSimpArgs false

theorem mtkP {α : Type} {l : List Int} {f : Int → α} {k : Nat} (hk : k < l.length) : (l.take (k + 1)).map f = (l.take k).map f ++ [f (l.getD k 0)] := by
  have e : l.getD k 0 = l[k] := by simp [List.getD, hk]
  rw [e, List.take_succ_eq_append_getElem hk, List.map_append]
  rfl
theorem below_drewNP {n : Nat} {W w : World} (h : RowKit.Below n W w) (q : Nat) : RowKit.Below n W (w.drewN q) := ⟨h.os, h.tape, h.output, h.size, h.block⟩
theorem RowG.ltP {w : World} {G : Option Nat} {E B g : Nat} (h : RowG w G E B) (hg : G = some g) : g < w.heap.size := by
  obtain ⟨_, cur, h2, _⟩ := h g hg
  exact lt_of_block h2
theorem Sl.onlyP {w w' : World} {z : Nat} {A : Option Addr} {n c : Nat} {l : List Value} (h : Sl w z A n c l) (hA : ∀ b off, A = some ⟨b, off, none⟩ → w'.heap[b]? = w.heap[b]?) : Sl w' z A n c l := by
  refine ⟨h.1, h.2.1, h.2.2.1, fun h0 => ?_⟩
  obtain ⟨b, off, rfl, hc⟩ := h.2.2.2 h0
  refine ⟨b, off, rfl, fun i hi => ?_⟩
  have h1 := hc i hi
  have h2 := hA b off rfl
  simp only [World.cell?, h2] at h1 ⊢
  exact h1
def needF (e : En) (i : Int) : List UInt8 := e.ns.getD i.toNat []
def needsL (e : En) : List (List UInt8) := (openB e).map (needF e)
def workS (x : Cf) (e : En) : Nat := orK x.T x.ws (needsL e) (needsL e).length
theorem workS_lt (x : Cf) (e : En) : workS x e < 18446744073709551616 := orK_lt _ _ _ _
def rndL (x : Cf) (e : En) (l : List Nat) : List Int := (pk (2 * ((openB e).length : Int)).toNat l (elems (workS x e))).1
theorem openB_le (e : En) : (openB e).length ≤ e.ns.length := Nat.le_trans (opk_len _ _) (by omega)
theorem needsL_len (e : En) : (needsL e).length = (openB e).length := by unfold needsL; rw [List.length_map]
theorem needsL_mem {e : En} {s : List UInt8} (h : s ∈ needsL e) : s ∈ e.ns := by
  unfold needsL at h
  obtain ⟨i, hi, rfl⟩ := List.mem_map.1 h
  obtain ⟨j, rfl, h1, _⟩ := open_mem hi
  have e2 : needF e (j : Int) = e.ns[j] := by simp [needF, List.getD, h1]
  rw [e2]
  exact List.getElem_mem h1

set_option maxRecDepth 20000 in
set_option maxHeartbeats 4000000 in
theorem pbw_any (x : Cf) (N : Option Addr) (nc : Nat) (K : Option Addr) (kc : Nat) (e : Ee) (W : World) (hC : CfAt W x N nc K kc) (hE : InE W e) (hl : e.1.ns.length ≤ 1000 ∧ e.1.bd.length ≤ 1000 ∧ e.1.dn.length ≤ 1000) (hs : ∀ s ∈ e.1.ns, s.length ≤ 1000) (hw : x.ws.length ≤ 1000) :
    Calls Tryz.prog 14 #[.agg (cfc x N nc K kc), .agg (ecE e)] W fun q w' => q = .returned (.int .u64 (workS x e.1 : Nat)) ∧ RowKit.Below W.heap.size W w' := by
  have hol := openB_le e.1
  have HOP := hid (fun u (hu : RowKit.Below W.heap.size W u) => bopen_any e u (hE.below hu) (by omega))
  have HJA := hid (fun u (hu : RowKit.Below W.heap.size W u) A c (h : Sl u 1 A (needsL e.1).length c (scells (needsL e.1))) => jany_any x N nc K kc A c (needsL e.1) u (hC.below hu) ⟨h, fun s h9 => by have := hs s (needsL_mem h9); unfold maxLen; omega⟩ (by rw [needsL_len]; omega) (fun s h9 => hs s (needsL_mem h9)) hw)
  have hws : orK x.T x.ws (needsL e.1) (needsL e.1).length = workS x e.1 := rfl
  rw [hws] at HJA
  have HM := hid (fun y (hy : y ∈ openB e.1) => open_mem hy)
  have HTX := hid (fun u (hu : RowKit.Below W.heap.size W u) (j : Nat) (hj : j < e.1.ns.length) => show ∃ b off, e.2.A = some ⟨b, off, none⟩ ∧ u.cell? ⟨b, off + j, none⟩ = some (.string (str (needF e.1 (j : Int)))) by
    have e2 : needF e.1 (j : Int) = e.1.ns[j] := by simp [needF, List.getD, hj]
    rw [e2]
    exact text_at (hE.below hu).1 j hj)
  have hnv : needsL e.1 = ((openB e.1).take (openB e.1).length).map (needF e.1) := by rw [List.take_length]; rfl
  have hns := sl_len64 hE.1.1
  obtain ⟨⟨id, scE, ee, ms, bd, dn⟩, ⟨A1, ca, P, cb, D, cd⟩⟩ := e
  obtain ⟨sc, le, ag, ro, ou, T, ws⟩ := x
  obtain ⟨l1, l2, l3⟩ := hl
  simp only at HOP HJA HM HTX hnv hol l1 hns ⊢
  clear hC hE hs hw l2 l3 hws
  simp only [ecE, cfc] at *
  generalize workS ⟨sc, le, ag, ro, ou, T, ws⟩ ⟨id, scE, ee, ms, bd, dn⟩ = sW at *
  generalize needsL ⟨id, scE, ee, ms, bd, dn⟩ = NL at *
  generalize needF ⟨id, scE, ee, ms, bd, dn⟩ = nF at *
  generalize openB ⟨id, scE, ee, ms, bd, dn⟩ = L0 at *
  have HNV := hid hnv
  clear hnv
  go_enter Tryz.func14, Tryz.ntmps14
  go_upto_region 1 with (fail)
  refine at_world (fun u => u.heap[W.heap.size]? = some (.cells #[.int .i64 sc, .int .i64 le, .int .i64 ag, .int .i64 ro, .int .i64 ou, .slice N T.length nc, .slice K ws.length kc] 25 (0, 0)) ∧ u.heap[W.heap.size + 1]? = some (.cells #[.int .i64 id, .int .i64 scE, .int .i64 ee, .slice A1 ms.length ca, .slice P bd.length cb, .slice D dn.length cd] 29 (0, 0)) ∧ RowKit.Below W.heap.size W u) (lay2 W _ _) ?_
  rintro w1 ⟨hq, hj, hb⟩
  have HB := hid hb
  have HQ := hid hq
  have HJ := hid hj
  clear hq hj hb
  generalize W.heap.size + 1 = J at *
  generalize hQ : W.heap.size = Q at HQ
  clear hQ
  obtain ⟨⟨p0, p1, p2, p3, p4, p5⟩, _⟩ := six_cells HJ.out
  go_wp2_with fail
  refine (HOP.out _ HB.out).mono ?_
  rintro e w2 ⟨A2, c2, rfl, hs2, hb2⟩
  have HS2 := hid hs2
  have HB2 := hid (HB.out.trans (hb2.mono HB.out.size))
  have HQ2 := hid (keep0 HQ.out hb2)
  have HJ2 := hid (keep0 HJ.out hb2)
  clear hs2 hb2 HOP HQ HJ HB p0 p1 p2 p3 p4 p5
  have HY := hid (fun k (hk : k < L0.length) => mtkP (f := nF) hk)
  have HGM := hid (fun k (hk : k < L0.length) => HM.out _ (getD_mem hk))
  have HFL := hid (fun k => show ((L0.take k).map nF).length ≤ k by rw [List.length_map, List.length_take]; omega)
  clear HM
  generalize hm : L0.length = m at *
  have HLM := hid hm
  clear hm
  go_wp2
  go_loopw [5, 7, 11] (fun v _ i wr => ∃ (n : Nat) (A' : Option Addr) (c' : Nat) (L : List (List UInt8)), n ≤ m ∧ i = .int .i64 (n : Int) ∧ v = .slice A' L.length c' ∧ Hid (L = (L0.take n).map nF ∧ wr.ownsRow w2.heap.size 9 1 (.slice A' L.length c') L.length (scells L)) ∧ Hid (RowKit.Below w2.heap.size w2 wr)) (fun _ _ i _ => m - (intOf i).toNat)
  case atStart => exact ⟨0, none, 0, [], by omega, rfl, rfl, ⟨rfl, World.ownsRow_nil _ _ _ _⟩, RowKit.Below.refl _ _⟩
  case round =>
    obtain ⟨n, A', c', L, hn9, rfl, rfl, HO, HB4⟩ := hrel
    have hLn : L.length ≤ n := by rw [HO.out.1]; exact HFL.out n
    have HBW := hid (HB2.out.trans (HB4.out.mono HB2.out.size))
    have HQ4 := hid (keep0 HQ2.out HB4.out)
    obtain ⟨⟨p0, p1, p2, p3, p4, p5⟩, _⟩ := six_cells (keep0 HJ2.out HB4.out)
    by_cases hlt : n < m
    · have hlt2 : (n : Int) < (m : Int) := by omega
      have i0 : ¬ (n : Int) < 0 := by omega
      have hwn := wrap_succ n (by omega)
      have hkl : n < L0.length := by rw [HLM.out]; exact hlt
      have sL := HS2.out.below HB4.out
      obtain ⟨bL, oL, hL9, _⟩ := sL.2.2.2 (by rw [icells_length]; omega)
      subst hL9
      have HcL := hid (Sl.cell sL n hkl)
      clear sL
      obtain ⟨j, hj, j1, j2, j3⟩ := HGM.out n hlt
      have HYY := hid (show L ++ [nF (L0.getD n 0)] = (L0.take (n + 1)).map nF by rw [HO.out.1, HY.out n hlt])
      obtain ⟨b, off, hA, ct⟩ := HTX.out wr HBW.out j j1
      rw [hj] at HYY HcL
      have cL := HcL.out
      have j0 : ¬ (j : Int) < 0 := by omega
      have j9 : (j : Int) < (ms.length : Int) := by omega
      rw [hA] at p3
      clear hj hkl HcL j1 j2 j3 hA
      have HOW := hid HO.out.2
      clear HO
      generalize nF (j : Int) = s at *
      go_wp2_with (at_builtin; refine wpList_append_1 (W := w2) rfl (.tmp 15) (.tmp 21) 22 rfl w2.heap.size 9 Tryz.underlying22 info_str rfl (by omega) rfl HOW.out rfl (by rfl) (by simp [Value.oneCell']) ?e1 ?e2 HB4.out.size HB4.out ?_)
      case e1 => unfold maxLen; omega
      case e2 => omega
      intro v3 w3 ho3 hb3 _
      obtain ⟨A3, c3, rfl, _⟩ := Sl.of_own ho3
      have HO3 : Hid (L ++ [s] = (L0.take (n + 1)).map nF ∧ w3.ownsRow w2.heap.size 9 1 (.slice A3 (L ++ [s]).length c3) (L ++ [s]).length (scells (L ++ [s]))) := hid ⟨HYY.out, by rw [List.length_append, scells_append]; exact ho3⟩
      have HB5 := hid hb3
      have hL2 : L.length + 1 = (L ++ [s]).length := by simp
      rw [hL2]
      clear ho3 hb3 HOW HYY hL2 HB4 HBW HQ4 p0 p1 p2 p3 p4 p5 cL ct
      generalize L ++ [s] = L2 at *
      go_wp2
      go_roundw
      case rel => exact ⟨n + 1, A3, c3, L2, by omega, by go_num, rfl, HO3, HB5⟩
      case measure => simp [intOf]; omega
    · have hge : ¬ (n : Int) < (m : Int) := by omega
      obtain rfl : n = m := by omega
      have hLL : L = NL := by rw [HNV.out, HO.out.1]
      subst hLL
      have HAA := hid (HJA.out wr HBW.out A' c' (sl_own HO.out.2))
      obtain ⟨q0, q1, q2, q3, q4, q5, q6⟩ := seven_cellsJ HQ4.out
      clear HJA HO HQ4 HNV
      go_wp2_with fail
      refine HAA.out.mono ?_
      rintro e w4 ⟨rfl, hb⟩
      have HB5 := hid (HBW.out.trans (hb.mono HBW.out.size))
      clear HAA hb p0 p1 p2 p3 p4 p5 q0 q1 q2 q3 q4 q5 q6
      go_wp2
      go_ret
      exact ⟨rfl, HB5.out⟩

set_option maxRecDepth 20000 in
set_option maxHeartbeats 4000000 in
theorem round_any (x : Cf) (N : Option Addr) (nc : Nat) (K : Option Addr) (kc : Nat) (e : Ee) (TT : Nat) (G : Option Nat) (E : Nat) (l : List Nat) (W : World) (hC : CfAt W x N nc K kc) (hE : InE W e) (hl : e.1.ns.length ≤ 1000 ∧ e.1.bd.length ≤ 1000 ∧ e.1.dn.length ≤ 1000) (hs : ∀ s ∈ e.1.ns, s.length ≤ 1000) (hw : x.ws.length ≤ 1000) (hT : TapeG W TT G E l) (hG : ∀ g, G = some g → g < W.heap.size) (hll : l.length ≤ 1000) (hu : ∀ y ∈ l, y < 18446744073709551616) :
    Calls Tryz.prog 9 #[.pointer (some ⟨TT, 0, none⟩), .agg (cfc x N nc K kc), .agg (ecE e)] W fun q w' => ∃ A' c', q = .returned (.slice A' (rndL x e.1 l).length c') ∧ w'.ownsRow W.heap.size 3 1 (.slice A' (rndL x e.1 l).length c') (rndL x e.1 l).length (icells .i64 (rndL x e.1 l)) ∧ Only TT W w' := by
  have hol := openB_le e.1
  have HPB := hid (fun u (hu : RowKit.Below W.heap.size W u) => pbw_any x N nc K kc e u (hC.below hu) (hE.below hu) hl hs hw)
  have HOP := hid (fun u (hu : RowKit.Below W.heap.size W u) => bopen_any e u (hE.below hu) (by omega))
  have HSM := hid (fun u (hb : RowKit.Below W.heap.size W u) => show Calls Tryz.prog 28 #[.pointer (some ⟨TT, 0, none⟩), .int .u64 (workS x e.1 : Int), .int .i64 (2 * ((openB e.1).length : Int))] u fun q w' => ∃ v, q = .returned v ∧ w'.ownsRow u.heap.size 3 1 v (rndL x e.1 l).length (icells .i64 (rndL x e.1 l)) ∧ Only TT u w' from (someG TT G E l (workS x e.1) (2 * ((openB e.1).length : Int)) u (hT.below hb) (fun g hg => Nat.lt_of_lt_of_le (hG g hg) hb.size) hll hu (workS_lt _ _) (by omega)).mono fun q w' ⟨v, h1, h2, _, h3⟩ => ⟨v, h1, h2, h3⟩)
  have hTW := hT.lt
  have hw2 : IntKind.i64.wrap (2 * ((openB e.1).length : Int)) = 2 * ((openB e.1).length : Int) := by
    simp [IntKind.wrap, IntKind.bits, IntKind.signed]
    omega
  obtain ⟨⟨id, scE, ee, ms, bd, dn⟩, ⟨A1, ca, P, cb, D, cd⟩⟩ := e
  obtain ⟨sc, le, ag, ro, ou, T, ws⟩ := x
  simp only at HPB HOP HSM hw2 ⊢
  clear hC hE hs hw hl hT hG hll hu hol
  simp only [ecE, cfc] at *
  generalize rndL ⟨sc, le, ag, ro, ou, T, ws⟩ ⟨id, scE, ee, ms, bd, dn⟩ l = RL at *
  generalize workS ⟨sc, le, ag, ro, ou, T, ws⟩ ⟨id, scE, ee, ms, bd, dn⟩ = sW at *
  generalize openB ⟨id, scE, ee, ms, bd, dn⟩ = L0 at *
  go_enter Tryz.func9, Tryz.ntmps9
  go_upto_region 1 with (fail)
  refine at_world (fun u => u.heap[W.heap.size]? = some (.cells #[.int .i64 sc, .int .i64 le, .int .i64 ag, .int .i64 ro, .int .i64 ou, .slice N T.length nc, .slice K ws.length kc] 25 (0, 0)) ∧ u.heap[W.heap.size + 1]? = some (.cells #[.int .i64 id, .int .i64 scE, .int .i64 ee, .slice A1 ms.length ca, .slice P bd.length cb, .slice D dn.length cd] 29 (0, 0)) ∧ RowKit.Below W.heap.size W u) (lay2 W _ _) ?_
  rintro w1 ⟨hq, hj, hb⟩
  have HB := hid hb
  have HQ := hid hq
  have HJ := hid hj
  clear hq hj hb
  generalize hJ : W.heap.size + 1 = J at *
  have HJW := hid hJ.symm
  clear hJ
  generalize hQ : W.heap.size = Q at HQ
  have HQW := hid hQ.symm
  clear hQ
  have HTW : Hid (TT < Q ∧ TT < J ∧ TT < W.heap.size) := hid ⟨by rw [HQW.out]; exact hTW, by rw [HJW.out]; omega, hTW⟩
  clear hTW HQW HJW
  have hSV : ∀ U : World, U.heap[Q]? = some (.cells #[.int .i64 sc, .int .i64 le, .int .i64 ag, .int .i64 ro, .int .i64 ou, .slice N T.length nc, .slice K ws.length kc] 25 (0, 0)) → U.heap[J]? = some (.cells #[.int .i64 id, .int .i64 scE, .int .i64 ee, .slice A1 ms.length ca, .slice P bd.length cb, .slice D dn.length cd] 29 (0, 0)) → ((U.cell? ⟨Q, 0, none⟩ = some (.int .i64 sc) ∧ U.cell? ⟨Q, 1, none⟩ = some (.int .i64 le) ∧ U.cell? ⟨Q, 2, none⟩ = some (.int .i64 ag) ∧ U.cell? ⟨Q, 3, none⟩ = some (.int .i64 ro) ∧ U.cell? ⟨Q, 4, none⟩ = some (.int .i64 ou) ∧ U.cell? ⟨Q, 5, none⟩ = some (.slice N T.length nc) ∧ U.cell? ⟨Q, 6, none⟩ = some (.slice K ws.length kc)) ∧ (U.cell? ⟨J, 0, none⟩ = some (.int .i64 id) ∧ U.cell? ⟨J, 1, none⟩ = some (.int .i64 scE) ∧ U.cell? ⟨J, 2, none⟩ = some (.int .i64 ee) ∧ U.cell? ⟨J, 3, none⟩ = some (.slice A1 ms.length ca) ∧ U.cell? ⟨J, 4, none⟩ = some (.slice P bd.length cb) ∧ U.cell? ⟨J, 5, none⟩ = some (.slice D dn.length cd))) := fun U h1 h2 => ⟨seven_cellsJ h1, (six_cells h2).1⟩
  have hSU : ∀ U, RowKit.Below w1.heap.size w1 U → ((U.cell? ⟨Q, 0, none⟩ = some (.int .i64 sc) ∧ U.cell? ⟨Q, 1, none⟩ = some (.int .i64 le) ∧ U.cell? ⟨Q, 2, none⟩ = some (.int .i64 ag) ∧ U.cell? ⟨Q, 3, none⟩ = some (.int .i64 ro) ∧ U.cell? ⟨Q, 4, none⟩ = some (.int .i64 ou) ∧ U.cell? ⟨Q, 5, none⟩ = some (.slice N T.length nc) ∧ U.cell? ⟨Q, 6, none⟩ = some (.slice K ws.length kc)) ∧ (U.cell? ⟨J, 0, none⟩ = some (.int .i64 id) ∧ U.cell? ⟨J, 1, none⟩ = some (.int .i64 scE) ∧ U.cell? ⟨J, 2, none⟩ = some (.int .i64 ee) ∧ U.cell? ⟨J, 3, none⟩ = some (.slice A1 ms.length ca) ∧ U.cell? ⟨J, 4, none⟩ = some (.slice P bd.length cb) ∧ U.cell? ⟨J, 5, none⟩ = some (.slice D dn.length cd))) := fun U hU => ⟨seven_cellsJ (keep0 HQ.out hU), (six_cells (keep0 HJ.out hU)).1⟩
  have hk0 : RowKit.Below w1.heap.size w1 w1.drew := below_drew (RowKit.Below.refl _ _)
  refine wp_region_held_drew (S := fun U => (U.cell? ⟨Q, 0, none⟩ = some (.int .i64 sc) ∧ U.cell? ⟨Q, 1, none⟩ = some (.int .i64 le) ∧ U.cell? ⟨Q, 2, none⟩ = some (.int .i64 ag) ∧ U.cell? ⟨Q, 3, none⟩ = some (.int .i64 ro) ∧ U.cell? ⟨Q, 4, none⟩ = some (.int .i64 ou) ∧ U.cell? ⟨Q, 5, none⟩ = some (.slice N T.length nc) ∧ U.cell? ⟨Q, 6, none⟩ = some (.slice K ws.length kc)) ∧ (U.cell? ⟨J, 0, none⟩ = some (.int .i64 id) ∧ U.cell? ⟨J, 1, none⟩ = some (.int .i64 scE) ∧ U.cell? ⟨J, 2, none⟩ = some (.int .i64 ee) ∧ U.cell? ⟨J, 3, none⟩ = some (.slice A1 ms.length ca) ∧ U.cell? ⟨J, 4, none⟩ = some (.slice P bd.length cb) ∧ U.cell? ⟨J, 5, none⟩ = some (.slice D dn.length cd))) (by kernel_rfl) (hSU _ hk0) (fun hHeld => ?_)
  generalize w1.drew = k0 at *
  refine wpAnyH_take (i := 0) (v := ?_) rfl (by kernel_rfl) (by kernel_rfl) (by kernel_rfl) (fun _ _ _ h => h) (Or.inl ⟨by rfl, ?_⟩) (by assumption) ?_
  rotate_left
  focus
    intro U hU
    try dsimp only at hU
    go_simp
    try (with_reducible rfl)
  simp only [List.getElem_toArray, List.getElem_cons_succ, List.getElem_cons_zero, Act.put, List.setIfInBounds_toArray, List.set_cons_zero, List.set_cons_succ]
  refine wpAnyH_take (i := 1) (v := ?_) rfl (by kernel_rfl) (by kernel_rfl) (by kernel_rfl) (fun _ _ _ h => h) (Or.inl ⟨by rfl, ?_⟩) (by assumption) ?_
  rotate_left
  focus
    intro U hU
    try dsimp only at hU
    go_simp
    try (with_reducible rfl)
  simp only [List.getElem_toArray, List.getElem_cons_succ, List.getElem_cons_zero, Act.put, List.setIfInBounds_toArray, List.set_cons_zero, List.set_cons_succ]
  refine wpAnyH_take (i := 2) (v := ?_) rfl (by kernel_rfl) (by kernel_rfl) (by kernel_rfl) (fun _ _ _ h => h) (Or.inl ⟨by rfl, ?_⟩) (by assumption) ?_
  rotate_left
  focus
    intro U hU
    try dsimp only at hU
    go_simp
    try (with_reducible rfl)
  simp only [List.getElem_toArray, List.getElem_cons_succ, List.getElem_cons_zero, Act.put, List.setIfInBounds_toArray, List.set_cons_zero, List.set_cons_succ]
  refine wpAnyH_take (i := 4) (v := ?_) rfl (by kernel_rfl) (by kernel_rfl) (by kernel_rfl) (fun _ _ _ h => h) (Or.inl ⟨by rfl, ?_⟩) (by assumption) ?_
  rotate_left
  focus
    intro U hU
    try dsimp only at hU
    go_simp
    try (with_reducible rfl)
  simp only [List.getElem_toArray, List.getElem_cons_succ, List.getElem_cons_zero, Act.put, List.setIfInBounds_toArray, List.set_cons_zero, List.set_cons_succ]
  refine wpAnyH_ready (rs := [3]) (by kernel_rfl) (by simp) ?_
  refine AllReadyH.cons rfl (fun K hK => ?_) AllReadyH.nil
  simp only [List.getElem_toArray, List.getElem_cons_succ, List.getElem_cons_zero]
  go_simp
  refine (HPB.out k0 (HB.out.trans (hk0.mono HB.out.size))).mono ?_
  rintro q k1 ⟨rfl, hb1⟩
  have hk1 := hk0.trans (hb1.mono hk0.size)
  clear hb1
  go_wp2_with fail
  refine hK.out _ _ ?_ (fun hHeld2 => ?_)
  focus
    exact hSU _ hk1
  clear hHeld
  have hHeld := hHeld2
  clear hHeld2 hK K
  try simp only [List.getElem_toArray, List.getElem_cons_succ, List.getElem_cons_zero, Act.put, List.setIfInBounds_toArray, List.set_cons_zero, List.set_cons_succ]
  refine wpAnyH_ready (rs := [5]) (by kernel_rfl) (by simp) ?_
  refine AllReadyH.cons rfl (fun K hK => ?_) AllReadyH.nil
  simp only [List.getElem_toArray, List.getElem_cons_succ, List.getElem_cons_zero]
  go_simp
  refine (HOP.out k1 (HB.out.trans (hk1.mono HB.out.size))).mono ?_
  rintro q k2 ⟨A2, c2, rfl, _, hb1⟩
  have hk2 := hk1.trans (hb1.mono hk1.size)
  clear hb1
  go_wp2_with fail
  refine hK.out _ _ ?_ (fun hHeld2 => ?_)
  focus
    exact hSU _ hk2
  clear hHeld
  have hHeld := hHeld2
  clear hHeld2 hK K
  try simp only [List.getElem_toArray, List.getElem_cons_succ, List.getElem_cons_zero, Act.put, List.setIfInBounds_toArray, List.set_cons_zero, List.set_cons_succ]
  refine wpAnyH_take (i := 6) (v := ?_) rfl (by kernel_rfl) (by kernel_rfl) (by kernel_rfl) (fun _ _ _ h => h) (Or.inl ⟨by rfl, ?_⟩) (by assumption) ?_
  rotate_left
  focus
    intro U hU
    try dsimp only at hU
    go_simp
    try (with_reducible rfl)
  simp only [List.getElem_toArray, List.getElem_cons_succ, List.getElem_cons_zero, Act.put, List.setIfInBounds_toArray, List.set_cons_zero, List.set_cons_succ]
  refine wpAnyH_take (i := 7) (v := ?_) rfl (by kernel_rfl) (by kernel_rfl) (by kernel_rfl) (fun _ _ _ h => h) (Or.inl ⟨by rfl, ?_⟩) (by assumption) ?_
  rotate_left
  focus
    intro U hU
    try dsimp only at hU
    go_simp
    try (with_reducible rfl)
  simp only [List.getElem_toArray, List.getElem_cons_succ, List.getElem_cons_zero, Act.put, List.setIfInBounds_toArray, List.set_cons_zero, List.set_cons_succ]
  refine wpAnyH_ready (rs := [8]) (by kernel_rfl) (by simp) ?_
  refine AllReadyH.cons rfl (fun K hK => ?_) AllReadyH.nil
  simp only [List.getElem_toArray, List.getElem_cons_succ, List.getElem_cons_zero]
  go_simp
  refine (HSM.out k2 (HB.out.trans (hk2.mono HB.out.size))).mono ?_
  rintro q k3 ⟨v9, rfl, ho9, hO⟩
  obtain ⟨A9, c9, rfl, -⟩ := Sl.of_own ho9
  have hS3 := hSV k3 (hO.block (keep0 HQ.out hk2) (by have := HTW.out; omega)) (hO.block (keep0 HJ.out hk2) (by have := HTW.out; omega))
  go_wp2_with fail
  refine hK.out _ _ ?_ (fun hHeld2 => ?_)
  focus
    exact hS3
  clear hHeld
  have hHeld := hHeld2
  clear hHeld2 hK K
  try simp only [List.getElem_toArray, List.getElem_cons_succ, List.getElem_cons_zero, Act.put, List.setIfInBounds_toArray, List.set_cons_zero, List.set_cons_succ]
  refine wpAnyH_take (i := 9) (v := ?_) rfl (by kernel_rfl) (by kernel_rfl) (by kernel_rfl) (fun _ _ _ h => h) (Or.inl ⟨by rfl, ?_⟩) (by assumption) ?_
  rotate_left
  focus
    intro U hU
    try dsimp only at hU
    go_simp
    try (with_reducible rfl)
  simp only [List.getElem_toArray, List.getElem_cons_succ, List.getElem_cons_zero, Act.put, List.setIfInBounds_toArray, List.set_cons_zero, List.set_cons_succ]
  refine wpAnyH_done (by kernel_rfl) ?_ _
  go_wp2
  go_ret
  exact ⟨A9, c9, rfl, own_mono ho9 (HB.out.trans (hk2.mono HB.out.size)).size, (Only.of_below (HB.out.trans (hk2.mono HB.out.size))).trans hO⟩

theorem lay33b (W : World) (S I E : Obj) (hS : S = .cells #[.string ⟨#[42]⟩] 9) (hI : I = .cells #[.int .i64 0] 3) (hE : E = .cells (#[.int .i64 1, .int .i64 0, .int .i64 0, .slice (some ⟨W.heap.size, 0, none⟩) 1 1, .slice (some ⟨W.heap.size + 1, 0, none⟩) 1 1, .slice none 0 0]) 29) :
    InE (((W.alloc S).alloc I).alloc E) ((⟨1, 0, 0, [[42]], [0], []⟩ : En), ⟨some ⟨W.heap.size, 0, none⟩, 1, some ⟨W.heap.size + 1, 0, none⟩, 1, none, 0⟩) ∧ (((W.alloc S).alloc I).alloc E).heap[W.heap.size + 1 + 1]? = some (.cells (#[.int .i64 1, .int .i64 0, .int .i64 0, .slice (some ⟨W.heap.size, 0, none⟩) 1 1, .slice (some ⟨W.heap.size + 1, 0, none⟩) 1 1, .slice none 0 0]) 29 (0, 0)) ∧ RowKit.Below W.heap.size W (((W.alloc S).alloc I).alloc E) := by
  refine ⟨⟨⟨?_, ?_⟩, ?_, ?_⟩, ?_, bel_alloc (bel_alloc (bel_alloc (RowKit.Below.refl _ _) _) _) _⟩
  · subst hS
    exact ((Sl.lit W 9 1 1 #[.string ⟨#[42]⟩] rfl (by unfold maxLen; omega)).below (bel_alloc (bel_alloc (RowKit.Below.refl _ _) I) E) : Sl _ 1 _ 1 1 (scells [[42]]))
  · intro s h; simp at h; subst h; unfold maxLen; simp
  · subst hI
    have h9 : Sl _ 1 _ 1 1 (icells .i64 [0]) := (Sl.lit (W.alloc S) 3 1 1 #[.int .i64 0] rfl (by unfold maxLen; omega)).below (bel_alloc (RowKit.Below.refl _ _) E)
    rw [World.size_alloc] at h9
    exact h9
  · exact Sl.nil _ _ _ _ (Nat.zero_le _)
  · subst hE
    have h9 := heap_alloc_new ((W.alloc S).alloc I) (.cells (#[.int .i64 1, .int .i64 0, .int .i64 0, .slice (some ⟨W.heap.size, 0, none⟩) 1 1, .slice (some ⟨W.heap.size + 1, 0, none⟩) 1 1, .slice none 0 0]) 29)
    rw [World.size_alloc, World.size_alloc] at h9
    exact h9
theorem ex33a : workS (⟨0, 0, 0, 0, 0, [], [(0, 0, 0), (0, 0, 0), (0, 0, 0)]⟩ : Cf) (⟨1, 0, 0, [[42]], [0], []⟩ : En) = 7 := by kernel_rfl
theorem ex33b : rndL (⟨0, 0, 0, 0, 0, [], [(0, 0, 0), (0, 0, 0), (0, 0, 0)]⟩ : Cf) (⟨1, 0, 0, [[42]], [0], []⟩ : En) [2, 0] = [2, 0] := by kernel_rfl
end Go.Proofs.YtgakobolhmdnnaaGreat

namespace Go.Proofs.YtgakobolhmdnnaaGreat
open Go.RowKit Go.Sort
set_option linter.unusedVariables false
set_option linter.unusedSimpArgs false

set_option maxRecDepth 20000 in
set_option maxHeartbeats 3000000 in
theorem works33_any (W : World) : Calls Tryz.prog 7 #[] W fun e w' => e = .returned (.bool true) ∧ RowKit.Below W.heap.size W w' := by
  have HNW := hid (fun u A c (h : Sl u 1 A 2 c (ucells [2, 0])) => newG A 2 c [2, 0] u h (by omega))
  have HRD := hid (fun u KK AA BB TT G E (hC : CfAt u (⟨0, 0, 0, 0, 0, [], [(0, 0, 0), (0, 0, 0), (0, 0, 0)]⟩ : Cf) none 0 KK 3) (hE : InE u ((⟨1, 0, 0, [[42]], [0], []⟩ : En), ⟨AA, 1, BB, 1, none, 0⟩)) hT hG => round_any (⟨0, 0, 0, 0, 0, [], [(0, 0, 0), (0, 0, 0), (0, 0, 0)]⟩ : Cf) none 0 KK 3 ((⟨1, 0, 0, [[42]], [0], []⟩ : En), ⟨AA, 1, BB, 1, none, 0⟩) TT G E [2, 0] u hC hE (by simp) (by intro s h; simp at h; subst h; simp) (by simp) hT hG (by simp) (by intro y h; simp at h; omega))
  have HPB := hid (fun u KK AA BB (hC : CfAt u (⟨0, 0, 0, 0, 0, [], [(0, 0, 0), (0, 0, 0), (0, 0, 0)]⟩ : Cf) none 0 KK 3) (hE : InE u ((⟨1, 0, 0, [[42]], [0], []⟩ : En), ⟨AA, 1, BB, 1, none, 0⟩)) => pbw_any (⟨0, 0, 0, 0, 0, [], [(0, 0, 0), (0, 0, 0), (0, 0, 0)]⟩ : Cf) none 0 KK 3 ((⟨1, 0, 0, [[42]], [0], []⟩ : En), ⟨AA, 1, BB, 1, none, 0⟩) u hC hE (by simp) (by intro s h; simp at h; subst h; simp) (by simp))
  simp only [ex33a, ex33b, ecE, cfc, List.length_cons, List.length_nil, Nat.zero_add, Nat.reduceAdd] at HRD HPB
  have hmk1 := make_wk3
  go_enter Tryz.func7, Tryz.ntmps7
  go_upto_region 2 with (fail)
  refine at_world (fun u => CfAt u (⟨0, 0, 0, 0, 0, [], [(0, 0, 0), (0, 0, 0), (0, 0, 0)]⟩ : Cf) none 0 (some ⟨W.heap.size, 0, none⟩) 3 ∧ u.heap[W.heap.size + 1]? = some (.cells #[.int .i64 0, .int .i64 0, .int .i64 0, .int .i64 0, .int .i64 0, .slice none 0 0, .slice (some ⟨W.heap.size, 0, none⟩) 3 3] 25 (0, 0)) ∧ RowKit.Below W.heap.size W u) (lay34a W) ?_
  generalize (some (⟨W.heap.size, 0, none⟩ : Addr)) = KK at *
  generalize W.heap.size + 1 = Q at *
  rintro w1 ⟨hC, hq, hb⟩
  have HB := hid hb
  have HC := hid hC
  have HQ := hid hq
  clear hC hq hb hmk1
  go_upto_region 3 with (fail)
  refine at_world (fun u => InE u ((⟨1, 0, 0, [[42]], [0], []⟩ : En), ⟨some ⟨w1.heap.size, 0, none⟩, 1, some ⟨w1.heap.size + 1, 0, none⟩, 1, none, 0⟩) ∧ u.heap[w1.heap.size + 1 + 1]? = some (.cells #[.int .i64 1, .int .i64 0, .int .i64 0, .slice (some ⟨w1.heap.size, 0, none⟩) 1 1, .slice (some ⟨w1.heap.size + 1, 0, none⟩) 1 1, .slice none 0 0] 29 (0, 0)) ∧ RowKit.Below w1.heap.size w1 u) (lay33b w1 _ _ _ rfl rfl rfl) ?_
  generalize (some (⟨w1.heap.size, 0, none⟩ : Addr)) = AA at *
  generalize (some (⟨w1.heap.size + 1, 0, none⟩ : Addr)) = BB at *
  generalize w1.heap.size + 1 + 1 = J at *
  rintro w2 ⟨hE, hj, hb⟩
  have HB2 := hid (HB.out.trans (hb.mono HB.out.size))
  have HQ2 := hid (keep0 HQ.out hb)
  have HJ2 := hid hj
  have HRD2 := hid (fun u (hu : RowKit.Below w2.heap.size w2 u) TT G E hT hG => HRD.out u KK AA BB TT G E ((HC.out.below hb).below hu) (hE.below hu) hT hG)
  have HPB2 := hid (fun u (hu : RowKit.Below w2.heap.size w2 u) => HPB.out u KK AA BB ((HC.out.below hb).below hu) (hE.below hu))
  clear hE hj hb HB HC HQ HRD HPB
  have hSU : ∀ U, RowKit.Below w2.heap.size w2 U → ((U.cell? ⟨Q, 0, none⟩ = some (.int .i64 0) ∧ U.cell? ⟨Q, 1, none⟩ = some (.int .i64 0) ∧ U.cell? ⟨Q, 2, none⟩ = some (.int .i64 0) ∧ U.cell? ⟨Q, 3, none⟩ = some (.int .i64 0) ∧ U.cell? ⟨Q, 4, none⟩ = some (.int .i64 0) ∧ U.cell? ⟨Q, 5, none⟩ = some (.slice none 0 0) ∧ U.cell? ⟨Q, 6, none⟩ = some (.slice KK 3 3)) ∧ (U.cell? ⟨J, 0, none⟩ = some (.int .i64 1) ∧ U.cell? ⟨J, 1, none⟩ = some (.int .i64 0) ∧ U.cell? ⟨J, 2, none⟩ = some (.int .i64 0) ∧ U.cell? ⟨J, 3, none⟩ = some (.slice AA 1 1) ∧ U.cell? ⟨J, 4, none⟩ = some (.slice BB 1 1) ∧ U.cell? ⟨J, 5, none⟩ = some (.slice none 0 0))) := fun U hU => ⟨seven_cellsJ (keep0 HQ2.out hU), (six_cells (keep0 HJ2.out hU)).1⟩
  have hk0 : RowKit.Below w2.heap.size w2 w2.drew := below_drew (RowKit.Below.refl _ _)
  refine wp_region_held_drew (S := fun U => (U.cell? ⟨Q, 0, none⟩ = some (.int .i64 0) ∧ U.cell? ⟨Q, 1, none⟩ = some (.int .i64 0) ∧ U.cell? ⟨Q, 2, none⟩ = some (.int .i64 0) ∧ U.cell? ⟨Q, 3, none⟩ = some (.int .i64 0) ∧ U.cell? ⟨Q, 4, none⟩ = some (.int .i64 0) ∧ U.cell? ⟨Q, 5, none⟩ = some (.slice none 0 0) ∧ U.cell? ⟨Q, 6, none⟩ = some (.slice KK 3 3)) ∧ (U.cell? ⟨J, 0, none⟩ = some (.int .i64 1) ∧ U.cell? ⟨J, 1, none⟩ = some (.int .i64 0) ∧ U.cell? ⟨J, 2, none⟩ = some (.int .i64 0) ∧ U.cell? ⟨J, 3, none⟩ = some (.slice AA 1 1) ∧ U.cell? ⟨J, 4, none⟩ = some (.slice BB 1 1) ∧ U.cell? ⟨J, 5, none⟩ = some (.slice none 0 0))) (by kernel_rfl) (hSU _ hk0) (fun hHeld => ?_)
  generalize w2.drew = k0 at *
  refine wpAnyH_take (i := 2) (v := ?_) rfl (by kernel_rfl) (by kernel_rfl) (by kernel_rfl) (fun _ _ _ h => h) (Or.inl ⟨by rfl, ?_⟩) (by assumption) ?_
  rotate_left
  focus
    intro U hU
    try dsimp only at hU
    go_simp
    try (with_reducible rfl)
  simp only [List.getElem_toArray, List.getElem_cons_succ, List.getElem_cons_zero, Act.put, List.setIfInBounds_toArray, List.set_cons_zero, List.set_cons_succ]
  refine wpAnyH_take (i := 3) (v := ?_) rfl (by kernel_rfl) (by kernel_rfl) (by kernel_rfl) (fun _ _ _ h => h) (Or.inl ⟨by rfl, ?_⟩) (by assumption) ?_
  rotate_left
  focus
    intro U hU
    try dsimp only at hU
    go_simp
    try (with_reducible rfl)
  simp only [List.getElem_toArray, List.getElem_cons_succ, List.getElem_cons_zero, Act.put, List.setIfInBounds_toArray, List.set_cons_zero, List.set_cons_succ]
  refine wpAnyH_ready (rs := [0, 5]) (by kernel_rfl) (by simp) ?_
  refine (AllReadyH.cons rfl (fun K hK => ?_) (AllReadyH.cons rfl (fun K hK => ?_) AllReadyH.nil))
  · skip
    simp only [List.getElem_toArray, List.getElem_cons_succ, List.getElem_cons_zero]
    go_simp
    refine hK.out _ _ ?_ (fun hHeld2 => ?_)
    focus
      exact hSU _ (hk0.trans ((bel_alloc (RowKit.Below.refl _ _) _).mono hk0.size))
    clear hHeld
    have hHeld := hHeld2
    clear hHeld2 hK K
    try simp only [List.getElem_toArray, List.getElem_cons_succ, List.getElem_cons_zero, Act.put, List.setIfInBounds_toArray, List.set_cons_zero, List.set_cons_succ]
    have hb9 : RowKit.Below k0.heap.size k0 (k0.alloc (.cells #[.int .u64 2, .int .u64 0] 43)) := bel_alloc (RowKit.Below.refl _ _) _
    have hsA : Sl (k0.alloc (.cells #[.int .u64 2, .int .u64 0] 43)) 1 (some ⟨k0.heap.size, 0, none⟩) 2 2 (ucells [2, 0]) := Sl.lit k0 43 1 2 #[.int .u64 2, .int .u64 0] rfl (by unfold maxLen; omega)
    have hu1 := hk0.trans (hb9.mono hk0.size)
    clear hb9
    generalize k0.alloc (.cells #[.int .u64 2, .int .u64 0] 43) = u1 at *
    refine wpAnyH_ready (rs := [1, 5]) (by kernel_rfl) (by simp) ?_
    refine (AllReadyH.cons rfl (fun K hK => ?_) (AllReadyH.cons rfl (fun K hK => ?_) AllReadyH.nil))
    · skip
      simp only [List.getElem_toArray, List.getElem_cons_succ, List.getElem_cons_zero]
      go_simp
      refine (HNW.out u1 _ _ hsA).mono ?_
      rintro q u3 ⟨TT, G, E, rfl, hWT, hTG, hRG, hb1⟩
      have hu3 := hu1.trans (hb1.mono hu1.size)
      have hTT := Nat.le_trans hu1.size hWT
      clear hb1 hsA
      go_wp2_with fail
      refine hK.out _ _ ?_ (fun hHeld2 => ?_)
      focus
        exact hSU _ hu3
      clear hHeld
      have hHeld := hHeld2
      clear hHeld2 hK K
      try simp only [List.getElem_toArray, List.getElem_cons_succ, List.getElem_cons_zero, Act.put, List.setIfInBounds_toArray, List.set_cons_zero, List.set_cons_succ]
      refine wpAnyH_ready (rs := [4, 5]) (by kernel_rfl) (by simp) ?_
      refine (AllReadyH.cons rfl (fun K hK => ?_) (AllReadyH.cons rfl (fun K hK => ?_) AllReadyH.nil))
      · skip
        simp only [List.getElem_toArray, List.getElem_cons_succ, List.getElem_cons_zero]
        go_simp
        refine (HRD2.out u3 hu3 TT G E hTG (fun g hg => hRG.ltP hg)).mono ?_
        rintro q u5 ⟨A9, c9, rfl, ho9, hO⟩
        have hu5 := hu3.trans (hO.below w2.heap.size hTT hu3.size)
        have hs9 := sl_own ho9
        clear ho9 hO
        go_wp2_with fail
        refine hK.out _ _ ?_ (fun hHeld2 => ?_)
        focus
          exact hSU _ hu5
        clear hHeld
        have hHeld := hHeld2
        clear hHeld2 hK K
        try simp only [List.getElem_toArray, List.getElem_cons_succ, List.getElem_cons_zero, Act.put, List.setIfInBounds_toArray, List.set_cons_zero, List.set_cons_succ]
        refine wpAnyH_ready (rs := [5]) (by kernel_rfl) (by simp) ?_
        refine (AllReadyH.cons rfl (fun K hK => ?_) AllReadyH.nil)
        simp only [List.getElem_toArray, List.getElem_cons_succ, List.getElem_cons_zero]
        go_simp
        refine hK.out _ _ ?_ (fun hHeld2 => ?_)
        focus
          exact hSU _ (hu5.trans ((bel_alloc (RowKit.Below.refl _ _) _).mono hu5.size))
        clear hHeld
        have hHeld := hHeld2
        clear hHeld2 hK K
        try simp only [List.getElem_toArray, List.getElem_cons_succ, List.getElem_cons_zero, Act.put, List.setIfInBounds_toArray, List.set_cons_zero, List.set_cons_succ]
        have hb9 : RowKit.Below u5.heap.size u5 (u5.alloc (.cells #[.int .i64 2, .int .i64 0] 3)) := bel_alloc (RowKit.Below.refl _ _) _
        obtain ⟨gL, hgL⟩ : ∃ g, g = u5.heap.size := ⟨_, rfl⟩
        have hlit : Sl (u5.alloc (.cells #[.int .i64 2, .int .i64 0] 3)) 1 (some ⟨u5.heap.size, 0, none⟩) 2 2 (icells .i64 [2, 0]) := Sl.lit u5 3 1 2 #[.int .i64 2, .int .i64 0] rfl (by unfold maxLen; omega)
        rw [← hgL] at hlit
        have hgl : gL < (u5.alloc (.cells #[.int .i64 2, .int .i64 0] 3)).heap.size := by rw [hgL, World.size_alloc]; omega
        have hu7 := hu5.trans (hb9.mono hu5.size)
        replace hs9 := hs9.below hb9
        clear hb9
        generalize u5.alloc (.cells #[.int .i64 2, .int .i64 0] 3) = u7 at *
        refine wpAnyH_ready (rs := [6]) (by kernel_rfl) (by simp) ?_
        refine AllReadyH.cons rfl (fun K hK => ?_) AllReadyH.nil
        simp only [List.getElem_toArray, List.getElem_cons_succ, List.getElem_cons_zero]
        go_simp
        rw [hgL] at hlit
        have HSM := same06 _ _ _ _ _ _ [2, 0] [2, 0] u7 hs9 hlit (by omega) (by omega)
        rw [show (([2, 0] : List Int) == [2, 0]) = true from rfl] at HSM
        refine HSM.mono ?_
        rintro q v1 ⟨rfl, qq, rfl⟩
        have hkz : RowKit.Below w2.heap.size w2 (u7.drewN qq) := below_drewNP hu7 qq
        generalize u7.drewN qq = v1 at *
        go_wp2_with fail
        refine hK.out _ _ ?_ (fun hHeld2 => ?_)
        focus
          exact hSU _ hkz
        clear hHeld
        have hHeld := hHeld2
        clear hHeld2 hK K
        try simp only [List.getElem_toArray, List.getElem_cons_succ, List.getElem_cons_zero, Act.put, List.setIfInBounds_toArray, List.set_cons_zero, List.set_cons_succ]
        refine wpAnyH_take (i := 7) (v := ?_) rfl (by kernel_rfl) (by kernel_rfl) (by kernel_rfl) (fun _ _ _ h => h) (Or.inl ⟨by rfl, ?_⟩) (by assumption) ?_
        rotate_left
        focus
          intro U hU
          try dsimp only at hU
          go_simp
          try (with_reducible rfl)
        simp only [List.getElem_toArray, List.getElem_cons_succ, List.getElem_cons_zero, Act.put, List.setIfInBounds_toArray, List.set_cons_zero, List.set_cons_succ]
        refine wpAnyH_take (i := 8) (v := ?_) rfl (by kernel_rfl) (by kernel_rfl) (by kernel_rfl) (fun _ _ _ h => h) (Or.inl ⟨by rfl, ?_⟩) (by assumption) ?_
        rotate_left
        focus
          intro U hU
          try dsimp only at hU
          go_simp
          try (with_reducible rfl)
        simp only [List.getElem_toArray, List.getElem_cons_succ, List.getElem_cons_zero, Act.put, List.setIfInBounds_toArray, List.set_cons_zero, List.set_cons_succ]
        refine wpAnyH_take (i := 9) (v := ?_) rfl (by kernel_rfl) (by kernel_rfl) (by kernel_rfl) (fun _ _ _ h => h) (Or.inl ⟨by rfl, ?_⟩) (by assumption) ?_
        rotate_left
        focus
          intro U hU
          try dsimp only at hU
          go_simp
          try (with_reducible rfl)
        simp only [List.getElem_toArray, List.getElem_cons_succ, List.getElem_cons_zero, Act.put, List.setIfInBounds_toArray, List.set_cons_zero, List.set_cons_succ]
        refine wpAnyH_ready (rs := [10]) (by kernel_rfl) (by simp) ?_
        refine AllReadyH.cons rfl (fun K hK => ?_) AllReadyH.nil
        simp only [List.getElem_toArray, List.getElem_cons_succ, List.getElem_cons_zero]
        go_simp
        refine (HPB2.out v1 hkz).mono ?_
        rintro q v2 ⟨rfl, hb1⟩
        have hky := hkz.trans (hb1.mono hkz.size)
        clear hb1
        go_wp2_with fail
        refine hK.out _ _ ?_ (fun hHeld2 => ?_)
        focus
          exact hSU _ hky
        clear hHeld
        have hHeld := hHeld2
        clear hHeld2 hK K
        try simp only [List.getElem_toArray, List.getElem_cons_succ, List.getElem_cons_zero, Act.put, List.setIfInBounds_toArray, List.set_cons_zero, List.set_cons_succ]
        refine wpAnyH_take (i := 11) (v := ?_) rfl (by kernel_rfl) (by kernel_rfl) (by kernel_rfl) (fun _ _ _ h => h) (Or.inl ⟨by rfl, ?_⟩) (by assumption) ?_
        rotate_left
        focus
          intro U hU
          try dsimp only at hU
          go_simp
          try (with_reducible rfl)
        simp only [List.getElem_toArray, List.getElem_cons_succ, List.getElem_cons_zero, Act.put, List.setIfInBounds_toArray, List.set_cons_zero, List.set_cons_succ]
        refine wpAnyH_take (i := 12) (v := ?_) rfl (by kernel_rfl) (by kernel_rfl) (by kernel_rfl) (fun _ _ _ h => h) (Or.inl ⟨by rfl, ?_⟩) (by assumption) ?_
        rotate_left
        focus
          intro U hU
          try dsimp only at hU
          go_simp
          try (with_reducible rfl)
        simp only [List.getElem_toArray, List.getElem_cons_succ, List.getElem_cons_zero, Act.put, List.setIfInBounds_toArray, List.set_cons_zero, List.set_cons_succ]
        refine wpAnyH_take (i := 13) (v := ?_) rfl (by kernel_rfl) (by kernel_rfl) (by kernel_rfl) (fun _ _ _ h => h) (Or.inl ⟨by rfl, ?_⟩) (by assumption) ?_
        rotate_left
        focus
          intro U hU
          try dsimp only at hU
          go_simp
          try (with_reducible rfl)
        simp only [List.getElem_toArray, List.getElem_cons_succ, List.getElem_cons_zero, Act.put, List.setIfInBounds_toArray, List.set_cons_zero, List.set_cons_succ]
        refine wpAnyH_done (by kernel_rfl) ?_ _
        have HFIN := hid (HB2.out.trans (hky.mono HB2.out.size))
        clear hHeld hSU
        go_wp2
        go_ret
        exact ⟨rfl, HFIN.out⟩
      · skip
        simp only [List.getElem_toArray, List.getElem_cons_succ, List.getElem_cons_zero]
        go_simp
        refine hK.out _ _ ?_ (fun hHeld2 => ?_)
        focus
          exact hSU _ (hu3.trans ((bel_alloc (RowKit.Below.refl _ _) _).mono hu3.size))
        clear hHeld
        have hHeld := hHeld2
        clear hHeld2 hK K
        try simp only [List.getElem_toArray, List.getElem_cons_succ, List.getElem_cons_zero, Act.put, List.setIfInBounds_toArray, List.set_cons_zero, List.set_cons_succ]
        have hb9 : RowKit.Below u3.heap.size u3 (u3.alloc (.cells #[.int .i64 2, .int .i64 0] 3)) := bel_alloc (RowKit.Below.refl _ _) _
        obtain ⟨gL, hgL⟩ : ∃ g, g = u3.heap.size := ⟨_, rfl⟩
        have hlit : Sl (u3.alloc (.cells #[.int .i64 2, .int .i64 0] 3)) 1 (some ⟨u3.heap.size, 0, none⟩) 2 2 (icells .i64 [2, 0]) := Sl.lit u3 3 1 2 #[.int .i64 2, .int .i64 0] rfl (by unfold maxLen; omega)
        rw [← hgL] at hlit
        have hgl : gL < (u3.alloc (.cells #[.int .i64 2, .int .i64 0] 3)).heap.size := by rw [hgL, World.size_alloc]; omega
        have hu6 := hu3.trans (hb9.mono hu3.size)
        have hne : gL ≠ TT := by have := hTG.lt; omega
        replace hTG := hTG.below hb9
        replace hRG := hRG.below hb9
        clear hb9
        generalize u3.alloc (.cells #[.int .i64 2, .int .i64 0] 3) = u6 at *
        refine wpAnyH_ready (rs := [4]) (by kernel_rfl) (by simp) ?_
        refine (AllReadyH.cons rfl (fun K hK => ?_) AllReadyH.nil)
        simp only [List.getElem_toArray, List.getElem_cons_succ, List.getElem_cons_zero]
        go_simp
        refine (HRD2.out u6 hu6 TT G E hTG (fun g hg => hRG.ltP hg)).mono ?_
        rintro q u8 ⟨A9, c9, rfl, ho9, hO⟩
        have hu8 := hu6.trans (hO.below w2.heap.size hTT hu6.size)
        have hs9 := sl_own ho9
        replace hlit := hlit.onlyP (fun b off h => by cases h; exact hO.keep _ hne hgl)
        clear ho9 hO
        go_wp2_with fail
        refine hK.out _ _ ?_ (fun hHeld2 => ?_)
        focus
          exact hSU _ hu8
        clear hHeld
        have hHeld := hHeld2
        clear hHeld2 hK K
        try simp only [List.getElem_toArray, List.getElem_cons_succ, List.getElem_cons_zero, Act.put, List.setIfInBounds_toArray, List.set_cons_zero, List.set_cons_succ]
        refine wpAnyH_ready (rs := [6]) (by kernel_rfl) (by simp) ?_
        refine AllReadyH.cons rfl (fun K hK => ?_) AllReadyH.nil
        simp only [List.getElem_toArray, List.getElem_cons_succ, List.getElem_cons_zero]
        go_simp
        rw [hgL] at hlit
        have HSM := same06 _ _ _ _ _ _ [2, 0] [2, 0] u8 hs9 hlit (by omega) (by omega)
        rw [show (([2, 0] : List Int) == [2, 0]) = true from rfl] at HSM
        refine HSM.mono ?_
        rintro q v1 ⟨rfl, qq, rfl⟩
        have hkz : RowKit.Below w2.heap.size w2 (u8.drewN qq) := below_drewNP hu8 qq
        generalize u8.drewN qq = v1 at *
        go_wp2_with fail
        refine hK.out _ _ ?_ (fun hHeld2 => ?_)
        focus
          exact hSU _ hkz
        clear hHeld
        have hHeld := hHeld2
        clear hHeld2 hK K
        try simp only [List.getElem_toArray, List.getElem_cons_succ, List.getElem_cons_zero, Act.put, List.setIfInBounds_toArray, List.set_cons_zero, List.set_cons_succ]
        refine wpAnyH_take (i := 7) (v := ?_) rfl (by kernel_rfl) (by kernel_rfl) (by kernel_rfl) (fun _ _ _ h => h) (Or.inl ⟨by rfl, ?_⟩) (by assumption) ?_
        rotate_left
        focus
          intro U hU
          try dsimp only at hU
          go_simp
          try (with_reducible rfl)
        simp only [List.getElem_toArray, List.getElem_cons_succ, List.getElem_cons_zero, Act.put, List.setIfInBounds_toArray, List.set_cons_zero, List.set_cons_succ]
        refine wpAnyH_take (i := 8) (v := ?_) rfl (by kernel_rfl) (by kernel_rfl) (by kernel_rfl) (fun _ _ _ h => h) (Or.inl ⟨by rfl, ?_⟩) (by assumption) ?_
        rotate_left
        focus
          intro U hU
          try dsimp only at hU
          go_simp
          try (with_reducible rfl)
        simp only [List.getElem_toArray, List.getElem_cons_succ, List.getElem_cons_zero, Act.put, List.setIfInBounds_toArray, List.set_cons_zero, List.set_cons_succ]
        refine wpAnyH_take (i := 9) (v := ?_) rfl (by kernel_rfl) (by kernel_rfl) (by kernel_rfl) (fun _ _ _ h => h) (Or.inl ⟨by rfl, ?_⟩) (by assumption) ?_
        rotate_left
        focus
          intro U hU
          try dsimp only at hU
          go_simp
          try (with_reducible rfl)
        simp only [List.getElem_toArray, List.getElem_cons_succ, List.getElem_cons_zero, Act.put, List.setIfInBounds_toArray, List.set_cons_zero, List.set_cons_succ]
        refine wpAnyH_ready (rs := [10]) (by kernel_rfl) (by simp) ?_
        refine AllReadyH.cons rfl (fun K hK => ?_) AllReadyH.nil
        simp only [List.getElem_toArray, List.getElem_cons_succ, List.getElem_cons_zero]
        go_simp
        refine (HPB2.out v1 hkz).mono ?_
        rintro q v2 ⟨rfl, hb1⟩
        have hky := hkz.trans (hb1.mono hkz.size)
        clear hb1
        go_wp2_with fail
        refine hK.out _ _ ?_ (fun hHeld2 => ?_)
        focus
          exact hSU _ hky
        clear hHeld
        have hHeld := hHeld2
        clear hHeld2 hK K
        try simp only [List.getElem_toArray, List.getElem_cons_succ, List.getElem_cons_zero, Act.put, List.setIfInBounds_toArray, List.set_cons_zero, List.set_cons_succ]
        refine wpAnyH_take (i := 11) (v := ?_) rfl (by kernel_rfl) (by kernel_rfl) (by kernel_rfl) (fun _ _ _ h => h) (Or.inl ⟨by rfl, ?_⟩) (by assumption) ?_
        rotate_left
        focus
          intro U hU
          try dsimp only at hU
          go_simp
          try (with_reducible rfl)
        simp only [List.getElem_toArray, List.getElem_cons_succ, List.getElem_cons_zero, Act.put, List.setIfInBounds_toArray, List.set_cons_zero, List.set_cons_succ]
        refine wpAnyH_take (i := 12) (v := ?_) rfl (by kernel_rfl) (by kernel_rfl) (by kernel_rfl) (fun _ _ _ h => h) (Or.inl ⟨by rfl, ?_⟩) (by assumption) ?_
        rotate_left
        focus
          intro U hU
          try dsimp only at hU
          go_simp
          try (with_reducible rfl)
        simp only [List.getElem_toArray, List.getElem_cons_succ, List.getElem_cons_zero, Act.put, List.setIfInBounds_toArray, List.set_cons_zero, List.set_cons_succ]
        refine wpAnyH_take (i := 13) (v := ?_) rfl (by kernel_rfl) (by kernel_rfl) (by kernel_rfl) (fun _ _ _ h => h) (Or.inl ⟨by rfl, ?_⟩) (by assumption) ?_
        rotate_left
        focus
          intro U hU
          try dsimp only at hU
          go_simp
          try (with_reducible rfl)
        simp only [List.getElem_toArray, List.getElem_cons_succ, List.getElem_cons_zero, Act.put, List.setIfInBounds_toArray, List.set_cons_zero, List.set_cons_succ]
        refine wpAnyH_done (by kernel_rfl) ?_ _
        have HFIN := hid (HB2.out.trans (hky.mono HB2.out.size))
        clear hHeld hSU
        go_wp2
        go_ret
        exact ⟨rfl, HFIN.out⟩
    · skip
      simp only [List.getElem_toArray, List.getElem_cons_succ, List.getElem_cons_zero]
      go_simp
      refine hK.out _ _ ?_ (fun hHeld2 => ?_)
      focus
        exact hSU _ (hu1.trans ((bel_alloc (RowKit.Below.refl _ _) _).mono hu1.size))
      clear hHeld
      have hHeld := hHeld2
      clear hHeld2 hK K
      try simp only [List.getElem_toArray, List.getElem_cons_succ, List.getElem_cons_zero, Act.put, List.setIfInBounds_toArray, List.set_cons_zero, List.set_cons_succ]
      have hb9 : RowKit.Below u1.heap.size u1 (u1.alloc (.cells #[.int .i64 2, .int .i64 0] 3)) := bel_alloc (RowKit.Below.refl _ _) _
      obtain ⟨gL, hgL⟩ : ∃ g, g = u1.heap.size := ⟨_, rfl⟩
      have hlit : Sl (u1.alloc (.cells #[.int .i64 2, .int .i64 0] 3)) 1 (some ⟨u1.heap.size, 0, none⟩) 2 2 (icells .i64 [2, 0]) := Sl.lit u1 3 1 2 #[.int .i64 2, .int .i64 0] rfl (by unfold maxLen; omega)
      rw [← hgL] at hlit
      have hgl : gL < (u1.alloc (.cells #[.int .i64 2, .int .i64 0] 3)).heap.size := by rw [hgL, World.size_alloc]; omega
      have hu4 := hu1.trans (hb9.mono hu1.size)
      replace hsA := hsA.below hb9
      clear hb9
      generalize u1.alloc (.cells #[.int .i64 2, .int .i64 0] 3) = u4 at *
      refine wpAnyH_ready (rs := [1]) (by kernel_rfl) (by simp) ?_
      refine (AllReadyH.cons rfl (fun K hK => ?_) AllReadyH.nil)
      simp only [List.getElem_toArray, List.getElem_cons_succ, List.getElem_cons_zero]
      go_simp
      refine (HNW.out u4 _ _ hsA).mono ?_
      rintro q u9 ⟨TT, G, E, rfl, hWT, hTG, hRG, hb1⟩
      have hu9 := hu4.trans (hb1.mono hu4.size)
      have hTT := Nat.le_trans hu4.size hWT
      have hne : gL ≠ TT := by omega
      replace hlit := hlit.below hb1
      have hgl := Nat.lt_of_lt_of_le hgl hb1.size
      clear hb1 hsA
      go_wp2_with fail
      refine hK.out _ _ ?_ (fun hHeld2 => ?_)
      focus
        exact hSU _ hu9
      clear hHeld
      have hHeld := hHeld2
      clear hHeld2 hK K
      try simp only [List.getElem_toArray, List.getElem_cons_succ, List.getElem_cons_zero, Act.put, List.setIfInBounds_toArray, List.set_cons_zero, List.set_cons_succ]
      refine wpAnyH_ready (rs := [4]) (by kernel_rfl) (by simp) ?_
      refine (AllReadyH.cons rfl (fun K hK => ?_) AllReadyH.nil)
      simp only [List.getElem_toArray, List.getElem_cons_succ, List.getElem_cons_zero]
      go_simp
      refine (HRD2.out u9 hu9 TT G E hTG (fun g hg => hRG.ltP hg)).mono ?_
      rintro q u10 ⟨A9, c9, rfl, ho9, hO⟩
      have hu10 := hu9.trans (hO.below w2.heap.size hTT hu9.size)
      have hs9 := sl_own ho9
      replace hlit := hlit.onlyP (fun b off h => by cases h; exact hO.keep _ hne hgl)
      clear ho9 hO
      go_wp2_with fail
      refine hK.out _ _ ?_ (fun hHeld2 => ?_)
      focus
        exact hSU _ hu10
      clear hHeld
      have hHeld := hHeld2
      clear hHeld2 hK K
      try simp only [List.getElem_toArray, List.getElem_cons_succ, List.getElem_cons_zero, Act.put, List.setIfInBounds_toArray, List.set_cons_zero, List.set_cons_succ]
      refine wpAnyH_ready (rs := [6]) (by kernel_rfl) (by simp) ?_
      refine AllReadyH.cons rfl (fun K hK => ?_) AllReadyH.nil
      simp only [List.getElem_toArray, List.getElem_cons_succ, List.getElem_cons_zero]
      go_simp
      rw [hgL] at hlit
      have HSM := same06 _ _ _ _ _ _ [2, 0] [2, 0] u10 hs9 hlit (by omega) (by omega)
      rw [show (([2, 0] : List Int) == [2, 0]) = true from rfl] at HSM
      refine HSM.mono ?_
      rintro q v1 ⟨rfl, qq, rfl⟩
      have hkz : RowKit.Below w2.heap.size w2 (u10.drewN qq) := below_drewNP hu10 qq
      generalize u10.drewN qq = v1 at *
      go_wp2_with fail
      refine hK.out _ _ ?_ (fun hHeld2 => ?_)
      focus
        exact hSU _ hkz
      clear hHeld
      have hHeld := hHeld2
      clear hHeld2 hK K
      try simp only [List.getElem_toArray, List.getElem_cons_succ, List.getElem_cons_zero, Act.put, List.setIfInBounds_toArray, List.set_cons_zero, List.set_cons_succ]
      refine wpAnyH_take (i := 7) (v := ?_) rfl (by kernel_rfl) (by kernel_rfl) (by kernel_rfl) (fun _ _ _ h => h) (Or.inl ⟨by rfl, ?_⟩) (by assumption) ?_
      rotate_left
      focus
        intro U hU
        try dsimp only at hU
        go_simp
        try (with_reducible rfl)
      simp only [List.getElem_toArray, List.getElem_cons_succ, List.getElem_cons_zero, Act.put, List.setIfInBounds_toArray, List.set_cons_zero, List.set_cons_succ]
      refine wpAnyH_take (i := 8) (v := ?_) rfl (by kernel_rfl) (by kernel_rfl) (by kernel_rfl) (fun _ _ _ h => h) (Or.inl ⟨by rfl, ?_⟩) (by assumption) ?_
      rotate_left
      focus
        intro U hU
        try dsimp only at hU
        go_simp
        try (with_reducible rfl)
      simp only [List.getElem_toArray, List.getElem_cons_succ, List.getElem_cons_zero, Act.put, List.setIfInBounds_toArray, List.set_cons_zero, List.set_cons_succ]
      refine wpAnyH_take (i := 9) (v := ?_) rfl (by kernel_rfl) (by kernel_rfl) (by kernel_rfl) (fun _ _ _ h => h) (Or.inl ⟨by rfl, ?_⟩) (by assumption) ?_
      rotate_left
      focus
        intro U hU
        try dsimp only at hU
        go_simp
        try (with_reducible rfl)
      simp only [List.getElem_toArray, List.getElem_cons_succ, List.getElem_cons_zero, Act.put, List.setIfInBounds_toArray, List.set_cons_zero, List.set_cons_succ]
      refine wpAnyH_ready (rs := [10]) (by kernel_rfl) (by simp) ?_
      refine AllReadyH.cons rfl (fun K hK => ?_) AllReadyH.nil
      simp only [List.getElem_toArray, List.getElem_cons_succ, List.getElem_cons_zero]
      go_simp
      refine (HPB2.out v1 hkz).mono ?_
      rintro q v2 ⟨rfl, hb1⟩
      have hky := hkz.trans (hb1.mono hkz.size)
      clear hb1
      go_wp2_with fail
      refine hK.out _ _ ?_ (fun hHeld2 => ?_)
      focus
        exact hSU _ hky
      clear hHeld
      have hHeld := hHeld2
      clear hHeld2 hK K
      try simp only [List.getElem_toArray, List.getElem_cons_succ, List.getElem_cons_zero, Act.put, List.setIfInBounds_toArray, List.set_cons_zero, List.set_cons_succ]
      refine wpAnyH_take (i := 11) (v := ?_) rfl (by kernel_rfl) (by kernel_rfl) (by kernel_rfl) (fun _ _ _ h => h) (Or.inl ⟨by rfl, ?_⟩) (by assumption) ?_
      rotate_left
      focus
        intro U hU
        try dsimp only at hU
        go_simp
        try (with_reducible rfl)
      simp only [List.getElem_toArray, List.getElem_cons_succ, List.getElem_cons_zero, Act.put, List.setIfInBounds_toArray, List.set_cons_zero, List.set_cons_succ]
      refine wpAnyH_take (i := 12) (v := ?_) rfl (by kernel_rfl) (by kernel_rfl) (by kernel_rfl) (fun _ _ _ h => h) (Or.inl ⟨by rfl, ?_⟩) (by assumption) ?_
      rotate_left
      focus
        intro U hU
        try dsimp only at hU
        go_simp
        try (with_reducible rfl)
      simp only [List.getElem_toArray, List.getElem_cons_succ, List.getElem_cons_zero, Act.put, List.setIfInBounds_toArray, List.set_cons_zero, List.set_cons_succ]
      refine wpAnyH_take (i := 13) (v := ?_) rfl (by kernel_rfl) (by kernel_rfl) (by kernel_rfl) (fun _ _ _ h => h) (Or.inl ⟨by rfl, ?_⟩) (by assumption) ?_
      rotate_left
      focus
        intro U hU
        try dsimp only at hU
        go_simp
        try (with_reducible rfl)
      simp only [List.getElem_toArray, List.getElem_cons_succ, List.getElem_cons_zero, Act.put, List.setIfInBounds_toArray, List.set_cons_zero, List.set_cons_succ]
      refine wpAnyH_done (by kernel_rfl) ?_ _
      have HFIN := hid (HB2.out.trans (hky.mono HB2.out.size))
      clear hHeld hSU
      go_wp2
      go_ret
      exact ⟨rfl, HFIN.out⟩
  · skip
    simp only [List.getElem_toArray, List.getElem_cons_succ, List.getElem_cons_zero]
    go_simp
    refine hK.out _ _ ?_ (fun hHeld2 => ?_)
    focus
      exact hSU _ (hk0.trans ((bel_alloc (RowKit.Below.refl _ _) _).mono hk0.size))
    clear hHeld
    have hHeld := hHeld2
    clear hHeld2 hK K
    try simp only [List.getElem_toArray, List.getElem_cons_succ, List.getElem_cons_zero, Act.put, List.setIfInBounds_toArray, List.set_cons_zero, List.set_cons_succ]
    have hb9 : RowKit.Below k0.heap.size k0 (k0.alloc (.cells #[.int .i64 2, .int .i64 0] 3)) := bel_alloc (RowKit.Below.refl _ _) _
    obtain ⟨gL, hgL⟩ : ∃ g, g = k0.heap.size := ⟨_, rfl⟩
    have hlit : Sl (k0.alloc (.cells #[.int .i64 2, .int .i64 0] 3)) 1 (some ⟨k0.heap.size, 0, none⟩) 2 2 (icells .i64 [2, 0]) := Sl.lit k0 3 1 2 #[.int .i64 2, .int .i64 0] rfl (by unfold maxLen; omega)
    rw [← hgL] at hlit
    have hgl : gL < (k0.alloc (.cells #[.int .i64 2, .int .i64 0] 3)).heap.size := by rw [hgL, World.size_alloc]; omega
    have hu2 := hk0.trans (hb9.mono hk0.size)
    clear hb9
    generalize k0.alloc (.cells #[.int .i64 2, .int .i64 0] 3) = u2 at *
    refine wpAnyH_ready (rs := [0]) (by kernel_rfl) (by simp) ?_
    refine (AllReadyH.cons rfl (fun K hK => ?_) AllReadyH.nil)
    simp only [List.getElem_toArray, List.getElem_cons_succ, List.getElem_cons_zero]
    go_simp
    refine hK.out _ _ ?_ (fun hHeld2 => ?_)
    focus
      exact hSU _ (hu2.trans ((bel_alloc (RowKit.Below.refl _ _) _).mono hu2.size))
    clear hHeld
    have hHeld := hHeld2
    clear hHeld2 hK K
    try simp only [List.getElem_toArray, List.getElem_cons_succ, List.getElem_cons_zero, Act.put, List.setIfInBounds_toArray, List.set_cons_zero, List.set_cons_succ]
    have hb9 : RowKit.Below u2.heap.size u2 (u2.alloc (.cells #[.int .u64 2, .int .u64 0] 43)) := bel_alloc (RowKit.Below.refl _ _) _
    have hsA : Sl (u2.alloc (.cells #[.int .u64 2, .int .u64 0] 43)) 1 (some ⟨u2.heap.size, 0, none⟩) 2 2 (ucells [2, 0]) := Sl.lit u2 43 1 2 #[.int .u64 2, .int .u64 0] rfl (by unfold maxLen; omega)
    have hu11 := hu2.trans (hb9.mono hu2.size)
    replace hlit := hlit.below hb9
    have hgl := Nat.lt_of_lt_of_le hgl hb9.size
    clear hb9
    generalize u2.alloc (.cells #[.int .u64 2, .int .u64 0] 43) = u11 at *
    refine wpAnyH_ready (rs := [1]) (by kernel_rfl) (by simp) ?_
    refine (AllReadyH.cons rfl (fun K hK => ?_) AllReadyH.nil)
    simp only [List.getElem_toArray, List.getElem_cons_succ, List.getElem_cons_zero]
    go_simp
    refine (HNW.out u11 _ _ hsA).mono ?_
    rintro q u12 ⟨TT, G, E, rfl, hWT, hTG, hRG, hb1⟩
    have hu12 := hu11.trans (hb1.mono hu11.size)
    have hTT := Nat.le_trans hu11.size hWT
    have hne : gL ≠ TT := by omega
    replace hlit := hlit.below hb1
    have hgl := Nat.lt_of_lt_of_le hgl hb1.size
    clear hb1 hsA
    go_wp2_with fail
    refine hK.out _ _ ?_ (fun hHeld2 => ?_)
    focus
      exact hSU _ hu12
    clear hHeld
    have hHeld := hHeld2
    clear hHeld2 hK K
    try simp only [List.getElem_toArray, List.getElem_cons_succ, List.getElem_cons_zero, Act.put, List.setIfInBounds_toArray, List.set_cons_zero, List.set_cons_succ]
    refine wpAnyH_ready (rs := [4]) (by kernel_rfl) (by simp) ?_
    refine (AllReadyH.cons rfl (fun K hK => ?_) AllReadyH.nil)
    simp only [List.getElem_toArray, List.getElem_cons_succ, List.getElem_cons_zero]
    go_simp
    refine (HRD2.out u12 hu12 TT G E hTG (fun g hg => hRG.ltP hg)).mono ?_
    rintro q u13 ⟨A9, c9, rfl, ho9, hO⟩
    have hu13 := hu12.trans (hO.below w2.heap.size hTT hu12.size)
    have hs9 := sl_own ho9
    replace hlit := hlit.onlyP (fun b off h => by cases h; exact hO.keep _ hne hgl)
    clear ho9 hO
    go_wp2_with fail
    refine hK.out _ _ ?_ (fun hHeld2 => ?_)
    focus
      exact hSU _ hu13
    clear hHeld
    have hHeld := hHeld2
    clear hHeld2 hK K
    try simp only [List.getElem_toArray, List.getElem_cons_succ, List.getElem_cons_zero, Act.put, List.setIfInBounds_toArray, List.set_cons_zero, List.set_cons_succ]
    refine wpAnyH_ready (rs := [6]) (by kernel_rfl) (by simp) ?_
    refine AllReadyH.cons rfl (fun K hK => ?_) AllReadyH.nil
    simp only [List.getElem_toArray, List.getElem_cons_succ, List.getElem_cons_zero]
    go_simp
    rw [hgL] at hlit
    have HSM := same06 _ _ _ _ _ _ [2, 0] [2, 0] u13 hs9 hlit (by omega) (by omega)
    rw [show (([2, 0] : List Int) == [2, 0]) = true from rfl] at HSM
    refine HSM.mono ?_
    rintro q v1 ⟨rfl, qq, rfl⟩
    have hkz : RowKit.Below w2.heap.size w2 (u13.drewN qq) := below_drewNP hu13 qq
    generalize u13.drewN qq = v1 at *
    go_wp2_with fail
    refine hK.out _ _ ?_ (fun hHeld2 => ?_)
    focus
      exact hSU _ hkz
    clear hHeld
    have hHeld := hHeld2
    clear hHeld2 hK K
    try simp only [List.getElem_toArray, List.getElem_cons_succ, List.getElem_cons_zero, Act.put, List.setIfInBounds_toArray, List.set_cons_zero, List.set_cons_succ]
    refine wpAnyH_take (i := 7) (v := ?_) rfl (by kernel_rfl) (by kernel_rfl) (by kernel_rfl) (fun _ _ _ h => h) (Or.inl ⟨by rfl, ?_⟩) (by assumption) ?_
    rotate_left
    focus
      intro U hU
      try dsimp only at hU
      go_simp
      try (with_reducible rfl)
    simp only [List.getElem_toArray, List.getElem_cons_succ, List.getElem_cons_zero, Act.put, List.setIfInBounds_toArray, List.set_cons_zero, List.set_cons_succ]
    refine wpAnyH_take (i := 8) (v := ?_) rfl (by kernel_rfl) (by kernel_rfl) (by kernel_rfl) (fun _ _ _ h => h) (Or.inl ⟨by rfl, ?_⟩) (by assumption) ?_
    rotate_left
    focus
      intro U hU
      try dsimp only at hU
      go_simp
      try (with_reducible rfl)
    simp only [List.getElem_toArray, List.getElem_cons_succ, List.getElem_cons_zero, Act.put, List.setIfInBounds_toArray, List.set_cons_zero, List.set_cons_succ]
    refine wpAnyH_take (i := 9) (v := ?_) rfl (by kernel_rfl) (by kernel_rfl) (by kernel_rfl) (fun _ _ _ h => h) (Or.inl ⟨by rfl, ?_⟩) (by assumption) ?_
    rotate_left
    focus
      intro U hU
      try dsimp only at hU
      go_simp
      try (with_reducible rfl)
    simp only [List.getElem_toArray, List.getElem_cons_succ, List.getElem_cons_zero, Act.put, List.setIfInBounds_toArray, List.set_cons_zero, List.set_cons_succ]
    refine wpAnyH_ready (rs := [10]) (by kernel_rfl) (by simp) ?_
    refine AllReadyH.cons rfl (fun K hK => ?_) AllReadyH.nil
    simp only [List.getElem_toArray, List.getElem_cons_succ, List.getElem_cons_zero]
    go_simp
    refine (HPB2.out v1 hkz).mono ?_
    rintro q v2 ⟨rfl, hb1⟩
    have hky := hkz.trans (hb1.mono hkz.size)
    clear hb1
    go_wp2_with fail
    refine hK.out _ _ ?_ (fun hHeld2 => ?_)
    focus
      exact hSU _ hky
    clear hHeld
    have hHeld := hHeld2
    clear hHeld2 hK K
    try simp only [List.getElem_toArray, List.getElem_cons_succ, List.getElem_cons_zero, Act.put, List.setIfInBounds_toArray, List.set_cons_zero, List.set_cons_succ]
    refine wpAnyH_take (i := 11) (v := ?_) rfl (by kernel_rfl) (by kernel_rfl) (by kernel_rfl) (fun _ _ _ h => h) (Or.inl ⟨by rfl, ?_⟩) (by assumption) ?_
    rotate_left
    focus
      intro U hU
      try dsimp only at hU
      go_simp
      try (with_reducible rfl)
    simp only [List.getElem_toArray, List.getElem_cons_succ, List.getElem_cons_zero, Act.put, List.setIfInBounds_toArray, List.set_cons_zero, List.set_cons_succ]
    refine wpAnyH_take (i := 12) (v := ?_) rfl (by kernel_rfl) (by kernel_rfl) (by kernel_rfl) (fun _ _ _ h => h) (Or.inl ⟨by rfl, ?_⟩) (by assumption) ?_
    rotate_left
    focus
      intro U hU
      try dsimp only at hU
      go_simp
      try (with_reducible rfl)
    simp only [List.getElem_toArray, List.getElem_cons_succ, List.getElem_cons_zero, Act.put, List.setIfInBounds_toArray, List.set_cons_zero, List.set_cons_succ]
    refine wpAnyH_take (i := 13) (v := ?_) rfl (by kernel_rfl) (by kernel_rfl) (by kernel_rfl) (fun _ _ _ h => h) (Or.inl ⟨by rfl, ?_⟩) (by assumption) ?_
    rotate_left
    focus
      intro U hU
      try dsimp only at hU
      go_simp
      try (with_reducible rfl)
    simp only [List.getElem_toArray, List.getElem_cons_succ, List.getElem_cons_zero, Act.put, List.setIfInBounds_toArray, List.set_cons_zero, List.set_cons_succ]
    refine wpAnyH_done (by kernel_rfl) ?_ _
    have HFIN := hid (HB2.out.trans (hky.mono HB2.out.size))
    clear hHeld hSU
    go_wp2
    go_ret
    exact ⟨rfl, HFIN.out⟩
end Go.Proofs.YtgakobolhmdnnaaGreat

namespace Go.Proofs.YtgakobolhmdnnaaGreat
open Go.RowKit Go.Sort
set_option linter.unusedVariables false
set_option linter.unusedSimpArgs false

def rndT (x : Cf) (e : En) (l : List Nat) : List Nat := (pk (2 * ((openB e).length : Int)).toNat l (elems (workS x e))).2
set_option maxRecDepth 20000 in
set_option maxHeartbeats 4000000 in
theorem roundT_any (x : Cf) (N : Option Addr) (nc : Nat) (K : Option Addr) (kc : Nat) (e : Ee) (TT : Nat) (G : Option Nat) (E : Nat) (l : List Nat) (W : World) (hC : CfAt W x N nc K kc) (hE : InE W e) (hl : e.1.ns.length ≤ 1000 ∧ e.1.bd.length ≤ 1000 ∧ e.1.dn.length ≤ 1000) (hs : ∀ s ∈ e.1.ns, s.length ≤ 1000) (hw : x.ws.length ≤ 1000) (hT : TapeG W TT G E l) (hG : ∀ g, G = some g → g < W.heap.size) (hll : l.length ≤ 1000) (hu : ∀ y ∈ l, y < 18446744073709551616) :
    Calls Tryz.prog 9 #[.pointer (some ⟨TT, 0, none⟩), .agg (cfc x N nc K kc), .agg (ecE e)] W fun q w' => ∃ A' c', q = .returned (.slice A' (rndL x e.1 l).length c') ∧ w'.ownsRow W.heap.size 3 1 (.slice A' (rndL x e.1 l).length c') (rndL x e.1 l).length (icells .i64 (rndL x e.1 l)) ∧ TapeG w' TT G E (rndT x e.1 l) ∧ Only TT W w' := by
  have hol := openB_le e.1
  have HPB := hid (fun u (hu : RowKit.Below W.heap.size W u) => pbw_any x N nc K kc e u (hC.below hu) (hE.below hu) hl hs hw)
  have HOP := hid (fun u (hu : RowKit.Below W.heap.size W u) => bopen_any e u (hE.below hu) (by omega))
  have HSM := hid (fun u (hb : RowKit.Below W.heap.size W u) => show Calls Tryz.prog 28 #[.pointer (some ⟨TT, 0, none⟩), .int .u64 (workS x e.1 : Int), .int .i64 (2 * ((openB e.1).length : Int))] u fun q w' => ∃ v, q = .returned v ∧ w'.ownsRow u.heap.size 3 1 v (rndL x e.1 l).length (icells .i64 (rndL x e.1 l)) ∧ TapeG w' TT G E (rndT x e.1 l) ∧ Only TT u w' from someG TT G E l (workS x e.1) (2 * ((openB e.1).length : Int)) u (hT.below hb) (fun g hg => Nat.lt_of_lt_of_le (hG g hg) hb.size) hll hu (workS_lt _ _) (by omega))
  have hTW := hT.lt
  have hw2 : IntKind.i64.wrap (2 * ((openB e.1).length : Int)) = 2 * ((openB e.1).length : Int) := by
    simp [IntKind.wrap, IntKind.bits, IntKind.signed]
    omega
  obtain ⟨⟨id, scE, ee, ms, bd, dn⟩, ⟨A1, ca, P, cb, D, cd⟩⟩ := e
  obtain ⟨sc, le, ag, ro, ou, T, ws⟩ := x
  simp only at HPB HOP HSM hw2 ⊢
  clear hC hE hs hw hl hT hG hll hu hol
  simp only [ecE, cfc] at *
  generalize rndL ⟨sc, le, ag, ro, ou, T, ws⟩ ⟨id, scE, ee, ms, bd, dn⟩ l = RL at *
  generalize rndT ⟨sc, le, ag, ro, ou, T, ws⟩ ⟨id, scE, ee, ms, bd, dn⟩ l = RT at *
  generalize workS ⟨sc, le, ag, ro, ou, T, ws⟩ ⟨id, scE, ee, ms, bd, dn⟩ = sW at *
  generalize openB ⟨id, scE, ee, ms, bd, dn⟩ = L0 at *
  go_enter Tryz.func9, Tryz.ntmps9
  go_upto_region 1 with (fail)
  refine at_world (fun u => u.heap[W.heap.size]? = some (.cells #[.int .i64 sc, .int .i64 le, .int .i64 ag, .int .i64 ro, .int .i64 ou, .slice N T.length nc, .slice K ws.length kc] 25 (0, 0)) ∧ u.heap[W.heap.size + 1]? = some (.cells #[.int .i64 id, .int .i64 scE, .int .i64 ee, .slice A1 ms.length ca, .slice P bd.length cb, .slice D dn.length cd] 29 (0, 0)) ∧ RowKit.Below W.heap.size W u) (lay2 W _ _) ?_
  rintro w1 ⟨hq, hj, hb⟩
  have HB := hid hb
  have HQ := hid hq
  have HJ := hid hj
  clear hq hj hb
  generalize hJ : W.heap.size + 1 = J at *
  have HJW := hid hJ.symm
  clear hJ
  generalize hQ : W.heap.size = Q at HQ
  have HQW := hid hQ.symm
  clear hQ
  have HTW : Hid (TT < Q ∧ TT < J ∧ TT < W.heap.size) := hid ⟨by rw [HQW.out]; exact hTW, by rw [HJW.out]; omega, hTW⟩
  clear hTW HQW HJW
  have hSV : ∀ U : World, U.heap[Q]? = some (.cells #[.int .i64 sc, .int .i64 le, .int .i64 ag, .int .i64 ro, .int .i64 ou, .slice N T.length nc, .slice K ws.length kc] 25 (0, 0)) → U.heap[J]? = some (.cells #[.int .i64 id, .int .i64 scE, .int .i64 ee, .slice A1 ms.length ca, .slice P bd.length cb, .slice D dn.length cd] 29 (0, 0)) → ((U.cell? ⟨Q, 0, none⟩ = some (.int .i64 sc) ∧ U.cell? ⟨Q, 1, none⟩ = some (.int .i64 le) ∧ U.cell? ⟨Q, 2, none⟩ = some (.int .i64 ag) ∧ U.cell? ⟨Q, 3, none⟩ = some (.int .i64 ro) ∧ U.cell? ⟨Q, 4, none⟩ = some (.int .i64 ou) ∧ U.cell? ⟨Q, 5, none⟩ = some (.slice N T.length nc) ∧ U.cell? ⟨Q, 6, none⟩ = some (.slice K ws.length kc)) ∧ (U.cell? ⟨J, 0, none⟩ = some (.int .i64 id) ∧ U.cell? ⟨J, 1, none⟩ = some (.int .i64 scE) ∧ U.cell? ⟨J, 2, none⟩ = some (.int .i64 ee) ∧ U.cell? ⟨J, 3, none⟩ = some (.slice A1 ms.length ca) ∧ U.cell? ⟨J, 4, none⟩ = some (.slice P bd.length cb) ∧ U.cell? ⟨J, 5, none⟩ = some (.slice D dn.length cd))) := fun U h1 h2 => ⟨seven_cellsJ h1, (six_cells h2).1⟩
  have hSU : ∀ U, RowKit.Below w1.heap.size w1 U → ((U.cell? ⟨Q, 0, none⟩ = some (.int .i64 sc) ∧ U.cell? ⟨Q, 1, none⟩ = some (.int .i64 le) ∧ U.cell? ⟨Q, 2, none⟩ = some (.int .i64 ag) ∧ U.cell? ⟨Q, 3, none⟩ = some (.int .i64 ro) ∧ U.cell? ⟨Q, 4, none⟩ = some (.int .i64 ou) ∧ U.cell? ⟨Q, 5, none⟩ = some (.slice N T.length nc) ∧ U.cell? ⟨Q, 6, none⟩ = some (.slice K ws.length kc)) ∧ (U.cell? ⟨J, 0, none⟩ = some (.int .i64 id) ∧ U.cell? ⟨J, 1, none⟩ = some (.int .i64 scE) ∧ U.cell? ⟨J, 2, none⟩ = some (.int .i64 ee) ∧ U.cell? ⟨J, 3, none⟩ = some (.slice A1 ms.length ca) ∧ U.cell? ⟨J, 4, none⟩ = some (.slice P bd.length cb) ∧ U.cell? ⟨J, 5, none⟩ = some (.slice D dn.length cd))) := fun U hU => ⟨seven_cellsJ (keep0 HQ.out hU), (six_cells (keep0 HJ.out hU)).1⟩
  have hk0 : RowKit.Below w1.heap.size w1 w1.drew := below_drew (RowKit.Below.refl _ _)
  refine wp_region_held_drew (S := fun U => (U.cell? ⟨Q, 0, none⟩ = some (.int .i64 sc) ∧ U.cell? ⟨Q, 1, none⟩ = some (.int .i64 le) ∧ U.cell? ⟨Q, 2, none⟩ = some (.int .i64 ag) ∧ U.cell? ⟨Q, 3, none⟩ = some (.int .i64 ro) ∧ U.cell? ⟨Q, 4, none⟩ = some (.int .i64 ou) ∧ U.cell? ⟨Q, 5, none⟩ = some (.slice N T.length nc) ∧ U.cell? ⟨Q, 6, none⟩ = some (.slice K ws.length kc)) ∧ (U.cell? ⟨J, 0, none⟩ = some (.int .i64 id) ∧ U.cell? ⟨J, 1, none⟩ = some (.int .i64 scE) ∧ U.cell? ⟨J, 2, none⟩ = some (.int .i64 ee) ∧ U.cell? ⟨J, 3, none⟩ = some (.slice A1 ms.length ca) ∧ U.cell? ⟨J, 4, none⟩ = some (.slice P bd.length cb) ∧ U.cell? ⟨J, 5, none⟩ = some (.slice D dn.length cd))) (by kernel_rfl) (hSU _ hk0) (fun hHeld => ?_)
  generalize w1.drew = k0 at *
  refine wpAnyH_take (i := 0) (v := ?_) rfl (by kernel_rfl) (by kernel_rfl) (by kernel_rfl) (fun _ _ _ h => h) (Or.inl ⟨by rfl, ?_⟩) (by assumption) ?_
  rotate_left
  focus
    intro U hU
    try dsimp only at hU
    go_simp
    try (with_reducible rfl)
  simp only [List.getElem_toArray, List.getElem_cons_succ, List.getElem_cons_zero, Act.put, List.setIfInBounds_toArray, List.set_cons_zero, List.set_cons_succ]
  refine wpAnyH_take (i := 1) (v := ?_) rfl (by kernel_rfl) (by kernel_rfl) (by kernel_rfl) (fun _ _ _ h => h) (Or.inl ⟨by rfl, ?_⟩) (by assumption) ?_
  rotate_left
  focus
    intro U hU
    try dsimp only at hU
    go_simp
    try (with_reducible rfl)
  simp only [List.getElem_toArray, List.getElem_cons_succ, List.getElem_cons_zero, Act.put, List.setIfInBounds_toArray, List.set_cons_zero, List.set_cons_succ]
  refine wpAnyH_take (i := 2) (v := ?_) rfl (by kernel_rfl) (by kernel_rfl) (by kernel_rfl) (fun _ _ _ h => h) (Or.inl ⟨by rfl, ?_⟩) (by assumption) ?_
  rotate_left
  focus
    intro U hU
    try dsimp only at hU
    go_simp
    try (with_reducible rfl)
  simp only [List.getElem_toArray, List.getElem_cons_succ, List.getElem_cons_zero, Act.put, List.setIfInBounds_toArray, List.set_cons_zero, List.set_cons_succ]
  refine wpAnyH_take (i := 4) (v := ?_) rfl (by kernel_rfl) (by kernel_rfl) (by kernel_rfl) (fun _ _ _ h => h) (Or.inl ⟨by rfl, ?_⟩) (by assumption) ?_
  rotate_left
  focus
    intro U hU
    try dsimp only at hU
    go_simp
    try (with_reducible rfl)
  simp only [List.getElem_toArray, List.getElem_cons_succ, List.getElem_cons_zero, Act.put, List.setIfInBounds_toArray, List.set_cons_zero, List.set_cons_succ]
  refine wpAnyH_ready (rs := [3]) (by kernel_rfl) (by simp) ?_
  refine AllReadyH.cons rfl (fun K hK => ?_) AllReadyH.nil
  simp only [List.getElem_toArray, List.getElem_cons_succ, List.getElem_cons_zero]
  go_simp
  refine (HPB.out k0 (HB.out.trans (hk0.mono HB.out.size))).mono ?_
  rintro q k1 ⟨rfl, hb1⟩
  have hk1 := hk0.trans (hb1.mono hk0.size)
  clear hb1
  go_wp2_with fail
  refine hK.out _ _ ?_ (fun hHeld2 => ?_)
  focus
    exact hSU _ hk1
  clear hHeld
  have hHeld := hHeld2
  clear hHeld2 hK K
  try simp only [List.getElem_toArray, List.getElem_cons_succ, List.getElem_cons_zero, Act.put, List.setIfInBounds_toArray, List.set_cons_zero, List.set_cons_succ]
  refine wpAnyH_ready (rs := [5]) (by kernel_rfl) (by simp) ?_
  refine AllReadyH.cons rfl (fun K hK => ?_) AllReadyH.nil
  simp only [List.getElem_toArray, List.getElem_cons_succ, List.getElem_cons_zero]
  go_simp
  refine (HOP.out k1 (HB.out.trans (hk1.mono HB.out.size))).mono ?_
  rintro q k2 ⟨A2, c2, rfl, _, hb1⟩
  have hk2 := hk1.trans (hb1.mono hk1.size)
  clear hb1
  go_wp2_with fail
  refine hK.out _ _ ?_ (fun hHeld2 => ?_)
  focus
    exact hSU _ hk2
  clear hHeld
  have hHeld := hHeld2
  clear hHeld2 hK K
  try simp only [List.getElem_toArray, List.getElem_cons_succ, List.getElem_cons_zero, Act.put, List.setIfInBounds_toArray, List.set_cons_zero, List.set_cons_succ]
  refine wpAnyH_take (i := 6) (v := ?_) rfl (by kernel_rfl) (by kernel_rfl) (by kernel_rfl) (fun _ _ _ h => h) (Or.inl ⟨by rfl, ?_⟩) (by assumption) ?_
  rotate_left
  focus
    intro U hU
    try dsimp only at hU
    go_simp
    try (with_reducible rfl)
  simp only [List.getElem_toArray, List.getElem_cons_succ, List.getElem_cons_zero, Act.put, List.setIfInBounds_toArray, List.set_cons_zero, List.set_cons_succ]
  refine wpAnyH_take (i := 7) (v := ?_) rfl (by kernel_rfl) (by kernel_rfl) (by kernel_rfl) (fun _ _ _ h => h) (Or.inl ⟨by rfl, ?_⟩) (by assumption) ?_
  rotate_left
  focus
    intro U hU
    try dsimp only at hU
    go_simp
    try (with_reducible rfl)
  simp only [List.getElem_toArray, List.getElem_cons_succ, List.getElem_cons_zero, Act.put, List.setIfInBounds_toArray, List.set_cons_zero, List.set_cons_succ]
  refine wpAnyH_ready (rs := [8]) (by kernel_rfl) (by simp) ?_
  refine AllReadyH.cons rfl (fun K hK => ?_) AllReadyH.nil
  simp only [List.getElem_toArray, List.getElem_cons_succ, List.getElem_cons_zero]
  go_simp
  refine (HSM.out k2 (HB.out.trans (hk2.mono HB.out.size))).mono ?_
  rintro q k3 ⟨v9, rfl, ho9, hT9, hO⟩
  obtain ⟨A9, c9, rfl, -⟩ := Sl.of_own ho9
  have hS3 := hSV k3 (hO.block (keep0 HQ.out hk2) (by have := HTW.out; omega)) (hO.block (keep0 HJ.out hk2) (by have := HTW.out; omega))
  go_wp2_with fail
  refine hK.out _ _ ?_ (fun hHeld2 => ?_)
  focus
    exact hS3
  clear hHeld
  have hHeld := hHeld2
  clear hHeld2 hK K
  try simp only [List.getElem_toArray, List.getElem_cons_succ, List.getElem_cons_zero, Act.put, List.setIfInBounds_toArray, List.set_cons_zero, List.set_cons_succ]
  refine wpAnyH_take (i := 9) (v := ?_) rfl (by kernel_rfl) (by kernel_rfl) (by kernel_rfl) (fun _ _ _ h => h) (Or.inl ⟨by rfl, ?_⟩) (by assumption) ?_
  rotate_left
  focus
    intro U hU
    try dsimp only at hU
    go_simp
    try (with_reducible rfl)
  simp only [List.getElem_toArray, List.getElem_cons_succ, List.getElem_cons_zero, Act.put, List.setIfInBounds_toArray, List.set_cons_zero, List.set_cons_succ]
  refine wpAnyH_done (by kernel_rfl) ?_ _
  go_wp2
  go_ret
  exact ⟨A9, c9, rfl, own_mono ho9 (HB.out.trans (hk2.mono HB.out.size)).size, hT9, (Only.of_below (HB.out.trans (hk2.mono HB.out.size))).trans hO⟩

end Go.Proofs.YtgakobolhmdnnaaGreat

namespace Go.Proofs.YtgakobolhmdnnaaGreat
open Go.RowKit Go.Sort
set_option linter.unusedVariables false
set_option linter.unusedSimpArgs false

/-- What workers are told. -/
def toldL (e : En) (l : List Int) : List Ou := (l.filter fun w => decide (0 ≤ w ∧ w < 64)).map fun w => ⟨8 + w, 1, e.id, 0, e.ep⟩
theorem told_yes {e : En} {l : List Int} {k : Nat} (hk : k < l.length) (h : 0 ≤ l.getD k 0 ∧ l.getD k 0 < 64) : toldL e (l.take (k + 1)) = toldL e (l.take k) ++ [⟨8 + l.getD k 0, 1, e.id, 0, e.ep⟩] := by
  have e2 : l.getD k 0 = l[k] := by simp [List.getD, hk]
  rw [e2] at h ⊢
  unfold toldL
  rw [List.take_succ_eq_append_getElem hk, List.filter_append, List.map_append]
  simp [h]
theorem told_no {e : En} {l : List Int} {k : Nat} (hk : k < l.length) (h : ¬ (0 ≤ l.getD k 0 ∧ l.getD k 0 < 64)) : toldL e (l.take (k + 1)) = toldL e (l.take k) := by
  have e2 : l.getD k 0 = l[k] := by simp [List.getD, hk]
  rw [e2] at h
  unfold toldL
  rw [List.take_succ_eq_append_getElem hk, List.filter_append, List.map_append]
  simp [h]
theorem told_len (e : En) (l : List Int) (k : Nat) : (toldL e (l.take k)).length ≤ k := by
  unfold toldL
  rw [List.length_map]
  exact Nat.le_trans (List.length_filter_le _ _) (by rw [List.length_take]; omega)

set_option maxRecDepth 20000 in
set_option maxHeartbeats 4000000 in
theorem told_any (e : Ee) (A : Option Addr) (c : Nat) (l : List Int) (W : World) (hA : Sl W 1 A l.length c (icells .i64 l)) (hl : l.length ≤ 100000) :
    Calls Tryz.prog 18 #[.agg (ecE e), .slice A l.length c] W fun x w' => ∃ A' c', x = .returned (.slice A' (toldL e.1 l).length c') ∧ Sl w' 5 A' (toldL e.1 l).length c' (gcells ocl (toldL e.1 l)) ∧ RowKit.Below W.heap.size W w' := by
  have HA := hid hA
  have HY := hid (fun k (hk : k < l.length) h => told_yes (e := e.1) hk h)
  have HN := hid (fun k (hk : k < l.length) h => told_no (e := e.1) hk h)
  have HFL := hid (told_len e.1 l)
  have HEND : Hid (toldL e.1 (l.take l.length) = toldL e.1 l) := hid (by rw [List.take_length])
  obtain ⟨⟨id, sc, ee, ms, bd, dn⟩, ⟨A1, ca, P, cb, D, cd⟩⟩ := e
  simp only at HY HN HFL HEND ⊢
  clear hA
  simp only [ecE]
  generalize toldL ⟨id, sc, ee, ms, bd, dn⟩ = tL at *
  generalize hm : l.length = m at *
  have HM := hid hm
  clear hm
  go_enter Tryz.func18, Tryz.ntmps18
  go_upto_region 1 with (fail)
  refine at_world (fun u => u.heap[W.heap.size]? = some (.cells #[.int .i64 id, .int .i64 sc, .int .i64 ee, .slice A1 ms.length ca, .slice P bd.length cb, .slice D dn.length cd] 29 (0, 0)) ∧ RowKit.Below W.heap.size W u) ⟨heap_alloc_new _ _, (RowKit.Below.refl _ _).alloc (Nat.le_refl _) _⟩ ?_
  rintro w1 ⟨hx1, hb1⟩
  have HX1 := hid hx1
  have HB1 := hid hb1
  clear hx1 hb1
  go_wp2
  go_loopw [5, 7, 10] (fun v _ i wr => ∃ (n : Nat) (A' : Option Addr) (c' : Nat) (L : List Ou), n ≤ m ∧ i = .int .i64 (n : Int) ∧ v = .slice A' L.length c' ∧ Hid (L = tL (l.take n) ∧ wr.ownsRow w1.heap.size 74 5 (.slice A' L.length c') L.length (gcells ocl L)) ∧ Hid (RowKit.Below w1.heap.size w1 wr)) (fun _ _ i _ => m - (intOf i).toNat)
  case atStart => exact ⟨0, none, 0, [], by omega, rfl, rfl, ⟨by have h9 := HFL.out 0; exact (List.eq_nil_of_length_eq_zero (by omega)).symm, World.ownsRow_nil _ _ _ _⟩, RowKit.Below.refl _ _⟩
  case round =>
    obtain ⟨n, A', c', L, hn9, rfl, rfl, HO, HB⟩ := hrel
    have hLn : L.length ≤ n := by rw [HO.out.1]; exact HFL.out n
    by_cases hlt : n < m
    · have hlt2 : (n : Int) < (m : Int) := by omega
      have i0 : ¬ (n : Int) < 0 := by omega
      have hkl : n < l.length := by rw [HM.out]; exact hlt
      have HB9 := hid (HB1.out.trans (HB.out.mono HB1.out.size))
      have sL := HA.out.below HB9.out
      obtain ⟨bL, oL, hL9, _⟩ := sL.2.2.2 (by rw [icells_length]; omega)
      subst hL9
      have cL := Sl.cell sL n hkl
      have HYY := hid (HY.out n (by first | exact hlt | exact hkl))
      have HNN := hid (HN.out n (by first | exact hlt | exact hkl))
      clear sL hkl
      generalize l.getD n 0 = z at *
      have HX4 := hid (keep0 HX1.out HB.out)
      obtain ⟨⟨p0, p1, p2, p3, p4, p5⟩, _⟩ := six_cells HX4.out
      by_cases hz0 : 0 ≤ z
      case neg =>
        have hz1 : ¬ z ≥ 0 := hz0
        have HE := hid (HNN.out (fun h => hz0 h.1))
        clear HYY HNN
        go_wp2
        go_roundw
        case rel => exact ⟨n + 1, A', c', L, by omega, by go_num, rfl, hid ⟨HO.out.1.trans HE.out.symm, HO.out.2⟩, HB.out⟩
        case measure => simp [intOf]; omega
      have hz1 : z ≥ 0 := hz0
      by_cases hz2 : z < 64
      case neg =>
        have HE := hid (HNN.out (fun h => hz2 h.2))
        clear HYY HNN
        go_wp2
        go_roundw
        case rel => exact ⟨n + 1, A', c', L, by omega, by go_num, rfl, hid ⟨HO.out.1.trans HE.out.symm, HO.out.2⟩, HB.out⟩
        case measure => simp [intOf]; omega
      have HE := hid (HYY.out ⟨hz0, hz2⟩)
      clear HYY HNN
      have hw8 : IntKind.i64.wrap (8 + z) = 8 + z := by
        simp [IntKind.wrap, IntKind.bits, IntKind.signed]
        omega
      go_wp2_with (at_builtin; refine wpList_append_1k (W := w1) rfl (.tmp 20) (.tmp 29) 48 rfl w1.heap.size 74 Tryz.underlying48 info_out rfl (by omega) rfl HO.out.2 rfl (by rfl) (by simp [Value.oneCell']) ?e1 ?e2 HB.out.size HB.out ?_)
      case e1 => unfold maxLen; omega
      case e2 => omega
      intro v3 w3 ho3 hb3 _ _
      obtain ⟨A3, c3, rfl, _⟩ := Sl.of_own ho3
      have HO3 : Hid (L ++ [(⟨8 + z, 1, id, 0, ee⟩ : Ou)] = tL (l.take (n + 1)) ∧ w3.ownsRow w1.heap.size 74 5 (.slice A3 (L ++ [(⟨8 + z, 1, id, 0, ee⟩ : Ou)]).length c3) (L ++ [(⟨8 + z, 1, id, 0, ee⟩ : Ou)]).length (gcells ocl (L ++ [(⟨8 + z, 1, id, 0, ee⟩ : Ou)]))) := hid ⟨by rw [HE.out, ← HO.out.1], by rw [List.length_append, gcells_snoc]; exact ho3⟩
      have HB5 := hid hb3
      have hL2 : L.length + 1 = (L ++ [(⟨8 + z, 1, id, 0, ee⟩ : Ou)]).length := by simp
      rw [hL2]
      clear ho3 hb3 HE hL2
      generalize L ++ [(⟨8 + z, 1, id, 0, ee⟩ : Ou)] = L2 at *
      clear p0 p1 p2 p3 p4 p5
      go_wp2
      go_roundw
      case rel => exact ⟨n + 1, A3, c3, L2, by omega, by go_num, rfl, HO3, HB5⟩
      case measure => simp [intOf]; omega
    · have hge : ¬ (n : Int) < (m : Int) := by omega
      obtain rfl : n = m := by omega
      go_wp2
      go_ret
      obtain ⟨rfl, hO⟩ := HO.out
      rw [HEND.out] at hO
      exact ⟨A', c', by rw [HEND.out]; rfl, sl_own hO, HB1.out.trans (HB.out.mono HB1.out.size)⟩

set_option maxRecDepth 20000 in
set_option maxHeartbeats 4000000 in
theorem rtold_any (e : Ee) (A : Option Addr) (c : Nat) (l : List Int) (W : World) (hA : Sl W 1 A l.length c (icells .i64 l)) (hl : l.length ≤ 100000) :
    Calls Tryz.prog 19 #[.agg (ecE e), .slice A l.length c] W fun x w' => ∃ A' c', x = .returned (.slice A' (toldL e.1 l).length c') ∧ Sl w' 5 A' (toldL e.1 l).length c' (gcells ocl (toldL e.1 l)) ∧ RowKit.Below W.heap.size W w' := by
  have HA := hid hA
  have HY := hid (fun k (hk : k < l.length) h => told_yes (e := e.1) hk h)
  have HN := hid (fun k (hk : k < l.length) h => told_no (e := e.1) hk h)
  have HFL := hid (told_len e.1 l)
  have HEND : Hid (toldL e.1 (l.take l.length) = toldL e.1 l) := hid (by rw [List.take_length])
  obtain ⟨⟨id, sc, ee, ms, bd, dn⟩, ⟨A1, ca, P, cb, D, cd⟩⟩ := e
  simp only at HY HN HFL HEND ⊢
  clear hA
  simp only [ecE]
  generalize toldL ⟨id, sc, ee, ms, bd, dn⟩ = tL at *
  generalize hm : l.length = m at *
  have HM := hid hm
  clear hm
  go_enter Tryz.func19, Tryz.ntmps19
  go_upto_region 1 with (fail)
  refine at_world (fun u => u.heap[W.heap.size]? = some (.cells #[.int .i64 id, .int .i64 sc, .int .i64 ee, .slice A1 ms.length ca, .slice P bd.length cb, .slice D dn.length cd] 29 (0, 0)) ∧ RowKit.Below W.heap.size W u) ⟨heap_alloc_new _ _, (RowKit.Below.refl _ _).alloc (Nat.le_refl _) _⟩ ?_
  rintro w1 ⟨hx1, hb1⟩
  have HX1 := hid hx1
  have HB1 := hid hb1
  clear hx1 hb1
  go_wp2
  go_loopw [5, 6] (fun v i wr => ∃ (n : Nat) (A' : Option Addr) (c' : Nat) (L : List Ou), n ≤ m ∧ i = .int .i64 (n : Int) ∧ v = .slice A' L.length c' ∧ Hid (L = tL (l.take n) ∧ wr.ownsRow w1.heap.size 74 5 (.slice A' L.length c') L.length (gcells ocl L)) ∧ Hid (RowKit.Below w1.heap.size w1 wr)) (fun _ i _ => m - (intOf i).toNat)
  case atStart => exact ⟨0, none, 0, [], by omega, rfl, rfl, ⟨by have h9 := HFL.out 0; exact (List.eq_nil_of_length_eq_zero (by omega)).symm, World.ownsRow_nil _ _ _ _⟩, RowKit.Below.refl _ _⟩
  case round =>
    obtain ⟨n, A', c', L, hn9, rfl, rfl, HO, HB⟩ := hrel
    have hLn : L.length ≤ n := by rw [HO.out.1]; exact HFL.out n
    by_cases hlt : n < m
    · have hlt2 : (n : Int) < (m : Int) := by omega
      have i0 : ¬ (n : Int) < 0 := by omega
      have hkl : n < l.length := by rw [HM.out]; exact hlt
      have HB9 := hid (HB1.out.trans (HB.out.mono HB1.out.size))
      have sL := HA.out.below HB9.out
      obtain ⟨bL, oL, hL9, _⟩ := sL.2.2.2 (by rw [icells_length]; omega)
      subst hL9
      have cL := Sl.cell sL n hkl
      have HYY := hid (HY.out n (by first | exact hlt | exact hkl))
      have HNN := hid (HN.out n (by first | exact hlt | exact hkl))
      clear sL hkl
      have hzc : (icells .i64 l)[n]? = some (.int .i64 (l.getD n 0)) := by
        have h9 : n < l.length := by rw [HM.out]; exact hlt
        simp [icells, List.getD, h9]
      have HZC := hid hzc
      clear hzc
      generalize l.getD n 0 = z at *
      have HX4 := hid (keep0 HX1.out HB.out)
      obtain ⟨⟨p0, p1, p2, p3, p4, p5⟩, _⟩ := six_cells HX4.out
      by_cases hz0 : 0 ≤ z
      case neg =>
        have hz1 : ¬ z ≥ 0 := hz0
        have HE := hid (HNN.out (fun h => hz0 h.1))
        clear HYY HNN
        go_wp2
        go_roundw
        case rel => exact ⟨n + 1, A', c', L, by omega, by go_num, rfl, hid ⟨HO.out.1.trans HE.out.symm, HO.out.2⟩, HB.out⟩
        case measure => simp [intOf]; omega
      have hz1 : z ≥ 0 := hz0
      by_cases hz2 : z < 64
      case neg =>
        have HE := hid (HNN.out (fun h => hz2 h.2))
        clear HYY HNN
        go_wp2
        go_roundw
        case rel => exact ⟨n + 1, A', c', L, by omega, by go_num, rfl, hid ⟨HO.out.1.trans HE.out.symm, HO.out.2⟩, HB.out⟩
        case measure => simp [intOf]; omega
      have HE := hid (HYY.out ⟨hz0, hz2⟩)
      clear HYY HNN
      have hw8 : IntKind.i64.wrap (8 + z) = 8 + z := by
        simp [IntKind.wrap, IntKind.bits, IntKind.signed]
        omega
      have HCL := hid (fun U (hU : RowKit.Below w1.heap.size w1 U) => show U.cell? ⟨bL, oL + n, none⟩ = some (.int .i64 z) by
        have h9 := HA.out.below (HB1.out.trans (hU.mono HB1.out.size))
        have h8 := h9.2.2.2 (by rw [icells_length]; have := HM.out; omega)
        obtain ⟨b7, o7, h7, h6⟩ := h8
        cases h7
        exact (h6 n (by rw [icells_length]; have := HM.out; omega)).trans (by rw [← HZC.out]))
      have hS : ∀ U, RowKit.Below w1.heap.size w1 U → ((U.cell? ⟨W.heap.size, 0, none⟩ = some (.int .i64 id) ∧ U.cell? ⟨W.heap.size, 2, none⟩ = some (.int .i64 ee) ∧ U.cell? ⟨bL, oL + n, none⟩ = some (.int .i64 z)) ∧ RowKit.Below w1.heap.size w1 U) := fun U hU => ⟨⟨(six_cells (keep0 HX1.out hU)).1.1, (six_cells (keep0 HX1.out hU)).1.2.2.1, HCL.out U hU⟩, hU⟩
      clear p0 p1 p2 p3 p4 p5 HX4 HB9
      go_upto_region 6 with (fail)
      have hu0 : RowKit.Below w1.heap.size w1 wr.drew := HB.out.trans ((below_drew (RowKit.Below.refl _ _) : RowKit.Below wr.heap.size wr wr.drew).mono HB.out.size)
      have hO0 := own_keep HO.out.2 (below_drew (RowKit.Below.refl _ _) : RowKit.Below wr.heap.size wr wr.drew)
      refine wp_region_held_drew (S := fun U => (U.cell? ⟨W.heap.size, 0, none⟩ = some (.int .i64 id) ∧ U.cell? ⟨W.heap.size, 2, none⟩ = some (.int .i64 ee) ∧ U.cell? ⟨bL, oL + n, none⟩ = some (.int .i64 z)) ∧ RowKit.Below w1.heap.size w1 U) (by kernel_rfl) (hS _ hu0) (fun hHeld => ?_)
      generalize wr.drew = k0 at *
      have hu1 : RowKit.Below w1.heap.size w1 (k0.alloc (.cells #[.int .i64 (8 + z), .int .i64 1, .int .i64 id, .int .i64 0, .int .i64 ee] 74)) := hu0.trans ((bel_alloc (RowKit.Below.refl _ _) _ : RowKit.Below k0.heap.size k0 _).mono hu0.size)
      refine wpAnyH_take (i := 0) (v := ?_) rfl (by kernel_rfl) (by kernel_rfl) (by kernel_rfl) (fun _ _ _ h => h) (Or.inl ⟨by rfl, ?_⟩) (by assumption) ?_
      rotate_left
      focus
        intro U hU
        try dsimp only at hU
        go_simp
        try (with_reducible rfl)
      simp only [List.getElem_toArray, List.getElem_cons_succ, List.getElem_cons_zero, Act.put, List.setIfInBounds_toArray, List.set_cons_zero, List.set_cons_succ]
      refine wpAnyH_take (i := 1) (v := ?_) rfl (by kernel_rfl) (by kernel_rfl) (by kernel_rfl) (fun _ _ _ h => h) (Or.inl ⟨by rfl, ?_⟩) (by assumption) ?_
      rotate_left
      focus
        intro U hU
        try dsimp only at hU
        go_simp
        try (with_reducible rfl)
      simp only [List.getElem_toArray, List.getElem_cons_succ, List.getElem_cons_zero, Act.put, List.setIfInBounds_toArray, List.set_cons_zero, List.set_cons_succ]
      refine wpAnyH_take (i := 2) (v := ?_) rfl (by kernel_rfl) (by kernel_rfl) (by kernel_rfl) (fun _ _ _ h => h) (Or.inl ⟨by rfl, ?_⟩) (by assumption) ?_
      rotate_left
      focus
        intro U hU
        try dsimp only at hU
        go_simp
        try (with_reducible rfl)
      simp only [List.getElem_toArray, List.getElem_cons_succ, List.getElem_cons_zero, Act.put, List.setIfInBounds_toArray, List.set_cons_zero, List.set_cons_succ]
      refine wpAnyH_take (i := 3) (v := ?_) rfl (by kernel_rfl) (by kernel_rfl) (by kernel_rfl) (fun _ _ _ h => h) (Or.inl ⟨by rfl, ?_⟩) (by assumption) ?_
      rotate_left
      focus
        intro U hU
        try dsimp only at hU
        go_simp
        try (with_reducible rfl)
      simp only [List.getElem_toArray, List.getElem_cons_succ, List.getElem_cons_zero, Act.put, List.setIfInBounds_toArray, List.set_cons_zero, List.set_cons_succ]
      refine wpAnyH_take (i := 4) (v := ?_) rfl (by kernel_rfl) (by kernel_rfl) (by kernel_rfl) (fun _ _ _ h => h) (Or.inl ⟨by rfl, ?_⟩) (by assumption) ?_
      rotate_left
      focus
        intro U hU
        try dsimp only at hU
        go_simp
        try (with_reducible rfl)
      simp only [List.getElem_toArray, List.getElem_cons_succ, List.getElem_cons_zero, Act.put, List.setIfInBounds_toArray, List.set_cons_zero, List.set_cons_succ]
      refine wpAnyH_take (i := 5) (v := ?_) rfl (by kernel_rfl) (by kernel_rfl) (by kernel_rfl) (fun _ _ _ h => h) (Or.inl ⟨by rfl, ?_⟩) (by assumption) ?_
      rotate_left
      focus
        intro U hU
        try dsimp only at hU
        go_simp
        try (with_reducible rfl)
      simp only [List.getElem_toArray, List.getElem_cons_succ, List.getElem_cons_zero, Act.put, List.setIfInBounds_toArray, List.set_cons_zero, List.set_cons_succ]
      refine wpAnyH_take (i := 6) (v := ?_) rfl (by kernel_rfl) (by kernel_rfl) (by kernel_rfl) (fun _ _ _ h => h) (Or.inl ⟨by rfl, ?_⟩) (by assumption) ?_
      rotate_left
      focus
        intro U hU
        try dsimp only at hU
        go_simp
        try (with_reducible rfl)
      simp only [List.getElem_toArray, List.getElem_cons_succ, List.getElem_cons_zero, Act.put, List.setIfInBounds_toArray, List.set_cons_zero, List.set_cons_succ]
      refine wpAnyH_take (i := 7) (v := ?_) rfl (by kernel_rfl) (by kernel_rfl) (by kernel_rfl) (fun _ _ _ h => h) (Or.inl ⟨by rfl, ?_⟩) (by assumption) ?_
      rotate_left
      focus
        intro U hU
        try dsimp only at hU
        go_simp
        try (with_reducible rfl)
      simp only [List.getElem_toArray, List.getElem_cons_succ, List.getElem_cons_zero, Act.put, List.setIfInBounds_toArray, List.set_cons_zero, List.set_cons_succ]
      refine wpAnyH_take (i := 8) (v := ?_) rfl (by kernel_rfl) (by kernel_rfl) (by kernel_rfl) (fun _ _ _ h => h) (Or.inl ⟨by rfl, ?_⟩) (by assumption) ?_
      rotate_left
      focus
        intro U hU
        try dsimp only at hU
        go_simp
        try (with_reducible rfl)
      simp only [List.getElem_toArray, List.getElem_cons_succ, List.getElem_cons_zero, Act.put, List.setIfInBounds_toArray, List.set_cons_zero, List.set_cons_succ]
      refine wpAnyH_take (i := 9) (v := ?_) rfl (by kernel_rfl) (by kernel_rfl) (by kernel_rfl) (fun _ _ _ h => h) (Or.inl ⟨by rfl, ?_⟩) (by assumption) ?_
      rotate_left
      focus
        intro U hU
        try dsimp only at hU
        go_simp
        try (with_reducible rfl)
      simp only [List.getElem_toArray, List.getElem_cons_succ, List.getElem_cons_zero, Act.put, List.setIfInBounds_toArray, List.set_cons_zero, List.set_cons_succ]
      refine wpAnyH_take (i := 10) (v := ?_) rfl (by kernel_rfl) (by kernel_rfl) (by kernel_rfl) (fun _ _ _ h => h) (Or.inl ⟨by rfl, ?_⟩) (by assumption) ?_
      rotate_left
      focus
        intro U hU
        try dsimp only at hU
        go_simp
        try (with_reducible rfl)
      simp only [List.getElem_toArray, List.getElem_cons_succ, List.getElem_cons_zero, Act.put, List.setIfInBounds_toArray, List.set_cons_zero, List.set_cons_succ]
      refine wpAnyH_take (i := 11) (v := ?_) rfl (by kernel_rfl) (by kernel_rfl) (by kernel_rfl) (fun _ _ _ h => h) (Or.inl ⟨by rfl, ?_⟩) (by assumption) ?_
      rotate_left
      focus
        intro U hU
        try dsimp only at hU
        go_simp
        try (with_reducible rfl)
      simp only [List.getElem_toArray, List.getElem_cons_succ, List.getElem_cons_zero, Act.put, List.setIfInBounds_toArray, List.set_cons_zero, List.set_cons_succ]
      refine wpAnyH_ready (rs := [12]) (by kernel_rfl) (by simp) ?_
      refine (AllReadyH.cons rfl (fun K hK => ?_) AllReadyH.nil)
      simp only [List.getElem_toArray, List.getElem_cons_succ, List.getElem_cons_zero]
      go_simp
      refine hK.out _ _ ?_ (fun hHeld2 => ?_)
      focus
        exact hS _ hu1
      clear hHeld
      have hHeld := hHeld2
      clear hHeld2 hK K
      try simp only [List.getElem_toArray, List.getElem_cons_succ, List.getElem_cons_zero, Act.put, List.setIfInBounds_toArray, List.set_cons_zero, List.set_cons_succ]
      refine wpAnyH_ready (rs := [13]) (by kernel_rfl) (by simp) ?_
      refine (AllReadyH.cons rfl (fun K hK => ?_) AllReadyH.nil)
      refine step_append_sl rfl (.tmp 25) (.tmp 37) 48 rfl w1.heap.size 74 Tryz.underlying48 info_out rfl (by omega) rfl (own_keep hO0 (bel_alloc (RowKit.Below.refl _ _) _)) rfl (Sl.lit k0 74 5 1 #[.int .i64 (8 + z), .int .i64 1, .int .i64 id, .int .i64 0, .int .i64 ee] rfl (by unfold maxLen; omega)) (ocl_one ⟨8 + z, 1, id, 0, ee⟩) (show _ ≤ maxLen by unfold maxLen; omega) (show _ * 40 ≤ 140737488355328 by omega) hu1.size ?_
      intro v3 w3 ho3 hb3 _ _
      replace hb3 := hu1.trans hb3
      refine hK.out _ _ ?_ (fun hHeld2 => ?_)
      focus
        exact hS _ hb3
      clear hHeld
      have hHeld := hHeld2
      clear hHeld2 hK K
      try simp only [List.getElem_toArray, List.getElem_cons_succ, List.getElem_cons_zero, Act.put, List.setIfInBounds_toArray, List.set_cons_zero, List.set_cons_succ]
      refine wpAnyH_take (i := 14) (v := ?_) rfl (by kernel_rfl) (by kernel_rfl) (by kernel_rfl) (fun _ _ _ h => h) (Or.inl ⟨by rfl, ?_⟩) (by assumption) ?_
      rotate_left
      focus
        intro U hU
        try dsimp only at hU
        go_simp
        try (with_reducible rfl)
      simp only [List.getElem_toArray, List.getElem_cons_succ, List.getElem_cons_zero, Act.put, List.setIfInBounds_toArray, List.set_cons_zero, List.set_cons_succ]
      refine wpAnyH_done (by kernel_rfl) ?_ _
      clear hHeld hS
      obtain ⟨A3, c3, rfl, _⟩ := Sl.of_own ho3
      have HO3 : Hid (L ++ [(⟨8 + z, 1, id, 0, ee⟩ : Ou)] = tL (l.take (n + 1)) ∧ w3.ownsRow w1.heap.size 74 5 (.slice A3 (L ++ [(⟨8 + z, 1, id, 0, ee⟩ : Ou)]).length c3) (L ++ [(⟨8 + z, 1, id, 0, ee⟩ : Ou)]).length (gcells ocl (L ++ [(⟨8 + z, 1, id, 0, ee⟩ : Ou)]))) := hid ⟨by rw [HE.out, ← HO.out.1], by rw [List.length_append, gcells_snoc]; exact ho3⟩
      have HB5 := hid hb3
      have hL2 : L.length + 1 = (L ++ [(⟨8 + z, 1, id, 0, ee⟩ : Ou)]).length := by simp
      rw [hL2]
      clear ho3 hb3 HE hL2
      generalize L ++ [(⟨8 + z, 1, id, 0, ee⟩ : Ou)] = L2 at *
      go_wp2
      go_roundw
      case rel => exact ⟨n + 1, A3, c3, L2, by omega, by go_num, rfl, HO3, HB5⟩
      case measure => simp [intOf]; omega
    · have hge : ¬ (n : Int) < (m : Int) := by omega
      obtain rfl : n = m := by omega
      go_wp2
      go_ret
      obtain ⟨rfl, hO⟩ := HO.out
      rw [HEND.out] at hO
      exact ⟨A', c', by rw [HEND.out]; rfl, sl_own hO, HB1.out.trans (HB.out.mono HB1.out.size)⟩

set_option maxRecDepth 20000 in
set_option maxHeartbeats 4000000 in
theorem ropen33_any (e : Ee) (W : World) (hE : InE W e) (hl : e.1.ns.length ≤ 1000 ∧ e.1.bd.length ≤ 1000 ∧ e.1.dn.length ≤ 1000) :
    Calls Tryz.prog 16 #[.agg (ecE e)] W fun x w' => ∃ A' c', x = .returned (.slice A' (needsL e.1).length c') ∧ Sl w' 1 A' (needsL e.1).length c' (scells (needsL e.1)) ∧ RowKit.Below W.heap.size W w' := by
  have hol := openB_le e.1
  have HOP := hid (fun u (hu : RowKit.Below W.heap.size W u) => r20open_any e u (hE.below hu) (by omega))
  have HM := hid (fun y (hy : y ∈ openB e.1) => open_mem hy)
  have HTX := hid (fun u (hu : RowKit.Below W.heap.size W u) (j : Nat) (hj : j < e.1.ns.length) => show ∃ b off, e.2.A = some ⟨b, off, none⟩ ∧ u.cell? ⟨b, off + j, none⟩ = some (.string (str (needF e.1 (j : Int)))) by
    have e2 : needF e.1 (j : Int) = e.1.ns[j] := by simp [needF, List.getD, hj]
    rw [e2]
    exact text_at (hE.below hu).1 j hj)
  have hnv : needsL e.1 = ((openB e.1).take (openB e.1).length).map (needF e.1) := by rw [List.take_length]; rfl
  have hns := sl_len64 hE.1.1
  obtain ⟨⟨id, sc, ee, ms, bd, dn⟩, ⟨A1, ca, P, cb, D, cd⟩⟩ := e
  obtain ⟨l1, l2, l3⟩ := hl
  simp only at HOP HM HTX hnv hol l1 hns ⊢
  clear hE l2 l3
  simp only [ecE] at *
  generalize needsL ⟨id, sc, ee, ms, bd, dn⟩ = NL at *
  generalize needF ⟨id, sc, ee, ms, bd, dn⟩ = nF at *
  generalize openB ⟨id, sc, ee, ms, bd, dn⟩ = L0 at *
  have HNV := hid hnv
  clear hnv
  go_enter Tryz.func16, Tryz.ntmps16
  go_upto_region 1 with (fail)
  refine at_world (fun u => u.heap[W.heap.size]? = some (.cells #[.int .i64 id, .int .i64 sc, .int .i64 ee, .slice A1 ms.length ca, .slice P bd.length cb, .slice D dn.length cd] 29 (0, 0)) ∧ RowKit.Below W.heap.size W u) ⟨heap_alloc_new _ _, (RowKit.Below.refl _ _).alloc (Nat.le_refl _) _⟩ ?_
  rintro w1 ⟨hj, hb⟩
  have HB := hid hb
  have HJ := hid hj
  obtain ⟨⟨p0, p1, p2, p3, p4, p5⟩, _⟩ := six_cells hj
  clear hj hb
  go_wp2_with fail
  refine (HOP.out _ HB.out).mono ?_
  rintro e w2 ⟨A2, c2, rfl, hs2, hb2⟩
  have HS2 := hid hs2
  have HB2 := hid (HB.out.trans (hb2.mono HB.out.size))
  have HJ2 := hid (keep0 HJ.out hb2)
  clear hs2 hb2 HOP HJ HB p0 p1 p2 p3 p4 p5
  have HY := hid (fun k (hk : k < L0.length) => mtkP (f := nF) hk)
  have HGM := hid (fun k (hk : k < L0.length) => HM.out _ (getD_mem hk))
  have HFL := hid (fun k => show ((L0.take k).map nF).length ≤ k by rw [List.length_map, List.length_take]; omega)
  clear HM
  generalize hm : L0.length = m at *
  have HLM := hid hm
  clear hm
  go_wp2
  go_loopw [3, 5] (fun v i wr => ∃ (n : Nat) (A' : Option Addr) (c' : Nat) (L : List (List UInt8)), n ≤ m ∧ i = .int .i64 (n : Int) ∧ v = .slice A' L.length c' ∧ Hid (L = (L0.take n).map nF ∧ wr.ownsRow w2.heap.size 9 1 (.slice A' L.length c') L.length (scells L)) ∧ Hid (RowKit.Below w2.heap.size w2 wr)) (fun _ i _ => m - (intOf i).toNat)
  case atStart => exact ⟨0, none, 0, [], by omega, rfl, rfl, ⟨rfl, World.ownsRow_nil _ _ _ _⟩, RowKit.Below.refl _ _⟩
  case round =>
    obtain ⟨n, A', c', L, hn9, rfl, rfl, HO, HB4⟩ := hrel
    have hLn : L.length ≤ n := by rw [HO.out.1]; exact HFL.out n
    have HBW := hid (HB2.out.trans (HB4.out.mono HB2.out.size))
    by_cases hlt : n < m
    · have hlt2 : (n : Int) < (m : Int) := by omega
      have i0 : ¬ (n : Int) < 0 := by omega
      have hkl : n < L0.length := by rw [HLM.out]; exact hlt
      have HCL := hid (fun U (hU : RowKit.Below w2.heap.size w2 U) => show ∃ bL oL, A2 = some ⟨bL, oL, none⟩ ∧ U.cell? ⟨bL, oL + n, none⟩ = some (.int .i64 (L0.getD n 0)) by
        have h9 := HS2.out.below hU
        obtain ⟨b7, o7, h7, h6⟩ := h9.2.2.2 (by rw [icells_length]; omega)
        refine ⟨b7, o7, h7, (h6 n (by rw [icells_length]; omega)).trans ?_⟩
        simp [icells, List.getD, hkl])
      have HYY := hid (show L ++ [nF (L0.getD n 0)] = (L0.take (n + 1)).map nF by rw [HO.out.1, HY.out n (by first | exact hlt | exact hkl)])
      obtain ⟨j, hj, j1, j2, j3⟩ := HGM.out n (by first | exact hlt | exact hkl)
      rw [hj] at HYY
      rw [Hid] at HCL
      simp only [hj] at HCL
      have HCL := hid HCL
      obtain ⟨bL, oL, hA2, _⟩ := HCL.out w2 (RowKit.Below.refl _ _)
      have HT9 := hid (fun U (hU : RowKit.Below w2.heap.size w2 U) => HTX.out U (HB2.out.trans (hU.mono HB2.out.size)) j j1)
      obtain ⟨bT, oT, hA1, _⟩ := HT9.out w2 (RowKit.Below.refl _ _)
      have HA2 := hid hA2
      have HA1 := hid hA1
      rw [hA2]
      clear hj hkl j2 j3 HGM
      have hjm : (j : Int) < (ms.length : Int) := by omega
      have j0 : ¬ (j : Int) < 0 := by omega
      generalize nF (j : Int) = s at *
      have hS : ∀ U, RowKit.Below w2.heap.size w2 U → ((U.cell? ⟨W.heap.size, 3, none⟩ = some (.slice (some ⟨bT, oT, none⟩) ms.length ca) ∧ U.cell? ⟨bL, oL + n, none⟩ = some (.int .i64 (j : Int)) ∧ U.cell? ⟨bT, oT + j, none⟩ = some (.string (str s))) ∧ RowKit.Below w2.heap.size w2 U) := fun U hU => ⟨⟨by have h9 := (six_cells (keep0 HJ2.out hU)).1.2.2.2.1; rw [HA1.out] at h9; exact h9, by
        obtain ⟨b7, o7, h7, h6⟩ := HCL.out U hU
        rw [HA2.out] at h7
        cases h7
        exact h6, by
        obtain ⟨b7, o7, h7, h6⟩ := HT9.out U hU
        rw [HA1.out] at h7
        cases h7
        exact h6⟩, hU⟩
      go_upto_region 6 with (fail)
      have hu0 : RowKit.Below w2.heap.size w2 wr.drew := HB4.out.trans ((below_drew (RowKit.Below.refl _ _) : RowKit.Below wr.heap.size wr wr.drew).mono HB4.out.size)
      have hO0 := own_keep HO.out.2 (below_drew (RowKit.Below.refl _ _) : RowKit.Below wr.heap.size wr wr.drew)
      clear HBW hA1 hA2
      refine wp_region_held_drew (S := fun U => (U.cell? ⟨W.heap.size, 3, none⟩ = some (.slice (some ⟨bT, oT, none⟩) ms.length ca) ∧ U.cell? ⟨bL, oL + n, none⟩ = some (.int .i64 (j : Int)) ∧ U.cell? ⟨bT, oT + j, none⟩ = some (.string (str s))) ∧ RowKit.Below w2.heap.size w2 U) (by kernel_rfl) (hS _ hu0) (fun hHeld => ?_)
      generalize wr.drew = k0 at *
      have hu1 : RowKit.Below w2.heap.size w2 (k0.alloc (.cells #[.string (str s)] 9)) := hu0.trans ((bel_alloc (RowKit.Below.refl _ _) _ : RowKit.Below k0.heap.size k0 _).mono hu0.size)
      refine wpAnyH_take (i := 0) (v := ?_) rfl (by kernel_rfl) (by kernel_rfl) (by kernel_rfl) (fun _ _ _ h => h) (Or.inl ⟨by rfl, ?_⟩) (by assumption) ?_
      rotate_left
      focus
        intro U hU
        try dsimp only at hU
        go_simp
        try (with_reducible rfl)
      simp only [List.getElem_toArray, List.getElem_cons_succ, List.getElem_cons_zero, Act.put, List.setIfInBounds_toArray, List.set_cons_zero, List.set_cons_succ]
      refine wpAnyH_take (i := 1) (v := ?_) rfl (by kernel_rfl) (by kernel_rfl) (by kernel_rfl) (fun _ _ _ h => h) (Or.inl ⟨by rfl, ?_⟩) (by assumption) ?_
      rotate_left
      focus
        intro U hU
        try dsimp only at hU
        go_simp
        try (with_reducible rfl)
      simp only [List.getElem_toArray, List.getElem_cons_succ, List.getElem_cons_zero, Act.put, List.setIfInBounds_toArray, List.set_cons_zero, List.set_cons_succ]
      refine wpAnyH_take (i := 2) (v := ?_) rfl (by kernel_rfl) (by kernel_rfl) (by kernel_rfl) (fun _ _ _ h => h) (Or.inl ⟨by rfl, ?_⟩) (by assumption) ?_
      rotate_left
      focus
        intro U hU
        try dsimp only at hU
        go_simp
        try (with_reducible rfl)
      simp only [List.getElem_toArray, List.getElem_cons_succ, List.getElem_cons_zero, Act.put, List.setIfInBounds_toArray, List.set_cons_zero, List.set_cons_succ]
      refine wpAnyH_take (i := 3) (v := ?_) rfl (by kernel_rfl) (by kernel_rfl) (by kernel_rfl) (fun _ _ _ h => h) (Or.inl ⟨by rfl, ?_⟩) (by assumption) ?_
      rotate_left
      focus
        intro U hU
        try dsimp only at hU
        go_simp
        try (with_reducible rfl)
      simp only [List.getElem_toArray, List.getElem_cons_succ, List.getElem_cons_zero, Act.put, List.setIfInBounds_toArray, List.set_cons_zero, List.set_cons_succ]
      refine wpAnyH_take (i := 4) (v := ?_) rfl (by kernel_rfl) (by kernel_rfl) (by kernel_rfl) (fun _ _ _ h => h) (Or.inl ⟨by rfl, ?_⟩) (by assumption) ?_
      rotate_left
      focus
        intro U hU
        try dsimp only at hU
        go_simp
        try (with_reducible rfl)
      simp only [List.getElem_toArray, List.getElem_cons_succ, List.getElem_cons_zero, Act.put, List.setIfInBounds_toArray, List.set_cons_zero, List.set_cons_succ]
      refine wpAnyH_take (i := 5) (v := ?_) rfl (by kernel_rfl) (by kernel_rfl) (by kernel_rfl) (fun _ _ _ h => h) (Or.inl ⟨by rfl, ?_⟩) (by assumption) ?_
      rotate_left
      focus
        intro U hU
        try dsimp only at hU
        go_simp
        try (with_reducible rfl)
      simp only [List.getElem_toArray, List.getElem_cons_succ, List.getElem_cons_zero, Act.put, List.setIfInBounds_toArray, List.set_cons_zero, List.set_cons_succ]
      refine wpAnyH_take (i := 6) (v := ?_) rfl (by kernel_rfl) (by kernel_rfl) (by kernel_rfl) (fun _ _ _ h => h) (Or.inl ⟨by rfl, ?_⟩) (by assumption) ?_
      rotate_left
      focus
        intro U hU
        try dsimp only at hU
        go_simp
        try (with_reducible rfl)
      simp only [List.getElem_toArray, List.getElem_cons_succ, List.getElem_cons_zero, Act.put, List.setIfInBounds_toArray, List.set_cons_zero, List.set_cons_succ]
      refine wpAnyH_take (i := 7) (v := ?_) rfl (by kernel_rfl) (by kernel_rfl) (by kernel_rfl) (fun _ _ _ h => h) (Or.inl ⟨by rfl, ?_⟩) (by assumption) ?_
      rotate_left
      focus
        intro U hU
        try dsimp only at hU
        go_simp
        try (with_reducible rfl)
      simp only [List.getElem_toArray, List.getElem_cons_succ, List.getElem_cons_zero, Act.put, List.setIfInBounds_toArray, List.set_cons_zero, List.set_cons_succ]
      refine wpAnyH_take (i := 8) (v := ?_) rfl (by kernel_rfl) (by kernel_rfl) (by kernel_rfl) (fun _ _ _ h => h) (Or.inl ⟨by rfl, ?_⟩) (by assumption) ?_
      rotate_left
      focus
        intro U hU
        try dsimp only at hU
        go_simp
        try (with_reducible rfl)
      simp only [List.getElem_toArray, List.getElem_cons_succ, List.getElem_cons_zero, Act.put, List.setIfInBounds_toArray, List.set_cons_zero, List.set_cons_succ]
      refine wpAnyH_ready (rs := [9]) (by kernel_rfl) (by simp) ?_
      refine (AllReadyH.cons rfl (fun K hK => ?_) AllReadyH.nil)
      simp only [List.getElem_toArray, List.getElem_cons_succ, List.getElem_cons_zero]
      go_simp
      refine hK.out _ _ ?_ (fun hHeld2 => ?_)
      focus
        exact hS _ hu1
      clear hHeld
      have hHeld := hHeld2
      clear hHeld2 hK K
      try simp only [List.getElem_toArray, List.getElem_cons_succ, List.getElem_cons_zero, Act.put, List.setIfInBounds_toArray, List.set_cons_zero, List.set_cons_succ]
      refine wpAnyH_ready (rs := [10]) (by kernel_rfl) (by simp) ?_
      refine (AllReadyH.cons rfl (fun K hK => ?_) AllReadyH.nil)
      refine step_append_sl rfl (.tmp 14) (.tmp 23) 22 rfl w2.heap.size 9 Tryz.underlying22 info_str rfl (by omega) rfl (own_keep hO0 (bel_alloc (RowKit.Below.refl _ _) _)) rfl (Sl.lit k0 9 1 1 #[.string (str s)] rfl (by unfold maxLen; omega)) (by simp [Value.oneCell']) (show _ ≤ maxLen by unfold maxLen; omega) (show _ * 16 ≤ 140737488355328 by omega) hu1.size ?_
      intro v3 w3 ho3 hb3 _ _
      replace hb3 := hu1.trans hb3
      refine hK.out _ _ ?_ (fun hHeld2 => ?_)
      focus
        exact hS _ hb3
      clear hHeld
      have hHeld := hHeld2
      clear hHeld2 hK K
      try simp only [List.getElem_toArray, List.getElem_cons_succ, List.getElem_cons_zero, Act.put, List.setIfInBounds_toArray, List.set_cons_zero, List.set_cons_succ]
      refine wpAnyH_take (i := 11) (v := ?_) rfl (by kernel_rfl) (by kernel_rfl) (by kernel_rfl) (fun _ _ _ h => h) (Or.inl ⟨by rfl, ?_⟩) (by assumption) ?_
      rotate_left
      focus
        intro U hU
        try dsimp only at hU
        go_simp
        try (with_reducible rfl)
      simp only [List.getElem_toArray, List.getElem_cons_succ, List.getElem_cons_zero, Act.put, List.setIfInBounds_toArray, List.set_cons_zero, List.set_cons_succ]
      refine wpAnyH_done (by kernel_rfl) ?_ _
      clear hHeld hS
      obtain ⟨A3, c3, rfl, _⟩ := Sl.of_own ho3
      have HO3 : Hid (L ++ [s] = (L0.take (n + 1)).map nF ∧ w3.ownsRow w2.heap.size 9 1 (.slice A3 (L ++ [s]).length c3) (L ++ [s]).length (scells (L ++ [s]))) := hid ⟨HYY.out, by rw [List.length_append, scells_append]; exact ho3⟩
      have HB5 := hid hb3
      have hL2 : L.length + 1 = (L ++ [s]).length := by simp
      rw [hL2]
      clear ho3 hb3 HYY hL2
      generalize L ++ [s] = L2 at *
      go_wp2
      go_roundw
      case rel => exact ⟨n + 1, A3, c3, L2, by omega, by go_num, rfl, HO3, HB5⟩
      case measure => simp [intOf]; omega
    · have hge : ¬ (n : Int) < (m : Int) := by omega
      obtain rfl : n = m := by omega
      go_wp2
      go_ret
      obtain ⟨rfl, hO⟩ := HO.out
      rw [← HNV.out] at hO
      exact ⟨A', c', by rw [← HNV.out]; rfl, sl_own hO, HB2.out.trans (HB4.out.mono HB2.out.size)⟩
end Go.Proofs.YtgakobolhmdnnaaGreat

namespace Go.Proofs.YtgakobolhmdnnaaGreat
open Go.RowKit Go.Sort
set_option linter.unusedVariables false
set_option linter.unusedSimpArgs false

theorem u64s_in {w : World} {A : Option Addr} {len cap : Nat} (h : Rd Tryz.prog w 30 [.slice A len cap]) : ∃ l : List Nat, l.length = len ∧ Sl w 1 A len cap (ucells l) ∧ ∀ y ∈ l, y < 18446744073709551616 := by
  obtain ⟨l, h1, h2, h3⟩ := rows_in (α := Nat) (f := fun n => [.int .u64 (n : Int)]) (fun x => x < 18446744073709551616) Tryz.underlying30 (n := 1) (by kernel_rfl) (by omega) (fun x => rfl) (fun cs hl hr => by
    obtain ⟨n, e, hw⟩ := Rd.int Tryz.underlying43 hr
    obtain ⟨s, rfl, hs⟩ := wf_u64m hw
    exact ⟨s, e, hs⟩) h
  have e : gcells (fun n : Nat => [Value.int .u64 (n : Int)]) l = ucells l := by
    clear h1 h2 h3
    induction l with
    | nil => rfl
    | cons a l ih => rw [gcells_cons, ih]; rfl
  rw [e] at h1
  exact ⟨l, h2, h1, h3⟩
theorem wf_u64s {l : List Int} (h : ∀ n ∈ l, (Lit.int .u64 n).wf = true) : ∃ m : List Nat, l.map (Value.int .u64) = ucells m ∧ m.length = l.length ∧ ∀ x ∈ m, x < 18446744073709551616 := by
  induction l with
  | nil => exact ⟨[], rfl, rfl, by simp⟩
  | cons a l ih =>
    obtain ⟨m, h1, h2, h3⟩ := ih fun n hn => h n (by simp [hn])
    obtain ⟨x, rfl, hx⟩ := wf_u64m (h a (by simp))
    refine ⟨x :: m, ?_, by simp [h2], ?_⟩
    · simp only [List.map_cons, h1, ucells]
    · intro y hy
      rcases List.mem_cons.1 hy with rfl | hy
      · exact hx
      · exact h3 y hy
theorem of_u64s {w : World} {a : Option Addr} {len cap : Nat} {zs : List Int} (h : IsRow .u64 w a len cap zs) : ∃ m, Sl w 1 a len cap (ucells m) ∧ m.length = len ∧ ∀ x ∈ m, x < 18446744073709551616 := by
  have h1 := Sl.of_row h
  have hw : ∀ n ∈ zs.take len, (Lit.int .u64 n).wf = true := by
    rcases h with ⟨_, _, _, rfl⟩ | ⟨x, _, _, _, _, _, hw⟩
    · intro n hn; simp at hn
    · exact fun n hn => hw n (List.mem_of_mem_take hn)
  obtain ⟨m, e1, e2, e3⟩ := wf_u64s hw
  rw [e1] at h1
  exact ⟨m, h1.1, by rw [e2]; exact h1.2, e3⟩
theorem hasS_memP (s : Nat) (x : Int) (h : x ∈ elems s) : hasS s x = true := by
  obtain ⟨h0, h1, h2⟩ := (mem_elems s x).1 h
  obtain ⟨n, rfl⟩ := Int.eq_ofNat_of_zero_le h0
  rw [hasS_nat _ n (by omega)]
  exact h2
theorem rnd_has (x : Cf) (e : En) (l : List Nat) (k : Nat) (hk : k < (rndL x e l).length) : hasS (workS x e) ((rndL x e l).getD k 0) = true := by
  have e2 : (rndL x e l).getD k 0 ∈ rndL x e l := getD_mem hk
  exact hasS_memP _ _ (pk_mem _ _ _ _ e2)
theorem rnd_new (x : Cf) (e : En) (l : List Nat) (k : Nat) (hk : k < (rndL x e l).length) : (rndL x e l).getD k 0 ∉ (rndL x e l).take k := by
  have e2 : (rndL x e l).getD k 0 = (rndL x e l)[k] := by simp [List.getD, hk]
  rw [e2]
  have hnd : (rndL x e l).Nodup := pk_nodup _ _ _ (elems_nodup _)
  intro h9
  obtain ⟨i, hi, h8⟩ := List.getElem_of_mem h9
  rw [List.length_take] at hi
  rw [List.getElem_take] at h8
  exact (List.pairwise_iff_getElem.1 hnd) i k _ _ (by omega) h8
theorem rnd_len (x : Cf) (e : En) (l : List Nat) : ((rndL x e l).length : Int) = min (2 * ((openB e).length : Int)) ((elems (workS x e)).length : Int) := by
  unfold rndL
  rw [pk_len]
  omega
theorem work_next (x : Cf) (e : En) (k : Nat) (hk : k < (openB e).length) : orK x.T x.ws (needsL e) (k + 1) = orK x.T x.ws (needsL e) k ||| setJ x.T x.ws (needF e ((openB e).getD k 0)) := by
  rw [orK_succ (by rw [needsL_len]; exact hk)]
  have e2 : (openB e).getD k 0 = (openB e)[k] := by simp [List.getD, hk]
  simp only [needsL, List.getElem_map, e2]
theorem Sl.takeP {w : World} {A : Option Addr} {n c : Nat} {l : List Int} (h : Sl w 1 A n c (icells .i64 l)) (k : Nat) (hk : k ≤ l.length) : Sl w 1 A k c (icells .i64 (l.take k)) := by
  have hn : n = l.length := by have := h.1; rw [icells_length] at this; omega
  have h9 := h.2.1
  refine ⟨by rw [icells_length, List.length_take]; omega, by omega, h.2.2.1, fun h0 => ?_⟩
  rw [icells_length, List.length_take] at h0
  obtain ⟨b, off, rfl, hc⟩ := h.2.2.2 (by rw [icells_length]; omega)
  refine ⟨b, off, rfl, fun i hi => ?_⟩
  rw [icells_length, List.length_take] at hi
  have h1 := hc i (by rw [icells_length]; omega)
  have h2 : icells .i64 (l.take k) = (icells .i64 l).take k := by simp [icells, List.map_take]
  rw [h1, h2, List.getElem?_take, if_pos (by omega)]
theorem u64_or_natP (a b : Nat) (ha : a < 18446744073709551616) (hb : b < 18446744073709551616) : bits .or .u64 (a : Int) (b : Int) = ((a ||| b : Nat) : Int) := u64_or_nat a b ha hb

end Go.Proofs.YtgakobolhmdnnaaGreat
