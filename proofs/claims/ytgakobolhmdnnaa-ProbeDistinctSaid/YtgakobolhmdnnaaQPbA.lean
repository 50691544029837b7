/- probe: Workers, Round; the law's example. -/
import Derived.Test.YtgakobolhmdnnaaQHdC
import Derived.Test.YtgakobolhmdnnaaQHdF
import Derived.Test.YtgakobolhmdnnaaDwP
import Derived.Test.YtgakobolhmdnnaaQSame06
import Derived.Deep.RegionHeld3
namespace Go.Proofs.Ytgakobolhmdnnaa
open Go.RowKit Go.Sort
set_option linter.unusedVariables false
set_option linter.unusedSimpArgs false

theorem mtkP {α : Type} {l : List Int} {f : Int → α} {k : Nat} (hk : k < l.length) : (l.take (k + 1)).map f = (l.take k).map f ++ [f (l.getD k 0)] := by
  have e : l.getD k 0 = l[k] := by simp [List.getD, hk]
  rw [e, List.take_succ_eq_append_getElem hk, List.map_append]
  rfl
theorem below_drewNP {n : Nat} {W w : World} (h : RowKit.Below n W w) (q : Nat) : RowKit.Below n W (w.drewN q) := ⟨h.os, h.tape, h.output, h.size, h.block⟩
theorem RowG.ltP {w : World} {G : Option Nat} {E B g : Nat} (h : RowG w G E B) (hg : G = some g) : g < w.heap.size := by
  obtain ⟨_, cur, h2, _⟩ := h g hg
  exact lt_of_block h2
theorem Sl.onlyP {w w' : World} {z : Nat} {A : Option Addr} {n c : Nat} {l : List Value} (h : Sl w z A n c l) (hA : ∀ b off, A = some ⟨b, off, none⟩ → w'.heap[b]? = w.heap[b]?) : Sl w' z A n c l := by
  refine ⟨h.1, h.2.1, h.2.2.1, fun h0 => ?_⟩
  obtain ⟨b, off, rfl, hc⟩ := h.2.2.2 h0
  refine ⟨b, off, rfl, fun i hi => ?_⟩
  have h1 := hc i hi
  have h2 := hA b off rfl
  simp only [World.cell?, h2] at h1 ⊢
  exact h1
def needF (e : En) (i : Int) : List UInt8 := e.ns.getD i.toNat []
def needsL (e : En) : List (List UInt8) := (openB e).map (needF e)
def workS (x : Cf) (e : En) : Nat := orK x.T x.ws (needsL e) (needsL e).length
theorem workS_lt (x : Cf) (e : En) : workS x e < 18446744073709551616 := orK_lt _ _ _ _
def rndL (x : Cf) (e : En) (l : List Nat) : List Int := (pk (2 * ((openB e).length : Int)).toNat l (elems (workS x e))).1
theorem openB_le (e : En) : (openB e).length ≤ e.ns.length := Nat.le_trans (opk_len _ _) (by omega)
theorem needsL_len (e : En) : (needsL e).length = (openB e).length := by unfold needsL; rw [List.length_map]
theorem needsL_mem {e : En} {s : List UInt8} (h : s ∈ needsL e) : s ∈ e.ns := by
  unfold needsL at h
  obtain ⟨i, hi, rfl⟩ := List.mem_map.1 h
  obtain ⟨j, rfl, h1, _⟩ := open_mem hi
  have e2 : needF e (j : Int) = e.ns[j] := by simp [needF, List.getD, h1]
  rw [e2]
  exact List.getElem_mem h1

set_option maxRecDepth 20000 in
set_option maxHeartbeats 4000000 in
theorem pbw_any (x : Cf) (N : Option Addr) (nc : Nat) (K : Option Addr) (kc : Nat) (e : Ee) (W : World) (hC : CfAt W x N nc K kc) (hE : InE W e) (hl : e.1.ns.length ≤ 1000 ∧ e.1.bd.length ≤ 1000 ∧ e.1.dn.length ≤ 1000) (hs : ∀ s ∈ e.1.ns, s.length ≤ 1000) (hw : x.ws.length ≤ 1000) :
    Calls Try.prog 73 #[.agg (cfc x N nc K kc), .agg (ecE e)] W fun q w' => q = .returned (.int .u64 (workS x e.1 : Nat)) ∧ RowKit.Below W.heap.size W w' := by
  have hol := openB_le e.1
  have HOP := hid (fun u (hu : RowKit.Below W.heap.size W u) => bopen_any e u (hE.below hu) (by omega))
  have HJA := hid (fun u (hu : RowKit.Below W.heap.size W u) A c (h : Sl u 1 A (needsL e.1).length c (scells (needsL e.1))) => jany_any x N nc K kc A c (needsL e.1) u (hC.below hu) ⟨h, fun s h9 => by have := hs s (needsL_mem h9); unfold maxLen; omega⟩ (by rw [needsL_len]; omega) (fun s h9 => hs s (needsL_mem h9)) hw)
  have hws : orK x.T x.ws (needsL e.1) (needsL e.1).length = workS x e.1 := rfl
  rw [hws] at HJA
  have HM := hid (fun y (hy : y ∈ openB e.1) => open_mem hy)
  have HTX := hid (fun u (hu : RowKit.Below W.heap.size W u) (j : Nat) (hj : j < e.1.ns.length) => show ∃ b off, e.2.A = some ⟨b, off, none⟩ ∧ u.cell? ⟨b, off + j, none⟩ = some (.string (str (needF e.1 (j : Int)))) by
    have e2 : needF e.1 (j : Int) = e.1.ns[j] := by simp [needF, List.getD, hj]
    rw [e2]
    exact text_at (hE.below hu).1 j hj)
  have hnv : needsL e.1 = ((openB e.1).take (openB e.1).length).map (needF e.1) := by rw [List.take_length]; rfl
  have hns := sl_len64 hE.1.1
  obtain ⟨⟨id, scE, ee, ms, bd, dn⟩, ⟨A1, ca, P, cb, D, cd⟩⟩ := e
  obtain ⟨sc, le, ag, ro, ou, T, ws⟩ := x
  obtain ⟨l1, l2, l3⟩ := hl
  simp only at HOP HJA HM HTX hnv hol l1 hns ⊢
  clear hC hE hs hw l2 l3 hws
  simp only [ecE, cfc] at *
  generalize workS ⟨sc, le, ag, ro, ou, T, ws⟩ ⟨id, scE, ee, ms, bd, dn⟩ = sW at *
  generalize needsL ⟨id, scE, ee, ms, bd, dn⟩ = NL at *
  generalize needF ⟨id, scE, ee, ms, bd, dn⟩ = nF at *
  generalize openB ⟨id, scE, ee, ms, bd, dn⟩ = L0 at *
  have HNV := hid hnv
  clear hnv
  go_enter Try.func73, Try.ntmps73
  go_upto_region 1 with (fail)
  refine at_world (fun u => u.heap[W.heap.size]? = some (.cells #[.int .i64 sc, .int .i64 le, .int .i64 ag, .int .i64 ro, .int .i64 ou, .slice N T.length nc, .slice K ws.length kc] 25 (0, 0)) ∧ u.heap[W.heap.size + 1]? = some (.cells #[.int .i64 id, .int .i64 scE, .int .i64 ee, .slice A1 ms.length ca, .slice P bd.length cb, .slice D dn.length cd] 55 (0, 0)) ∧ RowKit.Below W.heap.size W u) (lay2 W _ _) ?_
  rintro w1 ⟨hq, hj, hb⟩
  have HB := hid hb
  have HQ := hid hq
  have HJ := hid hj
  clear hq hj hb
  generalize W.heap.size + 1 = J at *
  generalize hQ : W.heap.size = Q at HQ
  clear hQ
  obtain ⟨⟨p0, p1, p2, p3, p4, p5⟩, _⟩ := six_cells HJ.out
  go_wp2_with fail
  refine (HOP.out _ HB.out).mono ?_
  rintro e w2 ⟨A2, c2, rfl, hs2, hb2⟩
  have HS2 := hid hs2
  have HB2 := hid (HB.out.trans (hb2.mono HB.out.size))
  have HQ2 := hid (keep0 HQ.out hb2)
  have HJ2 := hid (keep0 HJ.out hb2)
  clear hs2 hb2 HOP HQ HJ HB p0 p1 p2 p3 p4 p5
  have HY := hid (fun k (hk : k < L0.length) => mtkP (f := nF) hk)
  have HGM := hid (fun k (hk : k < L0.length) => HM.out _ (getD_mem hk))
  have HFL := hid (fun k => show ((L0.take k).map nF).length ≤ k by rw [List.length_map, List.length_take]; omega)
  clear HM
  generalize hm : L0.length = m at *
  have HLM := hid hm
  clear hm
  go_wp2
  go_loopw [5, 7, 11] (fun v _ i wr => ∃ (n : Nat) (A' : Option Addr) (c' : Nat) (L : List (List UInt8)), n ≤ m ∧ i = .int .i64 (n : Int) ∧ v = .slice A' L.length c' ∧ Hid (L = (L0.take n).map nF ∧ wr.ownsRow w2.heap.size 9 1 (.slice A' L.length c') L.length (scells L)) ∧ Hid (RowKit.Below w2.heap.size w2 wr)) (fun _ _ i _ => m - (intOf i).toNat)
  case atStart => exact ⟨0, none, 0, [], by omega, rfl, rfl, ⟨rfl, World.ownsRow_nil _ _ _ _⟩, RowKit.Below.refl _ _⟩
  case round =>
    obtain ⟨n, A', c', L, hn9, rfl, rfl, HO, HB4⟩ := hrel
    have hLn : L.length ≤ n := by rw [HO.out.1]; exact HFL.out n
    have HBW := hid (HB2.out.trans (HB4.out.mono HB2.out.size))
    have HQ4 := hid (keep0 HQ2.out HB4.out)
    obtain ⟨⟨p0, p1, p2, p3, p4, p5⟩, _⟩ := six_cells (keep0 HJ2.out HB4.out)
    by_cases hlt : n < m
    · have hlt2 : (n : Int) < (m : Int) := by omega
      have i0 : ¬ (n : Int) < 0 := by omega
      have hwn := wrap_succ n (by omega)
      have hkl : n < L0.length := by rw [HLM.out]; exact hlt
      have sL := HS2.out.below HB4.out
      obtain ⟨bL, oL, hL9, _⟩ := sL.2.2.2 (by rw [icells_length]; omega)
      subst hL9
      have HcL := hid (Sl.cell sL n hkl)
      clear sL
      obtain ⟨j, hj, j1, j2, j3⟩ := HGM.out n hlt
      have HYY := hid (show L ++ [nF (L0.getD n 0)] = (L0.take (n + 1)).map nF by rw [HO.out.1, HY.out n hlt])
      obtain ⟨b, off, hA, ct⟩ := HTX.out wr HBW.out j j1
      rw [hj] at HYY HcL
      have cL := HcL.out
      have j0 : ¬ (j : Int) < 0 := by omega
      have j9 : (j : Int) < (ms.length : Int) := by omega
      rw [hA] at p3
      clear hj hkl HcL j1 j2 j3 hA
      have HOW := hid HO.out.2
      clear HO
      generalize nF (j : Int) = s at *
      go_wp2_with (at_builtin; refine wpList_append_1 (W := w2) rfl (.tmp 15) (.tmp 21) 22 rfl w2.heap.size 9 Try.underlying22 info_str rfl (by omega) rfl HOW.out rfl (by rfl) (by simp [Value.oneCell']) ?e1 ?e2 HB4.out.size HB4.out ?_)
      case e1 => unfold maxLen; omega
      case e2 => omega
      intro v3 w3 ho3 hb3 _
      obtain ⟨A3, c3, rfl, _⟩ := Sl.of_own ho3
      have HO3 : Hid (L ++ [s] = (L0.take (n + 1)).map nF ∧ w3.ownsRow w2.heap.size 9 1 (.slice A3 (L ++ [s]).length c3) (L ++ [s]).length (scells (L ++ [s]))) := hid ⟨HYY.out, by rw [List.length_append, scells_append]; exact ho3⟩
      have HB5 := hid hb3
      have hL2 : L.length + 1 = (L ++ [s]).length := by simp
      rw [hL2]
      clear ho3 hb3 HOW HYY hL2 HB4 HBW HQ4 p0 p1 p2 p3 p4 p5 cL ct
      generalize L ++ [s] = L2 at *
      go_wp2
      go_roundw
      case rel => exact ⟨n + 1, A3, c3, L2, by omega, by go_num, rfl, HO3, HB5⟩
      case measure => simp [intOf]; omega
    · have hge : ¬ (n : Int) < (m : Int) := by omega
      obtain rfl : n = m := by omega
      have hLL : L = NL := by rw [HNV.out, HO.out.1]
      subst hLL
      have HAA := hid (HJA.out wr HBW.out A' c' (sl_own HO.out.2))
      obtain ⟨q0, q1, q2, q3, q4, q5, q6⟩ := seven_cellsJ HQ4.out
      clear HJA HO HQ4 HNV
      go_wp2_with fail
      refine HAA.out.mono ?_
      rintro e w4 ⟨rfl, hb⟩
      have HB5 := hid (HBW.out.trans (hb.mono HBW.out.size))
      clear HAA hb p0 p1 p2 p3 p4 p5 q0 q1 q2 q3 q4 q5 q6
      go_wp2
      go_ret
      exact ⟨rfl, HB5.out⟩

set_option maxRecDepth 20000 in
set_option maxHeartbeats 4000000 in
theorem round_any (x : Cf) (N : Option Addr) (nc : Nat) (K : Option Addr) (kc : Nat) (e : Ee) (TT : Nat) (G : Option Nat) (E : Nat) (l : List Nat) (W : World) (hC : CfAt W x N nc K kc) (hE : InE W e) (hl : e.1.ns.length ≤ 1000 ∧ e.1.bd.length ≤ 1000 ∧ e.1.dn.length ≤ 1000) (hs : ∀ s ∈ e.1.ns, s.length ≤ 1000) (hw : x.ws.length ≤ 1000) (hT : TapeG W TT G E l) (hG : ∀ g, G = some g → g < W.heap.size) (hll : l.length ≤ 1000) (hu : ∀ y ∈ l, y < 18446744073709551616) :
    Calls Try.prog 29 #[.pointer (some ⟨TT, 0, none⟩), .agg (cfc x N nc K kc), .agg (ecE e)] W fun q w' => ∃ A' c', q = .returned (.slice A' (rndL x e.1 l).length c') ∧ w'.ownsRow W.heap.size 3 1 (.slice A' (rndL x e.1 l).length c') (rndL x e.1 l).length (icells .i64 (rndL x e.1 l)) ∧ Only TT W w' := by
  have hol := openB_le e.1
  have HPB := hid (fun u (hu : RowKit.Below W.heap.size W u) => pbw_any x N nc K kc e u (hC.below hu) (hE.below hu) hl hs hw)
  have HOP := hid (fun u (hu : RowKit.Below W.heap.size W u) => bopen_any e u (hE.below hu) (by omega))
  have HSM := hid (fun u (hb : RowKit.Below W.heap.size W u) => show Calls Try.prog 74 #[.pointer (some ⟨TT, 0, none⟩), .int .u64 (workS x e.1 : Int), .int .i64 (2 * ((openB e.1).length : Int))] u fun q w' => ∃ v, q = .returned v ∧ w'.ownsRow u.heap.size 3 1 v (rndL x e.1 l).length (icells .i64 (rndL x e.1 l)) ∧ Only TT u w' from (someG TT G E l (workS x e.1) (2 * ((openB e.1).length : Int)) u (hT.below hb) (fun g hg => Nat.lt_of_lt_of_le (hG g hg) hb.size) hll hu (workS_lt _ _) (by omega)).mono fun q w' ⟨v, h1, h2, _, h3⟩ => ⟨v, h1, h2, h3⟩)
  have hTW := hT.lt
  have hw2 : IntKind.i64.wrap (2 * ((openB e.1).length : Int)) = 2 * ((openB e.1).length : Int) := by
    simp [IntKind.wrap, IntKind.bits, IntKind.signed]
    omega
  obtain ⟨⟨id, scE, ee, ms, bd, dn⟩, ⟨A1, ca, P, cb, D, cd⟩⟩ := e
  obtain ⟨sc, le, ag, ro, ou, T, ws⟩ := x
  simp only at HPB HOP HSM hw2 ⊢
  clear hC hE hs hw hl hT hG hll hu hol
  simp only [ecE, cfc] at *
  generalize rndL ⟨sc, le, ag, ro, ou, T, ws⟩ ⟨id, scE, ee, ms, bd, dn⟩ l = RL at *
  generalize workS ⟨sc, le, ag, ro, ou, T, ws⟩ ⟨id, scE, ee, ms, bd, dn⟩ = sW at *
  generalize openB ⟨id, scE, ee, ms, bd, dn⟩ = L0 at *
  go_enter Try.func29, Try.ntmps29
  go_upto_region 1 with (fail)
  refine at_world (fun u => u.heap[W.heap.size]? = some (.cells #[.int .i64 sc, .int .i64 le, .int .i64 ag, .int .i64 ro, .int .i64 ou, .slice N T.length nc, .slice K ws.length kc] 25 (0, 0)) ∧ u.heap[W.heap.size + 1]? = some (.cells #[.int .i64 id, .int .i64 scE, .int .i64 ee, .slice A1 ms.length ca, .slice P bd.length cb, .slice D dn.length cd] 55 (0, 0)) ∧ RowKit.Below W.heap.size W u) (lay2 W _ _) ?_
  rintro w1 ⟨hq, hj, hb⟩
  have HB := hid hb
  have HQ := hid hq
  have HJ := hid hj
  clear hq hj hb
  generalize hJ : W.heap.size + 1 = J at *
  have HJW := hid hJ.symm
  clear hJ
  generalize hQ : W.heap.size = Q at HQ
  have HQW := hid hQ.symm
  clear hQ
  have HTW : Hid (TT < Q ∧ TT < J ∧ TT < W.heap.size) := hid ⟨by rw [HQW.out]; exact hTW, by rw [HJW.out]; omega, hTW⟩
  clear hTW HQW HJW
  have hSV : ∀ U : World, U.heap[Q]? = some (.cells #[.int .i64 sc, .int .i64 le, .int .i64 ag, .int .i64 ro, .int .i64 ou, .slice N T.length nc, .slice K ws.length kc] 25 (0, 0)) → U.heap[J]? = some (.cells #[.int .i64 id, .int .i64 scE, .int .i64 ee, .slice A1 ms.length ca, .slice P bd.length cb, .slice D dn.length cd] 55 (0, 0)) → ((U.cell? ⟨Q, 0, none⟩ = some (.int .i64 sc) ∧ U.cell? ⟨Q, 1, none⟩ = some (.int .i64 le) ∧ U.cell? ⟨Q, 2, none⟩ = some (.int .i64 ag) ∧ U.cell? ⟨Q, 3, none⟩ = some (.int .i64 ro) ∧ U.cell? ⟨Q, 4, none⟩ = some (.int .i64 ou) ∧ U.cell? ⟨Q, 5, none⟩ = some (.slice N T.length nc) ∧ U.cell? ⟨Q, 6, none⟩ = some (.slice K ws.length kc)) ∧ (U.cell? ⟨J, 0, none⟩ = some (.int .i64 id) ∧ U.cell? ⟨J, 1, none⟩ = some (.int .i64 scE) ∧ U.cell? ⟨J, 2, none⟩ = some (.int .i64 ee) ∧ U.cell? ⟨J, 3, none⟩ = some (.slice A1 ms.length ca) ∧ U.cell? ⟨J, 4, none⟩ = some (.slice P bd.length cb) ∧ U.cell? ⟨J, 5, none⟩ = some (.slice D dn.length cd))) := fun U h1 h2 => ⟨seven_cellsJ h1, (six_cells h2).1⟩
  have hSU : ∀ U, RowKit.Below w1.heap.size w1 U → ((U.cell? ⟨Q, 0, none⟩ = some (.int .i64 sc) ∧ U.cell? ⟨Q, 1, none⟩ = some (.int .i64 le) ∧ U.cell? ⟨Q, 2, none⟩ = some (.int .i64 ag) ∧ U.cell? ⟨Q, 3, none⟩ = some (.int .i64 ro) ∧ U.cell? ⟨Q, 4, none⟩ = some (.int .i64 ou) ∧ U.cell? ⟨Q, 5, none⟩ = some (.slice N T.length nc) ∧ U.cell? ⟨Q, 6, none⟩ = some (.slice K ws.length kc)) ∧ (U.cell? ⟨J, 0, none⟩ = some (.int .i64 id) ∧ U.cell? ⟨J, 1, none⟩ = some (.int .i64 scE) ∧ U.cell? ⟨J, 2, none⟩ = some (.int .i64 ee) ∧ U.cell? ⟨J, 3, none⟩ = some (.slice A1 ms.length ca) ∧ U.cell? ⟨J, 4, none⟩ = some (.slice P bd.length cb) ∧ U.cell? ⟨J, 5, none⟩ = some (.slice D dn.length cd))) := fun U hU => ⟨seven_cellsJ (keep0 HQ.out hU), (six_cells (keep0 HJ.out hU)).1⟩
  have hk0 : RowKit.Below w1.heap.size w1 w1.drew := below_drew (RowKit.Below.refl _ _)
  refine wp_region_held_drew (S := fun U => (U.cell? ⟨Q, 0, none⟩ = some (.int .i64 sc) ∧ U.cell? ⟨Q, 1, none⟩ = some (.int .i64 le) ∧ U.cell? ⟨Q, 2, none⟩ = some (.int .i64 ag) ∧ U.cell? ⟨Q, 3, none⟩ = some (.int .i64 ro) ∧ U.cell? ⟨Q, 4, none⟩ = some (.int .i64 ou) ∧ U.cell? ⟨Q, 5, none⟩ = some (.slice N T.length nc) ∧ U.cell? ⟨Q, 6, none⟩ = some (.slice K ws.length kc)) ∧ (U.cell? ⟨J, 0, none⟩ = some (.int .i64 id) ∧ U.cell? ⟨J, 1, none⟩ = some (.int .i64 scE) ∧ U.cell? ⟨J, 2, none⟩ = some (.int .i64 ee) ∧ U.cell? ⟨J, 3, none⟩ = some (.slice A1 ms.length ca) ∧ U.cell? ⟨J, 4, none⟩ = some (.slice P bd.length cb) ∧ U.cell? ⟨J, 5, none⟩ = some (.slice D dn.length cd))) (by kernel_rfl) (hSU _ hk0) (fun hHeld => ?_)
  generalize w1.drew = k0 at *
  refine wpAnyH_take (i := 0) (v := ?_) rfl (by kernel_rfl) (by kernel_rfl) (by kernel_rfl) (fun _ _ _ h => h) (Or.inl ⟨by rfl, ?_⟩) (by assumption) ?_
  rotate_left
  focus
    intro U hU
    try dsimp only at hU
    go_simp
    try (with_reducible rfl)
  simp only [List.getElem_toArray, List.getElem_cons_succ, List.getElem_cons_zero, Act.put, List.setIfInBounds_toArray, List.set_cons_zero, List.set_cons_succ]
  refine wpAnyH_take (i := 1) (v := ?_) rfl (by kernel_rfl) (by kernel_rfl) (by kernel_rfl) (fun _ _ _ h => h) (Or.inl ⟨by rfl, ?_⟩) (by assumption) ?_
  rotate_left
  focus
    intro U hU
    try dsimp only at hU
    go_simp
    try (with_reducible rfl)
  simp only [List.getElem_toArray, List.getElem_cons_succ, List.getElem_cons_zero, Act.put, List.setIfInBounds_toArray, List.set_cons_zero, List.set_cons_succ]
  refine wpAnyH_take (i := 2) (v := ?_) rfl (by kernel_rfl) (by kernel_rfl) (by kernel_rfl) (fun _ _ _ h => h) (Or.inl ⟨by rfl, ?_⟩) (by assumption) ?_
  rotate_left
  focus
    intro U hU
    try dsimp only at hU
    go_simp
    try (with_reducible rfl)
  simp only [List.getElem_toArray, List.getElem_cons_succ, List.getElem_cons_zero, Act.put, List.setIfInBounds_toArray, List.set_cons_zero, List.set_cons_succ]
  refine wpAnyH_take (i := 4) (v := ?_) rfl (by kernel_rfl) (by kernel_rfl) (by kernel_rfl) (fun _ _ _ h => h) (Or.inl ⟨by rfl, ?_⟩) (by assumption) ?_
  rotate_left
  focus
    intro U hU
    try dsimp only at hU
    go_simp
    try (with_reducible rfl)
  simp only [List.getElem_toArray, List.getElem_cons_succ, List.getElem_cons_zero, Act.put, List.setIfInBounds_toArray, List.set_cons_zero, List.set_cons_succ]
  refine wpAnyH_ready (rs := [3]) (by kernel_rfl) (by simp) ?_
  refine AllReadyH.cons rfl (fun K hK => ?_) AllReadyH.nil
  simp only [List.getElem_toArray, List.getElem_cons_succ, List.getElem_cons_zero]
  go_simp
  refine (HPB.out k0 (HB.out.trans (hk0.mono HB.out.size))).mono ?_
  rintro q k1 ⟨rfl, hb1⟩
  have hk1 := hk0.trans (hb1.mono hk0.size)
  clear hb1
  go_wp2_with fail
  refine hK.out _ _ ?_ (fun hHeld2 => ?_)
  focus
    exact hSU _ hk1
  clear hHeld
  have hHeld := hHeld2
  clear hHeld2 hK K
  try simp only [List.getElem_toArray, List.getElem_cons_succ, List.getElem_cons_zero, Act.put, List.setIfInBounds_toArray, List.set_cons_zero, List.set_cons_succ]
  refine wpAnyH_ready (rs := [5]) (by kernel_rfl) (by simp) ?_
  refine AllReadyH.cons rfl (fun K hK => ?_) AllReadyH.nil
  simp only [List.getElem_toArray, List.getElem_cons_succ, List.getElem_cons_zero]
  go_simp
  refine (HOP.out k1 (HB.out.trans (hk1.mono HB.out.size))).mono ?_
  rintro q k2 ⟨A2, c2, rfl, _, hb1⟩
  have hk2 := hk1.trans (hb1.mono hk1.size)
  clear hb1
  go_wp2_with fail
  refine hK.out _ _ ?_ (fun hHeld2 => ?_)
  focus
    exact hSU _ hk2
  clear hHeld
  have hHeld := hHeld2
  clear hHeld2 hK K
  try simp only [List.getElem_toArray, List.getElem_cons_succ, List.getElem_cons_zero, Act.put, List.setIfInBounds_toArray, List.set_cons_zero, List.set_cons_succ]
  refine wpAnyH_take (i := 6) (v := ?_) rfl (by kernel_rfl) (by kernel_rfl) (by kernel_rfl) (fun _ _ _ h => h) (Or.inl ⟨by rfl, ?_⟩) (by assumption) ?_
  rotate_left
  focus
    intro U hU
    try dsimp only at hU
    go_simp
    try (with_reducible rfl)
  simp only [List.getElem_toArray, List.getElem_cons_succ, List.getElem_cons_zero, Act.put, List.setIfInBounds_toArray, List.set_cons_zero, List.set_cons_succ]
  refine wpAnyH_take (i := 7) (v := ?_) rfl (by kernel_rfl) (by kernel_rfl) (by kernel_rfl) (fun _ _ _ h => h) (Or.inl ⟨by rfl, ?_⟩) (by assumption) ?_
  rotate_left
  focus
    intro U hU
    try dsimp only at hU
    go_simp
    try (with_reducible rfl)
  simp only [List.getElem_toArray, List.getElem_cons_succ, List.getElem_cons_zero, Act.put, List.setIfInBounds_toArray, List.set_cons_zero, List.set_cons_succ]
  refine wpAnyH_ready (rs := [8]) (by kernel_rfl) (by simp) ?_
  refine AllReadyH.cons rfl (fun K hK => ?_) AllReadyH.nil
  simp only [List.getElem_toArray, List.getElem_cons_succ, List.getElem_cons_zero]
  go_simp
  refine (HSM.out k2 (HB.out.trans (hk2.mono HB.out.size))).mono ?_
  rintro q k3 ⟨v9, rfl, ho9, hO⟩
  obtain ⟨A9, c9, rfl, -⟩ := Sl.of_own ho9
  have hS3 := hSV k3 (hO.block (keep0 HQ.out hk2) (by have := HTW.out; omega)) (hO.block (keep0 HJ.out hk2) (by have := HTW.out; omega))
  go_wp2_with fail
  refine hK.out _ _ ?_ (fun hHeld2 => ?_)
  focus
    exact hS3
  clear hHeld
  have hHeld := hHeld2
  clear hHeld2 hK K
  try simp only [List.getElem_toArray, List.getElem_cons_succ, List.getElem_cons_zero, Act.put, List.setIfInBounds_toArray, List.set_cons_zero, List.set_cons_succ]
  refine wpAnyH_take (i := 9) (v := ?_) rfl (by kernel_rfl) (by kernel_rfl) (by kernel_rfl) (fun _ _ _ h => h) (Or.inl ⟨by rfl, ?_⟩) (by assumption) ?_
  rotate_left
  focus
    intro U hU
    try dsimp only at hU
    go_simp
    try (with_reducible rfl)
  simp only [List.getElem_toArray, List.getElem_cons_succ, List.getElem_cons_zero, Act.put, List.setIfInBounds_toArray, List.set_cons_zero, List.set_cons_succ]
  refine wpAnyH_done (by kernel_rfl) ?_ _
  go_wp2
  go_ret
  exact ⟨A9, c9, rfl, own_mono ho9 (HB.out.trans (hk2.mono HB.out.size)).size, (Only.of_below (HB.out.trans (hk2.mono HB.out.size))).trans hO⟩

theorem lay33b (W : World) (S I E : Obj) (hS : S = .cells #[.string ⟨#[42]⟩] 9) (hI : I = .cells #[.int .i64 0] 3) (hE : E = .cells (#[.int .i64 1, .int .i64 0, .int .i64 0, .slice (some ⟨W.heap.size, 0, none⟩) 1 1, .slice (some ⟨W.heap.size + 1, 0, none⟩) 1 1, .slice none 0 0]) 55) :
    InE (((W.alloc S).alloc I).alloc E) ((⟨1, 0, 0, [[42]], [0], []⟩ : En), ⟨some ⟨W.heap.size, 0, none⟩, 1, some ⟨W.heap.size + 1, 0, none⟩, 1, none, 0⟩) ∧ (((W.alloc S).alloc I).alloc E).heap[W.heap.size + 1 + 1]? = some (.cells (#[.int .i64 1, .int .i64 0, .int .i64 0, .slice (some ⟨W.heap.size, 0, none⟩) 1 1, .slice (some ⟨W.heap.size + 1, 0, none⟩) 1 1, .slice none 0 0]) 55 (0, 0)) ∧ RowKit.Below W.heap.size W (((W.alloc S).alloc I).alloc E) := by
  refine ⟨⟨⟨?_, ?_⟩, ?_, ?_⟩, ?_, bel_alloc (bel_alloc (bel_alloc (RowKit.Below.refl _ _) _) _) _⟩
  · subst hS
    exact ((Sl.lit W 9 1 1 #[.string ⟨#[42]⟩] rfl (by unfold maxLen; omega)).below (bel_alloc (bel_alloc (RowKit.Below.refl _ _) I) E) : Sl _ 1 _ 1 1 (scells [[42]]))
  · intro s h; simp at h; subst h; unfold maxLen; simp
  · subst hI
    have h9 : Sl _ 1 _ 1 1 (icells .i64 [0]) := (Sl.lit (W.alloc S) 3 1 1 #[.int .i64 0] rfl (by unfold maxLen; omega)).below (bel_alloc (RowKit.Below.refl _ _) E)
    rw [World.size_alloc] at h9
    exact h9
  · exact Sl.nil _ _ _ _ (Nat.zero_le _)
  · subst hE
    have h9 := heap_alloc_new ((W.alloc S).alloc I) (.cells (#[.int .i64 1, .int .i64 0, .int .i64 0, .slice (some ⟨W.heap.size, 0, none⟩) 1 1, .slice (some ⟨W.heap.size + 1, 0, none⟩) 1 1, .slice none 0 0]) 55)
    rw [World.size_alloc, World.size_alloc] at h9
    exact h9
theorem ex33a : workS (⟨0, 0, 0, 0, 0, [], [(0, 0, 0), (0, 0, 0), (0, 0, 0)]⟩ : Cf) (⟨1, 0, 0, [[42]], [0], []⟩ : En) = 7 := by kernel_rfl
theorem ex33b : rndL (⟨0, 0, 0, 0, 0, [], [(0, 0, 0), (0, 0, 0), (0, 0, 0)]⟩ : Cf) (⟨1, 0, 0, [[42]], [0], []⟩ : En) [2, 0] = [2, 0] := by kernel_rfl
end Go.Proofs.Ytgakobolhmdnnaa
