/- hand.All; HandTells: the law. -/
import Derived.Test.YtgakobolhmdnnaaQHdC
import Derived.Test.YtgakobolhmdnnaaGaP
import Derived.Deep.RegionHeld3
import Derived.BigQuiet
namespace Go.Proofs.Ytgakobolhmdnnaa
open Go.RowKit Go.Sort
set_option linter.unusedVariables false
set_option linter.unusedSimpArgs false

structure Ou where
  o : Int
  k : Int
  j : Int
  t : Int
  p : Int
def ocl (x : Ou) : List Value := [.int .i64 x.o, .int .i64 x.k, .int .i64 x.j, .int .i64 x.t, .int .i64 x.p]
theorem ocl_len (x : Ou) : (ocl x).length = 5 := rfl
def tellO (e : En) (i : Int) : Ou := ⟨7 + e.bd.getD i.toNat 0, 4, e.id, i, e.ep⟩
def allL (e : En) (h : List Bool) : List Ou := (pndL e h).map (tellO e)
theorem mtk {α : Type} {l : List Int} {f : Int → α} {k : Nat} (hk : k < l.length) : (l.take (k + 1)).map f = (l.take k).map f ++ [f (l.getD k 0)] := by
  have e : l.getD k 0 = l[k] := by simp [List.getD, hk]
  rw [e, List.take_succ_eq_append_getElem hk, List.map_append]
  rfl
theorem info_out : (Try.prog.info? 84).map (fun i => (i.zero, i.size, i.bytes)) = some (some (.agg #[.int .i64 0, .int .i64 0, .int .i64 0, .int .i64 0, .int .i64 0]), 5, 40) := by kernel_rfl
theorem below_drewNH {n : Nat} {W w : World} (h : RowKit.Below n W w) (q : Nat) : RowKit.Below n W (w.drewN q) := ⟨h.os, h.tape, h.output, h.size, h.block⟩
theorem fk_split {p : Nat → Bool} {i : Nat} (hp : p i = true) : ∀ m, i < m → ∃ r, fk p m = fk p i ++ (i : Int) :: r
  | 0, h => absurd h (by omega)
  | k + 1, h => by
    by_cases hk : i = k
    · subst hk
      exact ⟨[], fk_yes hp⟩
    · obtain ⟨r, hr⟩ := fk_split hp k (by omega)
      by_cases h9 : p k = true
      · exact ⟨r ++ [(k : Int)], by rw [fk_yes h9, hr]; simp⟩
      · exact ⟨r, by rw [fk_no (by simpa using h9), hr]⟩
theorem all_at {e : En} {h : List Bool} {i : Nat} (hp : pndB e h i = true) (hi : i < min e.ns.length (min e.bd.length e.dn.length)) : (allL e h)[(fk (pndB e h) i).length]? = some (tellO e i) := by
  obtain ⟨r, hr⟩ := fk_split hp _ hi
  have h1 : allL e h = (fk (pndB e h) i).map (tellO e) ++ tellO e i :: r.map (tellO e) := by
    unfold allL pndL
    rw [hr, List.map_append, List.map_cons]
  rw [h1, List.getElem?_append_right (by simp)]
  simp

set_option maxRecDepth 20000 in
set_option maxHeartbeats 4000000 in
theorem hall_any (e : Ee) (H : Option Addr) (hc : Nat) (h : List Bool) (W : World) (hE : InE W e) (hh : HadAt W H hc h) (hbd : BdOk e.1) (hl : e.1.ns.length ≤ 100000 ∧ e.1.bd.length ≤ 100000 ∧ e.1.dn.length ≤ 100000) :
    Calls Try.prog 45 #[.agg (ecE e), .slice H h.length hc] W fun x w' => ∃ A' c', x = .returned (.slice A' (allL e.1 h).length c') ∧ Sl w' 5 A' (allL e.1 h).length c' (gcells ocl (allL e.1 h)) ∧ RowKit.Below W.heap.size W w' := by
  have HPN := hid (fun u (hu : RowKit.Below W.heap.size W u) => pending_any e H hc h u (hE.below hu) (Sl.below hh hu) hbd hl)
  have HM := hid (fun x (hx : x ∈ pndL e.1 h) => pnd_mem hx)
  have hll : (pndL e.1 h).length ≤ 100000 := Nat.le_trans (fk_len _ _) (by omega)
  have HBN := hid (fun u (hu : RowKit.Below W.heap.size W u) (i : Nat) (hi : i < e.1.bd.length) (h1 : 1 ≤ e.1.bd.getD i 0) => show Calls Try.prog 81 #[.agg (ecE e), .int .i64 (i : Int)] u fun x w' => x = .returned (.tuple #[.int .i64 (e.1.bd.getD i 0 - 1), .bool true]) ∧ RowKit.Below u.heap.size u w' by
    have h9 := bnd_any e i u (hE.below hu) hi (hbd i)
    rw [if_pos h1, decide_eq_true h1] at h9
    exact h9)
  have hv : allL e.1 h = (pndL e.1 h).map (tellO e.1) := rfl
  rw [hv, List.length_map]
  have HBD := hid hbd
  obtain ⟨⟨id, sc, ee, ms, bd, dn⟩, ⟨A1, ca, P, cb, D, cd⟩⟩ := e
  simp only at HPN HM HBN hll HBD ⊢
  clear hE hh hbd hl hv
  simp only [ecE] at *
  generalize pndL ⟨id, sc, ee, ms, bd, dn⟩ h = L0 at *
  generalize hpq : tellO ⟨id, sc, ee, ms, bd, dn⟩ = tF at *
  have HP : Hid (∀ i : Nat, tF (i : Int) = ⟨7 + bd.getD i 0, 4, id, (i : Int), ee⟩) := hid (by rw [← hpq]; intro i; rfl)
  clear hpq
  have HY := hid (fun k (hk : k < L0.length) => mtk (f := tF) hk)
  have HGM := hid (fun k (hk : k < L0.length) => HM.out _ (getD_mem hk))
  have HFL := hid (fun k => show ((L0.take k).map tF).length ≤ k from by rw [List.length_map, List.length_take]; omega)
  generalize h.length = hn at *
  go_enter Try.func45, Try.ntmps45
  go_upto_region 1 with (fail)
  refine at_world (fun u => u.heap[W.heap.size]? = some (.cells #[.int .i64 id, .int .i64 sc, .int .i64 ee, .slice A1 ms.length ca, .slice P bd.length cb, .slice D dn.length cd] 55 (0, 0)) ∧ RowKit.Below W.heap.size W u) ⟨heap_alloc_new _ _, (RowKit.Below.refl _ _).alloc (Nat.le_refl _) _⟩ ?_
  rintro w1 ⟨hx1, hb1⟩
  have HX1 := hid hx1
  have HB1 := hid hb1
  have hWl := lt_of_block hx1
  obtain ⟨⟨p0, p1, p2, p3, p4, p5⟩, _⟩ := six_cells hx1
  clear hx1 hb1
  go_wp2_with fail
  refine (HPN.out _ HB1.out).mono ?_
  rintro e w2 ⟨A2, c2, rfl, hs2, hb2⟩
  have HS2 := hid hs2
  have HX2 := hid (keep0 HX1.out hb2)
  have HB3 := hid (HB1.out.trans (hb2.mono HB1.out.size))
  clear hs2 hb2 p0 p1 p2 p3 p4 p5 HPN HX1 HB1 hWl HM
  generalize hm : L0.length = m at *
  have HLM := hid hm
  clear hm
  go_wp2
  go_loopw [5, 7, 8, 9, 14] (fun v _ _ _ i wr => ∃ (n : Nat) (A' : Option Addr) (c' : Nat) (L : List Ou), n ≤ m ∧ i = .int .i64 (n : Int) ∧ v = .slice A' L.length c' ∧ Hid (L = (L0.take n).map tF ∧ wr.ownsRow w2.heap.size 84 5 (.slice A' L.length c') L.length (gcells ocl L)) ∧ Hid (RowKit.Below w2.heap.size w2 wr)) (fun _ _ _ _ i _ => m - (intOf i).toNat)
  case atStart => exact ⟨0, none, 0, [], by omega, rfl, rfl, ⟨rfl, World.ownsRow_nil _ _ _ _⟩, RowKit.Below.refl _ _⟩
  case round =>
    obtain ⟨n, A', c', L, hn9, rfl, rfl, HO, HB⟩ := hrel
    have hLn : L.length ≤ n := by rw [HO.out.1]; exact HFL.out n
    have HXr := hid (keep0 HX2.out HB.out)
    by_cases hlt : n < m
    · have hlt2 : (n : Int) < (m : Int) := by omega
      have i0 : ¬ (n : Int) < 0 := by omega
      have hwn := wrap_succ n (by omega)
      have hkl : n < L0.length := by rw [HLM.out]; exact hlt
      have sL := HS2.out.below HB.out
      obtain ⟨bL, oL, hL9, _⟩ := sL.2.2.2 (by rw [icells_length]; omega)
      subst hL9
      have HcL := hid (Sl.cell sL n hkl)
      clear sL
      obtain ⟨j, hj, j1, j2, j3, j4, _⟩ := HGM.out n hlt
      have HYY := hid (show L ++ [tF (L0.getD n 0)] = (L0.take (n + 1)).map tF by rw [HO.out.1, HY.out n hlt])
      have HBN2 := hid (fun u hu => HBN.out u hu j j2 j4)
      have hr := HBD.out j
      simp only at hr
      rw [hj, HP.out j] at HYY
      rw [hj] at HcL
      have cL := HcL.out
      clear hj hkl HcL
      have HOW := hid HO.out.2
      clear HO j1 j3 j4
      generalize bd.getD j 0 = z at *
      have hw8 : IntKind.i64.wrap (8 + (z - 1)) = 7 + z := by
        simp [IntKind.wrap, IntKind.bits, IntKind.signed]
        omega
      clear hr
      obtain ⟨⟨p0, p1, p2, p3, p4, p5⟩, _⟩ := six_cells HXr.out
      go_wp2_with fail
      refine (HBN2.out _ (HB3.out.trans (HB.out.mono HB3.out.size))).mono ?_
      rintro e w3 ⟨rfl, hb⟩
      clear HBN2 p0 p1 p2 p3 p4 p5 cL
      have HB4 := hid (HB.out.trans (hb.mono HB.out.size))
      have HOW4 := hid (own_keep HOW.out hb)
      obtain ⟨⟨p0, p1, p2, p3, p4, p5⟩, _⟩ := six_cells (keep0 HXr.out hb)
      clear hb HOW HXr
      go_wp2_with (at_builtin; refine wpList_append_1k (W := w2) rfl (.tmp 24) (.tmp 34) 78 rfl w2.heap.size 84 Try.underlying78 info_out rfl (by omega) rfl HOW4.out rfl (by rfl) (by simp [Value.oneCell']) ?e1 ?e2 HB4.out.size HB4.out ?_)
      case e1 => unfold maxLen; omega
      case e2 => omega
      intro v3 w3 ho3 hb3 _ _
      obtain ⟨A3, c3, rfl, _⟩ := Sl.of_own ho3
      have HO3 : Hid (L ++ [(⟨7 + z, 4, id, (j : Int), ee⟩ : Ou)] = (L0.take (n + 1)).map tF ∧ w3.ownsRow w2.heap.size 84 5 (.slice A3 (L ++ [(⟨7 + z, 4, id, (j : Int), ee⟩ : Ou)]).length c3) (L ++ [(⟨7 + z, 4, id, (j : Int), ee⟩ : Ou)]).length (gcells ocl (L ++ [(⟨7 + z, 4, id, (j : Int), ee⟩ : Ou)]))) := hid ⟨HYY.out, by rw [List.length_append, gcells_snoc]; exact ho3⟩
      have HB5 := hid hb3
      have hL2 : L.length + 1 = (L ++ [(⟨7 + z, 4, id, (j : Int), ee⟩ : Ou)]).length := by simp
      rw [hL2]
      clear ho3 hb3 HOW4 HYY hL2 HB4 HB p0 p1 p2 p3 p4 p5 hw8
      generalize L ++ [(⟨7 + z, 4, id, (j : Int), ee⟩ : Ou)] = L2 at *
      go_wp2
      go_roundw
      case rel => exact ⟨n + 1, A3, c3, L2, by omega, by go_num, rfl, HO3, HB5⟩
      case measure => simp [intOf]; omega
    · have hge : ¬ (n : Int) < (m : Int) := by omega
      obtain rfl : n = m := by omega
      go_wp2
      go_ret
      have hLL := HO.out.1
      rw [← HLM.out, List.take_length] at hLL
      obtain rfl := hLL
      have hs9 := sl_own HO.out.2
      rw [List.length_map] at hs9
      exact ⟨A', c', by rw [List.length_map]; rfl, hs9, HB3.out.trans (HB.out.mono HB3.out.size)⟩

set_option maxRecDepth 20000 in
set_option maxHeartbeats 8000000 in
theorem handTells_law (e : Ee) (H : Option Addr) (hc : Nat) (h : List Bool) (W : World) (hE : InE W e) (hh : HadAt W H hc h) :
    Calls Try.prog 9 #[.agg (ecE e), .slice H h.length hc] W fun q w' => q = .returned (.bool true) ∧ RowKit.Below W.heap.size W w' := by
  have HW := hid works34_any
  have HOB := hid (fun u (hu : RowKit.Below W.heap.size W u) => bound34_any e u (hE.below hu))
  have HAL := hid (fun (hb : okb e.1 = true) u (hu : RowKit.Below W.heap.size W u) => hall_any e H hc h u (hE.below hu) (Sl.below hh hu) (okb_bd hb) (by have := okb_len hb; omega))
  have HBO := hid (fun (hb : okb e.1 = true) => And.intro (okb_bd hb) (okb_len hb))
  have HAT := hid (fun i (hp : pndB e.1 h i = true) (hi : i < min e.1.ns.length (min e.1.bd.length e.1.dn.length)) => all_at hp hi)
  have HBD := hid hE.2.1
  have HDN := hid hE.2.2
  have HHH := hid hh
  have hl1 := sl_len64 hE.1.1
  have hl2 := sl_len64 hE.2.1
  have hl3 := sl_len64 hE.2.2
  have hl4 := sl_len64 hh
  have hlen : (allL e.1 h).length = (fk (pndB e.1 h) (min e.1.ns.length (min e.1.bd.length e.1.dn.length))).length := by unfold allL pndL; rw [List.length_map]
  have HTO : Hid (∀ i : Nat, tellO e.1 (i : Int) = ⟨7 + e.1.bd.getD i 0, 4, e.1.id, (i : Int), e.1.ep⟩) := hid fun i => rfl
  have HP := hid (fun k => show pndB e.1 h k = (decide (1 ≤ e.1.bd.getD k 0) && !e.1.dn.getD k false && !notB h k) from rfl)
  obtain ⟨⟨id, scE, ee, ms, bd, dn⟩, ⟨A1, ca, P, cb, D, cd⟩⟩ := e
  simp only at HAL HBO HAT HBD HDN hl1 hl2 hl3 hlen HTO HP
  clear hE hh
  simp only [ecE] at *
  generalize allL ⟨id, scE, ee, ms, bd, dn⟩ h = L0 at *
  generalize pndB ⟨id, scE, ee, ms, bd, dn⟩ h = pB at *
  generalize tellO ⟨id, scE, ee, ms, bd, dn⟩ = tF at *
  generalize hob : okb ⟨id, scE, ee, ms, bd, dn⟩ = ob at *
  clear hob
  generalize hhn : h.length = hn at *
  have HHN := hid hhn
  clear hhn
  generalize hmm : min ms.length (min bd.length dn.length) = m at *
  have m1 : m ≤ ms.length := by omega
  have m2 : m ≤ bd.length := by omega
  have m3 : m ≤ dn.length := by omega
  have HMM := hid hmm
  have HLEN := hid hlen
  clear hmm hlen
  go_enter Try.func9, Try.ntmps9
  go_upto_region 1 with (fail)
  refine at_world (fun u => u.heap[W.heap.size]? = some (.cells #[.int .i64 id, .int .i64 scE, .int .i64 ee, .slice A1 ms.length ca, .slice P bd.length cb, .slice D dn.length cd] 55 (0, 0)) ∧ RowKit.Below W.heap.size W u) ⟨heap_alloc_new _ _, (RowKit.Below.refl _ _).alloc (Nat.le_refl _) _⟩ ?_
  rintro w1 ⟨hj, hb⟩
  have HB := hid hb
  have HJ := hid hj
  obtain ⟨⟨p0, p1, p2, p3, p4, p5⟩, _⟩ := six_cells hj
  clear hj hb
  generalize hQ : W.heap.size = J at HJ p0 p1 p2 p3 p4 p5
  clear hQ
  go_wp2_with fail
  refine (HOB.out _ HB.out).mono ?_
  rintro e w2 ⟨rfl, hb⟩
  have HB2 := hid (HB.out.trans (hb.mono HB.out.size))
  have HJ2 := hid (keep0 HJ.out hb)
  clear hb p0 p1 p2 p3 p4 p5 HB HJ HOB
  cases ob with
  | false =>
    go_wp2_with fail
    refine (HW.out _).mono ?_
    rintro e w3 ⟨rfl, hb⟩
    have HB3 := hid (HB2.out.trans (hb.mono HB2.out.size))
    clear hb
    go_wp2
    go_ret
    exact ⟨rfl, HB3.out⟩
  | true =>
    have HAL2 := hid (HAL.out rfl)
    have HBO2 := hid (HBO.out rfl)
    clear HAL HBO
    obtain ⟨⟨p0, p1, p2, p3, p4, p5⟩, _⟩ := six_cells HJ2.out
    go_wp2_with fail
    refine (HAL2.out _ HB2.out).mono ?_
    rintro e w3 ⟨A3, c3, rfl, hs3, hb⟩
    have HS3 := hid hs3
    have HB3 := hid (HB2.out.trans (hb.mono HB2.out.size))
    have HJ3 := hid (keep0 HJ2.out hb)
    clear hs3 hb p0 p1 p2 p3 p4 p5 HB2 HJ2 HAL2
    have hb30 : ms.length ≤ 30 ∧ bd.length ≤ 30 ∧ dn.length ≤ 30 := by have := HBO2.out.2; exact ⟨this.1, this.2.1, this.2.2.1⟩
    obtain ⟨b1, b2, b3⟩ := hb30
    have hL3 : L0.length ≤ 30 := by rw [HLEN.out]; exact Nat.le_trans (fk_len _ _) (by omega)
    generalize hm0 : L0.length = m0 at *
    have HM0 := hid hm0
    clear hm0
    go_wp2
    go_loopw [6, 7] (fun v i wr => ∃ n q : Nat, n ≤ m ∧ q ≤ n ∧ i = .int .i64 (n : Int) ∧ v = .int .i64 (q : Int) ∧ Hid (q = (fk pB n).length) ∧ Hid (RowKit.Below w3.heap.size w3 wr)) (fun _ i _ => m - (intOf i).toNat)
    case atStart => exact ⟨0, 0, by omega, by omega, rfl, rfl, rfl, RowKit.Below.refl _ _⟩
    case round =>
      obtain ⟨n, q, hn9, hqn, rfl, rfl, HQ, HB4⟩ := hrel
      have HJ4 := hid (keep0 HJ3.out HB4.out)
      have HBW := hid (HB3.out.trans (HB4.out.mono HB3.out.size))
      obtain ⟨⟨p0, p1, p2, p3, p4, p5⟩, _⟩ := six_cells HJ4.out
      by_cases hlt : n < m
      · have c1 : (n : Int) < (ms.length : Int) := by omega
        have c2 : (n : Int) < (bd.length : Int) := by omega
        have c3 : (n : Int) < (dn.length : Int) := by omega
        have i0 : ¬ (n : Int) < 0 := by omega
        have hwn := wrap_succ n (by omega)
        have hwq := wrap_succ q (by omega)
        have hr := HBO2.out.1 n
        simp only at hr
        have sP := HBD.out.below HBW.out
        obtain ⟨bP, oP, hP9, _⟩ := sP.2.2.2 (by rw [icells_length]; omega)
        rw [hP9] at sP p4
        have cP := Sl.cell sP n (by omega)
        have sD := HDN.out.below HBW.out
        obtain ⟨bD, oD, hD9, _⟩ := sD.2.2.2 (by rw [blcells_length]; omega)
        rw [hD9] at sD p5
        have cD := Sl.blcell sD n (by omega)
        have HPN := hid (HP.out n)
        have HYY := hid (fun (h9 : pB n = true) => show q + 1 = (fk pB (n + 1)).length by rw [fk_yes h9, List.length_append, ← HQ.out]; rfl)
        have HNN := hid (fun (h9 : pB n = false) => show q = (fk pB (n + 1)).length by rw [fk_no h9, ← HQ.out])
        have HAA := hid (fun (h9 : pB n = true) => show ∃ hk : q < L0.length, L0[q] = (⟨7 + bd.getD n 0, 4, id, (n : Int), ee⟩ : Ou) by
          have h8 := HAT.out n h9 hlt
          rw [HTO.out n, ← HQ.out] at h8
          exact List.getElem?_eq_some_iff.1 h8)
        clear sP hP9 sD hD9 HQ
        generalize bd.getD n 0 = z at *
        generalize dn.getD n false = b9 at *
        by_cases hz : z = 0
        · have HE := hid (HNN.out (by rw [HPN.out, hz]; simp))
          subst hz
          clear HYY HNN HAA HPN hr
          go_wp2
          go_roundw
          case rel => exact ⟨n + 1, q, by omega, by omega, by go_num, rfl, HE, HB4⟩
          case measure => simp [intOf]; omega
        · have hz2 : (z == 0) = false := by simpa using hz
          have hz1 : 1 ≤ z := by omega
          cases b9 with
          | true =>
            have HE := hid (HNN.out (by rw [HPN.out]; simp))
            clear HYY HNN HAA HPN hr hz hz1
            go_wp2
            go_roundw
            case rel => exact ⟨n + 1, q, by omega, by omega, by go_num, rfl, HE, HB4⟩
            case measure => simp [intOf]; omega
          | false =>
            have HTAIL : Hid (pB n = !notB h n) := hid (by rw [HPN.out, decide_eq_true hz1]; simp)
            have hw8 : IntKind.i64.wrap (8 + z) = 8 + z := by
              simp [IntKind.wrap, IntKind.bits, IntKind.signed]
              omega
            have hw7 : IntKind.i64.wrap (8 + z - 1) = 7 + z := by
              simp [IntKind.wrap, IntKind.bits, IntKind.signed]
              omega
            clear HPN hr hz hz1
            by_cases hltn : n < hn
            · have c4 : (n : Int) < (hn : Int) := by omega
              have hjh : n < h.length := by rw [HHN.out]; exact hltn
              have HG : Hid (pB n = !h.getD n false) := hid (by
                rw [HTAIL.out]
                unfold notB
                rw [decide_eq_true hjh, Bool.true_and])
              have sH := Sl.below HHH.out HBW.out
              obtain ⟨bH, oH, hH9, _⟩ := sH.2.2.2 (by rw [blcells_length]; omega)
              rw [hH9] at sH
              have cH := Sl.blcell sH n hjh
              have HH9 := hid hH9
              clear sH hjh hH9 HTAIL
              generalize h.getD n false = g at *
              cases g with
              | true =>
                have HE := hid (HNN.out (by rw [HG.out]; rfl))
                clear HYY HNN HAA HG hw8 hw7
                have hH := HH9.out
                subst hH
                clear HH9
                go_wp2
                go_roundw
                case rel => exact ⟨n + 1, q, by omega, by omega, by go_num, rfl, HE, HB4⟩
                case measure => simp [intOf]; omega
              | false =>
                have HE := hid (HYY.out (by rw [HG.out]; rfl))
                obtain ⟨hk, he⟩ := HAA.out (by rw [HG.out]; rfl)
                have k0 : ¬ (q : Int) ≥ (m0 : Int) := by have := HM0.out; omega
                have k0b : ¬ (m0 : Int) ≤ (q : Int) := by omega
                have k1 : (q : Int) < (m0 : Int) := by omega
                have k2 : ¬ (q : Int) < 0 := by omega
                obtain ⟨bL, oL, hLA, hcl⟩ := Sl.gat (f := ocl) (n := 5) ocl_len (HS3.out.below HB4.out) q hk (by omega)
                rw [he] at hcl
                have l0 := hcl 0 _ rfl
                rw [Nat.add_zero] at l0
                have l1 := hcl 1 _ rfl
                have l2 := hcl 2 _ rfl
                have l3 := hcl 3 _ rfl
                have l4 := hcl 4 _ rfl
                have HLA := hid hLA
                clear hcl he hk hLA
                clear HYY HNN HAA HG
                have hH := HH9.out
                subst hH
                clear HH9
                have hLA := HLA.out
                subst hLA
                clear HLA
                go_upto_region 9 with (fail)
                go_quiet (fail)
                go_wp2
                go_roundw
                case rel => exact ⟨n + 1, q + 1, by omega, by omega, by go_num, by go_num, HE, hid (below_drewNH HB4.out _)⟩
                case measure => simp [intOf]; omega
            · have c4 : ¬ (n : Int) < (hn : Int) := by omega
              have hjh : ¬ n < h.length := by rw [HHN.out]; exact hltn
              have HG : Hid (pB n = true) := hid (by
                rw [HTAIL.out]
                unfold notB
                rw [decide_eq_false hjh]; rfl)
              have HE := hid (HYY.out HG.out)
              obtain ⟨hk, he⟩ := HAA.out HG.out
              clear hjh HTAIL
              have k0 : ¬ (q : Int) ≥ (m0 : Int) := by have := HM0.out; omega
              have k0b : ¬ (m0 : Int) ≤ (q : Int) := by omega
              have k1 : (q : Int) < (m0 : Int) := by omega
              have k2 : ¬ (q : Int) < 0 := by omega
              obtain ⟨bL, oL, hLA, hcl⟩ := Sl.gat (f := ocl) (n := 5) ocl_len (HS3.out.below HB4.out) q hk (by omega)
              rw [he] at hcl
              have l0 := hcl 0 _ rfl
              rw [Nat.add_zero] at l0
              have l1 := hcl 1 _ rfl
              have l2 := hcl 2 _ rfl
              have l3 := hcl 3 _ rfl
              have l4 := hcl 4 _ rfl
              have HLA := hid hLA
              clear hcl he hk hLA
              clear HYY HNN HAA HG
              have hLA := HLA.out
              subst hLA
              clear HLA
              go_upto_region 9 with (fail)
              go_quiet (fail)
              go_wp2
              go_roundw
              case rel => exact ⟨n + 1, q + 1, by omega, by omega, by go_num, by go_num, HE, hid (below_drewNH HB4.out _)⟩
              case measure => simp [intOf]; omega
      · have hge : n = m := by omega
        subst hge
        have hqm : q = m0 := by have h1 := HQ.out; have h2 := HLEN.out; omega
        subst hqm
        have cc : ¬ (n : Int) < (ms.length : Int) ∨ ¬ (n : Int) < (bd.length : Int) ∨ ¬ (n : Int) < (dn.length : Int) := by have := HMM.out; omega
        have dec1 : (n : Int) < (ms.length : Int) ∨ ¬ (n : Int) < (ms.length : Int) := Decidable.em _
        have dec2 : (n : Int) < (bd.length : Int) ∨ ¬ (n : Int) < (bd.length : Int) := Decidable.em _
        have FIN : Hid (RowKit.Below W.heap.size W wr) := HBW
        rcases dec1 with d1 | d1
        · rcases dec2 with d2 | d2
          · have d3 : ¬ (n : Int) < (dn.length : Int) := by omega
            clear cc
            go_wp2_with fail
            refine (HW.out _).mono ?_
            rintro e w5 ⟨rfl, hb⟩
            have HB5 := hid (FIN.out.trans (hb.mono FIN.out.size))
            clear hb p0 p1 p2 p3 p4 p5
            go_wp2
            go_ret
            exact ⟨rfl, HB5.out⟩
          · clear cc
            go_wp2_with fail
            refine (HW.out _).mono ?_
            rintro e w5 ⟨rfl, hb⟩
            have HB5 := hid (FIN.out.trans (hb.mono FIN.out.size))
            clear hb p0 p1 p2 p3 p4 p5
            go_wp2
            go_ret
            exact ⟨rfl, HB5.out⟩
        · clear cc
          go_wp2_with fail
          refine (HW.out _).mono ?_
          rintro e w5 ⟨rfl, hb⟩
          have HB5 := hid (FIN.out.trans (hb.mono FIN.out.size))
          clear hb p0 p1 p2 p3 p4 p5
          go_wp2
          go_ret
          exact ⟨rfl, HB5.out⟩
theorem entry_inE {w : World} {a : Array Value} (hn : a.size = 6) (h : Rd Try.prog w 55 a.toList) : ∃ x : Ee, a = ecE x ∧ InE w x := by
  obtain ⟨x, h1, h2⟩ := rd_entry hn h
  exact ⟨x, Array.toList_inj.1 h1, h2⟩
theorem had_in {w : World} {A : Option Addr} {len cap : Nat} (h : Rd Try.prog w 53 [.slice A len cap]) : ∃ l : List Bool, l.length = len ∧ HadAt w A cap l := by
  obtain ⟨l, h1, rfl⟩ := bools_inB h
  exact ⟨l, rfl, h1⟩
end Go.Proofs.Ytgakobolhmdnnaa
