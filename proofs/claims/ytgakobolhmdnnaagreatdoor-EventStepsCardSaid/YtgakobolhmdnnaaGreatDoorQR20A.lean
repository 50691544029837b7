/- The document's book: One, Same: contracts. -/
import Derived.Test.YtgakobolhmdnnaaGreatDoorQSpA
import Derived.Deep.CutRange
import Derived.Test.YtgakobolhmdnnaaGreatDoorQSame06
import Derived.Test.YtgakobolhmdnnaaGreatDoorGaP
namespace Go.Proofs.YtgakobolhmdnnaaGreatDoor
open Go.RowKit Go.Sort
set_option linter.unusedVariables false
set_option linter.unusedSimpArgs false

instance : DecidableEq En := fun a b => decidable_of_iff (a.id = b.id ∧ a.sc = b.sc ∧ a.ep = b.ep ∧ a.ns = b.ns ∧ a.bd = b.bd ∧ a.dn = b.dn) (by cases a; cases b; simp)
theorem dn_eq {l m : List Bool} (hl : l.length = m.length) (h : ∀ j, j < l.length → l.getD j false = m.getD j false) : l = m := by
  apply List.ext_getElem hl
  intro i h1 h2
  have := h i h1
  simpa [List.getD, h1, h2] using this

set_option maxRecDepth 20000 in
set_option maxHeartbeats 8000000 in
theorem r20one_any (a b : Ee) (W : World) (ha : InE W a) (hb : InE W b) :
    Calls Tryz.prog 28 #[.agg (ecE a), .agg (ecE b)] W fun e w' => e = .returned (.bool (decide (a.1 = b.1))) ∧ RowKit.Below W.heap.size W w' := by
  obtain ⟨⟨id, sc, ep, ns, bd, dn⟩, ⟨A, ca, P, cb, D, cd⟩⟩ := a
  obtain ⟨⟨id2, sc2, ep2, ns2, bd2, dn2⟩, ⟨A2, ca2, P2, cb2, D2, cd2⟩⟩ := b
  have HRF := hid (fun (h : ¬ (⟨id, sc, ep, ns, bd, dn⟩ : En) = ⟨id2, sc2, ep2, ns2, bd2, dn2⟩) => (decide_eq_false h).symm)
  have HRT := hid (fun (h : (⟨id, sc, ep, ns, bd, dn⟩ : En) = ⟨id2, sc2, ep2, ns2, bd2, dn2⟩) => (decide_eq_true h).symm)
  simp only
  generalize decide ((⟨id, sc, ep, ns, bd, dn⟩ : En) = ⟨id2, sc2, ep2, ns2, bd2, dn2⟩) = R at *
  have l1 := sl_len64 ha.1.1
  have l2 := sl_len64 hb.1.1
  have l3 := sl_len64 ha.2.1
  have l4 := sl_len64 hb.2.1
  have l5 := sl_len64 ha.2.2
  have l6 := sl_len64 hb.2.2
  simp only at l1 l2 l3 l4 l5 l6
  have HS := hid (fun w (hw : RowKit.Below W.heap.size W w) => same03 A A2 ns.length ca ns2.length ca2 ns ns2 w ((ha.1.below hw).1) ((hb.1.below hw).1) l1 l2)
  have HP := hid (fun w (hw : RowKit.Below W.heap.size W w) => same06 P P2 bd.length cb bd2.length cb2 bd bd2 w (ha.2.1.below hw) (hb.2.1.below hw) l3 l4)
  have HD := hid ha.2.2
  have HD2 := hid hb.2.2
  have HE3 : Hid ((ns == ns2) = true ↔ ns = ns2) := hid (by simp)
  have HE4 : Hid ((bd == bd2) = true ↔ bd = bd2) := hid (by simp)
  clear ha hb l1 l2 l3 l4
  generalize (ns == ns2) = r3 at *
  generalize (bd == bd2) = r4 at *
  simp only [ecE]
  simp only at HD HD2
  go_enter Tryz.func28, Tryz.ntmps28
  go_upto_region 1 with (fail)
  refine at_world (fun u => u.heap[W.heap.size]? = some (.cells #[.int .i64 id, .int .i64 sc, .int .i64 ep, .slice A ns.length ca, .slice P bd.length cb, .slice D dn.length cd] 45 (0, 0)) ∧ u.heap[W.heap.size + 1]? = some (.cells #[.int .i64 id2, .int .i64 sc2, .int .i64 ep2, .slice A2 ns2.length ca2, .slice P2 bd2.length cb2, .slice D2 dn2.length cd2] 45 (0, 0)) ∧ RowKit.Below W.heap.size W u) ⟨heap_first _ _ _, heap_second _ _ _, below2 _ _ _⟩ ?_
  rintro w1 ⟨hx1, hy1, hb1⟩
  have HX1 := hid hx1
  have HY1 := hid hy1
  have HB1 := hid hb1
  obtain ⟨⟨p0, p1, p2, p3, p4, p5⟩, _⟩ := six_cells hx1
  obtain ⟨⟨q0, q1, q2, q3, q4, q5⟩, _⟩ := six_cells hy1
  clear hx1 hy1 hb1
  by_cases h1 : id = id2
  case neg =>
    have b1 : (id != id2) = true := by simpa using h1
    go_wp2
    go_ret
    exact ⟨by obtain rfl := HRF.out (fun h => h1 (congrArg En.id h)); rfl, HB1.out⟩
  obtain rfl := h1
  by_cases h2 : sc = sc2
  case neg =>
    have b1 : (sc != sc2) = true := by simpa using h2
    go_wp2
    go_ret
    exact ⟨by obtain rfl := HRF.out (fun h => h2 (congrArg En.sc h)); rfl, HB1.out⟩
  obtain rfl := h2
  by_cases h3 : ep = ep2
  case neg =>
    have b1 : (ep != ep2) = true := by simpa using h3
    go_wp2
    go_ret
    exact ⟨by obtain rfl := HRF.out (fun h => h3 (congrArg En.ep h)); rfl, HB1.out⟩
  obtain rfl := h3
  go_wp2_with fail
  refine (HS.out w1 HB1.out).mono ?_
  rintro e w2 ⟨rfl, qd, rfl⟩
  have hd1 : RowKit.Below w1.heap.size w1 (w1.drewN qd) := ⟨rfl, rfl, rfl, Nat.le_refl _, fun _ _ => rfl⟩
  have HB2 := hid (HB1.out.trans (hd1.mono HB1.out.size))
  have HX2 := hid (keep0 HX1.out hd1)
  have HY2 := hid (keep0 HY1.out hd1)
  clear hd1 HX1 HY1 HB1 HS
  cases r3
  case false =>
    go_wp2
    go_ret
    exact ⟨by obtain rfl := HRF.out (fun h => absurd (HE3.out.2 (congrArg En.ns h)) (by simp)); rfl, HB2.out⟩
  have hq := HE3.out.1 rfl
  subst hq
  clear HE3
  go_wp2_with fail
  refine (HP.out _ HB2.out).mono ?_
  rintro e w2 ⟨rfl, qe, rfl⟩
  have hd1 : RowKit.Below (w1.drewN qd).heap.size (w1.drewN qd) (w1.drewN (qd + qe)) := ⟨rfl, rfl, rfl, Nat.le_refl _, fun _ _ => rfl⟩
  have HB3 := hid (HB2.out.trans (hd1.mono HB2.out.size))
  have HX3 := hid (keep0 HX2.out hd1)
  have HY3 := hid (keep0 HY2.out hd1)
  clear hd1 HX2 HY2 HB2 HP
  cases r4
  case false =>
    go_wp2
    go_ret
    exact ⟨by obtain rfl := HRF.out (fun h => absurd (HE4.out.2 (congrArg En.bd h)) (by simp)); rfl, HB3.out⟩
  have hq := HE4.out.1 rfl
  subst hq
  clear HE4
  by_cases h5 : dn.length = dn2.length
  case neg =>
    have b1 : ((dn.length : Int) != (dn2.length : Int)) = true := by simpa using fun h => h5 (by omega)
    have b2 : (dn.length != dn2.length) = true := by simpa using h5
    have b3 : ((dn.length : Int) == (dn2.length : Int)) = false := by simpa using fun h => h5 (by omega)
    have b4 : (dn.length == dn2.length) = false := by simpa using h5
    go_wp2
    go_ret
    exact ⟨by obtain rfl := HRF.out (fun h => h5 (congrArg (fun z => z.dn.length) h)); rfl, HB3.out⟩
  have H5 := hid h5
  have HNL := hid (fun (n : Nat) (hn : n < dn.length) => show n < dn2.length by omega)
  rw [← h5] at HD2 q5 HY3 l6
  clear h5
  go_upto_region 4 with (fail)
  clear p0 p1 p2 p3 p4 p5 q0 q1 q2 q3 q4 q5
  refine at_world (fun u => u = w1.drewN (qd + qe)) rfl ?_
  generalize w1.drewN (qd + qe) = w3 at *
  rintro w4 rfl
  obtain ⟨⟨p0, p1, p2, p3, p4, p5⟩, _⟩ := six_cells HX3.out
  obtain ⟨⟨q0, q1, q2, q3, q4, q5⟩, _⟩ := six_cells HY3.out
  go_loopw [5] (fun i wr => ∃ n : Nat, n ≤ dn.length ∧ i = .int .i64 (n : Int) ∧ Hid (∀ j, j < n → dn.getD j false = dn2.getD j false) ∧ Hid (RowKit.Below w4.heap.size w4 wr)) (fun i _ => dn.length - (intOf i).toNat)
  case atStart => exact ⟨0, by omega, rfl, fun j hj => absurd hj (by omega), RowKit.Below.refl _ _⟩
  case round =>
    clear p0 p1 p2 p3 p4 p5 q0 q1 q2 q3 q4 q5
    obtain ⟨n, hn, rfl, HA, HBR⟩ := hrel
    obtain ⟨⟨p0, p1, p2, p3, p4, p5⟩, _⟩ := six_cells (keep0 HX3.out HBR.out)
    obtain ⟨⟨q0, q1, q2, q3, q4, q5⟩, _⟩ := six_cells (keep0 HY3.out HBR.out)
    by_cases hlt : n < dn.length
    · have hlt2 : (n : Int) < (dn.length : Int) := by omega
      have i0 : ¬ (n : Int) < 0 := by omega
      have HBW := hid (HB3.out.trans (HBR.out.mono HB3.out.size))
      have sD := HD.out.below HBW.out
      have sD2 := HD2.out.below HBW.out
      obtain ⟨bD, oD, hD9, _⟩ := sD.2.2.2 (by rw [blcells_length]; omega)
      obtain ⟨bD2, oD2, hD29, _⟩ := sD2.2.2.2 (by have := HNL.out n hlt; rw [blcells_length]; omega)
      rw [hD9] at sD p5
      rw [hD29] at sD2 q5
      have cD := Sl.blcell sD n hlt
      have cD2 := Sl.blcell sD2 n (HNL.out n hlt)
      clear sD sD2 hD9 hD29
      have HAN := hid (fun (h : dn.getD n false = dn2.getD n false) => show ∀ j, j < n + 1 → dn.getD j false = dn2.getD j false from fun j hj => by
        by_cases h9 : j < n
        · exact HA.out j h9
        · obtain rfl : j = n := by omega
          exact h)
      have HNE := hid (fun (h : ¬ dn.getD n false = dn2.getD n false) => HRF.out (fun h9 => h (congrArg (fun z => z.dn.getD n false) h9)))
      try simp only at HNE
      generalize dn.getD n false = z1 at *
      generalize dn2.getD n false = z2 at *
      go_upto_region 6 with (fail)
      replace p5 := cell_regrown p5
      replace q5 := cell_regrown q5
      replace cD := cell_regrown cD
      replace cD2 := cell_regrown cD2
      refine wp_region_quiet_below (by kernel_rfl) (by kernel_rfl) ?_
      repeat (go_big_quiet_step (fail))
      refine wpQuiet_nil ?_
      intro _ hw'
      obtain ⟨⟨dq, osq⟩, hw''⟩ := hw'
      subst hw''
      have HB4 := hid (HBR.out.trans ((below_regrown wr dq osq).mono HBR.out.size))
      have HBW4 := hid (HBW.out.trans ((below_regrown wr dq osq).mono HBW.out.size))
      clear p0 p1 p2 p3 p4 p5 q0 q1 q2 q3 q4 q5 cD cD2 HBR HBW HA
      cases z1
      case false =>
        cases z2
        case false =>
          have HA4 := hid (HAN.out rfl)
          go_wp2
          go_roundw
          case rel => exact ⟨n + 1, by omega, by go_num, HA4, HB4⟩
          case measure => simp [intOf]; omega
        case true =>
          have HRR := hid (HNE.out (by simp))
          clear HNE HAN
          go_wp2
          go_ret
          exact ⟨by obtain rfl := HRR.out; rfl, HBW4.out⟩
      case true =>
        cases z2
        case false =>
          have HRR := hid (HNE.out (by simp))
          clear HNE HAN
          go_wp2
          go_ret
          exact ⟨by obtain rfl := HRR.out; rfl, HBW4.out⟩
        case true =>
          have HA4 := hid (HAN.out rfl)
          go_wp2
          go_roundw
          case rel => exact ⟨n + 1, by omega, by go_num, HA4, HB4⟩
          case measure => simp [intOf]; omega
    · have hge : ¬ (n : Int) < (dn.length : Int) := by omega
      have HRR := hid (HRT.out (by rw [dn_eq H5.out (fun j hj => HA.out j (by omega))]))
      have HBW := hid (HB3.out.trans (HBR.out.mono HB3.out.size))
      go_wp2
      go_ret
      exact ⟨by obtain rfl := HRR.out; rfl, HBW.out⟩

set_option maxRecDepth 20000 in
set_option maxHeartbeats 4000000 in
theorem r20same_any (A B : Option Addr) (c c2 : Nat) (xs ys : List Ee) (W : World) (hx : InBk W A c xs) (hy : InBk W B c2 ys) :
    Calls Tryz.prog 12 #[.slice A xs.length c, .slice B ys.length c2] W fun e w' => e = .returned (.bool (decide (xs.map (·.1) = ys.map (·.1)))) ∧ RowKit.Below W.heap.size W w' := by
  have HRF := hid (fun (h : ¬ xs.map (·.1) = ys.map (·.1)) => (decide_eq_false h).symm)
  have HRT := hid (fun (h : xs.map (·.1) = ys.map (·.1)) => (decide_eq_true h).symm)
  generalize decide (xs.map (·.1) = ys.map (·.1)) = R at *
  have hxl : xs.length ≤ 9223372036854775807 := by have := hx.len; unfold maxLen at this; omega
  have hyl : ys.length ≤ 9223372036854775807 := by have := hy.len; unfold maxLen at this; omega
  have HX := hid hx
  have HY := hid hy
  clear hx hy
  go_enter Tryz.func12, Tryz.ntmps12
  by_cases hl : xs.length = ys.length
  case neg =>
    have b1 : ((xs.length : Int) != (ys.length : Int)) = true := by simpa using fun h => hl (by omega)
    have b2 : (xs.length != ys.length) = true := by simpa using hl
    have b3 : ((xs.length : Int) == (ys.length : Int)) = false := by simpa using fun h => hl (by omega)
    have b4 : (xs.length == ys.length) = false := by simpa using hl
    go_wp2
    go_ret
    exact ⟨by obtain rfl := HRF.out (fun h => hl (by simpa using congrArg List.length h)); rfl, RowKit.Below.refl _ _⟩
  have HL := hid hl
  have HNL := hid (fun (n : Nat) (hn : n < xs.length) => show n < ys.length by omega)
  rw [← hl]
  rw [← hl] at hyl
  clear hl
  go_wp2
  go_loopw [5] (fun i wr => ∃ n : Nat, n ≤ xs.length ∧ i = .int .i64 (n : Int) ∧ Hid (∀ j (h1 : j < xs.length) (h2 : j < ys.length), j < n → xs[j].1 = ys[j].1) ∧ Hid (RowKit.Below W.heap.size W wr)) (fun i _ => xs.length - (intOf i).toNat)
  case atStart => exact ⟨0, by omega, rfl, fun j h1 h2 hj => absurd hj (by omega), RowKit.Below.refl _ _⟩
  case round =>
    obtain ⟨n, hn, rfl, HA, HB⟩ := hrel
    by_cases hlt : n < xs.length
    · have hlt2 : (n : Int) < (xs.length : Int) := by omega
      have i0 : ¬ (n : Int) < 0 := by omega
      have hlt3 := HNL.out n hlt
      obtain ⟨b4, o4, hA4, y0, y1, y2, y3, y4, y5⟩ := (HX.out.below HB.out).el n hlt
      obtain ⟨b5, o5, hA5, z0, z1, z2, z3, z4, z5⟩ := (HY.out.below HB.out).el n hlt3
      have HC := hid (fun w (hw : RowKit.Below wr.heap.size wr w) => r20one_any xs[n] ys[n] w ((HX.out.2 _ (List.getElem_mem hlt)).below (HB.out.trans (hw.mono HB.out.size))) ((HY.out.2 _ (List.getElem_mem hlt3)).below (HB.out.trans (hw.mono HB.out.size))))
      have HAN := hid (fun (h : xs[n].1 = ys[n].1) => show ∀ j (h1 : j < xs.length) (h2 : j < ys.length), j < n + 1 → xs[j].1 = ys[j].1 from fun j h1 h2 hj => by
        by_cases h9 : j < n
        · exact HA.out j h1 h2 h9
        · obtain rfl : j = n := by omega
          exact h)
      have HNE := hid (fun (h : ¬ xs[n].1 = ys[n].1) => HRF.out (fun h9 => h (by
        have h8 := congrArg (fun l => l[n]?) h9
        simpa [hlt, hlt3] using h8)))
      have HI : Hid (decide (xs[n].1 = ys[n].1) = true ↔ xs[n].1 = ys[n].1) := hid (by simp)
      subst hA4 hA5
      generalize xs[n]'hlt = ya at *
      generalize ys[n]'hlt3 = za at *
      generalize decide (ya.1 = za.1) = r at *
      have HAN2 := hid (fun h => HAN.out (HI.out.1 h))
      have HNE2 := hid (fun (h : r = false) => HNE.out (fun h9 => by rw [HI.out.2 h9] at h; cases h))
      clear HAN HNE HI
      obtain ⟨⟨id1, sc1, ep1, ns1, bd1, dn1⟩, ⟨a1, ca1, a2, ca2, a3, ca3⟩⟩ := ya
      obtain ⟨⟨id2, sc2, ep2, ns2, bd2, dn2⟩, ⟨e1, ce1, e2, ce2, e3, ce3⟩⟩ := za
      simp only [ecE] at HC
      simp only at y0 y1 y2 y3 y4 y5 z0 z1 z2 z3 z4 z5
      clear hlt3
      go_upto_region 6 with (fail)
      have cG := reg (w := wr) (fun W' hW => HC.out W' hW)
      replace y0 := cell_regrown y0
      replace y1 := cell_regrown y1
      replace y2 := cell_regrown y2
      replace y3 := cell_regrown y3
      replace y4 := cell_regrown y4
      replace y5 := cell_regrown y5
      replace z0 := cell_regrown z0
      replace z1 := cell_regrown z1
      replace z2 := cell_regrown z2
      replace z3 := cell_regrown z3
      replace z4 := cell_regrown z4
      replace z5 := cell_regrown z5
      refine wp_region_quiet_below (by kernel_rfl) (by kernel_rfl) ?_
      repeat (go_big_quiet_step (first | (go_at_call 28; with_reducible exact cG _ _)))
      refine wpQuiet_nil ?_
      intro _ hw'
      obtain ⟨⟨dq, osq⟩, hw''⟩ := hw'
      subst hw''
      have HB2 := hid (HB.out.trans ((below_regrown wr dq osq).mono HB.out.size))
      clear cG HC HB HA y0 y1 y2 y3 y4 y5 z0 z1 z2 z3 z4 z5
      cases r
      case true =>
        have HA2 := hid (HAN2.out rfl)
        go_wp2
        go_roundw
        case rel => exact ⟨n + 1, by omega, by go_num, HA2, HB2⟩
        case measure => simp [intOf]; omega
      case false =>
        have HRR := hid (HNE2.out rfl)
        go_wp2
        go_ret
        exact ⟨by obtain rfl := HRR.out; rfl, HB2.out⟩
    · have hge : ¬ (n : Int) < (xs.length : Int) := by omega
      have HRR := hid (HRT.out (by
        apply List.ext_getElem (by simpa using HL.out)
        intro j h1 h2
        have h3 : j < xs.length := by simpa using h1
        have h4 : j < ys.length := by simpa using h2
        simpa using HA.out j h3 h4 (by omega)))
      go_wp2
      go_ret
      exact ⟨by obtain rfl := HRR.out; rfl, HB.out⟩
end Go.Proofs.YtgakobolhmdnnaaGreatDoor
