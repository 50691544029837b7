/- book.Same: contract. -/
import Derived.Test.YtkepfkfoblocgaaQR20A
import Derived.Test.YtkepfkfoblocgaaQEqI
import Derived.Test.YtkepfkfoblocgaaQEqS
namespace Go.Proofs.Ytkepfkfoblocgaa
open Go.RowKit Go.Sort
set_option linter.unusedVariables false
set_option linter.unusedSimpArgs false

set_option maxRecDepth 20000 in
set_option maxHeartbeats 4000000 in
theorem eqbl_any (A B : Option Addr) (cA cB : Nat) (l m : List Bool) (W : World) (hA : Sl W 1 A l.length cA (blcells l)) (hB : Sl W 1 B m.length cB (blcells m)) :
    Calls Try.prog 133 #[.slice A l.length cA, .slice B m.length cB] W fun e w' => e = .returned (.bool (l == m)) ∧ RowKit.Below W.heap.size W w' := by
  have HRF := hid (fun (h : ¬ l = m) => show false = (l == m) from (beq_eq_false_iff_ne.2 h).symm)
  have HRT := hid (fun (h : l = m) => show true = (l == m) by rw [h]; simp)
  have l5 := sl_len64 hA
  have l6 := sl_len64 hB
  have HD := hid hA
  have HD2 := hid hB
  clear hA hB
  generalize (l == m) = R at *
  go_enter Try.func133, Try.ntmps133
  by_cases h5 : l.length = m.length
  case neg =>
    have b1 : ((l.length : Int) != (m.length : Int)) = true := by simpa using fun h => h5 (by omega)
    have b2 : (l.length != m.length) = true := by simpa using h5
    have b3 : ((l.length : Int) == (m.length : Int)) = false := by simpa using fun h => h5 (by omega)
    have b4 : (l.length == m.length) = false := by simpa using h5
    go_wp2
    go_ret
    exact ⟨by obtain rfl := HRF.out (fun h => h5 (congrArg List.length h)); rfl, RowKit.Below.refl _ _⟩
  have H5 := hid h5
  have HNL := hid (fun (n : Nat) (hn : n < l.length) => show n < m.length by omega)
  rw [← h5] at HD2 l6
  rw [← h5]
  clear h5
  go_wp2
  go_loopw [13] (fun i wr => ∃ n : Nat, n ≤ l.length ∧ i = .int .i64 (n : Int) ∧ Hid (∀ j, j < n → l.getD j false = m.getD j false) ∧ Hid (RowKit.Below W.heap.size W wr)) (fun i _ => l.length - (intOf i).toNat)
  case atStart => exact ⟨0, by omega, rfl, fun j hj => absurd hj (by omega), RowKit.Below.refl _ _⟩
  case round =>
    obtain ⟨n, hn, rfl, HA, HBR⟩ := hrel
    by_cases hlt : n < l.length
    · have hlt2 : (n : Int) < (l.length : Int) := by omega
      have i0 : ¬ (n : Int) < 0 := by omega
      have sD := HD.out.below HBR.out
      have sD2 := HD2.out.below HBR.out
      obtain ⟨bD, oD, hD9, _⟩ := sD.2.2.2 (by rw [blcells_length]; omega)
      obtain ⟨bD2, oD2, hD29, _⟩ := sD2.2.2.2 (by have := HNL.out n hlt; rw [blcells_length]; omega)
      subst hD9 hD29
      have cD := Sl.blcell sD n hlt
      have cD2 := Sl.blcell sD2 n (HNL.out n hlt)
      clear sD sD2
      have HAN := hid (fun (h : l.getD n false = m.getD n false) => show ∀ j, j < n + 1 → l.getD j false = m.getD j false from fun j hj => by
        by_cases h9 : j < n
        · exact HA.out j h9
        · obtain rfl : j = n := by omega
          exact h)
      have HNE := hid (fun (h : ¬ l.getD n false = m.getD n false) => HRF.out (fun h9 => h (by rw [h9])))
      generalize l.getD n false = z1 at *
      generalize m.getD n false = z2 at *
      go_upto_region 6 with (fail)
      replace cD := cell_regrown cD
      replace cD2 := cell_regrown cD2
      refine wp_region_quiet_below (by kernel_rfl) (by kernel_rfl) ?_
      repeat (go_big_quiet_step (fail))
      refine wpQuiet_nil ?_
      intro _ hw'
      obtain ⟨⟨dq, osq⟩, hw''⟩ := hw'
      subst hw''
      have HB4 := hid (HBR.out.trans ((below_regrown wr dq osq).mono HBR.out.size))
      clear cD cD2 HBR HA
      cases z1
      case false =>
        cases z2
        case false =>
          have HA4 := hid (HAN.out rfl)
          go_wp2
          go_roundw
          case rel => exact ⟨n + 1, by omega, by go_num, HA4, HB4⟩
          case measure => simp [intOf]; omega
        case true =>
          have HRR := hid (HNE.out (by simp))
          clear HNE HAN
          go_wp2
          go_ret
          exact ⟨by obtain rfl := HRR.out; rfl, HB4.out⟩
      case true =>
        cases z2
        case false =>
          have HRR := hid (HNE.out (by simp))
          clear HNE HAN
          go_wp2
          go_ret
          exact ⟨by obtain rfl := HRR.out; rfl, HB4.out⟩
        case true =>
          have HA4 := hid (HAN.out rfl)
          go_wp2
          go_roundw
          case rel => exact ⟨n + 1, by omega, by go_num, HA4, HB4⟩
          case measure => simp [intOf]; omega
    · have hge : ¬ (n : Int) < (l.length : Int) := by omega
      have HRR := hid (HRT.out (dn_eq H5.out (fun j hj => HA.out j (by omega))))
      go_wp2
      go_ret
      exact ⟨by obtain rfl := HRR.out; rfl, HBR.out⟩

set_option maxRecDepth 20000 in
set_option maxHeartbeats 8000000 in
theorem bsame1_any (a b : Ee) (W : World) (ha : InE W a) (hb : InE W b) :
    Calls Try.prog 113 #[.agg (ecE a), .agg (ecE b)] W fun e w' => e = .returned (.bool (decide (a.1 = b.1))) ∧ RowKit.Below W.heap.size W w' := by
  obtain ⟨⟨id, sc, ep, ns, bd, dn⟩, ⟨A, ca, P, cb, D, cd⟩⟩ := a
  obtain ⟨⟨id2, sc2, ep2, ns2, bd2, dn2⟩, ⟨A2, ca2, P2, cb2, D2, cd2⟩⟩ := b
  have HRF := hid (fun (h : ¬ (⟨id, sc, ep, ns, bd, dn⟩ : En) = ⟨id2, sc2, ep2, ns2, bd2, dn2⟩) => (decide_eq_false h).symm)
  have HRT := hid (fun (h : (⟨id, sc, ep, ns, bd, dn⟩ : En) = ⟨id2, sc2, ep2, ns2, bd2, dn2⟩) => (decide_eq_true h).symm)
  simp only
  generalize decide ((⟨id, sc, ep, ns, bd, dn⟩ : En) = ⟨id2, sc2, ep2, ns2, bd2, dn2⟩) = R at *
  have l1 := sl_len64 ha.1.1
  have l2 := sl_len64 hb.1.1
  have l3 := sl_len64 ha.2.1
  have l4 := sl_len64 hb.2.1
  simp only at l1 l2 l3 l4
  have HS := hid (fun w (hw : RowKit.Below W.heap.size W w) => equal_str A A2 ns.length ca ns2.length ca2 ns ns2 w ((ha.1.below hw).1) ((hb.1.below hw).1) l1 l2)
  have HP := hid (fun w (hw : RowKit.Below W.heap.size W w) => equal_int P P2 bd.length cb bd2.length cb2 bd bd2 w (ha.2.1.below hw) (hb.2.1.below hw) l3 l4)
  have HQ := hid (fun w (hw : RowKit.Below W.heap.size W w) => eqbl_any D D2 cd cd2 dn dn2 w (ha.2.2.below hw) (hb.2.2.below hw))
  have HE3 : Hid ((ns == ns2) = true ↔ ns = ns2) := hid (by simp)
  have HE4 : Hid ((bd == bd2) = true ↔ bd = bd2) := hid (by simp)
  have HE5 : Hid ((dn == dn2) = true ↔ dn = dn2) := hid (by simp)
  clear ha hb l1 l2 l3 l4
  generalize (ns == ns2) = r3 at *
  generalize (bd == bd2) = r4 at *
  generalize (dn == dn2) = r5 at *
  simp only [ecE]
  go_enter Try.func113, Try.ntmps113
  go_upto_region 1 with (fail)
  refine at_world (fun u => u.heap[W.heap.size]? = some (.cells #[.int .i64 id, .int .i64 sc, .int .i64 ep, .slice A ns.length ca, .slice P bd.length cb, .slice D dn.length cd] 93 (0, 0)) ∧ u.heap[W.heap.size + 1]? = some (.cells #[.int .i64 id2, .int .i64 sc2, .int .i64 ep2, .slice A2 ns2.length ca2, .slice P2 bd2.length cb2, .slice D2 dn2.length cd2] 93 (0, 0)) ∧ RowKit.Below W.heap.size W u) ⟨heap_first _ _ _, heap_second _ _ _, below2 _ _ _⟩ ?_
  rintro w1 ⟨hx1, hy1, hb1⟩
  have HX1 := hid hx1
  have HY1 := hid hy1
  have HB1 := hid hb1
  obtain ⟨⟨p0, p1, p2, p3, p4, p5⟩, _⟩ := six_cells hx1
  obtain ⟨⟨q0, q1, q2, q3, q4, q5⟩, _⟩ := six_cells hy1
  clear hx1 hy1 hb1
  by_cases h1 : id = id2
  case neg =>
    have b1 : (id == id2) = false := by simpa using h1
    go_wp2
    go_ret
    exact ⟨by obtain rfl := HRF.out (fun h => h1 (congrArg En.id h)); rfl, HB1.out⟩
  obtain rfl := h1
  by_cases h2 : sc = sc2
  case neg =>
    have b1 : (sc == sc2) = false := by simpa using h2
    go_wp2
    go_ret
    exact ⟨by obtain rfl := HRF.out (fun h => h2 (congrArg En.sc h)); rfl, HB1.out⟩
  obtain rfl := h2
  by_cases h3 : ep = ep2
  case neg =>
    have b1 : (ep == ep2) = false := by simpa using h3
    go_wp2
    go_ret
    exact ⟨by obtain rfl := HRF.out (fun h => h3 (congrArg En.ep h)); rfl, HB1.out⟩
  obtain rfl := h3
  go_wp2_with fail
  refine (HS.out _ HB1.out).mono ?_
  rintro e w2 ⟨rfl, qd, rfl⟩
  have hd1 : RowKit.Below (w1).heap.size (w1) (w1.drewN qd) := ⟨rfl, rfl, rfl, Nat.le_refl _, fun _ _ => rfl⟩
  have HB2 := hid (HB1.out.trans (hd1.mono HB1.out.size))
  have HX2 := hid (keep0 HX1.out hd1)
  have HY2 := hid (keep0 HY1.out hd1)
  clear hd1 HX1 HY1 HB1 HS
  cases r3
  case false =>
    go_wp2
    go_ret
    exact ⟨by obtain rfl := HRF.out (fun h => absurd (HE3.out.2 (congrArg En.ns h)) (by simp)); rfl, HB2.out⟩
  have hq := HE3.out.1 rfl
  subst hq
  clear HE3
  go_wp2_with fail
  refine (HP.out _ HB2.out).mono ?_
  rintro e w2 ⟨rfl, qe, rfl⟩
  have hd1 : RowKit.Below (w1.drewN qd).heap.size (w1.drewN qd) (w1.drewN (qd + qe)) := ⟨rfl, rfl, rfl, Nat.le_refl _, fun _ _ => rfl⟩
  have HB3 := hid (HB2.out.trans (hd1.mono HB2.out.size))
  have HX3 := hid (keep0 HX2.out hd1)
  have HY3 := hid (keep0 HY2.out hd1)
  clear hd1 HX2 HY2 HB2 HP
  cases r4
  case false =>
    go_wp2
    go_ret
    exact ⟨by obtain rfl := HRF.out (fun h => absurd (HE4.out.2 (congrArg En.bd h)) (by simp)); rfl, HB3.out⟩
  have hq := HE4.out.1 rfl
  subst hq
  clear HE4
  go_wp2_with fail
  refine (HQ.out _ HB3.out).mono ?_
  rintro e w2 ⟨rfl, hb2⟩
  have HB4 := hid (HB3.out.trans (hb2.mono HB3.out.size))
  clear hb2
  have HRR : Hid (r5 = R) := hid (by
    cases r5
    · exact HRF.out (fun h => absurd (HE5.out.2 (congrArg En.dn h)) (by simp))
    · exact HRT.out (by rw [HE5.out.1 rfl]))
  clear HRF HRT HE5
  go_wp2
  go_ret
  exact ⟨by obtain rfl := HRR.out; rfl, HB4.out⟩

set_option maxRecDepth 20000 in
set_option maxHeartbeats 4000000 in
theorem beqf_any (A B : Option Addr) (c c2 : Nat) (xs ys : List Ee) (W : World) (hx : InBk W A c xs) (hy : InBk W B c2 ys) :
    Calls Try.prog 112 #[.slice A xs.length c, .slice B ys.length c2, .func (.func 113) #[] #[]] W fun e w' => e = .returned (.bool (decide (xs.map (·.1) = ys.map (·.1)))) ∧ RowKit.Below W.heap.size W w' := by
  have HRF := hid (fun (h : ¬ xs.map (·.1) = ys.map (·.1)) => (decide_eq_false h).symm)
  have HRT := hid (fun (h : xs.map (·.1) = ys.map (·.1)) => (decide_eq_true h).symm)
  generalize decide (xs.map (·.1) = ys.map (·.1)) = R at *
  have hxl : xs.length ≤ 9223372036854775807 := by have := hx.len; unfold maxLen at this; omega
  have hyl : ys.length ≤ 9223372036854775807 := by have := hy.len; unfold maxLen at this; omega
  have HX := hid hx
  have HY := hid hy
  clear hx hy
  go_enter Try.func112, Try.ntmps112
  by_cases hl : xs.length = ys.length
  case neg =>
    have b1 : ((xs.length : Int) != (ys.length : Int)) = true := by simpa using fun h => hl (by omega)
    have b2 : (xs.length != ys.length) = true := by simpa using hl
    have b3 : ((xs.length : Int) == (ys.length : Int)) = false := by simpa using fun h => hl (by omega)
    have b4 : (xs.length == ys.length) = false := by simpa using hl
    go_wp2
    go_ret
    exact ⟨by obtain rfl := HRF.out (fun h => hl (by simpa using congrArg List.length h)); rfl, RowKit.Below.refl _ _⟩
  have HL := hid hl
  have HNL := hid (fun (n : Nat) (hn : n < xs.length) => show n < ys.length by omega)
  rw [← hl]
  rw [← hl] at hyl
  clear hl
  go_wp2
  go_loopw [17] (fun i wr => ∃ n : Nat, n ≤ xs.length ∧ i = .int .i64 (n : Int) ∧ Hid (∀ j (h1 : j < xs.length) (h2 : j < ys.length), j < n → xs[j].1 = ys[j].1) ∧ Hid (RowKit.Below W.heap.size W wr)) (fun i _ => xs.length - (intOf i).toNat)
  case atStart => exact ⟨0, by omega, rfl, fun j h1 h2 hj => absurd hj (by omega), RowKit.Below.refl _ _⟩
  case round =>
    obtain ⟨n, hn, rfl, HA, HB⟩ := hrel
    by_cases hlt : n < xs.length
    · have hlt2 : (n : Int) < (xs.length : Int) := by omega
      have i0 : ¬ (n : Int) < 0 := by omega
      have hlt3 := HNL.out n hlt
      obtain ⟨b4, o4, hA4, y0, y1, y2, y3, y4, y5⟩ := (HX.out.below HB.out).el n hlt
      obtain ⟨b5, o5, hA5, z0, z1, z2, z3, z4, z5⟩ := (HY.out.below HB.out).el n hlt3
      have HC := hid (fun w (hw : RowKit.Below W.heap.size W w) => bsame1_any xs[n] ys[n] w ((HX.out.2 _ (List.getElem_mem hlt)).below hw) ((HY.out.2 _ (List.getElem_mem hlt3)).below hw))
      have HAN := hid (fun (h : xs[n].1 = ys[n].1) => show ∀ j (h1 : j < xs.length) (h2 : j < ys.length), j < n + 1 → xs[j].1 = ys[j].1 from fun j h1 h2 hj => by
        by_cases h9 : j < n
        · exact HA.out j h1 h2 h9
        · obtain rfl : j = n := by omega
          exact h)
      have HNE := hid (fun (h : ¬ xs[n].1 = ys[n].1) => HRF.out (fun h9 => h (by
        have h8 := congrArg (fun l => l[n]?) h9
        simpa [hlt, hlt3] using h8)))
      have HI : Hid (decide (xs[n].1 = ys[n].1) = true ↔ xs[n].1 = ys[n].1) := hid (by simp)
      subst hA4 hA5
      generalize xs[n]'hlt = ya at *
      generalize ys[n]'hlt3 = za at *
      generalize decide (ya.1 = za.1) = r at *
      have HAN2 := hid (fun h => HAN.out (HI.out.1 h))
      have HNE2 := hid (fun (h : r = false) => HNE.out (fun h9 => by rw [HI.out.2 h9] at h; cases h))
      clear HAN HNE HI
      obtain ⟨⟨id1, sc1, ep1, ns1, bd1, dn1⟩, ⟨a1, ca1, a2, ca2, a3, ca3⟩⟩ := ya
      obtain ⟨⟨id2, sc2, ep2, ns2, bd2, dn2⟩, ⟨e1, ce1, e2, ce2, e3, ce3⟩⟩ := za
      simp only [ecE] at HC
      simp only at y0 y1 y2 y3 y4 y5 z0 z1 z2 z3 z4 z5
      clear hlt3
      go_upto_region 6 with (fail)
      refine at_world (fun u => u.heap[wr.heap.size]? = some (.cells #[.int .i64 id1, .int .i64 sc1, .int .i64 ep1, .slice a1 ns1.length ca1, .slice a2 bd1.length ca2, .slice a3 dn1.length ca3] 93 (0, 0)) ∧ RowKit.Below wr.heap.size wr u) ⟨heap_alloc_new _ _, (RowKit.Below.refl _ _).alloc (Nat.le_refl _) _⟩ ?_
      rintro w2 ⟨hx2, hb2⟩
      replace z0 := cellb hb2 z0
      replace z1 := cellb hb2 z1
      replace z2 := cellb hb2 z2
      replace z3 := cellb hb2 z3
      replace z4 := cellb hb2 z4
      replace z5 := cellb hb2 z5
      have HX2 := hid hx2
      have HB2 := hid (HB.out.trans (hb2.mono HB.out.size))
      clear hx2 hb2 HB y0 y1 y2 y3 y4 y5
      generalize wr.heap.size = N1 at *
      go_upto_region 7 with (fail)
      refine at_world (fun u => u.heap[N1]? = some (.cells #[.int .i64 id1, .int .i64 sc1, .int .i64 ep1, .slice a1 ns1.length ca1, .slice a2 bd1.length ca2, .slice a3 dn1.length ca3] 93 (0, 0)) ∧ u.heap[w2.heap.size]? = some (.cells #[.int .i64 id2, .int .i64 sc2, .int .i64 ep2, .slice e1 ns2.length ce1, .slice e2 bd2.length ce2, .slice e3 dn2.length ce3] 93 (0, 0)) ∧ RowKit.Below w2.heap.size w2 u) ⟨keep0 HX2.out ((RowKit.Below.refl _ _).alloc (Nat.le_refl _) _), heap_alloc_new _ _, (RowKit.Below.refl _ _).alloc (Nat.le_refl _) _⟩ ?_
      clear z0 z1 z2 z3 z4 z5 HX2
      rintro w3 ⟨hx3, hy3, hb3⟩
      have HB3 := hid (HB2.out.trans (hb3.mono HB2.out.size))
      obtain ⟨⟨y0, y1, y2, y3, y4, y5⟩, _⟩ := six_cells hx3
      obtain ⟨⟨z0, z1, z2, z3, z4, z5⟩, _⟩ := six_cells hy3
      clear hx3 hy3 hb3 HB2
      go_wp2_with fail
      refine (HC.out w3 HB3.out).mono ?_
      rintro e w4 ⟨rfl, hb4⟩
      have HB4 := hid (HB3.out.trans (hb4.mono HB3.out.size))
      clear hb4 HC HB3 HA y0 y1 y2 y3 y4 y5 z0 z1 z2 z3 z4 z5
      cases r
      case true =>
        have HA2 := hid (HAN2.out rfl)
        go_wp2
        go_roundw
        case rel => exact ⟨n + 1, by omega, by go_num, HA2, HB4⟩
        case measure => simp [intOf]; omega
      case false =>
        have HRR := hid (HNE2.out rfl)
        go_wp2
        go_ret
        exact ⟨by obtain rfl := HRR.out; rfl, HB4.out⟩
    · have hge : ¬ (n : Int) < (xs.length : Int) := by omega
      have HRR := hid (HRT.out (by
        apply List.ext_getElem (by simpa using HL.out)
        intro j h1 h2
        have h3 : j < xs.length := by simpa using h1
        have h4 : j < ys.length := by simpa using h2
        simpa using HA.out j h3 h4 (by omega)))
      go_wp2
      go_ret
      exact ⟨by obtain rfl := HRR.out; rfl, HB.out⟩
set_option maxRecDepth 20000 in
theorem bsame_any (A B : Option Addr) (c c2 : Nat) (xs ys : List Ee) (W : World) (hx : InBk W A c xs) (hy : InBk W B c2 ys) :
    Calls Try.prog 63 #[.slice A xs.length c, .slice B ys.length c2] W fun e w' => e = .returned (.bool (decide (xs.map (·.1) = ys.map (·.1)))) ∧ RowKit.Below W.heap.size W w' := by
  have HE := hid (beqf_any A B c c2 xs ys W hx hy)
  clear hx hy
  generalize decide (xs.map (·.1) = ys.map (·.1)) = R at *
  go_enter Try.func63, Try.ntmps63
  go_wp2_with fail
  refine HE.out.mono ?_
  rintro e w2 ⟨rfl, hb2⟩
  have HB2 := hid hb2
  clear hb2
  go_wp2
  go_ret
  exact ⟨rfl, HB2.out⟩
end Go.Proofs.Ytkepfkfoblocgaa
