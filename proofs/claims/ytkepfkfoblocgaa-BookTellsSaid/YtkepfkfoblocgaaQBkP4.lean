/- The law's grows: contract. -/
import Derived.Test.YtkepfkfoblocgaaQBkP3
import Derived.Test.YtkepfkfoblocgaaQStrC
import Derived.Deep.CutRange
namespace Go.Proofs.Ytkepfkfoblocgaa
open Go.RowKit Go.Sort
set_option linter.unusedVariables false
set_option linter.unusedSimpArgs false

theorem three_boxes (W : World) (o1 o2 o3 : Obj) : (((W.alloc o1).alloc o2).alloc o3).heap[W.heap.size]? = some o1 ∧ (((W.alloc o1).alloc o2).alloc o3).heap[W.heap.size + 1]? = some o2 ∧ (((W.alloc o1).alloc o2).alloc o3).heap[W.heap.size + 2]? = some o3 ∧ RowKit.Below W.heap.size W (((W.alloc o1).alloc o2).alloc o3) := by
  have h3 : RowKit.Below ((W.alloc o1).alloc o2).heap.size ((W.alloc o1).alloc o2) (((W.alloc o1).alloc o2).alloc o3) := (RowKit.Below.refl _ _).alloc (Nat.le_refl _) _
  have hs : ((W.alloc o1).alloc o2).heap.size = W.heap.size + 2 := by simp
  refine ⟨keep0 (heap_first W o1 o2) h3, keep0 (heap_second W o1 o2) h3, ?_, (below2 W o1 o2).trans (h3.mono (by omega))⟩
  rw [← hs]
  exact heap_alloc_new _ _

set_option maxRecDepth 20000 in
set_option maxHeartbeats 8000000 in
theorem grows_any (a b : Ee) (x : Rc) (Ax : Option Addr) (cx : Nat) (W : World) (ha : InE W a) (hb : InE W b) (oa : OkE a.1) (ob : OkE b.1) (hg : GrowE a.1 b.1 x) (hxw : 0 ≤ x.w ∧ x.w ≤ 63) :
    Calls Try.prog 74 #[.agg (ecE a), .agg (ecE b), .agg (rcc x Ax cx)] W fun e w' => e = .returned (.bool true) ∧ RowKit.Below W.heap.size W w' := by
  obtain ⟨⟨id, sc, ep, ns, bd, dn⟩, ⟨A, ca, P, cb, D, cd⟩⟩ := a
  obtain ⟨⟨id2, sc2, ep2, ns2, bd2, dn2⟩, ⟨A2, ca2, P2, cb2, D2, cd2⟩⟩ := b
  obtain ⟨k, j, t, wk, s, ee, xs⟩ := x
  obtain ⟨g1, g2, g3, g4, g5⟩ := hg
  simp only at g1 g2 g3 g4 g5
  subst g1 g2
  obtain ⟨oa1, oa2, oa3, oa4, _, _⟩ := oa
  obtain ⟨ob1, ob2, _, ob4, _, ob6⟩ := ob
  simp only at oa1 oa2 oa3 oa4 ob1 ob2 ob4 ob6 hxw
  have HS := hid (fun w (hw : RowKit.Below W.heap.size W w) => same03 A A2 ns.length ca ns.length ca2 ns ns w ((ha.1.below hw).1) ((hb.1.below hw).1) (by omega) (by omega))
  rw [show (ns == ns) = true by simp] at HS
  have HA := hid ha.2
  have HBb := hid hb.2
  simp only [ecE, rcc, oa1, oa2, ob1, ob2]
  simp only [oa1, oa2, ob1, ob2] at HA HBb
  have HG4 := hid g4
  have HG5 := hid g5
  have HO6 := hid ob6
  have HO1 := hid (And.intro oa1 ob1)
  have HO2 := hid (And.intro oa2 ob2)
  clear ha hb g4 g5 ob6 oa1 oa2 ob1 ob2
  generalize hnl : ns.length = nl at *
  clear hnl
  go_enter Try.func74, Try.ntmps74
  go_upto_region 1 with (fail)
  refine at_world (fun u => u.heap[W.heap.size]? = some (.cells #[.int .i64 id, .int .i64 sc, .int .i64 ep, .slice A nl ca, .slice P nl cb, .slice D nl cd] 93 (0, 0)) ∧ u.heap[W.heap.size + 1]? = some (.cells #[.int .i64 id, .int .i64 sc2, .int .i64 ep2, .slice A2 nl ca2, .slice P2 nl cb2, .slice D2 nl cd2] 93 (0, 0)) ∧ u.heap[W.heap.size + 2]? = some (.cells #[.int .i64 k, .int .i64 j, .int .i64 t, .int .i64 wk, .int .i64 s, .int .i64 ee, .slice Ax xs.length cx] 45 (0, 0)) ∧ RowKit.Below W.heap.size W u) (three_boxes _ _ _ _) ?_
  rintro w1 ⟨hx1, hy1, hz1, hb1⟩
  have HX1 := hid hx1
  have HY1 := hid hy1
  have HZ1 := hid hz1
  have HB1 := hid hb1
  obtain ⟨⟨p0, p1, p2, p3, p4, p5⟩, _⟩ := six_cells hx1
  obtain ⟨⟨q0, q1, q2, q3, q4, q5⟩, _⟩ := six_cells hy1
  obtain ⟨r0, r1, r2, r3, r4, r5, r6⟩ := seven_cells hz1
  clear hx1 hy1 hz1 hb1
  go_wp2_with fail
  refine (HS.out w1 HB1.out).mono ?_
  rintro e w2 ⟨rfl, qd, rfl⟩
  have hd1 : RowKit.Below w1.heap.size w1 (w1.drewN qd) := ⟨rfl, rfl, rfl, Nat.le_refl _, fun _ _ => rfl⟩
  go_upto_region 4 with (fail)
  have HX2 := hid (keep0 HX1.out hd1)
  have HY2 := hid (keep0 HY1.out hd1)
  have HZ2 := hid (keep0 HZ1.out hd1)
  have HB2 := hid (HB1.out.trans (hd1.mono HB1.out.size))
  refine at_world (fun u => u = w1.drewN qd) rfl ?_
  generalize w1.drewN qd = w3 at *
  clear hd1 HX1 HY1 HZ1 HB1 HS p0 p1 p2 p3 p4 p5 q0 q1 q2 q3 q4 q5 r0 r1 r2 r3 r4 r5 r6
  rintro w4 rfl
  obtain ⟨⟨p0, p1, p2, p3, p4, p5⟩, _⟩ := six_cells HX2.out
  obtain ⟨⟨q0, q1, q2, q3, q4, q5⟩, _⟩ := six_cells HY2.out
  obtain ⟨r0, r1, r2, r3, r4, r5, r6⟩ := seven_cells HZ2.out
  go_cut [84] from 53 to 84 (fun v wx => v = .bool false ∧ w4 = wx)
  case first =>
    rcases g3 with he | ⟨he, hk, hj, hee⟩
    · subst he
      go_wp2_with fail
      go_meet
      exact ⟨rfl, rfl⟩
    · subst hk hj hee
      have hwr : IntKind.i64.wrap (ep + 1) = ep + 1 := by simp [IntKind.wrap, IntKind.bits, IntKind.signed]; omega
      subst he
      have be : (ep + 1 != ep) = true := by simp; omega
      have be2 : (ep + 1 != ep + 1) = false := by simp
      go_wp2_with fail
      go_meet
      exact ⟨rfl, rfl⟩
  case rest =>
    obtain ⟨rfl, rfl⟩ := hcut
    clear p0 p1 p2 p3 p4 p5 q0 q1 q2 q3 q4 q5 r0 r1 r2 r3 r4 r5 r6 g3
    go_wp2
    go_loopw [8] (fun i wr => ∃ n : Nat, n ≤ nl ∧ i = .int .i64 (n : Int) ∧ Hid (RowKit.Below w4.heap.size w4 wr)) (fun i _ => nl - (intOf i).toNat)
    case atStart => exact ⟨0, by omega, rfl, RowKit.Below.refl _ _⟩
    case round =>
      obtain ⟨n, hn, rfl, HBR⟩ := hrel
      by_cases hlt : n < nl
      · have hlt2 : (n : Int) < (nl : Int) := by omega
        have i0 : ¬ (n : Int) < 0 := by omega
        obtain ⟨⟨p0, p1, p2, p3, p4, p5⟩, _⟩ := six_cells (keep0 HX2.out HBR.out)
        obtain ⟨⟨q0, q1, q2, q3, q4, q5⟩, _⟩ := six_cells (keep0 HY2.out HBR.out)
        obtain ⟨r0, r1, r2, r3, r4, r5, r6⟩ := seven_cells (keep0 HZ2.out HBR.out)
        have HBW := hid (HB2.out.trans (HBR.out.mono HB2.out.size))
        have sP := HA.out.1.below HBW.out
        have sD := HA.out.2.below HBW.out
        have sP2 := HBb.out.1.below HBW.out
        have sD2 := HBb.out.2.below HBW.out
        obtain ⟨bP, oP, hP9, _⟩ := sP.2.2.2 (by rw [icells_length, HO1.out.1]; omega)
        obtain ⟨bD, oD, hD9, _⟩ := sD.2.2.2 (by rw [blcells_length, HO2.out.1]; omega)
        obtain ⟨bP2, oP2, hP29, _⟩ := sP2.2.2.2 (by rw [icells_length, HO1.out.2]; omega)
        obtain ⟨bD2, oD2, hD29, _⟩ := sD2.2.2.2 (by rw [blcells_length, HO2.out.2]; omega)
        rw [hP9] at sP p4
        rw [hD9] at sD p5
        rw [hP29] at sP2 q4
        rw [hD29] at sD2 q5
        have cP := Sl.cell sP n (by rw [HO1.out.1]; exact hlt)
        have cD := Sl.blcell sD n (by rw [HO2.out.1]; exact hlt)
        have cP2 := Sl.cell sP2 n (by rw [HO1.out.2]; exact hlt)
        have cD2 := Sl.blcell sD2 n (by rw [HO2.out.2]; exact hlt)
        clear sP sD sP2 sD2 hP9 hD9 hP29 hD29
        have h4 := HG4.out n
        have H5 := hid (HG5.out n)
        have H6 := hid (HO6.out n)
        generalize bd.getD n 0 = y1 at *
        generalize bd2.getD n 0 = y2 at *
        generalize dn.getD n false = z1 at *
        generalize dn2.getD n false = z2 at *
        go_upto_region 9 with (fail)
        obtain ⟨wq, hwq⟩ : ∃ wq : World, wq = wr := ⟨_, rfl⟩
        subst hwq
        go_cut [144] from 90 to 144 (fun v wx => v = .bool false ∧ RowKit.Below wq.heap.size wq wx)
        case first =>
          replace p0 := cell_regrown p0
          replace p1 := cell_regrown p1
          replace p2 := cell_regrown p2
          replace p3 := cell_regrown p3
          replace p4 := cell_regrown p4
          replace p5 := cell_regrown p5
          replace q0 := cell_regrown q0
          replace q1 := cell_regrown q1
          replace q2 := cell_regrown q2
          replace q3 := cell_regrown q3
          replace q4 := cell_regrown q4
          replace q5 := cell_regrown q5
          replace r0 := cell_regrown r0
          replace r1 := cell_regrown r1
          replace r2 := cell_regrown r2
          replace r3 := cell_regrown r3
          replace r4 := cell_regrown r4
          replace r5 := cell_regrown r5
          replace r6 := cell_regrown r6
          replace cP := cell_regrown cP
          replace cD := cell_regrown cD
          replace cP2 := cell_regrown cP2
          replace cD2 := cell_regrown cD2
          rcases h4 with h4 | ⟨h41, h42, h43, h44, h45, h46⟩
          · subst h4
            have be : (y1 != y1) = false := by simp
            refine wp_region_quiet_below (by kernel_rfl) (by kernel_rfl) ?_
            repeat (go_big_quiet_step (fail))
            refine wpQuiet_nil ?_
            intro _ hw'
            obtain ⟨⟨dq, osq⟩, hw''⟩ := hw'
            subst hw''
            go_wp2_with fail
            go_meet
            exact ⟨rfl, below_regrown wq dq osq⟩
          · subst h41 h42 h43 h44 h45 h46
            have hwr : IntKind.i64.wrap (wk + 1) = wk + 1 := by simp [IntKind.wrap, IntKind.bits, IntKind.signed]; omega
            have be : ((0 : Int) != wk + 1) = true := by simp; omega
            have be2 : (wk + 1 != wk + 1) = false := by simp
            refine wp_region_quiet_below (by kernel_rfl) (by kernel_rfl) ?_
            repeat (go_big_quiet_step (fail))
            refine wpQuiet_nil ?_
            intro _ hw'
            obtain ⟨⟨dq, osq⟩, hw''⟩ := hw'
            subst hw''
            go_wp2_with fail
            go_meet
            exact ⟨rfl, below_regrown wq dq osq⟩
        case rest =>
          obtain ⟨rfl, hbx⟩ := hcut
          have HBX := hid (HBR.out.trans (hbx.mono HBR.out.size))
          replace p5 := cellb hbx p5
          replace q4 := cellb hbx q4
          replace q5 := cellb hbx q5
          replace cD := cellb hbx cD
          replace cP2 := cellb hbx cP2
          replace cD2 := cellb hbx cD2
          clear hbx h4 p0 p1 p2 p3 p4 q0 q1 q2 q3 r0 r1 r2 r3 r4 r5 r6 cP
          cases z2
          case true =>
            have hy := H6.out rfl
            have by2 : (y2 == 0) = false := by simpa using hy
            cases z1
            case true =>
              go_wp2
              go_roundw
              case rel => exact ⟨n + 1, by omega, by go_num, HBX.out⟩
              case measure => simp [intOf]; omega
            case false =>
              go_wp2
              go_roundw
              case rel => exact ⟨n + 1, by omega, by go_num, HBX.out⟩
              case measure => simp [intOf]; omega
          case false =>
            have hz1 : z1 = false := by
              cases z1
              · rfl
              · exact absurd (H5.out rfl) (by simp)
            subst hz1
            go_wp2
            go_roundw
            case rel => exact ⟨n + 1, by omega, by go_num, HBX.out⟩
            case measure => simp [intOf]; omega
      · have hge : ¬ (n : Int) < (nl : Int) := by omega
        have HBW := hid (HB2.out.trans (HBR.out.mono HB2.out.size))
        go_wp2
        go_ret
        exact ⟨rfl, HBW.out⟩
end Go.Proofs.Ytkepfkfoblocgaa
