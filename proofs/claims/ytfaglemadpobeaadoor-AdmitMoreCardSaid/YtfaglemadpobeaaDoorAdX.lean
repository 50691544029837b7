/- AdmitWorkers. -/
import Derived.Test.YtfaglemadpobeaaDoorAdN
namespace Go.Proofs.YtfaglemadpobeaaDoor
open Go.RowKit Go.Sort
set_option linter.unusedVariables false
set_option linter.unusedSimpArgs false

def exA : List (Int × Int) := [(2, 0), (2, 1), (4, 0)]
def exB : List (Int × Int) := [(2, 0)]
theorem exE : impE exA exB = 0 := by decide +kernel
theorem exI : impB exA exB = true := by decide +kernel
theorem exR : rowS [(2, 3)] [3] = 12297829382473034410 := by decide +kernel
set_option maxRecDepth 20000 in
set_option maxHeartbeats 4000000 in
theorem works12_any (W : World) (hT : RowsAt W) : Calls Tryd.prog 5 #[] W fun e w' => e = .returned (.bool true) ∧ Below W.heap.size W w' := by
  have hx : Below W.heap.size W (W.alloc (.cells #[.int .i64 2, .int .i64 0, .int .i64 2, .int .i64 1, .int .i64 4, .int .i64 0] 37)) := (Below.refl _ _).alloc (Nat.le_refl _) _
  have hsl : Sl (W.alloc (.cells #[.int .i64 2, .int .i64 0, .int .i64 2, .int .i64 1, .int .i64 4, .int .i64 0] 37)) 2 (some ⟨W.heap.size, 0, none⟩) exA.length 3 (pcells exA) :=
    ⟨rfl, Nat.le_refl _, by unfold maxLen; omega, fun _ => ⟨_, 0, rfl, fun i hi => by
      rw [cell_of_row _ _ _ _ _ _ (heap_alloc_new W (.cells #[.int .i64 2, .int .i64 0, .int .i64 2, .int .i64 1, .int .i64 4, .int .i64 0] 37))]
      simp [exA, pcells]⟩⟩
  have hsl2 : Sl (W.alloc (.cells #[.int .i64 2, .int .i64 0, .int .i64 2, .int .i64 1, .int .i64 4, .int .i64 0] 37)) 2 (some ⟨W.heap.size, 0, none⟩) exB.length 3 (pcells exB) := by
    refine ⟨rfl, by decide, hsl.2.2.1, fun _ => ?_⟩
    obtain ⟨b, off, ha, hc⟩ := hsl.2.2.2 (by decide)
    refine ⟨b, off, ha, fun i hi => ?_⟩
    have hi2 : i < 2 := hi
    rw [hc i (by rw [show (pcells exA).length = 6 from rfl]; omega)]
    have h01 : i = 0 ∨ i = 1 := by omega
    rcases h01 with rfl | rfl <;> rfl
  have HI := hid (implies_any (some ⟨W.heap.size, 0, none⟩) 3 exA (some ⟨W.heap.size, 0, none⟩) 3 exB _ hsl (by decide) hsl2 (by decide) (hT.below hx))
  rw [exE, exI] at HI
  have HX := hid hx
  have HR := hid (fun (w : World) (hb : Below W.heap.size W w) => (by
    have hy : Below w.heap.size w ((w.alloc (.cells #[.int .i64 2, .int .i64 3] 37)).alloc (.cells #[.int .i64 3] 3)) := ((Below.refl _ _).alloc (Nat.le_refl _) _).alloc (by simp) _
    have s1 : Sl (w.alloc (.cells #[.int .i64 2, .int .i64 3] 37)) 2 (some ⟨w.heap.size, 0, none⟩) [((2 : Int), (3 : Int))].length 1 (pcells [(2, 3)]) :=
      ⟨rfl, Nat.le_refl _, by unfold maxLen; omega, fun _ => ⟨_, 0, rfl, fun i hi => by
        rw [cell_of_row _ _ _ _ _ _ (heap_alloc_new w (.cells #[.int .i64 2, .int .i64 3] 37))]
        simp [pcells]⟩⟩
    have s2 : Sl ((w.alloc (.cells #[.int .i64 2, .int .i64 3] 37)).alloc (.cells #[.int .i64 3] 3)) 1 (some ⟨w.heap.size + 1, 0, none⟩) [(3 : Int)].length 1 (icells .i64 [3]) := sl_new1 _ (by simp)
    have hr := row_any (some ⟨w.heap.size, 0, none⟩) 1 [(2, 3)] (some ⟨w.heap.size + 1, 0, none⟩) 1 [3] _ (s1.below ((Below.refl _ _).alloc (Nat.le_refl _) _)) (by decide) s2 (by decide) ((hT.below hb).below hy)
    rw [exR] at hr
    exact hr.mono (fun e w' ⟨h1, h2⟩ => ⟨h1, hy.trans (h2.mono hy.size)⟩) :
    Calls Tryd.prog 13 #[.slice (some ⟨w.heap.size, 0, none⟩) 1 1, .slice (some ⟨w.heap.size + 1, 0, none⟩) 1 1] ((w.alloc (.cells #[.int .i64 2, .int .i64 3] 37)).alloc (.cells #[.int .i64 3] 3)) fun e w' => e = .returned (.int .u64 ((12297829382473034410 : Nat) : Int)) ∧ Below w.heap.size w w'))
  have hs1 : ∀ w : World, (Instr.slice 22 (.slice (some ⟨W.heap.size, 0, none⟩) 3 3) none (some (.int .i64 1)) none).run Tryd.prog w = .ok (.slice (some ⟨W.heap.size, 0, none⟩) 1 3) w := fun w => run_to (P := Tryd.prog) Tryd.underlying22 info_node _ 3 3 1 (by omega) w
  clear hx hsl hsl2 hT
  go_enter Tryd.func5, Tryd.ntmps5
  go_wp2_with fail
  refine HI.out.mono ?_
  rintro e w1 ⟨rfl, hb⟩
  have HB1 := hid (HX.out.trans (hb.mono HX.out.size))
  clear hb HX HI
  go_wp2_with fail
  refine (HR.out _ HB1.out).mono ?_
  rintro e w2 ⟨rfl, hb⟩
  have HB2 := hid (HB1.out.trans (hb.mono HB1.out.size))
  clear hb HB1 HR
  go_wp2
  go_ret
  exact ⟨rfl, HB2.out⟩

set_option maxRecDepth 20000 in
theorem admitWorkers_big (A B C : Option Addr) (x y z cap cb cc : Nat) (W : World) (hT : RowsAt W) (hx : x ≤ maxLen) (hy : y ≤ maxLen) (hz : z ≤ maxLen) (h : 100 < x ∨ 10 < y ∨ 80 < z) :
    Calls Tryd.prog 3 #[.slice A x cap, .slice B y cb, .slice C z cc] W fun e w' => e = .returned (.bool true) ∧ Below W.heap.size W w' := by
  unfold maxLen at hx hy hz
  have HW := hid (works12_any W hT)
  clear hT
  by_cases h1 : 100 < x
  · have i1 : (100 : Int) < (x : Int) := by omega
    have d1 : decide ((100 : Int) < (x : Int)) = true := decide_eq_true i1
    clear h
    go_enter Tryd.func3, Tryd.ntmps3
    go_wp2_with fail
    refine HW.out.mono ?_
    rintro e w6 ⟨rfl, hb⟩
    go_wp2
    go_ret
    exact ⟨rfl, hb⟩
  have i1 : ¬ (100 : Int) < (x : Int) := by omega
  have d1 : decide ((100 : Int) < (x : Int)) = false := decide_eq_false i1
  by_cases h2 : 10 < y
  · have i2 : (10 : Int) < (y : Int) := by omega
    have d2 : decide ((10 : Int) < (y : Int)) = true := decide_eq_true i2
    clear h
    go_enter Tryd.func3, Tryd.ntmps3
    go_wp2_with fail
    refine HW.out.mono ?_
    rintro e w6 ⟨rfl, hb⟩
    go_wp2
    go_ret
    exact ⟨rfl, hb⟩
  have i2 : ¬ (10 : Int) < (y : Int) := by omega
  have d2 : decide ((10 : Int) < (y : Int)) = false := decide_eq_false i2
  have i3 : (80 : Int) < (z : Int) := by omega
  have d3 : decide ((80 : Int) < (z : Int)) = true := decide_eq_true i3
  clear h
  go_enter Tryd.func3, Tryd.ntmps3
  go_wp2_with fail
  refine HW.out.mono ?_
  rintro e w6 ⟨rfl, hb⟩
  go_wp2
  go_ret
  exact ⟨rfl, hb⟩

set_option maxRecDepth 20000 in
set_option maxHeartbeats 4000000 in
theorem admitWorkers_small (A B C : Option Addr) (cap cb cc : Nat) (l : List (Int × Int)) (ys : List Pl) (ws : List Wk) (W : World) (hT : RowsAt W) (hA : Sl W 2 A l.length cap (pcells l)) (hB : LsAt W B cb ys) (hC : Sl W 3 C ws.length cc (gcells wkc ws)) (hws : ∀ x ∈ ws, x.2.2 < 18446744073709551616) (hl : l.length ≤ 100) (hy : ys.length ≤ 10) (hw : ws.length ≤ 80) :
    Calls Tryd.prog 3 #[.slice A l.length cap, .slice B ys.length cb, .slice C ws.length cc] W fun e w' => e = .returned (.bool true) ∧ Below W.heap.size W w' := by
  have HWK := hid (fun w (hb : Below W.heap.size W w) => works12_any w (hT.below hb))
  have HLS := hid (fun w (hb : Below W.heap.size W w) => hB.below hb)
  have HW1 := hid (workers_any A cap l C cc ws W hA (by omega) hC hws (by omega))
  have HW2 := hid (fun w (hb : Below W.heap.size W w) => rworkers_any A cap l C cc ws w (hA.below hb) (by omega) (hC.below hb) hws (by omega))
  have HW3 := hid (fun (hm : ∀ y ∈ ys, y.l.length ≤ 1000) w (hb : Below W.heap.size W w) => any_any B cb ys C cc ws w (hB.below hb) hy hm (hC.below hb) hws (by omega))
  have HW4 := hid (fun (hm : ∀ y ∈ ys, y.l.length ≤ 1000) w (hb : Below W.heap.size W w) => rany_any B cb ys C cc ws w (hB.below hb) hy hm (hC.below hb) hws (by omega))
  have i1 : ¬ (100 : Int) < (l.length : Int) := by omega
  have d1 : decide ((100 : Int) < (l.length : Int)) = false := decide_eq_false i1
  have i2 : ¬ (10 : Int) < (ys.length : Int) := by omega
  have d2 : decide ((10 : Int) < (ys.length : Int)) = false := decide_eq_false i2
  have i3 : ¬ (80 : Int) < (ws.length : Int) := by omega
  have d3 : decide ((80 : Int) < (ws.length : Int)) = false := decide_eq_false i3
  have hyl : (ys.length : Int) ≤ 10 := by omega
  have HLT : Hid (∀ y ∈ ys, y.l.length ≤ 9223372036854775807) := hid (fun y hm => by
    have h1 := (hB.2 y hm).2.1
    have h2 := (hB.2 y hm).2.2.1
    unfold maxLen at h2
    omega)
  clear hT hA hB hC hws
  generalize wkS l ws = r at *
  generalize anyS (pls ys) ws ys.length = q at *
  generalize l.length = ln at *
  generalize ws.length = wn at *
  go_enter Tryd.func3, Tryd.ntmps3
  go_wp2_with fail
  go_loopw [7] (fun i wr => ∃ k : Nat, k ≤ ys.length ∧ i = .int .i64 (k : Int) ∧ W = wr ∧ Hid (∀ j (hj : j < ys.length), j < k → ys[j].l.length ≤ 100)) (fun i _ => ys.length - (intOf i).toNat)
  case atStart => exact ⟨0, by omega, rfl, rfl, fun j _ h => absurd h (by omega)⟩
  case round =>
    obtain ⟨k, hk, rfl, rfl, HN⟩ := hrel
    by_cases hlt : k < ys.length
    · have hlt2 : (k : Int) < (ys.length : Int) := by omega
      obtain ⟨b1, o1, rfl, hc1, _⟩ := (HLS.out _ (Below.refl _ _)).get k hlt
      have hy9 := HLT.out ys[k] (List.getElem_mem hlt)
      have HNX : Hid (ys[k].l.length ≤ 100 → ∀ j (hj : j < ys.length), j < k + 1 → ys[j].l.length ≤ 100) := hid (fun he j hj hjk => by
        by_cases hjk2 : j < k
        · exact HN.out j hj hjk2
        · obtain rfl : j = k := by omega
          exact he)
      generalize ys[k] = y at *
      obtain ⟨yl, yA, yc⟩ := y
      simp only [Pl.cell] at hc1 hy9 HNX
      generalize yl.length = yn at *
      by_cases hb : 100 < yn
      · have hb2 : (100 : Int) < (yn : Int) := by omega
        have HWC := hid (HWK.out W (Below.refl _ _))
        clear HNX
        go_wp2_with fail
        refine HWC.out.mono ?_
        rintro e w6 ⟨rfl, hb⟩
        go_wp2
        go_ret
        exact ⟨rfl, hb⟩
      · have hb2 : ¬ (100 : Int) < (yn : Int) := by omega
        have HN2 := hid (HNX.out (by omega))
        clear HNX
        go_wp2
        go_roundw
        case rel => exact ⟨k + 1, by omega, by go_num, by first | rfl | trivial, HN2.out⟩
        case measure => simp [intOf]; omega
    · have hge : ¬ (k : Int) < (ys.length : Int) := by omega
      have hm : ∀ y ∈ ys, y.l.length ≤ 1000 := fun y hy9 => by
        obtain ⟨j, hj, rfl⟩ := List.getElem_of_mem hy9
        have := HN.out j hj (by omega)
        omega
      have HX3 := hid (HW3.out hm)
      have HX4 := hid (HW4.out hm)
      clear hm HN HW3 HW4
      go_wp2_with fail
      refine HW1.out.mono ?_
      rintro e w1 ⟨rfl, hb1⟩
      have HB1 := hid hb1
      clear hb1 HW1
      go_wp2_with fail
      refine (HW2.out _ HB1.out).mono ?_
      rintro e w2 ⟨rfl, hb2⟩
      have HB2 := hid (HB1.out.trans (hb2.mono HB1.out.size))
      clear hb2 HW2 HB1
      go_wp2_with fail
      refine (HX3.out _ HB2.out).mono ?_
      rintro e w3 ⟨rfl, hb3⟩
      have HB3 := hid (HB2.out.trans (hb3.mono HB2.out.size))
      clear hb3 HX3 HB2
      go_wp2_with fail
      refine (HX4.out _ HB3.out).mono ?_
      rintro e w4 ⟨rfl, hb4⟩
      have HB4 := hid (HB3.out.trans (hb4.mono HB3.out.size))
      clear hb4 HX4 HB3
      go_wp2_with fail
      refine (HWK.out _ HB4.out).mono ?_
      rintro e w5 ⟨rfl, hb5⟩
      have HB5 := hid (HB4.out.trans (hb5.mono HB4.out.size))
      clear hb5 HWK HB4
      go_wp2
      go_ret
      exact ⟨rfl, HB5.out⟩
theorem admitWorkers_law (A B C : Option Addr) (x y z cap cb cc : Nat) (W : World) (hT : RowsAt W) (hA : Rd Tryd.prog W 22 [.slice A x cap]) (hB : Rd Tryd.prog W 23 [.slice B y cb]) (hC : Rd Tryd.prog W 24 [.slice C z cc]) :
    Calls Tryd.prog 3 #[.slice A x cap, .slice B y cb, .slice C z cc] W fun e w' => e = .returned (.bool true) ∧ Below W.heap.size W w' := by
  obtain ⟨l, sl, rfl⟩ := nodes_in hA
  obtain ⟨ys, ls, rfl⟩ := lists_in hB
  obtain ⟨ws, sw, rfl, hws⟩ := workers_in hC
  by_cases h : 100 < l.length ∨ 10 < ys.length ∨ 80 < ws.length
  · exact admitWorkers_big A B C _ _ _ cap cb cc W hT (Nat.le_trans sl.2.1 sl.2.2.1) (Nat.le_trans ls.1.2.1 ls.1.2.2.1) (Nat.le_trans sw.2.1 sw.2.2.1) h
  · exact admitWorkers_small A B C cap cb cc l ys ws W hT sl ls sw hws (by omega) (by omega) (by omega)
end Go.Proofs.YtfaglemadpobeaaDoor
