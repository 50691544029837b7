/- AdmitMore. -/
import Derived.Test.YtfaglemadpobeaaDoorAdY
namespace Go.Proofs.YtfaglemadpobeaaDoor
open Go.RowKit Go.Sort
set_option linter.unusedVariables false
set_option linter.unusedSimpArgs false

set_option maxRecDepth 20000 in
set_option maxHeartbeats 4000000 in
theorem admitMore_early (A B C : Option Addr) (ca cb cc : Nat) (a b : List (Int × Int)) (ws : List Wk) (W : World) (hT : RowsAt W) (hA : Sl W 2 A a.length ca (pcells a)) (hB : Sl W 2 B b.length cb (pcells b)) (hC : Sl W 3 C ws.length cc (gcells wkc ws)) (hws : ∀ x ∈ ws, x.2.2 < 18446744073709551616) (h : chkN a ≠ 0 ∨ chkN b ≠ 0 ∨ 80 < ws.length) :
    Calls Tryd.prog 4 #[.slice A a.length ca, .slice B b.length cb, .slice C ws.length cc] W fun e w' => e = .returned (.bool true) ∧ Below W.heap.size W w' := by
  have HWK := hid (fun w (hb : Below W.heap.size W w) => works12_any w (hT.below hb))
  have HCA := hid (rcheck_all A ca a W hA)
  have HCB := hid (fun w (hb : Below W.heap.size W w) => rcheck_all B cb b w (hB.below hb))
  have hm1 := Nat.le_trans hA.2.1 hA.2.2.1
  have hm2 := Nat.le_trans hB.2.1 hB.2.2.1
  have hm3 := Nat.le_trans hC.2.1 hC.2.2.1
  unfold maxLen at hm1 hm2 hm3
  have c1 := chkN_cases a
  have c2 := chkN_cases b
  clear hT hA hB hC hws
  generalize chkN a = ka at *
  generalize chkN b = kb at *
  generalize a.length = an at *
  generalize b.length = bn at *
  generalize ws.length = wn at *
  by_cases h0 : ka = 0
  · subst h0
    by_cases h1 : kb = 0
    · subst h1
      have i3 : (80 : Int) < (wn : Int) := by omega
      have d3 : decide ((80 : Int) < (wn : Int)) = true := decide_eq_true i3
      clear h c1 c2
      go_enter Tryd.func4, Tryd.ntmps4
      go_wp2_with fail
      refine HCA.out.mono ?_
      rintro e w1 ⟨rfl, hb⟩
      have HB1 := hid hb
      clear hb HCA
      go_wp2_with fail
      refine (HCB.out _ HB1.out).mono ?_
      rintro e w2 ⟨rfl, hb⟩
      have HBX := hid (HB1.out.trans (hb.mono HB1.out.size))
      clear hb HCB
      go_wp2_with fail
      refine (HWK.out _ HBX.out).mono ?_
      rintro e w9 ⟨rfl, hb⟩
      have HB9 := hid (HBX.out.trans (hb.mono HBX.out.size))
      clear hb
      go_wp2
      go_ret
      exact ⟨rfl, HB9.out⟩
    · obtain rfl | rfl : kb = 1 ∨ kb = 4 := by omega
      all_goals clear h h1 c1 c2
      · skip
        go_enter Tryd.func4, Tryd.ntmps4
        go_wp2_with fail
        refine HCA.out.mono ?_
        rintro e w1 ⟨rfl, hb⟩
        have HB1 := hid hb
        clear hb HCA
        go_wp2_with fail
        refine (HCB.out _ HB1.out).mono ?_
        rintro e w2 ⟨rfl, hb⟩
        have HBX := hid (HB1.out.trans (hb.mono HB1.out.size))
        clear hb HCB
        go_wp2_with fail
        refine (HWK.out _ HBX.out).mono ?_
        rintro e w9 ⟨rfl, hb⟩
        have HB9 := hid (HBX.out.trans (hb.mono HBX.out.size))
        clear hb
        go_wp2
        go_ret
        exact ⟨rfl, HB9.out⟩
      · skip
        go_enter Tryd.func4, Tryd.ntmps4
        go_wp2_with fail
        refine HCA.out.mono ?_
        rintro e w1 ⟨rfl, hb⟩
        have HB1 := hid hb
        clear hb HCA
        go_wp2_with fail
        refine (HCB.out _ HB1.out).mono ?_
        rintro e w2 ⟨rfl, hb⟩
        have HBX := hid (HB1.out.trans (hb.mono HB1.out.size))
        clear hb HCB
        go_wp2_with fail
        refine (HWK.out _ HBX.out).mono ?_
        rintro e w9 ⟨rfl, hb⟩
        have HB9 := hid (HBX.out.trans (hb.mono HBX.out.size))
        clear hb
        go_wp2
        go_ret
        exact ⟨rfl, HB9.out⟩
  · obtain rfl | rfl : ka = 1 ∨ ka = 4 := by omega
    all_goals clear h h0 c1 c2
    · skip
      go_enter Tryd.func4, Tryd.ntmps4
      go_wp2_with fail
      refine HCA.out.mono ?_
      rintro e w1 ⟨rfl, hb⟩
      have HB1 := hid hb
      clear hb HCA
      have HBX := hid HB1.out
      go_wp2_with fail
      refine (HWK.out _ HBX.out).mono ?_
      rintro e w9 ⟨rfl, hb⟩
      have HB9 := hid (HBX.out.trans (hb.mono HBX.out.size))
      clear hb
      go_wp2
      go_ret
      exact ⟨rfl, HB9.out⟩
    · skip
      go_enter Tryd.func4, Tryd.ntmps4
      go_wp2_with fail
      refine HCA.out.mono ?_
      rintro e w1 ⟨rfl, hb⟩
      have HB1 := hid hb
      clear hb HCA
      have HBX := hid HB1.out
      go_wp2_with fail
      refine (HWK.out _ HBX.out).mono ?_
      rintro e w9 ⟨rfl, hb⟩
      have HB9 := hid (HBX.out.trans (hb.mono HBX.out.size))
      clear hb
      go_wp2
      go_ret
      exact ⟨rfl, HB9.out⟩

set_option maxRecDepth 20000 in
set_option maxHeartbeats 4000000 in
theorem admitMore_main (A B C : Option Addr) (ca cb cc : Nat) (a b : List (Int × Int)) (ws : List Wk) (W : World) (hT : RowsAt W) (hA : Sl W 2 A a.length ca (pcells a)) (hB : Sl W 2 B b.length cb (pcells b)) (hC : Sl W 3 C ws.length cc (gcells wkc ws)) (hws : ∀ x ∈ ws, x.2.2 < 18446744073709551616) (hka : chkN a = 0) (hkb : chkN b = 0) (hw : ws.length ≤ 80) :
    Calls Tryd.prog 4 #[.slice A a.length ca, .slice B b.length cb, .slice C ws.length cc] W fun e w' => e = .returned (.bool true) ∧ Below W.heap.size W w' := by
  have hal : a.length ≤ 31 := by obtain ⟨_, _, _, _, h, _⟩ := chkN_zero hka; exact h
  have hbl : b.length ≤ 31 := by obtain ⟨_, _, _, _, h, _⟩ := chkN_zero hkb; exact h
  have HWK := hid (fun w (hb : Below W.heap.size W w) => works12_any w (hT.below hb))
  have HCA := hid (rcheck_all A ca a W hA)
  have HCB := hid (fun w (hb : Below W.heap.size W w) => rcheck_all B cb b w (hB.below hb))
  rw [hka] at HCA
  rw [hkb] at HCB
  have HI1 := hid (fun w (hb : Below W.heap.size W w) => implies_any A ca a B cb b w (hA.below hb) (by omega) (hB.below hb) (by omega) (hT.below hb))
  have HI2 := hid (fun w (hb : Below W.heap.size W w) => implies_any A ca a A ca a w (hA.below hb) (by omega) (hA.below hb) (by omega) (hT.below hb))
  have hjl : (joinN 5 [a, b]).length ≤ 1000 := by simp [joinN]; omega
  have HI3 := hid (fun w (hb : Below W.heap.size W w) D cd (hD : Sl w 2 D (joinN 5 [a, b]).length cd (pcells (joinN 5 [a, b]))) => implies_any A ca a D cd (joinN 5 [a, b]) w (hA.below hb) (by omega) hD hjl (hT.below hb))
  have HJ := hid (fun w (hb : Below W.heap.size W w) => (by
    have hx : Below w.heap.size w (w.alloc (.cells #[.slice A a.length ca, .slice B b.length cb] 22)) := (Below.refl _ _).alloc (Nat.le_refl _) _
    have h1 : Sl (w.alloc (.cells #[.slice A a.length ca, .slice B b.length cb] 22)) 1 (some ⟨w.heap.size, 0, none⟩) 2 2 (plc [⟨a, A, ca⟩, ⟨b, B, cb⟩]) :=
      ⟨rfl, Nat.le_refl _, by unfold maxLen; omega, fun _ => ⟨_, 0, rfl, fun i hi => by
        rw [cell_of_row _ _ _ _ _ _ (heap_alloc_new w (.cells #[.slice A a.length ca, .slice B b.length cb] 22))]
        simp [plc, Pl.cell]⟩⟩
    have h2 := rjoin_any 5 (some ⟨w.heap.size, 0, none⟩) 2 [⟨a, A, ca⟩, ⟨b, B, cb⟩] _ ⟨h1, fun y hy => by
      rcases List.mem_cons.1 hy with rfl | hy
      · exact (hA.below hb).below hx
      · obtain rfl := List.mem_singleton.1 hy
        exact (hB.below hb).below hx⟩ (by simp) (fun y hy => by
      rcases List.mem_cons.1 hy with rfl | hy
      · show a.length ≤ 100
        omega
      · obtain rfl := List.mem_singleton.1 hy
        show b.length ≤ 100
        omega)
    refine h2.mono (fun e w' h => ?_)
    obtain ⟨A2, c2, h3, h4, h5⟩ := h
    exact ⟨A2, c2, h3, sl_own h4, hx.trans (h5.mono hx.size)⟩ :
    Calls Tryd.prog 12 #[.int .i64 5, .slice (some ⟨w.heap.size, 0, none⟩) 2 2] (w.alloc (.cells #[.slice A a.length ca, .slice B b.length cb] 22)) fun e w' => ∃ D cd, e = .returned (.slice D (joinN 5 [a, b]).length cd) ∧ Sl w' 2 D (joinN 5 [a, b]).length cd (pcells (joinN 5 [a, b])) ∧ Below w.heap.size w w'))
  have HKA := hid (fun w (hb : Below W.heap.size W w) => workers_any A ca a C cc ws w (hA.below hb) (by omega) (hC.below hb) hws (by omega))
  have HKB := hid (fun w (hb : Below W.heap.size W w) => workers_any B cb b C cc ws w (hB.below hb) (by omega) (hC.below hb) hws (by omega))
  have HAN := hid (u64_andNot_nat (wkS a ws) (wkS b ws) (wkS_lt a ws) (wkS_lt b ws))
  have HMW := hid (fun (h : impE a b = 0) (h2 : impB a b = true) => more_workers h h2 ws)
  have HSF := hid (fun (h : impE a a = 0) => imp_self h)
  have HOR := hid (fun (h : impE a (joinN 5 [a, b]) = 0) => imp_or hka hkb h)
  have HFI := hid (fun (h : impE a b = 0) => imp_first h)
  have e1 := impE_cases a b
  have e2 := impE_cases a a
  have e3 := impE_cases a (joinN 5 [a, b])
  have i3 : ¬ (80 : Int) < (ws.length : Int) := by omega
  have d3 : decide ((80 : Int) < (ws.length : Int)) = false := decide_eq_false i3
  clear hT hA hB hC hws hka hkb
  generalize impE a (joinN 5 [a, b]) = ge at *
  generalize impB a (joinN 5 [a, b]) = gb at *
  generalize impE a a = fe at *
  generalize impB a a = fb at *
  generalize impE a b = ie at *
  generalize impB a b = ib at *
  generalize wkS a ws = xa at *
  generalize wkS b ws = xb at *
  generalize joinN 5 [a, b] = J at *
  generalize a.length = an at *
  generalize b.length = bn at *
  generalize ws.length = wn at *
  have hjl2 : (J.length : Int) ≤ 1000 := by omega
  generalize hjn : J.length = jn at *
  clear hjn
  have E1 := hid e1
  have E2 := hid e2
  have E3 := hid e3
  clear e1 e2 e3
  go_enter Tryd.func4, Tryd.ntmps4
  go_wp2_with fail
  refine HCA.out.mono ?_
  rintro e w1 ⟨rfl, hb⟩
  have HB1 := hid hb
  clear hb HCA
  go_wp2_with fail
  refine (HCB.out _ HB1.out).mono ?_
  rintro e w2 ⟨rfl, hb⟩
  have HB2 := hid (HB1.out.trans (hb.mono HB1.out.size))
  clear hb HB1 HCB
  go_wp2_with fail
  refine (HI1.out _ HB2.out).mono ?_
  rintro e w3 ⟨rfl, hb⟩
  have HB3 := hid (HB2.out.trans (hb.mono HB2.out.size))
  clear hb HB2 HI1
  rcases E1.out with rfl | rfl | rfl
  · cases ib with
    | true =>
      have HMZ := hid (HMW.out rfl rfl)
      go_wp2_with fail
      refine (HKA.out _ HB3.out).mono ?_
      rintro e w4 ⟨rfl, hb⟩
      have HB4 := hid (HB3.out.trans (hb.mono HB3.out.size))
      clear hb HB3
      go_wp2_with fail
      refine (HKB.out _ HB4.out).mono ?_
      rintro e w5 ⟨rfl, hb⟩
      have HB6 := hid (HB4.out.trans (hb.mono HB4.out.size))
      clear hb HB4
      have han : bits .andNot .u64 (xa : Int) (xb : Int) = 0 := by rw [HAN.out, HMZ.out]; rfl
      go_wp2_with fail
      refine (HI2.out _ HB6.out).mono ?_
      rintro e w6 ⟨rfl, hb⟩
      obtain rfl := HFI.out (by first | rfl | trivial)
      obtain rfl := HSF.out rfl
      have HB7 := hid (HB6.out.trans (hb.mono HB6.out.size))
      clear hb
      go_wp2_with fail
      refine (HJ.out _ HB7.out).mono ?_
      rintro e w7 ⟨D, cd, rfl, hD, hb⟩
      have HB8 := hid (HB7.out.trans (hb.mono HB7.out.size))
      have HI3C := hid (HI3.out _ HB8.out D cd hD)
      clear hb hD
      go_wp2_with fail
      refine HI3C.out.mono ?_
      rintro e w9 ⟨rfl, hb⟩
      have HB9 := hid (HB8.out.trans (hb.mono HB8.out.size))
      clear hb
      rcases E3.out with rfl | rfl | rfl
      · obtain rfl := HOR.out rfl
        go_wp2_with fail
        refine (HWK.out _ HB9.out).mono ?_
        rintro e w8 ⟨rfl, hb⟩
        have HBZ := hid (HB9.out.trans (hb.mono HB9.out.size))
        clear hb
        go_wp2
        go_ret
        exact ⟨rfl, HBZ.out⟩
      · skip
        go_wp2_with fail
        refine (HWK.out _ HB9.out).mono ?_
        rintro e w8 ⟨rfl, hb⟩
        have HBZ := hid (HB9.out.trans (hb.mono HB9.out.size))
        clear hb
        go_wp2
        go_ret
        exact ⟨rfl, HBZ.out⟩
      · skip
        go_wp2_with fail
        refine (HWK.out _ HB9.out).mono ?_
        rintro e w8 ⟨rfl, hb⟩
        have HBZ := hid (HB9.out.trans (hb.mono HB9.out.size))
        clear hb
        go_wp2
        go_ret
        exact ⟨rfl, HBZ.out⟩
    | false =>
      have HB6 := hid HB3.out
      go_wp2_with fail
      refine (HI2.out _ HB6.out).mono ?_
      rintro e w6 ⟨rfl, hb⟩
      obtain rfl := HFI.out (by first | rfl | trivial)
      obtain rfl := HSF.out rfl
      have HB7 := hid (HB6.out.trans (hb.mono HB6.out.size))
      clear hb
      go_wp2_with fail
      refine (HJ.out _ HB7.out).mono ?_
      rintro e w7 ⟨D, cd, rfl, hD, hb⟩
      have HB8 := hid (HB7.out.trans (hb.mono HB7.out.size))
      have HI3C := hid (HI3.out _ HB8.out D cd hD)
      clear hb hD
      go_wp2_with fail
      refine HI3C.out.mono ?_
      rintro e w9 ⟨rfl, hb⟩
      have HB9 := hid (HB8.out.trans (hb.mono HB8.out.size))
      clear hb
      rcases E3.out with rfl | rfl | rfl
      · obtain rfl := HOR.out rfl
        go_wp2_with fail
        refine (HWK.out _ HB9.out).mono ?_
        rintro e w8 ⟨rfl, hb⟩
        have HBZ := hid (HB9.out.trans (hb.mono HB9.out.size))
        clear hb
        go_wp2
        go_ret
        exact ⟨rfl, HBZ.out⟩
      · skip
        go_wp2_with fail
        refine (HWK.out _ HB9.out).mono ?_
        rintro e w8 ⟨rfl, hb⟩
        have HBZ := hid (HB9.out.trans (hb.mono HB9.out.size))
        clear hb
        go_wp2
        go_ret
        exact ⟨rfl, HBZ.out⟩
      · skip
        go_wp2_with fail
        refine (HWK.out _ HB9.out).mono ?_
        rintro e w8 ⟨rfl, hb⟩
        have HBZ := hid (HB9.out.trans (hb.mono HB9.out.size))
        clear hb
        go_wp2
        go_ret
        exact ⟨rfl, HBZ.out⟩
  · have HB6 := hid HB3.out
    go_wp2_with fail
    refine (HI2.out _ HB6.out).mono ?_
    rintro e w6 ⟨rfl, hb⟩
    rcases E2.out with rfl | rfl | rfl
    · obtain rfl := HSF.out rfl
      have HB7 := hid (HB6.out.trans (hb.mono HB6.out.size))
      clear hb
      go_wp2_with fail
      refine (HJ.out _ HB7.out).mono ?_
      rintro e w7 ⟨D, cd, rfl, hD, hb⟩
      have HB8 := hid (HB7.out.trans (hb.mono HB7.out.size))
      have HI3C := hid (HI3.out _ HB8.out D cd hD)
      clear hb hD
      go_wp2_with fail
      refine HI3C.out.mono ?_
      rintro e w9 ⟨rfl, hb⟩
      have HB9 := hid (HB8.out.trans (hb.mono HB8.out.size))
      clear hb
      rcases E3.out with rfl | rfl | rfl
      · obtain rfl := HOR.out rfl
        go_wp2_with fail
        refine (HWK.out _ HB9.out).mono ?_
        rintro e w8 ⟨rfl, hb⟩
        have HBZ := hid (HB9.out.trans (hb.mono HB9.out.size))
        clear hb
        go_wp2
        go_ret
        exact ⟨rfl, HBZ.out⟩
      · skip
        go_wp2_with fail
        refine (HWK.out _ HB9.out).mono ?_
        rintro e w8 ⟨rfl, hb⟩
        have HBZ := hid (HB9.out.trans (hb.mono HB9.out.size))
        clear hb
        go_wp2
        go_ret
        exact ⟨rfl, HBZ.out⟩
      · skip
        go_wp2_with fail
        refine (HWK.out _ HB9.out).mono ?_
        rintro e w8 ⟨rfl, hb⟩
        have HBZ := hid (HB9.out.trans (hb.mono HB9.out.size))
        clear hb
        go_wp2
        go_ret
        exact ⟨rfl, HBZ.out⟩
    · skip
      have HB7 := hid (HB6.out.trans (hb.mono HB6.out.size))
      clear hb
      go_wp2_with fail
      refine (HJ.out _ HB7.out).mono ?_
      rintro e w7 ⟨D, cd, rfl, hD, hb⟩
      have HB8 := hid (HB7.out.trans (hb.mono HB7.out.size))
      have HI3C := hid (HI3.out _ HB8.out D cd hD)
      clear hb hD
      go_wp2_with fail
      refine HI3C.out.mono ?_
      rintro e w9 ⟨rfl, hb⟩
      have HB9 := hid (HB8.out.trans (hb.mono HB8.out.size))
      clear hb
      rcases E3.out with rfl | rfl | rfl
      · obtain rfl := HOR.out rfl
        go_wp2_with fail
        refine (HWK.out _ HB9.out).mono ?_
        rintro e w8 ⟨rfl, hb⟩
        have HBZ := hid (HB9.out.trans (hb.mono HB9.out.size))
        clear hb
        go_wp2
        go_ret
        exact ⟨rfl, HBZ.out⟩
      · skip
        go_wp2_with fail
        refine (HWK.out _ HB9.out).mono ?_
        rintro e w8 ⟨rfl, hb⟩
        have HBZ := hid (HB9.out.trans (hb.mono HB9.out.size))
        clear hb
        go_wp2
        go_ret
        exact ⟨rfl, HBZ.out⟩
      · skip
        go_wp2_with fail
        refine (HWK.out _ HB9.out).mono ?_
        rintro e w8 ⟨rfl, hb⟩
        have HBZ := hid (HB9.out.trans (hb.mono HB9.out.size))
        clear hb
        go_wp2
        go_ret
        exact ⟨rfl, HBZ.out⟩
    · skip
      have HB7 := hid (HB6.out.trans (hb.mono HB6.out.size))
      clear hb
      go_wp2_with fail
      refine (HJ.out _ HB7.out).mono ?_
      rintro e w7 ⟨D, cd, rfl, hD, hb⟩
      have HB8 := hid (HB7.out.trans (hb.mono HB7.out.size))
      have HI3C := hid (HI3.out _ HB8.out D cd hD)
      clear hb hD
      go_wp2_with fail
      refine HI3C.out.mono ?_
      rintro e w9 ⟨rfl, hb⟩
      have HB9 := hid (HB8.out.trans (hb.mono HB8.out.size))
      clear hb
      rcases E3.out with rfl | rfl | rfl
      · obtain rfl := HOR.out rfl
        go_wp2_with fail
        refine (HWK.out _ HB9.out).mono ?_
        rintro e w8 ⟨rfl, hb⟩
        have HBZ := hid (HB9.out.trans (hb.mono HB9.out.size))
        clear hb
        go_wp2
        go_ret
        exact ⟨rfl, HBZ.out⟩
      · skip
        go_wp2_with fail
        refine (HWK.out _ HB9.out).mono ?_
        rintro e w8 ⟨rfl, hb⟩
        have HBZ := hid (HB9.out.trans (hb.mono HB9.out.size))
        clear hb
        go_wp2
        go_ret
        exact ⟨rfl, HBZ.out⟩
      · skip
        go_wp2_with fail
        refine (HWK.out _ HB9.out).mono ?_
        rintro e w8 ⟨rfl, hb⟩
        have HBZ := hid (HB9.out.trans (hb.mono HB9.out.size))
        clear hb
        go_wp2
        go_ret
        exact ⟨rfl, HBZ.out⟩
  · have HB6 := hid HB3.out
    go_wp2_with fail
    refine (HI2.out _ HB6.out).mono ?_
    rintro e w6 ⟨rfl, hb⟩
    rcases E2.out with rfl | rfl | rfl
    · obtain rfl := HSF.out rfl
      have HB7 := hid (HB6.out.trans (hb.mono HB6.out.size))
      clear hb
      go_wp2_with fail
      refine (HJ.out _ HB7.out).mono ?_
      rintro e w7 ⟨D, cd, rfl, hD, hb⟩
      have HB8 := hid (HB7.out.trans (hb.mono HB7.out.size))
      have HI3C := hid (HI3.out _ HB8.out D cd hD)
      clear hb hD
      go_wp2_with fail
      refine HI3C.out.mono ?_
      rintro e w9 ⟨rfl, hb⟩
      have HB9 := hid (HB8.out.trans (hb.mono HB8.out.size))
      clear hb
      rcases E3.out with rfl | rfl | rfl
      · obtain rfl := HOR.out rfl
        go_wp2_with fail
        refine (HWK.out _ HB9.out).mono ?_
        rintro e w8 ⟨rfl, hb⟩
        have HBZ := hid (HB9.out.trans (hb.mono HB9.out.size))
        clear hb
        go_wp2
        go_ret
        exact ⟨rfl, HBZ.out⟩
      · skip
        go_wp2_with fail
        refine (HWK.out _ HB9.out).mono ?_
        rintro e w8 ⟨rfl, hb⟩
        have HBZ := hid (HB9.out.trans (hb.mono HB9.out.size))
        clear hb
        go_wp2
        go_ret
        exact ⟨rfl, HBZ.out⟩
      · skip
        go_wp2_with fail
        refine (HWK.out _ HB9.out).mono ?_
        rintro e w8 ⟨rfl, hb⟩
        have HBZ := hid (HB9.out.trans (hb.mono HB9.out.size))
        clear hb
        go_wp2
        go_ret
        exact ⟨rfl, HBZ.out⟩
    · skip
      have HB7 := hid (HB6.out.trans (hb.mono HB6.out.size))
      clear hb
      go_wp2_with fail
      refine (HJ.out _ HB7.out).mono ?_
      rintro e w7 ⟨D, cd, rfl, hD, hb⟩
      have HB8 := hid (HB7.out.trans (hb.mono HB7.out.size))
      have HI3C := hid (HI3.out _ HB8.out D cd hD)
      clear hb hD
      go_wp2_with fail
      refine HI3C.out.mono ?_
      rintro e w9 ⟨rfl, hb⟩
      have HB9 := hid (HB8.out.trans (hb.mono HB8.out.size))
      clear hb
      rcases E3.out with rfl | rfl | rfl
      · obtain rfl := HOR.out rfl
        go_wp2_with fail
        refine (HWK.out _ HB9.out).mono ?_
        rintro e w8 ⟨rfl, hb⟩
        have HBZ := hid (HB9.out.trans (hb.mono HB9.out.size))
        clear hb
        go_wp2
        go_ret
        exact ⟨rfl, HBZ.out⟩
      · skip
        go_wp2_with fail
        refine (HWK.out _ HB9.out).mono ?_
        rintro e w8 ⟨rfl, hb⟩
        have HBZ := hid (HB9.out.trans (hb.mono HB9.out.size))
        clear hb
        go_wp2
        go_ret
        exact ⟨rfl, HBZ.out⟩
      · skip
        go_wp2_with fail
        refine (HWK.out _ HB9.out).mono ?_
        rintro e w8 ⟨rfl, hb⟩
        have HBZ := hid (HB9.out.trans (hb.mono HB9.out.size))
        clear hb
        go_wp2
        go_ret
        exact ⟨rfl, HBZ.out⟩
    · skip
      have HB7 := hid (HB6.out.trans (hb.mono HB6.out.size))
      clear hb
      go_wp2_with fail
      refine (HJ.out _ HB7.out).mono ?_
      rintro e w7 ⟨D, cd, rfl, hD, hb⟩
      have HB8 := hid (HB7.out.trans (hb.mono HB7.out.size))
      have HI3C := hid (HI3.out _ HB8.out D cd hD)
      clear hb hD
      go_wp2_with fail
      refine HI3C.out.mono ?_
      rintro e w9 ⟨rfl, hb⟩
      have HB9 := hid (HB8.out.trans (hb.mono HB8.out.size))
      clear hb
      rcases E3.out with rfl | rfl | rfl
      · obtain rfl := HOR.out rfl
        go_wp2_with fail
        refine (HWK.out _ HB9.out).mono ?_
        rintro e w8 ⟨rfl, hb⟩
        have HBZ := hid (HB9.out.trans (hb.mono HB9.out.size))
        clear hb
        go_wp2
        go_ret
        exact ⟨rfl, HBZ.out⟩
      · skip
        go_wp2_with fail
        refine (HWK.out _ HB9.out).mono ?_
        rintro e w8 ⟨rfl, hb⟩
        have HBZ := hid (HB9.out.trans (hb.mono HB9.out.size))
        clear hb
        go_wp2
        go_ret
        exact ⟨rfl, HBZ.out⟩
      · skip
        go_wp2_with fail
        refine (HWK.out _ HB9.out).mono ?_
        rintro e w8 ⟨rfl, hb⟩
        have HBZ := hid (HB9.out.trans (hb.mono HB9.out.size))
        clear hb
        go_wp2
        go_ret
        exact ⟨rfl, HBZ.out⟩

theorem admitMore_law (A B C : Option Addr) (x y z ca cb cc : Nat) (W : World) (hT : RowsAt W) (hA : Rd Tryd.prog W 22 [.slice A x ca]) (hB : Rd Tryd.prog W 22 [.slice B y cb]) (hC : Rd Tryd.prog W 24 [.slice C z cc]) :
    Calls Tryd.prog 4 #[.slice A x ca, .slice B y cb, .slice C z cc] W fun e w' => e = .returned (.bool true) ∧ Below W.heap.size W w' := by
  obtain ⟨a, sa, rfl⟩ := nodes_in hA
  obtain ⟨b, sb, rfl⟩ := nodes_in hB
  obtain ⟨ws, sw, rfl, hws⟩ := workers_in hC
  by_cases h : chkN a ≠ 0 ∨ chkN b ≠ 0 ∨ 80 < ws.length
  · exact admitMore_early A B C ca cb cc a b ws W hT sa sb sw hws h
  · exact admitMore_main A B C ca cb cc a b ws W hT sa sb sw hws (Decidable.not_not.1 fun h9 => h (.inl h9)) (Decidable.not_not.1 fun h9 => h (.inr (.inl h9))) (Nat.le_of_not_lt fun h9 => h (.inr (.inr h9)))
end Go.Proofs.YtfaglemadpobeaaDoor
