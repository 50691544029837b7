/- The document's Size and Most: contracts, beside Rmost. -/
import Derived.Test.YtkepfkfoblocgaaGreatQRecI
import Derived.Test.YtkepfkfoblocgaaGreatQRmost
namespace Go.Proofs.YtkepfkfoblocgaaGreat
open Go.RowKit Go.Sort
set_option linter.unusedVariables false
set_option linter.unusedSimpArgs false

set_option maxRecDepth 20000 in
set_option maxHeartbeats 4000000 in
theorem r17size_any (x : Rc) (A : Option Addr) (c : Nat) (W : World) (hx : TxAt W A c x.ns) : Calls Tryz.prog 58 #[.agg (rcc x A c)] W fun e w' => e = .returned (.int .i64 (sizeR x : Nat)) ∧ RowKit.Below W.heap.size W w' := by
  have HC := hid (fun w (hw : RowKit.Below W.heap.size W w) => r17check_any x A c w (hx.below hw))
  have HY := hid (fun w (hw : RowKit.Below W.heap.size W w) => r17bytes_any x A c w (hx.below hw))
  have hll := hx.len
  have hb0 : RowKit.Below W.heap.size W (W.alloc (.cells (rcc x A c) 46)) := (Below.refl _ _).alloc (Nat.le_refl _) _
  have h0 : (W.alloc (.cells (rcc x A c) 46)).heap[W.heap.size]? = some (.cells (rcc x A c) 46 (0, 0)) := heap_alloc_new _ _
  clear hx
  by_cases hc : chkR x = true
  case neg =>
    rw [Bool.not_eq_true] at hc
    simp only [hc] at HC
    have HV : Hid (sizeR x = 0) := hid (by unfold sizeR; rw [hc]; rfl)
    rw [HV.out]
    clear hc HV HY
    obtain ⟨k, j, t, w, s, e, ns⟩ := x
    simp only [rcc] at *
    go_enter Tryz.func58, Tryz.ntmps58
    go_upto_region 1 with (fail)
    refine at_world (fun u => u.heap[W.heap.size]? = some (.cells #[.int .i64 k, .int .i64 j, .int .i64 t, .int .i64 w, .int .i64 s, .int .i64 e, .slice A ns.length c] 46 (0, 0)) ∧ RowKit.Below W.heap.size W u) ⟨h0, hb0⟩ ?_
    clear h0 hb0
    rintro w1 ⟨hm1, hB1⟩
    obtain ⟨p0, p1, p2, p3, p4, p5, p6⟩ := seven_cells hm1
    have HB1 := hid hB1
    clear hm1 hB1
    go_wp2_with fail
    refine (HC.out _ HB1.out).mono ?_
    rintro x w2 ⟨rfl, hb2⟩
    have HB2 := hid (HB1.out.trans (hb2.mono HB1.out.size))
    clear hb2 HB1 p0 p1 p2 p3 p4 p5 p6
    go_wp2
    go_ret
    exact ⟨rfl, HB2.out⟩
  have HV : Hid (sizeR x = (frP (rb x)).length) := hid (by unfold sizeR; rw [hc]; rfl)
  rw [HV.out]
  simp only [hc, if_true] at HC HY
  have hrl := rb_len x hc
  clear hc HV
  have HFP : Hid (∀ w, Calls Tryz.prog 61 #[.string (str (rb x))] w fun e w' => e = .returned (.string (str (frP (rb x)))) ∧ RowKit.Below w.heap.size w w') := hid (fun w => rput_any (str (rb x)) w (by rw [str_size]; omega))
  have hfl : (frP (rb x)).length ≤ 100000 := by
    have := (numB_length (rb x).length (by omega)).2
    rw [frP_len _ (by omega)]
    omega
  have HFL := hid (str_size (frP (rb x)))
  generalize frP (rb x) = fr at *
  generalize rb x = bs at *
  obtain ⟨k, j, t, w, s, e, ns⟩ := x
  simp only [rcc] at *
  go_enter Tryz.func58, Tryz.ntmps58
  go_upto_region 1 with (fail)
  refine at_world (fun u => u.heap[W.heap.size]? = some (.cells #[.int .i64 k, .int .i64 j, .int .i64 t, .int .i64 w, .int .i64 s, .int .i64 e, .slice A ns.length c] 46 (0, 0)) ∧ RowKit.Below W.heap.size W u) ⟨h0, hb0⟩ ?_
  clear h0 hb0
  rintro w1 ⟨hm1, hB1⟩
  obtain ⟨p0, p1, p2, p3, p4, p5, p6⟩ := seven_cells hm1
  have HM1 := hid hm1
  have HB1 := hid hB1
  clear hm1 hB1
  go_wp2_with fail
  refine (HC.out _ HB1.out).mono ?_
  rintro x w2 ⟨rfl, hb2⟩
  have HM2 := hid (keep0 HM1.out hb2)
  have HB2 := hid (HB1.out.trans (hb2.mono HB1.out.size))
  clear hb2 HB1 HM1 p0 p1 p2 p3 p4 p5 p6 HC
  obtain ⟨p0, p1, p2, p3, p4, p5, p6⟩ := seven_cells HM2.out
  go_wp2_with fail
  refine (HY.out _ HB2.out).mono ?_
  rintro x w3 ⟨rfl, hb3⟩
  have HB3 := hid (HB2.out.trans (hb3.mono HB2.out.size))
  clear hb3 HB2 HM2 HY p0 p1 p2 p3 p4 p5 p6
  go_wp2_with fail
  refine (HFP.out _).mono ?_
  rintro x w4 ⟨rfl, hb4⟩
  have HB4 := hid (HB3.out.trans (hb4.mono HB3.out.size))
  clear hb4 HB3
  have hs9 : (str fr).size ≤ 9223372036854775807 := by rw [HFL.out]; omega
  go_wp2
  go_ret
  exact ⟨by rw [← HFL.out]; rfl, HB4.out⟩

set_option maxRecDepth 20000 in
set_option maxHeartbeats 4000000 in
theorem r17most_any (j s : Int) (ns : List (List UInt8)) (A : Option Addr) (c : Nat) (W : World) (hx : TxAt W A c ns) : Calls Tryz.prog 39 #[.int .i64 j, .int .i64 s, .slice A ns.length c] W fun e w' => e = .returned (.int .i64 (mostR j s ns : Nat)) ∧ RowKit.Below W.heap.size W w' := by
  have HA := hid (r17size_any ⟨1, j, 0, 0, s, 0, ns⟩ A c W hx)
  have hll := hx.len
  simp only [rcc] at HA
  by_cases h0 : sizeR ⟨1, j, 0, 0, s, 0, ns⟩ = 0
  · have HV : Hid (mostR j s ns = 0) := hid (if_pos h0)
    rw [h0] at HA
    rw [HV.out]
    clear h0 HV hx
    go_enter Tryz.func39, Tryz.ntmps39
    go_wp2_with fail
    refine HA.out.mono ?_
    rintro e w1 ⟨rfl, hb1⟩
    have HB1 := hid hb1
    clear hb1
    go_wp2
    go_ret
    exact ⟨rfl, HB1.out⟩
  · have HV : Hid (mostR j s ns = sizeR ⟨1, j, 0, 0, s, 0, ns⟩ + ns.length * ((numB (cl j)).length + 9 + (numB (cl j)).length + 7) + 8 * ((numB (cl j)).length + 8)) := hid (if_neg h0)
    have hc := size_chk h0
    have hns := (chkR_ns hc).1
    have hle := size_le ⟨1, j, 0, 0, s, 0, ns⟩
    have hql := (numB_length _ (cl_le j)).2
    have HJ := hid (fun w => rnum_any j w)
    have hqz : (str (numB (cl j))).size = (numB (cl j)).length := str_size _
    rw [HV.out]
    clear hc hx HV
    generalize sizeR ⟨1, j, 0, 0, s, 0, ns⟩ = a at *
    generalize str (numB (cl j)) = sq at *
    generalize (numB (cl j)).length = q at *
    generalize hN : ns.length = n at *
    clear hN
    subst hqz
    have ha : ¬ ((a : Nat) : Int) = 0 := by omega
    have ha2 : (((a : Nat) : Int) == 0) = false := by simpa using ha
    have hpb : n * (sq.size + 9 + sq.size + 7) ≤ 16 * 32 := Nat.mul_le_mul hns (by omega)
    have hmul : (n : Int) * ((sq.size : Int) + 9 + (sq.size : Int) + 7) = ((n * (sq.size + 9 + sq.size + 7) : Nat) : Int) := by
      push_cast
      rfl
    have hval : wrap64 (wrap64 ((a : Int) + wrap64 ((n : Int) * ((sq.size : Int) + 9 + (sq.size : Int) + 7))) + 8 * ((sq.size : Int) + 8)) = ((a + n * (sq.size + 9 + sq.size + 7) + 8 * (sq.size + 8) : Nat) : Int) := by
      rw [hmul]
      unfold wrap64
      omega
    have HVAL := hid hval
    clear hval hmul
    go_enter Tryz.func39, Tryz.ntmps39
    go_wp2_with fail
    refine HA.out.mono ?_
    rintro e w1 ⟨rfl, hb1⟩
    have HB1 := hid hb1
    clear hb1
    go_wp2_with fail
    refine (HJ.out _).mono ?_
    rintro e w2 ⟨rfl, hb2⟩
    have HB2 := hid (HB1.out.trans (hb2.mono HB1.out.size))
    clear hb2 HB1
    go_wp2
    go_ret
    exact ⟨by rw [← HVAL.out]; rfl, HB2.out⟩
end Go.Proofs.YtkepfkfoblocgaaGreat
