/- Table: the page's example: contract. -/
import Derived.Test.YtjdlomdhaoadkaaTabL
namespace Go.Proofs.Ytjdlomdhaoadkaa
open Go.RowKit
set_option linter.unusedVariables false
set_option linter.unusedSimpArgs false

theorem exT1 : setT [] 5 2 2 = [(5, 2, 2)] ∧ setOk [] 5 2 2 = true := by decide
theorem exT2 : setT [(5, 2, 2)] 5 2 2 = [(5, 2, 2)] ∧ setOk [(5, 2, 2)] 5 2 2 = false := by decide
theorem exT3 : setT [(5, 2, 2)] 5 2 3 = [(5, 2, 3)] ∧ setOk [(5, 2, 2)] 5 2 3 = true := by decide
theorem exT4 : setT [(5, 2, 3)] 5 2 2 = [(5, 2, 3)] ∧ setOk [(5, 2, 3)] 5 2 2 = false := by decide
theorem exT5 : stF 5 2 [(5, 2, 3)] = 3 := by decide
set_option maxRecDepth 20000 in
set_option maxHeartbeats 4000000 in
theorem works31_any (W : World) : Calls Try.prog 5 #[] W fun e w' => e = .returned (.bool true) ∧ Below W.heap.size W w' := by
  have H1 := hid (fun (w : World) => tset_any none 0 [] 5 2 2 w ⟨rfl, Nat.le_refl _, by unfold maxLen; omega, fun h => by simp [gcells] at h⟩ (by decide))
  have H2 := hid (fun (A : Option Addr) (c : Nat) (w : World) h => tset_any A c [(5, 2, 2)] 5 2 2 w h (by decide))
  have H3 := hid (fun (A : Option Addr) (c : Nat) (w : World) h => tset_any A c [(5, 2, 2)] 5 2 3 w h (by decide))
  have H4 := hid (fun (A : Option Addr) (c : Nat) (w : World) h => tset_any A c [(5, 2, 3)] 5 2 2 w h (by decide))
  have H5 := hid (fun (A : Option Addr) (c : Nat) (w : World) h => state_any A c [(5, 2, 3)] 5 2 w h)
  unfold SetR at H1 H2 H3 H4
  rw [exT1.1, exT1.2] at H1
  rw [exT2.1, exT2.2] at H2
  rw [exT3.1, exT3.2] at H3
  rw [exT4.1, exT4.2] at H4
  rw [exT5] at H5
  simp only [List.length_cons, List.length_nil, Nat.zero_add] at H1 H2 H3 H4 H5
  go_enter Try.func5, Try.ntmps5
  go_upto_region 2 with (fail)
  refine at_world (fun u => Below W.heap.size W u ∧ u.heap[W.heap.size]? = some (.cells #[.int .i64 5, .int .i64 2] 28 (0, 0))) ⟨(Below.refl _ _).alloc (Nat.le_refl _) _, heap_alloc_new _ _⟩ ?_
  rintro w0 ⟨hb0, hx0⟩
  have HX0 := hid hx0
  have HB0 := hid hb0
  clear hx0 hb0
  obtain ⟨p0, p1, _, _⟩ := two_cells HX0.out
  go_wp2_with fail
  refine (H1.out _).mono ?_
  rintro e w1 ⟨A1, c1, rfl, ho, hb⟩
  have HX1 := hid (keep0 HX0.out hb)
  have HB1 := hid (HB0.out.trans (hb.mono HB0.out.size))
  have HS1 := hid (sl_own ho)
  clear ho hb p0 p1 H1
  obtain ⟨p0, p1, _, _⟩ := two_cells HX1.out
  go_wp2_with fail
  refine (H2.out _ _ _ HS1.out).mono ?_
  rintro e w2 ⟨A2, c2, rfl, ho, hb⟩
  have HX2 := hid (keep0 HX1.out hb)
  have HB2 := hid (HB1.out.trans (hb.mono HB1.out.size))
  have HS2 := hid (sl_own ho)
  clear ho hb p0 p1 H2
  obtain ⟨p0, p1, _, _⟩ := two_cells HX2.out
  go_wp2_with fail
  refine (H3.out _ _ _ HS2.out).mono ?_
  rintro e w3 ⟨A3, c3, rfl, ho, hb⟩
  have HX3 := hid (keep0 HX2.out hb)
  have HB3 := hid (HB2.out.trans (hb.mono HB2.out.size))
  have HS3 := hid (sl_own ho)
  clear ho hb p0 p1 H3
  obtain ⟨p0, p1, _, _⟩ := two_cells HX3.out
  go_wp2_with fail
  refine (H4.out _ _ _ HS3.out).mono ?_
  rintro e w4 ⟨A4, c4, rfl, ho, hb⟩
  have HL4 := hid (HS3.out.below hb)
  have HX4 := hid (keep0 HX3.out hb)
  have HB4 := hid (HB3.out.trans (hb.mono HB3.out.size))
  have HS4 := hid (sl_own ho)
  clear ho hb p0 p1 H4
  obtain ⟨p0, p1, _, _⟩ := two_cells HX4.out
  go_wp2_with fail
  refine (H5.out _ _ _ HL4.out).mono ?_
  rintro e w5 ⟨rfl, hb⟩
  have HB5 := hid (HB4.out.trans (hb.mono HB4.out.size))
  clear hb
  go_wp2
  go_ret
  exact ⟨rfl, HB5.out⟩
end Go.Proofs.Ytjdlomdhaoadkaa
