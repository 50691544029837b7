/- RecParses. -/
import Derived.Test.YtejeffnolglhoaaRecP
import Derived.Test.YtejeffnolglhoaaRecJ
namespace Go.Proofs.Ytejeffnolglhoaa
open Go.RowKit Go.Sort
set_option linter.unusedVariables false
set_option linter.unusedSimpArgs false

set_option maxRecDepth 20000 in
set_option maxHeartbeats 8000000 in
theorem recParses_law (Ab : Option Addr) (len cb : Nat) (b : List UInt8) (W : World) (hb : IsBytes W Ab len cb b) :
    Calls Try.prog 4 #[.slice Ab len cb] W fun e w' => e = .returned (.bool true) ∧ RowKit.Below W.heap.size W w' := by
  have HW := hid works17_any
  obtain ⟨rfl, h1, h2⟩ := hb.len
  have hb9 : b.length ≤ 9223372036854775807 := by unfold maxLen at h2; omega
  clear h1 h2
  by_cases hbig : 4000 < b.length
  case pos =>
    have hbig2 : (4000 : Int) < (b.length : Int) := by omega
    clear hb
    generalize b.length = bl at *
    go_enter Try.func4, Try.ntmps4
    go_wp2_with (go_at_call 11; refine (HW.out _).mono ?_; rintro e w7 ⟨rfl, hb7⟩)
    go_ret
    exact ⟨rfl, hb7⟩
  have hsm : (b.length : Int) ≤ 4000 := by omega
  have HP := hid (rparse_any Ab cb b W hb (by omega))
  have HQ := hid (fun w => r17parse_any b (by omega) w)
  have HCV := hid (fun w (hw : RowKit.Below W.heap.size W w) => convS (hb.below hw))
  have HSA := hid (fun w (A1 A2 : Option Addr) (c1 c2 : Nat) (h1 : TxAt w A1 c1 (pr b).ns) (h2 : TxAt w A2 c2 (pr b).ns) => r17same_any (pr b) (pr b) A1 A2 c1 c2 w h1 h2)
  simp only [sameR_refl] at HSA
  clear hb hbig
  generalize pr b = y at *
  generalize qk b = ek at *
  generalize str b = sb at *
  generalize b.length = bl at *
  obtain ⟨k, j, t, w, s, e, ns⟩ := y
  simp only [rcc] at *
  generalize hm : ns.length = m at *
  clear hm
  go_enter Try.func4, Try.ntmps4
  go_wp2_with fail
  refine HP.out.mono ?_
  rintro q u2 ⟨A1, c1, rfl, hT, hb2⟩
  have HT2 := hid hT
  have HB2 := hid hb2
  clear hT hb2 HP
  go_upto_region 4 with (fail)
  refine at_world (fun u => u.heap[u2.heap.size]? = some (.cells #[.int .i64 k, .int .i64 j, .int .i64 t, .int .i64 w, .int .i64 s, .int .i64 e, .slice A1 m c1] 24 (0, 0)) ∧ TxAt u A1 c1 ns ∧ RowKit.Below W.heap.size W u) ⟨heap_alloc_new _ _, HT2.out.below ((Below.refl _ _).alloc (Nat.le_refl _) _), HB2.out.alloc HB2.out.size _⟩ ?_
  clear HT2 HB2
  generalize u2.heap.size = N at *
  rintro u3 ⟨hx3, hT3, hB3⟩
  have HX3 := hid hx3
  have HT3 := hid hT3
  have HB3 := hid hB3
  have hcv := HCV.out u3 hB3
  clear hx3 hT3 hB3 HCV
  go_wp2_with fail
  refine (HQ.out _).mono ?_
  rintro q u4 ⟨A2, c2, rfl, hT4, hb4⟩
  have HX4 := hid (keep0 HX3.out hb4)
  have HT4 := hid (And.intro (HT3.out.below hb4) hT4)
  have HB4 := hid (HB3.out.trans (hb4.mono HB3.out.size))
  clear hcv hT4 hb4 HX3 HT3 HB3
  go_upto_region 5 with (fail)
  have hN4 : N < u4.heap.size := lt_of_block HX4.out
  refine at_world (fun u => u.heap[N]? = some (.cells #[.int .i64 k, .int .i64 j, .int .i64 t, .int .i64 w, .int .i64 s, .int .i64 e, .slice A1 m c1] 24 (0, 0)) ∧ u.heap[u4.heap.size]? = some (.cells #[.int .i64 k, .int .i64 j, .int .i64 t, .int .i64 w, .int .i64 s, .int .i64 e, .slice A2 m c2] 24 (0, 0)) ∧ (TxAt u A1 c1 ns ∧ TxAt u A2 c2 ns) ∧ RowKit.Below W.heap.size W u) ⟨(Below.heap_alloc _ _ _ hN4).trans HX4.out, heap_alloc_new _ _, ⟨HT4.out.1.below ((Below.refl _ _).alloc (Nat.le_refl _) _), HT4.out.2.below ((Below.refl _ _).alloc (Nat.le_refl _) _)⟩, HB4.out.alloc HB4.out.size _⟩ ?_
  clear HX4 HT4 HB4
  generalize u4.heap.size = N4 at *
  rintro u5 ⟨hx5, hy5, hT5, hB5⟩
  have HS := hid (HSA.out u5 A1 A2 c1 c2 hT5.1 hT5.2)
  have HB5 := hid hB5
  obtain ⟨p0, p1, p2, p3, p4, p5, p6⟩ := seven_cells hx5
  obtain ⟨r0, r1, r2, r3, r4, r5, r6⟩ := seven_cells hy5
  clear hx5 hy5 hT5 hB5 HSA
  go_wp2_with fail
  refine HS.out.mono ?_
  rintro q u6 ⟨rfl, hb6⟩
  have HB6 := hid (HB5.out.trans (hb6.mono HB5.out.size))
  clear hb6 HB5 HS p0 p1 p2 p3 p4 p5 p6 r0 r1 r2 r3 r4 r5 r6
  go_wp2_with (go_at_call 11; refine (HW.out _).mono ?_; rintro e w7 ⟨rfl, hb7⟩)
  go_ret
  exact ⟨rfl, HB6.out.trans (hb7.mono HB6.out.size)⟩
end Go.Proofs.Ytejeffnolglhoaa
