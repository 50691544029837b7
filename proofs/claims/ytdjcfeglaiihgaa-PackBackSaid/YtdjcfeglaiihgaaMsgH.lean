/- MsgParses. -/
import Derived.Test.YtdjcfeglaiihgaaMsgF
import Derived.Test.YtdjcfeglaiihgaaMsgG
namespace Go.Proofs.Ytdjcfeglaiihgaa
open Go.RowKit Go.Sort
set_option linter.unusedVariables false
set_option linter.unusedSimpArgs false

theorem works22_any (W : World) : Calls Try.prog 12 #[] W fun e w' => e = .returned (.bool true) ∧ Below W.heap.size W w' := by
  have HB := hid (fun w => bytes_any 4 5 2 1 w)
  rw [show (if chkB 4 5 2 1 then str (mb 4 5 2 1) else (⟨#[]⟩ : ByteArray)) = ⟨#[4, 5, 2, 1]⟩ by decide +kernel] at HB
  go_enter Try.func12, Try.ntmps12
  go_wp2_with fail
  refine (HB.out _).mono ?_
  rintro x w1 ⟨rfl, hb⟩
  have HB1 := hid hb
  clear hb HB
  go_wp2
  go_ret
  exact ⟨rfl, HB1.out⟩

theorem pm_msg (l : List UInt8) : ∃ k j t p : Int, pm l = .agg #[.int .i64 k, .int .i64 j, .int .i64 t, .int .i64 p] := by
  unfold pm
  split
  · exact ⟨_, _, _, _, rfl⟩
  · exact ⟨_, _, _, _, rfl⟩
theorem str_of (s : ByteArray) : str s.data.toList = s := by
  apply ByteArray.ext
  simp [str]

set_option maxHeartbeats 1000000 in
theorem msgParses_law (s : ByteArray) (W : World) : Calls Try.prog 3 #[.string s] W fun e w' => e = .returned (.bool true) ∧ Below W.heap.size W w' := by
  have HW := hid works22_any
  by_cases hs : s.size ≤ 1000
  · have HP := hid (fun w => parse_any s hs w)
    have hl : s.data.toList.length = s.size := by rw [Array.length_toList]; rfl
    have HQ := hid (fun w => rparse_any s.data.toList (by omega) w)
    rw [str_of] at HQ
    obtain ⟨k, j, t, p, hp⟩ := pm_msg s.data.toList
    rw [hp] at HP HQ
    generalize pe s.data.toList = e at *
    have hs1 : (s.size : Int) ≤ 1000 := by omega
    have hs2 : decide (1000 < (s.size : Int)) = false := by simp; omega
    clear hl hp hs
    go_enter Try.func3, Try.ntmps3
    go_wp2_with fail
    refine (HP.out _).mono ?_
    rintro x w1 ⟨rfl, hb1⟩
    have K1 : Hid (Mc (w1.alloc (.cells #[.int .i64 k, .int .i64 j, .int .i64 t, .int .i64 p] 24)) w1.heap.size k j t p ∧ Below W.heap.size W (w1.alloc (.cells #[.int .i64 k, .int .i64 j, .int .i64 t, .int .i64 p] 24))) := hid ⟨heap_alloc_new _ _, hb1.alloc hb1.size _⟩
    clear HP hb1
    go_upto_region 4 with (fail)
    have K1' := K1.out
    clear K1
    generalize w1.heap.size = M1 at K1' ⊢
    refine at_world (fun w => Mc w M1 k j t p ∧ Below W.heap.size W w) K1' ?_
    clear K1'
    rintro w2 ⟨hm2, hb2⟩
    have HM2 := hid hm2
    have HB2 := hid hb2
    clear hm2 hb2
    go_wp2_with fail
    refine (HQ.out _).mono ?_
    rintro x w3 ⟨rfl, hb3⟩
    have K1 : Hid (Mc (w3.alloc (.cells #[.int .i64 k, .int .i64 j, .int .i64 t, .int .i64 p] 24)) M1 k j t p ∧ Mc (w3.alloc (.cells #[.int .i64 k, .int .i64 j, .int .i64 t, .int .i64 p] 24)) w3.heap.size k j t p ∧ Below W.heap.size W (w3.alloc (.cells #[.int .i64 k, .int .i64 j, .int .i64 t, .int .i64 p] 24))) := hid ⟨keep1 HM2.out hb3, heap_alloc_new _ _, (HB2.out.trans (hb3.mono HB2.out.size)).alloc (HB2.out.trans (hb3.mono HB2.out.size)).size _⟩
    clear HQ hb3 HM2 HB2
    go_upto_region 5 with (fail)
    have K1' := K1.out
    clear K1
    generalize w3.heap.size = M2 at K1' ⊢
    refine at_world (fun w => Mc w M1 k j t p ∧ Mc w M2 k j t p ∧ Below W.heap.size W w) K1' ?_
    clear K1'
    rintro w4 ⟨hm1, hm2, hb4⟩
    have HB4 := hid hb4
    obtain ⟨⟨p0, p1, p2, p3⟩, f0, f1, f2, f3⟩ := four_cells hm1
    obtain ⟨⟨q0, q1, q2, q3⟩, g0, g1, g2, g3⟩ := four_cells hm2
    clear hm1 hm2 hb4
    go_wp2_with (go_at_call 12; refine (HW.out _).mono ?_; rintro x w5 ⟨rfl, hb5⟩)
    go_ret
    exact ⟨rfl, HB4.out.trans (hb5.mono HB4.out.size)⟩
  · have hs1 : (1000 : Int) < (s.size : Int) := by omega
    have hs2 : decide (1000 < (s.size : Int)) = true := by simp; omega
    clear hs
    go_enter Try.func3, Try.ntmps3
    go_wp2_with (go_at_call 12; refine (HW.out _).mono ?_; rintro x w5 ⟨rfl, hb5⟩)
    go_ret
    exact ⟨rfl, hb5⟩
end Go.Proofs.Ytdjcfeglaiihgaa
