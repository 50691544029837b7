/- PackBytes and PackOpens. -/
import Derived.Test.YtdjcfeglaiihgaaPacJ
import Derived.Test.YtdjcfeglaiihgaaPacD
import Derived.Test.YtdjcfeglaiihgaaPacE
import Derived.Test.YtdjcfeglaiihgaaRd
namespace Go.Proofs.Ytdjcfeglaiihgaa
open Go.RowKit Go.Sort
set_option linter.unusedVariables false
set_option linter.unusedSimpArgs false

theorem sl_str {P : Program} {w : World} {t : TypeId} {cs : List Value} (h : Rd P w t cs) : True := trivial
set_option maxRecDepth 20000 in
set_option maxHeartbeats 4000000 in
theorem packBytes_law (k f t i p s : Int) (b : ByteArray) (hb : b.size ≤ maxLen) (W : World) :
    Calls Try.prog 9 #[.agg #[.int .i64 k, .int .i64 f, .int .i64 t, .int .i64 i, .int .i64 p, .int .i64 s, .string b]] W fun e w' => e = .returned (.bool true) ∧ Below W.heap.size W w' := by
  have HW := hid works23_any
  by_cases hl : b.size ≤ 1000
  · have h1 : decide (1000 < (b.size : Int)) = false := decide_eq_false (by omega)
    have h2 : (b.size : Int) ≤ 1000 := by omega
    have HO := hid (fun w => pof_any k f t i p s b w)
    have HC := hid (fun w => pcheck_any k f t i p s b w)
    have HR := hid (fun w => rcheck_any k f t i p s b w)
    have HB := hid (fun w => pbytes_any k f t i p s b hl w)
    have HD := hid (fun w => rpbytes_any k f t i p s b hl w)
    generalize okP k f t i p s b.data.toList = ok at *
    generalize pbS k f t i p s b = y at *
    have hok : (ok == ok) = true := by simp
    have hyy : (y.toList == y.toList) = true := by simp
    clear hb hl
    go_enter Try.func9, Try.ntmps9
    go_upto_region 1 with (fail)
    refine at_world (fun w => Pc 56 w W.heap.size k f t i p s b ∧ Below W.heap.size W w) ⟨heap_alloc_new _ _, (Below.refl _ _).alloc (Nat.le_refl _) _⟩ ?_
    rintro w2 ⟨hm, hbel⟩
    obtain ⟨⟨p0, p1, p2, p3, p4, p5, p6⟩, f0, f1, f2, f3, f4, f5, f6⟩ := seven_cells hm
    clear f0 f1 f2 f3 f4 f5 f6 hm
    go_upto_region 3 with (fail)
    replace p0 := cell_regrown p0
    replace p1 := cell_regrown p1
    replace p2 := cell_regrown p2
    replace p3 := cell_regrown p3
    replace p4 := cell_regrown p4
    replace p5 := cell_regrown p5
    replace p6 := cell_regrown p6
    have c0 := reg (w := w2) (fun W' _ => HO.out W')
    have c1 := reg (w := w2) (fun W' _ => HC.out W')
    have c2 := reg (w := w2) (fun W' _ => HR.out W')
    have c3 := reg (w := w2) (fun W' _ => HB.out W')
    have c4 := reg (w := w2) (fun W' _ => HD.out W')
    have c5 := reg (w := w2) (fun W' _ => HW.out W')
    refine wp_region_quiet_below (by kernel_rfl) (by kernel_rfl) ?_
    repeat (go_big_quiet_step (first | (go_at_call 28; with_reducible exact c0 _ _) | (go_at_call 27; with_reducible exact c1 _ _) | (go_at_call 29; with_reducible exact c2 _ _) | (go_at_call 30; with_reducible exact c3 _ _) | (go_at_call 31; with_reducible exact c4 _ _) | (go_at_call 26; with_reducible exact c5 _ _)))
    refine wpQuiet_nil ?_
    intro _ hw'
    obtain ⟨⟨dq, osq⟩, hw''⟩ := hw'
    subst hw''
    go_wp2
    go_ret
    exact ⟨rfl, hbel.trans ((below_regrown w2 dq osq).mono hbel.size)⟩
  · have h1 : decide (1000 < (b.size : Int)) = true := decide_eq_true (by omega)
    have h2 : 1000 < (b.size : Int) := by omega
    unfold maxLen at hb
    clear hl
    go_enter Try.func9, Try.ntmps9
    go_upto_region 1 with (fail)
    refine at_world (fun w => Pc 56 w W.heap.size k f t i p s b ∧ Below W.heap.size W w) ⟨heap_alloc_new _ _, (Below.refl _ _).alloc (Nat.le_refl _) _⟩ ?_
    rintro w2 ⟨hm, hbel⟩
    obtain ⟨⟨p0, p1, p2, p3, p4, p5, p6⟩, f0, f1, f2, f3, f4, f5, f6⟩ := seven_cells hm
    go_wp2_with (go_at_call 26; refine (HW.out _).mono ?_; rintro e w9 ⟨rfl, hb9⟩)
    go_ret
    exact ⟨rfl, hbel.trans (hb9.mono hbel.size)⟩

theorem opV_pk (l : List UInt8) : ∃ (k f t i p s : Int) (b : ByteArray), opV l = .agg #[.int .i64 k, .int .i64 f, .int .i64 t, .int .i64 i, .int .i64 p, .int .i64 s, .string b] := by
  unfold opV
  split
  · exact ⟨_, _, _, _, _, _, _, rfl⟩
  · exact ⟨_, _, _, _, _, _, _, rfl⟩
set_option maxRecDepth 20000 in
set_option maxHeartbeats 4000000 in
theorem packOpens_law (s : ByteArray) (hb : s.size ≤ maxLen) (W : World) :
    Calls Try.prog 10 #[.string s] W fun e w' => e = .returned (.bool true) ∧ Below W.heap.size W w' := by
  have HW := hid works23_any
  by_cases hl : s.size ≤ 1000
  · have h1 : decide (1000 < (s.size : Int)) = false := decide_eq_false (by omega)
    have h2 : (s.size : Int) ≤ 1000 := by omega
    have HP := hid (fun w => open_any s hl w)
    have HR := hid (fun w => ropen_any s.data.toList (by rw [Array.length_toList]; exact hl) w)
    rw [str_of] at HR
    obtain ⟨k, f, t, i, p, q, b, hv⟩ := opV_pk s.data.toList
    rw [hv] at HP HR
    have HO := hid (fun w => pof_any k f t i p q b w)
    generalize opE s.data.toList = e0 at *
    have hee : (e0 == e0) = true := by simp
    clear hb hl hv
    go_enter Try.func10, Try.ntmps10
    go_wp2_with fail
    refine (HP.out _).mono ?_
    rintro x w1 ⟨rfl, hb1⟩
    go_upto_region 4 with (fail)
    refine at_world (fun w => Pc 58 w w1.heap.size k f t i p q b ∧ Below W.heap.size W w) ⟨heap_alloc_new _ _, hb1.alloc hb1.size _⟩ ?_
    have hge := hb1.size
    clear hb1
    generalize w1.heap.size = M at *
    rintro w2 ⟨hm, hbel⟩
    have HM := hid hm
    have HBE := hid hbel
    clear hm hbel
    go_wp2_with fail
    refine (HR.out _).mono ?_
    rintro x w3 ⟨rfl, hb3⟩
    go_upto_region 5 with (fail)
    refine at_world (fun w => Pc 58 w M k f t i p q b ∧ Pc 56 w w3.heap.size k f t i p q b ∧ Below W.heap.size W w) ⟨keep1 HM.out hb3, heap_alloc_new _ _, (HBE.out.trans (hb3.mono HBE.out.size)).alloc (Nat.le_trans HBE.out.size hb3.size) _⟩ ?_
    clear hb3 HM HBE
    generalize w3.heap.size = N at *
    rintro w4 ⟨hm, hn, hbel⟩
    obtain ⟨⟨p0, p1, p2, p3, p4, p5, p6⟩, _⟩ := seven_cells hm
    obtain ⟨⟨r0, r1, r2, r3, r4, r5, r6⟩, _⟩ := seven_cells hn
    clear hm hn
    replace p0 := cell_regrown p0
    replace p1 := cell_regrown p1
    replace p2 := cell_regrown p2
    replace p3 := cell_regrown p3
    replace p4 := cell_regrown p4
    replace p5 := cell_regrown p5
    replace p6 := cell_regrown p6
    replace r0 := cell_regrown r0
    replace r1 := cell_regrown r1
    replace r2 := cell_regrown r2
    replace r3 := cell_regrown r3
    replace r4 := cell_regrown r4
    replace r5 := cell_regrown r5
    replace r6 := cell_regrown r6
    have c0 := reg (w := w4) (fun W' _ => HO.out W')
    have c5 := reg (w := w4) (fun W' _ => HW.out W')
    refine wp_region_quiet_below (by kernel_rfl) (by kernel_rfl) ?_
    repeat (go_big_quiet_step (first | (go_at_call 28; with_reducible exact c0 _ _) | (go_at_call 26; with_reducible exact c5 _ _)))
    refine wpQuiet_nil ?_
    intro _ hw'
    obtain ⟨⟨dq, osq⟩, hw''⟩ := hw'
    subst hw''
    go_wp2
    go_ret
    exact ⟨rfl, hbel.trans ((below_regrown w4 dq osq).mono hbel.size)⟩
  · have h1 : decide (1000 < (s.size : Int)) = true := decide_eq_true (by omega)
    have h2 : 1000 < (s.size : Int) := by omega
    unfold maxLen at hb
    clear hl
    go_enter Try.func10, Try.ntmps10
    go_wp2_with (go_at_call 26; refine (HW.out _).mono ?_; rintro e w9 ⟨rfl, hb9⟩)
    go_ret
    exact ⟨rfl, hb9⟩
end Go.Proofs.Ytdjcfeglaiihgaa
