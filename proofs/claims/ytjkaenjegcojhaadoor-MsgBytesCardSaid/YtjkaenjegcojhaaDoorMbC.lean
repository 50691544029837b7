/- MsgBytes: the law. -/
import Derived.Test.YtjkaenjegcojhaaDoorMbB
namespace Go.Proofs.YtjkaenjegcojhaaDoor
open Go.RowKit
set_option linter.unusedVariables false
set_option linter.unusedSimpArgs false

set_option maxRecDepth 20000 in
set_option maxHeartbeats 4000000 in
theorem msgBytes_law (k j t p c : Int) (W : World) (hw : WordsAt W) : Calls Tryd.prog 3 #[.agg #[.int .i64 k, .int .i64 j, .int .i64 t, .int .i64 p], .int .i64 c] W fun e w' => e = .returned (.bool true) ∧ Below W.heap.size W w' := by
  have H1 := hid (fun w => check_any k j t p w)
  have H2 := hid (fun w => rcheck22_any k j t p w)
  have H3 := hid (fun w => bytes_any k j t p w)
  have H4 := hid (fun w => rbytes22_any k j t p w)
  have H5 := hid (fun w => same_below (down_any c w))
  have H6 := hid (fun w => same_below (rdown_any c w))
  have H7 := hid (fun w (hb : Below W.heap.size W w) => same_below (word_any c w (hw.below hb)))
  have H8 := hid (fun w => rword_any c w)
  clear hw
  generalize (if chkB k j t p then str (mb k j t p) else (⟨#[]⟩ : ByteArray)) = s1 at *
  generalize chkB k j t p = b1 at *
  generalize downB c = b2 at *
  generalize wordV c = s2 at *
  have e1 : (b1 == b1) = true := by simp
  have e2 : (b2 == b2) = true := by simp
  have e3 : (s1.toList == s1.toList) = true := by simp
  have e4 : (s2.toList == s2.toList) = true := by simp
  go_enter Tryd.func3, Tryd.ntmps3
  go_upto_region 1 with (fail)
  refine at_world (fun w => w.heap[W.heap.size]? = some (.cells #[.int .i64 k, .int .i64 j, .int .i64 t, .int .i64 p] 23 (0, 0)) ∧ Below W.heap.size W w) ⟨heap_alloc_new _ _, (Below.refl _ _).alloc (Nat.le_refl _) _⟩ ?_
  rintro w0 ⟨k0, hb0⟩
  have HB := hid hb0
  obtain ⟨⟨p0, p1, p2, p3⟩, _⟩ := four_cells k0
  clear k0 hb0
  have c1 := reg (w := w0) (fun W' _ => H1.out W')
  have c2 := reg (w := w0) (fun W' _ => H2.out W')
  have c3 := reg (w := w0) (fun W' _ => H3.out W')
  have c4 := reg (w := w0) (fun W' _ => H4.out W')
  have c5 := reg (w := w0) (fun W' _ => H5.out W')
  have c6 := reg (w := w0) (fun W' _ => H6.out W')
  have c7 := reg (w := w0) (fun W' hW => H7.out W' (HB.out.trans (hW.mono HB.out.size)))
  have c8 := reg (w := w0) (fun W' _ => H8.out W')
  have c9 := reg (w := w0) (fun W' _ => works22_any W')
  replace p0 := cell_regrown p0
  replace p1 := cell_regrown p1
  replace p2 := cell_regrown p2
  replace p3 := cell_regrown p3
  refine wp_region_quiet_below (by kernel_rfl) (by kernel_rfl) ?_
  repeat (go_big_quiet_step (first | (go_at_call 6; with_reducible exact c1 _ _) | (go_at_call 7; with_reducible exact c2 _ _) | (go_at_call 8; with_reducible exact c3 _ _) | (go_at_call 9; with_reducible exact c4 _ _) | (go_at_call 10; with_reducible exact c5 _ _) | (go_at_call 11; with_reducible exact c6 _ _) | (go_at_call 12; with_reducible exact c7 _ _) | (go_at_call 13; with_reducible exact c8 _ _) | (go_at_call 14; with_reducible exact c9 _ _)))
  refine wpQuiet_nil ?_
  intro _ hw'
  obtain ⟨⟨dq, osq⟩, hw''⟩ := hw'
  subst hw''
  have HF := hid (HB.out.trans ((below_regrown w0 dq osq).mono HB.out.size))
  clear p0 p1 p2 p3 c1 c2 c3 c4 c5 c6 c7 c8 c9
  go_wp2
  go_ret
  exact ⟨rfl, HF.out⟩
end Go.Proofs.YtjkaenjegcojhaaDoor
