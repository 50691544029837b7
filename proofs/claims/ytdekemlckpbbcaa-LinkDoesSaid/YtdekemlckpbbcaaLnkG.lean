/- link.New; works26: contracts. -/
import Derived.Test.YtdekemlckpbbcaaLnkF
namespace Go.Proofs.Ytdekemlckpbbcaa
open Go.RowKit Go.Sort
set_option linter.unusedVariables false
set_option linter.unusedSimpArgs false

def newE (f t i : Int) : Ev := ⟨f, t, i, ⟨1, 1, [], 1, 0⟩, i, 1, 0⟩

set_option maxRecDepth 20000 in
set_option maxHeartbeats 4000000 in
theorem lnew_any (f t i : Int) (W : World) : Calls Try.prog 29 #[.int .i64 f, .int .i64 t, .int .i64 i] W fun x w' => x = .returned (.agg (ec (newE f t i) none 0)) ∧ Below W.heap.size W w' := by
  go_enter Try.func29, Try.ntmps29
  go_upto_region 1 with (fail)
  refine at_world (fun u => u.heap[W.heap.size]? = some (.cells ez 54 (0, 0)) ∧ Below W.heap.size W u) ⟨heap_alloc_new _ _, (Below.refl _ _).alloc (Nat.le_refl _) _⟩ ?_
  rintro w1 ⟨hz1, hb1⟩
  have HZ1 := hid hz1
  have HB1 := hid hb1
  clear hz1 hb1
  go_wp2_with fail
  refine (onew_any _).mono ?_
  rintro e w2 ⟨rfl, hb2⟩
  simp only [oc, List.length_nil]
  have HZ2 := hid (keep0 HZ1.out hb2)
  have HB2 := hid (HB1.out.trans (hb2.mono HB1.out.size))
  clear HZ1 HB1 hb2
  go_wp2_with fail
  refine (snew_any _ _).mono ?_
  rintro e w3 ⟨rfl, hb3⟩
  have hz3 := keep0 HZ2.out hb3
  have HB3 := hid (put11_below (HB2.out.trans (hb3.mono HB2.out.size)) (Nat.le_refl _) (.int .i64 f) (.int .i64 t) (.int .i64 i) (.int .i64 1) (.int .i64 1) (.slice none 0 0) (.int .i64 1) (.int .i64 0) (.int .i64 i) (.int .i64 1) (.int .i64 0))
  have hz9 := put11_heap hz3 (.int .i64 f) (.int .i64 t) (.int .i64 i) (.int .i64 1) (.int .i64 1) (.slice none 0 0) (.int .i64 1) (.int .i64 0) (.int .i64 i) (.int .i64 1) (.int .i64 0)
  obtain ⟨_, ⟨cg0, cg1, cg2, cg3, cg4, cg5, cg6, cg7, cg8, cg9, cg10⟩⟩ := eleven_cells hz3
  simp only [put11] at hz9 HB3
  obtain ⟨⟨cr0, cr1, cr2, cr3, cr4, cr5, cr6, cr7, cr8, cr9, cr10⟩, _⟩ := eleven_cells hz9
  clear HZ2 HB2 hb3 hz3 hz9
  go_wp2
  exact bodyPost_ret (v := .agg #[.int .i64 f, .int .i64 t, .int .i64 i, .int .i64 1, .int .i64 1, .slice none 0 0, .int .i64 1, .int .i64 0, .int .i64 i, .int .i64 1, .int .i64 0]) (by simp [results, Try.results29, go_sem, cr0, cr1, cr2, cr3, cr4, cr5, cr6, cr7, cr8, cr9, cr10]) rfl ⟨rfl, HB3.out⟩

theorem ex1 : putE (newE 0 8 1) 4 [97] = ((⟨0, 8, 1, ⟨1, 1, [[97]], 1, 1⟩, 1, 1, 0⟩, [⟨1, 0, 8, 1, 1, 1, [97]⟩]), 0) := by kernel_rfl
theorem ex2 : takV (newE 8 0 1) ⟨1, 0, 8, 1, 1, 1, [97]⟩ = ((⟨8, 0, 1, ⟨1, 1, [], 1, 0⟩, 1, 1, 1⟩, [⟨2, 8, 0, 1, 1, 1, []⟩]), str [97], true) := by kernel_rfl
theorem ex3 : takV ⟨0, 8, 1, ⟨1, 1, [[97]], 1, 1⟩, 1, 1, 0⟩ ⟨2, 8, 0, 1, 1, 1, []⟩ = ((⟨0, 8, 1, ⟨1, 2, [], 1, 0⟩, 1, 1, 0⟩, []), ⟨#[]⟩, false) := by kernel_rfl
end Go.Proofs.Ytdekemlckpbbcaa
