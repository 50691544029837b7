/- What Take of the reference does, case by case. -/
import Derived.Test.YtdekemlckpbbcaaSeenC
namespace Go.Proofs.Ytdekemlckpbbcaa
open Go.RowKit Go.Sort
set_option linter.unusedVariables false

theorem rtake_a (m p l inc me seq : Int) (W : World) (hl : 0 ≤ l) (hs : seq ≤ 9223372036854775807) (hs2 : -9223372036854775808 ≤ seq) (hl2 : l ≤ 9223372036854775807) (h : inc < p) : Calls Try.prog 59 #[.agg #[.int .i64 m, .int .i64 p, .int .i64 l], .int .i64 inc, .int .i64 me, .int .i64 seq] W fun e w' => e = .returned (.tuple #[.agg #[.int .i64 m, .int .i64 p, .int .i64 l], .int .i64 0]) ∧ Below W.heap.size W w' := by
  go_enter Try.func59, Try.ntmps59
  go_wp2
  exact bodyPost_ret (v := .tuple #[.agg #[.int .i64 m, .int .i64 p, .int .i64 l], .int .i64 0]) (by simp [results, Try.results59, go_sem]) rfl ⟨rfl, (by repeat' (first | with_reducible exact Below.refl _ _ | with_reducible refine Below.setCell ?_ (by simp) _ | with_reducible refine Below.alloc ?_ (by simp) _))⟩

theorem rtake_b1 (m p l inc me seq : Int) (W : World) (hl : 0 ≤ l) (hs : seq ≤ 9223372036854775807) (hs2 : -9223372036854775808 ≤ seq) (hl2 : l ≤ 9223372036854775807) (h : ¬ inc < p) (h1 : p < inc) (h2 : me < m) : Calls Try.prog 59 #[.agg #[.int .i64 m, .int .i64 p, .int .i64 l], .int .i64 inc, .int .i64 me, .int .i64 seq] W fun e w' => e = .returned (.tuple #[.agg #[.int .i64 m, .int .i64 inc, .int .i64 0], .int .i64 3]) ∧ Below W.heap.size W w' := by
  have HL := hid (rlearn_any m p l inc)
  rw [show gP p inc = inc by simp [gP, h1], show gL p l inc = 0 by simp [gL, h1]] at HL
  go_enter Try.func59, Try.ntmps59
  go_wp2_with fail
  refine (HL.out _).mono ?_
  rintro e w1 ⟨rfl, hb⟩
  obtain ⟨k0, k1⟩ := blk_after hb
  have hb1 := (below2 W _ _).trans (hb.mono (by simp; omega))
  obtain ⟨⟨p0, p1, p2⟩, f0, f1, f2⟩ := three_cells k0
  have K := hid (And.intro k0 k1)
  clear hb k0 k1
  go_upto_region 4 with (fail)
  refine at_world (fun w => w.heap[W.heap.size]? = some (.cells #[.int .i64 m, .int .i64 inc, .int .i64 0] 46 (0, 0)) ∧ w.heap[W.heap.size + 1]? = some (.cells #[.int .i64 0, .int .i64 0, .int .i64 0] 46 (0, 0)) ∧ Below W.heap.size W w) ?_ ?_
  · exact ⟨set_three K.out.1 _ _ _, (Below.heap_setCell _ _ _ _ (by simp)).trans ((Below.heap_setCell _ _ _ _ (by simp)).trans ((Below.heap_setCell _ _ _ _ (by simp)).trans K.out.2)), ((hb1.setCell (by simp) _).setCell (by simp) _).setCell (by simp) _⟩
  clear K hb1 p0 p1 p2 f0 f1 f2
  rintro w2 ⟨k0, k1, hb1⟩
  obtain ⟨⟨p0, p1, p2⟩, f0, f1, f2⟩ := three_cells k0
  obtain ⟨⟨q0, q1, q2⟩, g0, g1, g2⟩ := three_cells k1
  clear k0 k1
  go_wp2
  exact bodyPost_ret (v := .tuple #[.agg #[.int .i64 m, .int .i64 inc, .int .i64 0], .int .i64 3]) (by simp [results, Try.results59, go_sem, q0, q1, q2]) rfl ⟨rfl, (by repeat' (first | with_reducible exact hb1 | with_reducible refine Below.setCell ?_ (by simp) _))⟩

theorem rtake_b2 (m p l inc me seq : Int) (W : World) (hl : 0 ≤ l) (hs : seq ≤ 9223372036854775807) (hs2 : -9223372036854775808 ≤ seq) (hl2 : l ≤ 9223372036854775807) (h : ¬ inc < p) (h1 : ¬ p < inc) (h2 : me < m) : Calls Try.prog 59 #[.agg #[.int .i64 m, .int .i64 p, .int .i64 l], .int .i64 inc, .int .i64 me, .int .i64 seq] W fun e w' => e = .returned (.tuple #[.agg #[.int .i64 m, .int .i64 p, .int .i64 l], .int .i64 3]) ∧ Below W.heap.size W w' := by
  have HL := hid (rlearn_any m p l inc)
  rw [show gP p inc = p by simp [gP, h1], show gL p l inc = l by simp [gL, h1]] at HL
  go_enter Try.func59, Try.ntmps59
  go_wp2_with fail
  refine (HL.out _).mono ?_
  rintro e w1 ⟨rfl, hb⟩
  obtain ⟨k0, k1⟩ := blk_after hb
  have hb1 := (below2 W _ _).trans (hb.mono (by simp; omega))
  obtain ⟨⟨p0, p1, p2⟩, f0, f1, f2⟩ := three_cells k0
  have K := hid (And.intro k0 k1)
  clear hb k0 k1
  go_upto_region 4 with (fail)
  refine at_world (fun w => w.heap[W.heap.size]? = some (.cells #[.int .i64 m, .int .i64 p, .int .i64 l] 46 (0, 0)) ∧ w.heap[W.heap.size + 1]? = some (.cells #[.int .i64 0, .int .i64 0, .int .i64 0] 46 (0, 0)) ∧ Below W.heap.size W w) ?_ ?_
  · exact ⟨set_three K.out.1 _ _ _, (Below.heap_setCell _ _ _ _ (by simp)).trans ((Below.heap_setCell _ _ _ _ (by simp)).trans ((Below.heap_setCell _ _ _ _ (by simp)).trans K.out.2)), ((hb1.setCell (by simp) _).setCell (by simp) _).setCell (by simp) _⟩
  clear K hb1 p0 p1 p2 f0 f1 f2
  rintro w2 ⟨k0, k1, hb1⟩
  obtain ⟨⟨p0, p1, p2⟩, f0, f1, f2⟩ := three_cells k0
  obtain ⟨⟨q0, q1, q2⟩, g0, g1, g2⟩ := three_cells k1
  clear k0 k1
  go_wp2
  exact bodyPost_ret (v := .tuple #[.agg #[.int .i64 m, .int .i64 p, .int .i64 l], .int .i64 3]) (by simp [results, Try.results59, go_sem, q0, q1, q2]) rfl ⟨rfl, (by repeat' (first | with_reducible exact hb1 | with_reducible refine Below.setCell ?_ (by simp) _))⟩

theorem rtake_c1 (m p l inc me seq : Int) (W : World) (hl : 0 ≤ l) (hs : seq ≤ 9223372036854775807) (hs2 : -9223372036854775808 ≤ seq) (hl2 : l ≤ 9223372036854775807) (h : ¬ inc < p) (h1 : p < inc) (h2 : m < me) : Calls Try.prog 59 #[.agg #[.int .i64 m, .int .i64 p, .int .i64 l], .int .i64 inc, .int .i64 me, .int .i64 seq] W fun e w' => e = .returned (.tuple #[.agg #[.int .i64 m, .int .i64 inc, .int .i64 0], .int .i64 0]) ∧ Below W.heap.size W w' := by
  have h3 : ¬ me < m := by omega
  have HL := hid (rlearn_any m p l inc)
  rw [show gP p inc = inc by simp [gP, h1], show gL p l inc = 0 by simp [gL, h1]] at HL
  go_enter Try.func59, Try.ntmps59
  go_wp2_with fail
  refine (HL.out _).mono ?_
  rintro e w1 ⟨rfl, hb⟩
  obtain ⟨k0, k1⟩ := blk_after hb
  have hb1 := (below2 W _ _).trans (hb.mono (by simp; omega))
  obtain ⟨⟨p0, p1, p2⟩, f0, f1, f2⟩ := three_cells k0
  have K := hid (And.intro k0 k1)
  clear hb k0 k1
  go_upto_region 4 with (fail)
  refine at_world (fun w => w.heap[W.heap.size]? = some (.cells #[.int .i64 m, .int .i64 inc, .int .i64 0] 46 (0, 0)) ∧ w.heap[W.heap.size + 1]? = some (.cells #[.int .i64 0, .int .i64 0, .int .i64 0] 46 (0, 0)) ∧ Below W.heap.size W w) ?_ ?_
  · exact ⟨set_three K.out.1 _ _ _, (Below.heap_setCell _ _ _ _ (by simp)).trans ((Below.heap_setCell _ _ _ _ (by simp)).trans ((Below.heap_setCell _ _ _ _ (by simp)).trans K.out.2)), ((hb1.setCell (by simp) _).setCell (by simp) _).setCell (by simp) _⟩
  clear K hb1 p0 p1 p2 f0 f1 f2
  rintro w2 ⟨k0, k1, hb1⟩
  obtain ⟨⟨p0, p1, p2⟩, f0, f1, f2⟩ := three_cells k0
  obtain ⟨⟨q0, q1, q2⟩, g0, g1, g2⟩ := three_cells k1
  clear k0 k1
  go_wp2
  exact bodyPost_ret (v := .tuple #[.agg #[.int .i64 m, .int .i64 inc, .int .i64 0], .int .i64 0]) (by simp [results, Try.results59, go_sem, q0, q1, q2]) rfl ⟨rfl, (by repeat' (first | with_reducible exact hb1 | with_reducible refine Below.setCell ?_ (by simp) _))⟩

theorem rtake_c2 (m p l inc me seq : Int) (W : World) (hl : 0 ≤ l) (hs : seq ≤ 9223372036854775807) (hs2 : -9223372036854775808 ≤ seq) (hl2 : l ≤ 9223372036854775807) (h : ¬ inc < p) (h1 : ¬ p < inc) (h2 : m < me) : Calls Try.prog 59 #[.agg #[.int .i64 m, .int .i64 p, .int .i64 l], .int .i64 inc, .int .i64 me, .int .i64 seq] W fun e w' => e = .returned (.tuple #[.agg #[.int .i64 m, .int .i64 p, .int .i64 l], .int .i64 0]) ∧ Below W.heap.size W w' := by
  have h3 : ¬ me < m := by omega
  have HL := hid (rlearn_any m p l inc)
  rw [show gP p inc = p by simp [gP, h1], show gL p l inc = l by simp [gL, h1]] at HL
  go_enter Try.func59, Try.ntmps59
  go_wp2_with fail
  refine (HL.out _).mono ?_
  rintro e w1 ⟨rfl, hb⟩
  obtain ⟨k0, k1⟩ := blk_after hb
  have hb1 := (below2 W _ _).trans (hb.mono (by simp; omega))
  obtain ⟨⟨p0, p1, p2⟩, f0, f1, f2⟩ := three_cells k0
  have K := hid (And.intro k0 k1)
  clear hb k0 k1
  go_upto_region 4 with (fail)
  refine at_world (fun w => w.heap[W.heap.size]? = some (.cells #[.int .i64 m, .int .i64 p, .int .i64 l] 46 (0, 0)) ∧ w.heap[W.heap.size + 1]? = some (.cells #[.int .i64 0, .int .i64 0, .int .i64 0] 46 (0, 0)) ∧ Below W.heap.size W w) ?_ ?_
  · exact ⟨set_three K.out.1 _ _ _, (Below.heap_setCell _ _ _ _ (by simp)).trans ((Below.heap_setCell _ _ _ _ (by simp)).trans ((Below.heap_setCell _ _ _ _ (by simp)).trans K.out.2)), ((hb1.setCell (by simp) _).setCell (by simp) _).setCell (by simp) _⟩
  clear K hb1 p0 p1 p2 f0 f1 f2
  rintro w2 ⟨k0, k1, hb1⟩
  obtain ⟨⟨p0, p1, p2⟩, f0, f1, f2⟩ := three_cells k0
  obtain ⟨⟨q0, q1, q2⟩, g0, g1, g2⟩ := three_cells k1
  clear k0 k1
  go_wp2
  exact bodyPost_ret (v := .tuple #[.agg #[.int .i64 m, .int .i64 p, .int .i64 l], .int .i64 0]) (by simp [results, Try.results59, go_sem, q0, q1, q2]) rfl ⟨rfl, (by repeat' (first | with_reducible exact hb1 | with_reducible refine Below.setCell ?_ (by simp) _))⟩

set_option maxHeartbeats 1000000 in
theorem rtake_d1 (m p l inc me seq : Int) (W : World) (hl : 0 ≤ l) (hs : seq ≤ 9223372036854775807) (hs2 : -9223372036854775808 ≤ seq) (hl2 : l ≤ 9223372036854775807) (h : ¬ inc < p) (h1 : p < inc) (h2 : m = me) (h4 : seq = 1) : Calls Try.prog 59 #[.agg #[.int .i64 m, .int .i64 p, .int .i64 l], .int .i64 inc, .int .i64 me, .int .i64 seq] W fun e w' => e = .returned (.tuple #[.agg #[.int .i64 m, .int .i64 inc, .int .i64 1], .int .i64 1]) ∧ Below W.heap.size W w' := by
  subst h2; subst h4
  have HL := hid (rlearn_any m p l inc)
  rw [show gP p inc = inc by simp [gP, h1], show gL p l inc = 0 by simp [gL, h1]] at HL
  go_enter Try.func59, Try.ntmps59
  go_wp2_with fail
  refine (HL.out _).mono ?_
  rintro e w1 ⟨rfl, hb⟩
  obtain ⟨k0, k1⟩ := blk_after hb
  have hb1 := (below2 W _ _).trans (hb.mono (by simp; omega))
  obtain ⟨⟨p0, p1, p2⟩, f0, f1, f2⟩ := three_cells k0
  have K := hid (And.intro k0 k1)
  clear hb k0 k1
  go_upto_region 4 with (fail)
  refine at_world (fun w => w.heap[W.heap.size]? = some (.cells #[.int .i64 m, .int .i64 inc, .int .i64 0] 46 (0, 0)) ∧ w.heap[W.heap.size + 1]? = some (.cells #[.int .i64 0, .int .i64 0, .int .i64 0] 46 (0, 0)) ∧ Below W.heap.size W w) ?_ ?_
  · exact ⟨set_three K.out.1 _ _ _, (Below.heap_setCell _ _ _ _ (by simp)).trans ((Below.heap_setCell _ _ _ _ (by simp)).trans ((Below.heap_setCell _ _ _ _ (by simp)).trans K.out.2)), ((hb1.setCell (by simp) _).setCell (by simp) _).setCell (by simp) _⟩
  clear K hb1 p0 p1 p2 f0 f1 f2
  rintro w2 ⟨k0, k1, hb1⟩
  obtain ⟨⟨p0, p1, p2⟩, f0, f1, f2⟩ := three_cells k0
  obtain ⟨⟨q0, q1, q2⟩, g0, g1, g2⟩ := three_cells k1
  clear k0 k1
  go_wp2
  exact bodyPost_ret (v := .tuple #[.agg #[.int .i64 m, .int .i64 inc, .int .i64 1], .int .i64 1]) (by simp [results, Try.results59, go_sem, q0, q1, q2]) rfl ⟨rfl, (by repeat' (first | with_reducible exact hb1 | with_reducible refine Below.setCell ?_ (by simp) _))⟩

set_option maxHeartbeats 1000000 in
theorem rtake_d2 (m p l inc me seq : Int) (W : World) (hl : 0 ≤ l) (hs : seq ≤ 9223372036854775807) (hs2 : -9223372036854775808 ≤ seq) (hl2 : l ≤ 9223372036854775807) (h : ¬ inc < p) (h1 : ¬ p < inc) (h2 : m = me) (h4 : seq = l + 1) : Calls Try.prog 59 #[.agg #[.int .i64 m, .int .i64 p, .int .i64 l], .int .i64 inc, .int .i64 me, .int .i64 seq] W fun e w' => e = .returned (.tuple #[.agg #[.int .i64 m, .int .i64 p, .int .i64 (l + 1)], .int .i64 1]) ∧ Below W.heap.size W w' := by
  subst h2; subst h4
  have n1 : l < 9223372036854775807 := by omega
  have n2 : ((l + 1 : Int) == l + 1) = true := by simp
  have HL := hid (rlearn_any m p l inc)
  rw [show gP p inc = p by simp [gP, h1], show gL p l inc = l by simp [gL, h1]] at HL
  go_enter Try.func59, Try.ntmps59
  go_wp2_with fail
  refine (HL.out _).mono ?_
  rintro e w1 ⟨rfl, hb⟩
  obtain ⟨k0, k1⟩ := blk_after hb
  have hb1 := (below2 W _ _).trans (hb.mono (by simp; omega))
  obtain ⟨⟨p0, p1, p2⟩, f0, f1, f2⟩ := three_cells k0
  have K := hid (And.intro k0 k1)
  clear hb k0 k1
  go_upto_region 4 with (fail)
  refine at_world (fun w => w.heap[W.heap.size]? = some (.cells #[.int .i64 m, .int .i64 p, .int .i64 l] 46 (0, 0)) ∧ w.heap[W.heap.size + 1]? = some (.cells #[.int .i64 0, .int .i64 0, .int .i64 0] 46 (0, 0)) ∧ Below W.heap.size W w) ?_ ?_
  · exact ⟨set_three K.out.1 _ _ _, (Below.heap_setCell _ _ _ _ (by simp)).trans ((Below.heap_setCell _ _ _ _ (by simp)).trans ((Below.heap_setCell _ _ _ _ (by simp)).trans K.out.2)), ((hb1.setCell (by simp) _).setCell (by simp) _).setCell (by simp) _⟩
  clear K hb1 p0 p1 p2 f0 f1 f2
  rintro w2 ⟨k0, k1, hb1⟩
  obtain ⟨⟨p0, p1, p2⟩, f0, f1, f2⟩ := three_cells k0
  obtain ⟨⟨q0, q1, q2⟩, g0, g1, g2⟩ := three_cells k1
  clear k0 k1
  go_wp2
  exact bodyPost_ret (v := .tuple #[.agg #[.int .i64 m, .int .i64 p, .int .i64 (l + 1)], .int .i64 1]) (by simp [results, Try.results59, go_sem, q0, q1, q2]) rfl ⟨rfl, (by repeat' (first | with_reducible exact hb1 | with_reducible refine Below.setCell ?_ (by simp) _))⟩

theorem rtake_e2 (m p l inc me seq : Int) (W : World) (hl : 0 ≤ l) (hs : seq ≤ 9223372036854775807) (hs2 : -9223372036854775808 ≤ seq) (hl2 : l ≤ 9223372036854775807) (h : ¬ inc < p) (h1 : ¬ p < inc) (h2 : m = me) (h4 : 1 ≤ seq) (h5 : seq ≤ l) (h6 : l < 9223372036854775807) : Calls Try.prog 59 #[.agg #[.int .i64 m, .int .i64 p, .int .i64 l], .int .i64 inc, .int .i64 me, .int .i64 seq] W fun e w' => e = .returned (.tuple #[.agg #[.int .i64 m, .int .i64 p, .int .i64 l], .int .i64 2]) ∧ Below W.heap.size W w' := by
  subst h2
  have n2 : (seq == l + 1) = false := by simp; omega
  have HL := hid (rlearn_any m p l inc)
  rw [show gP p inc = p by simp [gP, h1], show gL p l inc = l by simp [gL, h1]] at HL
  go_enter Try.func59, Try.ntmps59
  go_wp2_with fail
  refine (HL.out _).mono ?_
  rintro e w1 ⟨rfl, hb⟩
  obtain ⟨k0, k1⟩ := blk_after hb
  have hb1 := (below2 W _ _).trans (hb.mono (by simp; omega))
  obtain ⟨⟨p0, p1, p2⟩, f0, f1, f2⟩ := three_cells k0
  have K := hid (And.intro k0 k1)
  clear hb k0 k1
  go_upto_region 4 with (fail)
  refine at_world (fun w => w.heap[W.heap.size]? = some (.cells #[.int .i64 m, .int .i64 p, .int .i64 l] 46 (0, 0)) ∧ w.heap[W.heap.size + 1]? = some (.cells #[.int .i64 0, .int .i64 0, .int .i64 0] 46 (0, 0)) ∧ Below W.heap.size W w) ?_ ?_
  · exact ⟨set_three K.out.1 _ _ _, (Below.heap_setCell _ _ _ _ (by simp)).trans ((Below.heap_setCell _ _ _ _ (by simp)).trans ((Below.heap_setCell _ _ _ _ (by simp)).trans K.out.2)), ((hb1.setCell (by simp) _).setCell (by simp) _).setCell (by simp) _⟩
  clear K hb1 p0 p1 p2 f0 f1 f2
  rintro w2 ⟨k0, k1, hb1⟩
  obtain ⟨⟨p0, p1, p2⟩, f0, f1, f2⟩ := three_cells k0
  obtain ⟨⟨q0, q1, q2⟩, g0, g1, g2⟩ := three_cells k1
  clear k0 k1
  go_wp2
  exact bodyPost_ret (v := .tuple #[.agg #[.int .i64 m, .int .i64 p, .int .i64 l], .int .i64 2]) (by simp [results, Try.results59, go_sem, q0, q1, q2]) rfl ⟨rfl, (by repeat' (first | with_reducible exact hb1 | with_reducible refine Below.setCell ?_ (by simp) _))⟩

theorem rtake_f1 (m p l inc me seq : Int) (W : World) (hl : 0 ≤ l) (hs : seq ≤ 9223372036854775807) (hs2 : -9223372036854775808 ≤ seq) (hl2 : l ≤ 9223372036854775807) (h : ¬ inc < p) (h1 : p < inc) (h2 : m = me) (h4 : seq < 1) : Calls Try.prog 59 #[.agg #[.int .i64 m, .int .i64 p, .int .i64 l], .int .i64 inc, .int .i64 me, .int .i64 seq] W fun e w' => e = .returned (.tuple #[.agg #[.int .i64 m, .int .i64 inc, .int .i64 0], .int .i64 0]) ∧ Below W.heap.size W w' := by
  subst h2
  have n2 : (seq == 1) = false := by simp; omega
  have HL := hid (rlearn_any m p l inc)
  rw [show gP p inc = inc by simp [gP, h1], show gL p l inc = 0 by simp [gL, h1]] at HL
  go_enter Try.func59, Try.ntmps59
  go_wp2_with fail
  refine (HL.out _).mono ?_
  rintro e w1 ⟨rfl, hb⟩
  obtain ⟨k0, k1⟩ := blk_after hb
  have hb1 := (below2 W _ _).trans (hb.mono (by simp; omega))
  obtain ⟨⟨p0, p1, p2⟩, f0, f1, f2⟩ := three_cells k0
  have K := hid (And.intro k0 k1)
  clear hb k0 k1
  go_upto_region 4 with (fail)
  refine at_world (fun w => w.heap[W.heap.size]? = some (.cells #[.int .i64 m, .int .i64 inc, .int .i64 0] 46 (0, 0)) ∧ w.heap[W.heap.size + 1]? = some (.cells #[.int .i64 0, .int .i64 0, .int .i64 0] 46 (0, 0)) ∧ Below W.heap.size W w) ?_ ?_
  · exact ⟨set_three K.out.1 _ _ _, (Below.heap_setCell _ _ _ _ (by simp)).trans ((Below.heap_setCell _ _ _ _ (by simp)).trans ((Below.heap_setCell _ _ _ _ (by simp)).trans K.out.2)), ((hb1.setCell (by simp) _).setCell (by simp) _).setCell (by simp) _⟩
  clear K hb1 p0 p1 p2 f0 f1 f2
  rintro w2 ⟨k0, k1, hb1⟩
  obtain ⟨⟨p0, p1, p2⟩, f0, f1, f2⟩ := three_cells k0
  obtain ⟨⟨q0, q1, q2⟩, g0, g1, g2⟩ := three_cells k1
  clear k0 k1
  go_wp2
  exact bodyPost_ret (v := .tuple #[.agg #[.int .i64 m, .int .i64 inc, .int .i64 0], .int .i64 0]) (by simp [results, Try.results59, go_sem, q0, q1, q2]) rfl ⟨rfl, (by repeat' (first | with_reducible exact hb1 | with_reducible refine Below.setCell ?_ (by simp) _))⟩

theorem rtake_g1 (m p l inc me seq : Int) (W : World) (hl : 0 ≤ l) (hs : seq ≤ 9223372036854775807) (hs2 : -9223372036854775808 ≤ seq) (hl2 : l ≤ 9223372036854775807) (h : ¬ inc < p) (h1 : p < inc) (h2 : m = me) (h4 : 1 < seq) : Calls Try.prog 59 #[.agg #[.int .i64 m, .int .i64 p, .int .i64 l], .int .i64 inc, .int .i64 me, .int .i64 seq] W fun e w' => e = .returned (.tuple #[.agg #[.int .i64 m, .int .i64 inc, .int .i64 0], .int .i64 0]) ∧ Below W.heap.size W w' := by
  subst h2
  have n2 : (seq == 1) = false := by simp; omega
  have HL := hid (rlearn_any m p l inc)
  rw [show gP p inc = inc by simp [gP, h1], show gL p l inc = 0 by simp [gL, h1]] at HL
  go_enter Try.func59, Try.ntmps59
  go_wp2_with fail
  refine (HL.out _).mono ?_
  rintro e w1 ⟨rfl, hb⟩
  obtain ⟨k0, k1⟩ := blk_after hb
  have hb1 := (below2 W _ _).trans (hb.mono (by simp; omega))
  obtain ⟨⟨p0, p1, p2⟩, f0, f1, f2⟩ := three_cells k0
  have K := hid (And.intro k0 k1)
  clear hb k0 k1
  go_upto_region 4 with (fail)
  refine at_world (fun w => w.heap[W.heap.size]? = some (.cells #[.int .i64 m, .int .i64 inc, .int .i64 0] 46 (0, 0)) ∧ w.heap[W.heap.size + 1]? = some (.cells #[.int .i64 0, .int .i64 0, .int .i64 0] 46 (0, 0)) ∧ Below W.heap.size W w) ?_ ?_
  · exact ⟨set_three K.out.1 _ _ _, (Below.heap_setCell _ _ _ _ (by simp)).trans ((Below.heap_setCell _ _ _ _ (by simp)).trans ((Below.heap_setCell _ _ _ _ (by simp)).trans K.out.2)), ((hb1.setCell (by simp) _).setCell (by simp) _).setCell (by simp) _⟩
  clear K hb1 p0 p1 p2 f0 f1 f2
  rintro w2 ⟨k0, k1, hb1⟩
  obtain ⟨⟨p0, p1, p2⟩, f0, f1, f2⟩ := three_cells k0
  obtain ⟨⟨q0, q1, q2⟩, g0, g1, g2⟩ := three_cells k1
  clear k0 k1
  go_wp2
  exact bodyPost_ret (v := .tuple #[.agg #[.int .i64 m, .int .i64 inc, .int .i64 0], .int .i64 0]) (by simp [results, Try.results59, go_sem, q0, q1, q2]) rfl ⟨rfl, (by repeat' (first | with_reducible exact hb1 | with_reducible refine Below.setCell ?_ (by simp) _))⟩

theorem rtake_f2 (m p l inc me seq : Int) (W : World) (hl : 0 ≤ l) (hs : seq ≤ 9223372036854775807) (hs2 : -9223372036854775808 ≤ seq) (hl2 : l ≤ 9223372036854775807) (h : ¬ inc < p) (h1 : ¬ p < inc) (h2 : m = me) (h4 : seq < 1) (h6 : l < 9223372036854775807) : Calls Try.prog 59 #[.agg #[.int .i64 m, .int .i64 p, .int .i64 l], .int .i64 inc, .int .i64 me, .int .i64 seq] W fun e w' => e = .returned (.tuple #[.agg #[.int .i64 m, .int .i64 p, .int .i64 l], .int .i64 0]) ∧ Below W.heap.size W w' := by
  subst h2
  have n2 : (seq == l + 1) = false := by simp; omega
  have HL := hid (rlearn_any m p l inc)
  rw [show gP p inc = p by simp [gP, h1], show gL p l inc = l by simp [gL, h1]] at HL
  go_enter Try.func59, Try.ntmps59
  go_wp2_with fail
  refine (HL.out _).mono ?_
  rintro e w1 ⟨rfl, hb⟩
  obtain ⟨k0, k1⟩ := blk_after hb
  have hb1 := (below2 W _ _).trans (hb.mono (by simp; omega))
  obtain ⟨⟨p0, p1, p2⟩, f0, f1, f2⟩ := three_cells k0
  have K := hid (And.intro k0 k1)
  clear hb k0 k1
  go_upto_region 4 with (fail)
  refine at_world (fun w => w.heap[W.heap.size]? = some (.cells #[.int .i64 m, .int .i64 p, .int .i64 l] 46 (0, 0)) ∧ w.heap[W.heap.size + 1]? = some (.cells #[.int .i64 0, .int .i64 0, .int .i64 0] 46 (0, 0)) ∧ Below W.heap.size W w) ?_ ?_
  · exact ⟨set_three K.out.1 _ _ _, (Below.heap_setCell _ _ _ _ (by simp)).trans ((Below.heap_setCell _ _ _ _ (by simp)).trans ((Below.heap_setCell _ _ _ _ (by simp)).trans K.out.2)), ((hb1.setCell (by simp) _).setCell (by simp) _).setCell (by simp) _⟩
  clear K hb1 p0 p1 p2 f0 f1 f2
  rintro w2 ⟨k0, k1, hb1⟩
  obtain ⟨⟨p0, p1, p2⟩, f0, f1, f2⟩ := three_cells k0
  obtain ⟨⟨q0, q1, q2⟩, g0, g1, g2⟩ := three_cells k1
  clear k0 k1
  go_wp2
  exact bodyPost_ret (v := .tuple #[.agg #[.int .i64 m, .int .i64 p, .int .i64 l], .int .i64 0]) (by simp [results, Try.results59, go_sem, q0, q1, q2]) rfl ⟨rfl, (by repeat' (first | with_reducible exact hb1 | with_reducible refine Below.setCell ?_ (by simp) _))⟩

theorem rtake_e3 (m p l inc me seq : Int) (W : World) (hl : 0 ≤ l) (hs : seq ≤ 9223372036854775807) (hs2 : -9223372036854775808 ≤ seq) (hl2 : l ≤ 9223372036854775807) (h : ¬ inc < p) (h1 : ¬ p < inc) (h2 : m = me) (h4 : 1 ≤ seq) (h5 : seq ≤ l) (h6 : ¬ l < 9223372036854775807) : Calls Try.prog 59 #[.agg #[.int .i64 m, .int .i64 p, .int .i64 l], .int .i64 inc, .int .i64 me, .int .i64 seq] W fun e w' => e = .returned (.tuple #[.agg #[.int .i64 m, .int .i64 p, .int .i64 l], .int .i64 2]) ∧ Below W.heap.size W w' := by
  subst h2
  have HL := hid (rlearn_any m p l inc)
  rw [show gP p inc = p by simp [gP, h1], show gL p l inc = l by simp [gL, h1]] at HL
  go_enter Try.func59, Try.ntmps59
  go_wp2_with fail
  refine (HL.out _).mono ?_
  rintro e w1 ⟨rfl, hb⟩
  obtain ⟨k0, k1⟩ := blk_after hb
  have hb1 := (below2 W _ _).trans (hb.mono (by simp; omega))
  obtain ⟨⟨p0, p1, p2⟩, f0, f1, f2⟩ := three_cells k0
  have K := hid (And.intro k0 k1)
  clear hb k0 k1
  go_upto_region 4 with (fail)
  refine at_world (fun w => w.heap[W.heap.size]? = some (.cells #[.int .i64 m, .int .i64 p, .int .i64 l] 46 (0, 0)) ∧ w.heap[W.heap.size + 1]? = some (.cells #[.int .i64 0, .int .i64 0, .int .i64 0] 46 (0, 0)) ∧ Below W.heap.size W w) ?_ ?_
  · exact ⟨set_three K.out.1 _ _ _, (Below.heap_setCell _ _ _ _ (by simp)).trans ((Below.heap_setCell _ _ _ _ (by simp)).trans ((Below.heap_setCell _ _ _ _ (by simp)).trans K.out.2)), ((hb1.setCell (by simp) _).setCell (by simp) _).setCell (by simp) _⟩
  clear K hb1 p0 p1 p2 f0 f1 f2
  rintro w2 ⟨k0, k1, hb1⟩
  obtain ⟨⟨p0, p1, p2⟩, f0, f1, f2⟩ := three_cells k0
  obtain ⟨⟨q0, q1, q2⟩, g0, g1, g2⟩ := three_cells k1
  clear k0 k1
  go_wp2
  exact bodyPost_ret (v := .tuple #[.agg #[.int .i64 m, .int .i64 p, .int .i64 l], .int .i64 2]) (by simp [results, Try.results59, go_sem, q0, q1, q2]) rfl ⟨rfl, (by repeat' (first | with_reducible exact hb1 | with_reducible refine Below.setCell ?_ (by simp) _))⟩

theorem rtake_f3 (m p l inc me seq : Int) (W : World) (hl : 0 ≤ l) (hs : seq ≤ 9223372036854775807) (hs2 : -9223372036854775808 ≤ seq) (hl2 : l ≤ 9223372036854775807) (h : ¬ inc < p) (h1 : ¬ p < inc) (h2 : m = me) (h4 : seq < 1) (h6 : ¬ l < 9223372036854775807) : Calls Try.prog 59 #[.agg #[.int .i64 m, .int .i64 p, .int .i64 l], .int .i64 inc, .int .i64 me, .int .i64 seq] W fun e w' => e = .returned (.tuple #[.agg #[.int .i64 m, .int .i64 p, .int .i64 l], .int .i64 0]) ∧ Below W.heap.size W w' := by
  subst h2
  have HL := hid (rlearn_any m p l inc)
  rw [show gP p inc = p by simp [gP, h1], show gL p l inc = l by simp [gL, h1]] at HL
  go_enter Try.func59, Try.ntmps59
  go_wp2_with fail
  refine (HL.out _).mono ?_
  rintro e w1 ⟨rfl, hb⟩
  obtain ⟨k0, k1⟩ := blk_after hb
  have hb1 := (below2 W _ _).trans (hb.mono (by simp; omega))
  obtain ⟨⟨p0, p1, p2⟩, f0, f1, f2⟩ := three_cells k0
  have K := hid (And.intro k0 k1)
  clear hb k0 k1
  go_upto_region 4 with (fail)
  refine at_world (fun w => w.heap[W.heap.size]? = some (.cells #[.int .i64 m, .int .i64 p, .int .i64 l] 46 (0, 0)) ∧ w.heap[W.heap.size + 1]? = some (.cells #[.int .i64 0, .int .i64 0, .int .i64 0] 46 (0, 0)) ∧ Below W.heap.size W w) ?_ ?_
  · exact ⟨set_three K.out.1 _ _ _, (Below.heap_setCell _ _ _ _ (by simp)).trans ((Below.heap_setCell _ _ _ _ (by simp)).trans ((Below.heap_setCell _ _ _ _ (by simp)).trans K.out.2)), ((hb1.setCell (by simp) _).setCell (by simp) _).setCell (by simp) _⟩
  clear K hb1 p0 p1 p2 f0 f1 f2
  rintro w2 ⟨k0, k1, hb1⟩
  obtain ⟨⟨p0, p1, p2⟩, f0, f1, f2⟩ := three_cells k0
  obtain ⟨⟨q0, q1, q2⟩, g0, g1, g2⟩ := three_cells k1
  clear k0 k1
  go_wp2
  exact bodyPost_ret (v := .tuple #[.agg #[.int .i64 m, .int .i64 p, .int .i64 l], .int .i64 0]) (by simp [results, Try.results59, go_sem, q0, q1, q2]) rfl ⟨rfl, (by repeat' (first | with_reducible exact hb1 | with_reducible refine Below.setCell ?_ (by simp) _))⟩

theorem rtake_g2 (m p l inc me seq : Int) (W : World) (hl : 0 ≤ l) (hs : seq ≤ 9223372036854775807) (hs2 : -9223372036854775808 ≤ seq) (hl2 : l ≤ 9223372036854775807) (h : ¬ inc < p) (h1 : ¬ p < inc) (h2 : m = me) (h4 : l + 1 < seq) : Calls Try.prog 59 #[.agg #[.int .i64 m, .int .i64 p, .int .i64 l], .int .i64 inc, .int .i64 me, .int .i64 seq] W fun e w' => e = .returned (.tuple #[.agg #[.int .i64 m, .int .i64 p, .int .i64 l], .int .i64 0]) ∧ Below W.heap.size W w' := by
  subst h2
  have n2 : (seq == l + 1) = false := by simp; omega
  have HL := hid (rlearn_any m p l inc)
  rw [show gP p inc = p by simp [gP, h1], show gL p l inc = l by simp [gL, h1]] at HL
  go_enter Try.func59, Try.ntmps59
  go_wp2_with fail
  refine (HL.out _).mono ?_
  rintro e w1 ⟨rfl, hb⟩
  obtain ⟨k0, k1⟩ := blk_after hb
  have hb1 := (below2 W _ _).trans (hb.mono (by simp; omega))
  obtain ⟨⟨p0, p1, p2⟩, f0, f1, f2⟩ := three_cells k0
  have K := hid (And.intro k0 k1)
  clear hb k0 k1
  go_upto_region 4 with (fail)
  refine at_world (fun w => w.heap[W.heap.size]? = some (.cells #[.int .i64 m, .int .i64 p, .int .i64 l] 46 (0, 0)) ∧ w.heap[W.heap.size + 1]? = some (.cells #[.int .i64 0, .int .i64 0, .int .i64 0] 46 (0, 0)) ∧ Below W.heap.size W w) ?_ ?_
  · exact ⟨set_three K.out.1 _ _ _, (Below.heap_setCell _ _ _ _ (by simp)).trans ((Below.heap_setCell _ _ _ _ (by simp)).trans ((Below.heap_setCell _ _ _ _ (by simp)).trans K.out.2)), ((hb1.setCell (by simp) _).setCell (by simp) _).setCell (by simp) _⟩
  clear K hb1 p0 p1 p2 f0 f1 f2
  rintro w2 ⟨k0, k1, hb1⟩
  obtain ⟨⟨p0, p1, p2⟩, f0, f1, f2⟩ := three_cells k0
  obtain ⟨⟨q0, q1, q2⟩, g0, g1, g2⟩ := three_cells k1
  clear k0 k1
  go_wp2
  exact bodyPost_ret (v := .tuple #[.agg #[.int .i64 m, .int .i64 p, .int .i64 l], .int .i64 0]) (by simp [results, Try.results59, go_sem, q0, q1, q2]) rfl ⟨rfl, (by repeat' (first | with_reducible exact hb1 | with_reducible refine Below.setCell ?_ (by simp) _))⟩

end Go.Proofs.Ytdekemlckpbbcaa
