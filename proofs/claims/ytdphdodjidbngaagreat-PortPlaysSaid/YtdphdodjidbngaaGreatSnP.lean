/- What each function of the seen package and of its reference does. -/
import Derived.Test.YtdphdodjidbngaaGreatChecked
import Derived.Test.YtdphdodjidbngaaGreatGaP
import Derived.Outline
import Derived.Deep.Cut
import Derived.WalkLawsBesides
import Derived.BigQuiet
import Derived.Deep.QuietTactic
import Derived.StillTailTactics
namespace Go.Proofs.YtdphdodjidbngaaGreat
open Go.RowKit Go.Sort
set_option linter.unusedVariables false

def gP (p inc : Int) : Int := if p < inc then inc else p
def gL (p l inc : Int) : Int := if p < inc then 0 else l
def gC (m p l inc me seq : Int) : Int := if inc < p then 0 else if me < m then 3 else if m < me then 0 else if seq = gL p l inc + 1 then 1 else if 1 ≤ seq ∧ seq ≤ gL p l inc then 2 else 0
def gN (m p l inc me seq : Int) : Int := if gC m p l inc me seq = 1 then seq else if inc < p then l else gL p l inc
theorem glearn_any (m p l inc : Int) (W : World) : Calls Tryz.prog 106 #[.agg #[.int .i64 m, .int .i64 p, .int .i64 l], .int .i64 inc] W fun e w' => e = .returned (.agg #[.int .i64 m, .int .i64 (gP p inc), .int .i64 (gL p l inc)]) ∧ Below W.heap.size W w' := by
  by_cases h : p < inc
  · rw [show gP p inc = inc by simp [gP, h], show gL p l inc = 0 by simp [gL, h]]
    go_enter Tryz.func106, Tryz.ntmps106
    go_wp2
    exact bodyPost_ret (v := .agg #[.int .i64 m, .int .i64 inc, .int .i64 0]) (by simp [results, Tryz.results106, go_sem]) rfl ⟨rfl, (by repeat' (first | with_reducible exact Below.refl _ _ | with_reducible refine Below.setCell ?_ (by simp) _ | with_reducible refine Below.alloc ?_ (by simp) _))⟩
  · rw [show gP p inc = p by simp [gP, h], show gL p l inc = l by simp [gL, h]]
    go_enter Tryz.func106, Tryz.ntmps106
    go_wp2
    exact bodyPost_ret (v := .agg #[.int .i64 m, .int .i64 p, .int .i64 l]) (by simp [results, Tryz.results106, go_sem]) rfl ⟨rfl, (by repeat' (first | with_reducible exact Below.refl _ _ | with_reducible refine Below.setCell ?_ (by simp) _ | with_reducible refine Below.alloc ?_ (by simp) _))⟩

theorem rlearn_any (m p l inc : Int) (W : World) : Calls Tryz.prog 109 #[.agg #[.int .i64 m, .int .i64 p, .int .i64 l], .int .i64 inc] W fun e w' => e = .returned (.agg #[.int .i64 m, .int .i64 (gP p inc), .int .i64 (gL p l inc)]) ∧ Below W.heap.size W w' := by
  by_cases h : p < inc
  · rw [show gP p inc = inc by simp [gP, h], show gL p l inc = 0 by simp [gL, h]]
    go_enter Tryz.func109, Tryz.ntmps109
    go_wp2
    exact bodyPost_ret (v := .agg #[.int .i64 m, .int .i64 inc, .int .i64 0]) (by simp [results, Tryz.results109, go_sem]) rfl ⟨rfl, (by repeat' (first | with_reducible exact Below.refl _ _ | with_reducible refine Below.setCell ?_ (by simp) _ | with_reducible refine Below.alloc ?_ (by simp) _))⟩
  · rw [show gP p inc = p by simp [gP, h], show gL p l inc = l by simp [gL, h]]
    go_enter Tryz.func109, Tryz.ntmps109
    go_wp2
    exact bodyPost_ret (v := .agg #[.int .i64 m, .int .i64 p, .int .i64 l]) (by simp [results, Tryz.results109, go_sem]) rfl ⟨rfl, (by repeat' (first | with_reducible exact Below.refl _ _ | with_reducible refine Below.setCell ?_ (by simp) _ | with_reducible refine Below.alloc ?_ (by simp) _))⟩

theorem snew_any (m : Int) (W : World) : Calls Tryz.prog 88 #[.int .i64 m] W fun e w' => e = .returned (.agg #[.int .i64 m, .int .i64 1, .int .i64 0]) ∧ Below W.heap.size W w' := by
  go_enter Tryz.func88, Tryz.ntmps88
  go_wp2
  exact bodyPost_ret (v := .agg #[.int .i64 m, .int .i64 1, .int .i64 0]) (by simp [results, Tryz.results88, go_sem]) rfl ⟨rfl, (by repeat' (first | with_reducible exact Below.refl _ _ | with_reducible refine Below.setCell ?_ (by simp) _ | with_reducible refine Below.alloc ?_ (by simp) _))⟩

end Go.Proofs.YtdphdodjidbngaaGreat

namespace Go.Proofs.YtdphdodjidbngaaGreat
open Go.RowKit Go.Sort
set_option linter.unusedVariables false

theorem take_a (m p l inc me seq : Int) (W : World) (hl : 0 ≤ l) (hs : seq ≤ 9223372036854775807) (hs2 : -9223372036854775808 ≤ seq) (hl2 : l ≤ 9223372036854775807) (h : inc < p) : Calls Tryz.prog 103 #[.agg #[.int .i64 m, .int .i64 p, .int .i64 l], .int .i64 inc, .int .i64 me, .int .i64 seq] W fun e w' => e = .returned (.tuple #[.agg #[.int .i64 m, .int .i64 p, .int .i64 l], .int .i64 0]) ∧ Below W.heap.size W w' := by
  go_enter Tryz.func103, Tryz.ntmps103
  go_wp2
  exact bodyPost_ret (v := .tuple #[.agg #[.int .i64 m, .int .i64 p, .int .i64 l], .int .i64 0]) (by simp [results, Tryz.results103, go_sem]) rfl ⟨rfl, (by repeat' (first | with_reducible exact Below.refl _ _ | with_reducible refine Below.setCell ?_ (by simp) _ | with_reducible refine Below.alloc ?_ (by simp) _))⟩

theorem take_b1 (m p l inc me seq : Int) (W : World) (hl : 0 ≤ l) (hs : seq ≤ 9223372036854775807) (hs2 : -9223372036854775808 ≤ seq) (hl2 : l ≤ 9223372036854775807) (h : ¬ inc < p) (h1 : p < inc) (h2 : me < m) : Calls Tryz.prog 103 #[.agg #[.int .i64 m, .int .i64 p, .int .i64 l], .int .i64 inc, .int .i64 me, .int .i64 seq] W fun e w' => e = .returned (.tuple #[.agg #[.int .i64 m, .int .i64 inc, .int .i64 0], .int .i64 3]) ∧ Below W.heap.size W w' := by
  have HL := hid (glearn_any m p l inc)
  rw [show gP p inc = inc by simp [gP, h1], show gL p l inc = 0 by simp [gL, h1]] at HL
  go_enter Tryz.func103, Tryz.ntmps103
  go_wp2_with fail
  refine (HL.out _).mono ?_
  rintro e w1 ⟨rfl, hb⟩
  obtain ⟨k0, k1⟩ := blk_after hb
  have hb1 := (below2 W _ _).trans (hb.mono (by simp; omega))
  obtain ⟨⟨p0, p1, p2⟩, f0, f1, f2⟩ := three_cells k0
  have K := hid (And.intro k0 k1)
  clear hb k0 k1
  go_upto_region 4 with (fail)
  refine at_world (fun w => w.heap[W.heap.size]? = some (.cells #[.int .i64 m, .int .i64 inc, .int .i64 0] 69 (0, 0)) ∧ w.heap[W.heap.size + 1]? = some (.cells #[.int .i64 0, .int .i64 0, .int .i64 0] 69 (0, 0)) ∧ Below W.heap.size W w) ?_ ?_
  · exact ⟨set_three K.out.1 _ _ _, (Below.heap_setCell _ _ _ _ (by simp)).trans ((Below.heap_setCell _ _ _ _ (by simp)).trans ((Below.heap_setCell _ _ _ _ (by simp)).trans K.out.2)), ((hb1.setCell (by simp) _).setCell (by simp) _).setCell (by simp) _⟩
  clear K hb1 p0 p1 p2 f0 f1 f2
  rintro w2 ⟨k0, k1, hb1⟩
  obtain ⟨⟨p0, p1, p2⟩, f0, f1, f2⟩ := three_cells k0
  obtain ⟨⟨q0, q1, q2⟩, g0, g1, g2⟩ := three_cells k1
  clear k0 k1
  go_wp2
  exact bodyPost_ret (v := .tuple #[.agg #[.int .i64 m, .int .i64 inc, .int .i64 0], .int .i64 3]) (by simp [results, Tryz.results103, go_sem, q0, q1, q2]) rfl ⟨rfl, (by repeat' (first | with_reducible exact hb1 | with_reducible refine Below.setCell ?_ (by simp) _))⟩

theorem take_b2 (m p l inc me seq : Int) (W : World) (hl : 0 ≤ l) (hs : seq ≤ 9223372036854775807) (hs2 : -9223372036854775808 ≤ seq) (hl2 : l ≤ 9223372036854775807) (h : ¬ inc < p) (h1 : ¬ p < inc) (h2 : me < m) : Calls Tryz.prog 103 #[.agg #[.int .i64 m, .int .i64 p, .int .i64 l], .int .i64 inc, .int .i64 me, .int .i64 seq] W fun e w' => e = .returned (.tuple #[.agg #[.int .i64 m, .int .i64 p, .int .i64 l], .int .i64 3]) ∧ Below W.heap.size W w' := by
  have HL := hid (glearn_any m p l inc)
  rw [show gP p inc = p by simp [gP, h1], show gL p l inc = l by simp [gL, h1]] at HL
  go_enter Tryz.func103, Tryz.ntmps103
  go_wp2_with fail
  refine (HL.out _).mono ?_
  rintro e w1 ⟨rfl, hb⟩
  obtain ⟨k0, k1⟩ := blk_after hb
  have hb1 := (below2 W _ _).trans (hb.mono (by simp; omega))
  obtain ⟨⟨p0, p1, p2⟩, f0, f1, f2⟩ := three_cells k0
  have K := hid (And.intro k0 k1)
  clear hb k0 k1
  go_upto_region 4 with (fail)
  refine at_world (fun w => w.heap[W.heap.size]? = some (.cells #[.int .i64 m, .int .i64 p, .int .i64 l] 69 (0, 0)) ∧ w.heap[W.heap.size + 1]? = some (.cells #[.int .i64 0, .int .i64 0, .int .i64 0] 69 (0, 0)) ∧ Below W.heap.size W w) ?_ ?_
  · exact ⟨set_three K.out.1 _ _ _, (Below.heap_setCell _ _ _ _ (by simp)).trans ((Below.heap_setCell _ _ _ _ (by simp)).trans ((Below.heap_setCell _ _ _ _ (by simp)).trans K.out.2)), ((hb1.setCell (by simp) _).setCell (by simp) _).setCell (by simp) _⟩
  clear K hb1 p0 p1 p2 f0 f1 f2
  rintro w2 ⟨k0, k1, hb1⟩
  obtain ⟨⟨p0, p1, p2⟩, f0, f1, f2⟩ := three_cells k0
  obtain ⟨⟨q0, q1, q2⟩, g0, g1, g2⟩ := three_cells k1
  clear k0 k1
  go_wp2
  exact bodyPost_ret (v := .tuple #[.agg #[.int .i64 m, .int .i64 p, .int .i64 l], .int .i64 3]) (by simp [results, Tryz.results103, go_sem, q0, q1, q2]) rfl ⟨rfl, (by repeat' (first | with_reducible exact hb1 | with_reducible refine Below.setCell ?_ (by simp) _))⟩

theorem take_c1 (m p l inc me seq : Int) (W : World) (hl : 0 ≤ l) (hs : seq ≤ 9223372036854775807) (hs2 : -9223372036854775808 ≤ seq) (hl2 : l ≤ 9223372036854775807) (h : ¬ inc < p) (h1 : p < inc) (h2 : m < me) : Calls Tryz.prog 103 #[.agg #[.int .i64 m, .int .i64 p, .int .i64 l], .int .i64 inc, .int .i64 me, .int .i64 seq] W fun e w' => e = .returned (.tuple #[.agg #[.int .i64 m, .int .i64 inc, .int .i64 0], .int .i64 0]) ∧ Below W.heap.size W w' := by
  have h3 : ¬ me < m := by omega
  have HL := hid (glearn_any m p l inc)
  rw [show gP p inc = inc by simp [gP, h1], show gL p l inc = 0 by simp [gL, h1]] at HL
  go_enter Tryz.func103, Tryz.ntmps103
  go_wp2_with fail
  refine (HL.out _).mono ?_
  rintro e w1 ⟨rfl, hb⟩
  obtain ⟨k0, k1⟩ := blk_after hb
  have hb1 := (below2 W _ _).trans (hb.mono (by simp; omega))
  obtain ⟨⟨p0, p1, p2⟩, f0, f1, f2⟩ := three_cells k0
  have K := hid (And.intro k0 k1)
  clear hb k0 k1
  go_upto_region 4 with (fail)
  refine at_world (fun w => w.heap[W.heap.size]? = some (.cells #[.int .i64 m, .int .i64 inc, .int .i64 0] 69 (0, 0)) ∧ w.heap[W.heap.size + 1]? = some (.cells #[.int .i64 0, .int .i64 0, .int .i64 0] 69 (0, 0)) ∧ Below W.heap.size W w) ?_ ?_
  · exact ⟨set_three K.out.1 _ _ _, (Below.heap_setCell _ _ _ _ (by simp)).trans ((Below.heap_setCell _ _ _ _ (by simp)).trans ((Below.heap_setCell _ _ _ _ (by simp)).trans K.out.2)), ((hb1.setCell (by simp) _).setCell (by simp) _).setCell (by simp) _⟩
  clear K hb1 p0 p1 p2 f0 f1 f2
  rintro w2 ⟨k0, k1, hb1⟩
  obtain ⟨⟨p0, p1, p2⟩, f0, f1, f2⟩ := three_cells k0
  obtain ⟨⟨q0, q1, q2⟩, g0, g1, g2⟩ := three_cells k1
  clear k0 k1
  go_wp2
  exact bodyPost_ret (v := .tuple #[.agg #[.int .i64 m, .int .i64 inc, .int .i64 0], .int .i64 0]) (by simp [results, Tryz.results103, go_sem, q0, q1, q2]) rfl ⟨rfl, (by repeat' (first | with_reducible exact hb1 | with_reducible refine Below.setCell ?_ (by simp) _))⟩

theorem take_c2 (m p l inc me seq : Int) (W : World) (hl : 0 ≤ l) (hs : seq ≤ 9223372036854775807) (hs2 : -9223372036854775808 ≤ seq) (hl2 : l ≤ 9223372036854775807) (h : ¬ inc < p) (h1 : ¬ p < inc) (h2 : m < me) : Calls Tryz.prog 103 #[.agg #[.int .i64 m, .int .i64 p, .int .i64 l], .int .i64 inc, .int .i64 me, .int .i64 seq] W fun e w' => e = .returned (.tuple #[.agg #[.int .i64 m, .int .i64 p, .int .i64 l], .int .i64 0]) ∧ Below W.heap.size W w' := by
  have h3 : ¬ me < m := by omega
  have HL := hid (glearn_any m p l inc)
  rw [show gP p inc = p by simp [gP, h1], show gL p l inc = l by simp [gL, h1]] at HL
  go_enter Tryz.func103, Tryz.ntmps103
  go_wp2_with fail
  refine (HL.out _).mono ?_
  rintro e w1 ⟨rfl, hb⟩
  obtain ⟨k0, k1⟩ := blk_after hb
  have hb1 := (below2 W _ _).trans (hb.mono (by simp; omega))
  obtain ⟨⟨p0, p1, p2⟩, f0, f1, f2⟩ := three_cells k0
  have K := hid (And.intro k0 k1)
  clear hb k0 k1
  go_upto_region 4 with (fail)
  refine at_world (fun w => w.heap[W.heap.size]? = some (.cells #[.int .i64 m, .int .i64 p, .int .i64 l] 69 (0, 0)) ∧ w.heap[W.heap.size + 1]? = some (.cells #[.int .i64 0, .int .i64 0, .int .i64 0] 69 (0, 0)) ∧ Below W.heap.size W w) ?_ ?_
  · exact ⟨set_three K.out.1 _ _ _, (Below.heap_setCell _ _ _ _ (by simp)).trans ((Below.heap_setCell _ _ _ _ (by simp)).trans ((Below.heap_setCell _ _ _ _ (by simp)).trans K.out.2)), ((hb1.setCell (by simp) _).setCell (by simp) _).setCell (by simp) _⟩
  clear K hb1 p0 p1 p2 f0 f1 f2
  rintro w2 ⟨k0, k1, hb1⟩
  obtain ⟨⟨p0, p1, p2⟩, f0, f1, f2⟩ := three_cells k0
  obtain ⟨⟨q0, q1, q2⟩, g0, g1, g2⟩ := three_cells k1
  clear k0 k1
  go_wp2
  exact bodyPost_ret (v := .tuple #[.agg #[.int .i64 m, .int .i64 p, .int .i64 l], .int .i64 0]) (by simp [results, Tryz.results103, go_sem, q0, q1, q2]) rfl ⟨rfl, (by repeat' (first | with_reducible exact hb1 | with_reducible refine Below.setCell ?_ (by simp) _))⟩

set_option maxHeartbeats 1000000 in
theorem take_d1 (m p l inc me seq : Int) (W : World) (hl : 0 ≤ l) (hs : seq ≤ 9223372036854775807) (hs2 : -9223372036854775808 ≤ seq) (hl2 : l ≤ 9223372036854775807) (h : ¬ inc < p) (h1 : p < inc) (h2 : m = me) (h4 : seq = 1) : Calls Tryz.prog 103 #[.agg #[.int .i64 m, .int .i64 p, .int .i64 l], .int .i64 inc, .int .i64 me, .int .i64 seq] W fun e w' => e = .returned (.tuple #[.agg #[.int .i64 m, .int .i64 inc, .int .i64 1], .int .i64 1]) ∧ Below W.heap.size W w' := by
  subst h2; subst h4
  have HL := hid (glearn_any m p l inc)
  rw [show gP p inc = inc by simp [gP, h1], show gL p l inc = 0 by simp [gL, h1]] at HL
  go_enter Tryz.func103, Tryz.ntmps103
  go_wp2_with fail
  refine (HL.out _).mono ?_
  rintro e w1 ⟨rfl, hb⟩
  obtain ⟨k0, k1⟩ := blk_after hb
  have hb1 := (below2 W _ _).trans (hb.mono (by simp; omega))
  obtain ⟨⟨p0, p1, p2⟩, f0, f1, f2⟩ := three_cells k0
  have K := hid (And.intro k0 k1)
  clear hb k0 k1
  go_upto_region 4 with (fail)
  refine at_world (fun w => w.heap[W.heap.size]? = some (.cells #[.int .i64 m, .int .i64 inc, .int .i64 0] 69 (0, 0)) ∧ w.heap[W.heap.size + 1]? = some (.cells #[.int .i64 0, .int .i64 0, .int .i64 0] 69 (0, 0)) ∧ Below W.heap.size W w) ?_ ?_
  · exact ⟨set_three K.out.1 _ _ _, (Below.heap_setCell _ _ _ _ (by simp)).trans ((Below.heap_setCell _ _ _ _ (by simp)).trans ((Below.heap_setCell _ _ _ _ (by simp)).trans K.out.2)), ((hb1.setCell (by simp) _).setCell (by simp) _).setCell (by simp) _⟩
  clear K hb1 p0 p1 p2 f0 f1 f2
  rintro w2 ⟨k0, k1, hb1⟩
  obtain ⟨⟨p0, p1, p2⟩, f0, f1, f2⟩ := three_cells k0
  obtain ⟨⟨q0, q1, q2⟩, g0, g1, g2⟩ := three_cells k1
  clear k0 k1
  go_wp2
  exact bodyPost_ret (v := .tuple #[.agg #[.int .i64 m, .int .i64 inc, .int .i64 1], .int .i64 1]) (by simp [results, Tryz.results103, go_sem, q0, q1, q2]) rfl ⟨rfl, (by repeat' (first | with_reducible exact hb1 | with_reducible refine Below.setCell ?_ (by simp) _))⟩

set_option maxHeartbeats 1000000 in
theorem take_d2 (m p l inc me seq : Int) (W : World) (hl : 0 ≤ l) (hs : seq ≤ 9223372036854775807) (hs2 : -9223372036854775808 ≤ seq) (hl2 : l ≤ 9223372036854775807) (h : ¬ inc < p) (h1 : ¬ p < inc) (h2 : m = me) (h4 : seq = l + 1) : Calls Tryz.prog 103 #[.agg #[.int .i64 m, .int .i64 p, .int .i64 l], .int .i64 inc, .int .i64 me, .int .i64 seq] W fun e w' => e = .returned (.tuple #[.agg #[.int .i64 m, .int .i64 p, .int .i64 (l + 1)], .int .i64 1]) ∧ Below W.heap.size W w' := by
  subst h2; subst h4
  have n1 : l + 1 - 1 = l := by omega
  have HL := hid (glearn_any m p l inc)
  rw [show gP p inc = p by simp [gP, h1], show gL p l inc = l by simp [gL, h1]] at HL
  go_enter Tryz.func103, Tryz.ntmps103
  go_wp2_with fail
  refine (HL.out _).mono ?_
  rintro e w1 ⟨rfl, hb⟩
  obtain ⟨k0, k1⟩ := blk_after hb
  have hb1 := (below2 W _ _).trans (hb.mono (by simp; omega))
  obtain ⟨⟨p0, p1, p2⟩, f0, f1, f2⟩ := three_cells k0
  have K := hid (And.intro k0 k1)
  clear hb k0 k1
  go_upto_region 4 with (fail)
  refine at_world (fun w => w.heap[W.heap.size]? = some (.cells #[.int .i64 m, .int .i64 p, .int .i64 l] 69 (0, 0)) ∧ w.heap[W.heap.size + 1]? = some (.cells #[.int .i64 0, .int .i64 0, .int .i64 0] 69 (0, 0)) ∧ Below W.heap.size W w) ?_ ?_
  · exact ⟨set_three K.out.1 _ _ _, (Below.heap_setCell _ _ _ _ (by simp)).trans ((Below.heap_setCell _ _ _ _ (by simp)).trans ((Below.heap_setCell _ _ _ _ (by simp)).trans K.out.2)), ((hb1.setCell (by simp) _).setCell (by simp) _).setCell (by simp) _⟩
  clear K hb1 p0 p1 p2 f0 f1 f2
  rintro w2 ⟨k0, k1, hb1⟩
  obtain ⟨⟨p0, p1, p2⟩, f0, f1, f2⟩ := three_cells k0
  obtain ⟨⟨q0, q1, q2⟩, g0, g1, g2⟩ := three_cells k1
  clear k0 k1
  go_wp2
  exact bodyPost_ret (v := .tuple #[.agg #[.int .i64 m, .int .i64 p, .int .i64 (l + 1)], .int .i64 1]) (by simp [results, Tryz.results103, go_sem, q0, q1, q2]) rfl ⟨rfl, (by repeat' (first | with_reducible exact hb1 | with_reducible refine Below.setCell ?_ (by simp) _))⟩

theorem take_e2 (m p l inc me seq : Int) (W : World) (hl : 0 ≤ l) (hs : seq ≤ 9223372036854775807) (hs2 : -9223372036854775808 ≤ seq) (hl2 : l ≤ 9223372036854775807) (h : ¬ inc < p) (h1 : ¬ p < inc) (h2 : m = me) (h4 : 1 ≤ seq) (h5 : seq ≤ l) : Calls Tryz.prog 103 #[.agg #[.int .i64 m, .int .i64 p, .int .i64 l], .int .i64 inc, .int .i64 me, .int .i64 seq] W fun e w' => e = .returned (.tuple #[.agg #[.int .i64 m, .int .i64 p, .int .i64 l], .int .i64 2]) ∧ Below W.heap.size W w' := by
  subst h2
  have HL := hid (glearn_any m p l inc)
  rw [show gP p inc = p by simp [gP, h1], show gL p l inc = l by simp [gL, h1]] at HL
  go_enter Tryz.func103, Tryz.ntmps103
  go_wp2_with fail
  refine (HL.out _).mono ?_
  rintro e w1 ⟨rfl, hb⟩
  obtain ⟨k0, k1⟩ := blk_after hb
  have hb1 := (below2 W _ _).trans (hb.mono (by simp; omega))
  obtain ⟨⟨p0, p1, p2⟩, f0, f1, f2⟩ := three_cells k0
  have K := hid (And.intro k0 k1)
  clear hb k0 k1
  go_upto_region 4 with (fail)
  refine at_world (fun w => w.heap[W.heap.size]? = some (.cells #[.int .i64 m, .int .i64 p, .int .i64 l] 69 (0, 0)) ∧ w.heap[W.heap.size + 1]? = some (.cells #[.int .i64 0, .int .i64 0, .int .i64 0] 69 (0, 0)) ∧ Below W.heap.size W w) ?_ ?_
  · exact ⟨set_three K.out.1 _ _ _, (Below.heap_setCell _ _ _ _ (by simp)).trans ((Below.heap_setCell _ _ _ _ (by simp)).trans ((Below.heap_setCell _ _ _ _ (by simp)).trans K.out.2)), ((hb1.setCell (by simp) _).setCell (by simp) _).setCell (by simp) _⟩
  clear K hb1 p0 p1 p2 f0 f1 f2
  rintro w2 ⟨k0, k1, hb1⟩
  obtain ⟨⟨p0, p1, p2⟩, f0, f1, f2⟩ := three_cells k0
  obtain ⟨⟨q0, q1, q2⟩, g0, g1, g2⟩ := three_cells k1
  clear k0 k1
  go_wp2
  exact bodyPost_ret (v := .tuple #[.agg #[.int .i64 m, .int .i64 p, .int .i64 l], .int .i64 2]) (by simp [results, Tryz.results103, go_sem, q0, q1, q2]) rfl ⟨rfl, (by repeat' (first | with_reducible exact hb1 | with_reducible refine Below.setCell ?_ (by simp) _))⟩

theorem take_f1 (m p l inc me seq : Int) (W : World) (hl : 0 ≤ l) (hs : seq ≤ 9223372036854775807) (hs2 : -9223372036854775808 ≤ seq) (hl2 : l ≤ 9223372036854775807) (h : ¬ inc < p) (h1 : p < inc) (h2 : m = me) (h4 : seq < 1) : Calls Tryz.prog 103 #[.agg #[.int .i64 m, .int .i64 p, .int .i64 l], .int .i64 inc, .int .i64 me, .int .i64 seq] W fun e w' => e = .returned (.tuple #[.agg #[.int .i64 m, .int .i64 inc, .int .i64 0], .int .i64 0]) ∧ Below W.heap.size W w' := by
  subst h2
  have HL := hid (glearn_any m p l inc)
  rw [show gP p inc = inc by simp [gP, h1], show gL p l inc = 0 by simp [gL, h1]] at HL
  go_enter Tryz.func103, Tryz.ntmps103
  go_wp2_with fail
  refine (HL.out _).mono ?_
  rintro e w1 ⟨rfl, hb⟩
  obtain ⟨k0, k1⟩ := blk_after hb
  have hb1 := (below2 W _ _).trans (hb.mono (by simp; omega))
  obtain ⟨⟨p0, p1, p2⟩, f0, f1, f2⟩ := three_cells k0
  have K := hid (And.intro k0 k1)
  clear hb k0 k1
  go_upto_region 4 with (fail)
  refine at_world (fun w => w.heap[W.heap.size]? = some (.cells #[.int .i64 m, .int .i64 inc, .int .i64 0] 69 (0, 0)) ∧ w.heap[W.heap.size + 1]? = some (.cells #[.int .i64 0, .int .i64 0, .int .i64 0] 69 (0, 0)) ∧ Below W.heap.size W w) ?_ ?_
  · exact ⟨set_three K.out.1 _ _ _, (Below.heap_setCell _ _ _ _ (by simp)).trans ((Below.heap_setCell _ _ _ _ (by simp)).trans ((Below.heap_setCell _ _ _ _ (by simp)).trans K.out.2)), ((hb1.setCell (by simp) _).setCell (by simp) _).setCell (by simp) _⟩
  clear K hb1 p0 p1 p2 f0 f1 f2
  rintro w2 ⟨k0, k1, hb1⟩
  obtain ⟨⟨p0, p1, p2⟩, f0, f1, f2⟩ := three_cells k0
  obtain ⟨⟨q0, q1, q2⟩, g0, g1, g2⟩ := three_cells k1
  clear k0 k1
  go_wp2
  exact bodyPost_ret (v := .tuple #[.agg #[.int .i64 m, .int .i64 inc, .int .i64 0], .int .i64 0]) (by simp [results, Tryz.results103, go_sem, q0, q1, q2]) rfl ⟨rfl, (by repeat' (first | with_reducible exact hb1 | with_reducible refine Below.setCell ?_ (by simp) _))⟩

theorem take_g1 (m p l inc me seq : Int) (W : World) (hl : 0 ≤ l) (hs : seq ≤ 9223372036854775807) (hs2 : -9223372036854775808 ≤ seq) (hl2 : l ≤ 9223372036854775807) (h : ¬ inc < p) (h1 : p < inc) (h2 : m = me) (h4 : 1 < seq) : Calls Tryz.prog 103 #[.agg #[.int .i64 m, .int .i64 p, .int .i64 l], .int .i64 inc, .int .i64 me, .int .i64 seq] W fun e w' => e = .returned (.tuple #[.agg #[.int .i64 m, .int .i64 inc, .int .i64 0], .int .i64 0]) ∧ Below W.heap.size W w' := by
  subst h2
  have n2 : (seq - 1 == 0) = false := by simp; omega
  have HL := hid (glearn_any m p l inc)
  rw [show gP p inc = inc by simp [gP, h1], show gL p l inc = 0 by simp [gL, h1]] at HL
  go_enter Tryz.func103, Tryz.ntmps103
  go_wp2_with fail
  refine (HL.out _).mono ?_
  rintro e w1 ⟨rfl, hb⟩
  obtain ⟨k0, k1⟩ := blk_after hb
  have hb1 := (below2 W _ _).trans (hb.mono (by simp; omega))
  obtain ⟨⟨p0, p1, p2⟩, f0, f1, f2⟩ := three_cells k0
  have K := hid (And.intro k0 k1)
  clear hb k0 k1
  go_upto_region 4 with (fail)
  refine at_world (fun w => w.heap[W.heap.size]? = some (.cells #[.int .i64 m, .int .i64 inc, .int .i64 0] 69 (0, 0)) ∧ w.heap[W.heap.size + 1]? = some (.cells #[.int .i64 0, .int .i64 0, .int .i64 0] 69 (0, 0)) ∧ Below W.heap.size W w) ?_ ?_
  · exact ⟨set_three K.out.1 _ _ _, (Below.heap_setCell _ _ _ _ (by simp)).trans ((Below.heap_setCell _ _ _ _ (by simp)).trans ((Below.heap_setCell _ _ _ _ (by simp)).trans K.out.2)), ((hb1.setCell (by simp) _).setCell (by simp) _).setCell (by simp) _⟩
  clear K hb1 p0 p1 p2 f0 f1 f2
  rintro w2 ⟨k0, k1, hb1⟩
  obtain ⟨⟨p0, p1, p2⟩, f0, f1, f2⟩ := three_cells k0
  obtain ⟨⟨q0, q1, q2⟩, g0, g1, g2⟩ := three_cells k1
  clear k0 k1
  go_wp2
  exact bodyPost_ret (v := .tuple #[.agg #[.int .i64 m, .int .i64 inc, .int .i64 0], .int .i64 0]) (by simp [results, Tryz.results103, go_sem, q0, q1, q2]) rfl ⟨rfl, (by repeat' (first | with_reducible exact hb1 | with_reducible refine Below.setCell ?_ (by simp) _))⟩

theorem take_f2 (m p l inc me seq : Int) (W : World) (hl : 0 ≤ l) (hs : seq ≤ 9223372036854775807) (hs2 : -9223372036854775808 ≤ seq) (hl2 : l ≤ 9223372036854775807) (h : ¬ inc < p) (h1 : ¬ p < inc) (h2 : m = me) (h4 : seq < 1) : Calls Tryz.prog 103 #[.agg #[.int .i64 m, .int .i64 p, .int .i64 l], .int .i64 inc, .int .i64 me, .int .i64 seq] W fun e w' => e = .returned (.tuple #[.agg #[.int .i64 m, .int .i64 p, .int .i64 l], .int .i64 0]) ∧ Below W.heap.size W w' := by
  subst h2
  have HL := hid (glearn_any m p l inc)
  rw [show gP p inc = p by simp [gP, h1], show gL p l inc = l by simp [gL, h1]] at HL
  go_enter Tryz.func103, Tryz.ntmps103
  go_wp2_with fail
  refine (HL.out _).mono ?_
  rintro e w1 ⟨rfl, hb⟩
  obtain ⟨k0, k1⟩ := blk_after hb
  have hb1 := (below2 W _ _).trans (hb.mono (by simp; omega))
  obtain ⟨⟨p0, p1, p2⟩, f0, f1, f2⟩ := three_cells k0
  have K := hid (And.intro k0 k1)
  clear hb k0 k1
  go_upto_region 4 with (fail)
  refine at_world (fun w => w.heap[W.heap.size]? = some (.cells #[.int .i64 m, .int .i64 p, .int .i64 l] 69 (0, 0)) ∧ w.heap[W.heap.size + 1]? = some (.cells #[.int .i64 0, .int .i64 0, .int .i64 0] 69 (0, 0)) ∧ Below W.heap.size W w) ?_ ?_
  · exact ⟨set_three K.out.1 _ _ _, (Below.heap_setCell _ _ _ _ (by simp)).trans ((Below.heap_setCell _ _ _ _ (by simp)).trans ((Below.heap_setCell _ _ _ _ (by simp)).trans K.out.2)), ((hb1.setCell (by simp) _).setCell (by simp) _).setCell (by simp) _⟩
  clear K hb1 p0 p1 p2 f0 f1 f2
  rintro w2 ⟨k0, k1, hb1⟩
  obtain ⟨⟨p0, p1, p2⟩, f0, f1, f2⟩ := three_cells k0
  obtain ⟨⟨q0, q1, q2⟩, g0, g1, g2⟩ := three_cells k1
  clear k0 k1
  go_wp2
  exact bodyPost_ret (v := .tuple #[.agg #[.int .i64 m, .int .i64 p, .int .i64 l], .int .i64 0]) (by simp [results, Tryz.results103, go_sem, q0, q1, q2]) rfl ⟨rfl, (by repeat' (first | with_reducible exact hb1 | with_reducible refine Below.setCell ?_ (by simp) _))⟩

theorem take_g2 (m p l inc me seq : Int) (W : World) (hl : 0 ≤ l) (hs : seq ≤ 9223372036854775807) (hs2 : -9223372036854775808 ≤ seq) (hl2 : l ≤ 9223372036854775807) (h : ¬ inc < p) (h1 : ¬ p < inc) (h2 : m = me) (h4 : l + 1 < seq) : Calls Tryz.prog 103 #[.agg #[.int .i64 m, .int .i64 p, .int .i64 l], .int .i64 inc, .int .i64 me, .int .i64 seq] W fun e w' => e = .returned (.tuple #[.agg #[.int .i64 m, .int .i64 p, .int .i64 l], .int .i64 0]) ∧ Below W.heap.size W w' := by
  subst h2
  have n2 : (seq - 1 == l) = false := by simp; omega
  have HL := hid (glearn_any m p l inc)
  rw [show gP p inc = p by simp [gP, h1], show gL p l inc = l by simp [gL, h1]] at HL
  go_enter Tryz.func103, Tryz.ntmps103
  go_wp2_with fail
  refine (HL.out _).mono ?_
  rintro e w1 ⟨rfl, hb⟩
  obtain ⟨k0, k1⟩ := blk_after hb
  have hb1 := (below2 W _ _).trans (hb.mono (by simp; omega))
  obtain ⟨⟨p0, p1, p2⟩, f0, f1, f2⟩ := three_cells k0
  have K := hid (And.intro k0 k1)
  clear hb k0 k1
  go_upto_region 4 with (fail)
  refine at_world (fun w => w.heap[W.heap.size]? = some (.cells #[.int .i64 m, .int .i64 p, .int .i64 l] 69 (0, 0)) ∧ w.heap[W.heap.size + 1]? = some (.cells #[.int .i64 0, .int .i64 0, .int .i64 0] 69 (0, 0)) ∧ Below W.heap.size W w) ?_ ?_
  · exact ⟨set_three K.out.1 _ _ _, (Below.heap_setCell _ _ _ _ (by simp)).trans ((Below.heap_setCell _ _ _ _ (by simp)).trans ((Below.heap_setCell _ _ _ _ (by simp)).trans K.out.2)), ((hb1.setCell (by simp) _).setCell (by simp) _).setCell (by simp) _⟩
  clear K hb1 p0 p1 p2 f0 f1 f2
  rintro w2 ⟨k0, k1, hb1⟩
  obtain ⟨⟨p0, p1, p2⟩, f0, f1, f2⟩ := three_cells k0
  obtain ⟨⟨q0, q1, q2⟩, g0, g1, g2⟩ := three_cells k1
  clear k0 k1
  go_wp2
  exact bodyPost_ret (v := .tuple #[.agg #[.int .i64 m, .int .i64 p, .int .i64 l], .int .i64 0]) (by simp [results, Tryz.results103, go_sem, q0, q1, q2]) rfl ⟨rfl, (by repeat' (first | with_reducible exact hb1 | with_reducible refine Below.setCell ?_ (by simp) _))⟩

end Go.Proofs.YtdphdodjidbngaaGreat

namespace Go.Proofs.YtdphdodjidbngaaGreat
open Go.RowKit Go.Sort
set_option linter.unusedVariables false

theorem rtake_a (m p l inc me seq : Int) (W : World) (hl : 0 ≤ l) (hs : seq ≤ 9223372036854775807) (hs2 : -9223372036854775808 ≤ seq) (hl2 : l ≤ 9223372036854775807) (h : inc < p) : Calls Tryz.prog 77 #[.agg #[.int .i64 m, .int .i64 p, .int .i64 l], .int .i64 inc, .int .i64 me, .int .i64 seq] W fun e w' => e = .returned (.tuple #[.agg #[.int .i64 m, .int .i64 p, .int .i64 l], .int .i64 0]) ∧ Below W.heap.size W w' := by
  go_enter Tryz.func77, Tryz.ntmps77
  go_wp2
  exact bodyPost_ret (v := .tuple #[.agg #[.int .i64 m, .int .i64 p, .int .i64 l], .int .i64 0]) (by simp [results, Tryz.results77, go_sem]) rfl ⟨rfl, (by repeat' (first | with_reducible exact Below.refl _ _ | with_reducible refine Below.setCell ?_ (by simp) _ | with_reducible refine Below.alloc ?_ (by simp) _))⟩

theorem rtake_b1 (m p l inc me seq : Int) (W : World) (hl : 0 ≤ l) (hs : seq ≤ 9223372036854775807) (hs2 : -9223372036854775808 ≤ seq) (hl2 : l ≤ 9223372036854775807) (h : ¬ inc < p) (h1 : p < inc) (h2 : me < m) : Calls Tryz.prog 77 #[.agg #[.int .i64 m, .int .i64 p, .int .i64 l], .int .i64 inc, .int .i64 me, .int .i64 seq] W fun e w' => e = .returned (.tuple #[.agg #[.int .i64 m, .int .i64 inc, .int .i64 0], .int .i64 3]) ∧ Below W.heap.size W w' := by
  have HL := hid (rlearn_any m p l inc)
  rw [show gP p inc = inc by simp [gP, h1], show gL p l inc = 0 by simp [gL, h1]] at HL
  go_enter Tryz.func77, Tryz.ntmps77
  go_wp2_with fail
  refine (HL.out _).mono ?_
  rintro e w1 ⟨rfl, hb⟩
  obtain ⟨k0, k1⟩ := blk_after hb
  have hb1 := (below2 W _ _).trans (hb.mono (by simp; omega))
  obtain ⟨⟨p0, p1, p2⟩, f0, f1, f2⟩ := three_cells k0
  have K := hid (And.intro k0 k1)
  clear hb k0 k1
  go_upto_region 4 with (fail)
  refine at_world (fun w => w.heap[W.heap.size]? = some (.cells #[.int .i64 m, .int .i64 inc, .int .i64 0] 80 (0, 0)) ∧ w.heap[W.heap.size + 1]? = some (.cells #[.int .i64 0, .int .i64 0, .int .i64 0] 80 (0, 0)) ∧ Below W.heap.size W w) ?_ ?_
  · exact ⟨set_three K.out.1 _ _ _, (Below.heap_setCell _ _ _ _ (by simp)).trans ((Below.heap_setCell _ _ _ _ (by simp)).trans ((Below.heap_setCell _ _ _ _ (by simp)).trans K.out.2)), ((hb1.setCell (by simp) _).setCell (by simp) _).setCell (by simp) _⟩
  clear K hb1 p0 p1 p2 f0 f1 f2
  rintro w2 ⟨k0, k1, hb1⟩
  obtain ⟨⟨p0, p1, p2⟩, f0, f1, f2⟩ := three_cells k0
  obtain ⟨⟨q0, q1, q2⟩, g0, g1, g2⟩ := three_cells k1
  clear k0 k1
  go_wp2
  exact bodyPost_ret (v := .tuple #[.agg #[.int .i64 m, .int .i64 inc, .int .i64 0], .int .i64 3]) (by simp [results, Tryz.results77, go_sem, q0, q1, q2]) rfl ⟨rfl, (by repeat' (first | with_reducible exact hb1 | with_reducible refine Below.setCell ?_ (by simp) _))⟩

theorem rtake_b2 (m p l inc me seq : Int) (W : World) (hl : 0 ≤ l) (hs : seq ≤ 9223372036854775807) (hs2 : -9223372036854775808 ≤ seq) (hl2 : l ≤ 9223372036854775807) (h : ¬ inc < p) (h1 : ¬ p < inc) (h2 : me < m) : Calls Tryz.prog 77 #[.agg #[.int .i64 m, .int .i64 p, .int .i64 l], .int .i64 inc, .int .i64 me, .int .i64 seq] W fun e w' => e = .returned (.tuple #[.agg #[.int .i64 m, .int .i64 p, .int .i64 l], .int .i64 3]) ∧ Below W.heap.size W w' := by
  have HL := hid (rlearn_any m p l inc)
  rw [show gP p inc = p by simp [gP, h1], show gL p l inc = l by simp [gL, h1]] at HL
  go_enter Tryz.func77, Tryz.ntmps77
  go_wp2_with fail
  refine (HL.out _).mono ?_
  rintro e w1 ⟨rfl, hb⟩
  obtain ⟨k0, k1⟩ := blk_after hb
  have hb1 := (below2 W _ _).trans (hb.mono (by simp; omega))
  obtain ⟨⟨p0, p1, p2⟩, f0, f1, f2⟩ := three_cells k0
  have K := hid (And.intro k0 k1)
  clear hb k0 k1
  go_upto_region 4 with (fail)
  refine at_world (fun w => w.heap[W.heap.size]? = some (.cells #[.int .i64 m, .int .i64 p, .int .i64 l] 80 (0, 0)) ∧ w.heap[W.heap.size + 1]? = some (.cells #[.int .i64 0, .int .i64 0, .int .i64 0] 80 (0, 0)) ∧ Below W.heap.size W w) ?_ ?_
  · exact ⟨set_three K.out.1 _ _ _, (Below.heap_setCell _ _ _ _ (by simp)).trans ((Below.heap_setCell _ _ _ _ (by simp)).trans ((Below.heap_setCell _ _ _ _ (by simp)).trans K.out.2)), ((hb1.setCell (by simp) _).setCell (by simp) _).setCell (by simp) _⟩
  clear K hb1 p0 p1 p2 f0 f1 f2
  rintro w2 ⟨k0, k1, hb1⟩
  obtain ⟨⟨p0, p1, p2⟩, f0, f1, f2⟩ := three_cells k0
  obtain ⟨⟨q0, q1, q2⟩, g0, g1, g2⟩ := three_cells k1
  clear k0 k1
  go_wp2
  exact bodyPost_ret (v := .tuple #[.agg #[.int .i64 m, .int .i64 p, .int .i64 l], .int .i64 3]) (by simp [results, Tryz.results77, go_sem, q0, q1, q2]) rfl ⟨rfl, (by repeat' (first | with_reducible exact hb1 | with_reducible refine Below.setCell ?_ (by simp) _))⟩

theorem rtake_c1 (m p l inc me seq : Int) (W : World) (hl : 0 ≤ l) (hs : seq ≤ 9223372036854775807) (hs2 : -9223372036854775808 ≤ seq) (hl2 : l ≤ 9223372036854775807) (h : ¬ inc < p) (h1 : p < inc) (h2 : m < me) : Calls Tryz.prog 77 #[.agg #[.int .i64 m, .int .i64 p, .int .i64 l], .int .i64 inc, .int .i64 me, .int .i64 seq] W fun e w' => e = .returned (.tuple #[.agg #[.int .i64 m, .int .i64 inc, .int .i64 0], .int .i64 0]) ∧ Below W.heap.size W w' := by
  have h3 : ¬ me < m := by omega
  have HL := hid (rlearn_any m p l inc)
  rw [show gP p inc = inc by simp [gP, h1], show gL p l inc = 0 by simp [gL, h1]] at HL
  go_enter Tryz.func77, Tryz.ntmps77
  go_wp2_with fail
  refine (HL.out _).mono ?_
  rintro e w1 ⟨rfl, hb⟩
  obtain ⟨k0, k1⟩ := blk_after hb
  have hb1 := (below2 W _ _).trans (hb.mono (by simp; omega))
  obtain ⟨⟨p0, p1, p2⟩, f0, f1, f2⟩ := three_cells k0
  have K := hid (And.intro k0 k1)
  clear hb k0 k1
  go_upto_region 4 with (fail)
  refine at_world (fun w => w.heap[W.heap.size]? = some (.cells #[.int .i64 m, .int .i64 inc, .int .i64 0] 80 (0, 0)) ∧ w.heap[W.heap.size + 1]? = some (.cells #[.int .i64 0, .int .i64 0, .int .i64 0] 80 (0, 0)) ∧ Below W.heap.size W w) ?_ ?_
  · exact ⟨set_three K.out.1 _ _ _, (Below.heap_setCell _ _ _ _ (by simp)).trans ((Below.heap_setCell _ _ _ _ (by simp)).trans ((Below.heap_setCell _ _ _ _ (by simp)).trans K.out.2)), ((hb1.setCell (by simp) _).setCell (by simp) _).setCell (by simp) _⟩
  clear K hb1 p0 p1 p2 f0 f1 f2
  rintro w2 ⟨k0, k1, hb1⟩
  obtain ⟨⟨p0, p1, p2⟩, f0, f1, f2⟩ := three_cells k0
  obtain ⟨⟨q0, q1, q2⟩, g0, g1, g2⟩ := three_cells k1
  clear k0 k1
  go_wp2
  exact bodyPost_ret (v := .tuple #[.agg #[.int .i64 m, .int .i64 inc, .int .i64 0], .int .i64 0]) (by simp [results, Tryz.results77, go_sem, q0, q1, q2]) rfl ⟨rfl, (by repeat' (first | with_reducible exact hb1 | with_reducible refine Below.setCell ?_ (by simp) _))⟩

theorem rtake_c2 (m p l inc me seq : Int) (W : World) (hl : 0 ≤ l) (hs : seq ≤ 9223372036854775807) (hs2 : -9223372036854775808 ≤ seq) (hl2 : l ≤ 9223372036854775807) (h : ¬ inc < p) (h1 : ¬ p < inc) (h2 : m < me) : Calls Tryz.prog 77 #[.agg #[.int .i64 m, .int .i64 p, .int .i64 l], .int .i64 inc, .int .i64 me, .int .i64 seq] W fun e w' => e = .returned (.tuple #[.agg #[.int .i64 m, .int .i64 p, .int .i64 l], .int .i64 0]) ∧ Below W.heap.size W w' := by
  have h3 : ¬ me < m := by omega
  have HL := hid (rlearn_any m p l inc)
  rw [show gP p inc = p by simp [gP, h1], show gL p l inc = l by simp [gL, h1]] at HL
  go_enter Tryz.func77, Tryz.ntmps77
  go_wp2_with fail
  refine (HL.out _).mono ?_
  rintro e w1 ⟨rfl, hb⟩
  obtain ⟨k0, k1⟩ := blk_after hb
  have hb1 := (below2 W _ _).trans (hb.mono (by simp; omega))
  obtain ⟨⟨p0, p1, p2⟩, f0, f1, f2⟩ := three_cells k0
  have K := hid (And.intro k0 k1)
  clear hb k0 k1
  go_upto_region 4 with (fail)
  refine at_world (fun w => w.heap[W.heap.size]? = some (.cells #[.int .i64 m, .int .i64 p, .int .i64 l] 80 (0, 0)) ∧ w.heap[W.heap.size + 1]? = some (.cells #[.int .i64 0, .int .i64 0, .int .i64 0] 80 (0, 0)) ∧ Below W.heap.size W w) ?_ ?_
  · exact ⟨set_three K.out.1 _ _ _, (Below.heap_setCell _ _ _ _ (by simp)).trans ((Below.heap_setCell _ _ _ _ (by simp)).trans ((Below.heap_setCell _ _ _ _ (by simp)).trans K.out.2)), ((hb1.setCell (by simp) _).setCell (by simp) _).setCell (by simp) _⟩
  clear K hb1 p0 p1 p2 f0 f1 f2
  rintro w2 ⟨k0, k1, hb1⟩
  obtain ⟨⟨p0, p1, p2⟩, f0, f1, f2⟩ := three_cells k0
  obtain ⟨⟨q0, q1, q2⟩, g0, g1, g2⟩ := three_cells k1
  clear k0 k1
  go_wp2
  exact bodyPost_ret (v := .tuple #[.agg #[.int .i64 m, .int .i64 p, .int .i64 l], .int .i64 0]) (by simp [results, Tryz.results77, go_sem, q0, q1, q2]) rfl ⟨rfl, (by repeat' (first | with_reducible exact hb1 | with_reducible refine Below.setCell ?_ (by simp) _))⟩

set_option maxHeartbeats 1000000 in
theorem rtake_d1 (m p l inc me seq : Int) (W : World) (hl : 0 ≤ l) (hs : seq ≤ 9223372036854775807) (hs2 : -9223372036854775808 ≤ seq) (hl2 : l ≤ 9223372036854775807) (h : ¬ inc < p) (h1 : p < inc) (h2 : m = me) (h4 : seq = 1) : Calls Tryz.prog 77 #[.agg #[.int .i64 m, .int .i64 p, .int .i64 l], .int .i64 inc, .int .i64 me, .int .i64 seq] W fun e w' => e = .returned (.tuple #[.agg #[.int .i64 m, .int .i64 inc, .int .i64 1], .int .i64 1]) ∧ Below W.heap.size W w' := by
  subst h2; subst h4
  have HL := hid (rlearn_any m p l inc)
  rw [show gP p inc = inc by simp [gP, h1], show gL p l inc = 0 by simp [gL, h1]] at HL
  go_enter Tryz.func77, Tryz.ntmps77
  go_wp2_with fail
  refine (HL.out _).mono ?_
  rintro e w1 ⟨rfl, hb⟩
  obtain ⟨k0, k1⟩ := blk_after hb
  have hb1 := (below2 W _ _).trans (hb.mono (by simp; omega))
  obtain ⟨⟨p0, p1, p2⟩, f0, f1, f2⟩ := three_cells k0
  have K := hid (And.intro k0 k1)
  clear hb k0 k1
  go_upto_region 4 with (fail)
  refine at_world (fun w => w.heap[W.heap.size]? = some (.cells #[.int .i64 m, .int .i64 inc, .int .i64 0] 80 (0, 0)) ∧ w.heap[W.heap.size + 1]? = some (.cells #[.int .i64 0, .int .i64 0, .int .i64 0] 80 (0, 0)) ∧ Below W.heap.size W w) ?_ ?_
  · exact ⟨set_three K.out.1 _ _ _, (Below.heap_setCell _ _ _ _ (by simp)).trans ((Below.heap_setCell _ _ _ _ (by simp)).trans ((Below.heap_setCell _ _ _ _ (by simp)).trans K.out.2)), ((hb1.setCell (by simp) _).setCell (by simp) _).setCell (by simp) _⟩
  clear K hb1 p0 p1 p2 f0 f1 f2
  rintro w2 ⟨k0, k1, hb1⟩
  obtain ⟨⟨p0, p1, p2⟩, f0, f1, f2⟩ := three_cells k0
  obtain ⟨⟨q0, q1, q2⟩, g0, g1, g2⟩ := three_cells k1
  clear k0 k1
  go_wp2
  exact bodyPost_ret (v := .tuple #[.agg #[.int .i64 m, .int .i64 inc, .int .i64 1], .int .i64 1]) (by simp [results, Tryz.results77, go_sem, q0, q1, q2]) rfl ⟨rfl, (by repeat' (first | with_reducible exact hb1 | with_reducible refine Below.setCell ?_ (by simp) _))⟩

set_option maxHeartbeats 1000000 in
theorem rtake_d2 (m p l inc me seq : Int) (W : World) (hl : 0 ≤ l) (hs : seq ≤ 9223372036854775807) (hs2 : -9223372036854775808 ≤ seq) (hl2 : l ≤ 9223372036854775807) (h : ¬ inc < p) (h1 : ¬ p < inc) (h2 : m = me) (h4 : seq = l + 1) : Calls Tryz.prog 77 #[.agg #[.int .i64 m, .int .i64 p, .int .i64 l], .int .i64 inc, .int .i64 me, .int .i64 seq] W fun e w' => e = .returned (.tuple #[.agg #[.int .i64 m, .int .i64 p, .int .i64 (l + 1)], .int .i64 1]) ∧ Below W.heap.size W w' := by
  subst h2; subst h4
  have n1 : l < 9223372036854775807 := by omega
  have n2 : ((l + 1 : Int) == l + 1) = true := by simp
  have HL := hid (rlearn_any m p l inc)
  rw [show gP p inc = p by simp [gP, h1], show gL p l inc = l by simp [gL, h1]] at HL
  go_enter Tryz.func77, Tryz.ntmps77
  go_wp2_with fail
  refine (HL.out _).mono ?_
  rintro e w1 ⟨rfl, hb⟩
  obtain ⟨k0, k1⟩ := blk_after hb
  have hb1 := (below2 W _ _).trans (hb.mono (by simp; omega))
  obtain ⟨⟨p0, p1, p2⟩, f0, f1, f2⟩ := three_cells k0
  have K := hid (And.intro k0 k1)
  clear hb k0 k1
  go_upto_region 4 with (fail)
  refine at_world (fun w => w.heap[W.heap.size]? = some (.cells #[.int .i64 m, .int .i64 p, .int .i64 l] 80 (0, 0)) ∧ w.heap[W.heap.size + 1]? = some (.cells #[.int .i64 0, .int .i64 0, .int .i64 0] 80 (0, 0)) ∧ Below W.heap.size W w) ?_ ?_
  · exact ⟨set_three K.out.1 _ _ _, (Below.heap_setCell _ _ _ _ (by simp)).trans ((Below.heap_setCell _ _ _ _ (by simp)).trans ((Below.heap_setCell _ _ _ _ (by simp)).trans K.out.2)), ((hb1.setCell (by simp) _).setCell (by simp) _).setCell (by simp) _⟩
  clear K hb1 p0 p1 p2 f0 f1 f2
  rintro w2 ⟨k0, k1, hb1⟩
  obtain ⟨⟨p0, p1, p2⟩, f0, f1, f2⟩ := three_cells k0
  obtain ⟨⟨q0, q1, q2⟩, g0, g1, g2⟩ := three_cells k1
  clear k0 k1
  go_wp2
  exact bodyPost_ret (v := .tuple #[.agg #[.int .i64 m, .int .i64 p, .int .i64 (l + 1)], .int .i64 1]) (by simp [results, Tryz.results77, go_sem, q0, q1, q2]) rfl ⟨rfl, (by repeat' (first | with_reducible exact hb1 | with_reducible refine Below.setCell ?_ (by simp) _))⟩

theorem rtake_e2 (m p l inc me seq : Int) (W : World) (hl : 0 ≤ l) (hs : seq ≤ 9223372036854775807) (hs2 : -9223372036854775808 ≤ seq) (hl2 : l ≤ 9223372036854775807) (h : ¬ inc < p) (h1 : ¬ p < inc) (h2 : m = me) (h4 : 1 ≤ seq) (h5 : seq ≤ l) (h6 : l < 9223372036854775807) : Calls Tryz.prog 77 #[.agg #[.int .i64 m, .int .i64 p, .int .i64 l], .int .i64 inc, .int .i64 me, .int .i64 seq] W fun e w' => e = .returned (.tuple #[.agg #[.int .i64 m, .int .i64 p, .int .i64 l], .int .i64 2]) ∧ Below W.heap.size W w' := by
  subst h2
  have n2 : (seq == l + 1) = false := by simp; omega
  have HL := hid (rlearn_any m p l inc)
  rw [show gP p inc = p by simp [gP, h1], show gL p l inc = l by simp [gL, h1]] at HL
  go_enter Tryz.func77, Tryz.ntmps77
  go_wp2_with fail
  refine (HL.out _).mono ?_
  rintro e w1 ⟨rfl, hb⟩
  obtain ⟨k0, k1⟩ := blk_after hb
  have hb1 := (below2 W _ _).trans (hb.mono (by simp; omega))
  obtain ⟨⟨p0, p1, p2⟩, f0, f1, f2⟩ := three_cells k0
  have K := hid (And.intro k0 k1)
  clear hb k0 k1
  go_upto_region 4 with (fail)
  refine at_world (fun w => w.heap[W.heap.size]? = some (.cells #[.int .i64 m, .int .i64 p, .int .i64 l] 80 (0, 0)) ∧ w.heap[W.heap.size + 1]? = some (.cells #[.int .i64 0, .int .i64 0, .int .i64 0] 80 (0, 0)) ∧ Below W.heap.size W w) ?_ ?_
  · exact ⟨set_three K.out.1 _ _ _, (Below.heap_setCell _ _ _ _ (by simp)).trans ((Below.heap_setCell _ _ _ _ (by simp)).trans ((Below.heap_setCell _ _ _ _ (by simp)).trans K.out.2)), ((hb1.setCell (by simp) _).setCell (by simp) _).setCell (by simp) _⟩
  clear K hb1 p0 p1 p2 f0 f1 f2
  rintro w2 ⟨k0, k1, hb1⟩
  obtain ⟨⟨p0, p1, p2⟩, f0, f1, f2⟩ := three_cells k0
  obtain ⟨⟨q0, q1, q2⟩, g0, g1, g2⟩ := three_cells k1
  clear k0 k1
  go_wp2
  exact bodyPost_ret (v := .tuple #[.agg #[.int .i64 m, .int .i64 p, .int .i64 l], .int .i64 2]) (by simp [results, Tryz.results77, go_sem, q0, q1, q2]) rfl ⟨rfl, (by repeat' (first | with_reducible exact hb1 | with_reducible refine Below.setCell ?_ (by simp) _))⟩

theorem rtake_f1 (m p l inc me seq : Int) (W : World) (hl : 0 ≤ l) (hs : seq ≤ 9223372036854775807) (hs2 : -9223372036854775808 ≤ seq) (hl2 : l ≤ 9223372036854775807) (h : ¬ inc < p) (h1 : p < inc) (h2 : m = me) (h4 : seq < 1) : Calls Tryz.prog 77 #[.agg #[.int .i64 m, .int .i64 p, .int .i64 l], .int .i64 inc, .int .i64 me, .int .i64 seq] W fun e w' => e = .returned (.tuple #[.agg #[.int .i64 m, .int .i64 inc, .int .i64 0], .int .i64 0]) ∧ Below W.heap.size W w' := by
  subst h2
  have n2 : (seq == 1) = false := by simp; omega
  have HL := hid (rlearn_any m p l inc)
  rw [show gP p inc = inc by simp [gP, h1], show gL p l inc = 0 by simp [gL, h1]] at HL
  go_enter Tryz.func77, Tryz.ntmps77
  go_wp2_with fail
  refine (HL.out _).mono ?_
  rintro e w1 ⟨rfl, hb⟩
  obtain ⟨k0, k1⟩ := blk_after hb
  have hb1 := (below2 W _ _).trans (hb.mono (by simp; omega))
  obtain ⟨⟨p0, p1, p2⟩, f0, f1, f2⟩ := three_cells k0
  have K := hid (And.intro k0 k1)
  clear hb k0 k1
  go_upto_region 4 with (fail)
  refine at_world (fun w => w.heap[W.heap.size]? = some (.cells #[.int .i64 m, .int .i64 inc, .int .i64 0] 80 (0, 0)) ∧ w.heap[W.heap.size + 1]? = some (.cells #[.int .i64 0, .int .i64 0, .int .i64 0] 80 (0, 0)) ∧ Below W.heap.size W w) ?_ ?_
  · exact ⟨set_three K.out.1 _ _ _, (Below.heap_setCell _ _ _ _ (by simp)).trans ((Below.heap_setCell _ _ _ _ (by simp)).trans ((Below.heap_setCell _ _ _ _ (by simp)).trans K.out.2)), ((hb1.setCell (by simp) _).setCell (by simp) _).setCell (by simp) _⟩
  clear K hb1 p0 p1 p2 f0 f1 f2
  rintro w2 ⟨k0, k1, hb1⟩
  obtain ⟨⟨p0, p1, p2⟩, f0, f1, f2⟩ := three_cells k0
  obtain ⟨⟨q0, q1, q2⟩, g0, g1, g2⟩ := three_cells k1
  clear k0 k1
  go_wp2
  exact bodyPost_ret (v := .tuple #[.agg #[.int .i64 m, .int .i64 inc, .int .i64 0], .int .i64 0]) (by simp [results, Tryz.results77, go_sem, q0, q1, q2]) rfl ⟨rfl, (by repeat' (first | with_reducible exact hb1 | with_reducible refine Below.setCell ?_ (by simp) _))⟩

theorem rtake_g1 (m p l inc me seq : Int) (W : World) (hl : 0 ≤ l) (hs : seq ≤ 9223372036854775807) (hs2 : -9223372036854775808 ≤ seq) (hl2 : l ≤ 9223372036854775807) (h : ¬ inc < p) (h1 : p < inc) (h2 : m = me) (h4 : 1 < seq) : Calls Tryz.prog 77 #[.agg #[.int .i64 m, .int .i64 p, .int .i64 l], .int .i64 inc, .int .i64 me, .int .i64 seq] W fun e w' => e = .returned (.tuple #[.agg #[.int .i64 m, .int .i64 inc, .int .i64 0], .int .i64 0]) ∧ Below W.heap.size W w' := by
  subst h2
  have n2 : (seq == 1) = false := by simp; omega
  have HL := hid (rlearn_any m p l inc)
  rw [show gP p inc = inc by simp [gP, h1], show gL p l inc = 0 by simp [gL, h1]] at HL
  go_enter Tryz.func77, Tryz.ntmps77
  go_wp2_with fail
  refine (HL.out _).mono ?_
  rintro e w1 ⟨rfl, hb⟩
  obtain ⟨k0, k1⟩ := blk_after hb
  have hb1 := (below2 W _ _).trans (hb.mono (by simp; omega))
  obtain ⟨⟨p0, p1, p2⟩, f0, f1, f2⟩ := three_cells k0
  have K := hid (And.intro k0 k1)
  clear hb k0 k1
  go_upto_region 4 with (fail)
  refine at_world (fun w => w.heap[W.heap.size]? = some (.cells #[.int .i64 m, .int .i64 inc, .int .i64 0] 80 (0, 0)) ∧ w.heap[W.heap.size + 1]? = some (.cells #[.int .i64 0, .int .i64 0, .int .i64 0] 80 (0, 0)) ∧ Below W.heap.size W w) ?_ ?_
  · exact ⟨set_three K.out.1 _ _ _, (Below.heap_setCell _ _ _ _ (by simp)).trans ((Below.heap_setCell _ _ _ _ (by simp)).trans ((Below.heap_setCell _ _ _ _ (by simp)).trans K.out.2)), ((hb1.setCell (by simp) _).setCell (by simp) _).setCell (by simp) _⟩
  clear K hb1 p0 p1 p2 f0 f1 f2
  rintro w2 ⟨k0, k1, hb1⟩
  obtain ⟨⟨p0, p1, p2⟩, f0, f1, f2⟩ := three_cells k0
  obtain ⟨⟨q0, q1, q2⟩, g0, g1, g2⟩ := three_cells k1
  clear k0 k1
  go_wp2
  exact bodyPost_ret (v := .tuple #[.agg #[.int .i64 m, .int .i64 inc, .int .i64 0], .int .i64 0]) (by simp [results, Tryz.results77, go_sem, q0, q1, q2]) rfl ⟨rfl, (by repeat' (first | with_reducible exact hb1 | with_reducible refine Below.setCell ?_ (by simp) _))⟩

theorem rtake_f2 (m p l inc me seq : Int) (W : World) (hl : 0 ≤ l) (hs : seq ≤ 9223372036854775807) (hs2 : -9223372036854775808 ≤ seq) (hl2 : l ≤ 9223372036854775807) (h : ¬ inc < p) (h1 : ¬ p < inc) (h2 : m = me) (h4 : seq < 1) (h6 : l < 9223372036854775807) : Calls Tryz.prog 77 #[.agg #[.int .i64 m, .int .i64 p, .int .i64 l], .int .i64 inc, .int .i64 me, .int .i64 seq] W fun e w' => e = .returned (.tuple #[.agg #[.int .i64 m, .int .i64 p, .int .i64 l], .int .i64 0]) ∧ Below W.heap.size W w' := by
  subst h2
  have n2 : (seq == l + 1) = false := by simp; omega
  have HL := hid (rlearn_any m p l inc)
  rw [show gP p inc = p by simp [gP, h1], show gL p l inc = l by simp [gL, h1]] at HL
  go_enter Tryz.func77, Tryz.ntmps77
  go_wp2_with fail
  refine (HL.out _).mono ?_
  rintro e w1 ⟨rfl, hb⟩
  obtain ⟨k0, k1⟩ := blk_after hb
  have hb1 := (below2 W _ _).trans (hb.mono (by simp; omega))
  obtain ⟨⟨p0, p1, p2⟩, f0, f1, f2⟩ := three_cells k0
  have K := hid (And.intro k0 k1)
  clear hb k0 k1
  go_upto_region 4 with (fail)
  refine at_world (fun w => w.heap[W.heap.size]? = some (.cells #[.int .i64 m, .int .i64 p, .int .i64 l] 80 (0, 0)) ∧ w.heap[W.heap.size + 1]? = some (.cells #[.int .i64 0, .int .i64 0, .int .i64 0] 80 (0, 0)) ∧ Below W.heap.size W w) ?_ ?_
  · exact ⟨set_three K.out.1 _ _ _, (Below.heap_setCell _ _ _ _ (by simp)).trans ((Below.heap_setCell _ _ _ _ (by simp)).trans ((Below.heap_setCell _ _ _ _ (by simp)).trans K.out.2)), ((hb1.setCell (by simp) _).setCell (by simp) _).setCell (by simp) _⟩
  clear K hb1 p0 p1 p2 f0 f1 f2
  rintro w2 ⟨k0, k1, hb1⟩
  obtain ⟨⟨p0, p1, p2⟩, f0, f1, f2⟩ := three_cells k0
  obtain ⟨⟨q0, q1, q2⟩, g0, g1, g2⟩ := three_cells k1
  clear k0 k1
  go_wp2
  exact bodyPost_ret (v := .tuple #[.agg #[.int .i64 m, .int .i64 p, .int .i64 l], .int .i64 0]) (by simp [results, Tryz.results77, go_sem, q0, q1, q2]) rfl ⟨rfl, (by repeat' (first | with_reducible exact hb1 | with_reducible refine Below.setCell ?_ (by simp) _))⟩

theorem rtake_e3 (m p l inc me seq : Int) (W : World) (hl : 0 ≤ l) (hs : seq ≤ 9223372036854775807) (hs2 : -9223372036854775808 ≤ seq) (hl2 : l ≤ 9223372036854775807) (h : ¬ inc < p) (h1 : ¬ p < inc) (h2 : m = me) (h4 : 1 ≤ seq) (h5 : seq ≤ l) (h6 : ¬ l < 9223372036854775807) : Calls Tryz.prog 77 #[.agg #[.int .i64 m, .int .i64 p, .int .i64 l], .int .i64 inc, .int .i64 me, .int .i64 seq] W fun e w' => e = .returned (.tuple #[.agg #[.int .i64 m, .int .i64 p, .int .i64 l], .int .i64 2]) ∧ Below W.heap.size W w' := by
  subst h2
  have HL := hid (rlearn_any m p l inc)
  rw [show gP p inc = p by simp [gP, h1], show gL p l inc = l by simp [gL, h1]] at HL
  go_enter Tryz.func77, Tryz.ntmps77
  go_wp2_with fail
  refine (HL.out _).mono ?_
  rintro e w1 ⟨rfl, hb⟩
  obtain ⟨k0, k1⟩ := blk_after hb
  have hb1 := (below2 W _ _).trans (hb.mono (by simp; omega))
  obtain ⟨⟨p0, p1, p2⟩, f0, f1, f2⟩ := three_cells k0
  have K := hid (And.intro k0 k1)
  clear hb k0 k1
  go_upto_region 4 with (fail)
  refine at_world (fun w => w.heap[W.heap.size]? = some (.cells #[.int .i64 m, .int .i64 p, .int .i64 l] 80 (0, 0)) ∧ w.heap[W.heap.size + 1]? = some (.cells #[.int .i64 0, .int .i64 0, .int .i64 0] 80 (0, 0)) ∧ Below W.heap.size W w) ?_ ?_
  · exact ⟨set_three K.out.1 _ _ _, (Below.heap_setCell _ _ _ _ (by simp)).trans ((Below.heap_setCell _ _ _ _ (by simp)).trans ((Below.heap_setCell _ _ _ _ (by simp)).trans K.out.2)), ((hb1.setCell (by simp) _).setCell (by simp) _).setCell (by simp) _⟩
  clear K hb1 p0 p1 p2 f0 f1 f2
  rintro w2 ⟨k0, k1, hb1⟩
  obtain ⟨⟨p0, p1, p2⟩, f0, f1, f2⟩ := three_cells k0
  obtain ⟨⟨q0, q1, q2⟩, g0, g1, g2⟩ := three_cells k1
  clear k0 k1
  go_wp2
  exact bodyPost_ret (v := .tuple #[.agg #[.int .i64 m, .int .i64 p, .int .i64 l], .int .i64 2]) (by simp [results, Tryz.results77, go_sem, q0, q1, q2]) rfl ⟨rfl, (by repeat' (first | with_reducible exact hb1 | with_reducible refine Below.setCell ?_ (by simp) _))⟩

theorem rtake_f3 (m p l inc me seq : Int) (W : World) (hl : 0 ≤ l) (hs : seq ≤ 9223372036854775807) (hs2 : -9223372036854775808 ≤ seq) (hl2 : l ≤ 9223372036854775807) (h : ¬ inc < p) (h1 : ¬ p < inc) (h2 : m = me) (h4 : seq < 1) (h6 : ¬ l < 9223372036854775807) : Calls Tryz.prog 77 #[.agg #[.int .i64 m, .int .i64 p, .int .i64 l], .int .i64 inc, .int .i64 me, .int .i64 seq] W fun e w' => e = .returned (.tuple #[.agg #[.int .i64 m, .int .i64 p, .int .i64 l], .int .i64 0]) ∧ Below W.heap.size W w' := by
  subst h2
  have HL := hid (rlearn_any m p l inc)
  rw [show gP p inc = p by simp [gP, h1], show gL p l inc = l by simp [gL, h1]] at HL
  go_enter Tryz.func77, Tryz.ntmps77
  go_wp2_with fail
  refine (HL.out _).mono ?_
  rintro e w1 ⟨rfl, hb⟩
  obtain ⟨k0, k1⟩ := blk_after hb
  have hb1 := (below2 W _ _).trans (hb.mono (by simp; omega))
  obtain ⟨⟨p0, p1, p2⟩, f0, f1, f2⟩ := three_cells k0
  have K := hid (And.intro k0 k1)
  clear hb k0 k1
  go_upto_region 4 with (fail)
  refine at_world (fun w => w.heap[W.heap.size]? = some (.cells #[.int .i64 m, .int .i64 p, .int .i64 l] 80 (0, 0)) ∧ w.heap[W.heap.size + 1]? = some (.cells #[.int .i64 0, .int .i64 0, .int .i64 0] 80 (0, 0)) ∧ Below W.heap.size W w) ?_ ?_
  · exact ⟨set_three K.out.1 _ _ _, (Below.heap_setCell _ _ _ _ (by simp)).trans ((Below.heap_setCell _ _ _ _ (by simp)).trans ((Below.heap_setCell _ _ _ _ (by simp)).trans K.out.2)), ((hb1.setCell (by simp) _).setCell (by simp) _).setCell (by simp) _⟩
  clear K hb1 p0 p1 p2 f0 f1 f2
  rintro w2 ⟨k0, k1, hb1⟩
  obtain ⟨⟨p0, p1, p2⟩, f0, f1, f2⟩ := three_cells k0
  obtain ⟨⟨q0, q1, q2⟩, g0, g1, g2⟩ := three_cells k1
  clear k0 k1
  go_wp2
  exact bodyPost_ret (v := .tuple #[.agg #[.int .i64 m, .int .i64 p, .int .i64 l], .int .i64 0]) (by simp [results, Tryz.results77, go_sem, q0, q1, q2]) rfl ⟨rfl, (by repeat' (first | with_reducible exact hb1 | with_reducible refine Below.setCell ?_ (by simp) _))⟩

theorem rtake_g2 (m p l inc me seq : Int) (W : World) (hl : 0 ≤ l) (hs : seq ≤ 9223372036854775807) (hs2 : -9223372036854775808 ≤ seq) (hl2 : l ≤ 9223372036854775807) (h : ¬ inc < p) (h1 : ¬ p < inc) (h2 : m = me) (h4 : l + 1 < seq) : Calls Tryz.prog 77 #[.agg #[.int .i64 m, .int .i64 p, .int .i64 l], .int .i64 inc, .int .i64 me, .int .i64 seq] W fun e w' => e = .returned (.tuple #[.agg #[.int .i64 m, .int .i64 p, .int .i64 l], .int .i64 0]) ∧ Below W.heap.size W w' := by
  subst h2
  have n2 : (seq == l + 1) = false := by simp; omega
  have HL := hid (rlearn_any m p l inc)
  rw [show gP p inc = p by simp [gP, h1], show gL p l inc = l by simp [gL, h1]] at HL
  go_enter Tryz.func77, Tryz.ntmps77
  go_wp2_with fail
  refine (HL.out _).mono ?_
  rintro e w1 ⟨rfl, hb⟩
  obtain ⟨k0, k1⟩ := blk_after hb
  have hb1 := (below2 W _ _).trans (hb.mono (by simp; omega))
  obtain ⟨⟨p0, p1, p2⟩, f0, f1, f2⟩ := three_cells k0
  have K := hid (And.intro k0 k1)
  clear hb k0 k1
  go_upto_region 4 with (fail)
  refine at_world (fun w => w.heap[W.heap.size]? = some (.cells #[.int .i64 m, .int .i64 p, .int .i64 l] 80 (0, 0)) ∧ w.heap[W.heap.size + 1]? = some (.cells #[.int .i64 0, .int .i64 0, .int .i64 0] 80 (0, 0)) ∧ Below W.heap.size W w) ?_ ?_
  · exact ⟨set_three K.out.1 _ _ _, (Below.heap_setCell _ _ _ _ (by simp)).trans ((Below.heap_setCell _ _ _ _ (by simp)).trans ((Below.heap_setCell _ _ _ _ (by simp)).trans K.out.2)), ((hb1.setCell (by simp) _).setCell (by simp) _).setCell (by simp) _⟩
  clear K hb1 p0 p1 p2 f0 f1 f2
  rintro w2 ⟨k0, k1, hb1⟩
  obtain ⟨⟨p0, p1, p2⟩, f0, f1, f2⟩ := three_cells k0
  obtain ⟨⟨q0, q1, q2⟩, g0, g1, g2⟩ := three_cells k1
  clear k0 k1
  go_wp2
  exact bodyPost_ret (v := .tuple #[.agg #[.int .i64 m, .int .i64 p, .int .i64 l], .int .i64 0]) (by simp [results, Tryz.results77, go_sem, q0, q1, q2]) rfl ⟨rfl, (by repeat' (first | with_reducible exact hb1 | with_reducible refine Below.setCell ?_ (by simp) _))⟩

end Go.Proofs.YtdphdodjidbngaaGreat

namespace Go.Proofs.YtdphdodjidbngaaGreat
open Go.RowKit Go.Sort

theorem g_case {m p l inc me seq : Int} (hl : 0 ≤ l) :
    (inc < p ∧ gC m p l inc me seq = 0 ∧ gN m p l inc me seq = l ∧ gP p inc = p) ∨
    (¬ inc < p ∧ me < m ∧ gC m p l inc me seq = 3 ∧ gN m p l inc me seq = gL p l inc) ∨
    (¬ inc < p ∧ m < me ∧ gC m p l inc me seq = 0 ∧ gN m p l inc me seq = gL p l inc) ∨
    (¬ inc < p ∧ m = me ∧ seq = gL p l inc + 1 ∧ gC m p l inc me seq = 1 ∧ gN m p l inc me seq = seq) ∨
    (¬ inc < p ∧ m = me ∧ 1 ≤ seq ∧ seq ≤ gL p l inc ∧ gC m p l inc me seq = 2 ∧ gN m p l inc me seq = gL p l inc) ∨
    (¬ inc < p ∧ m = me ∧ (seq < 1 ∨ gL p l inc + 1 < seq) ∧ gC m p l inc me seq = 0 ∧ gN m p l inc me seq = gL p l inc) := by
  unfold gN gC gP
  have : 0 ≤ gL p l inc := by unfold gL; split <;> omega
  generalize gL p l inc = g at *
  by_cases h : inc < p
  · left; simp [h]; omega
  · right
    by_cases h1 : me < m
    · left; simp [h, h1]
    · right
      by_cases h2 : m < me
      · left; simp [h, h1, h2]
      · right
        obtain rfl : m = me := by omega
        by_cases h3 : seq = g + 1
        · left; simp [h, h3]
        · right
          by_cases h4 : 1 ≤ seq ∧ seq ≤ g
          · left; simp [h, h3, h4]
          · right; simp [h, h3, h4]; omega

theorem gtake_any (m p l inc me seq : Int) (W : World) (hl : 0 ≤ l) (hs : seq ≤ 9223372036854775807) (hs2 : -9223372036854775808 ≤ seq) (hl2 : l ≤ 9223372036854775807) :
    Calls Tryz.prog 103 #[.agg #[.int .i64 m, .int .i64 p, .int .i64 l], .int .i64 inc, .int .i64 me, .int .i64 seq] W fun e w' => e = .returned (.tuple #[.agg #[.int .i64 m, .int .i64 (gP p inc), .int .i64 (gN m p l inc me seq)], .int .i64 (gC m p l inc me seq)]) ∧ Below W.heap.size W w' := by
  by_cases h1 : p < inc
  · have e1 : gP p inc = inc := by simp [gP, h1]
    have e2 : gL p l inc = 0 := by simp [gL, h1]
    rcases g_case (m := m) (p := p) (inc := inc) (me := me) (seq := seq) hl with ⟨a, _⟩ | ⟨a, b, c, d⟩ | ⟨a, b, c, d⟩ | ⟨a, b, b2, c, d⟩ | ⟨a, b, b2, b3, c, d⟩ | ⟨a, b, b2, c, d⟩
    · omega
    · rw [c, d, e1, e2]; exact take_b1 m p l inc me seq W hl hs hs2 hl2 a h1 b
    · rw [c, d, e1, e2]; exact take_c1 m p l inc me seq W hl hs hs2 hl2 a h1 b
    · rw [c, d, e1]; rw [e2] at b2; have b2 : seq = 1 := by omega
      have := take_d1 m p l inc me seq W hl hs hs2 hl2 a h1 b b2
      rw [b2] at this ⊢; exact this
    · omega
    · rw [c, d, e1, e2]; rw [e2] at b2
      rcases b2 with b2 | b2
      · exact take_f1 m p l inc me seq W hl hs hs2 hl2 a h1 b b2
      · exact take_g1 m p l inc me seq W hl hs hs2 hl2 a h1 b (by omega)
  · have e1 : gP p inc = p := by simp [gP, h1]
    have e2 : gL p l inc = l := by simp [gL, h1]
    rcases g_case (m := m) (p := p) (inc := inc) (me := me) (seq := seq) hl with ⟨a, c, d, _⟩ | ⟨a, b, c, d⟩ | ⟨a, b, c, d⟩ | ⟨a, b, b2, c, d⟩ | ⟨a, b, b2, b3, c, d⟩ | ⟨a, b, b2, c, d⟩
    · rw [c, d, e1]; exact take_a m p l inc me seq W hl hs hs2 hl2 a
    · rw [c, d, e1, e2]; exact take_b2 m p l inc me seq W hl hs hs2 hl2 a h1 b
    · rw [c, d, e1, e2]; exact take_c2 m p l inc me seq W hl hs hs2 hl2 a h1 b
    · rw [c, d, e1]; rw [e2] at b2
      have := take_d2 m p l inc me seq W hl hs hs2 hl2 a h1 b b2
      rw [b2] at this ⊢; exact this
    · rw [c, d, e1, e2]; rw [e2] at b3; exact take_e2 m p l inc me seq W hl hs hs2 hl2 a h1 b b2 b3
    · rw [c, d, e1, e2]; rw [e2] at b2
      rcases b2 with b2 | b2
      · exact take_f2 m p l inc me seq W hl hs hs2 hl2 a h1 b b2
      · exact take_g2 m p l inc me seq W hl hs hs2 hl2 a h1 b b2

theorem rtake_any (m p l inc me seq : Int) (W : World) (hl : 0 ≤ l) (hs : seq ≤ 9223372036854775807) (hs2 : -9223372036854775808 ≤ seq) (hl2 : l ≤ 9223372036854775807) :
    Calls Tryz.prog 77 #[.agg #[.int .i64 m, .int .i64 p, .int .i64 l], .int .i64 inc, .int .i64 me, .int .i64 seq] W fun e w' => e = .returned (.tuple #[.agg #[.int .i64 m, .int .i64 (gP p inc), .int .i64 (gN m p l inc me seq)], .int .i64 (gC m p l inc me seq)]) ∧ Below W.heap.size W w' := by
  by_cases h1 : p < inc
  · have e1 : gP p inc = inc := by simp [gP, h1]
    have e2 : gL p l inc = 0 := by simp [gL, h1]
    rcases g_case (m := m) (p := p) (inc := inc) (me := me) (seq := seq) hl with ⟨a, _⟩ | ⟨a, b, c, d⟩ | ⟨a, b, c, d⟩ | ⟨a, b, b2, c, d⟩ | ⟨a, b, b2, b3, c, d⟩ | ⟨a, b, b2, c, d⟩
    · omega
    · rw [c, d, e1, e2]; exact rtake_b1 m p l inc me seq W hl hs hs2 hl2 a h1 b
    · rw [c, d, e1, e2]; exact rtake_c1 m p l inc me seq W hl hs hs2 hl2 a h1 b
    · rw [c, d, e1]; rw [e2] at b2; have b2 : seq = 1 := by omega
      have := rtake_d1 m p l inc me seq W hl hs hs2 hl2 a h1 b b2
      rw [b2] at this ⊢; exact this
    · omega
    · rw [c, d, e1, e2]; rw [e2] at b2
      rcases b2 with b2 | b2
      · exact rtake_f1 m p l inc me seq W hl hs hs2 hl2 a h1 b b2
      · exact rtake_g1 m p l inc me seq W hl hs hs2 hl2 a h1 b (by omega)
  · have e1 : gP p inc = p := by simp [gP, h1]
    have e2 : gL p l inc = l := by simp [gL, h1]
    rcases g_case (m := m) (p := p) (inc := inc) (me := me) (seq := seq) hl with ⟨a, c, d, _⟩ | ⟨a, b, c, d⟩ | ⟨a, b, c, d⟩ | ⟨a, b, b2, c, d⟩ | ⟨a, b, b2, b3, c, d⟩ | ⟨a, b, b2, c, d⟩
    · rw [c, d, e1]; exact rtake_a m p l inc me seq W hl hs hs2 hl2 a
    · rw [c, d, e1, e2]; exact rtake_b2 m p l inc me seq W hl hs hs2 hl2 a h1 b
    · rw [c, d, e1, e2]; exact rtake_c2 m p l inc me seq W hl hs hs2 hl2 a h1 b
    · rw [c, d, e1]; rw [e2] at b2
      have := rtake_d2 m p l inc me seq W hl hs hs2 hl2 a h1 b b2
      rw [b2] at this ⊢; exact this
    · rw [c, d, e1, e2]; rw [e2] at b3
      by_cases h6 : l < 9223372036854775807
      · exact rtake_e2 m p l inc me seq W hl hs hs2 hl2 a h1 b b2 b3 h6
      · exact rtake_e3 m p l inc me seq W hl hs hs2 hl2 a h1 b b2 b3 h6
    · rw [c, d, e1, e2]; rw [e2] at b2
      rcases b2 with b2 | b2
      · by_cases h6 : l < 9223372036854775807
        · exact rtake_f2 m p l inc me seq W hl hs hs2 hl2 a h1 b b2 h6
        · exact rtake_f3 m p l inc me seq W hl hs hs2 hl2 a h1 b b2 h6
      · exact rtake_g2 m p l inc me seq W hl hs hs2 hl2 a h1 b b2

end Go.Proofs.YtdphdodjidbngaaGreat

