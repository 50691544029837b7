/- The laws on the seen package, as walks. -/
import Derived.Test.YtaeonkggilgjpabSeenA
import Derived.Test.YtaeonkggilgjpabSeenB
import Derived.StillTailTactics
namespace Go.Proofs.Ytaeonkggilgjpab
open Go.RowKit Go.Sort

theorem g_case {m p l inc me seq : Int} (hl : 0 ≤ l) :
    (inc < p ∧ gC m p l inc me seq = 0 ∧ gN m p l inc me seq = l ∧ gP p inc = p) ∨
    (¬ inc < p ∧ me < m ∧ gC m p l inc me seq = 3 ∧ gN m p l inc me seq = gL p l inc) ∨
    (¬ inc < p ∧ m < me ∧ gC m p l inc me seq = 0 ∧ gN m p l inc me seq = gL p l inc) ∨
    (¬ inc < p ∧ m = me ∧ seq = gL p l inc + 1 ∧ gC m p l inc me seq = 1 ∧ gN m p l inc me seq = seq) ∨
    (¬ inc < p ∧ m = me ∧ 1 ≤ seq ∧ seq ≤ gL p l inc ∧ gC m p l inc me seq = 2 ∧ gN m p l inc me seq = gL p l inc) ∨
    (¬ inc < p ∧ m = me ∧ (seq < 1 ∨ gL p l inc + 1 < seq) ∧ gC m p l inc me seq = 0 ∧ gN m p l inc me seq = gL p l inc) := by
  unfold gN gC gP
  have : 0 ≤ gL p l inc := by unfold gL; split <;> omega
  generalize gL p l inc = g at *
  by_cases h : inc < p
  · left; simp [h]; omega
  · right
    by_cases h1 : me < m
    · left; simp [h, h1]
    · right
      by_cases h2 : m < me
      · left; simp [h, h1, h2]
      · right
        obtain rfl : m = me := by omega
        by_cases h3 : seq = g + 1
        · left; simp [h, h3]
        · right
          by_cases h4 : 1 ≤ seq ∧ seq ≤ g
          · left; simp [h, h3, h4]
          · right; simp [h, h3, h4]; omega

theorem take_any (m p l inc me seq : Int) (W : World) (hl : 0 ≤ l) (hs : seq ≤ 9223372036854775807) (hs2 : -9223372036854775808 ≤ seq) (hl2 : l ≤ 9223372036854775807) :
    Calls Try.prog 15 #[.agg #[.int .i64 m, .int .i64 p, .int .i64 l], .int .i64 inc, .int .i64 me, .int .i64 seq] W fun e w' => e = .returned (.tuple #[.agg #[.int .i64 m, .int .i64 (gP p inc), .int .i64 (gN m p l inc me seq)], .int .i64 (gC m p l inc me seq)]) ∧ Below W.heap.size W w' := by
  by_cases h1 : p < inc
  · have e1 : gP p inc = inc := by simp [gP, h1]
    have e2 : gL p l inc = 0 := by simp [gL, h1]
    rcases g_case (m := m) (p := p) (inc := inc) (me := me) (seq := seq) hl with ⟨a, _⟩ | ⟨a, b, c, d⟩ | ⟨a, b, c, d⟩ | ⟨a, b, b2, c, d⟩ | ⟨a, b, b2, b3, c, d⟩ | ⟨a, b, b2, c, d⟩
    · omega
    · rw [c, d, e1, e2]; exact take_b1 m p l inc me seq W hl hs hs2 hl2 a h1 b
    · rw [c, d, e1, e2]; exact take_c1 m p l inc me seq W hl hs hs2 hl2 a h1 b
    · rw [c, d, e1]; rw [e2] at b2; have b2 : seq = 1 := by omega
      have := take_d1 m p l inc me seq W hl hs hs2 hl2 a h1 b b2
      rw [b2] at this ⊢; exact this
    · omega
    · rw [c, d, e1, e2]; rw [e2] at b2
      rcases b2 with b2 | b2
      · exact take_f1 m p l inc me seq W hl hs hs2 hl2 a h1 b b2
      · exact take_g1 m p l inc me seq W hl hs hs2 hl2 a h1 b (by omega)
  · have e1 : gP p inc = p := by simp [gP, h1]
    have e2 : gL p l inc = l := by simp [gL, h1]
    rcases g_case (m := m) (p := p) (inc := inc) (me := me) (seq := seq) hl with ⟨a, c, d, _⟩ | ⟨a, b, c, d⟩ | ⟨a, b, c, d⟩ | ⟨a, b, b2, c, d⟩ | ⟨a, b, b2, b3, c, d⟩ | ⟨a, b, b2, c, d⟩
    · rw [c, d, e1]; exact take_a m p l inc me seq W hl hs hs2 hl2 a
    · rw [c, d, e1, e2]; exact take_b2 m p l inc me seq W hl hs hs2 hl2 a h1 b
    · rw [c, d, e1, e2]; exact take_c2 m p l inc me seq W hl hs hs2 hl2 a h1 b
    · rw [c, d, e1]; rw [e2] at b2
      have := take_d2 m p l inc me seq W hl hs hs2 hl2 a h1 b b2
      rw [b2] at this ⊢; exact this
    · rw [c, d, e1, e2]; rw [e2] at b3; exact take_e2 m p l inc me seq W hl hs hs2 hl2 a h1 b b2 b3
    · rw [c, d, e1, e2]; rw [e2] at b2
      rcases b2 with b2 | b2
      · exact take_f2 m p l inc me seq W hl hs hs2 hl2 a h1 b b2
      · exact take_g2 m p l inc me seq W hl hs hs2 hl2 a h1 b b2

theorem rtake_any (m p l inc me seq : Int) (W : World) (hl : 0 ≤ l) (hs : seq ≤ 9223372036854775807) (hs2 : -9223372036854775808 ≤ seq) (hl2 : l ≤ 9223372036854775807) :
    Calls Try.prog 16 #[.agg #[.int .i64 m, .int .i64 p, .int .i64 l], .int .i64 inc, .int .i64 me, .int .i64 seq] W fun e w' => e = .returned (.tuple #[.agg #[.int .i64 m, .int .i64 (gP p inc), .int .i64 (gN m p l inc me seq)], .int .i64 (gC m p l inc me seq)]) ∧ Below W.heap.size W w' := by
  by_cases h1 : p < inc
  · have e1 : gP p inc = inc := by simp [gP, h1]
    have e2 : gL p l inc = 0 := by simp [gL, h1]
    rcases g_case (m := m) (p := p) (inc := inc) (me := me) (seq := seq) hl with ⟨a, _⟩ | ⟨a, b, c, d⟩ | ⟨a, b, c, d⟩ | ⟨a, b, b2, c, d⟩ | ⟨a, b, b2, b3, c, d⟩ | ⟨a, b, b2, c, d⟩
    · omega
    · rw [c, d, e1, e2]; exact rtake_b1 m p l inc me seq W hl hs hs2 hl2 a h1 b
    · rw [c, d, e1, e2]; exact rtake_c1 m p l inc me seq W hl hs hs2 hl2 a h1 b
    · rw [c, d, e1]; rw [e2] at b2; have b2 : seq = 1 := by omega
      have := rtake_d1 m p l inc me seq W hl hs hs2 hl2 a h1 b b2
      rw [b2] at this ⊢; exact this
    · omega
    · rw [c, d, e1, e2]; rw [e2] at b2
      rcases b2 with b2 | b2
      · exact rtake_f1 m p l inc me seq W hl hs hs2 hl2 a h1 b b2
      · exact rtake_g1 m p l inc me seq W hl hs hs2 hl2 a h1 b (by omega)
  · have e1 : gP p inc = p := by simp [gP, h1]
    have e2 : gL p l inc = l := by simp [gL, h1]
    rcases g_case (m := m) (p := p) (inc := inc) (me := me) (seq := seq) hl with ⟨a, c, d, _⟩ | ⟨a, b, c, d⟩ | ⟨a, b, c, d⟩ | ⟨a, b, b2, c, d⟩ | ⟨a, b, b2, b3, c, d⟩ | ⟨a, b, b2, c, d⟩
    · rw [c, d, e1]; exact rtake_a m p l inc me seq W hl hs hs2 hl2 a
    · rw [c, d, e1, e2]; exact rtake_b2 m p l inc me seq W hl hs hs2 hl2 a h1 b
    · rw [c, d, e1, e2]; exact rtake_c2 m p l inc me seq W hl hs hs2 hl2 a h1 b
    · rw [c, d, e1]; rw [e2] at b2
      have := rtake_d2 m p l inc me seq W hl hs hs2 hl2 a h1 b b2
      rw [b2] at this ⊢; exact this
    · rw [c, d, e1, e2]; rw [e2] at b3
      by_cases h6 : l < 9223372036854775807
      · exact rtake_e2 m p l inc me seq W hl hs hs2 hl2 a h1 b b2 b3 h6
      · exact rtake_e3 m p l inc me seq W hl hs hs2 hl2 a h1 b b2 b3 h6
    · rw [c, d, e1, e2]; rw [e2] at b2
      rcases b2 with b2 | b2
      · by_cases h6 : l < 9223372036854775807
        · exact rtake_f2 m p l inc me seq W hl hs hs2 hl2 a h1 b b2 h6
        · exact rtake_f3 m p l inc me seq W hl hs hs2 hl2 a h1 b b2 h6
      · exact rtake_g2 m p l inc me seq W hl hs hs2 hl2 a h1 b b2

set_option maxHeartbeats 1000000 in
theorem works25_any (W : World) : Calls Try.prog 14 #[] W fun e w' => e = .returned (.bool true) ∧ Below W.heap.size W w' := by
  have T1 := hid (fun w => take_any 2 1 0 1 2 1 w (by omega) (by omega) (by omega) (by omega))
  have T2 := hid (fun w => take_any 2 1 1 1 2 1 w (by omega) (by omega) (by omega) (by omega))
  have T3 := hid (fun w => take_any 2 1 1 1 1 2 w (by omega) (by omega) (by omega) (by omega))
  have T4 := hid (fun w => take_any 2 1 1 3 2 1 w (by omega) (by omega) (by omega) (by omega))
  have T5 := hid (fun w => take_any 2 3 1 1 2 2 w (by omega) (by omega) (by omega) (by omega))
  rw [show gC 2 1 0 1 2 1 = 1 from rfl, show gN 2 1 0 1 2 1 = 1 from rfl, show gP 1 1 = 1 from rfl] at T1
  rw [show gC 2 1 1 1 2 1 = 2 from rfl, show gN 2 1 1 1 2 1 = 1 from rfl, show gP 1 1 = 1 from rfl] at T2
  rw [show gC 2 1 1 1 1 2 = 3 from rfl, show gN 2 1 1 1 1 2 = 1 from rfl, show gP 1 1 = 1 from rfl] at T3
  rw [show gC 2 1 1 3 2 1 = 1 from rfl, show gN 2 1 1 3 2 1 = 1 from rfl, show gP 1 3 = 3 from rfl] at T4
  rw [show gC 2 3 1 1 2 2 = 0 from rfl, show gN 2 3 1 1 2 2 = 1 from rfl, show gP 3 1 = 3 from rfl] at T5
  go_enter Try.func14, Try.ntmps14
  go_wp2_with fail
  refine (snew_any 2 _).mono ?_
  rintro e w1 ⟨rfl, hb1⟩
  go_wp2_with fail
  refine (T1.out _).mono ?_
  rintro e w2 ⟨rfl, hb2⟩
  replace hb2 := hb1.trans (hb2.mono hb1.size)
  have k2 := heap_alloc_new w2 (.cells #[.int .i64 2, .int .i64 1, .int .i64 1] 26)
  have hb3 := hb2.alloc hb2.size (.cells #[.int .i64 2, .int .i64 1, .int .i64 1] 26)
  go_upto_region 2 with (fail)
  refine at_world (fun w => w.heap[w2.heap.size]? = some (.cells #[.int .i64 2, .int .i64 1, .int .i64 1] 26 (0, 0)) ∧ Below W.heap.size W w) ⟨k2, hb3⟩ ?_
  clear k2 hb3 hb1
  rintro w3 ⟨k3, hb3⟩
  obtain ⟨⟨p0, p1, p2⟩, _⟩ := three_cells k3
  have K3 := hid k3
  have hlt := lt_of_cell p0
  clear k3
  go_wp2_with fail
  refine (T2.out _).mono ?_
  rintro e w4 ⟨rfl, hb4⟩
  have k4 := (hb4.block _ hlt).trans K3.out
  replace hb4 := hb3.trans (hb4.mono hb3.size)
  have hlt4 := lt_of_cell (three_cells k4).1.1
  go_upto_region 3 with (fail)
  refine at_world (fun w => w.heap[w2.heap.size]? = some (.cells #[.int .i64 2, .int .i64 1, .int .i64 1] 26 (0, 0)) ∧ Below W.heap.size W w) ⟨(Below.heap_alloc _ _ _ hlt4).trans k4, hb4.alloc hb4.size _⟩ ?_
  clear K3 hlt p0 p1 p2 hb3 k4 hb4 hlt4
  rintro w5 ⟨k3, hb3⟩
  obtain ⟨⟨p0, p1, p2⟩, _⟩ := three_cells k3
  have K3 := hid k3
  have hlt := lt_of_cell p0
  clear k3
  go_wp2_with fail
  refine (T3.out _).mono ?_
  rintro e w6 ⟨rfl, hb4⟩
  have k4 := (hb4.block _ hlt).trans K3.out
  replace hb4 := hb3.trans (hb4.mono hb3.size)
  have hlt4 := lt_of_cell (three_cells k4).1.1
  go_upto_region 4 with (fail)
  refine at_world (fun w => w.heap[w2.heap.size]? = some (.cells #[.int .i64 2, .int .i64 1, .int .i64 1] 26 (0, 0)) ∧ Below W.heap.size W w) ⟨(Below.heap_alloc _ _ _ hlt4).trans k4, hb4.alloc hb4.size _⟩ ?_
  clear K3 hlt p0 p1 p2 hb3 k4 hb4 hlt4
  rintro w7 ⟨k3, hb3⟩
  obtain ⟨⟨p0, p1, p2⟩, _⟩ := three_cells k3
  clear k3
  go_wp2_with fail
  refine (T4.out _).mono ?_
  rintro e w8 ⟨rfl, hb4⟩
  replace hb4 := hb3.trans (hb4.mono hb3.size)
  go_wp2_with fail
  refine (T5.out _).mono ?_
  rintro e w9 ⟨rfl, hb5⟩
  have hb6 := (hb4.alloc hb4.size _).trans (hb5.mono (by simp; have := hb4.size; omega))
  go_wp2
  go_ret
  exact ⟨rfl, hb6.alloc hb6.size _⟩
end Go.Proofs.Ytaeonkggilgjpab
