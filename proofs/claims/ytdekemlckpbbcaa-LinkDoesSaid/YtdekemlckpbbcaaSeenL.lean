/- The laws on the seen package, as walks. -/
import Derived.Test.YtdekemlckpbbcaaSeenA
import Derived.Test.YtdekemlckpbbcaaSeenB
import Derived.StillTailTactics
namespace Go.Proofs.Ytdekemlckpbbcaa
open Go.RowKit Go.Sort

theorem g_case {m p l inc me seq : Int} (hl : 0 ≤ l) :
    (inc < p ∧ gC m p l inc me seq = 0 ∧ gN m p l inc me seq = l ∧ gP p inc = p) ∨
    (¬ inc < p ∧ me < m ∧ gC m p l inc me seq = 3 ∧ gN m p l inc me seq = gL p l inc) ∨
    (¬ inc < p ∧ m < me ∧ gC m p l inc me seq = 0 ∧ gN m p l inc me seq = gL p l inc) ∨
    (¬ inc < p ∧ m = me ∧ seq = gL p l inc + 1 ∧ gC m p l inc me seq = 1 ∧ gN m p l inc me seq = seq) ∨
    (¬ inc < p ∧ m = me ∧ 1 ≤ seq ∧ seq ≤ gL p l inc ∧ gC m p l inc me seq = 2 ∧ gN m p l inc me seq = gL p l inc) ∨
    (¬ inc < p ∧ m = me ∧ (seq < 1 ∨ gL p l inc + 1 < seq) ∧ gC m p l inc me seq = 0 ∧ gN m p l inc me seq = gL p l inc) := by
  unfold gN gC gP
  have : 0 ≤ gL p l inc := by unfold gL; split <;> omega
  generalize gL p l inc = g at *
  by_cases h : inc < p
  · left; simp [h]; omega
  · right
    by_cases h1 : me < m
    · left; simp [h, h1]
    · right
      by_cases h2 : m < me
      · left; simp [h, h1, h2]
      · right
        obtain rfl : m = me := by omega
        by_cases h3 : seq = g + 1
        · left; simp [h, h3]
        · right
          by_cases h4 : 1 ≤ seq ∧ seq ≤ g
          · left; simp [h, h3, h4]
          · right; simp [h, h3, h4]; omega

theorem gtake_any (m p l inc me seq : Int) (W : World) (hl : 0 ≤ l) (hs : seq ≤ 9223372036854775807) (hs2 : -9223372036854775808 ≤ seq) (hl2 : l ≤ 9223372036854775807) :
    Calls Try.prog 78 #[.agg #[.int .i64 m, .int .i64 p, .int .i64 l], .int .i64 inc, .int .i64 me, .int .i64 seq] W fun e w' => e = .returned (.tuple #[.agg #[.int .i64 m, .int .i64 (gP p inc), .int .i64 (gN m p l inc me seq)], .int .i64 (gC m p l inc me seq)]) ∧ Below W.heap.size W w' := by
  by_cases h1 : p < inc
  · have e1 : gP p inc = inc := by simp [gP, h1]
    have e2 : gL p l inc = 0 := by simp [gL, h1]
    rcases g_case (m := m) (p := p) (inc := inc) (me := me) (seq := seq) hl with ⟨a, _⟩ | ⟨a, b, c, d⟩ | ⟨a, b, c, d⟩ | ⟨a, b, b2, c, d⟩ | ⟨a, b, b2, b3, c, d⟩ | ⟨a, b, b2, c, d⟩
    · omega
    · rw [c, d, e1, e2]; exact take_b1 m p l inc me seq W hl hs hs2 hl2 a h1 b
    · rw [c, d, e1, e2]; exact take_c1 m p l inc me seq W hl hs hs2 hl2 a h1 b
    · rw [c, d, e1]; rw [e2] at b2; have b2 : seq = 1 := by omega
      have := take_d1 m p l inc me seq W hl hs hs2 hl2 a h1 b b2
      rw [b2] at this ⊢; exact this
    · omega
    · rw [c, d, e1, e2]; rw [e2] at b2
      rcases b2 with b2 | b2
      · exact take_f1 m p l inc me seq W hl hs hs2 hl2 a h1 b b2
      · exact take_g1 m p l inc me seq W hl hs hs2 hl2 a h1 b (by omega)
  · have e1 : gP p inc = p := by simp [gP, h1]
    have e2 : gL p l inc = l := by simp [gL, h1]
    rcases g_case (m := m) (p := p) (inc := inc) (me := me) (seq := seq) hl with ⟨a, c, d, _⟩ | ⟨a, b, c, d⟩ | ⟨a, b, c, d⟩ | ⟨a, b, b2, c, d⟩ | ⟨a, b, b2, b3, c, d⟩ | ⟨a, b, b2, c, d⟩
    · rw [c, d, e1]; exact take_a m p l inc me seq W hl hs hs2 hl2 a
    · rw [c, d, e1, e2]; exact take_b2 m p l inc me seq W hl hs hs2 hl2 a h1 b
    · rw [c, d, e1, e2]; exact take_c2 m p l inc me seq W hl hs hs2 hl2 a h1 b
    · rw [c, d, e1]; rw [e2] at b2
      have := take_d2 m p l inc me seq W hl hs hs2 hl2 a h1 b b2
      rw [b2] at this ⊢; exact this
    · rw [c, d, e1, e2]; rw [e2] at b3; exact take_e2 m p l inc me seq W hl hs hs2 hl2 a h1 b b2 b3
    · rw [c, d, e1, e2]; rw [e2] at b2
      rcases b2 with b2 | b2
      · exact take_f2 m p l inc me seq W hl hs hs2 hl2 a h1 b b2
      · exact take_g2 m p l inc me seq W hl hs hs2 hl2 a h1 b b2

theorem rtake_any (m p l inc me seq : Int) (W : World) (hl : 0 ≤ l) (hs : seq ≤ 9223372036854775807) (hs2 : -9223372036854775808 ≤ seq) (hl2 : l ≤ 9223372036854775807) :
    Calls Try.prog 59 #[.agg #[.int .i64 m, .int .i64 p, .int .i64 l], .int .i64 inc, .int .i64 me, .int .i64 seq] W fun e w' => e = .returned (.tuple #[.agg #[.int .i64 m, .int .i64 (gP p inc), .int .i64 (gN m p l inc me seq)], .int .i64 (gC m p l inc me seq)]) ∧ Below W.heap.size W w' := by
  by_cases h1 : p < inc
  · have e1 : gP p inc = inc := by simp [gP, h1]
    have e2 : gL p l inc = 0 := by simp [gL, h1]
    rcases g_case (m := m) (p := p) (inc := inc) (me := me) (seq := seq) hl with ⟨a, _⟩ | ⟨a, b, c, d⟩ | ⟨a, b, c, d⟩ | ⟨a, b, b2, c, d⟩ | ⟨a, b, b2, b3, c, d⟩ | ⟨a, b, b2, c, d⟩
    · omega
    · rw [c, d, e1, e2]; exact rtake_b1 m p l inc me seq W hl hs hs2 hl2 a h1 b
    · rw [c, d, e1, e2]; exact rtake_c1 m p l inc me seq W hl hs hs2 hl2 a h1 b
    · rw [c, d, e1]; rw [e2] at b2; have b2 : seq = 1 := by omega
      have := rtake_d1 m p l inc me seq W hl hs hs2 hl2 a h1 b b2
      rw [b2] at this ⊢; exact this
    · omega
    · rw [c, d, e1, e2]; rw [e2] at b2
      rcases b2 with b2 | b2
      · exact rtake_f1 m p l inc me seq W hl hs hs2 hl2 a h1 b b2
      · exact rtake_g1 m p l inc me seq W hl hs hs2 hl2 a h1 b (by omega)
  · have e1 : gP p inc = p := by simp [gP, h1]
    have e2 : gL p l inc = l := by simp [gL, h1]
    rcases g_case (m := m) (p := p) (inc := inc) (me := me) (seq := seq) hl with ⟨a, c, d, _⟩ | ⟨a, b, c, d⟩ | ⟨a, b, c, d⟩ | ⟨a, b, b2, c, d⟩ | ⟨a, b, b2, b3, c, d⟩ | ⟨a, b, b2, c, d⟩
    · rw [c, d, e1]; exact rtake_a m p l inc me seq W hl hs hs2 hl2 a
    · rw [c, d, e1, e2]; exact rtake_b2 m p l inc me seq W hl hs hs2 hl2 a h1 b
    · rw [c, d, e1, e2]; exact rtake_c2 m p l inc me seq W hl hs hs2 hl2 a h1 b
    · rw [c, d, e1]; rw [e2] at b2
      have := rtake_d2 m p l inc me seq W hl hs hs2 hl2 a h1 b b2
      rw [b2] at this ⊢; exact this
    · rw [c, d, e1, e2]; rw [e2] at b3
      by_cases h6 : l < 9223372036854775807
      · exact rtake_e2 m p l inc me seq W hl hs hs2 hl2 a h1 b b2 b3 h6
      · exact rtake_e3 m p l inc me seq W hl hs hs2 hl2 a h1 b b2 b3 h6
    · rw [c, d, e1, e2]; rw [e2] at b2
      rcases b2 with b2 | b2
      · by_cases h6 : l < 9223372036854775807
        · exact rtake_f2 m p l inc me seq W hl hs hs2 hl2 a h1 b b2 h6
        · exact rtake_f3 m p l inc me seq W hl hs hs2 hl2 a h1 b b2 h6
      · exact rtake_g2 m p l inc me seq W hl hs hs2 hl2 a h1 b b2

end Go.Proofs.Ytdekemlckpbbcaa
