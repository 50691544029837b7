/- A packet that came in. -/
import Derived.Test.YtdjcfeglaiihgaaPacK
namespace Go.Proofs.Ytdjcfeglaiihgaa
open Go.RowKit Go.Sort
set_option linter.unusedVariables false
set_option linter.unusedSimpArgs false

theorem rd_packet {w : World} {a : Array Value} (hn : a.size = 7) (h : Rd Try.prog w 56 a.toList) :
    ∃ (k f t i p s : Int) (b : ByteArray), a = #[.int .i64 k, .int .i64 f, .int .i64 t, .int .i64 i, .int .i64 p, .int .i64 s, .string b] ∧ b.size ≤ maxLen := by
  have hc : Try.prog.cellsOf 3 = 1 := by kernel_rfl
  have hc2 : Try.prog.cellsOf 9 = 1 := by kernel_rfl
  obtain ⟨_, hf⟩ := Rd.struct Try.underlying56 h
  have f0 : Rd Try.prog w 3 ((a.toList.drop 0).take (Try.prog.cellsOf 3)) := hf 0 _ rfl
  have f1 : Rd Try.prog w 3 ((a.toList.drop 1).take (Try.prog.cellsOf 3)) := hf 1 _ rfl
  have f2 : Rd Try.prog w 3 ((a.toList.drop 2).take (Try.prog.cellsOf 3)) := hf 2 _ rfl
  have f3 : Rd Try.prog w 3 ((a.toList.drop 3).take (Try.prog.cellsOf 3)) := hf 3 _ rfl
  have f4 : Rd Try.prog w 3 ((a.toList.drop 4).take (Try.prog.cellsOf 3)) := hf 4 _ rfl
  have f5 : Rd Try.prog w 3 ((a.toList.drop 5).take (Try.prog.cellsOf 3)) := hf 5 _ rfl
  have f6 : Rd Try.prog w 9 ((a.toList.drop 6).take (Try.prog.cellsOf 9)) := hf 6 _ rfl
  rw [hc] at f0 f1 f2 f3 f4 f5
  rw [hc2] at f6
  obtain ⟨k, e0, _⟩ := Rd.int Try.underlying3 f0
  obtain ⟨f, e1, _⟩ := Rd.int Try.underlying3 f1
  obtain ⟨t, e2, _⟩ := Rd.int Try.underlying3 f2
  obtain ⟨i, e3, _⟩ := Rd.int Try.underlying3 f3
  obtain ⟨p, e4, _⟩ := Rd.int Try.underlying3 f4
  obtain ⟨s, e5, _⟩ := Rd.int Try.underlying3 f5
  obtain ⟨b, e6, hb⟩ := Rd.string Try.underlying9 f6
  have one : ∀ {i : Nat} {v : Value}, (a.toList.drop i).take 1 = [v] → a.toList[i]? = some v := fun {i v} h => by
    have h9 : ((a.toList.drop i).take 1)[0]? = some v := by rw [h]; rfl
    rw [List.getElem?_take, if_pos (by omega), List.getElem?_drop, Nat.add_zero] at h9
    exact h9
  have g0 := one e0
  have g1 := one e1
  have g2 := one e2
  have g3 := one e3
  have g4 := one e4
  have g5 := one e5
  have g6 := one e6
  refine ⟨k, f, t, i, p, s, b, ?_, hb⟩
  apply Array.ext'
  apply List.ext_getElem?
  intro j
  have hl : a.toList.length = 7 := by rw [Array.length_toList]; exact hn
  rcases (by omega : j = 0 ∨ j = 1 ∨ j = 2 ∨ j = 3 ∨ j = 4 ∨ j = 5 ∨ j = 6 ∨ 7 ≤ j) with rfl | rfl | rfl | rfl | rfl | rfl | rfl | h9
  · exact g0
  · exact g1
  · exact g2
  · exact g3
  · exact g4
  · exact g5
  · exact g6
  · rw [List.getElem?_eq_none (by omega), List.getElem?_eq_none (by simpa using h9)]
theorem packBytes_rd (a : Array Value) (w : World) (hn : a.size = 7) (h : Rd Try.prog w 56 a.toList) :
    Calls Try.prog 9 #[.agg a] w fun e w' => e = .returned (.bool true) ∧ Below w.heap.size w w' := by
  obtain ⟨k, f, t, i, p, s, b, rfl, hb⟩ := rd_packet hn h
  exact packBytes_law k f t i p s b hb w
end Go.Proofs.Ytdjcfeglaiihgaa
