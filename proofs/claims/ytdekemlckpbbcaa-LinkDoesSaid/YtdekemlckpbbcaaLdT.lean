/- The document's end: what comes in: contracts. -/
import Derived.Test.YtdekemlckpbbcaaLdS
namespace Go.Proofs.Ytdekemlckpbbcaa
open Go.RowKit Go.Sort
set_option linter.unusedVariables false
set_option linter.unusedSimpArgs false
theorem str_backL (s : ByteArray) : str s.data.toList = s := by cases s; simp [str]
theorem rd_textsL {w : World} {A : Option Addr} {len cap : Nat} (h : Rd Try.prog w 24 [.slice A len cap]) : ∃ l : List (List UInt8), l.length = len ∧ (Sl w 1 A l.length cap (scells l) ∧ ∀ s ∈ l, s.length ≤ maxLen) := by
  obtain ⟨h1, h2, h3⟩ := Rd.slice_plain Try.underlying24 (n := 1) (by kernel_rfl) (by omega) h
  by_cases h0 : len = 0
  · subst h0
    exact ⟨[], rfl, Sl.nil _ _ _ _ h2, by simp⟩
  · obtain ⟨b, off, rfl, z, hz⟩ := h3 (by omega)
    have hs : ∀ i, i < len → ∃ s : ByteArray, z i = [.string s] ∧ s.size ≤ maxLen := fun i hi => Rd.string Try.underlying9 (hz i hi).2.1
    let f : Nat → List UInt8 := fun i => match z i with | [.string s] => s.data.toList | _ => []
    have hf : ∀ i, i < len → z i = [.string (str (f i))] ∧ (f i).length ≤ maxLen := fun i hi => by
      obtain ⟨s, e, hsz⟩ := hs i hi
      have e2 : f i = s.data.toList := by simp only [f, e]
      refine ⟨by rw [e, e2, str_backL], ?_⟩
      rw [e2, Array.length_toList]
      exact hsz
    refine ⟨(List.range len).map f, by simp, ⟨by simp [scells], by simpa using h1, h2, fun _ => ⟨b, off, rfl, fun i hi => ?_⟩⟩, ?_⟩
    · rw [scells_length, List.length_map, List.length_range] at hi
      have h9 := (hz i hi).2.2 0 (by omega)
      rw [(hf i hi).1, Nat.mul_one, Nat.add_zero] at h9
      rw [h9]
      simp [scells, hi]
    · intro s hs2
      simp only [List.mem_map, List.mem_range] at hs2
      obtain ⟨i, hi, rfl⟩ := hs2
      exact (hf i hi).2
theorem rd_packetL {w : World} {a : Array Value} (hn : a.size = 7) (h : Rd Try.prog w 50 a.toList) :
    ∃ (k f t i p s : Int) (b : ByteArray), a = #[.int .i64 k, .int .i64 f, .int .i64 t, .int .i64 i, .int .i64 p, .int .i64 s, .string b] ∧ (-9223372036854775808 ≤ s ∧ s ≤ 9223372036854775807) ∧ b.size ≤ maxLen := by
  have hc : Try.prog.cellsOf 3 = 1 := by kernel_rfl
  have hc2 : Try.prog.cellsOf 9 = 1 := by kernel_rfl
  obtain ⟨_, hf⟩ := Rd.struct Try.underlying50 h
  have f0 : Rd Try.prog w 3 ((a.toList.drop 0).take (Try.prog.cellsOf 3)) := hf 0 _ rfl
  have f1 : Rd Try.prog w 3 ((a.toList.drop 1).take (Try.prog.cellsOf 3)) := hf 1 _ rfl
  have f2 : Rd Try.prog w 3 ((a.toList.drop 2).take (Try.prog.cellsOf 3)) := hf 2 _ rfl
  have f3 : Rd Try.prog w 3 ((a.toList.drop 3).take (Try.prog.cellsOf 3)) := hf 3 _ rfl
  have f4 : Rd Try.prog w 3 ((a.toList.drop 4).take (Try.prog.cellsOf 3)) := hf 4 _ rfl
  have f5 : Rd Try.prog w 3 ((a.toList.drop 5).take (Try.prog.cellsOf 3)) := hf 5 _ rfl
  have f6 : Rd Try.prog w 9 ((a.toList.drop 6).take (Try.prog.cellsOf 9)) := hf 6 _ rfl
  rw [hc] at f0 f1 f2 f3 f4 f5
  rw [hc2] at f6
  obtain ⟨k, e0, _⟩ := Rd.int Try.underlying3 f0
  obtain ⟨f, e1, _⟩ := Rd.int Try.underlying3 f1
  obtain ⟨t, e2, _⟩ := Rd.int Try.underlying3 f2
  obtain ⟨i, e3, _⟩ := Rd.int Try.underlying3 f3
  obtain ⟨p, e4, _⟩ := Rd.int Try.underlying3 f4
  obtain ⟨s, e5, ws⟩ := Rd.int Try.underlying3 f5
  obtain ⟨b, e6, hb⟩ := Rd.string Try.underlying9 f6
  have one : ∀ {i : Nat} {v : Value}, (a.toList.drop i).take 1 = [v] → a.toList[i]? = some v := fun {i v} h => by
    have h9 : ((a.toList.drop i).take 1)[0]? = some v := by rw [h]; rfl
    rw [List.getElem?_take, if_pos (by omega), List.getElem?_drop, Nat.add_zero] at h9
    exact h9
  have g0 := one e0
  have g1 := one e1
  have g2 := one e2
  have g3 := one e3
  have g4 := one e4
  have g5 := one e5
  have g6 := one e6
  simp [Lit.wf, IntKind.bits, IntKind.signed, IntKind.min, IntKind.max] at ws
  refine ⟨k, f, t, i, p, s, b, ?_, ⟨by omega, by omega⟩, hb⟩
  apply Array.ext'
  apply List.ext_getElem?
  intro j
  have hl : a.toList.length = 7 := by rw [Array.length_toList]; exact hn
  rcases (by omega : j = 0 ∨ j = 1 ∨ j = 2 ∨ j = 3 ∨ j = 4 ∨ j = 5 ∨ j = 6 ∨ 7 ≤ j) with rfl | rfl | rfl | rfl | rfl | rfl | rfl | h9
  · exact g0
  · exact g1
  · exact g2
  · exact g3
  · exact g4
  · exact g5
  · exact g6
  · rw [List.getElem?_eq_none (by omega), List.getElem?_eq_none (by simpa using h9)]
set_option maxRecDepth 20000 in
theorem rd_end {w : World} {a : Array Value} (hn : a.size = 11) (h : Rd Try.prog w 48 a.toList) : ∃ (e : Ev) (A : Option Addr) (c : Nat), a = ec e A c ∧ Sl w 1 A e.o.l.length c (scells e.o.l) ∧ (e.o.q ≤ 9223372036854775807 ∧ -9223372036854775808 ≤ e.o.q) ∧ e.l ≤ 9223372036854775807 ∧ ∀ s ∈ e.o.l, s.length ≤ maxLen := by
  have hc : Try.prog.cellsOf 3 = 1 := by kernel_rfl
  have hc2 : Try.prog.cellsOf 24 = 1 := by kernel_rfl
  have hc3 : Try.prog.cellsOf 44 = 5 := by kernel_rfl
  have hc4 : Try.prog.cellsOf 46 = 3 := by kernel_rfl
  obtain ⟨_, hf⟩ := Rd.struct Try.underlying48 h
  have f0 : Rd Try.prog w 3 ((a.toList.drop 0).take (Try.prog.cellsOf 3)) := hf 0 _ rfl
  have f1 : Rd Try.prog w 3 ((a.toList.drop 1).take (Try.prog.cellsOf 3)) := hf 1 _ rfl
  have f2 : Rd Try.prog w 3 ((a.toList.drop 2).take (Try.prog.cellsOf 3)) := hf 2 _ rfl
  have fo : Rd Try.prog w 44 ((a.toList.drop 3).take (Try.prog.cellsOf 44)) := hf 3 _ rfl
  have fi : Rd Try.prog w 46 ((a.toList.drop 8).take (Try.prog.cellsOf 46)) := hf 4 _ rfl
  obtain ⟨x0, x1, x2, x3, x4, x5, x6, x7, x8, x9, x10, rfl⟩ : ∃ x0 x1 x2 x3 x4 x5 x6 x7 x8 x9 x10, a = #[x0, x1, x2, x3, x4, x5, x6, x7, x8, x9, x10] := by
    obtain ⟨l⟩ := a
    match l, hn with
    | [x0, x1, x2, x3, x4, x5, x6, x7, x8, x9, x10], _ => exact ⟨x0, x1, x2, x3, x4, x5, x6, x7, x8, x9, x10, rfl⟩
  rw [hc3] at fo
  rw [hc4] at fi
  rw [hc] at f0 f1 f2
  obtain ⟨_, ho⟩ := Rd.struct Try.underlying44 fo
  obtain ⟨_, hi⟩ := Rd.struct Try.underlying46 fi
  have f3 : Rd Try.prog w 3 [x3] := ho 0 _ rfl
  have f4 : Rd Try.prog w 3 [x4] := ho 1 _ rfl
  have f5 : Rd Try.prog w 24 [x5] := ho 2 _ rfl
  have fp : Rd Try.prog w 42 [x6, x7] := ho 3 _ rfl
  obtain ⟨_, hp⟩ := Rd.struct Try.underlying42 fp
  have f6 : Rd Try.prog w 3 [x6] := hp 0 _ rfl
  have f7 : Rd Try.prog w 3 [x7] := hp 1 _ rfl
  have f8 : Rd Try.prog w 3 [x8] := hi 0 _ rfl
  have f9 : Rd Try.prog w 3 [x9] := hi 1 _ rfl
  have f10 : Rd Try.prog w 3 [x10] := hi 2 _ rfl
  obtain ⟨f, e0, _⟩ := Rd.int Try.underlying3 (cs := [x0]) f0
  obtain ⟨t, e1, _⟩ := Rd.int Try.underlying3 (cs := [x1]) f1
  obtain ⟨i, e2, _⟩ := Rd.int Try.underlying3 (cs := [x2]) f2
  obtain ⟨p, e3, _⟩ := Rd.int Try.underlying3 f3
  obtain ⟨q, e4, wq⟩ := Rd.int Try.underlying3 f4
  obtain ⟨wt, e6, _⟩ := Rd.int Try.underlying3 f6
  obtain ⟨fl, e7, _⟩ := Rd.int Try.underlying3 f7
  obtain ⟨m, e8, _⟩ := Rd.int Try.underlying3 f8
  obtain ⟨gp, e9, _⟩ := Rd.int Try.underlying3 f9
  obtain ⟨gl, e10, wl⟩ := Rd.int Try.underlying3 f10
  obtain ⟨A, len, cap, e5⟩ : ∃ A len cap, [x5] = [.slice A len cap] := by
    rcases Rd.slice Try.underlying24 f5 with h1 | ⟨ad, len, cap, _, h1, _⟩
    · exact ⟨_, _, _, h1⟩
    · exact ⟨_, _, _, h1⟩
  rw [e5] at f5
  obtain ⟨l, rfl, hl, hm⟩ := rd_textsL f5
  simp only [List.cons.injEq, and_true] at e0 e1 e2 e3 e4 e5 e6 e7 e8 e9 e10
  subst e0 e1 e2 e3 e4 e5 e6 e7 e8 e9 e10
  simp [Lit.wf, IntKind.bits, IntKind.signed, IntKind.min, IntKind.max] at wq wl
  exact ⟨⟨f, t, i, ⟨p, q, l, wt, fl⟩, m, gp, gl⟩, A, cap, rfl, hl, ⟨(show q ≤ 9223372036854775807 by omega), (show -9223372036854775808 ≤ q by omega)⟩, (show gl ≤ 9223372036854775807 by omega), hm⟩
end Go.Proofs.Ytdekemlckpbbcaa
