/- GlyphNames: the law. -/
import Derived.Test.YtnjfcdmnedmldaaGlyW
namespace Go.Proofs.Ytnjfcdmnedmldaa
open Go.RowKit Go.Sort
set_option linter.unusedVariables false
set_option linter.unusedSimpArgs false

set_option maxRecDepth 20000 in
set_option maxHeartbeats 2000000 in
theorem glyphNames_law (s : ByteArray) (c : Int) (hc : -2147483648 ≤ c ∧ c ≤ 2147483647) (W : World) :
    Calls Try.prog 4 #[.string s, .int .i32 c] W fun e w' => e = .returned (.bool true) ∧ Below W.heap.size W w' := by
  have HW := hid works04_any
  obtain ⟨l, rfl⟩ : ∃ l, s = str l := ⟨s.data.toList, by simp [str]⟩
  have HSZ := hid (str_size l)
  by_cases hl : l.length ≤ 1000
  · have hl2 : ((str l).size : Int) ≤ 1000 := by rw [HSZ.out]; omega
    have hw : IntKind.i64.wrap c = c := by simp [IntKind.wrap, IntKind.bits, IntKind.signed]; omega
    have HL := hid (fun W => letter_is c W)
    have HR := hid (fun W => rletter_is c W)
    have HN := hid (fun W => name_is l hl W)
    have HM := hid (fun W => rname_is l hl W)
    have HF := hid (fun W => fold_is l hl W)
    have HG := hid (fun W => rfold_is l hl W)
    rw [name_eq] at HN
    generalize decide (LetP c) = b1 at HL HR
    generalize nameR (rns l 0) = b2 at HN HM
    generalize str (l.map low) = s2 at HF HG
    have q1 : (b1 == b1) = true := by simp
    have q2 : (b2 == b2) = true := by simp
    have q3 : (s2.toList == s2.toList) = true := by simp
    clear hl
    go_enter Try.func4, Try.ntmps4
    go_wp2_with (first
      | (go_at_call 20; refine (HL.out _).mono ?_; rintro e w1 ⟨rfl, rfl⟩)
      | (go_at_call 21; refine (HR.out _).mono ?_; rintro e w1 ⟨rfl, rfl⟩)
      | (go_at_call 22; refine (HN.out _).mono ?_; rintro e w3 ⟨rfl, hb3⟩)
      | (go_at_call 23; refine (HM.out _).mono ?_; rintro e w4 ⟨rfl, hb4⟩)
      | (go_at_call 24; refine (HF.out _).mono ?_; rintro e w5 ⟨rfl, hb5⟩)
      | (go_at_call 25; refine (HG.out _).mono ?_; rintro e w6 ⟨rfl, hb6⟩)
      | (go_at_call 19; refine (HW.out _).mono ?_; rintro e w7 ⟨rfl, hb7⟩))
    go_ret
    have g4 := hb3.trans (hb4.mono hb3.size)
    have g5 := g4.trans (hb5.mono g4.size)
    have g6 := g5.trans (hb6.mono g5.size)
    exact ⟨rfl, g6.trans (hb7.mono g6.size)⟩
  · have hl2 : 1000 < ((str l).size : Int) := by rw [HSZ.out]; omega
    clear hl
    go_enter Try.func4, Try.ntmps4
    go_wp2_with (go_at_call 19; refine (HW.out _).mono ?_; rintro e w7 ⟨rfl, hb7⟩)
    go_ret
    exact ⟨rfl, hb7⟩
end Go.Proofs.Ytnjfcdmnedmldaa
