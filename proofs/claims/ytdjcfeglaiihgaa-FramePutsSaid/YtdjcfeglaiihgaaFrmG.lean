/- FramePuts. -/
import Derived.Test.YtdjcfeglaiihgaaFrmF
namespace Go.Proofs.Ytdjcfeglaiihgaa
open Go.RowKit Go.Sort
set_option linter.unusedVariables false
set_option linter.unusedSimpArgs false

theorem framePuts_big (a : Option Addr) (len cap : Nat) (s : ByteArray) (W : World) (hc : len ≤ 9223372036854775807) (hs2 : s.size ≤ 9223372036854775807) (h : 500 < len ∨ 5000 < s.size) :
    Calls Try.prog 5 #[.slice a len cap, .string s] W fun e w' => e = .returned (.bool true) ∧ Below W.heap.size W w' := by
  by_cases h1 : 500 < len
  · have h1' : (500 : Int) < len := by omega
    have hd : decide ((500 : Int) < len) = true := by simp; omega
    clear h
    go_enter Try.func5, Try.ntmps5
    go_wp2_with (go_at_call 17; refine (works03_any _).mono ?_; rintro e w' ⟨rfl, hb⟩)
    go_ret
    exact ⟨rfl, hb⟩
  · have h1' : (len : Int) ≤ 500 := by omega
    have h2' : (5000 : Int) < s.size := by omega
    have hd : decide ((500 : Int) < len) = false := by simp; omega
    have hd2 : decide ((5000 : Int) < s.size) = true := by simp; omega
    clear h
    go_enter Try.func5, Try.ntmps5
    go_wp2_with (go_at_call 17; refine (works03_any _).mono ?_; rintro e w' ⟨rfl, hb⟩)
    go_ret
    exact ⟨rfl, hb⟩
theorem framePuts_law (a : Option Addr) (len cap : Nat) (z : List Int) (s : ByteArray) (W : World) (h : IsRow .u8 W a len cap z) (hs : s.size ≤ maxLen) :
    Calls Try.prog 5 #[.slice a len cap, .string s] W fun e w' => e = .returned (.bool true) ∧ Below W.heap.size W w' := by
  obtain ⟨l, hb⟩ := IsBytes.of_row h
  obtain ⟨rfl, hlc, hcm⟩ := hb.len
  by_cases h1 : l.length ≤ 500 ∧ s.size ≤ 5000
  · exact framePuts_small a cap l s W hb h1.1 h1.2
  · exact framePuts_big a l.length cap s W (by unfold maxLen at hcm; omega) (by unfold maxLen at hs; omega) (by omega)
end Go.Proofs.Ytdjcfeglaiihgaa
