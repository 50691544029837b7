/- The page's example of layer 29. -/
import Derived.Test.YtadjmgmdnekllaaQueE
namespace Go.Proofs.Ytadjmgmdnekllaa
open Go.RowKit Go.Sort
set_option linter.unusedVariables false
set_option linter.unusedSimpArgs false

set_option maxRecDepth 20000 in
theorem works29_any (W : World) : Calls Try.prog 61 #[] W fun e w' => e = .returned (.bool true) ∧ Below W.heap.size W w' := by
  have h0 : pushJ [] 1 (5, 0) = [(5, 0)] ∧ pushE [] 1 (5, 0) = 0 := by unfold pushJ pushE hasJ; simp
  have h1 : pushJ [(5, 0)] 1 (5, 0) = [(5, 0)] ∧ pushE [(5, 0)] 1 (5, 0) = 9 := by unfold pushJ pushE hasJ; simp
  have h2 : pushJ [(5, 0)] 1 (6, 0) = [(5, 0)] ∧ pushE [(5, 0)] 1 (6, 0) = 7 := by unfold pushJ pushE hasJ; simp
  have HP0 := hid (push_any none 0 0 [] 1 5 0 W (Sl.nil _ _ _ _ (Nat.zero_le _)) (by omega))
  rw [h0.1, h0.2] at HP0
  have HP1 := hid (fun A c w h => push_any A 1 c [(5, 0)] 1 5 0 w h (by omega))
  rw [h1.1, h1.2] at HP1
  have HP2 := hid (fun A c w h => push_any A 1 c [(5, 0)] 1 6 0 w h (by omega))
  rw [h2.1, h2.2] at HP2
  clear h0 h1 h2
  go_enter Try.func61, Try.ntmps61
  go_wp2_with fail
  refine HP0.out.mono ?_
  rintro e w1 ⟨v1, rfl, ho1, hb1⟩
  obtain ⟨A1, c1, rfl, hs1⟩ := Sl.of_own ho1
  have HS1 := hid hs1
  have HB1 := hid hb1
  clear ho1 hs1 hb1 HP0
  go_wp2_with fail
  refine (HP1.out _ _ _ HS1.out).mono ?_
  rintro e w2 ⟨v2, rfl, ho2, hb2⟩
  obtain ⟨A2, c2, rfl, _⟩ := Sl.of_own ho2
  have HS2 := hid (HS1.out.below hb2)
  have HB2 := hid (HB1.out.trans (hb2.mono HB1.out.size))
  clear ho2 hb2 HP1 HS1 HB1
  go_wp2_with fail
  refine (HP2.out _ _ _ HS2.out).mono ?_
  rintro e w3 ⟨v3, rfl, ho3, hb3⟩
  obtain ⟨A3, c3, rfl, _⟩ := Sl.of_own ho3
  have HB3 := hid (HB2.out.trans (hb3.mono HB2.out.size))
  clear ho3 hb3 HP2 HS2 HB2
  go_wp2
  go_ret
  exact ⟨rfl, HB3.out⟩
end Go.Proofs.Ytadjmgmdnekllaa
