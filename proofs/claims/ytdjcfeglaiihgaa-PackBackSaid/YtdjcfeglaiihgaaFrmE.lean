/- FramePuts. -/
import Derived.Test.YtdjcfeglaiihgaaFrmD
import Derived.Deep.RegionWith
import Derived.Deep.RegionHeld3
namespace Go.Proofs.Ytdjcfeglaiihgaa
open Go.RowKit Go.Sort
set_option linter.unusedVariables false
set_option linter.unusedSimpArgs false

set_option maxRecDepth 20000 in
theorem works03_any (W : World) : Calls Try.prog 17 #[] W fun e w' => e = .returned (.bool true) ∧ Below W.heap.size W w' := by
  have HP := hid (fun w => fput_any none 0 0 [] ⟨#[]⟩ w (isBytes_nil w none 0 (Nat.zero_le _)) (Nat.zero_le _) (Nat.zero_le _))
  rw [show ([] : List UInt8) ++ frP (⟨#[]⟩ : ByteArray).data.toList = [0, 141, 239, 2, 210] by decide +kernel] at HP
  have HC := hid (fun a c w h => cut_any a 5 c [0, 141, 239, 2, 210] w h (by simp))
  rw [show cutS [0, 141, 239, 2, 210] = ([], 5, 0) by decide +kernel] at HC
  go_enter Try.func17, Try.ntmps17
  go_wp2_with fail
  refine (HP.out _).mono ?_
  rintro e w1 ⟨A, c, rfl, ho, hb1⟩
  have hs1 := sl_own ho
  have HS1 := hid hs1
  have HB1 := hid hb1
  clear ho hs1 hb1 HP
  go_wp2_with fail
  refine (HC.out _ _ _ HS1.out).mono ?_
  rintro e w2 ⟨rfl, hb2⟩
  have hs2 := HS1.out.below hb2
  have HB2 := hid (HB1.out.trans (hb2.mono HB1.out.size))
  obtain ⟨b, off, rfl, hcell⟩ := hs2.2.2.2 (by simp [bcells])
  have h0 := hcell 0 (by simp [bcells])
  simp [bcells] at h0
  clear hcell hs2 hb2 HS1 HB1 HC
  go_wp2
  go_ret
  exact ⟨rfl, HB2.out⟩
end Go.Proofs.Ytdjcfeglaiihgaa
