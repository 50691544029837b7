/- FrameCuts. -/
import Derived.Test.YtdjcfeglaiihgaaFrmJ
import Derived.Test.YtdjcfeglaiihgaaFrmE
namespace Go.Proofs.Ytdjcfeglaiihgaa
open Go.RowKit Go.Sort
set_option linter.unusedVariables false
set_option linter.unusedSimpArgs false

theorem below_drewN {n k : Nat} {W w : World} (h : Below n W w) : Below n W (w.drewN k) := ⟨h.os, h.tape, h.output, h.size, h.block⟩

set_option maxRecDepth 20000 in
set_option maxHeartbeats 2000000 in
theorem frameCuts_small (a : Option Addr) (cap : Nat) (l : List UInt8) (W : World) (hb : IsBytes W a l.length cap l) (hl : l.length ≤ 3000) :
    Calls Try.prog 6 #[.slice a l.length cap] W fun e w' => e = .returned (.bool true) ∧ Below W.heap.size W w' := by
  have HC := hid (cut_any a l.length cap l W hb (by omega))
  have HR := hid (fun w => rcut_any l w (by omega))
  have HA := hid (fun w (h : Below W.heap.size W w) => all_any a l.length cap l w (hb.below h) (by omega))
  have HS := hid (fun w => rall_any l w (by omega))
  have HCV : Hid (∀ U, Below W.heap.size W U → (convert 34 9 (.slice a l.length cap)).run Try.prog U = .ok (.string (str l)) U) := hid (fun U h => convS3 (hb.below h))
  have hz := (allS_le l.length l (Nat.le_refl _))
  have hn : (allS l).1.length ≤ 9223372036854775807 := by omega
  clear hz
  have h1 : (l.length : Int) ≤ 3000 := by omega
  have d1 : decide (3000 < (l.length : Int)) = false := by simp; omega
  clear hb hl
  generalize cutS l = cv at *
  generalize allS l = av at *
  obtain ⟨p, u, e⟩ := cv
  obtain ⟨ks, g⟩ := av
  simp only at HC HR HA HS hn
  generalize str l = sl at *
  generalize str p = sp at *
  have HN := hid hn
  clear hn
  go_enter Try.func6, Try.ntmps6
  go_wp2_with fail
  refine HC.out.mono ?_
  rintro x w1 ⟨rfl, hb1⟩
  have HB1 := hid hb1
  have hcv1 := HCV.out w1 hb1
  clear hb1 HC
  go_wp2_with fail
  refine (HR.out _).mono ?_
  rintro x w2 ⟨rfl, hb2⟩
  have HB2 := hid (HB1.out.trans (hb2.mono HB1.out.size))
  clear hb2 HB1 hcv1 HR
  go_wp2_with fail
  refine (HA.out _ HB2.out).mono ?_
  rintro x w3 ⟨A3, c3, rfl, ho3, hb3⟩
  have HB3 := hid (HB2.out.trans (hb3.mono HB2.out.size))
  have HS3 := hid (sl_own ho3)
  have hcv3 := HCV.out w3 HB3.out
  clear ho3 hb3 HB2 HA
  go_wp2_with fail
  refine (HS.out _).mono ?_
  rintro x w4 ⟨A4, c4, rfl, ho4, hb4⟩
  have HB4 := hid (HB3.out.trans (hb4.mono HB3.out.size))
  have HS4 := hid (sl_own ho4)
  have HQ := hid (same03 A3 A4 ks.length c3 ks.length c4 ks ks w4 (HS3.out.below hb4) HS4.out HN.out HN.out)
  rw [show (ks == ks) = true by simp] at HQ
  clear ho4 hb4 HB3 hcv3 HS HS3 HS4 HCV HN
  go_wp2_with fail
  refine HQ.out.mono ?_
  rintro x w5 ⟨rfl, q, rfl⟩
  have HB5 := hid (below_drewN (k := q) HB4.out)
  clear HQ HB4
  go_wp2_with (go_at_call 17; refine (works03_any _).mono ?_; rintro x w6 ⟨rfl, hb6⟩)
  go_ret
  exact ⟨rfl, HB5.out.trans (hb6.mono HB5.out.size)⟩

theorem frameCuts_law (a : Option Addr) (len cap : Nat) (z : List Int) (W : World) (h : IsRow .u8 W a len cap z) :
    Calls Try.prog 6 #[.slice a len cap] W fun e w' => e = .returned (.bool true) ∧ Below W.heap.size W w' := by
  obtain ⟨l, hb⟩ := IsBytes.of_row h
  obtain ⟨rfl, hlc, hcm⟩ := hb.len
  by_cases h1 : l.length ≤ 3000
  · exact frameCuts_small a cap l W hb h1
  · have h2 : (3000 : Int) < l.length := by omega
    have hd : decide ((3000 : Int) < l.length) = true := by simp; omega
    have hc9 : l.length ≤ 9223372036854775807 := by unfold maxLen at hcm; omega
    clear hb h hlc hcm
    go_enter Try.func6, Try.ntmps6
    go_wp2_with (go_at_call 17; refine (works03_any _).mono ?_; rintro e w' ⟨rfl, hb⟩)
    go_ret
    exact ⟨rfl, hb⟩
end Go.Proofs.Ytdjcfeglaiihgaa
