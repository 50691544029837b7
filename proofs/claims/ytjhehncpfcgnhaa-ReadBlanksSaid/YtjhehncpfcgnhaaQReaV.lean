/- ReadNeeds: the example, the law. -/
import Derived.Test.YtjhehncpfcgnhaaQReaU
import Derived.Test.YtjhehncpfcgnhaaNeQ
import Derived.Test.YtjhehncpfcgnhaaGaP
namespace Go.Proofs.Ytjhehncpfcgnhaa
open Go.RowKit
set_option linter.unusedVariables false
set_option linter.unusedSimpArgs false

def tb10 : List (List UInt8) := [[103, 112, 117], [115, 115, 100]]
theorem ex10_1 : ndT tb10 [103, 112, 117, 32, 38, 32, 33, 115, 115, 100] = ([(2, 0), (2, 1), (3, 0), (4, 0)], 0, 0) := by kernel_rfl
theorem ex10_2 : ndT tb10 [103, 112, 117, 32, 124, 32] = ([], 6, 3) := by kernel_rfl
theorem ex10_3 : ndT tb10 [116, 112, 117] = ([], 0, 5) := by kernel_rfl
theorem s10_1 : str [103, 112, 117, 32, 38, 32, 33, 115, 115, 100] = ⟨#[103, 112, 117, 32, 38, 32, 33, 115, 115, 100]⟩ := rfl
theorem s10_2 : str [103, 112, 117, 32, 124, 32] = ⟨#[103, 112, 117, 32, 124, 32]⟩ := rfl
theorem s10_3 : str [116, 112, 117] = ⟨#[116, 112, 117]⟩ := rfl
theorem nd10 (A : Option Addr) (c : Nat) (W : World) (h : Sl W 1 A 2 c (scells tb10)) :
    (Calls Try.prog 17 #[.slice A 2 c, .string ⟨#[103, 112, 117, 32, 38, 32, 33, 115, 115, 100]⟩] W fun e w' => ∃ B d, e = .returned (.tuple #[.slice B 4 d, .int .i64 0, .int .i64 0]) ∧ w'.ownsRow W.heap.size 79 2 (.slice B 4 d) 4 (pcells [(2, 0), (2, 1), (3, 0), (4, 0)]) ∧ Below W.heap.size W w') ∧
    (Calls Try.prog 17 #[.slice A 2 c, .string ⟨#[103, 112, 117, 32, 124, 32]⟩] W fun e w' => ∃ B d, e = .returned (.tuple #[.slice B 0 d, .int .i64 6, .int .i64 3]) ∧ Below W.heap.size W w') ∧
    (Calls Try.prog 17 #[.slice A 2 c, .string ⟨#[116, 112, 117]⟩] W fun e w' => ∃ B d, e = .returned (.tuple #[.slice B 0 d, .int .i64 0, .int .i64 5]) ∧ Below W.heap.size W w') := by
  refine ⟨?_, ?_, ?_⟩
  · have h1 := need_any A c tb10 [103, 112, 117, 32, 38, 32, 33, 115, 115, 100] W h (by simp)
    rw [s10_1] at h1
    refine h1.mono ?_
    rintro e w' ⟨B, d, rfl, h2, h3⟩
    rw [ex10_1] at h2 ⊢
    exact ⟨B, d, rfl, h2, h3⟩
  · have h1 := need_any A c tb10 [103, 112, 117, 32, 124, 32] W h (by simp)
    rw [s10_2] at h1
    refine h1.mono ?_
    rintro e w' ⟨B, d, rfl, h2, h3⟩
    rw [ex10_2]
    exact ⟨B, d, rfl, h3⟩
  · have h1 := need_any A c tb10 [116, 112, 117] W h (by simp)
    rw [s10_3] at h1
    refine h1.mono ?_
    rintro e w' ⟨B, d, rfl, h2, h3⟩
    rw [ex10_3]
    exact ⟨B, d, rfl, h3⟩
set_option maxRecDepth 20000 in
set_option maxHeartbeats 2000000 in
theorem works10_any (W : World) : Calls Try.prog 16 #[] W fun e w' => e = .returned (.bool true) ∧ Below W.heap.size W w' := by
  have HN := hid (fun A c w h => nd10 A c w h)
  go_enter Try.func16, Try.ntmps16
  go_upto_region 2 with (fail)
  refine at_world (fun u => Sl u 1 (some ⟨W.heap.size, 0, none⟩) 2 2 (scells tb10) ∧ Below W.heap.size W u) ⟨Sl.lit W _ 1 2 #[.string ⟨#[103, 112, 117]⟩, .string ⟨#[115, 115, 100]⟩] rfl (by unfold maxLen; omega), (Below.refl _ _).alloc (Nat.le_refl _) _⟩ ?_
  rintro w1 ⟨hs, hb⟩
  have HS1 := hid hs
  have HB1 := hid hb
  clear hs hb
  generalize (some (⟨W.heap.size, 0, none⟩ : Addr)) = TA at *
  go_wp2_with fail
  with_reducible refine (HN.out _ _ _ HS1.out).1.mono ?_
  rintro e w2 ⟨B2, d2, rfl, ho, hb⟩
  have HO2 := hid ho
  have HS2 := hid (HS1.out.below hb)
  have HB2 := hid (HB1.out.trans (hb.mono HB1.out.size))
  clear ho hb HS1 HB1
  go_wp2_with fail
  with_reducible refine (HN.out _ _ _ HS2.out).2.1.mono ?_
  rintro e w3 ⟨B3, d3, rfl, hb⟩
  have HO3 := hid (own_keep HO2.out hb)
  have HS3 := hid (HS2.out.below hb)
  have HB3 := hid (HB2.out.trans (hb.mono HB2.out.size))
  clear hb HS2 HB2 HO2
  go_wp2_with fail
  with_reducible refine (HN.out _ _ _ HS3.out).2.2.mono ?_
  rintro e w4 ⟨B4, d4, rfl, hb⟩
  have HO4 := hid (own_keep HO3.out hb)
  have HB4 := hid (HB3.out.trans (hb.mono HB3.out.size))
  clear hb HS3 HB3 HO3 HN
  go_wp2_with fail
  refine (rnsame_bel B2 (some ⟨w4.heap.size, 0, none⟩) d2 4 [(2, 0), (2, 1), (3, 0), (4, 0)] [(2, 0), (2, 1), (3, 0), (4, 0)] _ ((sl_own HO4.out).below (bel_alloc (Below.refl _ _) _)) (Sl.lit w4 _ 2 4 #[.int .i64 2, .int .i64 0, .int .i64 2, .int .i64 1, .int .i64 3, .int .i64 0, .int .i64 4, .int .i64 0] rfl (by unfold maxLen; omega))).mono ?_
  rintro e w5 ⟨rfl, hb⟩
  have HB5 := hid (HB4.out.trans ((bel_alloc (Below.refl _ _) _ : Below w4.heap.size w4 _).trans (hb.mono (bel_alloc (Below.refl w4.heap.size w4) _).size) |>.mono HB4.out.size))
  clear hb HB4 HO4
  go_wp2
  go_ret
  exact ⟨rfl, HB5.out⟩

set_option maxRecDepth 20000 in
set_option maxHeartbeats 2000000 in
theorem readNeeds_small (TA : Option Addr) (Tc : Nat) (T : List (List UInt8)) (l : List UInt8) (W : World) (hT : Sl W 1 TA T.length Tc (scells T)) (hw : ∀ s ∈ T, s.length ≤ maxLen) (hl : l.length ≤ 1000) (hL : longB T 40 100 = false) :
    Calls Try.prog 3 #[.slice TA T.length Tc, .string (str l)] W fun e w' => e = .returned (.bool true) ∧ Below W.heap.size W w' := by
  have HLG := hid (long_any TA T.length Tc T 40 100 W hT hw)
  rw [hL] at HLG
  have HW := hid works10_any
  have hl2 : ¬ (1000 : Int) < ((str l).size : Int) := by rw [str_size]; omega
  have HN := hid (need_any TA Tc T l W hT hl)
  have HR := hid (fun u (hu : Below W.heap.size W u) => rneed_any TA Tc T l u (hT.below hu) hl)
  unfold NdAns at HN HR
  generalize ndT T l = F at *
  obtain ⟨nd, k, c⟩ := F
  simp only at HN HR
  have q1 : ((k : Int) == (k : Int)) = true := by simp
  have q2 : (c == c) = true := by simp
  have q3 : (nd == nd) = true := by simp
  clear hT hw hl hL
  generalize str l = s at *
  go_enter Try.func3, Try.ntmps3
  go_wp2_with fail
  refine HLG.out.mono ?_
  rintro e w0 ⟨rfl, rfl⟩
  go_wp2_with fail
  refine HN.out.mono ?_
  rintro e w1 ⟨A1, c1, rfl, ho, hb⟩
  have HO1 := hid ho
  have HB1 := hid hb
  clear ho hb HN HLG
  go_wp2_with fail
  refine (HR.out w1 HB1.out).mono ?_
  rintro e w2 ⟨A2, c2, rfl, ho, hb⟩
  have HSM := hid (rnsame_bel A1 A2 c1 c2 nd nd w2 (sl_own (own_keep HO1.out hb)) (sl_own ho))
  rw [q3] at HSM
  have HB2 := hid (HB1.out.trans (hb.mono HB1.out.size))
  clear ho hb HR HO1 HB1
  go_wp2_with fail
  refine HSM.out.mono ?_
  rintro e w3 ⟨rfl, hb⟩
  have HB3 := hid (HB2.out.trans (hb.mono HB2.out.size))
  clear hb HB2 HSM
  go_wp2_with fail
  refine (HW.out _).mono ?_
  rintro e w4 ⟨rfl, hb⟩
  have HB4 := hid (HB3.out.trans (hb.mono HB3.out.size))
  clear hb HB3
  go_wp2
  go_ret
  exact ⟨rfl, HB4.out⟩
set_option maxRecDepth 20000 in
set_option maxHeartbeats 2000000 in
theorem readNeeds_law (A : Option Addr) (len cap : Nat) (z : List ByteArray) (s : ByteArray) (W : World) (h : IsTexts W A len cap z) :
    Calls Try.prog 3 #[.slice A len cap, .string s] W fun e w' => e = .returned (.bool true) ∧ Below W.heap.size W w' := by
  obtain ⟨T, hT, rfl, hw⟩ := Sl.of_texts h
  obtain ⟨l, rfl⟩ : ∃ l, s = str l := ⟨s.data.toList, by simp [str]⟩
  have HW := hid works10_any
  have HLG := hid (long_any A T.length cap T 40 100 W hT hw)
  by_cases hl : l.length ≤ 1000
  · cases hb : longB T 40 100 with
    | false => exact readNeeds_small A cap T l W hT hw hl hb
    | true =>
      rw [hb] at HLG
      have hl2 : ¬ (1000 : Int) < ((str l).size : Int) := by rw [str_size]; omega
      clear hb hT hw h hl
      generalize str l = s at *
      go_enter Try.func3, Try.ntmps3
      go_wp2_with fail
      refine HLG.out.mono ?_
      rintro e w0 ⟨rfl, rfl⟩
      go_wp2_with fail
      refine (HW.out _).mono ?_
      rintro e w4 ⟨rfl, hb⟩
      go_wp2
      go_ret
      exact ⟨rfl, hb⟩
  · have hl2 : (1000 : Int) < ((str l).size : Int) := by rw [str_size]; omega
    clear hT hw h hl HLG
    generalize str l = s at *
    go_enter Try.func3, Try.ntmps3
    go_wp2_with fail
    refine (HW.out _).mono ?_
    rintro e w4 ⟨rfl, hb⟩
    go_wp2
    go_ret
    exact ⟨rfl, hb⟩
end Go.Proofs.Ytjhehncpfcgnhaa
