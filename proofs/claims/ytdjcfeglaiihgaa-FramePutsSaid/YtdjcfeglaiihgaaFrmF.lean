/- FramePuts. -/
import Derived.Test.YtdjcfeglaiihgaaFrmE
namespace Go.Proofs.Ytdjcfeglaiihgaa
open Go.RowKit Go.Sort
set_option linter.unusedVariables false
set_option linter.unusedSimpArgs false

set_option maxRecDepth 20000 in
set_option maxHeartbeats 4000000 in
theorem framePuts_small (a : Option Addr) (cap : Nat) (l : List UInt8) (s : ByteArray) (W : World) (hb : IsBytes W a l.length cap l) (hl : l.length ≤ 500) (hs : s.size ≤ 5000) :
    Calls Try.prog 5 #[.slice a l.length cap, .string s] W fun e w' => e = .returned (.bool true) ∧ Below W.heap.size W w' := by
  have HM := hid hb
  have HP := hid (fun w (h : Below W.heap.size W w) => fput_any a l.length cap l s w (hb.below h) (by omega) (by omega))
  have HQ := hid (fun w => rput_any s w (by omega))
  have hcv := convS3 hb
  have hcvb : ∀ U, Below W.heap.size W U → (convert 34 9 (.slice a l.length cap)).run Try.prog U = .ok (.string (str l)) U := fun U h => convS3 (hb.below h)
  have hsz : s.data.toList.length = s.size := by rw [Array.length_toList]; rfl
  have hfl : (frP s.data.toList).length ≤ 5100 := by
    unfold frP
    have := (numB_length s.data.toList.length (by omega)).2
    split
    · simp
    · rw [seal_len, List.length_append]; omega
  have he : str (l ++ frP s.data.toList) = str l ++ str (frP s.data.toList) := by apply ByteArray.ext; simp [str, ByteArray.data_append]
  have hz : ¬ (9223372036854775807 < (str l).size + (str (frP s.data.toList)).size) := by rw [str_size, str_size]; omega
  have h1 : (l.length : Int) ≤ 500 := by omega
  have h2 : (s.size : Int) ≤ 5000 := by omega
  have d1 : decide (500 < (l.length : Int)) = false := by simp; omega
  have d2 : decide (5000 < (s.size : Int)) = false := by simp; omega
  clear hb hs hsz hfl hl
  generalize frP s.data.toList = fr at *
  have hk : ∀ (A : Option Addr) (c : Nat) (U : World), IsBytes U A (l ++ fr).length c (l ++ fr) → (convert 34 9 (.slice A (l ++ fr).length c)).run Try.prog U = .ok (.string (str l ++ str fr)) U := fun A c U h => by rw [convS3 h, he]
  clear he
  have HKK := hid hk
  clear hk
  generalize str fr = q at *
  generalize str l = p at *
  generalize l ++ fr = lf at *
  go_enter Try.func5, Try.ntmps5
  go_upto_region 4 with (fail)
  have hbD : Below W.heap.size W W.drew := below_drew (Below.refl _ _)
  go_region_with (first
    | (go_at_call 18
       refine (HP.out _ (by assumption)).mono ?_
       rintro e u1 ⟨A9, c9, rfl, o9, g9⟩
       have s9 := sl_own o9
       have hcv9 : ∀ U, Below u1.heap.size u1 U → (convert 34 9 (.slice A9 lf.length c9)).run Try.prog U = .ok (.string (p ++ q)) U := fun U h => HKK.out A9 c9 U (s9.below h)
       have hcv8 := HKK.out A9 c9 u1 s9
       have hbU : Below W.heap.size W u1 := bel_trans (by assumption) g9)
    | (go_at_call 19
       refine (HQ.out _).mono ?_
       rintro e u2 ⟨rfl, g2⟩
       have hbV : Below W.heap.size W u2 := bel_trans (by assumption) g2)
    | (go_at_call 17
       refine (works03_any _).mono ?_
       rintro e u3 ⟨rfl, g3⟩
       have hbT : Below W.heap.size W u3 := bel_trans (by assumption) g3))
  all_goals go_wp2
  all_goals go_ret
  all_goals exact ⟨rfl, by assumption⟩
end Go.Proofs.Ytdjcfeglaiihgaa
