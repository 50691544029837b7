/- The document's octet: Bytes, Num, Text, as contracts. -/
import Derived.Test.YtkepfkfoblocgaaOctN
import Derived.Test.YtkepfkfoblocgaaText
import Derived.Deep.Cut
namespace Go.Proofs.Ytkepfkfoblocgaa
open Go.RowKit
set_option linter.unusedVariables false
set_option linter.unusedSimpArgs false


theorem str_nonempty {l : List UInt8} (h : 0 < l.length) : (str l).toList.isEmpty = false := by
  rw [ByteArray.toList_eq, str]
  cases l with
  | nil => simp at h
  | cons a l => rfl
theorem conv_one (W : World) (x : Nat) (h : x < 256) : (convert 24 9 (.slice (some ⟨W.heap.size, 0, none⟩) 1 1)).run Try.prog (W.alloc (.cells #[.int .u8 (x : Int)] 5)) = .ok (.string (str [UInt8.ofNat x])) (W.alloc (.cells #[.int .u8 (x : Int)] 5)) := by
  have hs := Sl.lit W 5 1 1 #[.int .u8 (x : Int)] rfl (by unfold maxLen; omega)
  exact conv_str (P := Try.prog) (src := 24) (dst := 9) Try.underlying24 Try.underlying5 Try.underlying9 (l := [UInt8.ofNat x]) (by
    have e : bcells [UInt8.ofNat x] = [.int .u8 (x : Int)] := by simp [bcells]; omega
    rw [IsBytes, e]; exact hs)

set_option maxRecDepth 20000 in
set_option maxHeartbeats 1000000 in
theorem rbytes_any (n : Nat) (W : World) (h1 : 1 ≤ n) (h2 : n ≤ 72057594037927935) :
    Calls Try.prog 119 #[.int .i64 n] W fun e w' => e = .returned (.string (str (beB (wd n) n))) ∧ Below W.heap.size W w' := by
  go_enter Try.func119, Try.ntmps119
  go_wp2
  go_loopw [0, 3] (fun x s wr => ∃ t m : Nat, x = .int .i64 (m : Int) ∧ s = .string (str (beB t n)) ∧ m ≤ 72057594037927935 ∧ Hid (m = n / 256 ^ t) ∧ Hid (t ≤ wd n) ∧ Hid (Below W.heap.size W wr)) (fun x _ _ => (intOf x).toNat)
  case atStart => exact ⟨0, n, rfl, rfl, h2, by simp [Hid], Nat.zero_le _, Below.refl _ _⟩
  case round =>
    obtain ⟨t, m, rfl, rfl, hm, HM, HT, HB⟩ := hrel
    have HL := hid hm
    clear hm
    by_cases h0 : 0 < m
    · have hm0 : (0 : Int) < m := by omega
      have hcv := conv_one wr (m % 256) (by omega)
      rw [show ((m % 256 : Nat) : Int) = (m : Int) % 256 by omega] at hcv
      have hA : (str [UInt8.ofNat (m % 256)]).size = 1 := by rw [str_size]; rfl
      have hB : (str (beB t n)).size = t := by rw [str_size, beB_length]
      have ht : t ≤ 7 := Nat.le_trans HT.out (wd_max h2)
      have HW : Hid (wrap64 ((m : Int) / 256) = ((m / 256 : Nat) : Int)) := hid (by have := HL.out; unfold wrap64; omega)
      have HT2 : Hid (t + 1 ≤ wd n) := hid (by
        refine wd_gt ?_
        have h := HM.out
        rcases Nat.lt_or_ge n (256 ^ t) with h3 | h3
        · rw [Nat.div_eq_of_lt h3] at h; omega
        · exact h3)
      have HS : Hid (str [UInt8.ofNat (m % 256)] ++ str (beB t n) = str (beB (t + 1) n)) := hid (by rw [str_app, beB, HM.out]; rfl)
      have HM2 : Hid (m / 256 = n / 256 ^ (t + 1)) := hid (by rw [HM.out, Nat.div_div_eq_div_mul, Nat.pow_succ])
      clear h1 h2
      go_wp2
      refine ⟨⟨t + 1, m / 256, by rw [HW.out], by rw [HS.out], by have := HL.out; omega, HM2, HT2, HB.out.alloc HB.out.size _⟩, ?_⟩
      rw [HW.out]
      simp [intOf]
      omega
    · have hm0 : decide (0 < (m : Int)) = false := by simp; omega
      have hm1 : decide (0 < m) = false := by simp; omega
      have HE : Hid (beB t n = beB (wd n) n) := hid (by
        have h := HM.out
        have h3 : n < 256 ^ t := by
          rcases Nat.lt_or_ge n (256 ^ t) with h3 | h3
          · exact h3
          · have := Nat.div_pos h3 (Nat.pow_pos (by omega)); omega
        rw [Nat.le_antisymm HT.out (wd_le h3)])
      have hne : (str (beB t n)).toList.isEmpty = false := by
        have ht : t ≠ 0 := by rintro rfl; have h := HM.out; simp at h; omega
        exact str_nonempty (by rw [beB_length]; omega)
      clear h1 h2
      go_wp2
      go_ret
      exact ⟨by rw [← HE.out]; rfl, HB.out⟩

theorem cl_neg {n : Int} (h : n < 0) : cl n = 0 := by unfold cl; omega
theorem cl_big {n : Int} (h : 72057594037927935 < n) : cl n = 72057594037927935 := by unfold cl; omega
theorem cl_in {n : Nat} (h : n ≤ 72057594037927935) : cl (n : Int) = n := by unfold cl; omega

set_option maxRecDepth 20000 in
set_option maxHeartbeats 1000000 in
theorem rnum_any (x : Int) (W : World) :
    Calls Try.prog 91 #[.int .i64 x] W fun e w' => e = .returned (.string (str (numB (cl x)))) ∧ Below W.heap.size W w' := by
  have hA : ∀ m, (str [UInt8.ofNat m]).size = 1 := fun m => by rw [str_size]; rfl
  by_cases hneg : x < 0
  · have HN : Hid (numB (cl x) = [UInt8.ofNat 0]) := hid (by rw [cl_neg hneg]; rfl)
    have hcv := conv_one W 0 (by omega)
    rw [show ((0 : Nat) : Int) = 0 from rfl] at hcv
    go_enter Try.func91, Try.ntmps91
    go_wp2
    go_ret
    exact ⟨by rw [HN.out]; rfl, (Below.refl _ _).alloc (Nat.le_refl _) _⟩
  by_cases hbig : 72057594037927935 < x
  · have HN : Hid (numB (cl x) = UInt8.ofNat (247 + 7) :: beB 7 72057594037927935) := hid (by
      rw [cl_big hbig, numB, if_neg (by omega), wd_eq (k := 6) (by simp) (by simp)])
    have HR := hid (fun w => rbytes_any 72057594037927935 w (by omega) (by omega))
    rw [wd_eq (k := 6) (by simp) (by simp)] at HR
    have hB : (str (beB 7 72057594037927935)).size = 7 := by rw [str_size, beB_length]
    have hB2 : (str (beB (6 + 1) 72057594037927935)).size = 7 := by rw [str_size, beB_length]
    have HC := hid conv_one
    clear hneg
    go_enter Try.func91, Try.ntmps91
    go_wp2_with fail
    refine (HR.out _).mono ?_
    rintro e w1 ⟨rfl, hb⟩
    have HB := hid hb
    have hcv := HC.out w1 254 (by omega)
    rw [show ((254 : Nat) : Int) = 254 from rfl] at hcv
    clear hb
    go_wp2
    go_ret
    exact ⟨by rw [HN.out]; rfl, HB.out.alloc HB.out.size _⟩
  obtain ⟨n, rfl⟩ := Int.eq_ofNat_of_zero_le (show 0 ≤ x by omega)
  have hn : n ≤ 72057594037927935 := by omega
  rw [cl_in hn]
  by_cases h8 : n < 248
  · have HN : Hid (numB n = [UInt8.ofNat n]) := hid (by rw [numB, if_pos h8])
    have hcv := conv_one W n (by omega)
    have h8' : (n : Int) < 248 := by omega
    clear hneg hbig
    have h1 : decide ((n : Int) < 0) = false := by simp
    have h2 : decide (72057594037927935 < (n : Int)) = false := by simp; omega
    go_enter Try.func91, Try.ntmps91
    go_wp2
    go_ret
    exact ⟨by rw [HN.out]; rfl, (Below.refl _ _).alloc (Nat.le_refl _) _⟩
  · have HN : Hid (numB n = UInt8.ofNat (247 + wd n) :: beB (wd n) n) := hid (by rw [numB, if_neg h8])
    have HR := hid (fun w => rbytes_any n w (by omega) hn)
    have hB : (str (beB (wd n) n)).size = wd n := by rw [str_size, beB_length]
    have hw := wd_max hn
    have h8' : (248 : Int) ≤ n := by omega
    have h1 : decide ((n : Int) < 0) = false := by simp
    have h2 : decide (72057594037927935 < (n : Int)) = false := by simp; omega
    have h3 : decide ((n : Int) < 248) = false := by simp; omega
    have HC := hid conv_one
    clear hneg hbig hn h8
    generalize wd n = k at *
    go_enter Try.func91, Try.ntmps91
    go_wp2_with fail
    refine (HR.out _).mono ?_
    rintro e w1 ⟨rfl, hb⟩
    have HB := hid hb
    have hcv := HC.out w1 (247 + k) (by omega)
    rw [show ((247 + k : Nat) : Int) = 247 + (k : Int) by omega] at hcv
    have hY : ∀ y : UInt8, (str [y]).size = 1 := fun y => by rw [str_size]; rfl
    generalize UInt8.ofNat (247 + k) = y at hcv HN
    have hY := hY y
    clear hb hA
    go_wp2
    go_ret
    exact ⟨by rw [HN.out, str_app]; rfl, HB.out.alloc HB.out.size _⟩

set_option maxHeartbeats 1000000 in
theorem rtext_any (s : ByteArray) (W : World) (hs : s.size ≤ 100000) :
    Calls Try.prog 93 #[.string s] W fun e w' => e = .returned (.string (str (numB s.size) ++ s)) ∧ Below W.heap.size W w' := by
  have HR := hid (fun w => rnum_any (s.size : Nat) w)
  rw [cl_in (by omega)] at HR
  have hB := (numB_length s.size (by omega)).2
  rw [← str_size] at hB
  go_enter Try.func93, Try.ntmps93
  go_wp2_with (go_at_call 91; refine (HR.out _).mono ?_; rintro e w1 ⟨rfl, hb⟩)
  go_ret
  exact ⟨rfl, hb⟩
end Go.Proofs.Ytkepfkfoblocgaa
