/- The document's Bit and Has, as contracts. -/
import Derived.Test.YtfaglemadpobeaaDoorChecked
import Derived.Test.YtfaglemadpobeaaDoorWord
import Derived.Test.YtfaglemadpobeaaDoorRow
import Derived.Deep.Cut
import Derived.Outline
namespace Go.Proofs.YtfaglemadpobeaaDoor
open Go.RowKit
set_option linter.unusedVariables false
set_option linter.unusedSimpArgs false

def p2 (n : Nat) : Nat := 2 ^ n
theorem p2_lt {n : Nat} (h : n < 64) : p2 n < 18446744073709551616 := two_pow_lt64 h
theorem bitN_p2 {n : Nat} (h : n < 64) : bitN (n : Int) = p2 n := by unfold bitN; rw [if_pos (by omega)]; simp [p2]
theorem rbit_any (n : Nat) (w : World) (hn : n < 64) : Calls Tryd.prog 33 #[.int .i64 n] w fun e w' => e = .returned (.int .u64 (p2 n : Nat)) ∧ w = w' := by
  go_enter Tryd.func33, Tryd.ntmps33
  go_wp2
  go_loop [3, 4] (fun x i => ∃ k m : Nat, k ≤ n ∧ i = .int .i64 (k : Int) ∧ x = .int .u64 (m : Int) ∧ Hid (m = p2 k)) (fun _ i => n - (intOf i).toNat)
  case atStart => exact ⟨0, 1, by omega, rfl, rfl, rfl⟩
  case round =>
    obtain ⟨k, m, hk, rfl, rfl, HM⟩ := hrel
    by_cases hlt : k < n
    · have h1 : (k : Int) < n := by omega
      have h2 : m < 9223372036854775808 := by
        rw [HM.out, p2]
        have : 2 ^ k < 2 ^ 63 := Nat.pow_lt_pow_right (by omega) (by omega)
        simpa using this
      go_wp2
      go_round
      case rel => exact ⟨k + 1, m * 2, by omega, by go_num, (by simp), by rw [Hid, HM.out, p2, p2, Nat.pow_succ]⟩
      case measure => simp [intOf]; omega
    · have h1 : (n : Int) ≤ k := by omega
      have h2 : Hid (m = p2 n) := hid (by rw [HM.out, show k = n by omega])
      clear HM
      go_wp2
      go_ret
      exact ⟨ret_u64 (by rw [h2.out]), rfl⟩

theorem rhas_any (s : Nat) (k : Int) (w : World) (hs : s < 18446744073709551616) : Calls Tryd.prog 34 #[.int .u64 s, .int .i64 k] w fun e w' => e = .returned (.bool (hasS s k)) ∧ w = w' := by
  by_cases h0 : k < 0
  · have H : Hid (hasS s k = false) := hid (by unfold hasS; rw [decide_eq_false (by omega)]; rfl)
    have h1 : decide (0 ≤ k) = false := by simp; omega
    go_enter Tryd.func34, Tryd.ntmps34
    go_wp2
    go_ret
    exact ⟨by rw [H.out]; rfl, rfl⟩
  · by_cases h1 : 64 ≤ k
    · have H : Hid (hasS s k = false) := hid (by unfold hasS; rw [decide_eq_false (by omega)]; rfl)
      have h2 : decide (k < 64) = false := by simp; omega
      go_enter Tryd.func34, Tryd.ntmps34
      go_wp2
      go_ret
      exact ⟨by rw [H.out]; rfl, rfl⟩
    · obtain ⟨n, rfl⟩ := Int.eq_ofNat_of_zero_le (show 0 ≤ k by omega)
      have hn : n < 64 := by omega
      have H : Hid (hasS s (n : Int) = (((s / p2 n % 2 : Nat) : Int) == 1)) := hid (by
        unfold hasS
        rw [decide_eq_true (by omega), Bool.true_and, Int.toNat_natCast, Nat.testBit_eq_decide_div_mod_eq, p2]
        generalize s / 2 ^ n % 2 = x
        rw [Bool.eq_iff_iff]
        simp
        omega)
      have hp : 0 < p2 n := Nat.two_pow_pos n
      have hp1 := p2_lt hn
      have HB := hid (fun w => rbit_any n w hn)
      generalize p2 n = m at *
      go_enter Tryd.func34, Tryd.ntmps34
      go_wp2_with (go_at_call 33; refine (HB.out _).mono ?_; rintro e w' ⟨rfl, rfl⟩)
      go_ret
      refine ⟨ret_bool ?_, rfl⟩
      have h2 : s / m ≤ s := Nat.div_le_self _ _
      rw [H.out, ← Int.natCast_ediv]
      generalize s / m = x at h2 ⊢
      rw [wrap_u64_in _ (by omega) (by omega), Int.tmod_eq_emod_of_nonneg (by omega)]
      rfl
end Go.Proofs.YtfaglemadpobeaaDoor
