/- Flock: the set of all below; List of the document. -/
import Derived.Test.YtdphdodjidbngaaNeP
namespace Go.Proofs.Ytdphdodjidbngaa
open Go.RowKit
set_option linter.unusedVariables false
set_option linter.unusedSimpArgs false

theorem below_any (k : Int) (w : World) : Calls Try.prog 40 #[.int .i64 k] w fun e w' => e = .returned (.int .u64 (belowS k : Nat)) ∧ w = w' := by
  by_cases h0 : k ≤ 0
  · have hb : Hid (belowS k = 0) := hid (by unfold belowS; rw [if_pos h0])
    go_enter Try.func40, Try.ntmps40
    go_wp2
    go_ret
    exact ⟨by rw [hb.out]; rfl, rfl⟩
  · by_cases h1 : 64 ≤ k
    · have hb : Hid (belowS k = 18446744073709551615) := hid (by unfold belowS; rw [if_neg h0, if_pos h1])
      go_enter Try.func40, Try.ntmps40
      go_wp2
      go_ret
      exact ⟨by rw [hb.out]; rfl, rfl⟩
    · obtain ⟨n, rfl⟩ := Int.eq_ofNat_of_zero_le (show 0 ≤ k by omega)
      have hb : Hid (belowS (n : Int) = 2 ^ n - 1) := hid (by unfold belowS; rw [if_neg h0, if_neg h1]; simp)
      have hn : n < 64 := by omega
      go_enter Try.func40, Try.ntmps40
      go_wp2
      go_ret
      refine ⟨ret_u64 ?_, rfl⟩
      rw [hb.out, wrap_pow n hn]
      have h2 := two_pow_lt64 hn
      have h3 := Nat.two_pow_pos n
      generalize 2 ^ n = x at h2 h3 ⊢
      rw [wrap_u64_in _ (by omega) (by omega)]
      omega
theorem elemsU_len (s : Nat) : ∀ n, (elemsU s n).length ≤ n
  | 0 => by simp [elemsU]
  | n + 1 => by
    have := elemsU_len s n
    unfold elemsU
    rw [List.length_append]
    split <;> simp <;> omega
theorem elemsU_yes {s n : Nat} (h : s.testBit n = true) : elemsU s (n + 1) = elemsU s n ++ [(n : Int)] := by rw [elemsU, if_pos h]
theorem elemsU_no {s n : Nat} (h : s.testBit n = false) : elemsU s (n + 1) = elemsU s n := by rw [elemsU, if_neg (by simp [h])]; simp
theorem hasS_nat (s n : Nat) (h : n < 64) : hasS s (n : Int) = s.testBit n := by unfold hasS; rw [decide_eq_true (by omega)]; simp
end Go.Proofs.Ytdphdodjidbngaa
