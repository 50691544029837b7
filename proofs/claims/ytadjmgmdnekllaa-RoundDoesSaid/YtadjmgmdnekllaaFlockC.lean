/- The flock package's pure functions, and the document's, as contracts. -/
import Derived.Test.YtadjmgmdnekllaaChecked
import Derived.Test.YtadjmgmdnekllaaSetR
import Derived.Test.YtadjmgmdnekllaaRow
import Derived.Deep.Cut
import Derived.Outline
namespace Go.Proofs.Ytadjmgmdnekllaa
open Go.RowKit
set_option linter.unusedVariables false
set_option linter.unusedSimpArgs false

theorem bit_any (k : Int) (w : World) : Calls Try.prog 110 #[.int .i64 k] w fun e w' => e = .returned (.int .u64 (bitN k : Nat)) ∧ w = w' := by
  by_cases h0 : k < 0
  · have hb : Hid (bitN k = 0) := hid (by unfold bitN; rw [if_neg (by omega)])
    go_enter Try.func110, Try.ntmps110
    go_wp2
    go_ret
    exact ⟨by rw [hb.out]; rfl, rfl⟩
  · by_cases h1 : 64 ≤ k
    · have hb : Hid (bitN k = 0) := hid (by unfold bitN; rw [if_neg (by omega)])
      go_enter Try.func110, Try.ntmps110
      go_wp2
      go_ret
      exact ⟨by rw [hb.out]; rfl, rfl⟩
    · obtain ⟨n, rfl⟩ := Int.eq_ofNat_of_zero_le (show 0 ≤ k by omega)
      have hb : Hid (bitN (n : Int) = 2 ^ n) := hid (by unfold bitN; rw [if_pos (by omega)]; simp)
      have hn : n < 64 := by omega
      go_enter Try.func110, Try.ntmps110
      go_wp2
      go_ret
      exact ⟨by rw [hb.out]; exact ret_u64 (wrap_pow n hn), rfl⟩

theorem has_any (s : Nat) (k : Int) (w : World) (hs : s < 18446744073709551616) : Calls Try.prog 16 #[.int .u64 s, .int .i64 k] w fun e w' => e = .returned (.bool (hasS s k)) ∧ w = w' := by
  have HE := hid (has_eq s k)
  have hb := bitN_lt k
  go_enter Try.func16, Try.ntmps16
  go_wp2_with (go_at_call 110; refine (bit_any _ _).mono ?_; rintro e w' ⟨rfl, rfl⟩)
  go_ret
  refine ⟨ret_bool ?_, rfl⟩
  rw [u64_and_nat s (bitN k) hs hb, ← HE.out]
  generalize s &&& bitN k = x
  rw [Bool.eq_iff_iff]
  simp
theorem with_any (s : Nat) (k : Int) (w : World) (hs : s < 18446744073709551616) : Calls Try.prog 18 #[.int .u64 s, .int .i64 k] w fun e w' => e = .returned (.int .u64 (withS s k : Nat)) ∧ w = w' := by
  have hb := bitN_lt k
  go_enter Try.func18, Try.ntmps18
  go_wp2_with (go_at_call 110; refine (bit_any _ _).mono ?_; rintro e w' ⟨rfl, rfl⟩)
  go_ret
  exact ⟨ret_u64 (u64_or_nat s (bitN k) hs hb), rfl⟩
theorem less_any (s : Nat) (k : Int) (w : World) (hs : s < 18446744073709551616) : Calls Try.prog 20 #[.int .u64 s, .int .i64 k] w fun e w' => e = .returned (.int .u64 (lessS s k : Nat)) ∧ w = w' := by
  have hb := bitN_lt k
  go_enter Try.func20, Try.ntmps20
  go_wp2_with (go_at_call 110; refine (bit_any _ _).mono ?_; rintro e w' ⟨rfl, rfl⟩)
  go_ret
  exact ⟨ret_u64 (u64_andNot_nat s (bitN k) hs hb), rfl⟩
theorem below_any (k : Int) (w : World) : Calls Try.prog 24 #[.int .i64 k] w fun e w' => e = .returned (.int .u64 (belowS k : Nat)) ∧ w = w' := by
  by_cases h0 : k ≤ 0
  · have hb : Hid (belowS k = 0) := hid (by unfold belowS; rw [if_pos h0])
    go_enter Try.func24, Try.ntmps24
    go_wp2
    go_ret
    exact ⟨by rw [hb.out]; rfl, rfl⟩
  · by_cases h1 : 64 ≤ k
    · have hb : Hid (belowS k = 18446744073709551615) := hid (by unfold belowS; rw [if_neg h0, if_pos h1])
      go_enter Try.func24, Try.ntmps24
      go_wp2
      go_ret
      exact ⟨by rw [hb.out]; rfl, rfl⟩
    · obtain ⟨n, rfl⟩ := Int.eq_ofNat_of_zero_le (show 0 ≤ k by omega)
      have hb : Hid (belowS (n : Int) = 2 ^ n - 1) := hid (by unfold belowS; rw [if_neg h0, if_neg h1]; simp)
      have hn : n < 64 := by omega
      go_enter Try.func24, Try.ntmps24
      go_wp2
      go_ret
      refine ⟨ret_u64 ?_, rfl⟩
      rw [hb.out, wrap_pow n hn]
      have h2 := two_pow_lt64 hn
      have h3 := Nat.two_pow_pos n
      generalize 2 ^ n = x at h2 h3 ⊢
      rw [wrap_u64_in _ (by omega) (by omega)]
      omega
end Go.Proofs.Ytadjmgmdnekllaa
