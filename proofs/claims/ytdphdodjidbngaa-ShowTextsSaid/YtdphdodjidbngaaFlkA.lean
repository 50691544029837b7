/- The flock package's pure functions, and the document's, as contracts. -/
import Derived.Test.YtdphdodjidbngaaChecked
import Derived.Test.YtdphdodjidbngaaSetR
import Derived.Test.YtdphdodjidbngaaRow
import Derived.Deep.Cut
import Derived.Outline
namespace Go.Proofs.Ytdphdodjidbngaa
open Go.RowKit
set_option linter.unusedVariables false
set_option linter.unusedSimpArgs false

theorem bit_any (k : Int) (w : World) : Calls Try.prog 162 #[.int .i64 k] w fun e w' => e = .returned (.int .u64 (bitN k : Nat)) ∧ w = w' := by
  by_cases h0 : k < 0
  · have hb : Hid (bitN k = 0) := hid (by unfold bitN; rw [if_neg (by omega)])
    go_enter Try.func162, Try.ntmps162
    go_wp2
    go_ret
    exact ⟨by rw [hb.out]; rfl, rfl⟩
  · by_cases h1 : 64 ≤ k
    · have hb : Hid (bitN k = 0) := hid (by unfold bitN; rw [if_neg (by omega)])
      go_enter Try.func162, Try.ntmps162
      go_wp2
      go_ret
      exact ⟨by rw [hb.out]; rfl, rfl⟩
    · obtain ⟨n, rfl⟩ := Int.eq_ofNat_of_zero_le (show 0 ≤ k by omega)
      have hb : Hid (bitN (n : Int) = 2 ^ n) := hid (by unfold bitN; rw [if_pos (by omega)]; simp)
      have hn : n < 64 := by omega
      go_enter Try.func162, Try.ntmps162
      go_wp2
      go_ret
      exact ⟨by rw [hb.out]; exact ret_u64 (wrap_pow n hn), rfl⟩

theorem with_any (s : Nat) (k : Int) (w : World) (hs : s < 18446744073709551616) : Calls Try.prog 139 #[.int .u64 s, .int .i64 k] w fun e w' => e = .returned (.int .u64 (withS s k : Nat)) ∧ w = w' := by
  have hb := bitN_lt k
  go_enter Try.func139, Try.ntmps139
  go_wp2_with (go_at_call 162; refine (bit_any _ _).mono ?_; rintro e w' ⟨rfl, rfl⟩)
  go_ret
  exact ⟨ret_u64 (u64_or_nat s (bitN k) hs hb), rfl⟩
end Go.Proofs.Ytdphdodjidbngaa

