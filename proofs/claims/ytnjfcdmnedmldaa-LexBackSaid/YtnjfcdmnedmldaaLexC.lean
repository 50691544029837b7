/- Signs: contracts. -/
import Derived.Test.YtnjfcdmnedmldaaLexN
import Derived.Test.YtnjfcdmnedmldaaGlyR
namespace Go.Proofs.Ytnjfcdmnedmldaa
open Go.RowKit
set_option linter.unusedVariables false
set_option linter.unusedSimpArgs false

set_option maxHeartbeats 2000000 in
theorem sign_is (c : Int) (W : World) : Calls Try.prog 39 #[.int .i32 c] W fun e w' => e = .returned (.bool (decide (SigP c))) ∧ W = w' := by
  go_enter Try.func39, Try.ntmps39
  go_wp2
  all_goals go_ret
  all_goals exact ⟨ret_dec ⟨_, rfl, by unfold SigP; simp at * <;> omega⟩, rfl⟩
set_option maxHeartbeats 2000000 in
theorem rsign_is (c : Int) (W : World) : Calls Try.prog 40 #[.int .i64 c] W fun e w' => e = .returned (.bool (decide (SigP c))) ∧ W = w' := by
  go_enter Try.func40, Try.ntmps40
  go_wp2
  all_goals go_ret
  all_goals exact ⟨ret_dec ⟨_, rfl, by unfold SigP; simp at * <;> omega⟩, rfl⟩
end Go.Proofs.Ytnjfcdmnedmldaa
