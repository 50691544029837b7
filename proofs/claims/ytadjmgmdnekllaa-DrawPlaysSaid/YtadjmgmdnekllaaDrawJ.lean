/- Calls at a nil tape. -/
import Derived.Test.YtadjmgmdnekllaaDrawI
namespace Go.Proofs.Ytadjmgmdnekllaa
open Go.RowKit
set_option linter.unusedVariables false
set_option linter.unusedSimpArgs false

theorem add0 (x : Value) (W : World) : Calls Try.prog 41 #[.pointer none, x] W fun e w' => (∃ v, e = .returned v) ∧ W = w' := by
  go_enter Try.func41, Try.ntmps41
  go_wp2
  go_end0
  exact ⟨⟨_, rfl⟩, rfl⟩
theorem next0 (W : World) : Calls Try.prog 36 #[.pointer none] W fun e w' => e = .returned (.int .u64 0) ∧ W = w' := by
  go_enter Try.func36, Try.ntmps36
  go_wp2
  go_ret
  exact ⟨rfl, rfl⟩
theorem below0 (n : Int) (W : World) (hn : n ≤ 9223372036854775807) : Calls Try.prog 38 #[.pointer none, .int .i64 n] W fun e w' => e = .returned (.int .i64 0) ∧ W = w' := by
  by_cases h1 : n < 1
  · go_enter Try.func38, Try.ntmps38
    go_wp2
    go_ret
    exact ⟨rfl, rfl⟩
  · obtain ⟨m, rfl⟩ : ∃ m : Nat, n = (m : Int) := ⟨n.toNat, by omega⟩
    have hm : (1 : Int) ≤ (m : Int) := by omega
    have hz : ((m : Int) == 0) = false := by rw [beq_eq_false_iff_ne]; omega
    have hq : ((0 : Int) % (m : Int)) = 0 := Int.zero_emod _
    have hq2 : ((0 : Int).tmod (m : Int)) = 0 := Int.zero_tmod _
    go_enter Try.func38, Try.ntmps38
    go_wp2_with fail
    refine (next0 _).mono ?_
    rintro e w1 ⟨rfl, rfl⟩
    go_wp2
    go_ret
    exact ⟨rfl, rfl⟩
theorem left0 (W : World) : Calls Try.prog 44 #[.pointer none] W fun e w' => e = .returned (.slice none 0 0) ∧ W = w' := by
  go_enter Try.func44, Try.ntmps44
  go_wp2
  go_ret
  exact ⟨rfl, rfl⟩
theorem clone0 (W : World) : Calls Try.prog 42 #[.pointer none] W fun e w' => e = .returned (.pointer none) ∧ W = w' := by
  go_enter Try.func42, Try.ntmps42
  go_wp2
  go_ret
  exact ⟨rfl, rfl⟩
theorem RowG.only {w w' : World} {G : Option Nat} {E B R : Nat} {cs : Array Value} {t : TypeId} (h : RowG w G E B) (ho : Only R w w') (hR : w.heap[R]? = some (.cells cs t (0, 0))) (hne : t ≠ 22) : RowG w' G E B := fun g hg => by
  obtain ⟨h1, cur, h2, h3⟩ := h g hg
  refine ⟨h1, cur, ho.block h2 ?_, h3⟩
  rintro rfl
  rw [h2] at hR
  injection hR with hR
  injection hR with _ h6
  exact hne h6.symm
theorem RowG.below {w w' : World} {G : Option Nat} {E B : Nat} (h : RowG w G E B) (hb : Below w.heap.size w w') : RowG w' G E B := fun g hg => by
  obtain ⟨h1, cur, h2, h3⟩ := h g hg
  exact ⟨h1, cur, keep0 h2 hb, h3⟩
end Go.Proofs.Ytadjmgmdnekllaa
