/- What each function of the seen package and of its reference does. -/
import Derived.Test.YtdekemlckpbbcaaChecked
import Derived.Test.YtdekemlckpbbcaaBase
import Derived.Outline
import Derived.Deep.Cut
import Derived.WalkLawsBesides
import Derived.BigQuiet
import Derived.Deep.QuietTactic
namespace Go.Proofs.Ytdekemlckpbbcaa
open Go.RowKit Go.Sort
set_option linter.unusedVariables false

def gP (p inc : Int) : Int := if p < inc then inc else p
def gL (p l inc : Int) : Int := if p < inc then 0 else l
def gC (m p l inc me seq : Int) : Int := if inc < p then 0 else if me < m then 3 else if m < me then 0 else if seq = gL p l inc + 1 then 1 else if 1 ≤ seq ∧ seq ≤ gL p l inc then 2 else 0
def gN (m p l inc me seq : Int) : Int := if gC m p l inc me seq = 1 then seq else if inc < p then l else gL p l inc
def gQ (p inc : Int) : Int := gP p inc

theorem glearn_any (m p l inc : Int) (W : World) : Calls Try.prog 79 #[.agg #[.int .i64 m, .int .i64 p, .int .i64 l], .int .i64 inc] W fun e w' => e = .returned (.agg #[.int .i64 m, .int .i64 (gP p inc), .int .i64 (gL p l inc)]) ∧ Below W.heap.size W w' := by
  by_cases h : p < inc
  · rw [show gP p inc = inc by simp [gP, h], show gL p l inc = 0 by simp [gL, h]]
    go_enter Try.func79, Try.ntmps79
    go_wp2
    exact bodyPost_ret (v := .agg #[.int .i64 m, .int .i64 inc, .int .i64 0]) (by simp [results, Try.results79, go_sem]) rfl ⟨rfl, (by repeat' (first | with_reducible exact Below.refl _ _ | with_reducible refine Below.setCell ?_ (by simp) _ | with_reducible refine Below.alloc ?_ (by simp) _))⟩
  · rw [show gP p inc = p by simp [gP, h], show gL p l inc = l by simp [gL, h]]
    go_enter Try.func79, Try.ntmps79
    go_wp2
    exact bodyPost_ret (v := .agg #[.int .i64 m, .int .i64 p, .int .i64 l]) (by simp [results, Try.results79, go_sem]) rfl ⟨rfl, (by repeat' (first | with_reducible exact Below.refl _ _ | with_reducible refine Below.setCell ?_ (by simp) _ | with_reducible refine Below.alloc ?_ (by simp) _))⟩

theorem rlearn_any (m p l inc : Int) (W : World) : Calls Try.prog 82 #[.agg #[.int .i64 m, .int .i64 p, .int .i64 l], .int .i64 inc] W fun e w' => e = .returned (.agg #[.int .i64 m, .int .i64 (gP p inc), .int .i64 (gL p l inc)]) ∧ Below W.heap.size W w' := by
  by_cases h : p < inc
  · rw [show gP p inc = inc by simp [gP, h], show gL p l inc = 0 by simp [gL, h]]
    go_enter Try.func82, Try.ntmps82
    go_wp2
    exact bodyPost_ret (v := .agg #[.int .i64 m, .int .i64 inc, .int .i64 0]) (by simp [results, Try.results82, go_sem]) rfl ⟨rfl, (by repeat' (first | with_reducible exact Below.refl _ _ | with_reducible refine Below.setCell ?_ (by simp) _ | with_reducible refine Below.alloc ?_ (by simp) _))⟩
  · rw [show gP p inc = p by simp [gP, h], show gL p l inc = l by simp [gL, h]]
    go_enter Try.func82, Try.ntmps82
    go_wp2
    exact bodyPost_ret (v := .agg #[.int .i64 m, .int .i64 p, .int .i64 l]) (by simp [results, Try.results82, go_sem]) rfl ⟨rfl, (by repeat' (first | with_reducible exact Below.refl _ _ | with_reducible refine Below.setCell ?_ (by simp) _ | with_reducible refine Below.alloc ?_ (by simp) _))⟩

theorem snew_any (m : Int) (W : World) : Calls Try.prog 60 #[.int .i64 m] W fun e w' => e = .returned (.agg #[.int .i64 m, .int .i64 1, .int .i64 0]) ∧ Below W.heap.size W w' := by
  go_enter Try.func60, Try.ntmps60
  go_wp2
  exact bodyPost_ret (v := .agg #[.int .i64 m, .int .i64 1, .int .i64 0]) (by simp [results, Try.results60, go_sem]) rfl ⟨rfl, (by repeat' (first | with_reducible exact Below.refl _ _ | with_reducible refine Below.setCell ?_ (by simp) _ | with_reducible refine Below.alloc ?_ (by simp) _))⟩

end Go.Proofs.Ytdekemlckpbbcaa
