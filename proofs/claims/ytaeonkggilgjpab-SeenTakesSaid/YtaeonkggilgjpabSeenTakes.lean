/- What becomes of any gate, by whatever comes, is as the document has it. -/
import Derived.Test.YtaeonkggilgjpabRows
import Derived.Test.YtaeonkggilgjpabSeenM
import Derived.WalkKit
import Derived.ProofKit
import Derived.OpenShut
import Derived.ShutString
import Derived.ChangeOld
import Derived.Below
import Derived.Lib.SmallJoins
import Derived.Test.YtaeonkggilgjpabRd
namespace Go.Proofs.Ytaeonkggilgjpab.seenTakes
open Go.ChangeShapes Go.WideShapes Go.ChangeAt Go.RowKit
open Go.ChangeMaps (open_string shut_string)
open Go.Joins
set_option linter.unusedVariables false

theorem own : ownKnob Try.prog.godebug = none := by kernel_rfl
theorem laidOut : laidOutB Try.prog = true := by kernel_rfl
theorem cells23 : Try.prog.cellsOf 23 = 3 := by kernel_rfl
theorem cells24 : Try.prog.cellsOf 24 = 3 := by kernel_rfl

theorem walk (a0x a0y a0z : Int) (a1 : Array Value) (w : World) (wa0x : (Lit.int .i64 a0x).wf = true) (wa0y : (Lit.int .i64 a0y).wf = true) (wa0z : (Lit.int .i64 a0z).wf = true) (n1 : a1.size = 3) (w1 : Rd Try.prog w 24 a1.toList) :
    Calls Try.prog 3 #[.agg #[.int .i64 a0x, .int .i64 a0y, .int .i64 a0z], .agg a1] w fun e w' => e = .returned (.bool true) ∧ Below w.heap.size w w' := by
  exact seenTakes_any a0x a0y a0z a1 w wa0z w1

set_option maxRecDepth 100000 in
theorem lifted (os : Os) (started : os.Started) (H : Type) (enc : TypeId × Value → H) :
    ReturnsInHanded {} Try.checked os 3 .any (Rows.seenTakesSpec.pre6 enc Try.prog Try.f3 Rows.seenTakesRow.domain false) (Rows.seenTakesSpec.post enc Try.prog Try.f3 false true false false) := by
  refine returnsInHanded_of_change (C := Try.checked) own started (by kernel_rfl) Try.func3
    (ChangeSpec.witness6 (enc := enc) (C := Try.checked) false ⟨#[], #[.agg #[.int .i64 0, .int .i64 0, .int .i64 0], .agg #[.int .i64 0, .int .i64 0, .int .i64 0]], []⟩ 8 (by kernel_rfl) (by kernel_rfl) (by kernel_rfl) (by kernel_rfl)) ?_
  intro W base args ds gs before hval0 hW hcnd _
  have hval : ∀ (j : Nat) t v, Try.f3.params[j]? = some t → args[j]? = some v → Value.okWide Try.prog W .any base t v := hval0
  have hW' := hW
  obtain ⟨p, q, hA0, hV, rfl, hfz, hnd⟩ := hW
  have hA : DataW.TrodAll enc Try.prog W 0 (fun _ => true) true Try.f3.params.toList args.toList ds p := hA0
  rw [Try.params3] at hA hval
  obtain ⟨v0, vs0, d0, ds0, p0, q0, hargs, rfl, rfl, h0, r0⟩ := trodAll_cons hA
  obtain ⟨v1, vs1, d1, ds1, p1, q1, rfl, rfl, rfl, h1, r1⟩ := trodAll_cons r0
  obtain ⟨rfl, rfl, rfl⟩ := trodAll_nil r1
  obtain rfl : args = #[v0, v1] := by cases args; simp_all
  obtain ⟨rfl, rfl⟩ := trodVars_none hV
  have k0 := h0
  have lt0 : ∀ x ∈ p0, x.block < W.heap.size := by obtain ⟨m, hm⟩ := k0; exact DataW.trod_lt m _ _ _ hm
  obtain ⟨c0x, c0y, c0z, y0x, y0y, y0z, m0, rfl, rfl, rfl, hy0x, hy0y, hy0z⟩ := open_agg3 Try.underlying23 (by kernel_rfl) cells23 (hval 0 23 v0 rfl rfl) h0
  obtain ⟨a0x, ea0x, rfl, wa0x⟩ := DataW.trod_int Try.underlying3 hy0x
  obtain rfl : c0x = .int .i64 a0x := by simpa using ea0x
  obtain ⟨a0y, ea0y, rfl, wa0y⟩ := DataW.trod_int Try.underlying3 hy0y
  obtain rfl : c0y = .int .i64 a0y := by simpa using ea0y
  obtain ⟨a0z, ea0z, rfl, wa0z⟩ := DataW.trod_int Try.underlying3 hy0z
  obtain rfl : c0z = .int .i64 a0z := by simpa using ea0z
  have k1 := h1
  have lt1 : ∀ x ∈ p1, x.block < W.heap.size := by obtain ⟨m, hm⟩ := k1; exact DataW.trod_lt m _ _ _ hm
  obtain ⟨a1, rfl, n1⟩ := okWide_array' Try.underlying24 (hval 1 24 v1 rfl rfl)
  rw [cells24] at n1
  have w1 : Rd Try.prog W 24 a1.toList := by simpa [Value.cells] using Rd.of h1
  clear hA0 hval0
  refine (walk a0x a0y a0z a1 W wa0x wa0y wa0z n1 w1).mono fun e W' ⟨he, bel⟩ => ?_
  subst he
  exact ⟨_, rfl, _, _, _, [], _, [], hW', trodAll_mk1 (shut_bool Try.underlying4 _), (trodAll_cons_mk (Below.trod laidOut (by kernel_rfl) (of_decide_eq_true (by kernel_rfl)) k0 bel lt0) (trodAll_cons_mk (Below.trod laidOut (by kernel_rfl) (of_decide_eq_true (by kernel_rfl)) k1 bel lt1) trodAll_mk0)), rfl, bel.frame _, fun h => by cases h⟩

theorem over : Rows.seenTakesRow.holds Try.pinned (OpenSpec.ofChange Rows.seenTakesSpec) :=
  OpenClaim.holds_of_wide 3 Try.f3 rfl rfl rfl rfl rfl rfl rfl ⟨rfl, rfl, rfl, rfl, rfl⟩ rfl rfl rfl rfl rfl (by kernel_rfl) Try.func3 (by kernel_rfl)
    (of_decide_eq_true (by kernel_rfl)) (by unfold Func.isWrapper; first | (rw [if_pos (by decide +kernel)]; kernel_rfl) | (rw [if_neg (by decide +kernel)]; exact ⟨rfl, rfl⟩))
    (fun os started H enc _ => lifted os started H enc)

theorem proved : Rows.SeenTakesSaid := over
end Go.Proofs.Ytaeonkggilgjpab.seenTakes
