/- MsgBack is true for every input. -/
import Derived.Test.YtdjcfeglaiihgaaRows
import Derived.Test.YtdjcfeglaiihgaaMsgI
import Derived.WalkKit
import Derived.ProofKit
import Derived.OpenShut
import Derived.ShutString
import Derived.ChangeOld
import Derived.Below
import Derived.Lib.SmallJoins
namespace Go.Proofs.Ytdjcfeglaiihgaa.msgBack
open Go.ChangeShapes Go.WideShapes Go.ChangeAt Go.RowKit
open Go.ChangeMaps (open_string shut_string)
open Go.Joins
set_option linter.unusedVariables false

theorem own : ownKnob Try.prog.godebug = none := by kernel_rfl
theorem laidOut : laidOutB Try.prog = true := by kernel_rfl
theorem cells24 : Try.prog.cellsOf 24 = 4 := by kernel_rfl

theorem walk (a0x a0y a0z a0t : Int) (a1x a1y a1z a1t : Int) (a2 : ByteArray) (w : World) (wa0x : (Lit.int .i64 a0x).wf = true) (wa0y : (Lit.int .i64 a0y).wf = true) (wa0z : (Lit.int .i64 a0z).wf = true) (wa0t : (Lit.int .i64 a0t).wf = true) (wa1x : (Lit.int .i64 a1x).wf = true) (wa1y : (Lit.int .i64 a1y).wf = true) (wa1z : (Lit.int .i64 a1z).wf = true) (wa1t : (Lit.int .i64 a1t).wf = true) (w2 : a2.size ≤ maxLen) :
    Calls Try.prog 4 #[.agg #[.int .i64 a0x, .int .i64 a0y, .int .i64 a0z, .int .i64 a0t], .agg #[.int .i64 a1x, .int .i64 a1y, .int .i64 a1z, .int .i64 a1t], .string a2] w fun e w' => e = .returned (.bool true) ∧ Below w.heap.size w w' := by
  exact msgBack_law a0x a0y a0z a0t a1x a1y a1z a1t a2 w

set_option maxRecDepth 100000 in
theorem lifted (os : Os) (started : os.Started) (H : Type) (enc : TypeId × Value → H) :
    ReturnsInHanded {} Try.checked os 4 .any (Rows.msgBackSpec.pre6 enc Try.prog Try.f4 Rows.msgBackRow.domain false) (Rows.msgBackSpec.post enc Try.prog Try.f4 false true false false) := by
  refine returnsInHanded_of_change (C := Try.checked) own started (by kernel_rfl) Try.func4
    (ChangeSpec.witness6 (enc := enc) (C := Try.checked) false ⟨#[], #[.agg #[.int .i64 0, .int .i64 0, .int .i64 0, .int .i64 0], .agg #[.int .i64 0, .int .i64 0, .int .i64 0, .int .i64 0], .string ByteArray.empty], []⟩ 8 (by kernel_rfl) (by kernel_rfl) (by kernel_rfl) (by kernel_rfl)) ?_
  intro W base args ds gs before hval0 hW hcnd _
  have hval : ∀ (j : Nat) t v, Try.f4.params[j]? = some t → args[j]? = some v → Value.okWide Try.prog W .any base t v := hval0
  have hW' := hW
  obtain ⟨p, q, hA0, hV, rfl, hfz, hnd⟩ := hW
  have hA : DataW.TrodAll enc Try.prog W 0 (fun _ => true) true Try.f4.params.toList args.toList ds p := hA0
  rw [Try.params4] at hA hval
  obtain ⟨v0, vs0, d0, ds0, p0, q0, hargs, rfl, rfl, h0, r0⟩ := trodAll_cons hA
  obtain ⟨v1, vs1, d1, ds1, p1, q1, rfl, rfl, rfl, h1, r1⟩ := trodAll_cons r0
  obtain ⟨v2, vs2, d2, ds2, p2, q2, rfl, rfl, rfl, h2, r2⟩ := trodAll_cons r1
  obtain ⟨rfl, rfl, rfl⟩ := trodAll_nil r2
  obtain rfl : args = #[v0, v1, v2] := by cases args; simp_all
  obtain ⟨rfl, rfl⟩ := trodVars_none hV
  have k0 := h0
  have lt0 : ∀ x ∈ p0, x.block < W.heap.size := by obtain ⟨m, hm⟩ := k0; exact DataW.trod_lt m _ _ _ hm
  obtain ⟨c0x, c0y, c0z, c0t, y0x, y0y, y0z, y0t, m0, rfl, rfl, rfl, hy0x, hy0y, hy0z, hy0t⟩ := open_agg4 Try.underlying24 (by kernel_rfl) cells24 (hval 0 24 v0 rfl rfl) h0
  obtain ⟨a0x, ea0x, rfl, wa0x⟩ := DataW.trod_int Try.underlying3 hy0x
  obtain rfl : c0x = .int .i64 a0x := by simpa using ea0x
  obtain ⟨a0y, ea0y, rfl, wa0y⟩ := DataW.trod_int Try.underlying3 hy0y
  obtain rfl : c0y = .int .i64 a0y := by simpa using ea0y
  obtain ⟨a0z, ea0z, rfl, wa0z⟩ := DataW.trod_int Try.underlying3 hy0z
  obtain rfl : c0z = .int .i64 a0z := by simpa using ea0z
  obtain ⟨a0t, ea0t, rfl, wa0t⟩ := DataW.trod_int Try.underlying3 hy0t
  obtain rfl : c0t = .int .i64 a0t := by simpa using ea0t
  have k1 := h1
  have lt1 : ∀ x ∈ p1, x.block < W.heap.size := by obtain ⟨m, hm⟩ := k1; exact DataW.trod_lt m _ _ _ hm
  obtain ⟨c1x, c1y, c1z, c1t, y1x, y1y, y1z, y1t, m1, rfl, rfl, rfl, hy1x, hy1y, hy1z, hy1t⟩ := open_agg4 Try.underlying24 (by kernel_rfl) cells24 (hval 1 24 v1 rfl rfl) h1
  obtain ⟨a1x, ea1x, rfl, wa1x⟩ := DataW.trod_int Try.underlying3 hy1x
  obtain rfl : c1x = .int .i64 a1x := by simpa using ea1x
  obtain ⟨a1y, ea1y, rfl, wa1y⟩ := DataW.trod_int Try.underlying3 hy1y
  obtain rfl : c1y = .int .i64 a1y := by simpa using ea1y
  obtain ⟨a1z, ea1z, rfl, wa1z⟩ := DataW.trod_int Try.underlying3 hy1z
  obtain rfl : c1z = .int .i64 a1z := by simpa using ea1z
  obtain ⟨a1t, ea1t, rfl, wa1t⟩ := DataW.trod_int Try.underlying3 hy1t
  obtain rfl : c1t = .int .i64 a1t := by simpa using ea1t
  have k2 := h2
  have lt2 : ∀ x ∈ p2, x.block < W.heap.size := by obtain ⟨m, hm⟩ := k2; exact DataW.trod_lt m _ _ _ hm
  obtain ⟨a2, rfl, rfl, rfl, w2⟩ := open_string Try.underlying9 (hval 2 9 v2 rfl rfl) h2
  clear hA0 hval0
  refine (walk a0x a0y a0z a0t a1x a1y a1z a1t a2 W wa0x wa0y wa0z wa0t wa1x wa1y wa1z wa1t w2).mono fun e W' ⟨he, bel⟩ => ?_
  subst he
  exact ⟨_, rfl, _, _, _, [], _, [], hW', trodAll_mk1 (shut_bool Try.underlying4 _), (trodAll_cons_mk (Below.trod laidOut (by kernel_rfl) (of_decide_eq_true (by kernel_rfl)) k0 bel lt0) (trodAll_cons_mk (Below.trod laidOut (by kernel_rfl) (of_decide_eq_true (by kernel_rfl)) k1 bel lt1) (trodAll_cons_mk (Below.trod laidOut (by kernel_rfl) (of_decide_eq_true (by kernel_rfl)) k2 bel lt2) trodAll_mk0))), rfl, bel.frame _, fun h => by cases h⟩

theorem over : Rows.msgBackRow.holds Try.pinned (OpenSpec.ofChange Rows.msgBackSpec) :=
  OpenClaim.holds_of_wide 4 Try.f4 rfl rfl rfl rfl rfl rfl rfl ⟨rfl, rfl, rfl, rfl, rfl⟩ rfl rfl rfl rfl rfl (by kernel_rfl) Try.func4 (by kernel_rfl)
    (of_decide_eq_true (by kernel_rfl)) (by unfold Func.isWrapper; first | (rw [if_pos (by decide +kernel)]; kernel_rfl) | (rw [if_neg (by decide +kernel)]; exact ⟨rfl, rfl⟩))
    (fun os started H enc _ => lifted os started H enc)

theorem proved : Rows.MsgBackSaid := over
end Go.Proofs.Ytdjcfeglaiihgaa.msgBack
