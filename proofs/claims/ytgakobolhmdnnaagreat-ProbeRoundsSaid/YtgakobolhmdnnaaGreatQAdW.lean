/- flock.Each as an iterator, and its callers. -/
import Derived.RangeFuncNested
import Derived.RangeFuncBound
import Derived.RangeFuncCalls
import Derived.RangeFuncLeaves
import Derived.RangeFuncBox
import Derived.Shelf.Abstract
import Derived.Shelf.RegionOpen
import Derived.WalkKit
import Derived.OwnWalkIn
import Derived.TacticsInMore
import Derived.LoopNIn
import Derived.LoopIn
import Derived.Maps.AppendAt
import Derived.Test.YtgakobolhmdnnaaGreatQAdU
namespace Go.Proofs.YtgakobolhmdnnaaGreat
open Go.RowKit Go.Shelf
set_option linter.unusedVariables false
set_option linter.unusedSimpArgs false

attribute [local go_sem] Oper.semAt_some

theorem elemsU_pre (s : Nat) : ∀ n m, n ≤ m → elemsU s n <+: elemsU s m := by
  intro n m h
  obtain ⟨d, rfl⟩ : ∃ d, m = n + d := ⟨m - n, by omega⟩
  clear h
  induction d with
  | zero => exact List.prefix_refl _
  | succ d ih => exact ih.trans ⟨_, rfl⟩

/-- The box stays as it is. -/
def KeepsBox (B : Nat) (W W' : World) : Prop := ∀ t v, Boxed W B t v → Boxed W' B t v
theorem keepsBox_t {B : Nat} {X Y Z : World} (h : KeepsBox B X Y) (k : KeepsBox B Y Z) : KeepsBox B X Z := fun t v hv => k t v (h t v hv)
theorem keepsBox_b {B n : Nat} (W : World) (l : Nat) (o o' : Obj) (_ : n ≤ l) (h : W.heap[l]? = some o) (hc : o.isCells = false) (_ : o.isWalk = false) : KeepsBox B W (W.putObj l o') := fun t v hv =>
  hv.kept (grownBy_putObj' W l o') (fun e => by
    obtain rfl : B = l := by simpa using e
    rw [show W.heap[B]? = _ from hv] at h; cases h; cases hc)

theorem keepsBox_of {B : Nat} {X Y : World} {t : TypeId} {v : Value} (h : Boxed X B t v) (k : Boxed Y B t v) : KeepsBox B X Y := fun t' v' h' => by
  have e := (show X.heap[B]? = _ from h).symm.trans h'
  simp at e
  obtain ⟨rfl, rfl⟩ := e
  exact k

set_option maxRecDepth 100000 in
set_option maxHeartbeats 1000000 in
theorem each1_in (n : Nat) (hn : 1 ≤ n) (l Bn s : Nat) (hs : s < 18446744073709551616) (J Jx : List Int → World → Prop)
    (hY : ∀ pre x W, J pre W → pre.length < 64 → YieldAt Fence.wide (n - 1) Tryz.prog l #[.int .i64 x] W fun e W' =>
      (e = .returned (.bool true) ∧ J (pre ++ [x]) W' ∧ KeepsBox Bn W W') ∨ (e = .returned (.bool false) ∧ Jx (pre ++ [x]) W'))
    (W : World) (hBn : Boxed W Bn 43 (.int .u64 s)) (h0 : J [] W) :
    CallsIn Fence.wide n Tryz.prog 115 #[.func (.yield l) #[] #[], .pointer (some ⟨Bn, 0, none⟩)] W fun e W' => (∃ v, e = .returned v) ∧
      ((∃ ys, ys = elems s ∧ J ys W') ∨ (∃ pre, pre <+: elems s ∧ Jx pre W')) := by
  have HH := hid (fun k w => has_any s k w hs)
  have HY := hid hY
  clear hY
  refine callsIn_of_wp Tryz.func115 rfl trivial ?_ rfl
  simp only [Tryz.ntmps115, List.size_toArray, List.length_cons, List.length_nil, Nat.reduceAdd, Nat.reduceSub, Array.replicate_succ, Array.replicate_zero, List.push_toArray, List.append_toArray, List.nil_append, List.cons_append]
  gi_wp2
  gi_loopw [4] (fun i wr => ∃ k : Nat, k ≤ 64 ∧ i = .int .i64 (k : Int) ∧ Hid (Boxed wr Bn 43 (.int .u64 s)) ∧ Hid (J (elemsU s k) wr))
    (fun i wr => 64 - (intOf i).toNat)
  case atStart => exact ⟨0, by omega, rfl, hBn, h0⟩
  case round =>
    obtain ⟨k, hk, rfl, HC, HJ⟩ := hrel
    have hc := HC.out.cell
    by_cases hlt : k < 64
    · have hlt2 : (k : Int) < 64 := by omega
      have H1 := hid (HH.out (k : Int))
      rw [hasS_nat s k hlt] at H1
      by_cases hm : s.testBit k = true
      · rw [hm] at H1
        have H2 := hid (elemsU_yes hm)
        have H3 : Hid (elemsU s k ++ [(k : Int)] <+: elems s) := hid (by rw [← H2.out, elems_def]; exact elemsU_pre s _ _ (by omega))
        have H4 := hid (HY.out (elemsU s k) (k : Int) wr HJ.out (by have := elemsU_len s k; omega))
        clear hm
        gi_wp2_with (refine ⟨trivial, ?_⟩; gi_at_call 77; refine (callsIn_wide.2 (H1.out _)).mono ?_; rintro e w' ⟨rfl, rfl⟩; obtain ⟨fn, tmps, assign, body, hy, hR⟩ := H4.out)
        refine hR.mono ?_
        rintro e W3 (⟨rfl, hJ3, hk3⟩ | ⟨rfl, hJx3⟩)
        · have hc3 := hid (hk3 _ _ HC.out)
          have HJ3 : Hid (J (elemsU s (k + 1)) W3) := hid (by rw [H2.out]; exact hJ3)
          clear hJ3 hk3 hR hy
          gi_wp2
          go_roundw
          case rel => exact ⟨k + 1, by omega, by go_num, hc3, HJ3⟩
          case measure => simp [intOf]; omega
        · have HJ3 : Hid (Jx (elemsU s k ++ [(k : Int)]) W3) := hid hJx3
          clear hJx3 hR hy
          gi_wp2
          refine bodyPost_ret (results_none rfl _ _ _) rfl ?_
          exact ⟨⟨_, rfl⟩, .inr ⟨_, H3.out, HJ3.out⟩⟩
      · have hm' : s.testBit k = false := by simpa using hm
        rw [hm'] at H1
        have H2 := hid (elemsU_no hm')
        clear hm hm'
        gi_wp2_with (refine ⟨trivial, ?_⟩; gi_at_call 77; refine (callsIn_wide.2 (H1.out _)).mono ?_; rintro e w' ⟨rfl, rfl⟩)
        refine ⟨fun _ h => (by cases h), ?_⟩
        gi_wp2
        go_roundw
        case rel => exact ⟨k + 1, by omega, by go_num, HC, by rw [H2.out]; exact HJ⟩
        case measure => simp [intOf]; omega
    · have hge : (64 : Int) ≤ k := by omega
      have H2 : Hid (J (elems s) wr) := hid (by have := HJ.out; rwa [show k = 64 by omega, ← elems_def] at this)
      clear HJ
      gi_wp2
      go_end0
      exact ⟨⟨_, rfl⟩, .inl ⟨_, rfl, H2.out⟩⟩

theorem each_any (s : Nat) (w : World) : Calls Tryz.prog 87 #[.int .u64 s] w fun e w' => e = .returned (.func (.func 115) #[] #[.pointer (some ⟨w.heap.size, 0, none⟩)]) ∧ w' = w.alloc (.cells #[.int .u64 s] 43) := by
  go_enter Tryz.func87, Tryz.ntmps87
  go_wp2
  go_ret
  exact ⟨rfl, rfl⟩

/-- Each's value: all the elements, in their order; or a part, where a round has said 'no more'. -/
theorem each_stops (n : Nat) (hn : 1 ≤ n) (Bn s : Nat) (hs : s < 18446744073709551616) (w : World) (hc : Boxed w Bn 43 (.int .u64 s)) :
    SeqStopsK Fence.wide n Tryz.prog 115 #[.pointer (some ⟨Bn, 0, none⟩)] (fun x : Int => #[Value.int .i64 x]) (KeepsBox Bn) (fun ys => ys = elems s) (fun pre => pre <+: elems s) 64 w := fun l J Jx W hW _ _ hY h0 =>
  each1_in n hn l Bn s hs J Jx hY W ((hW.block Bn hc.lt).trans hc) h0

end Go.Proofs.YtgakobolhmdnnaaGreat
