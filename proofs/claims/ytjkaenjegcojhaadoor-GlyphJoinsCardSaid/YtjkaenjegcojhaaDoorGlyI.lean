/- glyph.Each as an iterator. -/
import Derived.RangeFuncNested
import Derived.RangeFuncBound
import Derived.RangeFuncCalls
import Derived.RangeFuncLeaves
import Derived.RangeFuncBox
import Derived.Shelf.Abstract
import Derived.Shelf.RegionOpen
import Derived.WalkKit
import Derived.OwnWalkIn
import Derived.TacticsInMore
import Derived.LoopNIn
import Derived.LoopIn
import Derived.Maps.AppendAt
import Derived.Lib.OthersKept
import Derived.Test.YtjkaenjegcojhaaDoorGlyW
namespace Go.Proofs.YtjkaenjegcojhaaDoor
open Go.RowKit Go.Shelf
set_option linter.unusedVariables false
set_option linter.unusedSimpArgs false

attribute [local go_sem] Oper.semAt_some

/-- The runes as the iterator tells them: where, and which. -/
def rnP (l : List UInt8) : List (Nat × Nat) := (rns l 0).map fun r => (r.1, r.2.1)
theorem iterPos_is {w : World} {k pos : Nat} {s : ByteArray} (h : w.heap[k]? = some (.stringIter s pos)) : w.iterPos k = pos := by simp [World.iterPos, h]
theorem grown_iterAt (w : World) (k : Nat) (s : ByteArray) (pos : Nat) : w.grownBy (w.iterAt k s pos) (some k) :=
  ⟨rfl, rfl, rfl, by rw [Lib.iterAt_size]; exact Nat.le_refl _, fun j _ hj => Lib.iterAt_other w k j s pos (fun e => hj (by rw [e]))⟩

set_option maxRecDepth 100000 in
set_option maxHeartbeats 2000000 in
theorem eachg_in (n : Nat) (hn : 1 ≤ n) (l Bn : Nat) (s : List UInt8) (hs : s.length ≤ 1000) (J Jx : List (Nat × Nat) → World → Prop)
    (W : World) (hJ : AbidesFrom W.heap.size J)
    (hY : ∀ pre x W, J pre W → pre.length < 1001 → YieldAt Fence.wide (n - 1) Tryd.prog l #[.int .i64 (x.1 : Int), .int .i32 (x.2 : Int)] W fun e W' =>
      (e = .returned (.bool true) ∧ J (pre ++ [x]) W' ∧ KeepsWalks W W') ∨ (e = .returned (.bool false) ∧ Jx (pre ++ [x]) W'))
    (hBn : Boxed W Bn 9 (.string (str s))) (h0 : J [] W) :
    CallsIn Fence.wide n Tryd.prog 34 #[.func (.yield l) #[] #[], .pointer (some ⟨Bn, 0, none⟩)] W fun e W' => (∃ v, e = .returned v) ∧
      ((∃ ys, ys = rnP s ∧ J ys W') ∨ (∃ pre, pre <+: rnP s ∧ Jx pre W')) := by
  have HY := hid hY
  have HJ := hid hJ
  have HSZ := hid (str_size s)
  have hc := hBn.cell
  have HJ0 := hid (HJ.out [] W _ none h0 (World.grownBy_alloc W (.stringIter (str s) 0) none) (fun r e => by cases e))
  clear hY hJ h0
  refine callsIn_of_wp Tryd.func34 rfl trivial ?_ rfl
  simp only [Tryd.ntmps34, List.size_toArray, List.length_cons, List.length_nil, Nat.reduceAdd, Nat.reduceSub, Array.replicate_succ, Array.replicate_zero, List.push_toArray, List.append_toArray, List.nil_append, List.cons_append]
  gi_wp2
  gi_loopw [3] (fun _ wr => ∃ (p : Nat) (pre : List (Nat × Nat)), Hid (wr.heap[W.heap.size]? = some (.stringIter (str s) p)) ∧ p ≤ s.length ∧ Hid (pre ++ (rns s p).map (fun r => (r.1, r.2.1)) = rnP s) ∧ Hid (J pre wr)) (fun _ wr => s.length - wr.iterPos W.heap.size)
  case atStart => exact ⟨0, [], heap_alloc_new _ _, Nat.zero_le _, rfl, HJ0.out⟩
  case round =>
    obtain ⟨p, pre, HIT, hp, HPR, HJP⟩ := hrel
    by_cases hlt : p < s.length
    · have hpl : p < (str s).size := by rw [HSZ.out]; exact hlt
      have hdc : Utf8.decode (str s) p = (codeN (s.drop p) (szN (s.drop p)), max (szN (s.drop p)) 1) := by
        rw [decode_drop, dec_sz _ (by rw [List.length_drop]; omega)]
      have hnx : ∀ ty, (Instr.next (.pointer (some ⟨W.heap.size, 0, none⟩)) true ty).run Tryd.prog wr = .ok (.tuple #[.bool true, .int .i64 (p : Int), .int .i32 ((codeN (s.drop p) (szN (s.drop p)) : Nat) : Int)]) (wr.iterAt W.heap.size (str s) (p + max (szN (s.drop p)) 1)) := fun ty => by
        rw [Lib.run_next_any_at wr W.heap.size (str s) p ty HIT.out hpl, hdc]
      have hst := rns_step s p hlt
      have hwd : 1 ≤ max (szN (s.drop p)) 1 := szN_1 _
      have hmx : p + max (szN (s.drop p)) 1 ≤ s.length := by
        have := (szN_le (s.drop p) (by rw [List.length_drop]; omega)).1
        rw [List.length_drop] at this
        omega
      have HPR2 : Hid ((pre ++ [(p, codeN (s.drop p) (szN (s.drop p)))]) ++ (rns s (p + max (szN (s.drop p)) 1)).map (fun r => (r.1, r.2.1)) = rnP s) := hid (by
        rw [← HPR.out, hst]; simp)
      have hpn : pre.length < 1001 := by
        have h1 := congrArg List.length HPR.out
        have h2 := rns_le s 0
        unfold rnP at h1
        rw [List.length_append, List.length_map, List.length_map] at h1
        omega
      have HIT2 := hid (Lib.iterAt_heap wr W.heap.size (str s) p (p + max (szN (s.drop p)) 1) HIT.out)
      have HJ2 := hid (HJ.out pre wr _ (some W.heap.size) HJP.out (grown_iterAt wr W.heap.size (str s) (p + max (szN (s.drop p)) 1)) (fun r e => by cases e; exact ⟨Nat.le_refl _, _, HIT.out, rfl⟩))
      have HM0 := hid (iterPos_is HIT.out)
      have HPX : Hid (pre ++ [(p, codeN (s.drop p) (szN (s.drop p)))] <+: rnP s) := hid ⟨_, HPR2.out⟩
      clear hdc hst HPR HJP HIT hpl
      generalize max (szN (s.drop p)) 1 = mm at *
      generalize codeN (s.drop p) (szN (s.drop p)) = cc at *
      have H4 := hid (HY.out pre (p, cc) _ HJ2.out hpn)
      dsimp only at H4
      obtain ⟨fn, tmps, assign, body, hy, hR⟩ := H4.out
      clear H4 HJ2
      gi_wp2
      refine hR.mono ?_
      rintro e W3 (⟨rfl, hJ3, hk3⟩ | ⟨rfl, hJx3⟩)
      · have HI3 := hid (hk3.same _ _ HIT2.out rfl)
        have HJ3 := hid hJ3
        clear hJ3 hk3 hR hy HIT2 hnx
        gi_wp2
        go_roundw
        case rel => exact ⟨p + mm, _, HI3, hmx, HPR2, HJ3⟩
        case measure => rw [iterPos_is HI3.out, HM0.out]; omega
      · have HJ3 := hid hJx3
        clear hJx3 hR hy HIT2 hnx
        gi_wp2
        refine bodyPost_ret (results_none rfl _ _ _) rfl ?_
        exact ⟨⟨_, rfl⟩, .inr ⟨_, HPX.out, HJ3.out⟩⟩
    · have hnx : ∀ ty, (Instr.next (.pointer (some ⟨W.heap.size, 0, none⟩)) true ty).run Tryd.prog wr = .ok (.tuple #[.bool false]) wr := fun ty => Lib.run_next_end_at wr W.heap.size (str s) p ty HIT.out (by rw [HSZ.out]; exact hlt)
      have HE : Hid (pre = rnP s) := hid (by have := HPR.out; rw [rns_end s p (by omega)] at this; simpa using this)
      clear HPR
      gi_wp2
      go_end0
      exact ⟨⟨_, rfl⟩, .inl ⟨_, HE.out, HJP.out⟩⟩

theorem geach_any (s : List UInt8) (w : World) : Calls Tryd.prog 17 #[.string (str s)] w fun e w' => e = .returned (.func (.func 34) #[] #[.pointer (some ⟨w.heap.size, 0, none⟩)]) ∧ w' = w.alloc (.cells #[.string (str s)] 9) := by
  go_enter Tryd.func17, Tryd.ntmps17
  go_wp2
  go_ret
  exact ⟨rfl, rfl⟩

/-- Each's value: all the runes, in their order; or a part, where a round has said 'no more'. -/
theorem geach_stops (n : Nat) (hn : 1 ≤ n) (Bn : Nat) (s : List UInt8) (hs : s.length ≤ 1000) (w : World) (hc : Boxed w Bn 9 (.string (str s))) :
    SeqStopsK Fence.wide n Tryd.prog 34 #[.pointer (some ⟨Bn, 0, none⟩)] (fun x : Nat × Nat => #[Value.int .i64 (x.1 : Int), .int .i32 (x.2 : Int)]) KeepsWalks (fun ys => ys = rnP s) (fun pre => pre <+: rnP s) 1001 w := fun l J Jx W hW hJ _ hY h0 =>
  eachg_in n hn l Bn s hs J Jx W hJ hY ((hW.block Bn hc.lt).trans hc) h0
end Go.Proofs.YtjkaenjegcojhaaDoor
