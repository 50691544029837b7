/- flock.Each as an iterator, and its callers. -/
import Derived.RangeFuncNested
import Derived.RangeFuncBound
import Derived.RangeFuncCalls
import Derived.RangeFuncLeaves
import Derived.RangeFuncBox
import Derived.Shelf.Abstract
import Derived.Shelf.RegionOpen
import Derived.WalkKit
import Derived.OwnWalkIn
import Derived.TacticsInMore
import Derived.LoopNIn
import Derived.LoopIn
import Derived.Maps.AppendAt
import Derived.Test.YtadjmgmdnekllaaFlockD
namespace Go.Proofs.Ytadjmgmdnekllaa
open Go.RowKit Go.Shelf
set_option linter.unusedVariables false
set_option linter.unusedSimpArgs false

attribute [local go_sem] Oper.semAt_some

theorem elemsU_pre (s : Nat) : ∀ n m, n ≤ m → elemsU s n <+: elemsU s m := by
  intro n m h
  obtain ⟨d, rfl⟩ : ∃ d, m = n + d := ⟨m - n, by omega⟩
  clear h
  induction d with
  | zero => exact List.prefix_refl _
  | succ d ih => exact ih.trans ⟨_, rfl⟩

/-- The box stays as it is. -/
def KeepsBox (B : Nat) (W W' : World) : Prop := ∀ t v, Boxed W B t v → Boxed W' B t v
theorem keepsBox_t {B : Nat} {X Y Z : World} (h : KeepsBox B X Y) (k : KeepsBox B Y Z) : KeepsBox B X Z := fun t v hv => k t v (h t v hv)
theorem keepsBox_b {B n : Nat} (W : World) (l : Nat) (o o' : Obj) (_ : n ≤ l) (h : W.heap[l]? = some o) (hc : o.isCells = false) (_ : o.isWalk = false) : KeepsBox B W (W.putObj l o') := fun t v hv =>
  hv.kept (grownBy_putObj' W l o') (fun e => by
    obtain rfl : B = l := by simpa using e
    rw [show W.heap[B]? = _ from hv] at h; cases h; cases hc)

theorem keepsBox_of {B : Nat} {X Y : World} {t : TypeId} {v : Value} (h : Boxed X B t v) (k : Boxed Y B t v) : KeepsBox B X Y := fun t' v' h' => by
  have e := (show X.heap[B]? = _ from h).symm.trans h'
  simp at e
  obtain ⟨rfl, rfl⟩ := e
  exact k

set_option maxRecDepth 100000 in
set_option maxHeartbeats 1000000 in
theorem each1_in (n : Nat) (hn : 1 ≤ n) (l Bn s : Nat) (hs : s < 18446744073709551616) (J Jx : List Int → World → Prop)
    (hY : ∀ pre x W, J pre W → pre.length < 64 → YieldAt Fence.wide (n - 1) Try.prog l #[.int .i64 x] W fun e W' =>
      (e = .returned (.bool true) ∧ J (pre ++ [x]) W' ∧ KeepsBox Bn W W') ∨ (e = .returned (.bool false) ∧ Jx (pre ++ [x]) W'))
    (W : World) (hBn : Boxed W Bn 22 (.int .u64 s)) (h0 : J [] W) :
    CallsIn Fence.wide n Try.prog 112 #[.func (.yield l) #[] #[], .pointer (some ⟨Bn, 0, none⟩)] W fun e W' => (∃ v, e = .returned v) ∧
      ((∃ ys, ys = elems s ∧ J ys W') ∨ (∃ pre, pre <+: elems s ∧ Jx pre W')) := by
  have HH := hid (fun k w => has_any s k w hs)
  have HY := hid hY
  clear hY
  refine callsIn_of_wp Try.func112 rfl trivial ?_ rfl
  simp only [Try.ntmps112, List.size_toArray, List.length_cons, List.length_nil, Nat.reduceAdd, Nat.reduceSub, Array.replicate_succ, Array.replicate_zero, List.push_toArray, List.append_toArray, List.nil_append, List.cons_append]
  gi_wp2
  gi_loopw [4] (fun i wr => ∃ k : Nat, k ≤ 64 ∧ i = .int .i64 (k : Int) ∧ Hid (Boxed wr Bn 22 (.int .u64 s)) ∧ Hid (J (elemsU s k) wr))
    (fun i wr => 64 - (intOf i).toNat)
  case atStart => exact ⟨0, by omega, rfl, hBn, h0⟩
  case round =>
    obtain ⟨k, hk, rfl, HC, HJ⟩ := hrel
    have hc := HC.out.cell
    by_cases hlt : k < 64
    · have hlt2 : (k : Int) < 64 := by omega
      have H1 := hid (HH.out (k : Int))
      rw [hasS_nat s k hlt] at H1
      by_cases hm : s.testBit k = true
      · rw [hm] at H1
        have H2 := hid (elemsU_yes hm)
        have H3 : Hid (elemsU s k ++ [(k : Int)] <+: elems s) := hid (by rw [← H2.out, elems_def]; exact elemsU_pre s _ _ (by omega))
        have H4 := hid (HY.out (elemsU s k) (k : Int) wr HJ.out (by have := elemsU_len s k; omega))
        clear hm
        gi_wp2_with (refine ⟨trivial, ?_⟩; gi_at_call 16; refine (callsIn_wide.2 (H1.out _)).mono ?_; rintro e w' ⟨rfl, rfl⟩; obtain ⟨fn, tmps, assign, body, hy, hR⟩ := H4.out)
        refine hR.mono ?_
        rintro e W3 (⟨rfl, hJ3, hk3⟩ | ⟨rfl, hJx3⟩)
        · have hc3 := hid (hk3 _ _ HC.out)
          have HJ3 : Hid (J (elemsU s (k + 1)) W3) := hid (by rw [H2.out]; exact hJ3)
          clear hJ3 hk3 hR hy
          gi_wp2
          go_roundw
          case rel => exact ⟨k + 1, by omega, by go_num, hc3, HJ3⟩
          case measure => simp [intOf]; omega
        · have HJ3 : Hid (Jx (elemsU s k ++ [(k : Int)]) W3) := hid hJx3
          clear hJx3 hR hy
          gi_wp2
          refine bodyPost_ret (results_none rfl _ _ _) rfl ?_
          exact ⟨⟨_, rfl⟩, .inr ⟨_, H3.out, HJ3.out⟩⟩
      · have hm' : s.testBit k = false := by simpa using hm
        rw [hm'] at H1
        have H2 := hid (elemsU_no hm')
        clear hm hm'
        gi_wp2_with (refine ⟨trivial, ?_⟩; gi_at_call 16; refine (callsIn_wide.2 (H1.out _)).mono ?_; rintro e w' ⟨rfl, rfl⟩)
        refine ⟨fun _ h => (by cases h), ?_⟩
        gi_wp2
        go_roundw
        case rel => exact ⟨k + 1, by omega, by go_num, HC, by rw [H2.out]; exact HJ⟩
        case measure => simp [intOf]; omega
    · have hge : (64 : Int) ≤ k := by omega
      have H2 : Hid (J (elems s) wr) := hid (by have := HJ.out; rwa [show k = 64 by omega, ← elems_def] at this)
      clear HJ
      gi_wp2
      go_end0
      exact ⟨⟨_, rfl⟩, .inl ⟨_, rfl, H2.out⟩⟩

theorem each_any (s : Nat) (w : World) : Calls Try.prog 27 #[.int .u64 s] w fun e w' => e = .returned (.func (.func 112) #[] #[.pointer (some ⟨w.heap.size, 0, none⟩)]) ∧ w' = w.alloc (.cells #[.int .u64 s] 22) := by
  go_enter Try.func27, Try.ntmps27
  go_wp2
  go_ret
  exact ⟨rfl, rfl⟩

/-- Each's value: all the elements, in their order; or a part, where a round has said 'no more'. -/
theorem each_stops (n : Nat) (hn : 1 ≤ n) (Bn s : Nat) (hs : s < 18446744073709551616) (w : World) (hc : Boxed w Bn 22 (.int .u64 s)) :
    SeqStopsK Fence.wide n Try.prog 112 #[.pointer (some ⟨Bn, 0, none⟩)] (fun x : Int => #[Value.int .i64 x]) (KeepsBox Bn) (fun ys => ys = elems s) (fun pre => pre <+: elems s) 64 w := fun l J Jx W hW _ _ hY h0 =>
  each1_in n hn l Bn s hs J Jx hY W ((hW.block Bn hc.lt).trans hc) h0

set_option maxRecDepth 100000 in
set_option maxHeartbeats 2000000 in
theorem list_any (s : Nat) (hs : s < 18446744073709551616) (w : World) :
    Calls Try.prog 29 #[.int .u64 s] w fun e W' => ∃ v, e = .returned v ∧ Below w.heap.size w W' ∧ W'.ownsRow w.heap.size 3 1 v (elems s).length (icells .i64 (elems s)) := by
  refine (callsIn_wide (n := 4)).1 ?_
  have h1 : 1 ≤ 4 := by omega
  obtain ⟨i0, hi, hz0, hz1, hz2⟩ := info_parts info_int
  refine callsIn_of_wp_marks Try.func29 rfl trivial ?_ rfl
  simp only [Try.ntmps29, List.size_toArray, List.length_cons, List.length_nil, Nat.reduceAdd, Nat.reduceSub, Array.replicate_succ, Array.replicate_zero, List.push_toArray, List.append_toArray, List.nil_append, List.cons_append]
  gi_wp2_with (refine ⟨trivial, ?_⟩; gi_at_call 27; refine (callsIn_wide.2 (each_any s _)).mono ?_; rintro e w' ⟨rfl, rfl⟩)
  have bO := Boxed.new w 23 (.slice none 0 0)
  have bN := Boxed.new (w.alloc (.cells #[.slice none 0 0] 23)) 22 (.int .u64 s)
  rw [World.size_alloc] at bN
  have hB0 : Below w.heap.size w ((w.alloc (.cells #[.slice none 0 0] 23)).alloc (.cells #[.int .u64 s] 22)) := ((Below.refl _ w).alloc (Nat.le_refl _) _).alloc (by simp) _
  refine wpIn_rangeFunc_ownG rfl h1 (gf := 112) (lb := #[.pointer (some ⟨w.heap.size + 1, 0, none⟩)]) rfl trivial (enters_of Try.func112 (by kernel_rfl) rfl)
    (each_stops 3 (by omega) (w.heap.size + 1) s hs _ bN) keepsBox_t keepsBox_b (Below.refl _ _) (fun _ => rfl)
    (fun pre W => (∃ v, Boxed W w.heap.size 23 v ∧ W.ownsRow w.heap.size 3 1 v pre.length (icells .i64 pre) ∧ (v = .slice none 0 0 ↔ pre = [])) ∧ Boxed W (w.heap.size + 1) 22 (.int .u64 s) ∧ Below w.heap.size w W)
    (fun _ _ _ => False)
    (OwnFrom.and (Own.from (holdsRow_own w.heap.size w.heap.size 23 3 1 (fun pre => pre.length) (fun pre => icells .i64 pre) (fun pre v => v = .slice none 0 0 ↔ pre = [])) _) (OwnFrom.and (Own.from (boxed_own _ _ _) _) (ownFrom_below (Nat.le_refl _) (by simp; omega))))
    (fun _ _ _ _ _ hs _ _ => hs)
    ⟨⟨_, bO.alloc _, World.ownsRow_nil _ _ _ _, by simp⟩, bN, hB0⟩
    (fun x => { tmps := #[.int .u64 s, undef, .slice none 0 0, .pointer (some ⟨w.heap.size, 0, none⟩), .int .i64 x, .int .u64 s, .func (.func 112) #[] #[.pointer (some ⟨w.heap.size + 1, 0, none⟩)], .int .i64 x, undef, undef, undef, undef, undef], defers := [] }) ?assign ?body ?done ?stop
  case assign =>
    intro l x W K hK
    gi_wp2
    exact hK
  case body =>
    rintro l pre x W ⟨⟨v, hv, hrow, hnil⟩, hN, hB⟩ hlt
    have hc := hv.cell
    have HN := hid hN
    clear hN
    gi_wp2_with (gi_at_builtin; refine wpListIn_append_own _ rfl _ _ 23 rfl w.heap.size 3 i0 (.int .i64 0) 1 8 Try.underlying23 hi hz0 hz1 hz2 rfl (by decide) _ _ _ rfl (hrow.alloc _) ⟨W.heap.size, 0, none⟩ 1 1 [.int .i64 x] rfl rfl (cell_one_new _ _ _) (by simp [Value.oneCell']) (by unfold maxLen; omega) (by omega) (by have := hB.size; simp; omega) ?_; intro v' w1 hown' hgrow _; obtain ⟨g', cap', rfl⟩ := ownsRow_succ hown'; obtain ⟨hv1, hv2, hr2, hk2, hb2⟩ := hv.appended (by decide) hrow hB.size (Nat.le_refl _) hown' hgrow; have hc1 := hv1.cell; have hf1 := hv1.frozen)
    have hN2 := ((HN.out.alloc _).kept hgrow (HN.out.not_row (by decide) hrow)).kept (grownBy_setCell' w1 w.heap.size (.slice (some ⟨g', 0, none⟩) (pre.length + 1) cap')) (by simp)
    exact ⟨hk2.from _, keepsBox_of HN.out hN2, ⟨_, hv2, by simpa [icells] using hr2, by simp⟩, hN2, hB.trans hb2⟩
  case done =>
    rintro D ys W hD rfl ⟨⟨v, hv, hrow, hnil⟩, hN, hB⟩ hK
    clear hN hnil
    have hc := hv.cell
    have HR := hid hrow
    have HB := hid hB
    have HK := hid hK
    have HD := hid hD
    clear hrow hB hK hD hv
    gi_wp2
    refine ⟨by simp, .inl ⟨_, _, rfl, run_takeDeferred HK.out, ?_⟩⟩
    have hD := HD.out
    exact ⟨_, results_tmp rfl _ _ _, v, rfl, HB.out.trans (belowK_b (w := w) (Nat.le_refl _) W D _ _ (by simp at hD; omega) HK.out rfl rfl), ownsRow_putObj HR.out _ HK.out rfl⟩
  case stop =>
    rintro D c pre W _ _ h _
    exact h.elim

/-- What the counter of Nth holds when n elements have come. -/
def Cnt (k : Int) (n : Nat) (d : Int) : Prop := -9223372036854775808 ≤ d ∧ d ≤ 9223372036854775807 ∧ (0 ≤ k → (n : Int) ≤ k) ∧ (d = k - n ∨ (k < 0 ∧ d = k - n + 18446744073709551616))
theorem cnt_step {k d : Int} {n m : Nat} (hk : -9223372036854775808 ≤ k) (hn : n < 64) (h : Cnt k n d) (h0 : d ≠ 0) (hm : m = n + 1) : Cnt k m (wrap64 (d - 1)) := by
  unfold Cnt at *
  have e : wrap64 (d - 1) = if d = -9223372036854775808 then 9223372036854775807 else d - 1 := by
    unfold wrap64
    split <;> omega
  rw [e]
  split <;> omega
set_option maxRecDepth 100000 in
set_option maxHeartbeats 2000000 in
theorem nth_any (s : Nat) (hs : s < 18446744073709551616) (k : Int) (hk : -9223372036854775808 ≤ k ∧ k ≤ 9223372036854775807) (w : World) :
    Calls Try.prog 31 #[.int .u64 s, .int .i64 k] w fun e W' => e = .returned (.int .i64 (nthS s k)) ∧ Below w.heap.size w W' := by
  refine (callsIn_wide (n := 4)).1 ?_
  have h1 : 1 ≤ 4 := by omega
  have hl : (elems s).length ≤ 64 := by rw [elems_def]; exact elemsU_len s 64
  obtain ⟨hk1, hk2⟩ := hk
  refine callsIn_of_wp_marks Try.func31 rfl trivial ?_ rfl
  simp only [Try.ntmps31, List.size_toArray, List.length_cons, List.length_nil, Nat.reduceAdd, Nat.reduceSub, Array.replicate_succ, Array.replicate_zero, List.push_toArray, List.append_toArray, List.nil_append, List.cons_append]
  gi_wp2_with (refine ⟨trivial, ?_⟩; gi_at_call 27; refine (callsIn_wide.2 (each_any s _)).mono ?_; rintro e w' ⟨rfl, rfl⟩)
  have bK := Boxed.new w 3 (.int .i64 k)
  have bR := Boxed.new (w.alloc (.cells #[.int .i64 k] 3)) 3 (.int .i64 0)
  have bN := Boxed.new ((w.alloc (.cells #[.int .i64 k] 3)).alloc (.cells #[.int .i64 0] 3)) 22 (.int .u64 s)
  simp only [World.size_alloc] at bR bN
  have hB0 : Below w.heap.size w (((w.alloc (.cells #[.int .i64 k] 3)).alloc (.cells #[.int .i64 0] 3)).alloc (.cells #[.int .u64 s] 22)) := (((Below.refl _ w).alloc (Nat.le_refl _) _).alloc (by simp) _).alloc (by simp; omega) _
  refine wpIn_rangeFunc_ownG rfl h1 (gf := 112) (lb := #[.pointer (some ⟨w.heap.size + 1 + 1, 0, none⟩)]) rfl trivial (enters_of Try.func112 (by kernel_rfl) rfl)
    (each_stops 3 (by omega) (w.heap.size + 1 + 1) s hs _ bN) keepsBox_t keepsBox_b (Below.refl _ _) (fun _ => rfl)
    (fun pre W => ((∃ d, Boxed W w.heap.size 3 (.int .i64 d) ∧ Cnt k pre.length d) ∧ Boxed W (w.heap.size + 1) 3 (.int .i64 0)) ∧ Boxed W (w.heap.size + 1 + 1) 22 (.int .u64 s) ∧ Below w.heap.size w W)
    (fun c pre W => (c = .ret ∧ 0 ≤ k ∧ (pre.length : Int) = k + 1 ∧ Boxed W (w.heap.size + 1) 3 (.int .i64 (pre.getD k.toNat (-1)))) ∧ Below w.heap.size w W)
    (OwnFrom.and (Own.from (fun s A B row hs hg hr => ⟨hs.1.elim fun d h => ⟨d, boxed_own _ _ (fun _ => .int .i64 d) s A B row h.1 hg hr, h.2⟩, boxed_own _ _ (fun _ => .int .i64 0) s A B row hs.2 hg hr⟩) _) (OwnFrom.and (Own.from (boxed_own _ _ _) _) (ownFrom_below (Nat.le_refl _) (by simp; omega))))
    (fun c => OwnFrom.and (Own.from (fun s A B row hs hg hr => ⟨hs.1, hs.2.1, hs.2.2.1, boxed_own _ _ (fun s => .int .i64 ((s : List Int).getD k.toNat (-1))) s A B row hs.2.2.2 hg hr⟩) _) (ownFrom_below (Nat.le_refl _) (by simp; omega)))
    ⟨⟨⟨k, (bK.alloc _).alloc _, by unfold Cnt; simp; omega⟩, bR.alloc _⟩, bN, hB0⟩
    (fun x => { tmps := #[.int .u64 s, .int .i64 k, undef, .pointer (some ⟨w.heap.size, 0, none⟩), .pointer (some ⟨w.heap.size + 1, 0, none⟩), .int .i64 x, .int .u64 s, .func (.func 112) #[] #[.pointer (some ⟨w.heap.size + 1 + 1, 0, none⟩)], .int .i64 x, undef, undef, undef, undef, undef], defers := [] }) ?assign ?body ?done ?stop
  case assign =>
    intro l x W K hK
    gi_wp2
    exact hK
  case body =>
    rintro l pre x W ⟨⟨⟨d, hv, hp⟩, hr⟩, hN, hB⟩ hlt
    have HP := hid hp
    clear hp
    have hc := hv.cell
    have hf := hv.frozen
    have hc2 := hr.cell
    have hf2 := hr.frozen
    have HN := hid hN
    have HB := hid hB
    have HV := hid hv
    have HR := hid hr
    clear hN hB hv hr
    by_cases h0 : d = 0
    · subst h0
      have h3 := HP.out
      unfold Cnt at h3
      have HX : Hid (0 ≤ k ∧ k.toNat = pre.length ∧ ((pre ++ [x]).length : Int) = k + 1) := hid (by simp; omega)
      clear h3 HP
      gi_wp2
      exact ⟨(KeepsOthers.setCell _ _ _).from _, ⟨rfl, HX.out.1, HX.out.2.2, by rw [show (pre ++ [x]).getD k.toNat (-1) = x by rw [HX.out.2.1]; simp]; exact HR.out.set _⟩, HB.out.setCell (p := ⟨w.heap.size + 1, 0, none⟩) (by simp) _⟩
    · have hb : (d == 0) = false := by simpa using h0
      have HX : Hid (Cnt k (pre ++ [x]).length (wrap64 (d - 1))) := hid (cnt_step hk1 hlt HP.out h0 (by simp))
      clear h0
      gi_wp2
      have hN2 := HN.out.other (B' := w.heap.size) (by omega) (.int .i64 (wrap64 (d - 1)))
      exact ⟨(KeepsOthers.setCell _ _ _).from _, keepsBox_of HN.out hN2, ⟨⟨_, HV.out.set _, HX.out⟩, HR.out.other (by omega) _⟩, hN2, HB.out.setCell (p := ⟨w.heap.size, 0, none⟩) (Nat.le_refl _) _⟩
  case done =>
    rintro D ys W hD rfl ⟨⟨⟨d, hv, hp⟩, hr⟩, hN, hB⟩ hK
    have HX : Hid (nthS s k = -1) := hid (by
      unfold nthS
      split
      · rfl
      · have h := hp.2.2.1 (by omega)
        rw [List.getD_eq_getElem?_getD, List.getElem?_eq_none (by omega)]
        rfl)
    have hc2 := hr.cell
    have hf2 := hr.frozen
    have HR := hid hr
    have HB := hid hB
    have HK := hid hK
    have HD := hid hD
    clear hr hB hK hD hv hp hN bK bR bN hB0
    gi_wp2
    have hK' := (KeepsOthers.setCell W ⟨w.heap.size + 1, 0, none⟩ (.int .i64 (-1))).same D _ HK.out rfl
    refine ⟨by simp, .inl ⟨_, _, rfl, run_takeDeferred hK', ?_⟩⟩
    have hD := HD.out
    have hc5 := cell_kept ((HR.out.set (.int .i64 (-1))).cell) (grownBy_putObj' _ D (.deferred none)) (fun r e => by cases e; exact ⟨_, hK', rfl⟩)
    refine ⟨.int .i64 (-1), ?_, by rw [HX.out], (HB.out.setCell (p := ⟨w.heap.size + 1, 0, none⟩) (by simp) _).trans (belowK_b (w := w) (Nat.le_refl _) _ D _ _ (by simp at hD; omega) hK' rfl rfl)⟩
    simp [results, Try.f31, go_sem, hc5]
  case stop =>
    rintro D c pre W hD hpre ⟨⟨rfl, h0, hl2, hr⟩, hB⟩ hK
    have HX : Hid (nthS s k = pre.getD k.toNat (-1)) := hid (by
      unfold nthS
      rw [if_neg (by omega)]
      obtain ⟨t, ht⟩ := hpre
      rw [← ht, List.getD_eq_getElem?_getD, List.getD_eq_getElem?_getD, List.getElem?_append_left (by omega)])
    have HR := hid hr
    have HB := hid hB
    have HK := hid hK
    have HD := hid hD
    clear hr hB hK hD hpre h0 hl2 bK bR bN hB0
    gi_wp2
    refine ⟨by simp, .inl ⟨_, _, rfl, run_takeDeferred HK.out, ?_⟩⟩
    have hD := HD.out
    have hc5 := cell_kept HR.out.cell (grownBy_putObj' _ D (.deferred none)) (fun r e => by cases e; exact ⟨_, HK.out, rfl⟩)
    refine ⟨.int .i64 (pre.getD k.toNat (-1)), ?_, by rw [HX.out], HB.out.trans (belowK_b (w := w) (Nat.le_refl _) W D _ _ (by simp at hD; omega) HK.out rfl rfl)⟩
    simp [results, Try.f31, go_sem, hc5]
end Go.Proofs.Ytadjmgmdnekllaa
