/- FlockLists. -/
import Derived.Test.YtgeccjeehhhchaaFlockN
import Derived.Test.YtgeccjeehhhchaaSame06
import Derived.Test.YtgeccjeehhhchaaStep
import Derived.Deep.RegionHeld3
import Derived.ControlIn
namespace Go.Proofs.Ytgeccjeehhhchaa
open Go.RowKit Go.Shelf Go.Sort
set_option linter.unusedVariables false
set_option linter.unusedSimpArgs false
attribute [local go_sem] Oper.semAt_some

theorem boxed_below {n : Nat} {w w' : World} {B : Nat} {t : TypeId} {v : Value} (h : Boxed w B t v) (hb : Below n w w') (hn : B < n) : Boxed w' B t v := (hb.block B hn).trans h

/-- What the box holds. -/
def cv (b : Nat) (U : World) : Value := (U.cell? ⟨b, 0, none⟩).getD undef
theorem cv_eq {b : Nat} {U : World} {t : TypeId} {v : Value} (h : Boxed U b t v) : U.cell? ⟨b, 0, none⟩ = some (cv b U) := by unfold cv; rw [h.cell]; rfl
/-- What stays true in the last region. -/
structure LR (w w1 : World) (b7 D : Nat) (A : Option Addr) (c : Nat) (l : List Int) (U : World) : Prop where
  k4 : ∃ v, Boxed U w.heap.size 4 v
  k5 : Boxed U w1.heap.size 22 (.slice A l.length c)
  k7 : Boxed U b7 3 (.int .i64 l.length)
  sl : ∃ X, Sl X 1 A l.length c (icells .i64 l) ∧ (∀ b o, A = some ⟨b, o, none⟩ → w.heap.size < b) ∧ ∀ g, w.heap.size < g → g < X.heap.size → U.heap[g]? = X.heap[g]?
  d : U.heap[D]? = some (.deferred (some []))
  b : Below w.heap.size w U
theorem LR.call {w w1 U V : World} {b7 D : Nat} {A : Option Addr} {c : Nat} {l : List Int} (h : LR w w1 b7 D A c l U) (hb : Below U.heap.size U V) : LR w w1 b7 D A c l V := by
  obtain ⟨⟨v, k4⟩, k5, k7, ⟨X, s1, s2, s3⟩, d, b⟩ := h
  refine ⟨⟨v, boxed_below k4 hb k4.lt⟩, boxed_below k5 hb k5.lt, boxed_below k7 hb k7.lt, ⟨X, s1, s2, fun g h1 h2 => ?_⟩, (hb.block D (lt_of_block d)).trans d, b.trans (hb.mono b.size)⟩
  have h3 := s3 g h1 h2
  have h4 : g < U.heap.size := by
    rw [Array.getElem?_eq_getElem h2] at h3
    exact lt_of_block h3
  exact (hb.block g h4).trans h3
theorem LR.store {w w1 U : World} {b7 D : Nat} {A : Option Addr} {c : Nat} {l : List Int} (h : LR w w1 b7 D A c l U) (h1 : w.heap.size ≠ w1.heap.size) (h2 : w.heap.size ≠ b7) (h3 : w.heap.size ≠ D) (v : Value) : LR w w1 b7 D A c l (U.setCell ⟨w.heap.size, 0, none⟩ v) := by
  obtain ⟨⟨u, k4⟩, k5, k7, ⟨X, s1, s2, s3⟩, d, b⟩ := h
  exact ⟨⟨v, k4.set v⟩, k5.other (fun e => h1 e.symm) v, k7.other (fun e => h2 e.symm) v, ⟨X, s1, s2, fun g g1 g2 => (Below.heap_setCell _ _ _ _ (show g ≠ w.heap.size by omega)).trans (s3 g g1 g2)⟩, (Below.heap_setCell _ _ _ _ (fun e => h3 e.symm)).trans d, b.setCell (Nat.le_refl _) v⟩
theorem LR.sl' {w w1 U : World} {b7 D : Nat} {A : Option Addr} {c : Nat} {l : List Int} (h : LR w w1 b7 D A c l U) : Sl U 1 A l.length c (icells .i64 l) := by
  obtain ⟨_, _, _, ⟨X, ⟨s1, s2, s3, s4⟩, t2, t3⟩, _, _⟩ := h
  refine ⟨s1, s2, s3, fun h0 => ?_⟩
  obtain ⟨b, off, hA, hc⟩ := s4 h0
  refine ⟨b, off, hA, fun i hi => ?_⟩
  have h1 := hc i hi
  rw [List.getElem?_eq_getElem hi] at h1
  rw [World.cell?_of_block (t3 b (t2 b off hA) (lt_of_cell h1)), hc i hi]

set_option maxRecDepth 100000 in
set_option maxHeartbeats 4000000 in
theorem flockLists_any (s : Nat) (k : Int) (w : World) (hs : s < 18446744073709551616) (hk : -9223372036854775808 ≤ k ∧ k ≤ 9223372036854775807) :
    Calls Try.prog 6 #[.int .u64 s, .int .i64 k] w fun e w' => e = .returned (.bool true) ∧ Below w.heap.size w w' := by
  have HL := hid (fun w => rlist_any s w hs)
  have HF := hid (fun w => list_any s hs w)
  have HC := hid (fun w => count_any s w hs)
  have HN := hid (fun w => nth_any s hs k hk w)
  have HM := hid (fun w => rnth_any s k w hs)
  have HW := hid works06_any
  have hl : (elems s).length ≤ 64 := by rw [elems_def]; exact elemsU_len s 64
  have HS := hid (fun n (hn : 1 ≤ n) Bn w (hc : Boxed w Bn 45 (.int .u64 s)) => each_stops n hn Bn s hs w hc)
  have HE := hid (fun w => each_any s w)
  clear hs hk
  generalize elems s = l at *
  generalize nthS s k = x1 at *
  have hq : ∀ (b : Nat) (w : World), (binOp .eql 72 (.func (.func 114) #[] #[.pointer (some ⟨b, 0, none⟩)]) .nilFunc).run Try.prog w = .ok (.bool false) w := fun _ _ => rfl
  refine (callsIn_wide (n := 4)).1 ?_
  have h1 : 1 ≤ 4 := by omega
  refine callsIn_of_wp_marks Try.func6 rfl trivial ?_ rfl
  simp only [Try.ntmps6, List.size_toArray, List.length_cons, List.length_nil, Nat.reduceAdd, Nat.reduceSub, Array.replicate_succ, Array.replicate_zero, List.push_toArray, List.append_toArray, List.nil_append, List.cons_append]
  gi_wp2_with (first
    | (refine ⟨trivial, ?_⟩; gi_at_call 28; refine (callsIn_wide.2 (HL.out _)).mono ?_; rintro e w1 ⟨v, rfl, hb1, ho1⟩; obtain ⟨A, c, rfl, hs1⟩ := Sl.of_own ho1)
    | (refine ⟨trivial, ?_⟩; gi_at_call 55; refine (callsIn_wide.2 (HE.out _)).mono ?_; rintro e w' ⟨rfl, rfl⟩)
    | (refine ⟨trivial, ?_⟩; gi_at_call 45; refine (callsIn_wide.2 (HW.out _)).mono ?_; rintro e w2 ⟨rfl, hb2⟩))
  have b1 := hb1.size
  simp at b1
  have K4 : Boxed w1 w.heap.size 4 (.bool false) := boxed_below (Boxed.new w 4 (.bool false)) hb1 (by simp)
  have K5 := Boxed.new w1 22 (.slice A l.length c)
  have K6 := Boxed.new (w1.alloc (.cells #[.slice A l.length c] 22)) 45 (.int .u64 s)
  rw [World.size_alloc] at K6
  have b2 := hb2.size
  simp at b2
  have K4 := boxed_below (((K4.alloc _).alloc _)) hb2 (by simp; omega)
  have K5 := boxed_below (K5.alloc _) hb2 (by simp; omega)
  have K6 := boxed_below K6 hb2 (by simp)
  have K7 := Boxed.new w2 3 (.int .i64 0)
  have HB1 := hid (((Below.refl w.heap.size w).alloc (Nat.le_refl _) (.cells #[.bool false] 4)).trans (hb1.mono (by simp)))
  have HB2 := hid ((((Below.refl w1.heap.size w1).alloc (Nat.le_refl _) (.cells #[.slice A l.length c] 22)).alloc (by simp) (.cells #[.int .u64 s] 45)).trans (hb2.mono (by simp; omega)))
  have HSl := hid hs1
  have HA : Hid (∀ b o, A = some ⟨b, o, none⟩ → w.heap.size < b) := hid (by
    rcases ho1.2 with ⟨e, _⟩ | ⟨g, cap, cur, e, hg, _⟩
    · intro b o h; simp [h] at e
    · intro b o h
      simp [h] at e
      simp at hg
      omega)
  clear ho1 hs1 hb1 hb2
  refine wpIn_rangeFunc_ownG rfl h1 (gf := 114) (lb := #[.pointer (some ⟨w1.heap.size + 1, 0, none⟩)]) rfl trivial (enters_of Try.func114 (by kernel_rfl) rfl)
    (HS.out 3 (by omega) (w1.heap.size + 1) _ (K6.alloc _)) keepsBox_t keepsBox_b (Below.refl _ _) (fun _ => rfl)
    (fun pre W => (pre <+: l ∧ Boxed W w.heap.size 4 (.bool false) ∧ Boxed W w1.heap.size 22 (.slice A l.length c) ∧ Boxed W (w1.heap.size + 1) 45 (.int .u64 s) ∧ Boxed W w2.heap.size 3 (.int .i64 pre.length)) ∧ Below w1.heap.size w1 W)
    (fun c pre W => ¬ pre <+: l)
    (OwnFrom.and (Own.from (fun p X Y row hs hg hr => ⟨hs.1, boxed_own _ _ (fun _ => .bool false) p X Y row hs.2.1 hg hr, boxed_own _ _ (fun _ => .slice A l.length c) p X Y row hs.2.2.1 hg hr, boxed_own _ _ (fun _ => .int .u64 s) p X Y row hs.2.2.2.1 hg hr, boxed_own _ _ (fun p => .int .i64 (p : List Int).length) p X Y row hs.2.2.2.2 hg hr⟩) _) (ownFrom_below (Nat.le_refl _) (by simp; omega)))
    (fun c p X Y row h _ _ => h)
    ⟨⟨List.nil_prefix, K4.alloc _, K5.alloc _, K6.alloc _, K7⟩, HB2.out.alloc (by omega) _⟩
    (fun x => { tmps := #[.int .u64 s, .int .i64 k, undef, undef, .pointer (some ⟨w.heap.size, 0, none⟩), .pointer (some ⟨w1.heap.size, 0, none⟩), .func (.func 114) #[] #[.pointer (some ⟨w1.heap.size + 1, 0, none⟩)], .pointer (some ⟨w2.heap.size, 0, none⟩), .int .i64 x, .int .u64 s, .slice A l.length c, .int .u64 s, .func (.func 114) #[] #[.pointer (some ⟨w1.heap.size + 1, 0, none⟩)], .func (.func 114) #[] #[.pointer (some ⟨w1.heap.size + 1, 0, none⟩)], .bool false, .bool false, .bool true, .bool false, .bool false, .func (.func 114) #[] #[.pointer (some ⟨w1.heap.size + 1, 0, none⟩)], .int .i64 x, undef, undef, undef, undef, undef, undef, undef, undef, undef, undef, undef, undef, undef, undef, undef, undef, undef, undef, undef, undef, undef, undef, undef, undef, undef, undef, undef, undef, undef, undef, undef, undef, undef, undef, undef, undef, undef, undef, undef], defers := [] }) ?assign ?body ?done ?stop
  case assign =>
    intro l' x W K hK
    gi_wp2
    exact hK
  case body =>
    rintro l' pre x W ⟨⟨hp, k4, k5, k6, k7⟩, hB⟩ hlt
    have c4 := k4.cell
    have f4 := k4.frozen
    have c5 := k5.cell
    have c7 := k7.cell
    have f7 := k7.frozen
    have K := hid (And.intro k4 (And.intro k5 (And.intro k6 (And.intro k7 hB))))
    have hsl := HSl.out.below hB
    have hpl := hp.length_le
    have HP := hid hp
    clear k4 k5 k6 k7 hB hp K4 K5 K6 K7
    by_cases hn : pre.length < l.length
    · have hd : decide (l.length ≤ pre.length) = false := by simp; omega
      have hn1 : (pre.length : Int) < (l.length : Int) := by omega
      obtain ⟨b, off, rfl, hc⟩ := Sl.at hsl pre.length (by rw [icells_length]; exact hn)
      have e1 : (icells .i64 l)[pre.length]'(by rw [icells_length]; exact hn) = .int .i64 l[pre.length] := by simp [icells]
      rw [e1] at hc
      clear e1 hsl
      have HX : Hid (pre ++ [l[pre.length]] <+: l) := hid (by
        obtain ⟨t, ht⟩ := HP.out
        have h2 : t ≠ [] := by rintro rfl; rw [List.append_nil] at ht; rw [ht] at hn; omega
        obtain ⟨y, t', rfl⟩ := List.exists_cons_of_ne_nil h2
        refine ⟨t', ?_⟩
        subst ht
        simp)
      generalize l[pre.length] = y at hc HX
      by_cases hx : y = x
      · subst hx
        have hb : (y != y) = false := by simp
        gi_wp2
        exact ⟨(KeepsOthers.setCell _ _ _).from _, keepsBox_of K.out.2.2.1 (K.out.2.2.1.other (by omega) _), ⟨HX.out, K.out.1.other (by omega) _, K.out.2.1.other (by omega) _, K.out.2.2.1.other (by omega) _, by simpa using K.out.2.2.2.1.set _⟩, K.out.2.2.2.2.setCell (p := ⟨w2.heap.size, 0, none⟩) (by show w1.heap.size ≤ w2.heap.size; omega) _⟩
      · have hb : (y != x) = true := by simp [hx]
        have HY : Hid (¬ (pre ++ [x] <+: l)) := hid (by
          intro h
          have h2 := List.prefix_of_prefix_length_le h HX.out (by simp)
          obtain ⟨t, ht⟩ := h2
          rw [List.append_assoc] at ht
          have := List.append_cancel_left ht
          simp at this
          exact hx this.1.symm)
        clear hx
        gi_wp2
        exact ⟨(KeepsOthers.setCell _ _ _).from _, HY.out⟩
    · have hd : decide (l.length ≤ pre.length) = true := by simp; omega
      have HY : Hid (¬ (pre ++ [x] <+: l)) := hid (fun h => by have := h.length_le; simp at this; omega)
      clear hsl
      gi_wp2
      exact ⟨(KeepsOthers.setCell _ _ _).from _, HY.out⟩
  case done =>
    rintro D ys W hD rfl ⟨⟨_, k4, k5, _, k7⟩, hB⟩ hK
    have hR : Hid (LR w w1 w2.heap.size D A c ys W) := hid ⟨⟨_, k4⟩, k5, k7, ⟨w1, HSl.out, HA.out, fun g h1 h2 => hB.block g h2⟩, hK, HB1.out.trans (hB.mono HB1.out.size)⟩
    have hD1 : w.heap.size ≠ D := by simp at hD; omega
    clear k4 k5 k7 hB hK K4 K5 K6 K7 HB1 HB2 HSl HA HL HE HS HW
    have hS : ∀ U, LR w w1 w2.heap.size D A c ys U → (((U.cell? ⟨w1.heap.size, 0, none⟩ = some (.slice A ys.length c) ∧ U.cell? ⟨w2.heap.size, 0, none⟩ = some (.int .i64 ys.length)) ∧ (U.cell? ⟨w.heap.size, 0, none⟩ = some (cv w.heap.size U) ∧ U.frozen? ⟨w.heap.size, 0, none⟩ = false)) ∧ LR w w1 w2.heap.size D A c ys U) := fun U h => ⟨⟨⟨h.k5.cell, h.k7.cell⟩, h.k4.elim fun v hv => ⟨cv_eq hv, hv.frozen⟩⟩, h⟩
    have e1 : (ys == ys) = true := by simp
    have e2 : (x1 == x1) = true := by simp
    have e3 : (ys.length == ys.length) = true := by simp
    have e4 : ((ys.length : Int) == (ys.length : Int)) = true := by simp
    have HSm := hid (fun (A1 : Option Addr) (c1 : Nat) (U : World) (h1 : Sl U 1 A1 ys.length c1 (icells .i64 ys)) (h2 : LR w w1 w2.heap.size D A c ys U) => (same06 A1 A ys.length c1 ys.length c ys ys U h1 h2.sl' (by omega) (by omega)).mono (R' := fun e w' => e = .returned (.bool true) ∧ Below U.heap.size U w') (fun e w' h => by
      obtain ⟨rfl, q, rfl⟩ := h
      exact ⟨by rw [e1], ⟨rfl, rfl, rfl, Nat.le_refl _, fun _ _ => rfl⟩⟩))
    have HD := hid hD
    clear hD
    gi_wp2
    refine wpIn_wide.2 ?_
    go_region_held3 (fun U => ((U.cell? ⟨w1.heap.size, 0, none⟩ = some (.slice A ys.length c) ∧ U.cell? ⟨w2.heap.size, 0, none⟩ = some (.int .i64 ys.length)) ∧ (U.cell? ⟨w.heap.size, 0, none⟩ = some (cv w.heap.size U) ∧ U.frozen? ⟨w.heap.size, 0, none⟩ = false)) ∧ LR w w1 w2.heap.size D A c ys U)
      (first
        | assumption
        | exact hS _ hR.out
        | exact hS _ (hR.out.call (below_drew (Below.refl _ _)))
        | exact hS _ (LR.call (And.right (by assumption)) (by assumption))
        | exact hS _ (LR.store (And.right (by assumption)) (by omega) (by omega) hD1 _))
      (first
        | (go_at_call 56
           refine (HF.out _).mono ?_
           rintro e u1 ⟨v1, rfl, g1, o1⟩
           obtain ⟨A1, c1, rfl, s1⟩ := Sl.of_own o1)
        | (go_at_call 26
           refine (HSm.out A1 c1 _ s1 (And.right (by assumption))).mono ?_
           rintro e u2 ⟨rfl, g2⟩)
        | (go_at_call 57
           refine (HC.out _).mono ?_
           rintro e u3 ⟨rfl, rfl⟩)
        | (go_at_call 58
           refine (HN.out _).mono ?_
           rintro e u4 ⟨rfl, g4⟩)
        | (go_at_call 59
           refine (HM.out _).mono ?_
           rintro e u5 ⟨rfl, g5⟩))
    have hX : LR w w1 w2.heap.size D A c ys (u5.setCell ⟨w.heap.size, 0, none⟩ (.bool true)) := And.right (by assumption)
    obtain ⟨v0, hv0⟩ := (show LR w w1 w2.heap.size D A c ys u5 from LR.call (LR.call (LR.call (LR.call (LR.call hR.out (below_drew (Below.refl _ _))) g1) g2) g4) g5).k4
    have HV := hid (hv0.set (.bool true))
    have HX := hid hX
    clear hX hv0
    gi_wp2
    refine ⟨by simp, .inl ⟨_, _, rfl, run_takeDeferred HX.out.d, ?_⟩⟩
    have hc5 := cell_kept HV.out.cell (grownBy_putObj' _ D (.deferred none)) (fun r e => by cases e; exact ⟨_, HX.out.d, rfl⟩)
    have hDl := HD.out
    refine ⟨.bool true, ?_, rfl, HX.out.b.trans (belowK_b (w := w) (Nat.le_refl _) _ D _ _ (by simp at hDl; omega) HX.out.d rfl rfl)⟩
    simp [results, Try.f6, go_sem, hc5]
  case stop =>
    rintro D c pre W _ h1 h2 _
    exact absurd h1 h2

theorem flockLists_law (a k : Int) (w : World) (ha : (Lit.int .u64 a).wf = true) (hk : (Lit.int .i64 k).wf = true) :
    Calls Try.prog 6 #[.int .u64 a, .int .i64 k] w fun e w' => e = .returned (.bool true) ∧ Below w.heap.size w w' := by
  obtain ⟨s, rfl, hs⟩ := wf_u64 ha
  exact flockLists_any s k w hs (wf_i64 hk)
end Go.Proofs.Ytgeccjeehhhchaa
