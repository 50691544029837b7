/- event.word, conf.Number of small numbers, event.Text of the example. -/
import Derived.Test.YtgakobolhmdnnaaGreatDoorEvP
import Derived.Test.YtgakobolhmdnnaaGreatDoorShelfM
import Derived.StillTailTactics
import Derived.Test.YtgakobolhmdnnaaGreatDoorGlP
namespace Go.Proofs.YtgakobolhmdnnaaGreatDoor
open Go.RowKit Go.Sort Go.Shelf
set_option linter.unusedVariables false
set_option linter.unusedSimpArgs false

set_option maxRecDepth 20000 in
set_option maxHeartbeats 1000000 in
theorem word2 (w : World) : Calls Tryz.prog 32 #[.int .i64 2] w fun e w' => e = .returned (.string (str [108, 97, 117, 110, 99, 104])) ∧ w' = w := by
  go_enter Tryz.func32, Tryz.ntmps32
  go_wp2
  go_ret
  exact ⟨rfl, rfl⟩
set_option maxRecDepth 20000 in
set_option maxHeartbeats 1000000 in
theorem num_small (i : Nat) (hi : i < 100) (w : World) : Calls Tryz.prog 33 #[.int .i64 i] w fun e w' => e = .returned (.string ⟨(Lib.decDigits i).toArray⟩) ∧ w' = w := by
  go_enter Tryz.func33, Tryz.ntmps33
  go_wp2_with fail
  refine (Tryz.strconv_Itoa_small i hi _).mono ?_
  rintro e w' ⟨rfl, rfl⟩
  go_wp2
  go_ret
  exact ⟨rfl, rfl⟩
theorem num5 (w : World) : Calls Tryz.prog 33 #[.int .i64 5] w fun e w' => e = .returned (.string (str [53])) ∧ w' = w := by
  have h := num_small 5 (by decide) w
  rw [show Lib.decDigits 5 = [53] by rw [Lib.decDigits]; rfl] at h
  exact h
theorem num1 (w : World) : Calls Tryz.prog 33 #[.int .i64 1] w fun e w' => e = .returned (.string (str [49])) ∧ w' = w := by
  have h := num_small 1 (by decide) w
  rw [show Lib.decDigits 1 = [49] by rw [Lib.decDigits]; rfl] at h
  exact h
theorem num0 (w : World) : Calls Tryz.prog 33 #[.int .i64 0] w fun e w' => e = .returned (.string (str [48])) ∧ w' = w := by
  have h := num_small 0 (by decide) w
  rw [show Lib.decDigits 0 = [48] by rw [Lib.decDigits]; rfl] at h
  exact h

set_option maxRecDepth 20000 in
set_option maxHeartbeats 4000000 in
theorem text9 (W : World) : Calls Tryz.prog 15 #[.agg #[.int .i64 2, .int .i64 5, .int .i64 1, .int .i64 0]] W fun e w' => e = .returned (.string (str [108, 97, 117, 110, 99, 104, 32, 53, 32, 49, 32, 48])) ∧ RowKit.Below W.heap.size W w' := by
  go_enter Tryz.func15, Tryz.ntmps15
  go_upto_region 1 with (fail)
  refine at_world (fun u => u.heap[W.heap.size]? = some (.cells #[.int .i64 2, .int .i64 5, .int .i64 1, .int .i64 0] 31 (0, 0)) ∧ RowKit.Below W.heap.size W u) ⟨heap_alloc_new _ _, bel_alloc (RowKit.Below.refl _ _) _⟩ ?_
  rintro w1 ⟨hx, hb⟩
  have HB := hid hb
  obtain ⟨p0, p1, p2, p3⟩ := four_cellsE hx
  clear hx hb
  go_still_tail 12, (by kernel_rfl)
  still_call (word2 _)
  repeat still_step
  still_call (num5 _)
  repeat still_step
  still_call (num1 _)
  repeat still_step
  still_call (num0 _)
  refine wpStill_nil ?_
  have HD := hid (below_drew HB.out)
  clear p0 p1 p2 p3
  change wpList _ _ _ _ _ w1.drew
  generalize w1.drew = w2 at *
  go_wp2_with fail
  have hcell : ∀ (j : Nat) x, [(str [108, 97, 117, 110, 99, 104]), str [53], str [49], str [48]][j]? = some x → (w2.alloc (.cells #[.string (str [108, 97, 117, 110, 99, 104]), .string (str [53]), .string (str [49]), .string (str [48])] 9)).cell? ⟨w2.heap.size, 0 + j, none⟩ = some (.string x) := by
    intro j x hx
    rw [cell_of_row _ w2.heap.size (0 + j) _ _ (0, 0) (heap_alloc_new w2 _)]
    match j, hx with
    | 0, hx => simp at hx; subst hx; rfl
    | 1, hx => simp at hx; subst hx; rfl
    | 2, hx => simp at hx; subst hx; rfl
    | 3, hx => simp at hx; subst hx; rfl
    | (k + 4), hx => simp at hx
  refine (Tryz.strings_Join w2.heap.size 0 4 [(str [108, 97, 117, 110, 99, 104]), str [53], str [49], str [48]] (str [32]) _ hcell (lt_of_block (heap_alloc_new w2 _)) (by simp) (by simp) (by decide)).mono ?_
  rintro e w3 ⟨rfl, hb⟩
  have HB3 := hid (HD.out.trans ((bel_alloc (RowKit.Below.refl _ _) _ : RowKit.Below w2.heap.size w2 _).trans (hb.mono (by rw [World.size_alloc]; omega)) |>.mono HD.out.size))
  clear hb hcell
  go_wp2
  go_ret
  exact ⟨rfl, HB3.out⟩
end Go.Proofs.YtgakobolhmdnnaaGreatDoor

namespace Go.Proofs.YtgakobolhmdnnaaGreatDoor
open Go.RowKit Go.Sort Go.Shelf
set_option linter.unusedVariables false
set_option linter.unusedSimpArgs false

theorem ex39a (A : Option Addr) : (runL (⟨0, 0, 0, 0, 0, [], [(1, 0, 0)]⟩ : Cf) [⟨5, [[42], [42]], A, 2⟩] [] [(⟨1, 5, 0, 0⟩ : Ev), ⟨2, 5, 0, 0⟩, ⟨2, 5, 1, 0⟩]).2 = 2 := by kernel_rfl
theorem ex39b (A : Option Addr) : (runL (⟨0, 0, 0, 0, 0, [], [(1, 0, 0)]⟩ : Cf) [⟨5, [[42], [42]], A, 2⟩] [] [(⟨1, 5, 0, 0⟩ : Ev), ⟨2, 5, 0, 0⟩, ⟨3, 5, 0, 0⟩, ⟨2, 5, 1, 0⟩]).2 = 4 := by kernel_rfl
theorem lay39a (W : World) : CfAt ((W.alloc (.cells #[.int .i64 1, .int .i64 0, .int .u64 0] 57)).alloc (.cells (#[.int .i64 0, .int .i64 0, .int .i64 0, .int .i64 0, .int .i64 0, .slice none 0 0, .slice (some ⟨W.heap.size, 0, none⟩) 1 1]) 25)) (⟨0, 0, 0, 0, 0, [], [(1, 0, 0)]⟩ : Cf) none 0 (some ⟨W.heap.size, 0, none⟩) 1 ∧ ((W.alloc (.cells #[.int .i64 1, .int .i64 0, .int .u64 0] 57)).alloc (.cells (#[.int .i64 0, .int .i64 0, .int .i64 0, .int .i64 0, .int .i64 0, .slice none 0 0, .slice (some ⟨W.heap.size, 0, none⟩) 1 1]) 25)).heap[W.heap.size + 1]? = some (.cells (#[.int .i64 0, .int .i64 0, .int .i64 0, .int .i64 0, .int .i64 0, .slice none 0 0, .slice (some ⟨W.heap.size, 0, none⟩) 1 1]) 25 (0, 0)) ∧ RowKit.Below W.heap.size W ((W.alloc (.cells #[.int .i64 1, .int .i64 0, .int .u64 0] 57)).alloc (.cells (#[.int .i64 0, .int .i64 0, .int .i64 0, .int .i64 0, .int .i64 0, .slice none 0 0, .slice (some ⟨W.heap.size, 0, none⟩) 1 1]) 25)) := by
  refine ⟨⟨⟨Sl.nil _ _ _ _ (Nat.zero_le _), by simp⟩, ?_, ?_⟩, ?_, bel_alloc (bel_alloc (RowKit.Below.refl _ _) _) _⟩
  · exact ((Sl.lit W 57 3 1 #[.int .i64 1, .int .i64 0, .int .u64 0] rfl (by unfold maxLen; omega)).below (bel_alloc (RowKit.Below.refl _ _) _) : Sl _ 3 _ 1 1 (gcells wkc [(1, 0, 0)]))
  · intro y h; simp at h; subst h; simp
  · have h9 := heap_alloc_new (W.alloc (.cells #[.int .i64 1, .int .i64 0, .int .u64 0] 57)) (.cells (#[.int .i64 0, .int .i64 0, .int .i64 0, .int .i64 0, .int .i64 0, .slice none 0 0, .slice (some ⟨W.heap.size, 0, none⟩) 1 1]) 25)
    rw [World.size_alloc] at h9
    exact h9
theorem lay39b (W : World) : InJs ((W.alloc (.cells #[.string ⟨#[42]⟩, .string ⟨#[42]⟩] 9)).alloc (.cells #[.int .i64 5, .slice (some ⟨W.heap.size, 0, none⟩) 2 2] 54)) (some ⟨W.heap.size + 1, 0, none⟩) 1 [⟨5, [[42], [42]], some ⟨W.heap.size, 0, none⟩, 2⟩] ∧ RowKit.Below W.heap.size W ((W.alloc (.cells #[.string ⟨#[42]⟩, .string ⟨#[42]⟩] 9)).alloc (.cells #[.int .i64 5, .slice (some ⟨W.heap.size, 0, none⟩) 2 2] 54)) := by
  refine ⟨⟨?_, fun y hy => ?_⟩, bel_alloc (bel_alloc (RowKit.Below.refl _ _) _) _⟩
  · have h9 := Sl.lit (W.alloc (.cells #[.string ⟨#[42]⟩, .string ⟨#[42]⟩] 9)) 54 2 1 #[.int .i64 5, .slice (some ⟨W.heap.size, 0, none⟩) 2 2] rfl (by unfold maxLen; omega)
    rw [World.size_alloc] at h9
    exact h9
  · obtain rfl := List.mem_singleton.1 hy
    refine ⟨?_, ?_⟩
    · exact ((Sl.lit W 9 1 2 #[.string ⟨#[42]⟩, .string ⟨#[42]⟩] rfl (by unfold maxLen; omega)).below (bel_alloc (RowKit.Below.refl _ _) _) : Sl _ 1 _ 2 2 (scells [[42], [42]]))
    · intro s h; simp at h; subst h; unfold maxLen; simp
theorem cells12 {w : World} {b t : Nat} {x0 x1 x2 x3 x4 x5 x6 x7 x8 x9 x10 x11 : Value} (h : w.heap[b]? = some (.cells #[x0, x1, x2, x3, x4, x5, x6, x7, x8, x9, x10, x11] t (0, 0))) :
    (w.cell? ⟨b, 0, none⟩ = some x0 ∧ w.cell? ⟨b, 1, none⟩ = some x1 ∧ w.cell? ⟨b, 2, none⟩ = some x2 ∧ w.cell? ⟨b, 3, none⟩ = some x3) ∧ (w.cell? ⟨b, 4, none⟩ = some x4 ∧ w.cell? ⟨b, 5, none⟩ = some x5 ∧ w.cell? ⟨b, 6, none⟩ = some x6 ∧ w.cell? ⟨b, 7, none⟩ = some x7) ∧ w.cell? ⟨b, 8, none⟩ = some x8 ∧ w.cell? ⟨b, 9, none⟩ = some x9 ∧ w.cell? ⟨b, 10, none⟩ = some x10 ∧ w.cell? ⟨b, 11, none⟩ = some x11 := by
  refine ⟨⟨?_, ?_, ?_, ?_⟩, ⟨?_, ?_, ?_, ?_⟩, ?_, ?_, ?_, ?_⟩ <;> (rw [cell_of_row w b _ _ _ _ h]; rfl)

set_option maxRecDepth 20000 in
set_option maxHeartbeats 4000000 in
theorem works39_any (W : World) : Calls Tryz.prog 8 #[] W fun e w' => e = .returned (.bool true) ∧ RowKit.Below W.heap.size W w' := by
  have hsm : ∀ A, SmJ [(⟨5, [[42], [42]], A, 2⟩ : Jo)] := fun A y hy => by obtain rfl := List.mem_singleton.1 hy; refine ⟨by simp, ?_⟩; intro s h; simp at h; subst h; simp
  have HA := hid (fun u K J A L (hC : CfAt u (⟨0, 0, 0, 0, 0, [], [(1, 0, 0)]⟩ : Cf) none 0 K 1) (hJ : InJs u J 1 [⟨5, [[42], [42]], A, 2⟩]) (hL : Sl u 4 L 3 3 (gcells evl [(⟨1, 5, 0, 0⟩ : Ev), ⟨2, 5, 0, 0⟩, ⟨2, 5, 1, 0⟩])) => run_any (⟨0, 0, 0, 0, 0, [], [(1, 0, 0)]⟩ : Cf) none 0 K 1 J 1 _ L 3 [(⟨1, 5, 0, 0⟩ : Ev), ⟨2, 5, 0, 0⟩, ⟨2, 5, 1, 0⟩] u hC hJ hL (by simp) (hsm A) (by simp))
  have HA2 := hid (fun u K J A L (hC : CfAt u (⟨0, 0, 0, 0, 0, [], [(1, 0, 0)]⟩ : Cf) none 0 K 1) (hJ : InJs u J 1 [⟨5, [[42], [42]], A, 2⟩]) (hL : Sl u 4 L 4 4 (gcells evl [(⟨1, 5, 0, 0⟩ : Ev), ⟨2, 5, 0, 0⟩, ⟨3, 5, 0, 0⟩, ⟨2, 5, 1, 0⟩])) => run_any (⟨0, 0, 0, 0, 0, [], [(1, 0, 0)]⟩ : Cf) none 0 K 1 J 1 _ L 4 [(⟨1, 5, 0, 0⟩ : Ev), ⟨2, 5, 0, 0⟩, ⟨3, 5, 0, 0⟩, ⟨2, 5, 1, 0⟩] u hC hJ hL (by simp) (hsm A) (by simp))
  simp only [ex39a, ex39b, cfc, List.length_cons, List.length_nil, Nat.zero_add, Nat.reduceAdd] at HA HA2
  clear hsm
  go_enter Tryz.func8, Tryz.ntmps8
  go_upto_region 2 with (fail)
  refine at_world (fun u => CfAt u (⟨0, 0, 0, 0, 0, [], [(1, 0, 0)]⟩ : Cf) none 0 (some ⟨W.heap.size, 0, none⟩) 1 ∧ u.heap[W.heap.size + 1]? = some (.cells (#[.int .i64 0, .int .i64 0, .int .i64 0, .int .i64 0, .int .i64 0, .slice none 0 0, .slice (some ⟨W.heap.size, 0, none⟩) 1 1]) 25 (0, 0)) ∧ RowKit.Below W.heap.size W u) (lay39a W) ?_
  generalize (some (⟨W.heap.size, 0, none⟩ : Addr)) = K at *
  generalize W.heap.size + 1 = Q at *
  rintro w1 ⟨hC, hq, hb⟩
  have HB := hid hb
  have HC := hid hC
  have HQ := hid hq
  clear hC hq hb
  go_upto_region 3 with (fail)
  refine at_world (fun u => InJs u (some ⟨w1.heap.size + 1, 0, none⟩) 1 [⟨5, [[42], [42]], some ⟨w1.heap.size, 0, none⟩, 2⟩] ∧ RowKit.Below w1.heap.size w1 u) (lay39b w1) ?_
  generalize (some (⟨w1.heap.size, 0, none⟩ : Addr)) = A at *
  generalize (some (⟨w1.heap.size + 1, 0, none⟩ : Addr)) = J at *
  rintro w2 ⟨hj, hb⟩
  have HB2 := hid (HB.out.trans (hb.mono HB.out.size))
  have HC2 := hid (HC.out.below hb)
  have HQ2 := hid (keep0 HQ.out hb)
  have HJ2 := hid hj
  clear hj hb HB HC HQ
  go_upto_region 4 with (fail)
  refine at_world (fun u => Sl u 4 (some ⟨w2.heap.size, 0, none⟩) 3 3 (gcells evl [(⟨1, 5, 0, 0⟩ : Ev), ⟨2, 5, 0, 0⟩, ⟨2, 5, 1, 0⟩]) ∧ u.heap[w2.heap.size]? = some (.cells #[.int .i64 1, .int .i64 5, .int .i64 0, .int .i64 0, .int .i64 2, .int .i64 5, .int .i64 0, .int .i64 0, .int .i64 2, .int .i64 5, .int .i64 1, .int .i64 0] 31 (0, 0)) ∧ RowKit.Below w2.heap.size w2 u) ⟨Sl.lit w2 31 4 3 #[.int .i64 1, .int .i64 5, .int .i64 0, .int .i64 0, .int .i64 2, .int .i64 5, .int .i64 0, .int .i64 0, .int .i64 2, .int .i64 5, .int .i64 1, .int .i64 0] rfl (by unfold maxLen; omega), heap_alloc_new _ _, bel_alloc (RowKit.Below.refl _ _) _⟩ ?_
  rintro w3 ⟨hl, hx, hb⟩
  have HB3 := hid (HB2.out.trans (hb.mono HB2.out.size))
  have HC3 := hid (HC2.out.below hb)
  have HQ3 := hid (keep0 HQ2.out hb)
  have HJ3 := hid (HJ2.out.below hb)
  have HL3 := hid hl
  have HX3 := hid hx
  clear hl hx hb HB2 HC2 HQ2 HJ2
  generalize w2.heap.size = L0 at HL3 HX3 ⊢
  obtain ⟨q0, q1, q2, q3, q4, q5, q6⟩ := seven_cellsJ HQ3.out
  go_wp2_with fail
  refine (HA.out w3 K J A (some ⟨L0, 0, none⟩) HC3.out HJ3.out HL3.out).mono ?_
  rintro e w4 ⟨A4, c4, ys, rfl, _, _, hb⟩
  have HB4 := hid (HB3.out.trans (hb.mono HB3.out.size))
  have HC4 := hid (HC3.out.below hb)
  have HQ4 := hid (keep0 HQ3.out hb)
  have HJ4 := hid (HJ3.out.below hb)
  have HX4 := hid (keep0 HX3.out hb)
  clear hb HB3 HC3 HQ3 HJ3 HL3 HX3 q0 q1 q2 q3 q4 q5 q6 HA
  go_upto_region 5 with (fail)
  have hS : ∀ U, RowKit.Below w4.heap.size w4 U → (U.heap[Q]? = some (.cells (#[.int .i64 0, .int .i64 0, .int .i64 0, .int .i64 0, .int .i64 0, .slice none 0 0, .slice K 1 1]) 25 (0, 0)) ∧ U.heap[L0]? = some (.cells #[.int .i64 1, .int .i64 5, .int .i64 0, .int .i64 0, .int .i64 2, .int .i64 5, .int .i64 0, .int .i64 0, .int .i64 2, .int .i64 5, .int .i64 1, .int .i64 0] 31 (0, 0)) ∧ RowKit.Below w4.heap.size w4 U) := fun U hU => ⟨keep0 HQ4.out hU, keep0 HX4.out hU, hU⟩
  have hu0 : RowKit.Below w4.heap.size w4 w4.drew := below_drew (RowKit.Below.refl _ _)
  refine wp_region_held_drew (S := fun U => (U.heap[Q]? = some (.cells (#[.int .i64 0, .int .i64 0, .int .i64 0, .int .i64 0, .int .i64 0, .slice none 0 0, .slice K 1 1]) 25 (0, 0)) ∧ U.heap[L0]? = some (.cells #[.int .i64 1, .int .i64 5, .int .i64 0, .int .i64 0, .int .i64 2, .int .i64 5, .int .i64 0, .int .i64 0, .int .i64 2, .int .i64 5, .int .i64 1, .int .i64 0] 31 (0, 0)) ∧ RowKit.Below w4.heap.size w4 U)) (by kernel_rfl) (hS _ hu0) (fun hHeld => ?_)
  generalize w4.drew = w5 at *
  refine wpAnyH_take (i := 0) (v := ?_) rfl (by kernel_rfl) (by kernel_rfl) (by kernel_rfl) (fun _ _ _ h => h) (Or.inl ⟨by rfl, ?_⟩) (by assumption) ?_
  rotate_left
  focus
    intro U hU
    try dsimp only at hU
    obtain ⟨q0, q1, q2, q3, q4, q5, q6⟩ := seven_cellsJ hU.1
    obtain ⟨⟨a0, a1, a2, a3⟩, ⟨a4, a5, a6, a7⟩, a8, a9, a10, a11⟩ := cells12 hU.2.1
    go_simp
    try (with_reducible rfl)
  simp only [List.getElem_toArray, List.getElem_cons_succ, List.getElem_cons_zero, Act.put, List.setIfInBounds_toArray, List.set_cons_zero, List.set_cons_succ]
  refine wpAnyH_take (i := 1) (v := ?_) rfl (by kernel_rfl) (by kernel_rfl) (by kernel_rfl) (fun _ _ _ h => h) (Or.inl ⟨by rfl, ?_⟩) (by assumption) ?_
  rotate_left
  focus
    intro U hU
    try dsimp only at hU
    obtain ⟨q0, q1, q2, q3, q4, q5, q6⟩ := seven_cellsJ hU.1
    obtain ⟨⟨a0, a1, a2, a3⟩, ⟨a4, a5, a6, a7⟩, a8, a9, a10, a11⟩ := cells12 hU.2.1
    go_simp
    try (with_reducible rfl)
  simp only [List.getElem_toArray, List.getElem_cons_succ, List.getElem_cons_zero, Act.put, List.setIfInBounds_toArray, List.set_cons_zero, List.set_cons_succ]
  refine wpAnyH_take (i := 2) (v := ?_) rfl (by kernel_rfl) (by kernel_rfl) (by kernel_rfl) (fun _ _ _ h => h) (Or.inl ⟨by rfl, ?_⟩) (by assumption) ?_
  rotate_left
  focus
    intro U hU
    try dsimp only at hU
    obtain ⟨q0, q1, q2, q3, q4, q5, q6⟩ := seven_cellsJ hU.1
    obtain ⟨⟨a0, a1, a2, a3⟩, ⟨a4, a5, a6, a7⟩, a8, a9, a10, a11⟩ := cells12 hU.2.1
    go_simp
    try (with_reducible rfl)
  simp only [List.getElem_toArray, List.getElem_cons_succ, List.getElem_cons_zero, Act.put, List.setIfInBounds_toArray, List.set_cons_zero, List.set_cons_succ]
  refine wpAnyH_take (i := 3) (v := ?_) rfl (by kernel_rfl) (by kernel_rfl) (by kernel_rfl) (fun _ _ _ h => h) (Or.inl ⟨by rfl, ?_⟩) (by assumption) ?_
  rotate_left
  focus
    intro U hU
    try dsimp only at hU
    obtain ⟨q0, q1, q2, q3, q4, q5, q6⟩ := seven_cellsJ hU.1
    obtain ⟨⟨a0, a1, a2, a3⟩, ⟨a4, a5, a6, a7⟩, a8, a9, a10, a11⟩ := cells12 hU.2.1
    go_simp
    try (with_reducible rfl)
  simp only [List.getElem_toArray, List.getElem_cons_succ, List.getElem_cons_zero, Act.put, List.setIfInBounds_toArray, List.set_cons_zero, List.set_cons_succ]
  refine wpAnyH_take (i := 4) (v := ?_) rfl (by kernel_rfl) (by kernel_rfl) (by kernel_rfl) (fun _ _ _ h => h) (Or.inl ⟨by rfl, ?_⟩) (by assumption) ?_
  rotate_left
  focus
    intro U hU
    try dsimp only at hU
    obtain ⟨q0, q1, q2, q3, q4, q5, q6⟩ := seven_cellsJ hU.1
    obtain ⟨⟨a0, a1, a2, a3⟩, ⟨a4, a5, a6, a7⟩, a8, a9, a10, a11⟩ := cells12 hU.2.1
    go_simp
    try (with_reducible rfl)
  simp only [List.getElem_toArray, List.getElem_cons_succ, List.getElem_cons_zero, Act.put, List.setIfInBounds_toArray, List.set_cons_zero, List.set_cons_succ]
  refine wpAnyH_take (i := 5) (v := ?_) rfl (by kernel_rfl) (by kernel_rfl) (by kernel_rfl) (fun _ _ _ h => h) (Or.inl ⟨by rfl, ?_⟩) (by assumption) ?_
  rotate_left
  focus
    intro U hU
    try dsimp only at hU
    obtain ⟨q0, q1, q2, q3, q4, q5, q6⟩ := seven_cellsJ hU.1
    obtain ⟨⟨a0, a1, a2, a3⟩, ⟨a4, a5, a6, a7⟩, a8, a9, a10, a11⟩ := cells12 hU.2.1
    go_simp
    try (with_reducible rfl)
  simp only [List.getElem_toArray, List.getElem_cons_succ, List.getElem_cons_zero, Act.put, List.setIfInBounds_toArray, List.set_cons_zero, List.set_cons_succ]
  refine wpAnyH_take (i := 6) (v := ?_) rfl (by kernel_rfl) (by kernel_rfl) (by kernel_rfl) (fun _ _ _ h => h) (Or.inl ⟨by rfl, ?_⟩) (by assumption) ?_
  rotate_left
  focus
    intro U hU
    try dsimp only at hU
    obtain ⟨q0, q1, q2, q3, q4, q5, q6⟩ := seven_cellsJ hU.1
    obtain ⟨⟨a0, a1, a2, a3⟩, ⟨a4, a5, a6, a7⟩, a8, a9, a10, a11⟩ := cells12 hU.2.1
    go_simp
    try (with_reducible rfl)
  simp only [List.getElem_toArray, List.getElem_cons_succ, List.getElem_cons_zero, Act.put, List.setIfInBounds_toArray, List.set_cons_zero, List.set_cons_succ]
  refine wpAnyH_take (i := 7) (v := ?_) rfl (by kernel_rfl) (by kernel_rfl) (by kernel_rfl) (fun _ _ _ h => h) (Or.inl ⟨by rfl, ?_⟩) (by assumption) ?_
  rotate_left
  focus
    intro U hU
    try dsimp only at hU
    obtain ⟨q0, q1, q2, q3, q4, q5, q6⟩ := seven_cellsJ hU.1
    obtain ⟨⟨a0, a1, a2, a3⟩, ⟨a4, a5, a6, a7⟩, a8, a9, a10, a11⟩ := cells12 hU.2.1
    go_simp
    try (with_reducible rfl)
  simp only [List.getElem_toArray, List.getElem_cons_succ, List.getElem_cons_zero, Act.put, List.setIfInBounds_toArray, List.set_cons_zero, List.set_cons_succ]
  refine wpAnyH_take (i := 8) (v := ?_) rfl (by kernel_rfl) (by kernel_rfl) (by kernel_rfl) (fun _ _ _ h => h) (Or.inl ⟨by rfl, ?_⟩) (by assumption) ?_
  rotate_left
  focus
    intro U hU
    try dsimp only at hU
    obtain ⟨q0, q1, q2, q3, q4, q5, q6⟩ := seven_cellsJ hU.1
    obtain ⟨⟨a0, a1, a2, a3⟩, ⟨a4, a5, a6, a7⟩, a8, a9, a10, a11⟩ := cells12 hU.2.1
    go_simp
    try (with_reducible rfl)
  simp only [List.getElem_toArray, List.getElem_cons_succ, List.getElem_cons_zero, Act.put, List.setIfInBounds_toArray, List.set_cons_zero, List.set_cons_succ]
  refine wpAnyH_take (i := 9) (v := ?_) rfl (by kernel_rfl) (by kernel_rfl) (by kernel_rfl) (fun _ _ _ h => h) (Or.inl ⟨by rfl, ?_⟩) (by assumption) ?_
  rotate_left
  focus
    intro U hU
    try dsimp only at hU
    obtain ⟨q0, q1, q2, q3, q4, q5, q6⟩ := seven_cellsJ hU.1
    obtain ⟨⟨a0, a1, a2, a3⟩, ⟨a4, a5, a6, a7⟩, a8, a9, a10, a11⟩ := cells12 hU.2.1
    go_simp
    try (with_reducible rfl)
  simp only [List.getElem_toArray, List.getElem_cons_succ, List.getElem_cons_zero, Act.put, List.setIfInBounds_toArray, List.set_cons_zero, List.set_cons_succ]
  refine wpAnyH_take (i := 10) (v := ?_) rfl (by kernel_rfl) (by kernel_rfl) (by kernel_rfl) (fun _ _ _ h => h) (Or.inl ⟨by rfl, ?_⟩) (by assumption) ?_
  rotate_left
  focus
    intro U hU
    try dsimp only at hU
    obtain ⟨q0, q1, q2, q3, q4, q5, q6⟩ := seven_cellsJ hU.1
    obtain ⟨⟨a0, a1, a2, a3⟩, ⟨a4, a5, a6, a7⟩, a8, a9, a10, a11⟩ := cells12 hU.2.1
    go_simp
    try (with_reducible rfl)
  simp only [List.getElem_toArray, List.getElem_cons_succ, List.getElem_cons_zero, Act.put, List.setIfInBounds_toArray, List.set_cons_zero, List.set_cons_succ]
  refine wpAnyH_take (i := 11) (v := ?_) rfl (by kernel_rfl) (by kernel_rfl) (by kernel_rfl) (fun _ _ _ h => h) (Or.inl ⟨by rfl, ?_⟩) (by assumption) ?_
  rotate_left
  focus
    intro U hU
    try dsimp only at hU
    obtain ⟨q0, q1, q2, q3, q4, q5, q6⟩ := seven_cellsJ hU.1
    obtain ⟨⟨a0, a1, a2, a3⟩, ⟨a4, a5, a6, a7⟩, a8, a9, a10, a11⟩ := cells12 hU.2.1
    go_simp
    try (with_reducible rfl)
  simp only [List.getElem_toArray, List.getElem_cons_succ, List.getElem_cons_zero, Act.put, List.setIfInBounds_toArray, List.set_cons_zero, List.set_cons_succ]
  refine wpAnyH_ready (rs := [12]) (by kernel_rfl) (by simp) ?_
  refine AllReadyH.cons rfl (fun K hK => ?_) AllReadyH.nil
  simp only [List.getElem_toArray, List.getElem_cons_succ, List.getElem_cons_zero]
  go_simp
  refine hK.out _ _ ?_ (fun hHeld2 => ?_)
  focus
    exact hS _ (hu0.alloc hu0.size _)
  clear hHeld
  have hHeld := hHeld2
  clear hHeld2 hK K
  try simp only [List.getElem_toArray, List.getElem_cons_succ, List.getElem_cons_zero, Act.put, List.setIfInBounds_toArray, List.set_cons_zero, List.set_cons_succ]
  have hal : RowKit.Below w5.heap.size w5 (w5.alloc (.cells #[.int .i64 1, .int .i64 5, .int .i64 0, .int .i64 0, .int .i64 2, .int .i64 5, .int .i64 0, .int .i64 0, .int .i64 3, .int .i64 5, .int .i64 0, .int .i64 0, .int .i64 2, .int .i64 5, .int .i64 1, .int .i64 0] 31)) := bel_alloc (RowKit.Below.refl _ _) _
  have HL9 := hid (HA2.out _ K J A _ ((HC4.out.below hu0).below hal) ((HJ4.out.below hu0).below hal) (Sl.lit w5 31 4 4 #[.int .i64 1, .int .i64 5, .int .i64 0, .int .i64 0, .int .i64 2, .int .i64 5, .int .i64 0, .int .i64 0, .int .i64 3, .int .i64 5, .int .i64 0, .int .i64 0, .int .i64 2, .int .i64 5, .int .i64 1, .int .i64 0] rfl (by unfold maxLen; omega)))
  have hu1 := hu0.trans (hal.mono hu0.size)
  clear hal HA2
  refine wpAnyH_ready (rs := [13]) (by kernel_rfl) (by simp) ?_
  refine AllReadyH.cons rfl (fun K hK => ?_) AllReadyH.nil
  simp only [List.getElem_toArray, List.getElem_cons_succ, List.getElem_cons_zero]
  go_simp
  refine HL9.out.mono ?_
  rintro e w6 ⟨A6, c6, zs, rfl, _, _, hb⟩
  have hu2 := hu1.trans (hb.mono hu1.size)
  go_wp2_with fail
  refine hK.out _ _ ?_ (fun hHeld2 => ?_)
  focus
    exact hS _ (by with_reducible assumption)
  clear hHeld
  have hHeld := hHeld2
  clear hHeld2 hK K
  try simp only [List.getElem_toArray, List.getElem_cons_succ, List.getElem_cons_zero, Act.put, List.setIfInBounds_toArray, List.set_cons_zero, List.set_cons_succ]
  refine wpAnyH_take (i := 14) (v := ?_) rfl (by kernel_rfl) (by kernel_rfl) (by kernel_rfl) (fun _ _ _ h => h) (Or.inl ⟨by rfl, ?_⟩) (by assumption) ?_
  rotate_left
  focus
    intro U hU
    try dsimp only at hU
    go_simp
    try (with_reducible rfl)
  simp only [List.getElem_toArray, List.getElem_cons_succ, List.getElem_cons_zero, Act.put, List.setIfInBounds_toArray, List.set_cons_zero, List.set_cons_succ]
  refine wpAnyH_take (i := 15) (v := ?_) rfl (by kernel_rfl) (by kernel_rfl) (by kernel_rfl) (fun _ _ _ h => h) (Or.inl ⟨by rfl, ?_⟩) (by assumption) ?_
  rotate_left
  focus
    intro U hU
    try dsimp only at hU
    go_simp
    try (with_reducible rfl)
  simp only [List.getElem_toArray, List.getElem_cons_succ, List.getElem_cons_zero, Act.put, List.setIfInBounds_toArray, List.set_cons_zero, List.set_cons_succ]
  refine wpAnyH_take (i := 16) (v := ?_) rfl (by kernel_rfl) (by kernel_rfl) (by kernel_rfl) (fun _ _ _ h => h) (Or.inl ⟨by rfl, ?_⟩) (by assumption) ?_
  rotate_left
  focus
    intro U hU
    try dsimp only at hU
    go_simp
    try (with_reducible rfl)
  simp only [List.getElem_toArray, List.getElem_cons_succ, List.getElem_cons_zero, Act.put, List.setIfInBounds_toArray, List.set_cons_zero, List.set_cons_succ]
  refine wpAnyH_take (i := 17) (v := ?_) rfl (by kernel_rfl) (by kernel_rfl) (by kernel_rfl) (fun _ _ _ h => h) (Or.inl ⟨by rfl, ?_⟩) (by assumption) ?_
  rotate_left
  focus
    intro U hU
    try dsimp only at hU
    go_simp
    try (with_reducible rfl)
  simp only [List.getElem_toArray, List.getElem_cons_succ, List.getElem_cons_zero, Act.put, List.setIfInBounds_toArray, List.set_cons_zero, List.set_cons_succ]
  refine wpAnyH_take (i := 18) (v := ?_) rfl (by kernel_rfl) (by kernel_rfl) (by kernel_rfl) (fun _ _ _ h => h) (Or.inl ⟨by rfl, ?_⟩) (by assumption) ?_
  rotate_left
  focus
    intro U hU
    try dsimp only at hU
    go_simp
    try (with_reducible rfl)
  simp only [List.getElem_toArray, List.getElem_cons_succ, List.getElem_cons_zero, Act.put, List.setIfInBounds_toArray, List.set_cons_zero, List.set_cons_succ]
  refine wpAnyH_done (by kernel_rfl) ?_ _
  have HB7 := hid (HB4.out.trans (hu2.mono HB4.out.size))
  have HX7 := hid (keep0 HX4.out hu2)
  clear hHeld hS hu0 hu1 hu2 HL9 HB4 HC4 HQ4 HJ4 HX4
  obtain ⟨⟨a0, a1, a2, a3⟩, ⟨a4, a5, a6, a7⟩, a8, a9, a10, a11⟩ := cells12 HX7.out
  clear a0 a1 a2 a3 a4 a5 a6 a7
  go_wp2_with fail
  refine (text9 w6).mono ?_
  rintro e w7 ⟨rfl, hb⟩
  have HB8 := hid (HB7.out.trans (hb.mono HB7.out.size))
  clear hb a8 a9 a10 a11 HX7 HB7
  rw [show (str [108, 97, 117, 110, 99, 104, 32, 53, 32, 49, 32, 48]) = ⟨#[108, 97, 117, 110, 99, 104, 32, 53, 32, 49, 32, 48]⟩ from rfl]
  go_wp2
  go_ret
  exact ⟨rfl, HB8.out⟩
end Go.Proofs.YtgakobolhmdnnaaGreatDoor

namespace Go.Proofs.YtgakobolhmdnnaaGreatDoor
open Go.RowKit Go.Sort Go.Shelf
set_option linter.unusedVariables false
set_option linter.unusedSimpArgs false

theorem nd_le : ∀ (k u : Nat), u < 10 ^ (k + 1) → Lib.nDigits u ≤ k + 1
  | 0, u, h => by rw [Lib.nDigits_small (by simpa using h)]; omega
  | k + 1, u, h => by
    by_cases h1 : u < 10
    · rw [Lib.nDigits_small h1]; omega
    · rw [Lib.nDigits_big h1]
      have h9 := nd_le k (u / 10) (by rw [Nat.pow_succ] at h; omega)
      omega
/-- The digits of what is left; none of nothing. -/
def dgs (u : Nat) : List UInt8 := if u = 0 then [] else Lib.decDigits u
theorem dgs_step {u : Nat} (h : u ≠ 0) : dgs u = dgs (u / 10) ++ [UInt8.ofNat (48 + u % 10)] := by
  unfold dgs
  rw [if_neg h, Lib.decDigits]
  by_cases h1 : u < 10
  · rw [dif_pos h1, if_pos (by omega), show u % 10 = u by omega]; rfl
  · rw [dif_neg h1, if_neg (by omega)]
structure NumI (n v : Int) (t : List UInt8) : Prop where
  dig : dgs n.natAbs = dgs v.natAbs ++ t
  lo : -9223372036854775808 ≤ v
  hi : v ≤ 9223372036854775807
  len : t.length ≤ 20
  abs : n.natAbs < 18446744073709551616
theorem numI_next {n v : Int} {t : List UInt8} (h : NumI n v t) (h0 : v ≠ 0) : NumI n (v.tdiv 10) (UInt8.ofNat (48 + v.natAbs % 10) :: t) := by
  have hv : v.natAbs ≠ 0 := by omega
  have hq : (v.tdiv 10).natAbs = v.natAbs / 10 := by rw [Int.natAbs_tdiv]; rfl
  have h9 : dgs n.natAbs = dgs (v.tdiv 10).natAbs ++ (UInt8.ofNat (48 + v.natAbs % 10) :: t) := by
    rw [h.dig, dgs_step hv, hq, List.append_assoc]; rfl
  have hb := h.lo
  have hc := h.hi
  refine ⟨h9, by omega, by omega, ?_, h.abs⟩
  have e := congrArg List.length h9
  rw [List.length_append] at e
  have hn := h.dig
  by_cases hz : n.natAbs = 0
  · have e2 := congrArg List.length hn
    rw [hz, List.length_append] at e2
    have : (dgs 0).length = 0 := rfl
    have e3 : (dgs v.natAbs).length = 0 := by omega
    rw [dgs_step hv, List.length_append, List.length_singleton] at e3
    omega
  · have hl : (dgs n.natAbs).length ≤ 20 := by
      unfold dgs
      rw [if_neg hz, Lib.decDigits_length]
      exact nd_le 19 _ (Nat.lt_of_lt_of_le h.abs (by decide))
    omega

theorem tm_neg {v : Int} (h : v < 0) : v.tmod 10 = -((v.natAbs % 10 : Nat) : Int) := by
  obtain ⟨u, rfl⟩ : ∃ u : Nat, v = -(u : Int) := ⟨v.natAbs, by omega⟩
  rw [Int.neg_tmod, Int.natAbs_neg]
  rfl
theorem tm_pos {v : Int} (h : ¬ v < 0) : v.tmod 10 = ((v.natAbs % 10 : Nat) : Int) := by
  obtain ⟨u, rfl⟩ : ∃ u : Nat, v = (u : Int) := ⟨v.natAbs, by omega⟩
  rfl
theorem conv_dg (d : Nat) (hd : d < 10) (w : World) : (convert 83 9 (.slice (some ⟨w.heap.size, 0, none⟩) 1 1)).run Tryz.prog (w.alloc (.cells #[.int .u8 (48 + (d : Int))] 5)) = .ok (.string (str [UInt8.ofNat (48 + d)])) (w.alloc (.cells #[.int .u8 (48 + (d : Int))] 5)) :=
  conv_one (UInt8.ofNat (48 + d)) (48 + (d : Int)) (by
    have h : (UInt8.ofNat (48 + d)).toNat = 48 + d := by rw [UInt8.toNat_ofNat']; omega
    rw [h]; omega) w
theorem conv_48 (w : World) : (convert 83 9 (.slice (some ⟨w.heap.size, 0, none⟩) 1 1)).run Tryz.prog (w.alloc (.cells #[.int .u8 48] 5)) = .ok (.string (str [48])) (w.alloc (.cells #[.int .u8 48] 5)) := conv_dg 0 (by omega) w
set_option maxRecDepth 20000 in
set_option maxHeartbeats 4000000 in
theorem rnum14_any (n : Int) (h0 : -9223372036854775808 ≤ n) (h1 : n ≤ 9223372036854775807) (W : World) :
    Calls Tryz.prog 34 #[.int .i64 n] W fun e w' => e = .returned (.string (str (Lib.itoa n))) ∧ RowKit.Below W.heap.size W w' := by
  by_cases hz : n = 0
  · subst hz
    have hi : Lib.itoa 0 = [48] := by unfold Lib.itoa; rw [if_neg (by omega), show (0 : Int).toNat = 0 from rfl, Lib.decDigits]; rfl
    rw [hi]
    go_enter Tryz.func34, Tryz.ntmps34
    go_wp2
    go_ret
    exact ⟨rfl, RowKit.Below.refl _ _⟩
  have HI0 : Hid (NumI n n []) := hid ⟨by simp, h0, h1, by simp, by omega⟩
  have hit : Lib.itoa n = if n < 0 then 45 :: dgs n.natAbs else dgs n.natAbs := by
    unfold Lib.itoa dgs
    have hz' : ¬ n.natAbs = 0 := by omega
    by_cases hn : n < 0
    · rw [if_pos hn, if_pos hn, if_neg hz']
    · rw [if_neg hn, if_neg hn, if_neg hz', show n.toNat = n.natAbs by omega]
  have HIT := hid hit
  have HZ := hid hz
  obtain ⟨OUT, hout⟩ : ∃ OUT, str (Lib.itoa n) = OUT := ⟨_, rfl⟩
  rw [hout]
  have HOUT := hid hout
  clear hit hout h0 h1
  have hnz : (n == 0) = false := by simpa using hz
  go_enter Tryz.func34, Tryz.ntmps34
  go_wp2
  go_loopw [0, 3, 5] (fun x s d wr => ∃ (v : Int) (t : List UInt8), x = .int .i64 v ∧ s = .string (str t) ∧ Hid (NumI n v t) ∧ Hid (RowKit.Below W.heap.size W wr)) (fun x _ _ _ => (intOf x).natAbs)
  case atStart => exact ⟨n, [], rfl, rfl, HI0, RowKit.Below.refl _ _⟩
  case round =>
    obtain ⟨v, t, rfl, rfl, HI, HB⟩ := hrel
    by_cases hv : v = 0
    · subst hv
      have hd : ((0 : Int) != 0) = false := rfl
      have ht : dgs n.natAbs = t := by have := HI.out.dig; simpa [dgs] using this
      by_cases hn : n < 0
      · have he : str [45] ++ str t = OUT := by rw [str_app, ← HOUT.out, HIT.out, if_pos hn, ht]; rfl
        have HE := hid he
        have hsz := str_size t
        have htl := HI.out.len
        clear he ht hnz
        go_wp2
        go_ret
        exact ⟨by rw [← HE.out]; rfl, HB.out⟩
      · have he : str t = OUT := by rw [← HOUT.out, HIT.out, if_neg hn, ht]
        have HE := hid he
        clear he ht hnz
        go_wp2
        go_ret
        exact ⟨by rw [← HE.out]; rfl, HB.out⟩
    · have hd : (v != 0) = true := by simpa using hv
      have HI2 := hid (numI_next HI.out hv)
      have hdl : v.natAbs % 10 < 10 := by omega
      have hcv := conv_dg (v.natAbs % 10) hdl wr
      have hq : v.natAbs / 10 < v.natAbs := by omega
      have hlo := HI.out.lo
      have hhi := HI.out.hi
      have htl := HI.out.len
      have hA : (str [UInt8.ofNat (48 + v.natAbs % 10)]).size = 1 := by rw [str_size]; rfl
      have hB := str_size t
      have HS := hid (fun d => show str [48 + UInt8.ofNat d] ++ str t = str (UInt8.ofNat (48 + d) :: t) by rw [str_app, UInt8.ofNat_add]; rfl)
      have hqq : (v.tdiv 10).natAbs = v.natAbs / 10 := by rw [Int.natAbs_tdiv]; rfl
      have hwq : IntKind.i64.wrap (v.tdiv 10) = v.tdiv 10 := by rw [IntKind.wrap_i64]; omega
      have HQ := hid (show (v.tdiv 10).natAbs < v.natAbs by rw [Int.natAbs_tdiv]; exact hq)
      clear hq hqq HI
      by_cases hs : v < 0
      · have hr := tm_neg hs
        rcases Nat.eq_zero_or_pos (v.natAbs % 10) with hd0 | hd0
        · rw [hd0] at hr HI2
          have hr0 : v.tmod 10 = 0 := hr
          have hw : IntKind.i64.wrap (v.tmod 10) = 0 := by rw [hr0]; rfl
          have hc8 := conv_48 wr
          have HS0 := hid (show str [48] ++ str t = str (UInt8.ofNat (48 + 0) :: t) by rw [str_app]; rfl)
          clear hcv hA hr
          have hA8 : (str [48]).size = 1 := rfl
          go_wp2
          all_goals first | exact ⟨⟨_, _, rfl, by rw [HS0.out], HI2.out, HB.out.alloc HB.out.size _⟩, HQ.out⟩ | (exfalso; omega)
        · have hw : IntKind.i64.wrap (v.tmod 10) = -((v.natAbs % 10 : Nat) : Int) := by rw [hr, IntKind.wrap_i64]; omega
          generalize v.natAbs % 10 = d at *
          have hA2 : (str [48 + UInt8.ofNat d]).size = 1 := by rw [str_size]; rfl
          go_wp2
          all_goals first | exact ⟨⟨_, _, rfl, by rw [HS.out], HI2.out, HB.out.alloc HB.out.size _⟩, HQ.out⟩ | (exfalso; omega)
      · have hr := tm_pos hs
        have hw : IntKind.i64.wrap (v.tmod 10) = ((v.natAbs % 10 : Nat) : Int) := by rw [hr, IntKind.wrap_i64]; omega
        generalize v.natAbs % 10 = d at *
        have hA2 : (str [48 + UInt8.ofNat d]).size = 1 := by rw [str_size]; rfl
        go_wp2
        all_goals first | exact ⟨⟨_, _, rfl, by rw [HS.out], HI2.out, HB.out.alloc HB.out.size _⟩, HQ.out⟩ | (exfalso; omega)
end Go.Proofs.YtgakobolhmdnnaaGreatDoor

namespace Go.Proofs.YtgakobolhmdnnaaGreatDoor
open Go.RowKit Go.Sort Go.Shelf
set_option linter.unusedVariables false
set_option linter.unusedSimpArgs false

/-- The table of the powers of ten lies as it was laid. -/
abbrev Pow (w : World) : Prop := Lib.TabIs Tryz.prog w "internal/strconv.uint64pow10" .u64 Lib.pow10Tab
theorem gPow : Tryz.prog.globalNamed "internal/strconv.uint64pow10" = some 1 := by kernel_rfl
theorem Pow.below {w w' : World} (h : Pow w) (hb : RowKit.Below w.heap.size w w') : Pow w' := by
  unfold Pow Lib.TabIs World.var? at *
  rw [gPow] at *
  simp only [Option.bind_some] at *
  cases hg : w.heap[1]? with
  | none => rw [hg] at h; cases h
  | some o => rw [keep0 hg hb]; rw [hg] at h; exact h
def wordL (kd : Int) : List UInt8 := if kd = 1 then [97, 99, 99, 101, 112, 116] else if kd = 2 then [108, 97, 117, 110, 99, 104] else if kd = 3 then [102, 105, 110, 105, 115, 104] else [101, 118, 101, 110, 116]
theorem wordL_len (kd : Int) : (wordL kd).length ≤ 6 := by unfold wordL; split <;> (try split) <;> (try split) <;> simp
set_option maxRecDepth 20000 in
set_option maxHeartbeats 1000000 in
theorem word_any (kd : Int) (w : World) : Calls Tryz.prog 32 #[.int .i64 kd] w fun e w' => e = .returned (.string (str (wordL kd))) ∧ w' = w := by
  unfold wordL
  by_cases h1 : kd = 1
  · subst h1
    go_enter Tryz.func32, Tryz.ntmps32
    go_wp2
    go_ret
    exact ⟨rfl, rfl⟩
  by_cases h2 : kd = 2
  · subst h2
    go_enter Tryz.func32, Tryz.ntmps32
    go_wp2
    go_ret
    exact ⟨rfl, rfl⟩
  by_cases h3 : kd = 3
  · subst h3
    go_enter Tryz.func32, Tryz.ntmps32
    go_wp2
    go_ret
    exact ⟨rfl, rfl⟩
  rw [if_neg h1, if_neg h2, if_neg h3]
  have e1 : (kd == 1) = false := by simpa using h1
  have e2 : (kd == 2) = false := by simpa using h2
  have e3 : (kd == 3) = false := by simpa using h3
  clear h1 h2 h3
  go_enter Tryz.func32, Tryz.ntmps32
  go_wp2
  go_ret
  exact ⟨rfl, rfl⟩
theorem itoa_len {n : Int} (h0 : -9223372036854775808 ≤ n) (h1 : n ≤ 9223372036854775807) : (Lib.itoa n).length ≤ 21 := by
  have h : ∀ u, u < 18446744073709551616 → (Lib.decDigits u).length ≤ 20 := fun u hu => by
    rw [Lib.decDigits_length]; exact nd_le 19 _ (Nat.lt_of_lt_of_le hu (by decide))
  unfold Lib.itoa
  split
  · have := h n.natAbs (by omega); simp; omega
  · have := h n.toNat (by omega); omega
set_option maxRecDepth 20000 in
set_option maxHeartbeats 1000000 in
theorem num_any (n : Int) (h0 : -9223372036854775808 ≤ n) (h1 : n ≤ 9223372036854775807) (w : World) (hT : Pow w) : Calls Tryz.prog 33 #[.int .i64 n] w fun e w' => e = .returned (.string (str (Lib.itoa n))) ∧ RowKit.Below w.heap.size w w' := by
  go_enter Tryz.func33, Tryz.ntmps33
  go_wp2_with fail
  refine (Tryz.strconv_Itoa n h0 h1 _ hT).mono ?_
  rintro e w' ⟨rfl, k, os, rfl⟩
  have hb : RowKit.Below w.heap.size w (grow (w.drewN k) os) := below_regrown w (w.drewN k).drawn os
  go_wp2
  go_ret
  exact ⟨rfl, hb⟩
theorem join4 (a b c d : List UInt8) (ha : a.length ≤ 100) (hb : b.length ≤ 100) (hc : c.length ≤ 100) (hd : d.length ≤ 100) (u : World) :
    Calls Tryz.prog 31 #[.slice (some ⟨u.heap.size, 0, none⟩) 4 4, .string ⟨#[32]⟩] (u.alloc (.cells #[.string (str a), .string (str b), .string (str c), .string (str d)] 9)) fun e w' => e = .returned (.string (str (a ++ 32 :: (b ++ 32 :: (c ++ 32 :: d))))) ∧ RowKit.Below (u.alloc (.cells #[.string (str a), .string (str b), .string (str c), .string (str d)] 9)).heap.size (u.alloc (.cells #[.string (str a), .string (str b), .string (str c), .string (str d)] 9)) w' := by
  have hcell : ∀ (j : Nat) x, [str a, str b, str c, str d][j]? = some x → (u.alloc (.cells #[.string (str a), .string (str b), .string (str c), .string (str d)] 9)).cell? ⟨u.heap.size, 0 + j, none⟩ = some (.string x) := by
    intro j x hx
    rw [cell_of_row _ u.heap.size (0 + j) _ _ (0, 0) (heap_alloc_new u _)]
    match j, hx with
    | 0, hx => simp at hx; subst hx; rfl
    | 1, hx => simp at hx; subst hx; rfl
    | 2, hx => simp at hx; subst hx; rfl
    | 3, hx => simp at hx; subst hx; rfl
    | (k + 4), hx => simp at hx
  have e : Lib.join ([str a, str b, str c, str d].map (·.data.toList)) (str [32]).data.toList = a ++ 32 :: (b ++ 32 :: (c ++ 32 :: d)) := by
    simp [str, Lib.join]
  have h := Tryz.strings_Join u.heap.size 0 4 [str a, str b, str c, str d] (str [32]) _ hcell (lt_of_block (heap_alloc_new u _)) (by simp) (by simp) (by rw [e]; simp; omega)
  rw [e] at h
  exact h
/-- The text of an event. -/
def txtL (kd j t w : Int) : List UInt8 := wordL kd ++ 32 :: (Lib.itoa j ++ 32 :: (Lib.itoa t ++ 32 :: Lib.itoa w))
def I64 (n : Int) : Prop := -9223372036854775808 ≤ n ∧ n ≤ 9223372036854775807

set_option maxRecDepth 20000 in
set_option maxHeartbeats 8000000 in
theorem text_any (kd j t w : Int) (W : World) (hT : Pow W) (hj : I64 j) (ht : I64 t) (hw : I64 w) : Calls Tryz.prog 15 #[.agg #[.int .i64 kd, .int .i64 j, .int .i64 t, .int .i64 w]] W fun e w' => e = .returned (.string (str (txtL kd j t w))) ∧ RowKit.Below W.heap.size W w' := by
  have HNJ := hid (fun u (hu : RowKit.Below W.heap.size W u) => num_any j hj.1 hj.2 u (hT.below hu))
  have HNT := hid (fun u (hu : RowKit.Below W.heap.size W u) => num_any t ht.1 ht.2 u (hT.below hu))
  have HNW := hid (fun u (hu : RowKit.Below W.heap.size W u) => num_any w hw.1 hw.2 u (hT.below hu))
  have HWD := hid (fun u => word_any kd u)
  have HJN := hid (fun u => join4 (wordL kd) (Lib.itoa j) (Lib.itoa t) (Lib.itoa w) (by have := wordL_len kd; omega) (by have := itoa_len hj.1 hj.2; omega) (by have := itoa_len ht.1 ht.2; omega) (by have := itoa_len hw.1 hw.2; omega) u)
  have e9 : wordL kd ++ 32 :: (Lib.itoa j ++ 32 :: (Lib.itoa t ++ 32 :: Lib.itoa w)) = txtL kd j t w := rfl
  rw [e9] at HJN
  clear hT hj ht hw e9
  generalize txtL kd j t w = TX at *
  generalize str (wordL kd) = sk at *
  generalize str (Lib.itoa j) = sj at *
  generalize str (Lib.itoa t) = st at *
  generalize str (Lib.itoa w) = sw at *
  generalize str TX = OUT at *
  go_enter Tryz.func15, Tryz.ntmps15
  go_upto_region 1 with (fail)
  refine at_world (fun u => u.heap[W.heap.size]? = some (.cells #[.int .i64 kd, .int .i64 j, .int .i64 t, .int .i64 w] 31 (0, 0)) ∧ RowKit.Below W.heap.size W u) ⟨heap_alloc_new _ _, bel_alloc (RowKit.Below.refl _ _) _⟩ ?_
  rintro w1 ⟨hx, hb⟩
  have hS : ∀ U, RowKit.Below w1.heap.size w1 U → ((U.cell? ⟨W.heap.size, 0, none⟩ = some (.int .i64 kd) ∧ U.cell? ⟨W.heap.size, 1, none⟩ = some (.int .i64 j) ∧ U.cell? ⟨W.heap.size, 2, none⟩ = some (.int .i64 t) ∧ U.cell? ⟨W.heap.size, 3, none⟩ = some (.int .i64 w)) ∧ RowKit.Below w1.heap.size w1 U) := fun U hU => ⟨four_cellsE (keep0 hx hU), hU⟩
  have HB := hid hb
  obtain ⟨p0, p1, p2, p3⟩ := four_cellsE hx
  clear hx hb
  have HNJ1 := hid (fun u (hu : RowKit.Below w1.heap.size w1 u) => HNJ.out u (HB.out.trans (hu.mono HB.out.size)))
  have HNT1 := hid (fun u (hu : RowKit.Below w1.heap.size w1 u) => HNT.out u (HB.out.trans (hu.mono HB.out.size)))
  have HNW1 := hid (fun u (hu : RowKit.Below w1.heap.size w1 u) => HNW.out u (HB.out.trans (hu.mono HB.out.size)))
  clear HNJ HNT HNW
  go_region_held3 (fun U => ((U.cell? ⟨W.heap.size, 0, none⟩ = some (.int .i64 kd) ∧ U.cell? ⟨W.heap.size, 1, none⟩ = some (.int .i64 j) ∧ U.cell? ⟨W.heap.size, 2, none⟩ = some (.int .i64 t) ∧ U.cell? ⟨W.heap.size, 3, none⟩ = some (.int .i64 w)) ∧ RowKit.Below w1.heap.size w1 U))
    (first
      | assumption
      | exact hS _ (below_drew (RowKit.Below.refl _ _))
      | exact hS _ (bel_trans (And.right (by assumption)) (by assumption))
      | exact hS _ (bel_alloc (And.right (by assumption)) _))
    (first
      | (go_at_call 32
         refine (HWD.out _).mono ?_
         rintro e u1 ⟨rfl, rfl⟩)
      | (go_at_call 33
         with_reducible refine (HNJ1.out _ (And.right (by assumption))).mono ?_
         rintro e u1 ⟨rfl, g1⟩)
      | (go_at_call 33
         with_reducible refine (HNT1.out _ (And.right (by assumption))).mono ?_
         rintro e u1 ⟨rfl, g2⟩)
      | (go_at_call 33
         with_reducible refine (HNW1.out _ (And.right (by assumption))).mono ?_
         rintro e u1 ⟨rfl, g3⟩)
      | (go_at_call 31
         refine (HJN.out _).mono ?_
         rintro e u1 ⟨rfl, g4⟩))
  all_goals
    have hW := And.right (show _ ∧ RowKit.Below w1.heap.size w1 _ by assumption)
    go_wp2
    go_ret
    exact ⟨rfl, HB.out.trans (hW.mono HB.out.size)⟩
end Go.Proofs.YtgakobolhmdnnaaGreatDoor

namespace Go.Proofs.YtgakobolhmdnnaaGreatDoor
open Go.RowKit Go.Sort Go.Shelf
set_option linter.unusedVariables false
set_option linter.unusedSimpArgs false

set_option maxRecDepth 20000 in
set_option maxHeartbeats 4000000 in
theorem rtext1 (j t w : Int) (W : World) (hj : I64 j) (ht : I64 t) (hw : I64 w) : Calls Tryz.prog 16 #[.agg #[.int .i64 1, .int .i64 j, .int .i64 t, .int .i64 w]] W fun e w' => e = .returned (.string (str (txtL 1 j t w))) ∧ RowKit.Below W.heap.size W w' := by
  have HNJ := hid (fun u => rnum14_any j hj.1 hj.2 u)
  have HNT := hid (fun u => rnum14_any t ht.1 ht.2 u)
  have HNW := hid (fun u => rnum14_any w hw.1 hw.2 u)
  have s1 : (str (Lib.itoa j)).size ≤ 21 := by rw [str_size]; exact itoa_len hj.1 hj.2
  have s2 : (str (Lib.itoa t)).size ≤ 21 := by rw [str_size]; exact itoa_len ht.1 ht.2
  have s3 : (str (Lib.itoa w)).size ≤ 21 := by rw [str_size]; exact itoa_len hw.1 hw.2
  have hw0 : wordL 1 = [97, 99, 99, 101, 112, 116] := rfl
  have hout : (((((⟨#[97, 99, 99, 101, 112, 116]⟩ ++ ⟨#[32]⟩) ++ str (Lib.itoa j)) ++ ⟨#[32]⟩) ++ str (Lib.itoa t)) ++ ⟨#[32]⟩) ++ str (Lib.itoa w) = str (txtL 1 j t w) := by
    show (((((str [97, 99, 99, 101, 112, 116] ++ str [32]) ++ str (Lib.itoa j)) ++ str [32]) ++ str (Lib.itoa t)) ++ str [32]) ++ str (Lib.itoa w) = _
    unfold txtL
    rw [hw0]
    simp only [str_app, List.append_assoc, List.cons_append, List.nil_append]
  clear hw0 hj ht hw
  have HOUT := hid hout
  clear hout
  generalize str (txtL 1 j t w) = OUT at *
  generalize str (Lib.itoa j) = sj at *
  generalize str (Lib.itoa t) = st at *
  generalize str (Lib.itoa w) = sw at *
  go_enter Tryz.func16, Tryz.ntmps16
  go_upto_region 1 with (fail)
  refine at_world (fun u => u.heap[W.heap.size]? = some (.cells #[.int .i64 1, .int .i64 j, .int .i64 t, .int .i64 w] 31 (0, 0)) ∧ RowKit.Below W.heap.size W u) ⟨heap_alloc_new _ _, bel_alloc (RowKit.Below.refl _ _) _⟩ ?_
  rintro w1 ⟨hx, hb⟩
  have HB := hid hb
  obtain ⟨p0, p1, p2, p3⟩ := four_cellsE hx
  clear hx hb
  have cj := reg (w := w1) (fun W' hW' => HNJ.out W')
  have ct := reg (w := w1) (fun W' hW' => HNT.out W')
  have cw := reg (w := w1) (fun W' hW' => HNW.out W')
  go_upto_region 8 with (fail)
  replace p0 := cell_regrown p0
  replace p1 := cell_regrown p1
  replace p2 := cell_regrown p2
  replace p3 := cell_regrown p3
  refine wp_region_quiet_below (by kernel_rfl) (by kernel_rfl) ?_
  repeat (go_big_quiet_step (first | (go_at_call 34; with_reducible exact cj _ _) | (go_at_call 34; with_reducible exact ct _ _) | (go_at_call 34; with_reducible exact cw _ _)))
  refine wpQuiet_nil ?_
  intro _ hw'
  obtain ⟨⟨dq, osq⟩, hw''⟩ := hw'
  subst hw''
  have hbR := below_regrown w1 dq osq
  refine at_world (fun u => RowKit.Below w1.heap.size w1 u) hbR ?_
  clear hbR p0 p1 p2 p3 cj ct cw
  rintro w2 hbR
  have HB2 := hid (HB.out.trans (hbR.mono HB.out.size))
  clear hbR
  go_wp2
  go_ret
  exact ⟨by rw [← HOUT.out]; rfl, HB2.out⟩
set_option maxRecDepth 20000 in
set_option maxHeartbeats 4000000 in
theorem rtext2 (j t w : Int) (W : World) (hj : I64 j) (ht : I64 t) (hw : I64 w) : Calls Tryz.prog 16 #[.agg #[.int .i64 2, .int .i64 j, .int .i64 t, .int .i64 w]] W fun e w' => e = .returned (.string (str (txtL 2 j t w))) ∧ RowKit.Below W.heap.size W w' := by
  have HNJ := hid (fun u => rnum14_any j hj.1 hj.2 u)
  have HNT := hid (fun u => rnum14_any t ht.1 ht.2 u)
  have HNW := hid (fun u => rnum14_any w hw.1 hw.2 u)
  have s1 : (str (Lib.itoa j)).size ≤ 21 := by rw [str_size]; exact itoa_len hj.1 hj.2
  have s2 : (str (Lib.itoa t)).size ≤ 21 := by rw [str_size]; exact itoa_len ht.1 ht.2
  have s3 : (str (Lib.itoa w)).size ≤ 21 := by rw [str_size]; exact itoa_len hw.1 hw.2
  have hw0 : wordL 2 = [108, 97, 117, 110, 99, 104] := rfl
  have hout : (((((⟨#[108, 97, 117, 110, 99, 104]⟩ ++ ⟨#[32]⟩) ++ str (Lib.itoa j)) ++ ⟨#[32]⟩) ++ str (Lib.itoa t)) ++ ⟨#[32]⟩) ++ str (Lib.itoa w) = str (txtL 2 j t w) := by
    show (((((str [108, 97, 117, 110, 99, 104] ++ str [32]) ++ str (Lib.itoa j)) ++ str [32]) ++ str (Lib.itoa t)) ++ str [32]) ++ str (Lib.itoa w) = _
    unfold txtL
    rw [hw0]
    simp only [str_app, List.append_assoc, List.cons_append, List.nil_append]
  clear hw0 hj ht hw
  have HOUT := hid hout
  clear hout
  generalize str (txtL 2 j t w) = OUT at *
  generalize str (Lib.itoa j) = sj at *
  generalize str (Lib.itoa t) = st at *
  generalize str (Lib.itoa w) = sw at *
  go_enter Tryz.func16, Tryz.ntmps16
  go_upto_region 1 with (fail)
  refine at_world (fun u => u.heap[W.heap.size]? = some (.cells #[.int .i64 2, .int .i64 j, .int .i64 t, .int .i64 w] 31 (0, 0)) ∧ RowKit.Below W.heap.size W u) ⟨heap_alloc_new _ _, bel_alloc (RowKit.Below.refl _ _) _⟩ ?_
  rintro w1 ⟨hx, hb⟩
  have HB := hid hb
  obtain ⟨p0, p1, p2, p3⟩ := four_cellsE hx
  clear hx hb
  have cj := reg (w := w1) (fun W' hW' => HNJ.out W')
  have ct := reg (w := w1) (fun W' hW' => HNT.out W')
  have cw := reg (w := w1) (fun W' hW' => HNW.out W')
  go_upto_region 8 with (fail)
  replace p0 := cell_regrown p0
  replace p1 := cell_regrown p1
  replace p2 := cell_regrown p2
  replace p3 := cell_regrown p3
  refine wp_region_quiet_below (by kernel_rfl) (by kernel_rfl) ?_
  repeat (go_big_quiet_step (first | (go_at_call 34; with_reducible exact cj _ _) | (go_at_call 34; with_reducible exact ct _ _) | (go_at_call 34; with_reducible exact cw _ _)))
  refine wpQuiet_nil ?_
  intro _ hw'
  obtain ⟨⟨dq, osq⟩, hw''⟩ := hw'
  subst hw''
  have hbR := below_regrown w1 dq osq
  refine at_world (fun u => RowKit.Below w1.heap.size w1 u) hbR ?_
  clear hbR p0 p1 p2 p3 cj ct cw
  rintro w2 hbR
  have HB2 := hid (HB.out.trans (hbR.mono HB.out.size))
  clear hbR
  go_wp2
  go_ret
  exact ⟨by rw [← HOUT.out]; rfl, HB2.out⟩
set_option maxRecDepth 20000 in
set_option maxHeartbeats 4000000 in
theorem rtext3 (j t w : Int) (W : World) (hj : I64 j) (ht : I64 t) (hw : I64 w) : Calls Tryz.prog 16 #[.agg #[.int .i64 3, .int .i64 j, .int .i64 t, .int .i64 w]] W fun e w' => e = .returned (.string (str (txtL 3 j t w))) ∧ RowKit.Below W.heap.size W w' := by
  have HNJ := hid (fun u => rnum14_any j hj.1 hj.2 u)
  have HNT := hid (fun u => rnum14_any t ht.1 ht.2 u)
  have HNW := hid (fun u => rnum14_any w hw.1 hw.2 u)
  have s1 : (str (Lib.itoa j)).size ≤ 21 := by rw [str_size]; exact itoa_len hj.1 hj.2
  have s2 : (str (Lib.itoa t)).size ≤ 21 := by rw [str_size]; exact itoa_len ht.1 ht.2
  have s3 : (str (Lib.itoa w)).size ≤ 21 := by rw [str_size]; exact itoa_len hw.1 hw.2
  have hw0 : wordL 3 = [102, 105, 110, 105, 115, 104] := rfl
  have hout : (((((⟨#[102, 105, 110, 105, 115, 104]⟩ ++ ⟨#[32]⟩) ++ str (Lib.itoa j)) ++ ⟨#[32]⟩) ++ str (Lib.itoa t)) ++ ⟨#[32]⟩) ++ str (Lib.itoa w) = str (txtL 3 j t w) := by
    show (((((str [102, 105, 110, 105, 115, 104] ++ str [32]) ++ str (Lib.itoa j)) ++ str [32]) ++ str (Lib.itoa t)) ++ str [32]) ++ str (Lib.itoa w) = _
    unfold txtL
    rw [hw0]
    simp only [str_app, List.append_assoc, List.cons_append, List.nil_append]
  clear hw0 hj ht hw
  have HOUT := hid hout
  clear hout
  generalize str (txtL 3 j t w) = OUT at *
  generalize str (Lib.itoa j) = sj at *
  generalize str (Lib.itoa t) = st at *
  generalize str (Lib.itoa w) = sw at *
  go_enter Tryz.func16, Tryz.ntmps16
  go_upto_region 1 with (fail)
  refine at_world (fun u => u.heap[W.heap.size]? = some (.cells #[.int .i64 3, .int .i64 j, .int .i64 t, .int .i64 w] 31 (0, 0)) ∧ RowKit.Below W.heap.size W u) ⟨heap_alloc_new _ _, bel_alloc (RowKit.Below.refl _ _) _⟩ ?_
  rintro w1 ⟨hx, hb⟩
  have HB := hid hb
  obtain ⟨p0, p1, p2, p3⟩ := four_cellsE hx
  clear hx hb
  have cj := reg (w := w1) (fun W' hW' => HNJ.out W')
  have ct := reg (w := w1) (fun W' hW' => HNT.out W')
  have cw := reg (w := w1) (fun W' hW' => HNW.out W')
  go_upto_region 8 with (fail)
  replace p0 := cell_regrown p0
  replace p1 := cell_regrown p1
  replace p2 := cell_regrown p2
  replace p3 := cell_regrown p3
  refine wp_region_quiet_below (by kernel_rfl) (by kernel_rfl) ?_
  repeat (go_big_quiet_step (first | (go_at_call 34; with_reducible exact cj _ _) | (go_at_call 34; with_reducible exact ct _ _) | (go_at_call 34; with_reducible exact cw _ _)))
  refine wpQuiet_nil ?_
  intro _ hw'
  obtain ⟨⟨dq, osq⟩, hw''⟩ := hw'
  subst hw''
  have hbR := below_regrown w1 dq osq
  refine at_world (fun u => RowKit.Below w1.heap.size w1 u) hbR ?_
  clear hbR p0 p1 p2 p3 cj ct cw
  rintro w2 hbR
  have HB2 := hid (HB.out.trans (hbR.mono HB.out.size))
  clear hbR
  go_wp2
  go_ret
  exact ⟨by rw [← HOUT.out]; rfl, HB2.out⟩
set_option maxRecDepth 20000 in
set_option maxHeartbeats 4000000 in
theorem rtext0 (kd j t w : Int) (W : World) (h1 : kd ≠ 1) (h2 : kd ≠ 2) (h3 : kd ≠ 3) (hj : I64 j) (ht : I64 t) (hw : I64 w) : Calls Tryz.prog 16 #[.agg #[.int .i64 kd, .int .i64 j, .int .i64 t, .int .i64 w]] W fun e w' => e = .returned (.string (str (txtL kd j t w))) ∧ RowKit.Below W.heap.size W w' := by
  have HNJ := hid (fun u => rnum14_any j hj.1 hj.2 u)
  have HNT := hid (fun u => rnum14_any t ht.1 ht.2 u)
  have HNW := hid (fun u => rnum14_any w hw.1 hw.2 u)
  have s1 : (str (Lib.itoa j)).size ≤ 21 := by rw [str_size]; exact itoa_len hj.1 hj.2
  have s2 : (str (Lib.itoa t)).size ≤ 21 := by rw [str_size]; exact itoa_len ht.1 ht.2
  have s3 : (str (Lib.itoa w)).size ≤ 21 := by rw [str_size]; exact itoa_len hw.1 hw.2
  have e1 : (kd == 1) = false := by simpa using h1
  have e2 : (kd == 2) = false := by simpa using h2
  have e3 : (kd == 3) = false := by simpa using h3
  have hw0 : wordL kd = [101, 118, 101, 110, 116] := by unfold wordL; rw [if_neg h1, if_neg h2, if_neg h3]
  clear h1 h2 h3
  have hout : (((((⟨#[101, 118, 101, 110, 116]⟩ ++ ⟨#[32]⟩) ++ str (Lib.itoa j)) ++ ⟨#[32]⟩) ++ str (Lib.itoa t)) ++ ⟨#[32]⟩) ++ str (Lib.itoa w) = str (txtL kd j t w) := by
    show (((((str [101, 118, 101, 110, 116] ++ str [32]) ++ str (Lib.itoa j)) ++ str [32]) ++ str (Lib.itoa t)) ++ str [32]) ++ str (Lib.itoa w) = _
    unfold txtL
    rw [hw0]
    simp only [str_app, List.append_assoc, List.cons_append, List.nil_append]
  clear hw0 hj ht hw
  have HOUT := hid hout
  clear hout
  generalize str (txtL kd j t w) = OUT at *
  generalize str (Lib.itoa j) = sj at *
  generalize str (Lib.itoa t) = st at *
  generalize str (Lib.itoa w) = sw at *
  go_enter Tryz.func16, Tryz.ntmps16
  go_upto_region 1 with (fail)
  refine at_world (fun u => u.heap[W.heap.size]? = some (.cells #[.int .i64 kd, .int .i64 j, .int .i64 t, .int .i64 w] 31 (0, 0)) ∧ RowKit.Below W.heap.size W u) ⟨heap_alloc_new _ _, bel_alloc (RowKit.Below.refl _ _) _⟩ ?_
  rintro w1 ⟨hx, hb⟩
  have HB := hid hb
  obtain ⟨p0, p1, p2, p3⟩ := four_cellsE hx
  clear hx hb
  have cj := reg (w := w1) (fun W' hW' => HNJ.out W')
  have ct := reg (w := w1) (fun W' hW' => HNT.out W')
  have cw := reg (w := w1) (fun W' hW' => HNW.out W')
  go_upto_region 8 with (fail)
  replace p0 := cell_regrown p0
  replace p1 := cell_regrown p1
  replace p2 := cell_regrown p2
  replace p3 := cell_regrown p3
  refine wp_region_quiet_below (by kernel_rfl) (by kernel_rfl) ?_
  repeat (go_big_quiet_step (first | (go_at_call 34; with_reducible exact cj _ _) | (go_at_call 34; with_reducible exact ct _ _) | (go_at_call 34; with_reducible exact cw _ _)))
  refine wpQuiet_nil ?_
  intro _ hw'
  obtain ⟨⟨dq, osq⟩, hw''⟩ := hw'
  subst hw''
  have hbR := below_regrown w1 dq osq
  refine at_world (fun u => RowKit.Below w1.heap.size w1 u) hbR ?_
  clear hbR p0 p1 p2 p3 cj ct cw
  rintro w2 hbR
  have HB2 := hid (HB.out.trans (hbR.mono HB.out.size))
  clear hbR
  go_wp2
  go_ret
  exact ⟨by rw [← HOUT.out]; rfl, HB2.out⟩
theorem rtext_any (kd j t w : Int) (W : World) (hj : I64 j) (ht : I64 t) (hw : I64 w) : Calls Tryz.prog 16 #[.agg #[.int .i64 kd, .int .i64 j, .int .i64 t, .int .i64 w]] W fun e w' => e = .returned (.string (str (txtL kd j t w))) ∧ RowKit.Below W.heap.size W w' := by
  by_cases h1 : kd = 1
  · subst h1; exact rtext1 j t w W hj ht hw
  by_cases h2 : kd = 2
  · subst h2; exact rtext2 j t w W hj ht hw
  by_cases h3 : kd = 3
  · subst h3; exact rtext3 j t w W hj ht hw
  exact rtext0 kd j t w W h1 h2 h3 hj ht hw
end Go.Proofs.YtgakobolhmdnnaaGreatDoor
