/- event.word, conf.Number of small numbers, event.Text of the example. -/
import Derived.Test.YthohedadmfbahaaDoorEvP
import Derived.Test.YthohedadmfbahaaDoorShelfM
import Derived.StillTailTactics
namespace Go.Proofs.YthohedadmfbahaaDoor
open Go.RowKit Go.Sort Go.Shelf
set_option linter.unusedVariables false
set_option linter.unusedSimpArgs false

set_option maxRecDepth 20000 in
set_option maxHeartbeats 1000000 in
theorem word2 (w : World) : Calls Tryd.prog 16 #[.int .i64 2] w fun e w' => e = .returned (.string (str [108, 97, 117, 110, 99, 104])) ∧ w' = w := by
  go_enter Tryd.func16, Tryd.ntmps16
  go_wp2
  go_ret
  exact ⟨rfl, rfl⟩
set_option maxRecDepth 20000 in
set_option maxHeartbeats 1000000 in
theorem num_small (i : Nat) (hi : i < 100) (w : World) : Calls Tryd.prog 17 #[.int .i64 i] w fun e w' => e = .returned (.string ⟨(Lib.decDigits i).toArray⟩) ∧ w' = w := by
  go_enter Tryd.func17, Tryd.ntmps17
  go_wp2_with fail
  refine (Tryd.strconv_Itoa_small i hi _).mono ?_
  rintro e w' ⟨rfl, rfl⟩
  go_wp2
  go_ret
  exact ⟨rfl, rfl⟩
theorem num5 (w : World) : Calls Tryd.prog 17 #[.int .i64 5] w fun e w' => e = .returned (.string (str [53])) ∧ w' = w := by
  have h := num_small 5 (by decide) w
  rw [show Lib.decDigits 5 = [53] by rw [Lib.decDigits]; rfl] at h
  exact h
theorem num1 (w : World) : Calls Tryd.prog 17 #[.int .i64 1] w fun e w' => e = .returned (.string (str [49])) ∧ w' = w := by
  have h := num_small 1 (by decide) w
  rw [show Lib.decDigits 1 = [49] by rw [Lib.decDigits]; rfl] at h
  exact h
theorem num0 (w : World) : Calls Tryd.prog 17 #[.int .i64 0] w fun e w' => e = .returned (.string (str [48])) ∧ w' = w := by
  have h := num_small 0 (by decide) w
  rw [show Lib.decDigits 0 = [48] by rw [Lib.decDigits]; rfl] at h
  exact h

set_option maxRecDepth 20000 in
set_option maxHeartbeats 4000000 in
theorem text9 (W : World) : Calls Tryd.prog 11 #[.agg #[.int .i64 2, .int .i64 5, .int .i64 1, .int .i64 0]] W fun e w' => e = .returned (.string (str [108, 97, 117, 110, 99, 104, 32, 53, 32, 49, 32, 48])) ∧ RowKit.Below W.heap.size W w' := by
  go_enter Tryd.func11, Tryd.ntmps11
  go_upto_region 1 with (fail)
  refine at_world (fun u => u.heap[W.heap.size]? = some (.cells #[.int .i64 2, .int .i64 5, .int .i64 1, .int .i64 0] 37 (0, 0)) ∧ RowKit.Below W.heap.size W u) ⟨heap_alloc_new _ _, bel_alloc (RowKit.Below.refl _ _) _⟩ ?_
  rintro w1 ⟨hx, hb⟩
  have HB := hid hb
  obtain ⟨p0, p1, p2, p3⟩ := four_cellsE hx
  clear hx hb
  go_still_tail 12, (by kernel_rfl)
  still_call (word2 _)
  repeat still_step
  still_call (num5 _)
  repeat still_step
  still_call (num1 _)
  repeat still_step
  still_call (num0 _)
  refine wpStill_nil ?_
  have HD := hid (below_drew HB.out)
  clear p0 p1 p2 p3
  change wpList _ _ _ _ _ w1.drew
  generalize w1.drew = w2 at *
  go_wp2_with fail
  have hcell : ∀ (j : Nat) x, [(str [108, 97, 117, 110, 99, 104]), str [53], str [49], str [48]][j]? = some x → (w2.alloc (.cells #[.string (str [108, 97, 117, 110, 99, 104]), .string (str [53]), .string (str [49]), .string (str [48])] 9)).cell? ⟨w2.heap.size, 0 + j, none⟩ = some (.string x) := by
    intro j x hx
    rw [cell_of_row _ w2.heap.size (0 + j) _ _ (0, 0) (heap_alloc_new w2 _)]
    match j, hx with
    | 0, hx => simp at hx; subst hx; rfl
    | 1, hx => simp at hx; subst hx; rfl
    | 2, hx => simp at hx; subst hx; rfl
    | 3, hx => simp at hx; subst hx; rfl
    | (k + 4), hx => simp at hx
  refine (Tryd.strings_Join w2.heap.size 0 4 [(str [108, 97, 117, 110, 99, 104]), str [53], str [49], str [48]] (str [32]) _ hcell (lt_of_block (heap_alloc_new w2 _)) (by simp) (by simp) (by decide)).mono ?_
  rintro e w3 ⟨rfl, hb⟩
  have HB3 := hid (HD.out.trans ((bel_alloc (RowKit.Below.refl _ _) _ : RowKit.Below w2.heap.size w2 _).trans (hb.mono (by rw [World.size_alloc]; omega)) |>.mono HD.out.size))
  clear hb hcell
  go_wp2
  go_ret
  exact ⟨rfl, HB3.out⟩
end Go.Proofs.YthohedadmfbahaaDoor

namespace Go.Proofs.YthohedadmfbahaaDoor
open Go.RowKit Go.Sort Go.Shelf
set_option linter.unusedVariables false
set_option linter.unusedSimpArgs false

theorem ex39a (A : Option Addr) : (runL (⟨0, 0, 0, 0, 0, [], [(1, 0, 0)]⟩ : Cf) [⟨5, [[42], [42]], A, 2⟩] [] [(⟨1, 5, 0, 0⟩ : Ev), ⟨2, 5, 0, 0⟩, ⟨2, 5, 1, 0⟩]).2 = 2 := by kernel_rfl
theorem ex39b (A : Option Addr) : (runL (⟨0, 0, 0, 0, 0, [], [(1, 0, 0)]⟩ : Cf) [⟨5, [[42], [42]], A, 2⟩] [] [(⟨1, 5, 0, 0⟩ : Ev), ⟨2, 5, 0, 0⟩, ⟨3, 5, 0, 0⟩, ⟨2, 5, 1, 0⟩]).2 = 4 := by kernel_rfl
theorem lay39a (W : World) : CfAt ((W.alloc (.cells #[.int .i64 1, .int .i64 0, .int .u64 0] 40)).alloc (.cells (#[.int .i64 0, .int .i64 0, .int .i64 0, .int .i64 0, .int .i64 0, .slice none 0 0, .slice (some ⟨W.heap.size, 0, none⟩) 1 1]) 25)) (⟨0, 0, 0, 0, 0, [], [(1, 0, 0)]⟩ : Cf) none 0 (some ⟨W.heap.size, 0, none⟩) 1 ∧ ((W.alloc (.cells #[.int .i64 1, .int .i64 0, .int .u64 0] 40)).alloc (.cells (#[.int .i64 0, .int .i64 0, .int .i64 0, .int .i64 0, .int .i64 0, .slice none 0 0, .slice (some ⟨W.heap.size, 0, none⟩) 1 1]) 25)).heap[W.heap.size + 1]? = some (.cells (#[.int .i64 0, .int .i64 0, .int .i64 0, .int .i64 0, .int .i64 0, .slice none 0 0, .slice (some ⟨W.heap.size, 0, none⟩) 1 1]) 25 (0, 0)) ∧ RowKit.Below W.heap.size W ((W.alloc (.cells #[.int .i64 1, .int .i64 0, .int .u64 0] 40)).alloc (.cells (#[.int .i64 0, .int .i64 0, .int .i64 0, .int .i64 0, .int .i64 0, .slice none 0 0, .slice (some ⟨W.heap.size, 0, none⟩) 1 1]) 25)) := by
  refine ⟨⟨⟨Sl.nil _ _ _ _ (Nat.zero_le _), by simp⟩, ?_, ?_⟩, ?_, bel_alloc (bel_alloc (RowKit.Below.refl _ _) _) _⟩
  · exact ((Sl.lit W 40 3 1 #[.int .i64 1, .int .i64 0, .int .u64 0] rfl (by unfold maxLen; omega)).below (bel_alloc (RowKit.Below.refl _ _) _) : Sl _ 3 _ 1 1 (gcells wkc [(1, 0, 0)]))
  · intro y h; simp at h; subst h; simp
  · have h9 := heap_alloc_new (W.alloc (.cells #[.int .i64 1, .int .i64 0, .int .u64 0] 40)) (.cells (#[.int .i64 0, .int .i64 0, .int .i64 0, .int .i64 0, .int .i64 0, .slice none 0 0, .slice (some ⟨W.heap.size, 0, none⟩) 1 1]) 25)
    rw [World.size_alloc] at h9
    exact h9
theorem lay39b (W : World) : InJs ((W.alloc (.cells #[.string ⟨#[42]⟩, .string ⟨#[42]⟩] 9)).alloc (.cells #[.int .i64 5, .slice (some ⟨W.heap.size, 0, none⟩) 2 2] 45)) (some ⟨W.heap.size + 1, 0, none⟩) 1 [⟨5, [[42], [42]], some ⟨W.heap.size, 0, none⟩, 2⟩] ∧ RowKit.Below W.heap.size W ((W.alloc (.cells #[.string ⟨#[42]⟩, .string ⟨#[42]⟩] 9)).alloc (.cells #[.int .i64 5, .slice (some ⟨W.heap.size, 0, none⟩) 2 2] 45)) := by
  refine ⟨⟨?_, fun y hy => ?_⟩, bel_alloc (bel_alloc (RowKit.Below.refl _ _) _) _⟩
  · have h9 := Sl.lit (W.alloc (.cells #[.string ⟨#[42]⟩, .string ⟨#[42]⟩] 9)) 45 2 1 #[.int .i64 5, .slice (some ⟨W.heap.size, 0, none⟩) 2 2] rfl (by unfold maxLen; omega)
    rw [World.size_alloc] at h9
    exact h9
  · obtain rfl := List.mem_singleton.1 hy
    refine ⟨?_, ?_⟩
    · exact ((Sl.lit W 9 1 2 #[.string ⟨#[42]⟩, .string ⟨#[42]⟩] rfl (by unfold maxLen; omega)).below (bel_alloc (RowKit.Below.refl _ _) _) : Sl _ 1 _ 2 2 (scells [[42], [42]]))
    · intro s h; simp at h; subst h; unfold maxLen; simp
theorem cells12 {w : World} {b t : Nat} {x0 x1 x2 x3 x4 x5 x6 x7 x8 x9 x10 x11 : Value} (h : w.heap[b]? = some (.cells #[x0, x1, x2, x3, x4, x5, x6, x7, x8, x9, x10, x11] t (0, 0))) :
    (w.cell? ⟨b, 0, none⟩ = some x0 ∧ w.cell? ⟨b, 1, none⟩ = some x1 ∧ w.cell? ⟨b, 2, none⟩ = some x2 ∧ w.cell? ⟨b, 3, none⟩ = some x3) ∧ (w.cell? ⟨b, 4, none⟩ = some x4 ∧ w.cell? ⟨b, 5, none⟩ = some x5 ∧ w.cell? ⟨b, 6, none⟩ = some x6 ∧ w.cell? ⟨b, 7, none⟩ = some x7) ∧ w.cell? ⟨b, 8, none⟩ = some x8 ∧ w.cell? ⟨b, 9, none⟩ = some x9 ∧ w.cell? ⟨b, 10, none⟩ = some x10 ∧ w.cell? ⟨b, 11, none⟩ = some x11 := by
  refine ⟨⟨?_, ?_, ?_, ?_⟩, ⟨?_, ?_, ?_, ?_⟩, ?_, ?_, ?_, ?_⟩ <;> (rw [cell_of_row w b _ _ _ _ h]; rfl)

set_option maxRecDepth 20000 in
set_option maxHeartbeats 4000000 in
theorem works39_any (W : World) : Calls Tryd.prog 6 #[] W fun e w' => e = .returned (.bool true) ∧ RowKit.Below W.heap.size W w' := by
  have hsm : ∀ A, SmJ [(⟨5, [[42], [42]], A, 2⟩ : Jo)] := fun A y hy => by obtain rfl := List.mem_singleton.1 hy; refine ⟨by simp, ?_⟩; intro s h; simp at h; subst h; simp
  have HA := hid (fun u K J A L (hC : CfAt u (⟨0, 0, 0, 0, 0, [], [(1, 0, 0)]⟩ : Cf) none 0 K 1) (hJ : InJs u J 1 [⟨5, [[42], [42]], A, 2⟩]) (hL : Sl u 4 L 3 3 (gcells evl [(⟨1, 5, 0, 0⟩ : Ev), ⟨2, 5, 0, 0⟩, ⟨2, 5, 1, 0⟩])) => run_any (⟨0, 0, 0, 0, 0, [], [(1, 0, 0)]⟩ : Cf) none 0 K 1 J 1 _ L 3 [(⟨1, 5, 0, 0⟩ : Ev), ⟨2, 5, 0, 0⟩, ⟨2, 5, 1, 0⟩] u hC hJ hL (by simp) (hsm A) (by simp))
  have HA2 := hid (fun u K J A L (hC : CfAt u (⟨0, 0, 0, 0, 0, [], [(1, 0, 0)]⟩ : Cf) none 0 K 1) (hJ : InJs u J 1 [⟨5, [[42], [42]], A, 2⟩]) (hL : Sl u 4 L 4 4 (gcells evl [(⟨1, 5, 0, 0⟩ : Ev), ⟨2, 5, 0, 0⟩, ⟨3, 5, 0, 0⟩, ⟨2, 5, 1, 0⟩])) => run_any (⟨0, 0, 0, 0, 0, [], [(1, 0, 0)]⟩ : Cf) none 0 K 1 J 1 _ L 4 [(⟨1, 5, 0, 0⟩ : Ev), ⟨2, 5, 0, 0⟩, ⟨3, 5, 0, 0⟩, ⟨2, 5, 1, 0⟩] u hC hJ hL (by simp) (hsm A) (by simp))
  simp only [ex39a, ex39b, cfc, List.length_cons, List.length_nil, Nat.zero_add, Nat.reduceAdd] at HA HA2
  clear hsm
  go_enter Tryd.func6, Tryd.ntmps6
  go_upto_region 2 with (fail)
  refine at_world (fun u => CfAt u (⟨0, 0, 0, 0, 0, [], [(1, 0, 0)]⟩ : Cf) none 0 (some ⟨W.heap.size, 0, none⟩) 1 ∧ u.heap[W.heap.size + 1]? = some (.cells (#[.int .i64 0, .int .i64 0, .int .i64 0, .int .i64 0, .int .i64 0, .slice none 0 0, .slice (some ⟨W.heap.size, 0, none⟩) 1 1]) 25 (0, 0)) ∧ RowKit.Below W.heap.size W u) (lay39a W) ?_
  generalize (some (⟨W.heap.size, 0, none⟩ : Addr)) = K at *
  generalize W.heap.size + 1 = Q at *
  rintro w1 ⟨hC, hq, hb⟩
  have HB := hid hb
  have HC := hid hC
  have HQ := hid hq
  clear hC hq hb
  go_upto_region 3 with (fail)
  refine at_world (fun u => InJs u (some ⟨w1.heap.size + 1, 0, none⟩) 1 [⟨5, [[42], [42]], some ⟨w1.heap.size, 0, none⟩, 2⟩] ∧ RowKit.Below w1.heap.size w1 u) (lay39b w1) ?_
  generalize (some (⟨w1.heap.size, 0, none⟩ : Addr)) = A at *
  generalize (some (⟨w1.heap.size + 1, 0, none⟩ : Addr)) = J at *
  rintro w2 ⟨hj, hb⟩
  have HB2 := hid (HB.out.trans (hb.mono HB.out.size))
  have HC2 := hid (HC.out.below hb)
  have HQ2 := hid (keep0 HQ.out hb)
  have HJ2 := hid hj
  clear hj hb HB HC HQ
  go_upto_region 4 with (fail)
  refine at_world (fun u => Sl u 4 (some ⟨w2.heap.size, 0, none⟩) 3 3 (gcells evl [(⟨1, 5, 0, 0⟩ : Ev), ⟨2, 5, 0, 0⟩, ⟨2, 5, 1, 0⟩]) ∧ u.heap[w2.heap.size]? = some (.cells #[.int .i64 1, .int .i64 5, .int .i64 0, .int .i64 0, .int .i64 2, .int .i64 5, .int .i64 0, .int .i64 0, .int .i64 2, .int .i64 5, .int .i64 1, .int .i64 0] 37 (0, 0)) ∧ RowKit.Below w2.heap.size w2 u) ⟨Sl.lit w2 37 4 3 #[.int .i64 1, .int .i64 5, .int .i64 0, .int .i64 0, .int .i64 2, .int .i64 5, .int .i64 0, .int .i64 0, .int .i64 2, .int .i64 5, .int .i64 1, .int .i64 0] rfl (by unfold maxLen; omega), heap_alloc_new _ _, bel_alloc (RowKit.Below.refl _ _) _⟩ ?_
  rintro w3 ⟨hl, hx, hb⟩
  have HB3 := hid (HB2.out.trans (hb.mono HB2.out.size))
  have HC3 := hid (HC2.out.below hb)
  have HQ3 := hid (keep0 HQ2.out hb)
  have HJ3 := hid (HJ2.out.below hb)
  have HL3 := hid hl
  have HX3 := hid hx
  clear hl hx hb HB2 HC2 HQ2 HJ2
  generalize w2.heap.size = L0 at HL3 HX3 ⊢
  obtain ⟨q0, q1, q2, q3, q4, q5, q6⟩ := seven_cellsJ HQ3.out
  go_wp2_with fail
  refine (HA.out w3 K J A (some ⟨L0, 0, none⟩) HC3.out HJ3.out HL3.out).mono ?_
  rintro e w4 ⟨A4, c4, ys, rfl, _, _, hb⟩
  have HB4 := hid (HB3.out.trans (hb.mono HB3.out.size))
  have HC4 := hid (HC3.out.below hb)
  have HQ4 := hid (keep0 HQ3.out hb)
  have HJ4 := hid (HJ3.out.below hb)
  have HX4 := hid (keep0 HX3.out hb)
  clear hb HB3 HC3 HQ3 HJ3 HL3 HX3 q0 q1 q2 q3 q4 q5 q6 HA
  go_upto_region 5 with (fail)
  have hS : ∀ U, RowKit.Below w4.heap.size w4 U → (U.heap[Q]? = some (.cells (#[.int .i64 0, .int .i64 0, .int .i64 0, .int .i64 0, .int .i64 0, .slice none 0 0, .slice K 1 1]) 25 (0, 0)) ∧ U.heap[L0]? = some (.cells #[.int .i64 1, .int .i64 5, .int .i64 0, .int .i64 0, .int .i64 2, .int .i64 5, .int .i64 0, .int .i64 0, .int .i64 2, .int .i64 5, .int .i64 1, .int .i64 0] 37 (0, 0)) ∧ RowKit.Below w4.heap.size w4 U) := fun U hU => ⟨keep0 HQ4.out hU, keep0 HX4.out hU, hU⟩
  have hu0 : RowKit.Below w4.heap.size w4 w4.drew := below_drew (RowKit.Below.refl _ _)
  refine wp_region_held_drew (S := fun U => (U.heap[Q]? = some (.cells (#[.int .i64 0, .int .i64 0, .int .i64 0, .int .i64 0, .int .i64 0, .slice none 0 0, .slice K 1 1]) 25 (0, 0)) ∧ U.heap[L0]? = some (.cells #[.int .i64 1, .int .i64 5, .int .i64 0, .int .i64 0, .int .i64 2, .int .i64 5, .int .i64 0, .int .i64 0, .int .i64 2, .int .i64 5, .int .i64 1, .int .i64 0] 37 (0, 0)) ∧ RowKit.Below w4.heap.size w4 U)) (by kernel_rfl) (hS _ hu0) (fun hHeld => ?_)
  generalize w4.drew = w5 at *
  refine wpAnyH_take (i := 0) (v := ?_) rfl (by kernel_rfl) (by kernel_rfl) (by kernel_rfl) (fun _ _ _ h => h) (Or.inl ⟨by rfl, ?_⟩) (by assumption) ?_
  rotate_left
  focus
    intro U hU
    try dsimp only at hU
    obtain ⟨q0, q1, q2, q3, q4, q5, q6⟩ := seven_cellsJ hU.1
    obtain ⟨⟨a0, a1, a2, a3⟩, ⟨a4, a5, a6, a7⟩, a8, a9, a10, a11⟩ := cells12 hU.2.1
    go_simp
    try (with_reducible rfl)
  simp only [List.getElem_toArray, List.getElem_cons_succ, List.getElem_cons_zero, Act.put, List.setIfInBounds_toArray, List.set_cons_zero, List.set_cons_succ]
  refine wpAnyH_take (i := 1) (v := ?_) rfl (by kernel_rfl) (by kernel_rfl) (by kernel_rfl) (fun _ _ _ h => h) (Or.inl ⟨by rfl, ?_⟩) (by assumption) ?_
  rotate_left
  focus
    intro U hU
    try dsimp only at hU
    obtain ⟨q0, q1, q2, q3, q4, q5, q6⟩ := seven_cellsJ hU.1
    obtain ⟨⟨a0, a1, a2, a3⟩, ⟨a4, a5, a6, a7⟩, a8, a9, a10, a11⟩ := cells12 hU.2.1
    go_simp
    try (with_reducible rfl)
  simp only [List.getElem_toArray, List.getElem_cons_succ, List.getElem_cons_zero, Act.put, List.setIfInBounds_toArray, List.set_cons_zero, List.set_cons_succ]
  refine wpAnyH_take (i := 2) (v := ?_) rfl (by kernel_rfl) (by kernel_rfl) (by kernel_rfl) (fun _ _ _ h => h) (Or.inl ⟨by rfl, ?_⟩) (by assumption) ?_
  rotate_left
  focus
    intro U hU
    try dsimp only at hU
    obtain ⟨q0, q1, q2, q3, q4, q5, q6⟩ := seven_cellsJ hU.1
    obtain ⟨⟨a0, a1, a2, a3⟩, ⟨a4, a5, a6, a7⟩, a8, a9, a10, a11⟩ := cells12 hU.2.1
    go_simp
    try (with_reducible rfl)
  simp only [List.getElem_toArray, List.getElem_cons_succ, List.getElem_cons_zero, Act.put, List.setIfInBounds_toArray, List.set_cons_zero, List.set_cons_succ]
  refine wpAnyH_take (i := 3) (v := ?_) rfl (by kernel_rfl) (by kernel_rfl) (by kernel_rfl) (fun _ _ _ h => h) (Or.inl ⟨by rfl, ?_⟩) (by assumption) ?_
  rotate_left
  focus
    intro U hU
    try dsimp only at hU
    obtain ⟨q0, q1, q2, q3, q4, q5, q6⟩ := seven_cellsJ hU.1
    obtain ⟨⟨a0, a1, a2, a3⟩, ⟨a4, a5, a6, a7⟩, a8, a9, a10, a11⟩ := cells12 hU.2.1
    go_simp
    try (with_reducible rfl)
  simp only [List.getElem_toArray, List.getElem_cons_succ, List.getElem_cons_zero, Act.put, List.setIfInBounds_toArray, List.set_cons_zero, List.set_cons_succ]
  refine wpAnyH_take (i := 4) (v := ?_) rfl (by kernel_rfl) (by kernel_rfl) (by kernel_rfl) (fun _ _ _ h => h) (Or.inl ⟨by rfl, ?_⟩) (by assumption) ?_
  rotate_left
  focus
    intro U hU
    try dsimp only at hU
    obtain ⟨q0, q1, q2, q3, q4, q5, q6⟩ := seven_cellsJ hU.1
    obtain ⟨⟨a0, a1, a2, a3⟩, ⟨a4, a5, a6, a7⟩, a8, a9, a10, a11⟩ := cells12 hU.2.1
    go_simp
    try (with_reducible rfl)
  simp only [List.getElem_toArray, List.getElem_cons_succ, List.getElem_cons_zero, Act.put, List.setIfInBounds_toArray, List.set_cons_zero, List.set_cons_succ]
  refine wpAnyH_take (i := 5) (v := ?_) rfl (by kernel_rfl) (by kernel_rfl) (by kernel_rfl) (fun _ _ _ h => h) (Or.inl ⟨by rfl, ?_⟩) (by assumption) ?_
  rotate_left
  focus
    intro U hU
    try dsimp only at hU
    obtain ⟨q0, q1, q2, q3, q4, q5, q6⟩ := seven_cellsJ hU.1
    obtain ⟨⟨a0, a1, a2, a3⟩, ⟨a4, a5, a6, a7⟩, a8, a9, a10, a11⟩ := cells12 hU.2.1
    go_simp
    try (with_reducible rfl)
  simp only [List.getElem_toArray, List.getElem_cons_succ, List.getElem_cons_zero, Act.put, List.setIfInBounds_toArray, List.set_cons_zero, List.set_cons_succ]
  refine wpAnyH_take (i := 6) (v := ?_) rfl (by kernel_rfl) (by kernel_rfl) (by kernel_rfl) (fun _ _ _ h => h) (Or.inl ⟨by rfl, ?_⟩) (by assumption) ?_
  rotate_left
  focus
    intro U hU
    try dsimp only at hU
    obtain ⟨q0, q1, q2, q3, q4, q5, q6⟩ := seven_cellsJ hU.1
    obtain ⟨⟨a0, a1, a2, a3⟩, ⟨a4, a5, a6, a7⟩, a8, a9, a10, a11⟩ := cells12 hU.2.1
    go_simp
    try (with_reducible rfl)
  simp only [List.getElem_toArray, List.getElem_cons_succ, List.getElem_cons_zero, Act.put, List.setIfInBounds_toArray, List.set_cons_zero, List.set_cons_succ]
  refine wpAnyH_take (i := 7) (v := ?_) rfl (by kernel_rfl) (by kernel_rfl) (by kernel_rfl) (fun _ _ _ h => h) (Or.inl ⟨by rfl, ?_⟩) (by assumption) ?_
  rotate_left
  focus
    intro U hU
    try dsimp only at hU
    obtain ⟨q0, q1, q2, q3, q4, q5, q6⟩ := seven_cellsJ hU.1
    obtain ⟨⟨a0, a1, a2, a3⟩, ⟨a4, a5, a6, a7⟩, a8, a9, a10, a11⟩ := cells12 hU.2.1
    go_simp
    try (with_reducible rfl)
  simp only [List.getElem_toArray, List.getElem_cons_succ, List.getElem_cons_zero, Act.put, List.setIfInBounds_toArray, List.set_cons_zero, List.set_cons_succ]
  refine wpAnyH_take (i := 8) (v := ?_) rfl (by kernel_rfl) (by kernel_rfl) (by kernel_rfl) (fun _ _ _ h => h) (Or.inl ⟨by rfl, ?_⟩) (by assumption) ?_
  rotate_left
  focus
    intro U hU
    try dsimp only at hU
    obtain ⟨q0, q1, q2, q3, q4, q5, q6⟩ := seven_cellsJ hU.1
    obtain ⟨⟨a0, a1, a2, a3⟩, ⟨a4, a5, a6, a7⟩, a8, a9, a10, a11⟩ := cells12 hU.2.1
    go_simp
    try (with_reducible rfl)
  simp only [List.getElem_toArray, List.getElem_cons_succ, List.getElem_cons_zero, Act.put, List.setIfInBounds_toArray, List.set_cons_zero, List.set_cons_succ]
  refine wpAnyH_take (i := 9) (v := ?_) rfl (by kernel_rfl) (by kernel_rfl) (by kernel_rfl) (fun _ _ _ h => h) (Or.inl ⟨by rfl, ?_⟩) (by assumption) ?_
  rotate_left
  focus
    intro U hU
    try dsimp only at hU
    obtain ⟨q0, q1, q2, q3, q4, q5, q6⟩ := seven_cellsJ hU.1
    obtain ⟨⟨a0, a1, a2, a3⟩, ⟨a4, a5, a6, a7⟩, a8, a9, a10, a11⟩ := cells12 hU.2.1
    go_simp
    try (with_reducible rfl)
  simp only [List.getElem_toArray, List.getElem_cons_succ, List.getElem_cons_zero, Act.put, List.setIfInBounds_toArray, List.set_cons_zero, List.set_cons_succ]
  refine wpAnyH_take (i := 10) (v := ?_) rfl (by kernel_rfl) (by kernel_rfl) (by kernel_rfl) (fun _ _ _ h => h) (Or.inl ⟨by rfl, ?_⟩) (by assumption) ?_
  rotate_left
  focus
    intro U hU
    try dsimp only at hU
    obtain ⟨q0, q1, q2, q3, q4, q5, q6⟩ := seven_cellsJ hU.1
    obtain ⟨⟨a0, a1, a2, a3⟩, ⟨a4, a5, a6, a7⟩, a8, a9, a10, a11⟩ := cells12 hU.2.1
    go_simp
    try (with_reducible rfl)
  simp only [List.getElem_toArray, List.getElem_cons_succ, List.getElem_cons_zero, Act.put, List.setIfInBounds_toArray, List.set_cons_zero, List.set_cons_succ]
  refine wpAnyH_take (i := 11) (v := ?_) rfl (by kernel_rfl) (by kernel_rfl) (by kernel_rfl) (fun _ _ _ h => h) (Or.inl ⟨by rfl, ?_⟩) (by assumption) ?_
  rotate_left
  focus
    intro U hU
    try dsimp only at hU
    obtain ⟨q0, q1, q2, q3, q4, q5, q6⟩ := seven_cellsJ hU.1
    obtain ⟨⟨a0, a1, a2, a3⟩, ⟨a4, a5, a6, a7⟩, a8, a9, a10, a11⟩ := cells12 hU.2.1
    go_simp
    try (with_reducible rfl)
  simp only [List.getElem_toArray, List.getElem_cons_succ, List.getElem_cons_zero, Act.put, List.setIfInBounds_toArray, List.set_cons_zero, List.set_cons_succ]
  refine wpAnyH_ready (rs := [12]) (by kernel_rfl) (by simp) ?_
  refine AllReadyH.cons rfl (fun K hK => ?_) AllReadyH.nil
  simp only [List.getElem_toArray, List.getElem_cons_succ, List.getElem_cons_zero]
  go_simp
  refine hK.out _ _ ?_ (fun hHeld2 => ?_)
  focus
    exact hS _ (hu0.alloc hu0.size _)
  clear hHeld
  have hHeld := hHeld2
  clear hHeld2 hK K
  try simp only [List.getElem_toArray, List.getElem_cons_succ, List.getElem_cons_zero, Act.put, List.setIfInBounds_toArray, List.set_cons_zero, List.set_cons_succ]
  have hal : RowKit.Below w5.heap.size w5 (w5.alloc (.cells #[.int .i64 1, .int .i64 5, .int .i64 0, .int .i64 0, .int .i64 2, .int .i64 5, .int .i64 0, .int .i64 0, .int .i64 3, .int .i64 5, .int .i64 0, .int .i64 0, .int .i64 2, .int .i64 5, .int .i64 1, .int .i64 0] 37)) := bel_alloc (RowKit.Below.refl _ _) _
  have HL9 := hid (HA2.out _ K J A _ ((HC4.out.below hu0).below hal) ((HJ4.out.below hu0).below hal) (Sl.lit w5 37 4 4 #[.int .i64 1, .int .i64 5, .int .i64 0, .int .i64 0, .int .i64 2, .int .i64 5, .int .i64 0, .int .i64 0, .int .i64 3, .int .i64 5, .int .i64 0, .int .i64 0, .int .i64 2, .int .i64 5, .int .i64 1, .int .i64 0] rfl (by unfold maxLen; omega)))
  have hu1 := hu0.trans (hal.mono hu0.size)
  clear hal HA2
  refine wpAnyH_ready (rs := [13]) (by kernel_rfl) (by simp) ?_
  refine AllReadyH.cons rfl (fun K hK => ?_) AllReadyH.nil
  simp only [List.getElem_toArray, List.getElem_cons_succ, List.getElem_cons_zero]
  go_simp
  refine HL9.out.mono ?_
  rintro e w6 ⟨A6, c6, zs, rfl, _, _, hb⟩
  have hu2 := hu1.trans (hb.mono hu1.size)
  go_wp2_with fail
  refine hK.out _ _ ?_ (fun hHeld2 => ?_)
  focus
    exact hS _ (by with_reducible assumption)
  clear hHeld
  have hHeld := hHeld2
  clear hHeld2 hK K
  try simp only [List.getElem_toArray, List.getElem_cons_succ, List.getElem_cons_zero, Act.put, List.setIfInBounds_toArray, List.set_cons_zero, List.set_cons_succ]
  refine wpAnyH_take (i := 14) (v := ?_) rfl (by kernel_rfl) (by kernel_rfl) (by kernel_rfl) (fun _ _ _ h => h) (Or.inl ⟨by rfl, ?_⟩) (by assumption) ?_
  rotate_left
  focus
    intro U hU
    try dsimp only at hU
    go_simp
    try (with_reducible rfl)
  simp only [List.getElem_toArray, List.getElem_cons_succ, List.getElem_cons_zero, Act.put, List.setIfInBounds_toArray, List.set_cons_zero, List.set_cons_succ]
  refine wpAnyH_take (i := 15) (v := ?_) rfl (by kernel_rfl) (by kernel_rfl) (by kernel_rfl) (fun _ _ _ h => h) (Or.inl ⟨by rfl, ?_⟩) (by assumption) ?_
  rotate_left
  focus
    intro U hU
    try dsimp only at hU
    go_simp
    try (with_reducible rfl)
  simp only [List.getElem_toArray, List.getElem_cons_succ, List.getElem_cons_zero, Act.put, List.setIfInBounds_toArray, List.set_cons_zero, List.set_cons_succ]
  refine wpAnyH_take (i := 16) (v := ?_) rfl (by kernel_rfl) (by kernel_rfl) (by kernel_rfl) (fun _ _ _ h => h) (Or.inl ⟨by rfl, ?_⟩) (by assumption) ?_
  rotate_left
  focus
    intro U hU
    try dsimp only at hU
    go_simp
    try (with_reducible rfl)
  simp only [List.getElem_toArray, List.getElem_cons_succ, List.getElem_cons_zero, Act.put, List.setIfInBounds_toArray, List.set_cons_zero, List.set_cons_succ]
  refine wpAnyH_take (i := 17) (v := ?_) rfl (by kernel_rfl) (by kernel_rfl) (by kernel_rfl) (fun _ _ _ h => h) (Or.inl ⟨by rfl, ?_⟩) (by assumption) ?_
  rotate_left
  focus
    intro U hU
    try dsimp only at hU
    go_simp
    try (with_reducible rfl)
  simp only [List.getElem_toArray, List.getElem_cons_succ, List.getElem_cons_zero, Act.put, List.setIfInBounds_toArray, List.set_cons_zero, List.set_cons_succ]
  refine wpAnyH_take (i := 18) (v := ?_) rfl (by kernel_rfl) (by kernel_rfl) (by kernel_rfl) (fun _ _ _ h => h) (Or.inl ⟨by rfl, ?_⟩) (by assumption) ?_
  rotate_left
  focus
    intro U hU
    try dsimp only at hU
    go_simp
    try (with_reducible rfl)
  simp only [List.getElem_toArray, List.getElem_cons_succ, List.getElem_cons_zero, Act.put, List.setIfInBounds_toArray, List.set_cons_zero, List.set_cons_succ]
  refine wpAnyH_done (by kernel_rfl) ?_ _
  have HB7 := hid (HB4.out.trans (hu2.mono HB4.out.size))
  have HX7 := hid (keep0 HX4.out hu2)
  clear hHeld hS hu0 hu1 hu2 HL9 HB4 HC4 HQ4 HJ4 HX4
  obtain ⟨⟨a0, a1, a2, a3⟩, ⟨a4, a5, a6, a7⟩, a8, a9, a10, a11⟩ := cells12 HX7.out
  clear a0 a1 a2 a3 a4 a5 a6 a7
  go_wp2_with fail
  refine (text9 w6).mono ?_
  rintro e w7 ⟨rfl, hb⟩
  have HB8 := hid (HB7.out.trans (hb.mono HB7.out.size))
  clear hb a8 a9 a10 a11 HX7 HB7
  rw [show (str [108, 97, 117, 110, 99, 104, 32, 53, 32, 49, 32, 48]) = ⟨#[108, 97, 117, 110, 99, 104, 32, 53, 32, 49, 32, 48]⟩ from rfl]
  go_wp2
  go_ret
  exact ⟨rfl, HB8.out⟩
end Go.Proofs.YthohedadmfbahaaDoor
