/- Table: tasks compared: contracts. -/
import Derived.Test.YtjdlomdhaoadkaaChecked
import Derived.Test.YtjdlomdhaoadkaaRd
import Derived.Test.YtjdlomdhaoadkaaRow
import Derived.Test.YtjdlomdhaoadkaaStep
import Derived.Test.YtjdlomdhaoadkaaGcel
import Derived.Deep.Cut
import Derived.Deep.CutRange
import Derived.Deep.RegionHeld3
import Derived.Outline
namespace Go.Proofs.Ytjdlomdhaoadkaa
open Go.RowKit
set_option linter.unusedVariables false
set_option linter.unusedSimpArgs false

def cmpI (x y : Int) : Int := if x < y then -1 else if y < x then 1 else 0
def cmpT (a b c d : Int) : Int := if cmpI a c ≠ 0 then cmpI a c else cmpI b d
theorem compare_any (x y : Int) (W : World) : Calls Try.prog 30 #[.int .i64 x, .int .i64 y] W fun e w' => e = .returned (.int .i64 (cmpI x y)) ∧ W = w' := by
  rcases Int.lt_trichotomy x y with h | h | h
  · have HV : Hid (cmpI x y = -1) := hid (by unfold cmpI; rw [if_pos h])
    go_enter Try.func30, Try.ntmps30
    go_wp2
    go_ret
    exact ⟨by rw [HV.out]; rfl, rfl⟩
  · subst h
    have HV : Hid (cmpI x x = 0) := hid (by unfold cmpI; rw [if_neg (by omega), if_neg (by omega)])
    have h1 : ¬ x < x := by omega
    go_enter Try.func30, Try.ntmps30
    go_wp2
    go_ret
    exact ⟨by rw [HV.out]; rfl, rfl⟩
  · have HV : Hid (cmpI x y = 1) := hid (by unfold cmpI; rw [if_neg (by omega), if_pos h])
    have h1 : ¬ x < y := by omega
    go_enter Try.func30, Try.ntmps30
    go_wp2
    go_ret
    exact ⟨by rw [HV.out]; rfl, rfl⟩
def orI (a b : Int) : Int := if a ≠ 0 then a else b
set_option maxRecDepth 20000 in
set_option maxHeartbeats 1000000 in
theorem or_any (g : Nat) (a b : Int) (W : World) (h0 : W.cell? ⟨g, 0, none⟩ = some (.int .i64 a)) (h1 : W.cell? ⟨g, 1, none⟩ = some (.int .i64 b)) :
    Calls Try.prog 29 #[.slice (some ⟨g, 0, none⟩) 2 2] W fun e w' => e = .returned (.int .i64 (orI a b)) ∧ W = w' := by
  have H0 := hid h0
  have H1 := hid h1
  clear h0 h1
  by_cases ha : a = 0
  · subst ha
    have HV : Hid (orI 0 b = b) := hid rfl
    by_cases hb : b = 0
    · subst hb
      go_enter Try.func29, Try.ntmps29
      go_wp2_with fail
      go_loopw [5, 8] (fun _ i wr => ∃ k : Nat, k ≤ 2 ∧ i = .int .i64 (k : Int) ∧ W = wr) (fun _ i _ => 2 - (intOf i).toNat)
      case atStart => exact ⟨0, by omega, rfl, rfl⟩
      case round =>
        obtain ⟨k, hk, rfl, rfl⟩ := hrel
        obtain rfl | rfl | rfl : k = 0 ∨ k = 1 ∨ k = 2 := by omega
        · have h0 := H0.out
          go_wp2
          go_roundw
          case rel => exact ⟨1, by omega, by go_num, by first | rfl | trivial⟩
          case measure => simp [intOf]
        · have h1 := H1.out
          go_wp2
          go_roundw
          case rel => exact ⟨2, by omega, by go_num, by first | rfl | trivial⟩
          case measure => simp [intOf]
        · go_wp2
          go_ret
          exact ⟨by rw [HV.out]; rfl, rfl⟩
    · have hbb : (b == 0) = false := by simpa using hb
      go_enter Try.func29, Try.ntmps29
      go_wp2_with fail
      go_loopw [5, 8] (fun _ i wr => ∃ k : Nat, k ≤ 1 ∧ i = .int .i64 (k : Int) ∧ W = wr) (fun _ i _ => 2 - (intOf i).toNat)
      case atStart => exact ⟨0, by omega, rfl, rfl⟩
      case round =>
        obtain ⟨k, hk, rfl, rfl⟩ := hrel
        obtain rfl | rfl : k = 0 ∨ k = 1 := by omega
        · have h0 := H0.out
          go_wp2
          go_roundw
          case rel => exact ⟨1, by omega, by go_num, by first | rfl | trivial⟩
          case measure => simp [intOf]
        · have h1 := H1.out
          go_wp2
          go_ret
          exact ⟨by rw [HV.out]; rfl, rfl⟩
  · have HV : Hid (orI a b = a) := hid (by unfold orI; rw [if_pos ha])
    have haa : (a == 0) = false := by simpa using ha
    go_enter Try.func29, Try.ntmps29
    go_wp2_with fail
    go_loopw [5, 8] (fun _ i wr => i = .int .i64 0 ∧ W = wr) (fun _ i _ => 2 - (intOf i).toNat)
    case atStart => exact ⟨rfl, rfl⟩
    case round =>
      obtain ⟨rfl, rfl⟩ := hrel
      have h0 := H0.out
      go_wp2
      go_ret
      exact ⟨by rw [HV.out]; rfl, rfl⟩

set_option maxRecDepth 20000 in
set_option maxHeartbeats 2000000 in
theorem compared_any (a b c d : Int) (W : World) : Calls Try.prog 25 #[.agg #[.int .i64 a, .int .i64 b], .agg #[.int .i64 c, .int .i64 d]] W fun e w' => e = .returned (.int .i64 (cmpT a b c d)) ∧ Below W.heap.size W w' := by
  have HC1 := hid (fun w => compare_any a c w)
  have HC2 := hid (fun w => compare_any b d w)
  have HV : Hid (orI (cmpI a c) (cmpI b d) = cmpT a b c d) := hid rfl
  generalize cmpT a b c d = r at *
  generalize cmpI a c = x at *
  generalize cmpI b d = y at *
  go_enter Try.func25, Try.ntmps25
  go_upto_region 1 with (fail)
  refine at_world (fun w => (w.cell? ⟨W.heap.size, 0, none⟩ = some (.int .i64 a) ∧ w.cell? ⟨W.heap.size, 1, none⟩ = some (.int .i64 b) ∧ w.cell? ⟨W.heap.size + 1, 0, none⟩ = some (.int .i64 c) ∧ w.cell? ⟨W.heap.size + 1, 1, none⟩ = some (.int .i64 d)) ∧ Below W.heap.size W w) ⟨?_, ((Below.refl _ _).alloc (Nat.le_refl _) _).alloc (by simp) _⟩ ?_
  · obtain ⟨z0, z1, _⟩ := two_cells (keep0 (heap_alloc_new W (.cells #[.int .i64 a, .int .i64 b] 28)) ((Below.refl _ _).alloc (Nat.le_refl _) (.cells #[.int .i64 c, .int .i64 d] 28)))
    obtain ⟨z2, z3, _⟩ := two_cells (heap_alloc_new (W.alloc (.cells #[.int .i64 a, .int .i64 b] 28)) (.cells #[.int .i64 c, .int .i64 d] 28))
    rw [World.size_alloc] at z2 z3
    exact ⟨z0, z1, z2, z3⟩
  rintro w1 ⟨hz, hb1⟩
  have HB1 := hid hb1
  have HZ := hid hz
  clear hz hb1
  have hS : ∀ U, Below w1.heap.size w1 U → (U.cell? ⟨W.heap.size, 0, none⟩ = some (.int .i64 a) ∧ U.cell? ⟨W.heap.size, 1, none⟩ = some (.int .i64 b) ∧ U.cell? ⟨W.heap.size + 1, 0, none⟩ = some (.int .i64 c) ∧ U.cell? ⟨W.heap.size + 1, 1, none⟩ = some (.int .i64 d)) ∧ Below w1.heap.size w1 U := fun U hU => ⟨⟨cellb hU HZ.out.1, cellb hU HZ.out.2.1, cellb hU HZ.out.2.2.1, cellb hU HZ.out.2.2.2⟩, hU⟩
  have hu0 : Below w1.heap.size w1 w1.drew := below_drew (Below.refl _ _)
  refine wp_region_held_drew (S := fun U => (U.cell? ⟨W.heap.size, 0, none⟩ = some (.int .i64 a) ∧ U.cell? ⟨W.heap.size, 1, none⟩ = some (.int .i64 b) ∧ U.cell? ⟨W.heap.size + 1, 0, none⟩ = some (.int .i64 c) ∧ U.cell? ⟨W.heap.size + 1, 1, none⟩ = some (.int .i64 d)) ∧ Below w1.heap.size w1 U) (by kernel_rfl) (hS _ hu0) (fun hHeld => ?_)
  refine wpAnyH_take (i := 0) (v := ?_) rfl (by kernel_rfl) (by kernel_rfl) (by kernel_rfl) (fun _ _ _ h => h) (Or.inl ⟨by rfl, ?_⟩) (by assumption) ?_
  rotate_left
  focus
    intro U hU
    try dsimp only at hU
    go_simp
    try (with_reducible rfl)
  simp only [List.getElem_toArray, List.getElem_cons_succ, List.getElem_cons_zero, Act.put, List.setIfInBounds_toArray, List.set_cons_zero, List.set_cons_succ]
  refine wpAnyH_take (i := 2) (v := ?_) rfl (by kernel_rfl) (by kernel_rfl) (by kernel_rfl) (fun _ _ _ h => h) (Or.inl ⟨by rfl, ?_⟩) (by assumption) ?_
  rotate_left
  focus
    intro U hU
    try dsimp only at hU
    go_simp
    try (with_reducible rfl)
  simp only [List.getElem_toArray, List.getElem_cons_succ, List.getElem_cons_zero, Act.put, List.setIfInBounds_toArray, List.set_cons_zero, List.set_cons_succ]
  refine wpAnyH_take (i := 5) (v := ?_) rfl (by kernel_rfl) (by kernel_rfl) (by kernel_rfl) (fun _ _ _ h => h) (Or.inl ⟨by rfl, ?_⟩) (by assumption) ?_
  rotate_left
  focus
    intro U hU
    try dsimp only at hU
    go_simp
    try (with_reducible rfl)
  simp only [List.getElem_toArray, List.getElem_cons_succ, List.getElem_cons_zero, Act.put, List.setIfInBounds_toArray, List.set_cons_zero, List.set_cons_succ]
  refine wpAnyH_take (i := 7) (v := ?_) rfl (by kernel_rfl) (by kernel_rfl) (by kernel_rfl) (fun _ _ _ h => h) (Or.inl ⟨by rfl, ?_⟩) (by assumption) ?_
  rotate_left
  focus
    intro U hU
    try dsimp only at hU
    go_simp
    try (with_reducible rfl)
  simp only [List.getElem_toArray, List.getElem_cons_succ, List.getElem_cons_zero, Act.put, List.setIfInBounds_toArray, List.set_cons_zero, List.set_cons_succ]
  refine wpAnyH_take (i := 1) (v := ?_) rfl (by kernel_rfl) (by kernel_rfl) (by kernel_rfl) (fun _ _ _ h => h) (Or.inl ⟨by rfl, ?_⟩) (by assumption) ?_
  rotate_left
  focus
    intro U hU
    try dsimp only at hU
    obtain ⟨⟨y0, y1, y2, y3⟩, _⟩ := hU
    go_simp
    try (with_reducible rfl)
  simp only [List.getElem_toArray, List.getElem_cons_succ, List.getElem_cons_zero, Act.put, List.setIfInBounds_toArray, List.set_cons_zero, List.set_cons_succ]
  refine wpAnyH_take (i := 3) (v := ?_) rfl (by kernel_rfl) (by kernel_rfl) (by kernel_rfl) (fun _ _ _ h => h) (Or.inl ⟨by rfl, ?_⟩) (by assumption) ?_
  rotate_left
  focus
    intro U hU
    try dsimp only at hU
    obtain ⟨⟨y0, y1, y2, y3⟩, _⟩ := hU
    go_simp
    try (with_reducible rfl)
  simp only [List.getElem_toArray, List.getElem_cons_succ, List.getElem_cons_zero, Act.put, List.setIfInBounds_toArray, List.set_cons_zero, List.set_cons_succ]
  refine wpAnyH_take (i := 6) (v := ?_) rfl (by kernel_rfl) (by kernel_rfl) (by kernel_rfl) (fun _ _ _ h => h) (Or.inl ⟨by rfl, ?_⟩) (by assumption) ?_
  rotate_left
  focus
    intro U hU
    try dsimp only at hU
    obtain ⟨⟨y0, y1, y2, y3⟩, _⟩ := hU
    go_simp
    try (with_reducible rfl)
  simp only [List.getElem_toArray, List.getElem_cons_succ, List.getElem_cons_zero, Act.put, List.setIfInBounds_toArray, List.set_cons_zero, List.set_cons_succ]
  refine wpAnyH_take (i := 8) (v := ?_) rfl (by kernel_rfl) (by kernel_rfl) (by kernel_rfl) (fun _ _ _ h => h) (Or.inl ⟨by rfl, ?_⟩) (by assumption) ?_
  rotate_left
  focus
    intro U hU
    try dsimp only at hU
    obtain ⟨⟨y0, y1, y2, y3⟩, _⟩ := hU
    go_simp
    try (with_reducible rfl)
  simp only [List.getElem_toArray, List.getElem_cons_succ, List.getElem_cons_zero, Act.put, List.setIfInBounds_toArray, List.set_cons_zero, List.set_cons_succ]
  refine wpAnyH_ready (rs := [4]) (by kernel_rfl) (by simp) ?_
  refine AllReadyH.cons rfl (fun K hK => ?_) AllReadyH.nil
  simp only [List.getElem_toArray, List.getElem_cons_succ, List.getElem_cons_zero]
  go_simp
  refine (HC1.out _).mono ?_
  rintro e u1 ⟨rfl, rfl⟩
  go_wp2_with fail
  refine hK.out _ _ ?_ (fun hHeld2 => ?_)
  focus
    exact hS _ (by with_reducible assumption)
  clear hHeld
  have hHeld := hHeld2
  clear hHeld2 hK K
  try simp only [List.getElem_toArray, List.getElem_cons_succ, List.getElem_cons_zero, Act.put, List.setIfInBounds_toArray, List.set_cons_zero, List.set_cons_succ]
  refine wpAnyH_ready (rs := [9]) (by kernel_rfl) (by simp) ?_
  refine AllReadyH.cons rfl (fun K hK => ?_) AllReadyH.nil
  simp only [List.getElem_toArray, List.getElem_cons_succ, List.getElem_cons_zero]
  go_simp
  refine (HC2.out _).mono ?_
  rintro e u2 ⟨rfl, rfl⟩
  go_wp2_with fail
  refine hK.out _ _ ?_ (fun hHeld2 => ?_)
  focus
    exact hS _ (by with_reducible assumption)
  clear hHeld
  have hHeld := hHeld2
  clear hHeld2 hK K
  try simp only [List.getElem_toArray, List.getElem_cons_succ, List.getElem_cons_zero, Act.put, List.setIfInBounds_toArray, List.set_cons_zero, List.set_cons_succ]
  refine wpAnyH_ready (rs := [10]) (by kernel_rfl) (by simp) ?_
  refine AllReadyH.cons rfl (fun K hK => ?_) AllReadyH.nil
  simp only [List.getElem_toArray, List.getElem_cons_succ, List.getElem_cons_zero]
  go_simp
  refine hK.out _ _ ?_ (fun hHeld2 => ?_)
  focus
    exact hS _ (hu0.alloc (by simp) _)
  clear hHeld
  have hHeld := hHeld2
  clear hHeld2 hK K
  try simp only [List.getElem_toArray, List.getElem_cons_succ, List.getElem_cons_zero, Act.put, List.setIfInBounds_toArray, List.set_cons_zero, List.set_cons_succ]
  have hu1 : Below w1.heap.size w1 (w1.drew.alloc (.cells #[.int .i64 x, .int .i64 y] 3)) := hu0.alloc (by simp) _
  have HOR := hid (or_any w1.heap.size x y (w1.drew.alloc (.cells #[.int .i64 x, .int .i64 y] 3)) (two_cells (heap_alloc_new w1.drew (.cells #[.int .i64 x, .int .i64 y] 3))).1 (two_cells (heap_alloc_new w1.drew (.cells #[.int .i64 x, .int .i64 y] 3))).2.1)
  rw [HV.out] at HOR
  refine wpAnyH_ready (rs := [11]) (by kernel_rfl) (by simp) ?_
  refine AllReadyH.cons rfl (fun K hK => ?_) AllReadyH.nil
  simp only [List.getElem_toArray, List.getElem_cons_succ, List.getElem_cons_zero]
  go_simp
  refine HOR.out.mono ?_
  rintro e u3 ⟨rfl, rfl⟩
  go_wp2_with fail
  refine hK.out _ _ ?_ (fun hHeld2 => ?_)
  focus
    exact hS _ hu1
  clear hHeld
  have hHeld := hHeld2
  clear hHeld2 hK K
  try simp only [List.getElem_toArray, List.getElem_cons_succ, List.getElem_cons_zero, Act.put, List.setIfInBounds_toArray, List.set_cons_zero, List.set_cons_succ]
  refine wpAnyH_take (i := 12) (v := ?_) rfl (by kernel_rfl) (by kernel_rfl) (by kernel_rfl) (fun _ _ _ h => h) (Or.inl ⟨by rfl, ?_⟩) (by assumption) ?_
  rotate_left
  focus
    intro U hU
    try dsimp only at hU
    go_simp
    try (with_reducible rfl)
  simp only [List.getElem_toArray, List.getElem_cons_succ, List.getElem_cons_zero, Act.put, List.setIfInBounds_toArray, List.set_cons_zero, List.set_cons_succ]
  refine wpAnyH_done (by kernel_rfl) ?_ _
  clear hHeld
  go_wp2_with fail
  go_ret
  exact ⟨rfl, HB1.out.trans (hu1.mono HB1.out.size)⟩
end Go.Proofs.Ytjdlomdhaoadkaa
