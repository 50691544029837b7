/- Table: slices.Insert where a new row is made; Insert: contract. -/
import Derived.Test.YtjdlomdhaoadkaaTabF
namespace Go.Proofs.Ytjdlomdhaoadkaa
open Go.RowKit Go.Lib
set_option linter.unusedVariables false
set_option linter.unusedSimpArgs false

set_option maxRecDepth 20000 in
set_option maxHeartbeats 4000000 in
theorem insert_grow (base g cap vb k : Nat) (cur : Array Value) (l : List Tr) (x : Tr) (W : World) (hg : RB W g cap cur) (hgb : base ≤ W.heap.size) (ht : cur.toList.take (l.length * 3) = gcells r3 l) (hnc : l.length ≤ cap) (hroom : cap < l.length + 1) (hv : W.heap[vb]? = some (.cells #[.int .i64 x.1, .int .i64 x.2.1, .int .i64 x.2.2] 51 (0, 0))) (hk : k < l.length) (hl : l.length ≤ 1000) :
    Calls Try.prog 26 #[.slice (some ⟨g, 0, none⟩) l.length cap, .int .i64 (k : Int), .slice (some ⟨vb, 0, none⟩) 1 1] W fun e w' => ∃ v, e = .returned v ∧ w'.ownsRow base 51 3 v (l.length + 1) (gcells r3 (l.take k ++ x :: l.drop k)) ∧ Below base W w' := by
  obtain ⟨i0, hi0, hz0, hzs, hzb⟩ := info_parts info_trow
  have hgl : g < W.heap.size := lt_of_block hg.1
  have hvl : vb < W.heap.size := lt_of_block hv
  have hcl : ∀ j v, (gcells r3 l)[j]? = some v → W.cell? ⟨g, j, none⟩ = some v := fun j v hj => by
    rw [hg.cell]
    rw [← ht, List.getElem?_take] at hj
    split at hj
    · exact hj
    · cases hj
  have hold : (Builtin.firstCells i0.size k (.slice (some ⟨g, 0, none⟩) k cap)).run Try.prog W.drew = .ok ((gcells r3 l).take (k * 3)).toArray W.drew := by
    rw [hzs]
    exact run_firstCells_some W.drew 3 k ⟨g, 0, none⟩ k cap ((gcells r3 l).take (k * 3)) (by rw [List.length_take, g3_len]; omega) (fun j v hj => by
      rw [add_none, Nat.zero_add]
      rw [List.getElem?_take] at hj
      split at hj
      · exact hcl j v hj
      · cases hj)
  have hik : k + (l.length + 1 - k) = l.length + 1 := by omega
  have hrz := run_append_grow_zeros (P := Try.prog) W 25 3 25 51 i0 _ .i64 .i64 Try.underlying25 Try.underlying3 hi0 hz0 (some ⟨g, 0, none⟩) k cap ((gcells r3 l).take (k * 3)) hold (l.length + 1 - k) (by omega) (by omega) (by omega) (by omega) (by rw [hzb]; omega) (by rw [hzb, hik]; exact growslice_fits hroom (by omega))
  rw [hik] at hrz
  have hGn : l.length + 1 ≤ grownCap W (l.length + 1) cap 51 := grownCap_ge W _ _ _
  have hGm := grownCap_le_maxLen W (l.length + 1) cap 51 (by unfold maxLen; omega)
  obtain ⟨G, hG⟩ : ∃ G, G = grownCap W (l.length + 1) cap 51 := ⟨_, rfl⟩
  rw [← hG] at hrz hGn hGm
  obtain ⟨ROW, hROW⟩ : ∃ ROW : Array Value, ROW = ((gcells r3 l).take (k * 3)).toArray ++ Builtin.zeroCells (Value.agg #[.int .i64 0, .int .i64 0, .int .i64 0]).cells (l.length + 1 - k) ++ Builtin.zeroCells (Value.agg #[.int .i64 0, .int .i64 0, .int .i64 0]).cells (G - (l.length + 1)) := ⟨_, rfl⟩
  rw [← hROW] at hrz
  have hRs : ROW.size = G * 3 := by
    rw [hROW]
    simp only [Array.size_append, List.size_toArray, List.length_take, g3_len, Builtin.zeroCells, Array.size_map, Array.size_range, Value.cells, List.length_cons, List.length_nil]
    omega
  have hR0 : ROW.toList.take (k * 3) = (gcells r3 l).take (k * 3) := by
    rw [hROW, Array.append_assoc]
    simp only [Array.toList_append]
    have e : ((gcells r3 l).take (k * 3)).length = k * 3 := by rw [List.length_take, g3_len]; omega
    rw [List.take_append_of_le_length (by rw [e]; exact Nat.le_refl _), List.take_of_length_le (by rw [e]; exact Nat.le_refl _)]
  obtain ⟨W1, hW1⟩ : ∃ W1, W1 = W.drew.alloc (.cells ROW 51) := ⟨_, rfl⟩
  rw [← hW1] at hrz
  have hB1 : Below W.heap.size W W1 := by rw [hW1]; exact (below_drew (Below.refl _ _)).alloc (Nat.le_refl _) _
  have hRB : RB W1 W.heap.size G ROW := ⟨by rw [hW1]; exact heap_alloc_new W.drew _, hRs⟩
  have hv1 : W1.heap[vb]? = some (.cells #[.int .i64 x.1, .int .i64 x.2.1, .int .i64 x.2.2] 51 (0, 0)) := keep0 hv hB1
  have hg1 : W1.heap[g]? = some (.cells cur 51 (0, 0)) := keep0 hg.1 hB1
  obtain ⟨w2, cur2, hr2, hg2, hc2, hk2, hb2⟩ := copy_rb (w := W1) hRB k (l.length + 1 - k) (G - k) vb 0 1 1 [x] 3 (by show 1 = _; exact (Nat.min_eq_left (by omega)).symm) (by show k + 1 ≤ G; omega) (fun j v hj => by
    rw [Nat.zero_mul, Nat.zero_add, cell_of_row _ _ _ _ _ _ hv1]
    rw [show gcells r3 [x] = r3 x by simp [gcells]] at hj
    simpa [r3] using hj)
  rw [Nat.zero_mul] at hr2
  have hg22 : RB w2.drew g cap cur := ⟨(hk2 g (by omega)).trans hg1, hg.2⟩
  have hdl : (l.drop k).length = l.length - k := List.length_drop
  obtain ⟨w3, cur3, hr3, hg3, hc3, hk3, hb3⟩ := copy_rb (w := w2.drew) (show RB w2.drew W.heap.size G cur2 from hg2) (k + 1) (l.length - k) (G - (k + 1)) g k (l.length - k) (cap - k) (l.drop k) 3 (by rw [hdl]; exact (Nat.min_eq_left (by omega)).symm) (by rw [hdl]; omega) (fun j v hj => by
    rw [hg22.cell]
    rw [← g3_drop, List.getElem?_drop, ← ht, List.getElem?_take] at hj
    split at hj
    · exact hj
    · cases hj)
  have h8 : ROW.toList.length = ROW.size := by simp
  have HF := hid (put_grow (x := x) hk hR0 (by omega) hc2 hc3)
  have HG3 := hid hg3
  have HBW : Hid (Below W.heap.size w2.drew w3) := hid hb3
  have HBB : Hid (Below base W w3) := hid ((hB1.trans (hb2.trans ((below_drew (Below.refl _ w2)).trans hb3))).mono hgb)
  have hl2 : (l.length : Int) ≤ 1000 := by omega
  have hk0 : ¬ ((k : Int) = (l.length : Int)) := by omega
  have hk00 : ((k : Int) == (l.length : Int)) = false := by rw [beq_eq_false_iff_ne]; exact hk0
  have hcp : (cap : Int) < (l.length : Int) + 1 := by omega
  have hGm2 := hGm
  unfold maxLen at hGm2
  have hdg : ∀ i, i < G → dropA (some ⟨W.heap.size, 0, none⟩) G i 3 = some ⟨W.heap.size, i * 3, none⟩ := fun i hi => by
    rw [dropA, if_neg (by omega)]
    simp [add_none]
  have hdc : dropA (some ⟨g, 0, none⟩) cap k 3 = some ⟨g, k * 3, none⟩ := by
    rw [dropA, if_neg (by omega)]
    simp [add_none]
  have hs1 : ∀ w : World, (Instr.slice 25 (.slice (some ⟨g, 0, none⟩) l.length cap) (some (.int .i64 (k : Int))) none none).run Try.prog w = .ok (.slice (some ⟨g, k * 3, none⟩) (l.length - k) (cap - k)) w := fun w => by
    have := run_from (P := Try.prog) Try.underlying25 info_trow (some ⟨g, 0, none⟩) l.length cap k (by omega) w
    rwa [hdc] at this
  have hs2 : ∀ w : World, (Instr.slice 25 (.slice (some ⟨g, 0, none⟩) l.length cap) none (some (.int .i64 (k : Int))) none).run Try.prog w = .ok (.slice (some ⟨g, 0, none⟩) k cap) w := fun w => run_to (P := Try.prog) Try.underlying25 info_trow (some ⟨g, 0, none⟩) l.length cap k (by omega) w
  have hs3 : ∀ w : World, (Instr.slice 25 (.slice (some ⟨W.heap.size, 0, none⟩) (l.length + 1) G) (some (.int .i64 ((k : Int) + 1))) none none).run Try.prog w = .ok (.slice (some ⟨W.heap.size, (k + 1) * 3, none⟩) (l.length - k) (G - (k + 1))) w := fun w => by
    have := run_from (P := Try.prog) Try.underlying25 info_trow (some ⟨W.heap.size, 0, none⟩) (l.length + 1) G (k + 1) (by omega) w
    rwa [hdg (k + 1) (by omega), show l.length + 1 - (k + 1) = l.length - k by omega] at this
  have hs4 : ∀ w : World, (Instr.slice 25 (.slice (some ⟨W.heap.size, 0, none⟩) (l.length + 1) G) (some (.int .i64 (k : Int))) none none).run Try.prog w = .ok (.slice (some ⟨W.heap.size, k * 3, none⟩) (l.length + 1 - k) (G - k)) w := fun w => by
    have := run_from (P := Try.prog) Try.underlying25 info_trow (some ⟨W.heap.size, 0, none⟩) (l.length + 1) G k (by omega) w
    rwa [hdg k (by omega)] at this
  have hkk : ((l.length + 1 - k : Nat) : Int) = (l.length : Int) + 1 - (k : Int) := by omega
  rw [hkk] at hrz
  have HRZ := hid hrz
  have HR2 := hid hr2
  have HR3 := hid hr3
  have HTL : Hid ((gcells r3 (l.take k ++ x :: l.drop k)).length = (l.length + 1) * 3) := hid (by rw [g3_len]; simp; omega)
  generalize gcells r3 (l.take k ++ x :: l.drop k) = res at *
  generalize (l.drop k).length = dl at *
  have hw1 : IntKind.i64.wrap ((k : Int) + 1) = (k : Int) + 1 := by rw [IntKind.wrap_i64]; omega
  have hw2 : IntKind.i64.wrap ((l.length : Int) + 1 - (k : Int)) = (l.length : Int) + 1 - (k : Int) := by rw [IntKind.wrap_i64]; omega
  have HGN := hid hGn
  have HGM := hid hGm
  clear hrz hr2 hr3 hg2 hg3 hc2 hc3 hk2 hk3 hb2 hb3 hv1 hg1 hg22 hg ht hv hcl hold hik hG hROW hRs hR0 hRB hB1 hdl h8 hdg hdc hkk hi0 hz0 hzs hzb hGn hGm hW1 hgl hvl
  generalize hln : l.length = n at *
  clear hln
  go_enter Try.func26, Try.ntmps26
  go_upto_region 10 with (at_builtin; refine Lib.wpList_append_run _ rfl _ _ _ _ rfl _ _ rfl rfl _ _ HRZ.out ?_)
  go_wp2_with fail
  rw [HR2.out]
  go_upto_region 11 with (fail)
  refine wp_region_held_drew (S := fun U => Below W.heap.size w2.drew U) (by kernel_rfl) (Below.refl _ _) (fun hHeld => ?_)
  refine wpAnyH_take (i := 0) (v := ?_) rfl (by kernel_rfl) (by kernel_rfl) (by kernel_rfl) (fun _ _ _ h => h) (Or.inl ⟨by rfl, ?_⟩) (by assumption) ?_
  rotate_left
  focus
    intro U hU
    try dsimp only at hU
    go_simp
    try (with_reducible rfl)
  try simp only [List.getElem_toArray, List.getElem_cons_succ, List.getElem_cons_zero, Act.put, List.setIfInBounds_toArray, List.set_cons_zero, List.set_cons_succ]
  refine wpAnyH_take (i := 1) (v := ?_) rfl (by kernel_rfl) (by kernel_rfl) (by kernel_rfl) (fun _ _ _ h => h) (Or.inl ⟨by rfl, ?_⟩) (by assumption) ?_
  rotate_left
  focus
    intro U hU
    try dsimp only at hU
    go_simp
    try (with_reducible rfl)
  try simp only [List.getElem_toArray, List.getElem_cons_succ, List.getElem_cons_zero, Act.put, List.setIfInBounds_toArray, List.set_cons_zero, List.set_cons_succ]
  refine wpAnyH_take (i := 2) (v := ?_) rfl (by kernel_rfl) (by kernel_rfl) (by kernel_rfl) (fun _ _ _ h => h) (Or.inl ⟨by rfl, ?_⟩) (by assumption) ?_
  rotate_left
  focus
    intro U hU
    try dsimp only at hU
    go_simp
    try (with_reducible rfl)
  try simp only [List.getElem_toArray, List.getElem_cons_succ, List.getElem_cons_zero, Act.put, List.setIfInBounds_toArray, List.set_cons_zero, List.set_cons_succ]
  refine wpAnyH_take (i := 3) (v := ?_) rfl (by kernel_rfl) (by kernel_rfl) (by kernel_rfl) (fun _ _ _ h => h) (Or.inl ⟨by rfl, ?_⟩) (by assumption) ?_
  rotate_left
  focus
    intro U hU
    try dsimp only at hU
    go_simp
    try (with_reducible rfl)
  try simp only [List.getElem_toArray, List.getElem_cons_succ, List.getElem_cons_zero, Act.put, List.setIfInBounds_toArray, List.set_cons_zero, List.set_cons_succ]
  refine wpAnyH_take (i := 4) (v := ?_) rfl (by kernel_rfl) (by kernel_rfl) (by kernel_rfl) (fun _ _ _ h => h) (Or.inl ⟨by rfl, ?_⟩) (by assumption) ?_
  rotate_left
  focus
    intro U hU
    try dsimp only at hU
    go_simp
    try (with_reducible rfl)
  try simp only [List.getElem_toArray, List.getElem_cons_succ, List.getElem_cons_zero, Act.put, List.setIfInBounds_toArray, List.set_cons_zero, List.set_cons_succ]
  refine wpAnyH_take (i := 5) (v := ?_) rfl (by kernel_rfl) (by kernel_rfl) (by kernel_rfl) (fun _ _ _ h => h) (Or.inl ⟨by rfl, ?_⟩) (by assumption) ?_
  rotate_left
  focus
    intro U hU
    try dsimp only at hU
    go_simp
    try (with_reducible rfl)
  try simp only [List.getElem_toArray, List.getElem_cons_succ, List.getElem_cons_zero, Act.put, List.setIfInBounds_toArray, List.set_cons_zero, List.set_cons_succ]
  refine wpAnyH_take (i := 6) (v := ?_) rfl (by kernel_rfl) (by kernel_rfl) (by kernel_rfl) (fun _ _ _ h => h) (Or.inl ⟨by rfl, ?_⟩) (by assumption) ?_
  rotate_left
  focus
    intro U hU
    try dsimp only at hU
    go_simp
    try (with_reducible rfl)
  try simp only [List.getElem_toArray, List.getElem_cons_succ, List.getElem_cons_zero, Act.put, List.setIfInBounds_toArray, List.set_cons_zero, List.set_cons_succ]
  refine wpAnyH_take (i := 7) (v := ?_) rfl (by kernel_rfl) (by kernel_rfl) (by kernel_rfl) (fun _ _ _ h => h) (Or.inl ⟨by rfl, ?_⟩) (by assumption) ?_
  rotate_left
  focus
    intro U hU
    try dsimp only at hU
    go_simp
    try (with_reducible rfl)
  try simp only [List.getElem_toArray, List.getElem_cons_succ, List.getElem_cons_zero, Act.put, List.setIfInBounds_toArray, List.set_cons_zero, List.set_cons_succ]
  refine wpAnyH_ready (rs := [8]) (by kernel_rfl) (by simp) ?_
  refine AllReadyH.cons rfl (fun K hK => ?_) AllReadyH.nil
  refine step_copy_run rfl (.tmp 50) (.tmp 53) 25 25 rfl _ _ rfl rfl HR3.out ?_
  refine hK.out _ _ ?_ (fun hHeld2 => ?_)
  focus
    exact HBW.out
  clear hHeld
  have hHeld := hHeld2
  clear hHeld2 hK K
  try simp only [List.getElem_toArray, List.getElem_cons_succ, List.getElem_cons_zero, Act.put, List.setIfInBounds_toArray, List.set_cons_zero, List.set_cons_succ]
  refine wpAnyH_done (by kernel_rfl) ?_ _
  clear hHeld
  go_wp2_with fail
  go_ret
  exact ⟨.slice (some ⟨W.heap.size, 0, none⟩) (n + 1) G, rfl, ⟨HTL.out, .inr ⟨W.heap.size, G, cur3, rfl, hgb, HG3.out.1, HGN.out, HGM.out, HG3.out.2, HF.out⟩⟩, HBB.out⟩
end Go.Proofs.Ytjdlomdhaoadkaa
