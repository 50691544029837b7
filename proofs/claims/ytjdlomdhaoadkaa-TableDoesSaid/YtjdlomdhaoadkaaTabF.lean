/- Table: slices.Insert: contract. -/
import Derived.Test.YtjdlomdhaoadkaaTabE
import Derived.Lib.Overlaps
import Derived.Lib.AppendZerosOnto
import Derived.Laws.Externs
import Derived.Laws.NewBlocks
import Derived.Deep.RegionHeld3
namespace Go.Proofs.Ytjdlomdhaoadkaa
open Go.RowKit
set_option linter.unusedVariables false
set_option linter.unusedSimpArgs false

theorem wpList_copy_run {P : Program} {w : World} {ops : Array Oper} {rest : List Oper} {o : Oper} {a : Act} {Q : Exit → Act → World → Prop} (hgd : o.guard = none) (d s : Operand) (t t' : TypeId)
    (ho : o.op = .call { callee := .builtin .copy, args := #[d, s], argTypes := #[t, t'] }) (v u : Value) (hd : a.eval d = v) (hs : a.eval s = u) {v' : Value} {w' : World}
    (hr : (Builtin.copy_ #[t, t'] o.type #[v, u]).run P w = .ok v' w') (h : wpList P ops Q rest (a.put o.dst v') w') : wpList P ops Q (o :: rest) a w :=
  wpList_plain hgd fun _ hK => by
    unfold Oper.wp execOp
    simp only [ho, resolve, invoke, builtin, Sem.run_bind, Sem.run_pure, Result.andThen_ok, List.map_toArray, List.map_cons, List.map_nil, hd, hs, hr]
    exact hK _ _ h

set_option maxRecDepth 20000 in
set_option maxHeartbeats 4000000 in
theorem insert_end (base : Nat) (A : Option Addr) (cap vb : Nat) (l : List Tr) (x : Tr) (W : World) (ho : W.ownsRow base 51 3 (.slice A l.length cap) l.length (gcells r3 l)) (hb : base ≤ W.heap.size) (hv : Sl W 3 (some ⟨vb, 0, none⟩) 1 1 (gcells r3 [x])) (hl : l.length ≤ 1000) :
    Calls Try.prog 26 #[.slice A l.length cap, .int .i64 (l.length : Int), .slice (some ⟨vb, 0, none⟩) 1 1] W fun e w' => ∃ v, e = .returned v ∧ w'.ownsRow base 51 3 v (l.length + 1) (gcells r3 (l ++ [x])) ∧ Below base W w' := by
  have HO := hid ho
  have HV := hid hv
  have HB := hid hb
  have hl2 : (l.length : Int) ≤ 1000 := by omega
  have hcap : l.length ≤ cap := by
    rcases ho.2 with ⟨h', h''⟩ | ⟨g', cap', cur, h', _, _, hnc, _⟩
    · simp only [Value.slice.injEq] at h'; omega
    · simp only [Value.slice.injEq] at h'; omega
  clear ho hv hb
  have hs1 : ∀ w : World, (Instr.slice 25 (.slice A l.length cap) (some (.int .i64 (l.length : Int))) none none).run Try.prog w = .ok (.slice (dropA A cap l.length 3) (l.length - l.length) (cap - l.length)) w := run_from Try.underlying25 info_trow A l.length cap l.length (Nat.le_refl _)
  go_enter Try.func26, Try.ntmps26
  go_wp2_with (at_builtin; go_loud (refine wpList_append_sl (W := W) rfl (.tmp 23) (.tmp 24) 25 rfl base 51 Try.underlying25 info_trow rfl (by omega) rfl HO.out rfl HV.out (gcells_r3_one _) (by unfold maxLen; omega) (by omega) HB.out (Below.refl _ _) ?_))
  intro v' w2 ho2 hb2 hz2
  rw [← gcells_append] at ho2
  have HO2 := hid ho2
  have HB2 := hid hb2
  clear ho2 hb2 hz2
  go_wp2
  go_ret
  exact ⟨_, rfl, HO2.out, HB2.out⟩

set_option maxRecDepth 20000 in
set_option maxHeartbeats 4000000 in
theorem insert_shift (base g cap vb k : Nat) (cur : Array Value) (l : List Tr) (x : Tr) (W : World) (hg : RB W g cap cur) (hgb : base ≤ g) (ht : cur.toList.take (l.length * 3) = gcells r3 l) (hroom : l.length + 1 ≤ cap) (hcm : cap ≤ maxLen) (hv : W.heap[vb]? = some (.cells #[.int .i64 x.1, .int .i64 x.2.1, .int .i64 x.2.2] 51 (0, 0))) (hne : vb ≠ g) (hk : k < l.length) (hl : l.length ≤ 1000) :
    Calls Try.prog 26 #[.slice (some ⟨g, 0, none⟩) l.length cap, .int .i64 (k : Int), .slice (some ⟨vb, 0, none⟩) 1 1] W fun e w' => ∃ v, e = .returned v ∧ w'.ownsRow base 51 3 v (l.length + 1) (gcells r3 (l.take k ++ x :: l.drop k)) ∧ Below base W w' := by
  have hcm2 := hcm
  unfold maxLen at hcm2
  have hov : ∀ lb cb, (callFunc 31 #[.slice (some ⟨vb, 0, none⟩) 1 1, .slice (some ⟨g, (k + 1) * 3, none⟩) lb cb]).run Try.prog W = .ok (.value (.bool false)) W := fun lb cb => by
    rw [run_callFunc_extern Try.func31 (by kernel_rfl) (by kernel_rfl) (by kernel_rfl) (e := Extern.SlicesOverlaps.overlaps #[25, 25] #[4]) (by kernel_rfl),
      Lib.run_overlaps_apart W 25 4 51 Try.underlying25 3 (size_of_info info_trow) ⟨vb, 0, none⟩ ⟨g, (k + 1) * 3, none⟩ 1 1 lb cb hne 51 51 3 (cap * 3) (by simp [World.shape?, hv]) (by simp [World.shape?, hg.1, hg.2]) (by omega) (by simp [World.frozen?, hv]) (by simp [World.frozen?, hv])]
    rfl
  have hcs : ∀ (w : World) (cur' : Array Value), RB w g cap cur' → ∀ j v, (gcells r3 (l.drop k))[j]? = some v → cur'.toList.take (l.length * 3) = gcells r3 l → w.cell? ⟨g, k * 3 + j, none⟩ = some v := fun w cur' hr j v hj h9 => by
    rw [hr.cell]
    rw [← g3_drop, List.getElem?_drop, ← h9, List.getElem?_take] at hj
    split at hj
    · exact hj
    · cases hj
  have hdl : (l.drop k).length = l.length - k := List.length_drop
  obtain ⟨w1, cur1, hr1, hg1, hc1, hk1, hb1⟩ := copy_rb (w := W.drew) (show RB W.drew g cap cur from hg) (k + 1) (l.length - k) (cap - (k + 1)) g k (l.length + 1 - k) (cap - k) (l.drop k) 3 (by rw [hdl]; exact (Nat.min_eq_right (by omega)).symm) (by rw [hdl]; omega) (fun j v hj => hcs _ cur (show RB W.drew g cap cur from hg) j v hj ht)
  have hv1 : w1.heap[vb]? = some (.cells #[.int .i64 x.1, .int .i64 x.2.1, .int .i64 x.2.2] 51 (0, 0)) := (hk1 vb hne).trans hv
  obtain ⟨w2, cur2, hr2, hg2, hc2, hk2, hb2⟩ := copy_rb (w := w1) hg1 k (l.length + 1 - k) (cap - k) vb 0 1 1 [x] 3 (by show 1 = _; exact (Nat.min_eq_left (by omega)).symm) (by show k + 1 ≤ cap; omega) (fun j v hj => by
    rw [Nat.zero_mul, Nat.zero_add, cell_of_row _ _ _ _ _ _ hv1]
    rw [show gcells r3 [x] = r3 x by simp [gcells]] at hj
    simpa [r3] using hj)
  have h7 := hg.2
  have h8 : cur.toList.length = cur.size := by simp
  have HF := hid (put_shift (x := x) hk ht (by omega) hc1 hc2)
  clear h7 h8
  have HB1 : Hid (Below g W w1) := hid ((below_drew (Below.refl g W)).trans hb1)
  have HG2 := hid hg2
  have HBB : Hid (Below base W w2) := hid (((below_drew (Below.refl g W)).trans (hb1.trans hb2)).mono hgb)
  have hl2 : (l.length : Int) ≤ 1000 := by omega
  have hk0 : ¬ ((k : Int) = (l.length : Int)) := by omega
  have hk00 : ((k : Int) == (l.length : Int)) = false := by rw [beq_eq_false_iff_ne]; exact hk0
  have hcp : ¬ ((cap : Int) < (l.length : Int) + 1) := by omega
  have hda : ∀ i, i < cap → dropA (some ⟨g, 0, none⟩) cap i 3 = some ⟨g, i * 3, none⟩ := fun i hi => by
    rw [dropA, if_neg (by omega)]
    simp [add_none]
  have hs1 : ∀ w : World, (Instr.slice 25 (.slice (some ⟨g, 0, none⟩) l.length cap) (some (.int .i64 (k : Int))) none none).run Try.prog w = .ok (.slice (some ⟨g, k * 3, none⟩) (l.length - k) (cap - k)) w := fun w => by
    have := run_from (P := Try.prog) Try.underlying25 info_trow (some ⟨g, 0, none⟩) l.length cap k (by omega) w
    rwa [hda k (by omega)] at this
  have hs2 : ∀ w : World, (Instr.slice 25 (.slice (some ⟨g, 0, none⟩) l.length cap) none (some (.int .i64 ((l.length : Int) + 1))) none).run Try.prog w = .ok (.slice (some ⟨g, 0, none⟩) (l.length + 1) cap) w := fun w => run_to (P := Try.prog) Try.underlying25 info_trow (some ⟨g, 0, none⟩) l.length cap (l.length + 1) hroom w
  have hs3 : ∀ w : World, (Instr.slice 25 (.slice (some ⟨g, 0, none⟩) (l.length + 1) cap) (some (.int .i64 ((k : Int) + 1))) none none).run Try.prog w = .ok (.slice (some ⟨g, (k + 1) * 3, none⟩) (l.length - k) (cap - (k + 1))) w := fun w => by
    have := run_from (P := Try.prog) Try.underlying25 info_trow (some ⟨g, 0, none⟩) (l.length + 1) cap (k + 1) (by omega) w
    rwa [hda (k + 1) (by omega), show l.length + 1 - (k + 1) = l.length - k by omega] at this
  have hs4 : ∀ w : World, (Instr.slice 25 (.slice (some ⟨g, 0, none⟩) (l.length + 1) cap) (some (.int .i64 (k : Int))) none none).run Try.prog w = .ok (.slice (some ⟨g, k * 3, none⟩) (l.length + 1 - k) (cap - k)) w := fun w => by
    have := run_from (P := Try.prog) Try.underlying25 info_trow (some ⟨g, 0, none⟩) (l.length + 1) cap k (by omega) w
    rwa [hda k (by omega)] at this
  have HLN : Hid (l.length + 1 ≤ cap) := hid hroom
  have HOV := hid (hov (l.length - k) (cap - (k + 1)))
  have HR1 := hid hr1
  rw [Nat.zero_mul] at hr2
  have HR2 := hid hr2
  have HCM := hid hcm
  have HTL : Hid ((gcells r3 (l.take k ++ x :: l.drop k)).length = (l.length + 1) * 3) := hid (by rw [g3_len]; simp; omega)
  generalize gcells r3 (l.take k ++ x :: l.drop k) = res at *
  generalize (l.drop k).length = dl at *
  clear hov hcs hdl hr1 hr2 hg1 hg2 hc1 hc2 hk1 hk2 hb1 hb2 hv1 hg ht hv hda hroom hcm
  generalize hln : l.length = n at *
  clear hln
  have hw1 : IntKind.i64.wrap ((k : Int) + 1) = (k : Int) + 1 := by rw [IntKind.wrap_i64]; omega
  have hov := HOV.out
  go_enter Try.func26, Try.ntmps26
  go_upto_region 15 with (simp only [hov])
  clear hov
  refine wp_region_held_drew (S := fun U => Below g W U) (by kernel_rfl) (below_drew (Below.refl _ _)) (fun hHeld => ?_)
  refine wpAnyH_take (i := 0) (v := ?_) rfl (by kernel_rfl) (by kernel_rfl) (by kernel_rfl) (fun _ _ _ h => h) (Or.inl ⟨by rfl, ?_⟩) (by assumption) ?_
  rotate_left
  focus
    intro U hU
    try dsimp only at hU
    go_simp
    try (with_reducible rfl)
  try simp only [List.getElem_toArray, List.getElem_cons_succ, List.getElem_cons_zero, Act.put, List.setIfInBounds_toArray, List.set_cons_zero, List.set_cons_succ]
  refine wpAnyH_take (i := 1) (v := ?_) rfl (by kernel_rfl) (by kernel_rfl) (by kernel_rfl) (fun _ _ _ h => h) (Or.inl ⟨by rfl, ?_⟩) (by assumption) ?_
  rotate_left
  focus
    intro U hU
    try dsimp only at hU
    go_simp
    try (with_reducible rfl)
  try simp only [List.getElem_toArray, List.getElem_cons_succ, List.getElem_cons_zero, Act.put, List.setIfInBounds_toArray, List.set_cons_zero, List.set_cons_succ]
  refine wpAnyH_take (i := 2) (v := ?_) rfl (by kernel_rfl) (by kernel_rfl) (by kernel_rfl) (fun _ _ _ h => h) (Or.inl ⟨by rfl, ?_⟩) (by assumption) ?_
  rotate_left
  focus
    intro U hU
    try dsimp only at hU
    go_simp
    try (with_reducible rfl)
  try simp only [List.getElem_toArray, List.getElem_cons_succ, List.getElem_cons_zero, Act.put, List.setIfInBounds_toArray, List.set_cons_zero, List.set_cons_succ]
  refine wpAnyH_take (i := 3) (v := ?_) rfl (by kernel_rfl) (by kernel_rfl) (by kernel_rfl) (fun _ _ _ h => h) (Or.inl ⟨by rfl, ?_⟩) (by assumption) ?_
  rotate_left
  focus
    intro U hU
    try dsimp only at hU
    go_simp
    try (with_reducible rfl)
  try simp only [List.getElem_toArray, List.getElem_cons_succ, List.getElem_cons_zero, Act.put, List.setIfInBounds_toArray, List.set_cons_zero, List.set_cons_succ]
  refine wpAnyH_take (i := 4) (v := ?_) rfl (by kernel_rfl) (by kernel_rfl) (by kernel_rfl) (fun _ _ _ h => h) (Or.inl ⟨by rfl, ?_⟩) (by assumption) ?_
  rotate_left
  focus
    intro U hU
    try dsimp only at hU
    go_simp
    try (with_reducible rfl)
  try simp only [List.getElem_toArray, List.getElem_cons_succ, List.getElem_cons_zero, Act.put, List.setIfInBounds_toArray, List.set_cons_zero, List.set_cons_succ]
  refine wpAnyH_take (i := 5) (v := ?_) rfl (by kernel_rfl) (by kernel_rfl) (by kernel_rfl) (fun _ _ _ h => h) (Or.inl ⟨by rfl, ?_⟩) (by assumption) ?_
  rotate_left
  focus
    intro U hU
    try dsimp only at hU
    go_simp
    try (with_reducible rfl)
  try simp only [List.getElem_toArray, List.getElem_cons_succ, List.getElem_cons_zero, Act.put, List.setIfInBounds_toArray, List.set_cons_zero, List.set_cons_succ]
  refine wpAnyH_take (i := 6) (v := ?_) rfl (by kernel_rfl) (by kernel_rfl) (by kernel_rfl) (fun _ _ _ h => h) (Or.inl ⟨by rfl, ?_⟩) (by assumption) ?_
  rotate_left
  focus
    intro U hU
    try dsimp only at hU
    go_simp
    try (with_reducible rfl)
  try simp only [List.getElem_toArray, List.getElem_cons_succ, List.getElem_cons_zero, Act.put, List.setIfInBounds_toArray, List.set_cons_zero, List.set_cons_succ]
  refine wpAnyH_take (i := 7) (v := ?_) rfl (by kernel_rfl) (by kernel_rfl) (by kernel_rfl) (fun _ _ _ h => h) (Or.inl ⟨by rfl, ?_⟩) (by assumption) ?_
  rotate_left
  focus
    intro U hU
    try dsimp only at hU
    go_simp
    try (with_reducible rfl)
  try simp only [List.getElem_toArray, List.getElem_cons_succ, List.getElem_cons_zero, Act.put, List.setIfInBounds_toArray, List.set_cons_zero, List.set_cons_succ]
  refine wpAnyH_ready (rs := [8]) (by kernel_rfl) (by simp) ?_
  refine AllReadyH.cons rfl (fun K hK => ?_) AllReadyH.nil
  refine step_copy_run rfl (.tmp 73) (.tmp 76) 25 25 rfl _ _ rfl rfl HR1.out ?_
  refine hK.out _ _ ?_ (fun hHeld2 => ?_)
  focus
    exact HB1.out
  clear hHeld
  have hHeld := hHeld2
  clear hHeld2 hK K
  try simp only [List.getElem_toArray, List.getElem_cons_succ, List.getElem_cons_zero, Act.put, List.setIfInBounds_toArray, List.set_cons_zero, List.set_cons_succ]
  refine wpAnyH_done (by kernel_rfl) ?_ _
  clear hHeld
  go_wp2_with fail
  rw [HR2.out]
  go_wp2
  go_ret
  exact ⟨.slice (some ⟨g, 0, none⟩) (n + 1) cap, rfl, ⟨HTL.out, .inr ⟨g, cap, cur2, rfl, hgb, HG2.out.1, HLN.out, HCM.out, HG2.out.2, HF.out⟩⟩, HBB.out⟩
end Go.Proofs.Ytjdlomdhaoadkaa
