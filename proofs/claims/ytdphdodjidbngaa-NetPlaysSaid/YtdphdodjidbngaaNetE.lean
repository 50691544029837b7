/- net: Take. -/
import Derived.Test.YtdphdodjidbngaaNetD
import Derived.Test.YtdphdodjidbngaaOpn
import Derived.Laws.CopyOwn
import Derived.Laws.CopyRow
namespace Go.Proofs.Ytdphdodjidbngaa
open Go.RowKit
set_option linter.unusedVariables false
set_option linter.unusedSimpArgs false

theorem set_four {w : World} {b t : Nat} {x y z u : Value} (h : w.heap[b]? = some (.cells #[x, y, z, u] t (0, 0))) (x' y' z' u' : Value) :
    ((((w.setCell ⟨b, 0, none⟩ x').setCell ⟨b, 1, none⟩ y').setCell ⟨b, 2, none⟩ z').setCell ⟨b, 3, none⟩ u').heap[b]? = some (.cells #[x', y', z', u'] t (0, 0)) ∧ ∀ g, g ≠ b → ((((w.setCell ⟨b, 0, none⟩ x').setCell ⟨b, 1, none⟩ y').setCell ⟨b, 2, none⟩ z').setCell ⟨b, 3, none⟩ u').heap[g]? = w.heap[g]? := by
  have h1 := heap_setCell_same w b 0 _ _ x' h
  have h2 := heap_setCell_same _ b 1 _ _ y' h1
  have h3 := heap_setCell_same _ b 2 _ _ z' h2
  have h4 := heap_setCell_same _ b 3 _ _ u' h3
  refine ⟨h4, fun g hg => ?_⟩
  rw [Below.heap_setCell _ _ _ _ hg, Below.heap_setCell _ _ _ _ hg, Below.heap_setCell _ _ _ _ hg, Below.heap_setCell _ _ _ _ hg]
theorem own_other2 {w w' : World} {base e s n : Nat} {v : Value} {xs : List Value} (h : w.ownsRow base e s v n xs) (hk : ∀ g, v.ownBlock = some g → w'.heap[g]? = w.heap[g]?) : w'.ownsRow base e s v n xs := by
  refine ⟨h.1, ?_⟩
  rcases h.2 with h2 | ⟨g, cap, cur, h3, h4, h5, h6⟩
  · exact .inl h2
  · exact .inr ⟨g, cap, cur, h3, h4, (hk g (by rw [h3]; rfl)).trans h5, h6⟩
/-- copy between rows of elements of any size: all is read before anything is written. -/
theorem run_copy_rowN {P : Program} (w : World) (dT sT ty elem : TypeId) (g o dLen dCap size : Nat) (a : Addr) (sLen sCap : Nat) (cur : Array Value) (t : TypeId) (cs : List Value)
    (hu : P.underlying dT = some (.slice elem)) (hs : (P.info? elem).map (·.size) = some size)
    (hg : w.heap[g]? = some (.cells cur t (0, 0))) (hn : cs.length = Nat.min sLen dLen * size)
    (hsrc : ∀ j v, cs[j]? = some v → w.cell? (a.add j) = some v) (hfit : o + cs.length ≤ cur.size) (h1 : ∀ v ∈ cs, v.oneCell' = true) :
    (Builtin.copy_ #[dT, sT] ty #[.slice (some ⟨g, o, none⟩) dLen dCap, .slice (some a) sLen sCap]).run P w =
      .ok (goInt (Nat.min sLen dLen)) (w.setRow g (cur.toList.take o ++ cs ++ cur.toList.drop (o + cs.length)).toArray) := by
  have hl := run_loadCells_list (P := P) w a cs hsrc
  have hst := run_storeCells_at P g o t cs 0 cur w hg (by simpa using hfit) h1
  cases hq : P.info? elem with
  | none => simp [hq] at hs
  | some i =>
    have hi : i.size = size := by simpa [hq] using hs
    rw [hn] at hl
    rw [hn]
    rw [hn] at hst
    simp [Builtin.copy_, run_underlying hu, Builtin.lenOf, Builtin.firstCells, sizeOf, typeInfo, hq, hi, hl, hst]
theorem step_copy_run {P : Program} {ops : Array Oper} {o : Oper} {a : Act} {w : World} {K : Act → World → Prop} {Q : Exit → Act → World → Prop} {E : Prop} (hgd : o.guard = none) (d s : Operand) (t t' : TypeId)
    (ho : o.op = .call { callee := .builtin .copy, args := #[d, s], argTypes := #[t, t'] }) (v u : Value) (hd : a.eval d = v) (hs : a.eval s = u) {v' : Value} {w' : World}
    (hr : (Builtin.copy_ #[t, t'] o.type #[v, u]).run P w = .ok v' w') (h : K (a.put o.dst v') w') : if Region.wanted o (yielded ops a.tmps) = true then Oper.wp P o a w K Q else E := by
  have hw : Region.wanted o (yielded ops a.tmps) = true := by simp [Region.wanted, hgd]
  rw [if_pos hw]
  unfold Oper.wp execOp
  simp only [ho, resolve, invoke, builtin, Sem.run_bind, Sem.run_pure, Result.andThen_ok, List.map_toArray, List.map_cons, List.map_nil, hd, hs, hr]
  exact h
theorem tcells_take (l : List Tg) (k : Nat) : (tcells l).take (k * 4) = tcells (l.take k) := by
  induction l generalizing k with
  | nil => simp [tcells]
  | cons x l ih =>
    match k with
    | 0 => simp [tcells]
    | k + 1 => rw [List.take_succ_cons, tcells_cons, tcells_cons, show (k + 1) * 4 = k * 4 + 1 + 1 + 1 + 1 by omega, List.take_succ_cons, List.take_succ_cons, List.take_succ_cons, List.take_succ_cons, ih]
theorem tcells_drop (l : List Tg) (k : Nat) : (tcells l).drop (k * 4) = tcells (l.drop k) := by
  induction l generalizing k with
  | nil => simp [tcells]
  | cons x l ih =>
    match k with
    | 0 => simp
    | k + 1 => rw [List.drop_succ_cons, tcells_cons, show (k + 1) * 4 = k * 4 + 1 + 1 + 1 + 1 by omega, List.drop_succ_cons, List.drop_succ_cons, List.drop_succ_cons, List.drop_succ_cons, ih]
/-- What 'copy(s[k:], s[k+1:])' leaves. -/
theorem shift_things {w : World} {base g cap : Nat} {l : List Tg} (h : w.ownsRow base 60 4 (.slice (some ⟨g, 0, none⟩) l.length cap) l.length (tcells l)) (k : Nat) (hk : k < l.length) (ty : TypeId) :
    ∃ w', (Builtin.copy_ #[68, 68] ty #[.slice (dropA (some ⟨g, 0, none⟩) cap k 4) (l.length - k) (cap - k), .slice (dropA (some ⟨g, 0, none⟩) cap (k + 1) 4) (l.length - (k + 1)) (cap - (k + 1))]).run Try.prog w = .ok (goInt ((l.length - (k + 1) : Nat) : Int)) w' ∧
      w'.ownsRow base 60 4 (.slice (some ⟨g, 0, none⟩) (l.length - 1) cap) (l.length - 1) (tcells (l.eraseIdx k)) ∧ Below base w w' ∧ (∀ j, j ≠ g → w'.heap[j]? = w.heap[j]?) := by
  have hsl := sl_own h
  rcases h.2 with ⟨h', _⟩ | ⟨g', cap', cur, h', hb, hg, hnc, hcm, hcs, ht⟩
  · simp at h'
  · simp only [Value.slice.injEq, Option.some.injEq, Addr.mk.injEq, and_true, true_and] at h'
    obtain ⟨rfl, rfl⟩ := h'
    have hcl : l.length * 4 ≤ cur.size := by rw [hcs]; omega
    have hsd := hsl.drop (k + 1) (by omega)
    rw [tcells_drop] at hsd
    have hmin : Nat.min (l.length - (k + 1)) (l.length - k) = l.length - (k + 1) := Nat.min_eq_left (by omega)
    have hd : dropA (some ⟨g, 0, none⟩) cap k 4 = some ⟨g, k * 4, none⟩ := by
      rw [dropA, if_neg (by omega)]
      simp [add_none]
    have hlen : (tcells (l.drop (k + 1))).length = (l.length - (k + 1)) * 4 := by rw [tcells_length, List.length_drop]
    obtain ⟨a2, ha2⟩ : ∃ a2, dropA (some ⟨g, 0, none⟩) cap (k + 1) 4 = some a2 := by
      rw [dropA]
      split
      · exact ⟨_, rfl⟩
      · exact ⟨_, rfl⟩
    have hrun := run_copy_rowN (P := Try.prog) w 68 68 ty 60 g (k * 4) (l.length - k) (cap - k) 4 a2 (l.length - (k + 1)) (cap - (k + 1)) cur _ (tcells (l.drop (k + 1))) Try.underlying68 (by kernel_rfl) hg (by rw [hlen, hmin]) (fun j v hj => by
      have hjl := (List.getElem?_eq_some_iff.1 hj).1
      obtain ⟨b2, off2, hbo, hc⟩ := hsd.2.2.2 (by omega)
      rw [ha2] at hbo
      cases hbo
      rw [add_none, hc j hjl, hj]) (by rw [hlen]; omega) (tcells_one _)
    rw [hd, ha2, hrun, hmin]
    refine ⟨_, rfl, ⟨by rw [tcells_length, List.length_eraseIdx_of_lt hk], .inr ⟨g, cap, _, rfl, hb, setRow_heap w g cur _ _ _ hg, by omega, hcm, ?_, ?_⟩⟩, below_setRow (Below.refl _ _) hb _, fun j hj => ?_⟩
    · simp only [List.size_toArray, List.length_append, List.length_take, List.length_drop, Array.length_toList, hlen, hcs]
      omega
    · simp only [List.toList_toArray]
      rw [List.take_append_of_le_length (by simp only [List.length_append, List.length_take, Array.length_toList, hlen]; omega), List.take_of_length_le (by simp only [List.length_append, List.length_take, Array.length_toList, hlen]; omega)]
      rw [List.eraseIdx_eq_take_drop_succ, tcells_append, ← tcells_take, ← ht, List.take_take, Nat.min_eq_left (by omega)]
    · exact setRow_other w g j _ hj

set_option maxRecDepth 20000 in
set_option maxHeartbeats 4000000 in
theorem ntake_out (B b : Nat) (m : Int) (l : List Tg) (k : Int) (W : World) (h : NetAt B b m l W) (hk : k < 0 ∨ (l.length : Int) ≤ k) : Calls Try.prog 27 #[.pointer (some ⟨b, 0, none⟩), .int .i64 k] W fun e w' => e = .returned (.tuple #[.agg #[.int .i64 0, .int .i64 0, .string ⟨#[]⟩, .bool false], .int .i64 6]) ∧ Below W.heap.size W w' := by
  have HF := hid (fun w (hw : Below W.heap.size W w) => nfind_any B b m l k w (h.below hw))
  rw [if_pos hk] at HF
  clear h hk
  go_enter Try.func27, Try.ntmps27
  go_wp2_with fail
  refine (HF.out _ ((Below.refl _ _).alloc (Nat.le_refl _) _)).mono ?_
  rintro e w1 ⟨rfl, rfl⟩
  have hb0 : Below W.heap.size W (W.alloc (.cells #[.int .i64 0, .int .i64 0, .string ⟨#[]⟩, .bool false] 60)) := (Below.refl W.heap.size W).alloc (Nat.le_refl _) _
  obtain ⟨⟨q0, q1, q2, q3⟩, _⟩ := four_cells (heap_alloc_new W (.cells #[.int .i64 0, .int .i64 0, .string ⟨#[]⟩, .bool false] 60))
  go_wp2
  exact bodyPost_ret (v := .tuple #[.agg #[.int .i64 0, .int .i64 0, .string ⟨#[]⟩, .bool false], .int .i64 6]) (by simp [results, Try.results27, go_sem, q0, q1, q2, q3]) rfl ⟨rfl, hb0⟩

set_option maxRecDepth 20000 in
set_option maxHeartbeats 4000000 in
theorem ntake_any (B b : Nat) (m : Int) (l : List Tg) (k : Nat) (W : World) (h : NetAt B b m l W) (hB : B ≤ W.heap.size) (hl : l.length ≤ 100000) (hk : k < l.length) : Calls Try.prog 27 #[.pointer (some ⟨b, 0, none⟩), .int .i64 (k : Int)] W fun e w' => e = .returned (.tuple #[.agg (tc l[k]), .int .i64 0]) ∧ NetAt B b m (l.eraseIdx k) w' ∧ Below B W w' ∧ Othr b W w' := by
  have HF := hid (fun w (hw : Below W.heap.size W w) => nfind_any B b m l (k : Int) w (h.below hw))
  rw [if_neg (by omega)] at HF
  have hlt := h.lt
  obtain ⟨h0, A, c, h1, h2⟩ := h
  have HNB := hid (own_blk_lt h2)
  obtain ⟨g, cap, hA, hgB, hnc, hcm, hcl, _, hgl⟩ := own_open h2 (by omega) (by omega)
  cases hA
  have hkl := hk
  have H11 := hid h1
  have HO1 := hid h2
  have hx := tcells_get l k hk
  have y0 := hcl (k * 4) (by rw [tcells_length]; omega)
  have y1 := hcl (k * 4 + 1) (by rw [tcells_length]; omega)
  have y2 := hcl (k * 4 + 2) (by rw [tcells_length]; omega)
  have y3 := hcl (k * 4 + 3) (by rw [tcells_length]; omega)
  rw [List.getElem?_eq_getElem (by rw [tcells_length]; omega), List.getElem?_eq_getElem (by rw [tcells_length]; omega), List.getElem?_eq_getElem (by rw [tcells_length]; omega), List.getElem?_eq_getElem (by rw [tcells_length]; omega)] at hx
  obtain ⟨e0, e1, e2, e3⟩ := hx
  rw [Option.some.inj e0] at y0
  rw [Option.some.inj e1] at y1
  rw [Option.some.inj e2] at y2
  rw [Option.some.inj e3] at y3
  have HX := hid (rfl : l[k] = l[k])
  generalize hxk : l[k] = x at y0 y1 y2 y3 ⊢
  clear HX hcl e0 e1 e2 e3 h1 h2 hxk
  obtain ⟨xf, xt, xs, xb⟩ := x
  simp only [tc]
  have Y := hid (And.intro y0.1 (And.intro y1.1 (And.intro y2.1 y3.1)))
  clear y0 y1 y2 y3
  have hk2 : (k : Int) < (l.length : Int) := by omega
  have hkw : IntKind.i64.wrap ((k : Int) + 1) = ((k + 1 : Nat) : Int) := by simp [IntKind.wrap, IntKind.bits, IntKind.signed]; omega
  go_enter Try.func27, Try.ntmps27
  go_wp2_with fail
  refine (HF.out _ ((Below.refl _ _).alloc (Nat.le_refl _) _)).mono ?_
  rintro e w1 ⟨rfl, rfl⟩
  have hb0 : Below W.heap.size W (W.alloc (.cells #[.int .i64 0, .int .i64 0, .string ⟨#[]⟩, .bool false] 60)) := (Below.refl W.heap.size W).alloc (Nat.le_refl _) _
  refine at_world (fun w => w.heap[W.heap.size]? = some (.cells #[.int .i64 0, .int .i64 0, .string ⟨#[]⟩, .bool false] 60 (0, 0)) ∧ Below W.heap.size W w) ⟨heap_alloc_new _ _, hb0⟩ ?_
  clear hb0 HF
  rintro w1 ⟨hr, hb⟩
  have HB1 := hid hb
  have HR1 := hid hr
  obtain ⟨c0, c1, f0, f1⟩ := two_cells (keep0 H11.out hb)
  have y0 := cellb hb Y.out.1
  have y1 := cellb hb Y.out.2.1
  have y2 := cellb hb Y.out.2.2.1
  have y3 := cellb hb Y.out.2.2.2
  clear hb hr
  go_upto_region 5 with (fail)
  have hb1 : Below w1.heap.size w1 (w1.alloc (.cells #[.int .i64 xf, .int .i64 xt, .string (str xs), .bool xb] 60)) := (Below.refl _ _).alloc (Nat.le_refl _) _
  refine at_world (fun w => w.heap[W.heap.size]? = some (.cells #[.int .i64 0, .int .i64 0, .string ⟨#[]⟩, .bool false] 60 (0, 0)) ∧ w.heap[w1.heap.size]? = some (.cells #[.int .i64 xf, .int .i64 xt, .string (str xs), .bool xb] 60 (0, 0)) ∧ Below W.heap.size W w) ⟨keep0 HR1.out hb1, heap_alloc_new _ _, HB1.out.trans (hb1.mono HB1.out.size)⟩ ?_
  clear hb1
  rintro w2 ⟨hr, hx, hb⟩
  have HRX := hid (lt_of_block HR1.out)
  have HB2 := hid hb
  have HR2 := hid hr
  have HX2 := hid hx
  have HO2 := hid (own_keep HO1.out hb)
  have H12 := hid (keep0 H11.out hb)
  clear hr hx hb c0 c1 f0 f1 HR1 HB1 y0 y1 y2 y3
  generalize w1.heap.size = X at *
  obtain ⟨c0, c1, f0, f1⟩ := two_cells H12.out
  have hbs : B ≤ w2.heap.size := Nat.le_trans hB HB2.out.size
  have hS : ∀ U, Below w2.heap.size w2 U → (U.cell? ⟨b, 1, none⟩ = some (.slice (some ⟨g, 0, none⟩) l.length c) ∧ Below B w2 U) := fun U hU => ⟨cellb hU c1, hU.mono hbs⟩
  have hs1 : ∀ w : World, (Instr.slice 68 (.slice (some ⟨g, 0, none⟩) l.length c) (some (.int .i64 (k : Int))) none none).run Try.prog w = .ok (.slice (dropA (some ⟨g, 0, none⟩) c k 4) (l.length - k) (c - k)) w := run_from Try.underlying68 info_thing _ _ _ k (by omega)
  have hs2 : ∀ w : World, (Instr.slice 68 (.slice (some ⟨g, 0, none⟩) l.length c) (some (.int .i64 ((k : Int) + 1))) none none).run Try.prog w = .ok (.slice (dropA (some ⟨g, 0, none⟩) c (k + 1) 4) (l.length - (k + 1)) (c - (k + 1))) w := run_from Try.underlying68 info_thing _ _ _ (k + 1) (by omega)
  refine wp_region_held_drew (S := (fun U => U.cell? ⟨b, 1, none⟩ = some (.slice (some ⟨g, 0, none⟩) l.length c) ∧ Below B w2 U)) (by kernel_rfl) (hS _ (below_drew (Below.refl _ _))) (fun hHeld => ?_)
  refine wpAnyH_take (i := 0) (v := ?_) rfl (by kernel_rfl) (by kernel_rfl) (by kernel_rfl) (fun _ _ _ h => h) (Or.inl ⟨by rfl, ?_⟩) (by assumption) ?_
  rotate_left
  focus
    intro U hU
    try dsimp only at hU
    go_simp
    try (with_reducible rfl)
  simp only [List.getElem_toArray, List.getElem_cons_succ, List.getElem_cons_zero, Act.put, List.setIfInBounds_toArray, List.set_cons_zero, List.set_cons_succ]
  refine wpAnyH_take (i := 1) (v := ?_) rfl (by kernel_rfl) (by kernel_rfl) (by kernel_rfl) (fun _ _ _ h => h) (Or.inl ⟨by rfl, ?_⟩) (by assumption) ?_
  rotate_left
  focus
    intro U hU
    try dsimp only at hU
    go_simp
    try (with_reducible rfl)
  simp only [List.getElem_toArray, List.getElem_cons_succ, List.getElem_cons_zero, Act.put, List.setIfInBounds_toArray, List.set_cons_zero, List.set_cons_succ]
  refine wpAnyH_take (i := 2) (v := ?_) rfl (by kernel_rfl) (by kernel_rfl) (by kernel_rfl) (fun _ _ _ h => h) (Or.inl ⟨by rfl, ?_⟩) (by assumption) ?_
  rotate_left
  focus
    intro U hU
    try dsimp only at hU
    go_simp
    try (with_reducible rfl)
  simp only [List.getElem_toArray, List.getElem_cons_succ, List.getElem_cons_zero, Act.put, List.setIfInBounds_toArray, List.set_cons_zero, List.set_cons_succ]
  refine wpAnyH_take (i := 3) (v := ?_) rfl (by kernel_rfl) (by kernel_rfl) (by kernel_rfl) (fun _ _ _ h => h) (Or.inl ⟨by rfl, ?_⟩) (by assumption) ?_
  rotate_left
  focus
    intro U hU
    try dsimp only at hU
    go_simp
    try (with_reducible rfl)
  simp only [List.getElem_toArray, List.getElem_cons_succ, List.getElem_cons_zero, Act.put, List.setIfInBounds_toArray, List.set_cons_zero, List.set_cons_succ]
  refine wpAnyH_take (i := 4) (v := ?_) rfl (by kernel_rfl) (by kernel_rfl) (by kernel_rfl) (fun _ _ _ h => h) (Or.inl ⟨by rfl, ?_⟩) (by assumption) ?_
  rotate_left
  focus
    intro U hU
    try dsimp only at hU
    go_simp
    try (with_reducible rfl)
  simp only [List.getElem_toArray, List.getElem_cons_succ, List.getElem_cons_zero, Act.put, List.setIfInBounds_toArray, List.set_cons_zero, List.set_cons_succ]
  refine wpAnyH_take (i := 5) (v := ?_) rfl (by kernel_rfl) (by kernel_rfl) (by kernel_rfl) (fun _ _ _ h => h) (Or.inl ⟨by rfl, ?_⟩) (by assumption) ?_
  rotate_left
  focus
    intro U hU
    try dsimp only at hU
    go_simp
    try (with_reducible rfl)
  simp only [List.getElem_toArray, List.getElem_cons_succ, List.getElem_cons_zero, Act.put, List.setIfInBounds_toArray, List.set_cons_zero, List.set_cons_succ]
  refine wpAnyH_take (i := 6) (v := ?_) rfl (by kernel_rfl) (by kernel_rfl) (by kernel_rfl) (fun _ _ _ h => h) (Or.inl ⟨by rfl, ?_⟩) (by assumption) ?_
  rotate_left
  focus
    intro U hU
    try dsimp only at hU
    go_simp
    try (with_reducible rfl)
  simp only [List.getElem_toArray, List.getElem_cons_succ, List.getElem_cons_zero, Act.put, List.setIfInBounds_toArray, List.set_cons_zero, List.set_cons_succ]
  refine wpAnyH_take (i := 7) (v := ?_) rfl (by kernel_rfl) (by kernel_rfl) (by kernel_rfl) (fun _ _ _ h => h) (Or.inl ⟨by rfl, ?_⟩) (by assumption) ?_
  rotate_left
  focus
    intro U hU
    try dsimp only at hU
    go_simp
    try (with_reducible rfl)
  simp only [List.getElem_toArray, List.getElem_cons_succ, List.getElem_cons_zero, Act.put, List.setIfInBounds_toArray, List.set_cons_zero, List.set_cons_succ]
  refine wpAnyH_take (i := 8) (v := ?_) rfl (by kernel_rfl) (by kernel_rfl) (by kernel_rfl) (fun _ _ _ h => h) (Or.inl ⟨by rfl, ?_⟩) (by assumption) ?_
  rotate_left
  focus
    intro U hU
    try dsimp only at hU
    go_simp
    try (with_reducible rfl)
  simp only [List.getElem_toArray, List.getElem_cons_succ, List.getElem_cons_zero, Act.put, List.setIfInBounds_toArray, List.set_cons_zero, List.set_cons_succ]
  refine wpAnyH_take (i := 9) (v := ?_) rfl (by kernel_rfl) (by kernel_rfl) (by kernel_rfl) (fun _ _ _ h => h) (Or.inl ⟨by rfl, ?_⟩) (by assumption) ?_
  rotate_left
  focus
    intro U hU
    try dsimp only at hU
    go_simp
    try (with_reducible rfl)
  simp only [List.getElem_toArray, List.getElem_cons_succ, List.getElem_cons_zero, Act.put, List.setIfInBounds_toArray, List.set_cons_zero, List.set_cons_succ]
  refine wpAnyH_take (i := 10) (v := ?_) rfl (by kernel_rfl) (by kernel_rfl) (by kernel_rfl) (fun _ _ _ h => h) (Or.inl ⟨by rfl, ?_⟩) (by assumption) ?_
  rotate_left
  focus
    intro U hU
    try dsimp only at hU
    go_simp
    try (with_reducible rfl)
  simp only [List.getElem_toArray, List.getElem_cons_succ, List.getElem_cons_zero, Act.put, List.setIfInBounds_toArray, List.set_cons_zero, List.set_cons_succ]
  refine wpAnyH_take (i := 11) (v := ?_) rfl (by kernel_rfl) (by kernel_rfl) (by kernel_rfl) (fun _ _ _ h => h) (Or.inl ⟨by rfl, ?_⟩) (by assumption) ?_
  rotate_left
  focus
    intro U hU
    try dsimp only at hU
    go_simp
    try (with_reducible rfl)
  simp only [List.getElem_toArray, List.getElem_cons_succ, List.getElem_cons_zero, Act.put, List.setIfInBounds_toArray, List.set_cons_zero, List.set_cons_succ]
  refine wpAnyH_take (i := 12) (v := ?_) rfl (by kernel_rfl) (by kernel_rfl) (by kernel_rfl) (fun _ _ _ h => h) (Or.inl ⟨by rfl, ?_⟩) (by assumption) ?_
  rotate_left
  focus
    intro U hU
    try dsimp only at hU
    go_simp
    try (with_reducible rfl)
  simp only [List.getElem_toArray, List.getElem_cons_succ, List.getElem_cons_zero, Act.put, List.setIfInBounds_toArray, List.set_cons_zero, List.set_cons_succ]
  refine wpAnyH_ready (rs := [13]) (by kernel_rfl) (by simp) ?_
  refine (AllReadyH.cons rfl (fun K hK => ?_) AllReadyH.nil)
  obtain ⟨w3, hrun, ho3, hb3, hk3⟩ := shift_things (w := w2.drew) HO2.out k hk 3
  refine step_copy_run rfl (.tmp 27) (.tmp 34) 68 68 rfl _ _ rfl rfl hrun ?_
  have hbg : b ≠ g := fun e => own_blk_ne2 HO2.out H12.out (by decide) (by rw [e]; rfl)
  have H13 := (hk3 b hbg).trans H12.out
  have HB3 := hid (show Below B w2 w3 from (below_drew (Below.refl B w2)).trans hb3)
  have hS3 := And.intro (two_cells H13).2.1 HB3.out
  refine hK.out _ _ ?_ (fun hHeld2 => ?_)
  focus
    exact hS3
  clear hHeld
  have hHeld := hHeld2
  clear hHeld2 hK K
  try simp only [List.getElem_toArray, List.getElem_cons_succ, List.getElem_cons_zero, Act.put, List.setIfInBounds_toArray, List.set_cons_zero, List.set_cons_succ]
  refine wpAnyH_done (by kernel_rfl) ?_ _
  have hgW : g < W.heap.size := hgl
  have hR3 := (hk3 W.heap.size (by omega)).trans HR2.out
  have hX3 := (hk3 X (by have := HRX.out; omega)).trans HX2.out
  have HK3 := hid hk3
  have HO3 := hid ho3
  have HR3 := hid hR3
  have HX3 := hid hX3
  have H13' := hid H13
  clear hHeld hS hs1 hs2 hS3 hrun hb3 hk3 ho3 c0 c1 f0 f1 hR3 hX3
  obtain ⟨c0, c1, f0, f1⟩ := two_cells H13
  clear H13
  have hsub : IntKind.i64.wrap ((l.length : Int) - 1) = (l.length : Int) - 1 := by simp [IntKind.wrap, IntKind.bits, IntKind.signed]; omega
  have hcast : ((l.length : Int) - 1) = ((l.length - 1 : Nat) : Int) := by omega
  have hs3 : ∀ w : World, (Instr.slice 68 (.slice (some ⟨g, 0, none⟩) l.length c) none (some (.int .i64 ((l.length : Int) - 1))) none).run Try.prog w = .ok (.slice (some ⟨g, 0, none⟩) (l.length - 1) c) w := fun w => by
    rw [hcast]
    exact run_to Try.underlying68 info_thing _ _ _ (l.length - 1) (by omega) w
  clear hcast
  go_upto_region 6 with (fail)
  go_region
  have hRb : W.heap.size ≠ b := by omega
  have hXb : X ≠ b := by have := HRX.out; omega
  have hb9 : Below B W w3 := (HB2.out.mono hB).trans HB3.out
  refine at_world (fun w => w.heap[W.heap.size]? = some (.cells #[.int .i64 0, .int .i64 0, .string ⟨#[]⟩, .bool false] 60 (0, 0)) ∧ w.heap[X]? = some (.cells #[.int .i64 xf, .int .i64 xt, .string (str xs), .bool xb] 60 (0, 0)) ∧ w.heap[b]? = some (.cells #[.int .i64 m, .slice (some ⟨g, 0, none⟩) (l.length - 1) c] 133 (0, 0)) ∧ w.ownsRow B 60 4 (.slice (some ⟨g, 0, none⟩) (l.length - 1) c) (l.length - 1) (tcells (l.eraseIdx k)) ∧ Below B W w ∧ Othr b W w) ⟨(Below.heap_setCell _ _ _ _ hRb).trans HR3.out, (Below.heap_setCell _ _ _ _ hXb).trans HX3.out, heap_setCell_same w3 b 1 _ _ _ H13'.out, own_setT HO3.out H13'.out (by decide), below_drew (hb9.setCell (p := ⟨b, 1, none⟩) h0 _), ?_⟩ ?_
  focus
    intro j cs T fr hj hT h9
    have h7 := (HB2.out.block j (lt_of_block h9)).trans h9
    have h6 : (w3.setCell ⟨b, 1, none⟩ (Value.slice (some ⟨g, 0, none⟩) (l.length - 1) c)).heap[j]? = some (.cells cs T fr) := by
      rw [Below.heap_setCell _ _ _ _ hj, HK3.out j (fun e => own_blk_ne2 HO2.out h7 (fun e2 => hT e2.symm) (by rw [e]; rfl))]
      exact h7
    exact h6
  clear HR2 HX2 HB2 HO2 H12 HK3 HR3 HX3 HO3 H13' c0 c1 f0 f1 hb9 HB3
  rintro w5 ⟨hr, hx, hn, ho, hb, hoth⟩
  obtain ⟨⟨x0, x1, x2, x3⟩, _⟩ := four_cells hx
  obtain ⟨⟨r0, r1, r2, r3⟩, p0, p1, p2, p3⟩ := four_cells hr
  have HR5 := hid hr
  have HN5 := hid hn
  have HO5 := hid ho
  have HB5 := hid hb
  have HOT := hid hoth
  clear hr hx hn ho hb hoth
  go_wp2
  have H4 := set_four HR5.out (.int .i64 xf) (.int .i64 xt) (.string (str xs)) (.bool xb)
  obtain ⟨⟨q0, q1, q2, q3⟩, _⟩ := four_cells H4.1
  have HE := hid H4.2
  clear H4
  refine bodyPost_ret (v := .tuple #[.agg #[.int .i64 xf, .int .i64 xt, .string (str xs), .bool xb], .int .i64 0]) (by simp [results, Try.results27, go_sem, q0, q1, q2, q3]) rfl ⟨rfl, ⟨h0, some ⟨g, 0, none⟩, c, ?_, ?_⟩, ?_, ?_⟩
  · rw [List.length_eraseIdx_of_lt hk]
    exact (HE.out b (fun e => hRb e.symm)).trans HN5.out
  · rw [List.length_eraseIdx_of_lt hk]
    exact own_other2 HO5.out (fun g' hg' => HE.out g' (by
      have : g = g' := by simpa [Value.ownBlock] using hg'
      omega))
  · exact (((HB5.out.setCell (p := ⟨W.heap.size, 0, none⟩) hB _).setCell (p := ⟨W.heap.size, 1, none⟩) hB _).setCell (p := ⟨W.heap.size, 2, none⟩) hB _).setCell (p := ⟨W.heap.size, 3, none⟩) hB _
  · intro j cs T fr hj hT h9
    exact (HE.out j (by have := lt_of_block h9; omega)).trans (HOT.out j cs T fr hj hT h9)
end Go.Proofs.Ytdphdodjidbngaa

