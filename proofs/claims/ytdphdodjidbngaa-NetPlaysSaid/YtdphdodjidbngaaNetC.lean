/- net: what a net is; New, Len, find, add. -/
import Derived.Test.YtdphdodjidbngaaChecked
import Derived.Test.YtdphdodjidbngaaText
import Derived.Test.YtdphdodjidbngaaSlice
import Derived.Test.YtdphdodjidbngaaStep
import Derived.Test.YtdphdodjidbngaaKeep
import Derived.BigQuiet
import Derived.Deep.QuietTactic
import Derived.Deep.RegionLaw
import Derived.Deep.RegionHeld3
import Derived.Deep.Cut
namespace Go.Proofs.Ytdphdodjidbngaa
open Go.RowKit
set_option linter.unusedVariables false
set_option linter.unusedSimpArgs false

theorem four_cells {w : World} {b t : Nat} {x y z u : Value} (h : w.heap[b]? = some (.cells #[x, y, z, u] t (0, 0))) :
    (w.cell? ⟨b, 0, none⟩ = some x ∧ w.cell? ⟨b, 1, none⟩ = some y ∧ w.cell? ⟨b, 2, none⟩ = some z ∧ w.cell? ⟨b, 3, none⟩ = some u) ∧ (w.frozen? ⟨b, 0, none⟩ = false ∧ w.frozen? ⟨b, 1, none⟩ = false ∧ w.frozen? ⟨b, 2, none⟩ = false ∧ w.frozen? ⟨b, 3, none⟩ = false) :=
  ⟨⟨by rw [cell_of_row w b 0 _ t (0, 0) h]; rfl, by rw [cell_of_row w b 1 _ t (0, 0) h]; rfl, by rw [cell_of_row w b 2 _ t (0, 0) h]; rfl, by rw [cell_of_row w b 3 _ t (0, 0) h]; rfl⟩, frozen_of_row w b 0 _ t h, frozen_of_row w b 1 _ t h, frozen_of_row w b 2 _ t h, frozen_of_row w b 3 _ t h⟩
/-- A thing in transit. -/
structure Tg where
  from' : Int
  to' : Int
  s : List UInt8
  t : Bool
def tc (x : Tg) : Array Value := #[.int .i64 x.from', .int .i64 x.to', .string (str x.s), .bool x.t]
def tcells (l : List Tg) : List Value := l.flatMap fun x => (tc x).toList
theorem tcells_cons (x : Tg) (l : List Tg) : tcells (x :: l) = .int .i64 x.from' :: .int .i64 x.to' :: .string (str x.s) :: .bool x.t :: tcells l := rfl
theorem tcells_append (a b : List Tg) : tcells (a ++ b) = tcells a ++ tcells b := by simp [tcells]
theorem tcells_length (l : List Tg) : (tcells l).length = l.length * 4 := by
  induction l with
  | nil => rfl
  | cons x l ih => rw [tcells_cons]; simp only [List.length_cons, ih]; omega
theorem tcells_one (l : List Tg) : ∀ u ∈ tcells l, u.oneCell' = true := by
  induction l with
  | nil => simp [tcells]
  | cons x l ih =>
    intro u hu
    rw [tcells_cons, List.mem_cons, List.mem_cons, List.mem_cons, List.mem_cons] at hu
    rcases hu with rfl | rfl | rfl | rfl | hu
    · rfl
    · rfl
    · rfl
    · rfl
    · exact ih u hu
theorem tcells_get : ∀ (l : List Tg) (k : Nat) (h : k < l.length), (tcells l)[k * 4]? = some (.int .i64 l[k].from') ∧ (tcells l)[k * 4 + 1]? = some (.int .i64 l[k].to') ∧ (tcells l)[k * 4 + 2]? = some (.string (str l[k].s)) ∧ (tcells l)[k * 4 + 3]? = some (.bool l[k].t)
  | x :: l, 0, _ => ⟨rfl, rfl, rfl, rfl⟩
  | x :: l, k + 1, h => by
    have ih := tcells_get l k (by simpa using h)
    rw [tcells_cons, show (k + 1) * 4 + 1 = k * 4 + 1 + 1 + 1 + 1 + 1 by omega, show (k + 1) * 4 + 2 = k * 4 + 2 + 1 + 1 + 1 + 1 by omega, show (k + 1) * 4 + 3 = k * 4 + 3 + 1 + 1 + 1 + 1 by omega, show (k + 1) * 4 = k * 4 + 1 + 1 + 1 + 1 by omega]
    simpa using ih
theorem info_thing : (Try.prog.info? 60).map (fun i => (i.zero, i.size, i.bytes)) = some (some (.agg #[.int .i64 0, .int .i64 0, .string ⟨#[]⟩, .bool false]), 4, 40) := by kernel_rfl
/-- Blocks other than block b, and no rows of things, stand. -/
def Othr (b : Nat) (w w' : World) : Prop := ∀ k cs T fr, k ≠ b → T ≠ 60 → w.heap[k]? = some (.cells cs T fr) → w'.heap[k]? = some (.cells cs T fr)
theorem Othr.refl (b : Nat) (w : World) : Othr b w w := fun _ _ _ _ _ _ h => h
theorem Othr.trans {b : Nat} {w w' w'' : World} (h : Othr b w w') (h2 : Othr b w' w'') : Othr b w w'' := fun k cs T fr h3 h4 h5 => h2 k cs T fr h3 h4 (h k cs T fr h3 h4 h5)
theorem Othr.of_below {b : Nat} {w w' : World} (h : Below w.heap.size w w') : Othr b w w' := fun k cs T fr _ _ h5 => (h.block k (lt_of_block h5)).trans h5
/-- Block b is a net. -/
def NetAt (B b : Nat) (m : Int) (l : List Tg) (w : World) : Prop :=
  B ≤ b ∧ ∃ A c, w.heap[b]? = some (.cells #[.int .i64 m, .slice A l.length c] 133 (0, 0)) ∧ w.ownsRow B 60 4 (.slice A l.length c) l.length (tcells l)
theorem NetAt.lt {B b : Nat} {m : Int} {l : List Tg} {w : World} (h : NetAt B b m l w) : b < w.heap.size := by
  obtain ⟨_, _, _, h, _⟩ := h
  exact lt_of_block h
theorem NetAt.below {B b : Nat} {m : Int} {l : List Tg} {w w' : World} (h : NetAt B b m l w) (hb : Below w.heap.size w w') : NetAt B b m l w' := by
  obtain ⟨h0, A, c, h1, h2⟩ := h
  exact ⟨h0, A, c, keep0 h1 hb, own_keep h2 hb⟩

theorem nnew_in (m : Int) (h1 : 1 ≤ m) (h2 : m ≤ 1024) (W : World) : Calls Try.prog 24 #[.int .i64 m] W fun e w' => e = .returned (.pointer (some ⟨W.heap.size, 0, none⟩)) ∧ NetAt W.heap.size W.heap.size m [] w' ∧ Below W.heap.size W w' := by
  have d1 : ¬ m < 1 := by omega
  have d2 : ¬ 1024 < m := by omega
  go_enter Try.func24, Try.ntmps24
  go_wp2
  go_ret
  exact ⟨rfl, ⟨Nat.le_refl _, none, 0, heap_alloc_new _ _, World.ownsRow_nil _ _ _ _⟩, (Below.refl _ _).alloc (Nat.le_refl _) _⟩
theorem nnew_out (m : Int) (h : m < 1 ∨ 1024 < m) (W : World) : Calls Try.prog 24 #[.int .i64 m] W fun e w' => e = .returned (.pointer none) ∧ W = w' := by
  go_enter Try.func24, Try.ntmps24
  go_wp2
  all_goals go_ret
  all_goals first | exact ⟨rfl, rfl⟩ | (exfalso; omega)
theorem nlen_any (B b : Nat) (m : Int) (l : List Tg) (W : World) (h : NetAt B b m l W) : Calls Try.prog 36 #[.pointer (some ⟨b, 0, none⟩)] W fun e w' => e = .returned (.int .i64 (l.length : Int)) ∧ W = w' := by
  obtain ⟨h0, A, c, h1, h2⟩ := h
  obtain ⟨c0, c1, _, _⟩ := two_cells h1
  clear h0 h1 h2
  go_enter Try.func36, Try.ntmps36
  go_wp2
  go_ret
  exact ⟨rfl, rfl⟩
theorem nfind_any (B b : Nat) (m : Int) (l : List Tg) (k : Int) (W : World) (h : NetAt B b m l W) : Calls Try.prog 62 #[.pointer (some ⟨b, 0, none⟩), .int .i64 k] W fun e w' => e = .returned (.int .i64 (if k < 0 ∨ (l.length : Int) ≤ k then 6 else 0)) ∧ W = w' := by
  obtain ⟨h0, A, c, h1, h2⟩ := h
  obtain ⟨c0, c1, _, _⟩ := two_cells h1
  clear h0 h1 h2
  have HI := hid (rfl : (if k < 0 ∨ (l.length : Int) ≤ k then (6 : Int) else 0) = (if k < 0 ∨ (l.length : Int) ≤ k then (6 : Int) else 0))
  generalize hv : (if k < 0 ∨ (l.length : Int) ≤ k then (6 : Int) else 0) = v
  have HV := hid hv
  clear hv HI
  rcases (by omega : k < 0 ∨ (0 ≤ k ∧ (l.length : Int) ≤ k) ∨ (0 ≤ k ∧ k < (l.length : Int))) with hk | ⟨hk, hk2⟩ | ⟨hk, hk2⟩
  · go_enter Try.func62, Try.ntmps62
    go_wp2
    go_ret
    exact ⟨by rw [← HV.out, if_pos (.inl hk)]; rfl, rfl⟩
  · have d1 : ¬ k < 0 := by omega
    go_enter Try.func62, Try.ntmps62
    go_wp2
    go_ret
    exact ⟨by rw [← HV.out, if_pos (.inr hk2)]; rfl, rfl⟩
  · have d1 : ¬ k < 0 := by omega
    have d2 : ¬ (l.length : Int) ≤ k := by omega
    go_enter Try.func62, Try.ntmps62
    go_wp2
    go_ret
    exact ⟨by rw [← HV.out, if_neg (by omega)]; rfl, rfl⟩

theorem own_blk_lt {w : World} {base e s n : Nat} {v : Value} {xs : List Value} (h : w.ownsRow base e s v n xs) : ∀ g, v.ownBlock = some g → g < w.heap.size := by
  intro g hg
  rcases h.2 with ⟨rfl, _⟩ | ⟨g', cap, cur, rfl, _, hh, _⟩
  · simp [Value.ownBlock] at hg
  · have : g' = g := by simpa [Value.ownBlock] using hg
    subst this
    exact lt_of_block hh
theorem own_blk_ne2 {w : World} {base e s n g t : Nat} {v : Value} {xs : List Value} {cs : Array Value} {fr : Nat × Nat} (h : w.ownsRow base e s v n xs) (hg : w.heap[g]? = some (.cells cs t fr)) (hne : e ≠ t) : v.ownBlock ≠ some g := by
  rcases h.2 with ⟨rfl, _⟩ | ⟨g', cap, cur, rfl, _, hh, _⟩
  · simp [Value.ownBlock]
  · intro he
    have : g' = g := by simpa [Value.ownBlock] using he
    subst this
    rw [hg] at hh
    injection hh with hh
    injection hh with _ ht
    exact hne ht.symm
theorem own_setT {w : World} {base e s n b j t : Nat} {v u : Value} {xs : List Value} {cs : Array Value} (h : w.ownsRow base e s v n xs) (hb : w.heap[b]? = some (.cells cs t (0, 0))) (hne : e ≠ t) : (w.setCell ⟨b, j, none⟩ u).ownsRow base e s v n xs := by
  refine ⟨h.1, ?_⟩
  rcases h.2 with h2 | ⟨g, cap, cur, h3, h4, h5, h6⟩
  · exact .inl h2
  · refine .inr ⟨g, cap, cur, h3, h4, ?_, h6⟩
    rw [Below.heap_setCell _ _ _ _ (fun e9 => ?_)]
    · exact h5
    · have e8 : g = b := e9
      subst e8
      rw [h5] at hb
      injection hb with hb
      injection hb with _ ht
      exact hne ht
theorem below_drewN1 (W : World) (q : Nat) : Below W.heap.size W (W.drewN q) := ⟨rfl, rfl, rfl, Nat.le_refl _, fun _ _ => rfl⟩
set_option maxRecDepth 20000 in
set_option maxHeartbeats 4000000 in
theorem nadd_any (B b : Nat) (m : Int) (l : List Tg) (x : Tg) (W : World) (h : NetAt B b m l W) (hB : B ≤ W.heap.size) (hl : l.length ≤ 100000) : Calls Try.prog 61 #[.pointer (some ⟨b, 0, none⟩), .agg (tc x)] W fun e w' => e = .returned (.bool (decide ((l.length : Int) < m))) ∧ NetAt B b m (if (l.length : Int) < m then l ++ [x] else l) w' ∧ Below B W w' ∧ Othr b W w' := by
  have HN := hid h
  have hlt := h.lt
  obtain ⟨h0, A, c, h1, h2⟩ := h
  have HNB := hid (own_blk_lt h2)
  have H11 := hid h1
  have HO1 := hid h2
  clear h1 h2
  obtain ⟨xf, xt, xs, xb⟩ := x
  simp only [tc]
  have hV : (decide ((l.length : Int) < m) = true ∧ (if (l.length : Int) < m then l ++ [Tg.mk xf xt xs xb] else l) = l ++ [Tg.mk xf xt xs xb] ∧ ¬ m ≤ (l.length : Int)) ∨ (decide ((l.length : Int) < m) = false ∧ (if (l.length : Int) < m then l ++ [Tg.mk xf xt xs xb] else l) = l ∧ m ≤ (l.length : Int)) := by
    by_cases hm : (l.length : Int) < m
    · exact .inl ⟨decide_eq_true hm, if_pos hm, by omega⟩
    · exact .inr ⟨decide_eq_false hm, if_neg hm, by omega⟩
  have HV := hid hV
  clear hV
  generalize decide ((l.length : Int) < m) = bb at *
  generalize (if (l.length : Int) < m then l ++ [Tg.mk xf xt xs xb] else l) = l' at *
  go_enter Try.func61, Try.ntmps61
  go_upto_region 1 with (fail)
  have hb0 : Below W.heap.size W (W.alloc (.cells #[.int .i64 xf, .int .i64 xt, .string (str xs), .bool xb] 60)) := (Below.refl W.heap.size W).alloc (Nat.le_refl _) _
  refine at_world (fun w => w.heap[W.heap.size]? = some (.cells #[.int .i64 xf, .int .i64 xt, .string (str xs), .bool xb] 60 (0, 0)) ∧ Below W.heap.size W w) ⟨heap_alloc_new _ _, hb0⟩ ?_
  clear hb0
  rintro w1 ⟨hc, hb⟩
  have HB1 := hid hb
  have HC1 := hid hc
  have h1 := keep0 H11.out hb
  obtain ⟨c0, c1, f0, f1⟩ := two_cells h1
  clear hc hb h1
  rcases HV.out with ⟨hbb, hl', hm⟩ | ⟨hbb, hl', hm⟩
  case' inr =>
    have HL' := hid hl'
    clear hl'
    subst hbb
    go_wp2
    go_quiet (fail)
    go_wp2
    go_ret
    have hb : Below W.heap.size W _ := HB1.out.trans ((below_drewN1 w1 nq).mono HB1.out.size)
    rw [HL'.out]
    exact ⟨rfl, HN.out.below hb, hb.mono hB, Othr.of_below hb⟩
  have HL' := hid hl'
  clear hl'
  subst hbb
  go_upto_region 3 with (first | fail | go_quiet (fail))
  have hb1 := below_drewN1 w1 nq
  refine at_world (fun w => w.heap[W.heap.size]? = some (.cells #[.int .i64 xf, .int .i64 xt, .string (str xs), .bool xb] 60 (0, 0)) ∧ Below W.heap.size W w) ⟨keep0 HC1.out hb1, HB1.out.trans (hb1.mono HB1.out.size)⟩ ?_
  clear hb1 HC1 HB1 c0 c1 f0 f1
  rintro w2 ⟨hc, hb⟩
  have HB2 := hid hb
  have HC2 := hid hc
  have H1 := hid (keep0 H11.out hb)
  have HO := hid (own_keep HO1.out hb)
  obtain ⟨c0, c1, f0, f1⟩ := two_cells H1.out
  have hbs : B ≤ w2.heap.size := Nat.le_trans hB hb.size
  have hNW : W.heap.size < w2.heap.size := lt_of_block hc
  generalize hNN : W.heap.size = N at *
  have HNN := hid hNN
  clear hNN
  have hBX : ∀ U : World, U.heap[N]? = some (.cells #[.int .i64 xf, .int .i64 xt, .string (str xs), .bool xb] 60 (0, 0)) → U.cell? ⟨N, 0, none⟩ = some (.int .i64 xf) ∧ U.cell? ⟨N, 1, none⟩ = some (.int .i64 xt) ∧ U.cell? ⟨N, 2, none⟩ = some (.string (str xs)) ∧ U.cell? ⟨N, 3, none⟩ = some (.bool xb) := fun U h => (four_cells h).1
  have HBX := hid hBX
  clear hBX
  have hS : ∀ U, Below w2.heap.size w2 U → ((U.cell? ⟨N, 0, none⟩ = some (.int .i64 xf) ∧ U.cell? ⟨N, 1, none⟩ = some (.int .i64 xt) ∧ U.cell? ⟨N, 2, none⟩ = some (.string (str xs)) ∧ U.cell? ⟨N, 3, none⟩ = some (.bool xb)) ∧ Below B w2 U) := fun U hU => ⟨HBX.out U (keep0 HC2.out hU), hU.mono hbs⟩
  clear hc hb
  have c1a : ∀ o : Obj, (w2.alloc o).cell? ⟨b, 1, none⟩ = some (.slice A l.length c) := fun o => cellb (bel_alloc (Below.refl w2.heap.size w2) o) c1
  refine wp_region_held_drew (S := (fun U => (U.cell? ⟨N, 0, none⟩ = some (.int .i64 xf) ∧ U.cell? ⟨N, 1, none⟩ = some (.int .i64 xt) ∧ U.cell? ⟨N, 2, none⟩ = some (.string (str xs)) ∧ U.cell? ⟨N, 3, none⟩ = some (.bool xb)) ∧ Below B w2 U)) (by kernel_rfl) (hS _ (below_drew (Below.refl _ _))) (fun hHeld => ?_)
  refine wpAnyH_take (i := 0) (v := ?_) rfl (by kernel_rfl) (by kernel_rfl) (by kernel_rfl) (fun _ _ _ h => h) (Or.inl ⟨by rfl, ?_⟩) (by assumption) ?_
  rotate_left
  focus
    intro U hU
    try dsimp only at hU
    go_simp
    try (with_reducible rfl)
  simp only [List.getElem_toArray, List.getElem_cons_succ, List.getElem_cons_zero, Act.put, List.setIfInBounds_toArray, List.set_cons_zero, List.set_cons_succ]
  refine wpAnyH_take (i := 1) (v := ?_) rfl (by kernel_rfl) (by kernel_rfl) (by kernel_rfl) (fun _ _ _ h => h) (Or.inl ⟨by rfl, ?_⟩) (by assumption) ?_
  rotate_left
  focus
    intro U hU
    try dsimp only at hU
    go_simp
    try (with_reducible rfl)
  simp only [List.getElem_toArray, List.getElem_cons_succ, List.getElem_cons_zero, Act.put, List.setIfInBounds_toArray, List.set_cons_zero, List.set_cons_succ]
  refine wpAnyH_take (i := 2) (v := ?_) rfl (by kernel_rfl) (by kernel_rfl) (by kernel_rfl) (fun _ _ _ h => h) (Or.inl ⟨by rfl, ?_⟩) (by assumption) ?_
  rotate_left
  focus
    intro U hU
    try dsimp only at hU
    go_simp
    try (with_reducible rfl)
  simp only [List.getElem_toArray, List.getElem_cons_succ, List.getElem_cons_zero, Act.put, List.setIfInBounds_toArray, List.set_cons_zero, List.set_cons_succ]
  refine wpAnyH_take (i := 3) (v := ?_) rfl (by kernel_rfl) (by kernel_rfl) (by kernel_rfl) (fun _ _ _ h => h) (Or.inl ⟨by rfl, ?_⟩) (by assumption) ?_
  rotate_left
  focus
    intro U hU
    try dsimp only at hU
    go_simp
    try (with_reducible rfl)
  simp only [List.getElem_toArray, List.getElem_cons_succ, List.getElem_cons_zero, Act.put, List.setIfInBounds_toArray, List.set_cons_zero, List.set_cons_succ]
  refine wpAnyH_take (i := 5) (v := ?_) rfl (by kernel_rfl) (by kernel_rfl) (by kernel_rfl) (fun _ _ _ h => h) (Or.inl ⟨by rfl, ?_⟩) (by assumption) ?_
  rotate_left
  focus
    intro U hU
    try dsimp only at hU
    go_simp
    try (with_reducible rfl)
  simp only [List.getElem_toArray, List.getElem_cons_succ, List.getElem_cons_zero, Act.put, List.setIfInBounds_toArray, List.set_cons_zero, List.set_cons_succ]
  refine wpAnyH_ready (rs := [4, 6]) (by kernel_rfl) (by simp) ?_
  refine (AllReadyH.cons rfl (fun K hK => ?_) (AllReadyH.cons rfl (fun K hK => ?_) AllReadyH.nil))
  · skip
    simp only [List.getElem_toArray, List.getElem_cons_succ, List.getElem_cons_zero]
    go_simp
    refine hK.out _ _ ?_ (fun hHeld2 => ?_)
    focus
      exact hS _ (by repeat' (first | with_reducible exact Below.refl _ _ | with_reducible assumption | with_reducible refine below_drew ?_ | with_reducible refine bel_alloc ?_ _))
    clear hHeld
    have hHeld := hHeld2
    clear hHeld2 hK K
    try simp only [List.getElem_toArray, List.getElem_cons_succ, List.getElem_cons_zero, Act.put, List.setIfInBounds_toArray, List.set_cons_zero, List.set_cons_succ]
    refine wpAnyH_ready (rs := [6]) (by kernel_rfl) (by simp) ?_
    refine (AllReadyH.cons rfl (fun K hK => ?_) AllReadyH.nil)
    simp only [List.getElem_toArray, List.getElem_cons_succ, List.getElem_cons_zero]
    go_simp
    refine hK.out _ _ ?_ (fun hHeld2 => ?_)
    focus
      exact hS _ (by repeat' (first | with_reducible exact Below.refl _ _ | with_reducible assumption | with_reducible refine below_drew ?_ | with_reducible refine bel_alloc ?_ _))
    clear hHeld
    have hHeld := hHeld2
    clear hHeld2 hK K
    try simp only [List.getElem_toArray, List.getElem_cons_succ, List.getElem_cons_zero, Act.put, List.setIfInBounds_toArray, List.set_cons_zero, List.set_cons_succ]
    refine wpAnyH_ready (rs := [7]) (by kernel_rfl) (by simp) ?_
    refine (AllReadyH.cons rfl (fun K hK => ?_) AllReadyH.nil)
    refine step_append_sl rfl (.tmp 19) (.tmp 21) 68 rfl B 60 Try.underlying68 info_thing rfl (by omega) rfl (own_keep HO.out (by repeat' (first | with_reducible exact Below.refl _ _ | with_reducible assumption | with_reducible refine below_drew ?_ | with_reducible refine bel_alloc ?_ _))) rfl (by first | exact Sl.lit _ _ 4 1 #[.int .i64 xf, .int .i64 xt, .string (str xs), .bool xb] rfl (by unfold maxLen; omega) | exact Sl.below (Sl.lit _ _ 4 1 #[.int .i64 xf, .int .i64 xt, .string (str xs), .bool xb] rfl (by unfold maxLen; omega)) (below_drew (Below.refl _ _))) (by simp; exact ⟨rfl, rfl, rfl, rfl⟩) (show l.length + 1 ≤ maxLen by unfold maxLen; omega) (show (l.length + 1) * 40 ≤ 140737488355328 by omega) (Nat.le_trans hbs hHeld.2.size) ?_
    intro v5 w5 ho5 hb5 hsz5 hk5
    have hU : Below w2.heap.size w2 (w2.alloc (Obj.cells #[.int .i64 xf, .int .i64 xt, .string (str xs), .bool xb] 60)).drew := below_drew (bel_alloc (Below.refl w2.heap.size w2) _)
    have hk6 : ∀ g, B ≤ g → g < w2.heap.size → (Value.slice A l.length c).ownBlock ≠ some g → w5.heap[g]? = w2.heap[g]? := fun g h1 h2 h3 => (hk5 g h1 (Nat.lt_of_lt_of_le h2 hU.size) h3).trans (hU.block g h2)
    clear hk5 hsz5
    have hC5 : w5.heap[N]? = some (Obj.cells #[.int .i64 xf, .int .i64 xt, .string (str xs), .bool xb] 60 (0, 0)) := (hk6 N hB hNW (fun e => Nat.lt_irrefl N (HNB.out N e))).trans HC2.out
    have hb6 : Below B w2 w5 := (hU.mono hbs).trans hb5
    have hN5 : w5.heap[b]? = some (Obj.cells #[.int .i64 m, .slice A l.length c] 133 (0, 0)) := (hk6 b h0 (Nat.lt_trans hlt hNW) (own_blk_ne2 HO.out H1.out (by decide))).trans H1.out
    obtain ⟨A5, c5, rfl, _⟩ := Sl.of_own ho5
    have hS5 := And.intro (HBX.out w5 hC5) hb6
    have hS6 := fun u => And.intro (HBX.out (w5.setCell ⟨b, 1, none⟩ u) ((Below.heap_setCell _ _ _ _ (show N ≠ b by omega)).trans hC5)) (hb6.setCell (p := ⟨b, 1, none⟩) h0 u)
    obtain ⟨q0, q1, g0, g1⟩ := two_cells hN5
    have HK6 := hid hk6
    have HN5 := hid hN5
    have HO5 := hid ho5
    have HB6 := hid hb6
    clear hk6 hN5 ho5 hb6 hC5 hb5 hU
    refine hK.out _ _ ?_ (fun hHeld2 => ?_)
    focus
      exact hS5
    clear hHeld
    have hHeld := hHeld2
    clear hHeld2 hK K
    try simp only [List.getElem_toArray, List.getElem_cons_succ, List.getElem_cons_zero, Act.put, List.setIfInBounds_toArray, List.set_cons_zero, List.set_cons_succ]
    refine wpAnyH_take (i := 8) (v := ?_) rfl (by kernel_rfl) (by kernel_rfl) (by kernel_rfl) (fun _ _ _ h => h) (Or.inl ⟨by rfl, ?_⟩) (by assumption) ?_
    rotate_left
    focus
      intro U hU
      try dsimp only at hU
      go_simp
      try (with_reducible rfl)
    simp only [List.getElem_toArray, List.getElem_cons_succ, List.getElem_cons_zero, Act.put, List.setIfInBounds_toArray, List.set_cons_zero, List.set_cons_succ]
    refine wpAnyH_take (i := 9) (v := ?_) rfl (by kernel_rfl) (by kernel_rfl) (by kernel_rfl) (fun _ _ _ h => h) (Or.inl ⟨by rfl, ?_⟩) (by assumption) ?_
    rotate_left
    focus
      intro U hU
      try dsimp only at hU
      go_simp
      try (with_reducible rfl)
    simp only [List.getElem_toArray, List.getElem_cons_succ, List.getElem_cons_zero, Act.put, List.setIfInBounds_toArray, List.set_cons_zero, List.set_cons_succ]
    refine wpAnyH_ready (rs := [10]) (by kernel_rfl) (by simp) ?_
    refine (AllReadyH.cons rfl (fun K hK => ?_) AllReadyH.nil)
    simp only [List.getElem_toArray, List.getElem_cons_succ, List.getElem_cons_zero]
    go_simp
    refine hK.out _ _ ?_ (fun hHeld2 => ?_)
    focus
      exact hS6 _
    clear hHeld
    have hHeld := hHeld2
    clear hHeld2 hK K
    try simp only [List.getElem_toArray, List.getElem_cons_succ, List.getElem_cons_zero, Act.put, List.setIfInBounds_toArray, List.set_cons_zero, List.set_cons_succ]
    refine wpAnyH_done (by kernel_rfl) ?_ _
    clear hHeld hS5 hS6 hS c1a
    go_wp2
    go_ret
    rw [HL'.out]
    refine ⟨rfl, ⟨h0, A5, c5, ?_, ?_⟩, ?_, ?_⟩
    · rw [List.length_append]
      exact heap_setCell_same w5 b 1 _ _ _ HN5.out
    · rw [List.length_append, tcells_append]
      exact own_setT HO5.out HN5.out (by decide)
    · have h9 : Below B W w2 := HB2.out.mono hB
      exact h9.trans (HB6.out.setCell (p := ⟨b, 1, none⟩) h0 _)
    · intro k cs T fr hk hT h9
      have h8 := lt_of_block h9
      rw [HNN.out] at h8
      have h7 := (HB2.out.block k h8).trans h9
      rw [Below.heap_setCell _ _ _ _ hk]
      by_cases hkB : B ≤ k
      · rw [HK6.out k hkB (lt_of_block h7) (own_blk_ne2 HO.out h7 (fun e => hT e.symm))]
        exact h7
      · rw [HB6.out.block k (by omega)]
        exact h7
  · skip
    simp only [List.getElem_toArray, List.getElem_cons_succ, List.getElem_cons_zero]
    go_simp
    refine hK.out _ _ ?_ (fun hHeld2 => ?_)
    focus
      exact hS _ (by repeat' (first | with_reducible exact Below.refl _ _ | with_reducible assumption | with_reducible refine below_drew ?_ | with_reducible refine bel_alloc ?_ _))
    clear hHeld
    have hHeld := hHeld2
    clear hHeld2 hK K
    try simp only [List.getElem_toArray, List.getElem_cons_succ, List.getElem_cons_zero, Act.put, List.setIfInBounds_toArray, List.set_cons_zero, List.set_cons_succ]
    refine wpAnyH_ready (rs := [4]) (by kernel_rfl) (by simp) ?_
    refine (AllReadyH.cons rfl (fun K hK => ?_) AllReadyH.nil)
    simp only [List.getElem_toArray, List.getElem_cons_succ, List.getElem_cons_zero]
    go_simp
    refine hK.out _ _ ?_ (fun hHeld2 => ?_)
    focus
      exact hS _ (by repeat' (first | with_reducible exact Below.refl _ _ | with_reducible assumption | with_reducible refine below_drew ?_ | with_reducible refine bel_alloc ?_ _))
    clear hHeld
    have hHeld := hHeld2
    clear hHeld2 hK K
    try simp only [List.getElem_toArray, List.getElem_cons_succ, List.getElem_cons_zero, Act.put, List.setIfInBounds_toArray, List.set_cons_zero, List.set_cons_succ]
    refine wpAnyH_ready (rs := [7]) (by kernel_rfl) (by simp) ?_
    refine (AllReadyH.cons rfl (fun K hK => ?_) AllReadyH.nil)
    refine step_append_sl rfl (.tmp 19) (.tmp 21) 68 rfl B 60 Try.underlying68 info_thing rfl (by omega) rfl (own_keep HO.out (by repeat' (first | with_reducible exact Below.refl _ _ | with_reducible assumption | with_reducible refine below_drew ?_ | with_reducible refine bel_alloc ?_ _))) rfl (by first | exact Sl.lit _ _ 4 1 #[.int .i64 xf, .int .i64 xt, .string (str xs), .bool xb] rfl (by unfold maxLen; omega) | exact Sl.below (Sl.lit _ _ 4 1 #[.int .i64 xf, .int .i64 xt, .string (str xs), .bool xb] rfl (by unfold maxLen; omega)) (below_drew (Below.refl _ _))) (by simp; exact ⟨rfl, rfl, rfl, rfl⟩) (show l.length + 1 ≤ maxLen by unfold maxLen; omega) (show (l.length + 1) * 40 ≤ 140737488355328 by omega) (Nat.le_trans hbs hHeld.2.size) ?_
    intro v5 w5 ho5 hb5 hsz5 hk5
    have hU : Below w2.heap.size w2 (w2.alloc (Obj.cells #[.int .i64 xf, .int .i64 xt, .string (str xs), .bool xb] 60)).drew := below_drew (bel_alloc (Below.refl w2.heap.size w2) _)
    have hk6 : ∀ g, B ≤ g → g < w2.heap.size → (Value.slice A l.length c).ownBlock ≠ some g → w5.heap[g]? = w2.heap[g]? := fun g h1 h2 h3 => (hk5 g h1 (Nat.lt_of_lt_of_le h2 hU.size) h3).trans (hU.block g h2)
    clear hk5 hsz5
    have hC5 : w5.heap[N]? = some (Obj.cells #[.int .i64 xf, .int .i64 xt, .string (str xs), .bool xb] 60 (0, 0)) := (hk6 N hB hNW (fun e => Nat.lt_irrefl N (HNB.out N e))).trans HC2.out
    have hb6 : Below B w2 w5 := (hU.mono hbs).trans hb5
    have hN5 : w5.heap[b]? = some (Obj.cells #[.int .i64 m, .slice A l.length c] 133 (0, 0)) := (hk6 b h0 (Nat.lt_trans hlt hNW) (own_blk_ne2 HO.out H1.out (by decide))).trans H1.out
    obtain ⟨A5, c5, rfl, _⟩ := Sl.of_own ho5
    have hS5 := And.intro (HBX.out w5 hC5) hb6
    have hS6 := fun u => And.intro (HBX.out (w5.setCell ⟨b, 1, none⟩ u) ((Below.heap_setCell _ _ _ _ (show N ≠ b by omega)).trans hC5)) (hb6.setCell (p := ⟨b, 1, none⟩) h0 u)
    obtain ⟨q0, q1, g0, g1⟩ := two_cells hN5
    have HK6 := hid hk6
    have HN5 := hid hN5
    have HO5 := hid ho5
    have HB6 := hid hb6
    clear hk6 hN5 ho5 hb6 hC5 hb5 hU
    refine hK.out _ _ ?_ (fun hHeld2 => ?_)
    focus
      exact hS5
    clear hHeld
    have hHeld := hHeld2
    clear hHeld2 hK K
    try simp only [List.getElem_toArray, List.getElem_cons_succ, List.getElem_cons_zero, Act.put, List.setIfInBounds_toArray, List.set_cons_zero, List.set_cons_succ]
    refine wpAnyH_take (i := 8) (v := ?_) rfl (by kernel_rfl) (by kernel_rfl) (by kernel_rfl) (fun _ _ _ h => h) (Or.inl ⟨by rfl, ?_⟩) (by assumption) ?_
    rotate_left
    focus
      intro U hU
      try dsimp only at hU
      go_simp
      try (with_reducible rfl)
    simp only [List.getElem_toArray, List.getElem_cons_succ, List.getElem_cons_zero, Act.put, List.setIfInBounds_toArray, List.set_cons_zero, List.set_cons_succ]
    refine wpAnyH_take (i := 9) (v := ?_) rfl (by kernel_rfl) (by kernel_rfl) (by kernel_rfl) (fun _ _ _ h => h) (Or.inl ⟨by rfl, ?_⟩) (by assumption) ?_
    rotate_left
    focus
      intro U hU
      try dsimp only at hU
      go_simp
      try (with_reducible rfl)
    simp only [List.getElem_toArray, List.getElem_cons_succ, List.getElem_cons_zero, Act.put, List.setIfInBounds_toArray, List.set_cons_zero, List.set_cons_succ]
    refine wpAnyH_ready (rs := [10]) (by kernel_rfl) (by simp) ?_
    refine (AllReadyH.cons rfl (fun K hK => ?_) AllReadyH.nil)
    simp only [List.getElem_toArray, List.getElem_cons_succ, List.getElem_cons_zero]
    go_simp
    refine hK.out _ _ ?_ (fun hHeld2 => ?_)
    focus
      exact hS6 _
    clear hHeld
    have hHeld := hHeld2
    clear hHeld2 hK K
    try simp only [List.getElem_toArray, List.getElem_cons_succ, List.getElem_cons_zero, Act.put, List.setIfInBounds_toArray, List.set_cons_zero, List.set_cons_succ]
    refine wpAnyH_done (by kernel_rfl) ?_ _
    clear hHeld hS5 hS6 hS c1a
    go_wp2
    go_ret
    rw [HL'.out]
    refine ⟨rfl, ⟨h0, A5, c5, ?_, ?_⟩, ?_, ?_⟩
    · rw [List.length_append]
      exact heap_setCell_same w5 b 1 _ _ _ HN5.out
    · rw [List.length_append, tcells_append]
      exact own_setT HO5.out HN5.out (by decide)
    · have h9 : Below B W w2 := HB2.out.mono hB
      exact h9.trans (HB6.out.setCell (p := ⟨b, 1, none⟩) h0 _)
    · intro k cs T fr hk hT h9
      have h8 := lt_of_block h9
      rw [HNN.out] at h8
      have h7 := (HB2.out.block k h8).trans h9
      rw [Below.heap_setCell _ _ _ _ hk]
      by_cases hkB : B ≤ k
      · rw [HK6.out k hkB (lt_of_block h7) (own_blk_ne2 HO.out h7 (fun e => hT e.symm))]
        exact h7
      · rw [HB6.out.block k (by omega)]
        exact h7
end Go.Proofs.Ytdphdodjidbngaa

