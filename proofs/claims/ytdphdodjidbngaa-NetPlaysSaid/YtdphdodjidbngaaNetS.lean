/- net: which blocks the program's calls touch. -/
import Derived.Test.YtdphdodjidbngaaNetP
namespace Go.Proofs.Ytdphdodjidbngaa
open Go.RowKit
set_option linter.unusedVariables false
set_option linter.unusedSimpArgs false

/-- What a call at net b touches: its block, its row, new blocks; its row lies where it lay, or is new. -/
structure Oth (b : Nat) (w w' : World) : Prop where
  size : w.heap.size ≤ w'.heap.size
  keep : ∀ k o, k ≠ b → (∀ v, w.cell? ⟨b, 1, none⟩ = some v → v.ownBlock ≠ some k) → w.heap[k]? = some o → w'.heap[k]? = some o
  row : ∀ v' k, w'.cell? ⟨b, 1, none⟩ = some v' → v'.ownBlock = some k → w.heap.size ≤ k ∨ ∃ v, w.cell? ⟨b, 1, none⟩ = some v ∧ v.ownBlock = some k
theorem Oth.refl (b : Nat) (w : World) : Oth b w w := ⟨Nat.le_refl _, fun _ _ _ _ h => h, fun v' k h1 h2 => .inr ⟨v', h1, h2⟩⟩
theorem Oth.trans {b : Nat} {w w' w'' : World} (h : Oth b w w') (h2 : Oth b w' w'') : Oth b w w'' :=
  ⟨Nat.le_trans h.size h2.size, fun k o h3 h4 h5 => h2.keep k o h3 (fun v hv he => by
    rcases h.row v k hv he with h6 | ⟨v0, h6, h7⟩
    · have := lt_of_block h5; omega
    · exact h4 v0 h6 h7) (h.keep k o h3 h4 h5), fun v'' k h3 h4 => by
    rcases h2.row v'' k h3 h4 with h5 | ⟨v', h5, h6⟩
    · exact .inl (Nat.le_trans h.size h5)
    · exact h.row v' k h5 h6⟩
theorem Oth.of_below {b : Nat} {w w' : World} (hb : b < w.heap.size) (h : Below w.heap.size w w') : Oth b w w' :=
  ⟨h.size, fun k o _ _ h5 => (h.block k (lt_of_block h5)).trans h5, fun v' k h1 h2 => .inr ⟨v', (h.cell (p := ⟨b, 1, none⟩) hb).symm.trans h1, h2⟩⟩
/-- Another net, in blocks that this one does not own, stands. -/
theorem NetAt.oth {B b b' : Nat} {m m' : Int} {l l' : List Tg} {w w' : World} (h : NetAt B b m l w) (hn : NetAt B b' m' l' w) (hbb : b' ≠ b) (hr : ∀ v v' k, w.cell? ⟨b, 1, none⟩ = some v → w.cell? ⟨b', 1, none⟩ = some v' → v.ownBlock = some k → v'.ownBlock ≠ some k) (ho : Oth b w w') : NetAt B b' m' l' w' := by
  obtain ⟨_, A0, c0, h3, h4⟩ := h
  obtain ⟨h0, A, c, h1, h2⟩ := hn
  have e0 := (two_cells h3).2.1
  have e1 := (two_cells h1).2.1
  refine ⟨h0, A, c, ho.keep b' _ hbb (fun v hv he => ?_) h1, own_other2 h2 fun g hg => ?_⟩
  · rw [e0] at hv
    cases hv
    exact own_blk_ne2 h4 h1 (by decide) he
  · obtain ⟨_, _, cur, hg1⟩ := own_lt h2 g hg
    rw [hg1]
    refine ho.keep g _ (own_apart_blk h2 h3 (by decide) g hg) (fun v hv he => ?_) hg1
    exact hr v _ g hv e1 he hg

set_option maxRecDepth 20000 in
set_option maxHeartbeats 4000000 in
theorem nadd_oth (B b : Nat) (m : Int) (l : List Tg) (x : Tg) (W : World) (h : NetAt B b m l W) (hB : B ≤ W.heap.size) (hl : l.length ≤ 100000) : Calls Try.prog 61 #[.pointer (some ⟨b, 0, none⟩), .agg (tc x)] W fun e w' => e = .returned (.bool (decide ((l.length : Int) < m))) ∧ NetAt B b m (if (l.length : Int) < m then l ++ [x] else l) w' ∧ Below B W w' ∧ Oth b W w' := by
  have HN := hid h
  have hlt := h.lt
  obtain ⟨h0, A, c, h1, h2⟩ := h
  have HNB := hid (own_blk_lt h2)
  have H11 := hid h1
  have HO1 := hid h2
  clear h1 h2
  obtain ⟨xf, xt, xs, xb⟩ := x
  simp only [tc]
  have hV : (decide ((l.length : Int) < m) = true ∧ (if (l.length : Int) < m then l ++ [Tg.mk xf xt xs xb] else l) = l ++ [Tg.mk xf xt xs xb] ∧ ¬ m ≤ (l.length : Int)) ∨ (decide ((l.length : Int) < m) = false ∧ (if (l.length : Int) < m then l ++ [Tg.mk xf xt xs xb] else l) = l ∧ m ≤ (l.length : Int)) := by
    by_cases hm : (l.length : Int) < m
    · exact .inl ⟨decide_eq_true hm, if_pos hm, by omega⟩
    · exact .inr ⟨decide_eq_false hm, if_neg hm, by omega⟩
  have HV := hid hV
  clear hV
  generalize decide ((l.length : Int) < m) = bb at *
  generalize (if (l.length : Int) < m then l ++ [Tg.mk xf xt xs xb] else l) = l' at *
  go_enter Try.func61, Try.ntmps61
  go_upto_region 1 with (fail)
  have hb0 : Below W.heap.size W (W.alloc (.cells #[.int .i64 xf, .int .i64 xt, .string (str xs), .bool xb] 60)) := (Below.refl W.heap.size W).alloc (Nat.le_refl _) _
  refine at_world (fun w => w.heap[W.heap.size]? = some (.cells #[.int .i64 xf, .int .i64 xt, .string (str xs), .bool xb] 60 (0, 0)) ∧ Below W.heap.size W w) ⟨heap_alloc_new _ _, hb0⟩ ?_
  clear hb0
  rintro w1 ⟨hc, hb⟩
  have HB1 := hid hb
  have HC1 := hid hc
  have h1 := keep0 H11.out hb
  obtain ⟨c0, c1, f0, f1⟩ := two_cells h1
  clear hc hb h1
  rcases HV.out with ⟨hbb, hl', hm⟩ | ⟨hbb, hl', hm⟩
  case' inr =>
    have HL' := hid hl'
    clear hl'
    subst hbb
    go_wp2
    go_quiet (fail)
    go_wp2
    go_ret
    have hb : Below W.heap.size W _ := HB1.out.trans ((below_drewN1 w1 nq).mono HB1.out.size)
    rw [HL'.out]
    exact ⟨rfl, HN.out.below hb, hb.mono hB, Oth.of_below hlt hb⟩
  have HL' := hid hl'
  clear hl'
  subst hbb
  go_upto_region 3 with (first | fail | go_quiet (fail))
  have hb1 := below_drewN1 w1 nq
  refine at_world (fun w => w.heap[W.heap.size]? = some (.cells #[.int .i64 xf, .int .i64 xt, .string (str xs), .bool xb] 60 (0, 0)) ∧ Below W.heap.size W w) ⟨keep0 HC1.out hb1, HB1.out.trans (hb1.mono HB1.out.size)⟩ ?_
  clear hb1 HC1 HB1 c0 c1 f0 f1
  rintro w2 ⟨hc, hb⟩
  have HB2 := hid hb
  have HC2 := hid hc
  have H1 := hid (keep0 H11.out hb)
  have HO := hid (own_keep HO1.out hb)
  obtain ⟨c0, c1, f0, f1⟩ := two_cells H1.out
  have hbs : B ≤ w2.heap.size := Nat.le_trans hB hb.size
  have hNW : W.heap.size < w2.heap.size := lt_of_block hc
  generalize hNN : W.heap.size = N at *
  have HNN := hid hNN
  clear hNN
  have hBX : ∀ U : World, U.heap[N]? = some (.cells #[.int .i64 xf, .int .i64 xt, .string (str xs), .bool xb] 60 (0, 0)) → U.cell? ⟨N, 0, none⟩ = some (.int .i64 xf) ∧ U.cell? ⟨N, 1, none⟩ = some (.int .i64 xt) ∧ U.cell? ⟨N, 2, none⟩ = some (.string (str xs)) ∧ U.cell? ⟨N, 3, none⟩ = some (.bool xb) := fun U h => (four_cells h).1
  have HBX := hid hBX
  clear hBX
  have hS : ∀ U, Below w2.heap.size w2 U → ((U.cell? ⟨N, 0, none⟩ = some (.int .i64 xf) ∧ U.cell? ⟨N, 1, none⟩ = some (.int .i64 xt) ∧ U.cell? ⟨N, 2, none⟩ = some (.string (str xs)) ∧ U.cell? ⟨N, 3, none⟩ = some (.bool xb)) ∧ Below B w2 U) := fun U hU => ⟨HBX.out U (keep0 HC2.out hU), hU.mono hbs⟩
  clear hc hb
  have c1a : ∀ o : Obj, (w2.alloc o).cell? ⟨b, 1, none⟩ = some (.slice A l.length c) := fun o => cellb (bel_alloc (Below.refl w2.heap.size w2) o) c1
  refine wp_region_held_drew (S := (fun U => (U.cell? ⟨N, 0, none⟩ = some (.int .i64 xf) ∧ U.cell? ⟨N, 1, none⟩ = some (.int .i64 xt) ∧ U.cell? ⟨N, 2, none⟩ = some (.string (str xs)) ∧ U.cell? ⟨N, 3, none⟩ = some (.bool xb)) ∧ Below B w2 U)) (by kernel_rfl) (hS _ (below_drew (Below.refl _ _))) (fun hHeld => ?_)
  refine wpAnyH_take (i := 0) (v := ?_) rfl (by kernel_rfl) (by kernel_rfl) (by kernel_rfl) (fun _ _ _ h => h) (Or.inl ⟨by rfl, ?_⟩) (by assumption) ?_
  rotate_left
  focus
    intro U hU
    try dsimp only at hU
    go_simp
    try (with_reducible rfl)
  simp only [List.getElem_toArray, List.getElem_cons_succ, List.getElem_cons_zero, Act.put, List.setIfInBounds_toArray, List.set_cons_zero, List.set_cons_succ]
  refine wpAnyH_take (i := 1) (v := ?_) rfl (by kernel_rfl) (by kernel_rfl) (by kernel_rfl) (fun _ _ _ h => h) (Or.inl ⟨by rfl, ?_⟩) (by assumption) ?_
  rotate_left
  focus
    intro U hU
    try dsimp only at hU
    go_simp
    try (with_reducible rfl)
  simp only [List.getElem_toArray, List.getElem_cons_succ, List.getElem_cons_zero, Act.put, List.setIfInBounds_toArray, List.set_cons_zero, List.set_cons_succ]
  refine wpAnyH_take (i := 2) (v := ?_) rfl (by kernel_rfl) (by kernel_rfl) (by kernel_rfl) (fun _ _ _ h => h) (Or.inl ⟨by rfl, ?_⟩) (by assumption) ?_
  rotate_left
  focus
    intro U hU
    try dsimp only at hU
    go_simp
    try (with_reducible rfl)
  simp only [List.getElem_toArray, List.getElem_cons_succ, List.getElem_cons_zero, Act.put, List.setIfInBounds_toArray, List.set_cons_zero, List.set_cons_succ]
  refine wpAnyH_take (i := 3) (v := ?_) rfl (by kernel_rfl) (by kernel_rfl) (by kernel_rfl) (fun _ _ _ h => h) (Or.inl ⟨by rfl, ?_⟩) (by assumption) ?_
  rotate_left
  focus
    intro U hU
    try dsimp only at hU
    go_simp
    try (with_reducible rfl)
  simp only [List.getElem_toArray, List.getElem_cons_succ, List.getElem_cons_zero, Act.put, List.setIfInBounds_toArray, List.set_cons_zero, List.set_cons_succ]
  refine wpAnyH_take (i := 5) (v := ?_) rfl (by kernel_rfl) (by kernel_rfl) (by kernel_rfl) (fun _ _ _ h => h) (Or.inl ⟨by rfl, ?_⟩) (by assumption) ?_
  rotate_left
  focus
    intro U hU
    try dsimp only at hU
    go_simp
    try (with_reducible rfl)
  simp only [List.getElem_toArray, List.getElem_cons_succ, List.getElem_cons_zero, Act.put, List.setIfInBounds_toArray, List.set_cons_zero, List.set_cons_succ]
  refine wpAnyH_ready (rs := [4, 6]) (by kernel_rfl) (by simp) ?_
  refine (AllReadyH.cons rfl (fun K hK => ?_) (AllReadyH.cons rfl (fun K hK => ?_) AllReadyH.nil))
  · skip
    simp only [List.getElem_toArray, List.getElem_cons_succ, List.getElem_cons_zero]
    go_simp
    refine hK.out _ _ ?_ (fun hHeld2 => ?_)
    focus
      exact hS _ (by repeat' (first | with_reducible exact Below.refl _ _ | with_reducible assumption | with_reducible refine below_drew ?_ | with_reducible refine bel_alloc ?_ _))
    clear hHeld
    have hHeld := hHeld2
    clear hHeld2 hK K
    try simp only [List.getElem_toArray, List.getElem_cons_succ, List.getElem_cons_zero, Act.put, List.setIfInBounds_toArray, List.set_cons_zero, List.set_cons_succ]
    refine wpAnyH_ready (rs := [6]) (by kernel_rfl) (by simp) ?_
    refine (AllReadyH.cons rfl (fun K hK => ?_) AllReadyH.nil)
    simp only [List.getElem_toArray, List.getElem_cons_succ, List.getElem_cons_zero]
    go_simp
    refine hK.out _ _ ?_ (fun hHeld2 => ?_)
    focus
      exact hS _ (by repeat' (first | with_reducible exact Below.refl _ _ | with_reducible assumption | with_reducible refine below_drew ?_ | with_reducible refine bel_alloc ?_ _))
    clear hHeld
    have hHeld := hHeld2
    clear hHeld2 hK K
    try simp only [List.getElem_toArray, List.getElem_cons_succ, List.getElem_cons_zero, Act.put, List.setIfInBounds_toArray, List.set_cons_zero, List.set_cons_succ]
    refine wpAnyH_ready (rs := [7]) (by kernel_rfl) (by simp) ?_
    refine (AllReadyH.cons rfl (fun K hK => ?_) AllReadyH.nil)
    refine step_append_slw rfl (.tmp 19) (.tmp 21) 68 rfl B 60 Try.underlying68 info_thing rfl (by omega) rfl (own_keep HO.out (by repeat' (first | with_reducible exact Below.refl _ _ | with_reducible assumption | with_reducible refine below_drew ?_ | with_reducible refine bel_alloc ?_ _))) rfl (by first | exact Sl.lit _ _ 4 1 #[.int .i64 xf, .int .i64 xt, .string (str xs), .bool xb] rfl (by unfold maxLen; omega) | exact Sl.below (Sl.lit _ _ 4 1 #[.int .i64 xf, .int .i64 xt, .string (str xs), .bool xb] rfl (by unfold maxLen; omega)) (below_drew (Below.refl _ _))) (by simp; exact ⟨rfl, rfl, rfl, rfl⟩) (show l.length + 1 ≤ maxLen by unfold maxLen; omega) (show (l.length + 1) * 40 ≤ 140737488355328 by omega) (Nat.le_trans hbs hHeld.2.size) ?_
    intro v5 w5 ho5 ht5 hrow5
    have hsz5 := ht5.size
    have hb5 := ht5.below B (fun g hg _ => (own_lt HO.out g hg).1) (Nat.le_trans hbs hHeld.2.size)
    have hk5 : ∀ g, B ≤ g → g < _ → (Value.slice A l.length c).ownBlock ≠ some g → w5.heap[g]? = _ := fun g _ hl hne => ht5.keep g hne hl
    have HROW := hid (fun g hg => (show v5.ownBlock = some g → w2.heap.size ≤ g ∨ (Value.slice A l.length c).ownBlock = some g from fun he => by
      rcases hrow5 with h | h
      · exact .inr (h.symm.trans he)
      · exact .inl (Nat.le_trans hHeld.2.size (h g he))) hg)
    clear ht5 hrow5
    have hU : Below w2.heap.size w2 (w2.alloc (Obj.cells #[.int .i64 xf, .int .i64 xt, .string (str xs), .bool xb] 60)).drew := below_drew (bel_alloc (Below.refl w2.heap.size w2) _)
    have hk6 : ∀ g, B ≤ g → g < w2.heap.size → (Value.slice A l.length c).ownBlock ≠ some g → w5.heap[g]? = w2.heap[g]? := fun g h1 h2 h3 => (hk5 g h1 (Nat.lt_of_lt_of_le h2 hU.size) h3).trans (hU.block g h2)
    clear hk5 hsz5
    have hC5 : w5.heap[N]? = some (Obj.cells #[.int .i64 xf, .int .i64 xt, .string (str xs), .bool xb] 60 (0, 0)) := (hk6 N hB hNW (fun e => Nat.lt_irrefl N (HNB.out N e))).trans HC2.out
    have hb6 : Below B w2 w5 := (hU.mono hbs).trans hb5
    have hN5 : w5.heap[b]? = some (Obj.cells #[.int .i64 m, .slice A l.length c] 133 (0, 0)) := (hk6 b h0 (Nat.lt_trans hlt hNW) (own_blk_ne2 HO.out H1.out (by decide))).trans H1.out
    obtain ⟨A5, c5, rfl, _⟩ := Sl.of_own ho5
    have hS5 := And.intro (HBX.out w5 hC5) hb6
    have hS6 := fun u => And.intro (HBX.out (w5.setCell ⟨b, 1, none⟩ u) ((Below.heap_setCell _ _ _ _ (show N ≠ b by omega)).trans hC5)) (hb6.setCell (p := ⟨b, 1, none⟩) h0 u)
    obtain ⟨q0, q1, g0, g1⟩ := two_cells hN5
    have HK6 := hid hk6
    have HN5 := hid hN5
    have HO5 := hid ho5
    have HB6 := hid hb6
    clear hk6 hN5 ho5 hb6 hC5 hb5 hU
    refine hK.out _ _ ?_ (fun hHeld2 => ?_)
    focus
      exact hS5
    clear hHeld
    have hHeld := hHeld2
    clear hHeld2 hK K
    try simp only [List.getElem_toArray, List.getElem_cons_succ, List.getElem_cons_zero, Act.put, List.setIfInBounds_toArray, List.set_cons_zero, List.set_cons_succ]
    refine wpAnyH_take (i := 8) (v := ?_) rfl (by kernel_rfl) (by kernel_rfl) (by kernel_rfl) (fun _ _ _ h => h) (Or.inl ⟨by rfl, ?_⟩) (by assumption) ?_
    rotate_left
    focus
      intro U hU
      try dsimp only at hU
      go_simp
      try (with_reducible rfl)
    simp only [List.getElem_toArray, List.getElem_cons_succ, List.getElem_cons_zero, Act.put, List.setIfInBounds_toArray, List.set_cons_zero, List.set_cons_succ]
    refine wpAnyH_take (i := 9) (v := ?_) rfl (by kernel_rfl) (by kernel_rfl) (by kernel_rfl) (fun _ _ _ h => h) (Or.inl ⟨by rfl, ?_⟩) (by assumption) ?_
    rotate_left
    focus
      intro U hU
      try dsimp only at hU
      go_simp
      try (with_reducible rfl)
    simp only [List.getElem_toArray, List.getElem_cons_succ, List.getElem_cons_zero, Act.put, List.setIfInBounds_toArray, List.set_cons_zero, List.set_cons_succ]
    refine wpAnyH_ready (rs := [10]) (by kernel_rfl) (by simp) ?_
    refine (AllReadyH.cons rfl (fun K hK => ?_) AllReadyH.nil)
    simp only [List.getElem_toArray, List.getElem_cons_succ, List.getElem_cons_zero]
    go_simp
    refine hK.out _ _ ?_ (fun hHeld2 => ?_)
    focus
      exact hS6 _
    clear hHeld
    have hHeld := hHeld2
    clear hHeld2 hK K
    try simp only [List.getElem_toArray, List.getElem_cons_succ, List.getElem_cons_zero, Act.put, List.setIfInBounds_toArray, List.set_cons_zero, List.set_cons_succ]
    refine wpAnyH_done (by kernel_rfl) ?_ _
    clear hHeld hS5 hS6 hS c1a
    go_wp2
    go_ret
    rw [HL'.out]
    refine ⟨rfl, ⟨h0, A5, c5, ?_, ?_⟩, ?_, ?_⟩
    · rw [List.length_append]
      exact heap_setCell_same w5 b 1 _ _ _ HN5.out
    · rw [List.length_append, tcells_append]
      exact own_setT HO5.out HN5.out (by decide)
    · have h9 : Below B W w2 := HB2.out.mono hB
      exact h9.trans (HB6.out.setCell (p := ⟨b, 1, none⟩) h0 _)
    · have hWs : W.heap.size ≤ w2.heap.size := by rw [HNN.out]; omega
      have e0 : W.cell? ⟨b, 1, none⟩ = some (.slice A l.length c) := (two_cells H11.out).2.1
      refine ⟨?_, fun k o hk hT h9 => ?_, fun v' k h1 h2 => ?_⟩
      · have h7 := HB6.out.size
        simp [World.setCell]
        omega
      · have h8 := lt_of_block h9
        rw [HNN.out] at h8
        have h7 := (HB2.out.block k h8).trans h9
        rw [Below.heap_setCell _ _ _ _ hk]
        by_cases hkB : B ≤ k
        · rw [HK6.out k hkB (lt_of_block h7) (hT _ e0)]
          exact h7
        · rw [HB6.out.block k (by omega)]
          exact h7
      · have e9 := (two_cells (heap_setCell_same w5 b 1 _ _ (.slice A5 (l.length + 1) c5) HN5.out)).2.1
        have e8 := e9.symm.trans h1
        cases e8
        rcases HROW.out k h2 with h | h
        · exact .inl (Nat.le_trans hWs h)
        · exact .inr ⟨_, e0, h⟩
  · skip
    simp only [List.getElem_toArray, List.getElem_cons_succ, List.getElem_cons_zero]
    go_simp
    refine hK.out _ _ ?_ (fun hHeld2 => ?_)
    focus
      exact hS _ (by repeat' (first | with_reducible exact Below.refl _ _ | with_reducible assumption | with_reducible refine below_drew ?_ | with_reducible refine bel_alloc ?_ _))
    clear hHeld
    have hHeld := hHeld2
    clear hHeld2 hK K
    try simp only [List.getElem_toArray, List.getElem_cons_succ, List.getElem_cons_zero, Act.put, List.setIfInBounds_toArray, List.set_cons_zero, List.set_cons_succ]
    refine wpAnyH_ready (rs := [4]) (by kernel_rfl) (by simp) ?_
    refine (AllReadyH.cons rfl (fun K hK => ?_) AllReadyH.nil)
    simp only [List.getElem_toArray, List.getElem_cons_succ, List.getElem_cons_zero]
    go_simp
    refine hK.out _ _ ?_ (fun hHeld2 => ?_)
    focus
      exact hS _ (by repeat' (first | with_reducible exact Below.refl _ _ | with_reducible assumption | with_reducible refine below_drew ?_ | with_reducible refine bel_alloc ?_ _))
    clear hHeld
    have hHeld := hHeld2
    clear hHeld2 hK K
    try simp only [List.getElem_toArray, List.getElem_cons_succ, List.getElem_cons_zero, Act.put, List.setIfInBounds_toArray, List.set_cons_zero, List.set_cons_succ]
    refine wpAnyH_ready (rs := [7]) (by kernel_rfl) (by simp) ?_
    refine (AllReadyH.cons rfl (fun K hK => ?_) AllReadyH.nil)
    refine step_append_slw rfl (.tmp 19) (.tmp 21) 68 rfl B 60 Try.underlying68 info_thing rfl (by omega) rfl (own_keep HO.out (by repeat' (first | with_reducible exact Below.refl _ _ | with_reducible assumption | with_reducible refine below_drew ?_ | with_reducible refine bel_alloc ?_ _))) rfl (by first | exact Sl.lit _ _ 4 1 #[.int .i64 xf, .int .i64 xt, .string (str xs), .bool xb] rfl (by unfold maxLen; omega) | exact Sl.below (Sl.lit _ _ 4 1 #[.int .i64 xf, .int .i64 xt, .string (str xs), .bool xb] rfl (by unfold maxLen; omega)) (below_drew (Below.refl _ _))) (by simp; exact ⟨rfl, rfl, rfl, rfl⟩) (show l.length + 1 ≤ maxLen by unfold maxLen; omega) (show (l.length + 1) * 40 ≤ 140737488355328 by omega) (Nat.le_trans hbs hHeld.2.size) ?_
    intro v5 w5 ho5 ht5 hrow5
    have hsz5 := ht5.size
    have hb5 := ht5.below B (fun g hg _ => (own_lt HO.out g hg).1) (Nat.le_trans hbs hHeld.2.size)
    have hk5 : ∀ g, B ≤ g → g < _ → (Value.slice A l.length c).ownBlock ≠ some g → w5.heap[g]? = _ := fun g _ hl hne => ht5.keep g hne hl
    have HROW := hid (fun g hg => (show v5.ownBlock = some g → w2.heap.size ≤ g ∨ (Value.slice A l.length c).ownBlock = some g from fun he => by
      rcases hrow5 with h | h
      · exact .inr (h.symm.trans he)
      · exact .inl (Nat.le_trans hHeld.2.size (h g he))) hg)
    clear ht5 hrow5
    have hU : Below w2.heap.size w2 (w2.alloc (Obj.cells #[.int .i64 xf, .int .i64 xt, .string (str xs), .bool xb] 60)).drew := below_drew (bel_alloc (Below.refl w2.heap.size w2) _)
    have hk6 : ∀ g, B ≤ g → g < w2.heap.size → (Value.slice A l.length c).ownBlock ≠ some g → w5.heap[g]? = w2.heap[g]? := fun g h1 h2 h3 => (hk5 g h1 (Nat.lt_of_lt_of_le h2 hU.size) h3).trans (hU.block g h2)
    clear hk5 hsz5
    have hC5 : w5.heap[N]? = some (Obj.cells #[.int .i64 xf, .int .i64 xt, .string (str xs), .bool xb] 60 (0, 0)) := (hk6 N hB hNW (fun e => Nat.lt_irrefl N (HNB.out N e))).trans HC2.out
    have hb6 : Below B w2 w5 := (hU.mono hbs).trans hb5
    have hN5 : w5.heap[b]? = some (Obj.cells #[.int .i64 m, .slice A l.length c] 133 (0, 0)) := (hk6 b h0 (Nat.lt_trans hlt hNW) (own_blk_ne2 HO.out H1.out (by decide))).trans H1.out
    obtain ⟨A5, c5, rfl, _⟩ := Sl.of_own ho5
    have hS5 := And.intro (HBX.out w5 hC5) hb6
    have hS6 := fun u => And.intro (HBX.out (w5.setCell ⟨b, 1, none⟩ u) ((Below.heap_setCell _ _ _ _ (show N ≠ b by omega)).trans hC5)) (hb6.setCell (p := ⟨b, 1, none⟩) h0 u)
    obtain ⟨q0, q1, g0, g1⟩ := two_cells hN5
    have HK6 := hid hk6
    have HN5 := hid hN5
    have HO5 := hid ho5
    have HB6 := hid hb6
    clear hk6 hN5 ho5 hb6 hC5 hb5 hU
    refine hK.out _ _ ?_ (fun hHeld2 => ?_)
    focus
      exact hS5
    clear hHeld
    have hHeld := hHeld2
    clear hHeld2 hK K
    try simp only [List.getElem_toArray, List.getElem_cons_succ, List.getElem_cons_zero, Act.put, List.setIfInBounds_toArray, List.set_cons_zero, List.set_cons_succ]
    refine wpAnyH_take (i := 8) (v := ?_) rfl (by kernel_rfl) (by kernel_rfl) (by kernel_rfl) (fun _ _ _ h => h) (Or.inl ⟨by rfl, ?_⟩) (by assumption) ?_
    rotate_left
    focus
      intro U hU
      try dsimp only at hU
      go_simp
      try (with_reducible rfl)
    simp only [List.getElem_toArray, List.getElem_cons_succ, List.getElem_cons_zero, Act.put, List.setIfInBounds_toArray, List.set_cons_zero, List.set_cons_succ]
    refine wpAnyH_take (i := 9) (v := ?_) rfl (by kernel_rfl) (by kernel_rfl) (by kernel_rfl) (fun _ _ _ h => h) (Or.inl ⟨by rfl, ?_⟩) (by assumption) ?_
    rotate_left
    focus
      intro U hU
      try dsimp only at hU
      go_simp
      try (with_reducible rfl)
    simp only [List.getElem_toArray, List.getElem_cons_succ, List.getElem_cons_zero, Act.put, List.setIfInBounds_toArray, List.set_cons_zero, List.set_cons_succ]
    refine wpAnyH_ready (rs := [10]) (by kernel_rfl) (by simp) ?_
    refine (AllReadyH.cons rfl (fun K hK => ?_) AllReadyH.nil)
    simp only [List.getElem_toArray, List.getElem_cons_succ, List.getElem_cons_zero]
    go_simp
    refine hK.out _ _ ?_ (fun hHeld2 => ?_)
    focus
      exact hS6 _
    clear hHeld
    have hHeld := hHeld2
    clear hHeld2 hK K
    try simp only [List.getElem_toArray, List.getElem_cons_succ, List.getElem_cons_zero, Act.put, List.setIfInBounds_toArray, List.set_cons_zero, List.set_cons_succ]
    refine wpAnyH_done (by kernel_rfl) ?_ _
    clear hHeld hS5 hS6 hS c1a
    go_wp2
    go_ret
    rw [HL'.out]
    refine ⟨rfl, ⟨h0, A5, c5, ?_, ?_⟩, ?_, ?_⟩
    · rw [List.length_append]
      exact heap_setCell_same w5 b 1 _ _ _ HN5.out
    · rw [List.length_append, tcells_append]
      exact own_setT HO5.out HN5.out (by decide)
    · have h9 : Below B W w2 := HB2.out.mono hB
      exact h9.trans (HB6.out.setCell (p := ⟨b, 1, none⟩) h0 _)
    · have hWs : W.heap.size ≤ w2.heap.size := by rw [HNN.out]; omega
      have e0 : W.cell? ⟨b, 1, none⟩ = some (.slice A l.length c) := (two_cells H11.out).2.1
      refine ⟨?_, fun k o hk hT h9 => ?_, fun v' k h1 h2 => ?_⟩
      · have h7 := HB6.out.size
        simp [World.setCell]
        omega
      · have h8 := lt_of_block h9
        rw [HNN.out] at h8
        have h7 := (HB2.out.block k h8).trans h9
        rw [Below.heap_setCell _ _ _ _ hk]
        by_cases hkB : B ≤ k
        · rw [HK6.out k hkB (lt_of_block h7) (hT _ e0)]
          exact h7
        · rw [HB6.out.block k (by omega)]
          exact h7
      · have e9 := (two_cells (heap_setCell_same w5 b 1 _ _ (.slice A5 (l.length + 1) c5) HN5.out)).2.1
        have e8 := e9.symm.trans h1
        cases e8
        rcases HROW.out k h2 with h | h
        · exact .inl (Nat.le_trans hWs h)
        · exact .inr ⟨_, e0, h⟩

set_option maxRecDepth 20000 in
set_option maxHeartbeats 4000000 in
theorem nsend_oth (B b : Nat) (m f t : Int) (l : List Tg) (A : Option Addr) (cap : Nat) (ss : List (List UInt8)) (W : World) (h : NetAt B b m l W) (hA : Sl W 1 A ss.length cap (scells ss)) (hAo : ∀ w, Below B W w → Oth b W w → Sl w 1 A ss.length cap (scells ss)) (hB : B ≤ W.heap.size) (hl : l.length ≤ 50000) (hs : ss.length ≤ 50000) :
    Calls Try.prog 25 #[.pointer (some ⟨b, 0, none⟩), .int .i64 f, .int .i64 t, .slice A ss.length cap] W fun e w' => e = .returned (.int .i64 (((sendL m f t l ss).length : Int) - (l.length : Int))) ∧ NetAt B b m (sendL m f t l ss) w' ∧ Below B W w' ∧ Oth b W w' := by
  have HN := hid h
  have HA := hid hAo
  clear h hA hAo
  go_enter Try.func25, Try.ntmps25
  go_wp2
  go_loopw [9, 16] (fun v i wr => ∃ k : Nat, k ≤ ss.length ∧ i = .int .i64 (k : Int) ∧ v = .int .i64 (((sendL m f t l (ss.take k)).length : Int) - (l.length : Int)) ∧ Hid (NetAt B b m (sendL m f t l (ss.take k)) wr) ∧ Hid (Below B W wr) ∧ Hid (Oth b W wr)) (fun _ i _ => ss.length - (intOf i).toNat)
  case atStart => exact ⟨0, by omega, rfl, by simp [sendL], HN.out, Below.refl _ _, Oth.refl _ _⟩
  case round =>
    obtain ⟨k, hk, rfl, rfl, HN2, HB2, HO2⟩ := hrel
    have HLE := hid (sendL_len m f t l (ss.take k))
    have HTL : Hid ((ss.take k).length ≤ k) := hid (by rw [List.length_take]; omega)
    by_cases hlt : k < ss.length
    · have hlt2 : (k : Int) < (ss.length : Int) := by omega
      obtain ⟨b', off, rfl, hc⟩ := Sl.at (HA.out wr HB2.out HO2.out) k (by rw [scells_length]; exact hlt)
      have e1 : (scells ss)[k]'(by rw [scells_length]; exact hlt) = .string (str (ss[k]'hlt)) := by simp [scells]
      rw [e1] at hc
      have HSN := hid (sendL_snoc m f t l (ss.take k) ss[k])
      rw [← List.take_succ_eq_append_getElem hlt] at HSN
      generalize ss[k]'hlt = s at hc HSN
      generalize hX : sendL m f t l (ss.take k) = X at *
      clear hX
      have hxl : X.length ≤ 100000 := by have h1 := HLE.out; have h2 := HTL.out; omega
      have hxl2 : l.length ≤ X.length := HLE.out.1
      clear e1
      have HAD := hid (nadd_oth B b m X (Tg.mk f t s false) wr HN2.out (Nat.le_trans hB HB2.out.size) hxl)
      rw [← HSN.out] at HAD
      go_wp2_with fail
      refine HAD.out.mono ?_
      rintro e w3 ⟨rfl, hn3, hb3, ho3⟩
      have HN3 := hid hn3
      have HB3 := hid (HB2.out.trans hb3)
      have HO3 := hid (HO2.out.trans ho3)
      clear hn3 hb3 ho3 HAD HN2 HB2 HO2 hc
      by_cases hm : (X.length : Int) < m
      · have HV : Hid (sendL m f t l (ss.take (k + 1)) = X ++ [Tg.mk f t s false]) := hid (by rw [HSN.out, if_pos hm])
        have hd : decide ((X.length : Int) < m) = true := decide_eq_true hm
        go_wp2
        go_roundw
        case rel => exact ⟨k + 1, by omega, by go_num, by rw [HV.out, List.length_append, List.length_singleton]; go_num, HN3.out, HB3.out, HO3.out⟩
        case measure => simp [intOf]; omega
      · have HV : Hid (sendL m f t l (ss.take (k + 1)) = X) := hid (by rw [HSN.out, if_neg hm])
        have hd : decide ((X.length : Int) < m) = false := decide_eq_false hm
        go_wp2
        go_roundw
        case rel => exact ⟨k + 1, by omega, by go_num, by rw [HV.out], HN3.out, HB3.out, HO3.out⟩
        case measure => simp [intOf]; omega
    · obtain rfl : k = ss.length := by omega
      have hge : ¬ ((ss.length : Nat) : Int) < ((ss.length : Nat) : Int) := by omega
      have HT := hid (List.take_length (l := ss))
      rw [Hid, HT.out] at HN2
      clear hlt hk
      go_wp2
      go_ret
      exact ⟨by simp, HN2, HB2.out, HO2.out⟩
end Go.Proofs.Ytdphdodjidbngaa
