/- the document's port: an end is written in its place. -/
import Derived.Test.YtdphdodjidbngaaGreatQPvF
import Derived.Test.YtdphdodjidbngaaGreatQPvG
import Derived.Test.YtdphdodjidbngaaGreatPtU
import Derived.Test.YtdphdodjidbngaaGreatGaP
import Derived.Test.YtdphdodjidbngaaGreatQGt
import Derived.Deep.CutRange
namespace Go.Proofs.YtdphdodjidbngaaGreat
open Go.RowKit Go.Sort
set_option linter.unusedVariables false
set_option linter.unusedSimpArgs false

theorem e7_set : ∀ (xs : List Ea) (i : Nat) (hi : i < xs.length) (y : Ea), gcells e7 (xs.set i y) = (((((((((((gcells e7 xs).set (i * 11) (.int .i64 y.1.f)).set (i * 11 + 1) (.int .i64 y.1.t)).set (i * 11 + 2) (.int .i64 y.1.i)).set (i * 11 + 3) (.int .i64 y.1.o.p)).set (i * 11 + 4) (.int .i64 y.1.o.q)).set (i * 11 + 5) (.slice y.2.1 y.1.o.l.length y.2.2)).set (i * 11 + 6) (.int .i64 y.1.o.w)).set (i * 11 + 7) (.int .i64 y.1.o.f)).set (i * 11 + 8) (.int .i64 y.1.m)).set (i * 11 + 9) (.int .i64 y.1.p)).set (i * 11 + 10) (.int .i64 y.1.l)
  | [], i, hi, y => absurd hi (by simp)
  | x :: xs, 0, hi, y => by simp [gcells, e7, ec]
  | x :: xs, i + 1, hi, y => by
    have ih := e7_set xs i (by simpa using hi) y
    have hl : (e7 x).length = 11 := rfl
    have e0 : (i + 1) * 11 - 11 = i * 11 := by omega
    have e1 : ∀ d, (i + 1) * 11 + d - 11 = i * 11 + d := fun d => by omega
    simp only [List.set_cons_succ]
    rw [gcells_cons, gcells_cons, ih]
    rw [List.set_append_right _ _ (by omega), List.set_append_right _ _ (by omega), List.set_append_right _ _ (by omega), List.set_append_right _ _ (by omega), List.set_append_right _ _ (by omega), List.set_append_right _ _ (by omega), List.set_append_right _ _ (by omega), List.set_append_right _ _ (by omega), List.set_append_right _ _ (by omega), List.set_append_right _ _ (by omega), List.set_append_right _ _ (by omega), hl, e0, e1, e1, e1, e1, e1, e1, e1, e1, e1, e1]
/-- Eleven cells are written. -/
def putO (w : World) (b o : Nat) (v0 v1 v2 v3 v4 v5 v6 v7 v8 v9 v10 : Value) : World := ((((((((((w.setCell ⟨b, o, none⟩ v0).setCell ⟨b, o + 1, none⟩ v1).setCell ⟨b, o + 2, none⟩ v2).setCell ⟨b, o + 3, none⟩ v3).setCell ⟨b, o + 4, none⟩ v4).setCell ⟨b, o + 5, none⟩ v5).setCell ⟨b, o + 6, none⟩ v6).setCell ⟨b, o + 7, none⟩ v7).setCell ⟨b, o + 8, none⟩ v8).setCell ⟨b, o + 9, none⟩ v9).setCell ⟨b, o + 10, none⟩ v10
theorem putO_other {g b : Nat} (hg : g ≠ b) (w : World) (o : Nat) (v0 v1 v2 v3 v4 v5 v6 v7 v8 v9 v10 : Value) : (putO w b o v0 v1 v2 v3 v4 v5 v6 v7 v8 v9 v10).heap[g]? = w.heap[g]? := by
  unfold putO
  refine (Below.heap_setCell _ _ _ _ hg).trans ?_
  refine (Below.heap_setCell _ _ _ _ hg).trans ?_
  refine (Below.heap_setCell _ _ _ _ hg).trans ?_
  refine (Below.heap_setCell _ _ _ _ hg).trans ?_
  refine (Below.heap_setCell _ _ _ _ hg).trans ?_
  refine (Below.heap_setCell _ _ _ _ hg).trans ?_
  refine (Below.heap_setCell _ _ _ _ hg).trans ?_
  refine (Below.heap_setCell _ _ _ _ hg).trans ?_
  refine (Below.heap_setCell _ _ _ _ hg).trans ?_
  refine (Below.heap_setCell _ _ _ _ hg).trans ?_
  refine (Below.heap_setCell _ _ _ _ hg).trans ?_
  rfl
theorem putO_below {base : Nat} {w0 w : World} {b : Nat} (h : Below base w0 w) (hb : base ≤ b) (o : Nat) (v0 v1 v2 v3 v4 v5 v6 v7 v8 v9 v10 : Value) : Below base w0 (putO w b o v0 v1 v2 v3 v4 v5 v6 v7 v8 v9 v10) := by
  unfold putO
  exact ((((((((((h.setCell (p := ⟨b, _, none⟩) hb _).setCell (p := ⟨b, _, none⟩) hb _).setCell (p := ⟨b, _, none⟩) hb _).setCell (p := ⟨b, _, none⟩) hb _).setCell (p := ⟨b, _, none⟩) hb _).setCell (p := ⟨b, _, none⟩) hb _).setCell (p := ⟨b, _, none⟩) hb _).setCell (p := ⟨b, _, none⟩) hb _).setCell (p := ⟨b, _, none⟩) hb _).setCell (p := ⟨b, _, none⟩) hb _).setCell (p := ⟨b, _, none⟩) hb _
/-- The row of ends, where it lies. -/
structure RowE (w : World) (base gr n cap : Nat) (xs : List Value) : Prop where
  own : w.ownsRow base 82 11 (.slice (some ⟨gr, 0, none⟩) n cap) n xs
  ns : ∀ (i : Nat) (s : ByteArray), xs[i]? ≠ some (.string s)
  pos : 0 < n
theorem RowE.set {w0 w : World} {base gr n cap : Nat} {xs : List Value} (hs : StS w0 w ∧ RowE w base gr n cap xs) (i : Nat) (u : Value) (hu : ∀ s, u ≠ .string s) (hi : i < xs.length) : StS w0 (w.setCell ⟨gr, i, none⟩ u) ∧ RowE (w.setCell ⟨gr, i, none⟩ u) base gr n cap (xs.set i u) := by
  obtain ⟨h1, h2, h3, h4⟩ := hs
  obtain ⟨g9, c9, h9, _, _, _, hc, hset, _⟩ := own_open h2 h4 (by omega)
  cases h9
  obtain ⟨_, _, cur, hb⟩ := own_lt h2 gr rfl
  refine ⟨h1.trans (StS.cell hb (hc i hi).1 fun s e => h3 i s (by rw [List.getElem?_eq_getElem hi, e])), hset i u, fun j s e => ?_, h4⟩
  by_cases hij : i = j
  · subst hij
    rw [List.getElem?_set_self hi] at e
    cases e
    exact hu s rfl
  · rw [List.getElem?_set_ne hij] at e
    exact h3 j s e
theorem putO_row {w0 w : World} {base b n cap : Nat} {xs : List Value} (hs : StS w0 w ∧ RowE w base b n cap xs) (o : Nat) (ho : o + 11 ≤ xs.length) (v0 v1 v2 v3 v4 v5 v6 v7 v8 v9 v10 : Value) (hu : ∀ v ∈ [v0, v1, v2, v3, v4, v5, v6, v7, v8, v9, v10], ∀ s, v ≠ .string s) : StS w0 (putO w b o v0 v1 v2 v3 v4 v5 v6 v7 v8 v9 v10) ∧ RowE (putO w b o v0 v1 v2 v3 v4 v5 v6 v7 v8 v9 v10) base b n cap ((((((((((((xs.set (o) v0).set (o + 1) v1).set (o + 2) v2).set (o + 3) v3).set (o + 4) v4).set (o + 5) v5).set (o + 6) v6).set (o + 7) v7).set (o + 8) v8).set (o + 9) v9).set (o + 10) v10)) := by
  unfold putO
  exact RowE.set (RowE.set (RowE.set (RowE.set (RowE.set (RowE.set (RowE.set (RowE.set (RowE.set (RowE.set (RowE.set hs _ _ (hu _ (by simp)) (by omega)) _ _ (hu _ (by simp)) (by simp only [List.length_set]; omega)) _ _ (hu _ (by simp)) (by simp only [List.length_set]; omega)) _ _ (hu _ (by simp)) (by simp only [List.length_set]; omega)) _ _ (hu _ (by simp)) (by simp only [List.length_set]; omega)) _ _ (hu _ (by simp)) (by simp only [List.length_set]; omega)) _ _ (hu _ (by simp)) (by simp only [List.length_set]; omega)) _ _ (hu _ (by simp)) (by simp only [List.length_set]; omega)) _ _ (hu _ (by simp)) (by simp only [List.length_set]; omega)) _ _ (hu _ (by simp)) (by simp only [List.length_set]; omega)) _ _ (hu _ (by simp)) (by simp only [List.length_set]; omega)
/-- The document's port under way, its texts as they were. -/
structure T7 (W w : World) (base g : Nat) (nd inc bd : Int) (X : List Ea) : Prop where
  row : ∃ A c, w.heap[g]? = some (.cells #[.int .i64 nd, .int .i64 inc, .int .i64 bd, .slice A X.length c] 63 (0, 0)) ∧ w.ownsRow base 82 11 (.slice A X.length c) X.length (gcells e7 X)
  tx : ∀ x ∈ X, Sl W 1 x.2.1 x.1.o.l.length x.2.2 (scells x.1.o.l)
  st : StS W w
  be : Below base W w
theorem T7.of {W : World} {base g : Nat} {nd inc bd : Int} {X : List Ea} (h : P7 W base g nd inc bd X) : T7 W W base g nd inc bd X := ⟨h.row, h.tx, StS.refl _, Below.refl _ _⟩
theorem T7.p7 {W w : World} {base g : Nat} {nd inc bd : Int} {X : List Ea} (h : T7 W w base g nd inc bd X) : P7 w base g nd inc bd X := ⟨h.row, fun x hx => (h.tx x hx).sts h.st⟩
theorem T7.below {W w w' : World} {base g : Nat} {nd inc bd : Int} {X : List Ea} (h : T7 W w base g nd inc bd X) (hb : Below w.heap.size w w') (hbW : base ≤ W.heap.size) : T7 W w' base g nd inc bd X := by
  obtain ⟨⟨A, c, h1, h2⟩, h3, h4, h5⟩ := h
  exact ⟨⟨A, c, keep0 h1 hb, own_keep h2 hb⟩, h3, h4.trans (StS.of_below hb), h5.trans (hb.mono (Nat.le_trans hbW h4.size))⟩
theorem StS.tch {W w w' : World} {S : Nat → Prop} (h : StS W w) (k : Tch S w w') (hs : ∀ g, S g → W.heap.size ≤ g) : StS W w' := by
  have key : ∀ b, b < W.heap.size → w'.heap[b]? = w.heap[b]? := fun b hb => k.keep b (fun h9 => by have := hs b h9; omega) (Nat.lt_of_lt_of_le hb h.size)
  refine ⟨Nat.le_trans h.size k.size, fun b es c e => (key b (lt_of_block e)).trans (h.map b es c e), fun b cs t o h1 h2 e => (key b (lt_of_block e)).trans (h.oth b cs t o h1 h2 e), fun b i s e => ?_⟩
  rw [World.cell?_of_block (w := w) (a := ⟨b, i, none⟩) (key b (lt_of_cell e))]
  exact h.str b i s e
theorem T7.tch {W w w' : World} {base g n : Nat} {nd inc bd : Int} {X : List Ea} {v : Value} {xs : List Value} (h : T7 W w base g nd inc bd X) (ho : w.ownsRow W.heap.size 9 1 v n xs) (ht : Tch (fun gg => v.ownBlock = some gg) w w') (hbW : base ≤ W.heap.size) : T7 W w' base g nd inc bd X := by
  obtain ⟨⟨A, c, h1, h2⟩, h3, h4, h5⟩ := h
  refine ⟨⟨A, c, ?_, ?_⟩, h3, h4.tch ht fun gg hg => (own_lt ho gg hg).1, h5.trans (ht.below base (fun gg hg _ => Nat.le_trans hbW (own_lt ho gg hg).1) (Nat.le_trans hbW h4.size))⟩
  · exact ht.block h1 fun h9 => own_apart_blk ho h1 (by decide) g h9 rfl
  · exact ht.own h2 fun gg hg => own_apart h2 ho (by decide) gg hg
theorem e7_ns (X : List Ea) : ∀ (i : Nat) (s : ByteArray), (gcells e7 X)[i]? ≠ some (.string s) := by
  intro i s h
  have := List.mem_of_getElem? h
  simp only [gcells, List.mem_flatten, List.mem_map] at this
  obtain ⟨l, ⟨x, _, rfl⟩, h9⟩ := this
  simp [e7, ec] at h9
theorem T7.lie {W w : World} {base g : Nat} {nd inc bd : Int} {X : List Ea} (h : T7 W w base g nd inc bd X) (k : Nat) (hk : k < X.length) : ∃ gr c, w.heap[g]? = some (.cells #[.int .i64 nd, .int .i64 inc, .int .i64 bd, .slice (some ⟨gr, 0, none⟩) X.length c] 63 (0, 0)) ∧ base ≤ gr ∧ g ≠ gr ∧ RowE w base gr X.length c (gcells e7 X) ∧ X.length ≤ maxLen ∧ (∃ cs, w.heap[gr]? = some (.cells cs 82 (0, 0))) := by
  obtain ⟨⟨A, c, h1, h2⟩, h3, h4, h5⟩ := h
  obtain ⟨gr, c9, h9, hbg, hnc, hcm, hc, hset, hlt⟩ := own_open h2 (by omega) (by omega)
  cases h9
  obtain ⟨_, _, cur, hb⟩ := own_lt h2 gr rfl
  refine ⟨gr, _, h1, hbg, ?_, ⟨h2, e7_ns X, by omega⟩, Nat.le_trans hnc hcm, cur, hb⟩
  rintro rfl
  rw [h1] at hb
  injection hb with hb
  injection hb with _ ht
  revert ht
  decide
theorem T7.upd {W w : World} {base g gr c0 : Nat} {nd inc bd : Int} {X : List Ea} (h : T7 W w base g nd inc bd X) (hbW : base ≤ W.heap.size) (k : Nat) (hk : k < X.length) (e : Ev) (A : Option Addr) (c : Nat) (hT : Sl W 1 A e.o.l.length c (scells e.o.l))
    (h1 : w.heap[g]? = some (.cells #[.int .i64 nd, .int .i64 inc, .int .i64 bd, .slice (some ⟨gr, 0, none⟩) X.length c0] 63 (0, 0))) (hbg : base ≤ gr) (hne : g ≠ gr) (hr : RowE w base gr X.length c0 (gcells e7 X)) : T7 W (putO w gr (k * 11) (.int .i64 e.f) (.int .i64 e.t) (.int .i64 e.i) (.int .i64 e.o.p) (.int .i64 e.o.q) (.slice A e.o.l.length c) (.int .i64 e.o.w) (.int .i64 e.o.f) (.int .i64 e.m) (.int .i64 e.p) (.int .i64 e.l)) base g nd inc bd (X.set k (e, A, c)) := by
  obtain ⟨-, h3, h4, h5⟩ := h
  have hl : (gcells e7 X).length = X.length * 11 := gcells_length e7_len X
  have hk2 : k * 11 + 11 ≤ X.length * 11 := by omega
  obtain ⟨k1, k2⟩ := putO_row ⟨h4, hr⟩ (k * 11) (by omega) (.int .i64 e.f) (.int .i64 e.t) (.int .i64 e.i) (.int .i64 e.o.p) (.int .i64 e.o.q) (.slice A e.o.l.length c) (.int .i64 e.o.w) (.int .i64 e.o.f) (.int .i64 e.m) (.int .i64 e.p) (.int .i64 e.l) (by simp)
  refine ⟨⟨some ⟨gr, 0, none⟩, c0, ?_, ?_⟩, fun x hx => ?_, k1, putO_below h5 hbg _ _ _ _ _ _ _ _ _ _ _ _⟩
  · rw [List.length_set]
    exact (putO_other hne w _ _ _ _ _ _ _ _ _ _ _ _).trans h1
  · rw [List.length_set, e7_set X k hk (e, A, c)]
    exact k2.own
  · rcases List.mem_or_eq_of_mem_set hx with h9 | rfl
    · exact h3 x h9
    · exact hT
theorem RowE.at {w : World} {base gr c : Nat} {X : List Ea} (h : RowE w base gr X.length c (gcells e7 X)) (k : Nat) (hk : k < X.length) : (w.cell? ⟨gr, k * 11, none⟩ = some (.int .i64 X[k].1.f) ∧ w.cell? ⟨gr, k * 11 + 1, none⟩ = some (.int .i64 X[k].1.t) ∧ w.cell? ⟨gr, k * 11 + 2, none⟩ = some (.int .i64 X[k].1.i) ∧ w.cell? ⟨gr, k * 11 + 3, none⟩ = some (.int .i64 X[k].1.o.p) ∧ w.cell? ⟨gr, k * 11 + 4, none⟩ = some (.int .i64 X[k].1.o.q) ∧ w.cell? ⟨gr, k * 11 + 5, none⟩ = some (.slice X[k].2.1 X[k].1.o.l.length X[k].2.2) ∧ w.cell? ⟨gr, k * 11 + 6, none⟩ = some (.int .i64 X[k].1.o.w) ∧ w.cell? ⟨gr, k * 11 + 7, none⟩ = some (.int .i64 X[k].1.o.f) ∧ w.cell? ⟨gr, k * 11 + 8, none⟩ = some (.int .i64 X[k].1.m) ∧ w.cell? ⟨gr, k * 11 + 9, none⟩ = some (.int .i64 X[k].1.p) ∧ w.cell? ⟨gr, k * 11 + 10, none⟩ = some (.int .i64 X[k].1.l)) ∧ (w.frozen? ⟨gr, k * 11, none⟩ = false ∧ w.frozen? ⟨gr, k * 11 + 1, none⟩ = false ∧ w.frozen? ⟨gr, k * 11 + 2, none⟩ = false ∧ w.frozen? ⟨gr, k * 11 + 3, none⟩ = false ∧ w.frozen? ⟨gr, k * 11 + 4, none⟩ = false ∧ w.frozen? ⟨gr, k * 11 + 5, none⟩ = false ∧ w.frozen? ⟨gr, k * 11 + 6, none⟩ = false ∧ w.frozen? ⟨gr, k * 11 + 7, none⟩ = false ∧ w.frozen? ⟨gr, k * 11 + 8, none⟩ = false ∧ w.frozen? ⟨gr, k * 11 + 9, none⟩ = false ∧ w.frozen? ⟨gr, k * 11 + 10, none⟩ = false) := by
  obtain ⟨h2, h3, h4⟩ := h
  obtain ⟨g9, c9, h9, _, _, _, hc, _, _⟩ := own_open h2 h4 (by omega)
  cases h9
  have hl : (gcells e7 X).length = X.length * 11 := gcells_length e7_len X
  have hk2 : k * 11 + 11 ≤ X.length * 11 := by omega
  have key : ∀ j (hj : j < 11) v, (e7 X[k])[j]? = some v → w.cell? ⟨gr, k * 11 + j, none⟩ = some v ∧ w.frozen? ⟨gr, k * 11 + j, none⟩ = false := fun j hj v hv => by
    have h8 := hc (k * 11 + j) (by omega)
    have h7 := gcells_get e7_len X k hk j hj
    rw [hv, List.getElem?_eq_getElem (by omega)] at h7
    injection h7 with h7
    rw [h7] at h8
    exact h8
  exact ⟨⟨(key 0 (by omega) _ rfl).1, (key 1 (by omega) _ rfl).1, (key 2 (by omega) _ rfl).1, (key 3 (by omega) _ rfl).1, (key 4 (by omega) _ rfl).1, (key 5 (by omega) _ rfl).1, (key 6 (by omega) _ rfl).1, (key 7 (by omega) _ rfl).1, (key 8 (by omega) _ rfl).1, (key 9 (by omega) _ rfl).1, (key 10 (by omega) _ rfl).1⟩, ⟨(key 0 (by omega) _ rfl).2, (key 1 (by omega) _ rfl).2, (key 2 (by omega) _ rfl).2, (key 3 (by omega) _ rfl).2, (key 4 (by omega) _ rfl).2, (key 5 (by omega) _ rfl).2, (key 6 (by omega) _ rfl).2, (key 7 (by omega) _ rfl).2, (key 8 (by omega) _ rfl).2, (key 9 (by omega) _ rfl).2, (key 10 (by omega) _ rfl).2⟩⟩
theorem RowE.below {w w' : World} {base gr c n : Nat} {xs : List Value} (h : RowE w base gr n c xs) (hb : Below w.heap.size w w') : RowE w' base gr n c xs := ⟨own_keep h.own hb, h.ns, h.pos⟩
theorem RowE.sts {w : World} {base gr c : Nat} {X : List Ea} (h : RowE w base gr X.length c (gcells e7 X)) (k : Nat) (hk : k < X.length) (v0 v1 v2 v3 v4 v5 v6 v7 v8 v9 v10 : Value) (hu : ∀ v ∈ [v0, v1, v2, v3, v4, v5, v6, v7, v8, v9, v10], ∀ s, v ≠ .string s) : StS w (putO w gr (k * 11) v0 v1 v2 v3 v4 v5 v6 v7 v8 v9 v10) := by
  have hl : (gcells e7 X).length = X.length * 11 := gcells_length e7_len X
  have hk2 : k * 11 + 11 ≤ X.length * 11 := by omega
  exact (putO_row ⟨StS.refl w, h⟩ (k * 11) (by omega) _ _ _ _ _ _ _ _ _ _ _ hu).1
theorem stk_len (L : List Ev) (k : Nat) : (stk L k).length = L.length := by
  have := congrArg List.length (stk_map L k)
  simpa using this
theorem stk_get {L : List Ev} {X : List Ea} (k : Nat) (hk : k < L.length) (hX : X.map (·.1) = stk L k) (h : k < X.length) : X[k].1 = L[k] := by
  have h1 : (X.map (·.1))[k]'(by simpa using h) = X[k].1 := by simp
  rw [← h1]
  have h2 : (stk L k)[k]? = some L[k] := by
    rw [stk_at L k hk, List.getElem?_append_right (by simp; omega)]
    simp [Nat.min_eq_left (Nat.le_of_lt hk)]
  rw [← hX, List.getElem?_eq_getElem (by simpa using h)] at h2
  injection h2
theorem stk_set {L : List Ev} {X : List Ea} (k : Nat) (hk : k < L.length) (hX : X.map (·.1) = stk L k) (y : Ea) (hy : y.1 = tkF L[k]) : (X.set k y).map (·.1) = stk L (k + 1) := by
  rw [List.map_set, hX, hy, stk_at L k hk, stk_succ L k hk, List.set_append_right _ _ (by simp; omega)]
  have h9 : k - (List.map tkF (L.take k)).length = 0 := by simp; omega
  rw [h9]
  rfl
end Go.Proofs.YtdphdodjidbngaaGreat

namespace Go.Proofs.YtdphdodjidbngaaGreat
open Go.RowKit Go.Sort
set_option linter.unusedVariables false
set_option linter.unusedSimpArgs false

/-- What Tick leaves. -/
def RTickR (W : World) (base g : Nat) (nd inc bd : Int) (r : List Ev × List (List UInt8)) (x : Ending) (w' : World) : Prop :=
  ∃ A c, x = .returned (.slice A r.2.length c) ∧ w'.ownsRow W.heap.size 9 1 (.slice A r.2.length c) r.2.length (scells r.2) ∧ R7 W w' base g nd inc bd r.1

set_option maxRecDepth 20000 in
set_option maxHeartbeats 8000000 in
theorem r27tick_any {base g : Nat} {nd inc bd : Int} {M : List Ev} (W : World) (h : P7M W base g nd inc bd M) (hll : M.length ≤ 72) (hbW : base ≤ W.heap.size) (hG : ∀ e ∈ M, GdE e) :
    Calls Tryz.prog 16 #[.pointer (some ⟨g, 0, none⟩)] W (RTickR W base g nd inc bd (ptickV M)) := by
  obtain ⟨X0, hX0, hp7⟩ := h
  have HT0 := hid (T7.of hp7)
  have HX0 : Hid (X0.map (·.1) = stk M 0) := hid (by simp [stk, hX0])
  have HG := hid hG
  have HBW := hid hbW
  clear hX0 hp7 hG hbW
  go_enter Tryz.func16, Tryz.ntmps16
  go_wp2
  go_loopw [3, 4] (fun v i wr => ∃ (k : Nat) (X : List Ea), k ≤ M.length ∧ i = .int .i64 (k : Int) ∧ Hid (X.map (·.1) = stk M k) ∧ Hid (T7 W wr base g nd inc bd X) ∧ Hid (wr.ownsRow W.heap.size 9 1 v (txk M k).length (scells (txk M k)))) (fun _ i _ => M.length - (intOf i).toNat)
  case atStart => exact ⟨0, X0, by omega, rfl, HX0.out, HT0.out, World.ownsRow_nil _ _ _ _⟩
  case round =>
    clear HT0 HX0
    obtain ⟨k, X, hk, rfl, HX, HT, HO⟩ := hrel
    have hxl : X.length = M.length := by have h9 := congrArg List.length HX.out; rwa [List.length_map, stk_len] at h9
    have HXL := hid hxl
    by_cases hlt : k < M.length
    · have hkx : k < X.length := by omega
      have hlt2 : (k : Int) < (X.length : Int) := by omega
      obtain ⟨gr, c0, hg1, hbg, hne, hr, hml, cs, hgr⟩ := HT.out.lie k hkx
      have p3 : wr.cell? ⟨g, 3, none⟩ = some (.slice (some ⟨gr, 0, none⟩) X.length c0) := by rw [cell_of_row wr g 3 _ _ _ hg1]; rfl
      obtain ⟨⟨a0, a1, a2, a3, a4, a5, a6, a7, a8, a9, a10⟩, -⟩ := hr.at k hkx
      have hxk := stk_get k hlt HX.out hkx
      have HSL := hid (HT.out.tx _ (List.getElem_mem hkx))
      have hsl := HSL.out.sts HT.out.st
      have HGE := HG.out M[k] (List.getElem_mem hlt)
      rw [← hxk] at HGE
      have HTX : Hid (txk M (k + 1) = txk M k ++ (tikE X[k].1).2.map pbL) := hid (by rw [hxk]; exact txk_succ M k hlt)
      have HXS : Hid ((X.set k ((tikE X[k].1).1, X[k].2.1, X[k].2.2)).map (·.1) = stk M (k + 1)) := hid (stk_set k hlt HX.out _ (by rw [hxk]; rfl))
      have HLL : Hid ((tikE X[k].1).1.o.l = X[k].1.o.l) := hid (tikV_l _)
      have htl := txk_len M k hk
      have HTK := hid (r26tick_ex X[k].1 X[k].2.1 X[k].2.2 wr hsl (by have := HGE.1; omega))
      have HPB : Hid (∀ z ∈ (tikE X[k].1).2, z.b.length ≤ 1000) := hid (dataV_b _ _ fun y hy => HGE.2.2.2.2.2 y (by simpa only [setO, tikV_l] using hy))
      have hpl : (tikE X[k].1).2.length ≤ 1 := dataV_len _ _
      generalize hA : X[k].2.1 = A at *
      generalize hc : X[k].2.2 = c at *
      generalize tikE X[k].1 = tv at *
      clear hxk HGE hsl hA hc
      generalize X[k].1 = e0 at *
      obtain ⟨⟨f1, t1, i1, ⟨p1, q1, l1, wt1, fl1⟩, gm1, gp1, gl1⟩, ps⟩ := tv
      obtain ⟨f, t, i, ⟨p, q, l, wt, fl⟩, gm, gp, gl⟩ := e0
      simp only [ec] at HTK HTX hpl HPB HXS HSL HLL a0 a1 a2 a3 a4 a5 a6 a7 a8 a9 a10
      have hll1 : l1 = l := HLL.out
      have HS1 : Hid (Sl W 1 A l1.length c (scells l1)) := hid (by rw [hll1]; exact HSL.out)
      clear HLL HSL hll1
      have HG1 := hid (And.intro hg1 (And.intro hbg (And.intro hne hr)))
      have HGR := hid hgr
      clear hg1 hbg hr hgr
      go_wp2_with fail
      refine HTK.out.mono ?_
      rintro e w2 ⟨B, d, rfl, hp2, hb2⟩
      simp only [ec]
      have HP2 : Hid (OwnR wr w2 (.slice B ps.length d) ps) := hid hp2
      have HB2 := hid hb2
      clear hp2 hb2 HTK a0 a1 a2 a3 a4 a5 a6 a7 a8 a9 a10 p3
      go_upto_region 6 with (fail)
      refine at_world (fun u => u.heap[w2.heap.size]? = some (.cells #[.int .i64 f1, .int .i64 t1, .int .i64 i1, .int .i64 p1, .int .i64 q1, .slice A l1.length c, .int .i64 wt1, .int .i64 fl1, .int .i64 gm1, .int .i64 gp1, .int .i64 gl1] 82 (0, 0)) ∧ Below w2.heap.size w2 u) ⟨heap_alloc_new _ _, (Below.refl _ _).alloc (Nat.le_refl _) _⟩ ?_
      rintro w3 ⟨hz3, hb3⟩
      have hZlt : gr < w2.heap.size := Nat.lt_of_lt_of_le (lt_of_block HGR.out) HB2.out.size
      have hb23 : Below wr.heap.size wr w3 := HB2.out.trans (hb3.mono HB2.out.size)
      have HP3 : Hid (OwnR wr w3 (.slice B ps.length d) ps) := hid (own_keep HP2.out hb3)
      generalize w2.heap.size = Z at hz3 hZlt ⊢
      have hk0 : Below wr.heap.size wr w3.drew := below_drew hb23
      have hk1 : Below w3.heap.size w3 w3.drew := below_drew (Below.refl _ _)
      have HTa := hid (HT.out.below hk0 HBW.out)
      obtain ⟨hg1, hbg, hne2, hr⟩ := HG1.out
      have hg0 := keep0 hg1 hk0
      have hr0 := hr.below hk0
      have hgr0 := keep0 HGR.out hk0
      have hz0 := keep0 hz3 hk1
      have HOa := hid (own_keep HO.out hk0)
      have HPa : Hid (OwnR wr w3.drew (.slice B ps.length d) ps) := hid (own_keep HP3.out hk1)
      obtain ⟨⟨a0, a1, a2, a3, a4, a5, a6, a7, a8, a9, a10⟩, ⟨b0, b1, b2, b3, b4, b5, b6, b7, b8, b9, b10⟩⟩ := hr0.at k hkx
      have hZg : Z ≠ gr := by omega
      have HT8 := hid (HTa.out.upd HBW.out k hkx ⟨f1, t1, i1, ⟨p1, q1, l1, wt1, fl1⟩, gm1, gp1, gl1⟩ A c HS1.out hg0 hbg hne hr0)
      have hst8 := hr0.sts k hkx (.int .i64 f1) (.int .i64 t1) (.int .i64 i1) (.int .i64 p1) (.int .i64 q1) (.slice A l1.length c) (.int .i64 wt1) (.int .i64 fl1) (.int .i64 gm1) (.int .i64 gp1) (.int .i64 gl1) (by simp)
      have HO8 := hid (own_sts HOa.out hst8 (by decide) (by decide))
      have HP8 : Hid (OwnR wr (putO w3.drew gr (k * 11) (.int .i64 f1) (.int .i64 t1) (.int .i64 i1) (.int .i64 p1) (.int .i64 q1) (.slice A l1.length c) (.int .i64 wt1) (.int .i64 fl1) (.int .i64 gm1) (.int .i64 gp1) (.int .i64 gl1)) (.slice B ps.length d) ps) := hid (own_sts HPa.out hst8 (by decide) (by decide))
      have hg8 : (putO w3.drew gr (k * 11) (.int .i64 f1) (.int .i64 t1) (.int .i64 i1) (.int .i64 p1) (.int .i64 q1) (.slice A l1.length c) (.int .i64 wt1) (.int .i64 fl1) (.int .i64 gm1) (.int .i64 gp1) (.int .i64 gl1)).heap[g]? = some (.cells #[.int .i64 nd, .int .i64 inc, .int .i64 bd, .slice (some ⟨gr, 0, none⟩) X.length c0] 63 (0, 0)) := (putO_other hne _ _ _ _ _ _ _ _ _ _ _ _ _).trans hg0
      have hz8 : (putO w3.drew gr (k * 11) (.int .i64 f1) (.int .i64 t1) (.int .i64 i1) (.int .i64 p1) (.int .i64 q1) (.slice A l1.length c) (.int .i64 wt1) (.int .i64 fl1) (.int .i64 gm1) (.int .i64 gp1) (.int .i64 gl1)).heap[Z]? = some (.cells #[.int .i64 f1, .int .i64 t1, .int .i64 i1, .int .i64 p1, .int .i64 q1, .slice A l1.length c, .int .i64 wt1, .int .i64 fl1, .int .i64 gm1, .int .i64 gp1, .int .i64 gl1] 82 (0, 0)) := (putO_other hZg _ _ _ _ _ _ _ _ _ _ _ _ _).trans hz0
      have hS : ∀ U : World, U.heap[g]? = some (.cells #[.int .i64 nd, .int .i64 inc, .int .i64 bd, .slice (some ⟨gr, 0, none⟩) X.length c0] 63 (0, 0)) → U.heap[Z]? = some (.cells #[.int .i64 f1, .int .i64 t1, .int .i64 i1, .int .i64 p1, .int .i64 q1, .slice A l1.length c, .int .i64 wt1, .int .i64 fl1, .int .i64 gm1, .int .i64 gp1, .int .i64 gl1] 82 (0, 0)) → (U.cell? ⟨g, 3, none⟩ = some (.slice (some ⟨gr, 0, none⟩) X.length c0) ∧ (U.cell? ⟨Z, 0, none⟩ = some (.int .i64 f1) ∧ U.cell? ⟨Z, 1, none⟩ = some (.int .i64 t1) ∧ U.cell? ⟨Z, 2, none⟩ = some (.int .i64 i1) ∧ U.cell? ⟨Z, 3, none⟩ = some (.int .i64 p1) ∧ U.cell? ⟨Z, 4, none⟩ = some (.int .i64 q1) ∧ U.cell? ⟨Z, 5, none⟩ = some (.slice A l1.length c) ∧ U.cell? ⟨Z, 6, none⟩ = some (.int .i64 wt1) ∧ U.cell? ⟨Z, 7, none⟩ = some (.int .i64 fl1) ∧ U.cell? ⟨Z, 8, none⟩ = some (.int .i64 gm1) ∧ U.cell? ⟨Z, 9, none⟩ = some (.int .i64 gp1) ∧ U.cell? ⟨Z, 10, none⟩ = some (.int .i64 gl1))) := fun U h1 h2 => ⟨by rw [cell_of_row U g 3 _ _ _ h1]; rfl, (eleven_cells h2).1⟩
      have HE8 := hid (r27bytes_any B ps.length d ps _ (sl_own HP8.out) (by omega) HPB.out)
      simp only [putO] at HT8 HO8 HP8 hg8 hz8 HE8
      clear HT HTa HO HOa HPa HP3 HP2 HB2 HG1 HGR hb23 hb3 hz3 hr hr0 hgr0 hg1 hk0 hk1 hst8 hZg hbg hne2
      refine wp_region_held_drew (S := fun U => U.cell? ⟨g, 3, none⟩ = some (.slice (some ⟨gr, 0, none⟩) X.length c0) ∧ (U.cell? ⟨Z, 0, none⟩ = some (.int .i64 f1) ∧ U.cell? ⟨Z, 1, none⟩ = some (.int .i64 t1) ∧ U.cell? ⟨Z, 2, none⟩ = some (.int .i64 i1) ∧ U.cell? ⟨Z, 3, none⟩ = some (.int .i64 p1) ∧ U.cell? ⟨Z, 4, none⟩ = some (.int .i64 q1) ∧ U.cell? ⟨Z, 5, none⟩ = some (.slice A l1.length c) ∧ U.cell? ⟨Z, 6, none⟩ = some (.int .i64 wt1) ∧ U.cell? ⟨Z, 7, none⟩ = some (.int .i64 fl1) ∧ U.cell? ⟨Z, 8, none⟩ = some (.int .i64 gm1) ∧ U.cell? ⟨Z, 9, none⟩ = some (.int .i64 gp1) ∧ U.cell? ⟨Z, 10, none⟩ = some (.int .i64 gl1))) (by kernel_rfl) (hS _ hg0 hz0) (fun hHeld => ?_)
      generalize w3.drew = k0 at *
      refine tkA 0 ?_ rfl ?_ (by assumption) ?_; rotate_left; focus (intro U hU; (try dsimp only at hU); go_simp; try (with_reducible rfl))
      simp only [gt6, Act.put]
      refine tkA 1 ?_ rfl ?_ (by assumption) ?_; rotate_left; focus (intro U hU; (try dsimp only at hU); go_simp; try (with_reducible rfl))
      simp only [gt6, Act.put]
      refine tkA 2 ?_ rfl ?_ (by assumption) ?_; rotate_left; focus (intro U hU; (try dsimp only at hU); go_simp; try (with_reducible rfl))
      simp only [gt6, Act.put]
      refine tkA 3 ?_ rfl ?_ (by assumption) ?_; rotate_left; focus (intro U hU; (try dsimp only at hU); go_simp; try (with_reducible rfl))
      simp only [gt6, Act.put]
      refine tkA 4 ?_ rfl ?_ (by assumption) ?_; rotate_left; focus (intro U hU; (try dsimp only at hU); go_simp; try (with_reducible rfl))
      simp only [gt6, Act.put]
      refine tkA 5 ?_ rfl ?_ (by assumption) ?_; rotate_left; focus (intro U hU; (try dsimp only at hU); go_simp; try (with_reducible rfl))
      simp only [gt6, Act.put]
      refine tkA 6 ?_ rfl ?_ (by assumption) ?_; rotate_left; focus (intro U hU; (try dsimp only at hU); go_simp; try (with_reducible rfl))
      simp only [gt6, Act.put]
      refine wpAnyH_ready (rs := [7]) (by kernel_rfl) (by simp) ?_
      refine AllReadyH.cons rfl (fun K hK => ?_) AllReadyH.nil
      simp only [gt3]
      go_simp
      refine hK.out _ _ ?_ (fun hHeld2 => ?_)
      focus
        exact hS _ hg8 hz8
      clear hHeld
      have hHeld := hHeld2
      clear hHeld2 hK K
      try simp only [gt6, Act.put]
      refine wpAnyH_done (by kernel_rfl) ?_ _
      clear hHeld hS hg0 hz0 hg8 hz8 a0 a1 a2 a3 a4 a5 a6 a7 a8 a9 a10 b0 b1 b2 b3 b4 b5 b6 b7 b8 b9 b10
      go_wp2_with fail
      refine HE8.out.mono ?_
      rintro qe w9 ⟨v5, rfl, ho9, hb9⟩
      obtain ⟨A5, c5, rfl, -⟩ := Sl.of_own ho9
      have HT9 := hid (sl_own ho9)
      have HTT9 := hid (HT8.out.below hb9 HBW.out)
      have HO9 := hid (own_keep HO8.out hb9)
      clear ho9 hb9 HE8 HT8 HO8 HP8
      have hsz9 := HTT9.out.st.size
      have hw : IntKind.i64.wrap ((k : Int) + 1) = (k : Int) + 1 := IntWalk.i64_in _ (by omega)
      go_wp2_with (at_builtin; refine wpList_append_slw rfl (.tmp 34) (.tmp 36) 33 rfl W.heap.size 9 Tryz.underlying33 info_str rfl (by omega) rfl HO9.out rfl HT9.out (scells_one _) ?c1 ?c2 hsz9 ?_)
      case c1 => unfold maxLen; omega
      case c2 => omega
      · intro v' w4 h2 h3 h4
        have HO3 := hid h2
        have HT4 := hid (HTT9.out.tch HO9.out h3 HBW.out)
        clear h2 h3 h4
        go_wp2
        go_roundw
        case rel =>
          refine ⟨k + 1, _, by omega, by go_num, HXS.out, HT4.out, ?_⟩
          rw [HTX.out, List.length_append, scells_append, List.length_map]
          first | exact HO3.out | simpa using HO3.out
        case measure => simp [intOf]; omega
    · have hge : ¬ (k : Int) < (X.length : Int) := by omega
      obtain rfl : k = M.length := by omega
      have hst : stk M M.length = (ptickV M).1 := by simp [stk, ptickV]
      have htx : txk M M.length = (ptickV M).2 := by simp [txk, ptickV]
      rw [hst] at HX
      rw [htx] at HO
      obtain ⟨A5, c5, rfl, -⟩ := Sl.of_own HO.out
      obtain ⟨A8, c8, hg8, -⟩ := HT.out.row
      have p3 : wr.cell? ⟨g, 3, none⟩ = some (.slice A8 X.length c8) := by rw [cell_of_row wr g 3 _ _ _ hg8]; rfl
      clear hst htx hg8
      generalize ptickV M = rv at *
      go_wp2
      go_ret
      exact ⟨A5, c5, rfl, HO.out, ⟨X, HX.out, HT.out.p7⟩, HT.out.be, HT.out.st⟩
end Go.Proofs.YtdphdodjidbngaaGreat

