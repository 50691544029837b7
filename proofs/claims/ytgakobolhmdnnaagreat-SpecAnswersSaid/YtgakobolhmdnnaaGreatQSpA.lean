/- Entries of the call's own; event.place; book.Clone (cut from BkP1, BkP2). -/
import Derived.Test.YtgakobolhmdnnaaGreatQHdA
import Derived.Test.YtgakobolhmdnnaaGreatGaP
import Derived.Test.YtgakobolhmdnnaaGreatQTch
import Derived.Deep.RegionHeld3
import Derived.Deep.CutRange
import Derived.Lib.QuietBelow
namespace Go.Proofs.YtgakobolhmdnnaaGreat
open Go.RowKit Go.Sort
set_option linter.unusedVariables false
set_option linter.unusedSimpArgs false

/-- Where a job's first entry is. -/
def plB (b : List En) (j : Int) : Option Nat := b.findIdx? (fun e => e.id == j)
theorem plB_some {b : List En} {j : Int} {k : Nat} (h : plB b j = some k) : ∃ hk : k < b.length, b[k].id = j ∧ ∀ i (hi : i < k), (b[i]'(Nat.lt_trans hi hk)).id ≠ j := by
  unfold plB at h
  rw [List.findIdx?_eq_some_iff_getElem] at h
  obtain ⟨hk, h1, h2⟩ := h
  exact ⟨hk, by simpa using h1, fun i hi => by simpa using h2 i hi⟩
theorem plB_none {b : List En} {j : Int} (h : plB b j = none) : ∀ e ∈ b, e.id ≠ j := by
  unfold plB at h
  rw [List.findIdx?_eq_none_iff] at h
  exact fun e he => by simpa using h e he
theorem plB_of {b : List En} {j : Int} {k : Nat} (hk : k < b.length) (h1 : b[k].id = j) (h2 : ∀ i (hi : i < k), (b[i]'(Nat.lt_trans hi hk)).id ≠ j) : plB b j = some k := by
  unfold plB
  rw [List.findIdx?_eq_some_iff_getElem]
  exact ⟨hk, by simpa using h1, fun i hi => by simpa using h2 i hi⟩
theorem plB_of_none {b : List En} {j : Int} (h : ∀ e ∈ b, e.id ≠ j) : plB b j = none := by
  unfold plB
  rw [List.findIdx?_eq_none_iff]
  exact fun e he => by simpa using h e he
theorem blcells_one (l : List Bool) : ∀ u ∈ blcells l, u.oneCell' = true := by
  intro u hu
  simp only [blcells, List.mem_map] at hu
  obtain ⟨c, _, rfl⟩ := hu
  rfl
theorem ebl_one (l : List Ee) : ∀ u ∈ gcells ebl l, u.oneCell' = true := by
  intro u hu
  simp only [gcells, List.mem_flatten, List.mem_map] at hu
  obtain ⟨_, ⟨x, _, rfl⟩, hu⟩ := hu
  simp only [ebl, List.mem_cons, List.not_mem_nil, or_false] at hu
  rcases hu with rfl | rfl | rfl | rfl | rfl | rfl <;> rfl
/-- Texts of the call's own, of whatever length. -/
def OwT (w : World) (b : Nat) (A : Option Addr) (c : Nat) (l : List (List UInt8)) : Prop := w.ownsRow b 9 1 (.slice A l.length c) l.length (scells l) ∧ ∀ s ∈ l, s.length ≤ maxLen
theorem OwT.tx {w : World} {b : Nat} {A : Option Addr} {c : Nat} {l : List (List UInt8)} (h : OwT w b A c l) : TxAt w A c l := ⟨sl_own h.1, h.2⟩
/-- An entry of the call's own. -/
def OwE (w : World) (b : Nat) (x : Ee) : Prop := OwT w b x.2.A x.2.ca x.1.ns ∧ w.ownsRow b 3 1 (.slice x.2.B x.1.bd.length x.2.cb) x.1.bd.length (icells .i64 x.1.bd) ∧ w.ownsRow b 4 1 (.slice x.2.D x.1.dn.length x.2.cd) x.1.dn.length (blcells x.1.dn)
theorem OwE.inE {w : World} {b : Nat} {x : Ee} (h : OwE w b x) : InE w x := ⟨h.1.tx, sl_own h.2.1, sl_own h.2.2⟩
theorem OwE.keep {w w' : World} {b : Nat} {x : Ee} (h : OwE w b x) (hb : Below w.heap.size w w') : OwE w' b x := ⟨⟨own_keep h.1.1 hb, h.1.2⟩, own_keep h.2.1 hb, own_keep h.2.2 hb⟩
theorem OwE.mono {w : World} {b b' : Nat} {x : Ee} (h : OwE w b x) (hb : b' ≤ b) : OwE w b' x := ⟨⟨own_mono h.1.1 hb, h.1.2⟩, own_mono h.2.1 hb, own_mono h.2.2 hb⟩
/-- The block of a slice. -/
def blk (A : Option Addr) : Option Nat := A.map Addr.block
theorem ownBlock_blk (A : Option Addr) (n c : Nat) : (Value.slice A n c).ownBlock = blk A := by cases A <;> rfl
/-- A book of the call's own: no two entries share the rows that are written. -/
def RowBk (w : World) (b : Nat) (v : Value) (xs : List Ee) : Prop :=
  w.ownsRow b 29 6 v xs.length (gcells ebl xs) ∧ (∀ x ∈ xs, OwE w b x) ∧ xs.Pairwise fun x y => (∀ g, blk x.2.B = some g → blk y.2.B ≠ some g) ∧ (∀ g, blk x.2.D = some g → blk y.2.D ≠ some g)
theorem RowBk.nil (w : World) (b : Nat) : RowBk w b (.slice none 0 0) [] := ⟨World.ownsRow_nil _ _ _ _, by simp, List.Pairwise.nil⟩
theorem RowBk.keep {w w' : World} {b : Nat} {v : Value} {xs : List Ee} (h : RowBk w b v xs) (hb : Below w.heap.size w w') : RowBk w' b v xs := ⟨own_keep h.1 hb, fun x hx => (h.2.1 x hx).keep hb, h.2.2⟩
theorem RowBk.mono {w : World} {b b' : Nat} {v : Value} {xs : List Ee} (h : RowBk w b v xs) (hb : b' ≤ b) : RowBk w b' v xs := ⟨own_mono h.1 hb, fun x hx => (h.2.1 x hx).mono hb, h.2.2⟩
theorem RowBk.inBk {w : World} {b : Nat} {A : Option Addr} {c : Nat} {xs : List Ee} (h : RowBk w b (.slice A xs.length c) xs) : InBk w A c xs := ⟨sl_own h.1, fun x hx => (h.2.1 x hx).inE⟩
theorem info_entry : (Tryz.prog.info? 29).map (fun i => (i.zero, i.size, i.bytes)) = some (some (.agg #[.int .i64 0, .int .i64 0, .int .i64 0, .slice none 0 0, .slice none 0 0, .slice none 0 0]), 6, 96) := by kernel_rfl
def plI (b : List En) (j : Int) : Int := match plB b j with | some k => (k : Int) | none => -1
theorem info_bool : (Tryz.prog.info? 4).map (fun i => (i.zero, i.size, i.bytes)) = some (some (.bool false), 1, 1) := by kernel_rfl
def put6 (w : World) (b : Nat) (a0 a1 a2 a3 a4 a5 : Value) : World := (((((w.setCell ⟨b, 0, none⟩ a0).setCell ⟨b, 1, none⟩ a1).setCell ⟨b, 2, none⟩ a2).setCell ⟨b, 3, none⟩ a3).setCell ⟨b, 4, none⟩ a4).setCell ⟨b, 5, none⟩ a5
theorem put6_heap {w : World} {b t : Nat} {x0 x1 x2 x3 x4 x5 : Value} (h : w.heap[b]? = some (.cells #[x0, x1, x2, x3, x4, x5] t (0, 0))) (a0 a1 a2 a3 a4 a5 : Value) :
    (put6 w b a0 a1 a2 a3 a4 a5).heap[b]? = some (.cells #[a0, a1, a2, a3, a4, a5] t (0, 0)) := by
  have h1 := heap_setCell_same w b 0 _ t a0 h
  have h2 := heap_setCell_same _ b 1 _ t a1 h1
  have h3 := heap_setCell_same _ b 2 _ t a2 h2
  have h4 := heap_setCell_same _ b 3 _ t a3 h3
  have h5 := heap_setCell_same _ b 4 _ t a4 h4
  have h6 := heap_setCell_same _ b 5 _ t a5 h5
  unfold put6
  rw [h6]
  rfl
theorem put6_below {n : Nat} {W w : World} {b : Nat} (h : Below n W w) (hb : n ≤ b) (a0 a1 a2 a3 a4 a5 : Value) : Below n W (put6 w b a0 a1 a2 a3 a4 a5) :=
  (((((h.setCell (p := ⟨b, 0, none⟩) hb a0).setCell (p := ⟨b, 1, none⟩) hb a1).setCell (p := ⟨b, 2, none⟩) hb a2).setCell (p := ⟨b, 3, none⟩) hb a3).setCell (p := ⟨b, 4, none⟩) hb a4).setCell (p := ⟨b, 5, none⟩) hb a5
theorem put6_other {w : World} {b g : Nat} (hg : g ≠ b) (a0 a1 a2 a3 a4 a5 : Value) : (put6 w b a0 a1 a2 a3 a4 a5).heap[g]? = w.heap[g]? := by
  unfold put6
  rw [Below.heap_setCell _ _ _ _ hg, Below.heap_setCell _ _ _ _ hg, Below.heap_setCell _ _ _ _ hg, Below.heap_setCell _ _ _ _ hg, Below.heap_setCell _ _ _ _ hg, Below.heap_setCell _ _ _ _ hg]
theorem own_same {w w' : World} {b t base e s n : Nat} {v : Value} {xs : List Value} {cs : Array Value} {fr : Nat × Nat} (h : w.ownsRow base e s v n xs) (hb : w.heap[b]? = some (.cells cs t fr)) (hne : e ≠ t) (hk : ∀ g, g ≠ b → w'.heap[g]? = w.heap[g]?) : w'.ownsRow base e s v n xs := by
  refine ⟨h.1, ?_⟩
  rcases h.2 with h2 | ⟨g, cap, cur, h3, h4, h5, h6⟩
  · exact .inl h2
  · exact .inr ⟨g, cap, cur, h3, h4, (hk g (own_apart_blk h hb hne g (by rw [h3]; rfl))).trans h5, h6⟩
theorem OwE.same {w w' : World} {b t base : Nat} {x : Ee} {cs : Array Value} {fr : Nat × Nat} (h : OwE w base x) (hb : w.heap[b]? = some (.cells cs t fr)) (h1 : 9 ≠ t) (h2 : 3 ≠ t) (h3 : 4 ≠ t) (hk : ∀ g, g ≠ b → w'.heap[g]? = w.heap[g]?) : OwE w' base x :=
  ⟨⟨own_same h.1.1 hb h1 hk, h.1.2⟩, own_same h.2.1 hb h2 hk, own_same h.2.2 hb h3 hk⟩
theorem cl_endE {W u1 u2 u3 : World} {id sc ep : Int} {ns : List (List UInt8)} {bd : List Int} {dn : List Bool} {A P D : Option Addr} {ca cb cd k1 k2 k3 : Nat} {x3 x4 x5 : Value} (hx : u3.heap[W.heap.size]? = some (.cells #[.int .i64 id, .int .i64 sc, .int .i64 ep, x3, x4, x5] 29 (0, 0))) (hy : u3.heap[W.heap.size + 1]? = some (.cells #[.int .i64 0, .int .i64 0, .int .i64 0, .slice none 0 0, .slice none 0 0, .slice none 0 0] 29 (0, 0)))
    (hb : Below W.heap.size W u3) (g2 : Below u1.heap.size u1 u2) (g3 : Below u2.heap.size u2 u3) (h1 : W.heap.size ≤ k1) (h2 : W.heap.size ≤ k2) (h3 : W.heap.size ≤ k3) (o1 : u1.ownsRow k1 9 1 (.slice A ns.length ca) ns.length (scells ns)) (o2 : u2.ownsRow k2 3 1 (.slice P bd.length cb) bd.length (icells .i64 bd)) (o3 : u3.ownsRow k3 4 1 (.slice D dn.length cd) dn.length (blcells dn)) (hs : ∀ s ∈ ns, s.length ≤ maxLen) (w : World)
    (hw : w = ((u3.setCell ⟨W.heap.size, 3, none⟩ (.slice A ns.length ca)).setCell ⟨W.heap.size, 4, none⟩ (.slice P bd.length cb)).setCell ⟨W.heap.size, 5, none⟩ (.slice D dn.length cd)) :
    w.heap[W.heap.size]? = some (.cells #[.int .i64 id, .int .i64 sc, .int .i64 ep, .slice A ns.length ca, .slice P bd.length cb, .slice D dn.length cd] 29 (0, 0)) ∧ w.heap[W.heap.size + 1]? = some (.cells #[.int .i64 0, .int .i64 0, .int .i64 0, .slice none 0 0, .slice none 0 0, .slice none 0 0] 29 (0, 0)) ∧ OwE w W.heap.size (⟨id, sc, ep, ns, bd, dn⟩, ⟨A, ca, P, cb, D, cd⟩) ∧ Below W.heap.size W w := by
  have e1 := heap_setCell_same u3 W.heap.size 3 _ _ (.slice A ns.length ca) hx
  have e2 := heap_setCell_same _ W.heap.size 4 _ _ (.slice P bd.length cb) e1
  have e3 := heap_setCell_same _ W.heap.size 5 _ _ (.slice D dn.length cd) e2
  have hk : ∀ g, g ≠ W.heap.size → w.heap[g]? = u3.heap[g]? := fun g hg => by
    rw [hw, Below.heap_setCell _ _ _ _ hg, Below.heap_setCell _ _ _ _ hg, Below.heap_setCell _ _ _ _ hg]
  have ov : OwE u3 W.heap.size (⟨id, sc, ep, ns, bd, dn⟩, ⟨A, ca, P, cb, D, cd⟩) :=
    ⟨⟨own_mono (own_keep o1 (g2.trans (g3.mono g2.size))) h1, hs⟩, own_mono (own_keep o2 g3) h2, own_mono o3 h3⟩
  refine ⟨by rw [hw, e3]; rfl, (hk _ (by omega)).trans hy, ov.same hx (by decide) (by decide) (by decide) hk, ?_⟩
  rw [hw]
  exact ((hb.setCell (p := ⟨_, 3, none⟩) (Nat.le_refl _) _).setCell (p := ⟨_, 4, none⟩) (Nat.le_refl _) _).setCell (p := ⟨_, 5, none⟩) (Nat.le_refl _) _
theorem own_otherB {w w' : World} {base e e' s s' n m : Nat} {v v' : Value} {xs ys : List Value} (h : w.ownsRow base e s v n xs) (k : w.ownsRow base e' s' v' m ys) (hne : e ≠ e')
    (hk : ∀ g, base ≤ g → g < w.heap.size → v'.ownBlock ≠ some g → w'.heap[g]? = w.heap[g]?) : w'.ownsRow base e s v n xs := own_other h k hne hk
theorem RowBk.push {w w' : World} {B : Nat} {v v' : Value} {xs : List Ee} {x : Ee} (h : RowBk w B v xs) (hx : OwE w B x) (hs : ∀ y ∈ xs, (∀ g, blk y.2.B = some g → blk x.2.B ≠ some g) ∧ (∀ g, blk y.2.D = some g → blk x.2.D ≠ some g))
    (h2 : w'.ownsRow B 29 6 v' (xs.length + 1) (gcells ebl xs ++ ebl x)) (hk : ∀ g, B ≤ g → g < w.heap.size → v.ownBlock ≠ some g → w'.heap[g]? = w.heap[g]?) : RowBk w' B v' (xs ++ [x]) := by
  have key : ∀ y : Ee, OwE w B y → OwE w' B y := fun y hy => ⟨⟨own_other hy.1.1 h.1 (by decide) hk, hy.1.2⟩, own_other hy.2.1 h.1 (by decide) hk, own_other hy.2.2 h.1 (by decide) hk⟩
  refine ⟨?_, fun y hy => ?_, ?_⟩
  · rw [gcells_snoc, List.length_append]
    exact h2
  · rcases List.mem_append.1 hy with hy | hy
    · exact key y (h.2.1 y hy)
    · obtain rfl : y = x := by simpa using hy
      exact key y hx
  · rw [List.pairwise_append]
    exact ⟨h.2.2, List.pairwise_singleton _ _, fun y hy z hz => by
      obtain rfl : z = x := by simpa using hz
      exact hs y hy⟩
theorem blk_lt {w : World} {base e s n c : Nat} {A : Option Addr} {m : Nat} {xs : List Value} (h : w.ownsRow base e s (.slice A n c) m xs) (g : Nat) (hg : blk A = some g) : base ≤ g ∧ g < w.heap.size := by
  have h1 := own_lt h g (by rw [ownBlock_blk]; exact hg)
  exact ⟨h1.1, h1.2.1⟩
/-- Rows of what was there before, and rows made later. -/
theorem sepE {w w2 : World} {b N : Nat} {y x : Ee} (hy : OwE w b y) (hx : OwE w2 N x) (hN : w.heap.size ≤ N) : (∀ g, blk y.2.B = some g → blk x.2.B ≠ some g) ∧ (∀ g, blk y.2.D = some g → blk x.2.D ≠ some g) :=
  ⟨fun g h1 h2 => by have := (blk_lt hy.2.1 g h1).2; have := (blk_lt hx.2.1 g h2).1; omega, fun g h1 h2 => by have := (blk_lt hy.2.2 g h1).2; have := (blk_lt hx.2.2 g h2).1; omega⟩
/-- Lengths that a walk bears. -/
def SmE (x : Ee) : Prop := x.1.ns.length ≤ 100000 ∧ x.1.bd.length ≤ 100000 ∧ x.1.dn.length ≤ 100000
end Go.Proofs.YtgakobolhmdnnaaGreat
