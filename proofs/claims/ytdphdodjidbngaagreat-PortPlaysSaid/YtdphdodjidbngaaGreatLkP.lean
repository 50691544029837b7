/- An end of a connection: its cells; cloned, packet, New: contracts. -/
import Derived.Test.YtdphdodjidbngaaGreatSeP
import Derived.Test.YtdphdodjidbngaaGreatPaQ
import Derived.Test.YtdphdodjidbngaaGreatSnP
import Derived.Test.YtdphdodjidbngaaGreatGaP
import Derived.RegionTactic
import Derived.ChangeAlike
import Derived.Deep.RegionHeld3
import Derived.Lib.QuietBelow
namespace Go.Proofs.YtdphdodjidbngaaGreat
open Go.RowKit Go.Sort
set_option linter.unusedVariables false
set_option linter.unusedSimpArgs false

theorem eleven_cells {w : World} {b t : Nat} {x0 x1 x2 x3 x4 x5 x6 x7 x8 x9 x10 : Value} (h : w.heap[b]? = some (.cells #[x0, x1, x2, x3, x4, x5, x6, x7, x8, x9, x10] t (0, 0))) :
    (w.cell? ⟨b, 0, none⟩ = some x0 ∧ w.cell? ⟨b, 1, none⟩ = some x1 ∧ w.cell? ⟨b, 2, none⟩ = some x2 ∧ w.cell? ⟨b, 3, none⟩ = some x3 ∧ w.cell? ⟨b, 4, none⟩ = some x4 ∧ w.cell? ⟨b, 5, none⟩ = some x5 ∧ w.cell? ⟨b, 6, none⟩ = some x6 ∧ w.cell? ⟨b, 7, none⟩ = some x7 ∧ w.cell? ⟨b, 8, none⟩ = some x8 ∧ w.cell? ⟨b, 9, none⟩ = some x9 ∧ w.cell? ⟨b, 10, none⟩ = some x10) ∧ (w.frozen? ⟨b, 0, none⟩ = false ∧ w.frozen? ⟨b, 1, none⟩ = false ∧ w.frozen? ⟨b, 2, none⟩ = false ∧ w.frozen? ⟨b, 3, none⟩ = false ∧ w.frozen? ⟨b, 4, none⟩ = false ∧ w.frozen? ⟨b, 5, none⟩ = false ∧ w.frozen? ⟨b, 6, none⟩ = false ∧ w.frozen? ⟨b, 7, none⟩ = false ∧ w.frozen? ⟨b, 8, none⟩ = false ∧ w.frozen? ⟨b, 9, none⟩ = false ∧ w.frozen? ⟨b, 10, none⟩ = false) := by
  refine ⟨⟨?_, ?_, ?_, ?_, ?_, ?_, ?_, ?_, ?_, ?_, ?_⟩, ⟨frozen_of_row w b 0 _ t h, frozen_of_row w b 1 _ t h, frozen_of_row w b 2 _ t h, frozen_of_row w b 3 _ t h, frozen_of_row w b 4 _ t h, frozen_of_row w b 5 _ t h, frozen_of_row w b 6 _ t h, frozen_of_row w b 7 _ t h, frozen_of_row w b 8 _ t h, frozen_of_row w b 9 _ t h, frozen_of_row w b 10 _ t h⟩⟩
  · rw [cell_of_row w b 0 _ _ _ h]; rfl
  · rw [cell_of_row w b 1 _ _ _ h]; rfl
  · rw [cell_of_row w b 2 _ _ _ h]; rfl
  · rw [cell_of_row w b 3 _ _ _ h]; rfl
  · rw [cell_of_row w b 4 _ _ _ h]; rfl
  · rw [cell_of_row w b 5 _ _ _ h]; rfl
  · rw [cell_of_row w b 6 _ _ _ h]; rfl
  · rw [cell_of_row w b 7 _ _ _ h]; rfl
  · rw [cell_of_row w b 8 _ _ _ h]; rfl
  · rw [cell_of_row w b 9 _ _ _ h]; rfl
  · rw [cell_of_row w b 10 _ _ _ h]; rfl
def put11 (w : World) (b : Nat) (a0 a1 a2 a3 a4 a5 a6 a7 a8 a9 a10 : Value) : World := ((((((((((w.setCell ⟨b, 0, none⟩ a0).setCell ⟨b, 1, none⟩ a1).setCell ⟨b, 2, none⟩ a2).setCell ⟨b, 3, none⟩ a3).setCell ⟨b, 4, none⟩ a4).setCell ⟨b, 5, none⟩ a5).setCell ⟨b, 6, none⟩ a6).setCell ⟨b, 7, none⟩ a7).setCell ⟨b, 8, none⟩ a8).setCell ⟨b, 9, none⟩ a9).setCell ⟨b, 10, none⟩ a10
theorem put11_heap {w : World} {b t : Nat} {x0 x1 x2 x3 x4 x5 x6 x7 x8 x9 x10 : Value} (h : w.heap[b]? = some (.cells #[x0, x1, x2, x3, x4, x5, x6, x7, x8, x9, x10] t (0, 0))) (a0 a1 a2 a3 a4 a5 a6 a7 a8 a9 a10 : Value) : (put11 w b a0 a1 a2 a3 a4 a5 a6 a7 a8 a9 a10).heap[b]? = some (.cells #[a0, a1, a2, a3, a4, a5, a6, a7, a8, a9, a10] t (0, 0)) := by
  have h1 : (w.setCell ⟨b, 0, none⟩ a0).heap[b]? = some (.cells #[a0, x1, x2, x3, x4, x5, x6, x7, x8, x9, x10] t (0, 0)) := by rw [heap_setCell_same w b 0 _ t a0 h]; rfl
  have h2 : ((w.setCell ⟨b, 0, none⟩ a0).setCell ⟨b, 1, none⟩ a1).heap[b]? = some (.cells #[a0, a1, x2, x3, x4, x5, x6, x7, x8, x9, x10] t (0, 0)) := by rw [heap_setCell_same (w.setCell ⟨b, 0, none⟩ a0) b 1 _ t a1 h1]; rfl
  have h3 : (((w.setCell ⟨b, 0, none⟩ a0).setCell ⟨b, 1, none⟩ a1).setCell ⟨b, 2, none⟩ a2).heap[b]? = some (.cells #[a0, a1, a2, x3, x4, x5, x6, x7, x8, x9, x10] t (0, 0)) := by rw [heap_setCell_same ((w.setCell ⟨b, 0, none⟩ a0).setCell ⟨b, 1, none⟩ a1) b 2 _ t a2 h2]; rfl
  have h4 : ((((w.setCell ⟨b, 0, none⟩ a0).setCell ⟨b, 1, none⟩ a1).setCell ⟨b, 2, none⟩ a2).setCell ⟨b, 3, none⟩ a3).heap[b]? = some (.cells #[a0, a1, a2, a3, x4, x5, x6, x7, x8, x9, x10] t (0, 0)) := by rw [heap_setCell_same (((w.setCell ⟨b, 0, none⟩ a0).setCell ⟨b, 1, none⟩ a1).setCell ⟨b, 2, none⟩ a2) b 3 _ t a3 h3]; rfl
  have h5 : (((((w.setCell ⟨b, 0, none⟩ a0).setCell ⟨b, 1, none⟩ a1).setCell ⟨b, 2, none⟩ a2).setCell ⟨b, 3, none⟩ a3).setCell ⟨b, 4, none⟩ a4).heap[b]? = some (.cells #[a0, a1, a2, a3, a4, x5, x6, x7, x8, x9, x10] t (0, 0)) := by rw [heap_setCell_same ((((w.setCell ⟨b, 0, none⟩ a0).setCell ⟨b, 1, none⟩ a1).setCell ⟨b, 2, none⟩ a2).setCell ⟨b, 3, none⟩ a3) b 4 _ t a4 h4]; rfl
  have h6 : ((((((w.setCell ⟨b, 0, none⟩ a0).setCell ⟨b, 1, none⟩ a1).setCell ⟨b, 2, none⟩ a2).setCell ⟨b, 3, none⟩ a3).setCell ⟨b, 4, none⟩ a4).setCell ⟨b, 5, none⟩ a5).heap[b]? = some (.cells #[a0, a1, a2, a3, a4, a5, x6, x7, x8, x9, x10] t (0, 0)) := by rw [heap_setCell_same (((((w.setCell ⟨b, 0, none⟩ a0).setCell ⟨b, 1, none⟩ a1).setCell ⟨b, 2, none⟩ a2).setCell ⟨b, 3, none⟩ a3).setCell ⟨b, 4, none⟩ a4) b 5 _ t a5 h5]; rfl
  have h7 : (((((((w.setCell ⟨b, 0, none⟩ a0).setCell ⟨b, 1, none⟩ a1).setCell ⟨b, 2, none⟩ a2).setCell ⟨b, 3, none⟩ a3).setCell ⟨b, 4, none⟩ a4).setCell ⟨b, 5, none⟩ a5).setCell ⟨b, 6, none⟩ a6).heap[b]? = some (.cells #[a0, a1, a2, a3, a4, a5, a6, x7, x8, x9, x10] t (0, 0)) := by rw [heap_setCell_same ((((((w.setCell ⟨b, 0, none⟩ a0).setCell ⟨b, 1, none⟩ a1).setCell ⟨b, 2, none⟩ a2).setCell ⟨b, 3, none⟩ a3).setCell ⟨b, 4, none⟩ a4).setCell ⟨b, 5, none⟩ a5) b 6 _ t a6 h6]; rfl
  have h8 : ((((((((w.setCell ⟨b, 0, none⟩ a0).setCell ⟨b, 1, none⟩ a1).setCell ⟨b, 2, none⟩ a2).setCell ⟨b, 3, none⟩ a3).setCell ⟨b, 4, none⟩ a4).setCell ⟨b, 5, none⟩ a5).setCell ⟨b, 6, none⟩ a6).setCell ⟨b, 7, none⟩ a7).heap[b]? = some (.cells #[a0, a1, a2, a3, a4, a5, a6, a7, x8, x9, x10] t (0, 0)) := by rw [heap_setCell_same (((((((w.setCell ⟨b, 0, none⟩ a0).setCell ⟨b, 1, none⟩ a1).setCell ⟨b, 2, none⟩ a2).setCell ⟨b, 3, none⟩ a3).setCell ⟨b, 4, none⟩ a4).setCell ⟨b, 5, none⟩ a5).setCell ⟨b, 6, none⟩ a6) b 7 _ t a7 h7]; rfl
  have h9 : (((((((((w.setCell ⟨b, 0, none⟩ a0).setCell ⟨b, 1, none⟩ a1).setCell ⟨b, 2, none⟩ a2).setCell ⟨b, 3, none⟩ a3).setCell ⟨b, 4, none⟩ a4).setCell ⟨b, 5, none⟩ a5).setCell ⟨b, 6, none⟩ a6).setCell ⟨b, 7, none⟩ a7).setCell ⟨b, 8, none⟩ a8).heap[b]? = some (.cells #[a0, a1, a2, a3, a4, a5, a6, a7, a8, x9, x10] t (0, 0)) := by rw [heap_setCell_same ((((((((w.setCell ⟨b, 0, none⟩ a0).setCell ⟨b, 1, none⟩ a1).setCell ⟨b, 2, none⟩ a2).setCell ⟨b, 3, none⟩ a3).setCell ⟨b, 4, none⟩ a4).setCell ⟨b, 5, none⟩ a5).setCell ⟨b, 6, none⟩ a6).setCell ⟨b, 7, none⟩ a7) b 8 _ t a8 h8]; rfl
  have h10 : ((((((((((w.setCell ⟨b, 0, none⟩ a0).setCell ⟨b, 1, none⟩ a1).setCell ⟨b, 2, none⟩ a2).setCell ⟨b, 3, none⟩ a3).setCell ⟨b, 4, none⟩ a4).setCell ⟨b, 5, none⟩ a5).setCell ⟨b, 6, none⟩ a6).setCell ⟨b, 7, none⟩ a7).setCell ⟨b, 8, none⟩ a8).setCell ⟨b, 9, none⟩ a9).heap[b]? = some (.cells #[a0, a1, a2, a3, a4, a5, a6, a7, a8, a9, x10] t (0, 0)) := by rw [heap_setCell_same (((((((((w.setCell ⟨b, 0, none⟩ a0).setCell ⟨b, 1, none⟩ a1).setCell ⟨b, 2, none⟩ a2).setCell ⟨b, 3, none⟩ a3).setCell ⟨b, 4, none⟩ a4).setCell ⟨b, 5, none⟩ a5).setCell ⟨b, 6, none⟩ a6).setCell ⟨b, 7, none⟩ a7).setCell ⟨b, 8, none⟩ a8) b 9 _ t a9 h9]; rfl
  have h11 : (((((((((((w.setCell ⟨b, 0, none⟩ a0).setCell ⟨b, 1, none⟩ a1).setCell ⟨b, 2, none⟩ a2).setCell ⟨b, 3, none⟩ a3).setCell ⟨b, 4, none⟩ a4).setCell ⟨b, 5, none⟩ a5).setCell ⟨b, 6, none⟩ a6).setCell ⟨b, 7, none⟩ a7).setCell ⟨b, 8, none⟩ a8).setCell ⟨b, 9, none⟩ a9).setCell ⟨b, 10, none⟩ a10).heap[b]? = some (.cells #[a0, a1, a2, a3, a4, a5, a6, a7, a8, a9, a10] t (0, 0)) := by rw [heap_setCell_same ((((((((((w.setCell ⟨b, 0, none⟩ a0).setCell ⟨b, 1, none⟩ a1).setCell ⟨b, 2, none⟩ a2).setCell ⟨b, 3, none⟩ a3).setCell ⟨b, 4, none⟩ a4).setCell ⟨b, 5, none⟩ a5).setCell ⟨b, 6, none⟩ a6).setCell ⟨b, 7, none⟩ a7).setCell ⟨b, 8, none⟩ a8).setCell ⟨b, 9, none⟩ a9) b 10 _ t a10 h10]; rfl
  unfold put11
  exact h11
theorem put11_below {n : Nat} {W w : World} {b : Nat} (h : Below n W w) (hb : n ≤ b) (a0 a1 a2 a3 a4 a5 a6 a7 a8 a9 a10 : Value) : Below n W (put11 w b a0 a1 a2 a3 a4 a5 a6 a7 a8 a9 a10) :=
  (((((((((((h.setCell (p := ⟨b, 0, none⟩) hb a0).setCell (p := ⟨b, 1, none⟩) hb a1).setCell (p := ⟨b, 2, none⟩) hb a2).setCell (p := ⟨b, 3, none⟩) hb a3).setCell (p := ⟨b, 4, none⟩) hb a4).setCell (p := ⟨b, 5, none⟩) hb a5).setCell (p := ⟨b, 6, none⟩) hb a6).setCell (p := ⟨b, 7, none⟩) hb a7).setCell (p := ⟨b, 8, none⟩) hb a8).setCell (p := ⟨b, 9, none⟩) hb a9).setCell (p := ⟨b, 10, none⟩) hb a10)
theorem put11_other {w : World} {b g : Nat} (hg : g ≠ b) (a0 a1 a2 a3 a4 a5 a6 a7 a8 a9 a10 : Value) : (put11 w b a0 a1 a2 a3 a4 a5 a6 a7 a8 a9 a10).heap[g]? = w.heap[g]? := by
  unfold put11
  rw [Below.heap_setCell _ _ _ _ hg, Below.heap_setCell _ _ _ _ hg, Below.heap_setCell _ _ _ _ hg, Below.heap_setCell _ _ _ _ hg, Below.heap_setCell _ _ _ _ hg, Below.heap_setCell _ _ _ _ hg, Below.heap_setCell _ _ _ _ hg, Below.heap_setCell _ _ _ _ hg, Below.heap_setCell _ _ _ _ hg, Below.heap_setCell _ _ _ _ hg, Below.heap_setCell _ _ _ _ hg]

/-- An end: from, to, incarnation; the outbox; the gate's three. -/
structure Ev where
  f : Int
  t : Int
  i : Int
  o : Ov
  m : Int
  p : Int
  l : Int
def ec (e : Ev) (A : Option Addr) (c : Nat) : Array Value := #[.int .i64 e.f, .int .i64 e.t, .int .i64 e.i, .int .i64 e.o.p, .int .i64 e.o.q, .slice A e.o.l.length c, .int .i64 e.o.w, .int .i64 e.o.f, .int .i64 e.m, .int .i64 e.p, .int .i64 e.l]
def ez : Array Value := #[.int .i64 0, .int .i64 0, .int .i64 0, .int .i64 0, .int .i64 0, .slice none 0 0, .int .i64 0, .int .i64 0, .int .i64 0, .int .i64 0, .int .i64 0]
/-- The copy of the argument, at X; its texts, of the call's own. -/
def EX (W u : World) (X : Nat) (e : Ev) (A : Option Addr) (c : Nat) : Prop :=
  u.heap[X]? = some (.cells (ec e A c) 71 (0, 0)) ∧ u.ownsRow W.heap.size 9 1 (.slice A e.o.l.length c) e.o.l.length (scells e.o.l) ∧ Below W.heap.size W u
theorem EX.keep {W u w : World} {X : Nat} {e : Ev} {A : Option Addr} {c : Nat} (h : EX W u X e A c) (hb : Below u.heap.size u w) : EX W w X e A c := ⟨keep0 h.1 hb, own_keep h.2.1 hb, h.2.2.trans (hb.mono h.2.2.size)⟩
/-- One cell of the copy is set. -/
theorem EX.one {W u u' : World} {X : Nat} {e e' : Ev} {A A' : Option Addr} {c c' : Nat} (hx : u.heap[X]? = some (.cells (ec e A c) 71 (0, 0))) (ho : u.ownsRow W.heap.size 9 1 (.slice A' e'.o.l.length c') e'.o.l.length (scells e'.o.l)) (hb : Below W.heap.size W u) (hX : W.heap.size ≤ X) (k : Nat) (v : Value)
    (hi : (ec e A c).setIfInBounds k v = ec e' A' c') (he : u' = u.setCell ⟨X, k, none⟩ v) : EX W u' X e' A' c' := by
  subst he
  exact ⟨by rw [heap_setCell_same u X k _ _ v hx, hi], own_at ho hx (by decide) fun g hg => Below.heap_setCell _ _ _ _ hg, hb.setCell (p := ⟨X, k, none⟩) hX _⟩
/-- The outbox is set. -/
theorem EX.out {W u u' : World} {X : Nat} {e : Ev} {o' : Ov} {A A' : Option Addr} {c c' : Nat} (hx : u.heap[X]? = some (.cells (ec e A c) 71 (0, 0))) (ho : u.ownsRow W.heap.size 9 1 (.slice A' o'.l.length c') o'.l.length (scells o'.l)) (hb : Below W.heap.size W u) (hX : W.heap.size ≤ X)
    (he : u' = ((((u.setCell ⟨X, 3, none⟩ (.int .i64 o'.p)).setCell ⟨X, 4, none⟩ (.int .i64 o'.q)).setCell ⟨X, 5, none⟩ (.slice A' o'.l.length c')).setCell ⟨X, 6, none⟩ (.int .i64 o'.w)).setCell ⟨X, 7, none⟩ (.int .i64 o'.f)) : EX W u' X ⟨e.f, e.t, e.i, o', e.m, e.p, e.l⟩ A' c' := by
  subst he
  have h1 := heap_setCell_same u X 3 _ _ (.int .i64 o'.p) hx
  have h2 := heap_setCell_same _ X 4 _ _ (.int .i64 o'.q) h1
  have h3 := heap_setCell_same _ X 5 _ _ (.slice A' o'.l.length c') h2
  have h4 := heap_setCell_same _ X 6 _ _ (.int .i64 o'.w) h3
  have h5 := heap_setCell_same _ X 7 _ _ (.int .i64 o'.f) h4
  refine ⟨by rw [h5]; rfl, own_at ho hx (by decide) fun g hg => ?_, ((((hb.setCell (p := ⟨X, 3, none⟩) hX _).setCell (p := ⟨X, 4, none⟩) hX _).setCell (p := ⟨X, 5, none⟩) hX _).setCell (p := ⟨X, 6, none⟩) hX _).setCell (p := ⟨X, 7, none⟩) hX _⟩
  rw [Below.heap_setCell _ _ _ _ hg, Below.heap_setCell _ _ _ _ hg, Below.heap_setCell _ _ _ _ hg, Below.heap_setCell _ _ _ _ hg, Below.heap_setCell _ _ _ _ hg]
/-- The gate is set. -/
theorem EX.gate {W u u' : World} {X : Nat} {e : Ev} {A : Option Addr} {c : Nat} (h : EX W u X e A c) (hX : W.heap.size ≤ X) (m p l : Int)
    (he : u' = ((u.setCell ⟨X, 8, none⟩ (.int .i64 m)).setCell ⟨X, 9, none⟩ (.int .i64 p)).setCell ⟨X, 10, none⟩ (.int .i64 l)) : EX W u' X ⟨e.f, e.t, e.i, e.o, m, p, l⟩ A c := by
  subst he
  obtain ⟨hx, ho, hb⟩ := h
  have h1 := heap_setCell_same u X 8 _ _ (.int .i64 m) hx
  have h2 := heap_setCell_same _ X 9 _ _ (.int .i64 p) h1
  have h3 := heap_setCell_same _ X 10 _ _ (.int .i64 l) h2
  refine ⟨by rw [h3]; rfl, own_at ho hx (by decide) fun g hg => ?_, ((hb.setCell (p := ⟨X, 8, none⟩) hX _).setCell (p := ⟨X, 9, none⟩) hX _).setCell (p := ⟨X, 10, none⟩) hX _⟩
  rw [Below.heap_setCell _ _ _ _ hg, Below.heap_setCell _ _ _ _ hg, Below.heap_setCell _ _ _ _ hg]
/-- The whole of a block is set. -/
theorem EX.ret {W u : World} {X Z : Nat} {e : Ev} {A : Option Addr} {c : Nat} {cs : Array Value} (h : EX W u X e A c) (hz : u.heap[Z]? = some (.cells cs 71 (0, 0))) (hZ : W.heap.size ≤ Z) (a0 a1 a2 a3 a4 a5 a6 a7 a8 a9 a10 : Value) :
    (put11 u Z a0 a1 a2 a3 a4 a5 a6 a7 a8 a9 a10).ownsRow W.heap.size 9 1 (.slice A e.o.l.length c) e.o.l.length (scells e.o.l) ∧ Below W.heap.size W (put11 u Z a0 a1 a2 a3 a4 a5 a6 a7 a8 a9 a10) :=
  ⟨own_at h.2.1 hz (by decide) fun g hg => put11_other hg _ _ _ _ _ _ _ _ _ _ _, put11_below h.2.2 hZ _ _ _ _ _ _ _ _ _ _ _⟩

set_option maxRecDepth 20000 in
set_option maxHeartbeats 4000000 in
theorem ecloned_any (e : Ev) (A : Option Addr) (c : Nat) (W : World) (h : Sl W 1 A e.o.l.length c (scells e.o.l)) (hl : e.o.l.length ≤ 1000) :
    Calls Tryz.prog 43 #[.agg (ec e A c)] W fun x w' => ∃ A' c', x = .returned (.agg (ec e A' c')) ∧ w'.ownsRow W.heap.size 9 1 (.slice A' e.o.l.length c') e.o.l.length (scells e.o.l) ∧ Below W.heap.size W w' := by
  have HC := hid (fun w (hw : Below W.heap.size W w) => clone_str A e.o.l.length c (scells e.o.l) w (h.below hw) (scells_one _) (by omega))
  clear h hl
  obtain ⟨f, t, i, ⟨p, q, l, wt, fl⟩, gm, gp, gl⟩ := e
  simp only [ec] at *
  go_enter Tryz.func43, Tryz.ntmps43
  go_upto_region 1 with (fail)
  refine at_world (fun u => u.heap[W.heap.size]? = some (.cells (ec ⟨f, t, i, ⟨p, q, l, wt, fl⟩, gm, gp, gl⟩ A c) 71 (0, 0)) ∧ u.heap[W.heap.size + 1]? = some (.cells ez 71 (0, 0)) ∧ Below W.heap.size W u) ⟨heap_first _ _ _, heap_second _ _ _, below2 _ _ _⟩ ?_
  rintro w1 ⟨hx1, hz1, hb1⟩
  obtain ⟨⟨p0, p1, p2, p3, p4, p5, p6, p7, p8, p9, p10⟩, ⟨g0, g1, g2, g3, g4, g5, g6, g7, g8, g9, g10⟩⟩ := eleven_cells hx1
  have HX1 := hid hx1
  have HZ1 := hid hz1
  have HB1 := hid hb1
  clear hx1 hz1 hb1
  go_wp2_with fail
  refine (HC.out _ HB1.out).mono ?_
  rintro e w2 ⟨v, rfl, hb2, ho2⟩
  obtain ⟨A2, c2, rfl, _⟩ := Sl.of_own ho2
  have hx2 := keep0 HX1.out hb2
  have HZ2 := hid (keep0 HZ1.out hb2)
  have hb9 := HB1.out.trans (hb2.mono HB1.out.size)
  have HS2 := hid (EX.one (X := W.heap.size) (e' := ⟨f, t, i, ⟨p, q, l, wt, fl⟩, gm, gp, gl⟩) (A' := A2) (c' := c2) hx2 (own_mono ho2 HB1.out.size) hb9 (Nat.le_refl _) 5 (.slice A2 l.length c2) rfl rfl)
  clear p0 p1 p2 p3 p4 p5 p6 p7 p8 p9 p10 g0 g1 g2 g3 g4 g5 g6 g7 g8 g9 g10 HX1 HZ1 HB1 hb2 ho2 hb9 HC
  obtain ⟨⟨p0, p1, p2, p3, p4, p5, p6, p7, p8, p9, p10⟩, ⟨g0, g1, g2, g3, g4, g5, g6, g7, g8, g9, g10⟩⟩ := eleven_cells hx2
  clear hx2
  go_upto_region 2 with (fail)
  refine at_world (fun u => EX W u W.heap.size ⟨f, t, i, ⟨p, q, l, wt, fl⟩, gm, gp, gl⟩ A2 c2 ∧ u.heap[W.heap.size + 1]? = some (.cells ez 71 (0, 0))) ⟨HS2.out, (Below.heap_setCell _ _ _ _ (show W.heap.size + 1 ≠ W.heap.size by omega)).trans HZ2.out⟩ ?_
  clear p0 p1 p2 p3 p4 p5 p6 p7 p8 p9 p10 g0 g1 g2 g3 g4 g5 g6 g7 g8 g9 g10 HS2 HZ2
  rintro w3 ⟨hs3, hz3⟩
  obtain ⟨⟨p0, p1, p2, p3, p4, p5, p6, p7, p8, p9, p10⟩, _⟩ := eleven_cells hs3.1
  obtain ⟨_, ⟨g0, g1, g2, g3, g4, g5, g6, g7, g8, g9, g10⟩⟩ := eleven_cells hz3
  obtain ⟨⟨r0, r1, r2, r3, r4, r5, r6, r7, r8, r9, r10⟩, _⟩ := eleven_cells (put11_heap hz3 (.int .i64 f) (.int .i64 t) (.int .i64 i) (.int .i64 p) (.int .i64 q) (.slice A2 l.length c2) (.int .i64 wt) (.int .i64 fl) (.int .i64 gm) (.int .i64 gp) (.int .i64 gl))
  simp only [put11] at r0 r1 r2 r3 r4 r5 r6 r7 r8 r9 r10
  have HS3 := hid hs3
  have hr := hid (EX.ret hs3 hz3 (show W.heap.size ≤ W.heap.size + 1 by omega) (.int .i64 f) (.int .i64 t) (.int .i64 i) (.int .i64 p) (.int .i64 q) (.slice A2 l.length c2) (.int .i64 wt) (.int .i64 fl) (.int .i64 gm) (.int .i64 gp) (.int .i64 gl))
  clear hs3 hz3
  go_wp2
  exact bodyPost_ret (v := .agg #[.int .i64 f, .int .i64 t, .int .i64 i, .int .i64 p, .int .i64 q, .slice A2 l.length c2, .int .i64 wt, .int .i64 fl, .int .i64 gm, .int .i64 gp, .int .i64 gl]) (by simp [results, Tryz.results43, go_sem, r0, r1, r2, r3, r4, r5, r6, r7, r8, r9, r10]) rfl ⟨A2, c2, rfl, hr.out.1, hr.out.2⟩

set_option maxRecDepth 20000 in
set_option maxHeartbeats 4000000 in
theorem lpacket_any (e : Ev) (A : Option Addr) (c : Nat) (kd pr sq : Int) (b : ByteArray) (W : World) :
    Calls Tryz.prog 85 #[.agg (ec e A c), .int .i64 kd, .int .i64 pr, .int .i64 sq, .string b] W fun x w' => x = .returned (.agg #[.int .i64 kd, .int .i64 e.f, .int .i64 e.t, .int .i64 e.i, .int .i64 pr, .int .i64 sq, .string b]) ∧ Below W.heap.size W w' := by
  obtain ⟨f, t, i, ⟨p, q, l, wt, fl⟩, gm, gp, gl⟩ := e
  simp only [ec] at *
  go_enter Tryz.func85, Tryz.ntmps85
  go_upto_region 1 with (fail)
  refine at_world (fun u => u.heap[W.heap.size]? = some (.cells (ec ⟨f, t, i, ⟨p, q, l, wt, fl⟩, gm, gp, gl⟩ A c) 71 (0, 0)) ∧ u.heap[W.heap.size + 1]? = some (.cells #[.int .i64 0, .int .i64 0, .int .i64 0, .int .i64 0, .int .i64 0, .int .i64 0, .string ⟨#[]⟩] 90 (0, 0)) ∧ Below W.heap.size W u) ⟨heap_first _ _ _, heap_second _ _ _, below2 _ _ _⟩ ?_
  rintro w1 ⟨hx1, hz1, hb1⟩
  obtain ⟨⟨p0, p1, p2, p3, p4, p5, p6, p7, p8, p9, p10⟩, _⟩ := eleven_cells hx1
  have h7 := set_seven hz1 (.int .i64 kd) (.int .i64 f) (.int .i64 t) (.int .i64 i) (.int .i64 pr) (.int .i64 sq) (.string b)
  have h8 := seven_cells hz1
  have HB := hid (below_set7 hb1 (show W.heap.size ≤ W.heap.size + 1 by omega) (.int .i64 kd) (.int .i64 f) (.int .i64 t) (.int .i64 i) (.int .i64 pr) (.int .i64 sq) (.string b))
  obtain ⟨⟨r0, r1, r2, r3, r4, r5, r6⟩, _⟩ := seven_cells h7
  simp only [set7] at r0 r1 r2 r3 r4 r5 r6
  obtain ⟨_, g0, g1, g2, g3, g4, g5, g6⟩ := h8
  clear hx1 hz1 hb1 h7
  go_wp2
  exact bodyPost_ret (v := .agg #[.int .i64 kd, .int .i64 f, .int .i64 t, .int .i64 i, .int .i64 pr, .int .i64 sq, .string b]) (by simp [results, Tryz.results85, go_sem, r0, r1, r2, r3, r4, r5, r6]) rfl ⟨rfl, HB.out⟩
end Go.Proofs.YtdphdodjidbngaaGreat

namespace Go.Proofs.YtdphdodjidbngaaGreat
open Go.RowKit Go.Sort
set_option linter.unusedVariables false
set_option linter.unusedSimpArgs false

/-- A packet. -/
structure Pk where
  k : Int
  f : Int
  t : Int
  i : Int
  p : Int
  s : Int
  b : List UInt8
def pkc (x : Pk) : List Value := [.int .i64 x.k, .int .i64 x.f, .int .i64 x.t, .int .i64 x.i, .int .i64 x.p, .int .i64 x.s, .string (str x.b)]
theorem pkc_len (x : Pk) : (pkc x).length = 7 := rfl
theorem pkc_one (l : List Pk) : ∀ u ∈ gcells pkc l, u.oneCell' = true := by
  intro u hu
  simp only [gcells, List.mem_flatten, List.mem_map] at hu
  obtain ⟨_, ⟨x, _, rfl⟩, hx⟩ := hu
  simp only [pkc, List.mem_cons, List.not_mem_nil, or_false] at hx
  rcases hx with rfl | rfl | rfl | rfl | rfl | rfl | rfl <;> rfl
/-- What is sent of an end's first text. -/
def dataV (e : Ev) (b : Bool) : List Pk := if b then (match e.o.l with | [] => [] | y :: _ => [⟨1, e.f, e.t, e.i, e.o.p, e.o.q, y⟩]) else []
/-- A row of packets of the call's own. -/
def OwnP (W w : World) (v : Value) (l : List Pk) : Prop := w.ownsRow W.heap.size 90 7 v l.length (gcells pkc l)
theorem ownP_one {W u w' : World} {x : Pk} {g : Nat} (hb : W.heap.size ≤ g) (h : w'.heap[g]? = some (.cells (pkc x).toArray 90 (0, 0))) : OwnP W w' (.slice (some ⟨g, 0, none⟩) 1 1) [x] := by
  refine ⟨by simp [gcells, pkc], .inr ⟨g, 1, (pkc x).toArray, rfl, hb, h, by simp, by unfold maxLen; omega, by simp [pkc], by simp [gcells, pkc]⟩⟩
theorem ownP_nil (W w : World) : OwnP W w (.slice none 0 0) [] := ⟨rfl, .inl ⟨rfl, rfl⟩⟩

set_option maxRecDepth 20000 in
set_option maxHeartbeats 4000000 in
theorem lfirst_any (e : Ev) (b : Bool) (hb : b = true → e.o.l ≠ []) (A : Option Addr) (c : Nat) (W : World) (h : Sl W 1 A e.o.l.length c (scells e.o.l)) (hl : e.o.l.length ≤ 1000) :
    Calls Tryz.prog 45 #[.agg (ec e A c), .bool b] W fun x w' => ∃ B d, x = .returned (.slice B (dataV e b).length d) ∧ OwnP W w' (.slice B (dataV e b).length d) (dataV e b) ∧ Below W.heap.size W w' := by
  cases b with
  | false =>
    have HB0 : Hid (Below W.heap.size W (W.alloc (.cells (ec e A c) 71))) := hid ((Below.refl _ _).alloc (Nat.le_refl _) _)
    have HD : Hid (dataV e false = []) := hid rfl
    have HN := hid (ownP_nil W (W.alloc (.cells (ec e A c) 71)))
    generalize dataV e false = D at *
    obtain ⟨f, t, i, ⟨p, q, l, wt, fl⟩, gm, gp, gl⟩ := e
    simp only [ec] at *
    clear hb h hl
    go_enter Tryz.func45, Tryz.ntmps45
    go_wp2
    go_ret
    exact ⟨none, 0, by rw [HD.out]; rfl, by rw [HD.out]; exact HN.out, HB0.out⟩
  | true =>
    obtain ⟨f, t, i, ⟨p, q, l, wt, fl⟩, gm, gp, gl⟩ := e
    have hne := hb rfl
    obtain ⟨y, ys, hy⟩ : ∃ y ys, l = y :: ys := List.exists_cons_of_ne_nil hne
    have HD : Hid (dataV ⟨f, t, i, ⟨p, q, l, wt, fl⟩, gm, gp, gl⟩ true = [⟨1, f, t, i, p, q, y⟩]) := hid (by subst hy; rfl)
    generalize dataV ⟨f, t, i, ⟨p, q, l, wt, fl⟩, gm, gp, gl⟩ true = D at *
    have HF := hid (fun w (hw : Below W.heap.size W w) => sfirst_any ⟨p, q, l, wt, fl⟩ y ys hy A c w (h.below hw) hl)
    have HP := hid (fun w => lpacket_any ⟨f, t, i, ⟨p, q, l, wt, fl⟩, gm, gp, gl⟩ A c 1 p q (str y) w)
    clear hb hne hy h hl
    simp only [ec, oc] at *
    go_enter Tryz.func45, Tryz.ntmps45
    go_upto_region 1 with (fail)
    refine at_world (fun u => u.heap[W.heap.size]? = some (.cells (ec ⟨f, t, i, ⟨p, q, l, wt, fl⟩, gm, gp, gl⟩ A c) 71 (0, 0)) ∧ Below W.heap.size W u) ⟨heap_alloc_new _ _, (Below.refl _ _).alloc (Nat.le_refl _) _⟩ ?_
    rintro w1 ⟨hx1, hb1⟩
    have hS : ∀ U, Below w1.heap.size w1 U → ((U.cell? ⟨W.heap.size, 0, none⟩ = some (.int .i64 f) ∧ U.cell? ⟨W.heap.size, 1, none⟩ = some (.int .i64 t) ∧ U.cell? ⟨W.heap.size, 2, none⟩ = some (.int .i64 i) ∧ U.cell? ⟨W.heap.size, 3, none⟩ = some (.int .i64 p) ∧ U.cell? ⟨W.heap.size, 4, none⟩ = some (.int .i64 q) ∧ U.cell? ⟨W.heap.size, 5, none⟩ = some (.slice A l.length c) ∧ U.cell? ⟨W.heap.size, 6, none⟩ = some (.int .i64 wt) ∧ U.cell? ⟨W.heap.size, 7, none⟩ = some (.int .i64 fl) ∧ U.cell? ⟨W.heap.size, 8, none⟩ = some (.int .i64 gm) ∧ U.cell? ⟨W.heap.size, 9, none⟩ = some (.int .i64 gp) ∧ U.cell? ⟨W.heap.size, 10, none⟩ = some (.int .i64 gl)) ∧ Below w1.heap.size w1 U) := fun U hU => ⟨(eleven_cells (keep0 hx1 hU)).1, hU⟩
    have HB1 := hid hb1
    obtain ⟨⟨p0, p1, p2, p3, p4, p5, p6, p7, p8, p9, p10⟩, _⟩ := eleven_cells hx1
    clear hx1 hb1
    have HF1 := hid (fun w (hw : Below w1.heap.size w1 w) => HF.out w (HB1.out.trans (hw.mono HB1.out.size)))
    clear HF
    go_upto_region 3 with (fail)
    go_region_held3 (fun U => (U.cell? ⟨W.heap.size, 0, none⟩ = some (.int .i64 f) ∧ U.cell? ⟨W.heap.size, 1, none⟩ = some (.int .i64 t) ∧ U.cell? ⟨W.heap.size, 2, none⟩ = some (.int .i64 i) ∧ U.cell? ⟨W.heap.size, 3, none⟩ = some (.int .i64 p) ∧ U.cell? ⟨W.heap.size, 4, none⟩ = some (.int .i64 q) ∧ U.cell? ⟨W.heap.size, 5, none⟩ = some (.slice A l.length c) ∧ U.cell? ⟨W.heap.size, 6, none⟩ = some (.int .i64 wt) ∧ U.cell? ⟨W.heap.size, 7, none⟩ = some (.int .i64 fl) ∧ U.cell? ⟨W.heap.size, 8, none⟩ = some (.int .i64 gm) ∧ U.cell? ⟨W.heap.size, 9, none⟩ = some (.int .i64 gp) ∧ U.cell? ⟨W.heap.size, 10, none⟩ = some (.int .i64 gl)) ∧ Below w1.heap.size w1 U)
      (first
        | assumption
        | exact hS _ (below_drew (Below.refl _ _))
        | exact hS _ (bel_trans (And.right (by assumption)) (by assumption))
        | exact hS _ (bel_alloc (And.right (by assumption)) _))
      (first
        | (go_at_call 86
           refine (HF1.out _ (And.right (by assumption))).mono ?_
           rintro e u1 ⟨rfl, g1⟩)
        | (go_at_call 85
           refine (HP.out _).mono ?_
           rintro e u2 ⟨rfl, g2⟩))
    have hW := And.right (show _ ∧ Below w1.heap.size w1 _ by assumption)
    have HX := hid (ownP_one (W := W) (u := u2) (x := ⟨1, f, t, i, p, q, y⟩) (show W.heap.size ≤ u2.heap.size by have h1 := HB1.out.size; have h2 := g2.size; have h3 := g1.size; have h4 := HB1.out.size; simp at h3; omega) (heap_alloc_new u2 _))
    have HB2 := hid (HB1.out.trans (hW.mono HB1.out.size))
    clear hW
    go_wp2
    go_ret
    exact ⟨_, 1, by rw [HD.out]; rfl, by rw [HD.out]; exact HX.out, HB2.out⟩
end Go.Proofs.YtdphdodjidbngaaGreat

