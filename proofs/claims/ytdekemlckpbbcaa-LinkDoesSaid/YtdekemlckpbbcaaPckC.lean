/- pack: what a packet may be, cut from the pack texts. -/
import Derived.Test.YtdekemlckpbbcaaBase
import Derived.Test.YtdekemlckpbbcaaText
import Derived.Test.YtdekemlckpbbcaaRd
import Derived.Test.YtdekemlckpbbcaaRow
import Derived.Test.YtdekemlckpbbcaaStep
import Derived.Test.YtdekemlckpbbcaaKeep
import Derived.Test.YtdekemlckpbbcaaSenD
import Derived.Deep.Cut
namespace Go.Proofs.Ytdekemlckpbbcaa
open Go.RowKit
set_option linter.unusedVariables false
set_option linter.unusedSimpArgs false

/-- Is a field as it may be? -/
def inS (hb : Bool) (least most n : Int) : Bool := if hb then decide (least ≤ n ∧ n ≤ most) else n == 0
/-- Which fields a kind has. -/
def hpP (k : Nat) : Bool := decide (1 ≤ k ∧ k ≤ 3)
def hpS (k : Nat) : Bool := decide (k = 1 ∨ k = 2)
def hpB (k : Nat) : Bool := decide (k = 1 ∨ k = 4)
def inT (hb : Bool) (s : List UInt8) : Bool := if hb then decide (1 ≤ s.length ∧ s.length ≤ 32) else decide (s.length = 0)
def okP (k f t i p s : Int) (b : List UInt8) : Bool :=
  decide (1 ≤ k ∧ k ≤ 4) && decide (0 ≤ f ∧ f ≤ 71) && decide (0 ≤ t ∧ t ≤ 71) && decide (f ≠ t) && inS true 1 72057594037927935 i && inS (hpP k.toNat) 1 72057594037927935 p && inS (hpS k.toNat) 1 72057594037927935 s && inT (hpB k.toNat) b
theorem okP_iff {k f t i p s : Int} {b : List UInt8} (h : okP k f t i p s b = true) : (1 ≤ k ∧ k ≤ 4) ∧ (0 ≤ f ∧ f ≤ 71) ∧ (0 ≤ t ∧ t ≤ 71) ∧ f ≠ t ∧ inS true 1 72057594037927935 i = true ∧ inS (hpP k.toNat) 1 72057594037927935 p = true ∧ inS (hpS k.toNat) 1 72057594037927935 s = true ∧ inT (hpB k.toNat) b = true := by
  unfold okP at h
  simp only [Bool.and_eq_true, decide_eq_true_eq] at h
  obtain ⟨⟨⟨⟨⟨⟨⟨h1, h2⟩, h3⟩, h4⟩, h5⟩, h6⟩, h7⟩, h8⟩ := h
  exact ⟨h1, h2, h3, h4, h5, h6, h7, h8⟩
theorem hasPeer_any (k : Nat) (hk : k ≤ 4) (w : World) : Calls Try.prog 75 #[.int .i64 k] w fun e w' => e = .returned (.bool (hpP k)) ∧ w = w' := by
  rcases (by omega : k = 0 ∨ k = 1 ∨ k = 2 ∨ k = 3 ∨ k = 4) with rfl | rfl | rfl | rfl | rfl
  all_goals
    clear hk
    go_enter Try.func75, Try.ntmps75
    go_wp2
    go_ret
    exact ⟨rfl, rfl⟩
theorem hasSeq_any (k : Nat) (hk : k ≤ 4) (w : World) : Calls Try.prog 76 #[.int .i64 k] w fun e w' => e = .returned (.bool (hpS k)) ∧ w = w' := by
  rcases (by omega : k = 0 ∨ k = 1 ∨ k = 2 ∨ k = 3 ∨ k = 4) with rfl | rfl | rfl | rfl | rfl
  all_goals
    clear hk
    go_enter Try.func76, Try.ntmps76
    go_wp2
    go_ret
    exact ⟨rfl, rfl⟩
theorem hasBody_any (k : Nat) (hk : k ≤ 4) (w : World) : Calls Try.prog 77 #[.int .i64 k] w fun e w' => e = .returned (.bool (hpB k)) ∧ w = w' := by
  rcases (by omega : k = 0 ∨ k = 1 ∨ k = 2 ∨ k = 3 ∨ k = 4) with rfl | rfl | rfl | rfl | rfl
  all_goals
    clear hk
    go_enter Try.func77, Try.ntmps77
    go_wp2
    go_ret
    exact ⟨rfl, rfl⟩
/-- A packet's cells. -/
def pcs (k f t i p s : Int) (b : ByteArray) : Array Value := #[.int .i64 k, .int .i64 f, .int .i64 t, .int .i64 i, .int .i64 p, .int .i64 s, .string b]
/-- Block M is a packet. -/
def Pc (T : TypeId) (w : World) (M : Nat) (k f t i p s : Int) (b : ByteArray) : Prop := w.heap[M]? = some (.cells #[.int .i64 k, .int .i64 f, .int .i64 t, .int .i64 i, .int .i64 p, .int .i64 s, .string b] T (0, 0))
theorem seven_cells {w : World} {b t : Nat} {x0 x1 x2 x3 x4 x5 x6 : Value} (h : w.heap[b]? = some (.cells #[x0, x1, x2, x3, x4, x5, x6] t (0, 0))) :
    (w.cell? ⟨b, 0, none⟩ = some x0 ∧ w.cell? ⟨b, 1, none⟩ = some x1 ∧ w.cell? ⟨b, 2, none⟩ = some x2 ∧ w.cell? ⟨b, 3, none⟩ = some x3 ∧ w.cell? ⟨b, 4, none⟩ = some x4 ∧ w.cell? ⟨b, 5, none⟩ = some x5 ∧ w.cell? ⟨b, 6, none⟩ = some x6) ∧ (w.frozen? ⟨b, 0, none⟩ = false ∧ w.frozen? ⟨b, 1, none⟩ = false ∧ w.frozen? ⟨b, 2, none⟩ = false ∧ w.frozen? ⟨b, 3, none⟩ = false ∧ w.frozen? ⟨b, 4, none⟩ = false ∧ w.frozen? ⟨b, 5, none⟩ = false ∧ w.frozen? ⟨b, 6, none⟩ = false) :=
  ⟨⟨by rw [cell_of_row w b 0 _ t (0, 0) h]; rfl, by rw [cell_of_row w b 1 _ t (0, 0) h]; rfl, by rw [cell_of_row w b 2 _ t (0, 0) h]; rfl, by rw [cell_of_row w b 3 _ t (0, 0) h]; rfl, by rw [cell_of_row w b 4 _ t (0, 0) h]; rfl, by rw [cell_of_row w b 5 _ t (0, 0) h]; rfl, by rw [cell_of_row w b 6 _ t (0, 0) h]; rfl⟩,
    frozen_of_row w b 0 _ t h, frozen_of_row w b 1 _ t h, frozen_of_row w b 2 _ t h, frozen_of_row w b 3 _ t h, frozen_of_row w b 4 _ t h, frozen_of_row w b 5 _ t h, frozen_of_row w b 6 _ t h⟩
/-- The world in which a packet's cells have been stored. -/
def set7 (w : World) (b : Nat) (x0 x1 x2 x3 x4 x5 x6 : Value) : World := ((((((w.setCell ⟨b, 0, none⟩ x0).setCell ⟨b, 1, none⟩ x1).setCell ⟨b, 2, none⟩ x2).setCell ⟨b, 3, none⟩ x3).setCell ⟨b, 4, none⟩ x4).setCell ⟨b, 5, none⟩ x5).setCell ⟨b, 6, none⟩ x6
theorem set_seven {w : World} {b t : Nat} {x0 x1 x2 x3 x4 x5 x6 : Value} (h : w.heap[b]? = some (.cells #[x0, x1, x2, x3, x4, x5, x6] t (0, 0))) (y0 y1 y2 y3 y4 y5 y6 : Value) :
    (set7 w b y0 y1 y2 y3 y4 y5 y6).heap[b]? = some (.cells #[y0, y1, y2, y3, y4, y5, y6] t (0, 0)) := by
  have h1 := heap_setCell_same w b 0 #[x0, x1, x2, x3, x4, x5, x6] t y0 h
  have h2 := heap_setCell_same _ b 1 _ t y1 h1
  have h3 := heap_setCell_same _ b 2 _ t y2 h2
  have h4 := heap_setCell_same _ b 3 _ t y3 h3
  have h5 := heap_setCell_same _ b 4 _ t y4 h4
  have h6 := heap_setCell_same _ b 5 _ t y5 h5
  have h7 := heap_setCell_same _ b 6 _ t y6 h6
  rw [set7, h7]
  rfl
theorem below_set7 {B : Nat} {W w : World} {b : Nat} (h : Below B W w) (hb : B ≤ b) (y0 y1 y2 y3 y4 y5 y6 : Value) : Below B W (set7 w b y0 y1 y2 y3 y4 y5 y6) :=
  ((((((h.setCell (p := ⟨b, 0, none⟩) hb y0).setCell (p := ⟨b, 1, none⟩) hb y1).setCell (p := ⟨b, 2, none⟩) hb y2).setCell (p := ⟨b, 3, none⟩) hb y3).setCell (p := ⟨b, 4, none⟩) hb y4).setCell (p := ⟨b, 5, none⟩) hb y5).setCell (p := ⟨b, 6, none⟩) hb y6
end Go.Proofs.Ytdekemlckpbbcaa
