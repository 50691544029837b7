/- LedgerPlays: both opens at once; small blocks. -/
import Derived.Test.YtkepfkfoblocgaaGreatQLpE
namespace Go.Proofs.YtkepfkfoblocgaaGreat
open Go.RowKit Go.Sort
set_option linter.unusedVariables false
set_option linter.unusedSimpArgs false

theorem two_cellsP {w : World} {b t : Nat} {x y : Value} (h : w.heap[b]? = some (.cells #[x, y] t (0, 0))) : w.cell? ⟨b, 0, none⟩ = some x ∧ w.cell? ⟨b, 1, none⟩ = some y :=
  ⟨by rw [cell_of_row w b 0 _ _ _ h]; rfl, by rw [cell_of_row w b 1 _ _ _ h]; rfl⟩
theorem nine_cellsP {w : World} {b t : Nat} {x0 x1 x2 x3 x4 x5 x6 x7 x8 : Value} (h : w.heap[b]? = some (.cells #[x0, x1, x2, x3, x4, x5, x6, x7, x8] t (0, 0))) :
    w.cell? ⟨b, 0, none⟩ = some x0 ∧ w.cell? ⟨b, 1, none⟩ = some x1 ∧ w.cell? ⟨b, 2, none⟩ = some x2 ∧ w.cell? ⟨b, 3, none⟩ = some x3 ∧ w.cell? ⟨b, 4, none⟩ = some x4 ∧ w.cell? ⟨b, 5, none⟩ = some x5 ∧ w.cell? ⟨b, 6, none⟩ = some x6 ∧ w.cell? ⟨b, 7, none⟩ = some x7 ∧ w.cell? ⟨b, 8, none⟩ = some x8 :=
  ⟨by rw [cell_of_row w b 0 _ _ _ h]; rfl, by rw [cell_of_row w b 1 _ _ _ h]; rfl, by rw [cell_of_row w b 2 _ _ _ h]; rfl, by rw [cell_of_row w b 3 _ _ _ h]; rfl, by rw [cell_of_row w b 4 _ _ _ h]; rfl, by rw [cell_of_row w b 5 _ _ _ h]; rfl, by rw [cell_of_row w b 6 _ _ _ h]; rfl, by rw [cell_of_row w b 7 _ _ _ h]; rfl, by rw [cell_of_row w b 8 _ _ _ h]; rfl⟩
/-- What the four values of the law are; the room that was asked. -/
def LpY (W w : World) (D M R room : Nat) (r1 : Int) (pl pe pw pf : Value) : Prop :=
  (r1 = (R : Int) ∧ ∃ B B2 L H G G2 l fuse fu A c els Ab cb xs A2 c2 els2 Ab2 cb2 xs2 down, pl = .pointer (some ⟨L, 0, none⟩) ∧ pe = .int .i64 0 ∧ pw = .pointer (some ⟨H, 0, none⟩) ∧ pf = .int .i64 0 ∧ LpS W w D M B B2 L H G G2 R room l fuse fu A c els Ab cb xs A2 c2 els2 Ab2 cb2 xs2 down) ∨
  (∃ l fuse fu f, f ≠ 0 ∧ pl = .pointer none ∧ pe = .int .i64 f ∧ pw = .pointer none ∧ pf = .int .i64 f ∧ DkS W w D M room l fuse fu)
theorem LpX.y {W w : World} {D M R room : Nat} {r1 : Int} {pl pe pw pf : Value} (h : LpX W w D M R room pl pe pw pf) (hr : r1 = (R : Int)) : LpY W w D M R room r1 pl pe pw pf :=
  h.imp (fun h9 => ⟨hr, h9⟩) (fun ⟨l, fuse, fu, h1, h2, h3, h4, h5⟩ => ⟨l, fuse, fu, 3, by decide, h1, h2, h3, h4, h5⟩)
theorem LpY.of {W w : World} {D M R room : Nat} {r1 : Int} (hr : r1 = (R : Int)) {B B2 L H G G2 : Nat} {l : List UInt8} {fuse : Nat} {fu : Int} {A : Option Addr} {c : Nat} {els : List El} {Ab : Option Addr} {cb : Nat} {xs : List Ee} {A2 : Option Addr} {c2 : Nat} {els2 : List El} {Ab2 : Option Addr} {cb2 : Nat} {xs2 : List Ee} {down : Bool} (h : LpS W w D M B B2 L H G G2 R room l fuse fu A c els Ab cb xs A2 c2 els2 Ab2 cb2 xs2 down) : LpY W w D M R room r1 (.pointer (some ⟨L, 0, none⟩)) (.int .i64 0) (.pointer (some ⟨H, 0, none⟩)) (.int .i64 0) :=
  (LpS.ex h rfl rfl).y hr
theorem LpY.no {W w : World} {D M R room : Nat} {r1 : Int} {l : List UInt8} {fuse : Nat} {fu f : Int} (hf : f ≠ 0) (h : DkS W w D M room l fuse fu) : LpY W w D M R room r1 (.pointer none) (.int .i64 f) (.pointer none) (.int .i64 f) :=
  .inr ⟨l, fuse, fu, f, hf, rfl, rfl, rfl, rfl, h⟩
theorem arr2 {w : World} {a : Array Value} (hn : a.size = 2) (h : Rd Tryz.prog w 22 a.toList) : ∃ r0 r1 : Int, a = #[.int .i64 r0, .int .i64 r1] := by
  have hc : Tryz.prog.cellsOf 3 = 1 := by kernel_rfl
  have hc2 : Tryz.prog.cellsOf 22 = 2 := by kernel_rfl
  obtain ⟨xs, h1, h2, _⟩ := Rd.array_ints Tryz.underlying22 Tryz.underlying3 hc hc2 h
  match xs, h2 with
  | [p, q], _ => exact ⟨p, q, by apply Array.toList_inj.1; rw [h1]; rfl⟩
/-- What the program's Open does. -/
def Op1 (w w' : World) (D R room : Nat) (l : List UInt8) (fuse : Nat) (fu r1 : Int) (pl pe : Value) : Prop :=
  ((r1 < 0 ∨ 65536 < r1) ∧ pl = .pointer none ∧ pe = .int .i64 1 ∧ w = w') ∨
  (r1 = (R : Int) ∧ (foldB [] (recS l).1).2 < (recS l).1.length ∧ pl = .pointer none ∧ pe = .int .i64 3 ∧ DiskAt w' D room (l.take (recS l).2) (decide (0 ≤ fu)) fuse ∧ Tch (fun g => g = D) w w') ∨
  (r1 = (R : Int) ∧ ¬ (foldB [] (recS l).1).2 < (recS l).1.length ∧ ∃ L G A c els Ab cb xs, pl = .pointer (some ⟨L, 0, none⟩) ∧ pe = .int .i64 0 ∧ els.map (·.1) = (recS l).1 ∧ xs.map (·.1) = (foldB [] (recS l).1).1 ∧ LgAt w' w.heap.size L G D ⟨R, kepB (foldB [] (recS l).1).1, room, l.take (recS l).2, decide (0 ≤ fu), fuse, false⟩ A c els Ab cb xs ∧ w.heap.size ≤ L ∧ w.heap.size ≤ G ∧ Tch (fun g => g = D) w w')
theorem Op1.tch {w w' : World} {D R room : Nat} {l : List UInt8} {fuse : Nat} {fu r1 : Int} {pl pe : Value} (h : Op1 w w' D R room l fuse fu r1 pl pe) : Tch (fun g => g = D) w w' := by
  rcases h with ⟨_, _, _, rfl⟩ | ⟨_, _, _, _, _, h⟩ | ⟨_, _, L, G, A, c, els, Ab, cb, xs, _, _, _, _, _, _, _, h⟩
  · exact Tch.refl _ _
  · exact h
  · exact h
theorem lopenY {W wo : World} {D M room : Nat} {l : List UInt8} {fuse : Nat} {fu : Int} (R : Nat) (r1 : Int) (hr1 : r1 = (R : Int) ∨ (r1 < 0 ∨ 65536 < r1)) (hR : R ≤ 65536) (hr : room ≤ 65536) (h : DkS W wo D M room l fuse fu) :
    Calls Tryz.prog 10 #[.pointer (some ⟨D, 0, none⟩), .int .i64 r1] wo fun e w' => ∃ pl pe, e = .returned (.tuple #[pl, pe]) ∧ Op1 wo w' D R room l fuse fu r1 pl pe := by
  have hlo : l.length ≤ 100000 := by have := h.lr; omega
  rcases hr1 with rfl | hbd
  · by_cases hfo : (foldB [] (recS l).1).2 < (recS l).1.length
    · refine (lopen_short R wo h.d hlo hR hfo).mono ?_
      rintro e w9 ⟨rfl, hd9, ht9⟩
      exact ⟨_, _, rfl, .inr (.inl ⟨rfl, hfo, rfl, rfl, hd9, ht9⟩)⟩
    · refine (lopen_any R wo h.d hlo hR (Nat.le_antisymm (foldB_le _ _) (Nat.not_lt.1 hfo))).mono ?_
      rintro e w9 ⟨L, G, A5, c5, els5, Ab5, cb5, xs5, rfl, he5, hx5, hl5, hL5, hG5, ht9⟩
      exact ⟨_, _, rfl, .inr (.inr ⟨rfl, hfo, L, G, A5, c5, els5, Ab5, cb5, xs5, rfl, rfl, he5, hx5, hl5, hL5, hG5, ht9⟩)⟩
  · refine (lopen_bad D r1 hbd wo).mono ?_
    rintro e w9 ⟨rfl, rfl⟩
    exact ⟨_, _, rfl, .inl ⟨hbd, rfl, rfl, rfl⟩⟩
theorem r21openY {W wo w9 : World} {D M R room : Nat} {l : List UInt8} {fuse : Nat} {fu r1 : Int} {pl pe : Value} (hop : Op1 wo w9 D R room l fuse fu r1 pl pe) (h : DkS W wo D M room l fuse fu) (hR : R ≤ 65536) (hr : room ≤ 65536) :
    Calls Tryz.prog 11 #[.pointer (some ⟨M, 0, none⟩), .int .i64 r1] w9 fun e w' => ∃ pw pf, e = .returned (.tuple #[pw, pf]) ∧ LpY W w' D M R room r1 pl pe pw pf ∧ Tch (fun g => g = M) w9 w' := by
  have hlo : l.length ≤ 100000 := by have := h.lr; omega
  have ht9 := hop.tch
  have hr9 : RkAt w9 M room l fu := ht9.block h.r h.ne.symm
  have hb9 := h.bel.trans (ht9.below W.heap.size (fun g hg _ => hg ▸ h.hD) h.bel.size)
  rcases hop with ⟨hbd, rfl, rfl, rfl⟩ | ⟨rfl, hfo, rfl, rfl, hd, ht⟩ | ⟨rfl, hfo, L, G, A, c, els, Ab, cb, xs, rfl, rfl, he, hx, hl, hL, hG, ht⟩
  · refine (r21open_bad _ r1 hbd wo).mono ?_
    rintro e w10 ⟨rfl, hb10⟩
    exact ⟨_, _, rfl, LpY.no (by decide) (h.below hb10), Tch.of_below hb10⟩
  · have hO := r21open_any R W w9 hr9 hlo hR hb9 h.hM
    refine hO.mono ?_
    intro e w10 hq
    unfold RloR at hq
    rw [if_pos hfo] at hq
    obtain ⟨rfl, hr10, ht10⟩ := hq
    exact ⟨_, _, rfl, LpY.no (by decide) (h.lshort hd ht hr10 ht10), ht10⟩
  · have hO := r21open_any R W w9 hr9 hlo hR hb9 h.hM
    refine hO.mono ?_
    intro e w10 hq
    unfold RloR at hq
    rw [if_neg hfo] at hq
    obtain ⟨H, G2, A6, c6, els6, Ab6, cb6, xs6, rfl, he6, hx6, hr6, hH6, hG6, ht10⟩ := hq
    exact ⟨_, _, rfl, LpY.of rfl (h.lopened he hx hl hL hG ht he6 hx6 hr6 hH6 hG6 ht10), ht10⟩
end Go.Proofs.YtkepfkfoblocgaaGreat
