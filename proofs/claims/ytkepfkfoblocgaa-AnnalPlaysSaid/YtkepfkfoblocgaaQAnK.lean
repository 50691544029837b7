/- annal: Free, calls without an annal: contracts. A block of ten cells. -/
import Derived.Test.YtkepfkfoblocgaaQAnI
namespace Go.Proofs.Ytkepfkfoblocgaa
open Go.RowKit Go.Sort
set_option linter.unusedVariables false
set_option linter.unusedSimpArgs false

theorem ten_cells {w : World} {b t : Nat} {x0 x1 x2 x3 x4 x5 x6 x7 x8 x9 : Value} (h : w.heap[b]? = some (.cells #[x0, x1, x2, x3, x4, x5, x6, x7, x8, x9] t (0, 0))) :
    w.cell? ⟨b, 0, none⟩ = some x0 ∧ w.cell? ⟨b, 1, none⟩ = some x1 ∧ w.cell? ⟨b, 2, none⟩ = some x2 ∧ w.cell? ⟨b, 3, none⟩ = some x3 ∧ w.cell? ⟨b, 4, none⟩ = some x4 ∧ w.cell? ⟨b, 5, none⟩ = some x5 ∧ w.cell? ⟨b, 6, none⟩ = some x6 ∧ w.cell? ⟨b, 7, none⟩ = some x7 ∧ w.cell? ⟨b, 8, none⟩ = some x8 ∧ w.cell? ⟨b, 9, none⟩ = some x9 :=
  ⟨by rw [cell_of_row w b 0 _ _ _ h]; rfl, by rw [cell_of_row w b 1 _ _ _ h]; rfl, by rw [cell_of_row w b 2 _ _ _ h]; rfl, by rw [cell_of_row w b 3 _ _ _ h]; rfl, by rw [cell_of_row w b 4 _ _ _ h]; rfl, by rw [cell_of_row w b 5 _ _ _ h]; rfl, by rw [cell_of_row w b 6 _ _ _ h]; rfl, by rw [cell_of_row w b 7 _ _ _ h]; rfl, by rw [cell_of_row w b 8 _ _ _ h]; rfl, by rw [cell_of_row w b 9 _ _ _ h]; rfl⟩
theorem afree_any {B G D room : Nat} {l : List UInt8} {armed : Bool} {fuse : Nat} {A : Option Addr} {c : Nat} {els : List El} {down : Bool} (W : World) (h : AnAt W B G D room l armed fuse A c els down) (hr : room ≤ 65536) (hl : l.length ≤ room) : Calls Try.prog 57 #[.pointer (some ⟨G, 0, none⟩)] W fun e w' => e = .returned (.int .i64 ((room : Int) - (l.length : Int))) ∧ Below W.heap.size W w' := by
  obtain ⟨⟨p0, p1, p2⟩, _⟩ := three_cellsA h.1
  have HF := hid (dfree_any D room l armed fuse W h.2.1 hr hl)
  clear h
  go_enter Try.func57, Try.ntmps57
  go_wp2_with fail
  refine HF.out.mono ?_
  rintro e w2 ⟨rfl, q, rfl⟩
  go_wp2
  go_ret
  exact ⟨rfl, below_drewN0 _ _⟩
theorem afree0 (W : World) : Calls Try.prog 57 #[.pointer none] W fun e w' => e = .returned (.int .i64 0) ∧ W = w' := by
  go_enter Try.func57, Try.ntmps57
  go_wp2
  go_ret
  exact ⟨rfl, rfl⟩
theorem arecords0 (W : World) : Calls Try.prog 54 #[.pointer none] W fun e w' => e = .returned (.slice none 0 0) ∧ W = w' := by
  go_enter Try.func54, Try.ntmps54
  go_wp2
  go_ret
  exact ⟨rfl, rfl⟩
theorem aopen0 (W : World) : Calls Try.prog 50 #[.pointer none] W fun e w' => e = .returned (.pointer none) ∧ W = w' := by
  go_enter Try.func50, Try.ntmps50
  go_wp2
  go_ret
  exact ⟨rfl, rfl⟩
theorem aappend0 (W : World) : Calls Try.prog 52 #[.pointer none, .agg #[.int .i64 3, .int .i64 1, .int .i64 0, .int .i64 0, .int .i64 0, .int .i64 0, .slice none 0 0]] W fun e w' => e = .returned (.int .i64 1) ∧ Below W.heap.size W w' := by
  go_enter Try.func52, Try.ntmps52
  go_upto_region 1 with (fail)
  refine at_world (fun u => Below W.heap.size W u) ((Below.refl _ _).alloc (Nat.le_refl _) _) ?_
  rintro w1 hb1
  have HB1 := hid hb1
  clear hb1
  go_wp2
  go_ret
  exact ⟨rfl, HB1.out⟩
/-- What the two pointers lead to. -/
def AnX (W w : World) (D M room : Nat) (pa pw : Value) : Prop :=
  ∃ B B2 G G2 l fuse fu A c els A2 c2 els2 down, pa = .pointer (some ⟨G, 0, none⟩) ∧ pw = .pointer (some ⟨G2, 0, none⟩) ∧ AnS W w D M B B2 G G2 room l fuse fu A c els A2 c2 els2 down
theorem AnX.mk {W w : World} {D M B B2 G G2 room : Nat} {l : List UInt8} {fuse : Nat} {fu : Int} {A : Option Addr} {c : Nat} {els : List El} {A2 : Option Addr} {c2 : Nat} {els2 : List El} {down : Bool} (h : AnS W w D M B B2 G G2 room l fuse fu A c els A2 c2 els2 down) : AnX W w D M room (.pointer (some ⟨G, 0, none⟩)) (.pointer (some ⟨G2, 0, none⟩)) := ⟨B, B2, G, G2, l, fuse, fu, A, c, els, A2, c2, els2, down, rfl, rfl, h⟩
theorem nsX {els : List El} {L : List Rc} (h : els.map (·.1) = L) (hL : ∀ x ∈ L, x.ns.length ≤ 100000) : ∀ e ∈ els, e.1.ns.length ≤ 100000 := fun e he => hL e.1 (by rw [← h]; exact List.mem_map_of_mem he)
theorem ns_own {w : World} {B : Nat} {v : Value} {els : List El} (h : RowR w B v els) : ∀ e ∈ els, e.1.ns.length ≤ 9223372036854775807 := fun e he => by
  have := (sl_own (h.2 e he).1)
  have h1 := this.2.1
  have h2 := this.2.2.1
  unfold maxLen at h2
  omega
end Go.Proofs.Ytkepfkfoblocgaa
