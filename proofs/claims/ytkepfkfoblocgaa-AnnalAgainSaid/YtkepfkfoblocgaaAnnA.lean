/- annal: what an annal is; cloned, Len, Down, Free: contracts. -/
import Derived.Test.YtkepfkfoblocgaaDskH
import Derived.Test.YtkepfkfoblocgaaScnC
import Derived.Test.YtkepfkfoblocgaaStrL
import Derived.Test.YtkepfkfoblocgaaTch
namespace Go.Proofs.Ytkepfkfoblocgaa
open Go.RowKit
set_option linter.unusedVariables false
set_option linter.unusedSimpArgs false

theorem three_cellsA {w : World} {b t : Nat} {x y z : Value} (h : w.heap[b]? = some (.cells #[x, y, z] t (0, 0))) :
    (w.cell? ⟨b, 0, none⟩ = some x ∧ w.cell? ⟨b, 1, none⟩ = some y ∧ w.cell? ⟨b, 2, none⟩ = some z) ∧ (w.frozen? ⟨b, 0, none⟩ = false ∧ w.frozen? ⟨b, 1, none⟩ = false ∧ w.frozen? ⟨b, 2, none⟩ = false) :=
  ⟨⟨by rw [cell_of_row w b 0 _ t (0, 0) h]; rfl, by rw [cell_of_row w b 1 _ t (0, 0) h]; rfl, by rw [cell_of_row w b 2 _ t (0, 0) h]; rfl⟩, frozen_of_row w b 0 _ t h, frozen_of_row w b 1 _ t h, frozen_of_row w b 2 _ t h⟩
/-- Block G is an annal of the disk D. -/
def AnAt (w : World) (B G D room : Nat) (l : List UInt8) (armed : Bool) (fuse : Nat) (A : Option Addr) (c : Nat) (els : List El) (down : Bool) : Prop :=
  w.heap[G]? = some (.cells #[.pointer (some ⟨D, 0, none⟩), .slice A els.length c, .bool down] 140 (0, 0)) ∧ DiskAt w D room l armed fuse ∧ RowR w B (.slice A els.length c) els
theorem AnAt.below {w w' : World} {B G D room : Nat} {l : List UInt8} {armed : Bool} {fuse : Nat} {A : Option Addr} {c : Nat} {els : List El} {down : Bool} (h : AnAt w B G D room l armed fuse A c els down) (hb : Below w.heap.size w w') : AnAt w' B G D room l armed fuse A c els down :=
  ⟨keep0 h.1 hb, h.2.1.below hb, h.2.2.keep hb⟩

set_option maxRecDepth 20000 in
set_option maxHeartbeats 2000000 in
theorem acloned_any (x : Rc) (A : Option Addr) (c : Nat) (W : World) (hx : TxAt W A c x.ns) (hn : x.ns.length ≤ 100000) (hs : ∀ s ∈ x.ns, s.length ≤ 200) :
    Calls Try.prog 109 #[.agg (rcc x A c)] W fun e w' => ∃ A' c', e = .returned (.agg (rcc x A' c')) ∧ OwnS w' W.heap.size A' c' x.ns ∧ Below W.heap.size W w' := by
  obtain ⟨k, j, t, wk, s, ep, ns⟩ := x
  simp only [rcc] at *
  have HX := hid hx.1
  have HS := hid hs
  have HN := hid hn
  clear hx hn hs
  go_enter Try.func109, Try.ntmps109
  go_upto_region 1 with (fail)
  refine at_world (fun u => u.heap[W.heap.size]? = some (.cells #[.int .i64 k, .int .i64 j, .int .i64 t, .int .i64 wk, .int .i64 s, .int .i64 ep, .slice A ns.length c] 45 (0, 0)) ∧ u.heap[W.heap.size + 1]? = some (.cells #[.int .i64 0, .int .i64 0, .int .i64 0, .int .i64 0, .int .i64 0, .int .i64 0, .slice none 0 0] 45 (0, 0)) ∧ Below W.heap.size W u) ⟨heap_first _ _ _, heap_second _ _ _, below2 _ _ _⟩ ?_
  rintro w1 ⟨hx1, hz1, hb1⟩
  obtain ⟨p0, p1, p2, p3, p4, p5, p6⟩ := seven_cells hx1
  have HX1 := hid hx1
  have HZ1 := hid hz1
  have HB1 := hid hb1
  clear hx1 hz1 hb1
  go_wp2_with (at_builtin; refine wpList_append_sl (W := w1) rfl (.const (.slice none 0 0)) (.tmp 4) 43 rfl w1.heap.size 9 Try.underlying43 info_str rfl (by omega) rfl (World.ownsRow_nil _ _ _ _) rfl (HX.out.below HB1.out) (scells_one _) (by have := HN.out; unfold maxLen; omega) (by have := HN.out; omega) (Nat.le_refl _) (Below.refl _ _) ?_)
  intro v2 w2 ho2 hb2 _
  try simp only [Nat.zero_add, List.nil_append] at ho2
  obtain ⟨A2, c2, rfl, _⟩ := Sl.of_own ho2
  have hx2 := keep0 HX1.out hb2
  have HZ2 := hid (keep0 HZ1.out hb2)
  have hlt := lt_of_block HZ1.out
  have HB2 := hid (HB1.out.trans (hb2.mono HB1.out.size))
  have HO3 := hid (((Tch.refl (fun g => g = W.heap.size) w2).set W.heap.size 6 (.slice A2 ns.length c2) (fun _ => rfl)).own ho2 (fun g hg => own_apart_blk ho2 hx2 (by decide) g hg))
  have HX3 : Hid ((w2.setCell ⟨W.heap.size, 6, none⟩ (.slice A2 ns.length c2)).heap[W.heap.size]? = some (.cells #[.int .i64 k, .int .i64 j, .int .i64 t, .int .i64 wk, .int .i64 s, .int .i64 ep, .slice A2 ns.length c2] 45 (0, 0))) := hid (by rw [heap_setCell_same w2 W.heap.size 6 _ _ (.slice A2 ns.length c2) hx2]; rfl)
  have HZ3 := hid ((Below.heap_setCell w2 ⟨W.heap.size, 6, none⟩ (.slice A2 ns.length c2) (W.heap.size + 1) (by show W.heap.size + 1 ≠ W.heap.size; omega)).trans HZ2.out)
  have HB3 := hid (HB2.out.setCell (p := ⟨W.heap.size, 6, none⟩) (Nat.le_refl _) (.slice A2 ns.length c2))
  obtain ⟨g0, g1, g2, g3, g4, g5, g6⟩ := seven_frz hx2
  clear p0 p1 p2 p3 p4 p5 p6
  obtain ⟨p0, p1, p2, p3, p4, p5, p6⟩ := seven_cells hx2
  clear ho2 hb2 hx2 HX1 HZ1 HB1 HZ2 HB2 HX HN
  go_upto_region 2 with (fail)
  refine at_world (fun u => u.heap[W.heap.size]? = some (.cells #[.int .i64 k, .int .i64 j, .int .i64 t, .int .i64 wk, .int .i64 s, .int .i64 ep, .slice A2 ns.length c2] 45 (0, 0)) ∧ u.heap[W.heap.size + 1]? = some (.cells #[.int .i64 0, .int .i64 0, .int .i64 0, .int .i64 0, .int .i64 0, .int .i64 0, .slice none 0 0] 45 (0, 0)) ∧ u.ownsRow w1.heap.size 9 1 (.slice A2 ns.length c2) ns.length (scells ns) ∧ Below W.heap.size W u) ⟨HX3.out, HZ3.out, HO3.out, HB3.out⟩ ?_
  clear p0 p1 p2 p3 p4 p5 p6 g0 g1 g2 g3 g4 g5 g6 HX3 HZ3 HO3 HB3
  rintro w3 ⟨hx3, hz3, ho3, hb3⟩
  obtain ⟨p0, p1, p2, p3, p4, p5, p6⟩ := seven_cells hx3
  obtain ⟨g0, g1, g2, g3, g4, g5, g6⟩ := seven_frz hz3
  obtain ⟨q0, q1, q2, q3, q4, q5, q6⟩ := seven_cells hz3
  have HB4 := hid (put7_below hb3 (show W.heap.size ≤ W.heap.size + 1 by omega) (.int .i64 k) (.int .i64 j) (.int .i64 t) (.int .i64 wk) (.int .i64 s) (.int .i64 ep) (.slice A2 ns.length c2))
  have HO4 := hid (own_mono (put7_own ho3 hlt (.int .i64 k) (.int .i64 j) (.int .i64 t) (.int .i64 wk) (.int .i64 s) (.int .i64 ep) (.slice A2 ns.length c2)) (show W.heap.size ≤ w1.heap.size by omega))
  obtain ⟨r0, r1, r2, r3, r4, r5, r6⟩ := seven_cells (put7_heap hz3 (.int .i64 k) (.int .i64 j) (.int .i64 t) (.int .i64 wk) (.int .i64 s) (.int .i64 ep) (.slice A2 ns.length c2))
  simp only [put7] at HB4 HO4 r0 r1 r2 r3 r4 r5 r6
  clear hx3 hz3 ho3 hb3
  go_wp2
  exact bodyPost_ret (v := .agg #[.int .i64 k, .int .i64 j, .int .i64 t, .int .i64 wk, .int .i64 s, .int .i64 ep, .slice A2 ns.length c2]) (by simp [results, Try.results109, go_sem, r0, r1, r2, r3, r4, r5, r6]) rfl ⟨A2, c2, rfl, ⟨HO4.out, HS.out⟩, HB4.out⟩

theorem alen_any {B G D room : Nat} {l : List UInt8} {armed : Bool} {fuse : Nat} {A : Option Addr} {c : Nat} {els : List El} {down : Bool} (W : World) (h : AnAt W B G D room l armed fuse A c els down) : Calls Try.prog 55 #[.pointer (some ⟨G, 0, none⟩)] W fun e w' => e = .returned (.int .i64 (els.length : Int)) ∧ W = w' := by
  obtain ⟨⟨p0, p1, p2⟩, _⟩ := three_cellsA h.1
  clear h
  go_enter Try.func55, Try.ntmps55
  go_wp2
  go_ret
  exact ⟨rfl, rfl⟩
theorem adown_any {B G D room : Nat} {l : List UInt8} {armed : Bool} {fuse : Nat} {A : Option Addr} {c : Nat} {els : List El} {down : Bool} (W : World) (h : AnAt W B G D room l armed fuse A c els down) : Calls Try.prog 56 #[.pointer (some ⟨G, 0, none⟩)] W fun e w' => e = .returned (.bool down) ∧ W = w' := by
  obtain ⟨⟨p0, p1, p2⟩, _⟩ := three_cellsA h.1
  clear h
  go_enter Try.func56, Try.ntmps56
  go_wp2
  go_ret
  exact ⟨rfl, rfl⟩
theorem alen0 (W : World) : Calls Try.prog 55 #[.pointer none] W fun e w' => e = .returned (.int .i64 0) ∧ W = w' := by
  go_enter Try.func55, Try.ntmps55
  go_wp2
  go_ret
  exact ⟨rfl, rfl⟩
theorem adown0 (W : World) : Calls Try.prog 56 #[.pointer none] W fun e w' => e = .returned (.bool true) ∧ W = w' := by
  go_enter Try.func56, Try.ntmps56
  go_wp2
  go_ret
  exact ⟨rfl, rfl⟩
end Go.Proofs.Ytkepfkfoblocgaa
