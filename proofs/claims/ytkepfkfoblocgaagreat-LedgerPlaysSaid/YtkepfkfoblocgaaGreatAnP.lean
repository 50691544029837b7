/- annal: what an annal is; cloned, Len, Down, Free: contracts. -/
import Derived.Test.YtkepfkfoblocgaaGreatDkP
import Derived.Test.YtkepfkfoblocgaaGreatScP
import Derived.Test.YtkepfkfoblocgaaGreatQStrL
import Derived.Test.YtkepfkfoblocgaaGreatGaP
import Derived.Deep.RegionHeld3
namespace Go.Proofs.YtkepfkfoblocgaaGreat
open Go.RowKit
set_option linter.unusedVariables false
set_option linter.unusedSimpArgs false

theorem three_cellsA {w : World} {b t : Nat} {x y z : Value} (h : w.heap[b]? = some (.cells #[x, y, z] t (0, 0))) :
    (w.cell? ⟨b, 0, none⟩ = some x ∧ w.cell? ⟨b, 1, none⟩ = some y ∧ w.cell? ⟨b, 2, none⟩ = some z) ∧ (w.frozen? ⟨b, 0, none⟩ = false ∧ w.frozen? ⟨b, 1, none⟩ = false ∧ w.frozen? ⟨b, 2, none⟩ = false) :=
  ⟨⟨by rw [cell_of_row w b 0 _ t (0, 0) h]; rfl, by rw [cell_of_row w b 1 _ t (0, 0) h]; rfl, by rw [cell_of_row w b 2 _ t (0, 0) h]; rfl⟩, frozen_of_row w b 0 _ t h, frozen_of_row w b 1 _ t h, frozen_of_row w b 2 _ t h⟩
/-- Block G is an annal of the disk D. -/
def AnAt (w : World) (B G D room : Nat) (l : List UInt8) (armed : Bool) (fuse : Nat) (A : Option Addr) (c : Nat) (els : List El) (down : Bool) : Prop :=
  w.heap[G]? = some (.cells #[.pointer (some ⟨D, 0, none⟩), .slice A els.length c, .bool down] 94 (0, 0)) ∧ DiskAt w D room l armed fuse ∧ RowR w B (.slice A els.length c) els
theorem AnAt.below {w w' : World} {B G D room : Nat} {l : List UInt8} {armed : Bool} {fuse : Nat} {A : Option Addr} {c : Nat} {els : List El} {down : Bool} (h : AnAt w B G D room l armed fuse A c els down) (hb : Below w.heap.size w w') : AnAt w' B G D room l armed fuse A c els down :=
  ⟨keep0 h.1 hb, h.2.1.below hb, h.2.2.keep hb⟩

set_option maxRecDepth 20000 in
set_option maxHeartbeats 2000000 in
theorem acloned_any (x : Rc) (A : Option Addr) (c : Nat) (W : World) (hx : TxAt W A c x.ns) (hn : x.ns.length ≤ 100000) (hs : ∀ s ∈ x.ns, s.length ≤ 200) :
    Calls Tryz.prog 51 #[.agg (rcc x A c)] W fun e w' => ∃ A' c', e = .returned (.agg (rcc x A' c')) ∧ OwnS w' W.heap.size A' c' x.ns ∧ Below W.heap.size W w' := by
  obtain ⟨k, j, t, wk, s, ep, ns⟩ := x
  simp only [rcc] at *
  have HX := hid hx.1
  have HS := hid hs
  have HN := hid hn
  clear hx hn hs
  go_enter Tryz.func51, Tryz.ntmps51
  go_upto_region 1 with (fail)
  refine at_world (fun u => u.heap[W.heap.size]? = some (.cells #[.int .i64 k, .int .i64 j, .int .i64 t, .int .i64 wk, .int .i64 s, .int .i64 ep, .slice A ns.length c] 46 (0, 0)) ∧ u.heap[W.heap.size + 1]? = some (.cells #[.int .i64 0, .int .i64 0, .int .i64 0, .int .i64 0, .int .i64 0, .int .i64 0, .slice none 0 0] 46 (0, 0)) ∧ Below W.heap.size W u) ⟨heap_first _ _ _, heap_second _ _ _, below2 _ _ _⟩ ?_
  rintro w1 ⟨hx1, hz1, hb1⟩
  obtain ⟨p0, p1, p2, p3, p4, p5, p6⟩ := seven_cells hx1
  have HX1 := hid hx1
  have HZ1 := hid hz1
  have HB1 := hid hb1
  clear hx1 hz1 hb1
  go_wp2_with (at_builtin; refine wpList_append_sl (W := w1) rfl (.const (.slice none 0 0)) (.tmp 4) 44 rfl w1.heap.size 9 Tryz.underlying44 info_str rfl (by omega) rfl (World.ownsRow_nil _ _ _ _) rfl (HX.out.below HB1.out) (scells_one _) (by have := HN.out; unfold maxLen; omega) (by have := HN.out; omega) (Nat.le_refl _) (Below.refl _ _) ?_)
  intro v2 w2 ho2 hb2 _
  try simp only [Nat.zero_add, List.nil_append] at ho2
  obtain ⟨A2, c2, rfl, _⟩ := Sl.of_own ho2
  have hx2 := keep0 HX1.out hb2
  have HZ2 := hid (keep0 HZ1.out hb2)
  have hlt := lt_of_block HZ1.out
  have HB2 := hid (HB1.out.trans (hb2.mono HB1.out.size))
  have HO3 := hid (((Tch.refl (fun g => g = W.heap.size) w2).set W.heap.size 6 (.slice A2 ns.length c2) (fun _ => rfl)).own ho2 (fun g hg => own_apart_blk ho2 hx2 (by decide) g hg))
  have HX3 : Hid ((w2.setCell ⟨W.heap.size, 6, none⟩ (.slice A2 ns.length c2)).heap[W.heap.size]? = some (.cells #[.int .i64 k, .int .i64 j, .int .i64 t, .int .i64 wk, .int .i64 s, .int .i64 ep, .slice A2 ns.length c2] 46 (0, 0))) := hid (by rw [heap_setCell_same w2 W.heap.size 6 _ _ (.slice A2 ns.length c2) hx2]; rfl)
  have HZ3 := hid ((Below.heap_setCell w2 ⟨W.heap.size, 6, none⟩ (.slice A2 ns.length c2) (W.heap.size + 1) (by show W.heap.size + 1 ≠ W.heap.size; omega)).trans HZ2.out)
  have HB3 := hid (HB2.out.setCell (p := ⟨W.heap.size, 6, none⟩) (Nat.le_refl _) (.slice A2 ns.length c2))
  obtain ⟨g0, g1, g2, g3, g4, g5, g6⟩ := seven_frz hx2
  clear p0 p1 p2 p3 p4 p5 p6
  obtain ⟨p0, p1, p2, p3, p4, p5, p6⟩ := seven_cells hx2
  clear ho2 hb2 hx2 HX1 HZ1 HB1 HZ2 HB2 HX HN
  go_upto_region 2 with (fail)
  refine at_world (fun u => u.heap[W.heap.size]? = some (.cells #[.int .i64 k, .int .i64 j, .int .i64 t, .int .i64 wk, .int .i64 s, .int .i64 ep, .slice A2 ns.length c2] 46 (0, 0)) ∧ u.heap[W.heap.size + 1]? = some (.cells #[.int .i64 0, .int .i64 0, .int .i64 0, .int .i64 0, .int .i64 0, .int .i64 0, .slice none 0 0] 46 (0, 0)) ∧ u.ownsRow w1.heap.size 9 1 (.slice A2 ns.length c2) ns.length (scells ns) ∧ Below W.heap.size W u) ⟨HX3.out, HZ3.out, HO3.out, HB3.out⟩ ?_
  clear p0 p1 p2 p3 p4 p5 p6 g0 g1 g2 g3 g4 g5 g6 HX3 HZ3 HO3 HB3
  rintro w3 ⟨hx3, hz3, ho3, hb3⟩
  obtain ⟨p0, p1, p2, p3, p4, p5, p6⟩ := seven_cells hx3
  obtain ⟨g0, g1, g2, g3, g4, g5, g6⟩ := seven_frz hz3
  obtain ⟨q0, q1, q2, q3, q4, q5, q6⟩ := seven_cells hz3
  have HB4 := hid (put7_below hb3 (show W.heap.size ≤ W.heap.size + 1 by omega) (.int .i64 k) (.int .i64 j) (.int .i64 t) (.int .i64 wk) (.int .i64 s) (.int .i64 ep) (.slice A2 ns.length c2))
  have HO4 := hid (own_mono (put7_own ho3 hlt (.int .i64 k) (.int .i64 j) (.int .i64 t) (.int .i64 wk) (.int .i64 s) (.int .i64 ep) (.slice A2 ns.length c2)) (show W.heap.size ≤ w1.heap.size by omega))
  obtain ⟨r0, r1, r2, r3, r4, r5, r6⟩ := seven_cells (put7_heap hz3 (.int .i64 k) (.int .i64 j) (.int .i64 t) (.int .i64 wk) (.int .i64 s) (.int .i64 ep) (.slice A2 ns.length c2))
  simp only [put7] at HB4 HO4 r0 r1 r2 r3 r4 r5 r6
  clear hx3 hz3 ho3 hb3
  go_wp2
  exact bodyPost_ret (v := .agg #[.int .i64 k, .int .i64 j, .int .i64 t, .int .i64 wk, .int .i64 s, .int .i64 ep, .slice A2 ns.length c2]) (by simp [results, Tryz.results51, go_sem, r0, r1, r2, r3, r4, r5, r6]) rfl ⟨A2, c2, rfl, ⟨HO4.out, HS.out⟩, HB4.out⟩

theorem alen_any {B G D room : Nat} {l : List UInt8} {armed : Bool} {fuse : Nat} {A : Option Addr} {c : Nat} {els : List El} {down : Bool} (W : World) (h : AnAt W B G D room l armed fuse A c els down) : Calls Tryz.prog 31 #[.pointer (some ⟨G, 0, none⟩)] W fun e w' => e = .returned (.int .i64 (els.length : Int)) ∧ W = w' := by
  obtain ⟨⟨p0, p1, p2⟩, _⟩ := three_cellsA h.1
  clear h
  go_enter Tryz.func31, Tryz.ntmps31
  go_wp2
  go_ret
  exact ⟨rfl, rfl⟩
theorem adown_any {B G D room : Nat} {l : List UInt8} {armed : Bool} {fuse : Nat} {A : Option Addr} {c : Nat} {els : List El} {down : Bool} (W : World) (h : AnAt W B G D room l armed fuse A c els down) : Calls Tryz.prog 35 #[.pointer (some ⟨G, 0, none⟩)] W fun e w' => e = .returned (.bool down) ∧ W = w' := by
  obtain ⟨⟨p0, p1, p2⟩, _⟩ := three_cellsA h.1
  clear h
  go_enter Tryz.func35, Tryz.ntmps35
  go_wp2
  go_ret
  exact ⟨rfl, rfl⟩
end Go.Proofs.YtkepfkfoblocgaaGreat

namespace Go.Proofs.YtkepfkfoblocgaaGreat
open Go.RowKit
set_option linter.unusedVariables false
set_option linter.unusedSimpArgs false

set_option maxRecDepth 20000 in
set_option maxHeartbeats 2000000 in
theorem arecords_any {B G D room : Nat} {l : List UInt8} {armed : Bool} {fuse : Nat} {A : Option Addr} {c : Nat} {els : List El} {down : Bool} (W : World) (h : AnAt W B G D room l armed fuse A c els down) (hn : els.length ≤ 100000) (hk : ∀ e ∈ els, e.1.ns.length ≤ 100000) :
    Calls Tryz.prog 30 #[.pointer (some ⟨G, 0, none⟩)] W fun e w' => ∃ A' c' els', e = .returned (.slice A' els'.length c') ∧ els'.map (·.1) = els.map (·.1) ∧ RowR w' W.heap.size (.slice A' els'.length c') els' ∧ Below W.heap.size W w' := by
  obtain ⟨⟨p0, p1, p2⟩, _⟩ := three_cellsA h.1
  have HR := hid h.2.2
  have HK := hid hk
  have hll : els.length ≤ 9223372036854775807 := by omega
  clear h hk
  go_enter Tryz.func30, Tryz.ntmps30
  go_wp2
  go_loopw [3, 5, 13] (fun v _ i wr => ∃ (k : Nat) (A' : Option Addr) (c' : Nat) (els' : List El), k ≤ els.length ∧ i = .int .i64 (k : Int) ∧ v = .slice A' k c' ∧ Hid (els'.map (·.1) = (els.take k).map (·.1)) ∧ Hid (RowR wr W.heap.size (.slice A' k c') els') ∧ Hid (Below W.heap.size W wr)) (fun _ _ i _ => els.length - (intOf i).toNat)
  case atStart => exact ⟨0, none, 0, [], by omega, rfl, rfl, rfl, RowR.nil _ _, Below.refl _ _⟩
  case round =>
    obtain ⟨n, A', c', els', hnl, rfl, rfl, HE, HO, HB⟩ := hrel
    have hel : els'.length = n := by
      have h1 := congrArg List.length HE.out
      rw [List.length_map, List.length_map, List.length_take, Nat.min_eq_left hnl] at h1
      exact h1
    have HEL := hid hel
    clear hel
    by_cases hlt : n < els.length
    · have hlt2 : (n : Int) < (els.length : Int) := by omega
      have hsl := (sl_own HR.out.1).below HB.out
      obtain ⟨b, off, rfl, _⟩ := hsl.2.2.2 (by rw [ecells_length]; omega)
      obtain ⟨q0, q1, q2, q3, q4, q5, q6⟩ := Sl.el hsl n hlt
      have ht := HR.out.2 els[n] (List.getElem_mem hlt)
      have hkn := HK.out els[n] (List.getElem_mem hlt)
      have HTK : Hid ((els.take (n + 1)).map (·.1) = (els.take n).map (·.1) ++ [els[n].1]) := hid (by rw [List.take_succ_eq_append_getElem hlt, List.map_append, List.map_cons, List.map_nil])
      generalize els[n]'hlt = ee at *
      obtain ⟨x, Ae, ce⟩ := ee
      simp only at q0 q1 q2 q3 q4 q5 q6 ht HTK hkn
      have HC := hid (fun w (hw : Below W.heap.size W w) => acloned_any x Ae ce w ((ht.keep hw).tx) hkn ht.2)
      clear hsl ht hkn
      generalize hl9 : els.length = el at *
      obtain ⟨k, j, t, wk, s, ep, ns⟩ := x
      simp only [rcc] at HC q0 q1 q2 q3 q4 q5 q6
      generalize hmm : ns.length = m at *
      have HM := hid hmm
      clear hmm
      go_upto_region 7 with (fail)
      refine at_world (fun u => u.heap[wr.heap.size]? = some (.cells #[.int .i64 k, .int .i64 j, .int .i64 t, .int .i64 wk, .int .i64 s, .int .i64 ep, .slice Ae m ce] 46 (0, 0)) ∧ Below wr.heap.size wr u) ⟨heap_alloc_new _ _, (Below.refl _ _).alloc (Nat.le_refl _) _⟩ ?_
      clear q0 q1 q2 q3 q4 q5 q6
      rintro u1 ⟨hx1, hb1⟩
      obtain ⟨p0, p1, p2, p3, p4, p5, p6⟩ := seven_cells hx1
      have HB1 := hid (HB.out.trans (hb1.mono HB.out.size))
      have HO1 := hid (HO.out.keep hb1)
      clear hx1 hb1 HB HO
      generalize wr.heap.size = N at *
      go_wp2_with fail
      refine (HC.out _ HB1.out).mono ?_
      rintro q u2 ⟨A2, c2, rfl, hs2, hb2⟩
      have HS2 := hid (hs2.mono HB1.out.size)
      have HB2 := hid (HB1.out.trans (hb2.mono HB1.out.size))
      have HO2 := hid (HO1.out.keep hb2)
      clear hs2 hb2 HB1 HO1 p0 p1 p2 p3 p4 p5 p6 HC
      go_wp2_with (at_builtin; refine wpList_append_1k (W := W) rfl (.tmp 17) (.tmp 20) 67 rfl W.heap.size 46 Tryz.underlying67 info_rec rfl (by omega) rfl HO2.out.1 rfl (by rfl) (by simp [Value.oneCell']) ?c1 ?c2 HB2.out.size HB2.out ?_)
      case c1 => have := HEL.out; unfold maxLen; omega
      case c2 => have := HEL.out; omega
      · intro v' w6 h2 h3 h4 h5
        have HO6 : Hid (RowR w6 W.heap.size v' (els' ++ [(Rc.mk k j t wk s ep ns, A2, c2)])) := hid (HO2.out.push HS2.out (by simpa [rcc, HM.out] using h2) h5)
        have HB6 := hid h3
        obtain ⟨A6, c6, rfl, _⟩ := Sl.of_own HO6.out.1
        clear h2 h3 h4 h5
        have HL6 : Hid ((els' ++ [(Rc.mk k j t wk s ep ns, A2, c2)]).length = n + 1) := hid (by rw [List.length_append, HEL.out]; rfl)
        rw [HL6.out] at HO6
        go_wp2
        go_roundw
        case rel => exact ⟨n + 1, A6, c6, els' ++ [(Rc.mk k j t wk s ep ns, A2, c2)], by omega, by go_num, by rw [HL6.out], by rw [Hid, List.map_append, HE.out, HTK.out]; rfl, HO6, HB6.out⟩
        case measure => simp [intOf]; omega
    · have hge : ¬ (n : Int) < (els.length : Int) := by omega
      have HT : Hid (els'.map (·.1) = els.map (·.1)) := hid (by rw [HE.out, List.take_of_length_le (by omega)])
      clear HE
      go_wp2
      go_ret
      refine ⟨A', c', els', ?_, HT.out, ?_, HB.out⟩
      · rw [HEL.out]; rfl
      · rw [HEL.out]; exact HO.out
theorem RowR.apart {w w' : World} {B b t : Nat} {v : Value} {els : List El} {cs : Array Value} {fr : Nat × Nat} (h : RowR w B v els) (hb : w.heap[b]? = some (.cells cs t fr)) (h1 : 46 ≠ t) (h2 : 9 ≠ t) (ht : Tch (fun g => g = b) w w') : RowR w' B v els :=
  ⟨ht.own h.1 fun g hg => own_apart_blk h.1 hb h1 g hg, fun e he => ⟨ht.own (h.2 e he).1 fun g hg => own_apart_blk (h.2 e he).1 hb h2 g hg, (h.2 e he).2⟩⟩
theorem tch_set (w : World) (b i : Nat) (v : Value) : Tch (fun g => g = b) w (w.setCell ⟨b, i, none⟩ v) := (Tch.refl _ _).set b i v fun _ => rfl
theorem DiskAt.apart {w w' : World} {D room b t : Nat} {l : List UInt8} {armed : Bool} {fuse : Nat} {cs : Array Value} {fr : Nat × Nat} (h : DiskAt w D room l armed fuse) (hb : w.heap[b]? = some (.cells cs t fr)) (h1 : t ≠ 5) (h2 : D ≠ b) (ht : Tch (fun g => g = b) w w') : DiskAt w' D room l armed fuse :=
  h.tch ht h2 fun g hg cs' h9 => by
    subst hg
    rw [hb] at h9
    injection h9 with h9
    injection h9 with _ h8
    exact h1 h8
theorem cutL_rec (l : List UInt8) : cutL l ((recS l).2 : Nat) = l.take (recS l).2 := by
  have h := (recS_le l.length l (Nat.le_refl _)).1
  unfold cutL
  rw [if_neg (by omega), Int.toNat_natCast]

set_option maxRecDepth 20000 in
set_option maxHeartbeats 2000000 in
theorem aopen_any {D room : Nat} {l : List UInt8} {armed : Bool} {fuse : Nat} (W : World) (h : DiskAt W D room l armed fuse) (hl : l.length ≤ 100000) :
    Calls Tryz.prog 28 #[.pointer (some ⟨D, 0, none⟩)] W fun e w' => ∃ A c els, e = .returned (.pointer (some ⟨W.heap.size, 0, none⟩)) ∧ els.map (·.1) = (recS l).1 ∧ AnAt w' W.heap.size W.heap.size D room (l.take (recS l).2) armed fuse A c els false ∧ Only D W w' := by
  have HD0 := hid h
  have hDl := h.lt
  clear h
  go_enter Tryz.func28, Tryz.ntmps28
  go_upto_region 4 with (fail)
  have hb0 : Below W.heap.size W (W.alloc (.cells #[.pointer (some ⟨D, 0, none⟩), .slice none 0 0, .bool false] 94)) := (Below.refl _ _).alloc (Nat.le_refl _) _
  refine at_world (fun u => u.heap[W.heap.size]? = some (.cells #[.pointer (some ⟨D, 0, none⟩), .slice none 0 0, .bool false] 94 (0, 0)) ∧ Below W.heap.size W u) ⟨heap_alloc_new _ _, hb0⟩ ?_
  clear hb0
  rintro w1 ⟨hx1, hb1⟩
  obtain ⟨⟨p0, p1, p2⟩, _⟩ := three_cellsA hx1
  have HX1 := hid hx1
  have HB1 := hid hb1
  have HD1 := hid (HD0.out.below hb1)
  clear hx1 hb1
  go_wp2_with fail
  refine (dbytes_any D room l armed fuse w1 HD1.out hl).mono ?_
  rintro e w2 ⟨A1, c1, rfl, hby, hb2⟩
  have HX2 := hid (keep0 HX1.out hb2)
  have HB2 := hid (HB1.out.trans (hb2.mono HB1.out.size))
  have HD2 := hid (HD1.out.below hb2)
  have HR := hid (records_any A1 l.length c1 l w2 hby hl)
  clear hby hb2 HX1 HB1 HD1 p0 p1 p2
  go_wp2_with fail
  refine HR.out.mono ?_
  rintro e w3 ⟨v3, els, rfl, he3, hr3, hb3⟩
  obtain ⟨A3, c3, rfl, _⟩ := Sl.of_own hr3.1
  have HX3 := hid (keep0 HX2.out hb3)
  have HB3 := hid (HB2.out.trans (hb3.mono HB2.out.size))
  have HD3 := hid (HD2.out.below hb3)
  have HE := hid he3
  have HR3 := hid hr3
  have hszw : W.heap.size ≤ w2.heap.size := HB2.out.size
  clear HR HX2 HB2 HD2 he3 hr3 hb3
  obtain ⟨⟨p0, p1, p2⟩, g0, g1, g2⟩ := three_cellsA HX3.out
  have HX4 : Hid ((w3.setCell ⟨W.heap.size, 1, none⟩ (.slice A3 els.length c3)).heap[W.heap.size]? = some (.cells #[.pointer (some ⟨D, 0, none⟩), .slice A3 els.length c3, .bool false] 94 (0, 0))) := hid (by rw [heap_setCell_same w3 W.heap.size 1 _ _ (.slice A3 els.length c3) HX3.out]; rfl)
  have HT := tch_set w3 W.heap.size 1 (.slice A3 els.length c3)
  have HD4 := hid (HD3.out.apart HX3.out (by decide) (by omega) HT)
  have HR4 := hid (HR3.out.apart HX3.out (by decide) (by decide) HT)
  have HB4 := hid (HB3.out.setCell (p := ⟨W.heap.size, 1, none⟩) (Nat.le_refl _) (.slice A3 els.length c3))
  clear HX3 HD3 HR3 HB3 HT
  go_upto_region 6 with (fail)
  refine at_world (fun u => u.heap[W.heap.size]? = some (.cells #[.pointer (some ⟨D, 0, none⟩), .slice A3 els.length c3, .bool false] 94 (0, 0)) ∧ DiskAt u D room l armed fuse ∧ RowR u w2.heap.size (.slice A3 els.length c3) els ∧ Below W.heap.size W u) ⟨HX4.out, HD4.out, HR4.out, HB4.out⟩ ?_
  clear HX4 HD4 HR4 HB4 p0 p1 p2 g0 g1 g2
  rintro w4 ⟨hx4, hd4, hr4, hb4⟩
  obtain ⟨⟨p0, p1, p2⟩, _⟩ := three_cellsA hx4
  have HX4 := hid hx4
  have HR4 := hid hr4
  have HB4 := hid hb4
  have HC := hid (dcut_any D room l armed fuse ((recS l).2 : Nat) w4 hd4 hl)
  rw [cutL_rec] at HC
  obtain ⟨A9, c9, hdk, _⟩ := hd4.open
  have HDK := hid hdk
  clear hx4 hd4 hr4 hb4 hdk
  go_wp2_with fail
  refine HC.out.mono ?_
  rintro e w5 ⟨rfl, hd5, ho5⟩
  have HD5 := hid hd5
  have HT5 : Hid (Tch (fun g => g = D) w4 w5) := hid (Tch.of_only ho5 rfl (lt_of_block HDK.out))
  have HX5 := hid (HT5.out.block HX4.out (show ¬ W.heap.size = D by omega))
  have HR5 := hid (HR4.out.apart HDK.out (by decide) (by decide) HT5.out)
  have HO5 := hid ((Only.of_below HB4.out).trans ho5)
  clear hd5 ho5 HC HT5 HX4 HR4 HB4 p0 p1 p2
  go_wp2
  go_ret
  refine ⟨A3, c3, els, rfl, HE.out, ⟨HX5.out, HD5.out, ⟨own_mono HR5.out.1 hszw, fun e he => (HR5.out.2 e he).mono hszw⟩⟩, HO5.out⟩
end Go.Proofs.YtkepfkfoblocgaaGreat

namespace Go.Proofs.YtkepfkfoblocgaaGreat
open Go.RowKit Go.Sort
set_option linter.unusedVariables false
set_option linter.unusedSimpArgs false

def anE (room : Nat) (l : List UInt8) (armed down : Bool) (x : Rc) : Int := if chkR x = false then 1 else if down then 15 else apE room l (fR x) armed
def anB (room : Nat) (l : List UInt8) (armed : Bool) (fuse : Nat) (down : Bool) (x : Rc) : List UInt8 := if chkR x = false then l else if down then l else apL room l (fR x) armed fuse
def anA (room : Nat) (l : List UInt8) (armed down : Bool) (x : Rc) : Bool := if chkR x = false then armed else if down then armed else apA room l (fR x) armed
/-- What Append leaves. -/
def AppR (W : World) (B G D room : Nat) (l : List UInt8) (armed : Bool) (fuse : Nat) (A : Option Addr) (c : Nat) (els : List El) (down : Bool) (x : Rc) (e : Ending) (w' : World) : Prop :=
  e = .returned (.int .i64 (anE room l armed down x)) ∧ ∃ A' c' els', els'.map (·.1) = (if anE room l armed down x = 0 then els.map (·.1) ++ [x] else els.map (·.1)) ∧ AnAt w' B G D room (anB room l armed fuse down x) (anA room l armed down x) fuse A' c' els' (if anE room l armed down x = 14 then true else down) ∧
    Tch (fun g => g = D ∨ g = G ∨ (Value.slice A els.length c).ownBlock = some g) W w' ∧ ((Value.slice A' els'.length c').ownBlock = (Value.slice A els.length c).ownBlock ∨ ∀ g, (Value.slice A' els'.length c').ownBlock = some g → W.heap.size ≤ g)
theorem sl_blk7 {w : World} {N t : Nat} {x0 x1 x2 x3 x4 x5 x6 : Value} (h : w.heap[N]? = some (.cells #[x0, x1, x2, x3, x4, x5, x6] t (0, 0))) : Sl w 7 (some ⟨N, 0, none⟩) 1 1 [x0, x1, x2, x3, x4, x5, x6] :=
  ⟨rfl, Nat.le_refl _, by unfold maxLen; omega, fun _ => ⟨N, 0, rfl, fun i hi => by rw [Nat.zero_add, cell_of_row w N i _ t (0, 0) h]; simp⟩⟩
theorem InR.one {w : World} {N c : Nat} {A : Option Addr} {x : Rc} (h : w.heap[N]? = some (.cells #[.int .i64 x.k, .int .i64 x.j, .int .i64 x.t, .int .i64 x.w, .int .i64 x.s, .int .i64 x.e, .slice A x.ns.length c] 46 (0, 0))) (ht : TxAt w A c x.ns) : InR w (some ⟨N, 0, none⟩) 1 [(x, A, c)] :=
  ⟨sl_blk7 h, fun e he => by
    obtain rfl : e = (x, A, c) := by simpa using he
    exact ht⟩
theorem recB_one (x : Rc) : recB [x] = fR x := by simp [recB]
theorem DiskAt.row {w w' : World} {D room B n s : Nat} {l : List UInt8} {armed : Bool} {fuse : Nat} {v : Value} {xs : List Value} (h : DiskAt w D room l armed fuse) (ho : w.ownsRow B 46 s v n xs) (ht : Tch (fun g => v.ownBlock = some g) w w') : DiskAt w' D room l armed fuse := by
  obtain ⟨A9, c9, h9, _⟩ := h.open
  refine h.tch ht (fun hg => own_apart_blk ho h9 (by decide) D hg rfl) fun g hg cs hc => ?_
  obtain ⟨_, _, cur, h1⟩ := own_lt ho g hg
  rw [hc] at h1
  injection h1 with h1
  injection h1 with _ h2
  exact absurd h2 (by decide)

set_option maxRecDepth 20000 in
set_option maxHeartbeats 2000000 in
theorem aappend_bad {B G D room : Nat} {l : List UInt8} {armed : Bool} {fuse : Nat} {A : Option Addr} {c : Nat} {els : List El} {down : Bool} (x : Rc) (Ax : Option Addr) (cx : Nat) (W : World) (h : AnAt W B G D room l armed fuse A c els down) (hx : TxAt W Ax cx x.ns) (hc : chkR x = false) :
    Calls Tryz.prog 37 #[.pointer (some ⟨G, 0, none⟩), .agg (rcc x Ax cx)] W (AppR W B G D room l armed fuse A c els down x) := by
  have HV : Hid (anE room l armed down x = 1 ∧ anB room l armed fuse down x = l ∧ anA room l armed down x = armed) := hid ⟨if_pos hc, if_pos hc, if_pos hc⟩
  have HA := hid h
  have HC := hid (fun w (hw : Below W.heap.size W w) => rcheck_any x Ax cx w (hx.below hw))
  rw [hc] at HC
  unfold AppR
  rw [HV.out.1, HV.out.2.1, HV.out.2.2]
  clear h hx hc HV
  obtain ⟨k, j, t, wk, s, ep, ns⟩ := x
  simp only [rcc] at *
  go_enter Tryz.func37, Tryz.ntmps37
  go_upto_region 1 with (fail)
  refine at_world (fun u => u.heap[W.heap.size]? = some (.cells #[.int .i64 k, .int .i64 j, .int .i64 t, .int .i64 wk, .int .i64 s, .int .i64 ep, .slice Ax ns.length cx] 46 (0, 0)) ∧ Below W.heap.size W u) ⟨heap_alloc_new _ _, (Below.refl _ _).alloc (Nat.le_refl _) _⟩ ?_
  rintro w1 ⟨hx1, hb1⟩
  obtain ⟨p0, p1, p2, p3, p4, p5, p6⟩ := seven_cells hx1
  have HB1 := hid hb1
  clear hx1 hb1
  go_wp2_with fail
  refine (HC.out w1 HB1.out).mono ?_
  rintro e w2 ⟨rfl, hb2⟩
  have HB2 := hid (HB1.out.trans (hb2.mono HB1.out.size))
  clear hb2
  go_wp2
  go_ret
  exact ⟨rfl, A, c, els, rfl, HA.out.below HB2.out, Tch.of_below HB2.out, .inl rfl⟩
set_option maxRecDepth 20000 in
set_option maxHeartbeats 2000000 in
theorem aappend_down {B G D room : Nat} {l : List UInt8} {armed : Bool} {fuse : Nat} {A : Option Addr} {c : Nat} {els : List El} (x : Rc) (Ax : Option Addr) (cx : Nat) (W : World) (h : AnAt W B G D room l armed fuse A c els true) (hx : TxAt W Ax cx x.ns) (hc : chkR x = true) :
    Calls Tryz.prog 37 #[.pointer (some ⟨G, 0, none⟩), .agg (rcc x Ax cx)] W (AppR W B G D room l armed fuse A c els true x) := by
  have hc' : ¬ chkR x = false := by rw [hc]; simp
  have HV : Hid (anE room l armed true x = 15 ∧ anB room l armed fuse true x = l ∧ anA room l armed true x = armed) := hid ⟨if_neg hc', if_neg hc', if_neg hc'⟩
  have HA := hid h
  have HC := hid (fun w (hw : Below W.heap.size W w) => rcheck_any x Ax cx w (hx.below hw))
  rw [hc] at HC
  unfold AppR
  rw [HV.out.1, HV.out.2.1, HV.out.2.2]
  clear h hx hc HV hc'
  obtain ⟨k, j, t, wk, s, ep, ns⟩ := x
  simp only [rcc] at *
  go_enter Tryz.func37, Tryz.ntmps37
  go_upto_region 1 with (fail)
  refine at_world (fun u => u.heap[W.heap.size]? = some (.cells #[.int .i64 k, .int .i64 j, .int .i64 t, .int .i64 wk, .int .i64 s, .int .i64 ep, .slice Ax ns.length cx] 46 (0, 0)) ∧ Below W.heap.size W u) ⟨heap_alloc_new _ _, (Below.refl _ _).alloc (Nat.le_refl _) _⟩ ?_
  rintro w1 ⟨hx1, hb1⟩
  obtain ⟨p0, p1, p2, p3, p4, p5, p6⟩ := seven_cells hx1
  have HB1 := hid hb1
  clear hx1 hb1
  go_wp2_with fail
  refine (HC.out w1 HB1.out).mono ?_
  rintro e w2 ⟨rfl, hb2⟩
  have HB2 := hid (HB1.out.trans (hb2.mono HB1.out.size))
  clear hb2
  have HA2 := hid (HA.out.below HB2.out)
  obtain ⟨⟨q0, q1, q2⟩, _⟩ := three_cellsA HA2.out.1
  go_wp2
  go_ret
  exact ⟨rfl, A, c, els, rfl, HA2.out, Tch.of_below HB2.out, .inl rfl⟩
theorem TxAt.disk {w w' : World} {A : Option Addr} {c D : Nat} {l : List (List UInt8)} {room : Nat} {A9 : Option Addr} {n9 c9 : Nat} {armed : Bool} {fuse : Nat} (h : TxAt w A c l) (hd : w.heap[D]? = some (.cells #[.int .i64 (room : Int), .slice A9 n9 c9, .bool armed, .int .i64 (fuse : Int)] 72 (0, 0))) (ht : Tch (fun g => g = D) w w') : TxAt w' A c l := by
  refine ⟨⟨h.1.1, h.1.2.1, h.1.2.2.1, fun h0 => ?_⟩, h.2⟩
  obtain ⟨b, off, rfl, hc⟩ := h.1.2.2.2 h0
  refine ⟨b, off, rfl, fun i hi => ?_⟩
  have h4 := hc i hi
  rw [List.getElem?_eq_getElem hi] at h4 ⊢
  have hne : b ≠ D := by
    rintro rfl
    rw [cell_of_row w b (off + i) _ _ (0, 0) hd] at h4
    have h7 : ∃ s, (scells l)[i] = .string s := by
      have : (scells l)[i] ∈ scells l := List.getElem_mem hi
      obtain ⟨x, _, hx⟩ := List.mem_map.1 this
      exact ⟨_, hx.symm⟩
    obtain ⟨s, hs⟩ := h7
    rw [hs] at h4
    generalize off + i = q at h4
    match q, h4 with
    | 0, h4 => simp at h4
    | 1, h4 => simp at h4
    | 2, h4 => simp at h4
    | 3, h4 => simp at h4
    | m + 4, h4 => simp at h4
  rw [World.cell?_of_block (ht.keep b hne (lt_of_cell h4))]
  exact h4
set_option maxRecDepth 20000 in
set_option maxHeartbeats 4000000 in
theorem aappend_full {B G D room : Nat} {l : List UInt8} {armed : Bool} {fuse : Nat} {A : Option Addr} {c : Nat} {els : List El} (x : Rc) (Ax : Option Addr) (cx : Nat) (W : World) (h : AnAt W B G D room l armed fuse A c els false) (hx : TxAt W Ax cx x.ns) (hB : B ≤ W.heap.size) (hGD : G ≠ D) (hr : room ≤ 65536) (hl : l.length ≤ room) (hn : els.length ≤ 100000) (hc : chkR x = true) (he : apE room l (fR x) armed = 7) :
    Calls Tryz.prog 37 #[.pointer (some ⟨G, 0, none⟩), .agg (rcc x Ax cx)] W (AppR W B G D room l armed fuse A c els false x) := by
  have hc' : ¬ chkR x = false := by rw [hc]; simp
  have HV : Hid (anE room l armed false x = 7 ∧ anB room l armed fuse false x = apL room l (fR x) armed fuse ∧ anA room l armed false x = apA room l (fR x) armed) := hid ⟨(if_neg hc').trans he, if_neg hc', if_neg hc'⟩
  have HA := hid h
  have HX := hid hx
  have HC := hid (fun w (hw : Below W.heap.size W w) => rcheck_any x Ax cx w (hx.below hw))
  rw [hc] at HC
  have HNS := hid (chkR_ns hc)
  have hfl : (fR x).length ≤ 100000 := Nat.le_trans (fR_len x) (by omega)
  unfold AppR
  rw [HV.out.1, HV.out.2.1, HV.out.2.2]
  have HSB := hid (fun A' w (hw : InR w A' 1 [(x, Ax, cx)]) => sbytes_any A' 1 [(x, Ax, cx)] w hw (by simp))
  simp only [List.map_cons, List.map_nil, recB_one, List.length_cons, List.length_nil, Nat.zero_add] at HSB
  have HDA := hid (fun A' c' w (hd : DiskAt w D room l armed fuse) (hb : IsBytes w A' (fR x).length c' (fR x)) => dappend_any D room l (fR x) armed fuse A' c' w hd hb hr hl hfl)
  rw [he] at HDA
  generalize apL room l (fR x) armed fuse = l2 at *
  generalize apA room l (fR x) armed = ar2 at *
  have HCL := hid (fun w (hw : TxAt w Ax cx x.ns) => acloned_any x Ax cx w hw (Nat.le_trans HNS.out.1 (by omega)) HNS.out.2)
  generalize fR x = F at *
  clear h hx hc HV hc' he
  obtain ⟨k, j, t, wk, s, ep, ns⟩ := x
  simp only [rcc] at *
  go_enter Tryz.func37, Tryz.ntmps37
  go_upto_region 1 with (fail)
  refine at_world (fun u => u.heap[W.heap.size]? = some (.cells #[.int .i64 k, .int .i64 j, .int .i64 t, .int .i64 wk, .int .i64 s, .int .i64 ep, .slice Ax ns.length cx] 46 (0, 0)) ∧ Below W.heap.size W u) ⟨heap_alloc_new _ _, (Below.refl _ _).alloc (Nat.le_refl _) _⟩ ?_
  rintro w1 ⟨hx1, hb1⟩
  obtain ⟨p0, p1, p2, p3, p4, p5, p6⟩ := seven_cells hx1
  have HX1 := hid hx1
  have HB1 := hid hb1
  clear hx1 hb1
  go_wp2_with fail
  refine (HC.out w1 HB1.out).mono ?_
  rintro e w2 ⟨rfl, hb2⟩
  have HB2 := hid (HB1.out.trans (hb2.mono HB1.out.size))
  have HX2 := hid (keep0 HX1.out hb2)
  have HTX := hid (HX.out.below HB2.out)
  clear hb2 HC HX1 HB1 HX p0 p1 p2 p3 p4 p5 p6
  have HA2 := hid (HA.out.below HB2.out)
  have hDl := HA.out.2.1.lt
  obtain ⟨⟨q0, q1, q2⟩, _⟩ := three_cellsA HA2.out.1
  go_upto_region 5 with (fail)
  clear q0 q1 q2
  have hW2 : W.heap.size < w2.heap.size := lt_of_block HX2.out
  generalize hNN : W.heap.size = N at *
  have HNN := hid hNN
  clear hNN
  have hND : ¬ N = D := by omega
  have hS : ∀ U, Tch (fun g => g = D) w2 U → ((U.cell? ⟨G, 0, none⟩ = some (.pointer (some ⟨D, 0, none⟩)) ∧ U.cell? ⟨N, 0, none⟩ = some (.int .i64 k) ∧ U.cell? ⟨N, 1, none⟩ = some (.int .i64 j) ∧ U.cell? ⟨N, 2, none⟩ = some (.int .i64 t) ∧ U.cell? ⟨N, 3, none⟩ = some (.int .i64 wk) ∧ U.cell? ⟨N, 4, none⟩ = some (.int .i64 s) ∧ U.cell? ⟨N, 5, none⟩ = some (.int .i64 ep) ∧ U.cell? ⟨N, 6, none⟩ = some (.slice Ax ns.length cx)) ∧ Tch (fun g => g = D) w2 U) := fun U hU => ⟨⟨(three_cellsA (hU.block HA2.out.1 hGD)).1.1, seven_cells (hU.block HX2.out hND)⟩, hU⟩
  have hk0 : Below w2.heap.size w2 w2.drew := below_drew (Below.refl _ _)
  refine wp_region_held_drew (S := fun U => (U.cell? ⟨G, 0, none⟩ = some (.pointer (some ⟨D, 0, none⟩)) ∧ U.cell? ⟨N, 0, none⟩ = some (.int .i64 k) ∧ U.cell? ⟨N, 1, none⟩ = some (.int .i64 j) ∧ U.cell? ⟨N, 2, none⟩ = some (.int .i64 t) ∧ U.cell? ⟨N, 3, none⟩ = some (.int .i64 wk) ∧ U.cell? ⟨N, 4, none⟩ = some (.int .i64 s) ∧ U.cell? ⟨N, 5, none⟩ = some (.int .i64 ep) ∧ U.cell? ⟨N, 6, none⟩ = some (.slice Ax ns.length cx)) ∧ Tch (fun g => g = D) w2 U) (by kernel_rfl) (hS _ (Tch.of_below hk0)) (fun hHeld => ?_)
  generalize w2.drew = k0 at *
  refine tkA 0 ?_ rfl ?_ (by assumption) ?_; rotate_left; focus (intro U hU; (try dsimp only at hU); go_simp; try (with_reducible rfl))
  simp only [gt6, Act.put]
  refine tkA 1 ?_ rfl ?_ (by assumption) ?_; rotate_left; focus (intro U hU; (try dsimp only at hU); go_simp; try (with_reducible rfl))
  simp only [gt6, Act.put]
  refine tkA 2 ?_ rfl ?_ (by assumption) ?_; rotate_left; focus (intro U hU; (try dsimp only at hU); go_simp; try (with_reducible rfl))
  simp only [gt6, Act.put]
  refine tkA 3 ?_ rfl ?_ (by assumption) ?_; rotate_left; focus (intro U hU; (try dsimp only at hU); go_simp; try (with_reducible rfl))
  simp only [gt6, Act.put]
  refine tkA 4 ?_ rfl ?_ (by assumption) ?_; rotate_left; focus (intro U hU; (try dsimp only at hU); go_simp; try (with_reducible rfl))
  simp only [gt6, Act.put]
  refine wpAnyH_ready (rs := [5]) (by kernel_rfl) (by simp) ?_
  refine (AllReadyH.cons rfl (fun K hK => ?_) AllReadyH.nil)
  simp only [gt3]
  go_simp
  refine hK.out _ _ ?_ (fun hHeld2 => ?_)
  focus
    exact hS _ (Tch.of_below (hk0.alloc hk0.size _))
  clear hHeld
  have hHeld := hHeld2
  clear hHeld2 hK K
  try simp only [gt6, Act.put]
  have hbn : Below (World.heap k0).size k0 (World.alloc k0 (.cells #[.int .i64 k, .int .i64 j, .int .i64 t, .int .i64 wk, .int .i64 s, .int .i64 ep, .slice Ax ns.length cx] 46 (0, 0))) := (Below.refl _ _).alloc (Nat.le_refl _) _
  have hk1 : Below w2.heap.size w2 (World.alloc k0 (.cells #[.int .i64 k, .int .i64 j, .int .i64 t, .int .i64 wk, .int .i64 s, .int .i64 ep, .slice Ax ns.length cx] 46 (0, 0))) := hk0.trans (hbn.mono hk0.size)
  have hx9 := heap_alloc_new k0 (.cells #[.int .i64 k, .int .i64 j, .int .i64 t, .int .i64 wk, .int .i64 s, .int .i64 ep, .slice Ax ns.length cx] 46 (0, 0))
  clear hbn
  generalize World.alloc k0 (.cells #[.int .i64 k, .int .i64 j, .int .i64 t, .int .i64 wk, .int .i64 s, .int .i64 ep, .slice Ax ns.length cx] 46 (0, 0)) = k1 at *
  generalize (World.heap k0).size = N9 at *
  refine wpAnyH_ready (rs := [6]) (by kernel_rfl) (by simp) ?_
  refine (AllReadyH.cons rfl (fun K hK => ?_) AllReadyH.nil)
  simp only [gt3]
  go_simp
  refine (HSB.out _ k1 (InR.one (x := Rc.mk k j t wk s ep ns) hx9 (HTX.out.below hk1))).mono ?_
  rintro e k2 ⟨A3, c3, rfl, ho3, hb3⟩
  have hk2 := hk1.trans (hb3.mono hk1.size)
  have hd2 := HA2.out.2.1.below hk2
  have hby := ho3.bytes
  clear hb3 ho3
  go_wp2_with fail
  refine hK.out _ _ ?_ (fun hHeld2 => ?_)
  focus
    exact hS _ (Tch.of_below hk2)
  clear hHeld
  have hHeld := hHeld2
  clear hHeld2 hK K
  try simp only [gt6, Act.put]
  refine wpAnyH_ready (rs := [7]) (by kernel_rfl) (by simp) ?_
  refine (AllReadyH.cons rfl (fun K hK => ?_) AllReadyH.nil)
  simp only [gt3]
  go_simp
  refine (HDA.out A3 c3 k2 hd2 hby).mono ?_
  rintro e k3 ⟨rfl, hd3, ho3⟩
  have hk3 : Tch (fun g => g = D) w2 k3 := (Tch.of_below hk2).trans (Tch.of_only (S := fun g => g = D) ho3 rfl hd2.lt) (fun g hg _ => hg)
  clear ho3 hby
  go_wp2_with fail
  refine hK.out _ _ ?_ (fun hHeld2 => ?_)
  focus
    exact hS _ hk3
  clear hHeld
  have hHeld := hHeld2
  clear hHeld2 hK K
  try simp only [gt6, Act.put]
  refine tkA 8 ?_ rfl ?_ (by assumption) ?_; rotate_left; focus (intro U hU; (try dsimp only at hU); go_simp; try (with_reducible rfl))
  simp only [gt6, Act.put]
  refine wpAnyH_done (by kernel_rfl) ?_ _
  have HT5 := hid hk3
  have HD5 := hid hd3
  clear hHeld hS hk0 hk1 hk2 hk3 hd3 hd2 hx9 HSB HDA
  obtain ⟨A9, c9, hdk, _⟩ := HA2.out.2.1.open
  have HR5 := hid (HA2.out.2.2.apart hdk (by decide) (by decide) HT5.out)
  have HG5 := hid (HT5.out.block HA2.out.1 hGD)
  have HX5 := hid (HT5.out.block HX2.out hND)
  have HT6 := hid ((Tch.of_below (S := fun g => g = D) (HNN.out ▸ HB2.out)).trans HT5.out fun _ h _ => h)
  clear hdk HT5 HA HA2
  obtain ⟨⟨q0, q1, q2⟩, g0, g1, g2⟩ := three_cellsA HG5.out
  go_wp2
  go_ret
  exact ⟨rfl, A, c, els, rfl, ⟨HG5.out, HD5.out, HR5.out⟩, HT6.out.mono (fun g hg _ => .inl hg), .inl rfl⟩
set_option maxRecDepth 20000 in
set_option maxHeartbeats 4000000 in
theorem aappend_power {B G D room : Nat} {l : List UInt8} {armed : Bool} {fuse : Nat} {A : Option Addr} {c : Nat} {els : List El} (x : Rc) (Ax : Option Addr) (cx : Nat) (W : World) (h : AnAt W B G D room l armed fuse A c els false) (hx : TxAt W Ax cx x.ns) (hB : B ≤ W.heap.size) (hGD : G ≠ D) (hr : room ≤ 65536) (hl : l.length ≤ room) (hn : els.length ≤ 100000) (hc : chkR x = true) (he : apE room l (fR x) armed = 14) :
    Calls Tryz.prog 37 #[.pointer (some ⟨G, 0, none⟩), .agg (rcc x Ax cx)] W (AppR W B G D room l armed fuse A c els false x) := by
  have hc' : ¬ chkR x = false := by rw [hc]; simp
  have HV : Hid (anE room l armed false x = 14 ∧ anB room l armed fuse false x = apL room l (fR x) armed fuse ∧ anA room l armed false x = apA room l (fR x) armed) := hid ⟨(if_neg hc').trans he, if_neg hc', if_neg hc'⟩
  have HA := hid h
  have HX := hid hx
  have HC := hid (fun w (hw : Below W.heap.size W w) => rcheck_any x Ax cx w (hx.below hw))
  rw [hc] at HC
  have HNS := hid (chkR_ns hc)
  have hfl : (fR x).length ≤ 100000 := Nat.le_trans (fR_len x) (by omega)
  unfold AppR
  rw [HV.out.1, HV.out.2.1, HV.out.2.2]
  have HSB := hid (fun A' w (hw : InR w A' 1 [(x, Ax, cx)]) => sbytes_any A' 1 [(x, Ax, cx)] w hw (by simp))
  simp only [List.map_cons, List.map_nil, recB_one, List.length_cons, List.length_nil, Nat.zero_add] at HSB
  have HDA := hid (fun A' c' w (hd : DiskAt w D room l armed fuse) (hb : IsBytes w A' (fR x).length c' (fR x)) => dappend_any D room l (fR x) armed fuse A' c' w hd hb hr hl hfl)
  rw [he] at HDA
  generalize apL room l (fR x) armed fuse = l2 at *
  generalize apA room l (fR x) armed = ar2 at *
  have HCL := hid (fun w (hw : TxAt w Ax cx x.ns) => acloned_any x Ax cx w hw (Nat.le_trans HNS.out.1 (by omega)) HNS.out.2)
  generalize fR x = F at *
  clear h hx hc HV hc' he
  obtain ⟨k, j, t, wk, s, ep, ns⟩ := x
  simp only [rcc] at *
  go_enter Tryz.func37, Tryz.ntmps37
  go_upto_region 1 with (fail)
  refine at_world (fun u => u.heap[W.heap.size]? = some (.cells #[.int .i64 k, .int .i64 j, .int .i64 t, .int .i64 wk, .int .i64 s, .int .i64 ep, .slice Ax ns.length cx] 46 (0, 0)) ∧ Below W.heap.size W u) ⟨heap_alloc_new _ _, (Below.refl _ _).alloc (Nat.le_refl _) _⟩ ?_
  rintro w1 ⟨hx1, hb1⟩
  obtain ⟨p0, p1, p2, p3, p4, p5, p6⟩ := seven_cells hx1
  have HX1 := hid hx1
  have HB1 := hid hb1
  clear hx1 hb1
  go_wp2_with fail
  refine (HC.out w1 HB1.out).mono ?_
  rintro e w2 ⟨rfl, hb2⟩
  have HB2 := hid (HB1.out.trans (hb2.mono HB1.out.size))
  have HX2 := hid (keep0 HX1.out hb2)
  have HTX := hid (HX.out.below HB2.out)
  clear hb2 HC HX1 HB1 HX p0 p1 p2 p3 p4 p5 p6
  have HA2 := hid (HA.out.below HB2.out)
  have hDl := HA.out.2.1.lt
  obtain ⟨⟨q0, q1, q2⟩, _⟩ := three_cellsA HA2.out.1
  go_upto_region 5 with (fail)
  clear q0 q1 q2
  have hW2 : W.heap.size < w2.heap.size := lt_of_block HX2.out
  generalize hNN : W.heap.size = N at *
  have HNN := hid hNN
  clear hNN
  have hND : ¬ N = D := by omega
  have hS : ∀ U, Tch (fun g => g = D) w2 U → ((U.cell? ⟨G, 0, none⟩ = some (.pointer (some ⟨D, 0, none⟩)) ∧ U.cell? ⟨N, 0, none⟩ = some (.int .i64 k) ∧ U.cell? ⟨N, 1, none⟩ = some (.int .i64 j) ∧ U.cell? ⟨N, 2, none⟩ = some (.int .i64 t) ∧ U.cell? ⟨N, 3, none⟩ = some (.int .i64 wk) ∧ U.cell? ⟨N, 4, none⟩ = some (.int .i64 s) ∧ U.cell? ⟨N, 5, none⟩ = some (.int .i64 ep) ∧ U.cell? ⟨N, 6, none⟩ = some (.slice Ax ns.length cx)) ∧ Tch (fun g => g = D) w2 U) := fun U hU => ⟨⟨(three_cellsA (hU.block HA2.out.1 hGD)).1.1, seven_cells (hU.block HX2.out hND)⟩, hU⟩
  have hk0 : Below w2.heap.size w2 w2.drew := below_drew (Below.refl _ _)
  refine wp_region_held_drew (S := fun U => (U.cell? ⟨G, 0, none⟩ = some (.pointer (some ⟨D, 0, none⟩)) ∧ U.cell? ⟨N, 0, none⟩ = some (.int .i64 k) ∧ U.cell? ⟨N, 1, none⟩ = some (.int .i64 j) ∧ U.cell? ⟨N, 2, none⟩ = some (.int .i64 t) ∧ U.cell? ⟨N, 3, none⟩ = some (.int .i64 wk) ∧ U.cell? ⟨N, 4, none⟩ = some (.int .i64 s) ∧ U.cell? ⟨N, 5, none⟩ = some (.int .i64 ep) ∧ U.cell? ⟨N, 6, none⟩ = some (.slice Ax ns.length cx)) ∧ Tch (fun g => g = D) w2 U) (by kernel_rfl) (hS _ (Tch.of_below hk0)) (fun hHeld => ?_)
  generalize w2.drew = k0 at *
  refine tkA 0 ?_ rfl ?_ (by assumption) ?_; rotate_left; focus (intro U hU; (try dsimp only at hU); go_simp; try (with_reducible rfl))
  simp only [gt6, Act.put]
  refine tkA 1 ?_ rfl ?_ (by assumption) ?_; rotate_left; focus (intro U hU; (try dsimp only at hU); go_simp; try (with_reducible rfl))
  simp only [gt6, Act.put]
  refine tkA 2 ?_ rfl ?_ (by assumption) ?_; rotate_left; focus (intro U hU; (try dsimp only at hU); go_simp; try (with_reducible rfl))
  simp only [gt6, Act.put]
  refine tkA 3 ?_ rfl ?_ (by assumption) ?_; rotate_left; focus (intro U hU; (try dsimp only at hU); go_simp; try (with_reducible rfl))
  simp only [gt6, Act.put]
  refine tkA 4 ?_ rfl ?_ (by assumption) ?_; rotate_left; focus (intro U hU; (try dsimp only at hU); go_simp; try (with_reducible rfl))
  simp only [gt6, Act.put]
  refine wpAnyH_ready (rs := [5]) (by kernel_rfl) (by simp) ?_
  refine (AllReadyH.cons rfl (fun K hK => ?_) AllReadyH.nil)
  simp only [gt3]
  go_simp
  refine hK.out _ _ ?_ (fun hHeld2 => ?_)
  focus
    exact hS _ (Tch.of_below (hk0.alloc hk0.size _))
  clear hHeld
  have hHeld := hHeld2
  clear hHeld2 hK K
  try simp only [gt6, Act.put]
  have hbn : Below (World.heap k0).size k0 (World.alloc k0 (.cells #[.int .i64 k, .int .i64 j, .int .i64 t, .int .i64 wk, .int .i64 s, .int .i64 ep, .slice Ax ns.length cx] 46 (0, 0))) := (Below.refl _ _).alloc (Nat.le_refl _) _
  have hk1 : Below w2.heap.size w2 (World.alloc k0 (.cells #[.int .i64 k, .int .i64 j, .int .i64 t, .int .i64 wk, .int .i64 s, .int .i64 ep, .slice Ax ns.length cx] 46 (0, 0))) := hk0.trans (hbn.mono hk0.size)
  have hx9 := heap_alloc_new k0 (.cells #[.int .i64 k, .int .i64 j, .int .i64 t, .int .i64 wk, .int .i64 s, .int .i64 ep, .slice Ax ns.length cx] 46 (0, 0))
  clear hbn
  generalize World.alloc k0 (.cells #[.int .i64 k, .int .i64 j, .int .i64 t, .int .i64 wk, .int .i64 s, .int .i64 ep, .slice Ax ns.length cx] 46 (0, 0)) = k1 at *
  generalize (World.heap k0).size = N9 at *
  refine wpAnyH_ready (rs := [6]) (by kernel_rfl) (by simp) ?_
  refine (AllReadyH.cons rfl (fun K hK => ?_) AllReadyH.nil)
  simp only [gt3]
  go_simp
  refine (HSB.out _ k1 (InR.one (x := Rc.mk k j t wk s ep ns) hx9 (HTX.out.below hk1))).mono ?_
  rintro e k2 ⟨A3, c3, rfl, ho3, hb3⟩
  have hk2 := hk1.trans (hb3.mono hk1.size)
  have hd2 := HA2.out.2.1.below hk2
  have hby := ho3.bytes
  clear hb3 ho3
  go_wp2_with fail
  refine hK.out _ _ ?_ (fun hHeld2 => ?_)
  focus
    exact hS _ (Tch.of_below hk2)
  clear hHeld
  have hHeld := hHeld2
  clear hHeld2 hK K
  try simp only [gt6, Act.put]
  refine wpAnyH_ready (rs := [7]) (by kernel_rfl) (by simp) ?_
  refine (AllReadyH.cons rfl (fun K hK => ?_) AllReadyH.nil)
  simp only [gt3]
  go_simp
  refine (HDA.out A3 c3 k2 hd2 hby).mono ?_
  rintro e k3 ⟨rfl, hd3, ho3⟩
  have hk3 : Tch (fun g => g = D) w2 k3 := (Tch.of_below hk2).trans (Tch.of_only (S := fun g => g = D) ho3 rfl hd2.lt) (fun g hg _ => hg)
  clear ho3 hby
  go_wp2_with fail
  refine hK.out _ _ ?_ (fun hHeld2 => ?_)
  focus
    exact hS _ hk3
  clear hHeld
  have hHeld := hHeld2
  clear hHeld2 hK K
  try simp only [gt6, Act.put]
  refine tkA 8 ?_ rfl ?_ (by assumption) ?_; rotate_left; focus (intro U hU; (try dsimp only at hU); go_simp; try (with_reducible rfl))
  simp only [gt6, Act.put]
  refine wpAnyH_done (by kernel_rfl) ?_ _
  have HT5 := hid hk3
  have HD5 := hid hd3
  clear hHeld hS hk0 hk1 hk2 hk3 hd3 hd2 hx9 HSB HDA
  obtain ⟨A9, c9, hdk, _⟩ := HA2.out.2.1.open
  have HR5 := hid (HA2.out.2.2.apart hdk (by decide) (by decide) HT5.out)
  have HG5 := hid (HT5.out.block HA2.out.1 hGD)
  have HX5 := hid (HT5.out.block HX2.out hND)
  have HT6 := hid ((Tch.of_below (S := fun g => g = D) (HNN.out ▸ HB2.out)).trans HT5.out fun _ h _ => h)
  clear hdk HT5 HA HA2
  obtain ⟨⟨q0, q1, q2⟩, g0, g1, g2⟩ := three_cellsA HG5.out
  have HTS := tch_set k3 G 2 (.bool true)
  have HG6 : Hid ((k3.setCell ⟨G, 2, none⟩ (.bool true)).heap[G]? = some (.cells #[.pointer (some ⟨D, 0, none⟩), .slice A els.length c, .bool true] 94 (0, 0))) := hid (by rw [heap_setCell_same k3 G 2 _ _ (.bool true) HG5.out]; rfl)
  have HD6 := hid (HD5.out.apart HG5.out (by decide) (Ne.symm hGD) HTS)
  have HR6 := hid (HR5.out.apart HG5.out (by decide) (by decide) HTS)
  have HT7 : Hid (Tch (fun g => g = D ∨ g = G ∨ (Value.slice A els.length c).ownBlock = some g) W (k3.setCell ⟨G, 2, none⟩ (.bool true))) := hid ((HT6.out.mono (fun g hg _ => .inl hg)).set G 2 _ (fun _ => .inr (.inl rfl)))
  clear HTS HG5 HD5 HR5 HT6
  go_wp2
  go_ret
  exact ⟨rfl, A, c, els, rfl, ⟨HG6.out, HD6.out, HR6.out⟩, HT7.out, .inl rfl⟩
set_option maxRecDepth 20000 in
set_option maxHeartbeats 4000000 in
theorem aappend_ok {B G D room : Nat} {l : List UInt8} {armed : Bool} {fuse : Nat} {A : Option Addr} {c : Nat} {els : List El} (x : Rc) (Ax : Option Addr) (cx : Nat) (W : World) (h : AnAt W B G D room l armed fuse A c els false) (hx : TxAt W Ax cx x.ns) (hB : B ≤ W.heap.size) (hGD : G ≠ D) (hr : room ≤ 65536) (hl : l.length ≤ room) (hn : els.length ≤ 100000) (hc : chkR x = true) (he : apE room l (fR x) armed = 0) :
    Calls Tryz.prog 37 #[.pointer (some ⟨G, 0, none⟩), .agg (rcc x Ax cx)] W (AppR W B G D room l armed fuse A c els false x) := by
  have hc' : ¬ chkR x = false := by rw [hc]; simp
  have HV : Hid (anE room l armed false x = 0 ∧ anB room l armed fuse false x = apL room l (fR x) armed fuse ∧ anA room l armed false x = apA room l (fR x) armed) := hid ⟨(if_neg hc').trans he, if_neg hc', if_neg hc'⟩
  have HA := hid h
  have HX := hid hx
  have HC := hid (fun w (hw : Below W.heap.size W w) => rcheck_any x Ax cx w (hx.below hw))
  rw [hc] at HC
  have HNS := hid (chkR_ns hc)
  have hfl : (fR x).length ≤ 100000 := Nat.le_trans (fR_len x) (by omega)
  unfold AppR
  rw [HV.out.1, HV.out.2.1, HV.out.2.2]
  have HSB := hid (fun A' w (hw : InR w A' 1 [(x, Ax, cx)]) => sbytes_any A' 1 [(x, Ax, cx)] w hw (by simp))
  simp only [List.map_cons, List.map_nil, recB_one, List.length_cons, List.length_nil, Nat.zero_add] at HSB
  have HDA := hid (fun A' c' w (hd : DiskAt w D room l armed fuse) (hb : IsBytes w A' (fR x).length c' (fR x)) => dappend_any D room l (fR x) armed fuse A' c' w hd hb hr hl hfl)
  rw [he] at HDA
  generalize apL room l (fR x) armed fuse = l2 at *
  have HAW := hid h
  generalize apA room l (fR x) armed = ar2 at *
  have HCL := hid (fun w (hw : TxAt w Ax cx x.ns) => acloned_any x Ax cx w hw (Nat.le_trans HNS.out.1 (by omega)) HNS.out.2)
  generalize fR x = F at *
  clear h hx hc HV hc' he
  obtain ⟨k, j, t, wk, s, ep, ns⟩ := x
  simp only [rcc] at *
  go_enter Tryz.func37, Tryz.ntmps37
  go_upto_region 1 with (fail)
  refine at_world (fun u => u.heap[W.heap.size]? = some (.cells #[.int .i64 k, .int .i64 j, .int .i64 t, .int .i64 wk, .int .i64 s, .int .i64 ep, .slice Ax ns.length cx] 46 (0, 0)) ∧ Below W.heap.size W u) ⟨heap_alloc_new _ _, (Below.refl _ _).alloc (Nat.le_refl _) _⟩ ?_
  rintro w1 ⟨hx1, hb1⟩
  obtain ⟨p0, p1, p2, p3, p4, p5, p6⟩ := seven_cells hx1
  have HX1 := hid hx1
  have HB1 := hid hb1
  clear hx1 hb1
  go_wp2_with fail
  refine (HC.out w1 HB1.out).mono ?_
  rintro e w2 ⟨rfl, hb2⟩
  have HB2 := hid (HB1.out.trans (hb2.mono HB1.out.size))
  have HX2 := hid (keep0 HX1.out hb2)
  have HTX := hid (HX.out.below HB2.out)
  clear hb2 HC HX1 HB1 HX p0 p1 p2 p3 p4 p5 p6
  have HA2 := hid (HA.out.below HB2.out)
  have hDl := HA.out.2.1.lt
  obtain ⟨⟨q0, q1, q2⟩, _⟩ := three_cellsA HA2.out.1
  go_upto_region 5 with (fail)
  clear q0 q1 q2
  have hW2 : W.heap.size < w2.heap.size := lt_of_block HX2.out
  generalize hNN : W.heap.size = N at *
  have HNN := hid hNN
  clear hNN
  have hND : ¬ N = D := by omega
  have hS : ∀ U, Tch (fun g => g = D) w2 U → ((U.cell? ⟨G, 0, none⟩ = some (.pointer (some ⟨D, 0, none⟩)) ∧ U.cell? ⟨N, 0, none⟩ = some (.int .i64 k) ∧ U.cell? ⟨N, 1, none⟩ = some (.int .i64 j) ∧ U.cell? ⟨N, 2, none⟩ = some (.int .i64 t) ∧ U.cell? ⟨N, 3, none⟩ = some (.int .i64 wk) ∧ U.cell? ⟨N, 4, none⟩ = some (.int .i64 s) ∧ U.cell? ⟨N, 5, none⟩ = some (.int .i64 ep) ∧ U.cell? ⟨N, 6, none⟩ = some (.slice Ax ns.length cx)) ∧ Tch (fun g => g = D) w2 U) := fun U hU => ⟨⟨(three_cellsA (hU.block HA2.out.1 hGD)).1.1, seven_cells (hU.block HX2.out hND)⟩, hU⟩
  have hk0 : Below w2.heap.size w2 w2.drew := below_drew (Below.refl _ _)
  refine wp_region_held_drew (S := fun U => (U.cell? ⟨G, 0, none⟩ = some (.pointer (some ⟨D, 0, none⟩)) ∧ U.cell? ⟨N, 0, none⟩ = some (.int .i64 k) ∧ U.cell? ⟨N, 1, none⟩ = some (.int .i64 j) ∧ U.cell? ⟨N, 2, none⟩ = some (.int .i64 t) ∧ U.cell? ⟨N, 3, none⟩ = some (.int .i64 wk) ∧ U.cell? ⟨N, 4, none⟩ = some (.int .i64 s) ∧ U.cell? ⟨N, 5, none⟩ = some (.int .i64 ep) ∧ U.cell? ⟨N, 6, none⟩ = some (.slice Ax ns.length cx)) ∧ Tch (fun g => g = D) w2 U) (by kernel_rfl) (hS _ (Tch.of_below hk0)) (fun hHeld => ?_)
  generalize w2.drew = k0 at *
  refine tkA 0 ?_ rfl ?_ (by assumption) ?_; rotate_left; focus (intro U hU; (try dsimp only at hU); go_simp; try (with_reducible rfl))
  simp only [gt6, Act.put]
  refine tkA 1 ?_ rfl ?_ (by assumption) ?_; rotate_left; focus (intro U hU; (try dsimp only at hU); go_simp; try (with_reducible rfl))
  simp only [gt6, Act.put]
  refine tkA 2 ?_ rfl ?_ (by assumption) ?_; rotate_left; focus (intro U hU; (try dsimp only at hU); go_simp; try (with_reducible rfl))
  simp only [gt6, Act.put]
  refine tkA 3 ?_ rfl ?_ (by assumption) ?_; rotate_left; focus (intro U hU; (try dsimp only at hU); go_simp; try (with_reducible rfl))
  simp only [gt6, Act.put]
  refine tkA 4 ?_ rfl ?_ (by assumption) ?_; rotate_left; focus (intro U hU; (try dsimp only at hU); go_simp; try (with_reducible rfl))
  simp only [gt6, Act.put]
  refine wpAnyH_ready (rs := [5]) (by kernel_rfl) (by simp) ?_
  refine (AllReadyH.cons rfl (fun K hK => ?_) AllReadyH.nil)
  simp only [gt3]
  go_simp
  refine hK.out _ _ ?_ (fun hHeld2 => ?_)
  focus
    exact hS _ (Tch.of_below (hk0.alloc hk0.size _))
  clear hHeld
  have hHeld := hHeld2
  clear hHeld2 hK K
  try simp only [gt6, Act.put]
  have hbn : Below (World.heap k0).size k0 (World.alloc k0 (.cells #[.int .i64 k, .int .i64 j, .int .i64 t, .int .i64 wk, .int .i64 s, .int .i64 ep, .slice Ax ns.length cx] 46 (0, 0))) := (Below.refl _ _).alloc (Nat.le_refl _) _
  have hk1 : Below w2.heap.size w2 (World.alloc k0 (.cells #[.int .i64 k, .int .i64 j, .int .i64 t, .int .i64 wk, .int .i64 s, .int .i64 ep, .slice Ax ns.length cx] 46 (0, 0))) := hk0.trans (hbn.mono hk0.size)
  have hx9 := heap_alloc_new k0 (.cells #[.int .i64 k, .int .i64 j, .int .i64 t, .int .i64 wk, .int .i64 s, .int .i64 ep, .slice Ax ns.length cx] 46 (0, 0))
  clear hbn
  generalize World.alloc k0 (.cells #[.int .i64 k, .int .i64 j, .int .i64 t, .int .i64 wk, .int .i64 s, .int .i64 ep, .slice Ax ns.length cx] 46 (0, 0)) = k1 at *
  generalize (World.heap k0).size = N9 at *
  refine wpAnyH_ready (rs := [6]) (by kernel_rfl) (by simp) ?_
  refine (AllReadyH.cons rfl (fun K hK => ?_) AllReadyH.nil)
  simp only [gt3]
  go_simp
  refine (HSB.out _ k1 (InR.one (x := Rc.mk k j t wk s ep ns) hx9 (HTX.out.below hk1))).mono ?_
  rintro e k2 ⟨A3, c3, rfl, ho3, hb3⟩
  have hk2 := hk1.trans (hb3.mono hk1.size)
  have hd2 := HA2.out.2.1.below hk2
  have hby := ho3.bytes
  clear hb3 ho3
  go_wp2_with fail
  refine hK.out _ _ ?_ (fun hHeld2 => ?_)
  focus
    exact hS _ (Tch.of_below hk2)
  clear hHeld
  have hHeld := hHeld2
  clear hHeld2 hK K
  try simp only [gt6, Act.put]
  refine wpAnyH_ready (rs := [7]) (by kernel_rfl) (by simp) ?_
  refine (AllReadyH.cons rfl (fun K hK => ?_) AllReadyH.nil)
  simp only [gt3]
  go_simp
  refine (HDA.out A3 c3 k2 hd2 hby).mono ?_
  rintro e k3 ⟨rfl, hd3, ho3⟩
  have hk3 : Tch (fun g => g = D) w2 k3 := (Tch.of_below hk2).trans (Tch.of_only (S := fun g => g = D) ho3 rfl hd2.lt) (fun g hg _ => hg)
  clear ho3 hby
  go_wp2_with fail
  refine hK.out _ _ ?_ (fun hHeld2 => ?_)
  focus
    exact hS _ hk3
  clear hHeld
  have hHeld := hHeld2
  clear hHeld2 hK K
  try simp only [gt6, Act.put]
  refine tkA 8 ?_ rfl ?_ (by assumption) ?_; rotate_left; focus (intro U hU; (try dsimp only at hU); go_simp; try (with_reducible rfl))
  simp only [gt6, Act.put]
  refine wpAnyH_done (by kernel_rfl) ?_ _
  have HT5 := hid hk3
  have HD5 := hid hd3
  clear hHeld hS hk0 hk1 hk2 hk3 hd3 hd2 hx9 HSB HDA
  obtain ⟨A9, c9, hdk, _⟩ := HA2.out.2.1.open
  have HR5 := hid (HA2.out.2.2.apart hdk (by decide) (by decide) HT5.out)
  have HG5 := hid (HT5.out.block HA2.out.1 hGD)
  have HX5 := hid (HT5.out.block HX2.out hND)
  have HT6 := hid ((Tch.of_below (S := fun g => g = D) (HNN.out ▸ HB2.out)).trans HT5.out fun _ h _ => h)
  have HTX5 := hid (TxAt.disk HTX.out hdk HT5.out)
  clear hdk HT5 HA HA2
  obtain ⟨⟨q0, q1, q2⟩, g0, g1, g2⟩ := three_cellsA HG5.out
  go_upto_region 8 with (fail)
  have hNk : N ≤ k3.heap.size := by
    have h7 := HNN.out
    have h8 := HT6.out.size
    omega
  have hNG : ¬ (N = G ∨ (Value.slice A els.length c).ownBlock = some N) := by
    rintro (h9 | h9)
    · rw [h9] at HX5
      have h8 := HG5.out
      rw [HX5.out] at h8
      injection h8 with h8
      injection h8 with _ h7
      exact absurd h7 (by decide)
    · have h8 := (own_lt HAW.out.2.2.1 N h9).2.1
      have h7 := HNN.out
      omega
  have hS : ∀ U, Tch (fun g => g = G ∨ (Value.slice A els.length c).ownBlock = some g) k3 U → ((U.cell? ⟨N, 0, none⟩ = some (.int .i64 k) ∧ U.cell? ⟨N, 1, none⟩ = some (.int .i64 j) ∧ U.cell? ⟨N, 2, none⟩ = some (.int .i64 t) ∧ U.cell? ⟨N, 3, none⟩ = some (.int .i64 wk) ∧ U.cell? ⟨N, 4, none⟩ = some (.int .i64 s) ∧ U.cell? ⟨N, 5, none⟩ = some (.int .i64 ep) ∧ U.cell? ⟨N, 6, none⟩ = some (.slice Ax ns.length cx)) ∧ Tch (fun g => g = G ∨ (Value.slice A els.length c).ownBlock = some g) k3 U) := fun U hU => ⟨seven_cells (hU.block HX5.out hNG), hU⟩
  have hk0 : Below k3.heap.size k3 k3.drew := below_drew (Below.refl _ _)
  refine wp_region_held_drew (S := fun U => (U.cell? ⟨N, 0, none⟩ = some (.int .i64 k) ∧ U.cell? ⟨N, 1, none⟩ = some (.int .i64 j) ∧ U.cell? ⟨N, 2, none⟩ = some (.int .i64 t) ∧ U.cell? ⟨N, 3, none⟩ = some (.int .i64 wk) ∧ U.cell? ⟨N, 4, none⟩ = some (.int .i64 s) ∧ U.cell? ⟨N, 5, none⟩ = some (.int .i64 ep) ∧ U.cell? ⟨N, 6, none⟩ = some (.slice Ax ns.length cx)) ∧ Tch (fun g => g = G ∨ (Value.slice A els.length c).ownBlock = some g) k3 U) (by kernel_rfl) (hS _ (Tch.of_below hk0)) (fun hHeld => ?_)
  generalize k3.drew = m0 at *
  replace q1 := cellb hk0 q1
  refine tkA 0 ?_ rfl ?_ (by assumption) ?_; rotate_left; focus (intro U hU; (try dsimp only at hU); go_simp; try (with_reducible rfl))
  simp only [gt6, Act.put]
  refine tkA 1 ?_ rfl ?_ (by assumption) ?_; rotate_left; focus (intro U hU; (try dsimp only at hU); go_simp; try (with_reducible rfl))
  simp only [gt6, Act.put]
  refine tkA 2 ?_ rfl ?_ (by assumption) ?_; rotate_left; focus (intro U hU; (try dsimp only at hU); go_simp; try (with_reducible rfl))
  simp only [gt6, Act.put]
  refine tkA 3 ?_ rfl ?_ (by assumption) ?_; rotate_left; focus (intro U hU; (try dsimp only at hU); go_simp; try (with_reducible rfl))
  simp only [gt6, Act.put]
  refine tkA 5 ?_ rfl ?_ (by assumption) ?_; rotate_left; focus (intro U hU; (try dsimp only at hU); go_simp; try (with_reducible rfl))
  simp only [gt6, Act.put]
  refine wpAnyH_ready (rs := [4, 6]) (by kernel_rfl) (by simp) ?_
  refine (AllReadyH.cons rfl (fun K hK => ?_) (AllReadyH.cons rfl (fun K hK => ?_) AllReadyH.nil))
  · skip
    simp only [gt3]
    go_simp
    refine hK.out _ _ ?_ (fun hHeld2 => ?_)
    focus
      exact hS _ (Tch.of_below hk0)
    clear hHeld
    have hHeld := hHeld2
    clear hHeld2 hK K
    try simp only [gt6, Act.put]
    refine wpAnyH_ready (rs := [6]) (by kernel_rfl) (by simp) ?_
    refine (AllReadyH.cons rfl (fun K hK => ?_) AllReadyH.nil)
    simp only [gt3]
    go_simp
    refine (HCL.out m0 (HTX5.out.below hk0)).mono ?_
    rintro e m1 ⟨A2, c2, rfl, hs2, hb2⟩
    have hk1 := hk0.trans (hb2.mono hk0.size)
    have q1c := cellb hb2 q1
    have hs3 := hs2.mono hk0.size
    clear hb2 hs2
    go_wp2_with fail
    refine hK.out _ _ ?_ (fun hHeld2 => ?_)
    focus
      exact hS _ (Tch.of_below hk1)
    clear hHeld
    have hHeld := hHeld2
    clear hHeld2 hK K
    try simp only [gt6, Act.put]
    refine wpAnyH_ready (rs := [7]) (by kernel_rfl) (by simp) ?_
    refine (AllReadyH.cons rfl (fun K hK => ?_) AllReadyH.nil)
    simp only [gt3]
    go_simp
    refine hK.out _ _ ?_ (fun hHeld2 => ?_)
    focus
      exact hS _ (Tch.of_below (hk1.alloc hk1.size _))
    clear hHeld
    have hHeld := hHeld2
    clear hHeld2 hK K
    try simp only [gt6, Act.put]
    have hbn : Below (World.heap m1).size m1 (World.alloc m1 (.cells #[.int .i64 k, .int .i64 j, .int .i64 t, .int .i64 wk, .int .i64 s, .int .i64 ep, .slice A2 ns.length c2] 46 (0, 0))) := (Below.refl _ _).alloc (Nat.le_refl _) _
    have hk2 : Below k3.heap.size k3 (World.alloc m1 (.cells #[.int .i64 k, .int .i64 j, .int .i64 t, .int .i64 wk, .int .i64 s, .int .i64 ep, .slice A2 ns.length c2] 46 (0, 0))) := hk1.trans (hbn.mono hk1.size)
    have hx9 := heap_alloc_new m1 (.cells #[.int .i64 k, .int .i64 j, .int .i64 t, .int .i64 wk, .int .i64 s, .int .i64 ep, .slice A2 ns.length c2] 46 (0, 0))
    have hs4 := hs3.keep hbn
    have q1d := cellb hbn q1c
    clear hbn
    generalize World.alloc m1 (.cells #[.int .i64 k, .int .i64 j, .int .i64 t, .int .i64 wk, .int .i64 s, .int .i64 ep, .slice A2 ns.length c2] 46 (0, 0)) = m2 at *
    generalize (World.heap m1).size = N9 at *
    refine wpAnyH_ready (rs := [8]) (by kernel_rfl) (by simp) ?_
    refine (AllReadyH.cons rfl (fun K hK => ?_) AllReadyH.nil)
    refine step_append_slw rfl (.tmp 32) (.tmp 35) 67 rfl B 46 Tryz.underlying67 info_rec rfl (by omega) rfl (own_keep HR5.out.1 hk2) rfl (sl_blk7 hx9) (by simp [Value.oneCell']) ?c1 ?c2 ?c3 ?_
    case c1 => unfold maxLen; omega
    case c2 => omega
    case c3 => have := hk2.size; omega
    intro v5 w6 ho5 ht5 hw5
    have hk6 : Tch (fun g => g = G ∨ (Value.slice A els.length c).ownBlock = some g) k3 w6 := (Tch.of_below hk2).trans ht5 (fun g hg _ => .inr hg)
    have HO6 : RowR w6 B v5 (els ++ [(Rc.mk k j t wk s ep ns, A2, c2)]) := RowR.push (HR5.out.keep hk2) (hs4.mono (show B ≤ k3.heap.size by omega)) (by simpa [rcc] using ho5) (fun g _ hl hne => ht5.keep g hne hl)
    have HD6 := (HD5.out.below hk2).row (own_keep HR5.out.1 hk2) ht5
    have HG6 := ht5.block (keep0 HG5.out hk2) (fun hg => own_apart_blk HR5.out.1 HG5.out (by decide) G hg rfl)
    have hw6 : v5.ownBlock = (Value.slice A els.length c).ownBlock ∨ ∀ g, v5.ownBlock = some g → N ≤ g := hw5.imp id (fun h g hg => Nat.le_trans (by have := hk2.size; omega) (h g hg))
    clear ht5 hw5 ho5 hs4 hx9 q1d
    obtain ⟨A6, c6, rfl, _⟩ := Sl.of_own HO6.1
    have HLE : (els ++ [(Rc.mk k j t wk s ep ns, A2, c2)]).length = els.length + 1 := by rw [List.length_append]; rfl
    rw [HLE] at HO6 hw6
    have HTS := tch_set w6 G 1 (.slice A6 (els.length + 1) c6)
    have HG7 : (w6.setCell ⟨G, 1, none⟩ (.slice A6 (els.length + 1) c6)).heap[G]? = some (.cells #[.pointer (some ⟨D, 0, none⟩), .slice A6 (els.length + 1) c6, .bool false] 94 (0, 0)) := by rw [heap_setCell_same w6 G 1 _ _ (.slice A6 (els.length + 1) c6) HG6]; rfl
    have HD7 := HD6.apart HG6 (by decide) (Ne.symm hGD) HTS
    have HR7 := HO6.apart HG6 (by decide) (by decide) HTS
    have hk7 : Tch (fun g => g = G ∨ (Value.slice A els.length c).ownBlock = some g) k3 (w6.setCell ⟨G, 1, none⟩ (.slice A6 (els.length + 1) c6)) := hk6.set G 1 _ (fun _ => .inl rfl)
    obtain ⟨⟨r0, r1, r2⟩, g0, g1, g2⟩ := three_cellsA HG6
    clear HTS HD6
    refine hK.out _ _ ?_ (fun hHeld2 => ?_)
    focus
      exact hS _ hk6
    clear hHeld
    have hHeld := hHeld2
    clear hHeld2 hK K
    try simp only [gt6, Act.put]
    refine tkA 9 ?_ rfl ?_ (by assumption) ?_; rotate_left; focus (intro U hU; (try dsimp only at hU); go_simp; try (with_reducible rfl))
    simp only [gt6, Act.put]
    refine tkA 10 ?_ rfl ?_ (by assumption) ?_; rotate_left; focus (intro U hU; (try dsimp only at hU); go_simp; try (with_reducible rfl))
    simp only [gt6, Act.put]
    refine wpAnyH_ready (rs := [11]) (by kernel_rfl) (by simp) ?_
    refine (AllReadyH.cons rfl (fun K hK => ?_) AllReadyH.nil)
    simp only [gt3]
    go_simp
    refine hK.out _ _ ?_ (fun hHeld2 => ?_)
    focus
      exact hS _ hk7
    clear hHeld
    have hHeld := hHeld2
    clear hHeld2 hK K
    try simp only [gt6, Act.put]
    refine wpAnyH_done (by kernel_rfl) ?_ _
    clear hHeld hS r0 r1 r2 g0 g1 g2
    go_wp2
    go_ret
    refine ⟨rfl, A6, c6, els ++ [(Rc.mk k j t wk s ep ns, A2, c2)], by rw [List.map_append]; rfl, ⟨by rw [HLE]; exact HG7, HD7, by rw [HLE]; exact HR7⟩, ?_, ?_⟩
    · exact (HT6.out.mono (fun g hg _ => .inl hg)).trans hk7 (fun g hg _ => .inr hg)
    · rw [HLE, HNN.out]; exact hw6
  · skip
    simp only [gt3]
    go_simp
    refine (HCL.out m0 (HTX5.out.below hk0)).mono ?_
    rintro e m1 ⟨A2, c2, rfl, hs2, hb2⟩
    have hk1 := hk0.trans (hb2.mono hk0.size)
    have q1c := cellb hb2 q1
    have hs3 := hs2.mono hk0.size
    clear hb2 hs2
    go_wp2_with fail
    refine hK.out _ _ ?_ (fun hHeld2 => ?_)
    focus
      exact hS _ (Tch.of_below hk1)
    clear hHeld
    have hHeld := hHeld2
    clear hHeld2 hK K
    try simp only [gt6, Act.put]
    refine wpAnyH_ready (rs := [4, 7]) (by kernel_rfl) (by simp) ?_
    refine (AllReadyH.cons rfl (fun K hK => ?_) (AllReadyH.cons rfl (fun K hK => ?_) AllReadyH.nil))
    · skip
      simp only [gt3]
      go_simp
      refine hK.out _ _ ?_ (fun hHeld2 => ?_)
      focus
        exact hS _ (Tch.of_below hk1)
      clear hHeld
      have hHeld := hHeld2
      clear hHeld2 hK K
      try simp only [gt6, Act.put]
      refine wpAnyH_ready (rs := [7]) (by kernel_rfl) (by simp) ?_
      refine (AllReadyH.cons rfl (fun K hK => ?_) AllReadyH.nil)
      simp only [gt3]
      go_simp
      refine hK.out _ _ ?_ (fun hHeld2 => ?_)
      focus
        exact hS _ (Tch.of_below (hk1.alloc hk1.size _))
      clear hHeld
      have hHeld := hHeld2
      clear hHeld2 hK K
      try simp only [gt6, Act.put]
      have hbn : Below (World.heap m1).size m1 (World.alloc m1 (.cells #[.int .i64 k, .int .i64 j, .int .i64 t, .int .i64 wk, .int .i64 s, .int .i64 ep, .slice A2 ns.length c2] 46 (0, 0))) := (Below.refl _ _).alloc (Nat.le_refl _) _
      have hk2 : Below k3.heap.size k3 (World.alloc m1 (.cells #[.int .i64 k, .int .i64 j, .int .i64 t, .int .i64 wk, .int .i64 s, .int .i64 ep, .slice A2 ns.length c2] 46 (0, 0))) := hk1.trans (hbn.mono hk1.size)
      have hx9 := heap_alloc_new m1 (.cells #[.int .i64 k, .int .i64 j, .int .i64 t, .int .i64 wk, .int .i64 s, .int .i64 ep, .slice A2 ns.length c2] 46 (0, 0))
      have hs4 := hs3.keep hbn
      have q1d := cellb hbn q1c
      clear hbn
      generalize World.alloc m1 (.cells #[.int .i64 k, .int .i64 j, .int .i64 t, .int .i64 wk, .int .i64 s, .int .i64 ep, .slice A2 ns.length c2] 46 (0, 0)) = m2 at *
      generalize (World.heap m1).size = N9 at *
      refine wpAnyH_ready (rs := [8]) (by kernel_rfl) (by simp) ?_
      refine (AllReadyH.cons rfl (fun K hK => ?_) AllReadyH.nil)
      refine step_append_slw rfl (.tmp 32) (.tmp 35) 67 rfl B 46 Tryz.underlying67 info_rec rfl (by omega) rfl (own_keep HR5.out.1 hk2) rfl (sl_blk7 hx9) (by simp [Value.oneCell']) ?c1 ?c2 ?c3 ?_
      case c1 => unfold maxLen; omega
      case c2 => omega
      case c3 => have := hk2.size; omega
      intro v5 w6 ho5 ht5 hw5
      have hk6 : Tch (fun g => g = G ∨ (Value.slice A els.length c).ownBlock = some g) k3 w6 := (Tch.of_below hk2).trans ht5 (fun g hg _ => .inr hg)
      have HO6 : RowR w6 B v5 (els ++ [(Rc.mk k j t wk s ep ns, A2, c2)]) := RowR.push (HR5.out.keep hk2) (hs4.mono (show B ≤ k3.heap.size by omega)) (by simpa [rcc] using ho5) (fun g _ hl hne => ht5.keep g hne hl)
      have HD6 := (HD5.out.below hk2).row (own_keep HR5.out.1 hk2) ht5
      have HG6 := ht5.block (keep0 HG5.out hk2) (fun hg => own_apart_blk HR5.out.1 HG5.out (by decide) G hg rfl)
      have hw6 : v5.ownBlock = (Value.slice A els.length c).ownBlock ∨ ∀ g, v5.ownBlock = some g → N ≤ g := hw5.imp id (fun h g hg => Nat.le_trans (by have := hk2.size; omega) (h g hg))
      clear ht5 hw5 ho5 hs4 hx9 q1d
      obtain ⟨A6, c6, rfl, _⟩ := Sl.of_own HO6.1
      have HLE : (els ++ [(Rc.mk k j t wk s ep ns, A2, c2)]).length = els.length + 1 := by rw [List.length_append]; rfl
      rw [HLE] at HO6 hw6
      have HTS := tch_set w6 G 1 (.slice A6 (els.length + 1) c6)
      have HG7 : (w6.setCell ⟨G, 1, none⟩ (.slice A6 (els.length + 1) c6)).heap[G]? = some (.cells #[.pointer (some ⟨D, 0, none⟩), .slice A6 (els.length + 1) c6, .bool false] 94 (0, 0)) := by rw [heap_setCell_same w6 G 1 _ _ (.slice A6 (els.length + 1) c6) HG6]; rfl
      have HD7 := HD6.apart HG6 (by decide) (Ne.symm hGD) HTS
      have HR7 := HO6.apart HG6 (by decide) (by decide) HTS
      have hk7 : Tch (fun g => g = G ∨ (Value.slice A els.length c).ownBlock = some g) k3 (w6.setCell ⟨G, 1, none⟩ (.slice A6 (els.length + 1) c6)) := hk6.set G 1 _ (fun _ => .inl rfl)
      obtain ⟨⟨r0, r1, r2⟩, g0, g1, g2⟩ := three_cellsA HG6
      clear HTS HD6
      refine hK.out _ _ ?_ (fun hHeld2 => ?_)
      focus
        exact hS _ hk6
      clear hHeld
      have hHeld := hHeld2
      clear hHeld2 hK K
      try simp only [gt6, Act.put]
      refine tkA 9 ?_ rfl ?_ (by assumption) ?_; rotate_left; focus (intro U hU; (try dsimp only at hU); go_simp; try (with_reducible rfl))
      simp only [gt6, Act.put]
      refine tkA 10 ?_ rfl ?_ (by assumption) ?_; rotate_left; focus (intro U hU; (try dsimp only at hU); go_simp; try (with_reducible rfl))
      simp only [gt6, Act.put]
      refine wpAnyH_ready (rs := [11]) (by kernel_rfl) (by simp) ?_
      refine (AllReadyH.cons rfl (fun K hK => ?_) AllReadyH.nil)
      simp only [gt3]
      go_simp
      refine hK.out _ _ ?_ (fun hHeld2 => ?_)
      focus
        exact hS _ hk7
      clear hHeld
      have hHeld := hHeld2
      clear hHeld2 hK K
      try simp only [gt6, Act.put]
      refine wpAnyH_done (by kernel_rfl) ?_ _
      clear hHeld hS r0 r1 r2 g0 g1 g2
      go_wp2
      go_ret
      refine ⟨rfl, A6, c6, els ++ [(Rc.mk k j t wk s ep ns, A2, c2)], by rw [List.map_append]; rfl, ⟨by rw [HLE]; exact HG7, HD7, by rw [HLE]; exact HR7⟩, ?_, ?_⟩
      · exact (HT6.out.mono (fun g hg _ => .inl hg)).trans hk7 (fun g hg _ => .inr hg)
      · rw [HLE, HNN.out]; exact hw6
    · skip
      simp only [gt3]
      go_simp
      refine hK.out _ _ ?_ (fun hHeld2 => ?_)
      focus
        exact hS _ (Tch.of_below (hk1.alloc hk1.size _))
      clear hHeld
      have hHeld := hHeld2
      clear hHeld2 hK K
      try simp only [gt6, Act.put]
      have hbn : Below (World.heap m1).size m1 (World.alloc m1 (.cells #[.int .i64 k, .int .i64 j, .int .i64 t, .int .i64 wk, .int .i64 s, .int .i64 ep, .slice A2 ns.length c2] 46 (0, 0))) := (Below.refl _ _).alloc (Nat.le_refl _) _
      have hk2 : Below k3.heap.size k3 (World.alloc m1 (.cells #[.int .i64 k, .int .i64 j, .int .i64 t, .int .i64 wk, .int .i64 s, .int .i64 ep, .slice A2 ns.length c2] 46 (0, 0))) := hk1.trans (hbn.mono hk1.size)
      have hx9 := heap_alloc_new m1 (.cells #[.int .i64 k, .int .i64 j, .int .i64 t, .int .i64 wk, .int .i64 s, .int .i64 ep, .slice A2 ns.length c2] 46 (0, 0))
      have hs4 := hs3.keep hbn
      have q1d := cellb hbn q1c
      clear hbn
      generalize World.alloc m1 (.cells #[.int .i64 k, .int .i64 j, .int .i64 t, .int .i64 wk, .int .i64 s, .int .i64 ep, .slice A2 ns.length c2] 46 (0, 0)) = m2 at *
      generalize (World.heap m1).size = N9 at *
      refine wpAnyH_ready (rs := [4]) (by kernel_rfl) (by simp) ?_
      refine (AllReadyH.cons rfl (fun K hK => ?_) AllReadyH.nil)
      simp only [gt3]
      go_simp
      refine hK.out _ _ ?_ (fun hHeld2 => ?_)
      focus
        exact hS _ (Tch.of_below hk2)
      clear hHeld
      have hHeld := hHeld2
      clear hHeld2 hK K
      try simp only [gt6, Act.put]
      refine wpAnyH_ready (rs := [8]) (by kernel_rfl) (by simp) ?_
      refine (AllReadyH.cons rfl (fun K hK => ?_) AllReadyH.nil)
      refine step_append_slw rfl (.tmp 32) (.tmp 35) 67 rfl B 46 Tryz.underlying67 info_rec rfl (by omega) rfl (own_keep HR5.out.1 hk2) rfl (sl_blk7 hx9) (by simp [Value.oneCell']) ?c1 ?c2 ?c3 ?_
      case c1 => unfold maxLen; omega
      case c2 => omega
      case c3 => have := hk2.size; omega
      intro v5 w6 ho5 ht5 hw5
      have hk6 : Tch (fun g => g = G ∨ (Value.slice A els.length c).ownBlock = some g) k3 w6 := (Tch.of_below hk2).trans ht5 (fun g hg _ => .inr hg)
      have HO6 : RowR w6 B v5 (els ++ [(Rc.mk k j t wk s ep ns, A2, c2)]) := RowR.push (HR5.out.keep hk2) (hs4.mono (show B ≤ k3.heap.size by omega)) (by simpa [rcc] using ho5) (fun g _ hl hne => ht5.keep g hne hl)
      have HD6 := (HD5.out.below hk2).row (own_keep HR5.out.1 hk2) ht5
      have HG6 := ht5.block (keep0 HG5.out hk2) (fun hg => own_apart_blk HR5.out.1 HG5.out (by decide) G hg rfl)
      have hw6 : v5.ownBlock = (Value.slice A els.length c).ownBlock ∨ ∀ g, v5.ownBlock = some g → N ≤ g := hw5.imp id (fun h g hg => Nat.le_trans (by have := hk2.size; omega) (h g hg))
      clear ht5 hw5 ho5 hs4 hx9 q1d
      obtain ⟨A6, c6, rfl, _⟩ := Sl.of_own HO6.1
      have HLE : (els ++ [(Rc.mk k j t wk s ep ns, A2, c2)]).length = els.length + 1 := by rw [List.length_append]; rfl
      rw [HLE] at HO6 hw6
      have HTS := tch_set w6 G 1 (.slice A6 (els.length + 1) c6)
      have HG7 : (w6.setCell ⟨G, 1, none⟩ (.slice A6 (els.length + 1) c6)).heap[G]? = some (.cells #[.pointer (some ⟨D, 0, none⟩), .slice A6 (els.length + 1) c6, .bool false] 94 (0, 0)) := by rw [heap_setCell_same w6 G 1 _ _ (.slice A6 (els.length + 1) c6) HG6]; rfl
      have HD7 := HD6.apart HG6 (by decide) (Ne.symm hGD) HTS
      have HR7 := HO6.apart HG6 (by decide) (by decide) HTS
      have hk7 : Tch (fun g => g = G ∨ (Value.slice A els.length c).ownBlock = some g) k3 (w6.setCell ⟨G, 1, none⟩ (.slice A6 (els.length + 1) c6)) := hk6.set G 1 _ (fun _ => .inl rfl)
      obtain ⟨⟨r0, r1, r2⟩, g0, g1, g2⟩ := three_cellsA HG6
      clear HTS HD6
      refine hK.out _ _ ?_ (fun hHeld2 => ?_)
      focus
        exact hS _ hk6
      clear hHeld
      have hHeld := hHeld2
      clear hHeld2 hK K
      try simp only [gt6, Act.put]
      refine tkA 9 ?_ rfl ?_ (by assumption) ?_; rotate_left; focus (intro U hU; (try dsimp only at hU); go_simp; try (with_reducible rfl))
      simp only [gt6, Act.put]
      refine tkA 10 ?_ rfl ?_ (by assumption) ?_; rotate_left; focus (intro U hU; (try dsimp only at hU); go_simp; try (with_reducible rfl))
      simp only [gt6, Act.put]
      refine wpAnyH_ready (rs := [11]) (by kernel_rfl) (by simp) ?_
      refine (AllReadyH.cons rfl (fun K hK => ?_) AllReadyH.nil)
      simp only [gt3]
      go_simp
      refine hK.out _ _ ?_ (fun hHeld2 => ?_)
      focus
        exact hS _ hk7
      clear hHeld
      have hHeld := hHeld2
      clear hHeld2 hK K
      try simp only [gt6, Act.put]
      refine wpAnyH_done (by kernel_rfl) ?_ _
      clear hHeld hS r0 r1 r2 g0 g1 g2
      go_wp2
      go_ret
      refine ⟨rfl, A6, c6, els ++ [(Rc.mk k j t wk s ep ns, A2, c2)], by rw [List.map_append]; rfl, ⟨by rw [HLE]; exact HG7, HD7, by rw [HLE]; exact HR7⟩, ?_, ?_⟩
      · exact (HT6.out.mono (fun g hg _ => .inl hg)).trans hk7 (fun g hg _ => .inr hg)
      · rw [HLE, HNN.out]; exact hw6
end Go.Proofs.YtkepfkfoblocgaaGreat

namespace Go.Proofs.YtkepfkfoblocgaaGreat
open Go.RowKit
set_option linter.unusedVariables false
set_option linter.unusedSimpArgs false

theorem apE_cases (room : Nat) (l m : List UInt8) (armed : Bool) : apE room l m armed = 7 ∨ apE room l m armed = 14 ∨ apE room l m armed = 0 := by
  unfold apE
  split
  · exact .inl rfl
  · split
    · exact .inr (.inl rfl)
    · exact .inr (.inr rfl)
theorem aappend_any {B G D room : Nat} {l : List UInt8} {armed : Bool} {fuse : Nat} {A : Option Addr} {c : Nat} {els : List El} {down : Bool} (x : Rc) (Ax : Option Addr) (cx : Nat) (W : World) (h : AnAt W B G D room l armed fuse A c els down) (hx : TxAt W Ax cx x.ns) (hB : B ≤ W.heap.size) (hGD : G ≠ D) (hr : room ≤ 65536) (hl : l.length ≤ room) (hn : els.length ≤ 100000) :
    Calls Tryz.prog 37 #[.pointer (some ⟨G, 0, none⟩), .agg (rcc x Ax cx)] W (AppR W B G D room l armed fuse A c els down x) := by
  cases hc : chkR x with
  | false => exact aappend_bad x Ax cx W h hx hc
  | true =>
    cases down with
    | true => exact aappend_down x Ax cx W h hx hc
    | false =>
      rcases apE_cases room l (fR x) armed with he | he | he
      · exact aappend_full x Ax cx W h hx hB hGD hr hl hn hc he
      · exact aappend_power x Ax cx W h hx hB hGD hr hl hn hc he
      · exact aappend_ok x Ax cx W h hx hB hGD hr hl hn hc he
theorem RowR.only {w w' : World} {B D room : Nat} {l : List UInt8} {armed : Bool} {fuse : Nat} {v : Value} {els : List El} (h : RowR w B v els) (hd : DiskAt w D room l armed fuse) (ho : Only D w w') : RowR w' B v els := by
  obtain ⟨A9, c9, h9, _⟩ := hd.open
  exact h.apart h9 (by decide) (by decide) (Tch.of_only (S := fun g => g = D) ho rfl hd.lt)
theorem AnAt.only {w w' : World} {B G D room : Nat} {l l2 : List UInt8} {armed armed2 : Bool} {fuse fuse2 : Nat} {A : Option Addr} {c : Nat} {els : List El} {down : Bool} (h : AnAt w B G D room l armed fuse A c els down) (hd : DiskAt w' D room l2 armed2 fuse2) (ho : Only D w w') (hne : G ≠ D) : AnAt w' B G D room l2 armed2 fuse2 A c els down :=
  ⟨ho.block h.1 hne, hd, h.2.2.only h.2.1 ho⟩
/-- Another row of records stays at an append. -/
theorem RowR.append {w w' : World} {B B2 G D room : Nat} {l : List UInt8} {armed : Bool} {fuse : Nat} {A : Option Addr} {c : Nat} {els els2 : List El} {down : Bool} {v : Value} (h : RowR w B v els) (ha : AnAt w B2 G D room l armed fuse A c els2 down) (hs : ∀ g, v.ownBlock = some g → (Value.slice A els2.length c).ownBlock ≠ some g)
    (ht : Tch (fun g => g = D ∨ g = G ∨ (Value.slice A els2.length c).ownBlock = some g) w w') : RowR w' B v els := by
  obtain ⟨A9, c9, h9, _⟩ := ha.2.1.open
  refine ⟨ht.own h.1 fun g hg hS => ?_, fun e he => ⟨ht.own (h.2 e he).1 fun g hg hS => ?_, (h.2 e he).2⟩⟩
  · rcases hS with h1 | h1 | h1
    · exact own_apart_blk h.1 h9 (by decide) g hg h1
    · exact own_apart_blk h.1 ha.1 (by decide) g hg h1
    · exact hs g hg h1
  · rcases hS with h1 | h1 | h1
    · exact own_apart_blk (h.2 e he).1 h9 (by decide) g hg h1
    · exact own_apart_blk (h.2 e he).1 ha.1 (by decide) g hg h1
    · exact own_apart (h.2 e he).1 ha.2.2.1 (by decide) g hg h1
theorem recS_chk : ∀ n l, l.length ≤ n → ∀ x ∈ (recS l).1, chkR x = true
  | n, l, hn, x, hx => by
    by_cases h : okR l
    · have := cutS_used l h.1
      cases n with
      | zero => omega
      | succ n =>
        rw [recS_step l h] at hx
        rcases List.mem_cons.1 hx with rfl | hx
        · exact (pr_ok _ h.2).1
        · exact recS_chk n _ (by rw [List.length_drop]; omega) x hx
    · rw [recS_stop l h] at hx
      cases hx
theorem recS_len2 (l : List UInt8) : (l.take (recS l).2).length = (recS l).2 := by
  have h := (recS_le l.length l (Nat.le_refl _)).1
  rw [List.length_take]
  omega
theorem recS_ns (l : List UInt8) : ∀ x ∈ (recS l).1, x.ns.length ≤ 16 := fun x hx => (chkR_ns (recS_chk l.length l (Nat.le_refl _) x hx)).1
theorem els_ns {els : List El} {l : List UInt8} (h : els.map (·.1) = (recS l).1) : ∀ e ∈ els, e.1.ns.length ≤ 100000 := fun e he => by
  have h1 : e.1 ∈ (recS l).1 := by rw [← h]; exact List.mem_map_of_mem he
  have := recS_ns l e.1 h1
  omega
theorem els_len {els : List El} {l : List UInt8} (h : els.map (·.1) = (recS l).1) : els.length ≤ l.length := by
  have h1 := congrArg List.length h
  rw [List.length_map] at h1
  have := recS_le l.length l (Nat.le_refl _)
  omega
end Go.Proofs.YtkepfkfoblocgaaGreat

namespace Go.Proofs.YtkepfkfoblocgaaGreat
open Go.RowKit
set_option linter.unusedVariables false
set_option linter.unusedSimpArgs false

def x19 : Rc := ⟨3, 5, 2, 0, 0, 0, []⟩
theorem recS_nil : recS [] = ([], 0) := recS_short [] (by decide)
end Go.Proofs.YtkepfkfoblocgaaGreat
