/- net: Twice; the page's example; NetOrder. -/
import Derived.Test.YtdphdodjidbngaaNetE
namespace Go.Proofs.Ytdphdodjidbngaa
open Go.RowKit
set_option linter.unusedVariables false
set_option linter.unusedSimpArgs false

theorem NetAt.cells {B b : Nat} {m : Int} {l : List Tg} {w : World} (h : NetAt B b m l w) (k : Nat) (hk : k < l.length) : ∃ g c, w.cell? ⟨b, 1, none⟩ = some (.slice (some ⟨g, 0, none⟩) l.length c) ∧ w.cell? ⟨g, k * 4, none⟩ = some (.int .i64 l[k].from') ∧ w.cell? ⟨g, k * 4 + 1, none⟩ = some (.int .i64 l[k].to') ∧ w.cell? ⟨g, k * 4 + 2, none⟩ = some (.string (str l[k].s)) ∧ w.cell? ⟨g, k * 4 + 3, none⟩ = some (.bool l[k].t) := by
  obtain ⟨h0, A, c, h1, h2⟩ := h
  obtain ⟨g, cap, hA, hgB, hnc, hcm, hcl, _, hgl⟩ := own_open h2 (by omega) (by omega)
  cases hA
  have hx := tcells_get l k hk
  have y0 := hcl (k * 4) (by rw [tcells_length]; omega)
  have y1 := hcl (k * 4 + 1) (by rw [tcells_length]; omega)
  have y2 := hcl (k * 4 + 2) (by rw [tcells_length]; omega)
  have y3 := hcl (k * 4 + 3) (by rw [tcells_length]; omega)
  rw [List.getElem?_eq_getElem (by rw [tcells_length]; omega), List.getElem?_eq_getElem (by rw [tcells_length]; omega), List.getElem?_eq_getElem (by rw [tcells_length]; omega), List.getElem?_eq_getElem (by rw [tcells_length]; omega)] at hx
  obtain ⟨e0, e1, e2, e3⟩ := hx
  rw [Option.some.inj e0] at y0
  rw [Option.some.inj e1] at y1
  rw [Option.some.inj e2] at y2
  rw [Option.some.inj e3] at y3
  exact ⟨g, c, (two_cells h1).2.1, y0.1, y1.1, y2.1, y3.1⟩

set_option maxRecDepth 20000 in
set_option maxHeartbeats 4000000 in
theorem ntwice_any (B b : Nat) (m : Int) (l : List Tg) (k : Nat) (W : World) (h : NetAt B b m l W) (hB : B ≤ W.heap.size) (hl : l.length ≤ 100000) (hk : k < l.length) : Calls Try.prog 30 #[.pointer (some ⟨b, 0, none⟩), .int .i64 (k : Int)] W fun e w' => e = .returned (.int .i64 0) ∧ NetAt B b m (if (l.length : Int) < m then l ++ [l[k]] else l) w' ∧ Below B W w' ∧ Othr b W w' := by
  have HF := hid (nfind_any B b m l (k : Int) W h)
  rw [if_neg (by omega)] at HF
  have HA := hid (nadd_any B b m l l[k] W h hB hl)
  obtain ⟨g, c, c1, y0, y1, y2, y3⟩ := h.cells k hk
  have hk2 : (k : Int) < (l.length : Int) := by omega
  generalize l[k] = x at *
  obtain ⟨xf, xt, xs, xb⟩ := x
  simp only [tc] at HA y0 y1 y2 y3
  clear h
  generalize (if (l.length : Int) < m then l ++ [Tg.mk xf xt xs xb] else l) = l' at *
  go_enter Try.func30, Try.ntmps30
  go_wp2_with fail
  refine HF.out.mono ?_
  rintro e w1 ⟨rfl, rfl⟩
  go_wp2_with fail
  refine HA.out.mono ?_
  rintro e w3 ⟨rfl, hn3, hb3, ho3⟩
  have HN3 := hid hn3
  have HB3 := hid hb3
  have HO3 := hid ho3
  clear hn3 hb3 ho3 HA HF y0 y1 y2 y3 c1
  go_wp2
  go_ret
  exact ⟨rfl, HN3.out, HB3.out, HO3.out⟩

theorem s_97 : (⟨#[97]⟩ : ByteArray) = str [97] := rfl
theorem s_98 : (⟨#[98]⟩ : ByteArray) = str [98] := rfl
theorem nsend_ab (B b N : Nat) (w : World) (h : NetAt B b 9 [] w) (hN : w.heap[N]? = some (.cells #[.string ⟨#[97]⟩, .string ⟨#[98]⟩] 9 (0, 0))) (hne : N ≠ b) (hB : B ≤ w.heap.size) :
    Calls Try.prog 25 #[.pointer (some ⟨b, 0, none⟩), .int .i64 1, .int .i64 2, .slice (some ⟨N, 0, none⟩) 2 2] w fun e w' => e = .returned (.int .i64 2) ∧ NetAt B b 9 [Tg.mk 1 2 [97] false, Tg.mk 1 2 [98] false] w' ∧ Below B w w' := by
  have hs : ∀ w', w'.heap[N]? = some (.cells #[.string ⟨#[97]⟩, .string ⟨#[98]⟩] 9 (0, 0)) → Sl w' 1 (some ⟨N, 0, none⟩) 2 2 (scells [[97], [98]]) := fun w' h9 => ⟨rfl, Nat.le_refl _, by unfold maxLen; omega, fun _ => ⟨N, 0, rfl, fun i hi => by
    have hi2 : i < 2 := hi
    rw [cell_of_row _ N (0 + i) _ _ (0, 0) h9, Nat.zero_add]
    rcases (by omega : i = 0 ∨ i = 1) with rfl | rfl
    · rfl
    · rfl⟩⟩
  have h1 := nsend_any B b 9 1 2 [] (some ⟨N, 0, none⟩) 2 [[97], [98]] w h (hs w hN) (fun w' _ ho => hs w' (ho N _ _ _ hne (by decide) hN)) hB (by simp) (by simp)
  refine h1.mono ?_
  rintro e w' ⟨rfl, hn, hb, _⟩
  exact ⟨rfl, hn, hb⟩

set_option maxRecDepth 20000 in
set_option maxHeartbeats 4000000 in
theorem works28_any (W : World) : Calls Try.prog 37 #[] W fun e w' => e = .returned (.bool true) ∧ Below W.heap.size W w' := by
  go_enter Try.func37, Try.ntmps37
  go_wp2_with fail
  with_reducible refine (nnew_in 9 (by omega) (by omega) _).mono ?_
  rintro e w1 ⟨rfl, hn1, hb1⟩
  have hlt := hn1.lt
  go_wp2_with fail
  have hb2 : Below w1.heap.size w1 (w1.alloc (.cells #[.string ⟨#[97]⟩, .string ⟨#[98]⟩] 9)) := (Below.refl _ _).alloc (Nat.le_refl _) _
  refine (nsend_ab W.heap.size W.heap.size w1.heap.size _ (hn1.below hb2) (heap_alloc_new _ _) (by omega) (Nat.le_trans hb1.size hb2.size)).mono ?_
  rintro e w3 ⟨rfl, hn3, hb3⟩
  have HB3 := hid (hb1.trans ((hb2.mono hb1.size).trans hb3))
  have HN3 := hid hn3
  clear hn1 hb1 hb2 hb3 hn3 hlt
  have HT := hid (ntwice_any W.heap.size W.heap.size 9 [Tg.mk 1 2 [97] false, Tg.mk 1 2 [98] false] 0 w3 HN3.out HB3.out.size (by simp) (by simp))
  go_wp2_with fail
  refine HT.out.mono ?_
  rintro e w4 ⟨rfl, hn4, hb4, _⟩
  have HB4 := hid (HB3.out.trans hb4)
  have HN4 : Hid (NetAt W.heap.size W.heap.size 9 [Tg.mk 1 2 [97] false, Tg.mk 1 2 [98] false, Tg.mk 1 2 [97] false] w4) := hid hn4
  clear hb4 hn4 HN3 HB3 HT
  have HL := hid (nlen_any _ _ _ _ w4 HN4.out)
  have HTK : Hid (Calls Try.prog 27 #[.pointer (some ⟨W.heap.size, 0, none⟩), .int .i64 1] w4 fun e w' => e = .returned (.tuple #[.agg #[.int .i64 1, .int .i64 2, .string ⟨#[98]⟩, .bool false], .int .i64 0]) ∧ NetAt W.heap.size W.heap.size 9 [Tg.mk 1 2 [97] false, Tg.mk 1 2 [97] false] w' ∧ Below W.heap.size w4 w' ∧ Othr W.heap.size w4 w') := hid (ntake_any W.heap.size W.heap.size 9 _ 1 w4 HN4.out HB4.out.size (by simp) (by simp))
  go_wp2_with fail
  refine HL.out.mono ?_
  rintro e w5 ⟨rfl, rfl⟩
  go_wp2_with fail
  refine HTK.out.mono ?_
  rintro e w5 ⟨rfl, hn5, hb5, _⟩
  have HB5 := hid (HB4.out.trans hb5)
  have HN5 := hid hn5
  clear hb5 hn5 HN4 HB4 HTK HL
  go_upto_region 5 with (fail)
  have hb6 : Below w5.heap.size w5 (w5.alloc (.cells #[.int .i64 1, .int .i64 2, .string ⟨#[98]⟩, .bool false] 60)) := (Below.refl _ _).alloc (Nat.le_refl _) _
  refine at_world (fun w => w.heap[w5.heap.size]? = some (.cells #[.int .i64 1, .int .i64 2, .string ⟨#[98]⟩, .bool false] 60 (0, 0)) ∧ NetAt W.heap.size W.heap.size 9 [Tg.mk 1 2 [97] false, Tg.mk 1 2 [97] false] w ∧ Below W.heap.size W w) ⟨heap_alloc_new _ _, HN5.out.below hb6, HB5.out.trans (hb6.mono HB5.out.size)⟩ ?_
  clear hb6
  rintro w6 ⟨hx, hn6, hb6⟩
  have HN6 := hid (nlen_any _ _ _ _ w6 hn6)
  have HB6 := hid hb6
  obtain ⟨⟨x0, x1, x2, x3⟩, _⟩ := four_cells hx
  have e98 : ((⟨#[98]⟩ : ByteArray).toList == (⟨#[98]⟩ : ByteArray).toList) = true := by simp
  clear hx hn6 hb6 HN5 HB5
  go_wp2_with fail
  refine HN6.out.mono ?_
  rintro e w7 ⟨rfl, rfl⟩
  go_wp2
  go_ret
  exact ⟨rfl, HB6.out⟩

theorem sendL_take (m : Nat) (f t : Int) : ∀ (l : List Tg) (ss : List (List UInt8)), l.length ≤ m → sendL m f t l ss = l ++ (tgs f t ss).take (m - l.length)
  | l, [], _ => by simp [sendL, tgs]
  | l, s :: ss, h => by
    rw [sendL]
    by_cases hm : l.length < m
    · rw [if_pos (by omega), sendL_take m f t _ ss (by rw [List.length_append, List.length_singleton]; omega), List.length_append, List.length_singleton, List.append_assoc]
      obtain ⟨j, hj⟩ : ∃ j, m - l.length = j + 1 := ⟨m - l.length - 1, by omega⟩
      rw [hj, show m - (l.length + 1) = j by omega]
      simp [tgs]
    · rw [if_neg (by omega), sendL_take m f t l ss h, show m - l.length = 0 by omega]
      simp
theorem sendL_0 (m : Nat) (f t : Int) (ss : List (List UInt8)) : sendL m f t [] ss = (tgs f t ss).take m := by
  rw [sendL_take m f t [] ss (Nat.zero_le _)]; simp
theorem tgs_len (f t : Int) (ss : List (List UInt8)) : (tgs f t ss).length = ss.length := by simp [tgs]

end Go.Proofs.Ytdphdodjidbngaa

