/- net: Twice; the page's example; NetOrder. -/
import Derived.Test.YtempocdejbbaaaaNetE
namespace Go.Proofs.Ytempocdejbbaaaa
open Go.RowKit
set_option linter.unusedVariables false
set_option linter.unusedSimpArgs false

theorem NetAt.cells {B b : Nat} {m : Int} {l : List Tg} {w : World} (h : NetAt B b m l w) (k : Nat) (hk : k < l.length) : ∃ g c, w.cell? ⟨b, 1, none⟩ = some (.slice (some ⟨g, 0, none⟩) l.length c) ∧ w.cell? ⟨g, k * 4, none⟩ = some (.int .i64 l[k].from') ∧ w.cell? ⟨g, k * 4 + 1, none⟩ = some (.int .i64 l[k].to') ∧ w.cell? ⟨g, k * 4 + 2, none⟩ = some (.string (str l[k].s)) ∧ w.cell? ⟨g, k * 4 + 3, none⟩ = some (.bool l[k].t) := by
  obtain ⟨h0, A, c, h1, h2⟩ := h
  obtain ⟨g, cap, hA, hgB, hnc, hcm, hcl, _, hgl⟩ := own_open h2 (by omega) (by omega)
  cases hA
  have hx := tcells_get l k hk
  have y0 := hcl (k * 4) (by rw [tcells_length]; omega)
  have y1 := hcl (k * 4 + 1) (by rw [tcells_length]; omega)
  have y2 := hcl (k * 4 + 2) (by rw [tcells_length]; omega)
  have y3 := hcl (k * 4 + 3) (by rw [tcells_length]; omega)
  rw [List.getElem?_eq_getElem (by rw [tcells_length]; omega), List.getElem?_eq_getElem (by rw [tcells_length]; omega), List.getElem?_eq_getElem (by rw [tcells_length]; omega), List.getElem?_eq_getElem (by rw [tcells_length]; omega)] at hx
  obtain ⟨e0, e1, e2, e3⟩ := hx
  rw [Option.some.inj e0] at y0
  rw [Option.some.inj e1] at y1
  rw [Option.some.inj e2] at y2
  rw [Option.some.inj e3] at y3
  exact ⟨g, c, (two_cells h1).2.1, y0.1, y1.1, y2.1, y3.1⟩

set_option maxRecDepth 20000 in
set_option maxHeartbeats 4000000 in
theorem ntwice_any (B b : Nat) (m : Int) (l : List Tg) (k : Nat) (W : World) (h : NetAt B b m l W) (hB : B ≤ W.heap.size) (hl : l.length ≤ 100000) (hk : k < l.length) : Calls Try.prog 12 #[.pointer (some ⟨b, 0, none⟩), .int .i64 (k : Int)] W fun e w' => e = .returned (.int .i64 0) ∧ NetAt B b m (if (l.length : Int) < m then l ++ [l[k]] else l) w' ∧ Below B W w' ∧ Othr b W w' := by
  have HF := hid (nfind_any B b m l (k : Int) W h)
  rw [if_neg (by omega)] at HF
  have HA := hid (nadd_any B b m l l[k] W h hB hl)
  obtain ⟨g, c, c1, y0, y1, y2, y3⟩ := h.cells k hk
  have hk2 : (k : Int) < (l.length : Int) := by omega
  generalize l[k] = x at *
  obtain ⟨xf, xt, xs, xb⟩ := x
  simp only [tc] at HA y0 y1 y2 y3
  clear h
  generalize (if (l.length : Int) < m then l ++ [Tg.mk xf xt xs xb] else l) = l' at *
  go_enter Try.func12, Try.ntmps12
  go_wp2_with fail
  refine HF.out.mono ?_
  rintro e w1 ⟨rfl, rfl⟩
  go_wp2_with fail
  refine HA.out.mono ?_
  rintro e w3 ⟨rfl, hn3, hb3, ho3⟩
  have HN3 := hid hn3
  have HB3 := hid hb3
  have HO3 := hid ho3
  clear hn3 hb3 ho3 HA HF y0 y1 y2 y3 c1
  go_wp2
  go_ret
  exact ⟨rfl, HN3.out, HB3.out, HO3.out⟩

theorem s_97 : (⟨#[97]⟩ : ByteArray) = str [97] := rfl
theorem s_98 : (⟨#[98]⟩ : ByteArray) = str [98] := rfl
theorem nsend_ab (B b N : Nat) (w : World) (h : NetAt B b 9 [] w) (hN : w.heap[N]? = some (.cells #[.string ⟨#[97]⟩, .string ⟨#[98]⟩] 9 (0, 0))) (hne : N ≠ b) (hB : B ≤ w.heap.size) :
    Calls Try.prog 7 #[.pointer (some ⟨b, 0, none⟩), .int .i64 1, .int .i64 2, .slice (some ⟨N, 0, none⟩) 2 2] w fun e w' => e = .returned (.int .i64 2) ∧ NetAt B b 9 [Tg.mk 1 2 [97] false, Tg.mk 1 2 [98] false] w' ∧ Below B w w' := by
  have hs : ∀ w', w'.heap[N]? = some (.cells #[.string ⟨#[97]⟩, .string ⟨#[98]⟩] 9 (0, 0)) → Sl w' 1 (some ⟨N, 0, none⟩) 2 2 (scells [[97], [98]]) := fun w' h9 => ⟨rfl, Nat.le_refl _, by unfold maxLen; omega, fun _ => ⟨N, 0, rfl, fun i hi => by
    have hi2 : i < 2 := hi
    rw [cell_of_row _ N (0 + i) _ _ (0, 0) h9, Nat.zero_add]
    rcases (by omega : i = 0 ∨ i = 1) with rfl | rfl
    · rfl
    · rfl⟩⟩
  have h1 := nsend_any B b 9 1 2 [] (some ⟨N, 0, none⟩) 2 [[97], [98]] w h (hs w hN) (fun w' _ ho => hs w' (ho N _ _ _ hne (by decide) hN)) hB (by simp) (by simp)
  refine h1.mono ?_
  rintro e w' ⟨rfl, hn, hb, _⟩
  exact ⟨rfl, hn, hb⟩

set_option maxRecDepth 20000 in
set_option maxHeartbeats 4000000 in
theorem works28_any (W : World) : Calls Try.prog 19 #[] W fun e w' => e = .returned (.bool true) ∧ Below W.heap.size W w' := by
  go_enter Try.func19, Try.ntmps19
  go_wp2_with fail
  with_reducible refine (nnew_in 9 (by omega) (by omega) _).mono ?_
  rintro e w1 ⟨rfl, hn1, hb1⟩
  have hlt := hn1.lt
  go_wp2_with fail
  have hb2 : Below w1.heap.size w1 (w1.alloc (.cells #[.string ⟨#[97]⟩, .string ⟨#[98]⟩] 9)) := (Below.refl _ _).alloc (Nat.le_refl _) _
  refine (nsend_ab W.heap.size W.heap.size w1.heap.size _ (hn1.below hb2) (heap_alloc_new _ _) (by omega) (Nat.le_trans hb1.size hb2.size)).mono ?_
  rintro e w3 ⟨rfl, hn3, hb3⟩
  have HB3 := hid (hb1.trans ((hb2.mono hb1.size).trans hb3))
  have HN3 := hid hn3
  clear hn1 hb1 hb2 hb3 hn3 hlt
  have HT := hid (ntwice_any W.heap.size W.heap.size 9 [Tg.mk 1 2 [97] false, Tg.mk 1 2 [98] false] 0 w3 HN3.out HB3.out.size (by simp) (by simp))
  go_wp2_with fail
  refine HT.out.mono ?_
  rintro e w4 ⟨rfl, hn4, hb4, _⟩
  have HB4 := hid (HB3.out.trans hb4)
  have HN4 : Hid (NetAt W.heap.size W.heap.size 9 [Tg.mk 1 2 [97] false, Tg.mk 1 2 [98] false, Tg.mk 1 2 [97] false] w4) := hid hn4
  clear hb4 hn4 HN3 HB3 HT
  have HL := hid (nlen_any _ _ _ _ w4 HN4.out)
  have HTK : Hid (Calls Try.prog 9 #[.pointer (some ⟨W.heap.size, 0, none⟩), .int .i64 1] w4 fun e w' => e = .returned (.tuple #[.agg #[.int .i64 1, .int .i64 2, .string ⟨#[98]⟩, .bool false], .int .i64 0]) ∧ NetAt W.heap.size W.heap.size 9 [Tg.mk 1 2 [97] false, Tg.mk 1 2 [97] false] w' ∧ Below W.heap.size w4 w' ∧ Othr W.heap.size w4 w') := hid (ntake_any W.heap.size W.heap.size 9 _ 1 w4 HN4.out HB4.out.size (by simp) (by simp))
  go_wp2_with fail
  refine HL.out.mono ?_
  rintro e w5 ⟨rfl, rfl⟩
  go_wp2_with fail
  refine HTK.out.mono ?_
  rintro e w5 ⟨rfl, hn5, hb5, _⟩
  have HB5 := hid (HB4.out.trans hb5)
  have HN5 := hid hn5
  clear hb5 hn5 HN4 HB4 HTK HL
  go_upto_region 5 with (fail)
  have hb6 : Below w5.heap.size w5 (w5.alloc (.cells #[.int .i64 1, .int .i64 2, .string ⟨#[98]⟩, .bool false] 37)) := (Below.refl _ _).alloc (Nat.le_refl _) _
  refine at_world (fun w => w.heap[w5.heap.size]? = some (.cells #[.int .i64 1, .int .i64 2, .string ⟨#[98]⟩, .bool false] 37 (0, 0)) ∧ NetAt W.heap.size W.heap.size 9 [Tg.mk 1 2 [97] false, Tg.mk 1 2 [97] false] w ∧ Below W.heap.size W w) ⟨heap_alloc_new _ _, HN5.out.below hb6, HB5.out.trans (hb6.mono HB5.out.size)⟩ ?_
  clear hb6
  rintro w6 ⟨hx, hn6, hb6⟩
  have HN6 := hid (nlen_any _ _ _ _ w6 hn6)
  have HB6 := hid hb6
  obtain ⟨⟨x0, x1, x2, x3⟩, _⟩ := four_cells hx
  have e98 : ((⟨#[98]⟩ : ByteArray).toList == (⟨#[98]⟩ : ByteArray).toList) = true := by simp
  clear hx hn6 hb6 HN5 HB5
  go_wp2_with fail
  refine HN6.out.mono ?_
  rintro e w7 ⟨rfl, rfl⟩
  go_wp2
  go_ret
  exact ⟨rfl, HB6.out⟩

theorem sendL_take (m : Nat) (f t : Int) : ∀ (l : List Tg) (ss : List (List UInt8)), l.length ≤ m → sendL m f t l ss = l ++ (tgs f t ss).take (m - l.length)
  | l, [], _ => by simp [sendL, tgs]
  | l, s :: ss, h => by
    rw [sendL]
    by_cases hm : l.length < m
    · rw [if_pos (by omega), sendL_take m f t _ ss (by rw [List.length_append, List.length_singleton]; omega), List.length_append, List.length_singleton, List.append_assoc]
      obtain ⟨j, hj⟩ : ∃ j, m - l.length = j + 1 := ⟨m - l.length - 1, by omega⟩
      rw [hj, show m - (l.length + 1) = j by omega]
      simp [tgs]
    · rw [if_neg (by omega), sendL_take m f t l ss h, show m - l.length = 0 by omega]
      simp
theorem sendL_0 (m : Nat) (f t : Int) (ss : List (List UInt8)) : sendL m f t [] ss = (tgs f t ss).take m := by
  rw [sendL_take m f t [] ss (Nat.zero_le _)]; simp
theorem tgs_len (f t : Int) (ss : List (List UInt8)) : (tgs f t ss).length = ss.length := by simp [tgs]

set_option maxRecDepth 20000 in
set_option maxHeartbeats 4000000 in
theorem netOrder_law (m : Nat) (hm : m < 256) (A : Option Addr) (cap : Nat) (ss : List (List UInt8)) (W : World) (hA : Sl W 1 A ss.length cap (scells ss)) (hw : ∀ s ∈ ss, s.length ≤ maxLen) :
    Calls Try.prog 4 #[.int .u8 (m : Nat), .slice A ss.length cap] W fun e w' => e = .returned (.bool true) ∧ Below W.heap.size W w' := by
  have HW := hid works28_any
  have HL := hid (long_any A ss.length cap ss 300 100 W hA hw)
  have HA := hid hA
  clear hA hw
  by_cases hlong : longB ss 300 100 = true
  · rw [hlong] at HL
    clear hlong
    go_enter Try.func4, Try.ntmps4
    go_wp2_with fail
    refine HL.out.mono ?_
    rintro e w1 ⟨rfl, rfl⟩
    go_wp2_with (go_at_call 19; refine (HW.out _).mono ?_; rintro e w7 ⟨rfl, hb7⟩)
    go_ret
    exact ⟨rfl, hb7⟩
  · have hl0 : longB ss 300 100 = false := by simpa using hlong
    have hl3 := (longB_no hl0).2
    rw [hl0] at HL
    clear hlong hl0
    by_cases h0 : m = 0
    · subst h0
      go_enter Try.func4, Try.ntmps4
      go_wp2_with fail
      refine HL.out.mono ?_
      rintro e w1 ⟨rfl, rfl⟩
      go_wp2_with (go_at_call 19; refine (HW.out _).mono ?_; rintro e w7 ⟨rfl, hb7⟩)
      go_ret
      exact ⟨rfl, hb7⟩
    · have hm0 : ¬ ((m : Nat) : Int) = 0 := by omega
      have hwr : wrap64 (m : Int) = (m : Int) := by unfold wrap64; omega
      have hss : ss.length ≤ 300 := by omega
      have HNW := hid (nnew_in (m : Int) (by omega) (by omega) W)
      have hmin : min (ss.length : Int) (m : Int) = ((min ss.length m : Nat) : Int) := by omega
      have HMN := hid hmin
      clear hmin h0
      go_enter Try.func4, Try.ntmps4
      go_wp2_with fail
      refine HL.out.mono ?_
      rintro e w1 ⟨rfl, rfl⟩
      go_wp2_with fail
      refine HNW.out.mono ?_
      rintro e w1 ⟨rfl, hn1, hb1⟩
      have HS : Hid (Calls Try.prog 7 #[.pointer (some ⟨W.heap.size, 0, none⟩), .int .i64 3, .int .i64 4, .slice A ss.length cap] w1 fun e w' => e = .returned (.int .i64 (((tgs 3 4 ss).take m).length : Nat)) ∧ NetAt W.heap.size W.heap.size (m : Int) ((tgs 3 4 ss).take m) w' ∧ Below W.heap.size w1 w' ∧ Othr W.heap.size w1 w') := hid (by
        have h9 := nsend_any W.heap.size W.heap.size (m : Int) 3 4 [] A cap ss w1 hn1 (HA.out.below hb1) (fun w hb _ => HA.out.below (hb1.trans hb)) hb1.size (by simp) (by omega)
        rw [sendL_0] at h9
        refine h9.mono ?_
        rintro e w' ⟨rfl, h8⟩
        exact ⟨by simp, h8⟩)
      have HXL : Hid (((tgs 3 4 ss).take m).length = min ss.length m) := hid (by rw [List.length_take, tgs_len, Nat.min_comm])
      have HXG : Hid (∀ i (h : i < ((tgs 3 4 ss).take m).length) (h2 : i < ss.length), ((tgs 3 4 ss).take m)[i] = Tg.mk 3 4 ss[i] false) := hid (fun i h h2 => by simp [tgs])
      generalize (tgs 3 4 ss).take m = X at *
      have hmin : min (ss.length : Int) (m : Int) = (X.length : Int) := by rw [HMN.out, HXL.out]
      have hXs : X.length ≤ ss.length := by rw [HXL.out]; exact Nat.min_le_left _ _
      have eN : ((X.length : Int) != (X.length : Int)) = false := by simp
      have HB1 := hid hb1
      clear hb1 hn1 HMN HXL HNW
      go_wp2_with fail
      refine HS.out.mono ?_
      rintro e w2 ⟨rfl, hn2, hb2, _⟩
      have HB2 := hid (HB1.out.trans hb2)
      have HN2 := hid hn2
      clear hb2 hn2 HS HB1
      generalize ((m : Int) == 0) = bb0
      go_wp2_with fail
      all_goals
        go_loopw [7] (fun i wr => ∃ k : Nat, k ≤ X.length ∧ i = .int .i64 (k : Int) ∧ Hid (NetAt W.heap.size W.heap.size (m : Int) (X.drop k) wr) ∧ Hid (Below W.heap.size W wr)) (fun i _ => X.length - (intOf i).toNat)
        case atStart => exact ⟨0, by omega, rfl, HN2.out, HB2.out⟩
        case round =>
          obtain ⟨k, hk, rfl, HN, HB⟩ := hrel
          by_cases hlt : k < X.length
          · have hlt2 : (k : Int) < (X.length : Int) := by omega
            have HT := hid (ntake_any W.heap.size W.heap.size (m : Int) (X.drop k) 0 wr HN.out HB.out.size (by rw [List.length_drop]; omega) (by rw [List.length_drop]; omega))
            have e0 : (X.drop k)[0]'(by rw [List.length_drop]; omega) = Tg.mk 3 4 (ss[k]'(by omega)) false := by
              rw [List.getElem_drop]
              exact HXG.out k hlt (by omega)
            have e1 : (X.drop k).eraseIdx 0 = X.drop (k + 1) := by
              rw [List.eraseIdx_zero, List.tail_drop]
            rw [e0, e1] at HT
            simp only [tc] at HT
            obtain ⟨b', off, hAd, hc⟩ := Sl.at HA.out k (by rw [scells_length]; omega)
            subst hAd
            have e2 : (scells ss)[k]'(by rw [scells_length]; omega) = .string (str (ss[k]'(by omega))) := by simp [scells]
            rw [e2] at hc
            have hks : (k : Int) < (ss.length : Int) := by omega
            generalize ss[k]'(by omega) = s at hc HT
            have HC := hid hc
            clear e0 e1 e2 hc
            generalize str s = sb at *
            go_wp2_with fail
            refine HT.out.mono ?_
            rintro e w3 ⟨rfl, hn3, hb3, _⟩
            have HN3 := hid hn3
            have HB3 := hid (HB.out.trans hb3)
            clear hn3 hb3 HT HN HB
            go_upto_region 11 with (fail)
            have hb4 : Below w3.heap.size w3 (w3.alloc (.cells #[.int .i64 3, .int .i64 4, .string sb, .bool false] 37)) := (Below.refl _ _).alloc (Nat.le_refl _) _
            refine at_world (fun w => w.heap[w3.heap.size]? = some (.cells #[.int .i64 3, .int .i64 4, .string sb, .bool false] 37 (0, 0)) ∧ NetAt W.heap.size W.heap.size (m : Int) (X.drop (k + 1)) w ∧ Below W.heap.size W w) ⟨heap_alloc_new _ _, HN3.out.below hb4, HB3.out.trans (hb4.mono HB3.out.size)⟩ ?_
            clear hb4
            rintro w6 ⟨hx, hn6, hb6⟩
            have HN6 := hid hn6
            have HB6 := hid hb6
            obtain ⟨⟨x0, x1, x2, x3⟩, _⟩ := four_cells hx
            have hc6 := cellb hb6 HC.out
            have e98 : (sb.toList != sb.toList) = false := by simp
            clear hx hn6 hb6 HN3 HB3
            go_quiet (fail)
            go_wp2
            go_roundw
            case rel => exact ⟨k + 1, by omega, by go_num, HN6.out.below (below_drewN1 w6 nq), HB6.out.trans ((below_drewN1 w6 nq).mono HB6.out.size)⟩
            case measure => simp [intOf]; omega
          · obtain rfl : k = X.length := by omega
            have hge : ¬ ((X.length : Nat) : Int) < ((X.length : Nat) : Int) := by omega
            have HT := hid (ntake_out W.heap.size W.heap.size (m : Int) (X.drop X.length) 0 wr HN.out (.inr (by simp)))
            clear hlt hk
            go_wp2_with fail
            refine HT.out.mono ?_
            rintro e w3 ⟨rfl, hb3⟩
            have HB3 := hid (HB.out.trans (hb3.mono HB.out.size))
            clear hb3 HT HN HB
            go_upto_region 14 with (fail)
            have hb4 : Below w3.heap.size w3 (w3.alloc (.cells #[.int .i64 0, .int .i64 0, .string ⟨#[]⟩, .bool false] 37)) := (Below.refl _ _).alloc (Nat.le_refl _) _
            refine at_world (fun w => Below W.heap.size W w) (HB3.out.trans (hb4.mono HB3.out.size)) ?_
            clear hb4
            intro w6 hb6
            have HB6 := hid hb6
            clear hb6 HB3
            go_wp2_with (go_at_call 19; refine (HW.out _).mono ?_; rintro e w7 ⟨rfl, hb7⟩)
            go_ret
            exact ⟨rfl, HB6.out.trans (hb7.mono HB6.out.size)⟩
end Go.Proofs.Ytempocdejbbaaaa
