/- The law PaceGoes, as a walk. -/
import Derived.Test.YtaeonkggilgjpaaPaceL
namespace Go.Proofs.Ytaeonkggilgjpaa
open Go.RowKit Go.Sort

set_option maxHeartbeats 1000000 in
theorem paceGoes_no (p q : Int) (N : Nat) (W : World) (hN : N < 256) (hp : pok p q = false) : Calls Try.prog 8 #[.agg #[.int .i64 p, .int .i64 q], .int .u8 N] W fun e w' => e = .returned (.bool true) ∧ Below W.heap.size W w' := by
  have HC := hid (check_any p q)
  rw [hp] at HC
  clear hp
  go_enter Try.func8, Try.ntmps8
  go_wp2_with fail
  refine (HC.out _).mono ?_
  rintro e w1 ⟨rfl, hb⟩
  have hb1 := (below2 W _ _).trans (hb.mono (by simp; omega))
  obtain ⟨k0, k1⟩ := blk_after hb
  obtain ⟨q0, q1, g0, g1⟩ := two_cells k1
  clear hb k0 k1
  go_wp2_with fail
  refine (start_any p q _).mono ?_
  rintro e w5 ⟨rfl, hb5⟩
  have hb6 := hb1.trans (hb5.mono hb1.size)
  have k6 := heap_alloc_new w5 (.cells #[.int .i64 1, .int .i64 1] 53)
  have b6 := hb6.alloc hb6.size (.cells #[.int .i64 1, .int .i64 1] 53)
  have HS := hid (And.intro b6 k6); clear b6 k6
  have hWY : W.heap.size ≤ w5.heap.size := hb6.size
  obtain ⟨Y, hY⟩ : ∃ Y, Y = w5.heap.size := ⟨_, rfl⟩
  go_wp2_with fail
  refine (within_any N _ (by omega)).mono ?_
  rintro e w' ⟨rfl, rfl⟩
  go_wp2_with fail
  go_loopw [10, 12] (fun t i wr => ∃ (j : Nat) (u l b : Int), 0 ≤ u ∧ u ≤ 2040 ∧ j ≤ 2040 ∧ i = .int .i64 u ∧ t = .int .i64 (j : Int) ∧ Below W.heap.size W wr ∧ Hid (wr.heap[w5.heap.size]? = some (.cells #[.int .i64 b, .int .i64 l] 53 (0, 0)) ∧ b = wt j ∧ 1 ≤ l ∧ l ≤ b ∧ u = tks j + wt j - l ∧ u ≤ tks N)) (fun _ i _ => (tks N - intOf i).toNat)
  case atStart => exact ⟨0, 0, 1, 1, by omega, by omega, by omega, rfl, rfl, HS.out.1, HS.out.2, rfl, by omega, by omega, rfl, by have := tks_bound N; omega⟩
  case round =>
    obtain ⟨j, u, l, b, hu, hu2, hj, rfl, rfl, hbr, HK⟩ := hrel
    by_cases hlt : u < tks N
    · obtain ⟨hblk, c1, c2, c3, c4, c5⟩ := HK.out
      obtain ⟨p0, p1, f0, f1⟩ := two_cells hblk
      have ht := tick_num j l c2 (by omega)
      have HT := hid (tick_any b l wr)
      rw [c1] at HT
      have hBl := lt_of_cell p0
      have hjN : j < N := by
        rcases Nat.lt_or_ge j N with h | h
        · exact h
        · have := tks_mono h; omega
      have hmn := tks_mono (show j + 1 ≤ N by omega)
      have hs := tks_succ j
      have hjb := tks_bound N
      have HH := hid (And.intro hblk (And.intro c1 (And.intro c2 (And.intro c3 (And.intro c4 (And.intro hmn (And.intro hs hjb)))))))
      by_cases hl : l = 1
      · subst hl
        have T1 := ht.1
        obtain ⟨T2, T3⟩ := ht.2.2 rfl
        have e1 : ((1 : Int) == 1) = true := rfl
        rw [T1, T2, T3, e1, ← c1] at HT
        clear ht T1 T2 T3 e1 hs c1 c2 c3 c4 c5 hblk hmn hjb
        have hu3 : u < 3000 := by omega
        go_wp2_with fail
        refine HT.out.mono ?_
        rintro e w6 ⟨rfl, hb7⟩
        have HK1 := hid ((hb7.block w5.heap.size hBl).trans HH.out.1)
        obtain ⟨p0, p1, f0, f1⟩ := two_cells HK1.out
        have hWz : w5.heap.size < w6.heap.size := Nat.lt_of_lt_of_le hBl hb7.size
        have hb8 := hbr.trans (hb7.mono hbr.size)
        have hne : w5.heap.size ≠ w6.heap.size := by omega
        go_wp2
        go_roundw
        case rel =>
          obtain ⟨_, c1, c2, c3, c4, hmn, hs, hjb⟩ := HH.out
          have hw := wt_or (j + 1)
          refine ⟨j + 1, u + 1, wt (j + 1), wt (j + 1), by omega, by omega, by omega, rfl, by go_num, ?_, ?_, rfl, by omega, by omega, by omega, by omega⟩
          · exact ((hb8.setCell (by exact hWY) _).setCell (by exact hWY) _).alloc (by simp; omega) _
          · exact (Below.heap_alloc _ _ _ (by simpa using hWz)).trans (set_two HK1.out _ _)
        case measure => simp [intOf]; omega
      · have T1 := ht.1
        obtain ⟨T2, T3⟩ := ht.2.1 hl
        have e1 : (l == 1) = false := by simp [hl]
        rw [T1, T2, T3, e1, ← c1] at HT
        clear ht T1 T2 T3 e1 hs c1 c2 c3 c4 c5 hblk hmn hjb
        have hu3 : u < 3000 := by omega
        go_wp2_with fail
        refine HT.out.mono ?_
        rintro e w6 ⟨rfl, hb7⟩
        have HK1 := hid ((hb7.block w5.heap.size hBl).trans HH.out.1)
        obtain ⟨p0, p1, f0, f1⟩ := two_cells HK1.out
        have hWz : w5.heap.size < w6.heap.size := Nat.lt_of_lt_of_le hBl hb7.size
        have hb8 := hbr.trans (hb7.mono hbr.size)
        have hne : w5.heap.size ≠ w6.heap.size := by omega
        go_wp2
        go_roundw
        case rel =>
          obtain ⟨_, c1, c2, c3, c4, hmn, hs, hjb⟩ := HH.out
          refine ⟨j, u + 1, l - 1, b, by omega, by omega, by omega, rfl, rfl, ?_, ?_, c1, by omega, by omega, by omega, by omega⟩
          · exact ((hb8.setCell (by exact hWY) _).setCell (by exact hWY) _).alloc (by simp; omega) _
          · exact (Below.heap_alloc _ _ _ (by simpa using hWz)).trans (set_two HK1.out _ _)
        case measure => simp [intOf]; omega
    · obtain ⟨hblk, c1, c2, c3, c4, c5⟩ := HK.out
      have hjN : j = N := by
        rcases Nat.lt_or_ge j N with h | h
        · have h1 := tks_mono (show j + 1 ≤ N by omega); have h2 := tks_succ j; omega
        · rcases Nat.lt_or_ge N j with h3 | h3
          · have h1 := tks_mono (show N + 1 ≤ j by omega); have h2 := tks_succ N; have h4 := wt_or N; omega
          · omega
      subst hjN
      have huu : tks j ≤ u := by omega
      clear hblk c1 c2 c3 c4 c5
      go_wp2_with fail
      refine (works13_any _).mono ?_
      rintro e w' ⟨rfl, rfl⟩
      go_wp2
      go_ret
      exact ⟨rfl, hbr⟩

set_option maxHeartbeats 1000000 in
theorem paceGoes_0 (p q : Int) (N : Nat) (W : World) (hN : N < 256) (hp : pok p q = true) (hq : q ≤ 0) : Calls Try.prog 8 #[.agg #[.int .i64 p, .int .i64 q], .int .u8 N] W fun e w' => e = .returned (.bool true) ∧ Below W.heap.size W w' := by
  obtain rfl : q = 0 := by have := (pok_iff p q).1 hp; omega
  have HC := hid (check_any p 0)
  rw [hp] at HC
  clear hp hq
  go_enter Try.func8, Try.ntmps8
  go_wp2_with fail
  refine (HC.out _).mono ?_
  rintro e w1 ⟨rfl, hb⟩
  have hb1 := (below2 W _ _).trans (hb.mono (by simp; omega))
  obtain ⟨k0, k1⟩ := blk_after hb
  obtain ⟨q0, q1, g0, g1⟩ := two_cells k1
  clear hb k0 k1
  go_wp2_with fail
  refine (start_any p 0 _).mono ?_
  rintro e w5 ⟨rfl, hb5⟩
  have hb6 := hb1.trans (hb5.mono hb1.size)
  have k6 := heap_alloc_new w5 (.cells #[.int .i64 1, .int .i64 1] 53)
  have b6 := hb6.alloc hb6.size (.cells #[.int .i64 1, .int .i64 1] 53)
  have HS := hid (And.intro b6 k6); clear b6 k6
  have hWY : W.heap.size ≤ w5.heap.size := hb6.size
  obtain ⟨Y, hY⟩ : ∃ Y, Y = w5.heap.size := ⟨_, rfl⟩
  go_wp2_with fail
  refine (within_any N _ (by omega)).mono ?_
  rintro e w' ⟨rfl, rfl⟩
  go_wp2_with fail
  go_loopw [10, 12] (fun t i wr => ∃ (j : Nat) (u l b : Int), 0 ≤ u ∧ u ≤ 2040 ∧ j ≤ 2040 ∧ i = .int .i64 u ∧ t = .int .i64 (j : Int) ∧ Below W.heap.size W wr ∧ Hid (wr.heap[w5.heap.size]? = some (.cells #[.int .i64 b, .int .i64 l] 53 (0, 0)) ∧ b = wt j ∧ 1 ≤ l ∧ l ≤ b ∧ u = tks j + wt j - l ∧ u ≤ tks N)) (fun _ i _ => (tks N - intOf i).toNat)
  case atStart => exact ⟨0, 0, 1, 1, by omega, by omega, by omega, rfl, rfl, HS.out.1, HS.out.2, rfl, by omega, by omega, rfl, by have := tks_bound N; omega⟩
  case round =>
    obtain ⟨j, u, l, b, hu, hu2, hj, rfl, rfl, hbr, HK⟩ := hrel
    by_cases hlt : u < tks N
    · obtain ⟨hblk, c1, c2, c3, c4, c5⟩ := HK.out
      obtain ⟨p0, p1, f0, f1⟩ := two_cells hblk
      have ht := tick_num j l c2 (by omega)
      have HT := hid (tick_any b l wr)
      rw [c1] at HT
      have hBl := lt_of_cell p0
      have hjN : j < N := by
        rcases Nat.lt_or_ge j N with h | h
        · exact h
        · have := tks_mono h; omega
      have hmn := tks_mono (show j + 1 ≤ N by omega)
      have hs := tks_succ j
      have hjb := tks_bound N
      have HH := hid (And.intro hblk (And.intro c1 (And.intro c2 (And.intro c3 (And.intro c4 (And.intro hmn (And.intro hs hjb)))))))
      by_cases hl : l = 1
      · subst hl
        have T1 := ht.1
        obtain ⟨T2, T3⟩ := ht.2.2 rfl
        have e1 : ((1 : Int) == 1) = true := rfl
        rw [T1, T2, T3, e1, ← c1] at HT
        clear ht T1 T2 T3 e1 hs c1 c2 c3 c4 c5 hblk hmn hjb
        have hu3 : u < 3000 := by omega
        go_wp2_with fail
        refine HT.out.mono ?_
        rintro e w6 ⟨rfl, hb7⟩
        have HK1 := hid ((hb7.block w5.heap.size hBl).trans HH.out.1)
        obtain ⟨p0, p1, f0, f1⟩ := two_cells HK1.out
        have hWz : w5.heap.size < w6.heap.size := Nat.lt_of_lt_of_le hBl hb7.size
        have hb8 := hbr.trans (hb7.mono hbr.size)
        have hne : w5.heap.size ≠ w6.heap.size := by omega
        go_wp2
        go_roundw
        case rel =>
          obtain ⟨_, c1, c2, c3, c4, hmn, hs, hjb⟩ := HH.out
          have hw := wt_or (j + 1)
          refine ⟨j + 1, u + 1, wt (j + 1), wt (j + 1), by omega, by omega, by omega, rfl, by go_num, ?_, ?_, rfl, by omega, by omega, by omega, by omega⟩
          · exact ((hb8.setCell (by exact hWY) _).setCell (by exact hWY) _).alloc (by simp; omega) _
          · exact (Below.heap_alloc _ _ _ (by simpa using hWz)).trans (set_two HK1.out _ _)
        case measure => simp [intOf]; omega
      · have T1 := ht.1
        obtain ⟨T2, T3⟩ := ht.2.1 hl
        have e1 : (l == 1) = false := by simp [hl]
        rw [T1, T2, T3, e1, ← c1] at HT
        clear ht T1 T2 T3 e1 hs c1 c2 c3 c4 c5 hblk hmn hjb
        have hu3 : u < 3000 := by omega
        go_wp2_with fail
        refine HT.out.mono ?_
        rintro e w6 ⟨rfl, hb7⟩
        have HK1 := hid ((hb7.block w5.heap.size hBl).trans HH.out.1)
        obtain ⟨p0, p1, f0, f1⟩ := two_cells HK1.out
        have hWz : w5.heap.size < w6.heap.size := Nat.lt_of_lt_of_le hBl hb7.size
        have hb8 := hbr.trans (hb7.mono hbr.size)
        have hne : w5.heap.size ≠ w6.heap.size := by omega
        go_wp2
        go_roundw
        case rel =>
          obtain ⟨_, c1, c2, c3, c4, hmn, hs, hjb⟩ := HH.out
          refine ⟨j, u + 1, l - 1, b, by omega, by omega, by omega, rfl, rfl, ?_, ?_, c1, by omega, by omega, by omega, by omega⟩
          · exact ((hb8.setCell (by exact hWY) _).setCell (by exact hWY) _).alloc (by simp; omega) _
          · exact (Below.heap_alloc _ _ _ (by simpa using hWz)).trans (set_two HK1.out _ _)
        case measure => simp [intOf]; omega
    · obtain ⟨hblk, c1, c2, c3, c4, c5⟩ := HK.out
      have hjN : j = N := by
        rcases Nat.lt_or_ge j N with h | h
        · have h1 := tks_mono (show j + 1 ≤ N by omega); have h2 := tks_succ j; omega
        · rcases Nat.lt_or_ge N j with h3 | h3
          · have h1 := tks_mono (show N + 1 ≤ j by omega); have h2 := tks_succ N; have h4 := wt_or N; omega
          · omega
      subst hjN
      have huu : tks j ≤ u := by omega
      clear hblk c1 c2 c3 c4 c5
      go_wp2_with fail
      refine (works13_any _).mono ?_
      rintro e w' ⟨rfl, rfl⟩
      go_wp2
      go_ret
      exact ⟨rfl, hbr⟩

set_option maxHeartbeats 1000000 in
theorem paceGoes_1 (p q : Int) (N : Nat) (W : World) (hN : N < 256) (hp : pok p q = true) (hq : 0 < q) : Calls Try.prog 8 #[.agg #[.int .i64 p, .int .i64 q], .int .u8 N] W fun e w' => e = .returned (.bool true) ∧ Below W.heap.size W w' := by
  have HC := hid (check_any p q)
  have HP := hid ((pok_iff p q).1 hp)
  have HD : Hid (pok (dbl p) (dbl p) = true) := by
    have h := HP.out
    rw [Hid, pok_iff]
    rcases h.1 with h | h | h | h <;> rw [h] <;> simp [dbl]
  rw [hp] at HC
  clear hp
  go_enter Try.func8, Try.ntmps8
  go_wp2_with fail
  refine (HC.out _).mono ?_
  rintro e w1 ⟨rfl, hb⟩
  have hb1 := (below2 W _ _).trans (hb.mono (by simp; omega))
  obtain ⟨k0, k1⟩ := blk_after hb
  obtain ⟨q0, q1, g0, g1⟩ := two_cells k1
  have K := hid k1
  clear hb k0 k1
  have hX : W.heap.size + 1 < w1.heap.size := lt_of_cell q0
  go_wp2_with fail
  go_loopw [6, 8] (fun t i wr => ∃ (k l b : Int) (told : Bool), 0 ≤ k ∧ k ≤ 8 ∧ i = .int .i64 k ∧ t = .bool told ∧ Below W.heap.size W wr ∧ Hid (wr.heap[W.heap.size + 1]? = some (.cells #[.int .i64 b, .int .i64 l] 53 (0, 0)) ∧ ((told = false ∧ k < q ∧ b = p ∧ l = q - k) ∨ (told = true ∧ k = q ∧ b = dbl p ∧ l = dbl p)))) (fun _ i _ => (q - intOf i).toNat)
  case atStart => exact ⟨0, q, p, false, by omega, by omega, rfl, rfl, hb1, ⟨K.out, .inl ⟨rfl, hq, rfl, by omega⟩⟩⟩
  case round =>
    obtain ⟨k, l, b, told, hk, hk8, rfl, rfl, hbr, HK⟩ := hrel
    obtain ⟨hblk, hor⟩ := HK.out
    obtain ⟨p0, p1, f0, f1⟩ := two_cells hblk
    have hBl : W.heap.size + 1 < wr.heap.size := lt_of_cell p0
    have HB := hid hblk
    clear hblk
    rcases hor with ⟨rfl, hkq, rfl, rfl⟩ | ⟨rfl, rfl, rfl, rfl⟩
    · have hkp : k < b := by have := HP.out; omega
      have hk9 : k < 8 := by have := HP.out; omega
      have hpk : pok b (q - k) = true := (pok_iff _ _).2 ⟨HP.out.1, by omega, by have := HP.out; omega⟩
      by_cases h1 : q - k = 1
      · have HT := hid (tick_any b 1 wr)
        rw [h1] at p1 hpk
        rw [show tkW b 1 = dbl b by rw [tkW, if_pos hpk]; rfl, show tkL b 1 = dbl b by rw [tkL, if_pos hpk]; rfl, show tkB b 1 = true by rw [tkB, hpk]; rfl] at HT
        have HQ := hid h1
        clear h1 hpk
        go_wp2_with fail
        refine HT.out.mono ?_
        rintro e w6 ⟨rfl, hb7⟩
        have HK1 := hid ((hb7.block (W.heap.size + 1) hBl).trans HB.out)
        obtain ⟨p0, p1, f0, f1⟩ := two_cells HK1.out
        have hb8 := hbr.trans (hb7.mono hbr.size)
        go_wp2_with fail
        refine (check_any (dbl b) (dbl b) _).mono ?_
        rintro e w7 ⟨rfl, hb9⟩
        rw [HD.out]
        have hb10 := ((hb8.setCell (p := ⟨W.heap.size + 1, 0, none⟩) (by simp) (.int .i64 (dbl b))).setCell (p := ⟨W.heap.size + 1, 1, none⟩) (by simp) (.int .i64 (dbl b))).trans (hb9.mono (by simp; exact hb8.size))
        have HL := hid ((hb9.block (W.heap.size + 1) (by simp; exact Nat.lt_of_lt_of_le hBl hb7.size)).trans (set_two HK1.out _ _))
        go_wp2
        go_roundw
        case rel => exact ⟨k + 1, dbl b, dbl b, true, by omega, by omega, rfl, rfl, hb10, ⟨HL.out, .inr ⟨rfl, by have := HQ.out; omega, rfl, rfl⟩⟩⟩
        case measure => simp [intOf]; omega
      · have HT := hid (tick_any b (q - k) wr)
        rw [show tkW b (q - k) = b by rw [tkW, if_pos hpk, if_neg h1], show tkL b (q - k) = q - k - 1 by rw [tkL, if_pos hpk, if_neg (by omega), if_neg h1], show tkB b (q - k) = false by simp [tkB, h1]] at HT
        have HC2 := hid (check_any b (q - k - 1))
        have hqb : q ≤ b := HP.out.2.2
        rw [show pok b (q - k - 1) = true from (pok_iff _ _).2 ⟨HP.out.1, by omega, by omega⟩] at HC2
        clear hpk
        go_wp2_with fail
        refine HT.out.mono ?_
        rintro e w6 ⟨rfl, hb7⟩
        have HK1 := hid ((hb7.block (W.heap.size + 1) hBl).trans HB.out)
        obtain ⟨p0, p1, f0, f1⟩ := two_cells HK1.out
        have hb8 := hbr.trans (hb7.mono hbr.size)
        go_wp2_with fail
        refine (HC2.out _).mono ?_
        rintro e w7 ⟨rfl, hb9⟩
        have hb10 := ((hb8.setCell (p := ⟨W.heap.size + 1, 0, none⟩) (by simp) (.int .i64 b)).setCell (p := ⟨W.heap.size + 1, 1, none⟩) (by simp) (.int .i64 (q - k - 1))).trans (hb9.mono (by simp; exact hb8.size))
        have HL := hid ((hb9.block (W.heap.size + 1) (by simp; exact Nat.lt_of_lt_of_le hBl hb7.size)).trans (set_two HK1.out _ _))
        go_wp2
        go_roundw
        case rel => exact ⟨k + 1, q - k - 1, b, false, by omega, by omega, rfl, rfl, hb10, ⟨HL.out, .inl ⟨rfl, by omega, rfl, by omega⟩⟩⟩
        case measure => simp [intOf]; omega
    · by_cases hkp : k < p
      · have hk9 : k < 8 := by have := HP.out; omega
        go_wp2_with fail
        go_wp2_with fail
        refine (start_any (dbl p) (dbl p) _).mono ?_
        rintro e w5 ⟨rfl, hb5⟩
        have hb6 := hbr.trans (hb5.mono hbr.size)
        have k6 := heap_alloc_new w5 (.cells #[.int .i64 1, .int .i64 1] 53)
        have b6 := hb6.alloc hb6.size (.cells #[.int .i64 1, .int .i64 1] 53)
        have HS := hid (And.intro b6 k6); clear b6 k6
        have hWY : W.heap.size ≤ w5.heap.size := hb6.size
        obtain ⟨Y, hY⟩ : ∃ Y, Y = w5.heap.size := ⟨_, rfl⟩
        go_wp2_with fail
        refine (within_any N _ (by omega)).mono ?_
        rintro e w' ⟨rfl, rfl⟩
        go_wp2_with fail
        go_loopw [10, 12] (fun t i wr => ∃ (j : Nat) (u l b : Int), 0 ≤ u ∧ u ≤ 2040 ∧ j ≤ 2040 ∧ i = .int .i64 u ∧ t = .int .i64 (j : Int) ∧ Below W.heap.size W wr ∧ Hid (wr.heap[w5.heap.size]? = some (.cells #[.int .i64 b, .int .i64 l] 53 (0, 0)) ∧ b = wt j ∧ 1 ≤ l ∧ l ≤ b ∧ u = tks j + wt j - l ∧ u ≤ tks N)) (fun _ i _ => (tks N - intOf i).toNat)
        case atStart => exact ⟨0, 0, 1, 1, by omega, by omega, by omega, rfl, rfl, HS.out.1, HS.out.2, rfl, by omega, by omega, rfl, by have := tks_bound N; omega⟩
        case round =>
          obtain ⟨j, u, l, b, hu, hu2, hj, rfl, rfl, hbr, HK⟩ := hrel
          by_cases hlt : u < tks N
          · obtain ⟨hblk, c1, c2, c3, c4, c5⟩ := HK.out
            obtain ⟨p0, p1, f0, f1⟩ := two_cells hblk
            have ht := tick_num j l c2 (by omega)
            have HT := hid (tick_any b l wr)
            rw [c1] at HT
            have hBl := lt_of_cell p0
            have hjN : j < N := by
              rcases Nat.lt_or_ge j N with h | h
              · exact h
              · have := tks_mono h; omega
            have hmn := tks_mono (show j + 1 ≤ N by omega)
            have hs := tks_succ j
            have hjb := tks_bound N
            have HH := hid (And.intro hblk (And.intro c1 (And.intro c2 (And.intro c3 (And.intro c4 (And.intro hmn (And.intro hs hjb)))))))
            by_cases hl : l = 1
            · subst hl
              have T1 := ht.1
              obtain ⟨T2, T3⟩ := ht.2.2 rfl
              have e1 : ((1 : Int) == 1) = true := rfl
              rw [T1, T2, T3, e1, ← c1] at HT
              clear ht T1 T2 T3 e1 hs c1 c2 c3 c4 c5 hblk hmn hjb
              have hu3 : u < 3000 := by omega
              go_wp2_with fail
              refine HT.out.mono ?_
              rintro e w6 ⟨rfl, hb7⟩
              have HK1 := hid ((hb7.block w5.heap.size hBl).trans HH.out.1)
              obtain ⟨p0, p1, f0, f1⟩ := two_cells HK1.out
              have hWz : w5.heap.size < w6.heap.size := Nat.lt_of_lt_of_le hBl hb7.size
              have hb8 := hbr.trans (hb7.mono hbr.size)
              have hne : w5.heap.size ≠ w6.heap.size := by omega
              go_wp2
              go_roundw
              case rel =>
                obtain ⟨_, c1, c2, c3, c4, hmn, hs, hjb⟩ := HH.out
                have hw := wt_or (j + 1)
                refine ⟨j + 1, u + 1, wt (j + 1), wt (j + 1), by omega, by omega, by omega, rfl, by go_num, ?_, ?_, rfl, by omega, by omega, by omega, by omega⟩
                · exact ((hb8.setCell (by exact hWY) _).setCell (by exact hWY) _).alloc (by simp; omega) _
                · exact (Below.heap_alloc _ _ _ (by simpa using hWz)).trans (set_two HK1.out _ _)
              case measure => simp [intOf]; omega
            · have T1 := ht.1
              obtain ⟨T2, T3⟩ := ht.2.1 hl
              have e1 : (l == 1) = false := by simp [hl]
              rw [T1, T2, T3, e1, ← c1] at HT
              clear ht T1 T2 T3 e1 hs c1 c2 c3 c4 c5 hblk hmn hjb
              have hu3 : u < 3000 := by omega
              go_wp2_with fail
              refine HT.out.mono ?_
              rintro e w6 ⟨rfl, hb7⟩
              have HK1 := hid ((hb7.block w5.heap.size hBl).trans HH.out.1)
              obtain ⟨p0, p1, f0, f1⟩ := two_cells HK1.out
              have hWz : w5.heap.size < w6.heap.size := Nat.lt_of_lt_of_le hBl hb7.size
              have hb8 := hbr.trans (hb7.mono hbr.size)
              have hne : w5.heap.size ≠ w6.heap.size := by omega
              go_wp2
              go_roundw
              case rel =>
                obtain ⟨_, c1, c2, c3, c4, hmn, hs, hjb⟩ := HH.out
                refine ⟨j, u + 1, l - 1, b, by omega, by omega, by omega, rfl, rfl, ?_, ?_, c1, by omega, by omega, by omega, by omega⟩
                · exact ((hb8.setCell (by exact hWY) _).setCell (by exact hWY) _).alloc (by simp; omega) _
                · exact (Below.heap_alloc _ _ _ (by simpa using hWz)).trans (set_two HK1.out _ _)
              case measure => simp [intOf]; omega
          · obtain ⟨hblk, c1, c2, c3, c4, c5⟩ := HK.out
            have hjN : j = N := by
              rcases Nat.lt_or_ge j N with h | h
              · have h1 := tks_mono (show j + 1 ≤ N by omega); have h2 := tks_succ j; omega
              · rcases Nat.lt_or_ge N j with h3 | h3
                · have h1 := tks_mono (show N + 1 ≤ j by omega); have h2 := tks_succ N; have h4 := wt_or N; omega
                · omega
            subst hjN
            have huu : tks j ≤ u := by omega
            clear hblk c1 c2 c3 c4 c5
            go_wp2_with fail
            refine (works13_any _).mono ?_
            rintro e w' ⟨rfl, rfl⟩
            go_wp2
            go_ret
            exact ⟨rfl, hbr⟩
      · go_wp2_with fail
        go_wp2_with fail
        refine (start_any (dbl p) (dbl p) _).mono ?_
        rintro e w5 ⟨rfl, hb5⟩
        have hb6 := hbr.trans (hb5.mono hbr.size)
        have k6 := heap_alloc_new w5 (.cells #[.int .i64 1, .int .i64 1] 53)
        have b6 := hb6.alloc hb6.size (.cells #[.int .i64 1, .int .i64 1] 53)
        have HS := hid (And.intro b6 k6); clear b6 k6
        have hWY : W.heap.size ≤ w5.heap.size := hb6.size
        obtain ⟨Y, hY⟩ : ∃ Y, Y = w5.heap.size := ⟨_, rfl⟩
        go_wp2_with fail
        refine (within_any N _ (by omega)).mono ?_
        rintro e w' ⟨rfl, rfl⟩
        go_wp2_with fail
        go_loopw [10, 12] (fun t i wr => ∃ (j : Nat) (u l b : Int), 0 ≤ u ∧ u ≤ 2040 ∧ j ≤ 2040 ∧ i = .int .i64 u ∧ t = .int .i64 (j : Int) ∧ Below W.heap.size W wr ∧ Hid (wr.heap[w5.heap.size]? = some (.cells #[.int .i64 b, .int .i64 l] 53 (0, 0)) ∧ b = wt j ∧ 1 ≤ l ∧ l ≤ b ∧ u = tks j + wt j - l ∧ u ≤ tks N)) (fun _ i _ => (tks N - intOf i).toNat)
        case atStart => exact ⟨0, 0, 1, 1, by omega, by omega, by omega, rfl, rfl, HS.out.1, HS.out.2, rfl, by omega, by omega, rfl, by have := tks_bound N; omega⟩
        case round =>
          obtain ⟨j, u, l, b, hu, hu2, hj, rfl, rfl, hbr, HK⟩ := hrel
          by_cases hlt : u < tks N
          · obtain ⟨hblk, c1, c2, c3, c4, c5⟩ := HK.out
            obtain ⟨p0, p1, f0, f1⟩ := two_cells hblk
            have ht := tick_num j l c2 (by omega)
            have HT := hid (tick_any b l wr)
            rw [c1] at HT
            have hBl := lt_of_cell p0
            have hjN : j < N := by
              rcases Nat.lt_or_ge j N with h | h
              · exact h
              · have := tks_mono h; omega
            have hmn := tks_mono (show j + 1 ≤ N by omega)
            have hs := tks_succ j
            have hjb := tks_bound N
            have HH := hid (And.intro hblk (And.intro c1 (And.intro c2 (And.intro c3 (And.intro c4 (And.intro hmn (And.intro hs hjb)))))))
            by_cases hl : l = 1
            · subst hl
              have T1 := ht.1
              obtain ⟨T2, T3⟩ := ht.2.2 rfl
              have e1 : ((1 : Int) == 1) = true := rfl
              rw [T1, T2, T3, e1, ← c1] at HT
              clear ht T1 T2 T3 e1 hs c1 c2 c3 c4 c5 hblk hmn hjb
              have hu3 : u < 3000 := by omega
              go_wp2_with fail
              refine HT.out.mono ?_
              rintro e w6 ⟨rfl, hb7⟩
              have HK1 := hid ((hb7.block w5.heap.size hBl).trans HH.out.1)
              obtain ⟨p0, p1, f0, f1⟩ := two_cells HK1.out
              have hWz : w5.heap.size < w6.heap.size := Nat.lt_of_lt_of_le hBl hb7.size
              have hb8 := hbr.trans (hb7.mono hbr.size)
              have hne : w5.heap.size ≠ w6.heap.size := by omega
              go_wp2
              go_roundw
              case rel =>
                obtain ⟨_, c1, c2, c3, c4, hmn, hs, hjb⟩ := HH.out
                have hw := wt_or (j + 1)
                refine ⟨j + 1, u + 1, wt (j + 1), wt (j + 1), by omega, by omega, by omega, rfl, by go_num, ?_, ?_, rfl, by omega, by omega, by omega, by omega⟩
                · exact ((hb8.setCell (by exact hWY) _).setCell (by exact hWY) _).alloc (by simp; omega) _
                · exact (Below.heap_alloc _ _ _ (by simpa using hWz)).trans (set_two HK1.out _ _)
              case measure => simp [intOf]; omega
            · have T1 := ht.1
              obtain ⟨T2, T3⟩ := ht.2.1 hl
              have e1 : (l == 1) = false := by simp [hl]
              rw [T1, T2, T3, e1, ← c1] at HT
              clear ht T1 T2 T3 e1 hs c1 c2 c3 c4 c5 hblk hmn hjb
              have hu3 : u < 3000 := by omega
              go_wp2_with fail
              refine HT.out.mono ?_
              rintro e w6 ⟨rfl, hb7⟩
              have HK1 := hid ((hb7.block w5.heap.size hBl).trans HH.out.1)
              obtain ⟨p0, p1, f0, f1⟩ := two_cells HK1.out
              have hWz : w5.heap.size < w6.heap.size := Nat.lt_of_lt_of_le hBl hb7.size
              have hb8 := hbr.trans (hb7.mono hbr.size)
              have hne : w5.heap.size ≠ w6.heap.size := by omega
              go_wp2
              go_roundw
              case rel =>
                obtain ⟨_, c1, c2, c3, c4, hmn, hs, hjb⟩ := HH.out
                refine ⟨j, u + 1, l - 1, b, by omega, by omega, by omega, rfl, rfl, ?_, ?_, c1, by omega, by omega, by omega, by omega⟩
                · exact ((hb8.setCell (by exact hWY) _).setCell (by exact hWY) _).alloc (by simp; omega) _
                · exact (Below.heap_alloc _ _ _ (by simpa using hWz)).trans (set_two HK1.out _ _)
              case measure => simp [intOf]; omega
          · obtain ⟨hblk, c1, c2, c3, c4, c5⟩ := HK.out
            have hjN : j = N := by
              rcases Nat.lt_or_ge j N with h | h
              · have h1 := tks_mono (show j + 1 ≤ N by omega); have h2 := tks_succ j; omega
              · rcases Nat.lt_or_ge N j with h3 | h3
                · have h1 := tks_mono (show N + 1 ≤ j by omega); have h2 := tks_succ N; have h4 := wt_or N; omega
                · omega
            subst hjN
            have huu : tks j ≤ u := by omega
            clear hblk c1 c2 c3 c4 c5
            go_wp2_with fail
            refine (works13_any _).mono ?_
            rintro e w' ⟨rfl, rfl⟩
            go_wp2
            go_ret
            exact ⟨rfl, hbr⟩

theorem paceGoes_any (p q n : Int) (W : World) (hn : (Lit.int .u8 n).wf = true) : Calls Try.prog 8 #[.agg #[.int .i64 p, .int .i64 q], .int .u8 n] W fun e w' => e = .returned (.bool true) ∧ Below W.heap.size W w' := by
  have h := wf_u8 hn
  obtain ⟨N, rfl⟩ := Int.eq_ofNat_of_zero_le h.1
  by_cases hp : pok p q = true
  · by_cases hq : 0 < q
    · exact paceGoes_1 p q N W (by omega) hp hq
    · exact paceGoes_0 p q N W (by omega) hp (by omega)
  · exact paceGoes_no p q N W (by omega) (by simpa using hp)
end Go.Proofs.Ytaeonkggilgjpaa
