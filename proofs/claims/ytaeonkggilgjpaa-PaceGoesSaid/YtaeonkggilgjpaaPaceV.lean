/- How many ticks go by until n waits have ended: the package's count and the reference's. -/
import Derived.Test.YtaeonkggilgjpaaPaceT
namespace Go.Proofs.Ytaeonkggilgjpaa
open Go.RowKit Go.Sort

theorem tick_any (w l : Int) (W : World) : Calls Try.prog 30 #[.agg #[.int .i64 w, .int .i64 l]] W fun e w' => e = .returned (.tuple #[.agg #[.int .i64 (tkW w l), .int .i64 (tkL w l)], .bool (tkB w l)]) ∧ Below W.heap.size W w' := by
  by_cases hp : pok w l = true
  · have hi := (pok_iff w l).1 hp
    by_cases h0 : l = 0
    · have := tick_0 w l W hp h0
      rwa [show tkW w l = w by rw [tkW, if_pos hp, if_neg (by omega)], show tkL w l = 0 by simp [tkL, h0], show tkB w l = false by simp [tkB, h0]]
    · by_cases h1 : l = 1
      · rw [show tkW w l = dbl w by rw [tkW, if_pos hp, if_pos h1], show tkL w l = dbl w by rw [tkL, if_pos hp, if_neg h0, if_pos h1], show tkB w l = true by rw [tkB, hp, h1]; rfl]
        by_cases h8 : w < 8
        · rw [show dbl w = 2 * w by simp [dbl, h8]]; exact tick_1a w l W hp h1 h8
        · rw [show dbl w = 8 by simp [dbl, h8]]; exact tick_1b w l W hp h1 (by omega)
      · have := tick_m w l W hp (by omega)
        rwa [show tkW w l = w by simp [tkW, hp, h1], show tkL w l = l - 1 by simp [tkL, hp, h0, h1], show tkB w l = false by simp [tkB, h1]]
  · have := tick_no w l W hp
    rwa [show tkW w l = 1 by simp [tkW, hp], show tkL w l = 0 by simp [tkL, hp], show tkB w l = false by simp [tkB, hp]]

theorem rtick_any (w l : Int) (W : World) : Calls Try.prog 31 #[.agg #[.int .i64 w, .int .i64 l]] W fun e w' => e = .returned (.tuple #[.agg #[.int .i64 (tkW w l), .int .i64 (tkL w l)], .bool (tkB w l)]) ∧ Below W.heap.size W w' := by
  by_cases hp : pok w l = true
  · have hi := (pok_iff w l).1 hp
    by_cases h0 : l = 0
    · have := rtick_0 w l W hp h0
      rwa [show tkW w l = w by rw [tkW, if_pos hp, if_neg (by omega)], show tkL w l = 0 by simp [tkL, h0], show tkB w l = false by simp [tkB, h0]]
    · by_cases h1 : l = 1
      · rw [show tkW w l = dbl w by rw [tkW, if_pos hp, if_pos h1], show tkL w l = dbl w by rw [tkL, if_pos hp, if_neg h0, if_pos h1], show tkB w l = true by rw [tkB, hp, h1]; rfl]
        by_cases h8 : w < 8
        · rw [show dbl w = 2 * w by simp [dbl, h8]]; exact rtick_1a w l W hp h1 h8
        · rw [show dbl w = 8 by simp [dbl, h8]]; exact rtick_1b w l W hp h1 (by omega)
      · have := rtick_m w l W hp (by omega)
        rwa [show tkW w l = w by simp [tkW, hp, h1], show tkL w l = l - 1 by simp [tkL, hp, h0, h1], show tkB w l = false by simp [tkB, h1]]
  · have := rtick_no w l W hp
    rwa [show tkW w l = 1 by simp [tkW, hp], show tkL w l = 0 by simp [tkL, hp], show tkB w l = false by simp [tkB, hp]]

/-- The k-th wait, and the ticks till k waits have ended. -/
def wt (k : Nat) : Int := if k = 0 then 1 else if k = 1 then 2 else if k = 2 then 4 else 8
def tks (k : Nat) : Int := if k = 0 then 0 else if k = 1 then 1 else if k = 2 then 3 else 7 + 8 * ((k : Int) - 3)
theorem tks_succ (k : Nat) : tks (k + 1) = tks k + wt k := by
  unfold tks wt
  rcases k with _ | _ | _ | k
  · rfl
  · rfl
  · rfl
  · simp; omega
theorem wt_succ (k : Nat) : wt (k + 1) = dbl (wt k) := by
  unfold wt dbl
  rcases k with _ | _ | _ | k
  · rfl
  · rfl
  · rfl
  · simp
theorem wt_or (k : Nat) : wt k = 1 ∨ wt k = 2 ∨ wt k = 4 ∨ wt k = 8 := by
  unfold wt
  rcases k with _ | _ | _ | k
  · simp
  · simp
  · simp
  · simp
theorem tks_bound (k : Nat) : (k : Int) ≤ tks k ∧ tks k ≤ 8 * k := by
  unfold tks
  rcases k with _ | _ | _ | k
  · simp
  · simp
  · simp
  · simp; omega
theorem tks_mono {j k : Nat} (h : j ≤ k) : tks j ≤ tks k := by
  induction k with
  | zero => obtain rfl : j = 0 := by omega
            exact Int.le_refl _
  | succ k ih =>
    rcases Nat.lt_or_ge j (k + 1) with h1 | h1
    · have := ih (by omega); have := tks_succ k; have := wt_or k; omega
    · obtain rfl : j = k + 1 := by omega
      exact Int.le_refl _

theorem min_dbl (k : Nat) : (wt k < 4 ∧ 2 * wt k ≤ 8 ∧ wt (k + 1) = 2 * wt k ∧ ¬ 8 < 2 * wt k) ∨ (wt k = 4 ∧ wt (k + 1) = 8) ∨ (wt k = 8 ∧ wt (k + 1) = 8) := by
  rw [wt_succ]; unfold dbl
  rcases wt_or k with h | h | h | h <;> rw [h] <;> simp

theorem within_neg (n : Int) (W : World) (hn : n < 0) : Calls Try.prog 38 #[.int .i64 n] W fun e w' => e = .returned (.int .i64 0) ∧ W = w' := by
  go_enter Try.func38, Try.ntmps38
  go_wp2
  refine wp_loop_rounds 1 ?_
  rw [rounds_succ]
  go_wp2
  go_ret
  exact ⟨rfl, rfl⟩

theorem within_any (N : Nat) (W : World) (h2 : N ≤ 1048576) :
    Calls Try.prog 38 #[.int .i64 N] W fun e w' => e = .returned (.int .i64 (tks N)) ∧ W = w' := by
  have h1 : (0 : Int) ≤ N := by omega
  have h3 : (N : Int) ≤ 1048576 := by omega
  go_enter Try.func38, Try.ntmps38
  go_wp2
  go_loop [3, 4, 8] (fun t v i => ∃ (k : Nat) (a b : Int), k ≤ N ∧ i = .int .i64 k ∧ t = .int .i64 a ∧ v = .int .i64 b ∧ Hid (a = tks k ∧ b = wt k)) (fun _ _ i => N - (intOf i).toNat)
  case atStart => exact ⟨0, 0, 1, by omega, rfl, rfl, rfl, rfl, rfl⟩
  case round =>
    obtain ⟨k, a, b, hk, rfl, rfl, rfl, HK⟩ := hrel
    by_cases hlt : k < N
    · have c0 := HK.out
      have c1 := tks_succ k
      have c2 := tks_bound k
      have b1 : a + b ≤ 8388616 := by have := wt_or k; omega
      have b2 : 0 ≤ a := by omega
      have H := hid (show a + b = tks (k + 1) by omega)
      rcases min_dbl k with ⟨m1, m2, m3, m4⟩ | ⟨m1, m2⟩ | ⟨m1, m2⟩
      · have hb : b < 4 := by omega
        have hb0 : 1 ≤ b := by have := wt_or k; omega
        have HB := hid (show 2 * b = wt (k + 1) by omega)
        clear c0 c1 c2 m1 m2 m3 m4
        go_wp2
        go_round
        case rel => exact ⟨k + 1, a + b, 2 * b, by omega, by go_num, rfl, rfl, H.out, HB.out⟩
        case measure => simp [intOf]; omega
      · obtain rfl : b = 4 := by omega
        have HB := hid (show 8 = wt (k + 1) by omega)
        clear c0 c1 c2 m1 m2
        go_wp2
        go_round
        case rel => exact ⟨k + 1, a + 4, 8, by omega, by go_num, rfl, rfl, H.out, HB.out⟩
        case measure => simp [intOf]; omega
      · obtain rfl : b = 8 := by omega
        have HB := hid (show 8 = wt (k + 1) by omega)
        clear c0 c1 c2 m1 m2
        go_wp2
        go_round
        case rel => exact ⟨k + 1, a + 8, 8, by omega, by go_num, rfl, rfl, H.out, HB.out⟩
        case measure => simp [intOf]; omega
    · obtain rfl : k = N := by omega
      go_wp2
      go_ret
      exact ⟨by rw [← HK.out.1]; rfl, rfl⟩

theorem works13_any (W : World) : Calls Try.prog 37 #[] W fun e w' => e = .returned (.bool true) ∧ W = w' := by
  have H4 := hid (within_any 4 W (by omega))
  have H5 := hid (within_any 5 W (by omega))
  go_enter Try.func37, Try.ntmps37
  go_wp2_with fail
  refine H4.out.mono ?_
  rintro e w' ⟨rfl, rfl⟩
  rw [show tks 4 = 15 from rfl]
  go_wp2_with fail
  refine H5.out.mono ?_
  rintro e w' ⟨rfl, rfl⟩
  rw [show tks 5 = 23 from rfl]
  go_wp2
  go_ret
  exact ⟨rfl, rfl⟩

theorem rwithin_neg (n : Int) (W : World) (hn : n ≤ 0) : Calls Try.prog 39 #[.int .i64 n] W fun e w' => e = .returned (.int .i64 0) ∧ Below W.heap.size W w' := by
  have b1 := (Below.refl W.heap.size W).alloc (Nat.le_refl _) (.cells #[.int .i64 1, .int .i64 1] 52)
  go_enter Try.func39, Try.ntmps39
  go_wp2
  refine wp_loop_rounds 1 ?_
  rw [rounds_succ]
  go_wp2
  go_ret
  exact ⟨rfl, b1⟩

/-- One tick of the count, as plain numbers. -/
theorem tick_num (j : Nat) (l : Int) (h1 : 1 ≤ l) (h2 : l ≤ wt j) : tkB (wt j) l = (l == 1) ∧ (l ≠ 1 → tkW (wt j) l = wt j ∧ tkL (wt j) l = l - 1) ∧ (l = 1 → tkW (wt j) l = wt (j + 1) ∧ tkL (wt j) l = wt (j + 1)) := by
  have hp : pok (wt j) l = true := (pok_iff _ _).2 ⟨wt_or j, by omega, h2⟩
  refine ⟨by simp [tkB, hp], fun h => ?_, fun h => ?_⟩
  · rw [tkW, tkL, if_pos hp, if_pos hp, if_neg h, if_neg (by omega), if_neg h]; exact ⟨rfl, rfl⟩
  · rw [tkW, tkL, if_pos hp, if_pos hp, if_pos h, if_neg (by omega), if_pos h, wt_succ]; exact ⟨rfl, rfl⟩

theorem rwithin_any (N : Nat) (W : World) (hN : 0 < N) (h2 : N ≤ 1048576) :
    Calls Try.prog 39 #[.int .i64 N] W fun e w' => e = .returned (.int .i64 (tks N)) ∧ Below W.heap.size W w' := by
  have b1 := (Below.refl W.heap.size W).alloc (Nat.le_refl _) (.cells #[.int .i64 1, .int .i64 1] 52)
  have k1 := heap_alloc_new W (.cells #[.int .i64 1, .int .i64 1] 52)
  have HS := hid (And.intro b1 k1); clear b1 k1
  go_enter Try.func39, Try.ntmps39
  go_wp2
  go_loopw [0, 4] (fun n t wr => ∃ (j : Nat) (q u l b : Int), j ≤ N ∧ 0 ≤ q ∧ q ≤ 1048576 ∧ 0 ≤ u ∧ u ≤ 8388616 ∧ n = .int .i64 q ∧ t = .int .i64 u ∧ Below W.heap.size W wr ∧ Hid (wr.heap[W.heap.size]? = some (.cells #[.int .i64 b, .int .i64 l] 52 (0, 0)) ∧ b = wt j ∧ 1 ≤ l ∧ l ≤ b ∧ q = (N : Int) - j ∧ u = tks j + wt j - l ∧ (j = N → l = b))) (fun _ t _ => (tks N - intOf t).toNat)
  case atStart => exact ⟨0, N, 0, 1, 1, by omega, by omega, by omega, by omega, by omega, rfl, rfl, HS.out.1, HS.out.2, rfl, by omega, by omega, by omega, rfl, fun h => by omega⟩
  case round =>
    obtain ⟨j, q, u, l, b, hj, hq, hq2, hu, hu2, rfl, rfl, hbr, HK⟩ := hrel
    clear hN
    by_cases hlt : j < N
    · obtain ⟨hblk, c1, c2, c3, c4, c5, c6⟩ := HK.out
      obtain ⟨p0, p1, f0, f1⟩ := two_cells hblk
      have hq0 : 0 < q := by omega
      have ht := tick_num j l c2 (by omega)
      have hm := tks_mono (show j + 1 ≤ N by omega)
      have hs := tks_succ j
      have HT := hid (rtick_any b l wr)
      rw [c1] at HT
      have HM := hid (And.intro hs (And.intro hm hblk))
      have hBl := lt_of_cell p0
      have HH := hid (And.intro c1 (And.intro c2 (And.intro c3 (And.intro c4 (And.intro c5 c6)))))
      by_cases hl : l = 1
      · subst hl
        have T1 := ht.1
        obtain ⟨T2, T3⟩ := ht.2.2 rfl
        have e1 : ((1 : Int) == 1) = true := rfl
        rw [T1, T2, T3, e1, ← c1] at HT
        clear ht T1 T2 T3 e1 hm hs c1 c2 c3 c4 c5 c6 hblk
        go_wp2_with fail
        refine HT.out.mono ?_
        rintro e w1 ⟨rfl, hb1⟩
        have HK1 := hid ((hb1.block W.heap.size hBl).trans HM.out.2.2)
        obtain ⟨p0, p1, f0, f1⟩ := two_cells HK1.out
        have hz := hb1.size
        have hWz : W.heap.size < w1.heap.size := Nat.lt_of_lt_of_le hBl hb1.size
        have hb2 := hbr.trans (hb1.mono hbr.size)
        have hne : W.heap.size ≠ w1.heap.size := by omega
        go_wp2
        go_roundw
        case rel =>
          obtain ⟨c1, c2, c3, c4, c5, c6⟩ := HH.out
          have ⟨hs, hm, _⟩ := HM.out
          have hw := wt_or (j + 1)
          have hbd := tks_bound N
          refine ⟨j + 1, q - 1, u + 1, wt (j + 1), wt (j + 1), by omega, by omega, by omega, by omega, by omega, rfl, rfl, ?_, ?_, rfl, by omega, by omega, by omega, by omega, fun _ => rfl⟩
          · exact ((hb2.setCell (Nat.le_refl _) _).setCell (Nat.le_refl _) _).alloc (by simp; omega) _
          · exact (Below.heap_alloc _ _ _ (by simpa using hWz)).trans (set_two HK1.out _ _)
        case measure =>
          obtain ⟨c1, c2, c3, c4, c5, c6⟩ := HH.out
          have ⟨hs, hm, _⟩ := HM.out
          simp [intOf]; omega
      · have T1 := ht.1
        obtain ⟨T2, T3⟩ := ht.2.1 hl
        have e1 : (l == 1) = false := by simp [hl]
        rw [T1, T2, T3, e1, ← c1] at HT
        clear ht T1 T2 T3 e1 hm hs c1 c2 c3 c4 c5 c6 hblk
        go_wp2_with fail
        refine HT.out.mono ?_
        rintro e w1 ⟨rfl, hb1⟩
        have HK1 := hid ((hb1.block W.heap.size hBl).trans HM.out.2.2)
        obtain ⟨p0, p1, f0, f1⟩ := two_cells HK1.out
        have hz := hb1.size
        have hWz : W.heap.size < w1.heap.size := Nat.lt_of_lt_of_le hBl hb1.size
        have hb2 := hbr.trans (hb1.mono hbr.size)
        have hne : W.heap.size ≠ w1.heap.size := by omega
        go_wp2
        go_roundw
        case rel =>
          obtain ⟨c1, c2, c3, c4, c5, c6⟩ := HH.out
          have ⟨hs, hm, _⟩ := HM.out
          have hbd := tks_bound N
          refine ⟨j, q, u + 1, l - 1, b, by omega, by omega, by omega, by omega, by omega, rfl, rfl, ?_, ?_, c1, by omega, by omega, by omega, by omega, fun h => by omega⟩
          · exact ((hb2.setCell (Nat.le_refl _) _).setCell (Nat.le_refl _) _).alloc (by simp; omega) _
          · exact (Below.heap_alloc _ _ _ (by simpa using hWz)).trans (set_two HK1.out _ _)
        case measure =>
          obtain ⟨c1, c2, c3, c4, c5, c6⟩ := HH.out
          have ⟨hs, hm, _⟩ := HM.out
          simp [intOf]; omega
    · obtain rfl : j = N := by omega
      obtain ⟨hblk, c1, c2, c3, c4, c5, c6⟩ := HK.out
      have hu3 : u = tks j := by have := c6 rfl; omega
      obtain rfl : q = 0 := by omega
      have HU := hid hu3
      clear hblk c1 c2 c3 c4 c5 c6 hu3
      go_wp2
      go_ret
      exact ⟨by rw [← HU.out]; rfl, hbr⟩
end Go.Proofs.Ytaeonkggilgjpaa
