/- The document's outbox: contracts. -/
import Derived.Test.YtdekemlckpbbcaaLnkA
import Derived.Test.YtdekemlckpbbcaaPlJ
import Derived.BigQuiet
import Derived.Deep.QuietTactic
namespace Go.Proofs.Ytdekemlckpbbcaa
open Go.RowKit Go.Sort
set_option linter.unusedVariables false
set_option linter.unusedSimpArgs false

set_option maxHeartbeats 2000000 in
theorem r13check_any (w l : Int) (W : World) : Calls Try.prog 84 #[.agg #[.int .i64 w, .int .i64 l]] W fun e w' => e = .returned (.bool (pok w l)) ∧ Below W.heap.size W w' := by
  by_cases hw : w = 1 ∨ w = 2 ∨ w = 4 ∨ w = 8
  · by_cases h3 : 0 ≤ l
    · by_cases h4 : l ≤ w
      · rcases hw with rfl | rfl | rfl | rfl
        all_goals
          go_enter Try.func84, Try.ntmps84
          go_wp2
          go_ret
          exact ⟨by simp [pok, h3, h4], (Below.refl _ _).alloc (Nat.le_refl _) _⟩
      · rcases hw with rfl | rfl | rfl | rfl
        all_goals
          go_enter Try.func84, Try.ntmps84
          go_wp2
          go_ret
          exact ⟨by simp [pok, h3, h4], (Below.refl _ _).alloc (Nat.le_refl _) _⟩
    · rcases hw with rfl | rfl | rfl | rfl
      all_goals
        go_enter Try.func84, Try.ntmps84
        go_wp2
        go_ret
        exact ⟨by first | (simp [pok]; omega) | simp [pok], (Below.refl _ _).alloc (Nat.le_refl _) _⟩
  · have hp : pok w l = false := by rw [Bool.eq_false_iff, Ne, pok_iff]; omega
    have n1 : (w == 1) = false := by simp; omega
    have n2 : (w == 2) = false := by simp; omega
    have n4 : (w == 4) = false := by simp; omega
    have n8 : (w == 8) = false := by simp; omega
    rw [hp]
    clear hp hw
    go_enter Try.func84, Try.ntmps84
    go_wp2
    go_ret
    exact ⟨rfl, (Below.refl _ _).alloc (Nat.le_refl _) _⟩
theorem rtick_no (w l : Int) (W : World) (hp : ¬ pok w l = true) : Calls Try.prog 69 #[.agg #[.int .i64 w, .int .i64 l]] W fun e w' => e = .returned (.tuple #[.agg #[.int .i64 1, .int .i64 0], .bool false]) ∧ Below W.heap.size W w' := by
  have hq : pok w l = false := by simpa using hp
  have HC := hid (r13check_any w l)
  rw [hq] at HC
  clear hp hq
  go_enter Try.func69, Try.ntmps69
  go_wp2_with fail
  refine (HC.out _).mono ?_
  rintro e w1 ⟨rfl, hb⟩
  obtain ⟨k0, k1⟩ := blk_after hb
  have hb1 := (below2 W _ _).trans (hb.mono (by simp; omega))
  have hz := hb1.size
  clear hb
  obtain ⟨p0, p1, f0, f1⟩ := two_cells k0
  obtain ⟨q0, q1, g0, g1⟩ := two_cells k1
  clear k0 k1 hz
  go_wp2
  exact bodyPost_ret (v := .tuple #[.agg #[.int .i64 1, .int .i64 0], .bool false]) (by simp [results, Try.results69, go_sem, q0, q1]) rfl ⟨rfl, ((hb1).setCell (by simp) _).setCell (by simp) _⟩
theorem rtick_0 (w l : Int) (W : World) (hp : pok w l = true) (hl : l = 0) : Calls Try.prog 69 #[.agg #[.int .i64 w, .int .i64 l]] W fun e w' => e = .returned (.tuple #[.agg #[.int .i64 w, .int .i64 0], .bool false]) ∧ Below W.heap.size W w' := by
  subst hl
  have HC := hid (r13check_any w 0)
  rw [hp] at HC
  clear hp
  go_enter Try.func69, Try.ntmps69
  go_wp2_with fail
  refine (HC.out _).mono ?_
  rintro e w1 ⟨rfl, hb⟩
  obtain ⟨k0, k1⟩ := blk_after hb
  have hb1 := (below2 W _ _).trans (hb.mono (by simp; omega))
  have hz := hb1.size
  clear hb
  obtain ⟨p0, p1, f0, f1⟩ := two_cells k0
  obtain ⟨q0, q1, g0, g1⟩ := two_cells k1
  clear k0 k1 hz
  go_wp2
  exact bodyPost_ret (v := .tuple #[.agg #[.int .i64 w, .int .i64 0], .bool false]) (by simp [results, Try.results69, go_sem, q0, q1]) rfl ⟨rfl, ((hb1).setCell (by simp) _).setCell (by simp) _⟩
theorem rtick_m (w l : Int) (W : World) (hp : pok w l = true) (hl : 1 < l) : Calls Try.prog 69 #[.agg #[.int .i64 w, .int .i64 l]] W fun e w' => e = .returned (.tuple #[.agg #[.int .i64 w, .int .i64 (l - 1)], .bool false]) ∧ Below W.heap.size W w' := by
  have h8 : l ≤ 8 := by have := (pok_iff w l).1 hp; omega
  have HC := hid (r13check_any w l)
  rw [hp] at HC
  clear hp
  go_enter Try.func69, Try.ntmps69
  go_wp2_with fail
  refine (HC.out _).mono ?_
  rintro e w1 ⟨rfl, hb⟩
  obtain ⟨k0, k1⟩ := blk_after hb
  have hb1 := (below2 W _ _).trans (hb.mono (by simp; omega))
  have hz := hb1.size
  clear hb
  obtain ⟨p0, p1, f0, f1⟩ := two_cells k0
  obtain ⟨q0, q1, g0, g1⟩ := two_cells k1
  clear k0 k1 hz
  have n0 : (l == 0) = false := by simp; omega
  go_wp2
  exact bodyPost_ret (v := .tuple #[.agg #[.int .i64 w, .int .i64 (l - 1)], .bool false]) (by simp [results, Try.results69, go_sem, q0, q1]) rfl ⟨rfl, ((hb1).setCell (by simp) _).setCell (by simp) _⟩
theorem rtick_1a (w l : Int) (W : World) (hp : pok w l = true) (hl : l = 1) (hw : w < 8) : Calls Try.prog 69 #[.agg #[.int .i64 w, .int .i64 l]] W fun e w' => e = .returned (.tuple #[.agg #[.int .i64 (2 * w), .int .i64 (2 * w)], .bool true]) ∧ Below W.heap.size W w' := by
  subst hl
  have h1 := (pok_iff w 1).1 hp
  have h2 : 2 * w ≤ 8 := by omega
  have h3 : 1 ≤ w := by omega
  clear h1
  have HC := hid (r13check_any w 1)
  rw [hp] at HC
  clear hp
  go_enter Try.func69, Try.ntmps69
  go_wp2_with fail
  refine (HC.out _).mono ?_
  rintro e w1 ⟨rfl, hb⟩
  obtain ⟨k0, k1⟩ := blk_after hb
  have hb1 := (below2 W _ _).trans (hb.mono (by simp; omega))
  have hz := hb1.size
  clear hb
  obtain ⟨p0, p1, f0, f1⟩ := two_cells k0
  obtain ⟨q0, q1, g0, g1⟩ := two_cells k1
  clear k0 k1 hz
  go_wp2
  exact bodyPost_ret (v := .tuple #[.agg #[.int .i64 (2 * w), .int .i64 (2 * w)], .bool true]) (by simp [results, Try.results69, go_sem, q0, q1]) rfl ⟨rfl, ((hb1).setCell (by simp) _).setCell (by simp) _⟩
theorem rtick_1b (w l : Int) (W : World) (hp : pok w l = true) (hl : l = 1) (hw : w = 8) : Calls Try.prog 69 #[.agg #[.int .i64 w, .int .i64 l]] W fun e w' => e = .returned (.tuple #[.agg #[.int .i64 8, .int .i64 8], .bool true]) ∧ Below W.heap.size W w' := by
  subst hl
  subst hw
  have HC := hid (r13check_any 8 1)
  rw [hp] at HC
  clear hp
  go_enter Try.func69, Try.ntmps69
  go_wp2_with fail
  refine (HC.out _).mono ?_
  rintro e w1 ⟨rfl, hb⟩
  obtain ⟨k0, k1⟩ := blk_after hb
  have hb1 := (below2 W _ _).trans (hb.mono (by simp; omega))
  have hz := hb1.size
  clear hb
  obtain ⟨p0, p1, f0, f1⟩ := two_cells k0
  obtain ⟨q0, q1, g0, g1⟩ := two_cells k1
  clear k0 k1 hz
  go_wp2
  exact bodyPost_ret (v := .tuple #[.agg #[.int .i64 8, .int .i64 8], .bool true]) (by simp [results, Try.results69, go_sem, q0, q1]) rfl ⟨rfl, ((hb1).setCell (by simp) _).setCell (by simp) _⟩
theorem r13tick_any (w l : Int) (W : World) : Calls Try.prog 69 #[.agg #[.int .i64 w, .int .i64 l]] W fun e w' => e = .returned (.tuple #[.agg #[.int .i64 (tkW w l), .int .i64 (tkL w l)], .bool (tkB w l)]) ∧ Below W.heap.size W w' := by
  by_cases hp : pok w l = true
  · have hi := (pok_iff w l).1 hp
    by_cases h0 : l = 0
    · have := rtick_0 w l W hp h0
      rwa [show tkW w l = w by rw [tkW, if_pos hp, if_neg (by omega)], show tkL w l = 0 by simp [tkL, h0], show tkB w l = false by simp [tkB, h0]]
    · by_cases h1 : l = 1
      · rw [show tkW w l = dbl w by rw [tkW, if_pos hp, if_pos h1], show tkL w l = dbl w by rw [tkL, if_pos hp, if_neg h0, if_pos h1], show tkB w l = true by rw [tkB, hp, h1]; rfl]
        by_cases h8 : w < 8
        · rw [show dbl w = 2 * w by simp [dbl, h8]]; exact rtick_1a w l W hp h1 h8
        · rw [show dbl w = 8 by simp [dbl, h8]]; exact rtick_1b w l W hp h1 (by omega)
      · have := rtick_m w l W hp (by omega)
        rwa [show tkW w l = w by simp [tkW, hp, h1], show tkL w l = l - 1 by simp [tkL, hp, h0, h1], show tkB w l = false by simp [tkB, h1]]
  · have := rtick_no w l W hp
    rwa [show tkW w l = 1 by simp [tkW, hp], show tkL w l = 0 by simp [tkL, hp], show tkB w l = false by simp [tkB, hp]]
end Go.Proofs.Ytdekemlckpbbcaa
