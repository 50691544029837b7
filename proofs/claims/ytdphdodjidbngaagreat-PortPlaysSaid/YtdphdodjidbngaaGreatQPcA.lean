/- The pace functions that an outbox needs. -/
import Derived.Test.YtdphdodjidbngaaGreatChecked
import Derived.Test.YtdphdodjidbngaaGreatGaP
import Derived.Outline
import Derived.WalkLawsBesides
import Derived.BigQuiet
import Derived.Deep.QuietTactic
namespace Go.Proofs.YtdphdodjidbngaaGreat
open Go.RowKit Go.Sort
set_option linter.unusedVariables false
set_option linter.unusedSimpArgs false

def pok (w l : Int) : Bool := decide ((w = 1 ∨ w = 2 ∨ w = 4 ∨ w = 8) ∧ 0 ≤ l ∧ l ≤ w)
theorem pok_iff (w l : Int) : pok w l = true ↔ ((w = 1 ∨ w = 2 ∨ w = 4 ∨ w = 8) ∧ 0 ≤ l ∧ l ≤ w) := by simp [pok]
theorem eight {w : Int} (h1 : 1 ≤ w) (h2 : w ≤ 8) : w = 1 ∨ w = 2 ∨ w = 3 ∨ w = 4 ∨ w = 5 ∨ w = 6 ∨ w = 7 ∨ w = 8 := by omega
theorem bits_and_i64 (a : Nat) (b : Nat) (ha : a < 9223372036854775808) (hb : b < 9223372036854775808) : bits .and .i64 (a : Int) (b : Int) = ((a &&& b : Nat) : Int) := by
  have hx : a &&& b < 2 ^ 63 := Nat.and_lt_two_pow _ (by omega)
  have e : ∀ n : Nat, n < 9223372036854775808 → (BitVec.ofInt 64 (n : Int)).toNat = n := fun n hn => by
    rw [BitVec.ofInt_natCast, BitVec.toNat_ofNat]; exact Nat.mod_eq_of_lt (by omega)
  show IntKind.i64.wrap ((BitVec.ofInt 64 (a : Int) &&& BitVec.ofInt 64 (b : Int)).toNat : Int) = _
  rw [BitVec.toNat_and, e a ha, e b hb, IntKind.wrap_i64]
  omega
set_option maxHeartbeats 2000000 in
theorem pcheck_any (w l : Int) (W : World) : Calls Tryz.prog 131 #[.agg #[.int .i64 w, .int .i64 l]] W fun e w' => e = .returned (.bool (pok w l)) ∧ Below W.heap.size W w' := by
  by_cases h1 : w < 1
  · have hp : pok w l = false := by rw [Bool.eq_false_iff, Ne, pok_iff]; omega
    rw [hp]
    clear hp
    go_enter Tryz.func131, Tryz.ntmps131
    go_wp2
    go_ret
    exact ⟨rfl, (Below.refl _ _).alloc (Nat.le_refl _) _⟩
  · by_cases h2 : 8 < w
    · have hp : pok w l = false := by rw [Bool.eq_false_iff, Ne, pok_iff]; omega
      rw [hp]
      clear hp
      go_enter Tryz.func131, Tryz.ntmps131
      go_wp2
      go_ret
      exact ⟨rfl, (Below.refl _ _).alloc (Nat.le_refl _) _⟩
    · have b2 := bits_and_i64 2 1 (by omega) (by omega)
      have b3 := bits_and_i64 3 2 (by omega) (by omega)
      have b4 := bits_and_i64 4 3 (by omega) (by omega)
      have b5 := bits_and_i64 5 4 (by omega) (by omega)
      have b6 := bits_and_i64 6 5 (by omega) (by omega)
      have b7 := bits_and_i64 7 6 (by omega) (by omega)
      have b8 := bits_and_i64 8 7 (by omega) (by omega)
      have b1 := bits_and_i64 1 0 (by omega) (by omega)
      have hd : ∀ v, decide (l ≤ v) = decide (l ≤ v) := fun _ => rfl
      clear hd
      by_cases h3 : 0 ≤ l
      · by_cases h4 : l ≤ w
        · rcases eight (w := w) (by omega) (by omega) with rfl | rfl | rfl | rfl | rfl | rfl | rfl | rfl
          all_goals
            go_enter Tryz.func131, Tryz.ntmps131
            go_wp2
            go_ret
            exact ⟨by simp [pok, h3, h4], (Below.refl _ _).alloc (Nat.le_refl _) _⟩
        · rcases eight (w := w) (by omega) (by omega) with rfl | rfl | rfl | rfl | rfl | rfl | rfl | rfl
          all_goals
            go_enter Tryz.func131, Tryz.ntmps131
            go_wp2
            go_ret
            exact ⟨by simp [pok, h3, h4], (Below.refl _ _).alloc (Nat.le_refl _) _⟩
      · rcases eight (w := w) (by omega) (by omega) with rfl | rfl | rfl | rfl | rfl | rfl | rfl | rfl
        all_goals
          go_enter Tryz.func131, Tryz.ntmps131
          go_wp2
          go_ret
          exact ⟨by first | (simp [pok]; omega) | simp [pok], (Below.refl _ _).alloc (Nat.le_refl _) _⟩
theorem pnew_any (W : World) : Calls Tryz.prog 116 #[] W fun e w' => e = .returned (.agg #[.int .i64 1, .int .i64 0]) ∧ Below W.heap.size W w' := by
  go_enter Tryz.func116, Tryz.ntmps116
  go_wp2
  exact bodyPost_ret (v := .agg #[.int .i64 1, .int .i64 0]) (by simp [results, Tryz.results116, go_sem]) rfl ⟨rfl, (Below.refl _ _).alloc (Nat.le_refl _) _⟩
theorem start_any (w l : Int) (W : World) : Calls Tryz.prog 115 #[.agg #[.int .i64 w, .int .i64 l]] W fun e w' => e = .returned (.agg #[.int .i64 1, .int .i64 1]) ∧ Below W.heap.size W w' := by
  go_enter Tryz.func115, Tryz.ntmps115
  go_wp2
  exact bodyPost_ret (v := .agg #[.int .i64 1, .int .i64 1]) (by simp [results, Tryz.results115, go_sem]) rfl ⟨rfl, ((Below.refl _ _).alloc (Nat.le_refl _) _).alloc (by simp) _⟩
theorem stop_any (w l : Int) (W : World) : Calls Tryz.prog 119 #[.agg #[.int .i64 w, .int .i64 l]] W fun e w' => e = .returned (.agg #[.int .i64 1, .int .i64 0]) ∧ Below W.heap.size W w' := by
  go_enter Tryz.func119, Tryz.ntmps119
  go_wp2
  exact bodyPost_ret (v := .agg #[.int .i64 1, .int .i64 0]) (by simp [results, Tryz.results119, go_sem]) rfl ⟨rfl, ((Below.refl _ _).alloc (Nat.le_refl _) _).alloc (by simp) _⟩
def dbl (w : Int) : Int := if w < 8 then 2 * w else 8
def tkW (w l : Int) : Int := if pok w l then (if l = 1 then dbl w else w) else 1
def tkL (w l : Int) : Int := if pok w l then (if l = 0 then 0 else if l = 1 then dbl w else l - 1) else 0
def tkB (w l : Int) : Bool := pok w l && l == 1
theorem tick_no (w l : Int) (W : World) (hp : ¬ pok w l = true) : Calls Tryz.prog 112 #[.agg #[.int .i64 w, .int .i64 l]] W fun e w' => e = .returned (.tuple #[.agg #[.int .i64 1, .int .i64 0], .bool false]) ∧ Below W.heap.size W w' := by
  have hq : pok w l = false := by simpa using hp
  have HC := hid (pcheck_any w l)
  rw [hq] at HC
  clear hp hq
  go_enter Tryz.func112, Tryz.ntmps112
  go_wp2_with fail
  refine (HC.out _).mono ?_
  rintro e w1 ⟨rfl, hb⟩
  obtain ⟨k0, k1⟩ := blk_after hb
  have hb1 := (below2 W _ _).trans (hb.mono (by simp; omega))
  have hz := hb1.size
  clear hb
  go_wp2_with fail
  refine (pnew_any _).mono ?_
  rintro e w2 ⟨rfl, hb2⟩
  replace k0 := (hb2.block W.heap.size (lt_of_cell (two_cells k0).1)).trans k0
  replace k1 := (hb2.block (W.heap.size + 1) (lt_of_cell (two_cells k1).1)).trans k1
  replace hb1 := hb1.trans (hb2.mono hz)
  obtain ⟨p0, p1, f0, f1⟩ := two_cells k0
  obtain ⟨q0, q1, g0, g1⟩ := two_cells k1
  clear k0 k1 hz
  clear hb2
  go_wp2
  exact bodyPost_ret (v := .tuple #[.agg #[.int .i64 1, .int .i64 0], .bool false]) (by simp [results, Tryz.results112, go_sem, q0, q1]) rfl ⟨rfl, ((((hb1).setCell (Nat.le_refl _) _).setCell (Nat.le_refl _) _).setCell (by simp) _).setCell (by simp) _⟩
theorem tick_0 (w l : Int) (W : World) (hp : pok w l = true) (hl : l = 0) : Calls Tryz.prog 112 #[.agg #[.int .i64 w, .int .i64 l]] W fun e w' => e = .returned (.tuple #[.agg #[.int .i64 w, .int .i64 0], .bool false]) ∧ Below W.heap.size W w' := by
  subst hl
  have HC := hid (pcheck_any w 0)
  rw [hp] at HC
  clear hp
  go_enter Tryz.func112, Tryz.ntmps112
  go_wp2_with fail
  refine (HC.out _).mono ?_
  rintro e w1 ⟨rfl, hb⟩
  obtain ⟨k0, k1⟩ := blk_after hb
  have hb1 := (below2 W _ _).trans (hb.mono (by simp; omega))
  have hz := hb1.size
  clear hb
  obtain ⟨p0, p1, f0, f1⟩ := two_cells k0
  obtain ⟨q0, q1, g0, g1⟩ := two_cells k1
  clear k0 k1 hz
  go_wp2
  exact bodyPost_ret (v := .tuple #[.agg #[.int .i64 w, .int .i64 0], .bool false]) (by simp [results, Tryz.results112, go_sem, q0, q1]) rfl ⟨rfl, ((hb1).setCell (by simp) _).setCell (by simp) _⟩
theorem tick_m (w l : Int) (W : World) (hp : pok w l = true) (hl : 1 < l) : Calls Tryz.prog 112 #[.agg #[.int .i64 w, .int .i64 l]] W fun e w' => e = .returned (.tuple #[.agg #[.int .i64 w, .int .i64 (l - 1)], .bool false]) ∧ Below W.heap.size W w' := by
  have h8 : l ≤ 8 := by have := (pok_iff w l).1 hp; omega
  have HC := hid (pcheck_any w l)
  rw [hp] at HC
  clear hp
  go_enter Tryz.func112, Tryz.ntmps112
  go_wp2_with fail
  refine (HC.out _).mono ?_
  rintro e w1 ⟨rfl, hb⟩
  obtain ⟨k0, k1⟩ := blk_after hb
  have hb1 := (below2 W _ _).trans (hb.mono (by simp; omega))
  have hz := hb1.size
  clear hb
  obtain ⟨p0, p1, f0, f1⟩ := two_cells k0
  obtain ⟨q0, q1, g0, g1⟩ := two_cells k1
  clear k0 k1 hz
  have n0 : (l == 0) = false := by simp; omega
  go_wp2
  exact bodyPost_ret (v := .tuple #[.agg #[.int .i64 w, .int .i64 (l - 1)], .bool false]) (by simp [results, Tryz.results112, go_sem, q0, q1]) rfl ⟨rfl, (((hb1).setCell (Nat.le_refl _) _).setCell (by simp) _).setCell (by simp) _⟩
theorem tick_1a (w l : Int) (W : World) (hp : pok w l = true) (hl : l = 1) (hw : w < 8) : Calls Tryz.prog 112 #[.agg #[.int .i64 w, .int .i64 l]] W fun e w' => e = .returned (.tuple #[.agg #[.int .i64 (2 * w), .int .i64 (2 * w)], .bool true]) ∧ Below W.heap.size W w' := by
  subst hl
  have h1 := (pok_iff w 1).1 hp
  have h2 : 2 * w ≤ 8 := by omega
  have h3 : 1 ≤ w := by omega
  clear h1
  have HC := hid (pcheck_any w 1)
  rw [hp] at HC
  clear hp
  go_enter Tryz.func112, Tryz.ntmps112
  go_wp2_with fail
  refine (HC.out _).mono ?_
  rintro e w1 ⟨rfl, hb⟩
  obtain ⟨k0, k1⟩ := blk_after hb
  have hb1 := (below2 W _ _).trans (hb.mono (by simp; omega))
  have hz := hb1.size
  clear hb
  obtain ⟨p0, p1, f0, f1⟩ := two_cells k0
  obtain ⟨q0, q1, g0, g1⟩ := two_cells k1
  clear k0 k1 hz
  go_wp2
  exact bodyPost_ret (v := .tuple #[.agg #[.int .i64 (2 * w), .int .i64 (2 * w)], .bool true]) (by simp [results, Tryz.results112, go_sem, q0, q1]) rfl ⟨rfl, (((hb1).setCell (Nat.le_refl _) _).setCell (by simp) _).setCell (by simp) _⟩
theorem tick_1b (w l : Int) (W : World) (hp : pok w l = true) (hl : l = 1) (hw : w = 8) : Calls Tryz.prog 112 #[.agg #[.int .i64 w, .int .i64 l]] W fun e w' => e = .returned (.tuple #[.agg #[.int .i64 8, .int .i64 8], .bool true]) ∧ Below W.heap.size W w' := by
  subst hl
  subst hw
  have HC := hid (pcheck_any 8 1)
  rw [hp] at HC
  clear hp
  go_enter Tryz.func112, Tryz.ntmps112
  go_wp2_with fail
  refine (HC.out _).mono ?_
  rintro e w1 ⟨rfl, hb⟩
  obtain ⟨k0, k1⟩ := blk_after hb
  have hb1 := (below2 W _ _).trans (hb.mono (by simp; omega))
  have hz := hb1.size
  clear hb
  obtain ⟨p0, p1, f0, f1⟩ := two_cells k0
  obtain ⟨q0, q1, g0, g1⟩ := two_cells k1
  clear k0 k1 hz
  go_wp2
  exact bodyPost_ret (v := .tuple #[.agg #[.int .i64 8, .int .i64 8], .bool true]) (by simp [results, Tryz.results112, go_sem, q0, q1]) rfl ⟨rfl, (((hb1).setCell (Nat.le_refl _) _).setCell (by simp) _).setCell (by simp) _⟩
theorem tick_any (w l : Int) (W : World) : Calls Tryz.prog 112 #[.agg #[.int .i64 w, .int .i64 l]] W fun e w' => e = .returned (.tuple #[.agg #[.int .i64 (tkW w l), .int .i64 (tkL w l)], .bool (tkB w l)]) ∧ Below W.heap.size W w' := by
  by_cases hp : pok w l = true
  · have hi := (pok_iff w l).1 hp
    by_cases h0 : l = 0
    · have := tick_0 w l W hp h0
      rwa [show tkW w l = w by rw [tkW, if_pos hp, if_neg (by omega)], show tkL w l = 0 by simp [tkL, h0], show tkB w l = false by simp [tkB, h0]]
    · by_cases h1 : l = 1
      · rw [show tkW w l = dbl w by rw [tkW, if_pos hp, if_pos h1], show tkL w l = dbl w by rw [tkL, if_pos hp, if_neg h0, if_pos h1], show tkB w l = true by rw [tkB, hp, h1]; rfl]
        by_cases h8 : w < 8
        · rw [show dbl w = 2 * w by simp [dbl, h8]]; exact tick_1a w l W hp h1 h8
        · rw [show dbl w = 8 by simp [dbl, h8]]; exact tick_1b w l W hp h1 (by omega)
      · have := tick_m w l W hp (by omega)
        rwa [show tkW w l = w by simp [tkW, hp, h1], show tkL w l = l - 1 by simp [tkL, hp, h0, h1], show tkB w l = false by simp [tkB, h1]]
  · have := tick_no w l W hp
    rwa [show tkW w l = 1 by simp [tkW, hp], show tkL w l = 0 by simp [tkL, hp], show tkB w l = false by simp [tkB, hp]]
end Go.Proofs.YtdphdodjidbngaaGreat

