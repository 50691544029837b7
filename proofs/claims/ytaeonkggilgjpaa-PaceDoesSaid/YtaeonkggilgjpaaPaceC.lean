/- What each function of the pace package and of its reference does. -/
import Derived.Test.YtaeonkggilgjpaaChecked
import Derived.Test.YtaeonkggilgjpaaBase
import Derived.Outline
import Derived.WalkLawsBesides
import Derived.BigQuiet
import Derived.Deep.QuietTactic
namespace Go.Proofs.Ytaeonkggilgjpaa
open Go.RowKit Go.Sort

def pok (w l : Int) : Bool := decide ((w = 1 ∨ w = 2 ∨ w = 4 ∨ w = 8) ∧ 0 ≤ l ∧ l ≤ w)

theorem pok_iff (w l : Int) : pok w l = true ↔ ((w = 1 ∨ w = 2 ∨ w = 4 ∨ w = 8) ∧ 0 ≤ l ∧ l ≤ w) := by simp [pok]

theorem eight {w : Int} (h1 : 1 ≤ w) (h2 : w ≤ 8) : w = 1 ∨ w = 2 ∨ w = 3 ∨ w = 4 ∨ w = 5 ∨ w = 6 ∨ w = 7 ∨ w = 8 := by omega

theorem bits_and_i64 (a : Nat) (b : Nat) (ha : a < 9223372036854775808) (hb : b < 9223372036854775808) : bits .and .i64 (a : Int) (b : Int) = ((a &&& b : Nat) : Int) := by
  have hx : a &&& b < 2 ^ 63 := Nat.and_lt_two_pow _ (by omega)
  have e : ∀ n : Nat, n < 9223372036854775808 → (BitVec.ofInt 64 (n : Int)).toNat = n := fun n hn => by
    rw [BitVec.ofInt_natCast, BitVec.toNat_ofNat]; exact Nat.mod_eq_of_lt (by omega)
  show IntKind.i64.wrap ((BitVec.ofInt 64 (a : Int) &&& BitVec.ofInt 64 (b : Int)).toNat : Int) = _
  rw [BitVec.toNat_and, e a ha, e b hb, IntKind.wrap_i64]
  omega

set_option maxHeartbeats 2000000 in
theorem check_any (w l : Int) (W : World) : Calls Try.prog 32 #[.agg #[.int .i64 w, .int .i64 l]] W fun e w' => e = .returned (.bool (pok w l)) ∧ Below W.heap.size W w' := by
  by_cases h1 : w < 1
  · have hp : pok w l = false := by rw [Bool.eq_false_iff, Ne, pok_iff]; omega
    rw [hp]
    clear hp
    go_enter Try.func32, Try.ntmps32
    go_wp2
    go_ret
    exact ⟨rfl, (Below.refl _ _).alloc (Nat.le_refl _) _⟩
  · by_cases h2 : 8 < w
    · have hp : pok w l = false := by rw [Bool.eq_false_iff, Ne, pok_iff]; omega
      rw [hp]
      clear hp
      go_enter Try.func32, Try.ntmps32
      go_wp2
      go_ret
      exact ⟨rfl, (Below.refl _ _).alloc (Nat.le_refl _) _⟩
    · have b2 := bits_and_i64 2 1 (by omega) (by omega)
      have b3 := bits_and_i64 3 2 (by omega) (by omega)
      have b4 := bits_and_i64 4 3 (by omega) (by omega)
      have b5 := bits_and_i64 5 4 (by omega) (by omega)
      have b6 := bits_and_i64 6 5 (by omega) (by omega)
      have b7 := bits_and_i64 7 6 (by omega) (by omega)
      have b8 := bits_and_i64 8 7 (by omega) (by omega)
      have b1 := bits_and_i64 1 0 (by omega) (by omega)
      have hd : ∀ v, decide (l ≤ v) = decide (l ≤ v) := fun _ => rfl
      clear hd
      by_cases h3 : 0 ≤ l
      · by_cases h4 : l ≤ w
        · rcases eight (w := w) (by omega) (by omega) with rfl | rfl | rfl | rfl | rfl | rfl | rfl | rfl
          all_goals
            go_enter Try.func32, Try.ntmps32
            go_wp2
            go_ret
            exact ⟨by simp [pok, h3, h4], (Below.refl _ _).alloc (Nat.le_refl _) _⟩
        · rcases eight (w := w) (by omega) (by omega) with rfl | rfl | rfl | rfl | rfl | rfl | rfl | rfl
          all_goals
            go_enter Try.func32, Try.ntmps32
            go_wp2
            go_ret
            exact ⟨by simp [pok, h3, h4], (Below.refl _ _).alloc (Nat.le_refl _) _⟩
      · rcases eight (w := w) (by omega) (by omega) with rfl | rfl | rfl | rfl | rfl | rfl | rfl | rfl
        all_goals
          go_enter Try.func32, Try.ntmps32
          go_wp2
          go_ret
          exact ⟨by first | (simp [pok]; omega) | simp [pok], (Below.refl _ _).alloc (Nat.le_refl _) _⟩

set_option maxHeartbeats 2000000 in
theorem rcheck_any (w l : Int) (W : World) : Calls Try.prog 33 #[.agg #[.int .i64 w, .int .i64 l]] W fun e w' => e = .returned (.bool (pok w l)) ∧ Below W.heap.size W w' := by
  by_cases hw : w = 1 ∨ w = 2 ∨ w = 4 ∨ w = 8
  · by_cases h3 : 0 ≤ l
    · by_cases h4 : l ≤ w
      · rcases hw with rfl | rfl | rfl | rfl
        all_goals
          go_enter Try.func33, Try.ntmps33
          go_wp2
          go_ret
          exact ⟨by simp [pok, h3, h4], (Below.refl _ _).alloc (Nat.le_refl _) _⟩
      · rcases hw with rfl | rfl | rfl | rfl
        all_goals
          go_enter Try.func33, Try.ntmps33
          go_wp2
          go_ret
          exact ⟨by simp [pok, h3, h4], (Below.refl _ _).alloc (Nat.le_refl _) _⟩
    · rcases hw with rfl | rfl | rfl | rfl
      all_goals
        go_enter Try.func33, Try.ntmps33
        go_wp2
        go_ret
        exact ⟨by first | (simp [pok]; omega) | simp [pok], (Below.refl _ _).alloc (Nat.le_refl _) _⟩
  · have hp : pok w l = false := by rw [Bool.eq_false_iff, Ne, pok_iff]; omega
    have n1 : (w == 1) = false := by simp; omega
    have n2 : (w == 2) = false := by simp; omega
    have n4 : (w == 4) = false := by simp; omega
    have n8 : (w == 8) = false := by simp; omega
    rw [hp]
    clear hp hw
    go_enter Try.func33, Try.ntmps33
    go_wp2
    go_ret
    exact ⟨rfl, (Below.refl _ _).alloc (Nat.le_refl _) _⟩

theorem new_any (W : World) : Calls Try.prog 34 #[] W fun e w' => e = .returned (.agg #[.int .i64 1, .int .i64 0]) ∧ Below W.heap.size W w' := by
  go_enter Try.func34, Try.ntmps34
  go_wp2
  exact bodyPost_ret (v := .agg #[.int .i64 1, .int .i64 0]) (by simp [results, Try.results34, go_sem]) rfl ⟨rfl, (Below.refl _ _).alloc (Nat.le_refl _) _⟩

theorem start_any (w l : Int) (W : World) : Calls Try.prog 35 #[.agg #[.int .i64 w, .int .i64 l]] W fun e w' => e = .returned (.agg #[.int .i64 1, .int .i64 1]) ∧ Below W.heap.size W w' := by
  go_enter Try.func35, Try.ntmps35
  go_wp2
  exact bodyPost_ret (v := .agg #[.int .i64 1, .int .i64 1]) (by simp [results, Try.results35, go_sem]) rfl ⟨rfl, ((Below.refl _ _).alloc (Nat.le_refl _) _).alloc (by simp) _⟩

theorem stop_any (w l : Int) (W : World) : Calls Try.prog 36 #[.agg #[.int .i64 w, .int .i64 l]] W fun e w' => e = .returned (.agg #[.int .i64 1, .int .i64 0]) ∧ Below W.heap.size W w' := by
  go_enter Try.func36, Try.ntmps36
  go_wp2
  exact bodyPost_ret (v := .agg #[.int .i64 1, .int .i64 0]) (by simp [results, Try.results36, go_sem]) rfl ⟨rfl, ((Below.refl _ _).alloc (Nat.le_refl _) _).alloc (by simp) _⟩

end Go.Proofs.Ytaeonkggilgjpaa
