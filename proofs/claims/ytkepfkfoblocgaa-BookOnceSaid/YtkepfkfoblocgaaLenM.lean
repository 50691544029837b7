/- The length of a number in bits and in bytes; its bytes, the greatest part ahead: the plain facts. -/
import Derived.Test.YtkepfkfoblocgaaBase
namespace Go.Proofs.Ytkepfkfoblocgaa
set_option linter.unusedVariables false

/-- The length in bits. -/
def bl (x : Nat) : Nat := if x = 0 then 0 else x.log2 + 1
theorem bl_lt (x : Nat) : x < 2 ^ bl x := by
  unfold bl
  by_cases h : x = 0
  · subst h; simp
  · rw [if_neg h]; exact Nat.lt_log2_self
theorem bl_le {x k : Nat} (h : 2 ^ k ≤ x) : k + 1 ≤ bl x := by
  have h0 : x ≠ 0 := by have := Nat.two_pow_pos k; omega
  unfold bl
  rw [if_neg h0]
  have := (Nat.le_log2 h0).2 h
  omega
theorem bl_ge {x k : Nat} (h : x < 2 ^ k) : bl x ≤ k := by
  by_cases h0 : x = 0
  · subst h0; simp [bl]
  · unfold bl
    rw [if_neg h0]
    have := (Nat.log2_lt h0).2 h
    omega
theorem bl_low {x : Nat} (h : x ≠ 0) : 2 ^ (bl x - 1) ≤ x := by
  unfold bl
  rw [if_neg h, Nat.add_sub_cancel]
  exact Nat.log2_self_le h
theorem bl_eq {x k : Nat} (h1 : 2 ^ k ≤ x) (h2 : x < 2 ^ (k + 1)) : bl x = k + 1 := by
  have := bl_le h1
  have := bl_ge h2
  omega
theorem bl_shift {x k : Nat} (h : 2 ^ k ≤ x) : bl x = k + bl (x / 2 ^ k) := by
  have h0 : x / 2 ^ k ≠ 0 := by
    have := Nat.div_pos h (Nat.two_pow_pos k)
    omega
  have h1 := bl_low h0
  have h2 := bl_lt (x / 2 ^ k)
  have hp : 1 ≤ bl (x / 2 ^ k) := by unfold bl; rw [if_neg h0]; omega
  obtain ⟨m, hm⟩ : ∃ m, bl (x / 2 ^ k) = m + 1 := ⟨bl (x / 2 ^ k) - 1, by omega⟩
  rw [hm] at h1 h2 ⊢
  rw [Nat.add_sub_cancel] at h1
  rw [show k + (m + 1) = (k + m) + 1 by omega]
  apply bl_eq
  · rw [Nat.pow_add, Nat.mul_comm]
    exact (Nat.le_div_iff_mul_le (Nat.two_pow_pos k)).1 h1
  · rw [show k + m + 1 = (m + 1) + k by omega, Nat.pow_add]
    exact (Nat.div_lt_iff_lt_mul (Nat.two_pow_pos k)).1 h2

/-- The length in bytes. -/
def wd (n : Nat) : Nat := (bl n + 7) / 8
theorem pow_256 (k : Nat) : 256 ^ k = 2 ^ (8 * k) := by rw [Nat.pow_mul]
theorem wd_lt (n : Nat) : n < 256 ^ wd n := by
  rw [pow_256]
  refine Nat.lt_of_lt_of_le (bl_lt n) (Nat.pow_le_pow_right (by omega) ?_)
  unfold wd; omega
theorem wd_le {n k : Nat} (h : n < 256 ^ k) : wd n ≤ k := by
  rw [pow_256] at h
  have := bl_ge h
  unfold wd; omega
theorem wd_gt {n k : Nat} (h : 256 ^ k ≤ n) : k < wd n := by
  rw [pow_256] at h
  have := bl_le h
  unfold wd; omega
theorem wd_pos {n : Nat} (h : 0 < n) : 0 < wd n := wd_gt (k := 0) (by simp; omega)
theorem wd_eq {n k : Nat} (h1 : 256 ^ k ≤ n) (h2 : n < 256 ^ (k + 1)) : wd n = k + 1 := by
  have := wd_gt h1
  have := wd_le h2
  omega
theorem wd_max {n : Nat} (h : n ≤ 72057594037927935) : wd n ≤ 7 := wd_le (by simp; omega)

/-- n's last k bytes, the greatest part ahead. -/
def beB : Nat → Nat → List UInt8
  | 0, _ => []
  | t + 1, n => UInt8.ofNat (n / 256 ^ t % 256) :: beB t n
theorem beB_length : ∀ k n, (beB k n).length = k
  | 0, _ => rfl
  | k + 1, n => by simp [beB, beB_length k n]
/-- The number with these bytes. -/
def joinN (acc : Nat) : List UInt8 → Nat
  | [] => acc
  | c :: l => joinN (acc * 256 + c.toNat) l
theorem joinN_beB : ∀ k n acc, n < 256 ^ k → joinN acc (beB k n) = acc * 256 ^ k + n
  | 0, n, acc, h => by simp at h; simp [beB, joinN, h]
  | k + 1, n, acc, h => by
    have hp : 0 < 256 ^ k := Nat.pow_pos (by omega)
    have hlow : ∀ m, beB k m = beB k (m % 256 ^ k) := by
      intro m
      have : ∀ t, t ≤ k → beB t m = beB t (m % 256 ^ k) := by
        intro t ht
        induction t with
        | zero => rfl
        | succ t ih =>
          rw [beB, beB, ih (by omega)]
          congr 2
          obtain ⟨d, rfl⟩ : ∃ d, k = t + 1 + d := ⟨k - (t + 1), by omega⟩
          rw [show 256 ^ (t + 1 + d) = 256 ^ t * (256 * 256 ^ d) by rw [Nat.pow_add, Nat.pow_succ, Nat.mul_assoc], Nat.mod_mul_right_div_self, Nat.mod_mul_right_mod]
      exact this k (Nat.le_refl _)
    have hd : n / 256 ^ k < 256 := (Nat.div_lt_iff_lt_mul hp).2 (by rw [Nat.pow_succ, Nat.mul_comm] at h; exact h)
    rw [beB, joinN, hlow n, joinN_beB k (n % 256 ^ k) _ (Nat.mod_lt _ hp)]
    rw [UInt8.toNat_ofNat', Nat.mod_eq_of_lt hd, Nat.mod_eq_of_lt (by simpa using hd), Nat.add_mul, Nat.pow_succ, Nat.add_assoc]
    have := Nat.div_add_mod n (256 ^ k)
    rw [Nat.mul_comm (256 ^ k)] at this
    rw [this, Nat.mul_assoc, Nat.mul_comm 256]
theorem joinN_lt : ∀ l acc, joinN acc l < (acc + 1) * 256 ^ l.length
  | [], acc => by simp [joinN]
  | c :: l, acc => by
    have h := joinN_lt l (acc * 256 + c.toNat)
    have hc := c.toNat_lt
    rw [joinN, List.length_cons, Nat.pow_succ, Nat.mul_comm (256 ^ l.length), ← Nat.mul_assoc]
    refine Nat.lt_of_lt_of_le h (Nat.mul_le_mul_right _ ?_)
    omega
theorem beB_joinN : ∀ l acc k, l.length = k → beB k (joinN acc l) = l
  | [], acc, k, h => by subst h; rfl
  | c :: l, acc, k, h => by
    subst h
    rw [List.length_cons, beB, joinN, beB_joinN l _ _ rfl]
    congr 1
    have h1 := joinN_lt l (acc * 256 + c.toNat)
    have h2 : (acc * 256 + c.toNat) * 256 ^ l.length ≤ joinN (acc * 256 + c.toNat) l := by
      have : ∀ l a, a * 256 ^ (l : List UInt8).length ≤ joinN a l := by
        intro l
        induction l with
        | nil => intro a; simp [joinN]
        | cons d l ih =>
          intro a
          rw [joinN, List.length_cons, Nat.pow_succ, Nat.mul_comm (256 ^ l.length), ← Nat.mul_assoc]
          exact Nat.le_trans (Nat.mul_le_mul_right _ (by omega)) (ih _)
      exact this l _
    have hp : 0 < 256 ^ l.length := Nat.pow_pos (by omega)
    have h3 : joinN (acc * 256 + c.toNat) l / 256 ^ l.length = acc * 256 + c.toNat := by
      apply Nat.div_eq_of_lt_le
      · exact h2
      · exact h1
    rw [h3]
    have hc := c.toNat_lt
    rw [show (acc * 256 + c.toNat) % 256 = c.toNat by omega]
    simp

/-- The bytes of a number. -/
def cl (n : Int) : Nat := (min (max n 0) 72057594037927935).toNat
def numB (n : Nat) : List UInt8 := if n < 248 then [UInt8.ofNat n] else UInt8.ofNat (247 + wd n) :: beB (wd n) n
theorem numB_length (n : Nat) (h : n ≤ 72057594037927935) : 1 ≤ (numB n).length ∧ (numB n).length ≤ 8 := by
  unfold numB
  have := wd_max h
  split <;> simp [beB_length]; omega
end Go.Proofs.Ytkepfkfoblocgaa
