/- The number of bits set, byte by byte: the plain facts. -/
import Derived.Test.YtadjmgmdnekllaaFlockM
namespace Go.Proofs.Ytadjmgmdnekllaa
set_option linter.unusedVariables false

def m0 : Nat → Nat | 0 => 0 | n + 1 => 85 + 256 * m0 n
def m1 : Nat → Nat | 0 => 0 | n + 1 => 51 + 256 * m1 n
def m2 : Nat → Nat | 0 => 0 | n + 1 => 15 + 256 * m2 n
theorem m0_succ (n : Nat) : m0 (n + 1) = 85 + 256 * m0 n := rfl
theorem m1_succ (n : Nat) : m1 (n + 1) = 51 + 256 * m1 n := rfl
theorem m2_succ (n : Nat) : m2 (n + 1) = 15 + 256 * m2 n := rfl
def G1 (n x : Nat) : Nat := ((x / 2) &&& m0 n) + (x &&& m0 n)
def G2 (n x : Nat) : Nat := ((x / 4) &&& m1 n) + (x &&& m1 n)
def G3 (n x : Nat) : Nat := (x / 16 + x) &&& m2 n
def h1 (b : Nat) : Nat := ((b / 2) &&& 85) + (b &&& 85)
def h2 (b : Nat) : Nat := ((b / 4) &&& 51) + (b &&& 51)
def pc8 (b : Nat) : Nat := (elemsU b 8).length

theorem and_join (a b c d : Nat) (ha : a < 256) (hc : c < 256) : (a + 256 * b) &&& (c + 256 * d) = (a &&& c) + 256 * (b &&& d) := by
  have hx : a &&& c < 2 ^ 8 := Nat.and_lt_two_pow _ (by omega)
  apply Nat.eq_of_testBit_eq
  intro i
  rw [Nat.testBit_and, Nat.add_comm a, Nat.add_comm c, Nat.add_comm (a &&& c), show (256 : Nat) = 2 ^ 8 from rfl, Nat.testBit_two_pow_mul_add _ (by omega), Nat.testBit_two_pow_mul_add _ (by omega), Nat.testBit_two_pow_mul_add _ hx]
  split
  · rw [Nat.testBit_and]
  · rw [Nat.testBit_and]
theorem c1 : ∀ b : Fin 256, ∀ t : Fin 2, ((b.val / 2 + 128 * t.val) &&& 85) = (b.val / 2) &&& 85 := by decide +kernel
theorem c2 : ∀ b : Fin 256, ∀ t : Fin 4, ((b.val / 4 + 64 * t.val) &&& 51) = (b.val / 4) &&& 51 := by decide +kernel
theorem G1_succ (n x : Nat) : G1 (n + 1) x = h1 (x % 256) + 256 * G1 n (x / 256) := by
  unfold G1 h1
  rw [m0_succ]
  have e1 : x / 2 = (x % 256 / 2 + 128 * (x / 256 % 2)) + 256 * (x / 256 / 2) := by omega
  have e2 : x &&& (85 + 256 * m0 n) = (x % 256 &&& 85) + 256 * (x / 256 &&& m0 n) := by
    conv => lhs; rw [show x = x % 256 + 256 * (x / 256) by omega]
    exact and_join _ _ _ _ (by omega) (by omega)
  have e3 := c1 ⟨x % 256, by omega⟩ ⟨x / 256 % 2, by omega⟩
  simp only at e3
  rw [e2, e1, and_join _ _ _ _ (by omega) (by omega), e3]
  omega
theorem G2_succ (n x : Nat) : G2 (n + 1) x = h2 (x % 256) + 256 * G2 n (x / 256) := by
  unfold G2 h2
  rw [m1_succ]
  have e1 : x / 4 = (x % 256 / 4 + 64 * (x / 256 % 4)) + 256 * (x / 256 / 4) := by omega
  have e2 : x &&& (51 + 256 * m1 n) = (x % 256 &&& 51) + 256 * (x / 256 &&& m1 n) := by
    conv => lhs; rw [show x = x % 256 + 256 * (x / 256) by omega]
    exact and_join _ _ _ _ (by omega) (by omega)
  have e3 := c2 ⟨x % 256, by omega⟩ ⟨x / 256 % 4, by omega⟩
  simp only at e3
  rw [e2, e1, and_join _ _ _ _ (by omega) (by omega), e3]
  omega
theorem h1_lt : ∀ b : Fin 256, h1 b.val < 256 := by decide +kernel
theorem h2_lt : ∀ b : Fin 256, h2 b.val < 256 := by decide +kernel
/-- Every byte's two halves are at most 4. -/
def Nib : Nat → Nat → Prop
  | 0, x => x = 0
  | n + 1, x => (x % 16 ≤ 4 ∧ x / 16 % 16 ≤ 4) ∧ Nib n (x / 256)
theorem c3 : ∀ b : Fin 16, ∀ t : Fin 16, ((b.val + 16 * t.val) &&& 15) = b.val := by decide +kernel
theorem G3_succ (n x : Nat) (h : Nib (n + 1) x) : G3 (n + 1) x = (x % 16 + x / 16 % 16) + 256 * G3 n (x / 256) ∧ x / 256 % 16 ≤ 4 := by
  have h4 : x / 256 % 16 ≤ 4 := by
    cases n with
    | zero => have := h.2; simp only [Nib] at this; omega
    | succ n => exact h.2.1.1
  refine ⟨?_, h4⟩
  obtain ⟨⟨h1, h2⟩, _⟩ := h
  unfold G3
  rw [m2_succ]
  have e1 : x / 16 + x = ((x % 16 + x / 16 % 16) + 16 * (x / 16 % 16 + x / 256 % 16)) + 256 * (x / 256 / 16 + x / 256) := by omega
  have e3 := c3 ⟨x % 16 + x / 16 % 16, by omega⟩ ⟨x / 16 % 16 + x / 256 % 16, by omega⟩
  rw [e1, and_join _ _ _ _ (by omega) (by omega), e3]
theorem d1 : ∀ b : Fin 256, h2 (h1 b.val) % 16 ≤ 4 ∧ h2 (h1 b.val) / 16 % 16 ≤ 4 ∧ h2 (h1 b.val) < 256 ∧ h2 (h1 b.val) % 16 + h2 (h1 b.val) / 16 % 16 = pc8 b.val := by decide +kernel
/-- The bytes of the number of bits. -/
def PC : Nat → Nat → Nat
  | 0, _ => 0
  | n + 1, x => pc8 (x % 256) + 256 * PC n (x / 256)
theorem G12 (n x : Nat) : G2 (n + 1) (G1 (n + 1) x) = h2 (h1 (x % 256)) + 256 * G2 n (G1 n (x / 256)) := by
  rw [G2_succ, G1_succ]
  have := h1_lt ⟨x % 256, by omega⟩
  simp only at this
  congr 2
  · congr 1; omega
  · congr 1; omega
theorem nib_G : ∀ n x, Nib n (G2 n (G1 n x))
  | 0, x => by simp [Nib, G2, m1]
  | n + 1, x => by
    have ih := nib_G n (x / 256)
    rw [G12]
    obtain ⟨a, b, c, _⟩ := d1 ⟨x % 256, by omega⟩
    simp only at a b c
    generalize h2 (h1 (x % 256)) = y at *
    generalize G2 n (G1 n (x / 256)) = z at *
    refine ⟨⟨by omega, by omega⟩, ?_⟩
    rw [show (y + 256 * z) / 256 = z by omega]
    exact ih
theorem G_PC : ∀ n x, G3 n (G2 n (G1 n x)) = PC n x
  | 0, x => by simp [G3, m2, PC]
  | n + 1, x => by
    have ih := G_PC n (x / 256)
    have hn := nib_G (n + 1) x
    rw [(G3_succ n _ hn).1, PC, ← ih, G12]
    obtain ⟨a, b, c, d⟩ := d1 ⟨x % 256, by omega⟩
    simp only at a b c d
    generalize h2 (h1 (x % 256)) = y at *
    generalize G2 n (G1 n (x / 256)) = z at *
    rw [show (y + 256 * z) / 256 = z by omega, ← d]
    omega
theorem pc8_le (b : Nat) : pc8 b ≤ 8 := by
  have : ∀ n, (elemsU b n).length ≤ n := by
    intro n
    induction n with
    | zero => simp [elemsU]
    | succ n ih => unfold elemsU; rw [List.length_append]; split <;> simp <;> omega
  exact this 8
/-- The number of elements, byte by byte. -/
def PS : Nat → Nat → Nat
  | 0, _ => 0
  | n + 1, x => pc8 (x % 256) + PS n (x / 256)
theorem elemsU_shift (x k : Nat) : ∀ n, (elemsU x (k + n)).length = (elemsU x k).length + (elemsU (x / 2 ^ k) n).length
  | 0 => by simp [elemsU]
  | n + 1 => by
    rw [← Nat.add_assoc, elemsU, elemsU, List.length_append, List.length_append, elemsU_shift x k n, Nat.testBit_div_two_pow, Nat.add_comm n k]
    split <;> simp <;> omega
theorem elemsU_mod (x k : Nat) : ∀ n, n ≤ k → elemsU x n = elemsU (x % 2 ^ k) n
  | 0, _ => rfl
  | n + 1, h => by rw [elemsU, elemsU, elemsU_mod x k n (by omega), Nat.testBit_mod_two_pow]; simp [show n < k by omega]
theorem PS_eq : ∀ n x, (elemsU x (8 * n)).length = PS n x
  | 0, x => by simp [elemsU, PS]
  | n + 1, x => by
    rw [show 8 * (n + 1) = 8 + 8 * n by omega, elemsU_shift, PS_eq n, PS, pc8, show (256 : Nat) = 2 ^ 8 from rfl, ← elemsU_mod x 8 8 (Nat.le_refl _)]
theorem cnt_eq (s : Nat) : (elems s).length = PS 8 s := by rw [elems_def]; exact PS_eq 8 s
theorem divf (x lo hi m : Nat) (h : x = lo + m * hi) (hlt : lo < m) : x / m = hi := by
  subst h
  rw [Nat.add_mul_div_left _ _ (by omega), Nat.div_eq_of_lt hlt, Nat.zero_add]
theorem modf (x lo hi m : Nat) (h : x = lo + m * hi) (hlt : lo < m) : x % m = lo := by
  subst h
  rw [Nat.add_mul_mod_self_left, Nat.mod_eq_of_lt hlt]
theorem la (d0 d1 d2 d3 d4 d5 d6 d7 : Nat) (p0 : d0 ≤ 8) (p1 : d1 ≤ 8) (p2 : d2 ≤ 8) (p3 : d3 ≤ 8) (p4 : d4 ≤ 8) (p5 : d5 ≤ 8) (p6 : d6 ≤ 8) (p7 : d7 ≤ 8) : (1 * (d0) + 256 * (d1) + 65536 * (d2) + 16777216 * (d3) + 4294967296 * (d4) + 1099511627776 * (d5) + 281474976710656 * (d6) + 72057594037927936 * (d7)) + (1 * (d0) + 256 * (d1) + 65536 * (d2) + 16777216 * (d3) + 4294967296 * (d4) + 1099511627776 * (d5) + 281474976710656 * (d6) + 72057594037927936 * (d7)) / 256 = 1 * (d0 + d1) + 256 * (d1 + d2) + 65536 * (d2 + d3) + 16777216 * (d3 + d4) + 4294967296 * (d4 + d5) + 1099511627776 * (d5 + d6) + 281474976710656 * (d6 + d7) + 72057594037927936 * (d7) := by
  rw [divf _ d0 (1 * (d1) + 256 * (d2) + 65536 * (d3) + 16777216 * (d4) + 4294967296 * (d5) + 1099511627776 * (d6) + 281474976710656 * (d7)) 256 (by omega) (by omega)]
  omega
theorem lb (d0 d1 d2 d3 d4 d5 d6 d7 : Nat) (p0 : d0 ≤ 8) (p1 : d1 ≤ 8) (p2 : d2 ≤ 8) (p3 : d3 ≤ 8) (p4 : d4 ≤ 8) (p5 : d5 ≤ 8) (p6 : d6 ≤ 8) (p7 : d7 ≤ 8) : (1 * (d0 + d1) + 256 * (d1 + d2) + 65536 * (d2 + d3) + 16777216 * (d3 + d4) + 4294967296 * (d4 + d5) + 1099511627776 * (d5 + d6) + 281474976710656 * (d6 + d7) + 72057594037927936 * (d7)) + (1 * (d0 + d1) + 256 * (d1 + d2) + 65536 * (d2 + d3) + 16777216 * (d3 + d4) + 4294967296 * (d4 + d5) + 1099511627776 * (d5 + d6) + 281474976710656 * (d6 + d7) + 72057594037927936 * (d7)) / 65536 = 1 * (d0 + d1 + d2 + d3) + 256 * (d1 + d2 + d3 + d4) + 65536 * (d2 + d3 + d4 + d5) + 16777216 * (d3 + d4 + d5 + d6) + 4294967296 * (d4 + d5 + d6 + d7) + 1099511627776 * (d5 + d6 + d7) + 281474976710656 * (d6 + d7) + 72057594037927936 * (d7) := by
  rw [divf _ (1 * (d0 + d1) + 256 * (d1 + d2)) (1 * (d2 + d3) + 256 * (d3 + d4) + 65536 * (d4 + d5) + 16777216 * (d5 + d6) + 4294967296 * (d6 + d7) + 1099511627776 * (d7)) 65536 (by omega) (by omega)]
  omega
theorem lc (d0 d1 d2 d3 d4 d5 d6 d7 : Nat) (p0 : d0 ≤ 8) (p1 : d1 ≤ 8) (p2 : d2 ≤ 8) (p3 : d3 ≤ 8) (p4 : d4 ≤ 8) (p5 : d5 ≤ 8) (p6 : d6 ≤ 8) (p7 : d7 ≤ 8) : (1 * (d0 + d1 + d2 + d3) + 256 * (d1 + d2 + d3 + d4) + 65536 * (d2 + d3 + d4 + d5) + 16777216 * (d3 + d4 + d5 + d6) + 4294967296 * (d4 + d5 + d6 + d7) + 1099511627776 * (d5 + d6 + d7) + 281474976710656 * (d6 + d7) + 72057594037927936 * (d7)) + (1 * (d0 + d1 + d2 + d3) + 256 * (d1 + d2 + d3 + d4) + 65536 * (d2 + d3 + d4 + d5) + 16777216 * (d3 + d4 + d5 + d6) + 4294967296 * (d4 + d5 + d6 + d7) + 1099511627776 * (d5 + d6 + d7) + 281474976710656 * (d6 + d7) + 72057594037927936 * (d7)) / 4294967296 = 1 * (d0 + d1 + d2 + d3 + d4 + d5 + d6 + d7) + 256 * (d1 + d2 + d3 + d4 + d5 + d6 + d7) + 65536 * (d2 + d3 + d4 + d5 + d6 + d7) + 16777216 * (d3 + d4 + d5 + d6 + d7) + 4294967296 * (d4 + d5 + d6 + d7) + 1099511627776 * (d5 + d6 + d7) + 281474976710656 * (d6 + d7) + 72057594037927936 * (d7) := by
  rw [divf _ (1 * (d0 + d1 + d2 + d3) + 256 * (d1 + d2 + d3 + d4) + 65536 * (d2 + d3 + d4 + d5) + 16777216 * (d3 + d4 + d5 + d6)) (1 * (d4 + d5 + d6 + d7) + 256 * (d5 + d6 + d7) + 65536 * (d6 + d7) + 16777216 * (d7)) 4294967296 (by omega) (by omega)]
  omega
theorem ld (d0 d1 d2 d3 d4 d5 d6 d7 : Nat) (p0 : d0 ≤ 8) (p1 : d1 ≤ 8) (p2 : d2 ≤ 8) (p3 : d3 ≤ 8) (p4 : d4 ≤ 8) (p5 : d5 ≤ 8) (p6 : d6 ≤ 8) (p7 : d7 ≤ 8) : (1 * (d0 + d1 + d2 + d3 + d4 + d5 + d6 + d7) + 256 * (d1 + d2 + d3 + d4 + d5 + d6 + d7) + 65536 * (d2 + d3 + d4 + d5 + d6 + d7) + 16777216 * (d3 + d4 + d5 + d6 + d7) + 4294967296 * (d4 + d5 + d6 + d7) + 1099511627776 * (d5 + d6 + d7) + 281474976710656 * (d6 + d7) + 72057594037927936 * (d7)) % 128 = d0 + d1 + d2 + d3 + d4 + d5 + d6 + d7 := by
  rw [modf _ (d0 + d1 + d2 + d3 + d4 + d5 + d6 + d7) (2 * (d1 + d2 + d3 + d4 + d5 + d6 + d7) + 512 * (d2 + d3 + d4 + d5 + d6 + d7) + 131072 * (d3 + d4 + d5 + d6 + d7) + 33554432 * (d4 + d5 + d6 + d7) + 8589934592 * (d5 + d6 + d7) + 2199023255552 * (d6 + d7) + 562949953421312 * (d7)) 128 (by omega) (by omega)]
theorem le3 (d0 d1 d2 d3 d4 d5 d6 d7 : Nat) : d0 + 256 * (d1 + 256 * (d2 + 256 * (d3 + 256 * (d4 + 256 * (d5 + 256 * (d6 + 256 * (d7 + 256 * 0))))))) = 1 * (d0) + 256 * (d1) + 65536 * (d2) + 16777216 * (d3) + 4294967296 * (d4) + 1099511627776 * (d5) + 281474976710656 * (d6) + 72057594037927936 * (d7) := by omega
theorem lf (d0 d1 d2 d3 d4 d5 d6 d7 : Nat) (p0 : d0 ≤ 8) (p1 : d1 ≤ 8) (p2 : d2 ≤ 8) (p3 : d3 ≤ 8) (p4 : d4 ≤ 8) (p5 : d5 ≤ 8) (p6 : d6 ≤ 8) (p7 : d7 ≤ 8) : (1 * (d0) + 256 * (d1) + 65536 * (d2) + 16777216 * (d3) + 4294967296 * (d4) + 1099511627776 * (d5) + 281474976710656 * (d6) + 72057594037927936 * (d7)) < 9223372036854775808 ∧ (1 * (d0 + d1) + 256 * (d1 + d2) + 65536 * (d2 + d3) + 16777216 * (d3 + d4) + 4294967296 * (d4 + d5) + 1099511627776 * (d5 + d6) + 281474976710656 * (d6 + d7) + 72057594037927936 * (d7)) < 9223372036854775808 ∧ (1 * (d0 + d1 + d2 + d3) + 256 * (d1 + d2 + d3 + d4) + 65536 * (d2 + d3 + d4 + d5) + 16777216 * (d3 + d4 + d5 + d6) + 4294967296 * (d4 + d5 + d6 + d7) + 1099511627776 * (d5 + d6 + d7) + 281474976710656 * (d6 + d7) + 72057594037927936 * (d7)) < 9223372036854775808 ∧ (1 * (d0 + d1 + d2 + d3 + d4 + d5 + d6 + d7) + 256 * (d1 + d2 + d3 + d4 + d5 + d6 + d7) + 65536 * (d2 + d3 + d4 + d5 + d6 + d7) + 16777216 * (d3 + d4 + d5 + d6 + d7) + 4294967296 * (d4 + d5 + d6 + d7) + 1099511627776 * (d5 + d6 + d7) + 281474976710656 * (d6 + d7) + 72057594037927936 * (d7)) < 9223372036854775808 := by
  refine ⟨?_, ?_, ?_, ?_⟩ <;> omega
/-- The three last steps. -/
theorem last (s x4 x5 x6 : Nat) (h4 : x4 = PC 8 s + PC 8 s / 256) (h5 : x5 = x4 + x4 / 65536) (h6 : x6 = x5 + x5 / 4294967296) : x6 % 128 = (elems s).length ∧ PC 8 s < 9223372036854775808 ∧ x4 < 9223372036854775808 ∧ x5 < 9223372036854775808 ∧ x6 < 9223372036854775808 := by
  rw [cnt_eq]
  simp only [PC, PS] at *
  have p0 := pc8_le (s % 256)
  have p1 := pc8_le (s / 256 % 256)
  have p2 := pc8_le (s / 256 / 256 % 256)
  have p3 := pc8_le (s / 256 / 256 / 256 % 256)
  have p4 := pc8_le (s / 256 / 256 / 256 / 256 % 256)
  have p5 := pc8_le (s / 256 / 256 / 256 / 256 / 256 % 256)
  have p6 := pc8_le (s / 256 / 256 / 256 / 256 / 256 / 256 % 256)
  have p7 := pc8_le (s / 256 / 256 / 256 / 256 / 256 / 256 / 256 % 256)
  generalize pc8 (s / 256 / 256 / 256 / 256 / 256 / 256 / 256 % 256) = d7 at *
  generalize pc8 (s / 256 / 256 / 256 / 256 / 256 / 256 % 256) = d6 at *
  generalize pc8 (s / 256 / 256 / 256 / 256 / 256 % 256) = d5 at *
  generalize pc8 (s / 256 / 256 / 256 / 256 % 256) = d4 at *
  generalize pc8 (s / 256 / 256 / 256 % 256) = d3 at *
  generalize pc8 (s / 256 / 256 % 256) = d2 at *
  generalize pc8 (s / 256 % 256) = d1 at *
  generalize pc8 (s % 256) = d0 at *
  rw [le3] at h4 ⊢
  have a4 := h4.trans (la d0 d1 d2 d3 d4 d5 d6 d7 p0 p1 p2 p3 p4 p5 p6 p7)
  rw [a4, lb d0 d1 d2 d3 d4 d5 d6 d7 p0 p1 p2 p3 p4 p5 p6 p7] at h5
  rw [h5, lc d0 d1 d2 d3 d4 d5 d6 d7 p0 p1 p2 p3 p4 p5 p6 p7] at h6
  have b := lf d0 d1 d2 d3 d4 d5 d6 d7 p0 p1 p2 p3 p4 p5 p6 p7
  have c := ld d0 d1 d2 d3 d4 d5 d6 d7 p0 p1 p2 p3 p4 p5 p6 p7
  rw [a4, h5, h6]
  refine ⟨c.trans ?_, b⟩
  clear b c h4 h5 h6 a4
  omega
end Go.Proofs.Ytadjmgmdnekllaa
