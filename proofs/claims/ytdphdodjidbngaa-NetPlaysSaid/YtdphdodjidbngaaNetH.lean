/- net: bits that are turned, in mathematics; the bytes' flips. -/
import Derived.Test.YtdphdodjidbngaaNetG
import Derived.Test.YtdphdodjidbngaaNtB
import Derived.Test.YtdphdodjidbngaaOnly
import Derived.Test.YtdphdodjidbngaaOpn
import Derived.Lib.BitFns
namespace Go.Proofs.Ytdphdodjidbngaa
open Go.RowKit
set_option linter.unusedVariables false
set_option linter.unusedSimpArgs false

theorem flip_all : ∀ c : Fin 256, ∀ r : Fin 8, (c.val ^^^ 2 ^ r.val) = (if c.val / 2 ^ r.val % 2 = 1 then c.val - 2 ^ r.val else c.val + 2 ^ r.val) ∧ (c.val ^^^ 2 ^ r.val) < 256 := by decide +kernel
/-- Bit k behind the first byte, flipped. -/
def flB (b : List UInt8) (k : Nat) : List UInt8 := b.set (1 + k / 8) (UInt8.ofNat ((b.getD (1 + k / 8) 0).toNat ^^^ 2 ^ (k % 8)))
/-- The bytes behind n of the bits t, from bit a on. -/
def trs (b : List UInt8) (a t : Nat) : Nat → List UInt8
  | 0 => b
  | n + 1 => if t / 2 ^ n % 2 = 1 ∧ 1 + (a + n) / 8 < b.length then flB (trs b a t n) (a + n) else trs b a t n
theorem trs_len (b : List UInt8) (a t : Nat) : ∀ n, (trs b a t n).length = b.length
  | 0 => rfl
  | n + 1 => by
    rw [trs]
    split
    · rw [flB, List.length_set, trs_len b a t n]
    · exact trs_len b a t n
theorem trs_stay {b : List UInt8} {a t n : Nat} (h : ∀ m, n ≤ m → ¬ (t / 2 ^ m % 2 = 1 ∧ 1 + (a + m) / 8 < b.length)) : ∀ j, trs b a t (n + j) = trs b a t n
  | 0 => rfl
  | j + 1 => by rw [← Nat.add_assoc, trs, if_neg (h _ (by omega)), trs_stay h j]
theorem trs_end {b : List UInt8} {a t n : Nat} (hn : n ≤ 32) (h : t / 2 ^ n = 0 ∨ b.length ≤ 1 + (a + n) / 8) : trs b a t 32 = trs b a t n := by
  obtain ⟨j, hj⟩ : ∃ j, 32 = n + j := ⟨32 - n, by omega⟩
  rw [hj]
  have h9 := trs_stay (b := b) (a := a) (t := t) (n := n) (fun m hm => by
    rintro ⟨h1, h2⟩
    rcases h with h3 | h3
    · have h4 : t / 2 ^ m = 0 := by
        have : t < 2 ^ n := by
          rcases Nat.div_eq_zero_iff.1 h3 with h5 | h5
          · exact absurd h5 (Nat.ne_of_gt (Nat.two_pow_pos n))
          · exact h5
        exact Nat.div_eq_of_lt (Nat.lt_of_lt_of_le this (Nat.pow_le_pow_right (by omega) hm))
      omega
    · omega) j
  exact h9
theorem flip_byte (c : UInt8) (r : Nat) (hr : r < 8) : (UInt8.ofNat (c.toNat ^^^ 2 ^ r)).toNat = c.toNat ^^^ 2 ^ r ∧ c.toNat ^^^ 2 ^ r = (if c.toNat / 2 ^ r % 2 = 1 then c.toNat - 2 ^ r else c.toNat + 2 ^ r) ∧ c.toNat ^^^ 2 ^ r < 256 := by
  have h := flip_all ⟨c.toNat, c.toNat_lt⟩ ⟨r, hr⟩
  simp only at h
  refine ⟨?_, h.1, h.2⟩
  rw [UInt8.toNat_ofNat']
  exact Nat.mod_eq_of_lt h.2
theorem odd_u32 (u : Nat) (h : u < 4294967296) : bits .and .u32 (u : Int) 1 = ((u % 2 : Nat) : Int) := by
  have := u32_and_nat u 1 h (by omega)
  rw [Nat.and_one_is_mod] at this
  rw [← this]
  simp
theorem turn_odd (x u r : Nat) (hx : x < 256) (hu : u < 4294967296) (hr : r < 8) (ho : u % 2 = 1) : bits .xor .u8 (x : Int) (bits .and .u32 (u : Int) 1 % 256 * 2 ^ r % 256) = ((x ^^^ 2 ^ r : Nat) : Int) := by
  rw [odd_u32 u hu, ho]
  have h2 : (2 : Nat) ^ r < 256 := Nat.lt_of_lt_of_le (Nat.pow_lt_pow_right (by omega) hr) (by decide)
  have e : (((1 : Nat) : Int) % 256 * 2 ^ r % 256) = ((2 ^ r : Nat) : Int) := by
    match r, hr with
    | 0, _ => rfl
    | 1, _ => rfl
    | 2, _ => rfl
    | 3, _ => rfl
    | 4, _ => rfl
    | 5, _ => rfl
    | 6, _ => rfl
    | 7, _ => rfl
  rw [e, u8_xor_nat _ _ hx h2]
theorem turn_even (x u r : Nat) (hx : x < 256) (hu : u < 4294967296) (ho : u % 2 = 0) : bits .xor .u8 (x : Int) (bits .and .u32 (u : Int) 1 % 256 * 2 ^ r % 256) = (x : Int) := by
  rw [odd_u32 u hu, ho, show (((0 : Nat) : Int) % 256 * 2 ^ r % 256) = ((0 : Nat) : Int) by simp, u8_xor_nat _ _ hx (by omega), Nat.xor_zero]
theorem div_next (t n : Nat) : t / 2 ^ (n + 1) = t / 2 ^ n / 2 := by rw [Nat.pow_succ, Nat.div_div_eq_div_mul]
theorem tcells_set4 : ∀ (l : List Tg) (k : Nat) (x : Tg), k < l.length → tcells (l.set k x) = ((((tcells l).set (k * 4) (.int .i64 x.from')).set (k * 4 + 1) (.int .i64 x.to')).set (k * 4 + 2) (.string (str x.s))).set (k * 4 + 3) (.bool x.t)
  | y :: l, 0, x, _ => by simp [tcells_cons]
  | y :: l, k + 1, x, h => by
    have ih := tcells_set4 l k x (by simpa using h)
    rw [List.set_cons_succ, tcells_cons, tcells_cons, ih, show (k + 1) * 4 = k * 4 + 4 by omega]
    simp
theorem own_setc {w : World} {base e s n g c : Nat} {xs : List Value} (h : w.ownsRow base e s (.slice (some ⟨g, 0, none⟩) n c) n xs) (h0 : 0 < n) (hs : 0 < s) (i : Nat) (u : Value) : (w.setCell ⟨g, i, none⟩ u).ownsRow base e s (.slice (some ⟨g, 0, none⟩) n c) n (xs.set i u) := by
  obtain ⟨g', c', he, _, _, _, _, h9, _⟩ := own_open h h0 hs
  cases he
  exact h9 i u
/-- The world behind a thing that is written over. -/
def put4 (w : World) (g k : Nat) (x : Tg) : World := (((w.setCell ⟨g, k * 4, none⟩ (.int .i64 x.from')).setCell ⟨g, k * 4 + 1, none⟩ (.int .i64 x.to')).setCell ⟨g, k * 4 + 2, none⟩ (.string (str x.s))).setCell ⟨g, k * 4 + 3, none⟩ (.bool x.t)
theorem put4_eq (w : World) (g k : Nat) (a b : Int) (s : List UInt8) (t : Bool) : put4 w g k ⟨a, b, s, t⟩ = (((w.setCell ⟨g, k * 4, none⟩ (.int .i64 a)).setCell ⟨g, k * 4 + 1, none⟩ (.int .i64 b)).setCell ⟨g, k * 4 + 2, none⟩ (.string (str s))).setCell ⟨g, k * 4 + 3, none⟩ (.bool t) := rfl
theorem put4_only (w : World) (g k : Nat) (x : Tg) : Only g w (put4 w g k x) := ((((Only.refl _ _).set _ _).set _ _).set _ _).set _ _
theorem NetAt.put {B b g c : Nat} {m : Int} {l : List Tg} {w : World} (h0 : B ≤ b) (h1 : w.heap[b]? = some (.cells #[.int .i64 m, .slice (some ⟨g, 0, none⟩) l.length c] 133 (0, 0))) (h2 : w.ownsRow B 60 4 (.slice (some ⟨g, 0, none⟩) l.length c) l.length (tcells l)) (k : Nat) (hk : k < l.length) (x : Tg) :
    NetAt B b m (l.set k x) (put4 w g k x) ∧ Othr b w (put4 w g k x) ∧ B ≤ g := by
  have hgb : g ≠ b := fun h => own_blk_ne2 h2 h1 (by decide) (by rw [h]; rfl)
  obtain ⟨g', c', he, hg, _⟩ := own_open h2 (by omega) (by omega)
  cases he
  have ht : ∀ cs T fr, w.heap[g]? = some (.cells cs T fr) → T = 60 := fun cs T fr hh => by
    rcases h2.2 with ⟨h9, _⟩ | ⟨g2, cap, cur, h9, _, hg2, _⟩
    · cases h9
    · cases h9
      rw [hh] at hg2
      cases hg2
      rfl
  refine ⟨⟨h0, some ⟨g, 0, none⟩, c, ?_, ?_⟩, fun k' cs T fr hkb hT hh => ?_, hg⟩
  · rw [List.length_set]
    exact (put4_only w g k x).block h1 (fun h => hgb h.symm)
  · rw [List.length_set, tcells_set4 l k x hk]
    exact own_setc (own_setc (own_setc (own_setc h2 (by omega) (by omega) _ _) (by omega) (by omega) _ _) (by omega) (by omega) _ _) (by omega) (by omega) _ _
  · exact (put4_only w g k x).block hh (fun h => hT (by subst h; exact ht _ _ _ hh))
theorem put4_drew (w : World) (g k : Nat) (x : Tg) {B b : Nat} {m : Int} {l : List Tg} : NetAt B b m l (put4 w g k x) → NetAt B b m l (put4 w.drew g k x) := fun h => h
end Go.Proofs.Ytdphdodjidbngaa
