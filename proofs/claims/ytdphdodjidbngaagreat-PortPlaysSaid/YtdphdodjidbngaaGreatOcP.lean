/- The length of a number in bits and in bytes; its bytes, the greatest part ahead: the plain facts. -/
import Derived.Test.YtdphdodjidbngaaGreatGaP
import Derived.Test.YtdphdodjidbngaaGreatChecked
import Derived.Deep.Cut
import Derived.Lib.Strings
import Derived.Lib.Slices
import Derived.Lib.Small
import Derived.Lib.Walk
import Derived.Lib.BitFns
import Derived.Lib.MinMax
import Derived.Outline
import Derived.Lib.AppendStr
import Derived.Laws.Strings2
namespace Go.Proofs.YtdphdodjidbngaaGreat
set_option linter.unusedVariables false

/-- The length in bits. -/
def bl (x : Nat) : Nat := if x = 0 then 0 else x.log2 + 1
theorem bl_lt (x : Nat) : x < 2 ^ bl x := by
  unfold bl
  by_cases h : x = 0
  · subst h; simp
  · rw [if_neg h]; exact Nat.lt_log2_self
theorem bl_le {x k : Nat} (h : 2 ^ k ≤ x) : k + 1 ≤ bl x := by
  have h0 : x ≠ 0 := by have := Nat.two_pow_pos k; omega
  unfold bl
  rw [if_neg h0]
  have := (Nat.le_log2 h0).2 h
  omega
theorem bl_ge {x k : Nat} (h : x < 2 ^ k) : bl x ≤ k := by
  by_cases h0 : x = 0
  · subst h0; simp [bl]
  · unfold bl
    rw [if_neg h0]
    have := (Nat.log2_lt h0).2 h
    omega
theorem bl_low {x : Nat} (h : x ≠ 0) : 2 ^ (bl x - 1) ≤ x := by
  unfold bl
  rw [if_neg h, Nat.add_sub_cancel]
  exact Nat.log2_self_le h
theorem bl_eq {x k : Nat} (h1 : 2 ^ k ≤ x) (h2 : x < 2 ^ (k + 1)) : bl x = k + 1 := by
  have := bl_le h1
  have := bl_ge h2
  omega
theorem bl_shift {x k : Nat} (h : 2 ^ k ≤ x) : bl x = k + bl (x / 2 ^ k) := by
  have h0 : x / 2 ^ k ≠ 0 := by
    have := Nat.div_pos h (Nat.two_pow_pos k)
    omega
  have h1 := bl_low h0
  have h2 := bl_lt (x / 2 ^ k)
  have hp : 1 ≤ bl (x / 2 ^ k) := by unfold bl; rw [if_neg h0]; omega
  obtain ⟨m, hm⟩ : ∃ m, bl (x / 2 ^ k) = m + 1 := ⟨bl (x / 2 ^ k) - 1, by omega⟩
  rw [hm] at h1 h2 ⊢
  rw [Nat.add_sub_cancel] at h1
  rw [show k + (m + 1) = (k + m) + 1 by omega]
  apply bl_eq
  · rw [Nat.pow_add, Nat.mul_comm]
    exact (Nat.le_div_iff_mul_le (Nat.two_pow_pos k)).1 h1
  · rw [show k + m + 1 = (m + 1) + k by omega, Nat.pow_add]
    exact (Nat.div_lt_iff_lt_mul (Nat.two_pow_pos k)).1 h2

/-- The length in bytes. -/
def wd (n : Nat) : Nat := (bl n + 7) / 8
theorem pow_256 (k : Nat) : 256 ^ k = 2 ^ (8 * k) := by rw [Nat.pow_mul]
theorem wd_lt (n : Nat) : n < 256 ^ wd n := by
  rw [pow_256]
  refine Nat.lt_of_lt_of_le (bl_lt n) (Nat.pow_le_pow_right (by omega) ?_)
  unfold wd; omega
theorem wd_le {n k : Nat} (h : n < 256 ^ k) : wd n ≤ k := by
  rw [pow_256] at h
  have := bl_ge h
  unfold wd; omega
theorem wd_gt {n k : Nat} (h : 256 ^ k ≤ n) : k < wd n := by
  rw [pow_256] at h
  have := bl_le h
  unfold wd; omega
theorem wd_pos {n : Nat} (h : 0 < n) : 0 < wd n := wd_gt (k := 0) (by simp; omega)
theorem wd_eq {n k : Nat} (h1 : 256 ^ k ≤ n) (h2 : n < 256 ^ (k + 1)) : wd n = k + 1 := by
  have := wd_gt h1
  have := wd_le h2
  omega
theorem wd_max {n : Nat} (h : n ≤ 72057594037927935) : wd n ≤ 7 := wd_le (by simp; omega)

/-- n's last k bytes, the greatest part ahead. -/
def beB : Nat → Nat → List UInt8
  | 0, _ => []
  | t + 1, n => UInt8.ofNat (n / 256 ^ t % 256) :: beB t n
theorem beB_length : ∀ k n, (beB k n).length = k
  | 0, _ => rfl
  | k + 1, n => by simp [beB, beB_length k n]
/-- The number with these bytes. -/
def joinN (acc : Nat) : List UInt8 → Nat
  | [] => acc
  | c :: l => joinN (acc * 256 + c.toNat) l
theorem joinN_beB : ∀ k n acc, n < 256 ^ k → joinN acc (beB k n) = acc * 256 ^ k + n
  | 0, n, acc, h => by simp at h; simp [beB, joinN, h]
  | k + 1, n, acc, h => by
    have hp : 0 < 256 ^ k := Nat.pow_pos (by omega)
    have hlow : ∀ m, beB k m = beB k (m % 256 ^ k) := by
      intro m
      have : ∀ t, t ≤ k → beB t m = beB t (m % 256 ^ k) := by
        intro t ht
        induction t with
        | zero => rfl
        | succ t ih =>
          rw [beB, beB, ih (by omega)]
          congr 2
          obtain ⟨d, rfl⟩ : ∃ d, k = t + 1 + d := ⟨k - (t + 1), by omega⟩
          rw [show 256 ^ (t + 1 + d) = 256 ^ t * (256 * 256 ^ d) by rw [Nat.pow_add, Nat.pow_succ, Nat.mul_assoc], Nat.mod_mul_right_div_self, Nat.mod_mul_right_mod]
      exact this k (Nat.le_refl _)
    have hd : n / 256 ^ k < 256 := (Nat.div_lt_iff_lt_mul hp).2 (by rw [Nat.pow_succ, Nat.mul_comm] at h; exact h)
    rw [beB, joinN, hlow n, joinN_beB k (n % 256 ^ k) _ (Nat.mod_lt _ hp)]
    rw [UInt8.toNat_ofNat', Nat.mod_eq_of_lt hd, Nat.mod_eq_of_lt (by simpa using hd), Nat.add_mul, Nat.pow_succ, Nat.add_assoc]
    have := Nat.div_add_mod n (256 ^ k)
    rw [Nat.mul_comm (256 ^ k)] at this
    rw [this, Nat.mul_assoc, Nat.mul_comm 256]
theorem joinN_lt : ∀ l acc, joinN acc l < (acc + 1) * 256 ^ l.length
  | [], acc => by simp [joinN]
  | c :: l, acc => by
    have h := joinN_lt l (acc * 256 + c.toNat)
    have hc := c.toNat_lt
    rw [joinN, List.length_cons, Nat.pow_succ, Nat.mul_comm (256 ^ l.length), ← Nat.mul_assoc]
    refine Nat.lt_of_lt_of_le h (Nat.mul_le_mul_right _ ?_)
    omega
theorem beB_joinN : ∀ l acc k, l.length = k → beB k (joinN acc l) = l
  | [], acc, k, h => by subst h; rfl
  | c :: l, acc, k, h => by
    subst h
    rw [List.length_cons, beB, joinN, beB_joinN l _ _ rfl]
    congr 1
    have h1 := joinN_lt l (acc * 256 + c.toNat)
    have h2 : (acc * 256 + c.toNat) * 256 ^ l.length ≤ joinN (acc * 256 + c.toNat) l := by
      have : ∀ l a, a * 256 ^ (l : List UInt8).length ≤ joinN a l := by
        intro l
        induction l with
        | nil => intro a; simp [joinN]
        | cons d l ih =>
          intro a
          rw [joinN, List.length_cons, Nat.pow_succ, Nat.mul_comm (256 ^ l.length), ← Nat.mul_assoc]
          exact Nat.le_trans (Nat.mul_le_mul_right _ (by omega)) (ih _)
      exact this l _
    have hp : 0 < 256 ^ l.length := Nat.pow_pos (by omega)
    have h3 : joinN (acc * 256 + c.toNat) l / 256 ^ l.length = acc * 256 + c.toNat := by
      apply Nat.div_eq_of_lt_le
      · exact h2
      · exact h1
    rw [h3]
    have hc := c.toNat_lt
    rw [show (acc * 256 + c.toNat) % 256 = c.toNat by omega]
    simp

/-- The bytes of a number. -/
def cl (n : Int) : Nat := (min (max n 0) 72057594037927935).toNat
def numB (n : Nat) : List UInt8 := if n < 248 then [UInt8.ofNat n] else UInt8.ofNat (247 + wd n) :: beB (wd n) n
theorem numB_length (n : Nat) (h : n ≤ 72057594037927935) : 1 ≤ (numB n).length ∧ (numB n).length ≤ 8 := by
  unfold numB
  have := wd_max h
  split <;> simp [beB_length]; omega
end Go.Proofs.YtdphdodjidbngaaGreat

namespace Go.Proofs.YtdphdodjidbngaaGreat
open Go.RowKit
set_option linter.unusedVariables false
set_option linter.unusedSimpArgs false

theorem oret_i64 {a b : Int} (h : a = b) : Ending.returned (.int .i64 a) = .returned (.int .i64 b) := by rw [h]
theorem bl_8 {x : Nat} (h : x < 256) : bl x ≤ 8 := bl_ge (k := 8) (by simpa using h)

theorem len_fin (k : Nat) (x y : Int) (hy : y.toNat = x.toNat / 2 ^ k) (hx : 2 ^ k ≤ x.toNat) (h : y.toNat < 256) (hk : k ≤ 56) : wrap64 ((k : Int) + wrap64 ((bl y.toNat : Nat) : Int)) = ((bl x.toNat : Nat) : Int) := by
  have h1 := bl_8 h
  have h2 := bl_shift hx
  rw [← hy] at h2
  unfold wrap64
  omega
theorem len_zero (x : Int) (h : x.toNat < 256) : wrap64 (wrap64 ((bl x.toNat : Nat) : Int)) = ((bl x.toNat : Nat) : Int) := by
  have h1 := bl_8 h
  unfold wrap64
  omega
theorem tab_size : (Lib.len8tab.size : Int) = 256 := by decide +kernel
theorem tab_fin : ∀ j : Fin Lib.len8tab.size, (Lib.len8tab[j.val]'j.isLt).toNat = bl j.val := by decide +kernel
theorem tab_bl (i : Nat) (h : i < Lib.len8tab.size) : (Lib.len8tab[i]'h).toNat = bl i := tab_fin ⟨i, h⟩

set_option maxRecDepth 100000 in
set_option maxHeartbeats 1000000 in
theorem len64_any (x : Int) (w : World) (h0 : 0 ≤ x) (h1 : x ≤ 18446744073709551615) : Calls Tryz.prog 130 #[.int .u64 x] w fun e w' => e = .returned (.int .i64 (bl x.toNat : Nat)) ∧ w = w' := by
  go_enter Tryz.func130, Tryz.ntmps130
  go_wp2
  all_goals first
    | (exfalso; rename_i h; exact h ⟨by omega, by rw [tab_size]; omega⟩)
    | go_ret
  all_goals refine ⟨congrArg Ending.returned (congrArg (Value.int IntKind.i64) ?_), rfl⟩
  all_goals simp only [tab_bl]
  all_goals first
    | exact len_fin 56 x _ (by omega) (by omega) (by omega) (by omega)
    | exact len_fin 48 x _ (by omega) (by omega) (by omega) (by omega)
    | exact len_fin 40 x _ (by omega) (by omega) (by omega) (by omega)
    | exact len_fin 32 x _ (by omega) (by omega) (by omega) (by omega)
    | exact len_fin 24 x _ (by omega) (by omega) (by omega) (by omega)
    | exact len_fin 16 x _ (by omega) (by omega) (by omega) (by omega)
    | exact len_fin 8 x _ (by omega) (by omega) (by omega) (by omega)
    | exact len_zero x (by omega)

theorem len_any (x : Int) (w : World) (h0 : 0 ≤ x) (h1 : x ≤ 18446744073709551615) : Calls Tryz.prog 111 #[.int .u64 x] w fun e w' => e = .returned (.int .i64 (bl x.toNat : Nat)) ∧ w = w' := by
  have H := hid (fun w => len64_any x w h0 h1)
  go_enter Tryz.func111, Tryz.ntmps111
  go_wp2_with (go_at_call 130; refine (H.out _).mono ?_; rintro e w' ⟨rfl, rfl⟩)
  go_ret
  exact ⟨rfl, rfl⟩

theorem width_any (n : Nat) (w : World) (h : n ≤ 72057594037927935) : Calls Tryz.prog 95 #[.int .i64 n] w fun e w' => e = .returned (.int .i64 (wd n : Nat)) ∧ w = w' := by
  have H := hid (fun w => len_any (n : Int) w (by omega) (by omega))
  rw [Int.toNat_natCast] at H
  have hb : bl n ≤ 64 := bl_ge (by simp; omega)
  have HE : Hid (((bl n + 7) / 8 : Nat) = wd n) := rfl
  generalize bl n = b at *
  go_enter Tryz.func95, Tryz.ntmps95
  go_wp2_with (go_at_call 111; refine (H.out _).mono ?_; rintro e w' ⟨rfl, rfl⟩)
  go_ret
  exact ⟨oret_i64 (by rw [← HE.out]; omega), rfl⟩
end Go.Proofs.YtdphdodjidbngaaGreat

namespace Go.Proofs.YtdphdodjidbngaaGreat
open Go.RowKit
set_option linter.unusedVariables false
set_option linter.unusedSimpArgs false

theorem info_u8 : (Tryz.prog.info? 5).map (fun i => (i.zero, i.size, i.bytes)) = some (some (.int .u8 0), 1, 1) := by kernel_rfl
theorem cl_eq (n : Int) : min (max n 0) 72057594037927935 = ((cl n : Nat) : Int) := by unfold cl; omega
theorem cl_le (n : Int) : cl n ≤ 72057594037927935 := by unfold cl; omega
set_option maxRecDepth 20000 in
set_option maxHeartbeats 1000000 in
theorem num_any (a : Option Addr) (len cap : Nat) (l : List UInt8) (n : Int) (w : World) (hb : IsBytes w a len cap l) (hl : l.length ≤ 140737488351232) :
    Calls Tryz.prog 51 #[.slice a len cap, .int .i64 n] w fun e w' => ∃ v, e = .returned v ∧ w'.ownsRow w.heap.size 5 1 v (l.length + (numB (cl n)).length) (bcells (l ++ numB (cl n))) ∧ Below w.heap.size w w' := by
  obtain ⟨rfl, hlc, hcm⟩ := hb.len
  have hc := cl_le n
  have HC := hid (cl_eq n)
  generalize cl n = c at *
  have hw := wd_max hc
  have HW := hid (fun w => width_any c w hc)
  have HP := hid (fun (h : 248 ≤ c) => wd_pos (n := c) (by omega))
  have HN : Hid (numB c = if c < 248 then [UInt8.ofNat c] else UInt8.ofNat (247 + wd c) :: beB (wd c) c) := rfl
  generalize wd c = k at *
  have hmk := run_make_1 (P := Tryz.prog) 54 5 Tryz.underlying54 info_u8 rfl l.length (l.length + 1 + k) (by omega) (by omega) (by unfold maxLen; omega)
  rw [show ((l.length + 1 + k : Nat) : Int) = (l.length : Int) + 1 + (k : Int) by omega] at hmk
  have HB := hid hb; clear hb
  go_enter Tryz.func51, Tryz.ntmps51
  go_upto_region 2 with (fail)
  rw [HC.out]
  go_upto_region 3 with (go_at_call 95; refine (HW.out _).mono ?_; rintro e w' ⟨rfl, rfl⟩)
  go_wp2_with (with_reducible refine wpList_copy_splice rfl (.tmp 21) (.tmp 22) 54 54 rfl 5 Tryz.underlying54 (by kernel_rfl) _ _ _ _ _ _ rfl rfl w.heap.size 0 (List.replicate (l.length+1+k) (.int .u8 0)) 5 ?c1 (bcells l) ?c2 ?c3 ?c4 (bcells_one l) w.heap.size w ?c5 (Nat.le_refl _) ?_)
  case c1 => simpa using heap_alloc_new w _
  case c2 => simp [bcells]
  case c3 => exact HB.out.src ((Below.refl _ _).alloc (Nat.le_refl _) _)
  case c4 => simp [bcells]; omega
  case c5 => exact (Below.refl _ _).alloc (Nat.le_refl _) _
  intro w2 HG2 hB2
  have HO1 := hid (own_of_splice HG2.out (Nat.le_refl _) (bcells_length l) (by omega) (by unfold maxLen; omega))
  have HB2 := hid hB2
  have hsz := hB2.size
  clear hmk hB2
  by_cases h8 : c < 248
  · rw [if_pos h8] at HN
    have hc8 : (c : Int) < 248 := by omega
    have HT : Hid (bcells (l ++ [UInt8.ofNat c]) = bcells l ++ [.int .u8 (c : Int)]) := hid (by rw [bcells_append]; simp [bcells]; omega)
    go_wp2_with (at_builtin; refine wpList_append_1 (W := w) rfl (.tmp 26) (.tmp 29) 54 rfl w.heap.size 5 Tryz.underlying54 info_u8 rfl (by omega) rfl HO1.out rfl rfl (by simp; rfl) ?c1 ?c2 hsz HB2.out ?_)
    case c1 => unfold maxLen; omega
    case c2 => omega
    intro v' w' h2 h3 h4
    have HO2 := hid h2
    clear h2
    go_wp2
    go_ret
    exact ⟨_, rfl, by rw [HN.out, HT.out]; exact HO2.out, h3⟩
  · rw [if_neg h8] at HN
    have hc8 : (248 : Int) ≤ c := by omega
    have hk := HP.out (by omega)
    have HT : Hid (bcells (l ++ [UInt8.ofNat (247 + k)]) = bcells l ++ [.int .u8 (247 + (k : Int))]) := hid (by rw [bcells_append]; simp [bcells]; omega)
    go_wp2_with (at_builtin; refine wpList_append_1 (W := w) rfl (.tmp 31) (.tmp 35) 54 rfl w.heap.size 5 Tryz.underlying54 info_u8 rfl (by omega) rfl HO1.out rfl rfl (by simp; rfl) ?c1 ?c2 hsz HB2.out ?_)
    case c1 => unfold maxLen; omega
    case c2 => omega
    intro v' w' h2 h3 h4
    have HO2 : Hid (w'.ownsRow w.heap.size 5 1 v' (l.length + 1) (bcells (l ++ [UInt8.ofNat (247 + k)]))) := hid (by rw [HT.out]; exact h2)
    clear h2 HT HO1 HB2 h4
    go_wp2
    go_loopw [6, 7] (fun v i wr => ∃ (m : Nat) (pre : List UInt8), m ≤ k ∧ i = .int .i64 ((m : Int) - 1) ∧ Hid (pre ++ beB m c = l ++ UInt8.ofNat (247 + k) :: beB k c) ∧ pre.length = l.length + 1 + (k - m) ∧ Hid (wr.ownsRow w.heap.size 5 1 v pre.length (bcells pre)) ∧ Hid (Below w.heap.size w wr)) (fun _ i _ => (intOf i + 1).toNat)
    case atStart => exact ⟨k, l ++ [UInt8.ofNat (247 + k)], Nat.le_refl _, rfl, by simp [Hid], by simp, by simpa using HO2, h3⟩
    case round =>
      obtain ⟨m, pre, hm, rfl, HE, hpl, HO, HBr⟩ := hrel
      clear HO2 h3
      rcases Nat.eq_zero_or_pos m with h0 | h0
      · subst h0
        have hneg : decide ((0 : Int) ≤ (((0 : Nat) : Int) - 1)) = false := by simp
        go_wp2
        go_ret
        have hE : pre = l ++ UInt8.ofNat (247 + k) :: beB k c := by have := HE.out; simpa [beB] using this
        exact ⟨_, rfl, by rw [HN.out, ← hE, ← List.length_append]; have h := HO.out; rw [hE] at h ⊢; exact h, HBr.out⟩
      · obtain ⟨t, rfl⟩ : ∃ t, m = t + 1 := ⟨m - 1, by omega⟩
        rw [show (((t + 1 : Nat) : Int) - 1) = (t : Int) by omega]
        have ht7 : t < 7 := by omega
        have HT : Hid (bcells (pre ++ [UInt8.ofNat (c / 256 ^ t % 256)]) = bcells pre ++ [.int .u8 ((c : Int) / 2 ^ (8 * t) % 256)]) := hid (by
          rw [bcells_append]
          have : ((c : Int) / 2 ^ (8 * t) % 256) = ((c / 256 ^ t % 256 : Nat) : Int) := by
            rw [pow_256]
            simp
          rw [this]
          simp [bcells])
        have HE2 : Hid ((pre ++ [UInt8.ofNat (c / 256 ^ t % 256)]) ++ beB t c = l ++ UInt8.ofNat (247 + k) :: beB k c) := hid (by
          rw [← HE.out, beB]
          simp)
        clear HE
        go_wp2_with (at_builtin; refine wpList_append_1 (W := w) rfl (.tmp 43) (.tmp 49) 54 rfl w.heap.size 5 Tryz.underlying54 info_u8 rfl (by omega) rfl HO.out rfl rfl (by simp; rfl) ?c1 ?c2 HBr.out.size HBr.out ?_)
        case c1 => unfold maxLen; omega
        case c2 => omega
        intro v'' w'' h2 h3 h4
        have HO3 := hid h2
        clear h2
        go_wp2
        go_roundw
        case rel => exact ⟨t, pre ++ [UInt8.ofNat (c / 256 ^ t % 256)], by omega, rfl, HE2, by simp; omega, by rw [Hid, HT.out, List.length_append, hpl]; exact HO3.out, h3⟩
        case measure => simp [intOf]

set_option maxHeartbeats 1000000 in
theorem text_any (a : Option Addr) (len cap : Nat) (l : List UInt8) (s : ByteArray) (w : World) (hb : IsBytes w a len cap l) (hl : l.length ≤ 100000) (hs : s.size ≤ 100000) :
    Calls Tryz.prog 55 #[.slice a len cap, .string s] w fun e w' => ∃ v, e = .returned v ∧ w'.ownsRow w.heap.size 5 1 v (l.length + (numB s.size).length + s.size) (bcells (l ++ numB s.size ++ s.data.toList)) ∧ Below w.heap.size w w' := by
  have HN := hid (num_any a len cap l (s.size : Nat) w hb (by omega))
  rw [show cl ((s.size : Nat) : Int) = s.size by unfold cl; omega] at HN
  have hnl := numB_length s.size (by omega)
  clear hb
  generalize numB s.size = nb at *
  go_enter Tryz.func55, Tryz.ntmps55
  go_wp2_with fail
  refine HN.out.mono ?_
  rintro e w1 ⟨v, rfl, ho, hb⟩
  have HO := hid ho
  have HB := hid hb
  clear ho hb
  obtain ⟨i, hi, hz0, hsz, hby⟩ := info_parts info_u8
  go_wp2_with (at_builtin; refine Lib.wpList_append_own_string _ rfl (.tmp 8) (.tmp 9) 54 9 rfl w.heap.size 5 i Tryz.underlying54 Tryz.underlying9 hi hz0 hsz hby _ _ _ rfl HO.out _ rfl ?c1 ?c2 HB.out.size ?_)
  case c1 => unfold maxLen; omega
  case c2 => omega
  intro v' w' h2 h3 _
  have HB2 := hid (below_grown HB.out HO.out h3 HB.out.size)
  have HO2 : Hid (w'.ownsRow w.heap.size 5 1 v' (l.length + nb.length + s.size) (bcells (l ++ nb ++ s.data.toList))) := hid (by
    rw [bcells_append]
    have e : Lib.strCells s = bcells s.data.toList := by simp [Lib.strCells, bcells]
    rw [← e]
    exact h2)
  clear h2 h3
  go_wp2
  go_ret
  exact ⟨_, rfl, HO2.out, HB2.out⟩
end Go.Proofs.YtdphdodjidbngaaGreat

namespace Go.Proofs.YtdphdodjidbngaaGreat
open Go.RowKit
set_option linter.unusedVariables false
set_option linter.unusedSimpArgs false


theorem str_nonempty {l : List UInt8} (h : 0 < l.length) : (str l).toList.isEmpty = false := by
  rw [ByteArray.toList_eq, str]
  cases l with
  | nil => simp at h
  | cons a l => rfl
theorem conv_one (W : World) (x : Nat) (h : x < 256) : (convert 54 9 (.slice (some ⟨W.heap.size, 0, none⟩) 1 1)).run Tryz.prog (W.alloc (.cells #[.int .u8 (x : Int)] 5)) = .ok (.string (str [UInt8.ofNat x])) (W.alloc (.cells #[.int .u8 (x : Int)] 5)) := by
  have hs := Sl.lit W 5 1 1 #[.int .u8 (x : Int)] rfl (by unfold maxLen; omega)
  exact conv_str (P := Tryz.prog) (src := 54) (dst := 9) Tryz.underlying54 Tryz.underlying5 Tryz.underlying9 (l := [UInt8.ofNat x]) (by
    have e : bcells [UInt8.ofNat x] = [.int .u8 (x : Int)] := by simp [bcells]; omega
    rw [IsBytes, e]; exact hs)

set_option maxRecDepth 20000 in
set_option maxHeartbeats 1000000 in
theorem rbytes_any (n : Nat) (W : World) (h1 : 1 ≤ n) (h2 : n ≤ 72057594037927935) :
    Calls Tryz.prog 57 #[.int .i64 n] W fun e w' => e = .returned (.string (str (beB (wd n) n))) ∧ Below W.heap.size W w' := by
  go_enter Tryz.func57, Tryz.ntmps57
  go_wp2
  go_loopw [0, 3] (fun x s wr => ∃ t m : Nat, x = .int .i64 (m : Int) ∧ s = .string (str (beB t n)) ∧ m ≤ 72057594037927935 ∧ Hid (m = n / 256 ^ t) ∧ Hid (t ≤ wd n) ∧ Hid (Below W.heap.size W wr)) (fun x _ _ => (intOf x).toNat)
  case atStart => exact ⟨0, n, rfl, rfl, h2, by simp [Hid], Nat.zero_le _, Below.refl _ _⟩
  case round =>
    obtain ⟨t, m, rfl, rfl, hm, HM, HT, HB⟩ := hrel
    have HL := hid hm
    clear hm
    by_cases h0 : 0 < m
    · have hm0 : (0 : Int) < m := by omega
      have hcv := conv_one wr (m % 256) (by omega)
      rw [show ((m % 256 : Nat) : Int) = (m : Int) % 256 by omega] at hcv
      have hA : (str [UInt8.ofNat (m % 256)]).size = 1 := by rw [str_size]; rfl
      have hB : (str (beB t n)).size = t := by rw [str_size, beB_length]
      have ht : t ≤ 7 := Nat.le_trans HT.out (wd_max h2)
      have HW : Hid (wrap64 ((m : Int) / 256) = ((m / 256 : Nat) : Int)) := hid (by have := HL.out; unfold wrap64; omega)
      have HT2 : Hid (t + 1 ≤ wd n) := hid (by
        refine wd_gt ?_
        have h := HM.out
        rcases Nat.lt_or_ge n (256 ^ t) with h3 | h3
        · rw [Nat.div_eq_of_lt h3] at h; omega
        · exact h3)
      have HS : Hid (str [UInt8.ofNat (m % 256)] ++ str (beB t n) = str (beB (t + 1) n)) := hid (by rw [str_app, beB, HM.out]; rfl)
      have HM2 : Hid (m / 256 = n / 256 ^ (t + 1)) := hid (by rw [HM.out, Nat.div_div_eq_div_mul, Nat.pow_succ])
      clear h1 h2
      go_wp2
      refine ⟨⟨t + 1, m / 256, by rw [HW.out], by rw [HS.out], by have := HL.out; omega, HM2, HT2, HB.out.alloc HB.out.size _⟩, ?_⟩
      rw [HW.out]
      simp [intOf]
      omega
    · have hm0 : decide (0 < (m : Int)) = false := by simp; omega
      have hm1 : decide (0 < m) = false := by simp; omega
      have HE : Hid (beB t n = beB (wd n) n) := hid (by
        have h := HM.out
        have h3 : n < 256 ^ t := by
          rcases Nat.lt_or_ge n (256 ^ t) with h3 | h3
          · exact h3
          · have := Nat.div_pos h3 (Nat.pow_pos (by omega)); omega
        rw [Nat.le_antisymm HT.out (wd_le h3)])
      have hne : (str (beB t n)).toList.isEmpty = false := by
        have ht : t ≠ 0 := by rintro rfl; have h := HM.out; simp at h; omega
        exact str_nonempty (by rw [beB_length]; omega)
      clear h1 h2
      go_wp2
      go_ret
      exact ⟨by rw [← HE.out]; rfl, HB.out⟩

theorem cl_neg {n : Int} (h : n < 0) : cl n = 0 := by unfold cl; omega
theorem cl_big {n : Int} (h : 72057594037927935 < n) : cl n = 72057594037927935 := by unfold cl; omega
theorem cl_in {n : Nat} (h : n ≤ 72057594037927935) : cl (n : Int) = n := by unfold cl; omega

set_option maxRecDepth 20000 in
set_option maxHeartbeats 1000000 in
theorem rnum_any (x : Int) (W : World) :
    Calls Tryz.prog 31 #[.int .i64 x] W fun e w' => e = .returned (.string (str (numB (cl x)))) ∧ Below W.heap.size W w' := by
  have hA : ∀ m, (str [UInt8.ofNat m]).size = 1 := fun m => by rw [str_size]; rfl
  by_cases hneg : x < 0
  · have HN : Hid (numB (cl x) = [UInt8.ofNat 0]) := hid (by rw [cl_neg hneg]; rfl)
    have hcv := conv_one W 0 (by omega)
    rw [show ((0 : Nat) : Int) = 0 from rfl] at hcv
    go_enter Tryz.func31, Tryz.ntmps31
    go_wp2
    go_ret
    exact ⟨by rw [HN.out]; rfl, (Below.refl _ _).alloc (Nat.le_refl _) _⟩
  by_cases hbig : 72057594037927935 < x
  · have HN : Hid (numB (cl x) = UInt8.ofNat (247 + 7) :: beB 7 72057594037927935) := hid (by
      rw [cl_big hbig, numB, if_neg (by omega), wd_eq (k := 6) (by simp) (by simp)])
    have HR := hid (fun w => rbytes_any 72057594037927935 w (by omega) (by omega))
    rw [wd_eq (k := 6) (by simp) (by simp)] at HR
    have hB : (str (beB 7 72057594037927935)).size = 7 := by rw [str_size, beB_length]
    have hB2 : (str (beB (6 + 1) 72057594037927935)).size = 7 := by rw [str_size, beB_length]
    have HC := hid conv_one
    clear hneg
    go_enter Tryz.func31, Tryz.ntmps31
    go_wp2_with fail
    refine (HR.out _).mono ?_
    rintro e w1 ⟨rfl, hb⟩
    have HB := hid hb
    have hcv := HC.out w1 254 (by omega)
    rw [show ((254 : Nat) : Int) = 254 from rfl] at hcv
    clear hb
    go_wp2
    go_ret
    exact ⟨by rw [HN.out]; rfl, HB.out.alloc HB.out.size _⟩
  obtain ⟨n, rfl⟩ := Int.eq_ofNat_of_zero_le (show 0 ≤ x by omega)
  have hn : n ≤ 72057594037927935 := by omega
  rw [cl_in hn]
  by_cases h8 : n < 248
  · have HN : Hid (numB n = [UInt8.ofNat n]) := hid (by rw [numB, if_pos h8])
    have hcv := conv_one W n (by omega)
    have h8' : (n : Int) < 248 := by omega
    clear hneg hbig
    have h1 : decide ((n : Int) < 0) = false := by simp
    have h2 : decide (72057594037927935 < (n : Int)) = false := by simp; omega
    go_enter Tryz.func31, Tryz.ntmps31
    go_wp2
    go_ret
    exact ⟨by rw [HN.out]; rfl, (Below.refl _ _).alloc (Nat.le_refl _) _⟩
  · have HN : Hid (numB n = UInt8.ofNat (247 + wd n) :: beB (wd n) n) := hid (by rw [numB, if_neg h8])
    have HR := hid (fun w => rbytes_any n w (by omega) hn)
    have hB : (str (beB (wd n) n)).size = wd n := by rw [str_size, beB_length]
    have hw := wd_max hn
    have h8' : (248 : Int) ≤ n := by omega
    have h1 : decide ((n : Int) < 0) = false := by simp
    have h2 : decide (72057594037927935 < (n : Int)) = false := by simp; omega
    have h3 : decide ((n : Int) < 248) = false := by simp; omega
    have HC := hid conv_one
    clear hneg hbig hn h8
    generalize wd n = k at *
    go_enter Tryz.func31, Tryz.ntmps31
    go_wp2_with fail
    refine (HR.out _).mono ?_
    rintro e w1 ⟨rfl, hb⟩
    have HB := hid hb
    have hcv := HC.out w1 (247 + k) (by omega)
    rw [show ((247 + k : Nat) : Int) = 247 + (k : Int) by omega] at hcv
    have hY : ∀ y : UInt8, (str [y]).size = 1 := fun y => by rw [str_size]; rfl
    generalize UInt8.ofNat (247 + k) = y at hcv HN
    have hY := hY y
    clear hb hA
    go_wp2
    go_ret
    exact ⟨by rw [HN.out, str_app]; rfl, HB.out.alloc HB.out.size _⟩

set_option maxHeartbeats 1000000 in
theorem rtext_any (s : ByteArray) (W : World) (hs : s.size ≤ 100000) :
    Calls Tryz.prog 32 #[.string s] W fun e w' => e = .returned (.string (str (numB s.size) ++ s)) ∧ Below W.heap.size W w' := by
  have HR := hid (fun w => rnum_any (s.size : Nat) w)
  rw [cl_in (by omega)] at HR
  have hB := (numB_length s.size (by omega)).2
  rw [← str_size] at hB
  go_enter Tryz.func32, Tryz.ntmps32
  go_wp2_with (go_at_call 31; refine (HR.out _).mono ?_; rintro e w1 ⟨rfl, hb⟩)
  go_ret
  exact ⟨rfl, hb⟩
end Go.Proofs.YtdphdodjidbngaaGreat

namespace Go.Proofs.YtdphdodjidbngaaGreat
open Go.RowKit
set_option linter.unusedVariables false
set_option linter.unusedSimpArgs false

theorem i64_or_nat (a b : Nat) (ha : a < 9223372036854775808) (hb : b < 9223372036854775808) : bits .or .i64 (a : Int) (b : Int) = ((a ||| b : Nat) : Int) := by
  have hx : a ||| b < 2 ^ 63 := Nat.or_lt_two_pow (by omega) (by omega)
  show IntKind.i64.wrap ((BitVec.ofInt 64 (a : Int) ||| BitVec.ofInt 64 (b : Int)).toNat : Int) = _
  rw [BitVec.toNat_or, ofInt_u64 a (by omega), ofInt_u64 b (by omega)]
  simp only [Nat.reducePow] at hx
  generalize a ||| b = x at hx
  simp [IntKind.wrap, IntKind.bits, IntKind.signed]
  omega
theorem or_byte (m c : Nat) (hm : m < 36028797018963968) (hc : c < 256) : bits .or .i64 ((m : Int) * 256) (c : Int) = ((m * 256 + c : Nat) : Int) := by
  rw [show ((m : Int) * 256) = ((m * 256 : Nat) : Int) by omega, i64_or_nat _ _ (by omega) (by omega), nat_join 8 (m * 256) c (by omega) (by omega)]
theorem joinN_snoc : ∀ l acc c, joinN acc (l ++ [c]) = joinN acc l * 256 + c.toNat
  | [], acc, c => rfl
  | d :: l, acc, c => by rw [List.cons_append, joinN, joinN, joinN_snoc l]
theorem joinN_small {l : List UInt8} (h : l.length ≤ 7) : joinN 0 l < 72057594037927936 := by
  have h1 := joinN_lt l 0
  have h2 : 256 ^ l.length ≤ 256 ^ 7 := Nat.pow_le_pow_right (by omega) h
  simp at h1 h2
  omega

set_option maxRecDepth 20000 in
theorem joined_any (a : Option Addr) (len cap : Nat) (l : List UInt8) (w : World) (hb : IsBytes w a len cap l) (hl : l.length ≤ 7) :
    Calls Tryz.prog 118 #[.slice a len cap] w fun e w' => e = .returned (.int .i64 (joinN 0 l : Nat)) ∧ w = w' := by
  obtain ⟨rfl, _, _⟩ := hb.len
  have HB := hid (fun i hi => hb.at i hi)
  clear hb
  go_enter Tryz.func118, Tryz.ntmps118
  go_wp2
  go_loop [3, 8] (fun x i => ∃ k m : Nat, k ≤ l.length ∧ i = .int .i64 (k : Int) ∧ x = .int .i64 (m : Int) ∧ Hid (m = joinN 0 (l.take k))) (fun _ i => l.length - (intOf i).toNat)
  case atStart => exact ⟨0, 0, by omega, rfl, rfl, rfl⟩
  case round =>
    obtain ⟨k, m, hk, rfl, rfl, HM⟩ := hrel
    by_cases hlt : k < l.length
    · have hlt2 : (k : Int) < (l.length : Int) := by omega
      obtain ⟨b, off, rfl, hc⟩ := HB.out k hlt
      have hs := (l.getD k 0).toNat_lt
      have H1 : Hid (m * 256 + (l.getD k 0).toNat = joinN 0 (l.take (k + 1))) := hid (by
        rw [List.take_succ_eq_append_getElem hlt, joinN_snoc, HM.out]
        simp [List.getD_eq_getElem?_getD, hlt])
      have hm : m < 36028797018963968 := by
        have h1 := joinN_lt (l.take k) 0
        have h2 : 256 ^ (l.take k).length ≤ 256 ^ 6 := Nat.pow_le_pow_right (by omega) (by simp; omega)
        rw [HM.out]
        simp at h1 h2 ⊢
        omega
      have HO := hid (or_byte m (l.getD k 0).toNat hm hs)
      generalize (l.getD k 0).toNat = c at *
      have hm2 : (m : Int) * 256 ≤ 9223372036854775807 := by omega
      clear hm
      go_wp2
      refine ⟨⟨k + 1, m * 256 + c, by omega, by go_num, by rw [HO.out], H1⟩, by simp [intOf]; omega⟩
    · have hge : (l.length : Int) ≤ k := by omega
      have H1 : Hid (m = joinN 0 l) := hid (by rw [HM.out, List.take_of_length_le (by omega)])
      clear HM
      go_wp2
      go_ret
      exact ⟨oret_i64 (by rw [H1.out]), rfl⟩

/-- The number with which bytes begin, how many bytes it has, and what is wrong. -/
def chkN (most : Int) (n u : Nat) : Nat × Nat × Nat := if max most 0 < (n : Int) then (0, 0, 4) else (n, u, 0)
def firstN (most : Int) : List UInt8 → Nat × Nat × Nat
  | [] => (0, 0, 2)
  | c :: r => if c.toNat = 255 then (0, 0, 3) else if c.toNat < 248 then chkN most c.toNat 1
    else if r.length < c.toNat - 247 then (0, 0, 2)
    else if joinN 0 (r.take (c.toNat - 247)) < 248 ∨ wd (joinN 0 (r.take (c.toNat - 247))) ≠ c.toNat - 247 then (0, 0, 3)
    else chkN most (joinN 0 (r.take (c.toNat - 247))) (1 + (c.toNat - 247))
def trip (t : Nat × Nat × Nat) : Value := .tuple #[.int .i64 (t.1 : Int), .int .i64 (t.2.1 : Int), .int .i64 (t.2.2 : Int)]

theorem isBytes_mid {w : World} {b off cap : Nat} {l : List UInt8} (h : IsBytes w (some ⟨b, off, none⟩) l.length cap l) (i k : Nat) (hk : i + k ≤ l.length) : IsBytes w (some ⟨b, off + i, none⟩) k (cap - i) ((l.drop i).take k) := by
  obtain ⟨_, hlc, hcm⟩ := h.len
  refine ⟨by simp [bcells]; omega, by omega, by omega, fun h0 => ⟨b, off + i, rfl, fun j hj => ?_⟩⟩
  have hj' : j < k := by simp [bcells] at hj; omega
  obtain ⟨b', off', ha, hc⟩ := Sl.at h (i + j) (by rw [bcells_length]; omega)
  cases ha
  rw [Nat.add_assoc, hc]
  simp [bcells, hj', show i + j < l.length by omega]

set_option maxRecDepth 20000 in
set_option maxHeartbeats 2000000 in
theorem first_any (a : Option Addr) (len cap : Nat) (l : List UInt8) (most : Int) (w : World) (hb : IsBytes w a len cap l) :
    Calls Tryz.prog 102 #[.slice a len cap, .int .i64 most] w fun e w' => e = .returned (trip (firstN most l)) ∧ w = w' := by
  obtain ⟨rfl, hlc, hcm⟩ := hb.len
  have hcm' : cap ≤ 9223372036854775807 := by unfold maxLen at hcm; omega
  have HB := hid hb
  cases l with
  | nil =>
    clear hb
    go_enter Tryz.func102, Tryz.ntmps102
    go_wp2
    go_ret3
    exact ⟨rfl, rfl⟩
  | cons c r =>
    obtain ⟨b, off, rfl, hc⟩ := hb.at 0 (by simp)
    rw [Nat.add_zero] at hc
    simp only [List.getD_cons_zero] at hc
    have hlen : (c :: r).length = r.length + 1 := rfl
    rw [hlen] at hlc ⊢
    have hcl := c.toNat_lt
    clear hb
    by_cases h255 : c.toNat = 255
    · have HR : Hid (firstN most (c :: r) = (0, 0, 3)) := hid (by rw [firstN, if_pos h255])
      rw [h255] at hc
      clear hlen
      have hc' : w.cell? ⟨b, off, none⟩ = some (.int .u8 255) := hc
      clear hc
      go_enter Tryz.func102, Tryz.ntmps102
      go_wp2
      go_ret3
      exact ⟨by rw [HR.out]; rfl, rfl⟩
    have hne : ((c.toNat : Int) == 255) = false := by simp; omega
    by_cases h8 : c.toNat < 248
    · have h8' : (c.toNat : Int) < 248 := by omega
      have HR : Hid (firstN most (c :: r) = chkN most c.toNat 1) := hid (by rw [firstN, if_neg h255, if_pos h8])
      clear h255 hlen
      by_cases hm : max most 0 < (c.toNat : Int)
      · have hd : decide (max most 0 < (c.toNat : Int)) = true := decide_eq_true hm
        have HR2 : Hid (firstN most (c :: r) = (0, 0, 4)) := hid (by rw [HR.out, chkN, if_pos hm])
        clear hm HR
        generalize c.toNat = n at *
        go_enter Tryz.func102, Tryz.ntmps102
        go_wp2
        go_ret3
        exact ⟨by rw [HR2.out]; rfl, rfl⟩
      · have hd : decide (max most 0 < (c.toNat : Int)) = false := decide_eq_false hm
        have HR2 : Hid (firstN most (c :: r) = (c.toNat, 1, 0)) := hid (by rw [HR.out, chkN, if_neg hm])
        clear hm HR
        generalize c.toNat = n at *
        go_enter Tryz.func102, Tryz.ntmps102
        go_wp2
        go_ret3
        exact ⟨by rw [HR2.out]; rfl, rfl⟩
    · obtain ⟨k, hk⟩ : ∃ k, c.toNat = 247 + k := ⟨c.toNat - 247, by omega⟩
      have hk1 : 1 ≤ k := by omega
      have hk7 : k ≤ 7 := by omega
      have HF : Hid (firstN most (c :: r) = if r.length < k then (0, 0, 2) else if joinN 0 (r.take k) < 248 ∨ wd (joinN 0 (r.take k)) ≠ k then (0, 0, 3) else chkN most (joinN 0 (r.take k)) (1 + k)) := hid (by
        rw [firstN, if_neg h255, if_neg h8, show c.toNat - 247 = k by omega])
      rw [hk] at hc
      have hc' : w.cell? ⟨b, off, none⟩ = some (.int .u8 (247 + (k : Int))) := by rw [hc]; simp
      clear hc h255 h8 hne hk hcl hlen
      by_cases hsh : r.length < k
      · have hsh' : (r.length : Int) < k := by omega
        rw [if_pos hsh] at HF
        go_enter Tryz.func102, Tryz.ntmps102
        go_wp2
        go_ret3
        exact ⟨by rw [HF.out]; rfl, rfl⟩
      · rw [if_neg hsh] at HF
        have hsh' : (k : Int) ≤ r.length := by omega
        have HJ := hid (fun w' (hw : w = w') => joined_any (some ⟨b, off + 1, none⟩) k (cap - 1) (r.take k) w' (by
          have := isBytes_mid HB.out 1 k (by simp; omega)
          subst hw
          simpa using this) (by simp; omega))
        have hj : joinN 0 (r.take k) < 72057594037927936 := joinN_small (by simp; omega)
        have HW := hid (fun w' => width_any (joinN 0 (r.take k)) w' (by omega))
        generalize joinN 0 (r.take k) = n at *
        clear hsh
        have walk : ∀ (v : Nat × Nat × Nat), firstN most (c :: r) = v → (n < 248 ∧ v = (0, 0, 3) ∨ ¬ n < 248 ∧ wd n ≠ k ∧ v = (0, 0, 3) ∨ ¬ n < 248 ∧ wd n = k ∧ max most 0 < (n : Int) ∧ v = (0, 0, 4) ∨ ¬ n < 248 ∧ wd n = k ∧ ¬ max most 0 < (n : Int) ∧ v = (n, 1 + k, 0)) →
            Calls Tryz.prog 102 #[.slice (some ⟨b, off, none⟩) (r.length + 1) cap, .int .i64 most] w fun e w' => e = .returned (trip (firstN most (c :: r))) ∧ w = w' := by
          intro v hv hcase
          have HV := hid hv
          clear hv HF
          rcases hcase with ⟨h1, rfl⟩ | ⟨h1, h2, rfl⟩ | ⟨h1, h2, h3, rfl⟩ | ⟨h1, h2, h3, rfl⟩
          · have h1' : (n : Int) < 248 := by omega
            go_enter Tryz.func102, Tryz.ntmps102
            go_wp2_with fail
            rw [show (247 + (k : Int) - 247) = (k : Int) by omega]
            refine (HJ.out _ rfl).mono ?_
            rintro e w' ⟨rfl, rfl⟩
            go_wp2
            go_ret3
            exact ⟨by rw [HV.out]; rfl, rfl⟩
          · have h1' : (248 : Int) ≤ n := by omega
            have hd : decide (n < 248) = false := by simp; omega
            have hd2 : decide ((n : Int) < 248) = false := by simp; omega
            have hne : (((wd n : Nat) : Int) != (k : Int)) = true := by simp; omega
            clear h2
            generalize wd n = y at *
            go_enter Tryz.func102, Tryz.ntmps102
            go_wp2_with fail
            rw [show (247 + (k : Int) - 247) = (k : Int) by omega]
            refine (HJ.out _ rfl).mono ?_
            rintro e w' ⟨rfl, rfl⟩
            go_wp2_with (go_at_call 95; refine (HW.out _).mono ?_; rintro e w' ⟨rfl, rfl⟩)
            go_ret3
            exact ⟨by rw [HV.out]; rfl, rfl⟩
          · have h1' : (248 : Int) ≤ n := by omega
            have hd2 : decide ((n : Int) < 248) = false := by simp; omega
            have hne : ((k : Int) != (k : Int)) = false := by simp
            have hd : decide (max most 0 < (n : Int)) = true := decide_eq_true h3
            rw [h2] at HW
            clear h2 h3
            go_enter Tryz.func102, Tryz.ntmps102
            go_wp2_with fail
            rw [show (247 + (k : Int) - 247) = (k : Int) by omega]
            refine (HJ.out _ rfl).mono ?_
            rintro e w' ⟨rfl, rfl⟩
            go_wp2_with (go_at_call 95; refine (HW.out _).mono ?_; rintro e w' ⟨rfl, rfl⟩)
            go_ret3
            exact ⟨by rw [HV.out]; rfl, rfl⟩
          · have h1' : (248 : Int) ≤ n := by omega
            have hd2 : decide ((n : Int) < 248) = false := by simp; omega
            have hne : ((k : Int) != (k : Int)) = false := by simp
            have hd : decide (max most 0 < (n : Int)) = false := decide_eq_false h3
            rw [h2] at HW
            clear h2 h3
            go_enter Tryz.func102, Tryz.ntmps102
            go_wp2_with fail
            rw [show (247 + (k : Int) - 247) = (k : Int) by omega]
            refine (HJ.out _ rfl).mono ?_
            rintro e w' ⟨rfl, rfl⟩
            go_wp2_with (go_at_call 95; refine (HW.out _).mono ?_; rintro e w' ⟨rfl, rfl⟩)
            go_ret3
            refine ⟨?_, rfl⟩
            rw [HV.out]
            simp [trip]
        refine walk _ HF.out ?_
        clear walk HJ HW
        by_cases h1 : n < 248
        · exact .inl ⟨h1, if_pos (.inl h1)⟩
        · by_cases h2 : wd n = k
          · rw [if_neg (by simp [h1, h2])]
            by_cases h3 : max most 0 < (n : Int)
            · exact .inr (.inr (.inl ⟨h1, h2, h3, by rw [chkN, if_pos h3]⟩))
            · exact .inr (.inr (.inr ⟨h1, h2, h3, by rw [chkN, if_neg h3]⟩))
          · exact .inr (.inl ⟨h1, h2, if_pos (.inr h2)⟩)
end Go.Proofs.YtdphdodjidbngaaGreat

namespace Go.Proofs.YtdphdodjidbngaaGreat
open Go.RowKit
set_option linter.unusedVariables false
set_option linter.unusedSimpArgs false

/-- A slice that reads as bytes does not lie in a block of two cells that holds a slice and an int. -/
theorem isBytes_apart {w : World} {b off n cap B T : Nat} {l : List UInt8} {v : Value} {e : Int} (h : IsBytes w (some ⟨b, off, none⟩) n cap l) (h0 : 0 < l.length) (hB : w.heap[B]? = some (.cells #[v, .int .i64 e] T (0, 0))) (hv : ∀ x, v ≠ .int .u8 x) : b ≠ B := by
  rintro rfl
  obtain ⟨b', off', ha, hc⟩ := h.at 0 h0
  cases ha
  rw [Nat.add_zero, cell_of_row w b off _ T (0, 0) hB] at hc
  match off, hc with
  | 0, hc => simp at hc; exact hv _ hc
  | 1, hc => simp at hc
  | n + 2, hc => simp at hc
theorem isBytes_only {w w' : World} {a : Option Addr} {n cap B T : Nat} {l : List UInt8} {v : Value} {e : Int} (h : IsBytes w a n cap l) (ho : Only B w w') (hB : w.heap[B]? = some (.cells #[v, .int .i64 e] T (0, 0))) (hv : ∀ x, v ≠ .int .u8 x) : IsBytes w' a n cap l := by
  refine ⟨h.1, h.2.1, h.2.2.1, fun h0 => ?_⟩
  obtain ⟨b, off, rfl, hc⟩ := h.2.2.2 h0
  have hne := isBytes_apart h (by simpa [bcells] using h0) hB hv
  refine ⟨b, off, rfl, fun i hi => ?_⟩
  have h1 := hc i hi
  rw [List.getElem?_eq_getElem hi] at h1
  rw [World.cell?_of_block (ho.keep b hne (lt_of_cell h1)), hc i hi]
theorem isBytes_drop {w : World} {a : Option Addr} {cap : Nat} {l : List UInt8} (h : IsBytes w a l.length cap l) (u : Nat) (hu : u ≤ l.length) {b off : Nat} (ha : a = some ⟨b, off, none⟩) : IsBytes w (some ⟨b, off + u, none⟩) (l.drop u).length (cap - u) (l.drop u) := by
  subst ha
  have := isBytes_mid h u (l.length - u) (by omega)
  rw [List.take_of_length_le (by simp)] at this
  rw [List.length_drop]
  exact this

/-- Block B is a reader: what is left, and its error. -/
def RdrAt (w : World) (B : Nat) (l : List UInt8) (e : Int) : Prop :=
  ∃ a cap, w.heap[B]? = some (.cells #[.slice a l.length cap, .int .i64 e] 165 (0, 0)) ∧ IsBytes w a l.length cap l
theorem RdrAt.only {w w' : World} {B C : Nat} {l : List UInt8} {e : Int} (h : RdrAt w B l e) (ho : Only C w w') (hne : B ≠ C) (hC : ∃ v x T, w.heap[C]? = some (.cells #[v, .int .i64 x] T (0, 0)) ∧ ∀ x, v ≠ .int .u8 x) : RdrAt w' B l e := by
  obtain ⟨a, cap, h1, h2⟩ := h
  obtain ⟨v, x, T, h3, h4⟩ := hC
  exact ⟨a, cap, ho.block h1 hne, isBytes_only h2 ho h3 h4⟩
theorem RdrAt.below {w w' : World} {B : Nat} {l : List UInt8} {e : Int} (h : RdrAt w B l e) (hb : Below w.heap.size w w') : RdrAt w' B l e := by
  obtain ⟨a, cap, h1, h2⟩ := h
  exact ⟨a, cap, keep0 h1 hb, h2.below hb⟩
theorem RdrAt.two {w : World} {B : Nat} {l : List UInt8} {e : Int} (h : RdrAt w B l e) : ∃ v x T, w.heap[B]? = some (.cells #[v, .int .i64 x] T (0, 0)) ∧ ∀ x, v ≠ .int .u8 x := by
  obtain ⟨a, cap, h1, h2⟩ := h
  exact ⟨_, _, _, h1, fun x hx => by cases hx⟩
theorem RdrAt.setErr {w : World} {B : Nat} {l : List UInt8} {e : Int} (h : RdrAt w B l e) (e' : Int) : RdrAt (w.setCell ⟨B, 1, none⟩ (.int .i64 e')) B l e' := by
  obtain ⟨a, cap, h1, h2⟩ := h
  exact ⟨a, cap, heap_setCell_same _ B 1 _ _ _ h1, isBytes_only h2 ((Only.refl B w).set 1 _) h1 (fun x hx => by cases hx)⟩
theorem RdrAt.setRest {w : World} {B : Nat} {l l' : List UInt8} {e : Int} {a : Option Addr} {cap : Nat} (h : RdrAt w B l e) (h2 : IsBytes w a l'.length cap l') : RdrAt (w.setCell ⟨B, 0, none⟩ (.slice a l'.length cap)) B l' e := by
  obtain ⟨a', cap', h1, _⟩ := h
  exact ⟨a, cap, heap_setCell_same _ B 0 _ _ _ h1, isBytes_only h2 ((Only.refl B w).set 0 _) h1 (fun x hx => by cases hx)⟩

theorem RdrAt.rest1 {w : World} {B : Nat} {l : List UInt8} {e : Int} {b off cap u : Nat} (h : RdrAt w B l e) (hs : IsBytes w (some ⟨b, off, none⟩) l.length cap l) (hu : u ≤ l.length) : RdrAt (w.setCell ⟨B, 0, none⟩ (.slice (some ⟨b, off + u, none⟩) (l.length - u) (cap - u))) B (l.drop u) e := by
  have := h.setRest (isBytes_drop hs u hu rfl)
  rw [List.length_drop] at this
  exact this
theorem RdrAt.rest0 {w : World} {B : Nat} {l : List UInt8} {e : Int} {a : Option Addr} {u cap : Nat} (h : RdrAt w B l e) (hs : IsBytes w a l.length cap l) (hu : u ≤ l.length) (hc : l.length ≤ u) : RdrAt (w.setCell ⟨B, 0, none⟩ (.slice a (l.length - u) 0)) B (l.drop u) e := by
  obtain rfl : u = l.length := by omega
  rw [List.drop_length, Nat.sub_self]
  exact h.setRest (l' := []) (Sl.nil _ _ _ _ (Nat.zero_le _))

theorem own_bytes {w : World} {base e n : Nat} {v : Value} {l : List UInt8} (h : w.ownsRow base e 1 v n (bcells l)) : ∃ a cap, v = .slice a l.length cap ∧ IsBytes w a l.length cap l := by
  obtain ⟨a, c, rfl, hs⟩ := Sl.of_own h
  have hn : n = l.length := by have := hs.1; rw [bcells_length] at this; omega
  subst hn
  exact ⟨a, c, rfl, hs⟩

set_option maxHeartbeats 1000000 in
theorem new_any (a : Option Addr) (len cap : Nat) (l : List UInt8) (W : World) (hb : IsBytes W a len cap l) (hl : l.length ≤ 100000) :
    Calls Tryz.prog 60 #[.slice a len cap] W fun e w' => ∃ B, e = .returned (.pointer (some ⟨B, 0, none⟩)) ∧ W.heap.size ≤ B ∧ RdrAt w' B l 0 ∧ Below W.heap.size W w' := by
  obtain ⟨rfl, hlc, hcm⟩ := hb.len
  have HB := hid hb
  clear hb
  go_enter Tryz.func60, Tryz.ntmps60
  go_wp2_with (at_builtin; refine wpList_append_sl (W := W) rfl (.const (.slice none 0 0)) (.tmp 3) 54 rfl W.heap.size 5 Tryz.underlying54 info_u8 rfl (by omega) rfl (World.ownsRow_nil _ _ _ _) rfl HB.out (bcells_one _) (by unfold maxLen; omega) (by omega) (Nat.le_refl _) (Below.refl _ _) ?_)
  intro v' w' h2 h3 h4
  obtain ⟨a2, c2, rfl, hs⟩ := own_bytes h2
  have HS := hid hs
  have H3 := hid h3
  clear h2 h3 h4 hs
  go_wp2
  go_ret
  exact ⟨_, rfl, H3.out.size, ⟨a2, c2, heap_alloc_new _ _, HS.out.below ((Below.refl _ _).alloc (Nat.le_refl _) _)⟩, H3.out.alloc H3.out.size _⟩

theorem firstN_cons (most : Int) (c : UInt8) (r : List UInt8) : firstN most (c :: r) = if c.toNat = 255 then (0, 0, 3) else if c.toNat < 248 then chkN most c.toNat 1
    else if r.length < c.toNat - 247 then (0, 0, 2)
    else if joinN 0 (r.take (c.toNat - 247)) < 248 ∨ wd (joinN 0 (r.take (c.toNat - 247))) ≠ c.toNat - 247 then (0, 0, 3)
    else chkN most (joinN 0 (r.take (c.toNat - 247))) (1 + (c.toNat - 247)) := rfl
theorem firstN_used (most : Int) (l : List UInt8) (h : (firstN most l).2.2 = 0) : 1 ≤ (firstN most l).2.1 ∧ (firstN most l).2.1 ≤ l.length ∧ (firstN most l).1 ≤ 72057594037927935 ∧ (((firstN most l).1 : Nat) : Int) ≤ max most 0 := by
  cases l with
  | nil => simp [firstN] at h
  | cons c r =>
    have hc := c.toNat_lt
    have chk : ∀ n u, (chkN most n u).2.2 = 0 → chkN most n u = (n, u, 0) ∧ (n : Int) ≤ max most 0 := by
      intro n u h
      unfold chkN at *
      by_cases hm : max most 0 < (n : Int)
      · rw [if_pos hm] at h; simp at h
      · rw [if_neg hm]; exact ⟨rfl, by omega⟩
    rw [firstN_cons] at h ⊢
    by_cases h1 : c.toNat = 255
    · rw [if_pos h1] at h; simp at h
    rw [if_neg h1] at h ⊢
    by_cases h2 : c.toNat < 248
    · rw [if_pos h2] at h ⊢
      obtain ⟨e1, e2⟩ := chk _ _ h
      rw [e1]
      simp only [List.length_cons]
      refine ⟨by omega, by omega, by omega, e2⟩
    rw [if_neg h2] at h ⊢
    by_cases h3 : r.length < c.toNat - 247
    · rw [if_pos h3] at h; simp at h
    rw [if_neg h3] at h ⊢
    by_cases h4 : joinN 0 (r.take (c.toNat - 247)) < 248 ∨ wd (joinN 0 (r.take (c.toNat - 247))) ≠ c.toNat - 247
    · rw [if_pos h4] at h; simp at h
    rw [if_neg h4] at h ⊢
    obtain ⟨e1, e2⟩ := chk _ _ h
    rw [e1]
    have hj : joinN 0 (r.take (c.toNat - 247)) < 72057594037927936 := joinN_small (by simp; omega)
    simp only [List.length_cons]
    refine ⟨by omega, by omega, by omega, e2⟩
theorem firstN_err (most : Int) (l : List UInt8) : (firstN most l).2.2 ≤ 4 := by
  have chk : ∀ n u, (chkN most n u).2.2 ≤ 4 := by intro n u; unfold chkN; split <;> simp
  cases l with
  | nil => simp [firstN]
  | cons c r =>
    unfold firstN
    repeat' split
    all_goals first | exact chk _ _ | simp

def rdNum (most : Int) (l : List UInt8) (e : Int) : Nat × List UInt8 × Int :=
  if e = 0 then (if (firstN most l).2.2 = 0 then ((firstN most l).1, l.drop (firstN most l).2.1, (0 : Int)) else (0, l, (((firstN most l).2.2 : Nat) : Int))) else (0, l, e)

set_option maxRecDepth 20000 in
set_option maxHeartbeats 1000000 in
theorem rdNum_any (B : Nat) (l : List UInt8) (e most : Int) (W : World) (h : RdrAt W B l e) :
    Calls Tryz.prog 62 #[.pointer (some ⟨B, 0, none⟩), .int .i64 most] W fun x w' => x = .returned (.int .i64 ((rdNum most l e).1 : Nat)) ∧ RdrAt w' B (rdNum most l e).2.1 (rdNum most l e).2.2 ∧ Only B W w' := by
  have H := hid h
  obtain ⟨a, cap, hB, hs⟩ := h
  have HS := hid hs
  obtain ⟨c0, c1, f0, f1⟩ := two_cells hB
  clear hB hs
  by_cases he : e = 0
  · subst he
    have HF := hid (fun w (hw : W = w) => first_any a l.length cap l most w (hw ▸ HS.out))
    have HU := hid (firstN_used most l)
    have hx := firstN_err most l
    have HR : Hid (rdNum most l 0 = if (firstN most l).2.2 = 0 then ((firstN most l).1, l.drop (firstN most l).2.1, (0 : Int)) else (0, l, (((firstN most l).2.2 : Nat) : Int))) := hid rfl
    generalize firstN most l = t at *
    obtain ⟨n, u, x⟩ := t
    simp only [trip] at HF HU hx HR
    by_cases h0 : x = 0
    · subst h0
      rw [if_pos rfl] at HR
      obtain ⟨u1, u2, n1, n2⟩ := HU.out rfl
      have hcap := HS.out.len
      have hcap1 : l.length ≤ cap := hcap.2.1
      have hcap2 : cap ≤ 9223372036854775807 := by have := hcap.2.2; unfold maxLen at this; omega
      have hu1 : (u : Int) ≤ (l.length : Int) := by omega
      obtain ⟨b, off, rfl, _⟩ := HS.out.2.2.2 (by rw [bcells_length]; omega)
      clear HU n1 n2 hcap
      go_enter Tryz.func62, Tryz.ntmps62
      go_wp2_with (go_at_call 102; refine (HF.out _ rfl).mono ?_; rintro e w' ⟨rfl, rfl⟩)
      all_goals go_ret
      all_goals rw [HR.out]
      all_goals refine ⟨rfl, ?_, (Only.refl B W).set 0 _⟩
      all_goals first
        | exact H.out.rest1 HS.out u2
        | exact H.out.rest0 HS.out u2 (by omega)
    · rw [if_neg h0] at HR
      have hne : (((x : Nat) : Int) != 0) = true := by simp; omega
      clear HU
      go_enter Tryz.func62, Tryz.ntmps62
      go_wp2_with (go_at_call 102; refine (HF.out _ rfl).mono ?_; rintro e w' ⟨rfl, rfl⟩)
      go_ret
      rw [HR.out]
      exact ⟨rfl, H.out.setErr _, (Only.refl B W).set 1 _⟩
  · have hne : (e != 0) = true := by simp [he]
    have HR : Hid (rdNum most l e = (0, l, e)) := hid (by rw [rdNum, if_neg he])
    clear he
    go_enter Tryz.func62, Tryz.ntmps62
    go_wp2
    go_ret
    rw [HR.out]
    exact ⟨rfl, H.out, Only.refl B W⟩

def rdText (most : Int) (l : List UInt8) (e : Int) : List UInt8 × List UInt8 × Int :=
  if e = 0 then (if (firstN most l).2.2 = 0 then (if l.length - (firstN most l).2.1 < (firstN most l).1 then ([], l, (2 : Int)) else ((l.drop (firstN most l).2.1).take (firstN most l).1, l.drop ((firstN most l).2.1 + (firstN most l).1), (0 : Int))) else ([], l, (((firstN most l).2.2 : Nat) : Int))) else ([], l, e)

theorem isBytes_nil (w : World) (a : Option Addr) (cap : Nat) (h : cap ≤ maxLen) : IsBytes w a 0 cap [] := Sl.nil _ _ _ _ h

set_option maxRecDepth 20000 in
set_option maxHeartbeats 2000000 in
theorem rdText_any (B : Nat) (l : List UInt8) (e most : Int) (W : World) (h : RdrAt W B l e) :
    Calls Tryz.prog 64 #[.pointer (some ⟨B, 0, none⟩), .int .i64 most] W fun x w' => x = .returned (.string ⟨(rdText most l e).1.toArray⟩) ∧ RdrAt w' B (rdText most l e).2.1 (rdText most l e).2.2 ∧ Only B W w' := by
  have H := hid h
  obtain ⟨a, cap, hB, hs⟩ := h
  have HS := hid hs
  obtain ⟨c0, c1, f0, f1⟩ := two_cells hB
  clear hB hs
  by_cases he : e = 0
  · subst he
    have HF := hid (fun w (hw : W = w) => first_any a l.length cap l most w (hw ▸ HS.out))
    have HU := hid (firstN_used most l)
    have hx := firstN_err most l
    have HR : Hid (rdText most l 0 = if (firstN most l).2.2 = 0 then (if l.length - (firstN most l).2.1 < (firstN most l).1 then ([], l, (2 : Int)) else ((l.drop (firstN most l).2.1).take (firstN most l).1, l.drop ((firstN most l).2.1 + (firstN most l).1), (0 : Int))) else ([], l, (((firstN most l).2.2 : Nat) : Int))) := hid rfl
    generalize firstN most l = t at *
    obtain ⟨n, u, x⟩ := t
    simp only [trip] at HF HU hx HR
    by_cases h0 : x = 0
    · subst h0
      rw [if_pos rfl] at HR
      obtain ⟨u1, u2, n1, n2⟩ := HU.out rfl
      have hcap := HS.out.len
      have hcap1 : l.length ≤ cap := hcap.2.1
      have hcap2 : cap ≤ 9223372036854775807 := by have := hcap.2.2; unfold maxLen at this; omega
      have hu1 : (u : Int) ≤ (l.length : Int) := by omega
      obtain ⟨b, off, rfl, _⟩ := HS.out.2.2.2 (by rw [bcells_length]; omega)
      clear HU n2 hcap
      by_cases hsh : l.length - u < n
      · rw [if_pos hsh] at HR
        have hd : decide ((l.length : Int) - (u : Int) < (n : Int)) = true := by simp; omega
        have hd2 : (l.length : Int) - (u : Int) < (n : Int) := by omega
        clear hsh n1
        go_enter Tryz.func64, Tryz.ntmps64
        go_wp2_with (go_at_call 102; refine (HF.out _ rfl).mono ?_; rintro e w' ⟨rfl, rfl⟩)
        go_ret
        rw [HR.out]
        exact ⟨rfl, H.out.setErr _, (Only.refl B W).set 1 _⟩
      · rw [if_neg hsh] at HR
        have hd : decide ((l.length : Int) - (u : Int) < (n : Int)) = false := by simp; omega
        have hd2 : (n : Int) ≤ (l.length : Int) - (u : Int) := by omega
        have hun : u + n ≤ l.length := by omega
        have hcv := conv_str (P := Tryz.prog) (src := 54) (dst := 9) Tryz.underlying54 Tryz.underlying5 Tryz.underlying9 (isBytes_mid HS.out u n hun)
        clear hsh n1
        by_cases hcu : cap = u
        · obtain rfl : n = 0 := by omega
          have hcv0 := conv_str (P := Tryz.prog) (src := 54) (dst := 9) Tryz.underlying54 Tryz.underlying5 Tryz.underlying9 (isBytes_nil W (some ⟨b, off, none⟩) 0 (Nat.zero_le _))
          have HCU := hid hcu
          clear hcv
          subst hcu
          clear hun hd2
          go_enter Tryz.func64, Tryz.ntmps64
          go_wp2_with (go_at_call 102; refine (HF.out _ rfl).mono ?_; rintro e w' ⟨rfl, rfl⟩)
          all_goals go_ret
          all_goals rw [HR.out]
          all_goals refine ⟨by simp, ?_, (Only.refl B W).set 0 _⟩
          all_goals simp only [Nat.add_zero]
          all_goals first
            | exact H.out.rest1 HS.out u2
            | (have hz := H.out.rest0 HS.out u2 (by omega); rw [show l.length - cap = 0 by omega] at hz; exact hz)
        · have hcu2 : ¬ (u = cap) := fun h => hcu h.symm
          go_enter Tryz.func64, Tryz.ntmps64
          go_wp2_with (go_at_call 102; refine (HF.out _ rfl).mono ?_; rintro e w' ⟨rfl, rfl⟩)
          all_goals go_ret
          all_goals rw [HR.out]
          all_goals refine ⟨rfl, ?_, (Only.refl B W).set 0 _⟩
          all_goals first
            | exact H.out.rest1 HS.out hun
            | exact H.out.rest0 HS.out hun (by omega)
    · rw [if_neg h0] at HR
      have hne : (((x : Nat) : Int) != 0) = true := by simp; omega
      have hne2 : (((x : Nat) : Int) == 0) = false := by simp; omega
      clear HU
      go_enter Tryz.func64, Tryz.ntmps64
      go_wp2_with (go_at_call 102; refine (HF.out _ rfl).mono ?_; rintro e w' ⟨rfl, rfl⟩)
      go_ret
      rw [HR.out]
      exact ⟨rfl, H.out.setErr _, (Only.refl B W).set 1 _⟩
  · have hne : (e != 0) = true := by simp [he]
    have HR : Hid (rdText most l e = ([], l, e)) := hid (by rw [rdText, if_neg he])
    clear he
    go_enter Tryz.func64, Tryz.ntmps64
    go_wp2
    go_ret
    rw [HR.out]
    exact ⟨rfl, H.out, Only.refl B W⟩
end Go.Proofs.YtdphdodjidbngaaGreat

namespace Go.Proofs.YtdphdodjidbngaaGreat
open Go.RowKit
set_option linter.unusedVariables false
set_option linter.unusedSimpArgs false

theorem rdErr_any (B : Nat) (l : List UInt8) (e : Int) (W : World) (h : RdrAt W B l e) :
    Calls Tryz.prog 99 #[.pointer (some ⟨B, 0, none⟩)] W fun x w' => x = .returned (.int .i64 e) ∧ W = w' := by
  obtain ⟨a, cap, hB, hs⟩ := h
  obtain ⟨c0, c1, f0, f1⟩ := two_cells hB
  clear hB hs
  go_enter Tryz.func99, Tryz.ntmps99
  go_wp2
  go_ret
  exact ⟨rfl, rfl⟩
theorem rdLeft_any (B : Nat) (l : List UInt8) (e : Int) (W : World) (h : RdrAt W B l e) :
    Calls Tryz.prog 100 #[.pointer (some ⟨B, 0, none⟩)] W fun x w' => x = .returned (.int .i64 (l.length : Nat)) ∧ W = w' := by
  obtain ⟨a, cap, hB, hs⟩ := h
  obtain ⟨c0, c1, f0, f1⟩ := two_cells hB
  clear hB hs
  go_enter Tryz.func100, Tryz.ntmps100
  go_wp2
  go_ret
  exact ⟨rfl, rfl⟩
def rdFail (x e : Int) : Int := if e = 0 then x else e
theorem rdFail_any (B : Nat) (l : List UInt8) (e x : Int) (W : World) (h : RdrAt W B l e) :
    Calls Tryz.prog 63 #[.pointer (some ⟨B, 0, none⟩), .int .i64 x] W fun y w' => (∃ v, y = .returned v) ∧ RdrAt w' B l (rdFail x e) ∧ Only B W w' := by
  have H := hid h
  obtain ⟨a, cap, hB, hs⟩ := h
  obtain ⟨c0, c1, f0, f1⟩ := two_cells hB
  clear hB hs
  by_cases he : e = 0
  · subst he
    go_enter Tryz.func63, Tryz.ntmps63
    go_wp2
    go_end0
    exact ⟨⟨_, rfl⟩, by rw [rdFail, if_pos rfl]; exact H.out.setErr x, (Only.refl B W).set 1 _⟩
  · have hne : (e == 0) = false := by simp [he]
    have HR : Hid (rdFail x e = e) := hid (by rw [rdFail, if_neg he])
    clear he
    go_enter Tryz.func63, Tryz.ntmps63
    go_wp2
    go_end0
    exact ⟨⟨_, rfl⟩, by rw [HR.out]; exact H.out, Only.refl B W⟩
def rdEnd (l : List UInt8) (e : Int) : Int := if e = 0 then (if 0 < l.length then 3 else 0) else e
theorem rdEnd_any (B : Nat) (l : List UInt8) (e : Int) (W : World) (h : RdrAt W B l e) :
    Calls Tryz.prog 65 #[.pointer (some ⟨B, 0, none⟩)] W fun x w' => x = .returned (.int .i64 (rdEnd l e)) ∧ W = w' := by
  have HE := hid (fun w (hw : W = w) => rdErr_any B l e w (hw ▸ h))
  obtain ⟨a, cap, hB, hs⟩ := h
  obtain ⟨c0, c1, f0, f1⟩ := two_cells hB
  clear hB hs
  by_cases he : e = 0
  · subst he
    by_cases hl : 0 < l.length
    · have hl' : (0 : Int) < l.length := by omega
      have hd : decide (0 < l.length) = true := by simp; omega
      have HR : Hid (rdEnd l 0 = 3) := hid (by rw [rdEnd, if_pos rfl, if_pos hl])
      clear hl
      go_enter Tryz.func65, Tryz.ntmps65
      go_wp2_with (go_at_call 99; refine (HE.out _ rfl).mono ?_; rintro e w' ⟨rfl, rfl⟩)
      go_ret
      exact ⟨by rw [HR.out]; rfl, rfl⟩
    · have hl' : l.length = 0 := by omega
      have HR : Hid (rdEnd l 0 = 0) := hid (by rw [rdEnd, if_pos rfl, if_neg hl])
      rw [hl'] at c0
      clear hl hl'
      go_enter Tryz.func65, Tryz.ntmps65
      go_wp2_with (go_at_call 99; refine (HE.out _ rfl).mono ?_; rintro e w' ⟨rfl, rfl⟩)
      go_ret
      exact ⟨by rw [HR.out]; rfl, rfl⟩
  · have hne : (e != 0) = true := by simp [he]
    have HR : Hid (rdEnd l e = e) := hid (by rw [rdEnd, if_neg he])
    clear he
    go_enter Tryz.func65, Tryz.ntmps65
    go_wp2_with (go_at_call 99; refine (HE.out _ rfl).mono ?_; rintro e w' ⟨rfl, rfl⟩)
    go_ret
    exact ⟨by rw [HR.out]; rfl, rfl⟩

end Go.Proofs.YtdphdodjidbngaaGreat

namespace Go.Proofs.YtdphdodjidbngaaGreat
open Go.RowKit
set_option linter.unusedVariables false
set_option linter.unusedSimpArgs false

set_option maxRecDepth 20000 in
set_option maxHeartbeats 2000000 in
theorem rnext_any (l : List UInt8) (most : Int) (W : World) (hl : l.length ≤ 100000) :
    Calls Tryz.prog 107 #[.string (str l), .int .i64 most] W fun e w' => e = .returned (trip (firstN most l)) ∧ Below W.heap.size W w' := by
  cases l with
  | nil =>
    have hz : (str []).size = 0 := rfl
    go_enter Tryz.func107, Tryz.ntmps107
    go_wp2
    go_ret3
    exact ⟨rfl, Below.refl _ _⟩
  | cons c r =>
    have hz : (str (c :: r)).size = r.length + 1 := by rw [str_size]; rfl
    have hcl : c.toNat < 256 := c.toNat_lt
    have hlr : r.length < 100000 := by simp at hl; omega
    have hg : ∀ h : 0 < (str (c :: r)).size, ((str (c :: r))[0]'h).toNat = c.toNat := fun h => rfl
    have hchk : ∀ n u : Nat, chkN most n u = if most < (n : Int) ∧ 0 < n then (0, 0, 4) else (n, u, 0) := by
      intro n u
      unfold chkN
      by_cases h : max most 0 < (n : Int)
      · rw [if_pos h, if_pos (by omega)]
      · rw [if_neg h, if_neg (by omega)]
    have HK := hid hchk
    clear hchk hl
    have hGG : ∀ (k : Nat), k < r.length → ∀ h : k + 1 < (str (c :: r)).size, ((str (c :: r))[k + 1]'h).toNat = (r.getD k 0).toNat := by
      intro k hk h
      have : (str (c :: r))[k + 1]'h = r[k] := by simp [str, ByteArray.getElem_eq_getElem_data]
      rw [this]
      simp [List.getD_eq_getElem?_getD, hk]
    have HG := hid hGG
    clear hGG
    have HF := hid (firstN_cons most c r)
    generalize str (c :: r) = s at *
    generalize c.toNat = n at *
    generalize firstN most (c :: r) = t at *
    by_cases h255 : n = 255
    · subst h255
      rw [if_pos rfl] at HF
      go_enter Tryz.func107, Tryz.ntmps107
      go_wp2
      go_ret3
      exact ⟨by rw [HF.out]; rfl, Below.refl _ _⟩
    have hne : ((n : Int) == 255) = false := by simp; omega
    rw [if_neg h255] at HF
    by_cases h8 : n < 248
    · rw [if_pos h8, HK.out] at HF
      have h8' : (n : Int) < 248 := by omega
      clear h255
      by_cases hm : most < (n : Int)
      · have hd : decide (most < (n : Int)) = true := decide_eq_true hm
        by_cases h0 : 0 < n
        · have h0' : (0 : Int) < n := by omega
          rw [if_pos ⟨hm, h0⟩] at HF
          clear hm h0
          go_enter Tryz.func107, Tryz.ntmps107
          go_wp2
          go_ret3
          exact ⟨by rw [HF.out]; rfl, Below.refl _ _⟩
        · obtain rfl : n = 0 := by omega
          rw [if_neg (by omega)] at HF
          have hm0 : most < 0 := by omega
          clear hm h0 hd
          go_enter Tryz.func107, Tryz.ntmps107
          go_wp2
          go_ret3
          exact ⟨by rw [HF.out]; rfl, Below.refl _ _⟩
      · have hd : decide (most < (n : Int)) = false := decide_eq_false hm
        rw [if_neg (fun h => hm h.1)] at HF
        clear hm
        go_enter Tryz.func107, Tryz.ntmps107
        go_wp2
        go_ret3
        exact ⟨by rw [HF.out]; rfl, Below.refl _ _⟩
    · rw [if_neg h8] at HF
      obtain ⟨k, rfl⟩ : ∃ k, n = 247 + k := ⟨n - 247, by omega⟩
      rw [show 247 + k - 247 = k by omega] at HF
      have hk1 : 1 ≤ k := by omega
      have hk7 : k ≤ 7 := by omega
      have hg2 : ∀ h : 0 < s.size, (((s[0]'h).toNat : Nat) : Int) = 247 + (k : Int) := fun h => by rw [hg h]; omega
      clear h255 hne h8 hcl hg
      by_cases hsh : r.length < k
      · rw [if_pos hsh] at HF
        have hsh' : (r.length : Int) + 1 < 1 + (k : Int) := by omega
        go_enter Tryz.func107, Tryz.ntmps107
        go_upto_region 10 with (fail)
        rw [show (247 + (k : Int) - 247) = (k : Int) by omega]
        go_wp2
        go_ret3
        exact ⟨by rw [HF.out]; rfl, Below.refl _ _⟩
      · rw [if_neg hsh] at HF
        have hsh' : (k : Int) ≤ r.length := by omega
        go_enter Tryz.func107, Tryz.ntmps107
        go_upto_region 10 with (fail)
        rw [show (247 + (k : Int) - 247) = (k : Int) by omega]
        go_wp2
        go_loop [8, 9] (fun x i => ∃ j m : Nat, j ≤ k ∧ i = .int .i64 ((j + 1 : Nat) : Int) ∧ x = .int .i64 (m : Int) ∧ Hid (m = joinN 0 (r.take j))) (fun _ i => (k + 1) - (intOf i).toNat)
        case atStart => exact ⟨0, 0, by omega, rfl, rfl, rfl⟩
        case round =>
          obtain ⟨j, m, hj, rfl, rfl, HM⟩ := hrel
          by_cases hlt : j < k
          · have hlt2 : ((j + 1 : Nat) : Int) ≤ (k : Int) := by omega
            have hr : j < r.length := by omega
            have hgj := HG.out j hr
            have H1 : Hid (m * 256 + (r.getD j 0).toNat = joinN 0 (r.take (j + 1))) := hid (by
              rw [List.take_succ_eq_append_getElem hr, joinN_snoc, HM.out]
              simp [List.getD_eq_getElem?_getD, hr])
            have hc8 := (r.getD j 0).toNat_lt
            have hm : m < 36028797018963968 := by
              have h1 := joinN_lt (r.take j) 0
              have h2 : 256 ^ (r.take j).length ≤ 256 ^ 6 := Nat.pow_le_pow_right (by omega) (by simp; omega)
              rw [HM.out]
              simp at h1 h2 ⊢
              omega
            generalize (r.getD j 0).toNat = y at *
            have hc9 : y < 256 := hc8
            clear hc8
            go_wp2
            refine ⟨⟨j + 1, m * 256 + y, by omega, by go_num, by go_num, H1⟩, by simp [intOf]; omega⟩
          · obtain rfl : j = k := by omega
            have hge : (j : Int) < ((j + 1 : Nat) : Int) := by omega
            have hm : m < 72057594037927936 := by rw [HM.out]; exact joinN_small (by simp; omega)
            rw [← HM.out] at HF
            have hbl : (str (beB (wd m) m)).size = wd m := by rw [str_size, beB_length]
            have HB := hid (fun (h : 1 ≤ m) w => rbytes_any m w h (by omega))
            clear HM
            by_cases h8 : m < 248
            · rw [if_pos (.inl h8)] at HF
              have h8' : (m : Int) < 248 := by omega
              go_wp2
              go_ret3
              exact ⟨by rw [HF.out]; rfl, Below.refl _ _⟩
            have h8' : (248 : Int) ≤ m := by omega
            have hd8 : decide ((m : Int) < 248) = false := by simp; omega
            have HB2 := hid (HB.out (by omega))
            clear HB
            by_cases hw : wd m = j
            · rw [if_neg (by omega), HK.out] at HF
              rw [hw] at hbl HB2
              have hne : ((j : Int) != (j : Int)) = false := by simp
              by_cases hmo : most < (m : Int)
              · have hd : decide (most < (m : Int)) = true := decide_eq_true hmo
                rw [if_pos ⟨hmo, by omega⟩] at HF
                clear hw
                go_wp2_with (go_at_call 57; refine (HB2.out _).mono ?_; rintro e w1 ⟨rfl, hb1⟩)
                go_ret3
                exact ⟨by rw [HF.out]; rfl, hb1⟩
              · have hd : decide (most < (m : Int)) = false := decide_eq_false hmo
                rw [if_neg (fun h => hmo h.1)] at HF
                clear hw
                go_wp2_with (go_at_call 57; refine (HB2.out _).mono ?_; rintro e w1 ⟨rfl, hb1⟩)
                go_ret3
                exact ⟨by rw [HF.out]; simp [trip], hb1⟩
            · rw [if_pos (.inr hw)] at HF
              have hne : (((wd m : Nat) : Int) != (j : Int)) = true := by simp; omega
              clear hw
              generalize str (beB (wd m) m) = q at *
              generalize wd m = z at *
              go_wp2_with (go_at_call 57; refine (HB2.out _).mono ?_; rintro e w1 ⟨rfl, hb1⟩)
              go_ret3
              exact ⟨by rw [HF.out]; rfl, hb1⟩
end Go.Proofs.YtdphdodjidbngaaGreat

namespace Go.Proofs.YtdphdodjidbngaaGreat
open Go.RowKit
set_option linter.unusedVariables false
set_option linter.unusedSimpArgs false

/-- Block B is a reader of the document's. -/
def RRdr (w : World) (B : Nat) (l : List UInt8) (e : Int) : Prop := w.heap[B]? = some (.cells #[.string (str l), .int .i64 e] 136 (0, 0))
theorem RRdr.only {w w' : World} {B C : Nat} {l : List UInt8} {e : Int} (h : RRdr w B l e) (ho : Only C w w') (hne : B ≠ C) : RRdr w' B l e := ho.block h hne
theorem RRdr.below {w w' : World} {B : Nat} {l : List UInt8} {e : Int} (h : RRdr w B l e) (hb : Below w.heap.size w w') : RRdr w' B l e := keep0 h hb
theorem RRdr.two {w : World} {B : Nat} {l : List UInt8} {e : Int} (h : RRdr w B l e) : ∃ v x T, w.heap[B]? = some (.cells #[v, .int .i64 x] T (0, 0)) ∧ ∀ x, v ≠ .int .u8 x :=
  ⟨_, _, _, h, fun x hx => by cases hx⟩
theorem RRdr.set {w : World} {B : Nat} {l : List UInt8} {e : Int} (h : RRdr w B l e) (l' : List UInt8) (e' : Int) : RRdr ((w.setCell ⟨B, 1, none⟩ (.int .i64 e')).setCell ⟨B, 0, none⟩ (.string (str l'))) B l' e' := by
  have h1 := heap_setCell_same w B 1 _ _ (.int .i64 e') h
  exact heap_setCell_same _ B 0 _ _ (.string (str l')) h1
theorem RRdr.setErr {w : World} {B : Nat} {l : List UInt8} {e : Int} (h : RRdr w B l e) (e' : Int) : RRdr (w.setCell ⟨B, 1, none⟩ (.int .i64 e')) B l e' := heap_setCell_same w B 1 _ _ (.int .i64 e') h
theorem str_drop (l : List UInt8) (u : Nat) (h : u ≤ l.length) : (str l).extract u l.length = str (l.drop u) := by
  apply ByteArray.ext
  simp [str, ByteArray.data_extract, List.take_of_length_le]
theorem str_mid (l : List UInt8) (u n : Nat) : (str l).extract u (u + n) = str ((l.drop u).take n) := by
  apply ByteArray.ext
  simp [str, ByteArray.data_extract, List.extract_eq_take_drop]

set_option maxRecDepth 20000 in
set_option maxHeartbeats 1000000 in
theorem rrNum_any (B : Nat) (l : List UInt8) (e most : Int) (W : World) (h : RRdr W B l e) (hl : l.length ≤ 100000) :
    Calls Tryz.prog 71 #[.pointer (some ⟨B, 0, none⟩), .int .i64 most] W fun x w' => x = .returned (.int .i64 ((rdNum most l e).1 : Nat)) ∧ RRdr w' B (rdNum most l e).2.1 (rdNum most l e).2.2 ∧ Only B W w' := by
  have H := hid h
  obtain ⟨c0, c1, f0, f1⟩ := two_cells h
  clear h
  by_cases he : e = 0
  · subst he
    have HF := hid (fun w => rnext_any l most w hl)
    have HU := hid (firstN_used most l)
    have hx := firstN_err most l
    have HR : Hid (rdNum most l 0 = if (firstN most l).2.2 = 0 then ((firstN most l).1, l.drop (firstN most l).2.1, (0 : Int)) else (0, l, (((firstN most l).2.2 : Nat) : Int))) := hid rfl
    have hz : (str l).size = l.length := str_size l
    generalize firstN most l = t at *
    obtain ⟨n, u, x⟩ := t
    simp only [trip] at HF HU hx HR
    by_cases h0 : x = 0
    · subst h0
      rw [if_pos rfl] at HR
      obtain ⟨u1, u2, n1, n2⟩ := HU.out rfl
      have hu1 : (u : Int) ≤ (l.length : Int) := by omega
      have hex := str_drop l u u2
      have HS := hid (fun w1 (hb : Below W.heap.size W w1) => (H.out.below hb).set (l.drop u) 0)
      have HO := hid (fun w1 (hb : Below W.heap.size W w1) => ((Only.of_below hb (B := B)).set 1 (.int .i64 0)).set 0 (.string (str (l.drop u))))
      clear HU n1 n2
      go_enter Tryz.func71, Tryz.ntmps71
      go_wp2_with (go_at_call 107; refine (HF.out _).mono ?_; rintro e w1 ⟨rfl, hb1⟩; obtain ⟨d0, d1, g0, g1⟩ := two_cells (H.out.below hb1))
      go_ret
      rw [HR.out]
      exact ⟨rfl, HS.out _ hb1, HO.out _ hb1⟩
    · rw [if_neg h0] at HR
      have hne : (((x : Nat) : Int) != 0) = true := by simp; omega
      have HS := hid (fun w1 (hb : Below W.heap.size W w1) => (H.out.below hb).setErr (x : Int))
      have HO := hid (fun w1 (hb : Below W.heap.size W w1) => ((Only.of_below hb (B := B)).set 1 (.int .i64 (x : Int))))
      clear HU
      go_enter Tryz.func71, Tryz.ntmps71
      go_wp2_with (go_at_call 107; refine (HF.out _).mono ?_; rintro e w1 ⟨rfl, hb1⟩; obtain ⟨d0, d1, g0, g1⟩ := two_cells (H.out.below hb1))
      go_ret
      rw [HR.out]
      exact ⟨rfl, HS.out _ hb1, HO.out _ hb1⟩
  · have hne : (e != 0) = true := by simp [he]
    have HR : Hid (rdNum most l e = (0, l, e)) := hid (by rw [rdNum, if_neg he])
    clear he
    go_enter Tryz.func71, Tryz.ntmps71
    go_wp2
    go_ret
    rw [HR.out]
    exact ⟨rfl, H.out, Only.refl B W⟩

set_option maxRecDepth 20000 in
set_option maxHeartbeats 2000000 in
theorem rrText_any (B : Nat) (l : List UInt8) (e most : Int) (W : World) (h : RRdr W B l e) (hl : l.length ≤ 100000) :
    Calls Tryz.prog 73 #[.pointer (some ⟨B, 0, none⟩), .int .i64 most] W fun x w' => x = .returned (.string (str (rdText most l e).1)) ∧ RRdr w' B (rdText most l e).2.1 (rdText most l e).2.2 ∧ Only B W w' := by
  have H := hid h
  obtain ⟨c0, c1, f0, f1⟩ := two_cells h
  clear h
  by_cases he : e = 0
  · subst he
    have HF := hid (fun w => rnext_any l most w hl)
    have HU := hid (firstN_used most l)
    have hx := firstN_err most l
    have HR : Hid (rdText most l 0 = if (firstN most l).2.2 = 0 then (if l.length - (firstN most l).2.1 < (firstN most l).1 then ([], l, (2 : Int)) else ((l.drop (firstN most l).2.1).take (firstN most l).1, l.drop ((firstN most l).2.1 + (firstN most l).1), (0 : Int))) else ([], l, (((firstN most l).2.2 : Nat) : Int))) := hid rfl
    have hz : (str l).size = l.length := str_size l
    generalize firstN most l = t at *
    obtain ⟨n, u, x⟩ := t
    simp only [trip] at HF HU hx HR
    by_cases h0 : x = 0
    · subst h0
      rw [if_pos rfl] at HR
      obtain ⟨u1, u2, n1, n2⟩ := HU.out rfl
      have hu1 : (u : Int) ≤ (l.length : Int) := by omega
      have hb63 : l.length ≤ 9223372036854775807 := by omega
      clear HU n2 hx
      by_cases hsh : l.length - u < n
      · rw [if_pos hsh] at HR
        have hd : decide ((l.length : Int) - (u : Int) < (n : Int)) = true := by simp; omega
        have hd2 : (l.length : Int) - (u : Int) < (n : Int) := by omega
        have HS := hid (fun w1 (hb : Below W.heap.size W w1) => ((H.out.below hb).setErr 0).setErr 2)
        have HO := hid (fun w1 (hb : Below W.heap.size W w1) => ((Only.of_below hb (B := B)).set 1 (.int .i64 0)).set 1 (.int .i64 2))
        clear hsh n1
        go_enter Tryz.func73, Tryz.ntmps73
        go_wp2_with (go_at_call 107; refine (HF.out _).mono ?_; rintro e w1 ⟨rfl, hb1⟩; obtain ⟨d0, d1, g0, g1⟩ := two_cells (H.out.below hb1))
        go_ret
        rw [HR.out]
        exact ⟨rfl, HS.out _ hb1, HO.out _ hb1⟩
      · rw [if_neg hsh] at HR
        have hd : decide ((l.length : Int) - (u : Int) < (n : Int)) = false := by simp; omega
        have hd2 : (n : Int) ≤ (l.length : Int) - (u : Int) := by omega
        have hun : u + n ≤ l.length := by omega
        have hsl : ∀ w : World, (Instr.slice 9 (.string (str l)) (some (.int .i64 (u : Int))) (some (.int .i64 ((u : Int) + (n : Int)))) none).run Tryz.prog w = .ok (.string (str ((l.drop u).take n))) w := fun w => by
          rw [run_slice_string (P := Tryz.prog) w 9 (str l) .i64 .i64 (u : Int) ((u : Int) + (n : Int)) Tryz.underlying9 (by omega) (by omega) (by rw [hz]; omega)]
          rw [show (((u : Int) + (n : Int)).toNat) = u + n by omega, Int.toNat_natCast, str_mid]
        have hex2 := str_drop l (u + n) hun
        have HS := hid (fun w1 (hb : Below W.heap.size W w1) => (H.out.below hb).set (l.drop (u + n)) 0)
        have HO := hid (fun w1 (hb : Below W.heap.size W w1) => ((Only.of_below hb (B := B)).set 1 (.int .i64 0)).set 0 (.string (str (l.drop (u + n)))))
        clear hsh n1
        go_enter Tryz.func73, Tryz.ntmps73
        go_wp2_with (go_at_call 107; refine (HF.out _).mono ?_; rintro e w1 ⟨rfl, hb1⟩; obtain ⟨d0, d1, g0, g1⟩ := two_cells (H.out.below hb1))
        go_ret
        rw [HR.out]
        exact ⟨rfl, HS.out _ hb1, HO.out _ hb1⟩
    · rw [if_neg h0] at HR
      have hne : (((x : Nat) : Int) != 0) = true := by simp; omega
      have hne2 : (((x : Nat) : Int) == 0) = false := by simp; omega
      have HS := hid (fun w1 (hb : Below W.heap.size W w1) => (H.out.below hb).setErr (x : Int))
      have HO := hid (fun w1 (hb : Below W.heap.size W w1) => ((Only.of_below hb (B := B)).set 1 (.int .i64 (x : Int))))
      clear HU
      go_enter Tryz.func73, Tryz.ntmps73
      go_wp2_with (go_at_call 107; refine (HF.out _).mono ?_; rintro e w1 ⟨rfl, hb1⟩; obtain ⟨d0, d1, g0, g1⟩ := two_cells (H.out.below hb1))
      go_ret
      rw [HR.out]
      exact ⟨rfl, HS.out _ hb1, HO.out _ hb1⟩
  · have hne : (e != 0) = true := by simp [he]
    have HR : Hid (rdText most l e = ([], l, e)) := hid (by rw [rdText, if_neg he])
    clear he
    go_enter Tryz.func73, Tryz.ntmps73
    go_wp2
    go_ret
    rw [HR.out]
    exact ⟨rfl, H.out, Only.refl B W⟩

theorem rrFail_any (B : Nat) (l : List UInt8) (e x : Int) (W : World) (h : RRdr W B l e) :
    Calls Tryz.prog 72 #[.pointer (some ⟨B, 0, none⟩), .int .i64 x] W fun y w' => (∃ v, y = .returned v) ∧ RRdr w' B l (rdFail x e) ∧ Only B W w' := by
  have H := hid h
  obtain ⟨c0, c1, f0, f1⟩ := two_cells h
  clear h
  by_cases he : e = 0
  · subst he
    go_enter Tryz.func72, Tryz.ntmps72
    go_wp2
    go_end0
    exact ⟨⟨_, rfl⟩, by rw [rdFail, if_pos rfl]; exact H.out.setErr x, (Only.refl B W).set 1 _⟩
  · have hne : (e == 0) = false := by simp [he]
    have HR : Hid (rdFail x e = e) := hid (by rw [rdFail, if_neg he])
    clear he
    go_enter Tryz.func72, Tryz.ntmps72
    go_wp2
    go_end0
    exact ⟨⟨_, rfl⟩, by rw [HR.out]; exact H.out, Only.refl B W⟩
theorem rrEnd_any (B : Nat) (l : List UInt8) (e : Int) (W : World) (h : RRdr W B l e) :
    Calls Tryz.prog 74 #[.pointer (some ⟨B, 0, none⟩)] W fun x w' => x = .returned (.int .i64 (rdEnd l e)) ∧ W = w' := by
  obtain ⟨c0, c1, f0, f1⟩ := two_cells h
  clear h
  have hz : (str l).size = l.length := str_size l
  by_cases he : e = 0
  · subst he
    by_cases hl : 0 < l.length
    · have hl' : (0 : Int) < l.length := by omega
      have hd : decide (0 < l.length) = true := by simp; omega
      have HR : Hid (rdEnd l 0 = 3) := hid (by rw [rdEnd, if_pos rfl, if_pos hl])
      clear hl
      go_enter Tryz.func74, Tryz.ntmps74
      go_wp2
      go_ret
      exact ⟨by rw [HR.out]; rfl, rfl⟩
    · have hl' : l.length = 0 := by omega
      have HR : Hid (rdEnd l 0 = 0) := hid (by rw [rdEnd, if_pos rfl, if_neg hl])
      rw [hl'] at hz
      clear hl hl'
      generalize str l = s at *
      go_enter Tryz.func74, Tryz.ntmps74
      go_wp2
      go_ret
      exact ⟨by rw [HR.out]; rfl, rfl⟩
  · have hne : (e == 0) = false := by simp [he]
    have HR : Hid (rdEnd l e = e) := hid (by rw [rdEnd, if_neg he])
    clear he
    go_enter Tryz.func74, Tryz.ntmps74
    go_wp2
    go_ret
    exact ⟨by rw [HR.out]; rfl, rfl⟩
end Go.Proofs.YtdphdodjidbngaaGreat

namespace Go.Proofs.YtdphdodjidbngaaGreat
open Go.RowKit
set_option linter.unusedVariables false
set_option linter.unusedSimpArgs false

theorem wd_le7 {n : Nat} (h : n ≤ 72057594037927935) : wd n ≤ 7 := wd_max h
/-- What was put is read. -/
theorem firstN_numB (n : Nat) (h : n ≤ 72057594037927935) (most : Int) (hm : (n : Int) ≤ most) (rest : List UInt8) : firstN most (numB n ++ rest) = (n, (numB n).length, 0) := by
  have chk : ∀ u, chkN most n u = (n, u, 0) := fun u => by rw [chkN, if_neg (by omega)]
  unfold numB
  by_cases h8 : n < 248
  · rw [if_pos h8, List.cons_append, List.nil_append, firstN_cons]
    have e : (UInt8.ofNat n).toNat = n := by rw [UInt8.toNat_ofNat']; omega
    rw [e, if_neg (by omega), if_pos h8, chk]
    rfl
  · rw [if_neg h8, List.cons_append, firstN_cons]
    have hk := wd_le7 h
    have hp := wd_pos (n := n) (by omega)
    have e : (UInt8.ofNat (247 + wd n)).toNat = 247 + wd n := by rw [UInt8.toNat_ofNat']; omega
    have hb := beB_length (wd n) n
    rw [e, if_neg (by omega), if_neg (by omega), show 247 + wd n - 247 = wd n by omega, if_neg (by simp [hb])]
    have ht : (beB (wd n) n ++ rest).take (wd n) = beB (wd n) n := by rw [List.take_append_of_le_length (by omega), List.take_of_length_le (by omega)]
    have hj : joinN 0 (beB (wd n) n) = n := by rw [joinN_beB _ _ _ (wd_lt n)]; omega
    rw [ht, hj, if_neg (by simp [h8]), chk, List.length_cons, hb]
    congr 2
    omega
/-- What is read was put with just those bytes. -/
theorem numB_firstN (most : Int) (l : List UInt8) (h : (firstN most l).2.2 = 0) : numB (firstN most l).1 = l.take (firstN most l).2.1 := by
  cases l with
  | nil => simp [firstN] at h
  | cons c r =>
    have hc := c.toNat_lt
    have chk : ∀ n u, (chkN most n u).2.2 = 0 → chkN most n u = (n, u, 0) := by
      intro n u h
      unfold chkN at *
      by_cases hm : max most 0 < (n : Int)
      · rw [if_pos hm] at h; simp at h
      · rw [if_neg hm]
    rw [firstN_cons] at h ⊢
    by_cases h1 : c.toNat = 255
    · rw [if_pos h1] at h; simp at h
    rw [if_neg h1] at h ⊢
    by_cases h2 : c.toNat < 248
    · rw [if_pos h2] at h ⊢
      rw [chk _ _ h]
      simp [numB, h2]
    rw [if_neg h2] at h ⊢
    by_cases h3 : r.length < c.toNat - 247
    · rw [if_pos h3] at h; simp at h
    rw [if_neg h3] at h ⊢
    by_cases h4 : joinN 0 (r.take (c.toNat - 247)) < 248 ∨ wd (joinN 0 (r.take (c.toNat - 247))) ≠ c.toNat - 247
    · rw [if_pos h4] at h; simp at h
    rw [if_neg h4] at h ⊢
    rw [chk _ _ h]
    have h5 : ¬ joinN 0 (r.take (c.toNat - 247)) < 248 := fun h => h4 (.inl h)
    have h6 : wd (joinN 0 (r.take (c.toNat - 247))) = c.toNat - 247 := Classical.byContradiction fun h => h4 (.inr h)
    simp only
    rw [numB, if_neg h5, h6, beB_joinN _ _ _ (by simp; omega), show 247 + (c.toNat - 247) = c.toNat by omega, show 1 + (c.toNat - 247) = (c.toNat - 247) + 1 by omega, List.take_succ_cons]
    simp
end Go.Proofs.YtdphdodjidbngaaGreat

