/- The document's Number: contract for numbers from 0 on; name. -/
import Derived.Test.YtdekemlckpbbcaaCvO
import Derived.Test.YtdekemlckpbbcaaLnkA
namespace Go.Proofs.Ytdekemlckpbbcaa
open Go.RowKit
set_option linter.unusedVariables false
set_option linter.unusedSimpArgs false

/-- The digits of a number; none of nought. -/
def decN (n : Nat) : List UInt8 := if h : n = 0 then [] else decN (n / 10) ++ [UInt8.ofNat (48 + n % 10)]
termination_by n
decreasing_by omega
theorem decN_0 : decN 0 = [] := by rw [decN]; rfl
theorem decN_s (n : Nat) (h : n ≠ 0) : decN n = decN (n / 10) ++ [UInt8.ofNat (48 + n % 10)] := by rw [decN, dif_neg h]
theorem decN_len (n : Nat) : (decN n).length ≤ n := by
  induction n using Nat.strongRecOn with
  | ind n ih =>
    by_cases h : n = 0
    · rw [h, decN_0]; exact Nat.le_refl _
    · have := ih (n / 10) (by omega)
      rw [decN_s n h, List.length_append, List.length_singleton]
      omega
/-- The text of a number. -/
def numT (n : Nat) : List UInt8 := if n = 0 then [48] else decN n
/-- The number of digits. -/
def valD (l : List UInt8) : Nat := l.foldl (fun a b => a * 10 + (b.toNat - 48)) 0
theorem valD_dec (n : Nat) : valD (decN n) = n := by
  induction n using Nat.strongRecOn with
  | ind n ih =>
    by_cases h : n = 0
    · rw [h, decN_0]; rfl
    · have := ih (n / 10) (by omega)
      rw [decN_s n h]
      unfold valD at this ⊢
      rw [List.foldl_append, this]
      simp only [List.foldl_cons, List.foldl_nil]
      rw [UInt8.toNat_ofNat']
      omega
theorem numT_val (n : Nat) : valD (numT n) = n := by
  unfold numT
  split
  · rename_i h; subst h; rfl
  · exact valD_dec n
theorem numT_inj {a b : Nat} (h : numT a = numT b) : a = b := by rw [← numT_val a, h, numT_val]
theorem numT_ne (n : Nat) : numT n ≠ [] := by
  unfold numT
  split
  · simp
  · rename_i h
    rw [decN_s n h]
    simp
theorem decN_short (k n : Nat) (h : n < 10 ^ k) : (decN n).length ≤ k := by
  induction k generalizing n with
  | zero => have : n = 0 := by simpa using h
            rw [this, decN_0]; exact Nat.le_refl _
  | succ k ih =>
    by_cases h0 : n = 0
    · rw [h0, decN_0]; exact Nat.zero_le _
    · rw [decN_s n h0, List.length_append, List.length_singleton]
      have : n / 10 < 10 ^ k := by rw [Nat.pow_succ] at h; omega
      have := ih _ this
      omega

set_option maxRecDepth 20000 in
set_option maxHeartbeats 4000000 in
theorem number_any (n : Nat) (hn : n ≤ 1000000) (W : World) : Calls Try.prog 83 #[.int .i64 (n : Int)] W fun e w' => e = .returned (.string (str (numT n))) ∧ Below W.heap.size W w' := by
  by_cases h0 : n = 0
  · subst h0
    go_enter Try.func83, Try.ntmps83
    go_wp2
    go_ret
    exact ⟨rfl, Below.refl _ _⟩
  · have e0 : ((n : Int) == 0) = false := by rw [beq_eq_false_iff_ne]; omega
    have hneg : decide ((n : Int) < 0) = false := decide_eq_false (by omega)
    have HT : Hid (numT n = decN n) := hid (by unfold numT; rw [if_neg h0])
    have HDL := hid (decN_len n)
    have HN := hid hn
    generalize hD : decN n = D at *
    have HD := hid hD
    clear h0 hD hn
    go_enter Try.func83, Try.ntmps83
    go_wp2_with fail
    go_loopw [0, 3, 5] (fun v s c wr => ∃ (k : Nat) (t : List UInt8), v = .int .i64 (k : Int) ∧ s = .string (str t) ∧ k ≤ n ∧ Hid (decN k ++ t = D) ∧ Hid (Below W.heap.size W wr)) (fun v _ _ _ => (intOf v).toNat)
    case atStart => exact ⟨n, [], rfl, rfl, Nat.le_refl _, hid (by rw [HD.out, List.append_nil]), Below.refl _ _⟩
    case round =>
      obtain ⟨k, t, rfl, rfl, hk, HK, HB⟩ := hrel
      by_cases hk0 : k = 0
      · subst hk0
        have HE : Hid (t = D) := hid (by have := HK.out; rw [decN_0] at this; exact this)
        clear HK
        go_wp2
        go_ret
        exact ⟨by rw [HT.out, HE.out]; rfl, HB.out⟩
      · have ek : ((k : Int) != 0) = true := by simp; omega
        have hm0 : decide ((k : Int) % 10 < 0) = false := decide_eq_false (by omega)
        have hm1 : 0 ≤ (k : Int) % 10 := by omega
        have hm2 : (k : Int) % 10 < 10 := by omega
        have hv := conv_one (UInt8.ofNat (48 + k % 10)) (48 + (k : Int) % 10) (by rw [UInt8.toNat_ofNat']; omega)
        have HK2 : Hid (decN (k / 10) ++ (UInt8.ofNat (48 + k % 10) :: t) = D) := hid (by have := HK.out; rw [decN_s k hk0, List.append_assoc] at this; exact this)
        have htl : t.length ≤ 1000000 := by have h1 := congrArg List.length HK.out; rw [List.length_append] at h1; have := HDL.out; have := HN.out; omega
        have hs3 : (str [UInt8.ofNat (48 + k % 10)]).size + (str t).size ≤ 9223372036854775807 := by rw [str_size, str_size]; simp; omega
        clear HK
        generalize UInt8.ofNat (48 + k % 10) = b at *
        go_wp2
        have hw : wrap64 ((k : Int) / 10) = ((k / 10 : Nat) : Int) := by
          have h1 := HN.out
          unfold wrap64
          omega
        rw [hw]
        refine ⟨⟨k / 10, b :: t, rfl, by rw [str_app]; rfl, by omega, HK2, HB.out.alloc HB.out.size _⟩, ?_⟩
        simp only [intOf]
        omega

set_option maxRecDepth 20000 in
theorem name_any (n : Nat) (hn : n ≤ 1000000) (W : World) : Calls Try.prog 63 #[.int .i64 (n : Int)] W fun e w' => e = .returned (.string (str (116 :: numT n))) ∧ Below W.heap.size W w' := by
  have HN := hid (fun w => number_any n hn w)
  have hl : (numT n).length ≤ 1000001 := by
    unfold numT
    split
    · simp
    · have := decN_len n; omega
  have HSA : Hid ((⟨#[116]⟩ : ByteArray) ++ str (numT n) = str (116 :: numT n)) := hid (str_app [116] (numT n))
  have hs : (⟨#[116]⟩ : ByteArray).size + (str (numT n)).size ≤ 9223372036854775807 := by rw [str_size]; show 1 + (numT n).length ≤ _; omega
  generalize numT n = t at *
  go_enter Try.func63, Try.ntmps63
  go_wp2_with fail
  refine (HN.out _).mono ?_
  rintro e w1 ⟨rfl, hb1⟩
  have HB := hid hb1
  clear HN hb1
  go_wp2
  go_ret
  exact ⟨by rw [← HSA.out]; rfl, HB.out⟩
end Go.Proofs.Ytdekemlckpbbcaa
