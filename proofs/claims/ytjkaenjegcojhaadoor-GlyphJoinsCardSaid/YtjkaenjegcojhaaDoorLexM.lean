/- What string(c) gives for a whole rune's number. -/
import Derived.Test.YtjkaenjegcojhaaDoorGlyE
namespace Go.Proofs.YtjkaenjegcojhaaDoor
open Go.RowKit
set_option linter.unusedVariables false
set_option linter.unusedSimpArgs false

theorem ofNat_nb (l : List UInt8) (k : Nat) : UInt8.ofNat (nb l k) = l.getD k 0 := by
  apply UInt8.toNat_inj.1
  rw [UInt8.toNat_ofNat', nb]
  have := (l.getD k 0).toNat_lt
  omega
theorem take_getD1 (l : List UInt8) (h : 1 ≤ l.length) : l.take 1 = [l.getD 0 0] := by
  match l, h with
  | a :: l, _ => rfl
theorem take_getD2 (l : List UInt8) (h : 2 ≤ l.length) : l.take 2 = [l.getD 0 0, l.getD 1 0] := by
  match l, h with
  | a :: b :: l, _ => rfl
theorem take_getD3 (l : List UInt8) (h : 3 ≤ l.length) : l.take 3 = [l.getD 0 0, l.getD 1 0, l.getD 2 0] := by
  match l, h with
  | a :: b :: c :: l, _ => rfl
theorem take_getD4 (l : List UInt8) (h : 4 ≤ l.length) : l.take 4 = [l.getD 0 0, l.getD 1 0, l.getD 2 0, l.getD 3 0] := by
  match l, h with
  | a :: b :: c :: d :: l, _ => rfl
/-- A number as the sizes' cases give it. -/
theorem szN_facts (l : List UInt8) : szN l = 0 ∨ (szN l = 1 ∧ nb l 0 < 128) ∨ (szN l = 2 ∧ 194 ≤ nb l 0 ∧ nb l 0 < 224 ∧ 2 ≤ l.length ∧ contN l 1) ∨ (szN l = 3 ∧ 224 ≤ nb l 0 ∧ nb l 0 < 240 ∧ 3 ≤ l.length ∧ contN l 1 ∧ contN l 2 ∧ ¬ badD (nb l 0) (nb l 1)) ∨ (szN l = 4 ∧ 240 ≤ nb l 0 ∧ nb l 0 < 245 ∧ 4 ≤ l.length ∧ contN l 1 ∧ contN l 2 ∧ contN l 3 ∧ ¬ badD (nb l 0) (nb l 1)) := by
  unfold szN
  split
  · rename_i h1
    exact .inr (.inl ⟨rfl, h1⟩)
  · split
    · exact .inl rfl
    · rename_i h2
      split
      · rename_i h3
        split
        · exact .inl rfl
        · rename_i h7
          unfold leadN at *
          split
          · rename_i h4
            rw [if_pos h4] at h2 h3
            exact .inr (.inr (.inl ⟨rfl, h4.1, h4.2, by omega, h3 1 (by omega) (by omega)⟩))
          · rename_i h4
            rw [if_neg h4] at h2 h3 h7
            split
            · rename_i h5
              rw [if_pos h5] at h2 h3 h7
              exact .inr (.inr (.inr (.inl ⟨rfl, h5.1, h5.2, by omega, h3 1 (by omega) (by omega), h3 2 (by omega) (by omega), fun h => h7 ⟨by omega, h⟩⟩)))
            · rename_i h5
              rw [if_neg h5] at h2 h3 h7
              split
              · rename_i h6
                rw [if_pos h6] at h2 h3 h7
                exact .inr (.inr (.inr (.inr ⟨rfl, h6.1, h6.2, by omega, h3 1 (by omega) (by omega), h3 2 (by omega) (by omega), h3 3 (by omega) (by omega), fun h => h7 ⟨by omega, h⟩⟩)))
              · exact .inl rfl
      · exact .inl rfl
/-- What string(c) gives for a whole rune's number: its bytes. -/
theorem enc_sz (l : List UInt8) (h0 : 0 < l.length) (h : 0 < szN l) : Utf8.encode (codeN l (szN l) : Nat) = str (l.take (szN l)) := by
  have b0 := nb_lt l 0
  have b1 := nb_lt l 1
  have b2 := nb_lt l 2
  have b3 := nb_lt l 3
  unfold Utf8.encode
  rcases szN_facts l with hz | ⟨hz, h1⟩ | ⟨hz, h1, h2, hl, c1⟩ | ⟨hz, h1, h2, hl, c1, c2, hb⟩ | ⟨hz, h1, h2, hl, c1, c2, c3, hb⟩
  · omega
  · rw [hz, codeN_1, take_getD1 l h0, ← ofNat_nb]
    have hv : Utf8.valid (nb l 0 : Int) = true := by simp [Utf8.valid]; omega
    rw [hv]
    simp only [if_true, Int.toNat_natCast]
    rw [if_pos (by omega)]
    rfl
  · unfold contN at c1
    have e0 : nb l 0 = 192 + codeN l 2 / 64 := by rw [codeN_2]; omega
    have e1 : nb l 1 = 128 + codeN l 2 % 64 := by rw [codeN_2]; omega
    have hr : 128 ≤ codeN l 2 ∧ codeN l 2 < 2048 := by rw [codeN_2]; omega
    rw [hz, take_getD2 l hl, ← ofNat_nb, ← ofNat_nb, e0, e1]
    generalize codeN l 2 = c at *
    have hv : Utf8.valid (c : Int) = true := by simp [Utf8.valid]; omega
    rw [hv]
    simp only [if_true, Int.toNat_natCast]
    rw [if_neg (by omega), if_pos (by omega)]
    rfl
  · unfold contN at c1 c2
    unfold badD at hb
    have e0 : nb l 0 = 224 + codeN l 3 / 4096 := by rw [codeN_3]; omega
    have e1 : nb l 1 = 128 + codeN l 3 / 64 % 64 := by rw [codeN_3]; omega
    have e2 : nb l 2 = 128 + codeN l 3 % 64 := by rw [codeN_3]; omega
    have hr : 2048 ≤ codeN l 3 ∧ codeN l 3 < 65536 ∧ (codeN l 3 < 55296 ∨ 57344 ≤ codeN l 3) := by rw [codeN_3]; omega
    rw [hz, take_getD3 l hl, ← ofNat_nb, ← ofNat_nb, ← ofNat_nb, e0, e1, e2]
    generalize codeN l 3 = c at *
    have hv : Utf8.valid (c : Int) = true := by simp [Utf8.valid]; omega
    rw [hv]
    simp only [if_true, Int.toNat_natCast]
    rw [if_neg (by omega), if_neg (by omega), if_pos (by omega)]
    rfl
  · unfold contN at c1 c2 c3
    unfold badD at hb
    have e0 : nb l 0 = 240 + codeN l 4 / 262144 := by rw [codeN_4]; omega
    have e1 : nb l 1 = 128 + codeN l 4 / 4096 % 64 := by rw [codeN_4]; omega
    have e2 : nb l 2 = 128 + codeN l 4 / 64 % 64 := by rw [codeN_4]; omega
    have e3 : nb l 3 = 128 + codeN l 4 % 64 := by rw [codeN_4]; omega
    have hr : 65536 ≤ codeN l 4 ∧ codeN l 4 ≤ 1114111 := by rw [codeN_4]; omega
    rw [hz, take_getD4 l hl, ← ofNat_nb, ← ofNat_nb, ← ofNat_nb, ← ofNat_nb, e0, e1, e2, e3]
    generalize codeN l 4 = c at *
    have hv : Utf8.valid (c : Int) = true := by simp [Utf8.valid]; omega
    rw [hv]
    simp only [if_true, Int.toNat_natCast]
    rw [if_neg (by omega), if_neg (by omega), if_neg (by omega)]
    rfl
end Go.Proofs.YtjkaenjegcojhaaDoor
