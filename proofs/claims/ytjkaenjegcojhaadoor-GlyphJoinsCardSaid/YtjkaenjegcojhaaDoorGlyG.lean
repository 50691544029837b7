/- glyph.Fold: contract. -/
import Derived.Test.YtjkaenjegcojhaaDoorBRow
import Derived.Test.YtjkaenjegcojhaaDoorGlyF
namespace Go.Proofs.YtjkaenjegcojhaaDoor
open Go.RowKit Go.Sort
set_option linter.unusedVariables false
set_option linter.unusedSimpArgs false

/-- Folded up to a place. -/
def mix (l : List UInt8) (k : Nat) : List UInt8 := (l.take k).map low ++ l.drop k
theorem mix_len (l : List UInt8) (k : Nat) : (mix l k).length = l.length := by
  rw [mix, List.length_append, List.length_map, List.length_take, List.length_drop]; omega
theorem mix_get (l : List UInt8) (k : Nat) (hk : k < l.length) : (mix l k).getD k 0 = l.getD k 0 := by
  rw [mix, List.getD_eq_getElem?_getD, List.getElem?_append_right (by rw [List.length_map, List.length_take]; omega), List.length_map, List.length_take, List.getElem?_drop, show k + (k - min k l.length) = k by omega, List.getD_eq_getElem?_getD]
theorem mix_set (l : List UInt8) (k : Nat) (hk : k < l.length) : (mix l k).set k (low (l.getD k 0)) = mix l (k + 1) := by
  have h1 : ((l.take k).map low).length = k := by rw [List.length_map, List.length_take]; omega
  rw [mix, mix, take_low l k hk, List.set_append_right _ _ (by omega), h1, Nat.sub_self, List.drop_eq_getElem_cons hk, List.set_cons_zero, List.append_assoc]
  rfl
theorem mix_same (l : List UInt8) (k : Nat) (hk : k < l.length) (h : low (l.getD k 0) = l.getD k 0) : mix l (k + 1) = mix l k := by
  rw [mix, mix, take_low l k hk, h, List.drop_eq_getElem_cons hk, List.append_assoc, List.getD_eq_getElem?_getD, List.getElem?_eq_getElem hk]
  rfl
theorem mix_0 (l : List UInt8) : mix l 0 = l := by simp [mix]
theorem mix_all (l : List UInt8) : mix l l.length = l.map low := by simp [mix]

set_option maxRecDepth 20000 in
set_option maxHeartbeats 4000000 in
theorem fold_is (l : List UInt8) (hl : l.length ≤ 1000) (W : World) : Calls Tryd.prog 22 #[.string (str l)] W fun e w' => e = .returned (.string (str (l.map low))) ∧ Below W.heap.size W w' := by
  obtain ⟨w1, c, hcv, hB, hbel, hsz⟩ := bytes_brow W (str l) (by rw [str_size]; omega)
  rw [show (str l).data.toList = l by simp [str]] at hB
  have hB0 : BRow w1 W.heap.size c (mix l 0) := by rw [mix_0]; exact hB
  rw [str_size] at hcv
  have HB0 := hid hB0
  have HB1 := hid hbel
  have HM := hid (mix_all l)
  clear hB hB0 hbel
  generalize hs : str l = s at hcv ⊢
  clear hs
  go_enter Tryd.func22, Tryd.ntmps22
  go_wp2_with fail
  go_loopw [10] (fun i wr => ∃ k : Nat, k ≤ l.length ∧ i = .int .i64 (k : Int) ∧ Hid (BRow wr W.heap.size c (mix l k)) ∧ Hid (Below W.heap.size W wr)) (fun i _ => l.length - (intOf i).toNat)
  case atStart => exact ⟨0, by omega, rfl, HB0.out, HB1.out⟩
  case round =>
    obtain ⟨k, hk, rfl, HB, HL⟩ := hrel
    by_cases hlt : k < l.length
    · have hlt2 : (k : Int) < ((l.length : Nat) : Int) := by omega
      obtain ⟨c1, c2⟩ := HB.out.cell k (by rw [mix_len]; exact hlt)
      rw [mix_get l k hlt, show (l.getD k 0).toNat = nb l k from rfl] at c1
      have hb := nb_lt l k
      have HC := hid (low_cap (l.getD k 0))
      have HN := hid (low_not (l.getD k 0))
      have HS := hid (HB.out.set k (low (l.getD k 0)) (by rw [mix_len]; exact hlt))
      rw [mix_set l k hlt] at HS
      have HSM := hid (mix_same l k hlt)
      rw [show (l.getD k 0).toNat = nb l k from rfl] at HC HN
      have HXX := hid (show nb l k = (l.getD k 0).toNat from rfl)
      generalize nb l k = x at *
      by_cases hx : 65 ≤ x ∧ x ≤ 90
      · rw [HC.out hx] at HS
        obtain ⟨hx1, hx2⟩ := hx
        clear HC HN HSM HXX
        go_wp2
        go_roundw
        case rel => exact ⟨k + 1, by omega, by go_num, HS.out, HL.out.setCell (Nat.le_refl _) _⟩
        case measure => simp [intOf]; omega
      · have HE := hid (HSM.out (UInt8.toNat_inj.1 (by have := HN.out hx; have := HXX.out; omega)))
        have hx2 : x < 65 ∨ 90 < x := by omega
        clear HC HN HSM HXX hx HS
        rcases hx2 with hx2 | hx2
        · go_wp2
          go_roundw
          case rel => exact ⟨k + 1, by omega, by go_num, by rw [HE.out]; exact HB.out, HL.out⟩
          case measure => simp [intOf]; omega
        · go_wp2
          go_roundw
          case rel => exact ⟨k + 1, by omega, by go_num, by rw [HE.out]; exact HB.out, HL.out⟩
          case measure => simp [intOf]; omega
    · obtain rfl : k = l.length := by omega
      have hge : ¬ ((l.length : Nat) : Int) < ((l.length : Nat) : Int) := by omega
      have hB9 := HB.out
      rw [HM.out] at hB9
      have h9 := convSg hB9.bytes
      rw [List.length_map] at h9
      clear hB9 hlt hk
      go_wp2
      go_ret
      exact ⟨rfl, HL.out⟩
end Go.Proofs.YtjkaenjegcojhaaDoor
