/- Fold, both: contracts. -/
import Derived.Test.YtnjfcdmnedmldaaGlyD
import Derived.Deep.QuietTactic
import Derived.BigQuiet
namespace Go.Proofs.Ytnjfcdmnedmldaa
open Go.RowKit Go.Sort
set_option linter.unusedVariables false
set_option linter.unusedSimpArgs false

def low (b : UInt8) : UInt8 := if 65 ≤ b.toNat ∧ b.toNat ≤ 90 then b + 32 else b
theorem low_cap (b : UInt8) (h : 65 ≤ b.toNat ∧ b.toNat ≤ 90) : ((low b).toNat : Int) = (b.toNat : Int) + 32 := by
  rw [low, if_pos h, UInt8.toNat_add]
  have : (32 : UInt8).toNat = 32 := rfl
  rw [this]
  omega
theorem low_not (b : UInt8) (h : ¬ (65 ≤ b.toNat ∧ b.toNat ≤ 90)) : ((low b).toNat : Int) = (b.toNat : Int) := by rw [low, if_neg h]
theorem take_low (l : List UInt8) (k : Nat) (hk : k < l.length) : (l.take (k + 1)).map low = (l.take k).map low ++ [low (l.getD k 0)] := by
  rw [List.take_add_one, List.getElem?_eq_getElem hk, List.getD_eq_getElem?_getD, List.getElem?_eq_getElem hk, Option.toList_some, List.map_append]
  rfl
theorem convSg {w : World} {a : Option Addr} {n cap : Nat} {l : List UInt8} (h : IsBytes w a n cap l) : (convert 22 9 (.slice a n cap)).run Try.prog w = .ok (.string (str l)) w :=
  conv_str (P := Try.prog) (src := 22) (dst := 9) Try.underlying22 Try.underlying5 Try.underlying9 h
theorem conv_one (b : UInt8) (x : Int) (hx : ((b.toNat : Nat) : Int) = x) (w : World) : (convert 22 9 (.slice (some ⟨w.heap.size, 0, none⟩) 1 1)).run Try.prog (w.alloc (.cells #[.int .u8 x] 5)) = .ok (.string (str [b])) (w.alloc (.cells #[.int .u8 x] 5)) := by
  subst hx
  exact convSg (l := [b]) (Sl.lit w 5 1 1 #[.int .u8 (b.toNat : Int)] rfl (by unfold maxLen; omega))

set_option maxRecDepth 20000 in
set_option maxHeartbeats 4000000 in
theorem rfold_is (l : List UInt8) (hl : l.length ≤ 1000) (W : World) : Calls Try.prog 25 #[.string (str l)] W fun e w' => e = .returned (.string (str (l.map low))) ∧ Below W.heap.size W w' := by
  have hls : ((str l).size : Int) ≤ 1000 := by rw [str_size]; omega
  have HSZ := hid (str_size l)
  go_enter Try.func25, Try.ntmps25
  go_wp2_with fail
  go_loopw [3, 4, 5] (fun v i c wr => ∃ k : Nat, k ≤ l.length ∧ i = .int .i64 (k : Int) ∧ v = .string (str ((l.take k).map low)) ∧ Hid (Below W.heap.size W wr)) (fun _ i _ _ => l.length - (intOf i).toNat)
  case atStart => exact ⟨0, by omega, rfl, rfl, Below.refl _ _⟩
  case round =>
    obtain ⟨k, hk, rfl, rfl, HB⟩ := hrel
    by_cases hlt : k < l.length
    · have hlt2 : (k : Int) < ((str l).size : Int) := by rw [HSZ.out]; omega
      have ik := at_nb l k hlt
      have hb := nb_lt l k
      have HTL := hid (take_low l k hlt)
      have HC := hid (low_cap (l.getD k 0))
      have HN := hid (low_not (l.getD k 0))
      have HV := hid (conv_one (low (l.getD k 0)))
      rw [show (l.getD k 0).toNat = nb l k from rfl] at HC HN
      have hs1 : (str ((l.take k).map low)).size ≤ 1000 := by rw [str_size, List.length_map, List.length_take]; omega
      have hs2 : (str [low (l.getD k 0)]).size ≤ 1 := by rw [str_size]; exact Nat.le_refl _
      generalize low (l.getD k 0) = b at *
      generalize nb l k = x at *
      generalize (l.take k).map low = o at *
      have hs3 : (str o).size + (str [b]).size ≤ 9223372036854775807 := by omega
      by_cases hx : 65 ≤ x ∧ x ≤ 90
      · have hv := HV.out _ (HC.out hx)
        obtain ⟨hx1, hx2⟩ := hx
        clear HC HN HV
        go_wp2
        go_roundw
        case rel => exact ⟨k + 1, by omega, by go_num, by rw [HTL.out, ← str_app], HB.out.alloc HB.out.size _⟩
        case measure => simp [intOf]; omega
      · have hv := HV.out _ (HN.out hx)
        have hx2 : x < 65 ∨ 90 < x := by omega
        clear HC HN HV hx
        rcases hx2 with hx2 | hx2
        · go_wp2
          go_roundw
          case rel => exact ⟨k + 1, by omega, by go_num, by rw [HTL.out, ← str_app], HB.out.alloc HB.out.size _⟩
          case measure => simp [intOf]; omega
        · go_wp2
          go_roundw
          case rel => exact ⟨k + 1, by omega, by go_num, by rw [HTL.out, ← str_app], HB.out.alloc HB.out.size _⟩
          case measure => simp [intOf]; omega
    · obtain rfl : k = l.length := by omega
      have hge : ((str l).size : Int) ≤ ((l.length : Nat) : Int) := by rw [HSZ.out]; omega
      have HE := hid (show l.take l.length = l from List.take_length)
      go_wp2
      go_ret
      exact ⟨by rw [HE.out]; rfl, HB.out⟩
end Go.Proofs.Ytnjfcdmnedmldaa
