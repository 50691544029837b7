/- R30.Tasks. -/
import Derived.Test.YtjdlomdhaoadkaaPair
import Derived.Test.YtjdlomdhaoadkaaChecked
import Derived.Deep.QuietTactic
import Derived.BigQuiet
namespace Go.Proofs.Ytjdlomdhaoadkaa
open Go.RowKit
set_option linter.unusedVariables false
set_option linter.unusedSimpArgs false

set_option maxHeartbeats 1000000 in
theorem rtasks_any (A B : Option Addr) (len cap len' cap' : Nat) (l m : List (Int × Int)) (W : World) (hA : Sl W 2 A len cap (pcells l)) (hB : Sl W 2 B len' cap' (pcells m)) (h6 : len ≤ 9223372036854775807) (h7 : len' ≤ 9223372036854775807) :
    Calls Try.prog 16 #[.slice A len cap, .slice B len' cap'] W fun e w' => e = .returned (.bool (l == m)) ∧ ∃ q, w' = W.drewN q := by
  obtain rfl := hA.plen
  obtain rfl := hB.plen
  by_cases hlen : l.length = m.length
  · have HA := hid hA
    have HB := hid hB
    clear hA hB
    have HL := hid hlen
    rw [← hlen]
    clear h7 hlen
    go_enter Try.func16, Try.ntmps16
    go_wp2
    go_loopw [5] (fun i wr => ∃ k q : Nat, k ≤ l.length ∧ i = .int .i64 (k : Int) ∧ wr = W.drewN q ∧ Hid (l.take k = m.take k)) (fun i _ => l.length - (intOf i).toNat)
    case atStart => exact ⟨0, 0, by omega, rfl, rfl, by simp [Hid]⟩
    case round =>
      obtain ⟨k, q, hk, rfl, rfl, HT⟩ := hrel
      by_cases hlt : k < l.length
      · have hltm : k < m.length := by have := HL.out; omega
        obtain ⟨b, off, hA⟩ := HA.out.addr (by rw [pcells_length]; omega)
        subst hA
        obtain ⟨b2, off2, hB⟩ := HB.out.addr (by rw [pcells_length]; omega)
        subst hB
        obtain ⟨c1, c2⟩ := HA.out.pair k hlt
        obtain ⟨d1, d2⟩ := HB.out.pair k hltm
        have HE : Hid (l[k] = m[k] ↔ l.take (k + 1) = m.take (k + 1)) := by
          have h1 : l.take (k + 1) = l.take k ++ [l[k]] := by rw [List.take_add_one, List.getElem?_eq_getElem hlt]; rfl
          have h2 : m.take (k + 1) = m.take k ++ [m[k]] := by rw [List.take_add_one, List.getElem?_eq_getElem hltm]; rfl
          rw [Hid, h1, h2, HT.out]
          exact ⟨fun h => by rw [h], fun h => by simpa using List.append_cancel_left h⟩
        generalize l[k] = x at c1 c2 HE
        generalize m[k] = y at d1 d2 HE
        obtain ⟨x1, x2⟩ := x
        obtain ⟨y1, y2⟩ := y
        simp only at c1 c2 d1 d2
        have hlt2 : (k : Int) < (l.length : Int) := by omega
        by_cases hxy : x1 = y1 ∧ x2 = y2
        · obtain ⟨rfl, rfl⟩ := hxy
          have HE2 := hid (HE.out.1 rfl)
          clear HE
          have e1 : (x1 == x1) = true := by simp
          have e2 : (x2 == x2) = true := by simp
          go_wp2
          go_quiet (fail)
          go_wp2
          go_roundw
          case rel => exact ⟨k + 1, q + nq, by omega, by go_num, rfl, HE2.out⟩
          case measure => simp [intOf]; omega
        · have HF : Hid ((l == m) = false) := by
            simp only [Hid, beq_eq_false_iff_ne, ne_eq]
            intro h
            have := HE.out.2 (by rw [h])
            simp only [Prod.mk.injEq] at this
            exact hxy this
          clear HE
          by_cases h1 : x1 = y1
          · subst h1
            have e1 : (x1 == x1) = true := by simp
            have e2 : (x2 == y2) = false := by rw [beq_eq_false_iff_ne]; exact fun h => hxy ⟨rfl, h⟩
            clear hxy
            go_wp2
            go_quiet (fail)
            go_wp2
            go_ret
            refine ⟨?_, q + nq, by simp⟩
            rw [HF.out]
            rfl
          · have e1 : (x1 == y1) = false := by rw [beq_eq_false_iff_ne]; exact h1
            clear hxy h1
            go_wp2
            go_quiet (fail)
            go_wp2
            go_ret
            refine ⟨?_, q + nq, by simp⟩
            rw [HF.out]
            rfl
      · have HF : Hid ((l == m) = true) := by
          have h1 := HT.out
          rw [List.take_of_length_le (by omega), List.take_of_length_le (by have := HL.out; omega)] at h1
          simp [Hid, h1]
        have hge : ¬ (k : Int) < (l.length : Int) := by omega
        go_wp2
        go_ret
        refine ⟨?_, _, rfl⟩
        rw [HF.out]
        rfl
  · have HF : Hid ((l == m) = false) := by
      simp only [Hid, beq_eq_false_iff_ne, ne_eq]
      intro h
      exact hlen (by rw [h])
    rw [HF.out]
    have hne : ((l.length : Int) != (m.length : Int)) = true := by simp; omega
    clear HF hA hB h6 h7 hlen
    go_enter Try.func16, Try.ntmps16
    go_wp2
    go_ret
    exact ⟨rfl, 0, rfl⟩
end Go.Proofs.Ytjdlomdhaoadkaa
