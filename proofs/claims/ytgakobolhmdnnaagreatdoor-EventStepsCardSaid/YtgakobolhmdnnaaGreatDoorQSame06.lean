/- Two slices of int compared: the reference's Same. -/
import Derived.Test.YtgakobolhmdnnaaGreatDoorGaP
import Derived.Deep.QuietTactic
import Derived.BigQuiet
namespace Go.Proofs.YtgakobolhmdnnaaGreatDoor
open Go.RowKit
set_option linter.unusedVariables false

set_option maxHeartbeats 400000 in
theorem same06 (A B : Option Addr) (len cap len' cap' : Nat) (l m : List Int) (W : World) (hA : Sl W 1 A len cap (icells .i64 l)) (hB : Sl W 1 B len' cap' (icells .i64 m)) (h6 : len ≤ 9223372036854775807) (h7 : len' ≤ 9223372036854775807) :
    Calls Tryz.prog 47 #[.slice A len cap, .slice B len' cap'] W fun e w' => e = .returned (.bool (l == m)) ∧ ∃ q, w' = W.drewN q := by
  have hl : len = l.length := by have := hA.1; rw [icells_length] at this; omega
  have hm : len' = m.length := by have := hB.1; rw [icells_length] at this; omega
  subst hl hm
  by_cases hlen : l.length = m.length
  · have HA := hid (fun i hi => Sl.at hA i hi)
    have HB := hid (fun i hi => Sl.at hB i hi)
    clear hA hB
    have HL := hid hlen
    rw [← hlen]
    clear h7 hlen
    go_enter Tryz.func47, Tryz.ntmps47
    go_wp2
    go_loopw [5] (fun i wr => ∃ k q : Nat, k ≤ l.length ∧ i = .int .i64 (k : Int) ∧ wr = W.drewN q ∧ Hid (l.take k = m.take k)) (fun i _ => l.length - (intOf i).toNat)
    case atStart => exact ⟨0, 0, by omega, rfl, rfl, by simp [Hid]⟩
    case round =>
      obtain ⟨k, q, hk, rfl, rfl, HT⟩ := hrel
      by_cases hlt : k < l.length
      · obtain ⟨b, off, rfl, hc⟩ := HA.out k (by rw [icells_length]; exact hlt)
        obtain ⟨b2, off2, rfl, hc2⟩ := HB.out k (by rw [icells_length, ← HL.out]; exact hlt)
        have HL' := HL.out
        have e1 : (icells .i64 l)[k]'(by rw [icells_length]; exact hlt) = .int .i64 (l[k]'hlt) := by simp [icells]
        have e2 : (icells .i64 m)[k]'(by rw [icells_length]; omega) = .int .i64 (m[k]'(by omega)) := by simp [icells]
        rw [e1] at hc
        rw [e2] at hc2
        have HE : Hid (l[k]'hlt = m[k]'(by omega) ↔ l.take (k + 1) = m.take (k + 1)) := by
          have h1 : l.take (k + 1) = l.take k ++ [l[k]'hlt] := by rw [List.take_add_one, List.getElem?_eq_getElem hlt]; rfl
          have h2 : m.take (k + 1) = m.take k ++ [m[k]'(by omega)] := by rw [List.take_add_one, List.getElem?_eq_getElem (by omega)]; rfl
          rw [Hid, h1, h2, HT.out]
          exact ⟨fun h => by rw [h], fun h => by simpa using List.append_cancel_left h⟩
        generalize l[k]'hlt = x at hc HE
        generalize m[k]'(by omega) = y at hc2 HE
        clear e1 e2 HL'
        have hlt2 : (k : Int) < (l.length : Int) := by omega
        by_cases hxy : x = y
        · have HE2 := hid (HE.out.1 hxy)
          clear HE
          subst hxy
          have hne : (x != x) = false := by simp
          go_wp2
          go_quiet (fail)
          go_wp2
          go_roundw
          case rel => exact ⟨k + 1, q + nq, by omega, by go_num, rfl, HE2.out⟩
          case measure => simp [intOf]; omega
        · have hne : (x != y) = true := by simpa using hxy
          have HF : Hid ((l == m) = false) := by
            simp only [Hid, beq_eq_false_iff_ne, ne_eq]
            intro h
            exact hxy (HE.out.2 (by rw [h]))
          clear HE hxy
          go_wp2
          go_quiet (fail)
          go_wp2
          go_ret
          refine ⟨?_, q + nq, by simp⟩
          rw [HF.out]
          rfl
      · have HF : Hid ((l == m) = true) := by
          have h1 := HT.out
          rw [List.take_of_length_le (by omega), List.take_of_length_le (by have := HL.out; omega)] at h1
          simp [Hid, h1]
        have hge : ¬ (k : Int) < (l.length : Int) := by omega
        go_wp2
        go_ret
        refine ⟨?_, _, rfl⟩
        rw [HF.out]
        rfl
  · have HF : Hid ((l == m) = false) := by
      simp only [Hid, beq_eq_false_iff_ne, ne_eq]
      intro h
      exact hlen (by rw [h])
    rw [HF.out]
    have hne : ((l.length : Int) != (m.length : Int)) = true := by simp; omega
    clear HF hA hB h6 h7 hlen
    go_enter Tryz.func47, Tryz.ntmps47
    go_wp2
    go_ret
    exact ⟨rfl, 0, rfl⟩
end Go.Proofs.YtgakobolhmdnnaaGreatDoor
