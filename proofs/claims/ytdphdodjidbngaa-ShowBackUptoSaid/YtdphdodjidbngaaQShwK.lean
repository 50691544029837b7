/- The document's check of a table of names: contract. -/
import Derived.Test.YtdphdodjidbngaaQGlyS
import Derived.Test.YtdphdodjidbngaaQNamN
import Derived.Test.YtdphdodjidbngaaNmP
import Derived.BigQuiet
import Derived.Deep.Cut
namespace Go.Proofs.Ytdphdodjidbngaa
open Go.RowKit
set_option linter.unusedVariables false
set_option linter.unusedSimpArgs false

theorem less_total : ∀ x y : List UInt8, Op.bytesLess x y = false → (x == y) = false → Op.bytesLess y x = true
  | [], [], _, h => by simp at h
  | [], _ :: _, h, _ => by simp [Op.bytesLess] at h
  | _ :: _, [], _, _ => by simp [Op.bytesLess]
  | a :: x, b :: y, h, he => by
    simp only [Op.bytesLess, Bool.or_eq_false_iff, Bool.and_eq_false_iff, decide_eq_false_iff_not, Bool.or_eq_true, Bool.and_eq_true, decide_eq_true_eq, beq_iff_eq] at *
    by_cases hab : a = b
    · subst hab
      refine .inr ⟨rfl, less_total x y ?_ ?_⟩
      · rcases h.2 with h2 | h2
        · simp at h2
        · exact h2
      · simpa using he
    · refine .inl ?_
      have h1 : ¬ a < b := h.1
      rw [UInt8.lt_iff_toNat_lt] at h1 ⊢
      have h2 : a.toNat ≠ b.toNat := fun e => hab (UInt8.toNat_inj.mp e)
      omega
theorem below_drewS {n : Nat} {W w : World} (h : Below n W w) (q : Nat) : Below n W (w.drewN q) := ⟨h.os, h.tape, h.output, h.size, h.block⟩
/-- The first so many are names. -/
def NamsK (l : List (List UInt8)) (k : Nat) : Prop := ∀ j (hj : j < l.length), j < k → nameR (rns l[j] 0) = true
set_option maxRecDepth 20000 in
set_option maxHeartbeats 2000000 in
theorem rcheck05_any (A : Option Addr) (len cap : Nat) (l : List (List UInt8)) (W : World) (hb : ∀ s ∈ l, s.length ≤ 2000000) (h : Sl W 1 A len cap (scells l)) :
    Calls Try.prog 12 #[.slice A len cap] W fun e w' => ∃ c : Int, e = .returned (.int .i64 c) ∧ Hid (c = 0 → l.length ≤ 16 ∧ NamsK l l.length ∧ Asc l l.length) ∧ Below W.heap.size W w' := by
  obtain rfl : len = l.length := by have := h.1; rw [scells_length] at this; omega
  have HA := hid h
  have HBD := hid hb
  clear h hb
  by_cases h16 : 16 < l.length
  · have h2 : (16 : Int) < l.length := by omega
    go_enter Try.func12, Try.ntmps12
    go_wp2
    go_ret
    exact ⟨1, rfl, fun h => by omega, Below.refl _ _⟩
  · have h2 : ¬ (16 : Int) < l.length := by omega
    go_enter Try.func12, Try.ntmps12
    go_wp2_with fail
    go_loopw [3] (fun i wr => ∃ k : Nat, k ≤ l.length ∧ i = .int .i64 (k : Int) ∧ Hid (NamsK l k) ∧ Hid (Below W.heap.size W wr)) (fun i _ => l.length - (intOf i).toNat)
    case atStart => exact ⟨0, by omega, rfl, fun j hj h => by omega, Below.refl _ _⟩
    case round =>
      obtain ⟨k, hk, rfl, HT, HR⟩ := hrel
      by_cases hlt : k < l.length
      · have hlt2 : (k : Int) < (l.length : Int) := by omega
        obtain ⟨b, off, hA, c1⟩ := scells_at HA.out k hlt
        subst hA
        have c1 := cellb HR.out c1
        have HN := hid (fun w => rnameL_is l[k] (HBD.out _ (List.getElem_mem hlt)) w)
        have HS : Hid (nameR (rns l[k] 0) = true → NamsK l (k + 1)) := hid (fun h j hj hjk => by
          by_cases e : j = k
          · subst e; exact h
          · exact HT.out j hj (by omega))
        generalize nameR (rns l[k] 0) = bb at HN HS
        generalize str l[k] = sx at c1 HN
        go_wp2_with fail
        refine (HN.out _).mono ?_
        rintro e w2 ⟨rfl, hb2⟩
        have HR2 := hid (HR.out.trans (hb2.mono HR.out.size))
        clear hb2
        cases bb with
        | false =>
          go_wp2
          go_ret
          exact ⟨5, rfl, fun h => by omega, HR2.out⟩
        | true =>
          have HS2 := hid (HS.out rfl)
          clear HS
          go_wp2
          go_roundw
          case rel => exact ⟨k + 1, by omega, by go_num, HS2.out, HR2.out⟩
          case measure => simp [intOf]; omega
      · have hge : ¬ (k : Int) < (l.length : Int) := by omega
        have HT2 : Hid (NamsK l l.length) := hid (by have := HT.out; rwa [show k = l.length by omega] at this)
        clear HT
        go_wp2_with fail
        go_loopw [4] (fun i wr => ∃ k : Nat, 1 ≤ k ∧ (k ≤ l.length ∨ k = 1) ∧ i = .int .i64 (k : Int) ∧ Hid (Asc l k) ∧ Hid (Below W.heap.size W wr)) (fun i _ => l.length + 1 - (intOf i).toNat)
        case atStart => exact ⟨1, by omega, by omega, rfl, fun j hj => by omega, HR.out⟩
        case round =>
          clear hlt hge hk HR
          obtain ⟨k2, hk1, hk, rfl, HT, HR⟩ := hrel
          by_cases hlt : k2 < l.length
          · have hlt2 : (k2 : Int) < (l.length : Int) := by omega
            obtain ⟨j, hj⟩ : ∃ j, k2 = j + 1 := ⟨k2 - 1, by omega⟩
            have hjl : j < l.length := by omega
            obtain ⟨b, off, hA, c1⟩ := scells_at HA.out k2 hlt
            subst hA
            obtain ⟨b9, off9, h9, c2⟩ := scells_at HA.out j hjl
            cases h9
            have c1 := cellb HR.out c1
            have c2 := cellb HR.out c2
            have HS : Hid (Op.bytesLess (str (l[j]'hjl)).toList (str l[k2]).toList = true → Asc l (k2 + 1)) := hid (fun hle i hi hi2 => by
              subst hj
              rw [ByteArray.toList_eq, ByteArray.toList_eq] at hle
              by_cases hij : i = j
              · subst hij; simpa [str] using hle
              · exact HT.out i (by omega) hi2)
            have hsub : (k2 : Int) - 1 = (j : Int) := by omega
            have hlt3 : (j : Int) < (l.length : Int) := by omega
            generalize str (l[j]'hjl) = sy at c2 HS
            generalize str l[k2] = sx at c1 HS
            have HJ := hid hj
            clear HT hj
            have HLT := hid (less_total sx.toList sy.toList)
            cases hl1 : Op.bytesLess sx.toList sy.toList with
            | true =>
              clear HLT
              go_upto_region 11 with fail
              go_quiet (fail)
              go_wp2
              go_ret
              exact ⟨1, rfl, fun h => by omega, below_drewS HR.out _⟩
            | false =>
              cases hl2 : (sx.toList == sy.toList) with
              | true =>
                clear HLT
                go_upto_region 11 with fail
                go_quiet (fail)
                go_wp2
                go_ret
                exact ⟨1, rfl, fun h => by omega, below_drewS HR.out _⟩
              | false =>
                have HT3 := hid (HS.out (HLT.out hl1 hl2))
                clear HLT HS
                go_upto_region 11 with fail
                go_quiet (fail)
                go_wp2
                go_roundw
                case rel => exact ⟨k2 + 1, by omega, by omega, by go_num, HT3.out, below_drewS HR.out _⟩
                case measure => simp [intOf]; omega
          · have hge : ¬ (k2 : Int) < (l.length : Int) := by omega
            have HT3 : Hid (Asc l l.length) := hid (fun i hi hi2 => HT.out i (by omega) hi2)
            clear HT
            go_wp2
            go_ret
            exact ⟨0, rfl, fun _ => ⟨by omega, HT2.out, HT3.out⟩, HR.out⟩
end Go.Proofs.Ytdphdodjidbngaa
