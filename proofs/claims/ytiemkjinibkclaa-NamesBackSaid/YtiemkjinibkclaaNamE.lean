/- names.Tell, and the document's, as contracts. -/
import Derived.Test.YtiemkjinibkclaaNamC
import Derived.Test.YtiemkjinibkclaaKeep
namespace Go.Proofs.Ytiemkjinibkclaa
open Go.RowKit
set_option linter.unusedVariables false
set_option linter.unusedSimpArgs false

set_option maxRecDepth 20000 in
set_option maxHeartbeats 1000000 in
theorem rtell_any (A : Option Addr) (len cap : Nat) (l : List (List UInt8)) (s : Nat) (hs : s < 18446744073709551616) (W : World) (h : Sl W 1 A len cap (scells l)) (hl : l.length ≤ 100) :
    Calls Try.prog 15 #[.slice A len cap, .int .u64 s] W fun e w' => ∃ A' c', e = .returned (.slice A' (tellS l s).length c') ∧ w'.ownsRow W.heap.size 9 1 (.slice A' (tellS l s).length c') (tellS l s).length (scells (tellS l s)) ∧ Below W.heap.size W w' := by
  obtain rfl : len = l.length := by have := h.1; rw [scells_length] at this; omega
  have HA := hid h
  have HH := hid (fun k w => rhas_any s k w hs)
  clear h
  go_enter Try.func15, Try.ntmps15
  go_wp2
  go_loopw [5, 6] (fun v i wr => ∃ (k : Nat), k ≤ l.length ∧ i = .int .i64 (k : Int) ∧ Hid (wr.ownsRow W.heap.size 9 1 v (tellN l s k).length (scells (tellN l s k))) ∧ Hid (Below W.heap.size W wr)) (fun _ i _ => l.length - (intOf i).toNat)
  case atStart => exact ⟨0, by omega, rfl, World.ownsRow_nil _ _ _ _, Below.refl _ _⟩
  case round =>
    obtain ⟨k, hk, rfl, HO, HB⟩ := hrel
    by_cases hlt : k < l.length
    · have hlt2 : (k : Int) < (l.length : Int) := by omega
      obtain ⟨b, off, rfl, c1⟩ := scells_at HA.out k hlt
      have c1 := cellb HB.out c1
      have HC := hid (HH.out (k : Int) wr)
      have HY := hid (fun h => tellN_yes l s k hlt h)
      have HN := hid (fun h => tellN_no l s k h)
      have hz := tellN_len l s k
      generalize l[k] = x at c1 HY
      generalize tellN l s k = m1 at *
      generalize hasS s (k : Int) = bb at *
      cases bb with
      | true =>
        have HE := hid (HY.out rfl)
        clear HY HN
        go_wp2_with (first | (go_at_call 17; refine HC.out.mono ?_; rintro e w' ⟨rfl, rfl⟩) | (at_builtin; refine wpList_append_1 (W := W) rfl (.tmp 16) (.tmp 21) 22 rfl W.heap.size 9 Try.underlying22 info_str rfl (by omega) rfl HO.out rfl rfl (by simp; rfl) ?c1 ?c2 HB.out.size HB.out ?_))
        case c1 => unfold maxLen; omega
        case c2 => omega
        · intro v' w' h2 h3 h4
          have HO3 := hid h2; clear h2
          go_wp2
          go_roundw
          case rel => exact ⟨k + 1, by omega, by go_num, by rw [Hid, HE.out, List.length_append, scells_append]; exact HO3.out, h3⟩
          case measure => simp [intOf]; omega
      | false =>
        have HE := hid (HN.out rfl)
        clear HY HN
        go_wp2_with (go_at_call 17; refine HC.out.mono ?_; rintro e w' ⟨rfl, rfl⟩)
        go_roundw
        case rel => exact ⟨k + 1, by omega, by go_num, by rw [Hid, HE.out]; exact HO.out, HB.out⟩
        case measure => simp [intOf]; omega
    · have hge : ¬ (k : Int) < (l.length : Int) := by omega
      have HE : Hid (tellN l s k = tellS l s) := hid (by rw [show k = l.length by omega]; rfl)
      go_wp2
      go_ret
      have hO := HO.out
      rw [HE.out] at hO
      obtain ⟨A9, c9, rfl, _⟩ := Sl.of_own hO
      exact ⟨A9, c9, rfl, hO, HB.out⟩

theorem and_one (s k : Nat) (hs : s < 18446744073709551616) (hk : k < 64) : (bits .and .u64 ((s : Int) / 2 ^ k) 1 == 1) = hasS s (k : Int) := by
  have h1 : s / 2 ^ k ≤ s := Nat.div_le_self _ _
  rw [hasS_div s k hk, show (s : Int) / 2 ^ k = ((s / 2 ^ k : Nat) : Int) by simp, show (1 : Int) = ((1 : Nat) : Int) from rfl, u64_and_nat (s / 2 ^ k) 1 (by omega) (by omega), Nat.and_one_is_mod, Bool.eq_iff_iff]
  generalize s / 2 ^ k = y
  simp
  omega

set_option maxRecDepth 20000 in
set_option maxHeartbeats 1000000 in
theorem tell_any (A : Option Addr) (len cap : Nat) (l : List (List UInt8)) (s : Nat) (hs : s < 18446744073709551616) (W : World) (h : Sl W 1 A len cap (scells l)) (hl : l.length ≤ 100) :
    Calls Try.prog 14 #[.slice A len cap, .int .u64 s] W fun e w' => ∃ A' c', e = .returned (.slice A' (tellS l s).length c') ∧ w'.ownsRow W.heap.size 9 1 (.slice A' (tellS l s).length c') (tellS l s).length (scells (tellS l s)) ∧ Below W.heap.size W w' := by
  obtain rfl : len = l.length := by have := h.1; rw [scells_length] at this; omega
  have HA := hid h
  have hcl := h.2.1
  obtain ⟨m, hmm⟩ : ∃ m, m = min l.length 64 := ⟨_, rfl⟩
  have hm1 : m ≤ l.length := by omega
  have hm2 : m ≤ 64 := by omega
  have hmin : min (l.length : Int) 64 = (m : Int) := by omega
  have hrun := run_to Try.underlying22 info_str A l.length cap m (by omega)
  have HMM := hid hmm
  clear h hmm
  go_enter Try.func14, Try.ntmps14
  go_wp2
  go_loopw [5, 14] (fun v i wr => ∃ (k : Nat), k ≤ m ∧ i = .int .i64 (k : Int) ∧ Hid (wr.ownsRow W.heap.size 9 1 v (tellN l s k).length (scells (tellN l s k))) ∧ Hid (Below W.heap.size W wr)) (fun _ i _ => m - (intOf i).toNat)
  case atStart => exact ⟨0, by omega, rfl, World.ownsRow_nil _ _ _ _, Below.refl _ _⟩
  case round =>
    obtain ⟨k, hk, rfl, HO, HB⟩ := hrel
    by_cases hlt : k < m
    · have hlt2 : (k : Int) < (m : Int) := by omega
      obtain ⟨b, off, rfl, c1⟩ := scells_at HA.out k (by omega)
      have c1 := cellb HB.out c1
      have HY := hid (fun h => tellN_yes l s k (by omega) h)
      have HN := hid (fun h => tellN_no l s k h)
      have hz := tellN_len l s k
      have hk64 : k < 64 := by omega
      have hlow : (0 : Int) ≤ k := by omega
      have hand := and_one s k hs hk64
      generalize l[k] = x at c1 HY
      generalize tellN l s k = m1 at *
      generalize hasS s (k : Int) = bb at *
      cases bb with
      | true =>
        have HE := hid (HY.out rfl)
        clear HY HN
        go_wp2_with (at_builtin; refine wpList_append_1 (W := W) rfl (.tmp 24) (.tmp 26) 22 rfl W.heap.size 9 Try.underlying22 info_str rfl (by omega) rfl HO.out rfl rfl (by simp; rfl) ?c1 ?c2 HB.out.size HB.out ?_)
        case c1 => unfold maxLen; omega
        case c2 => omega
        · intro v' w' h2 h3 h4
          have HO3 := hid h2; clear h2
          go_wp2
          go_roundw
          case rel => exact ⟨k + 1, by omega, by go_num, by rw [Hid, HE.out, List.length_append, scells_append]; exact HO3.out, h3⟩
          case measure => simp [intOf]; omega
      | false =>
        have HE := hid (HN.out rfl)
        clear HY HN
        go_wp2
        go_roundw
        case rel => exact ⟨k + 1, by omega, by go_num, by rw [Hid, HE.out]; exact HO.out, HB.out⟩
        case measure => simp [intOf]; omega
    · have hge : ¬ (k : Int) < (m : Int) := by omega
      have HE : Hid (tellN l s k = tellS l s) := hid (by rw [show k = m by omega, HMM.out, tellS_min])
      go_wp2
      go_ret
      have hO := HO.out
      rw [HE.out] at hO
      obtain ⟨A9, c9, rfl, _⟩ := Sl.of_own hO
      exact ⟨A9, c9, rfl, hO, HB.out⟩
end Go.Proofs.Ytiemkjinibkclaa
