/- Flock: the set of all below; List of the document. -/
import Derived.Test.YtgakobolhmdnnaaGreatNeP
namespace Go.Proofs.YtgakobolhmdnnaaGreat
open Go.RowKit
set_option linter.unusedVariables false
set_option linter.unusedSimpArgs false

theorem below_any (k : Int) (w : World) : Calls Tryz.prog 80 #[.int .i64 k] w fun e w' => e = .returned (.int .u64 (belowS k : Nat)) ∧ w = w' := by
  by_cases h0 : k ≤ 0
  · have hb : Hid (belowS k = 0) := hid (by unfold belowS; rw [if_pos h0])
    go_enter Tryz.func80, Tryz.ntmps80
    go_wp2
    go_ret
    exact ⟨by rw [hb.out]; rfl, rfl⟩
  · by_cases h1 : 64 ≤ k
    · have hb : Hid (belowS k = 18446744073709551615) := hid (by unfold belowS; rw [if_neg h0, if_pos h1])
      go_enter Tryz.func80, Tryz.ntmps80
      go_wp2
      go_ret
      exact ⟨by rw [hb.out]; rfl, rfl⟩
    · obtain ⟨n, rfl⟩ := Int.eq_ofNat_of_zero_le (show 0 ≤ k by omega)
      have hb : Hid (belowS (n : Int) = 2 ^ n - 1) := hid (by unfold belowS; rw [if_neg h0, if_neg h1]; simp)
      have hn : n < 64 := by omega
      go_enter Tryz.func80, Tryz.ntmps80
      go_wp2
      go_ret
      refine ⟨ret_u64 ?_, rfl⟩
      rw [hb.out, wrap_pow n hn]
      have h2 := two_pow_lt64 hn
      have h3 := Nat.two_pow_pos n
      generalize 2 ^ n = x at h2 h3 ⊢
      rw [wrap_u64_in _ (by omega) (by omega)]
      omega
theorem elemsU_len (s : Nat) : ∀ n, (elemsU s n).length ≤ n
  | 0 => by simp [elemsU]
  | n + 1 => by
    have := elemsU_len s n
    unfold elemsU
    rw [List.length_append]
    split <;> simp <;> omega
theorem elemsU_yes {s n : Nat} (h : s.testBit n = true) : elemsU s (n + 1) = elemsU s n ++ [(n : Int)] := by rw [elemsU, if_pos h]
theorem elemsU_no {s n : Nat} (h : s.testBit n = false) : elemsU s (n + 1) = elemsU s n := by rw [elemsU, if_neg (by simp [h])]; simp
theorem hasS_nat (s n : Nat) (h : n < 64) : hasS s (n : Int) = s.testBit n := by unfold hasS; rw [decide_eq_true (by omega)]; simp
set_option maxHeartbeats 1000000 in
theorem rlist_any (s : Nat) (W : World) (hs : s < 18446744073709551616) :
    Calls Tryz.prog 32 #[.int .u64 s] W fun e w' => ∃ v, e = .returned v ∧ Below W.heap.size W w' ∧ w'.ownsRow W.heap.size 3 1 v (elems s).length (icells .i64 (elems s)) := by
  have HH := hid (fun k w => rhas_any s k w hs)
  clear hs
  go_enter Tryz.func32, Tryz.ntmps32
  go_wp2
  go_loopw [3, 4] (fun v i wr => ∃ k : Nat, k ≤ 64 ∧ i = .int .i64 (k : Int) ∧ Hid (wr.ownsRow W.heap.size 3 1 v (elemsU s k).length (icells .i64 (elemsU s k))) ∧ Hid (Below W.heap.size W wr)) (fun _ i _ => 64 - (intOf i).toNat)
  case atStart => exact ⟨0, by omega, rfl, World.ownsRow_nil _ _ _ _, Below.refl _ _⟩
  case round =>
    obtain ⟨k, hk, rfl, HO, HB⟩ := hrel
    by_cases hlt : k < 64
    · have hlt2 : (k : Int) < 64 := by omega
      have H1 := hid (HH.out (k : Int))
      rw [hasS_nat s k hlt] at H1
      have hl := elemsU_len s k
      by_cases hm : s.testBit k = true
      · rw [hm] at H1
        have H2 := hid (elemsU_yes hm)
        clear hm
        go_wp2_with (first
          | (go_at_call 49; refine (H1.out _).mono ?_; rintro e w' ⟨rfl, rfl⟩)
          | (at_builtin; refine wpList_append_1 (W := W) rfl (.tmp 12) (.tmp 14) 26 rfl W.heap.size 3 Tryz.underlying26 info_int rfl (by omega) rfl HO.out rfl rfl (by simp; rfl) ?c1 ?c2 HB.out.size HB.out ?_))
        case c1 => unfold maxLen; omega
        case c2 => omega
        · intro v' w' h2 h3 h4
          have HO2 := hid h2; clear h2
          go_wp2
          go_roundw
          case rel => exact ⟨k + 1, by omega, by go_num, by rw [Hid, H2.out, icells_append, List.length_append]; exact HO2.out, h3⟩
          case measure => simp [intOf]; omega
      · have hm' : s.testBit k = false := by simpa using hm
        rw [hm'] at H1
        have H2 := hid (elemsU_no hm')
        clear hm hm'
        go_wp2_with (go_at_call 49; refine (H1.out _).mono ?_; rintro e w' ⟨rfl, rfl⟩)
        go_roundw
        case rel => exact ⟨k + 1, by omega, by go_num, by rw [H2.out]; exact HO, HB.out⟩
        case measure => simp [intOf]; omega
    · have hge : (64 : Int) ≤ k := by omega
      obtain rfl : k = 64 := by omega
      rw [← elems_def] at HO
      go_wp2
      go_ret
      exact ⟨_, rfl, HB.out, HO.out⟩
end Go.Proofs.YtgakobolhmdnnaaGreat
