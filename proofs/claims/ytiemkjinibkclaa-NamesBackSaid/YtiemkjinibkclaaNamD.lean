/- names.Set, and the document's, as contracts. -/
import Derived.Test.YtiemkjinibkclaaNamC
namespace Go.Proofs.Ytiemkjinibkclaa
open Go.RowKit
set_option linter.unusedVariables false
set_option linter.unusedSimpArgs false

theorem withS_eq (s n : Nat) (h : n < 64) : withS s (n : Int) = s ||| 2 ^ n := by
  unfold withS bitN
  rw [if_pos (by omega)]
  simp
theorem okN_yes {l : List (List UInt8)} {x : List UInt8} (h0 : 0 ≤ placeJ l x) (h1 : placeJ l x < 64) : okN l x = true := by unfold okN; simp [h0, h1]
theorem okN_low {l : List (List UInt8)} {x : List UInt8} (h0 : placeJ l x < 0) : okN l x = false := by unfold okN; rw [decide_eq_false (by omega)]; rfl
theorem okN_high {l : List (List UInt8)} {x : List UInt8} (h0 : 64 ≤ placeJ l x) : okN l x = false := by unfold okN; rw [Bool.and_eq_false_iff]; right; rw [decide_eq_false (by omega)]

set_option maxRecDepth 20000 in
set_option maxHeartbeats 1000000 in
theorem set_any (A B : Option Addr) (len cap len2 cap2 : Nat) (l ns : List (List UInt8)) (W : World) (h : Sl W 1 A len cap (scells l)) (h2 : Sl W 1 B len2 cap2 (scells ns)) :
    Calls Try.prog 11 #[.slice A len cap, .slice B len2 cap2] W fun e w' => e = .returned (.tuple #[.int .u64 ((setOut l ns).1 : Nat), .int .i64 (setOut l ns).2.1, .int .i64 (setOut l ns).2.2]) ∧ Below W.heap.size W w' := by
  obtain rfl : len2 = ns.length := by have := h2.1; rw [scells_length] at this; omega
  have HB := hid h2
  have HP := hid (fun w (hw : Below W.heap.size W w) y => place_any A len cap l y w (h.below hw))
  have hm : ns.length ≤ 9223372036854775807 := by have h1 := h2.2.1; have h3 := h2.2.2.1; unfold maxLen at h3; omega
  have HY := hid (fun k (hk : k < ns.length) h hy => setOut_bad (l := l) hk h hy)
  have HN := hid (fun h => setOut_end (l := l) (ns := ns) h)
  clear h h2
  generalize setOut l ns = so at *
  go_enter Try.func11, Try.ntmps11
  go_wp2
  go_loopw [7, 13] (fun x i wr => ∃ k s : Nat, k ≤ ns.length ∧ i = .int .i64 (k : Int) ∧ x = .int .u64 (s : Int) ∧ Hid (s = setS l (ns.take k)) ∧ Hid (∀ j (hj : j < ns.length), j < k → okN l ns[j] = true) ∧ Hid (Below W.heap.size W wr)) (fun _ i _ => ns.length - (intOf i).toNat)
  case atStart => exact ⟨0, 0, by omega, rfl, rfl, (setS_zero l ns).symm, fun j hj h => absurd h (by omega), Below.refl _ _⟩
  case round =>
    obtain ⟨k, s, hk, rfl, rfl, HM, HT, HR⟩ := hrel
    by_cases hlt : k < ns.length
    · have hlt2 : (k : Int) < (ns.length : Int) := by omega
      obtain ⟨b, off, hB, c1⟩ := scells_at HB.out k hlt
      subst hB
      have c1 := cellb HR.out c1
      have HC := hid (HP.out wr HR.out ns[k])
      have HY2 := hid (HY.out k hlt HT.out)
      have HS2 := hid (setS_next l ns k hlt)
      have hr := placeJ_range l ns[k]
      have HL := hid (@okN_low l ns[k])
      have HH := hid (@okN_high l ns[k])
      have HO := hid (@okN_yes l ns[k])
      generalize str ns[k] = sx at c1 HC
      generalize hp : placeJ l ns[k] = p at HC HS2 hr HL HH HO
      have HPP := hid hp
      clear hp
      have hr1 := hr.1
      clear hr
      go_wp2_with fail
      refine HC.out.mono ?_
      rintro e w2 ⟨rfl, hb2⟩
      have HR2 := hid (HR.out.trans (hb2.mono HR.out.size))
      clear HC c1 hb2
      by_cases hneg : p < 0
      · have HE := hid (HY2.out (HL.out hneg))
        go_wp2
        go_ret3
        exact ⟨by rw [HE.out]; rfl, HR2.out⟩
      · by_cases hbig : 64 ≤ p
        · have HE := hid (HY2.out (HH.out hbig))
          go_wp2
          go_ret3
          exact ⟨by rw [HE.out]; rfl, HR2.out⟩
        · have HOK := hid (HO.out (by omega) (by omega))
          obtain ⟨n, rfl⟩ := Int.eq_ofNat_of_zero_le (show 0 ≤ p by omega)
          have hn : n < 64 := by omega
          have HT2 : Hid (∀ j (hj : j < ns.length), j < k + 1 → okN l ns[j] = true) := hid (fun j hj hjk => by
            by_cases hjk2 : j < k
            · exact HT.out j hj hjk2
            · obtain rfl : j = k := by omega
              exact HOK.out)
          go_wp2
          go_roundw
          case rel =>
            refine ⟨k + 1, s ||| 2 ^ n, by omega, by go_num, ?_, by rw [Hid, HS2.out, ← HM.out, withS_eq _ _ hn], HT2.out, HR2.out⟩
            congr 1
            rw [wrap_pow n hn]
            exact u64_or_nat s (2 ^ n) (by rw [HM.out]; exact setS_lt _ _) (two_pow_lt64 hn)
          case measure => simp [intOf]; omega
    · have hge : ¬ (k : Int) < (ns.length : Int) := by omega
      have HE := hid (HN.out fun j hj => HT.out j hj (by omega))
      have HM2 : Hid (s = setS l ns) := hid (by rw [HM.out, List.take_of_length_le (by omega)])
      go_wp2
      go_ret3
      exact ⟨by rw [HE.out, HM2.out]; rfl, HR.out⟩

set_option maxRecDepth 20000 in
set_option maxHeartbeats 1000000 in
theorem rset_any (A B : Option Addr) (len cap len2 cap2 : Nat) (l ns : List (List UInt8)) (W : World) (h : Sl W 1 A len cap (scells l)) (h2 : Sl W 1 B len2 cap2 (scells ns)) :
    Calls Try.prog 12 #[.slice A len cap, .slice B len2 cap2] W fun e w' => e = .returned (.tuple #[.int .u64 ((setOut l ns).1 : Nat), .int .i64 (setOut l ns).2.1, .int .i64 (setOut l ns).2.2]) ∧ W = w' := by
  obtain rfl : len2 = ns.length := by have := h2.1; rw [scells_length] at this; omega
  have HB := hid h2
  have HP := hid (fun y => rplace_any A len cap l y W h)
  have hm : ns.length ≤ 9223372036854775807 := by have h1 := h2.2.1; have h3 := h2.2.2.1; unfold maxLen at h3; omega
  have HY := hid (fun k (hk : k < ns.length) h hy => setOut_bad (l := l) hk h hy)
  have HN := hid (fun h => setOut_end (l := l) (ns := ns) h)
  clear h h2
  generalize setOut l ns = so at *
  go_enter Try.func12, Try.ntmps12
  go_wp2
  go_loop [7, 8] (fun x i => ∃ k s : Nat, k ≤ ns.length ∧ i = .int .i64 (k : Int) ∧ x = .int .u64 (s : Int) ∧ Hid (s = setS l (ns.take k)) ∧ Hid (∀ j (hj : j < ns.length), j < k → okN l ns[j] = true)) (fun _ i => ns.length - (intOf i).toNat)
  case atStart => exact ⟨0, 0, by omega, rfl, rfl, (setS_zero l ns).symm, fun j hj h => absurd h (by omega)⟩
  case round =>
    obtain ⟨k, s, hk, rfl, rfl, HM, HT⟩ := hrel
    by_cases hlt : k < ns.length
    · have hlt2 : (k : Int) < (ns.length : Int) := by omega
      obtain ⟨b, off, hB, c1⟩ := scells_at HB.out k hlt
      subst hB
      have HC := hid (HP.out ns[k])
      have HY2 := hid (HY.out k hlt HT.out)
      have HS2 := hid (setS_next l ns k hlt)
      have hr := placeJ_range l ns[k]
      have HL := hid (@okN_low l ns[k])
      have HH := hid (@okN_high l ns[k])
      have HO := hid (@okN_yes l ns[k])
      generalize str ns[k] = sx at c1 HC
      generalize hp : placeJ l ns[k] = p at HC HS2 hr HL HH HO
      have HPP := hid hp
      clear hp
      have hr1 := hr.1
      clear hr
      go_wp2_with fail
      refine HC.out.mono ?_
      rintro e w2 ⟨rfl, rfl⟩
      clear HC c1
      by_cases hneg : p < 0
      · have HE := hid (HY2.out (HL.out hneg))
        go_wp2
        go_ret3
        exact ⟨by rw [HE.out]; rfl, rfl⟩
      · by_cases hbig : 64 ≤ p
        · have HE := hid (HY2.out (HH.out hbig))
          have hbig2 : 63 < p := by omega
          go_wp2
          go_ret3
          exact ⟨by rw [HE.out]; rfl, rfl⟩
        · have HOK := hid (HO.out (by omega) (by omega))
          obtain ⟨n, rfl⟩ := Int.eq_ofNat_of_zero_le (show 0 ≤ p by omega)
          have hn : n < 64 := by omega
          have hn2 : ¬ (63 : Int) < (n : Int) := by omega
          have hs : s < 18446744073709551616 := by rw [HM.out]; exact setS_lt _ _
          have HT2 : Hid (∀ j (hj : j < ns.length), j < k + 1 → okN l ns[j] = true) := hid (fun j hj hjk => by
            by_cases hjk2 : j < k
            · exact HT.out j hj hjk2
            · obtain rfl : j = k := by omega
              exact HOK.out)
          have HHAS := hid (rhas_any s (n : Int) W hs)
          have HBIT := hid (rbit_any n W hn)
          have HDV := hid (withS_eq s n hn)
          have HWL : Hid (s ||| 2 ^ n < 18446744073709551616) := hid (Nat.or_lt_two_pow (n := 64) hs (two_pow_lt64 hn))
          have HAD := hid (with_add s n)
          have HHS : Hid (hasS s (n : Int) = s.testBit n) := hid (by unfold hasS; rw [decide_eq_true (by omega), Bool.true_and, Int.toNat_natCast])
          rw [HHS.out] at HHAS
          cases hb : s.testBit n with
          | true =>
            have HS3 : Hid (s ||| 2 ^ n = s) := hid (by
              apply Nat.eq_of_testBit_eq
              intro i
              rw [Nat.testBit_or, Nat.testBit_two_pow]
              by_cases hi : n = i
              · subst hi; simp [hb]
              · simp [hi])
            rw [hb] at HHAS
            clear hb
            go_wp2_with (go_at_call 17; refine HHAS.out.mono ?_; rintro e w' ⟨rfl, rfl⟩)
            go_round
            case rel => exact ⟨k + 1, s, by omega, by go_num, rfl, by rw [Hid, HS2.out, ← HM.out, HDV.out, HS3.out], HT2.out⟩
            case measure => simp [intOf]; omega
          | false =>
            have HS3 := hid (HAD.out hb)
            rw [hb] at HHAS
            clear hb
            have hsum : s + p2 n < 18446744073709551616 := by have := HWL.out; rw [HS3.out] at this; exact this
            have HP2 : Hid (p2 n = 2 ^ n) := hid rfl
            generalize p2 n = m at *
            go_wp2_with (first | (go_at_call 17; refine HHAS.out.mono ?_; rintro e w' ⟨rfl, rfl⟩) | (go_at_call 46; refine HBIT.out.mono ?_; rintro e w' ⟨rfl, rfl⟩))
            go_round
            case rel =>
              refine ⟨k + 1, s + m, by omega, by go_num, ?_, by rw [Hid, HS2.out, ← HM.out, HDV.out, HS3.out, HP2.out], HT2.out⟩
              rw [show ((s + m : Nat) : Int) = (s : Int) + (m : Int) by omega]
            case measure => simp [intOf]; omega
    · have hge : ¬ (k : Int) < (ns.length : Int) := by omega
      have HE := hid (HN.out fun j hj => HT.out j hj (by omega))
      have HM2 : Hid (s = setS l ns) := hid (by rw [HM.out, List.take_of_length_le (by omega)])
      go_wp2
      go_ret3
      exact ⟨by rw [HE.out, HM2.out]; rfl, rfl⟩
end Go.Proofs.Ytiemkjinibkclaa
