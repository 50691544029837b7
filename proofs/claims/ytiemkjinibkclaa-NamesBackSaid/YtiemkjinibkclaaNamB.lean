/- NamesBack. -/
import Derived.Test.YtiemkjinibkclaaNamL
import Derived.Test.YtiemkjinibkclaaNamN
namespace Go.Proofs.Ytiemkjinibkclaa
open Go.RowKit
set_option linter.unusedVariables false
set_option linter.unusedSimpArgs false

set_option maxRecDepth 20000 in
set_option maxHeartbeats 4000000 in
theorem namesBack_law (A : Option Addr) (len cap : Nat) (z : List ByteArray) (s : Int) (W : World) (h : IsTexts W A len cap z) (hs : (Lit.int .u64 s).wf = true) :
    Calls Try.prog 4 #[.slice A len cap, .int .u64 s] W fun e w' => e = .returned (.bool true) ∧ Below W.heap.size W w' := by
  obtain ⟨l, hA, rfl, hw⟩ := Sl.of_texts h
  obtain ⟨n, rfl, hsn⟩ := wf_u64n hs
  have HSL := hid hA
  have HC := hid (check_any A l.length cap l W hA)
  clear hA hw h hs z
  go_enter Try.func4, Try.ntmps4
  go_wp2_with fail
  refine HC.out.mono ?_
  rintro e w1 ⟨c, rfl, HASC, hb1⟩
  have HB1 := hid hb1
  clear hb1 HC
  by_cases hc : c = 0
  · subst hc
    obtain ⟨hasc, h16⟩ := HASC.out rfl
    have HON := hid hasc.once
    have HT := hid (tell_any A l.length cap l n hsn w1 (HSL.out.below HB1.out) (by omega))
    have htl : (tellS l n).length ≤ 16 := Nat.le_trans (tellN_len l n _) h16
    obtain ⟨t1, t2⟩ := hasc.once.told h16 n
    have HBITS := hid t2
    have HX := hid (setS_lt l (tellS l n))
    clear hasc HASC t2
    go_wp2_with fail
    refine HT.out.mono ?_
    rintro e w2 ⟨A2, c2, rfl, ho2, hb2⟩
    have HB2 := hid (HB1.out.trans (hb2.mono HB1.out.size))
    have HST := hid (set_any A A2 l.length cap (tellS l n).length c2 l (tellS l n) w2 (HSL.out.below HB2.out) (sl_own ho2))
    rw [t1] at HST
    clear t1 ho2 hb2 HT HB1
    generalize setS l (tellS l n) = x at *
    generalize (tellS l n).length = tl at *
    go_wp2_with fail
    refine HST.out.mono ?_
    rintro e w3 ⟨rfl, hb3⟩
    have HB3 := hid (HB2.out.trans (hb3.mono HB2.out.size))
    clear hb3 HST HB2
    have h16' : ¬ (16 : Int) < (l.length : Int) := by omega
    have HRH := hid (fun k w => rhas_any x k w HX.out)
    have HRN := hid (fun k w => rhas_any n k w hsn)
    go_wp2
    go_loopw [8] (fun i wr => ∃ k : Nat, k ≤ 64 ∧ i = .int .i64 (k : Int) ∧ Hid (Below W.heap.size W wr)) (fun i _ => 64 - (intOf i).toNat)
    case atStart => exact ⟨0, by omega, rfl, HB3.out⟩
    case round =>
      obtain ⟨k, hk, rfl, HR⟩ := hrel
      by_cases hlt : k < 64
      · have hlt2 : (k : Int) < 64 := by omega
        have HA := hid (HRH.out (k : Int) wr)
        have HN := hid (HRN.out (k : Int) wr)
        have hbk := HBITS.out k hlt
        rw [hbk] at HA
        clear hbk
        by_cases hin : k < l.length
        · have hin2 : (k : Int) < (l.length : Int) := by omega
          obtain ⟨b, off, hAA, c1⟩ := scells_at HSL.out k hin
          subst hAA
          have c1 := cellb HR.out c1
          have HP := hid (place_any _ l.length cap l l[k] wr (HSL.out.below HR.out))
          rw [HON.out k hin] at HP
          rw [decide_eq_true hin, Bool.and_true] at HA
          generalize str l[k] = sx at c1 HP
          generalize hasS n (k : Int) = bb at *
          cases bb
          all_goals
            go_wp2_with fail
            refine HA.out.mono ?_
            rintro e w4 ⟨rfl, rfl⟩
            go_wp2_with fail
            refine HN.out.mono ?_
            rintro e w4 ⟨rfl, rfl⟩
            go_wp2_with fail
            refine HP.out.mono ?_
            rintro e w5 ⟨rfl, hb5⟩
            have HR5 := hid (HR.out.trans (hb5.mono HR.out.size))
            clear hb5 HA HN HP
            go_wp2
            go_roundw
            case rel => exact ⟨k + 1, by omega, by go_num, HR5.out⟩
            case measure => simp [intOf]; omega
        · have hin2 : ¬ (k : Int) < (l.length : Int) := by omega
          rw [decide_eq_false hin, Bool.and_false] at HA
          generalize hasS n (k : Int) = bb at *
          cases bb
          all_goals
            go_wp2_with fail
            refine HA.out.mono ?_
            rintro e w4 ⟨rfl, rfl⟩
            go_wp2_with fail
            refine HN.out.mono ?_
            rintro e w4 ⟨rfl, rfl⟩
            clear HA HN
            go_wp2
            go_roundw
            case rel => exact ⟨k + 1, by omega, by go_num, HR.out⟩
            case measure => simp [intOf]; omega
      · have hge : ¬ (k : Int) < 64 := by omega
        go_wp2_with fail
        refine (works05_any _).mono ?_
        rintro e w5 ⟨rfl, hb5⟩
        go_wp2
        go_ret
        exact ⟨rfl, HR.out.trans (hb5.mono HR.out.size)⟩
  · have hne : (c != 0) = true := by simpa using hc
    clear HASC HSL
    go_wp2_with fail
    refine (works05_any _).mono ?_
    rintro e w5 ⟨rfl, hb5⟩
    go_wp2
    go_ret
    exact ⟨rfl, HB1.out.trans (hb5.mono HB1.out.size)⟩
end Go.Proofs.Ytiemkjinibkclaa
