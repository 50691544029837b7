/- frame.Cut, as a contract. -/
import Derived.Test.YtkepfkfoblocgaaFrmC
import Derived.Lib.MinMax
namespace Go.Proofs.Ytkepfkfoblocgaa
open Go.RowKit
set_option linter.unusedVariables false
set_option linter.unusedSimpArgs false

/-- The frame with which bytes begin. -/
def cutS (l : List UInt8) : List UInt8 × Nat × Nat :=
  if (firstN 4096 (l.take 8)).2.2 = 0 then
    (if l.length < (firstN 4096 (l.take 8)).2.1 + (firstN 4096 (l.take 8)).1 + 4 then ([], 0, 2)
     else if (l.take ((firstN 4096 (l.take 8)).2.1 + (firstN 4096 (l.take 8)).1 + 4)).drop ((firstN 4096 (l.take 8)).2.1 + (firstN 4096 (l.take 8)).1) = fourL (moreN 0 (l.take ((firstN 4096 (l.take 8)).2.1 + (firstN 4096 (l.take 8)).1))) then ((l.take ((firstN 4096 (l.take 8)).2.1 + (firstN 4096 (l.take 8)).1)).drop (firstN 4096 (l.take 8)).2.1, (firstN 4096 (l.take 8)).2.1 + (firstN 4096 (l.take 8)).1 + 4, 0)
     else ([], 0, 16))
  else ([], 0, (firstN 4096 (l.take 8)).2.2)

theorem convS3 {w : World} {a : Option Addr} {n cap : Nat} {l : List UInt8} (h : IsBytes w a n cap l) : (convert 24 9 (.slice a n cap)).run Try.prog w = .ok (.string (str l)) w :=
  conv_str (P := Try.prog) (src := 24) (dst := 9) Try.underlying24 Try.underlying5 Try.underlying9 h

set_option maxRecDepth 20000 in
set_option maxHeartbeats 2000000 in
theorem cut_any (a : Option Addr) (len cap : Nat) (l : List UInt8) (W : World) (hb : IsBytes W a len cap l) (hl : l.length ≤ 100000) :
    Calls Try.prog 107 #[.slice a len cap] W fun x w' => x = .returned (.tuple #[.string (str (cutS l).1), .int .i64 ((cutS l).2.1 : Nat), .int .i64 ((cutS l).2.2 : Nat)]) ∧ Below W.heap.size W w' := by
  obtain ⟨rfl, hlc, hcm⟩ := hb.len
  have HM := hid hb
  have hh : (l.take 8).length = min l.length 8 := by rw [List.length_take]; omega
  have hc9 : cap ≤ 9223372036854775807 := by unfold maxLen at hcm; omega
  have hlc' : (l.length : Int) ≤ (cap : Int) := by omega
  have HH := hid (hb.take (min l.length 8) (by omega))
  have htk : l.take (min l.length 8) = l.take 8 := by
    rcases Nat.le_total l.length 8 with h | h
    · rw [Nat.min_eq_left h, List.take_of_length_le (Nat.le_refl _), List.take_of_length_le h]
    · rw [Nat.min_eq_right h]
  rw [htk] at HH
  have HN := hid (new_any a (min l.length 8) cap (l.take 8) W HH.out (by omega))
  clear hb htk HH
  have hmn : (min (l.length : Int) 8).toNat = min l.length 8 := by omega
  have HMN := hid hmn
  have hFU := firstN_used 4096 (l.take 8)
  have hFE := firstN_err 4096 (l.take 8)
  have HR : Hid (rdNum 4096 (l.take 8) 0 = if (firstN 4096 (l.take 8)).2.2 = 0 then ((firstN 4096 (l.take 8)).1, (l.take 8).drop (firstN 4096 (l.take 8)).2.1, (0 : Int)) else (0, l.take 8, (((firstN 4096 (l.take 8)).2.2 : Nat) : Int))) := hid rfl
  have HV : Hid (cutS l = cutS l) := hid rfl
  conv at HV => arg 1; rhs; unfold cutS
  rw [hh] at hFU
  generalize firstN 4096 (l.take 8) = f at *
  obtain ⟨n, u, x⟩ := f
  simp only at hFU hFE HR HV
  generalize hcv : cutS l = cv at *
  clear hcv
  obtain ⟨p, q, x2⟩ := cv
  have hhl : min l.length 8 ≤ l.length ∧ min l.length 8 ≤ 8 := by omega
  clear hmn
  go_enter Try.func107, Try.ntmps107
  go_wp2_with fail
  rw [HMN.out]
  clear HMN
  generalize min l.length 8 = h at *
  refine HN.out.mono ?_
  rintro e w1 ⟨B, rfl, hB, hR1, hb1⟩
  have HC := hid (rdNum_any B (l.take 8) 0 4096 w1 hR1)
  have HB1 := hid hb1
  clear hR1 hb1 HN
  go_wp2_with fail
  refine HC.out.mono ?_
  rintro e w2 ⟨rfl, hR2, hO2⟩
  have HB2 := hid (HB1.out.trans (hO2.below W.heap.size hB HB1.out.size))
  clear HC HB1 hO2
  rw [HR.out] at hR2 ⊢
  clear HR
  by_cases hx : x = 0
  · subst hx
    rw [if_pos rfl] at hR2 ⊢ HV
    obtain ⟨u1, u2, n1, n2⟩ := hFU rfl
    have HE := hid (fun w (hw : w2 = w) => rdErr_any B _ 0 w (hw ▸ hR2))
    have HL := hid (fun w (hw : w2 = w) => rdLeft_any B _ 0 w (hw ▸ hR2))
    rw [List.length_drop, hh] at HL
    clear hR2 hFU hh hB
    go_upto_region 8 with (first
      | (go_at_call 126; refine (HE.out _ rfl).mono ?_; rintro e w' ⟨rfl, rfl⟩)
      | (go_at_call 128; refine (HL.out _ rfl).mono ?_; rintro e w' ⟨rfl, rfl⟩))
    rw [show (h : Int) - ((h - u : Nat) : Int) = (u : Int) by omega]
    have n3 : (n : Int) ≤ 4096 := by omega
    have u3 : (u : Int) ≤ 8 := by omega
    clear HE HL
    go_upto_region 9 with (fail)
    obtain ⟨k, hk⟩ : ∃ k, u + n = k := ⟨_, rfl⟩
    obtain ⟨m, hm⟩ : ∃ m, k + 4 = m := ⟨_, rfl⟩
    rw [show (u : Int) + (n : Int) + 4 = (m : Int) by omega]
    rw [hk] at HV
    rw [hm] at HV
    have hm2 : (m : Int) ≤ 100000 := by omega
    by_cases hlm : l.length < m
    · have hlm' : (l.length : Int) < (m : Int) := by omega
      have hd : decide ((l.length : Int) < (m : Int)) = true := decide_eq_true hlm'
      rw [if_pos hlm] at HV
      obtain ⟨rfl, rfl, rfl⟩ : p = [] ∧ q = 0 ∧ x2 = 2 := by have := HV.out; simp at this; exact this
      clear HV hk hm hlm
      go_wp2_with fail
      go_ret3
      exact ⟨rfl, HB2.out⟩
    · have hlm' : (m : Int) ≤ (l.length : Int) := by omega
      have hd : decide ((l.length : Int) < (m : Int)) = false := decide_eq_false (by omega)
      rw [if_neg hlm] at HV
      have hM2 := (HM.out.take m (by omega)).below (show Below W.heap.size W w2 from HB2.out)
      have hmc : (m : Int) ≤ (cap : Int) := by omega
      have hlt : (l.take m).length = m := by rw [List.length_take]; omega
      have htk : (l.take m).take k = l.take k := by rw [List.take_take, Nat.min_eq_left (by omega)]
      by_cases hop : (l.take m).drop k = fourL (moreN 0 (l.take k))
      · rw [if_pos hop] at HV
        have HO := hid (open_good a m cap (l.take m) k w2 hM2 (by omega) (by omega) (by rw [htk]; exact hop))
        rw [htk] at HO
        obtain ⟨rfl, rfl, rfl⟩ : p = (l.take k).drop u ∧ q = m ∧ x2 = 0 := by have := HV.out; simp at this; exact this
        have HK := hid (And.intro hk (And.intro hm (And.intro u1 (And.intro u2 hlm))))
        have hkl : (l.take k).length = k := by rw [List.length_take]; omega
        have HKL := hid hkl
        clear HV hk hm hlm hop hlt htk hM2 hkl
        go_wp2_with fail
        refine HO.out.mono ?_
        rintro e w3 ⟨v, rfl, ho, hb3⟩
        obtain ⟨A, c, rfl, hs⟩ := own_bytes ho
        have hs' := hs
        rw [HKL.out] at hs'
        have hkc : k ≤ c := hs'.len.2.1
        have hcm : c ≤ 9223372036854775807 := by have := hs'.len.2.2; unfold maxLen at this; omega
        rw [HKL.out]
        obtain ⟨b, off, rfl, _⟩ := hs.2.2.2 (by rw [bcells_length, HKL.out]; have := HK.out; omega)
        have huk : u ≤ k := by have := HK.out; omega
        have huk' : (u : Int) ≤ (k : Int) := by omega
        have hkc' : (k : Int) ≤ (c : Int) := by omega
        have hsd := isBytes_drop hs u (by rw [HKL.out]; exact huk) rfl
        have hcv := convS3 hsd
        rw [List.length_drop, HKL.out] at hcv
        have HB3 := hid (HB2.out.trans (hb3.mono HB2.out.size))
        clear ho hs hs' hsd hb3 HO HKL
        by_cases hcu : c ≤ u
        · have hnil : (l.take k).drop u = [] := by
            apply List.drop_eq_nil_of_le
            have := List.length_take_le k l
            omega
          have hcv2 : ∀ w : World, (convert 24 9 (.slice (some ⟨b, off, none⟩) (k - u) 0)).run Try.prog w = .ok (.string (str ((l.take k).drop u))) w := fun w => by
            rw [hnil, show k - u = 0 by omega]
            exact convS3 (isBytes_nil w _ 0 (Nat.zero_le _))
          clear hnil
          generalize hr : str ((l.take k).drop u) = r at *
          have HRR := hid hr
          clear hr
          go_wp2
          all_goals go_ret3
          all_goals obtain rfl := HRR.out
          all_goals exact ⟨rfl, HB3.out⟩
        · have hcu' : (u : Int) < (c : Int) := by omega
          generalize hr : str ((l.take k).drop u) = r at *
          have HRR := hid hr
          clear hr
          go_wp2
          all_goals go_ret3
          all_goals obtain rfl := HRR.out
          all_goals exact ⟨rfl, HB3.out⟩
      · rw [if_neg hop] at HV
        have HO := hid (open_bad a m cap (l.take m) w2 hM2 (by omega) (by
          intro n' hn' hd'
          obtain rfl : n' = k := by omega
          rw [htk] at hd'
          exact hop hd'))
        obtain ⟨rfl, rfl, rfl⟩ : p = [] ∧ q = 0 ∧ x2 = 16 := by have := HV.out; simp at this; exact this
        clear HV hk hm hlm hop hlt htk hM2
        go_wp2_with fail
        refine HO.out.mono ?_
        rintro e w3 ⟨rfl, hb3⟩
        have HB3 := hid (HB2.out.trans (hb3.mono HB2.out.size))
        clear hb3 HO
        go_wp2
        go_ret3
        exact ⟨rfl, HB3.out⟩
  · rw [if_neg hx] at hR2 ⊢ HV
    have HE := hid (fun w (hw : w2 = w) => rdErr_any B _ (x : Nat) w (hw ▸ hR2))
    have hne : (((x : Nat) : Int) != 0) = true := by simp; omega
    obtain ⟨rfl, rfl, rfl⟩ : p = [] ∧ q = 0 ∧ x2 = x := by have := HV.out; simp at this; exact this
    clear HV hR2 hFU hh hB hhl
    go_wp2_with (go_at_call 126; refine (HE.out _ rfl).mono ?_; rintro e w' ⟨rfl, rfl⟩)
    go_ret3
    exact ⟨rfl, HB2.out⟩
end Go.Proofs.Ytkepfkfoblocgaa
