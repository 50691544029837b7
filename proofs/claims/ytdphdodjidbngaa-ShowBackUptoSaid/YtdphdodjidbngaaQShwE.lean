/- The document's Text of layer 11. -/
import Derived.Test.YtdphdodjidbngaaQShwD
namespace Go.Proofs.Ytdphdodjidbngaa
open Go.RowKit
set_option linter.unusedVariables false
set_option linter.unusedSimpArgs false

theorem outN_yes {m : Nat} {l : List (Int × Int)} {k : Nat} (hk : k < l.length) (h1 : l[k].1 = 2) (h2 : (m : Int) ≤ l[k].2) : outN m l = true := by
  unfold outN
  rw [List.any_eq_true]
  exact ⟨_, List.getElem_mem hk, by simp [h1, h2]⟩
theorem outN_no {m : Nat} {l : List (Int × Int)} (h : ∀ k (hk : k < l.length), ¬ (l[k].1 = 2 ∧ (m : Int) ≤ l[k].2)) : outN m l = false := by
  unfold outN
  rw [List.any_eq_false]
  intro x hx
  obtain ⟨k, hk, rfl⟩ := List.getElem_of_mem hx
  have := h k hk
  simp
  intro h1
  omega
set_option maxRecDepth 20000 in
set_option maxHeartbeats 4000000 in
theorem rtextT_any (TA : Option Addr) (tc : Nat) (T : List (List UInt8)) (h100 : ∀ s ∈ T, s.length ≤ 100) (A : Option Addr) (cap : Nat) (l : List (Int × Int)) (W : World) (hT : Sl W 1 TA T.length tc (scells T)) (h : Sl W 2 A l.length cap (pcells l)) (hl : l.length ≤ 1000) :
    Calls Try.prog 10 #[.slice TA T.length tc, .slice A l.length cap] W fun e w' => e = .returned (.string (str (textV T l))) ∧ Below W.heap.size W w' := by
  have HC := hid (rcheck09_any A cap l W h hl)
  have HS := hid (fun u (hu : Below W.heap.size W u) k (hk : k < l.length) => (h.below hu).at2 k hk)
  by_cases hc : chkN l = 0
  · obtain ⟨t, hw, hlt9, hd, hf, _⟩ := chkN_zero hc
    rw [hc] at HC
    have HTX := hid (fun (ho : outN T.length l = false) u (hu : Below W.heap.size W u) => rtext_any TA tc T h100 A cap l W hT h hl t [] [] (l.length - 1) u hu hw ((out_in T.length t hw).1 (by rw [← hlt9]; exact ho)) (by simpa using hlt9) (by have := t.flat_pos; rw [hlt9]; simp; omega))
    have HV : Hid (textV T l = if outN T.length l = true then [] else txt T t) := hid (by rw [hlt9]; exact textV_tree hw (by rw [← hlt9]; exact hc))
    have hlp : 0 < l.length := by rw [hlt9]; exact t.flat_pos
    have HOY := hid (fun k (hk : k < l.length) h1 h2 => outN_yes (m := T.length) hk h1 h2)
    have HON := hid (fun h => outN_no (m := T.length) (l := l) h)
    obtain ⟨R, hR⟩ : ∃ R, textV T l = R := ⟨_, rfl⟩
    have HR := hid hR
    rw [hR]
    have hl9 : (l.length : Int) ≤ 1000 := by omega
    clear hT h hc hd hf hw hlt9 hR
    generalize txt T t = tx at *
    obtain ⟨ob, hob⟩ : ∃ ob, outN T.length l = ob := ⟨_, rfl⟩
    rw [hob] at HTX HV HOY HON
    clear hob
    go_enter Try.func10, Try.ntmps10
    go_wp2_with fail
    refine HC.out.mono ?_
    rintro e w1 ⟨rfl, hb⟩
    have HB1 := hid hb
    clear hb HC
    go_wp2
    go_loopw [5] (fun i wr => ∃ n : Nat, n ≤ l.length ∧ i = .int .i64 (n : Int) ∧ Hid (∀ k (hk : k < l.length), k < n → ¬ (l[k].1 = 2 ∧ (T.length : Int) ≤ l[k].2)) ∧ wr = w1) (fun i _ => l.length - (intOf i).toNat)
    case atStart => exact ⟨0, by omega, rfl, fun k hk h => absurd h (by omega), rfl⟩
    case round =>
      obtain ⟨n, hn9, rfl, HN, rfl⟩ := hrel
      by_cases hlt : n < l.length
      · have hlt2 : (n : Int) < (l.length : Int) := by omega
        have hn0 : ¬ (n : Int) < 0 := by omega
        obtain ⟨bb, off, hAe, c0, c1⟩ := HS.out wr HB1.out n hlt
        subst hAe
        have HOY2 := hid (HOY.out n hlt)
        have HN2 := hid (fun (h : ¬ (l[n].1 = 2 ∧ (T.length : Int) ≤ l[n].2)) => show ∀ k (hk : k < l.length), k < n + 1 → ¬ (l[k].1 = 2 ∧ (T.length : Int) ≤ l[k].2) from fun k hk hkn => by
          rcases Nat.lt_or_ge k n with h1 | h1
          · exact HN.out k hk h1
          · obtain rfl : k = n := by omega
            exact h)
        generalize l[n] = x at *
        obtain ⟨xo, xn⟩ := x
        simp only at c0 c1 HOY2 HN2
        by_cases h2 : xo = 2
        · subst h2
          by_cases h3 : (T.length : Int) ≤ xn
          · have hot := HOY2.out rfl h3
            subst hot
            have HE : Hid (R = []) := hid (by rw [← HR.out, HV.out, if_pos rfl])
            have h4 : xn ≥ (T.length : Int) := h3
            clear HOY2 HN2
            go_wp2
            go_ret
            exact ⟨by rw [HE.out]; rfl, HB1.out⟩
          · have h4 : ¬ xn ≥ (T.length : Int) := by omega
            have HN3 := hid (HN2.out (fun h => h3 h.2))
            clear HOY2 HN2
            go_wp2
            go_roundw
            case rel => exact ⟨n + 1, by omega, by go_num, HN3.out, by trivial⟩
            case measure => simp [intOf]; omega
        · have e2 : (xo == 2) = false := by simpa using h2
          have HN3 := hid (HN2.out (fun h => h2 h.1))
          clear HOY2 HN2
          go_wp2
          go_roundw
          case rel => exact ⟨n + 1, by omega, by go_num, HN3.out, by trivial⟩
          case measure => simp [intOf]; omega
      · obtain rfl : n = l.length := by omega
        have hof : ob = false := HON.out (fun k hk => HN.out k hk hk)
        subst hof
        have HT2 := hid (HTX.out rfl wr HB1.out)
        have HE : Hid (R = tx) := hid (by rw [← HR.out, HV.out, if_neg (by simp)])
        have hge : ¬ (l.length : Int) < (l.length : Int) := by omega
        clear HTX HV HOY HON HN HR HS
        rw [show ((l.length - 1 : Nat) : Int) = (l.length : Int) - 1 by omega] at HT2
        have hw9 : IntKind.i64.wrap ((l.length : Int) - 1) = (l.length : Int) - 1 := by simp [IntKind.wrap, IntKind.bits, IntKind.signed]; omega
        clear hlt hn9
        go_wp2_with fail
        refine HT2.out.mono ?_
        rintro e w4 ⟨rfl, hb⟩
        have HB4 := hid (HB1.out.trans (hb.mono HB1.out.size))
        clear hb HT2
        go_wp2
        go_ret
        exact ⟨by rw [HE.out]; rfl, HB4.out⟩
  · have HV : Hid (textV T l = []) := hid (textV_no hc)
    rw [HV.out]
    have hc2 : (chkN l != 0) = true := by simpa using hc
    clear hT h HV HS
    generalize chkN l = ck at *
    generalize l.length = ln at *
    go_enter Try.func10, Try.ntmps10
    go_wp2_with fail
    refine HC.out.mono ?_
    rintro e w1 ⟨rfl, hb⟩
    have HB1 := hid hb
    clear hb HC
    go_wp2
    go_ret
    exact ⟨rfl, HB1.out⟩
end Go.Proofs.Ytdphdodjidbngaa
