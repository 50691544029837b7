/- read: the parser's any, all, one, name. -/
import Derived.Test.YtdphdodjidbngaaQReaA
import Derived.Deep.LoopGhost
import Derived.Deep.Cut
namespace Go.Proofs.Ytdphdodjidbngaa
open Go.RowKit
set_option linter.unusedVariables false
set_option linter.unusedSimpArgs false

/-- How a call of the parser ends. -/
def PPost (p : PC) (R : RdR) (e : Ending) (w' : World) : Prop := match R with
  | .ok r o => e = .returned (.tuple #[]) ∧ PX p w' r o
  | .er k c => e = faultE k c ∧ ∃ ws o, PX p w' ws o
def CAny (p : PC) (n : Nat) : Prop := ∀ ws o w, 3 * ws.length + 3 ≤ n → PX p w ws o → Calls Try.prog 77 #[.pointer (some ⟨p.P, 0, none⟩)] w fun e w' => PPost p (rp p.T p.E n .any ws o) e w'
def CAll (p : PC) (n : Nat) : Prop := ∀ ws o w, 3 * ws.length + 2 ≤ n → PX p w ws o → Calls Try.prog 109 #[.pointer (some ⟨p.P, 0, none⟩)] w fun e w' => PPost p (rp p.T p.E n .all ws o) e w'
def COne (p : PC) (n : Nat) : Prop := ∀ ws o w, 3 * ws.length + 1 ≤ n → PX p w ws o → Calls Try.prog 140 #[.pointer (some ⟨p.P, 0, none⟩)] w fun e w' => PPost p (rp p.T p.E n .one ws o) e w'

set_option maxRecDepth 20000 in
set_option maxHeartbeats 2000000 in
theorem any_step (p : PC) (n : Nat) (hA : ∀ m, m ≤ n → CAll p m) : CAny p (n + 1) := by
  intro ws o w hn h
  have HC := hid (hA n (Nat.le_refl _) ws o w (by omega) h)
  have hbd := h.bd
  rw [rp_any]
  cases hR : rp p.T p.E n .all ws o with
  | er k c =>
    rw [hR] at HC
    show Calls _ _ _ _ fun e w' => e = faultE k c ∧ ∃ ws o, PX p w' ws o
    clear hR h hA hn hbd
    go_enter Try.func77, Try.ntmps77
    go_wp2_with fail
    refine HC.out.mono ?_
    rintro e w2 ⟨rfl, hb⟩
    have HB := hid hb
    clear hb HC
    unfold faultE
    go_wp2
    exact ⟨rfl, rfl, HB.out⟩
  | ok r q =>
    rw [hR] at HC
    have h1 := (rp_short _ _ _ _ _ _ _ _ hR).2 (by simp)
    have h2 := rp_len _ _ _ _ _ _ _ _ hR
    show Calls _ _ _ _ fun e w' => PPost p (rp p.T p.E n .anyL r q) e w'
    obtain ⟨R, hRR⟩ : ∃ R, rp p.T p.E n .anyL r q = R := ⟨_, rfl⟩
    rw [hRR]
    have HRR := hid hRR
    have HL := hid (show 3 * r.length + 1 ≤ n by omega)
    have HA := hid hA
    clear hR h hA hn hRR h1 h2 hbd
    go_enter Try.func77, Try.ntmps77
    go_wp2_with fail
    refine HC.out.mono ?_
    rintro e w2 ⟨rfl, hx⟩
    have HX := hid hx
    clear hx HC
    go_wp2
    go_loopg [] n (fun k wr => ∃ r' o', Hid (3 * r'.length + 1 ≤ k ∧ k ≤ n) ∧ Hid (rp p.T p.E k .anyL r' o' = R) ∧ Hid (PX p wr r' o'))
    case atStart => exact ⟨r, q, ⟨HL.out, Nat.le_refl _⟩, HRR, HX⟩
    case round =>
      clear HX HRR HL
      obtain ⟨r', o', HK, HR, HX⟩ := hrel
      obtain ⟨m, rfl⟩ : ∃ m, gk = m + 1 := ⟨gk - 1, by have := HK.out.1; omega⟩
      have hR := HR.out
      rw [rp_anyL] at hR
      by_cases hh : hdW r' = [124]
      · rw [if_pos hh] at hR
        have h0 := hd_pos' hh (by simp)
        have HS := hid (skip_yes p wr r' o' [124] HX.out hh (by simp))
        rw [show str [124] = ⟨#[124]⟩ from rfl] at HS
        have hbd := HX.out.bd
        have hk1 := HK.out.1
        have hk2 := HK.out.2
        have HC := hid (fun w => HA.out m (by omega) r'.tail o' w (by rw [List.length_tail]; omega))
        clear HX HR hh
        go_wp2_with fail
        refine HS.out.mono ?_
        rintro e w3 ⟨rfl, hx⟩
        have HX := hid hx
        clear hx HS
        cases hR2 : rp p.T p.E m .all r'.tail o' with
        | er k c =>
          rw [hR2] at hR HC
          have HR := hid (show .er k c = R from hR)
          clear hR hR2 hbd hk1 hk2 h0
          go_wp2_with fail
          refine (HC.out w3 HX.out).mono ?_
          rintro e w4 ⟨rfl, hb⟩
          have HB := hid hb
          clear hb HC HX
          obtain rfl := HR.out
          unfold faultE
          go_wp2
          exact ⟨rfl, rfl, HB.out⟩
        | ok r2 o2 =>
          rw [hR2] at hR HC
          have g1 := (rp_short _ _ _ _ _ _ _ _ hR2).2 (by simp)
          have g2 := rp_len _ _ _ _ _ _ _ _ hR2
          rw [List.length_tail] at g1 g2
          have HR : Hid (rp p.T p.E m .anyL r2 (o2 ++ [(5, 0)]) = R) := hid hR
          have HP := hid (fun w h => put_any p w r2 o2 5 0 h (by omega))
          have HK2 := hid (show 3 * r2.length + 1 ≤ m ∧ m ≤ n by omega)
          clear hR hR2 g1 g2 hbd hk1 hk2 h0 HK HA
          go_wp2_with fail
          refine (HC.out w3 HX.out).mono ?_
          rintro e w4 ⟨rfl, hx⟩
          have HX4 := hid hx
          clear hx HC HX
          go_wp2_with fail
          refine (HP.out w4 HX4.out).mono ?_
          rintro e w5 ⟨rfl, hx⟩
          have HX5 := hid hx
          clear hx HP HX4
          go_wp2
          go_roundg m
          case measure => omega
          case rel => exact ⟨r2, _, HK2, HR, HX5⟩
      · rw [if_neg hh] at hR
        have HS := hid (skip_no p wr r' o' [124] HX.out hh)
        rw [show str [124] = ⟨#[124]⟩ from rfl] at HS
        have HR := hid hR
        clear hh hR
        go_wp2_with fail
        refine HS.out.mono ?_
        rintro e w3 ⟨rfl, rfl⟩
        obtain rfl := HR.out
        go_wp2
        go_end0
        exact ⟨rfl, HX.out⟩

set_option maxRecDepth 20000 in
set_option maxHeartbeats 2000000 in
theorem all_step (p : PC) (n : Nat) (hA : ∀ m, m ≤ n → COne p m) : CAll p (n + 1) := by
  intro ws o w hn h
  have HC := hid (hA n (Nat.le_refl _) ws o w (by omega) h)
  have hbd := h.bd
  rw [rp_all]
  cases hR : rp p.T p.E n .one ws o with
  | er k c =>
    rw [hR] at HC
    show Calls _ _ _ _ fun e w' => e = faultE k c ∧ ∃ ws o, PX p w' ws o
    clear hR h hA hn hbd
    go_enter Try.func109, Try.ntmps109
    go_wp2_with fail
    refine HC.out.mono ?_
    rintro e w2 ⟨rfl, hb⟩
    have HB := hid hb
    clear hb HC
    unfold faultE
    go_wp2
    exact ⟨rfl, rfl, HB.out⟩
  | ok r q =>
    rw [hR] at HC
    have h1 := (rp_short _ _ _ _ _ _ _ _ hR).2 (by simp)
    have h2 := rp_len _ _ _ _ _ _ _ _ hR
    show Calls _ _ _ _ fun e w' => PPost p (rp p.T p.E n .allL r q) e w'
    obtain ⟨R, hRR⟩ : ∃ R, rp p.T p.E n .allL r q = R := ⟨_, rfl⟩
    rw [hRR]
    have HRR := hid hRR
    have HL := hid (show 3 * r.length + 1 ≤ n by omega)
    have HA := hid hA
    clear hR h hA hn hRR h1 h2 hbd
    go_enter Try.func109, Try.ntmps109
    go_wp2_with fail
    refine HC.out.mono ?_
    rintro e w2 ⟨rfl, hx⟩
    have HX := hid hx
    clear hx HC
    go_wp2
    go_loopg [] n (fun k wr => ∃ r' o', Hid (3 * r'.length + 1 ≤ k ∧ k ≤ n) ∧ Hid (rp p.T p.E k .allL r' o' = R) ∧ Hid (PX p wr r' o'))
    case atStart => exact ⟨r, q, ⟨HL.out, Nat.le_refl _⟩, HRR, HX⟩
    case round =>
      clear HX HRR HL
      obtain ⟨r', o', HK, HR, HX⟩ := hrel
      obtain ⟨m, rfl⟩ : ∃ m, gk = m + 1 := ⟨gk - 1, by have := HK.out.1; omega⟩
      have hR := HR.out
      rw [rp_allL] at hR
      by_cases hh : hdW r' = [38]
      · rw [if_pos hh] at hR
        have h0 := hd_pos' hh (by simp)
        have HS := hid (skip_yes p wr r' o' [38] HX.out hh (by simp))
        rw [show str [38] = ⟨#[38]⟩ from rfl] at HS
        have hbd := HX.out.bd
        have hk1 := HK.out.1
        have hk2 := HK.out.2
        have HC := hid (fun w => HA.out m (by omega) r'.tail o' w (by rw [List.length_tail]; omega))
        clear HX HR hh
        go_wp2_with fail
        refine HS.out.mono ?_
        rintro e w3 ⟨rfl, hx⟩
        have HX := hid hx
        clear hx HS
        cases hR2 : rp p.T p.E m .one r'.tail o' with
        | er k c =>
          rw [hR2] at hR HC
          have HR := hid (show .er k c = R from hR)
          clear hR hR2 hbd hk1 hk2 h0
          go_wp2_with fail
          refine (HC.out w3 HX.out).mono ?_
          rintro e w4 ⟨rfl, hb⟩
          have HB := hid hb
          clear hb HC HX
          obtain rfl := HR.out
          unfold faultE
          go_wp2
          exact ⟨rfl, rfl, HB.out⟩
        | ok r2 o2 =>
          rw [hR2] at hR HC
          have g1 := (rp_short _ _ _ _ _ _ _ _ hR2).2 (by simp)
          have g2 := rp_len _ _ _ _ _ _ _ _ hR2
          rw [List.length_tail] at g1 g2
          have HR : Hid (rp p.T p.E m .allL r2 (o2 ++ [(4, 0)]) = R) := hid hR
          have HP := hid (fun w h => put_any p w r2 o2 4 0 h (by omega))
          have HK2 := hid (show 3 * r2.length + 1 ≤ m ∧ m ≤ n by omega)
          clear hR hR2 g1 g2 hbd hk1 hk2 h0 HK HA
          go_wp2_with fail
          refine (HC.out w3 HX.out).mono ?_
          rintro e w4 ⟨rfl, hx⟩
          have HX4 := hid hx
          clear hx HC HX
          go_wp2_with fail
          refine (HP.out w4 HX4.out).mono ?_
          rintro e w5 ⟨rfl, hx⟩
          have HX5 := hid hx
          clear hx HP HX4
          go_wp2
          go_roundg m
          case measure => omega
          case rel => exact ⟨r2, _, HK2, HR, HX5⟩
      · rw [if_neg hh] at hR
        have HS := hid (skip_no p wr r' o' [38] HX.out hh)
        rw [show str [38] = ⟨#[38]⟩ from rfl] at HS
        have HR := hid hR
        clear hh hR
        go_wp2_with fail
        refine HS.out.mono ?_
        rintro e w3 ⟨rfl, rfl⟩
        obtain rfl := HR.out
        go_wp2
        go_end0
        exact ⟨rfl, HX.out⟩

set_option maxRecDepth 20000 in
set_option maxHeartbeats 2000000 in
theorem name_any (p : PC) (w : World) (ws : List Wd) (o : List (Int × Int)) (h : PX p w ws o) (hN : IsN (hdW ws)) :
    Calls Try.prog 163 #[.pointer (some ⟨p.P, 0, none⟩)] w fun e w' => PPost p (if placeJ p.T (hdW ws) < 0 ∨ 15 < placeJ p.T (hdW ws) then .er (hereW p.E ws) 5 else .ok ws.tail (o ++ [(2, placeJ p.T (hdW ws))])) e w' := by
  have HX := hid h
  have h0 := hd_pos' (ws := ws) rfl hN.1
  have hbd := h.bd
  obtain ⟨wA, wc, nA, nc, h1, h2, h3⟩ := h.st
  obtain ⟨q0, q1, q2, q3, f0, f1, f2, f3⟩ := four_cellsR h2
  have c1 := reg (fun W' (hW : Below w.heap.size w W') => same_below (next_any p W' ws o (h.below hW)))
  have c2 := reg (fun W' (hW : Below w.heap.size w W') => place_any p.TA p.T.length p.Tc p.T (hdW ws) W' (h.tab.below (h.below hW).bel))
  have HSK := hid (fun (u : World) (x : Wd) (l : List Wd) (hu : PX p u (x :: l) o) (n : Nat) (hn : (x :: l).length = n) wA wc nA nc a b c => hu.skip (wA := wA) (wc := wc) (nA := nA) (nc := nc) hn a b c)
  have HPR := hid (placeJ_range p.T (hdW ws))
  generalize hk : placeJ p.T (hdW ws) = k at *
  have HW := hid (fun u (hu : PX p u ws o) => wrong_any p u ws o 5 hu)
  have HPT := hid (fun u (hu : PX p u ws.tail o) => put_any p u ws.tail o 2 k hu (by rw [List.length_tail]; omega))
  clear h h1 h2 h3 f0 f1 f2 f3 q1 q2 q3 hk hN hbd
  generalize str (hdW ws) = s at *
  replace q0 := cell_regrown q0
  obtain ⟨R, hR⟩ : ∃ R, (if k < 0 ∨ 15 < k then RdR.er (hereW p.E ws) 5 else .ok ws.tail (o ++ [(2, k)])) = R := ⟨_, rfl⟩
  rw [hR]
  have HR := hid hR
  clear hR
  go_enter Try.func163, Try.ntmps163
  go_upto_region 0 with (fail)
  refine wp_region_quiet_below (by kernel_rfl) (by kernel_rfl) ?_
  repeat (go_big_quiet_step (first
    | (go_at_call 141; with_reducible exact c1 _ _)
    | (go_at_call 171; with_reducible exact c2 _ _)))
  refine wpQuiet_nil ?_
  intro _ hw'
  obtain ⟨⟨dq, osq⟩, hw''⟩ := hw'
  subst hw''
  refine at_world (fun u => PX p u ws o) (HX.out.below (below_regrown w dq osq)) ?_
  clear HX c1 c2 q0
  rintro w1 hx
  have HX := hid hx
  clear hx
  by_cases hbad : k < 0 ∨ 15 < k
  · have hRe := HR.out
    rw [if_pos hbad] at hRe
    subst hRe
    clear HR
    have HBD := hid hbad
    rcases hbad with hb | hb
    · clear HBD
      go_wp2_with fail
      refine (HW.out w1 HX.out).mono ?_
      rintro e w3 ⟨rfl, rfl⟩
      unfold faultE
      go_wp2
      exact ⟨rfl, rfl, _, _, HX.out⟩
    · clear HBD
      have hb0 : ¬ k < 0 := by omega
      have hb1 : (16 : Int) ≤ k := by omega
      go_wp2_with fail
      refine (HW.out w1 HX.out).mono ?_
      rintro e w3 ⟨rfl, rfl⟩
      unfold faultE
      go_wp2
      exact ⟨rfl, rfl, _, _, HX.out⟩
  · have hRe := HR.out
    rw [if_neg hbad] at hRe
    subst hRe
    clear HR
    have hb0 : ¬ k < 0 := by omega
    have hb1 : ¬ (16 : Int) ≤ k := by omega
    clear hbad HPR HW
    obtain ⟨wA, wc, nA, nc, h1, h2, h3⟩ := HX.out.st
    cases ws with
    | nil => exact absurd h0 (by simp)
    | cons x ws =>
      obtain ⟨n, hn⟩ : ∃ n, (x :: ws).length = n := ⟨_, rfl⟩
      have hn0 : 1 ≤ n := by simp at hn; omega
      rw [hn] at h1 h2
      have HP := hid (HSK.out w1 x ws HX.out n hn wA wc nA nc h1 h2 h3)
      obtain ⟨q0, q1, q2, q3, f0, f1, f2, f3⟩ := four_cellsR h2
      have hsl := run_from (P := Try.prog) Try.underlying97 info_word wA n wc 1 hn0 w1
      rw [show ((1 : Nat) : Int) = 1 from rfl] at hsl
      clear h1 h2 h3 hn HX HSK h0
      go_upto_region 4 with (fail)
      refine at_world (fun u => PX p u ws o) HP.out ?_
      clear HP q0 q1 q2 q3 f0 f1 f2 f3 hsl
      rintro w2 hx
      have HX := hid hx
      clear hx
      go_wp2_with fail
      refine (HPT.out w2 HX.out).mono ?_
      rintro e w3 ⟨rfl, hx⟩
      have HX3 := hid hx
      clear hx HPT HX
      go_wp2
      go_end0
      exact ⟨rfl, HX3.out⟩

set_option maxRecDepth 20000 in
set_option maxHeartbeats 2000000 in
theorem one_step (p : PC) (n : Nat) (h1 : COne p n) (h2 : CAny p n) : COne p (n + 1) := by
  intro ws o w hn h
  have HN := hid (next_any p w ws o h)
  have HX := hid h
  have HH1 := hid h1
  have HH2 := hid h2
  clear h1 h2
  by_cases hb : hdW ws = [] ∨ hdW ws = [41] ∨ hdW ws = [38] ∨ hdW ws = [124]
  · rw [rp_bad _ _ _ _ _ hb]
    have HW := hid (wrong_any p w ws o 3 h)
    have HB : Hid (∃ ws o, PX p w ws o) := hid ⟨ws, o, h⟩
    clear h HX HH1 HH2 hn
    rcases hb with hb | hb | hb | hb
    · rw [hb, show str [] = ⟨#[]⟩ from rfl] at HN
      clear hb
      go_enter Try.func140, Try.ntmps140
      go_wp2_with fail
      refine HN.out.mono ?_
      rintro e w2 ⟨rfl, rfl⟩
      clear HN
      go_wp2_with fail
      refine HW.out.mono ?_
      rintro e w3 ⟨rfl, rfl⟩
      unfold faultE
      go_wp2
      exact ⟨rfl, rfl, HB.out⟩
    · rw [hb, show str [41] = ⟨#[41]⟩ from rfl] at HN
      clear hb
      go_enter Try.func140, Try.ntmps140
      go_wp2_with fail
      refine HN.out.mono ?_
      rintro e w2 ⟨rfl, rfl⟩
      clear HN
      go_wp2_with fail
      refine HW.out.mono ?_
      rintro e w3 ⟨rfl, rfl⟩
      unfold faultE
      go_wp2
      exact ⟨rfl, rfl, HB.out⟩
    · rw [hb, show str [38] = ⟨#[38]⟩ from rfl] at HN
      clear hb
      go_enter Try.func140, Try.ntmps140
      go_wp2_with fail
      refine HN.out.mono ?_
      rintro e w2 ⟨rfl, rfl⟩
      clear HN
      go_wp2_with fail
      refine HW.out.mono ?_
      rintro e w3 ⟨rfl, rfl⟩
      unfold faultE
      go_wp2
      exact ⟨rfl, rfl, HB.out⟩
    · rw [hb, show str [124] = ⟨#[124]⟩ from rfl] at HN
      clear hb
      go_enter Try.func140, Try.ntmps140
      go_wp2_with fail
      refine HN.out.mono ?_
      rintro e w2 ⟨rfl, rfl⟩
      clear HN
      go_wp2_with fail
      refine HW.out.mono ?_
      rintro e w3 ⟨rfl, rfl⟩
      unfold faultE
      go_wp2
      exact ⟨rfl, rfl, HB.out⟩
  by_cases h33 : hdW ws = [33]
  · rw [rp_not _ _ _ _ _ h33]
    rw [h33, show str [33] = ⟨#[33]⟩ from rfl] at HN
    have h0 := hd_pos' h33 (by simp)
    have HS := hid (skip_yes p w ws o [33] h h33 (by simp))
    rw [show str [33] = ⟨#[33]⟩ from rfl] at HS
    have hbd := h.bd
    have HC := hid (fun u hu => HH1.out ws.tail o u (by rw [List.length_tail]; omega) hu)
    clear h33 h hb HX HH1 HH2 hn
    cases hR : rp p.T p.E n .one ws.tail o with
    | er k c =>
      rw [hR] at HC
      show Calls _ _ _ _ fun e w' => e = faultE k c ∧ ∃ ws o, PX p w' ws o
      clear hR hbd h0
      go_enter Try.func140, Try.ntmps140
      go_wp2_with fail
      refine HN.out.mono ?_
      rintro e w2 ⟨rfl, rfl⟩
      clear HN
      go_wp2_with fail
      refine HS.out.mono ?_
      rintro e w3 ⟨rfl, hx⟩
      have HX3 := hid hx
      clear hx HS
      go_wp2_with fail
      refine (HC.out w3 HX3.out).mono ?_
      rintro e w4 ⟨rfl, hb⟩
      have HB := hid hb
      clear hb HC HX3
      unfold faultE
      go_wp2
      exact ⟨rfl, rfl, HB.out⟩
    | ok r q =>
      rw [hR] at HC
      have g2 := rp_len _ _ _ _ _ _ _ _ hR
      rw [List.length_tail] at g2
      have HP := hid (fun u hu => put_any p u r q 3 0 hu (by omega))
      show Calls _ _ _ _ fun e w' => e = .returned (.tuple #[]) ∧ PX p w' r (q ++ [(3, 0)])
      clear hR hbd h0 g2
      go_enter Try.func140, Try.ntmps140
      go_wp2_with fail
      refine HN.out.mono ?_
      rintro e w2 ⟨rfl, rfl⟩
      clear HN
      go_wp2_with fail
      refine HS.out.mono ?_
      rintro e w3 ⟨rfl, hx⟩
      have HX3 := hid hx
      clear hx HS
      go_wp2_with fail
      refine (HC.out w3 HX3.out).mono ?_
      rintro e w4 ⟨rfl, hx⟩
      have HX4 := hid hx
      clear hx HC HX3
      go_wp2_with fail
      refine (HP.out w4 HX4.out).mono ?_
      rintro e w5 ⟨rfl, hx⟩
      have HX5 := hid hx
      clear hx HP HX4
      go_wp2
      go_end0
      exact ⟨rfl, HX5.out⟩
  by_cases h40 : hdW ws = [40]
  · rw [rp_par _ _ _ _ _ h40]
    rw [h40, show str [40] = ⟨#[40]⟩ from rfl] at HN
    have h0 := hd_pos' h40 (by simp)
    have HS := hid (skip_yes p w ws o [40] h h40 (by simp))
    rw [show str [40] = ⟨#[40]⟩ from rfl] at HS
    have hbd := h.bd
    have HC := hid (fun u hu => HH2.out ws.tail o u (by rw [List.length_tail]; omega) hu)
    clear h33 h40 h hb HX HH1 HH2 hn
    cases hR : rp p.T p.E n .any ws.tail o with
    | er k c =>
      rw [hR] at HC
      show Calls _ _ _ _ fun e w' => e = faultE k c ∧ ∃ ws o, PX p w' ws o
      clear hR hbd h0
      go_enter Try.func140, Try.ntmps140
      go_wp2_with fail
      refine HN.out.mono ?_
      rintro e w2 ⟨rfl, rfl⟩
      clear HN
      go_wp2_with fail
      refine HS.out.mono ?_
      rintro e w3 ⟨rfl, hx⟩
      have HX3 := hid hx
      clear hx HS
      go_wp2_with fail
      refine (HC.out w3 HX3.out).mono ?_
      rintro e w4 ⟨rfl, hb⟩
      have HB := hid hb
      clear hb HC HX3
      unfold faultE
      go_wp2
      exact ⟨rfl, rfl, HB.out⟩
    | ok r q =>
      rw [hR] at HC
      clear hR hbd h0
      by_cases hs : hdW r = [41]
      · have HP := hid (fun u hu => skip_yes p u r q [41] hu hs (by simp))
        rw [show str [41] = ⟨#[41]⟩ from rfl] at HP
        have e9 : (RdR.ok r q).shut p.E = .ok r.tail q := by simp only [RdR.shut]; rw [if_pos hs]
        rw [e9]
        show Calls _ _ _ _ fun e w' => e = .returned (.tuple #[]) ∧ PX p w' r.tail q
        clear hs e9
        go_enter Try.func140, Try.ntmps140
        go_wp2_with fail
        refine HN.out.mono ?_
        rintro e w2 ⟨rfl, rfl⟩
        clear HN
        go_wp2_with fail
        refine HS.out.mono ?_
        rintro e w3 ⟨rfl, hx⟩
        have HX3 := hid hx
        clear hx HS
        go_wp2_with fail
        refine (HC.out w3 HX3.out).mono ?_
        rintro e w4 ⟨rfl, hx⟩
        have HX4 := hid hx
        clear hx HC HX3
        go_wp2_with fail
        refine (HP.out w4 HX4.out).mono ?_
        rintro e w5 ⟨rfl, hx⟩
        have HX5 := hid hx
        clear hx HP HX4
        go_wp2
        go_end0
        exact ⟨rfl, HX5.out⟩
      · have HP := hid (fun u hu => skip_no p u r q [41] hu hs)
        rw [show str [41] = ⟨#[41]⟩ from rfl] at HP
        have HW := hid (fun u hu => wrong_any p u r q 3 hu)
        have e9 : (RdR.ok r q).shut p.E = .er (hereW p.E r) 3 := by simp only [RdR.shut]; rw [if_neg hs]
        rw [e9]
        show Calls _ _ _ _ fun e w' => e = faultE (hereW p.E r) 3 ∧ ∃ ws o, PX p w' ws o
        clear hs e9
        go_enter Try.func140, Try.ntmps140
        go_wp2_with fail
        refine HN.out.mono ?_
        rintro e w2 ⟨rfl, rfl⟩
        clear HN
        go_wp2_with fail
        refine HS.out.mono ?_
        rintro e w3 ⟨rfl, hx⟩
        have HX3 := hid hx
        clear hx HS
        go_wp2_with fail
        refine (HC.out w3 HX3.out).mono ?_
        rintro e w4 ⟨rfl, hx⟩
        have HX4 := hid hx
        clear hx HC HX3
        go_wp2_with fail
        refine (HP.out w4 HX4.out).mono ?_
        rintro e w5 ⟨rfl, rfl⟩
        go_wp2_with fail
        refine (HW.out _ HX4.out).mono ?_
        rintro e w6 ⟨rfl, rfl⟩
        unfold faultE
        go_wp2
        exact ⟨rfl, rfl, _, _, HX4.out⟩
  by_cases h42 : hdW ws = [42]
  · rw [rp_yes _ _ _ _ _ h42]
    rw [h42, show str [42] = ⟨#[42]⟩ from rfl] at HN
    have h0 := hd_pos' h42 (by simp)
    have HS := hid (skip_yes p w ws o [42] h h42 (by simp))
    rw [show str [42] = ⟨#[42]⟩ from rfl] at HS
    have hbd := h.bd
    have HP := hid (fun u hu => put_any p u ws.tail o 1 0 hu (by rw [List.length_tail]; omega))
    show Calls _ _ _ _ fun e w' => e = .returned (.tuple #[]) ∧ PX p w' ws.tail (o ++ [(1, 0)])
    clear h33 h40 h42 h hb HX HH1 HH2 hn hbd h0
    go_enter Try.func140, Try.ntmps140
    go_wp2_with fail
    refine HN.out.mono ?_
    rintro e w2 ⟨rfl, rfl⟩
    clear HN
    go_wp2_with fail
    refine HS.out.mono ?_
    rintro e w3 ⟨rfl, hx⟩
    have HX3 := hid hx
    clear hx HS
    go_wp2_with fail
    refine (HP.out w3 HX3.out).mono ?_
    rintro e w5 ⟨rfl, hx⟩
    have HX5 := hid hx
    clear hx HP HX3
    go_wp2
    go_end0
    exact ⟨rfl, HX5.out⟩
  have hN : IsN (hdW ws) := ⟨fun e => hb (.inl e), fun e => hb (.inr (.inl e)), fun e => hb (.inr (.inr (.inl e))), fun e => hb (.inr (.inr (.inr e))), h33, h40, h42⟩
  rw [rp_name _ _ _ _ _ hN]
  have HC := hid (name_any p w ws o h hN)
  obtain ⟨R, hR⟩ : ∃ R, (if placeJ p.T (hdW ws) < 0 ∨ 15 < placeJ p.T (hdW ws) then RdR.er (hereW p.E ws) 5 else .ok ws.tail (o ++ [(2, placeJ p.T (hdW ws))])) = R := ⟨_, rfl⟩
  rw [hR] at HC ⊢
  obtain ⟨n1, n2, n3, n4, n5, n6, n7⟩ := hN
  have k1 := str_ne n1
  have k2 := str_ne n2
  have k3 := str_ne n3
  have k4 := str_ne n4
  have k5 := str_ne n5
  have k6 := str_ne n6
  have k7 := str_ne n7
  generalize str (hdW ws) = s at *
  clear hb h33 h40 h42 n1 n2 n3 n4 n5 n6 n7 hR h HX HH1 HH2 hn
  rw [show str [] = ⟨#[]⟩ from rfl] at k1
  rw [show str [41] = ⟨#[41]⟩ from rfl] at k2
  rw [show str [38] = ⟨#[38]⟩ from rfl] at k3
  rw [show str [124] = ⟨#[124]⟩ from rfl] at k4
  rw [show str [33] = ⟨#[33]⟩ from rfl] at k5
  rw [show str [40] = ⟨#[40]⟩ from rfl] at k6
  rw [show str [42] = ⟨#[42]⟩ from rfl] at k7
  have j0 : s.toList.isEmpty = false := by
    rw [List.isEmpty_eq_false_iff]
    intro e
    exact k1 (by rw [e]; simp [ByteArray.toList_eq])
  have j2 : (s.toList == [41]) = false := by rw [beq_eq_false_iff_ne]; intro e; exact k2 (by rw [e]; simp [ByteArray.toList_eq])
  have j3 : (s.toList == [38]) = false := by rw [beq_eq_false_iff_ne]; intro e; exact k3 (by rw [e]; simp [ByteArray.toList_eq])
  have j4 : (s.toList == [124]) = false := by rw [beq_eq_false_iff_ne]; intro e; exact k4 (by rw [e]; simp [ByteArray.toList_eq])
  have j5 : (s.toList == [33]) = false := by rw [beq_eq_false_iff_ne]; intro e; exact k5 (by rw [e]; simp [ByteArray.toList_eq])
  have j6 : (s.toList == [40]) = false := by rw [beq_eq_false_iff_ne]; intro e; exact k6 (by rw [e]; simp [ByteArray.toList_eq])
  have j7 : (s.toList == [42]) = false := by rw [beq_eq_false_iff_ne]; intro e; exact k7 (by rw [e]; simp [ByteArray.toList_eq])
  go_enter Try.func140, Try.ntmps140
  go_wp2_with fail
  refine HN.out.mono ?_
  rintro e w2 ⟨rfl, rfl⟩
  clear HN
  go_wp2_with fail
  refine HC.out.mono ?_
  cases R with
  | er k c =>
    rintro e w3 ⟨rfl, hb⟩
    have HB := hid hb
    clear hb HC
    unfold faultE
    go_wp2
    exact ⟨rfl, rfl, HB.out⟩
  | ok r q =>
    rintro e w3 ⟨rfl, hx⟩
    have HX3 := hid hx
    clear hx HC
    go_wp2
    go_end0
    exact ⟨rfl, HX3.out⟩

theorem parse_all (p : PC) : ∀ n, COne p n ∧ CAll p n ∧ CAny p n := by
  intro n
  induction n using Nat.strongRecOn with
  | _ n ih =>
    cases n with
    | zero => exact ⟨fun ws o w h => absurd h (by omega), fun ws o w h => absurd h (by omega), fun ws o w h => absurd h (by omega)⟩
    | succ n => exact ⟨one_step p n (ih n (by omega)).1 (ih n (by omega)).2.2, all_step p n fun m hm => (ih m (by omega)).1, any_step p n fun m hm => (ih m (by omega)).2.1⟩

end Go.Proofs.Ytdphdodjidbngaa
