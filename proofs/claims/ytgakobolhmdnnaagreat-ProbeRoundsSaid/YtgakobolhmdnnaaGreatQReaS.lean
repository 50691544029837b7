/- The document's reader of needs: One; the whole. -/
import Derived.Test.YtgakobolhmdnnaaGreatQReaR
namespace Go.Proofs.YtgakobolhmdnnaaGreat
open Go.RowKit
set_option linter.unusedVariables false
set_option linter.unusedSimpArgs false

set_option maxRecDepth 20000 in
set_option maxHeartbeats 4000000 in
theorem rone_step (p : PC) (n : Nat) (h1 : ROne p n) (h2 : RAny p n) : ROne p (n + 1) := by
  intro ws o w hn h
  have HPK := hid (peek_ok p w ws o 0 h)
  have HX := hid h
  have HH1 := hid h1
  have HH2 := hid h2
  have HHE := hid (here_any p w ws o 0 0 h)
  obtain ⟨lim, hlim⟩ : ∃ lim, o.length + ws.length = lim := ⟨_, rfl⟩
  rw [hlim]
  have HLM := hid hlim
  have hbd := h.bd
  have HBD := hid (show lim ≤ 1000 by omega)
  clear h1 h2 h hlim
  by_cases hb : hdW ws = [] ∨ hdW ws = [41] ∨ hdW ws = [38] ∨ hdW ws = [124]
  · rw [rp_bad _ _ _ _ _ hb]
    have HF := hid (fail_ok p w ws o 0 (hereW p.E ws) 3 HX.out)
    clear HX HH1 HH2 hn hbd
    rcases hb with hb | hb | hb | hb
    · rw [hb, show str [] = ⟨#[]⟩ from rfl] at HPK
      clear hb
      go_enter Tryz.func122, Tryz.ntmps122
      go_wp2_with fail
      refine HPK.out.mono ?_
      rintro e w2 ⟨rfl, rfl⟩
      clear HPK
      go_wp2_with fail
      refine HHE.out.mono ?_
      rintro e w3 ⟨rfl, rfl⟩
      go_wp2_with fail
      refine HF.out.mono ?_
      rintro e w4 ⟨rfl, hx⟩
      have HX4 := hid hx
      clear hx HF HHE
      go_wp2
      go_end0
      exact ⟨rfl, by decide, ws, o, Nat.le_of_eq HLM.out, HX4.out⟩
    · rw [hb, show str [41] = ⟨#[41]⟩ from rfl] at HPK
      clear hb
      go_enter Tryz.func122, Tryz.ntmps122
      go_wp2_with fail
      refine HPK.out.mono ?_
      rintro e w2 ⟨rfl, rfl⟩
      clear HPK
      go_wp2_with fail
      refine HHE.out.mono ?_
      rintro e w3 ⟨rfl, rfl⟩
      go_wp2_with fail
      refine HF.out.mono ?_
      rintro e w4 ⟨rfl, hx⟩
      have HX4 := hid hx
      clear hx HF HHE
      go_wp2
      go_end0
      exact ⟨rfl, by decide, ws, o, Nat.le_of_eq HLM.out, HX4.out⟩
    · rw [hb, show str [38] = ⟨#[38]⟩ from rfl] at HPK
      clear hb
      go_enter Tryz.func122, Tryz.ntmps122
      go_wp2_with fail
      refine HPK.out.mono ?_
      rintro e w2 ⟨rfl, rfl⟩
      clear HPK
      go_wp2_with fail
      refine HHE.out.mono ?_
      rintro e w3 ⟨rfl, rfl⟩
      go_wp2_with fail
      refine HF.out.mono ?_
      rintro e w4 ⟨rfl, hx⟩
      have HX4 := hid hx
      clear hx HF HHE
      go_wp2
      go_end0
      exact ⟨rfl, by decide, ws, o, Nat.le_of_eq HLM.out, HX4.out⟩
    · rw [hb, show str [124] = ⟨#[124]⟩ from rfl] at HPK
      clear hb
      go_enter Tryz.func122, Tryz.ntmps122
      go_wp2_with fail
      refine HPK.out.mono ?_
      rintro e w2 ⟨rfl, rfl⟩
      clear HPK
      go_wp2_with fail
      refine HHE.out.mono ?_
      rintro e w3 ⟨rfl, rfl⟩
      go_wp2_with fail
      refine HF.out.mono ?_
      rintro e w4 ⟨rfl, hx⟩
      have HX4 := hid hx
      clear hx HF HHE
      go_wp2
      go_end0
      exact ⟨rfl, by decide, ws, o, Nat.le_of_eq HLM.out, HX4.out⟩
  by_cases hc33 : hdW ws = [33]
  · rw [hc33, show str [33] = ⟨#[33]⟩ from rfl] at HPK
    have hlen := hd_pos' hc33 (by simp)
    have HC := hid (fun u hu => HH1.out ws.tail o u (by rw [List.length_tail]; omega) hu)
    obtain ⟨RR, hRR⟩ : ∃ RR, rp p.T p.E (n + 1) .one ws o = RR := ⟨_, rfl⟩
    rw [hRR]
    rw [rp_not _ _ _ _ _ hc33] at hRR
    have HRR := hid hRR
    clear hc33 hb HH1 HH2 hn hbd hRR
    go_enter Tryz.func122, Tryz.ntmps122
    go_wp2_with fail
    refine HPK.out.mono ?_
    rintro e w2 ⟨rfl, rfl⟩
    clear HPK
    go_wp2_with fail
    refine HHE.out.mono ?_
    rintro e w3 ⟨rfl, rfl⟩
    clear HHE
    obtain ⟨wA, wc, nA, nc, h1, h2, h3⟩ := HX.out.st
    have HTS := hid (RX.tailset HX.out hlen h1 h2 h3)
    have hsl := run_from (P := Tryz.prog) Tryz.underlying123 info_rword2 wA ws.length wc 1 hlen w
    rw [show ((1 : Nat) : Int) = 1 from rfl] at hsl
    obtain ⟨⟨q0, q1, q2, q3, q4, q5⟩, f1, f3, f4, f5⟩ := six_cellsR h2
    clear h1 h2 h3 HX
    generalize ws.length = n8 at q1 hsl HTS
    go_upto_region 5 with (fail)
    refine at_world (fun u => RX p u ws.tail o 0 0) HTS.out ?_
    clear HTS q0 q1 q2 q3 q4 q5 f1 f3 f4 f5 hsl
    rintro w3 hx
    have HX3 := hid hx
    clear hx
    go_wp2_with fail
    refine (HC.out w3 HX3.out).mono ?_
    rintro e w4 ⟨rfl, hx⟩
    have HX4 : Hid (∃ ws2 o2 kk cc, (RX p w4 ws2 o2 kk cc ∧ o2.length + ws2.length < lim) ∧ ((cc = 0 ∧ kk = 0 ∧ .ok ws2 (o2 ++ [(3, 0)]) = RR) ∨ (cc ≠ 0 ∧ .er kk cc = RR))) := by
      have hR := HRR.out
      have hL := HLM.out
      cases hS : rp p.T p.E n .one ws.tail o with
      | ok r q =>
        rw [hS] at hx hR
        have g2 := rp_len _ _ _ _ _ _ _ _ hS
        rw [List.length_tail] at g2
        exact ⟨r, q, 0, 0, ⟨hx, by omega⟩, .inl ⟨rfl, rfl, hR⟩⟩
      | er k c =>
        rw [hS] at hx hR
        obtain ⟨hc, ws2, o2, hl2, hx2⟩ := hx
        rw [List.length_tail] at hl2
        exact ⟨ws2, o2, k, c, ⟨hx2, by omega⟩, .inr ⟨hc, hR⟩⟩
    clear hx HC HX3 HRR
    obtain ⟨ws2, o2, kk, cc, ⟨hx, hl⟩, h9⟩ := HX4.out
    clear HX4
    have HX4 := hid hx
    have HL4 := hid hl
    have H9 := hid h9
    have HLI := hid HBD.out
    clear hx hl h9
    have hbd9 : o2.length + ws2.length < 1000 := (by have h1 := HL4.out; have h2 := HLI.out; omega)
    obtain ⟨wA, wc, nA, nc, h1, h2, h3⟩ := HX4.out.st
    have HP9 := hid (fun w' A' c' k1 k2 k3 => HX4.out.push (w' := w') (x := (3, 0)) (A' := A') (c' := c') hbd9 h1 h2 h3 k1 k2 k3)
    have HO9 := hid h3
    have hbs9 := HX4.out.bel.size
    have hol9 : o2.length < 1000 := by omega
    obtain ⟨⟨q0, q1, q2, q3, q4, q5⟩, f1, f3, f4, f5⟩ := six_cellsR h2
    clear h1 h2 h3 hbd9 HX4
    generalize o2.length = n9 at q3 HP9 HO9 hol9
    go_wp2_with (at_builtin; refine wpList_append_1k (W := w4) rfl (.tmp 43) (.tmp 45) 93 rfl p.B 163 Tryz.underlying93 info_node rfl (by omega) rfl HO9.out rfl (by rfl) (by simp [Value.oneCell']) ?c1 ?c2 hbs9 (Below.refl _ _) ?_)
    case c1 => unfold maxLen; omega
    case c2 => omega
    intro v' w6 k1 k2 k3 k4
    obtain ⟨A6, c6, rfl, _⟩ := Sl.of_own k1
    obtain ⟨hb6, hx6⟩ := HP9.out w6 A6 c6 k1 k2 k4
    clear k1 k2 k3 k4 HP9 HO9 q0 q1 q2 q3 q4 q5 f1 f3 f4 f5 hbs9
    obtain ⟨⟨q0, q1, q2, q3, q4, q5⟩, f1, f3, f4, f5⟩ := six_cellsR hb6
    clear hb6
    have HX5 := hid hx6
    clear hx6
    have HZ : Hid (RPost p RR lim (.returned (.tuple #[])) (w6.setCell ⟨p.P, 3, none⟩ (.slice A6 (n9 + 1) c6))) := hid ⟨rfl, by
      rcases H9.out with ⟨rfl, rfl, h9⟩ | ⟨hc, h9⟩
      · rw [← h9]; exact HX5.out
      · rw [← h9]; exact ⟨hc, ws2, o2 ++ [(3, 0)], by have := HL4.out; rw [List.length_append, List.length_singleton]; omega, HX5.out⟩⟩
    clear HX5 HL4 H9
    go_wp2
    go_end0
    exact HZ.out
  by_cases hc42 : hdW ws = [42]
  · rw [hc42, show str [42] = ⟨#[42]⟩ from rfl] at HPK
    have hlen := hd_pos' hc42 (by simp)
    rw [rp_yes _ _ _ _ _ hc42]
    clear hc42 hc33 hb HH1 HH2 hn
    go_enter Tryz.func122, Tryz.ntmps122
    go_wp2_with fail
    refine HPK.out.mono ?_
    rintro e w2 ⟨rfl, rfl⟩
    clear HPK
    go_wp2_with fail
    refine HHE.out.mono ?_
    rintro e w3 ⟨rfl, rfl⟩
    clear HHE
    obtain ⟨wA, wc, nA, nc, h1, h2, h3⟩ := HX.out.st
    have HTS := hid (RX.tailset HX.out hlen h1 h2 h3)
    have hsl := run_from (P := Tryz.prog) Tryz.underlying123 info_rword2 wA ws.length wc 1 hlen w
    rw [show ((1 : Nat) : Int) = 1 from rfl] at hsl
    obtain ⟨⟨q0, q1, q2, q3, q4, q5⟩, f1, f3, f4, f5⟩ := six_cellsR h2
    clear h1 h2 h3 HX
    generalize ws.length = n8 at q1 hsl HTS
    go_upto_region 9 with (fail)
    refine at_world (fun u => RX p u ws.tail o 0 0) HTS.out ?_
    clear HTS q0 q1 q2 q3 q4 q5 f1 f3 f4 f5 hsl
    rintro w3 hx
    have HX3 := hid hx
    clear hx
    have hbd9 : o.length + ws.tail.length < 1000 := (by rw [List.length_tail]; omega)
    obtain ⟨wA, wc, nA, nc, h1, h2, h3⟩ := HX3.out.st
    have HP9 := hid (fun w' A' c' k1 k2 k3 => HX3.out.push (w' := w') (x := (1, 0)) (A' := A') (c' := c') hbd9 h1 h2 h3 k1 k2 k3)
    have HO9 := hid h3
    have hbs9 := HX3.out.bel.size
    have hol9 : o.length < 1000 := by omega
    obtain ⟨⟨q0, q1, q2, q3, q4, q5⟩, f1, f3, f4, f5⟩ := six_cellsR h2
    clear h1 h2 h3 hbd9 HX3
    generalize o.length = n9 at q3 HP9 HO9 hol9
    go_wp2_with (at_builtin; refine wpList_append_1k (W := w3) rfl (.tmp 55) (.tmp 57) 93 rfl p.B 163 Tryz.underlying93 info_node rfl (by omega) rfl HO9.out rfl (by rfl) (by simp [Value.oneCell']) ?c1 ?c2 hbs9 (Below.refl _ _) ?_)
    case c1 => unfold maxLen; omega
    case c2 => omega
    intro v' w6 k1 k2 k3 k4
    obtain ⟨A6, c6, rfl, _⟩ := Sl.of_own k1
    obtain ⟨hb6, hx6⟩ := HP9.out w6 A6 c6 k1 k2 k4
    clear k1 k2 k3 k4 HP9 HO9 q0 q1 q2 q3 q4 q5 f1 f3 f4 f5 hbs9
    obtain ⟨⟨q0, q1, q2, q3, q4, q5⟩, f1, f3, f4, f5⟩ := six_cellsR hb6
    clear hb6
    have HX5 := hid hx6
    clear hx6
    go_wp2
    go_end0
    exact ⟨rfl, HX5.out⟩
  by_cases hc40 : hdW ws = [40]
  · rw [hc40, show str [40] = ⟨#[40]⟩ from rfl] at HPK
    have hlen := hd_pos' hc40 (by simp)
    have HC := hid (fun u hu => HH2.out ws.tail o u (by rw [List.length_tail]; omega) hu)
    obtain ⟨RR, hRR⟩ : ∃ RR, rp p.T p.E (n + 1) .one ws o = RR := ⟨_, rfl⟩
    rw [hRR]
    rw [rp_par _ _ _ _ _ hc40] at hRR
    have HRR := hid hRR
    clear hc33 hc42 hc40 hb HH1 HH2 hn hbd hRR
    go_enter Tryz.func122, Tryz.ntmps122
    go_wp2_with fail
    refine HPK.out.mono ?_
    rintro e w2 ⟨rfl, rfl⟩
    clear HPK
    go_wp2_with fail
    refine HHE.out.mono ?_
    rintro e w3 ⟨rfl, rfl⟩
    clear HHE
    obtain ⟨wA, wc, nA, nc, h1, h2, h3⟩ := HX.out.st
    have HTS := hid (RX.tailset HX.out hlen h1 h2 h3)
    have hsl := run_from (P := Tryz.prog) Tryz.underlying123 info_rword2 wA ws.length wc 1 hlen w
    rw [show ((1 : Nat) : Int) = 1 from rfl] at hsl
    obtain ⟨⟨q0, q1, q2, q3, q4, q5⟩, f1, f3, f4, f5⟩ := six_cellsR h2
    clear h1 h2 h3 HX
    generalize ws.length = n8 at q1 hsl HTS
    go_upto_region 11 with (fail)
    refine at_world (fun u => RX p u ws.tail o 0 0) HTS.out ?_
    clear HTS q0 q1 q2 q3 q4 q5 f1 f3 f4 f5 hsl
    rintro w3 hx
    have HX3 := hid hx
    clear hx
    go_wp2_with fail
    refine (HC.out w3 HX3.out).mono ?_
    rintro e w4 ⟨rfl, hx⟩
    cases hS : rp p.T p.E n .any ws.tail o with
    | er k c =>
      have hR := HRR.out
      rw [hS] at hx hR
      obtain ⟨hc, ws2, o2, hl2, hx2⟩ := hx
      have HX4 := hid hx2
      have HPK := hid (peek_er p w4 ws2 o2 k c hx2 hc)
      have HHE := hid (here_any p w4 ws2 o2 k c hx2)
      have HFE := hid (fail_er p w4 ws2 o2 k (hereW p.E ws2) c 3 hx2 hc)
      have HL4 : Hid (o2.length + ws2.length ≤ lim) := hid (by have := HLM.out; rw [List.length_tail] at hl2; omega)
      have HCC := hid hc
      have HR := hid hR
      clear hS hc hx2 hl2 HC HX3 HRR hR
      go_wp2_with fail
      refine HPK.out.mono ?_
      rintro e w5 ⟨rfl, rfl⟩
      go_wp2_with fail
      refine HHE.out.mono ?_
      rintro e w5 ⟨rfl, rfl⟩
      go_wp2_with fail
      refine HFE.out.mono ?_
      rintro e w5 ⟨rfl, rfl⟩
      obtain rfl := HR.out
      go_wp2
      go_end0
      exact ⟨rfl, HCC.out, ws2, o2, HL4.out, HX4.out⟩
    | ok r q =>
      have hR := HRR.out
      rw [hS] at hx hR
      have g2 := rp_len _ _ _ _ _ _ _ _ hS
      have HX4 : Hid (RX p w4 r q 0 0) := hid hx
      have HL4 : Hid (q.length + r.length ≤ lim) := hid (by have := HLM.out; rw [List.length_tail] at g2; omega)
      have HPK := hid (peek_ok p w4 r q 0 hx)
      have HHE := hid (here_any p w4 r q 0 0 hx)
      have HF := hid (fail_ok p w4 r q 0 (hereW p.E r) 3 hx)
      clear hS g2 hx HC HX3 HRR
      by_cases hs : hdW r = [41]
      · rw [hs, show str [41] = ⟨#[41]⟩ from rfl] at HPK
        have e9 : (RdR.ok r q).shut p.E = .ok r.tail q := by simp only [RdR.shut]; rw [if_pos hs]
        rw [e9] at hR
        have hlen := hd_pos' hs (by simp)
        have HR := hid hR
        clear hs e9 hR HF HHE
        go_wp2_with fail
        refine HPK.out.mono ?_
        rintro e w5 ⟨rfl, rfl⟩
        clear HPK
        obtain ⟨wA, wc, nA, nc, h1, h2, h3⟩ := HX4.out.st
        have HTS := hid (RX.tailset HX4.out hlen h1 h2 h3)
        have hsl := run_from (P := Tryz.prog) Tryz.underlying123 info_rword2 wA r.length wc 1 hlen w4
        rw [show ((1 : Nat) : Int) = 1 from rfl] at hsl
        obtain ⟨⟨q0, q1, q2, q3, q4, q5⟩, f1, f3, f4, f5⟩ := six_cellsR h2
        clear h1 h2 h3 HX4
        generalize r.length = n8 at q1 hsl HTS
        obtain rfl := HR.out
        go_wp2
        go_end0
        exact ⟨rfl, HTS.out⟩
      · have e9 : (RdR.ok r q).shut p.E = .er (hereW p.E r) 3 := by simp only [RdR.shut]; rw [if_neg hs]
        rw [e9] at hR
        have hz := str_ne hs
        generalize str (hdW r) = sx at *
        have j9 : (sx.toList == [41]) = false := by rw [beq_eq_false_iff_ne]; intro e; exact hz (by rw [e]; simp [str, ByteArray.toList_eq])
        have j8 : (sx.toList != [41]) = true := by simpa using j9
        have HR := hid hR
        clear hs e9 hR hz
        go_wp2_with fail
        refine HPK.out.mono ?_
        rintro e w5 ⟨rfl, rfl⟩
        go_wp2_with fail
        refine HHE.out.mono ?_
        rintro e w5 ⟨rfl, rfl⟩
        go_wp2_with fail
        refine HF.out.mono ?_
        rintro e w5 ⟨rfl, hx⟩
        have HX5 := hid hx
        clear hx HF HX4
        obtain rfl := HR.out
        go_wp2
        go_end0
        exact ⟨rfl, by decide, r, q, HL4.out, HX5.out⟩
  have hN : IsN (hdW ws) := ⟨fun e => hb (.inl e), fun e => hb (.inr (.inl e)), fun e => hb (.inr (.inr (.inl e))), fun e => hb (.inr (.inr (.inr e))), hc33, hc40, hc42⟩
  rw [rp_name _ _ _ _ _ hN]
  have hlen := hd_pos' (ws := ws) rfl hN.1
  have HPL := hid (fun u (hu : RX p u ws.tail o 0 0) => rplace_any p.TA p.T.length p.Tc p.T (hdW ws) u (hu.tab.below hu.bel))
  obtain ⟨n1, n2, n3, n4, n5, n6, n7⟩ := hN
  have k1 := str_ne n1
  have k2 := str_ne n2
  have k3 := str_ne n3
  have k4 := str_ne n4
  have k5 := str_ne n5
  have k6 := str_ne n6
  have k7 := str_ne n7
  generalize hpk : placeJ p.T (hdW ws) = pk at *
  generalize str (hdW ws) = s at *
  clear hb hc33 hc40 hc42 n1 n2 n3 n4 n5 n6 n7 hpk HH1 HH2 hn
  have j0 : s.toList.isEmpty = false := by
    rw [List.isEmpty_eq_false_iff]
    intro e
    exact k1 (by rw [e]; simp [str, ByteArray.toList_eq])
  have j2 : (s.toList == [41]) = false := by rw [beq_eq_false_iff_ne]; intro e; exact k2 (by rw [e]; simp [str, ByteArray.toList_eq])
  have j3 : (s.toList == [38]) = false := by rw [beq_eq_false_iff_ne]; intro e; exact k3 (by rw [e]; simp [str, ByteArray.toList_eq])
  have j4 : (s.toList == [124]) = false := by rw [beq_eq_false_iff_ne]; intro e; exact k4 (by rw [e]; simp [str, ByteArray.toList_eq])
  have j5 : (s.toList == [33]) = false := by rw [beq_eq_false_iff_ne]; intro e; exact k5 (by rw [e]; simp [str, ByteArray.toList_eq])
  have j6 : (s.toList == [40]) = false := by rw [beq_eq_false_iff_ne]; intro e; exact k6 (by rw [e]; simp [str, ByteArray.toList_eq])
  have j7 : (s.toList == [42]) = false := by rw [beq_eq_false_iff_ne]; intro e; exact k7 (by rw [e]; simp [str, ByteArray.toList_eq])
  clear k1 k2 k3 k4 k5 k6 k7
  obtain ⟨RR, hR⟩ : ∃ RR, (if pk < 0 ∨ 15 < pk then RdR.er (hereW p.E ws) 5 else .ok ws.tail (o ++ [(2, pk)])) = RR := ⟨_, rfl⟩
  rw [hR]
  have HR := hid hR
  clear hR
  go_enter Tryz.func122, Tryz.ntmps122
  go_wp2_with fail
  refine HPK.out.mono ?_
  rintro e w2 ⟨rfl, rfl⟩
  clear HPK
  go_wp2_with fail
  refine HHE.out.mono ?_
  rintro e w3 ⟨rfl, rfl⟩
  clear HHE
  obtain ⟨wA, wc, nA, nc, h1, h2, h3⟩ := HX.out.st
  have HTS := hid (RX.tailset HX.out hlen h1 h2 h3)
  have hsl := run_from (P := Tryz.prog) Tryz.underlying123 info_rword2 wA ws.length wc 1 hlen w
  rw [show ((1 : Nat) : Int) = 1 from rfl] at hsl
  obtain ⟨⟨q0, q1, q2, q3, q4, q5⟩, f1, f3, f4, f5⟩ := six_cellsR h2
  clear h1 h2 h3 HX
  generalize ws.length = n8 at q1 hsl HTS
  go_upto_region 15 with (fail)
  refine at_world (fun u => RX p u ws.tail o 0 0) HTS.out ?_
  clear HTS q0 q1 q2 q3 q4 q5 f1 f3 f4 f5 hsl
  rintro w3 hx
  have HX3 := hid hx
  clear hx
  obtain ⟨wA, wc, nA, nc, h1, h2, h3⟩ := HX3.out.st
  obtain ⟨⟨q0, q1, q2, q3, q4, q5⟩, f1, f3, f4, f5⟩ := six_cellsR h2
  clear h1 h2 h3 q1 q2 q3 q4 q5 f1 f3 f4 f5
  go_wp2_with fail
  refine (HPL.out w3 HX3.out).mono ?_
  rintro e w4 ⟨rfl, rfl⟩
  clear HPL q0
  by_cases hbad : pk < 0 ∨ 15 < pk
  · have hRe := HR.out
    rw [if_pos hbad] at hRe
    subst hRe
    have HF := hid (fail_ok p w3 ws.tail o 0 (hereW p.E ws) 5 HX3.out)
    have HL4 : Hid (o.length + ws.tail.length ≤ lim) := hid (by have := HLM.out; rw [List.length_tail]; omega)
    clear HR HX3
    rcases hbad with hb | hb
    · go_wp2_with fail
      refine HF.out.mono ?_
      rintro e w5 ⟨rfl, hx⟩
      have HX5 := hid hx
      clear hx HF
      go_wp2
      go_end0
      exact ⟨rfl, by decide, ws.tail, o, HL4.out, HX5.out⟩
    · have hb0 : ¬ pk < 0 := by omega
      go_wp2_with fail
      refine HF.out.mono ?_
      rintro e w5 ⟨rfl, hx⟩
      have HX5 := hid hx
      clear hx HF
      go_wp2
      go_end0
      exact ⟨rfl, by decide, ws.tail, o, HL4.out, HX5.out⟩
  · have hRe := HR.out
    rw [if_neg hbad] at hRe
    subst hRe
    have hb0 : ¬ pk < 0 := by omega
    have hb1 : ¬ 15 < pk := by omega
    clear hbad HR
    have hbd9 : o.length + ws.tail.length < 1000 := (by rw [List.length_tail]; omega)
    obtain ⟨wA, wc, nA, nc, h1, h2, h3⟩ := HX3.out.st
    have HP9 := hid (fun w' A' c' k1 k2 k3 => HX3.out.push (w' := w') (x := (2, pk)) (A' := A') (c' := c') hbd9 h1 h2 h3 k1 k2 k3)
    have HO9 := hid h3
    have hbs9 := HX3.out.bel.size
    have hol9 : o.length < 1000 := by omega
    obtain ⟨⟨q0, q1, q2, q3, q4, q5⟩, f1, f3, f4, f5⟩ := six_cellsR h2
    clear h1 h2 h3 hbd9 HX3
    generalize o.length = n9 at q3 HP9 HO9 hol9
    go_wp2_with (at_builtin; refine wpList_append_1k (W := w3) rfl (.tmp 99) (.tmp 102) 93 rfl p.B 163 Tryz.underlying93 info_node rfl (by omega) rfl HO9.out rfl (by rfl) (by simp [Value.oneCell']) ?c1 ?c2 hbs9 (Below.refl _ _) ?_)
    case c1 => unfold maxLen; omega
    case c2 => omega
    intro v' w6 k1 k2 k3 k4
    obtain ⟨A6, c6, rfl, _⟩ := Sl.of_own k1
    obtain ⟨hb6, hx6⟩ := HP9.out w6 A6 c6 k1 k2 k4
    clear k1 k2 k3 k4 HP9 HO9 q0 q1 q2 q3 q4 q5 f1 f3 f4 f5 hbs9
    obtain ⟨⟨q0, q1, q2, q3, q4, q5⟩, f1, f3, f4, f5⟩ := six_cellsR hb6
    clear hb6
    have HX5 := hid hx6
    clear hx6
    go_wp2
    go_end0
    exact ⟨rfl, HX5.out⟩

theorem read_all (p : PC) : ∀ n, ROne p n ∧ RAll p n ∧ RAny p n := by
  intro n
  induction n using Nat.strongRecOn with
  | _ n ih =>
    cases n with
    | zero => exact ⟨fun ws o w h => absurd h (by omega), fun ws o w h => absurd h (by omega), fun ws o w h => absurd h (by omega)⟩
    | succ n => exact ⟨rone_step p n (ih n (by omega)).1 (ih n (by omega)).2.2, rall_step p n fun m hm => (ih m (by omega)).1, rany_step p n fun m hm => (ih m (by omega)).2.1⟩
end Go.Proofs.YtgakobolhmdnnaaGreat
