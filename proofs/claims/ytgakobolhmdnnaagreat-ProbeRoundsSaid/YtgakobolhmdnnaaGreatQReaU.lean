/- The document's Need: contract. -/
import Derived.Test.YtgakobolhmdnnaaGreatQReaT
namespace Go.Proofs.YtgakobolhmdnnaaGreat
open Go.RowKit
set_option linter.unusedVariables false
set_option linter.unusedSimpArgs false

set_option maxRecDepth 20000 in
set_option maxHeartbeats 4000000 in
theorem rneed_any (TA : Option Addr) (Tc : Nat) (T : List (List UInt8)) (l : List UInt8) (W : World) (hT : Sl W 1 TA T.length Tc (scells T)) (hl : l.length ≤ 1000) :
    Calls Tryz.prog 50 #[.slice TA T.length Tc, .string (str l)] W fun e w' => NdAns T l W e w' := by
  have HW := hid (rwords_is l hl W)
  have HCT := hid (fun u => rrunes_is l hl u)
  have HT := hid hT
  have hwl := lexW_len l
  by_cases he : (lexW l).2.2 = 0
  · have HER : Hid (∀ k c, rdTop T (rns l 0).length (lexW l).1 = .er k c → ndT T l = ([], k, c)) := hid fun k c h => ndT_er he h
    have HOK : Hid (∀ r o, rdTop T (rns l 0).length (lexW l).1 = .ok r o → (chkN o = 0 → ndT T l = (o, 0, 0)) ∧ (chkN o ≠ 0 → ndT T l = ([], 0, chkN o)) ∧ o.length ≤ 200) := hid fun r o h => ⟨ndT_ok he h, ndT_bad he h, Nat.le_trans (rdTop_len h) hwl⟩
    rw [he] at HW
    have hwl2 := hid hwl
    clear hT hl hwl he
    generalize hat : (lexW l).2.1 = at0 at HW
    clear hat
    generalize hws : (lexW l).1 = ws at *
    clear hws
    generalize hrl : (rns l 0).length = E at *
    have HRL := hid hrl
    clear hrl
    generalize str l = s at *
    go_enter Tryz.func50, Tryz.ntmps50
    go_wp2_with fail
    refine HW.out.mono ?_
    rintro e w1 ⟨A0, c0, rfl, ho, hb⟩
    have HO1 := hid ho
    have HB1 := hid hb
    clear ho hb HW
    go_wp2_with fail
    refine (HCT.out w1).mono ?_
    rintro e w2 ⟨Ar, cr, rfl, _, hb⟩
    have HRX : Hid (RX ⟨W, w2.heap.size, TA, Tc, T, A0, c0, ws, E, W⟩ (w2.alloc (.cells #[.slice TA T.length Tc, .slice A0 ws.length c0, .int .i64 (E : Nat), .slice none 0 0, .int .i64 0, .int .i64 0] 130)) ws [] 0 0) := hid (RX.start HT.out (own_keep HO1.out hb) (HB1.out.trans (hb.mono HB1.out.size)) hwl2.out)
    obtain ⟨q, hq⟩ : ∃ q : PC, q = ⟨W, w2.heap.size, TA, Tc, T, A0, c0, ws, E, W⟩ := ⟨_, rfl⟩
    have F : q.P = w2.heap.size ∧ q.T = T ∧ q.E = E ∧ q.B = W.heap.size ∧ q.W = W := by subst hq; exact ⟨rfl, rfl, rfl, rfl, rfl⟩
    rw [← hq] at HRX
    have HAN : Hid (∀ u, RX q u ws [] 0 0 → Calls Tryz.prog 71 #[.pointer (some ⟨w2.heap.size, 0, none⟩)] u fun e w' => RPost q (rp T E (4 * ws.length + 8) .any ws []) (([] : List (Int × Int)).length + ws.length) e w') := hid fun u hu => by
      have h9 := (read_all q (4 * ws.length + 8)).2.2 ws [] u (by omega) hu
      rw [F.1, F.2.1, F.2.2.1] at h9
      exact h9
    have HFF := hid F
    have hE9 : Hid ((rns l 0).length = E) := HRL
    clear hq F hb HO1 HB1 HCT hwl2 HT
    go_upto_region 5 with (fail)
    refine at_world (fun u => RX q u ws [] 0 0) HRX.out ?_
    clear HRX
    generalize w2.heap.size = Q at *
    rintro w3 hx3
    have HAN := hid (HAN.out w3 hx3)
    clear hx3
    go_wp2_with fail
    refine HAN.out.mono ?_
    rintro e w4 ⟨rfl, hx⟩
    clear HAN
    cases hS : rp T E (4 * ws.length + 8) .any ws [] with
    | er k c =>
      rw [hS] at hx
      obtain ⟨hc, ws2, o2, hl2, hx2⟩ := hx
      have HX4 := hid hx2
      have HND := hid (HER.out k c (by unfold rdTop; rw [hS]; rfl))
      have HC := hid hc
      clear hS hc hl2 hx2 HER HOK
      by_cases hl : ws2.length = 0
      · obtain ⟨F1, F2, F3, F4, F5⟩ := HFF.out
        obtain ⟨wA, wc, nA, nc, h1, h2, h3⟩ := HX4.out.st
        rw [F1] at h2
        obtain ⟨⟨q0, q1, q2, q3, q4, q5⟩, f1, f3, f4, f5⟩ := six_cellsR h2
        rw [hl] at q1
        clear h1 h2 h3 hl F1 F2 F3 F4 F5 f1 f3 f4 f5
        go_upto_region 8 with (fail)
        clear q0 q1 q2 q3 q4 q5
        obtain ⟨F1, F2, F3, F4, F5⟩ := HFF.out
        obtain ⟨wA8, wc8, nA8, nc8, h1, h2, h3⟩ := HX4.out.st
        rw [F1] at h2
        have HF := hid (NdAns.none HND.out (w' := w4.drew) (below_drew (by have := HX4.out.bel; rw [F4, F5] at this; exact this)))
        obtain ⟨⟨q0, q1, q2, q3, q4, q5⟩, f1, f3, f4, f5⟩ := six_cellsR h2
        have hc := HC.out
        have hc2 : ((c : Int) != 0) = true := bne_iff_ne.mpr hc
        clear h1 h2 h3 F1 F2 F3 F4 F5 HX4 HND HFF HRL hE9 f1 f3 f4 f5 HC
        go_upto_region 9 with (fail)
        go_region
        go_wp2
        refine bodyPost_ret (v := .tuple #[.slice none 0 0, .int .i64 (k : Nat), .int .i64 c]) (by simp [results, Tryz.results50, go_sem]) rfl ?_
        exact HF.out
      · obtain ⟨F1, F2, F3, F4, F5⟩ := HFF.out
        have HHE := hid (here_any q w4 ws2 o2 k c HX4.out)
        have HFA := hid (fail_er q w4 ws2 o2 k (hereW E ws2) c 3 HX4.out HC.out)
        rw [F1, F3] at HHE
        rw [F1] at HFA
        obtain ⟨wA, wc, nA, nc, h1, h2, h3⟩ := HX4.out.st
        rw [F1] at h2
        obtain ⟨⟨q0, q1, q2, q3, q4, q5⟩, f1, f3, f4, f5⟩ := six_cellsR h2
        have hl2 : 0 < ws2.length := by omega
        clear h1 h2 h3 hl F1 F2 F3 F4 F5 f1 f3 f4 f5
        generalize ws2.length = rl at q1 hl2
        have hl3 : (0 : Int) < (rl : Int) := by omega
        go_wp2_with fail
        refine HHE.out.mono ?_
        rintro e w5 ⟨rfl, rfl⟩
        go_wp2_with fail
        refine HFA.out.mono ?_
        rintro e w6 ⟨rfl, rfl⟩
        clear HFA HHE q0 q1 q2 q3 q4 q5 hl2 hl3
        obtain ⟨F1, F2, F3, F4, F5⟩ := HFF.out
        obtain ⟨wA8, wc8, nA8, nc8, h1, h2, h3⟩ := HX4.out.st
        rw [F1] at h2
        have HF := hid (NdAns.none HND.out (w' := w4.drew) (below_drew (by have := HX4.out.bel; rw [F4, F5] at this; exact this)))
        obtain ⟨⟨q0, q1, q2, q3, q4, q5⟩, f1, f3, f4, f5⟩ := six_cellsR h2
        have hc := HC.out
        have hc2 : ((c : Int) != 0) = true := bne_iff_ne.mpr hc
        clear h1 h2 h3 F1 F2 F3 F4 F5 HX4 HND HFF HRL hE9 f1 f3 f4 f5 HC
        go_upto_region 9 with (fail)
        go_region
        go_wp2
        refine bodyPost_ret (v := .tuple #[.slice none 0 0, .int .i64 (k : Nat), .int .i64 c]) (by simp [results, Tryz.results50, go_sem]) rfl ?_
        exact HF.out
    | ok r o =>
      rw [hS] at hx
      have HX4 : Hid (RX q w4 r o 0 0) := hid hx
      by_cases hl : r.length = 0
      · have HOK2 := hid (HOK.out r o (by unfold rdTop; rw [hS]; show (if r.length = 0 then RdR.ok r o else _) = _; rw [if_pos hl]))
        have hol := HOK2.out.2.2
        obtain ⟨F1, F2, F3, F4, F5⟩ := HFF.out
        obtain ⟨wA, wc, nA, nc, h1, h2, h3⟩ := HX4.out.st
        rw [F1] at h2
        rw [F4] at h3
        have HBE : Hid (Below W.heap.size W w4) := hid (by have := HX4.out.bel; rw [F4, F5] at this; exact this)
        obtain ⟨⟨q0, q1, q2, q3, q4, q5⟩, f1, f3, f4, f5⟩ := six_cellsR h2
        have HO4 := hid h3
        have HCK := hid (rcheck09_any nA nc o w4 (sl_own h3) (by omega))
        rw [hl] at q1
        clear hS hx h1 h2 h3 hl F1 F2 F3 F4 F5 HX4 HER HOK HFF HRL hE9 f1 f3 f4 f5
        go_wp2_with fail
        refine HCK.out.mono ?_
        rintro e w5 ⟨rfl, hb⟩
        have HO5 := hid (own_keep HO4.out hb)
        have HB5 := hid (HBE.out.trans (hb.mono HBE.out.size))
        replace q3 := cellb hb q3
        clear hb HO4 HBE HCK q0 q1 q2 q4 q5
        by_cases hz : chkN o = 0
        · have hnd := HOK2.out.1 hz
          have HF : Hid (NdAns T l W (.returned (.tuple #[.slice nA o.length nc, .int .i64 0, .int .i64 0])) w5) := hid ⟨nA, nc, by rw [hnd]; rfl, by rw [hnd]; exact HO5.out, HB5.out⟩
          clear hnd HOK2 hol
          rw [hz]
          clear hz
          go_wp2
          refine bodyPost_ret (v := .tuple #[.slice nA o.length nc, .int .i64 0, .int .i64 0]) (by simp [results, Tryz.results50, go_sem]) rfl ?_
          exact HF.out
        · have hnd := HOK2.out.2.1 hz
          have HF := hid (NdAns.none hnd HB5.out)
          generalize chkN o = z at *
          have hz2 : (z != 0) = true := by simpa using hz
          clear hnd HOK2 hol
          go_wp2
          refine bodyPost_ret (v := .tuple #[.slice none 0 0, .int .i64 0, .int .i64 z]) (by simp [results, Tryz.results50, go_sem]) rfl ?_
          exact HF.out
      · have HND := hid (HER.out (hereW E r) 3 (by unfold rdTop; rw [hS]; show (if r.length = 0 then RdR.ok r o else .er (hereW E r) 3) = _; rw [if_neg hl]))
        have HHE := hid (here_any q w4 r o 0 0 hx)
        have HFA := hid (fail_ok q w4 r o 0 (hereW E r) 3 hx)
        obtain ⟨F1, F2, F3, F4, F5⟩ := HFF.out
        rw [F1, F3] at HHE
        rw [F1] at HFA
        obtain ⟨wA, wc, nA, nc, h1, h2, h3⟩ := HX4.out.st
        rw [F1] at h2
        obtain ⟨⟨q0, q1, q2, q3, q4, q5⟩, f1, f3, f4, f5⟩ := six_cellsR h2
        have hl2 : 0 < r.length := by omega
        clear hS hx h1 h2 h3 hl F1 F2 F3 F4 F5 HER HOK f1 f3 f4 f5
        generalize r.length = rl at q1 hl2
        have hl3 : (0 : Int) < (rl : Int) := by omega
        go_wp2_with fail
        refine HHE.out.mono ?_
        rintro e w5 ⟨rfl, rfl⟩
        go_wp2_with fail
        refine HFA.out.mono ?_
        rintro e w6 ⟨rfl, hx⟩
        have HX6 := hid hx
        have HC := hid (show (3 : Int) ≠ 0 by decide)
        clear hx HFA HHE q0 q1 q2 q3 q4 q5 HX4
        obtain ⟨F1, F2, F3, F4, F5⟩ := HFF.out
        obtain ⟨wA8, wc8, nA8, nc8, h1, h2, h3⟩ := HX6.out.st
        rw [F1] at h2
        have HF := hid (NdAns.none HND.out (w' := w6.drew) (below_drew (by have := HX6.out.bel; rw [F4, F5] at this; exact this)))
        obtain ⟨⟨q0, q1, q2, q3, q4, q5⟩, f1, f3, f4, f5⟩ := six_cellsR h2
        have hc := HC.out
        have hc2 : ((3 : Int) != 0) = true := bne_iff_ne.mpr hc
        clear h1 h2 h3 F1 F2 F3 F4 F5 HX6 HND HFF HRL hE9 f1 f3 f4 f5 HC
        go_upto_region 9 with (fail)
        go_region
        go_wp2
        refine bodyPost_ret (v := .tuple #[.slice none 0 0, .int .i64 (hereW E r : Nat), .int .i64 3]) (by simp [results, Tryz.results50, go_sem]) rfl ?_
        exact HF.out
  · have hnd := ndT_lex (T := T) he
    have HND := hid hnd
    generalize hz : (lexW l).2.2 = z at *
    clear hz hnd
    generalize (lexW l).2.1 = at0 at *
    generalize (lexW l).1 = ws at *
    have hz2 : ((z : Int) != 0) = true := by simp; omega
    clear hT hl hwl HCT HT
    generalize str l = s at *
    go_enter Tryz.func50, Tryz.ntmps50
    go_wp2_with fail
    refine HW.out.mono ?_
    rintro e w1 ⟨A0, c0, rfl, ho, hb⟩
    have HF := hid (NdAns.none HND.out hb)
    clear ho hb HW HND
    go_wp2
    refine bodyPost_ret (v := .tuple #[.slice none 0 0, .int .i64 (at0 : Nat), .int .i64 (z : Nat)]) (by simp [results, Tryz.results50, go_sem]) rfl ?_
    exact HF.out
end Go.Proofs.YtgakobolhmdnnaaGreat
