/- LedgerCut: the law. -/
import Derived.Test.YtkepfkfoblocgaaQLgK
import Derived.Test.YtkepfkfoblocgaaQR20C
import Derived.Test.YtkepfkfoblocgaaQRlong
import Derived.Test.YtkepfkfoblocgaaQRsame
namespace Go.Proofs.Ytkepfkfoblocgaa
open Go.RowKit Go.Sort
set_option linter.unusedVariables false
set_option linter.unusedSimpArgs false

theorem wf_u16c {n : Int} (h : (Lit.int .u16 n).wf = true) : ∃ s : Nat, n = (s : Int) ∧ s ≤ 65535 := by
  simp only [Lit.wf, IntKind.min, IntKind.max, IntKind.signed, IntKind.bits, Bool.and_eq_true, decide_eq_true_eq] at h
  simp at h
  exact ⟨n.toNat, by omega, by omega⟩
theorem longE_lenC {l : List Rc} {m : Nat} (h : longE l (m : Int) = false) : l.length ≤ m := by
  unfold longE at h
  rw [Bool.or_eq_false_iff] at h
  have := of_decide_eq_false h.2
  omega
theorem wrapC (n : Nat) (h : n ≤ 65535) : IntKind.i64.wrap (n : Int) = (n : Int) := by rw [IntKind.wrap_i64]; omega
theorem wrapL (n m : Nat) (h : n = m + 1) (h2 : n ≤ 40) : IntKind.i64.wrap ((n : Int) - 1) = (m : Int) := by rw [IntKind.wrap_i64]; omega
theorem r20step_both (A : Option Addr) (c : Nat) (xs : List Ee) (b : List En) (hxb : xs.map (·.1) = b) (x : Rc) (Ax : Option Addr) (cx : Nat) (W : World) (h : InBk W A c xs) (hx : TxAt W Ax cx x.ns) (hn : xs.length ≤ 100000) (hsm : ∀ y ∈ xs, SmE y) :
    Calls Try.prog 80 #[.slice A xs.length c, .agg (rcc x Ax cx)] W fun e w' => ∃ A' c' ys, e = .returned (.tuple #[.slice A' ys.length c', .int .i64 (whyB b x)]) ∧ (whyB b x = 0 → ys.map (·.1) = appB b x ∧ (∀ (T : Nat → Prop) (w2 : World), Tch T w' w2 → (∀ g, T g → ∀ cs t fr, w'.heap[g]? = some (.cells cs t fr) → t ≠ 93 ∧ t ≠ 9 ∧ t ≠ 3 ∧ t ≠ 4) → InBk w2 A c xs → TxAt w2 Ax cx x.ns → InBk w2 A' c' ys)) ∧ RowKit.Below W.heap.size W w' := by
  subst hxb
  by_cases hw : whyB (xs.map (·.1)) x = 0
  · refine (r20step_any A c xs x Ax cx W h hx hn hsm hw).mono ?_
    rintro e w' ⟨A', c', ys, rfl, hm, hp, hb⟩
    exact ⟨A', c', ys, by rw [hw], fun _ => ⟨hm, hp⟩, hb⟩
  · refine (r20step_no A c xs x Ax cx W h hx hw).mono ?_
    rintro e w' ⟨rfl, hb⟩
    exact ⟨none, 0, [], rfl, fun h9 => absurd h9 hw, hb⟩
set_option maxRecDepth 20000 in
set_option maxHeartbeats 8000000 in
theorem ledgerCut_law (fz : Nat) (hfz : fz ≤ 65535) (A : Option Addr) (c : Nat) (els : List El) (W : World) (h : InR W A c els) :
    Calls Try.prog 13 #[.slice A els.length c, .int .u16 (fz : Int)] W fun e w' => e = .returned (.bool true) ∧ RowKit.Below W.heap.size W w' := by
  have HX := hid h
  have HK := hid (fun w => works21_any w)
  have HLO := hid (r18long_any A c els 40 W h)
  have hll : els.length ≤ 9223372036854775807 := by have h1 := h.1.2.1; have h2 := h.1.2.2.1; unfold maxLen at h2; omega
  have HLN := hid (fun h9 => longE_lenC (l := els.map (·.1)) (m := 40) h9)
  rw [List.length_map] at HLN
  simp only [show ((40 : Nat) : Int) = 40 from rfl] at HLN
  have HN := hid (fun w => dnew_in 65536 (by decide) w)
  have HO1 := hid (fun D w (h : DiskAt w D 65536 [] false 0) => lopen0_any 65536 w h (by decide))
  simp only [show ((65536 : Nat) : Int) = 65536 from rfl] at HN HO1
  clear h
  generalize longE (els.map (·.1)) 40 = lb at *
  have hcv := wrapC fz hfz
  go_enter Try.func13, Try.ntmps13
  go_wp2_with fail
  refine HLO.out.mono ?_
  rintro e w1 ⟨rfl, hb1⟩
  have HB1 := hid hb1
  clear hb1 HLO
  cases lb
  case true =>
    go_wp2_with fail
    refine (HK.out w1).mono ?_
    rintro e wz ⟨rfl, hbz⟩
    have HBZ := hid (HB1.out.trans (hbz.mono HB1.out.size))
    clear hbz
    go_wp2
    go_ret
    exact ⟨rfl, HBZ.out⟩
  have hel := HLN.out rfl
  clear HLN
  rcases Nat.eq_zero_or_pos els.length with h0 | h0
  case inl =>
    have b0 : ((els.length : Int) == 0) = true := by rw [h0]; rfl
    obtain rfl := List.eq_nil_of_length_eq_zero h0
    clear h0
    go_wp2_with fail
    refine (HK.out w1).mono ?_
    rintro e wz ⟨rfl, hbz⟩
    have HBZ := hid (HB1.out.trans (hbz.mono HB1.out.size))
    clear hbz
    go_wp2
    go_ret
    exact ⟨rfl, HBZ.out⟩
  obtain ⟨lst, hlst⟩ : ∃ lst, els.length = lst + 1 := ⟨els.length - 1, by omega⟩
  have hsub := wrapL els.length lst hlst hel
  have hlt : lst < els.length := by omega
  have hltI : (lst : Int) < (els.length : Int) := by omega
  have hl40 : lst ≤ 40 := by omega
  have b0 : ((els.length : Int) == 0) = false := beq_eq_false_iff_ne.mpr (by omega)
  have b00 : ¬ (els.length : Int) = 0 := by omega
  clear hlst
  go_wp2_with fail
  refine (HN.out w1).mono ?_
  rintro e w2 ⟨rfl, hd2, hb2⟩
  have HB2 := hid (HB1.out.trans (hb2.mono HB1.out.size))
  have HD2 := hid hd2
  have hWD : W.heap.size ≤ w1.heap.size := HB1.out.size
  have hDl := hd2.lt
  generalize hb9 : w1.heap.size = D at *
  clear hd2 hb2 HB1 hb9 HN
  go_wp2_with fail
  refine (HO1.out D w2 HD2.out).mono ?_
  rintro e w3 ⟨L, G, A3, c3, Ab3, cb3, rfl, hl3, hL, hG, ht3⟩
  have HB3 := hid (HB2.out.trans (ht3.below W.heap.size (fun g hg _ => by omega) HB2.out.size))
  have HL3 := hid hl3
  have hs3 := ht3.size
  generalize hb9 : w2.heap.size = B at *
  clear hl3 ht3 HB2 HD2 hb9 HO1
  go_wp2
  go_loopw [9] (fun i wr => ∃ (n : Nat) (A' : Option Addr) (c' : Nat) (els' : List El) (Ab : Option Addr) (cb : Nat) (xs : List Ee) (s : LgS), n ≤ lst ∧ i = .int .i64 (n : Int) ∧ Hid (LgAt wr B L G D s A' c' els' Ab cb xs) ∧ Hid (CtI s (xs.map (·.1)) (els'.map (·.1)) ∧ s.R = 65536 ∧ els'.length ≤ n) ∧ B ≤ wr.heap.size ∧ Hid (RowKit.Below W.heap.size W wr)) (fun i _ => lst - (intOf i).toNat)
  case atStart => exact ⟨0, A3, c3, [], Ab3, cb3, [], _, by omega, rfl, HL3, hid ⟨⟨⟨okB_nil, fun e he => (by cases he), rfl, rfl, Nat.zero_le _, rfl, rfl⟩, rfl, recS_nil, rfl⟩, rfl, Nat.le_refl _⟩, hs3, HB3⟩
  case round =>
    obtain ⟨n, A', c', els', Ab, cb, xs, s, hnl, rfl, HL, HR, hBw, HB⟩ := hrel
    clear HL3 HB3
    by_cases hln : n < lst
    · have hlt2 : (n : Int) < (lst : Int) := by omega
      have hltn : n < els.length := by omega
      have hltn2 : (n : Int) < (els.length : Int) := by omega
      have i0 : ¬ (n : Int) < 0 := by omega
      have hsl := (HX.out.below HB.out).1
      obtain ⟨b, off, rfl, _⟩ := hsl.2.2.2 (by rw [ecells_length]; omega)
      obtain ⟨q0, q1, q2, q3, q4, q5, q6⟩ := Sl.el hsl n hltn
      have ht := (HX.out.2 els[n] (List.getElem_mem hltn)).below HB.out
      generalize els[n]'hltn = ee at *
      obtain ⟨x, Ae, ce⟩ := ee
      simp only at q0 q1 q2 q3 q4 q5 q6 ht
      have HP := hid (lput_any x Ae ce wr HL.out ht hBw (by rw [HR.out.1.rm.room, HR.out.2.1]; omega) HR.out.1.rm.len (by have := HR.out.2.2; omega) (by rw [HR.out.2.1]; omega) (by rw [HR.out.1.rm.kp]; have := HR.out.1.rm.le; have := HR.out.2.1; omega))
      unfold PutR at HP
      have HST := hid (ct_step x HR.out.1)
      have HRR := hid HR.out.2
      clear hsl ht HR
      obtain ⟨k, j, t, wk, sd, ep, ns⟩ := x
      simp only [rcc] at HP
      simp only at q0 q1 q2 q3 q4 q5 q6
      generalize lgE s (xs.map (·.1)) ⟨k, j, t, wk, sd, ep, ns⟩ = rv at *
      go_wp2_with fail
      refine HP.out.mono ?_
      rintro e w5 ⟨rfl, A5, c5, els5, Ab5, cb5, xs5, hl5, hx5, he5, ht5⟩
      have HL5 := hid hl5
      have HB5 := hid (HB.out.trans (ht5.below W.heap.size (fun g hg _ => by
        rcases hg with h1 | h1 | h1 | h1
        · omega
        · omega
        · omega
        · have := (own_lt HL.out.2.1.2.2.1 g h1).1
          omega) HB.out.size))
      have hB5 : B ≤ w5.heap.size := Nat.le_trans hBw ht5.size
      have HR5 : Hid (CtI (lgN s (xs.map (·.1)) ⟨k, j, t, wk, sd, ep, ns⟩) (xs5.map (·.1)) (els5.map (·.1)) ∧ (lgN s (xs.map (·.1)) ⟨k, j, t, wk, sd, ep, ns⟩).R = 65536 ∧ els5.length ≤ n + 1) := hid (by
        refine ⟨by rw [hx5, he5]; exact HST.out.1, HST.out.2.trans HRR.out.1, ?_⟩
        have h9 := congrArg List.length he5
        have h8 := HRR.out.2
        split at h9 <;> simp at h9 <;> omega)
      clear hl5 hx5 he5 ht5 HP HST HL HB q0 q1 q2 q3 q4 q5 q6 HRR
      generalize lgN s (xs.map (·.1)) ⟨k, j, t, wk, sd, ep, ns⟩ = s5 at *
      go_wp2
      go_roundw
      case rel => exact ⟨n + 1, A5, c5, els5, Ab5, cb5, xs5, s5, by omega, by go_num, HL5, HR5, hB5, HB5⟩
      case measure => simp [intOf]; omega
    · have hge : ¬ (n : Int) < (lst : Int) := by omega
      have i0 : ¬ (lst : Int) < 0 := by omega
      obtain ⟨R, kp, room, l, ar, fu, dn⟩ := s
      obtain rfl : dn = false := HR.out.1.rm.dn
      obtain rfl : ar = false := HR.out.1.ar
      obtain rfl : R = 65536 := HR.out.2.1
      obtain rfl : room = 65536 := HR.out.1.rm.room
      have hkp : kp ≤ 65536 := by have h8 := HR.out.1.rm.kp; have h9 := HR.out.1.rm.le; simp only at h8 h9; omega
      have hlen : l.length ≤ 65536 := HR.out.1.rm.len
      have hels : els'.length ≤ 100000 := by have := HR.out.2.2; omega
      have HCT := hid HR.out.1
      have HOK := hid HL.out.2.2.2
      obtain ⟨hGD, hLD, hLG, hLo, hLl, hGl, hDl2⟩ := HL.out.ne
      have HTB : Hid (∀ g, LgT L G D A' els'.length c' g → W.heap.size ≤ g) := hid (fun g hg => by
        rcases hg with h1 | h1 | h1 | h1
        · omega
        · omega
        · omega
        · have := (own_lt HL.out.2.1.2.2.1 g h1).1
          omega)
      go_wp2_with fail
      refine (lbook_any wr HL.out).mono ?_
      rintro e w5 ⟨A7, c7, xw, rfl, hm7, hr7, hb7⟩
      have HL5 := hid (HL.out.below hb7)
      have HB5 := hid (HB.out.trans (hb7.mono HB.out.size))
      have HW5 := hid hr7
      have hB5 : B ≤ w5.heap.size := Nat.le_trans hBw hb7.size
      have HOK7 : Hid (OkB (xw.map (·.1))) := hid (by rw [hm7]; exact HOK.out)
      have HM7 := hid hm7
      clear hm7 hr7 hb7 HL HB HR
      generalize hbx : xs.map (·.1) = b at *
      have HBX := hid hbx
      clear hbx
      have hsl := (HX.out.below HB5.out).1
      obtain ⟨bk, off, rfl, _⟩ := hsl.2.2.2 (by rw [ecells_length]; omega)
      have HEL := hid (fun w (hw : RowKit.Below W.heap.size W w) => Sl.el ((HX.out.below hw).1) lst hlt)
      have HTX := hid (fun w (hw : RowKit.Below W.heap.size W w) => (HX.out.2 els[lst] (List.getElem_mem hlt)).below hw)
      obtain ⟨q0, q1, q2, q3, q4, q5, q6⟩ := Sl.el hsl lst hlt
      generalize els[lst]'hlt = ee at *
      obtain ⟨x, Ae, ce⟩ := ee
      simp only at q0 q1 q2 q3 q4 q5 q6 HEL HTX
      have HST := hid (r20step_both A7 c7 xw b HM7.out x Ae ce w5 HW5.out.inBk (HTX.out w5 HB5.out) (by have := okB_len HOK7.out; omega) (okB_sm HOK7.out))
      have HC := ct_cut fz x HCT.out (Nat.le_refl _) ⟨65536, kp, 65536, l, true, fz, false⟩ rfl
      have HPT := hid (fun w (hL : LgAt w B L G D ⟨65536, kp, 65536, l, true, fz, false⟩ A' c' els' Ab cb xs) (hw : RowKit.Below W.heap.size W w) (hB : B ≤ w.heap.size) => lput_any x Ae ce w hL (HTX.out w hw) hB (Nat.le_refl _) hlen hels (by show (65536 : Nat) ≤ 1000000; omega) (by show kp ≤ 1000000; omega))
      unfold PutR at HPT
      rw [HBX.out] at HPT
      generalize lgE ⟨65536, kp, 65536, l, true, fz, false⟩ b x = rv at *
      generalize lgN ⟨65536, kp, 65536, l, true, fz, false⟩ b x = s2 at *
      generalize whyB b x = wv at *
      obtain ⟨hc1, hc2, hc3, hc4, hc5, hc6⟩ := HC
      simp only [if_neg hc1] at HPT
      have hrv0 : (rv == 0) = false := by simpa using hc1
      have HC2 := hid hc2
      have HC3 := hid hc3
      have HC4 := hid hc4
      have HC5 := hid hc5
      have HC6 := hid hc6
      clear hsl hc1 hc2 hc3 hc4 hc5 hc6
      obtain ⟨k, j, t, wk, sd, ep, ns⟩ := x
      simp only [rcc] at HST HPT
      simp only at q0 q1 q2 q3 q4 q5 q6
      go_wp2_with fail
      refine HST.out.mono ?_
      rintro e w6 ⟨A8, c8, ys, rfl, hy, hb6⟩
      have HY6 := hid hy
      have HL6 := hid (HL5.out.below hb6)
      have HB6 := hid (HB5.out.trans (hb6.mono HB5.out.size))
      have HW6 := hid (HW5.out.keep hb6)
      have HTY := hid (lgT_ty HL6.out)
      have hB6 : B ≤ w6.heap.size := Nat.le_trans hB5 hb6.size
      clear hy hb6 HST HL5 HB5 HW5 q0 q1 q2 q3 q4 q5 q6
      have HFZ := hid (dfuse_any D 65536 l false fu (fz : Int) w6 HL6.out.2.1.2.1)
      rw [decide_eq_true (show (0 : Int) ≤ (fz : Int) by omega), Int.toNat_natCast] at HFZ
      go_wp2_with fail
      refine HFZ.out.mono ?_
      rintro e w7 ⟨⟨v7, rfl⟩, hd7, ho7⟩
      have ht7 : Tch (fun g => g = D) w6 w7 := Tch.of_only ho7 rfl HL6.out.2.1.2.1.lt
      have HT7 : Hid (Tch (LgT L G D A' els'.length c') w6 w7) := hid (ht7.mono (fun g hg _ => .inr (.inl hg)))
      have HL7 : Hid (LgAt w7 B L G D ⟨65536, kp, 65536, l, true, fz, false⟩ A' c' els' Ab cb xs) := hid ⟨ho7.block HL6.out.1 hLD, HL6.out.2.1.only hd7 ho7 hGD, HL6.out.2.2.1.tch ht7 (fun g hg cs t fr h9 => (dk_ty HL6.out.2.1.2.1 g hg cs t fr h9).2), HL6.out.2.2.2⟩
      have HB7 := hid (HB6.out.trans (HT7.out.below W.heap.size (fun g hg _ => HTB.out g hg) HB6.out.size))
      have hB7 : B ≤ w7.heap.size := Nat.le_trans hB6 HT7.out.size
      clear ht7 hd7 ho7 HFZ HL6
      obtain ⟨q0, q1, q2, q3, q4, q5, q6⟩ := HEL.out w7 HB7.out
      go_wp2_with fail
      refine (HPT.out w7 HL7.out HB7.out hB7).mono ?_
      rintro e w8 ⟨rfl, A9, c9, els9, Ab9, cb9, xs9, hl9, hx9, _, ht9⟩
      have HL8 := hid hl9
      have HX9 := hid hx9
      have HT8 := hid (HT7.out.trans ht9 (fun g hg _ => hg))
      clear hl9 hx9 ht9 HPT HL7 HT7 HB7 q0 q1 q2 q3 q4 q5 q6
      go_wp2_with fail
      refine (lbook_any w8 HL8.out).mono ?_
      rintro e w9 ⟨A10, c10, xz, rfl, hm10, hr10, hb10⟩
      have HL9 := hid (HL8.out.below hb10)
      have HT9 := hid (HT8.out.grow hb10)
      have HS9 := r20same_any A10 A7 c10 c7 xz xw w9 hr10.inBk (HW6.out.tch HT9.out (fun g hg cs t fr h9 => (HTY.out g hg cs t fr h9).2)).inBk
      rw [decide_eq_true ((hm10.trans HX9.out).trans HM7.out.symm)] at HS9
      have HSS9 := hid HS9
      clear HS9 hm10 hr10 hb10 HL8 HT8
      go_wp2_with fail
      refine HSS9.out.mono ?_
      rintro e w10 ⟨rfl, hb11⟩
      have HL10 := hid (HL9.out.below hb11)
      have HT10 := hid (HT9.out.grow hb11)
      clear hb11 HSS9 HL9 HT9
      by_cases h14 : rv = 14
      case pos =>
        obtain rfl := h14
        have hw0 := HC3.out rfl
        subst hw0
        have hdn : s2.down = true := by rw [HC2.out]; simp
        have HDW := hid (ldown_any w10 HL10.out)
        rw [hdn] at HDW
        clear hdn
        go_wp2_with fail
        refine HDW.out.mono ?_
        rintro e wd ⟨rfl, rfl⟩
        clear HDW
        have HOP := hid (lopen_any 65536 w10 HL10.out.2.1.2.1 HC4.out (by decide) HC5.out)
        unfold OpenR at HOP
        simp only [show ((65536 : Nat) : Int) = 65536 from rfl] at HOP
        go_wp2_with fail
        refine HOP.out.mono ?_
        rintro e w11 ⟨L2, G2, A11, c11, els11, Ab11, cb11, xs11, rfl, _, hx11, hl11, _, _, ht11⟩
        have HXH : Hid (xs11.map (·.1) = if sizeR ⟨k, j, t, wk, sd, ep, ns⟩ ≤ fz then appB b ⟨k, j, t, wk, sd, ep, ns⟩ else b) := hid (by rw [hx11, HC6.out]; simp only [true_and])
        have HH := hid hl11
        have HT11 := hid (HT10.out.trans ht11 (fun g hg _ => .inr (.inl hg)))
        have HB11 := hid (HB6.out.trans (HT11.out.below W.heap.size (fun g hg _ => HTB.out g hg) HB6.out.size))
        clear hx11 hl11 ht11 HOP HL10 HT10
        obtain ⟨q0, q1, q2, q3, q4, q5, q6⟩ := HEL.out w11 HB11.out
        go_wp2_with fail
        refine (ldown_any w11 HH.out).mono ?_
        rintro e wd ⟨rfl, rfl⟩
        have HSZ := hid (recsize_any ⟨k, j, t, wk, sd, ep, ns⟩ Ae ce w11 (HTX.out w11 HB11.out))
        simp only [rcc] at HSZ
        go_wp2_with fail
        refine HSZ.out.mono ?_
        rintro e w11b ⟨rfl, hbs⟩
        replace HH := hid (HH.out.below hbs)
        replace HT11 := hid (HT11.out.grow hbs)
        clear hbs HSZ HB11 q0 q1 q2 q3 q4 q5 q6
        by_cases hz : sizeR ⟨k, j, t, wk, sd, ep, ns⟩ ≤ fz
        case pos =>
          rw [if_pos hz] at HXH
          have hzI : (sizeR ⟨k, j, t, wk, sd, ep, ns⟩ : Int) ≤ (fz : Int) := by omega
          generalize sizeR ⟨k, j, t, wk, sd, ep, ns⟩ = sz at *
          go_wp2_with fail
          refine (lbook_any w11b HH.out).mono ?_
          rintro e w12 ⟨A12, c12, xv, rfl, hm12, hr12, hb12⟩
          have HT12 := hid (HT11.out.grow hb12)
          have HIW := hid (HW6.out.tch HT12.out (fun g hg cs t fr h9 => (HTY.out g hg cs t fr h9).2)).inBk
          have HB12 := hid (HB6.out.trans (HT12.out.below W.heap.size (fun g hg _ => HTB.out g hg) HB6.out.size))
          have HIN := hid ((HY6.out (by trivial)).2 _ w12 HT12.out (fun g hg cs t fr h9 => (HTY.out g hg cs t fr h9).2) HIW.out (HTX.out w12 HB12.out))
          have HS := r20same_any A12 A8 c12 c8 xv ys w12 hr12.inBk HIN.out
          rw [decide_eq_true ((hm12.trans HXH.out).trans (HY6.out (by trivial)).1.symm)] at HS
          have HSS := hid HS
          clear HS hm12 hr12 hb12 HH
          go_wp2_with fail
          refine HSS.out.mono ?_
          rintro e w13 ⟨rfl, hb13⟩
          have HB13 := hid (HB12.out.trans (hb13.mono HB12.out.size))
          clear hb13 HSS HT12 HIW HB12
          go_wp2_with fail
          refine (HK.out w13).mono ?_
          rintro e wz ⟨rfl, hbz⟩
          have HBZ := hid (HB13.out.trans (hbz.mono HB13.out.size))
          clear hbz
          go_wp2
          go_ret
          exact ⟨rfl, HBZ.out⟩
        case neg =>
          rw [if_neg hz] at HXH
          have hzI : ¬ (sizeR ⟨k, j, t, wk, sd, ep, ns⟩ : Int) ≤ (fz : Int) := by omega
          generalize sizeR ⟨k, j, t, wk, sd, ep, ns⟩ = sz at *
          go_wp2_with fail
          refine (lbook_any w11b HH.out).mono ?_
          rintro e w12 ⟨A12, c12, xv, rfl, hm12, hr12, hb12⟩
          have HT12 := hid (HT11.out.grow hb12)
          have HIW := hid (HW6.out.tch HT12.out (fun g hg cs t fr h9 => (HTY.out g hg cs t fr h9).2)).inBk
          have HB12 := hid (HB6.out.trans (HT12.out.below W.heap.size (fun g hg _ => HTB.out g hg) HB6.out.size))
          have HS := r20same_any A12 A7 c12 c7 xv xw w12 hr12.inBk HIW.out
          rw [decide_eq_true ((hm12.trans HXH.out).trans HM7.out.symm)] at HS
          have HSS := hid HS
          clear HS hm12 hr12 hb12 HH
          go_wp2_with fail
          refine HSS.out.mono ?_
          rintro e w13 ⟨rfl, hb13⟩
          have HB13 := hid (HB12.out.trans (hb13.mono HB12.out.size))
          clear hb13 HSS HT12 HIW HB12
          go_wp2_with fail
          refine (HK.out w13).mono ?_
          rintro e wz ⟨rfl, hbz⟩
          have HBZ := hid (HB13.out.trans (hbz.mono HB13.out.size))
          clear hbz
          go_wp2
          go_ret
          exact ⟨rfl, HBZ.out⟩
      case neg =>
        have hdn : s2.down = false := by rw [HC2.out]; exact decide_eq_false h14
        have b14 : (rv == 14) = false := by simpa using h14
        have HDW := hid (ldown_any w10 HL10.out)
        rw [hdn] at HDW
        clear hdn
        go_wp2_with fail
        refine HDW.out.mono ?_
        rintro e wd ⟨rfl, rfl⟩
        clear HDW
        have HOP := hid (lopen_any 65536 w10 HL10.out.2.1.2.1 HC4.out (by decide) HC5.out)
        unfold OpenR at HOP
        simp only [show ((65536 : Nat) : Int) = 65536 from rfl] at HOP
        go_wp2_with fail
        refine HOP.out.mono ?_
        rintro e w11 ⟨L2, G2, A11, c11, els11, Ab11, cb11, xs11, rfl, _, hx11, hl11, _, _, ht11⟩
        have HXH : Hid (xs11.map (·.1) = b) := hid (by rw [hx11, HC6.out]; exact if_neg (fun h9 => h14 h9.1))
        have HH := hid hl11
        have HT11 := hid (HT10.out.trans ht11 (fun g hg _ => .inr (.inl hg)))
        have HB11 := hid (HB6.out.trans (HT11.out.below W.heap.size (fun g hg _ => HTB.out g hg) HB6.out.size))
        clear hx11 hl11 ht11 HOP HL10 HT10
        obtain ⟨q0, q1, q2, q3, q4, q5, q6⟩ := HEL.out w11 HB11.out
        go_wp2_with fail
        refine (ldown_any w11 HH.out).mono ?_
        rintro e wd ⟨rfl, rfl⟩
        go_wp2_with fail
        refine (lbook_any w11 HH.out).mono ?_
        rintro e w12 ⟨A12, c12, xv, rfl, hm12, hr12, hb12⟩
        have HT12 := hid (HT11.out.grow hb12)
        have HIW := hid (HW6.out.tch HT12.out (fun g hg cs t fr h9 => (HTY.out g hg cs t fr h9).2)).inBk
        have HB12 := hid (HB6.out.trans (HT12.out.below W.heap.size (fun g hg _ => HTB.out g hg) HB6.out.size))
        have HS := r20same_any A12 A7 c12 c7 xv xw w12 hr12.inBk HIW.out
        rw [decide_eq_true ((hm12.trans HXH.out).trans HM7.out.symm)] at HS
        have HSS := hid HS
        clear HS hm12 hr12 hb12 HH
        go_wp2_with fail
        refine HSS.out.mono ?_
        rintro e w13 ⟨rfl, hb13⟩
        have HB13 := hid (HB12.out.trans (hb13.mono HB12.out.size))
        clear hb13 HSS HT12 HIW HB12
        go_wp2_with fail
        refine (HK.out w13).mono ?_
        rintro e wz ⟨rfl, hbz⟩
        have HBZ := hid (HB13.out.trans (hbz.mono HB13.out.size))
        clear hbz
        go_wp2
        go_ret
        exact ⟨rfl, HBZ.out⟩
end Go.Proofs.Ytkepfkfoblocgaa
