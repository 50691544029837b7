/- LedgerRoom: the law. -/
import Derived.Test.YtkepfkfoblocgaaLgX
import Derived.Test.YtkepfkfoblocgaaQRlong
import Derived.Test.YtkepfkfoblocgaaQRsame
namespace Go.Proofs.Ytkepfkfoblocgaa
open Go.RowKit Go.Sort
set_option linter.unusedVariables false
set_option linter.unusedSimpArgs false

theorem wf_u16 {n : Int} (h : (Lit.int .u16 n).wf = true) : ∃ s : Nat, n = (s : Int) ∧ s ≤ 65535 := by
  simp only [Lit.wf, IntKind.min, IntKind.max, IntKind.signed, IntKind.bits, Bool.and_eq_true, decide_eq_true_eq] at h
  simp at h
  exact ⟨n.toNat, by omega, by omega⟩
theorem longE_len {l : List Rc} {m : Nat} (h : longE l (m : Int) = false) : l.length ≤ m := by
  unfold longE at h
  rw [Bool.or_eq_false_iff] at h
  have := of_decide_eq_false h.2
  omega
set_option maxRecDepth 20000 in
set_option maxHeartbeats 8000000 in
theorem ledgerRoom_law (room : Nat) (hroom : room ≤ 65535) (A : Option Addr) (c : Nat) (els : List El) (W : World) (h : InR W A c els) :
    Calls Try.prog 12 #[.int .u16 (room : Int), .slice A els.length c] W fun e w' => e = .returned (.bool true) ∧ RowKit.Below W.heap.size W w' := by
  have HX := hid h
  have HK := hid (fun w => works21_any w)
  have HLO := hid (r18long_any A c els 60 W h)
  have hll : els.length ≤ 9223372036854775807 := by have h1 := h.1.2.1; have h2 := h.1.2.2.1; unfold maxLen at h2; omega
  have HLN := hid (fun h9 => longE_len (l := els.map (·.1)) (m := 60) h9)
  rw [List.length_map] at HLN
  simp only [show ((60 : Nat) : Int) = 60 from rfl] at HLN
  clear h
  generalize longE (els.map (·.1)) 60 = lb at *
  have hcv : IntKind.i64.wrap (room : Int) = (room : Int) := by rw [IntKind.wrap_i64]; omega
  go_enter Try.func12, Try.ntmps12
  go_wp2_with fail
  refine HLO.out.mono ?_
  rintro e w1 ⟨rfl, hb1⟩
  have HB1 := hid hb1
  clear hb1 HLO
  cases lb
  case true =>
    go_wp2_with fail
    refine (HK.out w1).mono ?_
    rintro e w2 ⟨rfl, hb2⟩
    have HB2 := hid (HB1.out.trans (hb2.mono HB1.out.size))
    clear hb2
    go_wp2
    go_ret
    exact ⟨rfl, HB2.out⟩
  have hel := HLN.out rfl
  clear HLN
  go_wp2_with fail
  refine (dnew_in room (by omega) w1).mono ?_
  rintro e w2 ⟨rfl, hd2, hb2⟩
  have HB2 := hid (HB1.out.trans (hb2.mono HB1.out.size))
  have HD2 := hid hd2
  have hWD : W.heap.size ≤ w1.heap.size := HB1.out.size
  have hDl := hd2.lt
  generalize hb9 : w1.heap.size = D at *
  clear hd2 hb2 HB1 hb9
  go_wp2_with fail
  refine (lopen0_any room w2 HD2.out (by omega)).mono ?_
  rintro e w3 ⟨L, G, A3, c3, Ab3, cb3, rfl, hl3, hL, hG, ht3⟩
  have HB3 := hid (HB2.out.trans (ht3.below W.heap.size (fun g hg _ => by omega) HB2.out.size))
  have HL3 := hid hl3
  have hs3 := ht3.size
  have HR3 : Hid (RmI ⟨room, 0, room, [], false, 0, false⟩ (([] : List Ee).map (·.1)) ∧ (LgS.mk room 0 room [] false 0 false).armed = false ∧ (LgS.mk room 0 room [] false 0 false).R = room ∧ ([] : List El).length ≤ 0) := hid ⟨⟨okB_nil, fun e he => (by cases he), rfl, rfl, Nat.zero_le _, rfl, rfl⟩, rfl, rfl, Nat.le_refl _⟩
  generalize hb9 : w2.heap.size = B at *
  clear hl3 ht3 HB2 HD2 hb9
  go_wp2
  go_loopw [7] (fun i wr => ∃ (n : Nat) (A' : Option Addr) (c' : Nat) (els' : List El) (Ab : Option Addr) (cb : Nat) (xs : List Ee) (s : LgS), n ≤ els.length ∧ i = .int .i64 (n : Int) ∧ Hid (LgAt wr B L G D s A' c' els' Ab cb xs) ∧ Hid (RmI s (xs.map (·.1)) ∧ s.armed = false ∧ s.R = room ∧ els'.length ≤ n) ∧ B ≤ wr.heap.size ∧ Hid (RowKit.Below W.heap.size W wr)) (fun i _ => els.length - (intOf i).toNat)
  case atStart => exact ⟨0, A3, c3, [], Ab3, cb3, [], _, by omega, rfl, HL3, hid ⟨HR3.out.1, rfl, rfl, Nat.le_refl _⟩, hs3, HB3⟩
  case round =>
    obtain ⟨n, A', c', els', Ab, cb, xs, s, hnl, rfl, HL, HR, hBw, HB⟩ := hrel
    by_cases hlt : n < els.length
    · have hlt2 : (n : Int) < (els.length : Int) := by omega
      have i0 : ¬ (n : Int) < 0 := by omega
      have hsl := (HX.out.below HB.out).1
      obtain ⟨b, off, rfl, _⟩ := hsl.2.2.2 (by rw [ecells_length]; omega)
      have HEL := hid (fun w (hw : RowKit.Below W.heap.size W w) => Sl.el ((HX.out.below hw).1) n hlt)
      obtain ⟨q0, q1, q2, q3, q4, q5, q6⟩ := Sl.el hsl n hlt
      have ht := (HX.out.2 els[n] (List.getElem_mem hlt)).below HB.out
      generalize els[n]'hlt = ee at *
      obtain ⟨x, Ae, ce⟩ := ee
      simp only at q0 q1 q2 q3 q4 q5 q6 ht HEL
      have HP := hid (lput_any x Ae ce wr HL.out ht hBw (by rw [HR.out.1.room, HR.out.2.2.1]; omega) HR.out.1.len (by have := HR.out.2.2.2; omega) (by rw [HR.out.2.2.1]; omega) (by rw [HR.out.1.kp]; have := HR.out.1.le; have := HR.out.2.2.1; omega))
      unfold PutR at HP
      have HST := hid (rm_step x HR.out.1 HR.out.2.1)
      have HRR := hid HR.out.2.2
      clear hsl ht HR
      generalize lgE s (xs.map (·.1)) x = rv at *
      have HRV := hid HST.out.2.2.2
      obtain ⟨k, j, t, wk, sd, ep, ns⟩ := x
      simp only [rcc] at HP
      simp only at q0 q1 q2 q3 q4 q5 q6 HEL HRV
      go_wp2_with fail
      refine HP.out.mono ?_
      rintro e w5 ⟨rfl, A5, c5, els5, Ab5, cb5, xs5, hl5, hx5, he5, ht5⟩
      have HL5 := hid hl5
      have HN5 := hl5.ne
      have HB5 := hid (HB.out.trans (ht5.below W.heap.size (fun g hg _ => by
        rcases hg with h1 | h1 | h1 | h1
        · omega
        · omega
        · omega
        · have := (own_lt HL.out.2.1.2.2.1 g h1).1
          omega) HB.out.size))
      have hB5 : B ≤ w5.heap.size := Nat.le_trans hBw ht5.size
      have HR5 : Hid (RmI (lgN s (xs.map (·.1)) ⟨k, j, t, wk, sd, ep, ns⟩) (xs5.map (·.1)) ∧ (lgN s (xs.map (·.1)) ⟨k, j, t, wk, sd, ep, ns⟩).armed = false ∧ (lgN s (xs.map (·.1)) ⟨k, j, t, wk, sd, ep, ns⟩).R = room ∧ els5.length ≤ n + 1) := hid (by
        refine ⟨by rw [hx5]; exact HST.out.1, HST.out.2.1, HST.out.2.2.1.trans HRR.out.1, ?_⟩
        have h9 := congrArg List.length he5
        have h8 := HRR.out.2
        split at h9 <;> simp at h9 <;> omega)
      clear hl5 hx5 he5 ht5 HP HST HL HB q0 q1 q2 q3 q4 q5 q6 HRR
      generalize lgN s (xs.map (·.1)) ⟨k, j, t, wk, sd, ep, ns⟩ = s5 at *
      obtain ⟨q0, _⟩ := HEL.out w5 HB5.out
      clear HEL HN5
      by_cases h7 : rv = 7
      · subst h7
        have hk1 := HRV.out rfl
        try simp only at hk1 q0
        subst hk1
        clear HRV
        go_wp2
        go_roundw
        case rel => exact ⟨n + 1, A5, c5, els5, Ab5, cb5, xs5, s5, by omega, by go_num, HL5, HR5, hB5, HB5⟩
        case measure => simp [intOf]; omega
      · have h72 : (rv == 7) = false := by simpa using h7
        clear HRV
        go_wp2
        go_roundw
        case rel => exact ⟨n + 1, A5, c5, els5, Ab5, cb5, xs5, s5, by omega, by go_num, HL5, HR5, hB5, HB5⟩
        case measure => simp [intOf]; omega
    · have hge : ¬ (n : Int) < (els.length : Int) := by omega
      have hkp : s.kp ≤ room := by rw [HR.out.1.kp]; have := HR.out.1.le; have := HR.out.2.2.1; omega
      have hkp2 : (s.kp : Int) ≤ (room : Int) := by omega
      go_wp2_with fail
      refine (lkept_any wr HL.out).mono ?_
      rintro e w5 ⟨rfl, rfl⟩
      go_wp2_with fail
      refine (HK.out wr).mono ?_
      rintro e w2 ⟨rfl, hb2⟩
      have HB2 := hid (HB.out.trans (hb2.mono HB.out.size))
      clear hb2
      go_wp2
      go_ret
      exact ⟨rfl, HB2.out⟩
end Go.Proofs.Ytkepfkfoblocgaa
