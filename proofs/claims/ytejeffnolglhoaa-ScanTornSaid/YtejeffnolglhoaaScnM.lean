/- ScanTorn. -/
import Derived.Test.YtejeffnolglhoaaScnK
import Derived.Test.YtejeffnolglhoaaScnL
import Derived.Test.YtejeffnolglhoaaRecE
namespace Go.Proofs.Ytejeffnolglhoaa
open Go.RowKit Go.Sort
set_option linter.unusedVariables false
set_option linter.unusedSimpArgs false

theorem tx_len1 (s : List UInt8) (h : s.length ≤ 200) : (tx s).length ≤ 201 := by
  rw [tx, List.length_append, numB_one _ (by omega)]; omega
theorem txs_len1 : ∀ (l : List (List UInt8)), (∀ s ∈ l, s.length ≤ 200) → (txs l).length ≤ 201 * l.length
  | [], _ => by simp [txs]
  | s :: l, h => by
    have h1 := txs_len1 l (fun x hx => h x (List.mem_cons_of_mem _ hx))
    have h2 := tx_len1 s (h s (List.mem_cons_self ..))
    have e : txs (s :: l) = tx s ++ txs l := by simp [txs]
    rw [e, List.length_append, List.length_cons]; omega
theorem fR_len9 (x : Rc) : (fR x).length ≤ 3300 := by
  unfold fR
  split
  · rename_i h
    have h1 := chkR_ns h
    have h2 := txs_len1 x.ns h1.2
    have h3 := headB_len x
    have h4 : (rb x).length ≤ 3280 := by
      unfold rb
      rw [List.length_append]
      omega
    rw [frP_len _ (by omega)]
    have := (numB_length (rb x).length (by omega)).2
    omega
  · simp
theorem recB_len9 : ∀ l : List Rc, (recB l).length ≤ 3300 * l.length
  | [] => by simp [recB]
  | x :: l => by
    have h1 := recB_len9 l
    have h2 := fR_len9 x
    rw [recB_cons, List.length_append, List.length_cons]; omega
/-- Those of the first k records that are valid. -/
def okE (els : List El) (k : Nat) : List El := (els.take k).filter (fun e => chkR e.1)
theorem okE_zero (els : List El) : okE els 0 = [] := by simp [okE]
theorem okE_yes (els : List El) (k : Nat) (hk : k < els.length) (h : chkR els[k].1 = true) : okE els (k + 1) = okE els k ++ [els[k]] := by
  rw [okE, List.take_succ_eq_append_getElem hk, List.filter_append, okE]
  simp [h]
theorem okE_no (els : List El) (k : Nat) (hk : k < els.length) (h : chkR els[k].1 = false) : okE els (k + 1) = okE els k := by
  rw [okE, List.take_succ_eq_append_getElem hk, List.filter_append, okE]
  simp [h]
theorem okE_len (els : List El) (k : Nat) : (okE els k).length ≤ k := by
  have h1 := List.length_filter_le (fun e : El => chkR e.1) (els.take k)
  rw [List.length_take] at h1
  unfold okE
  omega
theorem okE_mem (els : List El) (k : Nat) (e : El) (h : e ∈ okE els k) : e ∈ els ∧ chkR e.1 = true := by
  unfold okE at h
  rw [List.mem_filter] at h
  exact ⟨List.mem_of_mem_take h.1, h.2⟩
theorem ecells_take : ∀ (l : List El) (k : Nat), ecells (l.take k) = (ecells l).take (k * 7)
  | l, 0 => by simp [ecells]
  | [], k + 1 => by simp [ecells]
  | e :: l, k + 1 => by
    have h1 : ecells (e :: l) = (rcc e.1 e.2.1 e.2.2).toList ++ ecells l := by simp [ecells]
    have h7 : (rcc e.1 e.2.1 e.2.2).toList.length = 7 := by simp [rcc]
    have h2 : ecells (e :: l.take k) = (rcc e.1 e.2.1 e.2.2).toList ++ ecells (l.take k) := by simp [ecells]
    have h3 : (rcc e.1 e.2.1 e.2.2).toList.take ((k + 1) * 7) = (rcc e.1 e.2.1 e.2.2).toList := List.take_of_length_le (by rw [h7]; omega)
    rw [List.take_succ_cons, h1, h2, ecells_take l k, List.take_append, h3, h7, show (k + 1) * 7 - 7 = k * 7 by omega]
theorem InR.take {w : World} {A : Option Addr} {c : Nat} {els : List El} (h : InR w A c els) (k : Nat) (hk : k ≤ els.length) : InR w A c (els.take k) := by
  refine ⟨?_, fun e he => h.2 e (List.mem_of_mem_take he)⟩
  rw [ecells_take, List.length_take, Nat.min_eq_left hk]
  exact h.1.take k hk

set_option maxRecDepth 20000 in
set_option maxHeartbeats 8000000 in
theorem scanTorn_law (A : Option Addr) (c : Nat) (els : List El) (m : Nat) (hm16 : m < 65536) (W : World) (hr : InR W A c els) :
    Calls Try.prog 8 #[.slice A els.length c, .int .u16 (m : Int)] W fun e w' => e = .returned (.bool true) ∧ RowKit.Below W.heap.size W w' := by
  have HW := hid works18_any
  have HL := hid (r18long_any A c els 30 W hr)
  have HLN := hid (fun h => longE_no (l := els.map (·.1)) (most := 30) h)
  rw [List.length_map] at HLN
  have HX := hid hr
  clear hr
  generalize longE (els.map (·.1)) 30 = lg at *
  cases lg
  case true =>
    clear HLN HX
    generalize els.length = el at *
    go_enter Try.func8, Try.ntmps8
    go_wp2_with fail
    refine HL.out.mono ?_
    rintro q w1 ⟨rfl, hb1⟩
    have HB1 := hid hb1
    clear hb1 HL
    go_wp2_with (go_at_call 25; refine (HW.out _).mono ?_; rintro e w7 ⟨rfl, hb7⟩)
    go_ret
    exact ⟨rfl, HB1.out.trans (hb7.mono HB1.out.size)⟩
  have hel : els.length ≤ 30 := by have := HLN.out rfl; omega
  clear HLN
  go_enter Try.func8, Try.ntmps8
  go_wp2_with fail
  refine HL.out.mono ?_
  rintro q w1 ⟨rfl, hb1⟩
  have HB1 := hid hb1
  clear hb1 HL
  go_wp2
  go_loopw [5, 6] (fun v i wr => ∃ k : Nat, k ≤ els.length ∧ i = .int .i64 (k : Int) ∧ Hid (wr.ownsRow W.heap.size 24 7 v (okE els k).length (ecells (okE els k))) ∧ Hid (RowKit.Below W.heap.size W wr)) (fun _ i _ => els.length - (intOf i).toNat)
  case atStart => exact ⟨0, by omega, rfl, World.ownsRow_nil _ _ _ _, HB1.out⟩
  case round =>
    obtain ⟨k, hk, rfl, HO, HB⟩ := hrel
    have hok := okE_len els k
    by_cases hlt : k < els.length
    · have hlt2 : (k : Int) < (els.length : Int) := by omega
      have hsl := (HX.out.below HB.out).1
      obtain ⟨b, off, rfl, _⟩ := hsl.2.2.2 (by rw [ecells_length]; omega)
      have HXB := hid (fun w (hw : RowKit.Below W.heap.size W w) => Sl.el (HX.out.below hw).1 k hlt)
      obtain ⟨q0, q1, q2, q3, q4, q5, q6⟩ := Sl.el hsl k hlt
      have ht := HX.out.2 els[k] (List.getElem_mem hlt)
      have HC := hid (fun w (hw : RowKit.Below W.heap.size W w) => rcheck_any els[k].1 els[k].2.1 els[k].2.2 w (ht.below hw))
      have HY1 := hid (okE_yes els k hlt)
      have HN1 := hid (okE_no els k hlt)
      clear hsl ht
      generalize els[k] = x1 at *
      obtain ⟨⟨a0, a1, a2, a3, a4, a5, ans⟩, aA, ac⟩ := x1
      simp only [rcc] at HC q0 q1 q2 q3 q4 q5 q6 HXB HY1 HN1
      generalize chkR ⟨a0, a1, a2, a3, a4, a5, ans⟩ = bx at *
      generalize ham : ans.length = am at *
      have HAM := hid ham
      clear ham
      go_wp2_with fail
      refine (HC.out _ HB.out).mono ?_
      rintro q u2 ⟨rfl, hb2⟩
      have HB2 := hid (HB.out.trans (hb2.mono HB.out.size))
      have HO2 := hid (own_keep HO.out hb2)
      clear hb2 HB HO HC q0 q1 q2 q3 q4 q5 q6
      cases bx
      case false =>
        have HN2 := hid (HN1.out rfl)
        clear HN1 HY1 HXB
        go_wp2
        go_roundw
        case rel => exact ⟨k + 1, by omega, by go_num, by rw [HN2.out]; exact HO2.out, HB2.out⟩
        case measure => simp [intOf]; omega
      case true =>
        have HY2 := hid (HY1.out rfl)
        clear HN1 HY1
        obtain ⟨q0, q1, q2, q3, q4, q5, q6⟩ := HXB.out u2 HB2.out
        clear HXB
        generalize hcu : okE els k = cu at *
        have HCU := hid hcu
        clear hcu
        go_wp2_with (at_builtin; refine wpList_append_1k (W := W) rfl (.tmp 27) (.tmp 32) 40 rfl W.heap.size 24 Try.underlying40 info_rec rfl (by omega) rfl HO2.out rfl (by rfl) (by simp [Value.oneCell']) ?c1 ?c2 HB2.out.size HB2.out ?_)
        case c1 => unfold maxLen; omega
        case c2 => omega
        · intro v' w6 h2 h3 h4 h5
          have HO6 : Hid (w6.ownsRow W.heap.size 24 7 v' (okE els (k + 1)).length (ecells (okE els (k + 1)))) := hid (by
            rw [HY2.out, ecells_snoc, List.length_append]
            simpa [rcc, HAM.out] using h2)
          have HB6 := hid h3
          clear h2 h3 h4 h5 q0 q1 q2 q3 q4 q5 q6
          go_wp2
          go_roundw
          case rel => exact ⟨k + 1, by omega, by go_num, HO6.out, HB6.out⟩
          case measure => simp [intOf]; omega
    · obtain rfl : k = els.length := by omega
      have hge : ¬ ((els.length : Nat) : Int) < ((els.length : Nat) : Int) := by omega
      have HMEM := hid (okE_mem els els.length)
      have hh30 : (okE els els.length).length ≤ 30 := by omega
      generalize okE els els.length = hs at *
      clear hok
      obtain ⟨A5, c5, rfl, _⟩ := Sl.of_own HO.out
      have HIN : Hid (InR wr A5 c5 hs) := hid ⟨sl_own HO.out, fun e he => (HX.out.2 e (HMEM.out e he).1).below HB.out⟩
      have HBY := hid (sbytes_any A5 c5 hs wr HIN.out (by omega))
      have hbl : (recB (hs.map (·.1))).length ≤ 99000 := by
        have := recB_len9 (hs.map (·.1))
        rw [List.length_map] at this
        omega
      have HCH : Hid (∀ x ∈ hs.map (·.1), chkR x = true) := hid (fun x hx => by
        obtain ⟨e, he, rfl⟩ := List.mem_map.1 hx
        exact (HMEM.out e he).2)
      have HTORN := hid (fun k cc h1 h2 h3 => rec_torn (hs.map (·.1)) k cc HCH.out h1 h2 h3)
      have HWHO := hid (rec_whole (hs.map (·.1)) HCH.out)
      have HTS := hid (fun k hk => recB_take_succ (hs.map (·.1)) k hk)
      have HTL := hid (fun k => recB_take_le (hs.map (·.1)) k)
      clear HMEM HCH HX HO hel
      generalize els.length = el at *
      go_wp2_with fail
      refine HBY.out.mono ?_
      rintro q w4 ⟨A6, c6, rfl, ho6, hb4⟩
      have HB4 := hid (HB.out.trans (hb4.mono HB.out.size))
      have HI4 := hid (HIN.out.below hb4)
      have HO6 := hid ho6.bytes
      clear hb4 ho6 HBY HIN HB
      generalize hB : recB (hs.map (·.1)) = B at *
      have HBE := hid hB
      clear hB
      generalize hbn : B.length = bl at *
      have HBN := hid hbn
      clear hbn
      obtain ⟨n, hn⟩ : ∃ n : Nat, n = m % (bl + 1) := ⟨_, rfl⟩
      have hnle : n ≤ bl := by have := Nat.mod_lt m (show 0 < bl + 1 by omega); omega
      have hmod : ((m : Int) % ((bl : Int) + 1)) = (n : Int) := by rw [hn]; push_cast; rfl
      clear hn
      have HSL := hid (fun u (hu : RowKit.Below w4.heap.size w4 u) => slice_to12 (HO6.out.below hu) n hnle)
      have HRE := hid (fun u (hu : RowKit.Below w4.heap.size w4 u) (h9 : (B.take n).length ≤ 100000) => records_any A6 n c6 (B.take n) u (HSL.out u hu).2 h9)
      have HWH := hid (fun u (hu : RowKit.Below w4.heap.size w4 u) (h9 : B.length ≤ 100000) => whole_any A6 bl c6 B u (HO6.out.below hu) h9)
      rw [HWHO.out] at HWH
      have hslr := (HSL.out w4 (Below.refl _ _)).1
      have hslh : ∀ k, k ≤ hs.length → ∀ w : World, (Instr.slice 40 (.slice A5 hs.length c5) none (some (.int .i64 (k : Int))) none).run Try.prog w = .ok (.slice A5 k c5) w := fun k hk => run_to Try.underlying40 info_rec A5 hs.length c5 k (by have := HI4.out.1.2.1; omega)
      have HSLH := hid hslh
      clear hslh
      go_wp2
      rw [hmod]
      clear hmod
      generalize ((m : Int)) = mi at *
      go_loopw [9, 10] (fun i a wr => ∃ (k at9 : Nat), k ≤ hs.length ∧ i = .int .i64 (k : Int) ∧ a = .int .i64 (at9 : Int) ∧ at9 ≤ n ∧ Hid (at9 = (recB ((hs.map (·.1)).take k)).length) ∧ Hid (RowKit.Below w4.heap.size w4 wr)) (fun i _ _ => hs.length - (intOf i).toNat)
      case atStart => exact ⟨0, 0, by omega, rfl, rfl, by omega, by simp [Hid, recB], Below.refl _ _⟩
      case round =>
        obtain ⟨k, at9, hk, rfl, rfl, hatn, HATE, HB⟩ := hrel
        by_cases hlt : k < hs.length
        · have hlt2 : (k : Int) < (hs.length : Int) := by omega
          have hsl := (HI4.out.below HB.out).1
          obtain ⟨b, off, rfl, _⟩ := hsl.2.2.2 (by rw [ecells_length]; omega)
          have HXB := hid (fun w (hw : RowKit.Below w4.heap.size w4 w) => Sl.el (HI4.out.below hw).1 k hlt)
          obtain ⟨q0, q1, q2, q3, q4, q5, q6⟩ := Sl.el hsl k hlt
          have HC := hid (fun w (hw : RowKit.Below w4.heap.size w4 w) => recsize_any hs[k].1 hs[k].2.1 hs[k].2.2 w ((HI4.out.2 _ (List.getElem_mem hlt)).below hw))
          have hkm : k < (hs.map (·.1)).length := by rw [List.length_map]; exact hlt
          have hts := HTS.out k hkm
          have hgm : (hs.map (·.1))[k] = hs[k].1 := by simp
          rw [hgm] at hts
          have hsz : (recB ((hs.map (·.1)).take (k + 1))).length = at9 + sizeR hs[k].1 := by rw [hts, List.length_append, size_fR, ← HATE.out]
          have HSZ := hid hsz
          have hbd := HTL.out (k + 1)
          rw [hsz] at hbd
          clear hsl hts hgm hsz hkm
          generalize sizeR hs[k].1 = sz at *
          generalize hs[k] = x1 at *
          obtain ⟨⟨a0, a1, a2, a3, a4, a5, ans⟩, aA, ac⟩ := x1
          simp only [rcc] at HC q0 q1 q2 q3 q4 q5 q6 HXB
          generalize ans.length = am at *
          go_wp2_with fail
          refine (HC.out _ HB.out).mono ?_
          rintro q u2 ⟨rfl, hb2⟩
          have HB2 := hid (HB.out.trans (hb2.mono HB.out.size))
          clear hb2 HB q0 q1 q2 q3 q4 q5 q6
          obtain ⟨q0, q1, q2, q3, q4, q5, q6⟩ := HXB.out u2 HB2.out
          clear HXB
          by_cases hfit : at9 + sz ≤ n
          · have hfit2 : (at9 : Int) + (sz : Int) ≤ (n : Int) := by omega
            go_wp2_with fail
            refine (HC.out _ HB2.out).mono ?_
            rintro q u3 ⟨rfl, hb3⟩
            have HB3 := hid (HB2.out.trans (hb3.mono HB2.out.size))
            clear hb3 HB2 q0 q1 q2 q3 q4 q5 q6 HC
            go_wp2
            go_roundw
            case rel => exact ⟨k + 1, at9 + sz, by omega, by go_num, by go_num, by omega, HSZ.out.symm, HB3.out⟩
            case measure => simp [intOf]; omega
          · have hfit2 : (n : Int) < (at9 : Int) + (sz : Int) := by omega
            have HSTOP : Hid (k = (hs.map (·.1)).length ∨ n < (recB ((hs.map (·.1)).take (k + 1))).length) := hid (.inr (by rw [HSZ.out]; omega))
            clear q0 q1 q2 q3 q4 q5 q6 HC HSZ hfit
            have HBZ := HB2
            clear HB2
            have HTK : Hid (recS (B.take n) = ((hs.map (·.1)).take k, at9)) := hid (by
              have h9 := HTORN.out k n (by rw [List.length_map]; omega) (by rw [← HATE.out]; exact hatn) HSTOP.out
              rw [← HATE.out] at h9
              exact h9)
            rw [HTK.out] at HRE
            have hsk := HSLH.out k (by omega)
            have HSKI := hid (fun u (hu : RowKit.Below w4.heap.size w4 u) => (HI4.out.below hu).take k (by omega))
            have HKL : Hid ((hs.take k).length = k) := hid (by rw [List.length_take]; omega)
            clear HSTOP HATE HTORN HTS HTL HSLH HSL HI4
            generalize hKQ : k = kq at *
            have HKQ := hid hKQ
            clear hKQ
            go_wp2_with fail
            refine (HRE.out _ HBZ.out (by rw [List.length_take]; have := HBN.out; omega)).mono ?_
            rintro q w5 ⟨v5, els5, rfl, hm5, hr5, hb5⟩
            have HB5 := hid (HBZ.out.trans (hb5.mono HBZ.out.size))
            obtain ⟨A7, c7, rfl, _⟩ := Sl.of_own hr5.1
            have HSA := hid (r18same_any A7 _ c7 _ els5 (hs.take kq) w5 hr5.inR (HSKI.out w5 HB5.out) (by rw [hm5, List.map_take]) (by
              have h9 := congrArg List.length hm5
              rw [List.length_map, List.length_take, List.length_map] at h9
              omega))
            rw [HKL.out] at HSA
            clear hm5 hr5 hb5 HRE HBZ HSKI
            generalize els5.length = n5 at *
            go_wp2_with fail
            refine HSA.out.mono ?_
            rintro q w6 ⟨rfl, hb6⟩
            have HB6 := hid (HB5.out.trans (hb6.mono HB5.out.size))
            clear hb6 HB5 HSA hsk
            have e97 : ((at9 : Int) == (at9 : Int)) = true := by simp
            have HWH2 := hid (HWH.out w6 HB6.out (by have := HBN.out; omega))
            simp only [HBN.out, decide_true] at HWH2
            clear HWH
            go_wp2_with fail
            refine HWH2.out.mono ?_
            rintro q w7 ⟨rfl, hb7⟩
            have HB7 := hid (HB6.out.trans (hb7.mono HB6.out.size))
            clear hb7 HB6 HWH2
            go_wp2_with fail
            refine (HW.out _).mono ?_
            rintro q w8 ⟨rfl, hb8⟩
            have HB8 := hid (HB4.out.trans ((HB7.out.trans (hb8.mono HB7.out.size)).mono HB4.out.size))
            clear hb8 HB7
            go_wp2
            go_ret
            exact ⟨rfl, HB8.out⟩
        · obtain rfl : k = hs.length := by omega
          have hge : ¬ ((hs.length : Nat) : Int) < ((hs.length : Nat) : Int) := by omega
          have HSTOP : Hid (hs.length = (hs.map (·.1)).length ∨ n < (recB ((hs.map (·.1)).take (hs.length + 1))).length) := hid (.inl (by rw [List.length_map]))
          have HBZ := HB
          clear HB
          have HTK : Hid (recS (B.take n) = ((hs.map (·.1)).take hs.length, at9)) := hid (by
            have h9 := HTORN.out hs.length n (by rw [List.length_map]; omega) (by rw [← HATE.out]; exact hatn) HSTOP.out
            rw [← HATE.out] at h9
            exact h9)
          rw [HTK.out] at HRE
          have hsk := HSLH.out hs.length (by omega)
          have HSKI := hid (fun u (hu : RowKit.Below w4.heap.size w4 u) => (HI4.out.below hu).take hs.length (by omega))
          have HKL : Hid ((hs.take hs.length).length = hs.length) := hid (by rw [List.length_take]; omega)
          clear HSTOP HATE HTORN HTS HTL HSLH HSL HI4
          generalize hKQ : hs.length = kq at *
          have HKQ := hid hKQ
          clear hKQ
          go_wp2_with fail
          refine (HRE.out _ HBZ.out (by rw [List.length_take]; have := HBN.out; omega)).mono ?_
          rintro q w5 ⟨v5, els5, rfl, hm5, hr5, hb5⟩
          have HB5 := hid (HBZ.out.trans (hb5.mono HBZ.out.size))
          obtain ⟨A7, c7, rfl, _⟩ := Sl.of_own hr5.1
          have HSA := hid (r18same_any A7 _ c7 _ els5 (hs.take kq) w5 hr5.inR (HSKI.out w5 HB5.out) (by rw [hm5, List.map_take]) (by
            have h9 := congrArg List.length hm5
            rw [List.length_map, List.length_take, List.length_map] at h9
            omega))
          rw [HKL.out] at HSA
          clear hm5 hr5 hb5 HRE HBZ HSKI
          generalize els5.length = n5 at *
          go_wp2_with fail
          refine HSA.out.mono ?_
          rintro q w6 ⟨rfl, hb6⟩
          have HB6 := hid (HB5.out.trans (hb6.mono HB5.out.size))
          clear hb6 HB5 HSA hsk
          have e97 : ((at9 : Int) == (at9 : Int)) = true := by simp
          have HWH2 := hid (HWH.out w6 HB6.out (by have := HBN.out; omega))
          simp only [HBN.out, decide_true] at HWH2
          clear HWH
          go_wp2_with fail
          refine HWH2.out.mono ?_
          rintro q w7 ⟨rfl, hb7⟩
          have HB7 := hid (HB6.out.trans (hb7.mono HB6.out.size))
          clear hb7 HB6 HWH2
          go_wp2_with fail
          refine (HW.out _).mono ?_
          rintro q w8 ⟨rfl, hb8⟩
          have HB8 := hid (HB4.out.trans ((HB7.out.trans (hb8.mono HB7.out.size)).mono HB4.out.size))
          clear hb8 HB7
          go_wp2
          go_ret
          exact ⟨rfl, HB8.out⟩
theorem scanTorn_rd (A : Option Addr) (n c : Nat) (cut : Int) (w : World) (h : Rd Try.prog w 40 [.slice A n c]) (hc : (Lit.int .u16 cut).wf = true) :
    Calls Try.prog 8 #[.slice A n c, .int .u16 cut] w fun e w' => e = .returned (.bool true) ∧ RowKit.Below w.heap.size w w' := by
  obtain ⟨els, rfl, hi⟩ := recs_in h
  obtain ⟨m, rfl⟩ : ∃ m : Nat, cut = (m : Int) := ⟨cut.toNat, by simp [Lit.wf, IntKind.min, IntKind.max, IntKind.signed, IntKind.bits] at hc; omega⟩
  exact scanTorn_law A c els m (by simp [Lit.wf, IntKind.min, IntKind.max, IntKind.signed, IntKind.bits] at hc; omega) w hi
end Go.Proofs.Ytejeffnolglhoaa
