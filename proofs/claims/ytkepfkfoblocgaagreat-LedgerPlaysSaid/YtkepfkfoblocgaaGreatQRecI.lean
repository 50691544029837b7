/- The document's Bytes, Size; Most, both: contracts. -/
import Derived.Test.YtkepfkfoblocgaaGreatQRecG
namespace Go.Proofs.YtkepfkfoblocgaaGreat
open Go.RowKit Go.Sort
set_option linter.unusedVariables false
set_option linter.unusedSimpArgs false

/-- The five fields. -/
def flds (x : Rc) : List (Bool × Int) := [(hasR x.k 1, x.t), (hasR x.k 2, x.w), (hasR x.k 3, x.s), (hasR x.k 4, x.e), (hasR x.k 5, (x.ns.length : Int))]
def fb (l : List (Bool × Int)) : List UInt8 := (l.map fun p => pt p.1 p.2).flatten
theorem fb_snoc (l : List (Bool × Int)) (p : Bool × Int) : fb (l ++ [p]) = fb l ++ pt p.1 p.2 := by simp [fb]
theorem headB_fb (x : Rc) : headB x = numB (cl x.k) ++ numB (cl x.j) ++ fb (flds x) := by
  unfold headB fb flds
  simp
theorem fb_len (l : List (Bool × Int)) : (fb l).length ≤ 8 * l.length := by
  induction l with
  | nil => simp [fb]
  | cons p l ih =>
    have e : fb (p :: l) = pt p.1 p.2 ++ fb l := by simp [fb]
    have := pt_len p.1 p.2
    rw [e, List.length_append, List.length_cons]; omega

set_option maxRecDepth 20000 in
set_option maxHeartbeats 4000000 in
theorem r17bytes_any (x : Rc) (A : Option Addr) (c : Nat) (W : World) (hx : TxAt W A c x.ns) : Calls Tryz.prog 62 #[.agg (rcc x A c)] W fun e w' => e = .returned (.string (str (if chkR x then rb x else []))) ∧ Below W.heap.size W w' := by
  have HC := hid (fun w (hw : Below W.heap.size W w) => r17check_any x A c w (hx.below hw))
  have HX := hid hx
  have hll := hx.len
  have hb0 : Below W.heap.size W (W.alloc (.cells (rcc x A c) 46)) := (Below.refl _ _).alloc (Nat.le_refl _) _
  have h0 : (W.alloc (.cells (rcc x A c) 46)).heap[W.heap.size]? = some (.cells (rcc x A c) 46 (0, 0)) := heap_alloc_new _ _
  clear hx
  by_cases hc : chkR x = true
  case neg =>
    rw [Bool.not_eq_true] at hc
    rw [hc] at HC
    have HV : Hid (str (if chkR x then rb x else []) = ⟨#[]⟩) := hid (by rw [hc]; rfl)
    rw [HV.out]
    clear hc HV
    obtain ⟨k, j, t, w, s, e, ns⟩ := x
    simp only [rcc] at *
    go_enter Tryz.func62, Tryz.ntmps62
    go_upto_region 1 with (fail)
    refine at_world (fun u => u.heap[W.heap.size]? = some (.cells #[.int .i64 k, .int .i64 j, .int .i64 t, .int .i64 w, .int .i64 s, .int .i64 e, .slice A ns.length c] 46 (0, 0)) ∧ Below W.heap.size W u) ⟨h0, hb0⟩ ?_
    clear h0 hb0
    rintro w1 ⟨hm1, hB1⟩
    obtain ⟨p0, p1, p2, p3, p4, p5, p6⟩ := seven_cells hm1
    have HB1 := hid hB1
    clear hm1 hB1
    go_wp2_with fail
    refine (HC.out _ HB1.out).mono ?_
    rintro x w2 ⟨rfl, hb2⟩
    have HB2 := hid (HB1.out.trans (hb2.mono HB1.out.size))
    clear hb2 HB1 p0 p1 p2 p3 p4 p5 p6
    go_wp2
    go_ret
    exact ⟨rfl, HB2.out⟩
  have HNS := hid (chkR_ns hc)
  have HV : Hid (str (if chkR x then rb x else []) = str (numB (cl x.k) ++ numB (cl x.j) ++ fb (flds x) ++ txs x.ns)) := hid (by rw [hc, ← headB_fb]; rfl)
  rw [HV.out]
  rw [hc] at HC
  clear hc HV
  have l0 := (numB_length _ (cl_le x.k)).2
  have l1 := (numB_length _ (cl_le x.j)).2
  have HFL := hid (show (flds x).length = 5 from rfl)
  have HFE : Hid (∀ i (h : i < 5), (flds x)[i]'(by rw [HFL.out]; exact h) = (hasR x.k (i + 1), ([x.t, x.w, x.s, x.e, (x.ns.length : Int)] : List Int)[i]'(by simpa using h))) := hid (fun i h => by
    rcases (by omega : i = 0 ∨ i = 1 ∨ i = 2 ∨ i = 3 ∨ i = 4) with rfl | rfl | rfl | rfl | rfl
    all_goals rfl)
  have HH := hid (fun f hf w => rhas_any x.k f hf w)
  have HK := hid (fun w => rnum_any x.k w)
  have HJ := hid (fun w => rnum_any x.j w)
  generalize flds x = fl at *
  obtain ⟨k, j, t, w, s, e, ns⟩ := x
  simp only [rcc] at *
  generalize numB (cl k) = q0 at *
  generalize numB (cl j) = q1 at *
  go_enter Tryz.func62, Tryz.ntmps62
  go_upto_region 1 with (fail)
  refine at_world (fun u => u.heap[W.heap.size]? = some (.cells #[.int .i64 k, .int .i64 j, .int .i64 t, .int .i64 w, .int .i64 s, .int .i64 e, .slice A ns.length c] 46 (0, 0)) ∧ Below W.heap.size W u) ⟨h0, hb0⟩ ?_
  clear h0 hb0
  rintro w1 ⟨hm1, hB1⟩
  obtain ⟨p0, p1, p2, p3, p4, p5, p6⟩ := seven_cells hm1
  have HM1 := hid hm1
  have HB1 := hid hB1
  clear hm1 hB1
  go_wp2_with fail
  refine (HC.out _ HB1.out).mono ?_
  rintro x w2 ⟨rfl, hb2⟩
  have HM2 := hid (keep0 HM1.out hb2)
  have HB2 := hid (HB1.out.trans (hb2.mono HB1.out.size))
  clear hb2 HM1 HB1 HC p0 p1 p2 p3 p4 p5 p6
  obtain ⟨p0, p1, p2, p3, p4, p5, p6⟩ := seven_cells HM2.out
  go_upto_region 4 with (fail)
  have hbA : Below w2.heap.size w2 (w2.alloc (.cells #[.int .i64 t, .int .i64 w, .int .i64 s, .int .i64 e, .int .i64 (ns.length : Int)] 3)) := (Below.refl _ _).alloc (Nat.le_refl _) _
  refine at_world (fun u => u.heap[W.heap.size]? = some (.cells #[.int .i64 k, .int .i64 j, .int .i64 t, .int .i64 w, .int .i64 s, .int .i64 e, .slice A ns.length c] 46 (0, 0)) ∧ u.heap[w2.heap.size]? = some (.cells #[.int .i64 t, .int .i64 w, .int .i64 s, .int .i64 e, .int .i64 (ns.length : Int)] 3 (0, 0)) ∧ Below W.heap.size W u) ⟨keep0 HM2.out hbA, heap_alloc_new _ _, HB2.out.trans (hbA.mono HB2.out.size)⟩ ?_
  clear hbA HM2 HB2 p0 p1 p2 p3 p4 p5 p6
  rintro w3 ⟨hm3, hn3, hB3⟩
  obtain ⟨p0, p1, p2, p3, p4, p5, p6⟩ := seven_cells hm3
  have HM3 := hid hm3
  have HN3 := hid hn3
  have HB3 := hid hB3
  clear hm3 hn3 hB3
  generalize w2.heap.size = N at *
  have hz0 : (str q0).size + (str q1).size ≤ 9223372036854775807 := by rw [str_size, str_size]; omega
  replace p0 := cell_regrown p0
  replace p1 := cell_regrown p1
  have ck := reg (w := w3) (fun W' _ => HK.out W')
  have cj := reg (w := w3) (fun W' _ => HJ.out W')
  refine wp_region_quiet_below (by kernel_rfl) (by kernel_rfl) ?_
  repeat (go_big_quiet_step (first | (go_at_call 59; with_reducible exact ck _ _) | (go_at_call 59; with_reducible exact cj _ _)))
  refine wpQuiet_nil ?_
  intro _ hw'
  obtain ⟨⟨dq, osq⟩, hw''⟩ := hw'
  subst hw''
  have hbR := below_regrown w3 dq osq
  refine at_world (fun u => u.heap[W.heap.size]? = some (.cells #[.int .i64 k, .int .i64 j, .int .i64 t, .int .i64 w, .int .i64 s, .int .i64 e, .slice A ns.length c] 46 (0, 0)) ∧ u.heap[N]? = some (.cells #[.int .i64 t, .int .i64 w, .int .i64 s, .int .i64 e, .int .i64 (ns.length : Int)] 3 (0, 0)) ∧ Below W.heap.size W u) ⟨keep0 HM3.out hbR, keep0 HN3.out hbR, HB3.out.trans (hbR.mono HB3.out.size)⟩ ?_
  clear hbR HM3 HN3 HB3 p0 p1 p2 p3 p4 p5 p6 ck cj hz0
  rintro w4 ⟨hm4, hn4, hB4⟩
  have HM4 := hid hm4
  have HN4 := hid hn4
  have HB4 := hid hB4
  clear hm4 hn4 hB4
  have HQ : Hid ((q0 ++ q1).length ≤ 16) := hid (by rw [List.length_append]; omega)
  obtain ⟨qq, hqq⟩ : ∃ qq, qq = q0 ++ q1 := ⟨_, rfl⟩
  have HQQ := hid hqq
  rw [← hqq] at HQ
  clear hqq
  rw [str_app, ← HQQ.out]
  have HFB : Hid (∀ n, (fb (fl.take n)).length ≤ 40) := hid (fun n => by
    have h1 := fb_len (fl.take n)
    have h2 : (fl.take n).length ≤ 5 := by rw [List.length_take, HFL.out]; omega
    omega)
  clear l0 l1
  go_wp2_with fail
  go_loopw [4, 5] (fun v i wr => ∃ n : Nat, n ≤ 5 ∧ i = .int .i64 (n : Int) ∧ v = .string (str (qq ++ fb (fl.take n))) ∧ Hid (wr.heap[W.heap.size]? = some (.cells #[.int .i64 k, .int .i64 j, .int .i64 t, .int .i64 w, .int .i64 s, .int .i64 e, .slice A ns.length c] 46 (0, 0))) ∧ Hid (wr.heap[N]? = some (.cells #[.int .i64 t, .int .i64 w, .int .i64 s, .int .i64 e, .int .i64 (ns.length : Int)] 3 (0, 0))) ∧ Hid (Below W.heap.size W wr)) (fun _ i _ => 5 - (intOf i).toNat)
  case atStart => exact ⟨0, by omega, rfl, by simp [fb], HM4.out, HN4.out, HB4.out⟩
  case round =>
    obtain ⟨n, hn, rfl, rfl, HM, HN, HB⟩ := hrel
    by_cases hlt : n < 5
    · have hlt2 : (n : Int) < 5 := by omega
      obtain ⟨p0, p1, p2, p3, p4, p5, p6⟩ := seven_cells HM.out
      have hfe := HFE.out n hlt
      have hts := fb_snoc (fl.take n) (fl[n]'(by rw [HFL.out]; exact hlt))
      rw [← List.take_succ_eq_append_getElem (by rw [HFL.out]; exact hlt), hfe] at hts
      have hcn : wr.cell? ⟨N, n, none⟩ = some (.int .i64 (([t, w, s, e, (ns.length : Int)] : List Int)[n]'(by simpa using hlt))) := by
        rw [cell_of_row wr N n _ _ (0, 0) HN.out]
        rcases (by omega : n = 0 ∨ n = 1 ∨ n = 2 ∨ n = 3 ∨ n = 4) with rfl | rfl | rfl | rfl | rfl
        all_goals rfl
      generalize ([t, w, s, e, (ns.length : Int)] : List Int)[n]'(by simpa using hlt) = val at *
      have hhn := HH.out (n + 1) (by omega)
      rw [show (((n + 1 : Nat)) : Int) = (n : Int) + 1 by omega] at hhn
      simp only at hts
      have hbl := HFB.out n
      have hpl := pt_len (hasR k (n + 1)) val
      have HTS := hid hts
      have HHN := hid hhn
      have HVN := hid (fun w => rnum_any val w)
      have HPT : Hid (pt true val = numB (cl val)) := hid rfl
      clear hfe hts hhn
      generalize fb (fl.take n) = cur at *
      generalize hasR k (n + 1) = hb at *
      have HW5 : n + 1 ≤ 5 := by omega
      cases hb
      case false =>
        have HT2 : Hid (fb (fl.take (n + 1)) = cur) := hid (by rw [HTS.out]; simp [pt])
        go_wp2_with (go_at_call 81; refine (HHN.out _).mono ?_; rintro x w' ⟨rfl, rfl⟩)
        go_roundw
        case rel => exact ⟨n + 1, by omega, by go_num, by rw [HT2.out], HM.out, HN.out, HB.out⟩
        case measure => simp [intOf]; omega
      case true =>
        rw [HPT.out] at hpl
        rw [Hid, HPT.out] at HTS
        have HTS := hid HTS
        generalize numB (cl val) = nb' at *
        have z1 : (str (qq ++ cur)).size + (str nb').size ≤ 9223372036854775807 := by
          rw [str_size, str_size, List.length_append]
          have := HQ.out
          omega
        go_wp2_with (go_at_call 81; refine (HHN.out _).mono ?_; rintro x w' ⟨rfl, rfl⟩)
        refine (HVN.out _).mono ?_
        rintro x w5 ⟨rfl, hb5⟩
        have HM5 := hid (keep0 HM.out hb5)
        have HN5 := hid (keep0 HN.out hb5)
        have HB5 := hid (HB.out.trans (hb5.mono HB.out.size))
        clear hb5 HM HN HB hcn p0 p1 p2 p3 p4 p5 p6
        go_wp2
        go_roundw
        case rel => exact ⟨n + 1, by omega, by go_num, by rw [HTS.out, str_app, List.append_assoc], HM5.out, HN5.out, HB5.out⟩
        case measure => simp [intOf]; omega
    · obtain rfl : n = 5 := by omega
      have hge : ¬ ((5 : Nat) : Int) < 5 := by omega
      have HTK : Hid (fl.take 5 = fl) := hid (List.take_of_length_le (by rw [HFL.out]; exact Nat.le_refl _))
      have HHD : Hid ((qq ++ fb fl).length ≤ 56) := hid (by
        have h9 := HFB.out 5
        rw [HTK.out] at h9
        have := HQ.out
        rw [List.length_append]
        omega)
      rw [HTK.out]
      clear hlt hn
      obtain ⟨hd, hhd⟩ : ∃ hd, hd = qq ++ fb fl := ⟨_, rfl⟩
      have HDD := hid hhd
      rw [← hhd] at HHD ⊢
      clear hhd
      go_wp2_with fail
      go_loopw [4, 6] (fun v i wr => ∃ n : Nat, n ≤ ns.length ∧ i = .int .i64 (n : Int) ∧ v = .string (str (hd ++ txs (ns.take n))) ∧ Hid (wr.heap[W.heap.size]? = some (.cells #[.int .i64 k, .int .i64 j, .int .i64 t, .int .i64 w, .int .i64 s, .int .i64 e, .slice A ns.length c] 46 (0, 0))) ∧ Hid (Below W.heap.size W wr)) (fun _ i _ => ns.length - (intOf i).toNat)
      case atStart => exact ⟨0, by omega, rfl, by simp [txs], HM.out, HB.out⟩
      case round =>
        clear HM HN HB
        obtain ⟨n, hn, rfl, rfl, HM, HB⟩ := hrel
        obtain ⟨p0, p1, p2, p3, p4, p5, p6⟩ := seven_cells HM.out
        by_cases hlt : n < ns.length
        · have hlt2 : (n : Int) < (ns.length : Int) := by omega
          obtain ⟨b', off, rfl, hcc⟩ := Sl.at (HX.out.below HB.out).1 n (by rw [scells_length]; exact hlt)
          have e1 : (scells ns)[n]'(by rw [scells_length]; exact hlt) = .string (str (ns[n]'hlt)) := by simp [scells]
          rw [e1] at hcc
          have hsl := HNS.out.2 ns[n] (List.getElem_mem hlt)
          have htl := txs_len (ns.take n) (fun s hs => HNS.out.2 s (List.mem_of_mem_take hs))
          rw [List.length_take, Nat.min_eq_left hn] at htl
          have hn16 := HNS.out.1
          have HTS : Hid (hd ++ txs (ns.take (n + 1)) = (hd ++ txs (ns.take n)) ++ tx ns[n]) := hid (by rw [List.take_succ_eq_append_getElem hlt, txs_snoc, List.append_assoc])
          have HLN : (hd ++ txs (ns.take n)).length ≤ 100000 := by rw [List.length_append]; have := HHD.out; omega
          generalize ns[n]'hlt = sx at *
          generalize hd ++ txs (ns.take n) = cur at *
          have HT : Hid (∀ w, Calls Tryz.prog 80 #[.string (str sx)] w fun e w' => e = .returned (.string (str (tx sx))) ∧ Below w.heap.size w w') := hid (fun w => by
            have h9 := rtext_any (str sx) w (by rw [str_size]; omega)
            rw [str_size, str_app] at h9
            exact h9)
          have hxl := tx_len sx hsl
          have z1 : (str cur).size + (str (tx sx)).size ≤ 9223372036854775807 := by rw [str_size, str_size]; omega
          generalize tx sx = ts at *
          clear e1
          go_wp2_with fail
          refine (HT.out _).mono ?_
          rintro x w5 ⟨rfl, hb5⟩
          have HM5 := hid (keep0 HM.out hb5)
          have HB5 := hid (HB.out.trans (hb5.mono HB.out.size))
          clear hb5 HT HM HB hcc p0 p1 p2 p3 p4 p5 p6
          go_wp2
          go_roundw
          case rel => exact ⟨n + 1, by omega, by go_num, by rw [HTS.out, str_app], HM5.out, HB5.out⟩
          case measure => simp [intOf]; omega
        · obtain rfl : n = ns.length := by omega
          have hge : ¬ ((ns.length : Nat) : Int) < ((ns.length : Nat) : Int) := by omega
          have HT := hid (List.take_length (l := ns))
          rw [HT.out]
          clear hlt hn
          go_wp2
          go_ret
          have HEQ : Hid (str (hd ++ txs ns) = str (q0 ++ (q1 ++ (fb fl ++ txs ns)))) := hid (by rw [HDD.out, HQQ.out]; simp only [List.append_assoc])
          exact ⟨by rw [← HEQ.out]; rfl, HB.out⟩
end Go.Proofs.YtkepfkfoblocgaaGreat
