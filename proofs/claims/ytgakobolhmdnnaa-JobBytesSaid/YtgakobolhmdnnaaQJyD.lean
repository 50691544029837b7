/- The document's bytes of a job: contract. -/
import Derived.Test.YtgakobolhmdnnaaQJyC
namespace Go.Proofs.Ytgakobolhmdnnaa
open Go.RowKit
set_option linter.unusedVariables false
set_option linter.unusedSimpArgs false

set_option maxRecDepth 20000 in
set_option maxHeartbeats 4000000 in
theorem rjbytes_any (id : Int) (ns : List (List UInt8)) (A : Option Addr) (c : Nat) (W : World) (hx : TxJ W A c ns) : Calls Try.prog 23 #[.agg #[.int .i64 id, .slice A ns.length c]] W fun e w' => e = .returned (.string (str (if plainJ id ns then jB id ns else []))) ∧ Below W.heap.size W w' := by
  have HC := hid (fun w (hw : Below W.heap.size W w) => plain15_any id A c ns w (hx.below hw))
  have HX := hid hx
  have hll := len63J hx
  have hb0 : Below W.heap.size W (W.alloc (.cells #[.int .i64 id, .slice A ns.length c] 27)) := (Below.refl _ _).alloc (Nat.le_refl _) _
  have h0 : (W.alloc (.cells #[.int .i64 id, .slice A ns.length c] 27)).heap[W.heap.size]? = some (.cells #[.int .i64 id, .slice A ns.length c] 27 (0, 0)) := heap_alloc_new _ _
  clear hx
  by_cases hc : plainJ id ns = true
  case neg =>
    rw [Bool.not_eq_true] at hc
    rw [hc] at HC
    have HV : Hid (str (if plainJ id ns then jB id ns else []) = ⟨#[]⟩) := hid (by rw [hc]; rfl)
    rw [HV.out]
    clear hc HV
    go_enter Try.func23, Try.ntmps23
    go_upto_region 1 with (fail)
    refine at_world (fun u => u.heap[W.heap.size]? = some (.cells #[.int .i64 id, .slice A ns.length c] 27 (0, 0)) ∧ Below W.heap.size W u) ⟨h0, hb0⟩ ?_
    clear h0 hb0
    rintro w1 ⟨hm1, hB1⟩
    obtain ⟨p0, p1⟩ := two_cellsR hm1
    have HB1 := hid hB1
    clear hm1 hB1
    go_wp2_with fail
    refine (HC.out _ HB1.out).mono ?_
    rintro x w2 ⟨rfl, hb2⟩
    have HB2 := hid (HB1.out.trans (hb2.mono HB1.out.size))
    clear hb2 HB1 p0 p1
    go_wp2
    go_ret
    exact ⟨rfl, HB2.out⟩
  have HNS := hid (plainJ_parts hc).2.2
  have HV : Hid (str (if plainJ id ns then jB id ns else []) = str (numB (cl id) ++ numB (cl (ns.length : Int)) ++ txs ns)) := hid (by rw [hc]; rfl)
  rw [HV.out]
  rw [hc] at HC
  clear hc HV
  have l0 := (numB_length _ (cl_le id)).2
  have l1 := (numB_length _ (cl_le (ns.length : Int))).2
  have HK := hid (fun w => rnum_any id w)
  have HJ := hid (fun w => rnum_any (ns.length : Int) w)
  generalize numB (cl id) = q0 at *
  generalize numB (cl (ns.length : Int)) = q1 at *
  go_enter Try.func23, Try.ntmps23
  go_upto_region 1 with (fail)
  refine at_world (fun u => u.heap[W.heap.size]? = some (.cells #[.int .i64 id, .slice A ns.length c] 27 (0, 0)) ∧ Below W.heap.size W u) ⟨h0, hb0⟩ ?_
  clear h0 hb0
  rintro w1 ⟨hm1, hB1⟩
  obtain ⟨p0, p1⟩ := two_cellsR hm1
  have HM1 := hid hm1
  have HB1 := hid hB1
  clear hm1 hB1
  go_wp2_with fail
  refine (HC.out _ HB1.out).mono ?_
  rintro x w2 ⟨rfl, hb2⟩
  have HM3 := hid (keep0 HM1.out hb2)
  have HB3 := hid (HB1.out.trans (hb2.mono HB1.out.size))
  clear hb2 HM1 HB1 HC p0 p1
  obtain ⟨p0, p1⟩ := two_cellsR HM3.out
  go_upto_region 3 with (fail)
  have hz0 : (str q0).size + (str q1).size ≤ 9223372036854775807 := by rw [str_size, str_size]; omega
  replace p0 := cell_regrown p0
  replace p1 := cell_regrown p1
  have ck := reg (w := w2) (fun W' _ => HK.out W')
  have cj := reg (w := w2) (fun W' _ => HJ.out W')
  refine wp_region_quiet_below (by kernel_rfl) (by kernel_rfl) ?_
  repeat (go_big_quiet_step (first | (go_at_call 69; with_reducible exact ck _ _) | (go_at_call 69; with_reducible exact cj _ _)))
  refine wpQuiet_nil ?_
  intro _ hw'
  obtain ⟨⟨dq, osq⟩, hw''⟩ := hw'
  subst hw''
  have hbR := below_regrown w2 dq osq
  refine at_world (fun u => u.heap[W.heap.size]? = some (.cells #[.int .i64 id, .slice A ns.length c] 27 (0, 0)) ∧ Below W.heap.size W u) ⟨keep0 HM3.out hbR, HB3.out.trans (hbR.mono HB3.out.size)⟩ ?_
  clear hbR HM3 HB3 p0 p1 ck cj hz0
  rintro w4 ⟨hm4, hB4⟩
  have HM := hid hm4
  have HB := hid hB4
  clear hm4 hB4
  have HHD : Hid ((q0 ++ q1).length ≤ 16) := hid (by rw [List.length_append]; omega)
  obtain ⟨hd, hqq⟩ : ∃ qq, qq = q0 ++ q1 := ⟨_, rfl⟩
  have HQQ := hid hqq
  rw [← hqq] at HHD
  clear hqq
  rw [str_app, ← HQQ.out]
  clear l0 l1
  go_wp2_with fail
  go_loopw [3, 4] (fun v i wr => ∃ n : Nat, n ≤ ns.length ∧ i = .int .i64 (n : Int) ∧ v = .string (str (hd ++ txs (ns.take n))) ∧ Hid (wr.heap[W.heap.size]? = some (.cells #[.int .i64 id, .slice A ns.length c] 27 (0, 0))) ∧ Hid (Below W.heap.size W wr)) (fun _ i _ => ns.length - (intOf i).toNat)
  case atStart => exact ⟨0, by omega, rfl, by simp [txs], HM.out, HB.out⟩
  case round =>
    clear HM HB
    obtain ⟨n, hn, rfl, rfl, HM, HB⟩ := hrel
    obtain ⟨p0, p1⟩ := two_cellsR HM.out
    by_cases hlt : n < ns.length
    · have hlt2 : (n : Int) < (ns.length : Int) := by omega
      obtain ⟨b', off, rfl, hcc⟩ := Sl.at (HX.out.below HB.out).1 n (by rw [scells_length]; exact hlt)
      have e1 : (scells ns)[n]'(by rw [scells_length]; exact hlt) = .string (str (ns[n]'hlt)) := by simp [scells]
      rw [e1] at hcc
      have hsl := HNS.out.2 ns[n] (List.getElem_mem hlt)
      have htl := txs_len (ns.take n) (fun s hs => HNS.out.2 s (List.mem_of_mem_take hs))
      rw [List.length_take, Nat.min_eq_left hn] at htl
      have hn16 := HNS.out.1
      have HTS : Hid (hd ++ txs (ns.take (n + 1)) = (hd ++ txs (ns.take n)) ++ tx ns[n]) := hid (by rw [List.take_succ_eq_append_getElem hlt, txs_snoc, List.append_assoc])
      have HLN : (hd ++ txs (ns.take n)).length ≤ 100000 := by rw [List.length_append]; have := HHD.out; omega
      generalize ns[n]'hlt = sx at *
      generalize hd ++ txs (ns.take n) = cur at *
      have HT : Hid (∀ w, Calls Try.prog 70 #[.string (str sx)] w fun e w' => e = .returned (.string (str (tx sx))) ∧ Below w.heap.size w w') := hid (fun w => by
        have h9 := rtext_any (str sx) w (by rw [str_size]; omega)
        rw [str_size, str_app] at h9
        exact h9)
      have hxl := tx_len sx hsl
      have z1 : (str cur).size + (str (tx sx)).size ≤ 9223372036854775807 := by rw [str_size, str_size]; omega
      generalize tx sx = ts at *
      clear e1
      go_wp2_with fail
      refine (HT.out _).mono ?_
      rintro x w5 ⟨rfl, hb5⟩
      have HM5 := hid (keep0 HM.out hb5)
      have HB5 := hid (HB.out.trans (hb5.mono HB.out.size))
      clear hb5 HT HM HB hcc p0 p1
      go_wp2
      go_roundw
      case rel => exact ⟨n + 1, by omega, by go_num, by rw [HTS.out, str_app], HM5.out, HB5.out⟩
      case measure => simp [intOf]; omega
    · obtain rfl : n = ns.length := by omega
      have hge : ¬ ((ns.length : Nat) : Int) < ((ns.length : Nat) : Int) := by omega
      have HT := hid (List.take_length (l := ns))
      rw [HT.out]
      clear hlt hn
      go_wp2
      go_ret
      have HEQ : Hid (str (hd ++ txs ns) = str (q0 ++ (q1 ++ txs ns))) := hid (by rw [HQQ.out]; simp only [List.append_assoc])
      exact ⟨by rw [← HEQ.out]; rfl, HB.out⟩
end Go.Proofs.Ytgakobolhmdnnaa
