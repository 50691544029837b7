/- job.Bytes: contract. -/
import Derived.Test.YtgakobolhmdnnaaQJyT
namespace Go.Proofs.Ytgakobolhmdnnaa
open Go.RowKit
set_option linter.unusedVariables false
set_option linter.unusedSimpArgs false

/-- The bytes of a job. -/
def jB (id : Int) (xs : List (List UInt8)) : List UInt8 := numB (cl id) ++ numB (cl (xs.length : Int)) ++ txs xs
theorem plainJ_parts {id : Int} {xs : List (List UInt8)} (h : plainJ id xs = true) : 1 ≤ id ∧ id ≤ 72057594037927935 ∧ xs.length ≤ 16 ∧ ∀ s ∈ xs, s.length ≤ 200 := by
  unfold plainJ at h
  rw [Bool.and_eq_true, decide_eq_true_eq, Bool.not_eq_true'] at h
  obtain ⟨⟨h1, h2⟩, h3⟩ := h
  refine ⟨h1, h2, ?_, ?_⟩
  · by_cases h9 : xs.length ≤ 16
    · exact h9
    · rw [longB_most (by omega)] at h3
      cases h3
  · intro s hs
    obtain ⟨k, hk, rfl⟩ := List.mem_iff_getElem.mp hs
    by_cases h9 : xs[k].length ≤ 200
    · exact h9
    · rw [longB_yes (most := 16) hk (by omega)] at h3
      cases h3

set_option maxRecDepth 20000 in
set_option maxHeartbeats 4000000 in
theorem jbytes_any (id : Int) (ns : List (List UInt8)) (A : Option Addr) (c : Nat) (W : World) (hx : TxJ W A c ns) : Calls Try.prog 22 #[.agg #[.int .i64 id, .slice A ns.length c]] W fun e w' => ∃ A' c', e = .returned (.slice A' (if plainJ id ns then jB id ns else []).length c') ∧ OwnB w' W.heap.size A' c' (if plainJ id ns then jB id ns else []) ∧ Below W.heap.size W w' := by
  have HC := hid (fun w (hw : Below W.heap.size W w) => whole_any id A c ns w (hx.below hw))
  have HX := hid hx
  have hll := len63J hx
  have hb0 : Below W.heap.size W (W.alloc (.cells #[.int .i64 id, .slice A ns.length c] 27)) := (Below.refl _ _).alloc (Nat.le_refl _) _
  have h0 : (W.alloc (.cells #[.int .i64 id, .slice A ns.length c] 27)).heap[W.heap.size]? = some (.cells #[.int .i64 id, .slice A ns.length c] 27 (0, 0)) := heap_alloc_new _ _
  clear hx
  by_cases hc : plainJ id ns = true
  case neg =>
    rw [Bool.not_eq_true] at hc
    rw [hc] at HC
    have HV : Hid ((if plainJ id ns then jB id ns else []) = []) := hid (by rw [hc]; rfl)
    rw [HV.out]
    clear hc HV
    go_enter Try.func22, Try.ntmps22
    go_upto_region 1 with (fail)
    refine at_world (fun u => u.heap[W.heap.size]? = some (.cells #[.int .i64 id, .slice A ns.length c] 27 (0, 0)) ∧ Below W.heap.size W u) ⟨h0, hb0⟩ ?_
    clear h0 hb0
    rintro w1 ⟨hm1, hB1⟩
    obtain ⟨p0, p1⟩ := two_cellsR hm1
    have HB1 := hid hB1
    clear hm1 hB1
    go_wp2_with fail
    refine (HC.out _ HB1.out).mono ?_
    rintro x w2 ⟨rfl, hb2⟩
    have HB2 := hid (HB1.out.trans (hb2.mono HB1.out.size))
    clear hb2 HB1 p0 p1
    go_wp2
    go_ret
    exact ⟨none, 0, rfl, World.ownsRow_nil _ _ _ _, HB2.out⟩
  have HNS := hid (plainJ_parts hc).2.2
  have HV : Hid ((if plainJ id ns then jB id ns else []) = numB (cl id) ++ numB (cl (ns.length : Int)) ++ txs ns) := hid (by rw [hc]; rfl)
  rw [HV.out]
  rw [hc] at HC
  clear hc HV
  have l0 := (numB_length _ (cl_le id)).2
  have l1 := (numB_length _ (cl_le (ns.length : Int))).2
  have HN0 := hid (fun w (hw : W.heap.size ≤ w.heap.size) => rnum_own W.heap.size none 0 [] id w (World.ownsRow_nil _ _ _ _) hw (by simp))
  have HN1 := hid (fun A c l w (h : OwnB w W.heap.size A c l) (hw : W.heap.size ≤ w.heap.size) (hl : l.length ≤ 100000) => rnum_own W.heap.size A c l (ns.length : Int) w h hw hl)
  generalize numB (cl id) = q0 at *
  generalize numB (cl (ns.length : Int)) = q1 at *
  have HL := hid (And.intro l0 l1)
  clear l0 l1
  obtain ⟨hd, hhd⟩ : ∃ hd, hd = q0 ++ q1 := ⟨_, rfl⟩
  rw [← hhd]
  have HHD := hid hhd
  clear hhd
  rw [List.nil_append] at HN0
  go_enter Try.func22, Try.ntmps22
  go_upto_region 1 with (fail)
  refine at_world (fun u => u.heap[W.heap.size]? = some (.cells #[.int .i64 id, .slice A ns.length c] 27 (0, 0)) ∧ Below W.heap.size W u) ⟨h0, hb0⟩ ?_
  clear h0 hb0
  rintro w1 ⟨hm1, hB1⟩
  obtain ⟨p0, p1⟩ := two_cellsR hm1
  have HM1 := hid hm1
  have HB1 := hid hB1
  clear hm1 hB1
  go_wp2_with fail
  refine (HC.out _ HB1.out).mono ?_
  rintro x w2 ⟨rfl, hb2⟩
  have HM2 := hid (keep0 HM1.out hb2)
  have HB2 := hid (HB1.out.trans (hb2.mono HB1.out.size))
  clear hb2 HM1 HB1 HC p0 p1
  obtain ⟨p0, p1⟩ := two_cellsR HM2.out
  go_wp2_with fail
  refine (HN0.out _ HB2.out.size).mono ?_
  rintro x w3 ⟨A3, c3, rfl, ho3, hb3⟩
  have HO3 := hid ho3
  have HM3 := hid (keep0 HM2.out hb3)
  have HB3 := hid (HB2.out.trans (hb3.mono HB2.out.size))
  have hl3 : q0.length ≤ 8 := HL.out.1
  clear ho3 hb3 HM2 HB2 HN0 p0 p1
  obtain ⟨p0, p1⟩ := two_cellsR HM3.out
  go_wp2_with fail
  refine (HN1.out _ _ _ _ HO3.out HB3.out.size (by omega)).mono ?_
  rintro x w4 ⟨A9, c9, rfl, ho4, hb4⟩
  have hl9 : (q0 ++ q1).length ≤ 16 := by have := HL.out; rw [List.length_append]; omega
  have HO9 := hid ho4
  have HM4 := hid (keep0 HM3.out hb4)
  have HB9 := hid (HB3.out.trans (hb4.mono HB3.out.size))
  clear ho4 hb4 HM3 HB3 HO3 HN1 p0 p1 hl3
  obtain ⟨p0, p1⟩ := two_cellsR HM4.out
  generalize q0 ++ q1 = L9 at *
  clear HL
  go_wp2_with fail
  clear p0 p1
  go_loopw [3, 5, 20] (fun v _ i wr => ∃ (n : Nat) (A9' : Option Addr) (c9' : Nat), n ≤ ns.length ∧ i = .int .i64 (n : Int) ∧ v = .slice A9' (L9 ++ txs (ns.take n)).length c9' ∧ Hid (OwnB wr W.heap.size A9' c9' (L9 ++ txs (ns.take n))) ∧ Hid (Below W.heap.size W wr)) (fun _ _ i _ => ns.length - (intOf i).toNat)
  case atStart => exact ⟨0, A9, c9, by omega, rfl, by simp [txs], by rw [Hid]; simpa [txs] using HO9.out, HB9.out⟩
  case round =>
    obtain ⟨n, A', c', hn, rfl, rfl, HO, HB⟩ := hrel
    by_cases hlt : n < ns.length
    · have hlt2 : (n : Int) < (ns.length : Int) := by omega
      obtain ⟨b', off, rfl, hc⟩ := Sl.at (HX.out.below HB.out).1 n (by rw [scells_length]; exact hlt)
      have e1 : (scells ns)[n]'(by rw [scells_length]; exact hlt) = .string (str (ns[n]'hlt)) := by simp [scells]
      rw [e1] at hc
      have hsl := HNS.out.2 ns[n] (List.getElem_mem hlt)
      have htl := txs_len (ns.take n) (fun s hs => HNS.out.2 s (List.mem_of_mem_take hs))
      rw [List.length_take, Nat.min_eq_left hn] at htl
      have hn16 := HNS.out.1
      have HTS : Hid (L9 ++ txs (ns.take (n + 1)) = (L9 ++ txs (ns.take n)) ++ tx ns[n]) := hid (by rw [List.take_succ_eq_append_getElem hlt, txs_snoc, List.append_assoc])
      have HLN : Hid ((L9 ++ txs (ns.take n)).length ≤ 100000) := hid (by rw [List.length_append]; omega)
      generalize ns[n]'hlt = sx at *
      generalize L9 ++ txs (ns.take n) = cur at *
      have HT := hid (rtext_own W.heap.size A' c' cur sx wr HO.out HB.out.size HLN.out (by omega))
      rw [← HTS.out] at HT
      clear e1
      go_wp2_with fail
      refine HT.out.mono ?_
      rintro x w10 ⟨A10, c10, rfl, ho10, hb10⟩
      have HO10 := hid ho10
      have HB10 := hid (HB.out.trans (hb10.mono HB.out.size))
      clear ho10 hb10 HT HO HB hc
      go_wp2
      go_roundw
      case rel => exact ⟨n + 1, A10, c10, by omega, by go_num, by rw [List.length_append], HO10.out, HB10.out⟩
      case measure => simp [intOf]; omega
    · obtain rfl : n = ns.length := by omega
      have hge : ¬ ((ns.length : Nat) : Int) < ((ns.length : Nat) : Int) := by omega
      have HT := hid (List.take_length (l := ns))
      have HO2 : Hid (OwnB wr W.heap.size A' c' (L9 ++ txs ns)) := hid (by rw [← HT.out]; simpa using HO.out)
      clear hlt hn HO
      obtain rfl : hd = L9 := HHD.out
      have HQ : Hid ((hd ++ txs (ns.take ns.length)).length = (hd ++ txs ns).length) := hid (by rw [HT.out])
      go_wp2
      go_ret
      exact ⟨A', c', by simp, HO2.out, HB.out⟩
end Go.Proofs.Ytgakobolhmdnnaa
