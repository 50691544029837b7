/- job.Check, and the document's: contracts. -/
import Derived.Test.YthohedadmfbahaaDoorQJbB
namespace Go.Proofs.YthohedadmfbahaaDoor
open Go.RowKit Go.Sort
set_option linter.unusedVariables false
set_option linter.unusedSimpArgs false

theorem numbered_any (id : Int) (W : World) : Calls Tryd.prog 43 #[.int .i64 id] W fun e w' => e = .returned (.bool (decide (1 ≤ id ∧ id ≤ 72057594037927935))) ∧ W = w' := by
  by_cases h1 : 1 ≤ id
  · by_cases h2 : id ≤ 72057594037927935
    · rw [decide_eq_true ⟨h1, h2⟩]
      have h3 : id ≥ 1 := h1
      go_enter Tryd.func43, Tryd.ntmps43
      go_wp2
      go_ret
      exact ⟨rfl, rfl⟩
    · rw [decide_eq_false (fun h => h2 h.2)]
      have h3 : id ≥ 1 := h1
      go_enter Tryd.func43, Tryd.ntmps43
      go_wp2
      go_ret
      exact ⟨rfl, rfl⟩
  · rw [decide_eq_false (fun h => h1 h.1)]
    have h3 : ¬ id ≥ 1 := h1
    go_enter Tryd.func43, Tryd.ntmps43
    go_wp2
    go_ret
    exact ⟨rfl, rfl⟩
theorem chkJ_no {id : Int} {T xs : List (List UInt8)} {ws : List Wk} (h : ¬ (1 ≤ id ∧ id ≤ 72057594037927935)) : chkJ id T ws xs = (-1, 0, 1) := by rw [chkJ, if_neg h]
theorem chkJ_empty {id : Int} {T xs : List (List UInt8)} {ws : List Wk} (h : 1 ≤ id ∧ id ≤ 72057594037927935) (h0 : xs.length = 0) : chkJ id T ws xs = (-1, 0, 10) := by rw [chkJ, if_pos h, if_pos h0]
theorem chkJ_long {id : Int} {T xs : List (List UInt8)} {ws : List Wk} (h : 1 ≤ id ∧ id ≤ 72057594037927935) (h0 : xs.length ≠ 0) (h1 : 16 < xs.length) : chkJ id T ws xs = (-1, 0, 4) := by rw [chkJ, if_pos h, if_neg h0, if_pos h1]
theorem chkJ_in {id : Int} {T xs : List (List UInt8)} {ws : List Wk} (h : 1 ≤ id ∧ id ≤ 72057594037927935) (h0 : xs.length ≠ 0) (h1 : ¬ 16 < xs.length) : chkJ id T ws xs = chkF T ws 0 (xs.drop 0) := by rw [chkJ, if_pos h, if_neg h0, if_neg h1, List.drop_zero]
/-- What a check answers. -/
def Ck (R : Int × Nat × Int) : Value := .tuple #[.int .i64 R.1, .int .i64 (R.2.1 : Nat), .int .i64 R.2.2]

set_option maxRecDepth 20000 in
set_option maxHeartbeats 4000000 in
theorem jcheck_any (x : Cf) (N : Option Addr) (nc : Nat) (K : Option Addr) (kc : Nat) (id : Int) (A : Option Addr) (c : Nat) (xs : List (List UInt8)) (W : World) (hC : CfAt W x N nc K kc) (hX : TxJ W A c xs) (hs : ∀ s ∈ xs, s.length ≤ 1000) (hw : x.ws.length ≤ 1000) :
    Calls Tryd.prog 32 #[.agg (cfc x N nc K kc), .agg #[.int .i64 id, .slice A xs.length c]] W fun e w' => e = .returned (Ck (chkJ id x.T x.ws xs)) ∧ Below W.heap.size W w' := by
  obtain ⟨sc, le, ag, ro, ou, T, ws⟩ := x
  simp only [cfc]
  have HX := hid hX
  have HS := hid hs
  have hn63 := len63J hX
  have HND := hid (fun u (hu : Below W.heap.size W u) (l : List UInt8) (hl : l.length ≤ 1000) => need_any N nc T l u ((hC.below hu).1.1) hl)
  have HWK := hid (fun u (hu : Below W.heap.size W u) A c (nd : List (Int × Int)) (hnl : nd.length ≤ 200) (h : Sl u 2 A nd.length c (pcells nd)) => workers_any A c nd K kc ws u h (by omega) ((hC.below hu).2.1) hC.2.2 hw)
  have HNM := hid (fun u => numbered_any id u)
  clear hC hX hs hw
  obtain ⟨R, hR⟩ : ∃ R, chkJ id T ws xs = R := ⟨_, rfl⟩
  show Calls _ _ _ _ fun e w' => e = .returned (Ck (chkJ id T ws xs)) ∧ Below W.heap.size W w'
  rw [hR]
  have HR := hid hR
  clear hR
  go_enter Tryd.func32, Tryd.ntmps32
  go_upto_region 1 with (fail)
  refine at_world (fun u => u.heap[W.heap.size]? = some (.cells #[.int .i64 sc, .int .i64 le, .int .i64 ag, .int .i64 ro, .int .i64 ou, .slice N T.length nc, .slice K ws.length kc] 25 (0, 0)) ∧ u.heap[W.heap.size + 1]? = some (.cells #[.int .i64 id, .slice A xs.length c] 45 (0, 0)) ∧ Below W.heap.size W u) ⟨(Below.heap_alloc _ _ _ (by simp)).trans (heap_alloc_new _ _), by have := heap_alloc_new (W.alloc (.cells #[.int .i64 sc, .int .i64 le, .int .i64 ag, .int .i64 ro, .int .i64 ou, .slice N T.length nc, .slice K ws.length kc] 25)) (.cells #[.int .i64 id, .slice A xs.length c] 45); simpa using this, bel_alloc (bel_alloc (Below.refl _ _) _) _⟩ ?_
  rintro w1 ⟨hq, hj, hb⟩
  have HQ := hid hq
  have HB := hid hb
  obtain ⟨j0, j1⟩ := two_cellsR hj
  clear hq hb hj
  generalize W.heap.size + 1 = J at *
  generalize hQ : W.heap.size = Q at HQ
  clear hQ
  by_cases hidd : 1 ≤ id ∧ id ≤ 72057594037927935
  · have HN1 := hid (HNM.out w1)
    rw [decide_eq_true hidd] at HN1
    by_cases h0 : xs.length = 0
    · have hRe := HR.out
      rw [chkJ_empty hidd h0] at hRe
      subst hRe
      rw [h0] at j1
      clear h0 hidd HR HNM
      go_wp2_with fail
      refine HN1.out.mono ?_
      rintro e w2 ⟨rfl, rfl⟩
      go_wp2
      refine bodyPost_ret (v := Ck (-1, 0, 10)) (by simp [Ck, results, Tryd.results32, go_sem]) rfl ⟨rfl, HB.out⟩
    · by_cases h16 : 16 < xs.length
      · have hRe := HR.out
        rw [chkJ_long hidd h0 h16] at hRe
        subst hRe
        clear hidd HR HNM
        generalize xs.length = n at *
        have z1 : ((n : Int) == 0) = false := by simpa using h0
        have z2 : (16 : Int) < (n : Int) := by omega
        go_wp2_with fail
        refine HN1.out.mono ?_
        rintro e w2 ⟨rfl, rfl⟩
        go_wp2
        refine bodyPost_ret (v := Ck (-1, 0, 4)) (by simp [Ck, results, Tryd.results32, go_sem]) rfl ⟨rfl, HB.out⟩
      · have hRe := HR.out
        rw [chkJ_in hidd h0 h16] at hRe
        have HR := hid hRe
        clear hidd hRe HNM
        generalize hn : xs.length = n at *
        have HN := hid hn
        clear hn
        have z1 : ((n : Int) == 0) = false := by simpa using h0
        have z2 : ¬ (16 : Int) < (n : Int) := by omega
        have hn16 : n ≤ 16 := by omega
        go_wp2_with fail
        refine HN1.out.mono ?_
        rintro e w2 ⟨rfl, rfl⟩
        clear HN1
        go_wp2
        clear j0 j1 z1 z2
        go_loopw [30] (fun i wr => ∃ k : Nat, k ≤ n ∧ i = .int .i64 (k : Int) ∧ Hid (chkF T ws k (xs.drop k) = R) ∧ Hid (Below W.heap.size W wr) ∧ Hid (wr.heap[Q]? = some (.cells #[.int .i64 sc, .int .i64 le, .int .i64 ag, .int .i64 ro, .int .i64 ou, .slice N T.length nc, .slice K ws.length kc] 25 (0, 0)))) (fun i _ => n - (intOf i).toNat)
        case atStart => exact ⟨0, by omega, rfl, HR, HB, HQ⟩
        case round =>
          clear HB HQ HR
          obtain ⟨k, hk, rfl, HR, HB, HQ⟩ := hrel
          by_cases hlt : k < n
          · have hlt2 : (k : Int) < (n : Int) := by omega
            have hkx : k < xs.length := by rw [HN.out]; exact hlt
            obtain ⟨b, off, ha, ct⟩ := text_at (HX.out.below HB.out) k hkx
            subst ha
            have hRk := HR.out
            rw [chkF_drop hkx] at hRk
            have HNN := hid (HND.out wr HB.out xs[k] (HS.out _ (List.getElem_mem hkx)))
            unfold NdAns at HNN
            have HSO : Hid ((ndT T xs[k]).2.2 = 0 → setJ T ws xs[k] = wkS (ndT T xs[k]).1 ws) := hid fun h => setJ_ok h
            have HNL := hid (ndT_len T xs[k])
            generalize xs[k] = l at *
            generalize str l = st at *
            generalize setJ T ws l = sj at *
            generalize ndT T l = F at *
            obtain ⟨nd, k0, e0⟩ := F
            simp only at HNN HSO HNL hRk
            have HRK := hid hRk
            clear hRk hkx HR
            obtain ⟨q0, q1, q2, q3, q4, q5, q6⟩ := seven_cellsJ HQ.out
            go_wp2_with fail
            refine HNN.out.mono ?_
            rintro e w3 ⟨A2, c2, rfl, ho, hb⟩
            have HO3 := hid ho
            have HB3 := hid (HB.out.trans (hb.mono HB.out.size))
            have HQ3 := hid (keep0 HQ.out hb)
            clear hb ho HNN q0 q1 q2 q3 q4 q5 q6 ct HB HQ
            by_cases he : e0 = 0
            · have hsj := HSO.out he
              have hRk := HRK.out
              rw [if_pos he] at hRk
              subst he
              have HWW := hid (HWK.out w3 HB3.out A2 c2 nd HNL.out (sl_own HO3.out))
              rw [← hsj] at HWW
              obtain ⟨q0, q1, q2, q3, q4, q5, q6⟩ := seven_cellsJ HQ3.out
              clear HSO HRK hsj HO3
              by_cases hz : sj = 0
              · rw [if_pos hz] at hRk
                subst hRk
                subst hz
                go_wp2_with fail
                refine HWW.out.mono ?_
                rintro e w4 ⟨rfl, hb⟩
                have HB4 := hid (HB3.out.trans (hb.mono HB3.out.size))
                clear hb HWW q0 q1 q2 q3 q4 q5 q6
                go_wp2
                refine bodyPost_ret (v := Ck ((k : Int), 0, 11)) (by simp [Ck, results, Tryd.results32, go_sem]) rfl ⟨rfl, HB4.out⟩
              · rw [if_neg hz] at hRk
                have HR := hid hRk
                have hz2 : ((sj : Int) == 0) = false := by simpa using hz
                clear hRk
                go_wp2_with fail
                refine HWW.out.mono ?_
                rintro e w4 ⟨rfl, hb⟩
                have HB4 := hid (HB3.out.trans (hb.mono HB3.out.size))
                have HQ4 := hid (keep0 HQ3.out hb)
                clear hb HWW q0 q1 q2 q3 q4 q5 q6 HQ3 HB3
                go_wp2
                go_roundw
                case rel => exact ⟨k + 1, by omega, by go_num, HR, HB4, HQ4⟩
                case measure => simp [intOf]; omega
            · have he2 : (e0 != 0) = true := bne_iff_ne.mpr he
              have hRk := HRK.out
              rw [if_neg he] at hRk
              subst hRk
              clear HRK HSO HWK
              go_wp2
              refine bodyPost_ret (v := Ck ((k : Int), k0, e0)) (by simp [Ck, results, Tryd.results32, go_sem]) rfl ⟨rfl, HB3.out⟩
          · have hge : ¬ (k : Int) < (n : Int) := by omega
            have hRk := HR.out
            rw [chkF_end (by rw [HN.out]; omega)] at hRk
            subst hRk
            go_wp2
            refine bodyPost_ret (v := Ck (-1, 0, 0)) (by simp [Ck, results, Tryd.results32, go_sem]) rfl ⟨rfl, HB.out⟩
  · have hRe := HR.out
    rw [chkJ_no hidd] at hRe
    subst hRe
    have HN1 := hid (HNM.out w1)
    rw [decide_eq_false hidd] at HN1
    clear hidd HR HNM
    go_wp2_with fail
    refine HN1.out.mono ?_
    rintro e w2 ⟨rfl, rfl⟩
    go_wp2
    refine bodyPost_ret (v := Ck (-1, 0, 1)) (by simp [Ck, results, Tryd.results32, go_sem]) rfl ⟨rfl, HB.out⟩
end Go.Proofs.YthohedadmfbahaaDoor
