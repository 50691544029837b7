/- JobBack: the law. -/
import Derived.Test.YtgakobolhmdnnaaQJyF
import Derived.Test.YtgakobolhmdnnaaQJbF
namespace Go.Proofs.Ytgakobolhmdnnaa
open Go.RowKit Go.Sort
set_option linter.unusedVariables false
set_option linter.unusedSimpArgs false

theorem chkF_set {T xs : List (List UInt8)} {ws : List Wk} : ∀ (d k : Nat), xs.length - k = d → (chkF T ws k (xs.drop k)).2.2 = 0 → ∀ j (hj : j < xs.length), k ≤ j → setJ T ws xs[j] ≠ 0
  | 0, k, hd, _, j, hj, hkj => absurd hj (by omega)
  | d + 1, k, hd, h, j, hj, hkj => by
    have hk : k < xs.length := by omega
    rw [chkF_drop hk] at h
    by_cases h1 : (ndT T xs[k]).2.2 = 0
    · rw [if_pos h1] at h
      by_cases h2 : setJ T ws xs[k] = 0
      · rw [if_pos h2] at h
        simp at h
      · rw [if_neg h2] at h
        by_cases h3 : j = k
        · subst h3
          exact h2
        · exact chkF_set d (k + 1) (by omega) h j hj (by omega)
    · rw [if_neg h1] at h
      exact absurd h h1
theorem chkJ_set {id : Int} {T xs : List (List UInt8)} {ws : List Wk} (h : (chkJ id T ws xs).2.2 = 0) (j : Nat) (hj : j < xs.length) : setJ T ws xs[j] ≠ 0 := by
  by_cases h1 : 1 ≤ id ∧ id ≤ 72057594037927935
  · by_cases h2 : 16 < xs.length
    · rw [chkJ_long h1 (by omega) h2] at h
      simp at h
    · rw [chkJ_in h1 (by omega) h2] at h
      exact chkF_set xs.length 0 (by omega) h j hj (by omega)
  · rw [chkJ_no h1] at h
    simp at h

set_option maxRecDepth 20000 in
set_option maxHeartbeats 8000000 in
theorem jobBack_law (x : Cf) (N : Option Addr) (nc : Nat) (K : Option Addr) (kc : Nat) (id : Int) (A : Option Addr) (c : Nat) (xs : List (List UInt8)) (m8 : UInt8) (W : World) (hC : CfAt W x N nc K kc) (hX : TxJ W A c xs) :
    Calls Try.prog 5 #[.agg (cfc x N nc K kc), .agg #[.int .i64 id, .slice A xs.length c], .int .u8 (m8.toNat : Int)] W fun e w' => e = .returned (.bool true) ∧ Below W.heap.size W w' := by
  have HW := hid works15_any
  have HLC := hid (fun u (hu : Below W.heap.size W u) => r14long_any x N nc K kc u (hC.below hu))
  have HLX := hid (fun u (hu : Below W.heap.size W u) => long_any A xs.length c xs 20 300 u (hX.below hu).1 hX.2)
  have hlc : ∀ b, longCf x = b → b = false → longB xs 20 300 = false → x.ws.length ≤ 1000 ∧ xs.length ≤ 1000 ∧ ∀ s ∈ xs, s.length ≤ 1000 := fun b h1 h2 h3 => by
    rw [h2] at h1
    have h4 := (longCf_no h1).2
    obtain ⟨h5, h6⟩ := longB_len (a := 20) (b := 300) h3
    exact ⟨by omega, by omega, fun s hs => by have := h6 s hs; omega⟩
  have HCK := hid (fun (hl : x.ws.length ≤ 1000 ∧ xs.length ≤ 1000 ∧ ∀ s ∈ xs, s.length ≤ 1000) u (hu : Below W.heap.size W u) => jcheck_any x N nc K kc id A c xs u (hC.below hu) (hX.below hu) hl.2.2 hl.1)
  have HST := hid (fun (hl : x.ws.length ≤ 1000) u (hu : Below W.heap.size W u) (l : List UInt8) (h2 : l.length ≤ 1000) => jset_any x N nc K kc l u (hC.below hu) h2 hl)
  have HBY := hid (fun w (hw : Below W.heap.size W w) => jbytes_any id xs A c w (hX.below hw))
  have HPL := hid (fun w (hw : Below W.heap.size W w) => plain15_any id A c xs w (hX.below hw))
  have HSM := hid (fun (A1 : Option Addr) (c1 : Nat) w (hw : Below W.heap.size W w) (h1 : TxJ w A1 c1 xs) => show Calls _ _ _ _ fun e w' => e = .returned (.bool true) ∧ Below w.heap.size w w' by
    have h9 := rjsame15_any id A1 c1 xs id A c xs w h1 (hX.below hw)
    have ebb : ((id == id) && (xs == xs)) = true := by simp
    rw [ebb] at h9
    exact h9)
  have HPA := hid (fun (h : plainJ id xs = true) (B : Option Addr) (cb : Nat) w (hb : IsBytes w B (jB id xs).length cb (jB id xs)) => by
    obtain ⟨h1, h2, h3, h4⟩ := jp_jB h
    have h9 := jparse_own B cb (jB id xs) w hb (by have := jB_len h; omega)
    rw [h1, h2, h3] at h9
    exact h9)
  have HPB := hid (fun (h : plainJ id xs = true) (B : Option Addr) (cb : Nat) w (hb : IsBytes w B (jB id xs ++ [m8]).length cb (jB id xs ++ [m8])) => by
    obtain ⟨h1, h2, h3, h4⟩ := jp_jB h
    have h9 := jparse_own B cb (jB id xs ++ [m8]) w hb (by have := jB_len h; simp; omega)
    rw [h4] at h9
    exact h9)
  have HLL := hid (fun (h : plainJ id xs = true) => jB_len h)
  have HX := hid hX
  have HLN := hid hlc
  have hn63 := len63J hX
  have HSC := hid (fun (h : (chkJ id x.T x.ws xs).2.2 = 0) j (hj : j < xs.length) => show setJ x.T x.ws (xs.getD j []) ≠ 0 by
    have e2 : xs.getD j [] = xs[j] := by simp [List.getD, hj]
    rw [e2]
    exact chkJ_set h j hj)
  obtain ⟨sc, le, ag, ro, ou, T, ws⟩ := x
  simp only [cfc] at HLC HCK HST HSC ⊢
  generalize longCf ⟨sc, le, ag, ro, ou, T, ws⟩ = lc at *
  clear hC hX hlc
  generalize plainJ id xs = pj at *
  generalize jid (jB id xs ++ [m8]) = z1 at *
  generalize jns (jB id xs ++ [m8]) = z2 at *
  generalize jB id xs = L at *
  generalize hn : xs.length = n at *
  have HN := hid hn
  clear hn
  go_enter Try.func5, Try.ntmps5
  go_upto_region 1 with (fail)
  refine at_world (fun u => u.heap[W.heap.size]? = some (.cells #[.int .i64 sc, .int .i64 le, .int .i64 ag, .int .i64 ro, .int .i64 ou, .slice N T.length nc, .slice K ws.length kc] 25 (0, 0)) ∧ u.heap[W.heap.size + 1]? = some (.cells #[.int .i64 id, .slice A n c] 27 (0, 0)) ∧ Below W.heap.size W u) ⟨heap_first _ _ _, heap_second _ _ _, bel_alloc (bel_alloc (Below.refl _ _) _) _⟩ ?_
  rintro w1 ⟨hq, hj, hb⟩
  have HQ := hid hq
  have HJ := hid hj
  have HB := hid hb
  obtain ⟨j0, j1⟩ := two_cellsR hj
  obtain ⟨q0, q1, q2, q3, q4, q5, q6⟩ := seven_cellsJ hq
  clear hq hj hb
  generalize W.heap.size + 1 = J at *
  generalize hQ : W.heap.size = Q at HQ q0 q1 q2 q3 q4 q5 q6
  clear hQ
  cases lc with
  | true =>
    go_wp2_with fail
    refine (HLC.out _ HB.out).mono ?_
    rintro e w2 ⟨rfl, hb⟩
    have HB2 := hid (HB.out.trans (hb.mono HB.out.size))
    clear hb q0 q1 q2 q3 q4 q5 q6 j0 j1
    go_wp2_with fail
    refine (HW.out _).mono ?_
    rintro e w3 ⟨rfl, hb⟩
    have HB3 := hid (HB2.out.trans (hb.mono HB2.out.size))
    clear hb
    go_wp2
    go_ret
    exact ⟨rfl, HB3.out⟩
  | false =>
    go_wp2_with fail
    refine (HLC.out _ HB.out).mono ?_
    rintro e w2 ⟨rfl, hb⟩
    have HB2 := hid (HB.out.trans (hb.mono HB.out.size))
    have HQ2 := hid (keep0 HQ.out hb)
    have HJ2 := hid (keep0 HJ.out hb)
    clear hb q0 q1 q2 q3 q4 q5 q6 j0 j1 HB HQ HJ HLC
    obtain ⟨j0, j1⟩ := two_cellsR HJ2.out
    obtain ⟨q0, q1, q2, q3, q4, q5, q6⟩ := seven_cellsJ HQ2.out
    have HLX2 := hid (HLX.out _ HB2.out)
    cases hlx : longB xs 20 300 with
    | true =>
      rw [hlx] at HLX2
      clear hlx HLX HCK HST HLN
      go_wp2_with fail
      refine HLX2.out.mono ?_
      rintro e w3 ⟨rfl, rfl⟩
      clear q0 q1 q2 q3 q4 q5 q6 j0 j1
      go_wp2_with fail
      refine (HW.out _).mono ?_
      rintro e w3 ⟨rfl, hb⟩
      have HB3 := hid (HB2.out.trans (hb.mono HB2.out.size))
      clear hb
      go_wp2
      go_ret
      exact ⟨rfl, HB3.out⟩
    | false =>
      rw [hlx] at HLX2
      have hln := HLN.out false rfl rfl hlx
      have HCK := hid (HCK.out hln)
      have HST := hid (HST.out hln.1)
      have HTL := hid hln.2.2
      clear hlx HLX HLN hln
      go_wp2_with fail
      refine HLX2.out.mono ?_
      rintro e w3 ⟨rfl, rfl⟩
      clear HLX2
      go_wp2_with fail
      refine (HCK.out _ HB2.out).mono ?_
      rintro e w4 ⟨rfl, hb⟩
      have HB4 := hid (HB2.out.trans (hb.mono HB2.out.size))
      have HQ4 := hid (keep0 HQ2.out hb)
      have HJ4 := hid (keep0 HJ2.out hb)
      clear hb q0 q1 q2 q3 q4 q5 q6 j0 j1 HB2 HQ2 HJ2 HCK
      generalize chkJ id T ws xs = R at *
      obtain ⟨r1, r2, r3⟩ := R
      simp only [Ck]
      simp only at HSC
      go_wp2
      go_loopw [10] (fun i wr => ∃ k : Nat, k ≤ n ∧ i = .int .i64 (k : Int) ∧ Hid (Below W.heap.size W wr) ∧ Hid (wr.heap[Q]? = some (.cells #[.int .i64 sc, .int .i64 le, .int .i64 ag, .int .i64 ro, .int .i64 ou, .slice N T.length nc, .slice K ws.length kc] 25 (0, 0))) ∧ Hid (wr.heap[J]? = some (.cells #[.int .i64 id, .slice A n c] 27 (0, 0)))) (fun i _ => n - (intOf i).toNat)
      case atStart => exact ⟨0, by omega, rfl, HB4.out, HQ4.out, HJ4.out⟩
      case round =>
        clear HB4 HQ4 HJ4
        obtain ⟨k, hk, rfl, HB, HQ, HJ⟩ := hrel
        obtain ⟨j0, j1⟩ := two_cellsR HJ.out
        obtain ⟨q0, q1, q2, q3, q4, q5, q6⟩ := seven_cellsJ HQ.out
        by_cases hlt : k < n
        · have hlt2 : (k : Int) < (n : Int) := by omega
          have hk0 : ¬ (k : Int) < 0 := by omega
          by_cases he : r3 = 0
          · subst he
            have hkx : k < xs.length := by rw [HN.out]; exact hlt
            obtain ⟨b, off, ha, ct⟩ := text_at (HX.out.below HB.out) k hkx
            subst ha
            have HS := hid (fun u hu => HST.out u hu xs[k] (HTL.out _ (List.getElem_mem hkx)))
            have hne := HSC.out rfl k hlt
            have e2 : xs.getD k [] = xs[k] := by simp [List.getD, hkx]
            rw [e2] at hne
            clear e2
            generalize setJ T ws xs[k] = sv at *
            generalize str xs[k] = st at *
            have hs0 : (((sv : Nat) : Int) == 0) = false := by simpa using hne
            go_upto_region 7 with (fail)
            replace q0 := cell_regrown q0
            replace q1 := cell_regrown q1
            replace q2 := cell_regrown q2
            replace q3 := cell_regrown q3
            replace q4 := cell_regrown q4
            replace q5 := cell_regrown q5
            replace q6 := cell_regrown q6
            replace j1 := cell_regrown j1
            replace ct := cell_regrown ct
            have ck := reg (w := wr) (fun W' hW' => HS.out W' (HB.out.trans (hW'.mono HB.out.size)))
            refine wp_region_quiet_below (by kernel_rfl) (by kernel_rfl) ?_
            repeat (go_big_quiet_step ((go_at_call 18; with_reducible exact ck _ _)))
            refine wpQuiet_nil ?_
            intro _ hw'
            obtain ⟨⟨dq, osq⟩, hw''⟩ := hw'
            subst hw''
            have hbR := below_regrown wr dq osq
            refine at_world (fun u => Below wr.heap.size wr u) hbR ?_
            clear hbR q0 q1 q2 q3 q4 q5 q6 j1 j0 ct ck
            rintro v4 hb4
            have HB9 := hid (HB.out.trans (hb4.mono HB.out.size))
            have HQ9 := hid (keep0 HQ.out hb4)
            have HJ9 := hid (keep0 HJ.out hb4)
            clear hb4 HB HQ HJ
            go_wp2
            go_roundw
            case rel => exact ⟨k + 1, by omega, by go_num, HB9.out, HQ9.out, HJ9.out⟩
            case measure => simp [intOf]; omega
          · have he2 : (r3 == 0) = false := by simpa using he
            have hed : decide (r3 = 0) = false := by simpa using he
            go_upto_region 7 with (fail)
            replace q0 := cell_regrown q0
            refine wp_region_quiet_below (by kernel_rfl) (by kernel_rfl) ?_
            repeat (go_big_quiet_step (fail))
            refine wpQuiet_nil ?_
            intro _ hw'
            obtain ⟨⟨dq, osq⟩, hw''⟩ := hw'
            subst hw''
            have hbR := below_regrown wr dq osq
            refine at_world (fun u => Below wr.heap.size wr u) hbR ?_
            clear hbR q0 q1 q2 q3 q4 q5 q6 j1 j0
            rintro v4 hb4
            have HB9 := hid (HB.out.trans (hb4.mono HB.out.size))
            have HQ9 := hid (keep0 HQ.out hb4)
            have HJ9 := hid (keep0 HJ.out hb4)
            clear hb4 HB HQ HJ
            go_wp2
            go_roundw
            case rel => exact ⟨k + 1, by omega, by go_num, HB9.out, HQ9.out, HJ9.out⟩
            case measure => simp [intOf]; omega
        · have hge : ¬ (k : Int) < (n : Int) := by omega
          clear HSC HST
          cases pj with
          | false =>
            simp only [Bool.false_eq_true, if_false] at HBY
            clear HPA HPB HLL
            go_wp2_with fail
            refine (HBY.out _ HB.out).mono ?_
            rintro e w5 ⟨A5, c5, rfl, _, hb⟩
            have HB5 := hid (HB.out.trans (hb.mono HB.out.size))
            have HJ5 := hid (keep0 HJ.out hb)
            clear hb q0 q1 q2 q3 q4 q5 q6 j0 j1 HB HJ HQ HBY
            obtain ⟨j0, j1⟩ := two_cellsR HJ5.out
            go_wp2_with fail
            refine (HPL.out _ HB5.out).mono ?_
            rintro e w6 ⟨rfl, hb⟩
            have HB6 := hid (HB5.out.trans (hb.mono HB5.out.size))
            clear hb j0 j1 HB5 HJ5 HPL
            go_wp2_with (go_at_call 13; refine (HW.out _).mono ?_; rintro e w7 ⟨rfl, hb7⟩)
            go_ret
            exact ⟨rfl, HB6.out.trans (hb7.mono HB6.out.size)⟩
          | true =>
            simp only [if_true] at HBY
            have hl2 := HLL.out rfl
            have HL0 := hid (HPA.out rfl)
            have HL1 := hid (HPB.out rfl)
            clear HPA HPB HLL
            go_wp2_with fail
            refine (HBY.out _ HB.out).mono ?_
            rintro e w5 ⟨A5, c5, rfl, ho5, hb⟩
            have HB5 := hid (HB.out.trans (hb.mono HB.out.size))
            have HJ5 := hid (keep0 HJ.out hb)
            have HO5 := hid ho5.bytes
            clear hb ho5 q0 q1 q2 q3 q4 q5 q6 j0 j1 HB HJ HQ HBY
            obtain ⟨j0, j1⟩ := two_cellsR HJ5.out
            go_wp2_with fail
            refine (HPL.out _ HB5.out).mono ?_
            rintro e w6 ⟨rfl, hb⟩
            have HB6 := hid (HB5.out.trans (hb.mono HB5.out.size))
            have HJ6 := hid (keep0 HJ5.out hb)
            have HO6 := hid (HO5.out.below hb)
            clear hb j0 j1 HB5 HJ5 HPL HO5
            go_wp2_with fail
            refine (HL0.out _ _ _ HO6.out).mono ?_
            rintro e w7 ⟨A7, c7, rfl, hT7, hb⟩
            have HB7 := hid (HB6.out.trans (hb.mono HB6.out.size))
            have HJ7 := hid (keep0 HJ6.out hb)
            have HO7 := hid (HO6.out.below hb)
            have HT7 := hid hT7.tx
            clear hb hT7 HB6 HJ6 HO6 HL0
            go_upto_region 13 with (fail)
            have hal : Below w7.heap.size w7 (w7.alloc (.cells #[.int .i64 id, .slice A7 n c7] 27)) := bel_alloc (Below.refl _ _) _
            refine at_world (fun u => u.heap[J]? = some (.cells #[.int .i64 id, .slice A n c] 27 (0, 0)) ∧ u.heap[w7.heap.size]? = some (.cells #[.int .i64 id, .slice A7 n c7] 27 (0, 0)) ∧ IsBytes u A5 L.length c5 L ∧ TxJ u A7 c7 xs ∧ Below W.heap.size W u) ⟨keep0 HJ7.out hal, heap_alloc_new _ _, HO7.out.below hal, HT7.out.below hal, HB7.out.trans (hal.mono HB7.out.size)⟩ ?_
            clear hal HB7 HJ7 HO7 HT7
            generalize w7.heap.size = N7 at *
            rintro v8 ⟨hx8, hz8, hO8, hT8, hB8⟩
            have HX8 := hid hx8
            have HZ8 := hid hz8
            have HO8 := hid hO8
            have HT8 := hid hT8
            have HB8 := hid hB8
            clear hx8 hz8 hO8 hT8 hB8
            go_wp2_with (at_builtin; refine wpList_append_sl (W := v8) rfl (.tmp 67) (.tmp 68) 41 rfl v8.heap.size 5 Try.underlying41 info_u8 rfl (by omega) rfl (own_empty v8 5 1) rfl (HO8.out.below ((Below.refl _ _).alloc (Nat.le_refl _) _)) (bcells_one _) (show 0 + L.length ≤ maxLen by unfold maxLen; omega) (by omega) (Below.size ((Below.refl v8.heap.size v8).alloc (Nat.le_refl _) _)) ((Below.refl _ _).alloc (Nat.le_refl _) _) ?_)
            intro v9' v9 ho9 hb9 _
            obtain ⟨A9, c9, rfl, ho10⟩ := ownB_of (l := L) (by simpa using ho9)
            have HO10 := hid ho10
            have HB89 := hid hb9
            have hsz9 := hb9.size
            clear ho9 ho10 hb9
            have hL1 : (L ++ [m8]).length = L.length + 1 := by rw [List.length_append]; rfl
            go_wp2_with (at_builtin; refine wpList_append_sl (W := v9) rfl (.tmp 69) (.tmp 71) 41 rfl v8.heap.size 5 Try.underlying41 info_u8 rfl (by omega) rfl (own_keep HO10.out ((Below.refl _ _).alloc (Nat.le_refl _) _)) rfl (Sl.lit _ _ 1 1 #[.int .u8 (m8.toNat : Int)] rfl (by unfold maxLen; omega)) (by simp [Value.oneCell']) (show L.length + 1 ≤ maxLen by unfold maxLen; omega) (by omega) (Nat.le_trans hsz9 (Below.size ((Below.refl v9.heap.size v9).alloc (Nat.le_refl _) _))) (((Below.refl _ _).alloc (Nat.le_refl _) _).mono hsz9) ?_)
            intro v10' v10 ho10 hb10 _
            have ho11 : v10.ownsRow v8.heap.size 5 1 v10' (L.length + 1) (bcells (L ++ [m8])) := by rw [bcells_append]; exact ho10
            obtain ⟨A10, c10, rfl, ho12⟩ := ownB_of ho11
            have hb11 := HB89.out.trans hb10
            have HX10 := hid (keep0 HX8.out hb11)
            have HZ10 := hid (keep0 HZ8.out hb11)
            have HT10 := hid (HT8.out.below hb11)
            have HB10 := hid (HB8.out.trans (hb11.mono HB8.out.size))
            have HP10 := hid (HL1.out A10 c10 v10 (by rw [hL1]; have h9 := ho12.bytes; rw [hL1] at h9; exact h9))
            rw [hL1]
            rw [Hid, hL1] at HP10
            have HP10 := hid HP10
            clear ho10 ho11 ho12 hb10 hb11 HX8 HZ8 HT8 HB8 HO10 HB89 HL1 hL1 HO8
            go_wp2_with fail
            refine HP10.out.mono ?_
            rintro q v11 ⟨A11, c11, rfl, _, hb11⟩
            have HX11 := hid (keep0 HX10.out hb11)
            have HZ11 := hid (keep0 HZ10.out hb11)
            have HT11 := hid (HT10.out.below hb11)
            have HB11 := hid (HB10.out.trans (hb11.mono HB10.out.size))
            clear hb11 HX10 HZ10 HT10 HB10 HP10
            go_upto_region 14 with (fail)
            refine at_world (fun u => Below v11.heap.size v11 u) ((Below.refl _ _).alloc (Nat.le_refl _) _) ?_
            rintro v12 hb12
            have HX12 := hid (keep0 HX11.out hb12)
            have HZ12 := hid (keep0 HZ11.out hb12)
            have HB12 := hid (HB11.out.trans (hb12.mono HB11.out.size))
            have HS12 := hid (HSM.out A7 c7 v12 HB12.out (HT11.out.below hb12))
            clear hb12 HX11 HZ11 HT11 HB11 HSM
            obtain ⟨p0, p1⟩ := two_cellsR HX12.out
            obtain ⟨r0, r1⟩ := two_cellsR HZ12.out
            go_wp2_with fail
            refine HS12.out.mono ?_
            rintro q v13 ⟨rfl, hb13⟩
            have HB13 := hid (HB12.out.trans (hb13.mono HB12.out.size))
            clear hb13 HX12 HZ12 HB12 HS12 p0 p1 r0 r1
            go_wp2_with (go_at_call 13; refine (HW.out _).mono ?_; rintro e w7 ⟨rfl, hb7⟩)
            go_ret
            exact ⟨rfl, HB13.out.trans (hb7.mono HB13.out.size)⟩
end Go.Proofs.Ytgakobolhmdnnaa
