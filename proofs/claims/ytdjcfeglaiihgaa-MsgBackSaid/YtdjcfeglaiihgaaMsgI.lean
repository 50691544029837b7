/- MsgBack. -/
import Derived.Test.YtdjcfeglaiihgaaMsgH
import Derived.Test.YtdjcfeglaiihgaaMsgM
import Derived.Test.YtdjcfeglaiihgaaStep
import Derived.Deep.RegionHeld3
namespace Go.Proofs.Ytdjcfeglaiihgaa
open Go.RowKit Go.Sort
set_option linter.unusedVariables false
set_option linter.unusedSimpArgs false

/-- The law's two messages, in its blocks. -/
structure MB2 (W w : World) (A B : Nat) (k j t p k' j' t' p' : Int) : Prop where
  a : Mc w A k j t p
  b : Mc w B k' j' t' p'
  bel : Below W.heap.size W w
theorem MB2.below {W w w' : World} {A B : Nat} {k j t p k' j' t' p' : Int} (h : MB2 W w A B k j t p k' j' t' p') (hb : Below w.heap.size w w') : MB2 W w' A B k j t p k' j' t' p' :=
  ⟨keep0 h.a hb, keep0 h.b hb, h.bel.trans (hb.mono h.bel.size)⟩

set_option maxHeartbeats 2000000 in
theorem msgBack_small (k j t p k' j' t' p' : Int) (s : ByteArray) (W : World) (hs : s.size ≤ 1000) : Calls Try.prog 4 #[.agg #[.int .i64 k, .int .i64 j, .int .i64 t, .int .i64 p], .agg #[.int .i64 k', .int .i64 j', .int .i64 t', .int .i64 p'], .string s] W fun e w' => e = .returned (.bool true) ∧ Below W.heap.size W w' := by
  have HW := hid works22_any
  have HP := hid (fun w => parse_any s hs w)
  have hl : s.data.toList.length = s.size := by rw [Array.length_toList]; rfl
  have HO := hid (pm_ok s.data.toList)
  have HG := hid (pm_msg s.data.toList)
  have hs1 : (s.size : Int) ≤ 1000 := by omega
  have hs2 : decide (1000 < (s.size : Int)) = false := by simp; omega
  have hK : MB2 W ((W.alloc (.cells #[.int .i64 k, .int .i64 j, .int .i64 t, .int .i64 p] 24)).alloc (.cells #[.int .i64 k', .int .i64 j', .int .i64 t', .int .i64 p'] 24)) W.heap.size (W.heap.size + 1) k j t p k' j' t' p' := ⟨heap_first _ _ _, heap_second _ _ _, below2 _ _ _⟩
  clear hs
  go_enter Try.func4, Try.ntmps4
  go_upto_region 1 with (fail)
  generalize W.heap.size + 1 = B at hK ⊢
  generalize W.heap.size = A at hK ⊢
  refine at_world (fun w => MB2 W w A B k j t p k' j' t' p') hK ?_
  clear hK
  rintro w0 hK
  have HK := hid hK
  clear hK
  go_wp2_with fail
  refine (HP.out _).mono ?_
  rintro x w1 ⟨rfl, hb1⟩
  have HK1 := hid (HK.out.below hb1)
  clear HP hb1 HK
  rcases Classical.em (pe s.data.toList = 0) with he | he
  case' inl =>
    obtain ⟨k2, j2, t2, p2, h2, hc2, hm2⟩ := HO.out he
    have HC := hid (fun w => check_any k2 j2 t2 p2 w)
    have HY := hid (fun w => bytes_any k2 j2 t2 p2 w)
    rw [if_pos hc2, hm2, str_of] at HY
    rw [hc2] at HC
    rw [h2, he]
    clear HO HG he h2 hc2 hm2 hl
    unfold msgV
    have K1 : Hid (Mc (w1.alloc (.cells #[.int .i64 k2, .int .i64 j2, .int .i64 t2, .int .i64 p2] 24)) w1.heap.size k2 j2 t2 p2 ∧ MB2 W (w1.alloc (.cells #[.int .i64 k2, .int .i64 j2, .int .i64 t2, .int .i64 p2] 24)) A B k j t p k' j' t' p') := hid ⟨heap_alloc_new _ _, HK1.out.below ((Below.refl _ _).alloc (Nat.le_refl _) _)⟩
    clear HK1
    go_upto_region 4 with (fail)
    have K1' := K1.out
    clear K1
    generalize w1.heap.size = M1 at K1' ⊢
    refine at_world (fun w => Mc w M1 k2 j2 t2 p2 ∧ MB2 W w A B k j t p k' j' t' p') K1' ?_
    clear K1'
    rintro w2 ⟨hm2, hK2⟩
    have HK2 := hid hK2
    obtain ⟨⟨q0, q1, q2, q3⟩, g0, g1, g2, g3⟩ := four_cells hm2
    have HM2 := hid hm2
    clear hm2 hK2
    go_wp2_with (go_at_call 15; refine (HC.out _).mono ?_; rintro x w3 ⟨rfl, hb3⟩; obtain ⟨⟨r0, r1, r2, r3⟩, _⟩ := four_cells (keep0 HM2.out hb3))
    refine (HY.out _).mono ?_
    rintro x w4 ⟨rfl, hb4⟩
    have HK4 := hid ((HK2.out.below hb3).below hb4)
    clear HK2 hb3 hb4 HM2 HY HC q0 q1 q2 q3 g0 g1 g2 g3 r0 r1 r2 r3
    go_upto_region 6 with (fail)
    refine at_world (fun w => MB2 W w A B k j t p k' j' t' p') HK4.out ?_
    clear HK4
  case' inr =>
    obtain ⟨k2, j2, t2, p2, h2⟩ := HG.out
    rw [h2]
    have hne : (pe s.data.toList == 0) = false := by simp [he]
    clear HO HG h2 hl he
    generalize pe s.data.toList = e2 at *
    have K1 : Hid (MB2 W (w1.alloc (.cells #[.int .i64 k2, .int .i64 j2, .int .i64 t2, .int .i64 p2] 24)) A B k j t p k' j' t' p') := hid (HK1.out.below ((Below.refl _ _).alloc (Nat.le_refl _) _))
    clear HK1
    go_upto_region 6 with (fail)
    refine at_world (fun w => MB2 W w A B k j t p k' j' t' p') K1.out ?_
    clear K1
  all_goals
    rintro w5 hK5
    have HK5 := hid hK5
    have HBa := hid (fun w => bytes_any k j t p w)
    have HBb := hid (fun w => bytes_any k' j' t' p' w)
    have HCa := hid (fun w => check_any k j t p w)
    have HCb := hid (fun w => check_any k' j' t' p' w)
    have hS : ∀ U, Below w5.heap.size w5 U → ((U.cell? ⟨A, 0, none⟩ = some (.int .i64 k) ∧ U.cell? ⟨A, 1, none⟩ = some (.int .i64 j) ∧ U.cell? ⟨A, 2, none⟩ = some (.int .i64 t) ∧ U.cell? ⟨A, 3, none⟩ = some (.int .i64 p) ∧ U.cell? ⟨B, 0, none⟩ = some (.int .i64 k') ∧ U.cell? ⟨B, 1, none⟩ = some (.int .i64 j') ∧ U.cell? ⟨B, 2, none⟩ = some (.int .i64 t') ∧ U.cell? ⟨B, 3, none⟩ = some (.int .i64 p')) ∧ Below w5.heap.size w5 U) := by
      intro U hU
      obtain ⟨⟨p0, p1, p2, p3⟩, _⟩ := four_cells (keep0 HK5.out.a hU)
      obtain ⟨⟨r0, r1, r2, r3⟩, _⟩ := four_cells (keep0 HK5.out.b hU)
      exact ⟨⟨p0, p1, p2, p3, r0, r1, r2, r3⟩, hU⟩
    clear hK5
    generalize hx : (if chkB k j t p then str (mb k j t p) else (⟨#[]⟩ : ByteArray)) = x at *
    generalize hy : (if chkB k' j' t' p' then str (mb k' j' t' p') else (⟨#[]⟩ : ByteArray)) = y at *
    have HX := hid hx
    have HY := hid hy
    clear hx hy
    go_region_held3 (fun U => ((U.cell? ⟨A, 0, none⟩ = some (.int .i64 k) ∧ U.cell? ⟨A, 1, none⟩ = some (.int .i64 j) ∧ U.cell? ⟨A, 2, none⟩ = some (.int .i64 t) ∧ U.cell? ⟨A, 3, none⟩ = some (.int .i64 p) ∧ U.cell? ⟨B, 0, none⟩ = some (.int .i64 k') ∧ U.cell? ⟨B, 1, none⟩ = some (.int .i64 j') ∧ U.cell? ⟨B, 2, none⟩ = some (.int .i64 t') ∧ U.cell? ⟨B, 3, none⟩ = some (.int .i64 p')) ∧ Below w5.heap.size w5 U))
      (exact hS _ (by repeat' (first | with_reducible exact Below.refl _ _ | with_reducible exact And.right (by assumption) | with_reducible assumption | with_reducible refine below_drew ?_)))
      (first
        | (go_at_call 16
           with_reducible refine (HBa.out _).mono ?_
           rintro e u1 ⟨rfl, g1⟩
           have g1' : Below w5.heap.size w5 u1 := bel_trans (And.right (by assumption)) g1)
        | (go_at_call 16
           with_reducible refine (HBb.out _).mono ?_
           rintro e u2 ⟨rfl, g2⟩
           have g2' : Below w5.heap.size w5 u2 := bel_trans (And.right (by assumption)) g2))
    have HK6 := hid (HK5.out.below (show Below w5.heap.size w5 u2 from by assumption))
    clear hS HK5 HBa HBb
    go_upto_region 7 with (fail)
    refine at_world (fun w => MB2 W w A B k j t p k' j' t' p') HK6.out ?_
    clear HK6
    rintro w6 hK6
    obtain ⟨⟨p0, p1, p2, p3⟩, _⟩ := four_cells hK6.a
    have HK6 := hid hK6
    clear hK6
    go_wp2_with fail
    refine (HCa.out _).mono ?_
    rintro e w7 ⟨rfl, hb7⟩
    have HK7 := hid (HK6.out.below hb7)
    clear HK6 hb7 p0 p1 p2 p3
    by_cases ha : chkB k j t p = true
    · rw [ha] at HCa ⊢
      obtain ⟨⟨q0, q1, q2, q3⟩, _⟩ := four_cells HK7.out.b
      go_wp2_with fail
      refine (HCb.out _).mono ?_
      rintro e w8 ⟨rfl, hb8⟩
      have HK8 := hid (HK7.out.below hb8)
      clear HK7 hb8 q0 q1 q2 q3
      by_cases hb : chkB k' j' t' p' = true
      · rw [hb] at HCb ⊢
        rw [if_pos ha] at HX
        rw [if_pos hb] at HY
        obtain ⟨hpe, hpm⟩ := pm_mb ha
        have hxl : x.size = (mb k j t p).length := by rw [← HX.out, str_size]
        have hxd : x.data.toList = mb k j t p := by rw [← HX.out]; simp [str]
        have hx8 : x.size ≤ 1000 := by
          rw [hxl, mb]
          have := (numB_length _ (cl_le k)).2
          have := pt_len (hasB k.toNat 1) j
          have := pt_len (hasB k.toNat 2) t
          have := pt_len (hasB k.toNat 3) p
          simp only [List.length_append]
          omega
        have HPx := hid (fun w => parse_any x hx8 w)
        rw [hxd, hpe, hpm] at HPx
        unfold msgV at HPx
        clear hpe hpm hxl hxd
        go_wp2_with fail
        refine (HPx.out _).mono ?_
        rintro e w9 ⟨rfl, hb9⟩
        have HK9 := hid (HK8.out.below hb9)
        have K1 : Hid (Mc (w9.alloc (.cells #[.int .i64 k, .int .i64 j, .int .i64 t, .int .i64 p] 24)) w9.heap.size k j t p ∧ MB2 W (w9.alloc (.cells #[.int .i64 k, .int .i64 j, .int .i64 t, .int .i64 p] 24)) A B k j t p k' j' t' p') := hid ⟨heap_alloc_new _ _, HK9.out.below ((Below.refl _ _).alloc (Nat.le_refl _) _)⟩
        clear HK9 hb9 HPx HK8
        go_upto_region 10 with (fail)
        have K1' := K1.out
        clear K1
        generalize w9.heap.size = M2 at K1' ⊢
        refine at_world (fun w => Mc w M2 k j t p ∧ MB2 W w A B k j t p k' j' t' p') K1' ?_
        clear K1'
        rintro w10 ⟨hm10, hK10⟩
        obtain ⟨⟨p0, p1, p2, p3⟩, _⟩ := four_cells hK10.a
        obtain ⟨⟨q0, q1, q2, q3⟩, _⟩ := four_cells hK10.b
        obtain ⟨⟨r0, r1, r2, r3⟩, _⟩ := four_cells hm10
        have HK10 := hid hK10
        clear hm10 hK10
        by_cases hab : k = k' ∧ j = j' ∧ t = t' ∧ p = p'
        · obtain ⟨rfl, rfl, rfl, rfl⟩ := hab
          obtain rfl : x = y := by rw [← HX.out, ← HY.out]
          have hex : x.extract 0 x.size = x := by simp
          clear HX HY
          go_wp2_with (go_at_call 12; refine (HW.out _).mono ?_; rintro e w11 ⟨rfl, hb11⟩)
          go_ret
          exact ⟨rfl, (HK10.out.below hb11).bel⟩
        · have hno : x.size ≤ y.size → y.extract 0 x.size ≠ x := by
            intro hle hex
            rw [← HX.out, ← HY.out, str_size, str_size] at hle
            have h1 : (str (mb k' j' t' p')).extract 0 (mb k j t p).length = str ((mb k' j' t' p').take (mb k j t p).length) := by
              have := str_mid (mb k' j' t' p') 0 (mb k j t p).length
              simpa using this
            rw [← HX.out, ← HY.out, str_size, h1] at hex
            have h2 : (mb k' j' t' p').take (mb k j t p).length = mb k j t p := by
              have := congrArg (fun b => b.data.toList) hex
              simpa [str] using this
            exact hab (mb_begins ha hb ((mb k' j' t' p').drop (mb k j t p).length) (by
              conv => rhs; arg 1; rw [← h2]
              rw [List.take_append_drop]))
          clear HX HY
          by_cases hle : x.size ≤ y.size
          · have hz := hno hle
            have hle1 : (x.size : Int) ≤ (y.size : Int) := by omega
            have hd : decide ((x.size : Int) ≤ (y.size : Int)) = true := decide_eq_true hle1
            have hz2 : ¬ (y.extract 0 x.size).toList = x.toList := fun h => hz (by
              rw [ByteArray.toList_eq, ByteArray.toList_eq] at h
              exact ByteArray.ext (Array.ext' h))
            have hz3 : ((y.extract 0 x.size).toList == x.toList) = false := by simpa using hz2
            clear hno hz
            go_wp2_with (go_at_call 12; refine (HW.out _).mono ?_; rintro e w11 ⟨rfl, hb11⟩)
            all_goals go_ret
            all_goals first
              | exact ⟨rfl, (HK10.out.below hb11).bel⟩
              | exact ⟨by show Ending.returned (Value.bool (!((y.extract 0 x.size).toList == x.toList))) = _; rw [hz3]; rfl, (HK10.out.below hb11).bel⟩
          · have hle1 : (y.size : Int) < (x.size : Int) := by omega
            have hd : decide ((x.size : Int) ≤ (y.size : Int)) = false := decide_eq_false (by omega)
            clear hno
            go_wp2_with (go_at_call 12; refine (HW.out _).mono ?_; rintro e w11 ⟨rfl, hb11⟩)
            all_goals go_ret
            all_goals exact ⟨rfl, (HK10.out.below hb11).bel⟩
      · rw [Bool.not_eq_true] at hb
        rw [hb]
        clear HX HY
        go_wp2_with (go_at_call 12; refine (HW.out _).mono ?_; rintro e w9 ⟨rfl, hb9⟩)
        go_ret
        exact ⟨rfl, (HK8.out.below hb9).bel⟩
    · rw [Bool.not_eq_true] at ha
      rw [ha]
      clear HX HY
      go_wp2_with (go_at_call 12; refine (HW.out _).mono ?_; rintro e w9 ⟨rfl, hb9⟩)
      go_ret
      exact ⟨rfl, (HK7.out.below hb9).bel⟩

theorem msgBack_law (k j t p k' j' t' p' : Int) (s : ByteArray) (W : World) : Calls Try.prog 4 #[.agg #[.int .i64 k, .int .i64 j, .int .i64 t, .int .i64 p], .agg #[.int .i64 k', .int .i64 j', .int .i64 t', .int .i64 p'], .string s] W fun e w' => e = .returned (.bool true) ∧ Below W.heap.size W w' := by
  by_cases hs : s.size ≤ 1000
  · exact msgBack_small k j t p k' j' t' p' s W hs
  · have HW := hid works22_any
    have hs1 : (1000 : Int) < (s.size : Int) := by omega
    have hs2 : decide (1000 < (s.size : Int)) = true := by simp; omega
    have HB2 := hid (below2 W (.cells #[.int .i64 k, .int .i64 j, .int .i64 t, .int .i64 p] 24) (.cells #[.int .i64 k', .int .i64 j', .int .i64 t', .int .i64 p'] 24))
    clear hs
    go_enter Try.func4, Try.ntmps4
    go_wp2_with (go_at_call 12; refine (HW.out _).mono ?_; rintro x w5 ⟨rfl, hb5⟩)
    go_ret
    exact ⟨rfl, HB2.out.trans (hb5.mono HB2.out.size)⟩
end Go.Proofs.Ytdjcfeglaiihgaa
