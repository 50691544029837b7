/- RecBack. -/
import Derived.Test.YtejeffnolglhoaaRecN
import Derived.Test.YtejeffnolglhoaaRecJ
import Derived.Deep.RegionHeld3
namespace Go.Proofs.Ytejeffnolglhoaa
open Go.RowKit Go.Sort
set_option linter.unusedVariables false
set_option linter.unusedSimpArgs false

set_option maxRecDepth 20000 in
set_option maxHeartbeats 16000000 in
theorem recBack_law (x : Rc) (A : Option Addr) (c : Nat) (Ab : Option Addr) (cb : Nat) (b : List UInt8) (W : World) (hx : TxAt W A c x.ns) (hb : IsBytes W Ab b.length cb b) :
    Calls Try.prog 5 #[.agg (rcc x A c), .slice Ab b.length cb] W fun e w' => e = .returned (.bool true) ∧ RowKit.Below W.heap.size W w' := by
  have HW := hid works17_any
  have hblc := hb.len
  have hb9 : b.length ≤ 9223372036854775807 := by have := hblc.2.1; have := hblc.2.2; unfold maxLen at *; omega
  clear hblc
  by_cases hbig : 4000 < b.length
  case pos =>
    have hbig2 : (4000 : Int) < (b.length : Int) := by omega
    clear hx hb
    generalize b.length = bl at *
    obtain ⟨k, j, t, w, s, e, ns⟩ := x
    simp only [rcc]
    generalize ns.length = m
    go_enter Try.func5, Try.ntmps5
    have hb0 : RowKit.Below W.heap.size W (W.alloc (.cells #[.int .i64 k, .int .i64 j, .int .i64 t, .int .i64 w, .int .i64 s, .int .i64 e, .slice A m c] 24)) := (Below.refl _ _).alloc (Nat.le_refl _) _
    go_wp2_with (go_at_call 11; refine (HW.out _).mono ?_; rintro e w7 ⟨rfl, hb7⟩)
    go_ret
    exact ⟨rfl, hb0.trans (hb7.mono hb0.size)⟩
  have hsm : (b.length : Int) ≤ 4000 := by omega
  have HP := hid (fun w (hw : RowKit.Below W.heap.size W w) => rparse_any Ab cb b w (hb.below hw) (by omega))
  have HOK := hid (pr_ok b)
  have HCV := hid (fun w (hw : RowKit.Below W.heap.size W w) => convS (hb.below hw))
  have HC := hid (fun w (hw : RowKit.Below W.heap.size W w) => rcheck_any x A c w (hx.below hw))
  have HBX := hid (fun w (hw : RowKit.Below W.heap.size W w) => recbytes_any x A c w (hx.below hw))
  have HSA := hid (fun w (hw : RowKit.Below W.heap.size W w) (A' : Option Addr) (c' : Nat) (hy : TxAt w A' c' x.ns) => r17same_any x x A' A c' c w hy (hx.below hw))
  simp only [sameR_refl] at HSA
  have HPA := hid (fun (L : List UInt8) (hL : L.length ≤ 100000) (A : Option Addr) (c : Nat) w (h : IsBytes w A L.length c L) => rparse_any A c L w h hL)
  have HRL := hid (rb_len x)
  have HRB := hid (fun h => pr_rb (x := x) h)
  have hll := hx.len
  clear hx hb hbig
  generalize chkR x = bx at *
  generalize rb x = L at *
  generalize qk b = ek at *
  generalize hbl : b.length = bl at *
  have HBL := hid hbl
  clear hbl
  have HY1 := hid (fun (A1 : Option Addr) (c1 : Nat) w0 (h0 : TxAt w0 A1 c1 (pr b).ns) w (hw : RowKit.Below w0.heap.size w0 w) => rcheck_any (pr b) A1 c1 w (h0.below hw))
  have HY2 := hid (fun (A1 : Option Addr) (c1 : Nat) w0 (h0 : TxAt w0 A1 c1 (pr b).ns) w (hw : RowKit.Below w0.heap.size w0 w) => recbytes_any (pr b) A1 c1 w (h0.below hw))
  generalize pr b = y at *
  obtain ⟨k, j, t, w, s, e, ns⟩ := x
  obtain ⟨k2, j2, t2, w2, s2, e2, ns2⟩ := y
  simp only [rcc] at *
  generalize hm : ns.length = m at *
  generalize hm2 : ns2.length = m2 at *
  have HM := hid hm
  clear hm hm2
  go_enter Try.func5, Try.ntmps5
  go_upto_region 3 with (fail)
  refine at_world (fun u => u.heap[W.heap.size]? = some (.cells #[.int .i64 k, .int .i64 j, .int .i64 t, .int .i64 w, .int .i64 s, .int .i64 e, .slice A m c] 24 (0, 0)) ∧ RowKit.Below W.heap.size W u) ⟨heap_alloc_new _ _, (Below.refl _ _).alloc (Nat.le_refl _) _⟩ ?_
  rintro u1 ⟨hx1, hB1⟩
  have HX1 := hid hx1
  have HB1 := hid hB1
  clear hx1 hB1
  go_wp2_with fail
  refine (HP.out _ HB1.out).mono ?_
  rintro q u2 ⟨A1, c1, rfl, hT, hb2⟩
  have HX2 := hid (keep0 HX1.out hb2)
  have HB2 := hid (HB1.out.trans (hb2.mono HB1.out.size))
  have HT2 := hid hT
  clear hT hb2 HX1 HB1 HP
  go_upto_region 4 with (fail)
  have hN : W.heap.size < u2.heap.size := lt_of_block HX2.out
  refine at_world (fun u => u.heap[W.heap.size]? = some (.cells #[.int .i64 k, .int .i64 j, .int .i64 t, .int .i64 w, .int .i64 s, .int .i64 e, .slice A m c] 24 (0, 0)) ∧ u.heap[u2.heap.size]? = some (.cells #[.int .i64 k2, .int .i64 j2, .int .i64 t2, .int .i64 w2, .int .i64 s2, .int .i64 e2, .slice A1 m2 c1] 24 (0, 0)) ∧ TxAt u A1 c1 ns2 ∧ RowKit.Below W.heap.size W u) ⟨(Below.heap_alloc _ _ _ hN).trans HX2.out, heap_alloc_new _ _, HT2.out.below ((Below.refl _ _).alloc (Nat.le_refl _) _), HB2.out.alloc HB2.out.size _⟩ ?_
  clear HX2 HB2 HT2
  generalize u2.heap.size = N at *
  rintro u3 ⟨hx3, hy3, hT3, hB3⟩
  have hS : ∀ U, RowKit.Below u3.heap.size u3 U → ((U.cell? ⟨N, 0, none⟩ = some (.int .i64 k2) ∧ U.cell? ⟨N, 1, none⟩ = some (.int .i64 j2) ∧ U.cell? ⟨N, 2, none⟩ = some (.int .i64 t2) ∧ U.cell? ⟨N, 3, none⟩ = some (.int .i64 w2) ∧ U.cell? ⟨N, 4, none⟩ = some (.int .i64 s2) ∧ U.cell? ⟨N, 5, none⟩ = some (.int .i64 e2) ∧ U.cell? ⟨N, 6, none⟩ = some (.slice A1 m2 c1)) ∧ RowKit.Below u3.heap.size u3 U) := fun U hU => ⟨seven_cells (keep0 hy3 hU), hU⟩
  have HX3 := hid hx3
  have HB3 := hid hB3
  have HU := hid (fun U (h : RowKit.Below u3.heap.size u3 U) => hB3.trans (h.mono hB3.size))
  have hu0 : RowKit.Below u3.heap.size u3 u3.drew := below_drew (Below.refl _ _)
  have HC1 := hid (HY1.out A1 c1 u3 hT3)
  have HC2 := hid (HY2.out A1 c1 u3 hT3)
  have hcvd : ∀ U, RowKit.Below u3.heap.size u3 U → _ := fun U h => HCV.out U (HU.out U h)
  have HCD := hid hcvd
  clear hcvd hx3 hy3 hT3 hB3 HY1 HY2 HCV
  by_cases he : ek = 0
  case pos =>
    obtain ⟨hc9, hr9⟩ := HOK.out he
    subst he
    rw [hc9] at HC1 HC2
    rw [hr9] at HC2
    simp only [if_true] at HC2
    clear HOK hc9 hr9
    have e98 : ((str b).toList != (str b).toList) = false := by simp
    refine wp_region_held_drew (S := (fun U => (U.cell? ⟨N, 0, none⟩ = some (.int .i64 k2) ∧ U.cell? ⟨N, 1, none⟩ = some (.int .i64 j2) ∧ U.cell? ⟨N, 2, none⟩ = some (.int .i64 t2) ∧ U.cell? ⟨N, 3, none⟩ = some (.int .i64 w2) ∧ U.cell? ⟨N, 4, none⟩ = some (.int .i64 s2) ∧ U.cell? ⟨N, 5, none⟩ = some (.int .i64 e2) ∧ U.cell? ⟨N, 6, none⟩ = some (.slice A1 m2 c1)) ∧ RowKit.Below u3.heap.size u3 U)) (by kernel_rfl) (hS _ hu0) (fun hHeld => ?_)
    refine wpAnyH_take (i := 0) (v := ?_) rfl (by kernel_rfl) (by kernel_rfl) (by kernel_rfl) (fun _ _ _ h => h) (Or.inl ⟨by rfl, ?_⟩) (by assumption) ?_
    rotate_left
    focus
      intro U hU
      try dsimp only at hU
      go_simp
      try (with_reducible rfl)
    simp only [List.getElem_toArray, List.getElem_cons_succ, List.getElem_cons_zero, Act.put, List.setIfInBounds_toArray, List.set_cons_zero, List.set_cons_succ]
    refine wpAnyH_take (i := 1) (v := ?_) rfl (by kernel_rfl) (by kernel_rfl) (by kernel_rfl) (fun _ _ _ h => h) (Or.inl ⟨by rfl, ?_⟩) (by assumption) ?_
    rotate_left
    focus
      intro U hU
      try dsimp only at hU
      go_simp
      try (with_reducible rfl)
    simp only [List.getElem_toArray, List.getElem_cons_succ, List.getElem_cons_zero, Act.put, List.setIfInBounds_toArray, List.set_cons_zero, List.set_cons_succ]
    refine wpAnyH_take (i := 2) (v := ?_) rfl (by kernel_rfl) (by kernel_rfl) (by kernel_rfl) (fun _ _ _ h => h) (Or.inl ⟨by rfl, ?_⟩) (by assumption) ?_
    rotate_left
    focus
      intro U hU
      try dsimp only at hU
      go_simp
      try (with_reducible rfl)
    simp only [List.getElem_toArray, List.getElem_cons_succ, List.getElem_cons_zero, Act.put, List.setIfInBounds_toArray, List.set_cons_zero, List.set_cons_succ]
    refine wpAnyH_take (i := 3) (v := ?_) rfl (by kernel_rfl) (by kernel_rfl) (by kernel_rfl) (fun _ _ _ h => h) (Or.inl ⟨by rfl, ?_⟩) (by assumption) ?_
    rotate_left
    focus
      intro U hU
      try dsimp only at hU
      go_simp
      try (with_reducible rfl)
    simp only [List.getElem_toArray, List.getElem_cons_succ, List.getElem_cons_zero, Act.put, List.setIfInBounds_toArray, List.set_cons_zero, List.set_cons_succ]
    refine wpAnyH_ready (rs := [4]) (by kernel_rfl) (by simp) ?_
    refine AllReadyH.cons rfl (fun K hK => ?_) AllReadyH.nil
    simp only [List.getElem_toArray, List.getElem_cons_succ, List.getElem_cons_zero]
    go_simp
    refine (HC1.out _ hu0).mono ?_
    rintro q u1' ⟨rfl, hb1⟩
    have hu1 : RowKit.Below u3.heap.size u3 u1' := hu0.trans (hb1.mono hu0.size)
    clear hb1
    go_wp2_with fail
    refine hK.out _ _ ?_ (fun hHeld2 => ?_)
    focus
      exact hS _ (by with_reducible assumption)
    clear hHeld
    have hHeld := hHeld2
    clear hHeld2 hK K
    try simp only [List.getElem_toArray, List.getElem_cons_succ, List.getElem_cons_zero, Act.put, List.setIfInBounds_toArray, List.set_cons_zero, List.set_cons_succ]
    refine wpAnyH_take (i := 5) (v := ?_) rfl (by kernel_rfl) (by kernel_rfl) (by kernel_rfl) (fun _ _ _ h => h) (Or.inl ⟨by rfl, ?_⟩) (by assumption) ?_
    rotate_left
    focus
      intro U hU
      try dsimp only at hU
      go_simp
      try (with_reducible rfl)
    simp only [List.getElem_toArray, List.getElem_cons_succ, List.getElem_cons_zero, Act.put, List.setIfInBounds_toArray, List.set_cons_zero, List.set_cons_succ]
    refine wpAnyH_take (i := 6) (v := ?_) rfl (by kernel_rfl) (by kernel_rfl) (by kernel_rfl) (fun _ _ _ h => h) (Or.inl ⟨by rfl, ?_⟩) (by assumption) ?_
    rotate_left
    focus
      intro U hU
      try dsimp only at hU
      go_simp
      try (with_reducible rfl)
    simp only [List.getElem_toArray, List.getElem_cons_succ, List.getElem_cons_zero, Act.put, List.setIfInBounds_toArray, List.set_cons_zero, List.set_cons_succ]
    refine wpAnyH_take (i := 7) (v := ?_) rfl (by kernel_rfl) (by kernel_rfl) (by kernel_rfl) (fun _ _ _ h => h) (Or.inl ⟨by rfl, ?_⟩) (by assumption) ?_
    rotate_left
    focus
      intro U hU
      try dsimp only at hU
      go_simp
      try (with_reducible rfl)
    simp only [List.getElem_toArray, List.getElem_cons_succ, List.getElem_cons_zero, Act.put, List.setIfInBounds_toArray, List.set_cons_zero, List.set_cons_succ]
    refine wpAnyH_take (i := 10) (v := ?_) rfl (by kernel_rfl) (by kernel_rfl) (by kernel_rfl) (fun _ _ _ h => h) (Or.inl ⟨by rfl, ?_⟩) (by assumption) ?_
    rotate_left
    focus
      intro U hU
      try dsimp only at hU
      go_simp
      try (with_reducible rfl)
    simp only [List.getElem_toArray, List.getElem_cons_succ, List.getElem_cons_zero, Act.put, List.setIfInBounds_toArray, List.set_cons_zero, List.set_cons_succ]
    refine wpAnyH_take (i := 11) (v := ?_) rfl (by kernel_rfl) (by kernel_rfl) (by kernel_rfl) (fun _ _ _ h => h) (Or.inl ⟨by rfl, ?_⟩) (by assumption) ?_
    rotate_left
    focus
      intro U hU
      try dsimp only at hU
      have hcvb := HCD.out U hU.2
      go_simp
      try (with_reducible rfl)
    simp only [List.getElem_toArray, List.getElem_cons_succ, List.getElem_cons_zero, Act.put, List.setIfInBounds_toArray, List.set_cons_zero, List.set_cons_succ]
    refine wpAnyH_ready (rs := [8]) (by kernel_rfl) (by simp) ?_
    refine AllReadyH.cons rfl (fun K hK => ?_) AllReadyH.nil
    simp only [List.getElem_toArray, List.getElem_cons_succ, List.getElem_cons_zero]
    go_simp
    refine (HC2.out _ hu1).mono ?_
    rintro q u2' ⟨A3, c3, rfl, ho3, hb3⟩
    have hu2 : RowKit.Below u3.heap.size u3 u2' := hu1.trans (hb3.mono hu1.size)
    have hcv := convS ho3.bytes
    clear hb3 ho3
    go_wp2_with fail
    refine hK.out _ _ ?_ (fun hHeld2 => ?_)
    focus
      exact hS _ (by with_reducible assumption)
    clear hHeld
    have hHeld := hHeld2
    clear hHeld2 hK K
    try simp only [List.getElem_toArray, List.getElem_cons_succ, List.getElem_cons_zero, Act.put, List.setIfInBounds_toArray, List.set_cons_zero, List.set_cons_succ]
    refine wpAnyH_ready (rs := [9]) (by kernel_rfl) (by simp) ?_
    refine AllReadyH.cons rfl (fun K hK => ?_) AllReadyH.nil
    simp only [List.getElem_toArray, List.getElem_cons_succ, List.getElem_cons_zero]
    go_simp
    refine hK.out _ _ ?_ (fun hHeld2 => ?_)
    focus
      exact hS _ (by with_reducible assumption)
    clear hHeld
    have hHeld := hHeld2
    clear hHeld2 hK K
    try simp only [List.getElem_toArray, List.getElem_cons_succ, List.getElem_cons_zero, Act.put, List.setIfInBounds_toArray, List.set_cons_zero, List.set_cons_succ]
    refine wpAnyH_take (i := 12) (v := ?_) rfl (by kernel_rfl) (by kernel_rfl) (by kernel_rfl) (fun _ _ _ h => h) (Or.inl ⟨by rfl, ?_⟩) (by assumption) ?_
    rotate_left
    focus
      intro U hU
      try dsimp only at hU
      go_simp
      try (with_reducible rfl)
    simp only [List.getElem_toArray, List.getElem_cons_succ, List.getElem_cons_zero, Act.put, List.setIfInBounds_toArray, List.set_cons_zero, List.set_cons_succ]
    refine wpAnyH_take (i := 13) (v := ?_) rfl (by kernel_rfl) (by kernel_rfl) (by kernel_rfl) (fun _ _ _ h => h) (Or.inl ⟨by rfl, ?_⟩) (by assumption) ?_
    rotate_left
    focus
      intro U hU
      try dsimp only at hU
      go_simp
      try (with_reducible rfl)
    simp only [List.getElem_toArray, List.getElem_cons_succ, List.getElem_cons_zero, Act.put, List.setIfInBounds_toArray, List.set_cons_zero, List.set_cons_succ]
    refine wpAnyH_take (i := 14) (v := ?_) rfl (by kernel_rfl) (by kernel_rfl) (by kernel_rfl) (fun _ _ _ h => h) (Or.inl ⟨by rfl, ?_⟩) (by assumption) ?_
    rotate_left
    focus
      intro U hU
      try dsimp only at hU
      go_simp
      try (with_reducible rfl)
    simp only [List.getElem_toArray, List.getElem_cons_succ, List.getElem_cons_zero, Act.put, List.setIfInBounds_toArray, List.set_cons_zero, List.set_cons_succ]
    refine wpAnyH_done (by kernel_rfl) ?_ _
    clear hHeld hcv hu0 hu1
    clear hS
    have HX4 := hid (keep0 HX3.out hu2)
    have HB4 := hid (HU.out _ hu2)
    clear hu2
    generalize u2' = v4 at *
    obtain ⟨p0, p1, p2, p3, p4, p5, p6⟩ := seven_cells HX4.out
    go_wp2_with fail
    refine (HC.out _ HB4.out).mono ?_
    rintro q v5 ⟨rfl, hb5⟩
    have HX5 := hid (keep0 HX4.out hb5)
    have HB5 := hid (HB4.out.trans (hb5.mono HB4.out.size))
    clear hb5 HX4 HB4 p0 p1 p2 p3 p4 p5 p6
    obtain ⟨p0, p1, p2, p3, p4, p5, p6⟩ := seven_cells HX5.out
    cases bx
    case false =>
      simp only [Bool.false_eq_true, if_false] at HBX
      go_wp2_with fail
      refine (HBX.out _ HB5.out).mono ?_
      rintro q v6 ⟨A6, c6, rfl, _, hb6⟩
      have HB6 := hid (HB5.out.trans (hb6.mono HB5.out.size))
      clear hb6 HB5 p0 p1 p2 p3 p4 p5 p6 HX5
      go_wp2_with (go_at_call 11; refine (HW.out _).mono ?_; rintro e w7 ⟨rfl, hb7⟩)
      go_ret
      exact ⟨rfl, HB6.out.trans (hb7.mono HB6.out.size)⟩
    have hl2 := HRL.out rfl
    obtain ⟨r1, r2, r3⟩ := HRB.out rfl
    have HL0 := hid (HPA.out L (by omega))
    have HL1 := hid (HPA.out (L ++ [0]) (by rw [List.length_append]; simp; omega))
    rw [r2, r1] at HL0
    rw [r3] at HL1
    generalize pr (L ++ [0]) = z at *
    obtain ⟨k3, j3, t3, w3, s3, e3, ns3⟩ := z
    simp only [rcc, HM.out] at HL0 HL1
    simp only [if_true] at HBX
    clear r1 r2 r3 HRL HRB HPA
    have hLL : (L ++ [0]).length = L.length + 1 := by rw [List.length_append]; rfl
    simp only [hLL] at HL1
    go_wp2_with fail
    refine (HBX.out _ HB5.out).mono ?_
    rintro q v6 ⟨A6, c6, rfl, ho6, hb6⟩
    have HX6 := hid (keep0 HX5.out hb6)
    have HB6 := hid (HB5.out.trans (hb6.mono HB5.out.size))
    have HP6 := hid (HL0.out A6 c6 v6 ho6.bytes)
    clear hb6 HB5 p0 p1 p2 p3 p4 p5 p6 HX5 ho6
    go_wp2_with fail
    refine HP6.out.mono ?_
    rintro q v7 ⟨A7, c7, rfl, hT7, hb7⟩
    have HX7 := hid (keep0 HX6.out hb7)
    have HB7 := hid (HB6.out.trans (hb7.mono HB6.out.size))
    have HT7 := hid hT7
    clear hb7 HB6 HX6 hT7 HP6
    go_upto_region 9 with (fail)
    have hN7 : W.heap.size < v7.heap.size := lt_of_block HX7.out
    refine at_world (fun u => u.heap[W.heap.size]? = some (.cells #[.int .i64 k, .int .i64 j, .int .i64 t, .int .i64 w, .int .i64 s, .int .i64 e, .slice A m c] 24 (0, 0)) ∧ u.heap[v7.heap.size]? = some (.cells #[.int .i64 k, .int .i64 j, .int .i64 t, .int .i64 w, .int .i64 s, .int .i64 e, .slice A7 m c7] 24 (0, 0)) ∧ TxAt u A7 c7 ns ∧ RowKit.Below W.heap.size W u) ⟨(Below.heap_alloc _ _ _ hN7).trans HX7.out, heap_alloc_new _ _, HT7.out.below ((Below.refl _ _).alloc (Nat.le_refl _) _), HB7.out.alloc HB7.out.size _⟩ ?_
    clear HX7 HB7 HT7
    generalize v7.heap.size = N7 at *
    rintro v8 ⟨hx8, hz8, hT8, hB8⟩
    have HX8 := hid hx8
    have HZ8 := hid hz8
    have HT8 := hid hT8
    have HB8 := hid hB8
    clear hx8 hz8 hT8 hB8
    obtain ⟨p0, p1, p2, p3, p4, p5, p6⟩ := seven_cells HX8.out
    go_wp2_with fail
    refine (HBX.out _ HB8.out).mono ?_
    rintro q v9 ⟨A9, c9, rfl, ho9, hb9⟩
    have HO9 := hid ho9
    have HB89 := hid hb9
    have hsz9 := hb9.size
    clear hb9 ho9 p0 p1 p2 p3 p4 p5 p6
    go_wp2_with (at_builtin; refine wpList_append_sl (W := v9) rfl (.tmp 53) (.tmp 54) 27 rfl v8.heap.size 5 Try.underlying27 info_u8 rfl (by omega) rfl (own_keep HO9.out ((Below.refl _ _).alloc (Nat.le_refl _) _)) rfl (Sl.lit _ _ 1 1 #[.int .u8 0] rfl (by unfold maxLen; omega)) (by simp [Value.oneCell']) (show L.length + 1 ≤ maxLen by unfold maxLen; omega) (by omega) (Nat.le_trans hsz9 (Below.size ((Below.refl v9.heap.size v9).alloc (Nat.le_refl _) _))) (((Below.refl _ _).alloc (Nat.le_refl _) _).mono hsz9) ?_)
    intro v10' v10 ho10 hb10 _
    have ho11 : v10.ownsRow v8.heap.size 5 1 v10' (L.length + 1) (bcells (L ++ [0])) := by rw [bcells_append]; exact ho10
    obtain ⟨A10, c10, rfl, ho12⟩ := ownB_of ho11
    
    have hb11 := HB89.out.trans hb10
    have HX10 := hid (keep0 HX8.out hb11)
    have HZ10 := hid (keep0 HZ8.out hb11)
    have HT10 := hid (HT8.out.below hb11)
    have HB10 := hid (HB8.out.trans (hb11.mono HB8.out.size))
    have HP10 := hid (HL1.out A10 c10 v10 (by rw [← hLL]; exact ho12.bytes))
    rw [hLL]
    clear ho10 ho11 ho12 hb10 hb11 HX8 HZ8 HT8 HB8 HO9 HB89 HL1 HL0 hLL
    go_wp2_with fail
    refine HP10.out.mono ?_
    rintro q v11 ⟨A11, c11, rfl, _, hb11⟩
    have HX11 := hid (keep0 HX10.out hb11)
    have HZ11 := hid (keep0 HZ10.out hb11)
    have HT11 := hid (HT10.out.below hb11)
    have HB11 := hid (HB10.out.trans (hb11.mono HB10.out.size))
    clear hb11 HX10 HZ10 HT10 HB10 HP10
    go_upto_region 10 with (fail)
    refine at_world (fun u => RowKit.Below v11.heap.size v11 u) ((Below.refl _ _).alloc (Nat.le_refl _) _) ?_
    rintro v12 hb12
    have HX12 := hid (keep0 HX11.out hb12)
    have HZ12 := hid (keep0 HZ11.out hb12)
    have HB12 := hid (HB11.out.trans (hb12.mono HB11.out.size))
    have HS12 := hid (HSA.out v12 HB12.out A7 c7 (HT11.out.below hb12))
    clear hb12 HX11 HZ11 HT11 HB11 HSA
    obtain ⟨p0, p1, p2, p3, p4, p5, p6⟩ := seven_cells HX12.out
    obtain ⟨r0, r1, r2, r3, r4, r5, r6⟩ := seven_cells HZ12.out
    go_wp2_with fail
    refine HS12.out.mono ?_
    rintro q v13 ⟨rfl, hb13⟩
    have HB13 := hid (HB12.out.trans (hb13.mono HB12.out.size))
    clear hb13 HX12 HZ12 HB12 HS12 p0 p1 p2 p3 p4 p5 p6 r0 r1 r2 r3 r4 r5 r6
    go_wp2_with (go_at_call 11; refine (HW.out _).mono ?_; rintro e w7 ⟨rfl, hb7⟩)
    go_ret
    exact ⟨rfl, HB13.out.trans (hb7.mono HB13.out.size)⟩
  case neg =>
    have he2 : (ek == 0) = false := by simpa using he
    clear HOK HC1 HC2 he
    refine wp_region_held_drew (S := (fun U => (U.cell? ⟨N, 0, none⟩ = some (.int .i64 k2) ∧ U.cell? ⟨N, 1, none⟩ = some (.int .i64 j2) ∧ U.cell? ⟨N, 2, none⟩ = some (.int .i64 t2) ∧ U.cell? ⟨N, 3, none⟩ = some (.int .i64 w2) ∧ U.cell? ⟨N, 4, none⟩ = some (.int .i64 s2) ∧ U.cell? ⟨N, 5, none⟩ = some (.int .i64 e2) ∧ U.cell? ⟨N, 6, none⟩ = some (.slice A1 m2 c1)) ∧ RowKit.Below u3.heap.size u3 U)) (by kernel_rfl) (hS _ hu0) (fun hHeld => ?_)
    refine wpAnyH_take (i := 0) (v := ?_) rfl (by kernel_rfl) (by kernel_rfl) (by kernel_rfl) (fun _ _ _ h => h) (Or.inl ⟨by rfl, ?_⟩) (by assumption) ?_
    rotate_left
    focus
      intro U hU
      try dsimp only at hU
      go_simp
      try (with_reducible rfl)
    simp only [List.getElem_toArray, List.getElem_cons_succ, List.getElem_cons_zero, Act.put, List.setIfInBounds_toArray, List.set_cons_zero, List.set_cons_succ]
    refine wpAnyH_take (i := 1) (v := ?_) rfl (by kernel_rfl) (by kernel_rfl) (by kernel_rfl) (fun _ _ _ h => h) (Or.inl ⟨by rfl, ?_⟩) (by assumption) ?_
    rotate_left
    focus
      intro U hU
      try dsimp only at hU
      go_simp
      try (with_reducible rfl)
    simp only [List.getElem_toArray, List.getElem_cons_succ, List.getElem_cons_zero, Act.put, List.setIfInBounds_toArray, List.set_cons_zero, List.set_cons_succ]
    refine wpAnyH_take (i := 2) (v := ?_) rfl (by kernel_rfl) (by kernel_rfl) (by kernel_rfl) (fun _ _ _ h => h) (Or.inl ⟨by rfl, ?_⟩) (by assumption) ?_
    rotate_left
    focus
      intro U hU
      try dsimp only at hU
      go_simp
      try (with_reducible rfl)
    simp only [List.getElem_toArray, List.getElem_cons_succ, List.getElem_cons_zero, Act.put, List.setIfInBounds_toArray, List.set_cons_zero, List.set_cons_succ]
    refine wpAnyH_take (i := 3) (v := undef) rfl (by kernel_rfl) (by kernel_rfl) (by kernel_rfl) (fun _ _ _ h => h) (Or.inr ⟨by rfl, rfl⟩) (by assumption) ?_
    simp only [List.getElem_toArray, List.getElem_cons_succ, List.getElem_cons_zero, Act.put, List.setIfInBounds_toArray, List.set_cons_zero, List.set_cons_succ]
    refine wpAnyH_take (i := 4) (v := undef) rfl (by kernel_rfl) (by kernel_rfl) (by kernel_rfl) (fun _ _ _ h => h) (Or.inr ⟨by rfl, rfl⟩) (by assumption) ?_
    simp only [List.getElem_toArray, List.getElem_cons_succ, List.getElem_cons_zero, Act.put, List.setIfInBounds_toArray, List.set_cons_zero, List.set_cons_succ]
    refine wpAnyH_take (i := 5) (v := undef) rfl (by kernel_rfl) (by kernel_rfl) (by kernel_rfl) (fun _ _ _ h => h) (Or.inr ⟨by rfl, rfl⟩) (by assumption) ?_
    simp only [List.getElem_toArray, List.getElem_cons_succ, List.getElem_cons_zero, Act.put, List.setIfInBounds_toArray, List.set_cons_zero, List.set_cons_succ]
    refine wpAnyH_take (i := 6) (v := undef) rfl (by kernel_rfl) (by kernel_rfl) (by kernel_rfl) (fun _ _ _ h => h) (Or.inr ⟨by rfl, rfl⟩) (by assumption) ?_
    simp only [List.getElem_toArray, List.getElem_cons_succ, List.getElem_cons_zero, Act.put, List.setIfInBounds_toArray, List.set_cons_zero, List.set_cons_succ]
    refine wpAnyH_take (i := 7) (v := undef) rfl (by kernel_rfl) (by kernel_rfl) (by kernel_rfl) (fun _ _ _ h => h) (Or.inr ⟨by rfl, rfl⟩) (by assumption) ?_
    simp only [List.getElem_toArray, List.getElem_cons_succ, List.getElem_cons_zero, Act.put, List.setIfInBounds_toArray, List.set_cons_zero, List.set_cons_succ]
    refine wpAnyH_take (i := 8) (v := undef) rfl (by kernel_rfl) (by kernel_rfl) (by kernel_rfl) (fun _ _ _ h => h) (Or.inr ⟨by rfl, rfl⟩) (by assumption) ?_
    simp only [List.getElem_toArray, List.getElem_cons_succ, List.getElem_cons_zero, Act.put, List.setIfInBounds_toArray, List.set_cons_zero, List.set_cons_succ]
    refine wpAnyH_take (i := 9) (v := undef) rfl (by kernel_rfl) (by kernel_rfl) (by kernel_rfl) (fun _ _ _ h => h) (Or.inr ⟨by rfl, rfl⟩) (by assumption) ?_
    simp only [List.getElem_toArray, List.getElem_cons_succ, List.getElem_cons_zero, Act.put, List.setIfInBounds_toArray, List.set_cons_zero, List.set_cons_succ]
    refine wpAnyH_take (i := 10) (v := undef) rfl (by kernel_rfl) (by kernel_rfl) (by kernel_rfl) (fun _ _ _ h => h) (Or.inr ⟨by rfl, rfl⟩) (by assumption) ?_
    simp only [List.getElem_toArray, List.getElem_cons_succ, List.getElem_cons_zero, Act.put, List.setIfInBounds_toArray, List.set_cons_zero, List.set_cons_succ]
    refine wpAnyH_take (i := 11) (v := undef) rfl (by kernel_rfl) (by kernel_rfl) (by kernel_rfl) (fun _ _ _ h => h) (Or.inr ⟨by rfl, rfl⟩) (by assumption) ?_
    simp only [List.getElem_toArray, List.getElem_cons_succ, List.getElem_cons_zero, Act.put, List.setIfInBounds_toArray, List.set_cons_zero, List.set_cons_succ]
    refine wpAnyH_take (i := 12) (v := undef) rfl (by kernel_rfl) (by kernel_rfl) (by kernel_rfl) (fun _ _ _ h => h) (Or.inr ⟨by rfl, rfl⟩) (by assumption) ?_
    simp only [List.getElem_toArray, List.getElem_cons_succ, List.getElem_cons_zero, Act.put, List.setIfInBounds_toArray, List.set_cons_zero, List.set_cons_succ]
    refine wpAnyH_take (i := 13) (v := undef) rfl (by kernel_rfl) (by kernel_rfl) (by kernel_rfl) (fun _ _ _ h => h) (Or.inr ⟨by rfl, rfl⟩) (by assumption) ?_
    simp only [List.getElem_toArray, List.getElem_cons_succ, List.getElem_cons_zero, Act.put, List.setIfInBounds_toArray, List.set_cons_zero, List.set_cons_succ]
    refine wpAnyH_take (i := 14) (v := ?_) rfl (by kernel_rfl) (by kernel_rfl) (by kernel_rfl) (fun _ _ _ h => h) (Or.inl ⟨by rfl, ?_⟩) (by assumption) ?_
    rotate_left
    focus
      intro U hU
      try dsimp only at hU
      go_simp
      try (with_reducible rfl)
    simp only [List.getElem_toArray, List.getElem_cons_succ, List.getElem_cons_zero, Act.put, List.setIfInBounds_toArray, List.set_cons_zero, List.set_cons_succ]
    refine wpAnyH_done (by kernel_rfl) ?_ _
    clear hHeld
    clear hS
    have HX4 := hid (keep0 HX3.out hu0)
    have HB4 := hid (HU.out _ hu0)
    clear hu0
    generalize u3.drew = v4 at *
    obtain ⟨p0, p1, p2, p3, p4, p5, p6⟩ := seven_cells HX4.out
    go_wp2_with fail
    refine (HC.out _ HB4.out).mono ?_
    rintro q v5 ⟨rfl, hb5⟩
    have HX5 := hid (keep0 HX4.out hb5)
    have HB5 := hid (HB4.out.trans (hb5.mono HB4.out.size))
    clear hb5 HX4 HB4 p0 p1 p2 p3 p4 p5 p6
    obtain ⟨p0, p1, p2, p3, p4, p5, p6⟩ := seven_cells HX5.out
    cases bx
    case false =>
      simp only [Bool.false_eq_true, if_false] at HBX
      go_wp2_with fail
      refine (HBX.out _ HB5.out).mono ?_
      rintro q v6 ⟨A6, c6, rfl, _, hb6⟩
      have HB6 := hid (HB5.out.trans (hb6.mono HB5.out.size))
      clear hb6 HB5 p0 p1 p2 p3 p4 p5 p6 HX5
      go_wp2_with (go_at_call 11; refine (HW.out _).mono ?_; rintro e w7 ⟨rfl, hb7⟩)
      go_ret
      exact ⟨rfl, HB6.out.trans (hb7.mono HB6.out.size)⟩
    have hl2 := HRL.out rfl
    obtain ⟨r1, r2, r3⟩ := HRB.out rfl
    have HL0 := hid (HPA.out L (by omega))
    have HL1 := hid (HPA.out (L ++ [0]) (by rw [List.length_append]; simp; omega))
    rw [r2, r1] at HL0
    rw [r3] at HL1
    generalize pr (L ++ [0]) = z at *
    obtain ⟨k3, j3, t3, w3, s3, e3, ns3⟩ := z
    simp only [rcc, HM.out] at HL0 HL1
    simp only [if_true] at HBX
    clear r1 r2 r3 HRL HRB HPA
    have hLL : (L ++ [0]).length = L.length + 1 := by rw [List.length_append]; rfl
    simp only [hLL] at HL1
    go_wp2_with fail
    refine (HBX.out _ HB5.out).mono ?_
    rintro q v6 ⟨A6, c6, rfl, ho6, hb6⟩
    have HX6 := hid (keep0 HX5.out hb6)
    have HB6 := hid (HB5.out.trans (hb6.mono HB5.out.size))
    have HP6 := hid (HL0.out A6 c6 v6 ho6.bytes)
    clear hb6 HB5 p0 p1 p2 p3 p4 p5 p6 HX5 ho6
    go_wp2_with fail
    refine HP6.out.mono ?_
    rintro q v7 ⟨A7, c7, rfl, hT7, hb7⟩
    have HX7 := hid (keep0 HX6.out hb7)
    have HB7 := hid (HB6.out.trans (hb7.mono HB6.out.size))
    have HT7 := hid hT7
    clear hb7 HB6 HX6 hT7 HP6
    go_upto_region 9 with (fail)
    have hN7 : W.heap.size < v7.heap.size := lt_of_block HX7.out
    refine at_world (fun u => u.heap[W.heap.size]? = some (.cells #[.int .i64 k, .int .i64 j, .int .i64 t, .int .i64 w, .int .i64 s, .int .i64 e, .slice A m c] 24 (0, 0)) ∧ u.heap[v7.heap.size]? = some (.cells #[.int .i64 k, .int .i64 j, .int .i64 t, .int .i64 w, .int .i64 s, .int .i64 e, .slice A7 m c7] 24 (0, 0)) ∧ TxAt u A7 c7 ns ∧ RowKit.Below W.heap.size W u) ⟨(Below.heap_alloc _ _ _ hN7).trans HX7.out, heap_alloc_new _ _, HT7.out.below ((Below.refl _ _).alloc (Nat.le_refl _) _), HB7.out.alloc HB7.out.size _⟩ ?_
    clear HX7 HB7 HT7
    generalize v7.heap.size = N7 at *
    rintro v8 ⟨hx8, hz8, hT8, hB8⟩
    have HX8 := hid hx8
    have HZ8 := hid hz8
    have HT8 := hid hT8
    have HB8 := hid hB8
    clear hx8 hz8 hT8 hB8
    obtain ⟨p0, p1, p2, p3, p4, p5, p6⟩ := seven_cells HX8.out
    go_wp2_with fail
    refine (HBX.out _ HB8.out).mono ?_
    rintro q v9 ⟨A9, c9, rfl, ho9, hb9⟩
    have HO9 := hid ho9
    have HB89 := hid hb9
    have hsz9 := hb9.size
    clear hb9 ho9 p0 p1 p2 p3 p4 p5 p6
    go_wp2_with (at_builtin; refine wpList_append_sl (W := v9) rfl (.tmp 53) (.tmp 54) 27 rfl v8.heap.size 5 Try.underlying27 info_u8 rfl (by omega) rfl (own_keep HO9.out ((Below.refl _ _).alloc (Nat.le_refl _) _)) rfl (Sl.lit _ _ 1 1 #[.int .u8 0] rfl (by unfold maxLen; omega)) (by simp [Value.oneCell']) (show L.length + 1 ≤ maxLen by unfold maxLen; omega) (by omega) (Nat.le_trans hsz9 (Below.size ((Below.refl v9.heap.size v9).alloc (Nat.le_refl _) _))) (((Below.refl _ _).alloc (Nat.le_refl _) _).mono hsz9) ?_)
    intro v10' v10 ho10 hb10 _
    have ho11 : v10.ownsRow v8.heap.size 5 1 v10' (L.length + 1) (bcells (L ++ [0])) := by rw [bcells_append]; exact ho10
    obtain ⟨A10, c10, rfl, ho12⟩ := ownB_of ho11
    
    have hb11 := HB89.out.trans hb10
    have HX10 := hid (keep0 HX8.out hb11)
    have HZ10 := hid (keep0 HZ8.out hb11)
    have HT10 := hid (HT8.out.below hb11)
    have HB10 := hid (HB8.out.trans (hb11.mono HB8.out.size))
    have HP10 := hid (HL1.out A10 c10 v10 (by rw [← hLL]; exact ho12.bytes))
    rw [hLL]
    clear ho10 ho11 ho12 hb10 hb11 HX8 HZ8 HT8 HB8 HO9 HB89 HL1 HL0 hLL
    go_wp2_with fail
    refine HP10.out.mono ?_
    rintro q v11 ⟨A11, c11, rfl, _, hb11⟩
    have HX11 := hid (keep0 HX10.out hb11)
    have HZ11 := hid (keep0 HZ10.out hb11)
    have HT11 := hid (HT10.out.below hb11)
    have HB11 := hid (HB10.out.trans (hb11.mono HB10.out.size))
    clear hb11 HX10 HZ10 HT10 HB10 HP10
    go_upto_region 10 with (fail)
    refine at_world (fun u => RowKit.Below v11.heap.size v11 u) ((Below.refl _ _).alloc (Nat.le_refl _) _) ?_
    rintro v12 hb12
    have HX12 := hid (keep0 HX11.out hb12)
    have HZ12 := hid (keep0 HZ11.out hb12)
    have HB12 := hid (HB11.out.trans (hb12.mono HB11.out.size))
    have HS12 := hid (HSA.out v12 HB12.out A7 c7 (HT11.out.below hb12))
    clear hb12 HX11 HZ11 HT11 HB11 HSA
    obtain ⟨p0, p1, p2, p3, p4, p5, p6⟩ := seven_cells HX12.out
    obtain ⟨r0, r1, r2, r3, r4, r5, r6⟩ := seven_cells HZ12.out
    go_wp2_with fail
    refine HS12.out.mono ?_
    rintro q v13 ⟨rfl, hb13⟩
    have HB13 := hid (HB12.out.trans (hb13.mono HB12.out.size))
    clear hb13 HX12 HZ12 HB12 HS12 p0 p1 p2 p3 p4 p5 p6 r0 r1 r2 r3 r4 r5 r6
    go_wp2_with (go_at_call 11; refine (HW.out _).mono ?_; rintro e w7 ⟨rfl, hb7⟩)
    go_ret
    exact ⟨rfl, HB13.out.trans (hb7.mono HB13.out.size)⟩
theorem recBack_rd (a : Array Value) (w : World) (hn : a.size = 7) (h : Rd Try.prog w 24 a.toList) (Ab : Option Addr) (len cap : Nat) (b : List UInt8) (hb : IsBytes w Ab len cap b) :
    Calls Try.prog 5 #[.agg a, .slice Ab len cap] w fun e w' => e = .returned (.bool true) ∧ RowKit.Below w.heap.size w w' := by
  obtain ⟨x, A, c, rfl, hx⟩ := rd_rec hn h
  obtain ⟨rfl, _⟩ := hb.len
  exact recBack_law x A c Ab cap b w hx hb
end Go.Proofs.Ytejeffnolglhoaa
