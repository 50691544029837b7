/- JobChecks: the example, the law. -/
import Derived.Test.YtgakobolhmdnnaaQJbE
import Derived.ChangeKeysEq
namespace Go.Proofs.Ytgakobolhmdnnaa
open Go.RowKit Go.Sort
set_option linter.unusedVariables false
set_option linter.unusedSimpArgs false

theorem int_eqJ (d : Nat) (x : Int) (w : World) : (Op.equalIn (d + 1) 3 (.int .i64 x) (.int .i64 x)).run Try.prog w = .ok true w := by
  simp [Op.equalIn, run_underlying Try.underlying3]
theorem arr3_ne (x y z : Int) (w : World) : (binOp .neq 34 (.agg #[.int .i64 x, .int .i64 y, .int .i64 z]) (.agg #[.int .i64 x, .int .i64 y, .int .i64 z])).run Try.prog w = .ok (.bool false) w := by
  have hpk : Try.prog.plainKey 3 = true := by kernel_rfl
  have hc1 : Try.prog.cellsOf 3 = 1 := by kernel_rfl
  obtain ⟨i, hi⟩ : ∃ i, Try.prog.info? 3 = some i := by
    have : (Try.prog.info? 3).isSome = true := by kernel_rfl
    exact Option.isSome_iff_exists.1 this
  have h1 := run_equalIn_array (P := Try.prog) w 9999 #[.int .i64 x, .int .i64 y, .int .i64 z] #[.int .i64 x, .int .i64 y, .int .i64 z] Try.underlying34 hi
  rw [hc1, show List.range 3 = [0, 1, 2] from rfl] at h1
  have p0 := run_part_plain (P := Try.prog) w hpk (xs := #[.int .i64 x, .int .i64 y, .int .i64 z]) (off := 0) (v := .int .i64 x) rfl
  have p1 := run_part_plain (P := Try.prog) w hpk (xs := #[.int .i64 x, .int .i64 y, .int .i64 z]) (off := 1) (v := .int .i64 y) rfl
  have p2 := run_part_plain (P := Try.prog) w hpk (xs := #[.int .i64 x, .int .i64 y, .int .i64 z]) (off := 2) (v := .int .i64 z) rfl
  simp [Op.eqItems, p0, p1, p2, int_eqJ 9998] at h1
  have h2 : (Op.equal 34 (.agg #[.int .i64 x, .int .i64 y, .int .i64 z]) (.agg #[.int .i64 x, .int .i64 y, .int .i64 z])).run Try.prog w = .ok true w := h1
  simp [binOp, go_sem, h2]

def longCf (x : Cf) : Bool := longB x.T 40 100 || decide (80 < x.ws.length)
theorem longCf_no {x : Cf} (h : longCf x = false) : longB x.T 40 100 = false ∧ x.ws.length ≤ 80 := by
  unfold longCf at h
  rw [Bool.or_eq_false_iff, decide_eq_false_iff_not] at h
  exact ⟨h.1, by omega⟩
set_option maxRecDepth 20000 in
theorem r14long_any (x : Cf) (N : Option Addr) (nc : Nat) (K : Option Addr) (kc : Nat) (W : World) (hC : CfAt W x N nc K kc) :
    Calls Try.prog 11 #[.agg (cfc x N nc K kc)] W fun e w' => e = .returned (.bool (longCf x)) ∧ Below W.heap.size W w' := by
  have HL := hid (fun u (hu : Below W.heap.size W u) => long_any N x.T.length nc x.T 40 100 u (hC.below hu).1.1 hC.1.2)
  have hwn : x.ws.length ≤ 9223372036854775807 := by have h1 := hC.2.1.2.1; have h2 := hC.2.1.2.2.1; unfold maxLen at h2; omega
  obtain ⟨sc, le, ag, ro, ou, T, ws⟩ := x
  simp only [cfc] at HL ⊢
  simp only at hwn
  clear hC
  cases hb : longB T 40 100 with
  | true =>
    have hr : longCf ⟨sc, le, ag, ro, ou, T, ws⟩ = true := by unfold longCf; simp only [hb, Bool.true_or]
    rw [hr]
    rw [hb] at HL
    clear hr hb
    generalize ws.length = m at *
    generalize T.length = tn at *
    go_enter Try.func11, Try.ntmps11
    go_upto_region 1 with (fail)
    refine at_world (fun u => u.heap[W.heap.size]? = some (.cells #[.int .i64 sc, .int .i64 le, .int .i64 ag, .int .i64 ro, .int .i64 ou, .slice N tn nc, .slice K m kc] 25 (0, 0)) ∧ Below W.heap.size W u) ⟨heap_alloc_new _ _, (Below.refl _ _).alloc (Nat.le_refl _) _⟩ ?_
    rintro w1 ⟨hq, hb⟩
    obtain ⟨q0, q1, q2, q3, q4, q5, q6⟩ := seven_cellsJ hq
    have HB := hid hb
    clear hq hb
    go_wp2_with fail
    refine (HL.out _ HB.out).mono ?_
    rintro e w2 ⟨rfl, rfl⟩
    go_wp2
    go_ret
    exact ⟨rfl, HB.out⟩
  | false =>
    rw [hb] at HL
    have hr : longCf ⟨sc, le, ag, ro, ou, T, ws⟩ = decide ((80 : Int) < (ws.length : Int)) := by
      unfold longCf
      simp only [hb, Bool.false_or]
      by_cases h : 80 < ws.length
      · rw [decide_eq_true h, decide_eq_true (by omega)]
      · rw [decide_eq_false h, decide_eq_false (by omega)]
    rw [hr]
    clear hr hb
    generalize ws.length = m at *
    generalize T.length = tn at *
    go_enter Try.func11, Try.ntmps11
    go_upto_region 1 with (fail)
    refine at_world (fun u => u.heap[W.heap.size]? = some (.cells #[.int .i64 sc, .int .i64 le, .int .i64 ag, .int .i64 ro, .int .i64 ou, .slice N tn nc, .slice K m kc] 25 (0, 0)) ∧ Below W.heap.size W u) ⟨heap_alloc_new _ _, (Below.refl _ _).alloc (Nat.le_refl _) _⟩ ?_
    rintro w1 ⟨hq, hb⟩
    obtain ⟨q0, q1, q2, q3, q4, q5, q6⟩ := seven_cellsJ hq
    have HB := hid hb
    clear hq hb
    go_wp2_with fail
    refine (HL.out _ HB.out).mono ?_
    rintro e w2 ⟨rfl, rfl⟩
    go_wp2
    go_ret
    exact ⟨by simp, HB.out⟩

theorem ex15 : chkJ 1 [[103, 112, 117]] [(1, 1, 0)] [[42], [103, 112, 117]] = (1, 0, 11) := by kernel_rfl
theorem s15_1 : str [103, 112, 117] = ⟨#[103, 112, 117]⟩ := rfl
set_option maxRecDepth 20000 in
set_option maxHeartbeats 2000000 in
theorem works15_any (W : World) : Calls Try.prog 13 #[] W fun e w' => e = .returned (.bool true) ∧ Below W.heap.size W w' := by
  have HCK := hid (fun u N K A (hC : CfAt u ⟨0, 0, 0, 0, 0, [[103, 112, 117]], [(1, 1, 0)]⟩ N 1 K 1) (hX : TxJ u A 2 [[42], [103, 112, 117]]) => jcheck_any ⟨0, 0, 0, 0, 0, [[103, 112, 117]], [(1, 1, 0)]⟩ N 1 K 1 1 A 2 [[42], [103, 112, 117]] u hC hX (by simp) (by simp))
  simp only [ex15, Ck, cfc, List.length_cons, List.length_nil, Nat.zero_add] at HCK
  go_enter Try.func13, Try.ntmps13
  go_upto_region 2 with (fail)
  refine at_world (fun u => CfAt u ⟨0, 0, 0, 0, 0, [[103, 112, 117]], [(1, 1, 0)]⟩ (some ⟨W.heap.size, 0, none⟩) 1 (some ⟨W.heap.size + 1, 0, none⟩) 1 ∧ u.heap[W.heap.size + 1 + 1]? = some (.cells #[.int .i64 0, .int .i64 0, .int .i64 0, .int .i64 0, .int .i64 0, .slice (some ⟨W.heap.size, 0, none⟩) 1 1, .slice (some ⟨W.heap.size + 1, 0, none⟩) 1 1] 25 (0, 0)) ∧ Below W.heap.size W u) ⟨⟨⟨?_, ?_⟩, ?_, ?_⟩, ?_, ?_⟩ ?_
  · exact ((Sl.lit W _ 1 1 #[.string ⟨#[103, 112, 117]⟩] rfl (by unfold maxLen; omega)).below (bel_alloc (bel_alloc (Below.refl _ _) _) _) : Sl _ 1 _ 1 1 (scells [[103, 112, 117]]))
  · intro s h; obtain rfl := List.mem_singleton.1 h; unfold maxLen; simp
  · have h9 := (Sl.lit (W.alloc (.cells #[.string ⟨#[103, 112, 117]⟩] 9)) 94 3 1 #[.int .i64 1, .int .i64 1, .int .u64 0] rfl (by unfold maxLen; omega)).below (bel_alloc (Below.refl _ _) (.cells #[.int .i64 0, .int .i64 0, .int .i64 0, .int .i64 0, .int .i64 0, .slice (some ⟨W.heap.size, 0, none⟩) 1 1, .slice (some ⟨W.heap.size + 1, 0, none⟩) 1 1] 25))
    rw [World.size_alloc] at h9
    exact h9
  · intro y h; obtain rfl := List.mem_singleton.1 h; simp
  · have h9 := heap_alloc_new ((W.alloc (.cells #[.string ⟨#[103, 112, 117]⟩] 9)).alloc (.cells #[.int .i64 1, .int .i64 1, .int .u64 0] 94)) (.cells #[.int .i64 0, .int .i64 0, .int .i64 0, .int .i64 0, .int .i64 0, .slice (some ⟨W.heap.size, 0, none⟩) 1 1, .slice (some ⟨W.heap.size + 1, 0, none⟩) 1 1] 25)
    rw [World.size_alloc, World.size_alloc] at h9
    exact h9
  · exact bel_alloc (bel_alloc (bel_alloc (Below.refl _ _) _) _) _
  generalize (some (⟨W.heap.size, 0, none⟩ : Addr)) = N at *
  generalize (some (⟨W.heap.size + 1, 0, none⟩ : Addr)) = K at *
  generalize W.heap.size + 1 + 1 = Q at *
  rintro w1 ⟨hC, hq, hb⟩
  have HB := hid hb
  obtain ⟨q0, q1, q2, q3, q4, q5, q6⟩ := seven_cellsJ hq
  have hal : Below w1.heap.size w1 (w1.alloc (.cells #[.string ⟨#[42]⟩, .string ⟨#[103, 112, 117]⟩] 9)) := bel_alloc (Below.refl _ _) _
  have HCC := hid (HCK.out _ N K _ (hC.below hal) ⟨Sl.lit w1 _ 1 2 #[.string ⟨#[42]⟩, .string ⟨#[103, 112, 117]⟩] rfl (by unfold maxLen; omega), by intro s h; unfold maxLen; simp at h; rcases h with rfl | rfl <;> simp⟩)
  have HB2 := hid (HB.out.trans (hal.mono HB.out.size))
  clear hC hq hb hal HCK HB
  go_wp2_with fail
  refine HCC.out.mono ?_
  rintro e w2 ⟨rfl, hb⟩
  have HB3 := hid (HB2.out.trans (hb.mono HB2.out.size))
  clear hb HCC q0 q1 q2 q3 q4 q5 q6
  go_wp2
  go_ret
  exact ⟨rfl, HB3.out⟩

theorem longB_len {l : List (List UInt8)} {a b : Nat} (h : longB l a b = false) : l.length ≤ a ∧ ∀ s ∈ l, s.length ≤ b := by
  obtain ⟨h1, h2⟩ := longB_no h
  exact ⟨by omega, fun s hs => by have := h1 s hs; omega⟩
set_option maxRecDepth 20000 in
set_option maxHeartbeats 4000000 in
theorem jobChecks_law (x : Cf) (N : Option Addr) (nc : Nat) (K : Option Addr) (kc : Nat) (id : Int) (A : Option Addr) (c : Nat) (xs : List (List UInt8)) (W : World) (hC : CfAt W x N nc K kc) (hX : TxJ W A c xs) :
    Calls Try.prog 3 #[.agg (cfc x N nc K kc), .agg #[.int .i64 id, .slice A xs.length c]] W fun e w' => e = .returned (.bool true) ∧ Below W.heap.size W w' := by
  have HW := hid works15_any
  have HLC := hid (fun u (hu : Below W.heap.size W u) => r14long_any x N nc K kc u (hC.below hu))
  have HLX := hid (fun u (hu : Below W.heap.size W u) => long_any A xs.length c xs 20 300 u (hX.below hu).1 hX.2)
  have hlc : ∀ b, longCf x = b → b = false → longB xs 20 300 = false → x.ws.length ≤ 1000 ∧ xs.length ≤ 1000 ∧ ∀ s ∈ xs, s.length ≤ 1000 := fun b h1 h2 h3 => by
    rw [h2] at h1
    have h4 := (longCf_no h1).2
    obtain ⟨h5, h6⟩ := longB_len (a := 20) (b := 300) h3
    exact ⟨by omega, by omega, fun s hs => by have := h6 s hs; omega⟩
  have HCK := hid (fun (hl : x.ws.length ≤ 1000 ∧ xs.length ≤ 1000 ∧ ∀ s ∈ xs, s.length ≤ 1000) u (hu : Below W.heap.size W u) => And.intro (jcheck_any x N nc K kc id A c xs u (hC.below hu) (hX.below hu) hl.2.2 hl.1) (And.intro (rjcheck_any x N nc K kc id A c xs u (hC.below hu) (hX.below hu) hl.2.2 hl.1) (And.intro (jany_any x N nc K kc A c xs u (hC.below hu) (hX.below hu) hl.2.1 hl.2.2 hl.1) (rjany_any x N nc K kc A c xs u (hC.below hu) (hX.below hu) hl.2.1 hl.2.2 hl.1))))
  have HST := hid (fun (hl : x.ws.length ≤ 1000) u (hu : Below W.heap.size W u) (l : List UInt8) (h2 : l.length ≤ 1000) => And.intro (jset_any x N nc K kc l u (hC.below hu) h2 hl) (rjset_any x N nc K kc l u (hC.below hu) h2 hl))
  have HX := hid hX
  have HLN := hid hlc
  have hn63 := len63J hX
  obtain ⟨sc, le, ag, ro, ou, T, ws⟩ := x
  simp only [cfc] at HLC HCK HST ⊢
  generalize longCf ⟨sc, le, ag, ro, ou, T, ws⟩ = lc at *
  clear hC hX hlc
  generalize hn : xs.length = n at *
  have HN := hid hn
  clear hn
  go_enter Try.func3, Try.ntmps3
  go_upto_region 1 with (fail)
  refine at_world (fun u => u.heap[W.heap.size]? = some (.cells #[.int .i64 sc, .int .i64 le, .int .i64 ag, .int .i64 ro, .int .i64 ou, .slice N T.length nc, .slice K ws.length kc] 25 (0, 0)) ∧ u.heap[W.heap.size + 1]? = some (.cells #[.int .i64 id, .slice A n c] 27 (0, 0)) ∧ Below W.heap.size W u) ⟨(Below.heap_alloc _ _ _ (by simp)).trans (heap_alloc_new _ _), by have := heap_alloc_new (W.alloc (.cells #[.int .i64 sc, .int .i64 le, .int .i64 ag, .int .i64 ro, .int .i64 ou, .slice N T.length nc, .slice K ws.length kc] 25)) (.cells #[.int .i64 id, .slice A n c] 27); simpa using this, bel_alloc (bel_alloc (Below.refl _ _) _) _⟩ ?_
  rintro w1 ⟨hq, hj, hb⟩
  have HQ := hid hq
  have HJ := hid hj
  have HB := hid hb
  obtain ⟨j0, j1⟩ := two_cellsR hj
  obtain ⟨q0, q1, q2, q3, q4, q5, q6⟩ := seven_cellsJ hq
  clear hq hj hb
  generalize W.heap.size + 1 = J at *
  generalize hQ : W.heap.size = Q at HQ q0 q1 q2 q3 q4 q5 q6
  clear hQ
  cases lc with
  | true =>
    go_wp2_with fail
    refine (HLC.out _ HB.out).mono ?_
    rintro e w2 ⟨rfl, hb⟩
    have HB2 := hid (HB.out.trans (hb.mono HB.out.size))
    clear hb q0 q1 q2 q3 q4 q5 q6 j0 j1
    go_wp2_with fail
    refine (HW.out _).mono ?_
    rintro e w3 ⟨rfl, hb⟩
    have HB3 := hid (HB2.out.trans (hb.mono HB2.out.size))
    clear hb
    go_wp2
    go_ret
    exact ⟨rfl, HB3.out⟩
  | false =>
    go_wp2_with fail
    refine (HLC.out _ HB.out).mono ?_
    rintro e w2 ⟨rfl, hb⟩
    have HB2 := hid (HB.out.trans (hb.mono HB.out.size))
    have HQ2 := hid (keep0 HQ.out hb)
    have HJ2 := hid (keep0 HJ.out hb)
    clear hb q0 q1 q2 q3 q4 q5 q6 j0 j1 HB HQ HJ HLC
    obtain ⟨j0, j1⟩ := two_cellsR HJ2.out
    obtain ⟨q0, q1, q2, q3, q4, q5, q6⟩ := seven_cellsJ HQ2.out
    have HLX2 := hid (HLX.out _ HB2.out)
    cases hlx : longB xs 20 300 with
    | true =>
      rw [hlx] at HLX2
      clear hlx HLX HCK HST HLN
      go_wp2_with fail
      refine HLX2.out.mono ?_
      rintro e w3 ⟨rfl, rfl⟩
      clear q0 q1 q2 q3 q4 q5 q6 j0 j1
      go_wp2_with fail
      refine (HW.out _).mono ?_
      rintro e w3 ⟨rfl, hb⟩
      have HB3 := hid (HB2.out.trans (hb.mono HB2.out.size))
      clear hb
      go_wp2
      go_ret
      exact ⟨rfl, HB3.out⟩
    | false =>
      rw [hlx] at HLX2
      have hln := HLN.out false rfl rfl hlx
      have HCK := hid (HCK.out hln)
      have HST := hid (HST.out hln.1)
      have HTL := hid hln.2.2
      clear hlx HLX HLN hln
      go_wp2_with fail
      refine HLX2.out.mono ?_
      rintro e w3 ⟨rfl, rfl⟩
      clear HLX2
      go_wp2_with fail
      refine (HCK.out _ HB2.out).1.mono ?_
      rintro e w4 ⟨rfl, hb⟩
      have HB4 := hid (HB2.out.trans (hb.mono HB2.out.size))
      have HQ4 := hid (keep0 HQ2.out hb)
      have HJ4 := hid (keep0 HJ2.out hb)
      clear hb q0 q1 q2 q3 q4 q5 q6 j0 j1 HB2 HQ2 HJ2
      generalize chkJ id T ws xs = R at *
      obtain ⟨r1, r2, r3⟩ := R
      generalize orK T ws xs xs.length = rr at *
      simp only [Ck]
      have hne := arr3_ne r1 (r2 : Nat) r3
      have hne2 : ((rr : Int) != (rr : Int)) = false := by simp
      go_upto_region 4 with (fail)
      have hSU : ∀ U, Below w4.heap.size w4 U → ((U.cell? ⟨Q, 0, none⟩ = some (.int .i64 sc) ∧ U.cell? ⟨Q, 1, none⟩ = some (.int .i64 le) ∧ U.cell? ⟨Q, 2, none⟩ = some (.int .i64 ag) ∧ U.cell? ⟨Q, 3, none⟩ = some (.int .i64 ro) ∧ U.cell? ⟨Q, 4, none⟩ = some (.int .i64 ou) ∧ U.cell? ⟨Q, 5, none⟩ = some (.slice N T.length nc) ∧ U.cell? ⟨Q, 6, none⟩ = some (.slice K ws.length kc)) ∧ U.cell? ⟨J, 0, none⟩ = some (.int .i64 id) ∧ U.cell? ⟨J, 1, none⟩ = some (.slice A n c)) := fun U hU => ⟨seven_cellsJ (keep0 HQ4.out hU), two_cellsR (keep0 HJ4.out hU)⟩
      have hk0 : Below w4.heap.size w4 w4.drew := below_drew (Below.refl _ _)
      refine wp_region_held_drew (S := fun U => (U.cell? ⟨Q, 0, none⟩ = some (.int .i64 sc) ∧ U.cell? ⟨Q, 1, none⟩ = some (.int .i64 le) ∧ U.cell? ⟨Q, 2, none⟩ = some (.int .i64 ag) ∧ U.cell? ⟨Q, 3, none⟩ = some (.int .i64 ro) ∧ U.cell? ⟨Q, 4, none⟩ = some (.int .i64 ou) ∧ U.cell? ⟨Q, 5, none⟩ = some (.slice N T.length nc) ∧ U.cell? ⟨Q, 6, none⟩ = some (.slice K ws.length kc)) ∧ U.cell? ⟨J, 0, none⟩ = some (.int .i64 id) ∧ U.cell? ⟨J, 1, none⟩ = some (.slice A n c)) (by kernel_rfl) (hSU _ hk0) (fun hHeld => ?_)
      generalize w4.drew = k0 at *
      refine wpAnyH_take (i := 0) (v := ?_) rfl (by kernel_rfl) (by kernel_rfl) (by kernel_rfl) (fun _ _ _ h => h) (Or.inl ⟨by rfl, ?_⟩) (by assumption) ?_
      rotate_left
      focus
        intro U hU
        try dsimp only at hU
        go_simp
        try (with_reducible rfl)
      simp only [List.getElem_toArray, List.getElem_cons_succ, List.getElem_cons_zero, Act.put, List.setIfInBounds_toArray, List.set_cons_zero, List.set_cons_succ]
      refine wpAnyH_take (i := 1) (v := ?_) rfl (by kernel_rfl) (by kernel_rfl) (by kernel_rfl) (fun _ _ _ h => h) (Or.inl ⟨by rfl, ?_⟩) (by assumption) ?_
      rotate_left
      focus
        intro U hU
        try dsimp only at hU
        go_simp
        try (with_reducible rfl)
      simp only [List.getElem_toArray, List.getElem_cons_succ, List.getElem_cons_zero, Act.put, List.setIfInBounds_toArray, List.set_cons_zero, List.set_cons_succ]
      refine wpAnyH_take (i := 3) (v := ?_) rfl (by kernel_rfl) (by kernel_rfl) (by kernel_rfl) (fun _ _ _ h => h) (Or.inl ⟨by rfl, ?_⟩) (by assumption) ?_
      rotate_left
      focus
        intro U hU
        try dsimp only at hU
        go_simp
        try (with_reducible rfl)
      simp only [List.getElem_toArray, List.getElem_cons_succ, List.getElem_cons_zero, Act.put, List.setIfInBounds_toArray, List.set_cons_zero, List.set_cons_succ]
      refine wpAnyH_take (i := 4) (v := ?_) rfl (by kernel_rfl) (by kernel_rfl) (by kernel_rfl) (fun _ _ _ h => h) (Or.inl ⟨by rfl, ?_⟩) (by assumption) ?_
      rotate_left
      focus
        intro U hU
        try dsimp only at hU
        go_simp
        try (with_reducible rfl)
      simp only [List.getElem_toArray, List.getElem_cons_succ, List.getElem_cons_zero, Act.put, List.setIfInBounds_toArray, List.set_cons_zero, List.set_cons_succ]
      refine wpAnyH_take (i := 5) (v := ?_) rfl (by kernel_rfl) (by kernel_rfl) (by kernel_rfl) (fun _ _ _ h => h) (Or.inl ⟨by rfl, ?_⟩) (by assumption) ?_
      rotate_left
      focus
        intro U hU
        try dsimp only at hU
        go_simp
        try (with_reducible rfl)
      simp only [List.getElem_toArray, List.getElem_cons_succ, List.getElem_cons_zero, Act.put, List.setIfInBounds_toArray, List.set_cons_zero, List.set_cons_succ]
      refine wpAnyH_take (i := 6) (v := ?_) rfl (by kernel_rfl) (by kernel_rfl) (by kernel_rfl) (fun _ _ _ h => h) (Or.inl ⟨by rfl, ?_⟩) (by assumption) ?_
      rotate_left
      focus
        intro U hU
        try dsimp only at hU
        go_simp
        try (with_reducible rfl)
      simp only [List.getElem_toArray, List.getElem_cons_succ, List.getElem_cons_zero, Act.put, List.setIfInBounds_toArray, List.set_cons_zero, List.set_cons_succ]
      refine wpAnyH_ready (rs := [2]) (by kernel_rfl) (by simp) ?_
      refine AllReadyH.cons rfl (fun K hK => ?_) AllReadyH.nil
      simp only [List.getElem_toArray, List.getElem_cons_succ, List.getElem_cons_zero]
      go_simp
      refine (HCK.out k0 (HB4.out.trans (hk0.mono HB4.out.size))).2.1.mono ?_
      rintro q k1 ⟨rfl, hb1⟩
      have hk1 := hk0.trans (hb1.mono hk0.size)
      clear hb1
      simp only
      go_wp2_with fail
      refine hK.out _ _ ?_ (fun hHeld2 => ?_)
      focus
        exact hSU _ hk1
      clear hHeld
      have hHeld := hHeld2
      clear hHeld2 hK K
      try simp only [List.getElem_toArray, List.getElem_cons_succ, List.getElem_cons_zero, Act.put, List.setIfInBounds_toArray, List.set_cons_zero, List.set_cons_succ]
      refine wpAnyH_take (i := 7) (v := ?_) rfl (by kernel_rfl) (by kernel_rfl) (by kernel_rfl) (fun _ _ _ h => h) (Or.inl ⟨by rfl, ?_⟩) (by assumption) ?_
      rotate_left
      focus
        intro U hU
        try dsimp only at hU
        go_simp
        try (with_reducible rfl)
      simp only [List.getElem_toArray, List.getElem_cons_succ, List.getElem_cons_zero, Act.put, List.setIfInBounds_toArray, List.set_cons_zero, List.set_cons_succ]
      refine wpAnyH_take (i := 8) (v := ?_) rfl (by kernel_rfl) (by kernel_rfl) (by kernel_rfl) (fun _ _ _ h => h) (Or.inl ⟨by rfl, ?_⟩) (by assumption) ?_
      rotate_left
      focus
        intro U hU
        try dsimp only at hU
        go_simp
        try (with_reducible rfl)
      simp only [List.getElem_toArray, List.getElem_cons_succ, List.getElem_cons_zero, Act.put, List.setIfInBounds_toArray, List.set_cons_zero, List.set_cons_succ]
      refine wpAnyH_take (i := 9) (v := ?_) rfl (by kernel_rfl) (by kernel_rfl) (by kernel_rfl) (fun _ _ _ h => h) (Or.inl ⟨by rfl, ?_⟩) (by assumption) ?_
      rotate_left
      focus
        intro U hU
        try dsimp only at hU
        go_simp
        try (with_reducible rfl)
      simp only [List.getElem_toArray, List.getElem_cons_succ, List.getElem_cons_zero, Act.put, List.setIfInBounds_toArray, List.set_cons_zero, List.set_cons_succ]
      refine wpAnyH_take (i := 10) (v := ?_) rfl (by kernel_rfl) (by kernel_rfl) (by kernel_rfl) (fun _ _ _ h => h) (Or.inl ⟨by rfl, ?_⟩) (by assumption) ?_
      rotate_left
      focus
        intro U hU
        try dsimp only at hU
        go_simp
        try (with_reducible rfl)
      simp only [List.getElem_toArray, List.getElem_cons_succ, List.getElem_cons_zero, Act.put, List.setIfInBounds_toArray, List.set_cons_zero, List.set_cons_succ]
      refine wpAnyH_take (i := 11) (v := ?_) rfl (by kernel_rfl) (by kernel_rfl) (by kernel_rfl) (fun _ _ _ h => h) (Or.inl ⟨by rfl, ?_⟩) (by assumption) ?_
      rotate_left
      focus
        intro U hU
        try dsimp only at hU
        go_simp
        try (with_reducible rfl)
      simp only [List.getElem_toArray, List.getElem_cons_succ, List.getElem_cons_zero, Act.put, List.setIfInBounds_toArray, List.set_cons_zero, List.set_cons_succ]
      refine wpAnyH_take (i := 13) (v := ?_) rfl (by kernel_rfl) (by kernel_rfl) (by kernel_rfl) (fun _ _ _ h => h) (Or.inl ⟨by rfl, ?_⟩) (by assumption) ?_
      rotate_left
      focus
        intro U hU
        try dsimp only at hU
        go_simp
        try (with_reducible rfl)
      simp only [List.getElem_toArray, List.getElem_cons_succ, List.getElem_cons_zero, Act.put, List.setIfInBounds_toArray, List.set_cons_zero, List.set_cons_succ]
      refine wpAnyH_take (i := 14) (v := ?_) rfl (by kernel_rfl) (by kernel_rfl) (by kernel_rfl) (fun _ _ _ h => h) (Or.inl ⟨by rfl, ?_⟩) (by assumption) ?_
      rotate_left
      focus
        intro U hU
        try dsimp only at hU
        go_simp
        try (with_reducible rfl)
      simp only [List.getElem_toArray, List.getElem_cons_succ, List.getElem_cons_zero, Act.put, List.setIfInBounds_toArray, List.set_cons_zero, List.set_cons_succ]
      refine wpAnyH_take (i := 15) (v := ?_) rfl (by kernel_rfl) (by kernel_rfl) (by kernel_rfl) (fun _ _ _ h => h) (Or.inl ⟨by rfl, ?_⟩) (by assumption) ?_
      rotate_left
      focus
        intro U hU
        try dsimp only at hU
        go_simp
        try (with_reducible rfl)
      simp only [List.getElem_toArray, List.getElem_cons_succ, List.getElem_cons_zero, Act.put, List.setIfInBounds_toArray, List.set_cons_zero, List.set_cons_succ]
      refine wpAnyH_ready (rs := [12]) (by kernel_rfl) (by simp) ?_
      refine AllReadyH.cons rfl (fun K hK => ?_) AllReadyH.nil
      simp only [List.getElem_toArray, List.getElem_cons_succ, List.getElem_cons_zero]
      go_simp
      refine (HCK.out k1 (HB4.out.trans (hk1.mono HB4.out.size))).2.2.1.mono ?_
      rintro q k2 ⟨rfl, hb1⟩
      have hk2 := hk1.trans (hb1.mono hk1.size)
      clear hb1
      go_wp2_with fail
      refine hK.out _ _ ?_ (fun hHeld2 => ?_)
      focus
        exact hSU _ hk2
      clear hHeld
      have hHeld := hHeld2
      clear hHeld2 hK K
      try simp only [List.getElem_toArray, List.getElem_cons_succ, List.getElem_cons_zero, Act.put, List.setIfInBounds_toArray, List.set_cons_zero, List.set_cons_succ]
      refine wpAnyH_ready (rs := [16]) (by kernel_rfl) (by simp) ?_
      refine AllReadyH.cons rfl (fun K hK => ?_) AllReadyH.nil
      simp only [List.getElem_toArray, List.getElem_cons_succ, List.getElem_cons_zero]
      go_simp
      refine (HCK.out k2 (HB4.out.trans (hk2.mono HB4.out.size))).2.2.2.mono ?_
      rintro q k3 ⟨rfl, hb1⟩
      have hk3 := hk2.trans (hb1.mono hk2.size)
      clear hb1
      go_wp2_with fail
      refine hK.out _ _ ?_ (fun hHeld2 => ?_)
      focus
        exact hSU _ hk3
      clear hHeld
      have hHeld := hHeld2
      clear hHeld2 hK K
      try simp only [List.getElem_toArray, List.getElem_cons_succ, List.getElem_cons_zero, Act.put, List.setIfInBounds_toArray, List.set_cons_zero, List.set_cons_succ]
      refine wpAnyH_take (i := 17) (v := ?_) rfl (by kernel_rfl) (by kernel_rfl) (by kernel_rfl) (fun _ _ _ h => h) (Or.inl ⟨by rfl, ?_⟩) (by assumption) ?_
      rotate_left
      focus
        intro U hU
        try dsimp only at hU
        go_simp
        try (with_reducible rfl)
      simp only [List.getElem_toArray, List.getElem_cons_succ, List.getElem_cons_zero, Act.put, List.setIfInBounds_toArray, List.set_cons_zero, List.set_cons_succ]
      refine wpAnyH_take (i := 18) (v := ?_) rfl (by kernel_rfl) (by kernel_rfl) (by kernel_rfl) (fun _ _ _ h => h) (Or.inl ⟨by rfl, ?_⟩) (by assumption) ?_
      rotate_left
      focus
        intro U hU
        try dsimp only at hU
        go_simp
        try (with_reducible rfl)
      simp only [List.getElem_toArray, List.getElem_cons_succ, List.getElem_cons_zero, Act.put, List.setIfInBounds_toArray, List.set_cons_zero, List.set_cons_succ]
      refine wpAnyH_done (by kernel_rfl) ?_ _
      have HB5 := hid (HB4.out.trans (hk3.mono HB4.out.size))
      have HQ5 := hid (keep0 HQ4.out hk3)
      have HJ5 := hid (keep0 HJ4.out hk3)
      clear hHeld hSU hk0 hk1 hk2 hk3 HCK HB4 HQ4 HJ4 hne hne2
      go_wp2
      go_loopw [8] (fun i wr => ∃ k : Nat, k ≤ n ∧ i = .int .i64 (k : Int) ∧ Hid (Below W.heap.size W wr) ∧ Hid (wr.heap[Q]? = some (.cells #[.int .i64 sc, .int .i64 le, .int .i64 ag, .int .i64 ro, .int .i64 ou, .slice N T.length nc, .slice K ws.length kc] 25 (0, 0))) ∧ Hid (wr.heap[J]? = some (.cells #[.int .i64 id, .slice A n c] 27 (0, 0)))) (fun i _ => n - (intOf i).toNat)
      case atStart => exact ⟨0, by omega, rfl, HB5, HQ5, HJ5⟩
      case round =>
        clear HB5 HQ5 HJ5
        obtain ⟨k, hk, rfl, HB, HQ, HJ⟩ := hrel
        obtain ⟨j0, j1⟩ := two_cellsR HJ.out
        by_cases hlt : k < n
        · have hlt2 : (k : Int) < (n : Int) := by omega
          have i0 : ¬ (k : Int) < 0 := by omega
          have hkx : k < xs.length := by rw [HN.out]; exact hlt
          obtain ⟨b, off, ha, ct⟩ := text_at (HX.out.below HB.out) k hkx
          subst ha
          have HS := hid (fun u hu => HST.out u hu xs[k] (HTL.out _ (List.getElem_mem hkx)))
          generalize xs[k] = l at *
          generalize str l = st at *
          generalize setJ T ws l = sj at *
          have hne2 : ((sj : Int) != (sj : Int)) = false := by simp
          have hSU : ∀ U, Below wr.heap.size wr U → ((U.cell? ⟨Q, 0, none⟩ = some (.int .i64 sc) ∧ U.cell? ⟨Q, 1, none⟩ = some (.int .i64 le) ∧ U.cell? ⟨Q, 2, none⟩ = some (.int .i64 ag) ∧ U.cell? ⟨Q, 3, none⟩ = some (.int .i64 ro) ∧ U.cell? ⟨Q, 4, none⟩ = some (.int .i64 ou) ∧ U.cell? ⟨Q, 5, none⟩ = some (.slice N T.length nc) ∧ U.cell? ⟨Q, 6, none⟩ = some (.slice K ws.length kc)) ∧ U.cell? ⟨J, 1, none⟩ = some (.slice (some ⟨b, off, none⟩) n c) ∧ U.cell? ⟨b, off + k, none⟩ = some (.string st)) := fun U hU => ⟨seven_cellsJ (keep0 HQ.out hU), (two_cellsR (keep0 HJ.out hU)).2, cellb hU ct⟩
          clear hkx
          go_upto_region 9 with (fail)
          have hk0 : Below wr.heap.size wr wr.drew := below_drew (Below.refl _ _)
          refine wp_region_held_drew (S := fun U => (U.cell? ⟨Q, 0, none⟩ = some (.int .i64 sc) ∧ U.cell? ⟨Q, 1, none⟩ = some (.int .i64 le) ∧ U.cell? ⟨Q, 2, none⟩ = some (.int .i64 ag) ∧ U.cell? ⟨Q, 3, none⟩ = some (.int .i64 ro) ∧ U.cell? ⟨Q, 4, none⟩ = some (.int .i64 ou) ∧ U.cell? ⟨Q, 5, none⟩ = some (.slice N T.length nc) ∧ U.cell? ⟨Q, 6, none⟩ = some (.slice K ws.length kc)) ∧ U.cell? ⟨J, 1, none⟩ = some (.slice (some ⟨b, off, none⟩) n c) ∧ U.cell? ⟨b, off + k, none⟩ = some (.string st)) (by kernel_rfl) (hSU _ hk0) (fun hHeld => ?_)
          generalize wr.drew = k0 at *
          refine wpAnyH_take (i := 0) (v := ?_) rfl (by kernel_rfl) (by kernel_rfl) (by kernel_rfl) (fun _ _ _ h => h) (Or.inl ⟨by rfl, ?_⟩) (by assumption) ?_
          rotate_left
          focus
            intro U hU
            try dsimp only at hU
            go_simp
            try (with_reducible rfl)
          simp only [List.getElem_toArray, List.getElem_cons_succ, List.getElem_cons_zero, Act.put, List.setIfInBounds_toArray, List.set_cons_zero, List.set_cons_succ]
          refine wpAnyH_take (i := 1) (v := ?_) rfl (by kernel_rfl) (by kernel_rfl) (by kernel_rfl) (fun _ _ _ h => h) (Or.inl ⟨by rfl, ?_⟩) (by assumption) ?_
          rotate_left
          focus
            intro U hU
            try dsimp only at hU
            go_simp
            try (with_reducible rfl)
          simp only [List.getElem_toArray, List.getElem_cons_succ, List.getElem_cons_zero, Act.put, List.setIfInBounds_toArray, List.set_cons_zero, List.set_cons_succ]
          refine wpAnyH_take (i := 2) (v := ?_) rfl (by kernel_rfl) (by kernel_rfl) (by kernel_rfl) (fun _ _ _ h => h) (Or.inl ⟨by rfl, ?_⟩) (by assumption) ?_
          rotate_left
          focus
            intro U hU
            try dsimp only at hU
            go_simp
            try (with_reducible rfl)
          simp only [List.getElem_toArray, List.getElem_cons_succ, List.getElem_cons_zero, Act.put, List.setIfInBounds_toArray, List.set_cons_zero, List.set_cons_succ]
          refine wpAnyH_take (i := 3) (v := ?_) rfl (by kernel_rfl) (by kernel_rfl) (by kernel_rfl) (fun _ _ _ h => h) (Or.inl ⟨by rfl, ?_⟩) (by assumption) ?_
          rotate_left
          focus
            intro U hU
            try dsimp only at hU
            go_simp
            try (with_reducible rfl)
          simp only [List.getElem_toArray, List.getElem_cons_succ, List.getElem_cons_zero, Act.put, List.setIfInBounds_toArray, List.set_cons_zero, List.set_cons_succ]
          refine wpAnyH_take (i := 4) (v := ?_) rfl (by kernel_rfl) (by kernel_rfl) (by kernel_rfl) (fun _ _ _ h => h) (Or.inl ⟨by rfl, ?_⟩) (by assumption) ?_
          rotate_left
          focus
            intro U hU
            try dsimp only at hU
            go_simp
            try (with_reducible rfl)
          simp only [List.getElem_toArray, List.getElem_cons_succ, List.getElem_cons_zero, Act.put, List.setIfInBounds_toArray, List.set_cons_zero, List.set_cons_succ]
          refine wpAnyH_take (i := 5) (v := ?_) rfl (by kernel_rfl) (by kernel_rfl) (by kernel_rfl) (fun _ _ _ h => h) (Or.inl ⟨by rfl, ?_⟩) (by assumption) ?_
          rotate_left
          focus
            intro U hU
            try dsimp only at hU
            go_simp
            try (with_reducible rfl)
          simp only [List.getElem_toArray, List.getElem_cons_succ, List.getElem_cons_zero, Act.put, List.setIfInBounds_toArray, List.set_cons_zero, List.set_cons_succ]
          refine wpAnyH_take (i := 7) (v := ?_) rfl (by kernel_rfl) (by kernel_rfl) (by kernel_rfl) (fun _ _ _ h => h) (Or.inl ⟨by rfl, ?_⟩) (by assumption) ?_
          rotate_left
          focus
            intro U hU
            try dsimp only at hU
            go_simp
            try (with_reducible rfl)
          simp only [List.getElem_toArray, List.getElem_cons_succ, List.getElem_cons_zero, Act.put, List.setIfInBounds_toArray, List.set_cons_zero, List.set_cons_succ]
          refine wpAnyH_take (i := 8) (v := ?_) rfl (by kernel_rfl) (by kernel_rfl) (by kernel_rfl) (fun _ _ _ h => h) (Or.inl ⟨by rfl, ?_⟩) (by assumption) ?_
          rotate_left
          focus
            intro U hU
            try dsimp only at hU
            go_simp
            try (with_reducible rfl)
          simp only [List.getElem_toArray, List.getElem_cons_succ, List.getElem_cons_zero, Act.put, List.setIfInBounds_toArray, List.set_cons_zero, List.set_cons_succ]
          refine wpAnyH_take (i := 9) (v := ?_) rfl (by kernel_rfl) (by kernel_rfl) (by kernel_rfl) (fun _ _ _ h => h) (Or.inl ⟨by rfl, ?_⟩) (by assumption) ?_
          rotate_left
          focus
            intro U hU
            try dsimp only at hU
            go_simp
            try (with_reducible rfl)
          simp only [List.getElem_toArray, List.getElem_cons_succ, List.getElem_cons_zero, Act.put, List.setIfInBounds_toArray, List.set_cons_zero, List.set_cons_succ]
          refine wpAnyH_take (i := 10) (v := ?_) rfl (by kernel_rfl) (by kernel_rfl) (by kernel_rfl) (fun _ _ _ h => h) (Or.inl ⟨by rfl, ?_⟩) (by assumption) ?_
          rotate_left
          focus
            intro U hU
            try dsimp only at hU
            go_simp
            try (with_reducible rfl)
          simp only [List.getElem_toArray, List.getElem_cons_succ, List.getElem_cons_zero, Act.put, List.setIfInBounds_toArray, List.set_cons_zero, List.set_cons_succ]
          refine wpAnyH_take (i := 11) (v := ?_) rfl (by kernel_rfl) (by kernel_rfl) (by kernel_rfl) (fun _ _ _ h => h) (Or.inl ⟨by rfl, ?_⟩) (by assumption) ?_
          rotate_left
          focus
            intro U hU
            try dsimp only at hU
            go_simp
            try (with_reducible rfl)
          simp only [List.getElem_toArray, List.getElem_cons_succ, List.getElem_cons_zero, Act.put, List.setIfInBounds_toArray, List.set_cons_zero, List.set_cons_succ]
          refine wpAnyH_take (i := 12) (v := ?_) rfl (by kernel_rfl) (by kernel_rfl) (by kernel_rfl) (fun _ _ _ h => h) (Or.inl ⟨by rfl, ?_⟩) (by assumption) ?_
          rotate_left
          focus
            intro U hU
            try dsimp only at hU
            go_simp
            try (with_reducible rfl)
          simp only [List.getElem_toArray, List.getElem_cons_succ, List.getElem_cons_zero, Act.put, List.setIfInBounds_toArray, List.set_cons_zero, List.set_cons_succ]
          refine wpAnyH_ready (rs := [6]) (by kernel_rfl) (by simp) ?_
          refine AllReadyH.cons rfl (fun K hK => ?_) AllReadyH.nil
          simp only [List.getElem_toArray, List.getElem_cons_succ, List.getElem_cons_zero]
          go_simp
          refine (HS.out k0 (HB.out.trans (hk0.mono HB.out.size))).1.mono ?_
          rintro q k1 ⟨rfl, hb1⟩
          have hk1 := hk0.trans (hb1.mono hk0.size)
          clear hb1
          go_wp2_with fail
          refine hK.out _ _ ?_ (fun hHeld2 => ?_)
          focus
            exact hSU _ hk1
          clear hHeld
          have hHeld := hHeld2
          clear hHeld2 hK K
          try simp only [List.getElem_toArray, List.getElem_cons_succ, List.getElem_cons_zero, Act.put, List.setIfInBounds_toArray, List.set_cons_zero, List.set_cons_succ]
          refine wpAnyH_ready (rs := [13]) (by kernel_rfl) (by simp) ?_
          refine AllReadyH.cons rfl (fun K hK => ?_) AllReadyH.nil
          simp only [List.getElem_toArray, List.getElem_cons_succ, List.getElem_cons_zero]
          go_simp
          refine (HS.out k1 (HB.out.trans (hk1.mono HB.out.size))).2.mono ?_
          rintro q k2 ⟨rfl, hb1⟩
          have hk2 := hk1.trans (hb1.mono hk1.size)
          clear hb1
          go_wp2_with fail
          refine hK.out _ _ ?_ (fun hHeld2 => ?_)
          focus
            exact hSU _ hk2
          clear hHeld
          have hHeld := hHeld2
          clear hHeld2 hK K
          try simp only [List.getElem_toArray, List.getElem_cons_succ, List.getElem_cons_zero, Act.put, List.setIfInBounds_toArray, List.set_cons_zero, List.set_cons_succ]
          refine wpAnyH_take (i := 14) (v := ?_) rfl (by kernel_rfl) (by kernel_rfl) (by kernel_rfl) (fun _ _ _ h => h) (Or.inl ⟨by rfl, ?_⟩) (by assumption) ?_
          rotate_left
          focus
            intro U hU
            try dsimp only at hU
            go_simp
            try (with_reducible rfl)
          simp only [List.getElem_toArray, List.getElem_cons_succ, List.getElem_cons_zero, Act.put, List.setIfInBounds_toArray, List.set_cons_zero, List.set_cons_succ]
          refine wpAnyH_done (by kernel_rfl) ?_ _
          have HB5 := hid (HB.out.trans (hk2.mono HB.out.size))
          have HQ5 := hid (keep0 HQ.out hk2)
          have HJ5 := hid (keep0 HJ.out hk2)
          clear hHeld hSU hk0 hk1 hk2 HS HB HQ HJ j0 j1
          go_wp2
          go_roundw
          case rel => exact ⟨k + 1, by omega, by go_num, HB5, HQ5, HJ5⟩
          case measure => simp [intOf]; omega
        · have hge : ¬ (k : Int) < (n : Int) := by omega
          go_wp2_with fail
          refine (HW.out _).mono ?_
          rintro e w3 ⟨rfl, hb⟩
          have HB3 := hid (HB.out.trans (hb.mono HB.out.size))
          clear hb
          go_wp2
          go_ret
          exact ⟨rfl, HB3.out⟩
end Go.Proofs.Ytgakobolhmdnnaa
