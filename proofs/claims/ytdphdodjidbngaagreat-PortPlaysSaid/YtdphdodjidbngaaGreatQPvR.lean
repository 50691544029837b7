/- PortPlays: the law. -/
import Derived.Test.YtdphdodjidbngaaGreatWv6
import Derived.Test.YtdphdodjidbngaaGreatWv3
import Derived.Test.YtdphdodjidbngaaGreatWv5
import Derived.Test.YtdphdodjidbngaaGreatPaR
import Derived.Deep.CutRange
namespace Go.Proofs.YtdphdodjidbngaaGreat
open Go.RowKit Go.Sort
set_option linter.unusedVariables false
set_option linter.unusedSimpArgs false

theorem str_dataV (b : ByteArray) : str b.data.toList = b := by simp [str]
theorem ten_cellsV {w : World} {b t : Nat} {x0 x1 x2 x3 x4 x5 x6 x7 x8 x9 : Value} (h : w.heap[b]? = some (.cells #[x0, x1, x2, x3, x4, x5, x6, x7, x8, x9] t (0, 0))) :
    w.cell? ⟨b, 0, none⟩ = some x0 ∧ w.cell? ⟨b, 1, none⟩ = some x1 ∧ w.cell? ⟨b, 2, none⟩ = some x2 ∧ w.cell? ⟨b, 3, none⟩ = some x3 ∧ w.cell? ⟨b, 4, none⟩ = some x4 ∧ w.cell? ⟨b, 5, none⟩ = some x5 ∧ w.cell? ⟨b, 6, none⟩ = some x6 ∧ w.cell? ⟨b, 7, none⟩ = some x7 ∧ w.cell? ⟨b, 8, none⟩ = some x8 ∧ w.cell? ⟨b, 9, none⟩ = some x9 := by
  refine ⟨?_, ?_, ?_, ?_, ?_, ?_, ?_, ?_, ?_, ?_⟩ <;> (rw [cell_of_row _ _ _ _ _ _ h]; rfl)
theorem three_cellsV {w : World} {b t : Nat} {x0 x1 x2 : Value} (h : w.heap[b]? = some (.cells #[x0, x1, x2] t (0, 0))) :
    w.cell? ⟨b, 0, none⟩ = some x0 ∧ w.cell? ⟨b, 1, none⟩ = some x1 ∧ w.cell? ⟨b, 2, none⟩ = some x2 := by
  refine ⟨?_, ?_, ?_⟩ <;> (rw [cell_of_row _ _ _ _ _ _ h]; rfl)
theorem okN_in {nd inc bd : Int} (h : okN nd inc bd = true) : nodeB nd = true ∧ 1 ≤ inc ∧ inc ≤ 72057594037927935 ∧ 1 ≤ bd ∧ bd ≤ 16 := by
  simp only [okN, Bool.and_eq_true, decide_eq_true_eq] at h
  exact ⟨h.1.1, h.1.2.1, h.1.2.2, h.2.1, h.2.2⟩
theorem R7.blk {w w' : World} {base g b t : Nat} {nd inc bd : Int} {M : List Ev} {cs : Array Value} (h : R7 w w' base g nd inc bd M) (hb : w.heap[b]? = some (.cells cs t (0, 0))) (h1 : t ≠ 63) (h2 : t ≠ 82) : w'.heap[b]? = some (.cells cs t (0, 0)) := h.s.oth _ _ _ _ h1 h2 hb
theorem pput_len (nd inc bd : Int) (L : List Ev) (k : Int) (y : List UInt8) : (pputV nd inc bd L k y).2.1.length ≤ 1000 := by
  unfold pputV
  split
  · simp
  · split
    · rw [List.length_map]
      exact putE_len _ _ _
    · simp
theorem ptak_len (nd inc : Int) (L : List Ev) (s : List UInt8) : (ptakV nd inc L s).2.2.1.length ≤ 1000 := by
  unfold ptakV
  split
  · simp
  · split
    · simp
    · rw [List.length_map]
      exact takV_len _ _
set_option maxRecDepth 20000 in
set_option maxHeartbeats 16000000 in
theorem portPlays_law (AA : Option Addr) (cap : Nat) (l : List Ap) (n0 n1 n2 : Int) (W : World) (hA : Sl W 10 AA l.length cap (gcells apl l)) (hok : ∀ x ∈ l, ApO2 x) :
    Calls Tryz.prog 3 #[.agg #[.int .i64 n0, .int .i64 n1, .int .i64 n2], .slice AA l.length cap] W fun e w' => e = .returned (.bool true) ∧ Below W.heap.size W w' := by
  have HA := hid hA
  have HOKX := hid hok
  have hlm : (l.length : Int) ≤ 9223372036854775807 := by have h3 := hA.2.1; have h2 := hA.2.2.1; unfold maxLen at h2; omega
  have HWK := hid works27_any
  have HNR := hid (fun w => r27new_any n0 n1 n2 w)
  clear hA hok
  go_enter Tryz.func3, Tryz.ntmps3
  go_upto_region 1 with (fail)
  refine at_world (fun u => u.heap[W.heap.size]? = some (.cells #[.int .i64 n0, .int .i64 n1, .int .i64 n2] 22 (0, 0)) ∧ Below W.heap.size W u) ⟨heap_alloc_new _ _, bel_alloc (Below.refl _ _) _⟩ ?_
  rintro w0 ⟨hz, hb⟩
  generalize hBX : W.heap.size = BX at hz ⊢
  have HB0 : Hid (Below BX W w0) := hid (by rw [← hBX]; exact hb)
  have HBX := hid hBX
  have HZ0 := hid hz
  clear hz hb hBX
  obtain ⟨a0, a1, a2⟩ := three_cellsV HZ0.out
  cases hcok : okN n0 n1 n2 with
  | false =>
    rw [hcok] at HNR
    have HNP := hid (fun w => ptnew_no n0 n1 n2 hcok w)
    clear hcok
    go_wp2_with fail
    refine (HNP.out _).mono ?_
    rintro e w1 ⟨rfl, hb1⟩
    have HB1 := hid (HB0.out.trans (hb1.mono (HBX.out ▸ HB0.out.size)))
    have HZ1 := hid (keep0 HZ0.out hb1)
    clear HNP HB0 HZ0 hb1 a0 a1 a2
    obtain ⟨a0, a1, a2⟩ := three_cellsV HZ1.out
    go_wp2_with fail
    refine (HNR.out _).mono ?_
    rintro e w2 ⟨g, rfl, -, -, hb2⟩
    have HB2 := hid (HB1.out.trans (hb2.mono (HBX.out ▸ HB1.out.size)))
    rw [← HBX.out] at HB2
    clear HNR HB1 HZ1 hb2 a0 a1 a2
    go_wp2
    refine wp_loop_rounds 1 ?_
    rw [rounds_succ]
    go_wp2_with fail
    refine (pnil_put 1 ⟨#[97]⟩ _).mono ?_
    rintro e z1 ⟨rfl, hb⟩
    have HZ1 := hid (HB2.out.trans (hb.mono HB2.out.size))
    clear hb
    go_wp2_with fail
    refine (pnil_take ⟨#[]⟩ _).mono ?_
    rintro e z2 ⟨rfl, hb⟩
    have HZ2 := hid (HZ1.out.trans (hb.mono HZ1.out.size))
    clear hb HZ1
    go_wp2_with fail
    refine (pnil_bare 1 ⟨#[97]⟩ _).mono ?_
    rintro e z3 ⟨rfl, hb⟩
    have HZ3 := hid (HZ2.out.trans (hb.mono HZ2.out.size))
    clear hb HZ2
    go_wp2_with fail
    refine (pnil_tick _).mono ?_
    rintro e z4 ⟨rfl, hb⟩
    have HZ4 := hid (HZ3.out.trans (hb.mono HZ3.out.size))
    clear hb HZ3
    go_wp2_with fail
    refine (pnil_waits 1 _).mono ?_
    rintro e z5 ⟨rfl, hb⟩
    have HZ5 := hid (HZ4.out.trans (hb.mono HZ4.out.size))
    clear hb HZ4
    go_wp2_with fail
    refine (pnil_clone _).mono ?_
    rintro e z6 ⟨rfl, hb⟩
    have HZ6 := hid (HZ5.out.trans (hb.mono HZ5.out.size))
    clear hb HZ5
    go_wp2_with fail
    refine (HWK.out _).mono ?_
    rintro e z7 ⟨rfl, hb⟩
    have HZ7 := hid (HZ6.out.trans (hb.mono HZ6.out.size))
    clear hb HZ6
    go_wp2
    go_ret
    exact ⟨rfl, HZ7.out⟩
  | true =>
    rw [hcok] at HNR
    have HOK := hid (okN_in hcok)
    have HNP := hid (fun w => ptNew_any n0 n1 n2 HOK.out.1 HOK.out.2.1 HOK.out.2.2.1 HOK.out.2.2.2.1 HOK.out.2.2.2.2 w)
    clear hcok
    go_wp2_with fail
    refine (HNP.out _).mono ?_
    rintro e w1 ⟨P0, Mp0, rfl, -, hM, hp1, hb1⟩
    have HB1 := hid (HB0.out.trans (hb1.mono (HBX.out ▸ HB0.out.size)))
    have HZ1 := hid (keep0 HZ0.out hb1)
    have HP1 := hid hp1
    have HM1 : Hid (W.heap.size ≤ Mp0) := hid (Nat.le_trans HB0.out.size hM)
    clear HNP HB0 HZ0 hb1 a0 a1 a2 hM hp1
    obtain ⟨a0, a1, a2⟩ := three_cellsV HZ1.out
    go_wp2_with fail
    refine (HNR.out _).mono ?_
    rintro e w2 ⟨g, rfl, hg, hp7, hb2⟩
    have HB2 := hid (HB1.out.trans (hb2.mono (HBX.out ▸ HB1.out.size)))
    have hle : W.heap.size ≤ w1.heap.size := HB1.out.size
    rw [← HBX.out] at HB2
    have HS2 : Hid (PS W w2 n0 n1 n2 P0 Mp0 g [] []) := hid ⟨HP1.out.below hb2, hp7.mono hle, HB2.out, HM1.out, Nat.le_trans hle hg⟩
    clear HNR HB1 HZ1 hb2 a0 a1 a2 HP1 HM1 hg hp7 hle HBX HB2
    go_wp2
    go_loopw [5, 8, 9, 10, 11, 12, 13, 14, 15, 16, 17, 18, 19, 20, 21, 22, 23, 24] (fun p i _ _ _ _ _ _ _ _ _ _ _ _ _ _ _ _ wr => ∃ (j P Mp : Nat) (L M : List Ev), j ≤ l.length ∧ j ≤ 60 ∧ i = .int .i64 (j : Int) ∧ p = .pointer (some ⟨P, 0, none⟩) ∧ Hid (PS W wr n0 n1 n2 P Mp g L M) ∧ Hid (TwoP n0 n1 j L M)) (fun _ i _ _ _ _ _ _ _ _ _ _ _ _ _ _ _ _ _ => 60 - (intOf i).toNat)
    case atStart => exact ⟨0, P0, Mp0, [], [], by omega, by omega, rfl, rfl, HS2, hid (TwoP.nil _ _ _)⟩
    case round =>
      clear HS2
      obtain ⟨j, P, Mp, L, M, hjl, hj60, rfl, rfl, HSW, HT⟩ := hrel
      by_cases hlt : j < l.length
      · have e1 : (j : Int) < (l.length : Int) := by omega
        have e3 : decide ((j : Int) < (l.length : Int)) = true := decide_eq_true e1
        by_cases h60 : j < 60
        · have e2 : (j : Int) < 60 := by omega
          have e4 : decide ((j : Int) < 60) = true := decide_eq_true e2
          have hw : IntKind.i64.wrap ((j : Int) + 1) = (j : Int) + 1 := IntWalk.i64_in _ (by omega)
          obtain ⟨bA, oA, rfl, c0, c1, c2, c3, c4, c5, c6, c7, c8, c9⟩ := HA.out.ap j hlt
          have c0 := cellb HSW.out.bel c0
          have c1 := cellb HSW.out.bel c1
          have c2 := cellb HSW.out.bel c2
          have c3 := cellb HSW.out.bel c3
          have c4 := cellb HSW.out.bel c4
          have c5 := cellb HSW.out.bel c5
          have c6 := cellb HSW.out.bel c6
          have c7 := cellb HSW.out.bel c7
          have c8 := cellb HSW.out.bel c8
          have c9 := cellb HSW.out.bel c9
          have hxo := HOKX.out l[j] (List.getElem_mem hlt)
          have hx1 : (l[j].tx.size : Int) ≤ 9223372036854775807 := by have := hxo.1.1; unfold maxLen at this; omega
          have hx2 : (l[j].b.size : Int) ≤ 9223372036854775807 := by have := hxo.1.2; unfold maxLen at this; omega
          have hxt := hxo.2
          clear hxo
          generalize l[j] = x at *
          obtain ⟨xd, xt, xtx, xk, xf, xto, xi, xp, xs, xb⟩ := x
          simp only at c0 c1 c2 c3 c4 c5 c6 c7 c8 c9 hx1 hx2 hxt
          go_upto_region 9 with (fail)
          refine at_world (fun u => u.heap[wr.heap.size]? = some (.cells #[.int .i64 xd, .int .i64 xt, .string xtx, .int .i64 xk, .int .i64 xf, .int .i64 xto, .int .i64 xi, .int .i64 xp, .int .i64 xs, .string xb] 32 (0, 0)) ∧ Below wr.heap.size wr u) ⟨heap_alloc_new _ _, bel_alloc (Below.refl _ _) _⟩ ?_
          rintro w1 ⟨hz, hb⟩
          have HZ := hid hz
          have HS := hid (HSW.out.below hb)
          clear hz hb HSW c0 c1 c2 c3 c4 c5 c6 c7 c8 c9
          generalize wr.heap.size = Z at *
          obtain ⟨z0, z1, z2, z3, z4, z5, z6, z7, z8, z9⟩ := ten_cellsV HZ.out
          by_cases ht200 : xtx.size ≤ 200
          · have f1 : ¬ (200 : Int) < (xtx.size : Int) := by omega
            have f2 : decide ((200 : Int) < (xtx.size : Int)) = false := decide_eq_false f1
            by_cases hb200 : xb.size ≤ 200
            · have f3 : ¬ (200 : Int) < (xb.size : Int) := by omega
              have f4 : decide ((200 : Int) < (xb.size : Int)) = false := decide_eq_false f3
              by_cases hd0 : xd = 0
              · skip
                subst hd0
                have HPU := hid (pput_any xt xtx.data.toList w1 HS.out.pt (fun e he => (HT.out.gl e he).gd (by omega)) (by rw [Array.length_toList]; show xtx.size ≤ _; unfold maxLen; omega))
                have HRP := hid (fun U (h : P7M U W.heap.size g n0 n1 n2 M) (hb : W.heap.size ≤ U.heap.size) => r27put_any xt xtx.data.toList U h HT.out.s.m (by have := HT.out.len; omega) hb HS.out.gw (fun e he => (HT.out.gm e he).gd (by omega)) (by rw [Array.length_toList]; show xtx.size ≤ _; unfold maxLen; omega))
                rw [str_dataV] at HPU HRP
                have HT9 := hid (HT.out.put n2 HOK.out.2.2.2.2 xt xtx.data.toList)
                have hsp := (same_put HT.out.s n2 xt xtx.data.toList).2
                have hxl : (pputV n0 n1 n2 L xt xtx.data.toList).2.1.length ≤ 1000 := pput_len _ _ _ _ _ _
                generalize pputV n0 n1 n2 L xt xtx.data.toList = rv at *
                generalize rputV n0 n1 n2 M xt xtx.data.toList = rw' at *
                obtain ⟨L9, ys, er⟩ := rv
                obtain ⟨M9, ys2, er2⟩ := rw'
                simp only [Prod.mk.injEq] at hsp
                obtain ⟨rfl, rfl⟩ := hsp
                simp only [PPutR, RPutR] at HPU HRP HT9 hxl
                clear HT
                go_wp2_with fail
                refine HPU.out.mono ?_
                rintro e w2 ⟨Ax, cx, rfl, hox, hpx, hux, -⟩
                have HS2 := hid (HS.out.onP hpx hux)
                have HZ2 := hid (HS.out.blkP HZ.out hux)
                have HX2 := hid hox
                clear HPU HS hox hpx hux HZ
                clear z0 z1 z2 z3 z4 z5 z6 z7 z8 z9
                obtain ⟨z0, z1, z2, z3, z4, z5, z6, z7, z8, z9⟩ := ten_cellsV HZ2.out
                go_wp2_with fail
                refine (HRP.out w2 HS2.out.p7 HS2.out.bel.size).mono ?_
                rintro e w3 ⟨Ay, cy, rfl, hoy, hr⟩
                have HS3 := hid (HS2.out.on7 hr)
                have HZ3 := hid (hr.blk HZ2.out (by decide) (by decide))
                have HX3 := hid (own_sts HX2.out hr.s (by decide) (by decide))
                have HY3 := hid hoy
                clear HRP HS2 HZ2 HX2 hoy hr
                clear z0 z1 z2 z3 z4 z5 z6 z7 z8 z9
                have hee : (er == er) = true := beq_self_eq_true er
                have HSM := hid (same03 Ax Ay ys.length cx ys.length cy ys ys w3 (sl_own HX3.out) (sl_own HY3.out) (by omega) (by omega))
                rw [beq_self_eq_true] at HSM
                clear HX3 HY3
                go_wp2_with fail
                refine HSM.out.mono ?_
                rintro e w9 ⟨rfl, q, rfl⟩
                have HS9 := hid (HS3.out.below (⟨rfl, rfl, rfl, Nat.le_refl _, fun _ _ => rfl⟩ : Below w3.heap.size w3 (w3.drewN q)))
                have HZ9 := hid (keep0 HZ3.out (⟨rfl, rfl, rfl, Nat.le_refl _, fun _ _ => rfl⟩ : Below w3.heap.size w3 (w3.drewN q)))
                clear HSM HS3 HZ3
                generalize w3.drewN q = w9 at *
                clear hee
                have HW1 := hid (fun U (hU : Below w9.heap.size w9 U) => pwaits_all xt U (HS9.out.below hU).pt hxt.1 hxt.2)
                have HW2 := hid (fun U (hU : Below w9.heap.size w9 U) => p7waits xt U (HS9.out.below hU).p7)
                have hpw : pwaitV L9 xt = ((endP n0 n1 M9 xt).o.l.length : Nat) := same_waits HT9.out.s xt
                rw [hpw] at HW1
                generalize (((endP n0 n1 M9 xt).o.l.length : Nat) : Int) = pw at *
                go_upto_region 30 with (fail)
                have hS : ∀ U : World, Below w9.heap.size w9 U → U.cell? ⟨Z, 1, none⟩ = some (.int .i64 xt) := fun U hU => (ten_cellsV (keep0 HZ9.out hU)).2.1
                have hu0 : Below w9.heap.size w9 w9.drew := below_drew (Below.refl _ _)
                refine wp_region_held_drew (S := fun U => U.cell? ⟨Z, 1, none⟩ = some (.int .i64 xt)) (by kernel_rfl) (hS _ hu0) (fun hHeld => ?_)
                generalize w9.drew = u0 at *
                refine wpAnyH_take (i := 0) (v := ?_) rfl (by kernel_rfl) (by kernel_rfl) (by kernel_rfl) (fun _ _ _ h => h) (Or.inl ⟨by rfl, ?_⟩) (by assumption) ?_
                rotate_left
                focus
                  intro U hU
                  try dsimp only at hU
                  go_simp
                  try (with_reducible rfl)
                simp only [List.getElem_toArray, List.getElem_cons_succ, List.getElem_cons_zero, Act.put, List.setIfInBounds_toArray, List.set_cons_zero, List.set_cons_succ]
                refine wpAnyH_take (i := 1) (v := ?_) rfl (by kernel_rfl) (by kernel_rfl) (by kernel_rfl) (fun _ _ _ h => h) (Or.inl ⟨by rfl, ?_⟩) (by assumption) ?_
                rotate_left
                focus
                  intro U hU
                  try dsimp only at hU
                  go_simp
                  try (with_reducible rfl)
                simp only [List.getElem_toArray, List.getElem_cons_succ, List.getElem_cons_zero, Act.put, List.setIfInBounds_toArray, List.set_cons_zero, List.set_cons_succ]
                refine wpAnyH_take (i := 2) (v := ?_) rfl (by kernel_rfl) (by kernel_rfl) (by kernel_rfl) (fun _ _ _ h => h) (Or.inl ⟨by rfl, ?_⟩) (by assumption) ?_
                rotate_left
                focus
                  intro U hU
                  try dsimp only at hU
                  go_simp
                  try (with_reducible rfl)
                simp only [List.getElem_toArray, List.getElem_cons_succ, List.getElem_cons_zero, Act.put, List.setIfInBounds_toArray, List.set_cons_zero, List.set_cons_succ]
                refine wpAnyH_take (i := 3) (v := ?_) rfl (by kernel_rfl) (by kernel_rfl) (by kernel_rfl) (fun _ _ _ h => h) (Or.inl ⟨by rfl, ?_⟩) (by assumption) ?_
                rotate_left
                focus
                  intro U hU
                  try dsimp only at hU
                  go_simp
                  try (with_reducible rfl)
                simp only [List.getElem_toArray, List.getElem_cons_succ, List.getElem_cons_zero, Act.put, List.setIfInBounds_toArray, List.set_cons_zero, List.set_cons_succ]
                refine wpAnyH_take (i := 4) (v := ?_) rfl (by kernel_rfl) (by kernel_rfl) (by kernel_rfl) (fun _ _ _ h => h) (Or.inl ⟨by rfl, ?_⟩) (by assumption) ?_
                rotate_left
                focus
                  intro U hU
                  try dsimp only at hU
                  go_simp
                  try (with_reducible rfl)
                simp only [List.getElem_toArray, List.getElem_cons_succ, List.getElem_cons_zero, Act.put, List.setIfInBounds_toArray, List.set_cons_zero, List.set_cons_succ]
                refine wpAnyH_take (i := 5) (v := ?_) rfl (by kernel_rfl) (by kernel_rfl) (by kernel_rfl) (fun _ _ _ h => h) (Or.inl ⟨by rfl, ?_⟩) (by assumption) ?_
                rotate_left
                focus
                  intro U hU
                  try dsimp only at hU
                  go_simp
                  try (with_reducible rfl)
                simp only [List.getElem_toArray, List.getElem_cons_succ, List.getElem_cons_zero, Act.put, List.setIfInBounds_toArray, List.set_cons_zero, List.set_cons_succ]
                refine wpAnyH_take (i := 7) (v := ?_) rfl (by kernel_rfl) (by kernel_rfl) (by kernel_rfl) (fun _ _ _ h => h) (Or.inl ⟨by rfl, ?_⟩) (by assumption) ?_
                rotate_left
                focus
                  intro U hU
                  try dsimp only at hU
                  go_simp
                  try (with_reducible rfl)
                simp only [List.getElem_toArray, List.getElem_cons_succ, List.getElem_cons_zero, Act.put, List.setIfInBounds_toArray, List.set_cons_zero, List.set_cons_succ]
                refine wpAnyH_take (i := 8) (v := ?_) rfl (by kernel_rfl) (by kernel_rfl) (by kernel_rfl) (fun _ _ _ h => h) (Or.inl ⟨by rfl, ?_⟩) (by assumption) ?_
                rotate_left
                focus
                  intro U hU
                  try dsimp only at hU
                  go_simp
                  try (with_reducible rfl)
                simp only [List.getElem_toArray, List.getElem_cons_succ, List.getElem_cons_zero, Act.put, List.setIfInBounds_toArray, List.set_cons_zero, List.set_cons_succ]
                refine wpAnyH_take (i := 9) (v := ?_) rfl (by kernel_rfl) (by kernel_rfl) (by kernel_rfl) (fun _ _ _ h => h) (Or.inl ⟨by rfl, ?_⟩) (by assumption) ?_
                rotate_left
                focus
                  intro U hU
                  try dsimp only at hU
                  go_simp
                  try (with_reducible rfl)
                simp only [List.getElem_toArray, List.getElem_cons_succ, List.getElem_cons_zero, Act.put, List.setIfInBounds_toArray, List.set_cons_zero, List.set_cons_succ]
                refine wpAnyH_ready (rs := [6]) (by kernel_rfl) (by simp) ?_
                refine AllReadyH.cons rfl (fun K hK => ?_) AllReadyH.nil
                simp only [List.getElem_toArray, List.getElem_cons_succ, List.getElem_cons_zero]
                go_simp
                refine (HW1.out _ hu0).mono ?_
                rintro q u1 ⟨rfl, rfl⟩
                go_wp2_with fail
                refine hK.out _ _ ?_ (fun hHeld2 => ?_)
                focus
                  exact hS _ (by with_reducible assumption)
                clear hHeld
                have hHeld := hHeld2
                clear hHeld2 hK K
                try simp only [List.getElem_toArray, List.getElem_cons_succ, List.getElem_cons_zero, Act.put, List.setIfInBounds_toArray, List.set_cons_zero, List.set_cons_succ]
                refine wpAnyH_ready (rs := [10]) (by kernel_rfl) (by simp) ?_
                refine AllReadyH.cons rfl (fun K hK => ?_) AllReadyH.nil
                simp only [List.getElem_toArray, List.getElem_cons_succ, List.getElem_cons_zero]
                go_simp
                refine (HW2.out _ hu0).mono ?_
                rintro q u2 ⟨rfl, hb2⟩
                have hu2 : Below w9.heap.size w9 u2 := hu0.trans (hb2.mono hu0.size)
                clear hb2
                go_wp2_with fail
                refine hK.out _ _ ?_ (fun hHeld2 => ?_)
                focus
                  exact hS _ (by with_reducible assumption)
                clear hHeld
                have hHeld := hHeld2
                clear hHeld2 hK K
                try simp only [List.getElem_toArray, List.getElem_cons_succ, List.getElem_cons_zero, Act.put, List.setIfInBounds_toArray, List.set_cons_zero, List.set_cons_succ]
                refine wpAnyH_take (i := 11) (v := ?_) rfl (by kernel_rfl) (by kernel_rfl) (by kernel_rfl) (fun _ _ _ h => h) (Or.inl ⟨by rfl, ?_⟩) (by assumption) ?_
                rotate_left
                focus
                  intro U hU
                  try dsimp only at hU
                  go_simp
                  try (with_reducible rfl)
                simp only [List.getElem_toArray, List.getElem_cons_succ, List.getElem_cons_zero, Act.put, List.setIfInBounds_toArray, List.set_cons_zero, List.set_cons_succ]
                refine wpAnyH_take (i := 12) (v := ?_) rfl (by kernel_rfl) (by kernel_rfl) (by kernel_rfl) (fun _ _ _ h => h) (Or.inl ⟨by rfl, ?_⟩) (by assumption) ?_
                rotate_left
                focus
                  intro U hU
                  try dsimp only at hU
                  go_simp
                  try (with_reducible rfl)
                simp only [List.getElem_toArray, List.getElem_cons_succ, List.getElem_cons_zero, Act.put, List.setIfInBounds_toArray, List.set_cons_zero, List.set_cons_succ]
                refine wpAnyH_done (by kernel_rfl) ?_ _
                clear hHeld hS HW1 HW2
                have HU9 := hid hu2
                clear hu0 hu2
                go_wp2
                go_roundw
                case rel => exact ⟨j + 1, _, _, L9, M9, by omega, by omega, by go_num, rfl, hid (HS9.out.below HU9.out), HT9⟩
                case measure => simp [intOf]; omega
              · have hd0b : (xd == 0) = false := by simpa using hd0
                by_cases hd1 : xd = 1
                · skip
                  subst hd1
                  have HPB := hid (fun U (h : PortAt U P Mp n0 n1 n2 L) => pbare_any xt xtx U h (by omega))
                  have HRB := hid (fun U (h : P7M U W.heap.size g n0 n1 n2 M) => rbare_any xt xtx U h (by omega))
                  have HT9 : Hid (TwoP n0 n1 (j + 1) L M) := hid (HT.out.mono (Nat.le_succ j))
                  have hxl := bare_len n0 n1 xt xtx
                  generalize bareV n0 n1 xt xtx = ys at *
                  clear HT
                  go_upto_region 16 with (fail)
                  clear z0 z1 z2 z3 z4 z5 z6 z7 z8 z9
                  have hS : ∀ U : World, U.heap[Z]? = some (.cells #[.int .i64 1, .int .i64 xt, .string xtx, .int .i64 xk, .int .i64 xf, .int .i64 xto, .int .i64 xi, .int .i64 xp, .int .i64 xs, .string xb] 32 (0, 0)) → (U.cell? ⟨Z, 1, none⟩ = some (.int .i64 xt) ∧ U.cell? ⟨Z, 2, none⟩ = some (.string xtx)) := fun U hU => ⟨(ten_cellsV hU).2.1, (ten_cellsV hU).2.2.1⟩
                  have hu0 : Below w1.heap.size w1 w1.drew := below_drew (Below.refl _ _)
                  have hz0 := keep0 HZ.out hu0
                  have HS0 := hid (HS.out.below hu0)
                  refine wp_region_held_drew (S := fun U => U.cell? ⟨Z, 1, none⟩ = some (.int .i64 xt) ∧ U.cell? ⟨Z, 2, none⟩ = some (.string xtx)) (by kernel_rfl) (hS _ hz0) (fun hHeld => ?_)
                  clear HS HZ
                  generalize w1.drew = u0 at *
                  refine wpAnyH_take (i := 0) (v := ?_) rfl (by kernel_rfl) (by kernel_rfl) (by kernel_rfl) (fun _ _ _ h => h) (Or.inl ⟨by rfl, ?_⟩) (by assumption) ?_
                  rotate_left
                  focus
                    intro U hU
                    try dsimp only at hU
                    go_simp
                    try (with_reducible rfl)
                  simp only [List.getElem_toArray, List.getElem_cons_succ, List.getElem_cons_zero, Act.put, List.setIfInBounds_toArray, List.set_cons_zero, List.set_cons_succ]
                  refine wpAnyH_take (i := 1) (v := ?_) rfl (by kernel_rfl) (by kernel_rfl) (by kernel_rfl) (fun _ _ _ h => h) (Or.inl ⟨by rfl, ?_⟩) (by assumption) ?_
                  rotate_left
                  focus
                    intro U hU
                    try dsimp only at hU
                    go_simp
                    try (with_reducible rfl)
                  simp only [List.getElem_toArray, List.getElem_cons_succ, List.getElem_cons_zero, Act.put, List.setIfInBounds_toArray, List.set_cons_zero, List.set_cons_succ]
                  refine wpAnyH_take (i := 2) (v := ?_) rfl (by kernel_rfl) (by kernel_rfl) (by kernel_rfl) (fun _ _ _ h => h) (Or.inl ⟨by rfl, ?_⟩) (by assumption) ?_
                  rotate_left
                  focus
                    intro U hU
                    try dsimp only at hU
                    go_simp
                    try (with_reducible rfl)
                  simp only [List.getElem_toArray, List.getElem_cons_succ, List.getElem_cons_zero, Act.put, List.setIfInBounds_toArray, List.set_cons_zero, List.set_cons_succ]
                  refine wpAnyH_take (i := 3) (v := ?_) rfl (by kernel_rfl) (by kernel_rfl) (by kernel_rfl) (fun _ _ _ h => h) (Or.inl ⟨by rfl, ?_⟩) (by assumption) ?_
                  rotate_left
                  focus
                    intro U hU
                    try dsimp only at hU
                    go_simp
                    try (with_reducible rfl)
                  simp only [List.getElem_toArray, List.getElem_cons_succ, List.getElem_cons_zero, Act.put, List.setIfInBounds_toArray, List.set_cons_zero, List.set_cons_succ]
                  refine wpAnyH_take (i := 4) (v := ?_) rfl (by kernel_rfl) (by kernel_rfl) (by kernel_rfl) (fun _ _ _ h => h) (Or.inl ⟨by rfl, ?_⟩) (by assumption) ?_
                  rotate_left
                  focus
                    intro U hU
                    try dsimp only at hU
                    go_simp
                    try (with_reducible rfl)
                  simp only [List.getElem_toArray, List.getElem_cons_succ, List.getElem_cons_zero, Act.put, List.setIfInBounds_toArray, List.set_cons_zero, List.set_cons_succ]
                  refine wpAnyH_take (i := 6) (v := ?_) rfl (by kernel_rfl) (by kernel_rfl) (by kernel_rfl) (fun _ _ _ h => h) (Or.inl ⟨by rfl, ?_⟩) (by assumption) ?_
                  rotate_left
                  focus
                    intro U hU
                    try dsimp only at hU
                    go_simp
                    try (with_reducible rfl)
                  simp only [List.getElem_toArray, List.getElem_cons_succ, List.getElem_cons_zero, Act.put, List.setIfInBounds_toArray, List.set_cons_zero, List.set_cons_succ]
                  refine wpAnyH_take (i := 7) (v := ?_) rfl (by kernel_rfl) (by kernel_rfl) (by kernel_rfl) (fun _ _ _ h => h) (Or.inl ⟨by rfl, ?_⟩) (by assumption) ?_
                  rotate_left
                  focus
                    intro U hU
                    try dsimp only at hU
                    go_simp
                    try (with_reducible rfl)
                  simp only [List.getElem_toArray, List.getElem_cons_succ, List.getElem_cons_zero, Act.put, List.setIfInBounds_toArray, List.set_cons_zero, List.set_cons_succ]
                  refine wpAnyH_take (i := 8) (v := ?_) rfl (by kernel_rfl) (by kernel_rfl) (by kernel_rfl) (fun _ _ _ h => h) (Or.inl ⟨by rfl, ?_⟩) (by assumption) ?_
                  rotate_left
                  focus
                    intro U hU
                    try dsimp only at hU
                    go_simp
                    try (with_reducible rfl)
                  simp only [List.getElem_toArray, List.getElem_cons_succ, List.getElem_cons_zero, Act.put, List.setIfInBounds_toArray, List.set_cons_zero, List.set_cons_succ]
                  refine wpAnyH_take (i := 9) (v := ?_) rfl (by kernel_rfl) (by kernel_rfl) (by kernel_rfl) (fun _ _ _ h => h) (Or.inl ⟨by rfl, ?_⟩) (by assumption) ?_
                  rotate_left
                  focus
                    intro U hU
                    try dsimp only at hU
                    go_simp
                    try (with_reducible rfl)
                  simp only [List.getElem_toArray, List.getElem_cons_succ, List.getElem_cons_zero, Act.put, List.setIfInBounds_toArray, List.set_cons_zero, List.set_cons_succ]
                  refine wpAnyH_take (i := 10) (v := ?_) rfl (by kernel_rfl) (by kernel_rfl) (by kernel_rfl) (fun _ _ _ h => h) (Or.inl ⟨by rfl, ?_⟩) (by assumption) ?_
                  rotate_left
                  focus
                    intro U hU
                    try dsimp only at hU
                    go_simp
                    try (with_reducible rfl)
                  simp only [List.getElem_toArray, List.getElem_cons_succ, List.getElem_cons_zero, Act.put, List.setIfInBounds_toArray, List.set_cons_zero, List.set_cons_succ]
                  refine wpAnyH_ready (rs := [5]) (by kernel_rfl) (by simp) ?_
                  refine AllReadyH.cons rfl (fun K hK => ?_) AllReadyH.nil
                  simp only [List.getElem_toArray, List.getElem_cons_succ, List.getElem_cons_zero]
                  go_simp
                  refine (HPB.out u0 HS0.out.pt).mono ?_
                  rintro e u1 ⟨Ax, cx, rfl, hox, hb1⟩
                  have hz1 := keep0 hz0 hb1
                  have HS1 := hid (HS0.out.below hb1)
                  have HX1 := hid hox
                  clear hb1 hox
                  go_wp2_with fail
                  refine hK.out _ _ ?_ (fun hHeld2 => ?_)
                  focus
                    first | exact hS _ hz9 | exact hS _ hz3 | exact hS _ hz1
                  clear hHeld
                  have hHeld := hHeld2
                  clear hHeld2 hK K
                  try simp only [List.getElem_toArray, List.getElem_cons_succ, List.getElem_cons_zero, Act.put, List.setIfInBounds_toArray, List.set_cons_zero, List.set_cons_succ]
                  refine wpAnyH_ready (rs := [11]) (by kernel_rfl) (by simp) ?_
                  refine AllReadyH.cons rfl (fun K hK => ?_) AllReadyH.nil
                  simp only [List.getElem_toArray, List.getElem_cons_succ, List.getElem_cons_zero]
                  go_simp
                  refine (HRB.out u1 HS1.out.p7).mono ?_
                  rintro e w3 ⟨Ay, cy, rfl, hoy, hb3⟩
                  have hz3 := keep0 hz1 hb3
                  have HS3 := hid (HS1.out.below hb3)
                  have HX3 := hid (own_keep HX1.out hb3)
                  have HY3 := hid hoy
                  have HSM := hid (same03 Ax Ay ys.length cx ys.length cy ys ys w3 (sl_own HX3.out) (sl_own HY3.out) (by omega) (by omega))
                  rw [beq_self_eq_true] at HSM
                  clear hb3 hoy
                  go_wp2_with fail
                  refine hK.out _ _ ?_ (fun hHeld2 => ?_)
                  focus
                    first | exact hS _ hz9 | exact hS _ hz3 | exact hS _ hz1
                  clear hHeld
                  have hHeld := hHeld2
                  clear hHeld2 hK K
                  try simp only [List.getElem_toArray, List.getElem_cons_succ, List.getElem_cons_zero, Act.put, List.setIfInBounds_toArray, List.set_cons_zero, List.set_cons_succ]
                  refine wpAnyH_ready (rs := [12]) (by kernel_rfl) (by simp) ?_
                  refine AllReadyH.cons rfl (fun K hK => ?_) AllReadyH.nil
                  simp only [List.getElem_toArray, List.getElem_cons_succ, List.getElem_cons_zero]
                  go_simp
                  refine HSM.out.mono ?_
                  rintro e w9 ⟨rfl, q, rfl⟩
                  have HS9 := hid (HS3.out.below (⟨rfl, rfl, rfl, Nat.le_refl _, fun _ _ => rfl⟩ : Below w3.heap.size w3 (w3.drewN q)))
                  have hz9 := keep0 hz3 (⟨rfl, rfl, rfl, Nat.le_refl _, fun _ _ => rfl⟩ : Below w3.heap.size w3 (w3.drewN q))
                  go_wp2_with fail
                  refine hK.out _ _ ?_ (fun hHeld2 => ?_)
                  focus
                    first | exact hS _ hz9 | exact hS _ hz3 | exact hS _ hz1
                  clear hHeld
                  have hHeld := hHeld2
                  clear hHeld2 hK K
                  try simp only [List.getElem_toArray, List.getElem_cons_succ, List.getElem_cons_zero, Act.put, List.setIfInBounds_toArray, List.set_cons_zero, List.set_cons_succ]
                  refine wpAnyH_take (i := 13) (v := ?_) rfl (by kernel_rfl) (by kernel_rfl) (by kernel_rfl) (fun _ _ _ h => h) (Or.inl ⟨by rfl, ?_⟩) (by assumption) ?_
                  rotate_left
                  focus
                    intro U hU
                    try dsimp only at hU
                    go_simp
                    try (with_reducible rfl)
                  simp only [List.getElem_toArray, List.getElem_cons_succ, List.getElem_cons_zero, Act.put, List.setIfInBounds_toArray, List.set_cons_zero, List.set_cons_succ]
                  refine wpAnyH_done (by kernel_rfl) ?_ _
                  have HZ9 := hid hz9
                  clear hHeld hS hz0 hz1 hz3 hz9 hu0 HS0 HS1 HX1 HS3 HX3 HY3 HSM HPB HRB
                  generalize w3.drewN q = w9 at *
                  have l9e : ∃ L9, L9 = L := ⟨_, rfl⟩
                  obtain ⟨L9, rfl⟩ := l9e
                  have m9e : ∃ M9, M9 = M := ⟨_, rfl⟩
                  obtain ⟨M9, rfl⟩ := m9e
                  have HW1 := hid (fun U (hU : Below w9.heap.size w9 U) => pwaits_all xt U (HS9.out.below hU).pt hxt.1 hxt.2)
                  have HW2 := hid (fun U (hU : Below w9.heap.size w9 U) => p7waits xt U (HS9.out.below hU).p7)
                  have hpw : pwaitV L9 xt = ((endP n0 n1 M9 xt).o.l.length : Nat) := same_waits HT9.out.s xt
                  rw [hpw] at HW1
                  generalize (((endP n0 n1 M9 xt).o.l.length : Nat) : Int) = pw at *
                  go_upto_region 30 with (fail)
                  have hS : ∀ U : World, Below w9.heap.size w9 U → U.cell? ⟨Z, 1, none⟩ = some (.int .i64 xt) := fun U hU => (ten_cellsV (keep0 HZ9.out hU)).2.1
                  have hu0 : Below w9.heap.size w9 w9.drew := below_drew (Below.refl _ _)
                  refine wp_region_held_drew (S := fun U => U.cell? ⟨Z, 1, none⟩ = some (.int .i64 xt)) (by kernel_rfl) (hS _ hu0) (fun hHeld => ?_)
                  generalize w9.drew = u0 at *
                  refine wpAnyH_take (i := 0) (v := ?_) rfl (by kernel_rfl) (by kernel_rfl) (by kernel_rfl) (fun _ _ _ h => h) (Or.inl ⟨by rfl, ?_⟩) (by assumption) ?_
                  rotate_left
                  focus
                    intro U hU
                    try dsimp only at hU
                    go_simp
                    try (with_reducible rfl)
                  simp only [List.getElem_toArray, List.getElem_cons_succ, List.getElem_cons_zero, Act.put, List.setIfInBounds_toArray, List.set_cons_zero, List.set_cons_succ]
                  refine wpAnyH_take (i := 1) (v := ?_) rfl (by kernel_rfl) (by kernel_rfl) (by kernel_rfl) (fun _ _ _ h => h) (Or.inl ⟨by rfl, ?_⟩) (by assumption) ?_
                  rotate_left
                  focus
                    intro U hU
                    try dsimp only at hU
                    go_simp
                    try (with_reducible rfl)
                  simp only [List.getElem_toArray, List.getElem_cons_succ, List.getElem_cons_zero, Act.put, List.setIfInBounds_toArray, List.set_cons_zero, List.set_cons_succ]
                  refine wpAnyH_take (i := 2) (v := ?_) rfl (by kernel_rfl) (by kernel_rfl) (by kernel_rfl) (fun _ _ _ h => h) (Or.inl ⟨by rfl, ?_⟩) (by assumption) ?_
                  rotate_left
                  focus
                    intro U hU
                    try dsimp only at hU
                    go_simp
                    try (with_reducible rfl)
                  simp only [List.getElem_toArray, List.getElem_cons_succ, List.getElem_cons_zero, Act.put, List.setIfInBounds_toArray, List.set_cons_zero, List.set_cons_succ]
                  refine wpAnyH_take (i := 3) (v := ?_) rfl (by kernel_rfl) (by kernel_rfl) (by kernel_rfl) (fun _ _ _ h => h) (Or.inl ⟨by rfl, ?_⟩) (by assumption) ?_
                  rotate_left
                  focus
                    intro U hU
                    try dsimp only at hU
                    go_simp
                    try (with_reducible rfl)
                  simp only [List.getElem_toArray, List.getElem_cons_succ, List.getElem_cons_zero, Act.put, List.setIfInBounds_toArray, List.set_cons_zero, List.set_cons_succ]
                  refine wpAnyH_take (i := 4) (v := ?_) rfl (by kernel_rfl) (by kernel_rfl) (by kernel_rfl) (fun _ _ _ h => h) (Or.inl ⟨by rfl, ?_⟩) (by assumption) ?_
                  rotate_left
                  focus
                    intro U hU
                    try dsimp only at hU
                    go_simp
                    try (with_reducible rfl)
                  simp only [List.getElem_toArray, List.getElem_cons_succ, List.getElem_cons_zero, Act.put, List.setIfInBounds_toArray, List.set_cons_zero, List.set_cons_succ]
                  refine wpAnyH_take (i := 5) (v := ?_) rfl (by kernel_rfl) (by kernel_rfl) (by kernel_rfl) (fun _ _ _ h => h) (Or.inl ⟨by rfl, ?_⟩) (by assumption) ?_
                  rotate_left
                  focus
                    intro U hU
                    try dsimp only at hU
                    go_simp
                    try (with_reducible rfl)
                  simp only [List.getElem_toArray, List.getElem_cons_succ, List.getElem_cons_zero, Act.put, List.setIfInBounds_toArray, List.set_cons_zero, List.set_cons_succ]
                  refine wpAnyH_take (i := 7) (v := ?_) rfl (by kernel_rfl) (by kernel_rfl) (by kernel_rfl) (fun _ _ _ h => h) (Or.inl ⟨by rfl, ?_⟩) (by assumption) ?_
                  rotate_left
                  focus
                    intro U hU
                    try dsimp only at hU
                    go_simp
                    try (with_reducible rfl)
                  simp only [List.getElem_toArray, List.getElem_cons_succ, List.getElem_cons_zero, Act.put, List.setIfInBounds_toArray, List.set_cons_zero, List.set_cons_succ]
                  refine wpAnyH_take (i := 8) (v := ?_) rfl (by kernel_rfl) (by kernel_rfl) (by kernel_rfl) (fun _ _ _ h => h) (Or.inl ⟨by rfl, ?_⟩) (by assumption) ?_
                  rotate_left
                  focus
                    intro U hU
                    try dsimp only at hU
                    go_simp
                    try (with_reducible rfl)
                  simp only [List.getElem_toArray, List.getElem_cons_succ, List.getElem_cons_zero, Act.put, List.setIfInBounds_toArray, List.set_cons_zero, List.set_cons_succ]
                  refine wpAnyH_take (i := 9) (v := ?_) rfl (by kernel_rfl) (by kernel_rfl) (by kernel_rfl) (fun _ _ _ h => h) (Or.inl ⟨by rfl, ?_⟩) (by assumption) ?_
                  rotate_left
                  focus
                    intro U hU
                    try dsimp only at hU
                    go_simp
                    try (with_reducible rfl)
                  simp only [List.getElem_toArray, List.getElem_cons_succ, List.getElem_cons_zero, Act.put, List.setIfInBounds_toArray, List.set_cons_zero, List.set_cons_succ]
                  refine wpAnyH_ready (rs := [6]) (by kernel_rfl) (by simp) ?_
                  refine AllReadyH.cons rfl (fun K hK => ?_) AllReadyH.nil
                  simp only [List.getElem_toArray, List.getElem_cons_succ, List.getElem_cons_zero]
                  go_simp
                  refine (HW1.out _ hu0).mono ?_
                  rintro q u1 ⟨rfl, rfl⟩
                  go_wp2_with fail
                  refine hK.out _ _ ?_ (fun hHeld2 => ?_)
                  focus
                    exact hS _ (by with_reducible assumption)
                  clear hHeld
                  have hHeld := hHeld2
                  clear hHeld2 hK K
                  try simp only [List.getElem_toArray, List.getElem_cons_succ, List.getElem_cons_zero, Act.put, List.setIfInBounds_toArray, List.set_cons_zero, List.set_cons_succ]
                  refine wpAnyH_ready (rs := [10]) (by kernel_rfl) (by simp) ?_
                  refine AllReadyH.cons rfl (fun K hK => ?_) AllReadyH.nil
                  simp only [List.getElem_toArray, List.getElem_cons_succ, List.getElem_cons_zero]
                  go_simp
                  refine (HW2.out _ hu0).mono ?_
                  rintro q u2 ⟨rfl, hb2⟩
                  have hu2 : Below w9.heap.size w9 u2 := hu0.trans (hb2.mono hu0.size)
                  clear hb2
                  go_wp2_with fail
                  refine hK.out _ _ ?_ (fun hHeld2 => ?_)
                  focus
                    exact hS _ (by with_reducible assumption)
                  clear hHeld
                  have hHeld := hHeld2
                  clear hHeld2 hK K
                  try simp only [List.getElem_toArray, List.getElem_cons_succ, List.getElem_cons_zero, Act.put, List.setIfInBounds_toArray, List.set_cons_zero, List.set_cons_succ]
                  refine wpAnyH_take (i := 11) (v := ?_) rfl (by kernel_rfl) (by kernel_rfl) (by kernel_rfl) (fun _ _ _ h => h) (Or.inl ⟨by rfl, ?_⟩) (by assumption) ?_
                  rotate_left
                  focus
                    intro U hU
                    try dsimp only at hU
                    go_simp
                    try (with_reducible rfl)
                  simp only [List.getElem_toArray, List.getElem_cons_succ, List.getElem_cons_zero, Act.put, List.setIfInBounds_toArray, List.set_cons_zero, List.set_cons_succ]
                  refine wpAnyH_take (i := 12) (v := ?_) rfl (by kernel_rfl) (by kernel_rfl) (by kernel_rfl) (fun _ _ _ h => h) (Or.inl ⟨by rfl, ?_⟩) (by assumption) ?_
                  rotate_left
                  focus
                    intro U hU
                    try dsimp only at hU
                    go_simp
                    try (with_reducible rfl)
                  simp only [List.getElem_toArray, List.getElem_cons_succ, List.getElem_cons_zero, Act.put, List.setIfInBounds_toArray, List.set_cons_zero, List.set_cons_succ]
                  refine wpAnyH_done (by kernel_rfl) ?_ _
                  clear hHeld hS HW1 HW2
                  have HU9 := hid hu2
                  clear hu0 hu2
                  go_wp2
                  go_roundw
                  case rel => exact ⟨j + 1, _, _, L9, M9, by omega, by omega, by go_num, rfl, hid (HS9.out.below HU9.out), HT9⟩
                  case measure => simp [intOf]; omega
                · have hd1b : (xd == 1) = false := by simpa using hd1
                  by_cases hd2 : xd = 2
                  · skip
                    subst hd2
                    have HPT := hid (fun U (h : PortAt U P Mp n0 n1 n2 L) => ptake_any xtx.data.toList U h (fun e he => (HT.out.gl e he).gd (by omega)) (by rw [Array.length_toList]; show xtx.size ≤ _; omega))
                    have HRT := hid (fun U (h : P7M U W.heap.size g n0 n1 n2 M) (hb : W.heap.size ≤ U.heap.size) => r27take_any xtx.data.toList U h HT.out.s.m (by have := HT.out.len; omega) hb HS.out.gw (fun e he => (HT.out.gm e he).gd (by omega)) (fun e he => (HT.out.gm e he).ne) (by rw [Array.length_toList]; show xtx.size ≤ _; omega))
                    rw [str_dataV] at HPT HRT
                    have HT9 := hid (HT.out.take xtx.data.toList)
                    have hsp := (same_take HT.out.s xtx.data.toList).2
                    have hxl : (ptakV n0 n1 L xtx.data.toList).2.2.1.length ≤ 1000 := ptak_len _ _ _ _
                    generalize ptakV n0 n1 L xtx.data.toList = rv at *
                    generalize ptakV n0 n1 M xtx.data.toList = rw' at *
                    obtain ⟨L9, ⟨fr, tx⟩, ys, er⟩ := rv
                    obtain ⟨M9, ⟨fr2, tx2⟩, ys2, er2⟩ := rw'
                    simp only [Prod.mk.injEq] at hsp
                    obtain ⟨⟨rfl, rfl⟩, rfl, rfl⟩ := hsp
                    simp only [PTakR, RTakR] at HPT HRT HT9 hxl
                    clear HT
                    go_wp2_with fail
                    refine (HPT.out w1 HS.out.pt).mono ?_
                    rintro e w2 ⟨Ax, cx, rfl, hox, hpx, hux, -⟩
                    have HS2 := hid (HS.out.onP hpx hux)
                    have HZ2 := hid (HS.out.blkP HZ.out hux)
                    have HX2 := hid hox
                    clear HPT HS hox hpx hux HZ
                    clear z0 z1 z2 z3 z4 z5 z6 z7 z8 z9
                    go_wp2_with fail
                    refine (HRT.out w2 HS2.out.p7 HS2.out.bel.size).mono ?_
                    rintro e w3 ⟨Ay, cy, rfl, hoy, hr⟩
                    have HS3 := hid (HS2.out.on7 hr)
                    have HZ3 := hid (hr.blk HZ2.out (by decide) (by decide))
                    have HX3 := hid (own_sts HX2.out hr.s (by decide) (by decide))
                    have HY3 := hid hoy
                    clear HRT HS2 HZ2 HX2 hoy hr
                    have hee : (er == er) = true := beq_self_eq_true er
                    have hff : (fr == fr) = true := beq_self_eq_true fr
                    have htt : (tx == tx) = true := by
                      first | exact beq_self_eq_true tx | exact decide_eq_true rfl | (obtain ⟨d⟩ := tx; exact beq_self_eq_true d) | simp
                    have HSM := hid (same03 Ax Ay ys.length cx ys.length cy ys ys w3 (sl_own HX3.out) (sl_own HY3.out) (by omega) (by omega))
                    rw [beq_self_eq_true] at HSM
                    clear HX3 HY3
                    go_wp2_with fail
                    refine HSM.out.mono ?_
                    rintro e w9 ⟨rfl, q, rfl⟩
                    have HS9 := hid (HS3.out.below (⟨rfl, rfl, rfl, Nat.le_refl _, fun _ _ => rfl⟩ : Below w3.heap.size w3 (w3.drewN q)))
                    have HZ9 := hid (keep0 HZ3.out (⟨rfl, rfl, rfl, Nat.le_refl _, fun _ _ => rfl⟩ : Below w3.heap.size w3 (w3.drewN q)))
                    clear HSM HS3 HZ3
                    generalize w3.drewN q = w9 at *
                    clear hee hff htt
                    have HW1 := hid (fun U (hU : Below w9.heap.size w9 U) => pwaits_all xt U (HS9.out.below hU).pt hxt.1 hxt.2)
                    have HW2 := hid (fun U (hU : Below w9.heap.size w9 U) => p7waits xt U (HS9.out.below hU).p7)
                    have hpw : pwaitV L9 xt = ((endP n0 n1 M9 xt).o.l.length : Nat) := same_waits HT9.out.s xt
                    rw [hpw] at HW1
                    generalize (((endP n0 n1 M9 xt).o.l.length : Nat) : Int) = pw at *
                    go_upto_region 30 with (fail)
                    have hS : ∀ U : World, Below w9.heap.size w9 U → U.cell? ⟨Z, 1, none⟩ = some (.int .i64 xt) := fun U hU => (ten_cellsV (keep0 HZ9.out hU)).2.1
                    have hu0 : Below w9.heap.size w9 w9.drew := below_drew (Below.refl _ _)
                    refine wp_region_held_drew (S := fun U => U.cell? ⟨Z, 1, none⟩ = some (.int .i64 xt)) (by kernel_rfl) (hS _ hu0) (fun hHeld => ?_)
                    generalize w9.drew = u0 at *
                    refine wpAnyH_take (i := 0) (v := ?_) rfl (by kernel_rfl) (by kernel_rfl) (by kernel_rfl) (fun _ _ _ h => h) (Or.inl ⟨by rfl, ?_⟩) (by assumption) ?_
                    rotate_left
                    focus
                      intro U hU
                      try dsimp only at hU
                      go_simp
                      try (with_reducible rfl)
                    simp only [List.getElem_toArray, List.getElem_cons_succ, List.getElem_cons_zero, Act.put, List.setIfInBounds_toArray, List.set_cons_zero, List.set_cons_succ]
                    refine wpAnyH_take (i := 1) (v := ?_) rfl (by kernel_rfl) (by kernel_rfl) (by kernel_rfl) (fun _ _ _ h => h) (Or.inl ⟨by rfl, ?_⟩) (by assumption) ?_
                    rotate_left
                    focus
                      intro U hU
                      try dsimp only at hU
                      go_simp
                      try (with_reducible rfl)
                    simp only [List.getElem_toArray, List.getElem_cons_succ, List.getElem_cons_zero, Act.put, List.setIfInBounds_toArray, List.set_cons_zero, List.set_cons_succ]
                    refine wpAnyH_take (i := 2) (v := ?_) rfl (by kernel_rfl) (by kernel_rfl) (by kernel_rfl) (fun _ _ _ h => h) (Or.inl ⟨by rfl, ?_⟩) (by assumption) ?_
                    rotate_left
                    focus
                      intro U hU
                      try dsimp only at hU
                      go_simp
                      try (with_reducible rfl)
                    simp only [List.getElem_toArray, List.getElem_cons_succ, List.getElem_cons_zero, Act.put, List.setIfInBounds_toArray, List.set_cons_zero, List.set_cons_succ]
                    refine wpAnyH_take (i := 3) (v := ?_) rfl (by kernel_rfl) (by kernel_rfl) (by kernel_rfl) (fun _ _ _ h => h) (Or.inl ⟨by rfl, ?_⟩) (by assumption) ?_
                    rotate_left
                    focus
                      intro U hU
                      try dsimp only at hU
                      go_simp
                      try (with_reducible rfl)
                    simp only [List.getElem_toArray, List.getElem_cons_succ, List.getElem_cons_zero, Act.put, List.setIfInBounds_toArray, List.set_cons_zero, List.set_cons_succ]
                    refine wpAnyH_take (i := 4) (v := ?_) rfl (by kernel_rfl) (by kernel_rfl) (by kernel_rfl) (fun _ _ _ h => h) (Or.inl ⟨by rfl, ?_⟩) (by assumption) ?_
                    rotate_left
                    focus
                      intro U hU
                      try dsimp only at hU
                      go_simp
                      try (with_reducible rfl)
                    simp only [List.getElem_toArray, List.getElem_cons_succ, List.getElem_cons_zero, Act.put, List.setIfInBounds_toArray, List.set_cons_zero, List.set_cons_succ]
                    refine wpAnyH_take (i := 5) (v := ?_) rfl (by kernel_rfl) (by kernel_rfl) (by kernel_rfl) (fun _ _ _ h => h) (Or.inl ⟨by rfl, ?_⟩) (by assumption) ?_
                    rotate_left
                    focus
                      intro U hU
                      try dsimp only at hU
                      go_simp
                      try (with_reducible rfl)
                    simp only [List.getElem_toArray, List.getElem_cons_succ, List.getElem_cons_zero, Act.put, List.setIfInBounds_toArray, List.set_cons_zero, List.set_cons_succ]
                    refine wpAnyH_take (i := 7) (v := ?_) rfl (by kernel_rfl) (by kernel_rfl) (by kernel_rfl) (fun _ _ _ h => h) (Or.inl ⟨by rfl, ?_⟩) (by assumption) ?_
                    rotate_left
                    focus
                      intro U hU
                      try dsimp only at hU
                      go_simp
                      try (with_reducible rfl)
                    simp only [List.getElem_toArray, List.getElem_cons_succ, List.getElem_cons_zero, Act.put, List.setIfInBounds_toArray, List.set_cons_zero, List.set_cons_succ]
                    refine wpAnyH_take (i := 8) (v := ?_) rfl (by kernel_rfl) (by kernel_rfl) (by kernel_rfl) (fun _ _ _ h => h) (Or.inl ⟨by rfl, ?_⟩) (by assumption) ?_
                    rotate_left
                    focus
                      intro U hU
                      try dsimp only at hU
                      go_simp
                      try (with_reducible rfl)
                    simp only [List.getElem_toArray, List.getElem_cons_succ, List.getElem_cons_zero, Act.put, List.setIfInBounds_toArray, List.set_cons_zero, List.set_cons_succ]
                    refine wpAnyH_take (i := 9) (v := ?_) rfl (by kernel_rfl) (by kernel_rfl) (by kernel_rfl) (fun _ _ _ h => h) (Or.inl ⟨by rfl, ?_⟩) (by assumption) ?_
                    rotate_left
                    focus
                      intro U hU
                      try dsimp only at hU
                      go_simp
                      try (with_reducible rfl)
                    simp only [List.getElem_toArray, List.getElem_cons_succ, List.getElem_cons_zero, Act.put, List.setIfInBounds_toArray, List.set_cons_zero, List.set_cons_succ]
                    refine wpAnyH_ready (rs := [6]) (by kernel_rfl) (by simp) ?_
                    refine AllReadyH.cons rfl (fun K hK => ?_) AllReadyH.nil
                    simp only [List.getElem_toArray, List.getElem_cons_succ, List.getElem_cons_zero]
                    go_simp
                    refine (HW1.out _ hu0).mono ?_
                    rintro q u1 ⟨rfl, rfl⟩
                    go_wp2_with fail
                    refine hK.out _ _ ?_ (fun hHeld2 => ?_)
                    focus
                      exact hS _ (by with_reducible assumption)
                    clear hHeld
                    have hHeld := hHeld2
                    clear hHeld2 hK K
                    try simp only [List.getElem_toArray, List.getElem_cons_succ, List.getElem_cons_zero, Act.put, List.setIfInBounds_toArray, List.set_cons_zero, List.set_cons_succ]
                    refine wpAnyH_ready (rs := [10]) (by kernel_rfl) (by simp) ?_
                    refine AllReadyH.cons rfl (fun K hK => ?_) AllReadyH.nil
                    simp only [List.getElem_toArray, List.getElem_cons_succ, List.getElem_cons_zero]
                    go_simp
                    refine (HW2.out _ hu0).mono ?_
                    rintro q u2 ⟨rfl, hb2⟩
                    have hu2 : Below w9.heap.size w9 u2 := hu0.trans (hb2.mono hu0.size)
                    clear hb2
                    go_wp2_with fail
                    refine hK.out _ _ ?_ (fun hHeld2 => ?_)
                    focus
                      exact hS _ (by with_reducible assumption)
                    clear hHeld
                    have hHeld := hHeld2
                    clear hHeld2 hK K
                    try simp only [List.getElem_toArray, List.getElem_cons_succ, List.getElem_cons_zero, Act.put, List.setIfInBounds_toArray, List.set_cons_zero, List.set_cons_succ]
                    refine wpAnyH_take (i := 11) (v := ?_) rfl (by kernel_rfl) (by kernel_rfl) (by kernel_rfl) (fun _ _ _ h => h) (Or.inl ⟨by rfl, ?_⟩) (by assumption) ?_
                    rotate_left
                    focus
                      intro U hU
                      try dsimp only at hU
                      go_simp
                      try (with_reducible rfl)
                    simp only [List.getElem_toArray, List.getElem_cons_succ, List.getElem_cons_zero, Act.put, List.setIfInBounds_toArray, List.set_cons_zero, List.set_cons_succ]
                    refine wpAnyH_take (i := 12) (v := ?_) rfl (by kernel_rfl) (by kernel_rfl) (by kernel_rfl) (fun _ _ _ h => h) (Or.inl ⟨by rfl, ?_⟩) (by assumption) ?_
                    rotate_left
                    focus
                      intro U hU
                      try dsimp only at hU
                      go_simp
                      try (with_reducible rfl)
                    simp only [List.getElem_toArray, List.getElem_cons_succ, List.getElem_cons_zero, Act.put, List.setIfInBounds_toArray, List.set_cons_zero, List.set_cons_succ]
                    refine wpAnyH_done (by kernel_rfl) ?_ _
                    clear hHeld hS HW1 HW2
                    have HU9 := hid hu2
                    clear hu0 hu2
                    go_wp2
                    go_roundw
                    case rel => exact ⟨j + 1, _, _, L9, M9, by omega, by omega, by go_num, rfl, hid (HS9.out.below HU9.out), HT9⟩
                    case measure => simp [intOf]; omega
                  · have hd2b : (xd == 2) = false := by simpa using hd2
                    by_cases hd4 : xd = 4
                    · skip
                      subst hd4
                      have HRB := hid (fun w => rpbytes_any xk xf xto xi xp xs xb (by omega) w)
                      have HPT := hid (fun U (h : PortAt U P Mp n0 n1 n2 L) => ptake_any (pbL ⟨xk, xf, xto, xi, xp, xs, xb.data.toList⟩) U h (fun e he => (HT.out.gl e he).gd (by omega)) (pbL_len2 _))
                      have HRT := hid (fun U (h : P7M U W.heap.size g n0 n1 n2 M) (hb : W.heap.size ≤ U.heap.size) => r27take_any (pbL ⟨xk, xf, xto, xi, xp, xs, xb.data.toList⟩) U h HT.out.s.m (by have := HT.out.len; omega) hb HS.out.gw (fun e he => (HT.out.gm e he).gd (by omega)) (fun e he => (HT.out.gm e he).ne) (pbL_len2 _))
                      rw [pbL_str] at HPT HRT
                      simp only [str_dataV] at HPT HRT
                      generalize pbL ⟨xk, xf, xto, xi, xp, xs, xb.data.toList⟩ = sl at *
                      generalize pbS xk xf xto xi xp xs xb = sb at *
                      go_wp2_with fail
                      refine (HRB.out _).mono ?_
                      rintro e w1b ⟨rfl, hb2⟩
                      have HSb := hid (HS.out.below hb2)
                      have HZb := hid (keep0 HZ.out hb2)
                      clear HS HZ HRB hb2
                      clear z0 z1 z2 z3 z4 z5 z6 z7 z8 z9
                      have HS := HSb
                      have HZ := HZb
                      clear HSb HZb
                      have HT9 := hid (HT.out.take sl)
                      have hsp := (same_take HT.out.s sl).2
                      have hxl : (ptakV n0 n1 L sl).2.2.1.length ≤ 1000 := ptak_len _ _ _ _
                      generalize ptakV n0 n1 L sl = rv at *
                      generalize ptakV n0 n1 M sl = rw' at *
                      obtain ⟨L9, ⟨fr, tx⟩, ys, er⟩ := rv
                      obtain ⟨M9, ⟨fr2, tx2⟩, ys2, er2⟩ := rw'
                      simp only [Prod.mk.injEq] at hsp
                      obtain ⟨⟨rfl, rfl⟩, rfl, rfl⟩ := hsp
                      simp only [PTakR, RTakR] at HPT HRT HT9 hxl
                      clear HT
                      go_wp2_with fail
                      refine (HPT.out w1b HS.out.pt).mono ?_
                      rintro e w2 ⟨Ax, cx, rfl, hox, hpx, hux, -⟩
                      have HS2 := hid (HS.out.onP hpx hux)
                      have HZ2 := hid (HS.out.blkP HZ.out hux)
                      have HX2 := hid hox
                      clear HPT HS hox hpx hux HZ
                      go_wp2_with fail
                      refine (HRT.out w2 HS2.out.p7 HS2.out.bel.size).mono ?_
                      rintro e w3 ⟨Ay, cy, rfl, hoy, hr⟩
                      have HS3 := hid (HS2.out.on7 hr)
                      have HZ3 := hid (hr.blk HZ2.out (by decide) (by decide))
                      have HX3 := hid (own_sts HX2.out hr.s (by decide) (by decide))
                      have HY3 := hid hoy
                      clear HRT HS2 HZ2 HX2 hoy hr
                      have hee : (er == er) = true := beq_self_eq_true er
                      have hff : (fr == fr) = true := beq_self_eq_true fr
                      have htt : (tx == tx) = true := by
                        first | exact beq_self_eq_true tx | exact decide_eq_true rfl | (obtain ⟨d⟩ := tx; exact beq_self_eq_true d) | simp
                      have HSM := hid (same03 Ax Ay ys.length cx ys.length cy ys ys w3 (sl_own HX3.out) (sl_own HY3.out) (by omega) (by omega))
                      rw [beq_self_eq_true] at HSM
                      clear HX3 HY3
                      go_wp2_with fail
                      refine HSM.out.mono ?_
                      rintro e w9 ⟨rfl, q, rfl⟩
                      have HS9 := hid (HS3.out.below (⟨rfl, rfl, rfl, Nat.le_refl _, fun _ _ => rfl⟩ : Below w3.heap.size w3 (w3.drewN q)))
                      have HZ9 := hid (keep0 HZ3.out (⟨rfl, rfl, rfl, Nat.le_refl _, fun _ _ => rfl⟩ : Below w3.heap.size w3 (w3.drewN q)))
                      clear HSM HS3 HZ3
                      generalize w3.drewN q = w9 at *
                      clear hee hff htt
                      have HW1 := hid (fun U (hU : Below w9.heap.size w9 U) => pwaits_all xt U (HS9.out.below hU).pt hxt.1 hxt.2)
                      have HW2 := hid (fun U (hU : Below w9.heap.size w9 U) => p7waits xt U (HS9.out.below hU).p7)
                      have hpw : pwaitV L9 xt = ((endP n0 n1 M9 xt).o.l.length : Nat) := same_waits HT9.out.s xt
                      rw [hpw] at HW1
                      generalize (((endP n0 n1 M9 xt).o.l.length : Nat) : Int) = pw at *
                      go_upto_region 30 with (fail)
                      have hS : ∀ U : World, Below w9.heap.size w9 U → U.cell? ⟨Z, 1, none⟩ = some (.int .i64 xt) := fun U hU => (ten_cellsV (keep0 HZ9.out hU)).2.1
                      have hu0 : Below w9.heap.size w9 w9.drew := below_drew (Below.refl _ _)
                      refine wp_region_held_drew (S := fun U => U.cell? ⟨Z, 1, none⟩ = some (.int .i64 xt)) (by kernel_rfl) (hS _ hu0) (fun hHeld => ?_)
                      generalize w9.drew = u0 at *
                      refine wpAnyH_take (i := 0) (v := ?_) rfl (by kernel_rfl) (by kernel_rfl) (by kernel_rfl) (fun _ _ _ h => h) (Or.inl ⟨by rfl, ?_⟩) (by assumption) ?_
                      rotate_left
                      focus
                        intro U hU
                        try dsimp only at hU
                        go_simp
                        try (with_reducible rfl)
                      simp only [List.getElem_toArray, List.getElem_cons_succ, List.getElem_cons_zero, Act.put, List.setIfInBounds_toArray, List.set_cons_zero, List.set_cons_succ]
                      refine wpAnyH_take (i := 1) (v := ?_) rfl (by kernel_rfl) (by kernel_rfl) (by kernel_rfl) (fun _ _ _ h => h) (Or.inl ⟨by rfl, ?_⟩) (by assumption) ?_
                      rotate_left
                      focus
                        intro U hU
                        try dsimp only at hU
                        go_simp
                        try (with_reducible rfl)
                      simp only [List.getElem_toArray, List.getElem_cons_succ, List.getElem_cons_zero, Act.put, List.setIfInBounds_toArray, List.set_cons_zero, List.set_cons_succ]
                      refine wpAnyH_take (i := 2) (v := ?_) rfl (by kernel_rfl) (by kernel_rfl) (by kernel_rfl) (fun _ _ _ h => h) (Or.inl ⟨by rfl, ?_⟩) (by assumption) ?_
                      rotate_left
                      focus
                        intro U hU
                        try dsimp only at hU
                        go_simp
                        try (with_reducible rfl)
                      simp only [List.getElem_toArray, List.getElem_cons_succ, List.getElem_cons_zero, Act.put, List.setIfInBounds_toArray, List.set_cons_zero, List.set_cons_succ]
                      refine wpAnyH_take (i := 3) (v := ?_) rfl (by kernel_rfl) (by kernel_rfl) (by kernel_rfl) (fun _ _ _ h => h) (Or.inl ⟨by rfl, ?_⟩) (by assumption) ?_
                      rotate_left
                      focus
                        intro U hU
                        try dsimp only at hU
                        go_simp
                        try (with_reducible rfl)
                      simp only [List.getElem_toArray, List.getElem_cons_succ, List.getElem_cons_zero, Act.put, List.setIfInBounds_toArray, List.set_cons_zero, List.set_cons_succ]
                      refine wpAnyH_take (i := 4) (v := ?_) rfl (by kernel_rfl) (by kernel_rfl) (by kernel_rfl) (fun _ _ _ h => h) (Or.inl ⟨by rfl, ?_⟩) (by assumption) ?_
                      rotate_left
                      focus
                        intro U hU
                        try dsimp only at hU
                        go_simp
                        try (with_reducible rfl)
                      simp only [List.getElem_toArray, List.getElem_cons_succ, List.getElem_cons_zero, Act.put, List.setIfInBounds_toArray, List.set_cons_zero, List.set_cons_succ]
                      refine wpAnyH_take (i := 5) (v := ?_) rfl (by kernel_rfl) (by kernel_rfl) (by kernel_rfl) (fun _ _ _ h => h) (Or.inl ⟨by rfl, ?_⟩) (by assumption) ?_
                      rotate_left
                      focus
                        intro U hU
                        try dsimp only at hU
                        go_simp
                        try (with_reducible rfl)
                      simp only [List.getElem_toArray, List.getElem_cons_succ, List.getElem_cons_zero, Act.put, List.setIfInBounds_toArray, List.set_cons_zero, List.set_cons_succ]
                      refine wpAnyH_take (i := 7) (v := ?_) rfl (by kernel_rfl) (by kernel_rfl) (by kernel_rfl) (fun _ _ _ h => h) (Or.inl ⟨by rfl, ?_⟩) (by assumption) ?_
                      rotate_left
                      focus
                        intro U hU
                        try dsimp only at hU
                        go_simp
                        try (with_reducible rfl)
                      simp only [List.getElem_toArray, List.getElem_cons_succ, List.getElem_cons_zero, Act.put, List.setIfInBounds_toArray, List.set_cons_zero, List.set_cons_succ]
                      refine wpAnyH_take (i := 8) (v := ?_) rfl (by kernel_rfl) (by kernel_rfl) (by kernel_rfl) (fun _ _ _ h => h) (Or.inl ⟨by rfl, ?_⟩) (by assumption) ?_
                      rotate_left
                      focus
                        intro U hU
                        try dsimp only at hU
                        go_simp
                        try (with_reducible rfl)
                      simp only [List.getElem_toArray, List.getElem_cons_succ, List.getElem_cons_zero, Act.put, List.setIfInBounds_toArray, List.set_cons_zero, List.set_cons_succ]
                      refine wpAnyH_take (i := 9) (v := ?_) rfl (by kernel_rfl) (by kernel_rfl) (by kernel_rfl) (fun _ _ _ h => h) (Or.inl ⟨by rfl, ?_⟩) (by assumption) ?_
                      rotate_left
                      focus
                        intro U hU
                        try dsimp only at hU
                        go_simp
                        try (with_reducible rfl)
                      simp only [List.getElem_toArray, List.getElem_cons_succ, List.getElem_cons_zero, Act.put, List.setIfInBounds_toArray, List.set_cons_zero, List.set_cons_succ]
                      refine wpAnyH_ready (rs := [6]) (by kernel_rfl) (by simp) ?_
                      refine AllReadyH.cons rfl (fun K hK => ?_) AllReadyH.nil
                      simp only [List.getElem_toArray, List.getElem_cons_succ, List.getElem_cons_zero]
                      go_simp
                      refine (HW1.out _ hu0).mono ?_
                      rintro q u1 ⟨rfl, rfl⟩
                      go_wp2_with fail
                      refine hK.out _ _ ?_ (fun hHeld2 => ?_)
                      focus
                        exact hS _ (by with_reducible assumption)
                      clear hHeld
                      have hHeld := hHeld2
                      clear hHeld2 hK K
                      try simp only [List.getElem_toArray, List.getElem_cons_succ, List.getElem_cons_zero, Act.put, List.setIfInBounds_toArray, List.set_cons_zero, List.set_cons_succ]
                      refine wpAnyH_ready (rs := [10]) (by kernel_rfl) (by simp) ?_
                      refine AllReadyH.cons rfl (fun K hK => ?_) AllReadyH.nil
                      simp only [List.getElem_toArray, List.getElem_cons_succ, List.getElem_cons_zero]
                      go_simp
                      refine (HW2.out _ hu0).mono ?_
                      rintro q u2 ⟨rfl, hb2⟩
                      have hu2 : Below w9.heap.size w9 u2 := hu0.trans (hb2.mono hu0.size)
                      clear hb2
                      go_wp2_with fail
                      refine hK.out _ _ ?_ (fun hHeld2 => ?_)
                      focus
                        exact hS _ (by with_reducible assumption)
                      clear hHeld
                      have hHeld := hHeld2
                      clear hHeld2 hK K
                      try simp only [List.getElem_toArray, List.getElem_cons_succ, List.getElem_cons_zero, Act.put, List.setIfInBounds_toArray, List.set_cons_zero, List.set_cons_succ]
                      refine wpAnyH_take (i := 11) (v := ?_) rfl (by kernel_rfl) (by kernel_rfl) (by kernel_rfl) (fun _ _ _ h => h) (Or.inl ⟨by rfl, ?_⟩) (by assumption) ?_
                      rotate_left
                      focus
                        intro U hU
                        try dsimp only at hU
                        go_simp
                        try (with_reducible rfl)
                      simp only [List.getElem_toArray, List.getElem_cons_succ, List.getElem_cons_zero, Act.put, List.setIfInBounds_toArray, List.set_cons_zero, List.set_cons_succ]
                      refine wpAnyH_take (i := 12) (v := ?_) rfl (by kernel_rfl) (by kernel_rfl) (by kernel_rfl) (fun _ _ _ h => h) (Or.inl ⟨by rfl, ?_⟩) (by assumption) ?_
                      rotate_left
                      focus
                        intro U hU
                        try dsimp only at hU
                        go_simp
                        try (with_reducible rfl)
                      simp only [List.getElem_toArray, List.getElem_cons_succ, List.getElem_cons_zero, Act.put, List.setIfInBounds_toArray, List.set_cons_zero, List.set_cons_succ]
                      refine wpAnyH_done (by kernel_rfl) ?_ _
                      clear hHeld hS HW1 HW2
                      have HU9 := hid hu2
                      clear hu0 hu2
                      go_wp2
                      go_roundw
                      case rel => exact ⟨j + 1, _, _, L9, M9, by omega, by omega, by go_num, rfl, hid (HS9.out.below HU9.out), HT9⟩
                      case measure => simp [intOf]; omega
                    · have hd4b : (xd == 4) = false := by simpa using hd4
                      by_cases hd3 : xd = 3
                      · skip
                        subst hd3
                        have HPT := hid (ptick_any w1 HS.out.pt (fun e he => (HT.out.gl e he).gd (by omega)))
                        have HRT := hid (fun U (h : P7M U W.heap.size g n0 n1 n2 M) (hb : W.heap.size ≤ U.heap.size) => r27tick_any U h HT.out.len.2 hb (fun e he => (HT.out.gm e he).gd (by omega)))
                        have HT9 := hid HT.out.tick
                        have hsp := (same_tick HT.out.s).2
                        have hxl : (ptickV L).2.length ≤ 72 := tick_len L HT.out.len.1
                        generalize ptickV L = rv at *
                        generalize ptickV M = rw' at *
                        obtain ⟨L9, ys⟩ := rv
                        obtain ⟨M9, ys2⟩ := rw'
                        simp only at hsp
                        subst hsp
                        simp only [PTickR, RTickR] at HPT HRT HT9 hxl
                        clear HT
                        go_wp2_with fail
                        refine HPT.out.mono ?_
                        rintro e w2 ⟨Ax, cx, rfl, hox, hpx, hux, -⟩
                        have HS2 := hid (HS.out.onP hpx hux)
                        have HZ2 := hid (HS.out.blkP HZ.out hux)
                        have HX2 := hid hox
                        clear HPT HS hox hpx hux HZ
                        clear z0 z1 z2 z3 z4 z5 z6 z7 z8 z9
                        go_wp2_with fail
                        refine (HRT.out w2 HS2.out.p7 HS2.out.bel.size).mono ?_
                        rintro e w3 ⟨Ay, cy, rfl, hoy, hr⟩
                        have HS3 := hid (HS2.out.on7 hr)
                        have HZ3 := hid (hr.blk HZ2.out (by decide) (by decide))
                        have HX3 := hid (own_sts HX2.out hr.s (by decide) (by decide))
                        have HY3 := hid hoy
                        clear HRT HS2 HZ2 HX2 hoy hr
                        have HSM := hid (same03 Ax Ay ys.length cx ys.length cy ys ys w3 (sl_own HX3.out) (sl_own HY3.out) (by omega) (by omega))
                        rw [beq_self_eq_true] at HSM
                        clear HX3 HY3
                        go_wp2_with fail
                        refine HSM.out.mono ?_
                        rintro e w9 ⟨rfl, q, rfl⟩
                        have HS9 := hid (HS3.out.below (⟨rfl, rfl, rfl, Nat.le_refl _, fun _ _ => rfl⟩ : Below w3.heap.size w3 (w3.drewN q)))
                        have HZ9 := hid (keep0 HZ3.out (⟨rfl, rfl, rfl, Nat.le_refl _, fun _ _ => rfl⟩ : Below w3.heap.size w3 (w3.drewN q)))
                        clear HSM HS3 HZ3
                        generalize w3.drewN q = w9 at *
                        have HW1 := hid (fun U (hU : Below w9.heap.size w9 U) => pwaits_all xt U (HS9.out.below hU).pt hxt.1 hxt.2)
                        have HW2 := hid (fun U (hU : Below w9.heap.size w9 U) => p7waits xt U (HS9.out.below hU).p7)
                        have hpw : pwaitV L9 xt = ((endP n0 n1 M9 xt).o.l.length : Nat) := same_waits HT9.out.s xt
                        rw [hpw] at HW1
                        generalize (((endP n0 n1 M9 xt).o.l.length : Nat) : Int) = pw at *
                        go_upto_region 30 with (fail)
                        have hS : ∀ U : World, Below w9.heap.size w9 U → U.cell? ⟨Z, 1, none⟩ = some (.int .i64 xt) := fun U hU => (ten_cellsV (keep0 HZ9.out hU)).2.1
                        have hu0 : Below w9.heap.size w9 w9.drew := below_drew (Below.refl _ _)
                        refine wp_region_held_drew (S := fun U => U.cell? ⟨Z, 1, none⟩ = some (.int .i64 xt)) (by kernel_rfl) (hS _ hu0) (fun hHeld => ?_)
                        generalize w9.drew = u0 at *
                        refine wpAnyH_take (i := 0) (v := ?_) rfl (by kernel_rfl) (by kernel_rfl) (by kernel_rfl) (fun _ _ _ h => h) (Or.inl ⟨by rfl, ?_⟩) (by assumption) ?_
                        rotate_left
                        focus
                          intro U hU
                          try dsimp only at hU
                          go_simp
                          try (with_reducible rfl)
                        simp only [List.getElem_toArray, List.getElem_cons_succ, List.getElem_cons_zero, Act.put, List.setIfInBounds_toArray, List.set_cons_zero, List.set_cons_succ]
                        refine wpAnyH_take (i := 1) (v := ?_) rfl (by kernel_rfl) (by kernel_rfl) (by kernel_rfl) (fun _ _ _ h => h) (Or.inl ⟨by rfl, ?_⟩) (by assumption) ?_
                        rotate_left
                        focus
                          intro U hU
                          try dsimp only at hU
                          go_simp
                          try (with_reducible rfl)
                        simp only [List.getElem_toArray, List.getElem_cons_succ, List.getElem_cons_zero, Act.put, List.setIfInBounds_toArray, List.set_cons_zero, List.set_cons_succ]
                        refine wpAnyH_take (i := 2) (v := ?_) rfl (by kernel_rfl) (by kernel_rfl) (by kernel_rfl) (fun _ _ _ h => h) (Or.inl ⟨by rfl, ?_⟩) (by assumption) ?_
                        rotate_left
                        focus
                          intro U hU
                          try dsimp only at hU
                          go_simp
                          try (with_reducible rfl)
                        simp only [List.getElem_toArray, List.getElem_cons_succ, List.getElem_cons_zero, Act.put, List.setIfInBounds_toArray, List.set_cons_zero, List.set_cons_succ]
                        refine wpAnyH_take (i := 3) (v := ?_) rfl (by kernel_rfl) (by kernel_rfl) (by kernel_rfl) (fun _ _ _ h => h) (Or.inl ⟨by rfl, ?_⟩) (by assumption) ?_
                        rotate_left
                        focus
                          intro U hU
                          try dsimp only at hU
                          go_simp
                          try (with_reducible rfl)
                        simp only [List.getElem_toArray, List.getElem_cons_succ, List.getElem_cons_zero, Act.put, List.setIfInBounds_toArray, List.set_cons_zero, List.set_cons_succ]
                        refine wpAnyH_take (i := 4) (v := ?_) rfl (by kernel_rfl) (by kernel_rfl) (by kernel_rfl) (fun _ _ _ h => h) (Or.inl ⟨by rfl, ?_⟩) (by assumption) ?_
                        rotate_left
                        focus
                          intro U hU
                          try dsimp only at hU
                          go_simp
                          try (with_reducible rfl)
                        simp only [List.getElem_toArray, List.getElem_cons_succ, List.getElem_cons_zero, Act.put, List.setIfInBounds_toArray, List.set_cons_zero, List.set_cons_succ]
                        refine wpAnyH_take (i := 5) (v := ?_) rfl (by kernel_rfl) (by kernel_rfl) (by kernel_rfl) (fun _ _ _ h => h) (Or.inl ⟨by rfl, ?_⟩) (by assumption) ?_
                        rotate_left
                        focus
                          intro U hU
                          try dsimp only at hU
                          go_simp
                          try (with_reducible rfl)
                        simp only [List.getElem_toArray, List.getElem_cons_succ, List.getElem_cons_zero, Act.put, List.setIfInBounds_toArray, List.set_cons_zero, List.set_cons_succ]
                        refine wpAnyH_take (i := 7) (v := ?_) rfl (by kernel_rfl) (by kernel_rfl) (by kernel_rfl) (fun _ _ _ h => h) (Or.inl ⟨by rfl, ?_⟩) (by assumption) ?_
                        rotate_left
                        focus
                          intro U hU
                          try dsimp only at hU
                          go_simp
                          try (with_reducible rfl)
                        simp only [List.getElem_toArray, List.getElem_cons_succ, List.getElem_cons_zero, Act.put, List.setIfInBounds_toArray, List.set_cons_zero, List.set_cons_succ]
                        refine wpAnyH_take (i := 8) (v := ?_) rfl (by kernel_rfl) (by kernel_rfl) (by kernel_rfl) (fun _ _ _ h => h) (Or.inl ⟨by rfl, ?_⟩) (by assumption) ?_
                        rotate_left
                        focus
                          intro U hU
                          try dsimp only at hU
                          go_simp
                          try (with_reducible rfl)
                        simp only [List.getElem_toArray, List.getElem_cons_succ, List.getElem_cons_zero, Act.put, List.setIfInBounds_toArray, List.set_cons_zero, List.set_cons_succ]
                        refine wpAnyH_take (i := 9) (v := ?_) rfl (by kernel_rfl) (by kernel_rfl) (by kernel_rfl) (fun _ _ _ h => h) (Or.inl ⟨by rfl, ?_⟩) (by assumption) ?_
                        rotate_left
                        focus
                          intro U hU
                          try dsimp only at hU
                          go_simp
                          try (with_reducible rfl)
                        simp only [List.getElem_toArray, List.getElem_cons_succ, List.getElem_cons_zero, Act.put, List.setIfInBounds_toArray, List.set_cons_zero, List.set_cons_succ]
                        refine wpAnyH_ready (rs := [6]) (by kernel_rfl) (by simp) ?_
                        refine AllReadyH.cons rfl (fun K hK => ?_) AllReadyH.nil
                        simp only [List.getElem_toArray, List.getElem_cons_succ, List.getElem_cons_zero]
                        go_simp
                        refine (HW1.out _ hu0).mono ?_
                        rintro q u1 ⟨rfl, rfl⟩
                        go_wp2_with fail
                        refine hK.out _ _ ?_ (fun hHeld2 => ?_)
                        focus
                          exact hS _ (by with_reducible assumption)
                        clear hHeld
                        have hHeld := hHeld2
                        clear hHeld2 hK K
                        try simp only [List.getElem_toArray, List.getElem_cons_succ, List.getElem_cons_zero, Act.put, List.setIfInBounds_toArray, List.set_cons_zero, List.set_cons_succ]
                        refine wpAnyH_ready (rs := [10]) (by kernel_rfl) (by simp) ?_
                        refine AllReadyH.cons rfl (fun K hK => ?_) AllReadyH.nil
                        simp only [List.getElem_toArray, List.getElem_cons_succ, List.getElem_cons_zero]
                        go_simp
                        refine (HW2.out _ hu0).mono ?_
                        rintro q u2 ⟨rfl, hb2⟩
                        have hu2 : Below w9.heap.size w9 u2 := hu0.trans (hb2.mono hu0.size)
                        clear hb2
                        go_wp2_with fail
                        refine hK.out _ _ ?_ (fun hHeld2 => ?_)
                        focus
                          exact hS _ (by with_reducible assumption)
                        clear hHeld
                        have hHeld := hHeld2
                        clear hHeld2 hK K
                        try simp only [List.getElem_toArray, List.getElem_cons_succ, List.getElem_cons_zero, Act.put, List.setIfInBounds_toArray, List.set_cons_zero, List.set_cons_succ]
                        refine wpAnyH_take (i := 11) (v := ?_) rfl (by kernel_rfl) (by kernel_rfl) (by kernel_rfl) (fun _ _ _ h => h) (Or.inl ⟨by rfl, ?_⟩) (by assumption) ?_
                        rotate_left
                        focus
                          intro U hU
                          try dsimp only at hU
                          go_simp
                          try (with_reducible rfl)
                        simp only [List.getElem_toArray, List.getElem_cons_succ, List.getElem_cons_zero, Act.put, List.setIfInBounds_toArray, List.set_cons_zero, List.set_cons_succ]
                        refine wpAnyH_take (i := 12) (v := ?_) rfl (by kernel_rfl) (by kernel_rfl) (by kernel_rfl) (fun _ _ _ h => h) (Or.inl ⟨by rfl, ?_⟩) (by assumption) ?_
                        rotate_left
                        focus
                          intro U hU
                          try dsimp only at hU
                          go_simp
                          try (with_reducible rfl)
                        simp only [List.getElem_toArray, List.getElem_cons_succ, List.getElem_cons_zero, Act.put, List.setIfInBounds_toArray, List.set_cons_zero, List.set_cons_succ]
                        refine wpAnyH_done (by kernel_rfl) ?_ _
                        clear hHeld hS HW1 HW2
                        have HU9 := hid hu2
                        clear hu0 hu2
                        go_wp2
                        go_roundw
                        case rel => exact ⟨j + 1, _, _, L9, M9, by omega, by omega, by go_num, rfl, hid (HS9.out.below HU9.out), HT9⟩
                        case measure => simp [intOf]; omega
                      · have hd3b : (xd == 3) = false := by simpa using hd3
                        have HCL := hid (pclone_any w1 HS.out.pt HOK.out.1 HOK.out.2.1 HOK.out.2.2.1 HOK.out.2.2.2.1 HOK.out.2.2.2.2 (fun e he => by have := (HT.out.gl e he).1; omega))
                        have HPU := hid (fun U (h : PortAt U P Mp n0 n1 n2 L) => pput_any xt [111, 116, 104, 101, 114] U h (fun e he => (HT.out.gl e he).gd (by omega)) (by unfold maxLen; simp))
                        have hot : str [111, 116, 104, 101, 114] = ⟨#[111, 116, 104, 101, 114]⟩ := rfl
                        rw [hot] at HPU
                        have HG9 := hid (gj_pput HT.out.gl n0 n1 n2 HOK.out.2.2.2.2 xt [111, 116, 104, 101, 114])
                        have HT9 : Hid (TwoP n0 n1 (j + 1) L M) := hid (HT.out.mono (Nat.le_succ j))
                        generalize pputV n0 n1 n2 L xt [111, 116, 104, 101, 114] = rv at *
                        have HTK := hid (fun U (h : PortAt U P Mp n0 n1 n2 rv.1) => ptick_any U h (fun e he => (HG9.out e he).gd (by omega)))
                        generalize ptickV rv.1 = rt at *
                        clear HT hot
                        go_wp2_with fail
                        refine HCL.out.mono ?_
                        rintro e w2 ⟨P2, M2, rfl, -, hM2, hp2, hb2⟩
                        have HS2 := hid (HS.out.below hb2)
                        have HC2 := hid (And.intro hp2 (And.intro hM2 hb2))
                        have HZ2 := hid (keep0 HZ.out hb2)
                        clear HCL hM2 hp2 hb2 HZ
                        clear z0 z1 z2 z3 z4 z5 z6 z7 z8 z9
                        obtain ⟨z0, z1, z2, z3, z4, z5, z6, z7, z8, z9⟩ := ten_cellsV HZ2.out
                        go_wp2_with fail
                        refine (HPU.out w2 HS2.out.pt).mono ?_
                        rintro e w3 ⟨Ax, cx, rfl, -, hpx, hux, -⟩
                        have HS3 := hid (HS2.out.onP hpx hux)
                        have HZ3 := hid (HS2.out.blkP HZ2.out hux)
                        have HU3 := hid hux
                        clear HPU hpx hux HZ2 HS2
                        clear z0 z1 z2 z3 z4 z5 z6 z7 z8 z9
                        go_wp2_with fail
                        refine (HTK.out w3 HS3.out.pt).mono ?_
                        rintro e w9 ⟨Ay, cy, rfl, -, hpy, huy, -⟩
                        have HZ9 := hid (HS3.out.blkP HZ3.out huy)
                        have HS9 := hid (HS.out.swap (L' := L) HC2.out.1 HC2.out.2.1 HC2.out.2.2 (HU3.out.trans huy))
                        clear HTK hpy huy HS3 HZ3 HU3 HC2 HS
                        have l9e : ∃ L9, L9 = L := ⟨_, rfl⟩
                        obtain ⟨L9, rfl⟩ := l9e
                        have m9e : ∃ M9, M9 = M := ⟨_, rfl⟩
                        obtain ⟨M9, rfl⟩ := m9e
                        have HW1 := hid (fun U (hU : Below w9.heap.size w9 U) => pwaits_all xt U (HS9.out.below hU).pt hxt.1 hxt.2)
                        have HW2 := hid (fun U (hU : Below w9.heap.size w9 U) => p7waits xt U (HS9.out.below hU).p7)
                        have hpw : pwaitV L9 xt = ((endP n0 n1 M9 xt).o.l.length : Nat) := same_waits HT9.out.s xt
                        rw [hpw] at HW1
                        generalize (((endP n0 n1 M9 xt).o.l.length : Nat) : Int) = pw at *
                        go_upto_region 30 with (fail)
                        have hS : ∀ U : World, Below w9.heap.size w9 U → U.cell? ⟨Z, 1, none⟩ = some (.int .i64 xt) := fun U hU => (ten_cellsV (keep0 HZ9.out hU)).2.1
                        have hu0 : Below w9.heap.size w9 w9.drew := below_drew (Below.refl _ _)
                        refine wp_region_held_drew (S := fun U => U.cell? ⟨Z, 1, none⟩ = some (.int .i64 xt)) (by kernel_rfl) (hS _ hu0) (fun hHeld => ?_)
                        generalize w9.drew = u0 at *
                        refine wpAnyH_take (i := 0) (v := ?_) rfl (by kernel_rfl) (by kernel_rfl) (by kernel_rfl) (fun _ _ _ h => h) (Or.inl ⟨by rfl, ?_⟩) (by assumption) ?_
                        rotate_left
                        focus
                          intro U hU
                          try dsimp only at hU
                          go_simp
                          try (with_reducible rfl)
                        simp only [List.getElem_toArray, List.getElem_cons_succ, List.getElem_cons_zero, Act.put, List.setIfInBounds_toArray, List.set_cons_zero, List.set_cons_succ]
                        refine wpAnyH_take (i := 1) (v := ?_) rfl (by kernel_rfl) (by kernel_rfl) (by kernel_rfl) (fun _ _ _ h => h) (Or.inl ⟨by rfl, ?_⟩) (by assumption) ?_
                        rotate_left
                        focus
                          intro U hU
                          try dsimp only at hU
                          go_simp
                          try (with_reducible rfl)
                        simp only [List.getElem_toArray, List.getElem_cons_succ, List.getElem_cons_zero, Act.put, List.setIfInBounds_toArray, List.set_cons_zero, List.set_cons_succ]
                        refine wpAnyH_take (i := 2) (v := ?_) rfl (by kernel_rfl) (by kernel_rfl) (by kernel_rfl) (fun _ _ _ h => h) (Or.inl ⟨by rfl, ?_⟩) (by assumption) ?_
                        rotate_left
                        focus
                          intro U hU
                          try dsimp only at hU
                          go_simp
                          try (with_reducible rfl)
                        simp only [List.getElem_toArray, List.getElem_cons_succ, List.getElem_cons_zero, Act.put, List.setIfInBounds_toArray, List.set_cons_zero, List.set_cons_succ]
                        refine wpAnyH_take (i := 3) (v := ?_) rfl (by kernel_rfl) (by kernel_rfl) (by kernel_rfl) (fun _ _ _ h => h) (Or.inl ⟨by rfl, ?_⟩) (by assumption) ?_
                        rotate_left
                        focus
                          intro U hU
                          try dsimp only at hU
                          go_simp
                          try (with_reducible rfl)
                        simp only [List.getElem_toArray, List.getElem_cons_succ, List.getElem_cons_zero, Act.put, List.setIfInBounds_toArray, List.set_cons_zero, List.set_cons_succ]
                        refine wpAnyH_take (i := 4) (v := ?_) rfl (by kernel_rfl) (by kernel_rfl) (by kernel_rfl) (fun _ _ _ h => h) (Or.inl ⟨by rfl, ?_⟩) (by assumption) ?_
                        rotate_left
                        focus
                          intro U hU
                          try dsimp only at hU
                          go_simp
                          try (with_reducible rfl)
                        simp only [List.getElem_toArray, List.getElem_cons_succ, List.getElem_cons_zero, Act.put, List.setIfInBounds_toArray, List.set_cons_zero, List.set_cons_succ]
                        refine wpAnyH_take (i := 5) (v := ?_) rfl (by kernel_rfl) (by kernel_rfl) (by kernel_rfl) (fun _ _ _ h => h) (Or.inl ⟨by rfl, ?_⟩) (by assumption) ?_
                        rotate_left
                        focus
                          intro U hU
                          try dsimp only at hU
                          go_simp
                          try (with_reducible rfl)
                        simp only [List.getElem_toArray, List.getElem_cons_succ, List.getElem_cons_zero, Act.put, List.setIfInBounds_toArray, List.set_cons_zero, List.set_cons_succ]
                        refine wpAnyH_take (i := 7) (v := ?_) rfl (by kernel_rfl) (by kernel_rfl) (by kernel_rfl) (fun _ _ _ h => h) (Or.inl ⟨by rfl, ?_⟩) (by assumption) ?_
                        rotate_left
                        focus
                          intro U hU
                          try dsimp only at hU
                          go_simp
                          try (with_reducible rfl)
                        simp only [List.getElem_toArray, List.getElem_cons_succ, List.getElem_cons_zero, Act.put, List.setIfInBounds_toArray, List.set_cons_zero, List.set_cons_succ]
                        refine wpAnyH_take (i := 8) (v := ?_) rfl (by kernel_rfl) (by kernel_rfl) (by kernel_rfl) (fun _ _ _ h => h) (Or.inl ⟨by rfl, ?_⟩) (by assumption) ?_
                        rotate_left
                        focus
                          intro U hU
                          try dsimp only at hU
                          go_simp
                          try (with_reducible rfl)
                        simp only [List.getElem_toArray, List.getElem_cons_succ, List.getElem_cons_zero, Act.put, List.setIfInBounds_toArray, List.set_cons_zero, List.set_cons_succ]
                        refine wpAnyH_take (i := 9) (v := ?_) rfl (by kernel_rfl) (by kernel_rfl) (by kernel_rfl) (fun _ _ _ h => h) (Or.inl ⟨by rfl, ?_⟩) (by assumption) ?_
                        rotate_left
                        focus
                          intro U hU
                          try dsimp only at hU
                          go_simp
                          try (with_reducible rfl)
                        simp only [List.getElem_toArray, List.getElem_cons_succ, List.getElem_cons_zero, Act.put, List.setIfInBounds_toArray, List.set_cons_zero, List.set_cons_succ]
                        refine wpAnyH_ready (rs := [6]) (by kernel_rfl) (by simp) ?_
                        refine AllReadyH.cons rfl (fun K hK => ?_) AllReadyH.nil
                        simp only [List.getElem_toArray, List.getElem_cons_succ, List.getElem_cons_zero]
                        go_simp
                        refine (HW1.out _ hu0).mono ?_
                        rintro q u1 ⟨rfl, rfl⟩
                        go_wp2_with fail
                        refine hK.out _ _ ?_ (fun hHeld2 => ?_)
                        focus
                          exact hS _ (by with_reducible assumption)
                        clear hHeld
                        have hHeld := hHeld2
                        clear hHeld2 hK K
                        try simp only [List.getElem_toArray, List.getElem_cons_succ, List.getElem_cons_zero, Act.put, List.setIfInBounds_toArray, List.set_cons_zero, List.set_cons_succ]
                        refine wpAnyH_ready (rs := [10]) (by kernel_rfl) (by simp) ?_
                        refine AllReadyH.cons rfl (fun K hK => ?_) AllReadyH.nil
                        simp only [List.getElem_toArray, List.getElem_cons_succ, List.getElem_cons_zero]
                        go_simp
                        refine (HW2.out _ hu0).mono ?_
                        rintro q u2 ⟨rfl, hb2⟩
                        have hu2 : Below w9.heap.size w9 u2 := hu0.trans (hb2.mono hu0.size)
                        clear hb2
                        go_wp2_with fail
                        refine hK.out _ _ ?_ (fun hHeld2 => ?_)
                        focus
                          exact hS _ (by with_reducible assumption)
                        clear hHeld
                        have hHeld := hHeld2
                        clear hHeld2 hK K
                        try simp only [List.getElem_toArray, List.getElem_cons_succ, List.getElem_cons_zero, Act.put, List.setIfInBounds_toArray, List.set_cons_zero, List.set_cons_succ]
                        refine wpAnyH_take (i := 11) (v := ?_) rfl (by kernel_rfl) (by kernel_rfl) (by kernel_rfl) (fun _ _ _ h => h) (Or.inl ⟨by rfl, ?_⟩) (by assumption) ?_
                        rotate_left
                        focus
                          intro U hU
                          try dsimp only at hU
                          go_simp
                          try (with_reducible rfl)
                        simp only [List.getElem_toArray, List.getElem_cons_succ, List.getElem_cons_zero, Act.put, List.setIfInBounds_toArray, List.set_cons_zero, List.set_cons_succ]
                        refine wpAnyH_take (i := 12) (v := ?_) rfl (by kernel_rfl) (by kernel_rfl) (by kernel_rfl) (fun _ _ _ h => h) (Or.inl ⟨by rfl, ?_⟩) (by assumption) ?_
                        rotate_left
                        focus
                          intro U hU
                          try dsimp only at hU
                          go_simp
                          try (with_reducible rfl)
                        simp only [List.getElem_toArray, List.getElem_cons_succ, List.getElem_cons_zero, Act.put, List.setIfInBounds_toArray, List.set_cons_zero, List.set_cons_succ]
                        refine wpAnyH_done (by kernel_rfl) ?_ _
                        clear hHeld hS HW1 HW2
                        have HU9 := hid hu2
                        clear hu0 hu2
                        go_wp2
                        go_roundw
                        case rel => exact ⟨j + 1, _, _, L9, M9, by omega, by omega, by go_num, rfl, hid (HS9.out.below HU9.out), HT9⟩
                        case measure => simp [intOf]; omega
            · have f3 : (200 : Int) < (xb.size : Int) := by omega
              have f4 : decide ((200 : Int) < (xb.size : Int)) = true := decide_eq_true f3
              go_wp2
              go_roundw
              case rel => exact ⟨j + 1, P, Mp, L, M, by omega, by omega, by go_num, rfl, HS, hid (HT.out.mono (Nat.le_succ j))⟩
              case measure => simp [intOf]; omega
          · have f1 : (200 : Int) < (xtx.size : Int) := by omega
            have f2 : decide ((200 : Int) < (xtx.size : Int)) = true := decide_eq_true f1
            go_wp2
            go_roundw
            case rel => exact ⟨j + 1, P, Mp, L, M, by omega, by omega, by go_num, rfl, HS, hid (HT.out.mono (Nat.le_succ j))⟩
            case measure => simp [intOf]; omega
        · have e2 : ¬ (j : Int) < 60 := by omega
          have e4 : decide ((j : Int) < 60) = false := decide_eq_false e2
          have HBT := hid HSW.out.bel
          clear HSW HT
          go_wp2_with fail
          refine (pnil_put 1 ⟨#[97]⟩ _).mono ?_
          rintro e z1 ⟨rfl, hb⟩
          have HZ1 := hid (HBT.out.trans (hb.mono HBT.out.size))
          clear hb
          go_wp2_with fail
          refine (pnil_take ⟨#[]⟩ _).mono ?_
          rintro e z2 ⟨rfl, hb⟩
          have HZ2 := hid (HZ1.out.trans (hb.mono HZ1.out.size))
          clear hb HZ1
          go_wp2_with fail
          refine (pnil_bare 1 ⟨#[97]⟩ _).mono ?_
          rintro e z3 ⟨rfl, hb⟩
          have HZ3 := hid (HZ2.out.trans (hb.mono HZ2.out.size))
          clear hb HZ2
          go_wp2_with fail
          refine (pnil_tick _).mono ?_
          rintro e z4 ⟨rfl, hb⟩
          have HZ4 := hid (HZ3.out.trans (hb.mono HZ3.out.size))
          clear hb HZ3
          go_wp2_with fail
          refine (pnil_waits 1 _).mono ?_
          rintro e z5 ⟨rfl, hb⟩
          have HZ5 := hid (HZ4.out.trans (hb.mono HZ4.out.size))
          clear hb HZ4
          go_wp2_with fail
          refine (pnil_clone _).mono ?_
          rintro e z6 ⟨rfl, hb⟩
          have HZ6 := hid (HZ5.out.trans (hb.mono HZ5.out.size))
          clear hb HZ5
          go_wp2_with fail
          refine (HWK.out _).mono ?_
          rintro e z7 ⟨rfl, hb⟩
          have HZ7 := hid (HZ6.out.trans (hb.mono HZ6.out.size))
          clear hb HZ6
          go_wp2
          go_ret
          exact ⟨rfl, HZ7.out⟩
      · have e1 : ¬ (j : Int) < (l.length : Int) := by omega
        have e3 : decide ((j : Int) < (l.length : Int)) = false := decide_eq_false e1
        have HBT := hid HSW.out.bel
        clear HSW HT
        go_wp2_with fail
        refine (pnil_put 1 ⟨#[97]⟩ _).mono ?_
        rintro e z1 ⟨rfl, hb⟩
        have HZ1 := hid (HBT.out.trans (hb.mono HBT.out.size))
        clear hb
        go_wp2_with fail
        refine (pnil_take ⟨#[]⟩ _).mono ?_
        rintro e z2 ⟨rfl, hb⟩
        have HZ2 := hid (HZ1.out.trans (hb.mono HZ1.out.size))
        clear hb HZ1
        go_wp2_with fail
        refine (pnil_bare 1 ⟨#[97]⟩ _).mono ?_
        rintro e z3 ⟨rfl, hb⟩
        have HZ3 := hid (HZ2.out.trans (hb.mono HZ2.out.size))
        clear hb HZ2
        go_wp2_with fail
        refine (pnil_tick _).mono ?_
        rintro e z4 ⟨rfl, hb⟩
        have HZ4 := hid (HZ3.out.trans (hb.mono HZ3.out.size))
        clear hb HZ3
        go_wp2_with fail
        refine (pnil_waits 1 _).mono ?_
        rintro e z5 ⟨rfl, hb⟩
        have HZ5 := hid (HZ4.out.trans (hb.mono HZ4.out.size))
        clear hb HZ4
        go_wp2_with fail
        refine (pnil_clone _).mono ?_
        rintro e z6 ⟨rfl, hb⟩
        have HZ6 := hid (HZ5.out.trans (hb.mono HZ5.out.size))
        clear hb HZ5
        go_wp2_with fail
        refine (HWK.out _).mono ?_
        rintro e z7 ⟨rfl, hb⟩
        have HZ7 := hid (HZ6.out.trans (hb.mono HZ6.out.size))
        clear hb HZ6
        go_wp2
        go_ret
        exact ⟨rfl, HZ7.out⟩
end Go.Proofs.YtdphdodjidbngaaGreat
