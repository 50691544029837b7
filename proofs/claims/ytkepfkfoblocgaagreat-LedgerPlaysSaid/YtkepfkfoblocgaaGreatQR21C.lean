/- The document's ledger: Put: where the record fits the book. -/
import Derived.Test.YtkepfkfoblocgaaGreatGaP
import Derived.Test.YtkepfkfoblocgaaGreatQR21B
import Derived.Deep.RegionHeld3
import Derived.BigQuiet
import Derived.Lib.QuietBelow
namespace Go.Proofs.YtkepfkfoblocgaaGreat
open Go.RowKit Go.Sort
set_option linter.unusedVariables false
set_option linter.unusedSimpArgs false

theorem blk_neL {w : World} {b b' t t' : Nat} {cs cs' : Array Value} {fr fr' : Nat × Nat} (h : w.heap[b]? = some (.cells cs t fr)) (h' : w.heap[b']? = some (.cells cs' t' fr')) (hne : t ≠ t') : b ≠ b' := fun e => by
  rw [e, h'] at h
  injection h with h
  injection h with _ h2
  exact hne h2.symm
theorem one_ty {w : World} {g t : Nat} {cs0 : Array Value} {fr0 : Nat × Nat} (h : w.heap[g]? = some (.cells cs0 t fr0)) (ht : t ≠ 55 ∧ t ≠ 9 ∧ t ≠ 3 ∧ t ≠ 4) : TyN (fun x => x = g) w := by
  rintro x rfl cs t' fr hc
  rw [h] at hc
  injection hc with hc
  injection hc with _ h2
  exact h2 ▸ ht
theorem rn_tyN {W0 w : World} {b G M room : Nat} {l : List UInt8} {fu : Int} {A : Option Addr} {c : Nat} {els : List El} {down : Bool} (h : RnAt W0 w b G M room l fu A c els down) : TyN (fun g => g = M ∨ g = G) w := by
  intro g hg
  rcases hg with hg | hg
  · exact one_ty h.2.1 (by decide) g hg
  · exact one_ty h.1 (by decide) g hg
theorem rput_er {W0 w w' : World} {b H G M R room : Nat} {l l' : List UInt8} {fu fu' : Int} {A A' : Option Addr} {c c' : Nat} {els els' : List El} {down down' : Bool} {Ab : Option Addr} {cb : Nat} {xs : List Ee} (h : RlAt W0 w b H G M R room l fu A c els down Ab cb xs) (ht : Tch (fun g => g = M ∨ g = G) w w') (hr : RnAt W0 w' b G M room l' fu' A' c' els' down') : RlAt W0 w' b H G M R room l' fu' A' c' els' down' Ab cb xs :=
  ⟨ht.block h.1 (fun h9 => h9.elim (blk_neL h.1 h.2.1.2.1 (by decide)) (blk_neL h.1 h.2.1.1 (by decide))), hr, h.2.2.1.tch ht (rn_tyN h.2.1), h.2.2.2⟩
theorem rput_ok {W0 w w' : World} {b H G M R room : Nat} {l l' : List UInt8} {fu fu' : Int} {A A' : Option Addr} {c c' : Nat} {els els' : List El} {down down' : Bool} {Ab Ab' : Option Addr} {cb cb' : Nat} {xs ys : List Ee} (h : RlAt W0 w b H G M R room l fu A c els down Ab cb xs) (hy : BkX W0 w Ab' cb' ys) (ho : OkB (ys.map (·.1))) (ht : Tch (fun g => g = M ∨ g = G) w w') (hr : RnAt W0 w' b G M room l' fu' A' c' els' down') : RlAt W0 (w'.setCell ⟨H, 1, none⟩ (.slice Ab' ys.length cb')) b H G M R room l' fu' A' c' els' down' Ab' cb' ys := by
  have hH := ht.block h.1 (fun h9 => h9.elim (blk_neL h.1 h.2.1.2.1 (by decide)) (blk_neL h.1 h.2.1.1 (by decide)))
  have hT := tch_set w' H 1 (.slice Ab' ys.length cb')
  have hty : TyN (fun g => g = H) w' := one_ty hH (by decide)
  refine ⟨?_, ⟨hT.block hr.1 (Ne.symm (blk_neL hH hr.1 (by decide))), hT.block hr.2.1 (Ne.symm (blk_neL hH hr.2.1 (by decide))), hr.2.2.tch hT (fun g hg h9 => own_apart_blk hr.2.2.1 hH (by decide) g hg h9) (fun g hg cs t fr hc => (hty g hg cs t fr hc).2.1)⟩, (hy.tch ht (rn_tyN h.2.1)).tch hT hty, ho⟩
  rw [heap_setCell_same w' H 1 _ _ (.slice Ab' ys.length cb') hH]
  rfl

set_option maxRecDepth 20000 in
set_option maxHeartbeats 4000000 in
theorem r21put_nfull {b H G M R room : Nat} {l : List UInt8} {fu : Int} {A : Option Addr} {c : Nat} {els : List El} {down : Bool} {Ab : Option Addr} {cb : Nat} {xs : List Ee} (x : Rc) (Ax : Option Addr) (cx : Nat) (W0 W : World) (h : RlAt W0 W b H G M R room l fu A c els down Ab cb xs) (hx0 : TxAt W0 Ax cx x.ns) (hW0 : Below W0.heap.size W0 W) (hb : b ≤ W.heap.size) (hr : room ≤ 65536) (hl : l.length ≤ room) (hn : els.length ≤ 100000) (hR : R ≤ 65536) (hd : down = false) (hw : whyB (xs.map (·.1)) x = 0) (hk : x.k = 1) (hf : R < kepB (xs.map (·.1)) + mostR x.j 0 x.ns) :
    Calls Tryz.prog 14 #[.pointer (some ⟨H, 0, none⟩), .agg (rcc x Ax cx)] W (RpuR W0 W b H G M R room l fu A c els down xs x) := by
  have hx : TxAt W Ax cx x.ns := hx0.below hW0
  have HL := hid h
  subst hd
  have hd' : ¬ (false = true) := by simp
  have hw' : ¬ whyB (xs.map (·.1)) x ≠ 0 := fun h9 => h9 hw
  have HV : Hid (lgE (rlS R room l fu fu.toNat false (xs.map (·.1))) (xs.map (·.1)) x = 7 ∧ lgN (rlS R room l fu fu.toNat false (xs.map (·.1))) (xs.map (·.1)) x = rlS R room l fu fu.toNat false (xs.map (·.1)) ∧ puF R room l fu false (xs.map (·.1)) x = fu) := hid ⟨(if_neg hd').trans ((if_neg hw').trans (if_pos ⟨hk, hf⟩)), (if_neg hd').trans ((if_neg hw').trans (if_pos ⟨hk, hf⟩)), (if_neg hd').trans ((if_neg hw').trans (if_pos ⟨hk, hf⟩))⟩
  unfold RpuR
  rw [HV.out.1, HV.out.2.1, HV.out.2.2, if_neg (by decide), if_neg (by decide)]
  have HTX := hid hx
  have HX0 := hid hx0
  have HW0 := hid hW0
  have HOK : Hid (OkB (appB (xs.map (·.1)) x)) := hid (step_ok h.2.2.2 hw).1
  have hM := most_le x.j 0 x.ns
  have HKP := hid (fun w (hw9 : RlAt W0 w b H G M R room l fu A c els false Ab cb xs) (hb9 : Below W0.heap.size W0 w) => r21kept_any w hw9 hb9)
  have HMO := hid (fun w (h2 : TxAt w Ax cx x.ns) => r17most_any x.j 0 x.ns Ax cx w h2)
  have hkk : kepB (xs.map (·.1)) ≤ 400000 := by
    have h9 := kepB_le (xs.map (·.1))
    have h8 := h.2.2.2.1
    omega
  have HWY := hid hw
  clear h hx hx0 hW0 HV hw hw' hd'
  generalize mostR x.j 0 x.ns = m at *
  have hff : (R : Int) < ((kepB (xs.map (·.1)) : Nat) : Int) + (m : Int) := by omega
  have hwr := wrap_sumN (kepB (xs.map (·.1))) m hkk hM
  obtain ⟨k, j, t, wk, s, ep, ns⟩ := x
  simp only [rcc] at *
  obtain rfl : k = 1 := hk
  go_enter Tryz.func14, Tryz.ntmps14
  go_upto_region 1 with (fail)
  refine at_world (fun u => u.heap[W.heap.size]? = some (.cells #[.int .i64 1, .int .i64 j, .int .i64 t, .int .i64 wk, .int .i64 s, .int .i64 ep, .slice Ax ns.length cx] 46 (0, 0)) ∧ Below W.heap.size W u) ⟨heap_alloc_new _ _, (Below.refl _ _).alloc (Nat.le_refl _) _⟩ ?_
  rintro w1 ⟨hx1, hb1⟩
  have HX1 := hid hx1
  have HB1 := hid hb1
  have HL1 := hid (HL.out.below hb1)
  clear hx1 hb1
  obtain ⟨⟨q0, q1, q2⟩, _⟩ := three_cells HL1.out.1
  obtain ⟨⟨r0, r1, r2⟩, _⟩ := three_cellsA HL1.out.2.1.1
  have HST := hid (fun U (hU : Below w1.heap.size w1 U) => r20stepB Ab cb xs _ rfl (Rc.mk 1 j t wk s ep ns) Ax cx U (HL1.out.2.2.1.now (HW0.out.trans (HB1.out.mono HW0.out.size)) |>.below hU) ((HTX.out.below HB1.out).below hU) (by have := okB_len HL1.out.2.2.2; omega) (okB_sm HL1.out.2.2.2))
  simp only [rcc] at HST
  go_upto_region 3 with (fail)
  have hNl : W.heap.size < w1.heap.size := lt_of_block HX1.out
  generalize hNN : W.heap.size = N at *
  have HNN := hid hNN
  clear hNN q0 q1 q2 r0 r1 r2
  have hS : ∀ U, Below w1.heap.size w1 U → ((U.cell? ⟨H, 1, none⟩ = some (.slice Ab xs.length cb) ∧ (U.cell? ⟨N, 0, none⟩ = some (.int .i64 1) ∧ U.cell? ⟨N, 1, none⟩ = some (.int .i64 j) ∧ U.cell? ⟨N, 2, none⟩ = some (.int .i64 t) ∧ U.cell? ⟨N, 3, none⟩ = some (.int .i64 wk) ∧ U.cell? ⟨N, 4, none⟩ = some (.int .i64 s) ∧ U.cell? ⟨N, 5, none⟩ = some (.int .i64 ep) ∧ U.cell? ⟨N, 6, none⟩ = some (.slice Ax ns.length cx))) ∧ Below w1.heap.size w1 U) := fun U hU => ⟨⟨(three_cells (keep0 HL1.out.1 hU)).1.2.1, seven_cells (keep0 HX1.out hU)⟩, hU⟩
  have hk0 : Below w1.heap.size w1 w1.drew := below_drew (Below.refl _ _)
  refine wp_region_held_drew (S := fun U => (U.cell? ⟨H, 1, none⟩ = some (.slice Ab xs.length cb) ∧ (U.cell? ⟨N, 0, none⟩ = some (.int .i64 1) ∧ U.cell? ⟨N, 1, none⟩ = some (.int .i64 j) ∧ U.cell? ⟨N, 2, none⟩ = some (.int .i64 t) ∧ U.cell? ⟨N, 3, none⟩ = some (.int .i64 wk) ∧ U.cell? ⟨N, 4, none⟩ = some (.int .i64 s) ∧ U.cell? ⟨N, 5, none⟩ = some (.int .i64 ep) ∧ U.cell? ⟨N, 6, none⟩ = some (.slice Ax ns.length cx))) ∧ Below w1.heap.size w1 U) (by kernel_rfl) (hS _ hk0) (fun hHeld => ?_)
  generalize w1.drew = k0 at *
  refine tkA 0 ?_ rfl ?_ (by assumption) ?_; rotate_left; focus (intro U hU; (try dsimp only at hU); go_simp; try (with_reducible rfl))
  simp only [gt6, Act.put]
  refine tkA 1 ?_ rfl ?_ (by assumption) ?_; rotate_left; focus (intro U hU; (try dsimp only at hU); go_simp; try (with_reducible rfl))
  simp only [gt6, Act.put]
  refine tkA 2 ?_ rfl ?_ (by assumption) ?_; rotate_left; focus (intro U hU; (try dsimp only at hU); go_simp; try (with_reducible rfl))
  simp only [gt6, Act.put]
  refine tkA 3 ?_ rfl ?_ (by assumption) ?_; rotate_left; focus (intro U hU; (try dsimp only at hU); go_simp; try (with_reducible rfl))
  simp only [gt6, Act.put]
  refine tkA 4 ?_ rfl ?_ (by assumption) ?_; rotate_left; focus (intro U hU; (try dsimp only at hU); go_simp; try (with_reducible rfl))
  simp only [gt6, Act.put]
  refine wpAnyH_ready (rs := [5]) (by kernel_rfl) (by simp) ?_
  refine AllReadyH.cons rfl (fun K hK => ?_) AllReadyH.nil
  simp only [gt3]
  go_simp
  refine (HST.out k0 hk0).mono ?_
  rintro q k1 ⟨A8, c8, ys, rfl, hy, hb8⟩
  have hk1 := hk0.trans (hb8.mono hk0.size)
  clear hb8
  go_wp2_with fail
  refine hK.out _ _ ?_ (fun hHeld2 => ?_)
  focus
    exact hS _ hk1
  clear hHeld
  have hHeld := hHeld2
  clear hHeld2 hK K
  try simp only [gt6, Act.put]
  refine tkA 6 ?_ rfl ?_ (by assumption) ?_; rotate_left; focus (intro U hU; (try dsimp only at hU); go_simp; try (with_reducible rfl))
  simp only [gt6, Act.put]
  refine tkA 7 ?_ rfl ?_ (by assumption) ?_; rotate_left; focus (intro U hU; (try dsimp only at hU); go_simp; try (with_reducible rfl))
  simp only [gt6, Act.put]
  refine tkA 8 ?_ rfl ?_ (by assumption) ?_; rotate_left; focus (intro U hU; (try dsimp only at hU); go_simp; try (with_reducible rfl))
  simp only [gt6, Act.put]
  refine tkA 9 ?_ rfl ?_ (by assumption) ?_; rotate_left; focus (intro U hU; (try dsimp only at hU); go_simp; try (with_reducible rfl))
  simp only [gt6, Act.put]
  refine tkA 10 ?_ rfl ?_ (by assumption) ?_; rotate_left; focus (intro U hU; (try dsimp only at hU); go_simp; try (with_reducible rfl))
  simp only [gt6, Act.put]
  refine wpAnyH_done (by kernel_rfl) ?_ _
  have HB5 := hid hk1
  have HY := hid hy
  clear hHeld hS hk0 hk1 hy HST
  rw [HWY.out] at HY
  simp only [HWY.out]
  have HX5 := hid (keep0 HX1.out HB5.out)
  have HL5 := hid (HL1.out.below HB5.out)
  have HBW : Hid (Below W.heap.size W k1) := hid ((HNN.out ▸ HB1.out).trans (HB5.out.mono (by have := HNN.out; omega)))
  have HB0 := hid (HW0.out.trans (HBW.out.mono HW0.out.size))
  have HTX5 := hid (HTX.out.below HBW.out)
  have hNk : N < k1.heap.size := lt_of_block HX5.out
  obtain ⟨hys, hyp⟩ := HY.out rfl
  have HYS := hid hys
  have HBK : Hid (BkX W0 k1 A8 c8 ys) := hid (fun T w2 hT hty hb9 => hyp T w2 hT hty (HL5.out.2.2.1 T w2 hT hty hb9) (HX0.out.below hb9))
  clear hys hyp HY HX1 HL1 HB5 HTX
  obtain ⟨p0, p1, p2, p3, p4, p5, p6⟩ := seven_cells HX5.out
  obtain ⟨⟨q0, q1, q2⟩, _⟩ := three_cells HL5.out.1
  go_upto_region 6 with (fail)
  have cK := reg (w := k1) (fun W' hW => HKP.out W' (HL5.out.below hW) (HB0.out.trans (hW.mono HB0.out.size)))
  have cM := reg (w := k1) (fun W' hW => HMO.out W' (HTX5.out.below hW))
  replace p0 := cell_regrown p0
  replace p1 := cell_regrown p1
  replace p6 := cell_regrown p6
  replace q2 := cell_regrown q2
  refine wp_region_quiet_below (by kernel_rfl) (by kernel_rfl) ?_
  repeat (go_big_quiet_step (first | (go_at_call 22; with_reducible exact cK _ _) | (go_at_call 39; with_reducible exact cM _ _)))
  refine wpQuiet_nil ?_
  intro _ hw9
  obtain ⟨⟨dq, osq⟩, hw8⟩ := hw9
  subst hw8
  refine at_world (fun u => Below k1.heap.size k1 u) (below_regrown k1 dq osq) ?_
  rintro k6 hbq
  clear cK cM p0 p1 p2 p3 p4 p5 p6 q0 q1 q2 HKP HMO
  have HX6 := hid (keep0 HX5.out hbq)
  have HL6 := hid (HL5.out.below hbq)
  have HBK6 := hid (HBK.out.below hbq)
  have HBW6 := hid (HBW.out.trans (hbq.mono HBW.out.size))
  have HB6 := hid (HB0.out.trans (hbq.mono HB0.out.size))
  clear hbq HX5 HL5 HBK HBW HB0 HTX5
  go_wp2
  go_ret
  exact ⟨rfl, A, c, els, Ab, cb, xs, HL6.out, rfl, rfl, Tch.of_below HBW6.out, .inl rfl⟩

set_option maxRecDepth 20000 in
set_option maxHeartbeats 4000000 in
theorem r21put_e1 {b H G M R room : Nat} {l : List UInt8} {fu : Int} {A : Option Addr} {c : Nat} {els : List El} {down : Bool} {Ab : Option Addr} {cb : Nat} {xs : List Ee} (x : Rc) (Ax : Option Addr) (cx : Nat) (W0 W : World) (h : RlAt W0 W b H G M R room l fu A c els down Ab cb xs) (hx0 : TxAt W0 Ax cx x.ns) (hW0 : Below W0.heap.size W0 W) (hb : b ≤ W.heap.size) (hr : room ≤ 65536) (hl : l.length ≤ room) (hn : els.length ≤ 100000) (hR : R ≤ 65536) (hd : down = false) (hw : whyB (xs.map (·.1)) x = 0) (hk : x.k = 1) (hf : ¬ R < kepB (xs.map (·.1)) + mostR x.j 0 x.ns) (hz : ¬ anE room l (decide (0 ≤ fu)) false x = 0) :
    Calls Tryz.prog 14 #[.pointer (some ⟨H, 0, none⟩), .agg (rcc x Ax cx)] W (RpuR W0 W b H G M R room l fu A c els down xs x) := by
  have hx : TxAt W Ax cx x.ns := hx0.below hW0
  have HL := hid h
  subst hd
  have hd' : ¬ (false = true) := by simp
  have hw' : ¬ whyB (xs.map (·.1)) x ≠ 0 := fun h9 => h9 hw
  have hf' : ¬ (x.k = 1 ∧ R < kepB (xs.map (·.1)) + mostR x.j 0 x.ns) := fun h9 => absurd h9.2 (by omega)
  have HV : Hid (lgE (rlS R room l fu fu.toNat false (xs.map (·.1))) (xs.map (·.1)) x = anE room l (decide (0 ≤ fu)) false x ∧ (lgN (rlS R room l fu fu.toNat false (xs.map (·.1))) (xs.map (·.1)) x).l = anB room l (decide (0 ≤ fu)) fu.toNat false x ∧ (lgN (rlS R room l fu fu.toNat false (xs.map (·.1))) (xs.map (·.1)) x).down = (if anE room l (decide (0 ≤ fu)) false x = 14 then true else false) ∧ puF R room l fu false (xs.map (·.1)) x = anF room l fu false x) := hid ⟨(if_neg hd').trans ((if_neg hw').trans (if_neg hf')), congrArg LgS.l ((if_neg hd').trans ((if_neg hw').trans (if_neg hf'))), congrArg LgS.down ((if_neg hd').trans ((if_neg hw').trans (if_neg hf'))), (if_neg hd').trans ((if_neg hw').trans (if_neg hf'))⟩
  unfold RpuR
  rw [HV.out.1, HV.out.2.1, HV.out.2.2.1, HV.out.2.2.2]
  have HTX := hid hx
  have HX0 := hid hx0
  have HW0 := hid hW0
  have HOK : Hid (OkB (appB (xs.map (·.1)) x)) := hid (step_ok h.2.2.2 hw).1
  have hM := most_le x.j 0 x.ns
  have HKP := hid (fun w (hw9 : RlAt W0 w b H G M R room l fu A c els false Ab cb xs) (hb9 : Below W0.heap.size W0 w) => r21kept_any w hw9 hb9)
  have HMO := hid (fun w (h2 : TxAt w Ax cx x.ns) => r17most_any x.j 0 x.ns Ax cx w h2)
  have hkk : kepB (xs.map (·.1)) ≤ 400000 := by
    have h9 := kepB_le (xs.map (·.1))
    have h8 := h.2.2.2.1
    omega
  have HAP := hid (fun w (h1 : RnAt W0 w b G M room l fu A c els false) (h3 : Below W0.heap.size W0 w) (h4 : b ≤ w.heap.size) => r19append_any x Ax cx W0 w h1 hx0 h3 h4 (blk_neL h.2.1.1 h.2.1.2.1 (by decide)) hr hl hn)
  unfold RapR at HAP
  rw [if_neg hz, if_neg hz]
  simp only [if_neg hz] at HAP
  generalize anE room l (decide (0 ≤ fu)) false x = ev at *
  generalize (if ev = 14 then true else false) = dn9 at *
  have hev : (ev != 0) = true := by simpa using hz
  generalize anB room l (decide (0 ≤ fu)) fu.toNat false x = l2 at *
  generalize anF room l fu false x = fu2 at *
  have HWY := hid hw
  clear h hx hx0 hW0 HV hw hw' hd' hf'
  generalize mostR x.j 0 x.ns = m at *
  have hff : ¬ (R : Int) < ((kepB (xs.map (·.1)) : Nat) : Int) + (m : Int) := by omega
  have hwr := wrap_sumN (kepB (xs.map (·.1))) m hkk hM
  obtain ⟨k, j, t, wk, s, ep, ns⟩ := x
  simp only [rcc] at *
  obtain rfl : k = 1 := hk
  go_enter Tryz.func14, Tryz.ntmps14
  go_upto_region 1 with (fail)
  refine at_world (fun u => u.heap[W.heap.size]? = some (.cells #[.int .i64 1, .int .i64 j, .int .i64 t, .int .i64 wk, .int .i64 s, .int .i64 ep, .slice Ax ns.length cx] 46 (0, 0)) ∧ Below W.heap.size W u) ⟨heap_alloc_new _ _, (Below.refl _ _).alloc (Nat.le_refl _) _⟩ ?_
  rintro w1 ⟨hx1, hb1⟩
  have HX1 := hid hx1
  have HB1 := hid hb1
  have HL1 := hid (HL.out.below hb1)
  clear hx1 hb1
  obtain ⟨⟨q0, q1, q2⟩, _⟩ := three_cells HL1.out.1
  obtain ⟨⟨r0, r1, r2⟩, _⟩ := three_cellsA HL1.out.2.1.1
  have HST := hid (fun U (hU : Below w1.heap.size w1 U) => r20stepB Ab cb xs _ rfl (Rc.mk 1 j t wk s ep ns) Ax cx U (HL1.out.2.2.1.now (HW0.out.trans (HB1.out.mono HW0.out.size)) |>.below hU) ((HTX.out.below HB1.out).below hU) (by have := okB_len HL1.out.2.2.2; omega) (okB_sm HL1.out.2.2.2))
  simp only [rcc] at HST
  go_upto_region 3 with (fail)
  have hNl : W.heap.size < w1.heap.size := lt_of_block HX1.out
  generalize hNN : W.heap.size = N at *
  have HNN := hid hNN
  clear hNN q0 q1 q2 r0 r1 r2
  have hS : ∀ U, Below w1.heap.size w1 U → ((U.cell? ⟨H, 1, none⟩ = some (.slice Ab xs.length cb) ∧ (U.cell? ⟨N, 0, none⟩ = some (.int .i64 1) ∧ U.cell? ⟨N, 1, none⟩ = some (.int .i64 j) ∧ U.cell? ⟨N, 2, none⟩ = some (.int .i64 t) ∧ U.cell? ⟨N, 3, none⟩ = some (.int .i64 wk) ∧ U.cell? ⟨N, 4, none⟩ = some (.int .i64 s) ∧ U.cell? ⟨N, 5, none⟩ = some (.int .i64 ep) ∧ U.cell? ⟨N, 6, none⟩ = some (.slice Ax ns.length cx))) ∧ Below w1.heap.size w1 U) := fun U hU => ⟨⟨(three_cells (keep0 HL1.out.1 hU)).1.2.1, seven_cells (keep0 HX1.out hU)⟩, hU⟩
  have hk0 : Below w1.heap.size w1 w1.drew := below_drew (Below.refl _ _)
  refine wp_region_held_drew (S := fun U => (U.cell? ⟨H, 1, none⟩ = some (.slice Ab xs.length cb) ∧ (U.cell? ⟨N, 0, none⟩ = some (.int .i64 1) ∧ U.cell? ⟨N, 1, none⟩ = some (.int .i64 j) ∧ U.cell? ⟨N, 2, none⟩ = some (.int .i64 t) ∧ U.cell? ⟨N, 3, none⟩ = some (.int .i64 wk) ∧ U.cell? ⟨N, 4, none⟩ = some (.int .i64 s) ∧ U.cell? ⟨N, 5, none⟩ = some (.int .i64 ep) ∧ U.cell? ⟨N, 6, none⟩ = some (.slice Ax ns.length cx))) ∧ Below w1.heap.size w1 U) (by kernel_rfl) (hS _ hk0) (fun hHeld => ?_)
  generalize w1.drew = k0 at *
  refine tkA 0 ?_ rfl ?_ (by assumption) ?_; rotate_left; focus (intro U hU; (try dsimp only at hU); go_simp; try (with_reducible rfl))
  simp only [gt6, Act.put]
  refine tkA 1 ?_ rfl ?_ (by assumption) ?_; rotate_left; focus (intro U hU; (try dsimp only at hU); go_simp; try (with_reducible rfl))
  simp only [gt6, Act.put]
  refine tkA 2 ?_ rfl ?_ (by assumption) ?_; rotate_left; focus (intro U hU; (try dsimp only at hU); go_simp; try (with_reducible rfl))
  simp only [gt6, Act.put]
  refine tkA 3 ?_ rfl ?_ (by assumption) ?_; rotate_left; focus (intro U hU; (try dsimp only at hU); go_simp; try (with_reducible rfl))
  simp only [gt6, Act.put]
  refine tkA 4 ?_ rfl ?_ (by assumption) ?_; rotate_left; focus (intro U hU; (try dsimp only at hU); go_simp; try (with_reducible rfl))
  simp only [gt6, Act.put]
  refine wpAnyH_ready (rs := [5]) (by kernel_rfl) (by simp) ?_
  refine AllReadyH.cons rfl (fun K hK => ?_) AllReadyH.nil
  simp only [gt3]
  go_simp
  refine (HST.out k0 hk0).mono ?_
  rintro q k1 ⟨A8, c8, ys, rfl, hy, hb8⟩
  have hk1 := hk0.trans (hb8.mono hk0.size)
  clear hb8
  go_wp2_with fail
  refine hK.out _ _ ?_ (fun hHeld2 => ?_)
  focus
    exact hS _ hk1
  clear hHeld
  have hHeld := hHeld2
  clear hHeld2 hK K
  try simp only [gt6, Act.put]
  refine tkA 6 ?_ rfl ?_ (by assumption) ?_; rotate_left; focus (intro U hU; (try dsimp only at hU); go_simp; try (with_reducible rfl))
  simp only [gt6, Act.put]
  refine tkA 7 ?_ rfl ?_ (by assumption) ?_; rotate_left; focus (intro U hU; (try dsimp only at hU); go_simp; try (with_reducible rfl))
  simp only [gt6, Act.put]
  refine tkA 8 ?_ rfl ?_ (by assumption) ?_; rotate_left; focus (intro U hU; (try dsimp only at hU); go_simp; try (with_reducible rfl))
  simp only [gt6, Act.put]
  refine tkA 9 ?_ rfl ?_ (by assumption) ?_; rotate_left; focus (intro U hU; (try dsimp only at hU); go_simp; try (with_reducible rfl))
  simp only [gt6, Act.put]
  refine tkA 10 ?_ rfl ?_ (by assumption) ?_; rotate_left; focus (intro U hU; (try dsimp only at hU); go_simp; try (with_reducible rfl))
  simp only [gt6, Act.put]
  refine wpAnyH_done (by kernel_rfl) ?_ _
  have HB5 := hid hk1
  have HY := hid hy
  clear hHeld hS hk0 hk1 hy HST
  rw [HWY.out] at HY
  simp only [HWY.out]
  have HX5 := hid (keep0 HX1.out HB5.out)
  have HL5 := hid (HL1.out.below HB5.out)
  have HBW : Hid (Below W.heap.size W k1) := hid ((HNN.out ▸ HB1.out).trans (HB5.out.mono (by have := HNN.out; omega)))
  have HB0 := hid (HW0.out.trans (HBW.out.mono HW0.out.size))
  have HTX5 := hid (HTX.out.below HBW.out)
  have hNk : N < k1.heap.size := lt_of_block HX5.out
  obtain ⟨hys, hyp⟩ := HY.out rfl
  have HYS := hid hys
  have HBK : Hid (BkX W0 k1 A8 c8 ys) := hid (fun T w2 hT hty hb9 => hyp T w2 hT hty (HL5.out.2.2.1 T w2 hT hty hb9) (HX0.out.below hb9))
  clear hys hyp HY HX1 HL1 HB5 HTX
  obtain ⟨p0, p1, p2, p3, p4, p5, p6⟩ := seven_cells HX5.out
  obtain ⟨⟨q0, q1, q2⟩, _⟩ := three_cells HL5.out.1
  go_upto_region 6 with (fail)
  have cK := reg (w := k1) (fun W' hW => HKP.out W' (HL5.out.below hW) (HB0.out.trans (hW.mono HB0.out.size)))
  have cM := reg (w := k1) (fun W' hW => HMO.out W' (HTX5.out.below hW))
  replace p0 := cell_regrown p0
  replace p1 := cell_regrown p1
  replace p6 := cell_regrown p6
  replace q2 := cell_regrown q2
  refine wp_region_quiet_below (by kernel_rfl) (by kernel_rfl) ?_
  repeat (go_big_quiet_step (first | (go_at_call 22; with_reducible exact cK _ _) | (go_at_call 39; with_reducible exact cM _ _)))
  refine wpQuiet_nil ?_
  intro _ hw9
  obtain ⟨⟨dq, osq⟩, hw8⟩ := hw9
  subst hw8
  refine at_world (fun u => Below k1.heap.size k1 u) (below_regrown k1 dq osq) ?_
  rintro k6 hbq
  clear cK cM p0 p1 p2 p3 p4 p5 p6 q0 q1 q2 HKP HMO
  have HX6 := hid (keep0 HX5.out hbq)
  have HL6 := hid (HL5.out.below hbq)
  have HBK6 := hid (HBK.out.below hbq)
  have HBW6 := hid (HBW.out.trans (hbq.mono HBW.out.size))
  have HB6 := hid (HB0.out.trans (hbq.mono HB0.out.size))
  clear hbq HX5 HL5 HBK HBW HB0 HTX5
  have hN6 : N < k6.heap.size := lt_of_block HX6.out
  have hNM : ¬ (N = M ∨ N = G) := fun h9 => h9.elim (blk_neL HX6.out HL6.out.2.1.2.1 (by decide)) (blk_neL HX6.out HL6.out.2.1.1 (by decide))
  have hHM : ¬ (H = M ∨ H = G) := fun h9 => h9.elim (blk_neL HL6.out.1 HL6.out.2.1.2.1 (by decide)) (blk_neL HL6.out.1 HL6.out.2.1.1 (by decide))
  go_upto_region 8 with (fail)
  have hS : ∀ U, Tch (fun g => g = M ∨ g = G) k6 U → ((U.cell? ⟨H, 0, none⟩ = some (.pointer (some ⟨G, 0, none⟩)) ∧ (U.cell? ⟨N, 0, none⟩ = some (.int .i64 1) ∧ U.cell? ⟨N, 1, none⟩ = some (.int .i64 j) ∧ U.cell? ⟨N, 2, none⟩ = some (.int .i64 t) ∧ U.cell? ⟨N, 3, none⟩ = some (.int .i64 wk) ∧ U.cell? ⟨N, 4, none⟩ = some (.int .i64 s) ∧ U.cell? ⟨N, 5, none⟩ = some (.int .i64 ep) ∧ U.cell? ⟨N, 6, none⟩ = some (.slice Ax ns.length cx))) ∧ Tch (fun g => g = M ∨ g = G) k6 U) := fun U hU => ⟨⟨(three_cells (hU.block HL6.out.1 hHM)).1.1, seven_cells (hU.block HX6.out hNM)⟩, hU⟩
  have hk9 : Below k6.heap.size k6 k6.drew := below_drew (Below.refl _ _)
  have HSZ : Hid (k6.heap.size ≤ k6.drew.heap.size) := hid hk9.size
  have hk0 : Tch (fun g => g = M ∨ g = G) k6 k6.drew := Tch.of_below hk9
  refine wp_region_held_drew (S := fun U => (U.cell? ⟨H, 0, none⟩ = some (.pointer (some ⟨G, 0, none⟩)) ∧ (U.cell? ⟨N, 0, none⟩ = some (.int .i64 1) ∧ U.cell? ⟨N, 1, none⟩ = some (.int .i64 j) ∧ U.cell? ⟨N, 2, none⟩ = some (.int .i64 t) ∧ U.cell? ⟨N, 3, none⟩ = some (.int .i64 wk) ∧ U.cell? ⟨N, 4, none⟩ = some (.int .i64 s) ∧ U.cell? ⟨N, 5, none⟩ = some (.int .i64 ep) ∧ U.cell? ⟨N, 6, none⟩ = some (.slice Ax ns.length cx))) ∧ Tch (fun g => g = M ∨ g = G) k6 U) (by kernel_rfl) (hS _ hk0) (fun hHeld => ?_)
  generalize k6.drew = k0 at *
  refine tkA 0 ?_ rfl ?_ (by assumption) ?_; rotate_left; focus (intro U hU; (try dsimp only at hU); go_simp; try (with_reducible rfl))
  simp only [gt6, Act.put]
  refine tkA 1 ?_ rfl ?_ (by assumption) ?_; rotate_left; focus (intro U hU; (try dsimp only at hU); go_simp; try (with_reducible rfl))
  simp only [gt6, Act.put]
  refine tkA 2 ?_ rfl ?_ (by assumption) ?_; rotate_left; focus (intro U hU; (try dsimp only at hU); go_simp; try (with_reducible rfl))
  simp only [gt6, Act.put]
  refine tkA 3 ?_ rfl ?_ (by assumption) ?_; rotate_left; focus (intro U hU; (try dsimp only at hU); go_simp; try (with_reducible rfl))
  simp only [gt6, Act.put]
  refine tkA 4 ?_ rfl ?_ (by assumption) ?_; rotate_left; focus (intro U hU; (try dsimp only at hU); go_simp; try (with_reducible rfl))
  simp only [gt6, Act.put]
  refine wpAnyH_ready (rs := [5]) (by kernel_rfl) (by simp) ?_
  refine AllReadyH.cons rfl (fun K hK => ?_) AllReadyH.nil
  simp only [gt3]
  go_simp
  refine (HAP.out k0 (HL6.out.2.1.keep hk9) (HB6.out.trans (hk9.mono HB6.out.size)) (by have h7 := HBW6.out.size; have h8 := hk9.size; omega)).mono ?_
  rintro q w4 ⟨rfl, A4, c4, els4, hem, hrn, hto, hob⟩
  have hk4 : Tch (fun g => g = M ∨ g = G) k6 w4 := hk0.trans hto (fun g hg _ => hg)
  clear hto
  go_wp2_with fail
  refine hK.out _ _ ?_ (fun hHeld2 => ?_)
  focus
    exact hS _ hk4
  clear hHeld
  have hHeld := hHeld2
  clear hHeld2 hK K
  try simp only [gt6, Act.put]
  refine tkA 6 ?_ rfl ?_ (by assumption) ?_; rotate_left; focus (intro U hU; (try dsimp only at hU); go_simp; try (with_reducible rfl))
  simp only [gt6, Act.put]
  refine wpAnyH_done (by kernel_rfl) ?_ _
  have HEM := hid hem
  have HRN := hid hrn
  have HT4 := hid ((Tch.of_below (S := fun g => g = M ∨ g = G ∨ g = H) HBW6.out).trans hk4 (fun g hg _ => hg.elim .inl (fun h9 => .inr (.inl h9))))
  have HOB := hid hob
  have HRL := hid (rput_er HL6.out hk4 hrn)
  clear hHeld hS hk0 hk4 hk9 hem hrn hob
  go_wp2
  go_ret
  exact ⟨rfl, A4, c4, els4, Ab, cb, xs, HRL.out, rfl, HEM.out, HT4.out, HOB.out.imp id (fun h9 g hg => (by have h7 := HBW6.out.size; have h8 := HSZ.out; have h6 := h9 g hg; have h5 := HNN.out; omega))⟩

set_option maxRecDepth 20000 in
set_option maxHeartbeats 4000000 in
theorem r21put_k1 {b H G M R room : Nat} {l : List UInt8} {fu : Int} {A : Option Addr} {c : Nat} {els : List El} {down : Bool} {Ab : Option Addr} {cb : Nat} {xs : List Ee} (x : Rc) (Ax : Option Addr) (cx : Nat) (W0 W : World) (h : RlAt W0 W b H G M R room l fu A c els down Ab cb xs) (hx0 : TxAt W0 Ax cx x.ns) (hW0 : Below W0.heap.size W0 W) (hb : b ≤ W.heap.size) (hr : room ≤ 65536) (hl : l.length ≤ room) (hn : els.length ≤ 100000) (hR : R ≤ 65536) (hd : down = false) (hw : whyB (xs.map (·.1)) x = 0) (hk : x.k = 1) (hf : ¬ R < kepB (xs.map (·.1)) + mostR x.j 0 x.ns) (hz : anE room l (decide (0 ≤ fu)) false x = 0) :
    Calls Tryz.prog 14 #[.pointer (some ⟨H, 0, none⟩), .agg (rcc x Ax cx)] W (RpuR W0 W b H G M R room l fu A c els down xs x) := by
  have hx : TxAt W Ax cx x.ns := hx0.below hW0
  have HL := hid h
  subst hd
  have hd' : ¬ (false = true) := by simp
  have hw' : ¬ whyB (xs.map (·.1)) x ≠ 0 := fun h9 => h9 hw
  have hf' : ¬ (x.k = 1 ∧ R < kepB (xs.map (·.1)) + mostR x.j 0 x.ns) := fun h9 => absurd h9.2 (by omega)
  have HV : Hid (lgE (rlS R room l fu fu.toNat false (xs.map (·.1))) (xs.map (·.1)) x = anE room l (decide (0 ≤ fu)) false x ∧ (lgN (rlS R room l fu fu.toNat false (xs.map (·.1))) (xs.map (·.1)) x).l = anB room l (decide (0 ≤ fu)) fu.toNat false x ∧ (lgN (rlS R room l fu fu.toNat false (xs.map (·.1))) (xs.map (·.1)) x).down = (if anE room l (decide (0 ≤ fu)) false x = 14 then true else false) ∧ puF R room l fu false (xs.map (·.1)) x = anF room l fu false x) := hid ⟨(if_neg hd').trans ((if_neg hw').trans (if_neg hf')), congrArg LgS.l ((if_neg hd').trans ((if_neg hw').trans (if_neg hf'))), congrArg LgS.down ((if_neg hd').trans ((if_neg hw').trans (if_neg hf'))), (if_neg hd').trans ((if_neg hw').trans (if_neg hf'))⟩
  unfold RpuR
  rw [HV.out.1, HV.out.2.1, HV.out.2.2.1, HV.out.2.2.2]
  have HTX := hid hx
  have HX0 := hid hx0
  have HW0 := hid hW0
  have HOK : Hid (OkB (appB (xs.map (·.1)) x)) := hid (step_ok h.2.2.2 hw).1
  have hM := most_le x.j 0 x.ns
  have HKP := hid (fun w (hw9 : RlAt W0 w b H G M R room l fu A c els false Ab cb xs) (hb9 : Below W0.heap.size W0 w) => r21kept_any w hw9 hb9)
  have HMO := hid (fun w (h2 : TxAt w Ax cx x.ns) => r17most_any x.j 0 x.ns Ax cx w h2)
  have hkk : kepB (xs.map (·.1)) ≤ 400000 := by
    have h9 := kepB_le (xs.map (·.1))
    have h8 := h.2.2.2.1
    omega
  have HAP := hid (fun w (h1 : RnAt W0 w b G M room l fu A c els false) (h3 : Below W0.heap.size W0 w) (h4 : b ≤ w.heap.size) => r19append_any x Ax cx W0 w h1 hx0 h3 h4 (blk_neL h.2.1.1 h.2.1.2.1 (by decide)) hr hl hn)
  unfold RapR at HAP
  rw [hz] at HAP ⊢
  simp only [show ¬ ((0 : Int) = 14) by decide, if_false, if_true] at HAP ⊢
  generalize anB room l (decide (0 ≤ fu)) fu.toNat false x = l2 at *
  generalize anF room l fu false x = fu2 at *
  have HWY := hid hw
  clear h hx hx0 hW0 HV hw hw' hd' hf' hz
  generalize mostR x.j 0 x.ns = m at *
  have hff : ¬ (R : Int) < ((kepB (xs.map (·.1)) : Nat) : Int) + (m : Int) := by omega
  have hwr := wrap_sumN (kepB (xs.map (·.1))) m hkk hM
  obtain ⟨k, j, t, wk, s, ep, ns⟩ := x
  simp only [rcc] at *
  obtain rfl : k = 1 := hk
  go_enter Tryz.func14, Tryz.ntmps14
  go_upto_region 1 with (fail)
  refine at_world (fun u => u.heap[W.heap.size]? = some (.cells #[.int .i64 1, .int .i64 j, .int .i64 t, .int .i64 wk, .int .i64 s, .int .i64 ep, .slice Ax ns.length cx] 46 (0, 0)) ∧ Below W.heap.size W u) ⟨heap_alloc_new _ _, (Below.refl _ _).alloc (Nat.le_refl _) _⟩ ?_
  rintro w1 ⟨hx1, hb1⟩
  have HX1 := hid hx1
  have HB1 := hid hb1
  have HL1 := hid (HL.out.below hb1)
  clear hx1 hb1
  obtain ⟨⟨q0, q1, q2⟩, _⟩ := three_cells HL1.out.1
  obtain ⟨⟨r0, r1, r2⟩, _⟩ := three_cellsA HL1.out.2.1.1
  have HST := hid (fun U (hU : Below w1.heap.size w1 U) => r20stepB Ab cb xs _ rfl (Rc.mk 1 j t wk s ep ns) Ax cx U (HL1.out.2.2.1.now (HW0.out.trans (HB1.out.mono HW0.out.size)) |>.below hU) ((HTX.out.below HB1.out).below hU) (by have := okB_len HL1.out.2.2.2; omega) (okB_sm HL1.out.2.2.2))
  simp only [rcc] at HST
  go_upto_region 3 with (fail)
  have hNl : W.heap.size < w1.heap.size := lt_of_block HX1.out
  generalize hNN : W.heap.size = N at *
  have HNN := hid hNN
  clear hNN q0 q1 q2 r0 r1 r2
  have hS : ∀ U, Below w1.heap.size w1 U → ((U.cell? ⟨H, 1, none⟩ = some (.slice Ab xs.length cb) ∧ (U.cell? ⟨N, 0, none⟩ = some (.int .i64 1) ∧ U.cell? ⟨N, 1, none⟩ = some (.int .i64 j) ∧ U.cell? ⟨N, 2, none⟩ = some (.int .i64 t) ∧ U.cell? ⟨N, 3, none⟩ = some (.int .i64 wk) ∧ U.cell? ⟨N, 4, none⟩ = some (.int .i64 s) ∧ U.cell? ⟨N, 5, none⟩ = some (.int .i64 ep) ∧ U.cell? ⟨N, 6, none⟩ = some (.slice Ax ns.length cx))) ∧ Below w1.heap.size w1 U) := fun U hU => ⟨⟨(three_cells (keep0 HL1.out.1 hU)).1.2.1, seven_cells (keep0 HX1.out hU)⟩, hU⟩
  have hk0 : Below w1.heap.size w1 w1.drew := below_drew (Below.refl _ _)
  refine wp_region_held_drew (S := fun U => (U.cell? ⟨H, 1, none⟩ = some (.slice Ab xs.length cb) ∧ (U.cell? ⟨N, 0, none⟩ = some (.int .i64 1) ∧ U.cell? ⟨N, 1, none⟩ = some (.int .i64 j) ∧ U.cell? ⟨N, 2, none⟩ = some (.int .i64 t) ∧ U.cell? ⟨N, 3, none⟩ = some (.int .i64 wk) ∧ U.cell? ⟨N, 4, none⟩ = some (.int .i64 s) ∧ U.cell? ⟨N, 5, none⟩ = some (.int .i64 ep) ∧ U.cell? ⟨N, 6, none⟩ = some (.slice Ax ns.length cx))) ∧ Below w1.heap.size w1 U) (by kernel_rfl) (hS _ hk0) (fun hHeld => ?_)
  generalize w1.drew = k0 at *
  refine tkA 0 ?_ rfl ?_ (by assumption) ?_; rotate_left; focus (intro U hU; (try dsimp only at hU); go_simp; try (with_reducible rfl))
  simp only [gt6, Act.put]
  refine tkA 1 ?_ rfl ?_ (by assumption) ?_; rotate_left; focus (intro U hU; (try dsimp only at hU); go_simp; try (with_reducible rfl))
  simp only [gt6, Act.put]
  refine tkA 2 ?_ rfl ?_ (by assumption) ?_; rotate_left; focus (intro U hU; (try dsimp only at hU); go_simp; try (with_reducible rfl))
  simp only [gt6, Act.put]
  refine tkA 3 ?_ rfl ?_ (by assumption) ?_; rotate_left; focus (intro U hU; (try dsimp only at hU); go_simp; try (with_reducible rfl))
  simp only [gt6, Act.put]
  refine tkA 4 ?_ rfl ?_ (by assumption) ?_; rotate_left; focus (intro U hU; (try dsimp only at hU); go_simp; try (with_reducible rfl))
  simp only [gt6, Act.put]
  refine wpAnyH_ready (rs := [5]) (by kernel_rfl) (by simp) ?_
  refine AllReadyH.cons rfl (fun K hK => ?_) AllReadyH.nil
  simp only [gt3]
  go_simp
  refine (HST.out k0 hk0).mono ?_
  rintro q k1 ⟨A8, c8, ys, rfl, hy, hb8⟩
  have hk1 := hk0.trans (hb8.mono hk0.size)
  clear hb8
  go_wp2_with fail
  refine hK.out _ _ ?_ (fun hHeld2 => ?_)
  focus
    exact hS _ hk1
  clear hHeld
  have hHeld := hHeld2
  clear hHeld2 hK K
  try simp only [gt6, Act.put]
  refine tkA 6 ?_ rfl ?_ (by assumption) ?_; rotate_left; focus (intro U hU; (try dsimp only at hU); go_simp; try (with_reducible rfl))
  simp only [gt6, Act.put]
  refine tkA 7 ?_ rfl ?_ (by assumption) ?_; rotate_left; focus (intro U hU; (try dsimp only at hU); go_simp; try (with_reducible rfl))
  simp only [gt6, Act.put]
  refine tkA 8 ?_ rfl ?_ (by assumption) ?_; rotate_left; focus (intro U hU; (try dsimp only at hU); go_simp; try (with_reducible rfl))
  simp only [gt6, Act.put]
  refine tkA 9 ?_ rfl ?_ (by assumption) ?_; rotate_left; focus (intro U hU; (try dsimp only at hU); go_simp; try (with_reducible rfl))
  simp only [gt6, Act.put]
  refine tkA 10 ?_ rfl ?_ (by assumption) ?_; rotate_left; focus (intro U hU; (try dsimp only at hU); go_simp; try (with_reducible rfl))
  simp only [gt6, Act.put]
  refine wpAnyH_done (by kernel_rfl) ?_ _
  have HB5 := hid hk1
  have HY := hid hy
  clear hHeld hS hk0 hk1 hy HST
  rw [HWY.out] at HY
  simp only [HWY.out]
  have HX5 := hid (keep0 HX1.out HB5.out)
  have HL5 := hid (HL1.out.below HB5.out)
  have HBW : Hid (Below W.heap.size W k1) := hid ((HNN.out ▸ HB1.out).trans (HB5.out.mono (by have := HNN.out; omega)))
  have HB0 := hid (HW0.out.trans (HBW.out.mono HW0.out.size))
  have HTX5 := hid (HTX.out.below HBW.out)
  have hNk : N < k1.heap.size := lt_of_block HX5.out
  obtain ⟨hys, hyp⟩ := HY.out rfl
  have HYS := hid hys
  have HBK : Hid (BkX W0 k1 A8 c8 ys) := hid (fun T w2 hT hty hb9 => hyp T w2 hT hty (HL5.out.2.2.1 T w2 hT hty hb9) (HX0.out.below hb9))
  clear hys hyp HY HX1 HL1 HB5 HTX
  obtain ⟨p0, p1, p2, p3, p4, p5, p6⟩ := seven_cells HX5.out
  obtain ⟨⟨q0, q1, q2⟩, _⟩ := three_cells HL5.out.1
  go_upto_region 6 with (fail)
  have cK := reg (w := k1) (fun W' hW => HKP.out W' (HL5.out.below hW) (HB0.out.trans (hW.mono HB0.out.size)))
  have cM := reg (w := k1) (fun W' hW => HMO.out W' (HTX5.out.below hW))
  replace p0 := cell_regrown p0
  replace p1 := cell_regrown p1
  replace p6 := cell_regrown p6
  replace q2 := cell_regrown q2
  refine wp_region_quiet_below (by kernel_rfl) (by kernel_rfl) ?_
  repeat (go_big_quiet_step (first | (go_at_call 22; with_reducible exact cK _ _) | (go_at_call 39; with_reducible exact cM _ _)))
  refine wpQuiet_nil ?_
  intro _ hw9
  obtain ⟨⟨dq, osq⟩, hw8⟩ := hw9
  subst hw8
  refine at_world (fun u => Below k1.heap.size k1 u) (below_regrown k1 dq osq) ?_
  rintro k6 hbq
  clear cK cM p0 p1 p2 p3 p4 p5 p6 q0 q1 q2 HKP HMO
  have HX6 := hid (keep0 HX5.out hbq)
  have HL6 := hid (HL5.out.below hbq)
  have HBK6 := hid (HBK.out.below hbq)
  have HBW6 := hid (HBW.out.trans (hbq.mono HBW.out.size))
  have HB6 := hid (HB0.out.trans (hbq.mono HB0.out.size))
  clear hbq HX5 HL5 HBK HBW HB0 HTX5
  have hN6 : N < k6.heap.size := lt_of_block HX6.out
  have hNM : ¬ (N = M ∨ N = G) := fun h9 => h9.elim (blk_neL HX6.out HL6.out.2.1.2.1 (by decide)) (blk_neL HX6.out HL6.out.2.1.1 (by decide))
  have hHM : ¬ (H = M ∨ H = G) := fun h9 => h9.elim (blk_neL HL6.out.1 HL6.out.2.1.2.1 (by decide)) (blk_neL HL6.out.1 HL6.out.2.1.1 (by decide))
  go_upto_region 8 with (fail)
  have hS : ∀ U, Tch (fun g => g = M ∨ g = G) k6 U → ((U.cell? ⟨H, 0, none⟩ = some (.pointer (some ⟨G, 0, none⟩)) ∧ (U.cell? ⟨N, 0, none⟩ = some (.int .i64 1) ∧ U.cell? ⟨N, 1, none⟩ = some (.int .i64 j) ∧ U.cell? ⟨N, 2, none⟩ = some (.int .i64 t) ∧ U.cell? ⟨N, 3, none⟩ = some (.int .i64 wk) ∧ U.cell? ⟨N, 4, none⟩ = some (.int .i64 s) ∧ U.cell? ⟨N, 5, none⟩ = some (.int .i64 ep) ∧ U.cell? ⟨N, 6, none⟩ = some (.slice Ax ns.length cx))) ∧ Tch (fun g => g = M ∨ g = G) k6 U) := fun U hU => ⟨⟨(three_cells (hU.block HL6.out.1 hHM)).1.1, seven_cells (hU.block HX6.out hNM)⟩, hU⟩
  have hk9 : Below k6.heap.size k6 k6.drew := below_drew (Below.refl _ _)
  have HSZ : Hid (k6.heap.size ≤ k6.drew.heap.size) := hid hk9.size
  have hk0 : Tch (fun g => g = M ∨ g = G) k6 k6.drew := Tch.of_below hk9
  refine wp_region_held_drew (S := fun U => (U.cell? ⟨H, 0, none⟩ = some (.pointer (some ⟨G, 0, none⟩)) ∧ (U.cell? ⟨N, 0, none⟩ = some (.int .i64 1) ∧ U.cell? ⟨N, 1, none⟩ = some (.int .i64 j) ∧ U.cell? ⟨N, 2, none⟩ = some (.int .i64 t) ∧ U.cell? ⟨N, 3, none⟩ = some (.int .i64 wk) ∧ U.cell? ⟨N, 4, none⟩ = some (.int .i64 s) ∧ U.cell? ⟨N, 5, none⟩ = some (.int .i64 ep) ∧ U.cell? ⟨N, 6, none⟩ = some (.slice Ax ns.length cx))) ∧ Tch (fun g => g = M ∨ g = G) k6 U) (by kernel_rfl) (hS _ hk0) (fun hHeld => ?_)
  generalize k6.drew = k0 at *
  refine tkA 0 ?_ rfl ?_ (by assumption) ?_; rotate_left; focus (intro U hU; (try dsimp only at hU); go_simp; try (with_reducible rfl))
  simp only [gt6, Act.put]
  refine tkA 1 ?_ rfl ?_ (by assumption) ?_; rotate_left; focus (intro U hU; (try dsimp only at hU); go_simp; try (with_reducible rfl))
  simp only [gt6, Act.put]
  refine tkA 2 ?_ rfl ?_ (by assumption) ?_; rotate_left; focus (intro U hU; (try dsimp only at hU); go_simp; try (with_reducible rfl))
  simp only [gt6, Act.put]
  refine tkA 3 ?_ rfl ?_ (by assumption) ?_; rotate_left; focus (intro U hU; (try dsimp only at hU); go_simp; try (with_reducible rfl))
  simp only [gt6, Act.put]
  refine tkA 4 ?_ rfl ?_ (by assumption) ?_; rotate_left; focus (intro U hU; (try dsimp only at hU); go_simp; try (with_reducible rfl))
  simp only [gt6, Act.put]
  refine wpAnyH_ready (rs := [5]) (by kernel_rfl) (by simp) ?_
  refine AllReadyH.cons rfl (fun K hK => ?_) AllReadyH.nil
  simp only [gt3]
  go_simp
  refine (HAP.out k0 (HL6.out.2.1.keep hk9) (HB6.out.trans (hk9.mono HB6.out.size)) (by have h7 := HBW6.out.size; have h8 := hk9.size; omega)).mono ?_
  rintro q w4 ⟨rfl, A4, c4, els4, hem, hrn, hto, hob⟩
  have hk4 : Tch (fun g => g = M ∨ g = G) k6 w4 := hk0.trans hto (fun g hg _ => hg)
  clear hto
  go_wp2_with fail
  refine hK.out _ _ ?_ (fun hHeld2 => ?_)
  focus
    exact hS _ hk4
  clear hHeld
  have hHeld := hHeld2
  clear hHeld2 hK K
  try simp only [gt6, Act.put]
  refine tkA 6 ?_ rfl ?_ (by assumption) ?_; rotate_left; focus (intro U hU; (try dsimp only at hU); go_simp; try (with_reducible rfl))
  simp only [gt6, Act.put]
  refine wpAnyH_done (by kernel_rfl) ?_ _
  have HEM := hid hem
  have HRN := hid hrn
  have HT4 := hid ((Tch.of_below (S := fun g => g = M ∨ g = G ∨ g = H) HBW6.out).trans hk4 (fun g hg _ => hg.elim .inl (fun h9 => .inr (.inl h9))))
  have HOB := hid hob
  have HRL := hid (rput_ok HL6.out HBK6.out (HYS.out ▸ HOK.out) hk4 hrn)
  obtain ⟨⟨q0, q1, q2⟩, q3, q4, q5⟩ := three_cellsA (hk4.block HL6.out.1 hHM)
  clear hHeld hS hk0 hk4 hk9 hem hrn hob
  go_wp2
  go_ret
  exact ⟨rfl, A4, c4, els4, A8, c8, ys, HRL.out, HYS.out, HEM.out, HT4.out.set H 1 _ (fun _ => .inr (.inr rfl)), HOB.out.imp id (fun h9 g hg => (by have h7 := HBW6.out.size; have h8 := HSZ.out; have h6 := h9 g hg; have h5 := HNN.out; omega))⟩

set_option maxRecDepth 20000 in
set_option maxHeartbeats 4000000 in
theorem r21put_e0 {b H G M R room : Nat} {l : List UInt8} {fu : Int} {A : Option Addr} {c : Nat} {els : List El} {down : Bool} {Ab : Option Addr} {cb : Nat} {xs : List Ee} (x : Rc) (Ax : Option Addr) (cx : Nat) (W0 W : World) (h : RlAt W0 W b H G M R room l fu A c els down Ab cb xs) (hx0 : TxAt W0 Ax cx x.ns) (hW0 : Below W0.heap.size W0 W) (hb : b ≤ W.heap.size) (hr : room ≤ 65536) (hl : l.length ≤ room) (hn : els.length ≤ 100000) (hR : R ≤ 65536) (hd : down = false) (hw : whyB (xs.map (·.1)) x = 0) (hk : ¬ x.k = 1)  (hz : ¬ anE room l (decide (0 ≤ fu)) false x = 0) :
    Calls Tryz.prog 14 #[.pointer (some ⟨H, 0, none⟩), .agg (rcc x Ax cx)] W (RpuR W0 W b H G M R room l fu A c els down xs x) := by
  have hx : TxAt W Ax cx x.ns := hx0.below hW0
  have HL := hid h
  subst hd
  have hd' : ¬ (false = true) := by simp
  have hw' : ¬ whyB (xs.map (·.1)) x ≠ 0 := fun h9 => h9 hw
  have hf' : ¬ (x.k = 1 ∧ R < kepB (xs.map (·.1)) + mostR x.j 0 x.ns) := fun h9 => hk h9.1
  have HV : Hid (lgE (rlS R room l fu fu.toNat false (xs.map (·.1))) (xs.map (·.1)) x = anE room l (decide (0 ≤ fu)) false x ∧ (lgN (rlS R room l fu fu.toNat false (xs.map (·.1))) (xs.map (·.1)) x).l = anB room l (decide (0 ≤ fu)) fu.toNat false x ∧ (lgN (rlS R room l fu fu.toNat false (xs.map (·.1))) (xs.map (·.1)) x).down = (if anE room l (decide (0 ≤ fu)) false x = 14 then true else false) ∧ puF R room l fu false (xs.map (·.1)) x = anF room l fu false x) := hid ⟨(if_neg hd').trans ((if_neg hw').trans (if_neg hf')), congrArg LgS.l ((if_neg hd').trans ((if_neg hw').trans (if_neg hf'))), congrArg LgS.down ((if_neg hd').trans ((if_neg hw').trans (if_neg hf'))), (if_neg hd').trans ((if_neg hw').trans (if_neg hf'))⟩
  unfold RpuR
  rw [HV.out.1, HV.out.2.1, HV.out.2.2.1, HV.out.2.2.2]
  have HTX := hid hx
  have HX0 := hid hx0
  have HW0 := hid hW0
  have HOK : Hid (OkB (appB (xs.map (·.1)) x)) := hid (step_ok h.2.2.2 hw).1
  have HAP := hid (fun w (h1 : RnAt W0 w b G M room l fu A c els false) (h3 : Below W0.heap.size W0 w) (h4 : b ≤ w.heap.size) => r19append_any x Ax cx W0 w h1 hx0 h3 h4 (blk_neL h.2.1.1 h.2.1.2.1 (by decide)) hr hl hn)
  unfold RapR at HAP
  rw [if_neg hz, if_neg hz]
  simp only [if_neg hz] at HAP
  generalize anE room l (decide (0 ≤ fu)) false x = ev at *
  generalize (if ev = 14 then true else false) = dn9 at *
  have hev : (ev != 0) = true := by simpa using hz
  generalize anB room l (decide (0 ≤ fu)) fu.toNat false x = l2 at *
  generalize anF room l fu false x = fu2 at *
  have HWY := hid hw
  clear h hx hx0 hW0 HV hw hw' hd' hf'
  obtain ⟨k, j, t, wk, s, ep, ns⟩ := x
  simp only [rcc] at *
  have hk1 : (k == 1) = false := by simpa using hk
  have hk2 : decide (k = 1) = false := by simpa using hk
  go_enter Tryz.func14, Tryz.ntmps14
  go_upto_region 1 with (fail)
  refine at_world (fun u => u.heap[W.heap.size]? = some (.cells #[.int .i64 k, .int .i64 j, .int .i64 t, .int .i64 wk, .int .i64 s, .int .i64 ep, .slice Ax ns.length cx] 46 (0, 0)) ∧ Below W.heap.size W u) ⟨heap_alloc_new _ _, (Below.refl _ _).alloc (Nat.le_refl _) _⟩ ?_
  rintro w1 ⟨hx1, hb1⟩
  have HX1 := hid hx1
  have HB1 := hid hb1
  have HL1 := hid (HL.out.below hb1)
  clear hx1 hb1
  obtain ⟨⟨q0, q1, q2⟩, _⟩ := three_cells HL1.out.1
  obtain ⟨⟨r0, r1, r2⟩, _⟩ := three_cellsA HL1.out.2.1.1
  have HST := hid (fun U (hU : Below w1.heap.size w1 U) => r20stepB Ab cb xs _ rfl (Rc.mk k j t wk s ep ns) Ax cx U (HL1.out.2.2.1.now (HW0.out.trans (HB1.out.mono HW0.out.size)) |>.below hU) ((HTX.out.below HB1.out).below hU) (by have := okB_len HL1.out.2.2.2; omega) (okB_sm HL1.out.2.2.2))
  simp only [rcc] at HST
  go_upto_region 3 with (fail)
  have hNl : W.heap.size < w1.heap.size := lt_of_block HX1.out
  generalize hNN : W.heap.size = N at *
  have HNN := hid hNN
  clear hNN q0 q1 q2 r0 r1 r2
  have hS : ∀ U, Below w1.heap.size w1 U → ((U.cell? ⟨H, 1, none⟩ = some (.slice Ab xs.length cb) ∧ (U.cell? ⟨N, 0, none⟩ = some (.int .i64 k) ∧ U.cell? ⟨N, 1, none⟩ = some (.int .i64 j) ∧ U.cell? ⟨N, 2, none⟩ = some (.int .i64 t) ∧ U.cell? ⟨N, 3, none⟩ = some (.int .i64 wk) ∧ U.cell? ⟨N, 4, none⟩ = some (.int .i64 s) ∧ U.cell? ⟨N, 5, none⟩ = some (.int .i64 ep) ∧ U.cell? ⟨N, 6, none⟩ = some (.slice Ax ns.length cx))) ∧ Below w1.heap.size w1 U) := fun U hU => ⟨⟨(three_cells (keep0 HL1.out.1 hU)).1.2.1, seven_cells (keep0 HX1.out hU)⟩, hU⟩
  have hk0 : Below w1.heap.size w1 w1.drew := below_drew (Below.refl _ _)
  refine wp_region_held_drew (S := fun U => (U.cell? ⟨H, 1, none⟩ = some (.slice Ab xs.length cb) ∧ (U.cell? ⟨N, 0, none⟩ = some (.int .i64 k) ∧ U.cell? ⟨N, 1, none⟩ = some (.int .i64 j) ∧ U.cell? ⟨N, 2, none⟩ = some (.int .i64 t) ∧ U.cell? ⟨N, 3, none⟩ = some (.int .i64 wk) ∧ U.cell? ⟨N, 4, none⟩ = some (.int .i64 s) ∧ U.cell? ⟨N, 5, none⟩ = some (.int .i64 ep) ∧ U.cell? ⟨N, 6, none⟩ = some (.slice Ax ns.length cx))) ∧ Below w1.heap.size w1 U) (by kernel_rfl) (hS _ hk0) (fun hHeld => ?_)
  generalize w1.drew = k0 at *
  refine tkA 0 ?_ rfl ?_ (by assumption) ?_; rotate_left; focus (intro U hU; (try dsimp only at hU); go_simp; try (with_reducible rfl))
  simp only [gt6, Act.put]
  refine tkA 1 ?_ rfl ?_ (by assumption) ?_; rotate_left; focus (intro U hU; (try dsimp only at hU); go_simp; try (with_reducible rfl))
  simp only [gt6, Act.put]
  refine tkA 2 ?_ rfl ?_ (by assumption) ?_; rotate_left; focus (intro U hU; (try dsimp only at hU); go_simp; try (with_reducible rfl))
  simp only [gt6, Act.put]
  refine tkA 3 ?_ rfl ?_ (by assumption) ?_; rotate_left; focus (intro U hU; (try dsimp only at hU); go_simp; try (with_reducible rfl))
  simp only [gt6, Act.put]
  refine tkA 4 ?_ rfl ?_ (by assumption) ?_; rotate_left; focus (intro U hU; (try dsimp only at hU); go_simp; try (with_reducible rfl))
  simp only [gt6, Act.put]
  refine wpAnyH_ready (rs := [5]) (by kernel_rfl) (by simp) ?_
  refine AllReadyH.cons rfl (fun K hK => ?_) AllReadyH.nil
  simp only [gt3]
  go_simp
  refine (HST.out k0 hk0).mono ?_
  rintro q k1 ⟨A8, c8, ys, rfl, hy, hb8⟩
  have hk1 := hk0.trans (hb8.mono hk0.size)
  clear hb8
  go_wp2_with fail
  refine hK.out _ _ ?_ (fun hHeld2 => ?_)
  focus
    exact hS _ hk1
  clear hHeld
  have hHeld := hHeld2
  clear hHeld2 hK K
  try simp only [gt6, Act.put]
  refine tkA 6 ?_ rfl ?_ (by assumption) ?_; rotate_left; focus (intro U hU; (try dsimp only at hU); go_simp; try (with_reducible rfl))
  simp only [gt6, Act.put]
  refine tkA 7 ?_ rfl ?_ (by assumption) ?_; rotate_left; focus (intro U hU; (try dsimp only at hU); go_simp; try (with_reducible rfl))
  simp only [gt6, Act.put]
  refine tkA 8 ?_ rfl ?_ (by assumption) ?_; rotate_left; focus (intro U hU; (try dsimp only at hU); go_simp; try (with_reducible rfl))
  simp only [gt6, Act.put]
  refine tkA 9 ?_ rfl ?_ (by assumption) ?_; rotate_left; focus (intro U hU; (try dsimp only at hU); go_simp; try (with_reducible rfl))
  simp only [gt6, Act.put]
  refine tkA 10 ?_ rfl ?_ (by assumption) ?_; rotate_left; focus (intro U hU; (try dsimp only at hU); go_simp; try (with_reducible rfl))
  simp only [gt6, Act.put]
  refine wpAnyH_done (by kernel_rfl) ?_ _
  have HB5 := hid hk1
  have HY := hid hy
  clear hHeld hS hk0 hk1 hy HST
  rw [HWY.out] at HY
  simp only [HWY.out]
  have HX5 := hid (keep0 HX1.out HB5.out)
  have HL5 := hid (HL1.out.below HB5.out)
  have HBW : Hid (Below W.heap.size W k1) := hid ((HNN.out ▸ HB1.out).trans (HB5.out.mono (by have := HNN.out; omega)))
  have HB0 := hid (HW0.out.trans (HBW.out.mono HW0.out.size))
  have HTX5 := hid (HTX.out.below HBW.out)
  have hNk : N < k1.heap.size := lt_of_block HX5.out
  obtain ⟨hys, hyp⟩ := HY.out rfl
  have HYS := hid hys
  have HBK : Hid (BkX W0 k1 A8 c8 ys) := hid (fun T w2 hT hty hb9 => hyp T w2 hT hty (HL5.out.2.2.1 T w2 hT hty hb9) (HX0.out.below hb9))
  clear hys hyp HY HX1 HL1 HB5 HTX
  obtain ⟨p0, p1, p2, p3, p4, p5, p6⟩ := seven_cells HX5.out
  go_upto_region 6 with (fail)
  replace p0 := cell_regrown p0
  refine wp_region_quiet_below (by kernel_rfl) (by kernel_rfl) ?_
  repeat (go_big_quiet_step (fail))
  refine wpQuiet_nil ?_
  intro _ hw9
  obtain ⟨⟨dq, osq⟩, hw8⟩ := hw9
  subst hw8
  refine at_world (fun u => Below k1.heap.size k1 u) (below_regrown k1 dq osq) ?_
  rintro k6 hbq
  clear p0 p1 p2 p3 p4 p5 p6
  have HX6 := hid (keep0 HX5.out hbq)
  have HL6 := hid (HL5.out.below hbq)
  have HBK6 := hid (HBK.out.below hbq)
  have HBW6 := hid (HBW.out.trans (hbq.mono HBW.out.size))
  have HB6 := hid (HB0.out.trans (hbq.mono HB0.out.size))
  clear hbq HX5 HL5 HBK HBW HB0 HTX5
  have hN6 : N < k6.heap.size := lt_of_block HX6.out
  have hNM : ¬ (N = M ∨ N = G) := fun h9 => h9.elim (blk_neL HX6.out HL6.out.2.1.2.1 (by decide)) (blk_neL HX6.out HL6.out.2.1.1 (by decide))
  have hHM : ¬ (H = M ∨ H = G) := fun h9 => h9.elim (blk_neL HL6.out.1 HL6.out.2.1.2.1 (by decide)) (blk_neL HL6.out.1 HL6.out.2.1.1 (by decide))
  go_upto_region 8 with (fail)
  have hS : ∀ U, Tch (fun g => g = M ∨ g = G) k6 U → ((U.cell? ⟨H, 0, none⟩ = some (.pointer (some ⟨G, 0, none⟩)) ∧ (U.cell? ⟨N, 0, none⟩ = some (.int .i64 k) ∧ U.cell? ⟨N, 1, none⟩ = some (.int .i64 j) ∧ U.cell? ⟨N, 2, none⟩ = some (.int .i64 t) ∧ U.cell? ⟨N, 3, none⟩ = some (.int .i64 wk) ∧ U.cell? ⟨N, 4, none⟩ = some (.int .i64 s) ∧ U.cell? ⟨N, 5, none⟩ = some (.int .i64 ep) ∧ U.cell? ⟨N, 6, none⟩ = some (.slice Ax ns.length cx))) ∧ Tch (fun g => g = M ∨ g = G) k6 U) := fun U hU => ⟨⟨(three_cells (hU.block HL6.out.1 hHM)).1.1, seven_cells (hU.block HX6.out hNM)⟩, hU⟩
  have hk9 : Below k6.heap.size k6 k6.drew := below_drew (Below.refl _ _)
  have HSZ : Hid (k6.heap.size ≤ k6.drew.heap.size) := hid hk9.size
  have hk0 : Tch (fun g => g = M ∨ g = G) k6 k6.drew := Tch.of_below hk9
  refine wp_region_held_drew (S := fun U => (U.cell? ⟨H, 0, none⟩ = some (.pointer (some ⟨G, 0, none⟩)) ∧ (U.cell? ⟨N, 0, none⟩ = some (.int .i64 k) ∧ U.cell? ⟨N, 1, none⟩ = some (.int .i64 j) ∧ U.cell? ⟨N, 2, none⟩ = some (.int .i64 t) ∧ U.cell? ⟨N, 3, none⟩ = some (.int .i64 wk) ∧ U.cell? ⟨N, 4, none⟩ = some (.int .i64 s) ∧ U.cell? ⟨N, 5, none⟩ = some (.int .i64 ep) ∧ U.cell? ⟨N, 6, none⟩ = some (.slice Ax ns.length cx))) ∧ Tch (fun g => g = M ∨ g = G) k6 U) (by kernel_rfl) (hS _ hk0) (fun hHeld => ?_)
  generalize k6.drew = k0 at *
  refine tkA 0 ?_ rfl ?_ (by assumption) ?_; rotate_left; focus (intro U hU; (try dsimp only at hU); go_simp; try (with_reducible rfl))
  simp only [gt6, Act.put]
  refine tkA 1 ?_ rfl ?_ (by assumption) ?_; rotate_left; focus (intro U hU; (try dsimp only at hU); go_simp; try (with_reducible rfl))
  simp only [gt6, Act.put]
  refine tkA 2 ?_ rfl ?_ (by assumption) ?_; rotate_left; focus (intro U hU; (try dsimp only at hU); go_simp; try (with_reducible rfl))
  simp only [gt6, Act.put]
  refine tkA 3 ?_ rfl ?_ (by assumption) ?_; rotate_left; focus (intro U hU; (try dsimp only at hU); go_simp; try (with_reducible rfl))
  simp only [gt6, Act.put]
  refine tkA 4 ?_ rfl ?_ (by assumption) ?_; rotate_left; focus (intro U hU; (try dsimp only at hU); go_simp; try (with_reducible rfl))
  simp only [gt6, Act.put]
  refine wpAnyH_ready (rs := [5]) (by kernel_rfl) (by simp) ?_
  refine AllReadyH.cons rfl (fun K hK => ?_) AllReadyH.nil
  simp only [gt3]
  go_simp
  refine (HAP.out k0 (HL6.out.2.1.keep hk9) (HB6.out.trans (hk9.mono HB6.out.size)) (by have h7 := HBW6.out.size; have h8 := hk9.size; omega)).mono ?_
  rintro q w4 ⟨rfl, A4, c4, els4, hem, hrn, hto, hob⟩
  have hk4 : Tch (fun g => g = M ∨ g = G) k6 w4 := hk0.trans hto (fun g hg _ => hg)
  clear hto
  go_wp2_with fail
  refine hK.out _ _ ?_ (fun hHeld2 => ?_)
  focus
    exact hS _ hk4
  clear hHeld
  have hHeld := hHeld2
  clear hHeld2 hK K
  try simp only [gt6, Act.put]
  refine tkA 6 ?_ rfl ?_ (by assumption) ?_; rotate_left; focus (intro U hU; (try dsimp only at hU); go_simp; try (with_reducible rfl))
  simp only [gt6, Act.put]
  refine wpAnyH_done (by kernel_rfl) ?_ _
  have HEM := hid hem
  have HRN := hid hrn
  have HT4 := hid ((Tch.of_below (S := fun g => g = M ∨ g = G ∨ g = H) HBW6.out).trans hk4 (fun g hg _ => hg.elim .inl (fun h9 => .inr (.inl h9))))
  have HOB := hid hob
  have HRL := hid (rput_er HL6.out hk4 hrn)
  clear hHeld hS hk0 hk4 hk9 hem hrn hob
  go_wp2
  go_ret
  exact ⟨rfl, A4, c4, els4, Ab, cb, xs, HRL.out, rfl, HEM.out, HT4.out, HOB.out.imp id (fun h9 g hg => (by have h7 := HBW6.out.size; have h8 := HSZ.out; have h6 := h9 g hg; have h5 := HNN.out; omega))⟩

set_option maxRecDepth 20000 in
set_option maxHeartbeats 4000000 in
theorem r21put_k0 {b H G M R room : Nat} {l : List UInt8} {fu : Int} {A : Option Addr} {c : Nat} {els : List El} {down : Bool} {Ab : Option Addr} {cb : Nat} {xs : List Ee} (x : Rc) (Ax : Option Addr) (cx : Nat) (W0 W : World) (h : RlAt W0 W b H G M R room l fu A c els down Ab cb xs) (hx0 : TxAt W0 Ax cx x.ns) (hW0 : Below W0.heap.size W0 W) (hb : b ≤ W.heap.size) (hr : room ≤ 65536) (hl : l.length ≤ room) (hn : els.length ≤ 100000) (hR : R ≤ 65536) (hd : down = false) (hw : whyB (xs.map (·.1)) x = 0) (hk : ¬ x.k = 1)  (hz : anE room l (decide (0 ≤ fu)) false x = 0) :
    Calls Tryz.prog 14 #[.pointer (some ⟨H, 0, none⟩), .agg (rcc x Ax cx)] W (RpuR W0 W b H G M R room l fu A c els down xs x) := by
  have hx : TxAt W Ax cx x.ns := hx0.below hW0
  have HL := hid h
  subst hd
  have hd' : ¬ (false = true) := by simp
  have hw' : ¬ whyB (xs.map (·.1)) x ≠ 0 := fun h9 => h9 hw
  have hf' : ¬ (x.k = 1 ∧ R < kepB (xs.map (·.1)) + mostR x.j 0 x.ns) := fun h9 => hk h9.1
  have HV : Hid (lgE (rlS R room l fu fu.toNat false (xs.map (·.1))) (xs.map (·.1)) x = anE room l (decide (0 ≤ fu)) false x ∧ (lgN (rlS R room l fu fu.toNat false (xs.map (·.1))) (xs.map (·.1)) x).l = anB room l (decide (0 ≤ fu)) fu.toNat false x ∧ (lgN (rlS R room l fu fu.toNat false (xs.map (·.1))) (xs.map (·.1)) x).down = (if anE room l (decide (0 ≤ fu)) false x = 14 then true else false) ∧ puF R room l fu false (xs.map (·.1)) x = anF room l fu false x) := hid ⟨(if_neg hd').trans ((if_neg hw').trans (if_neg hf')), congrArg LgS.l ((if_neg hd').trans ((if_neg hw').trans (if_neg hf'))), congrArg LgS.down ((if_neg hd').trans ((if_neg hw').trans (if_neg hf'))), (if_neg hd').trans ((if_neg hw').trans (if_neg hf'))⟩
  unfold RpuR
  rw [HV.out.1, HV.out.2.1, HV.out.2.2.1, HV.out.2.2.2]
  have HTX := hid hx
  have HX0 := hid hx0
  have HW0 := hid hW0
  have HOK : Hid (OkB (appB (xs.map (·.1)) x)) := hid (step_ok h.2.2.2 hw).1
  have HAP := hid (fun w (h1 : RnAt W0 w b G M room l fu A c els false) (h3 : Below W0.heap.size W0 w) (h4 : b ≤ w.heap.size) => r19append_any x Ax cx W0 w h1 hx0 h3 h4 (blk_neL h.2.1.1 h.2.1.2.1 (by decide)) hr hl hn)
  unfold RapR at HAP
  rw [hz] at HAP ⊢
  simp only [show ¬ ((0 : Int) = 14) by decide, if_false, if_true] at HAP ⊢
  generalize anB room l (decide (0 ≤ fu)) fu.toNat false x = l2 at *
  generalize anF room l fu false x = fu2 at *
  have HWY := hid hw
  clear h hx hx0 hW0 HV hw hw' hd' hf' hz
  obtain ⟨k, j, t, wk, s, ep, ns⟩ := x
  simp only [rcc] at *
  have hk1 : (k == 1) = false := by simpa using hk
  have hk2 : decide (k = 1) = false := by simpa using hk
  go_enter Tryz.func14, Tryz.ntmps14
  go_upto_region 1 with (fail)
  refine at_world (fun u => u.heap[W.heap.size]? = some (.cells #[.int .i64 k, .int .i64 j, .int .i64 t, .int .i64 wk, .int .i64 s, .int .i64 ep, .slice Ax ns.length cx] 46 (0, 0)) ∧ Below W.heap.size W u) ⟨heap_alloc_new _ _, (Below.refl _ _).alloc (Nat.le_refl _) _⟩ ?_
  rintro w1 ⟨hx1, hb1⟩
  have HX1 := hid hx1
  have HB1 := hid hb1
  have HL1 := hid (HL.out.below hb1)
  clear hx1 hb1
  obtain ⟨⟨q0, q1, q2⟩, _⟩ := three_cells HL1.out.1
  obtain ⟨⟨r0, r1, r2⟩, _⟩ := three_cellsA HL1.out.2.1.1
  have HST := hid (fun U (hU : Below w1.heap.size w1 U) => r20stepB Ab cb xs _ rfl (Rc.mk k j t wk s ep ns) Ax cx U (HL1.out.2.2.1.now (HW0.out.trans (HB1.out.mono HW0.out.size)) |>.below hU) ((HTX.out.below HB1.out).below hU) (by have := okB_len HL1.out.2.2.2; omega) (okB_sm HL1.out.2.2.2))
  simp only [rcc] at HST
  go_upto_region 3 with (fail)
  have hNl : W.heap.size < w1.heap.size := lt_of_block HX1.out
  generalize hNN : W.heap.size = N at *
  have HNN := hid hNN
  clear hNN q0 q1 q2 r0 r1 r2
  have hS : ∀ U, Below w1.heap.size w1 U → ((U.cell? ⟨H, 1, none⟩ = some (.slice Ab xs.length cb) ∧ (U.cell? ⟨N, 0, none⟩ = some (.int .i64 k) ∧ U.cell? ⟨N, 1, none⟩ = some (.int .i64 j) ∧ U.cell? ⟨N, 2, none⟩ = some (.int .i64 t) ∧ U.cell? ⟨N, 3, none⟩ = some (.int .i64 wk) ∧ U.cell? ⟨N, 4, none⟩ = some (.int .i64 s) ∧ U.cell? ⟨N, 5, none⟩ = some (.int .i64 ep) ∧ U.cell? ⟨N, 6, none⟩ = some (.slice Ax ns.length cx))) ∧ Below w1.heap.size w1 U) := fun U hU => ⟨⟨(three_cells (keep0 HL1.out.1 hU)).1.2.1, seven_cells (keep0 HX1.out hU)⟩, hU⟩
  have hk0 : Below w1.heap.size w1 w1.drew := below_drew (Below.refl _ _)
  refine wp_region_held_drew (S := fun U => (U.cell? ⟨H, 1, none⟩ = some (.slice Ab xs.length cb) ∧ (U.cell? ⟨N, 0, none⟩ = some (.int .i64 k) ∧ U.cell? ⟨N, 1, none⟩ = some (.int .i64 j) ∧ U.cell? ⟨N, 2, none⟩ = some (.int .i64 t) ∧ U.cell? ⟨N, 3, none⟩ = some (.int .i64 wk) ∧ U.cell? ⟨N, 4, none⟩ = some (.int .i64 s) ∧ U.cell? ⟨N, 5, none⟩ = some (.int .i64 ep) ∧ U.cell? ⟨N, 6, none⟩ = some (.slice Ax ns.length cx))) ∧ Below w1.heap.size w1 U) (by kernel_rfl) (hS _ hk0) (fun hHeld => ?_)
  generalize w1.drew = k0 at *
  refine tkA 0 ?_ rfl ?_ (by assumption) ?_; rotate_left; focus (intro U hU; (try dsimp only at hU); go_simp; try (with_reducible rfl))
  simp only [gt6, Act.put]
  refine tkA 1 ?_ rfl ?_ (by assumption) ?_; rotate_left; focus (intro U hU; (try dsimp only at hU); go_simp; try (with_reducible rfl))
  simp only [gt6, Act.put]
  refine tkA 2 ?_ rfl ?_ (by assumption) ?_; rotate_left; focus (intro U hU; (try dsimp only at hU); go_simp; try (with_reducible rfl))
  simp only [gt6, Act.put]
  refine tkA 3 ?_ rfl ?_ (by assumption) ?_; rotate_left; focus (intro U hU; (try dsimp only at hU); go_simp; try (with_reducible rfl))
  simp only [gt6, Act.put]
  refine tkA 4 ?_ rfl ?_ (by assumption) ?_; rotate_left; focus (intro U hU; (try dsimp only at hU); go_simp; try (with_reducible rfl))
  simp only [gt6, Act.put]
  refine wpAnyH_ready (rs := [5]) (by kernel_rfl) (by simp) ?_
  refine AllReadyH.cons rfl (fun K hK => ?_) AllReadyH.nil
  simp only [gt3]
  go_simp
  refine (HST.out k0 hk0).mono ?_
  rintro q k1 ⟨A8, c8, ys, rfl, hy, hb8⟩
  have hk1 := hk0.trans (hb8.mono hk0.size)
  clear hb8
  go_wp2_with fail
  refine hK.out _ _ ?_ (fun hHeld2 => ?_)
  focus
    exact hS _ hk1
  clear hHeld
  have hHeld := hHeld2
  clear hHeld2 hK K
  try simp only [gt6, Act.put]
  refine tkA 6 ?_ rfl ?_ (by assumption) ?_; rotate_left; focus (intro U hU; (try dsimp only at hU); go_simp; try (with_reducible rfl))
  simp only [gt6, Act.put]
  refine tkA 7 ?_ rfl ?_ (by assumption) ?_; rotate_left; focus (intro U hU; (try dsimp only at hU); go_simp; try (with_reducible rfl))
  simp only [gt6, Act.put]
  refine tkA 8 ?_ rfl ?_ (by assumption) ?_; rotate_left; focus (intro U hU; (try dsimp only at hU); go_simp; try (with_reducible rfl))
  simp only [gt6, Act.put]
  refine tkA 9 ?_ rfl ?_ (by assumption) ?_; rotate_left; focus (intro U hU; (try dsimp only at hU); go_simp; try (with_reducible rfl))
  simp only [gt6, Act.put]
  refine tkA 10 ?_ rfl ?_ (by assumption) ?_; rotate_left; focus (intro U hU; (try dsimp only at hU); go_simp; try (with_reducible rfl))
  simp only [gt6, Act.put]
  refine wpAnyH_done (by kernel_rfl) ?_ _
  have HB5 := hid hk1
  have HY := hid hy
  clear hHeld hS hk0 hk1 hy HST
  rw [HWY.out] at HY
  simp only [HWY.out]
  have HX5 := hid (keep0 HX1.out HB5.out)
  have HL5 := hid (HL1.out.below HB5.out)
  have HBW : Hid (Below W.heap.size W k1) := hid ((HNN.out ▸ HB1.out).trans (HB5.out.mono (by have := HNN.out; omega)))
  have HB0 := hid (HW0.out.trans (HBW.out.mono HW0.out.size))
  have HTX5 := hid (HTX.out.below HBW.out)
  have hNk : N < k1.heap.size := lt_of_block HX5.out
  obtain ⟨hys, hyp⟩ := HY.out rfl
  have HYS := hid hys
  have HBK : Hid (BkX W0 k1 A8 c8 ys) := hid (fun T w2 hT hty hb9 => hyp T w2 hT hty (HL5.out.2.2.1 T w2 hT hty hb9) (HX0.out.below hb9))
  clear hys hyp HY HX1 HL1 HB5 HTX
  obtain ⟨p0, p1, p2, p3, p4, p5, p6⟩ := seven_cells HX5.out
  go_upto_region 6 with (fail)
  replace p0 := cell_regrown p0
  refine wp_region_quiet_below (by kernel_rfl) (by kernel_rfl) ?_
  repeat (go_big_quiet_step (fail))
  refine wpQuiet_nil ?_
  intro _ hw9
  obtain ⟨⟨dq, osq⟩, hw8⟩ := hw9
  subst hw8
  refine at_world (fun u => Below k1.heap.size k1 u) (below_regrown k1 dq osq) ?_
  rintro k6 hbq
  clear p0 p1 p2 p3 p4 p5 p6
  have HX6 := hid (keep0 HX5.out hbq)
  have HL6 := hid (HL5.out.below hbq)
  have HBK6 := hid (HBK.out.below hbq)
  have HBW6 := hid (HBW.out.trans (hbq.mono HBW.out.size))
  have HB6 := hid (HB0.out.trans (hbq.mono HB0.out.size))
  clear hbq HX5 HL5 HBK HBW HB0 HTX5
  have hN6 : N < k6.heap.size := lt_of_block HX6.out
  have hNM : ¬ (N = M ∨ N = G) := fun h9 => h9.elim (blk_neL HX6.out HL6.out.2.1.2.1 (by decide)) (blk_neL HX6.out HL6.out.2.1.1 (by decide))
  have hHM : ¬ (H = M ∨ H = G) := fun h9 => h9.elim (blk_neL HL6.out.1 HL6.out.2.1.2.1 (by decide)) (blk_neL HL6.out.1 HL6.out.2.1.1 (by decide))
  go_upto_region 8 with (fail)
  have hS : ∀ U, Tch (fun g => g = M ∨ g = G) k6 U → ((U.cell? ⟨H, 0, none⟩ = some (.pointer (some ⟨G, 0, none⟩)) ∧ (U.cell? ⟨N, 0, none⟩ = some (.int .i64 k) ∧ U.cell? ⟨N, 1, none⟩ = some (.int .i64 j) ∧ U.cell? ⟨N, 2, none⟩ = some (.int .i64 t) ∧ U.cell? ⟨N, 3, none⟩ = some (.int .i64 wk) ∧ U.cell? ⟨N, 4, none⟩ = some (.int .i64 s) ∧ U.cell? ⟨N, 5, none⟩ = some (.int .i64 ep) ∧ U.cell? ⟨N, 6, none⟩ = some (.slice Ax ns.length cx))) ∧ Tch (fun g => g = M ∨ g = G) k6 U) := fun U hU => ⟨⟨(three_cells (hU.block HL6.out.1 hHM)).1.1, seven_cells (hU.block HX6.out hNM)⟩, hU⟩
  have hk9 : Below k6.heap.size k6 k6.drew := below_drew (Below.refl _ _)
  have HSZ : Hid (k6.heap.size ≤ k6.drew.heap.size) := hid hk9.size
  have hk0 : Tch (fun g => g = M ∨ g = G) k6 k6.drew := Tch.of_below hk9
  refine wp_region_held_drew (S := fun U => (U.cell? ⟨H, 0, none⟩ = some (.pointer (some ⟨G, 0, none⟩)) ∧ (U.cell? ⟨N, 0, none⟩ = some (.int .i64 k) ∧ U.cell? ⟨N, 1, none⟩ = some (.int .i64 j) ∧ U.cell? ⟨N, 2, none⟩ = some (.int .i64 t) ∧ U.cell? ⟨N, 3, none⟩ = some (.int .i64 wk) ∧ U.cell? ⟨N, 4, none⟩ = some (.int .i64 s) ∧ U.cell? ⟨N, 5, none⟩ = some (.int .i64 ep) ∧ U.cell? ⟨N, 6, none⟩ = some (.slice Ax ns.length cx))) ∧ Tch (fun g => g = M ∨ g = G) k6 U) (by kernel_rfl) (hS _ hk0) (fun hHeld => ?_)
  generalize k6.drew = k0 at *
  refine tkA 0 ?_ rfl ?_ (by assumption) ?_; rotate_left; focus (intro U hU; (try dsimp only at hU); go_simp; try (with_reducible rfl))
  simp only [gt6, Act.put]
  refine tkA 1 ?_ rfl ?_ (by assumption) ?_; rotate_left; focus (intro U hU; (try dsimp only at hU); go_simp; try (with_reducible rfl))
  simp only [gt6, Act.put]
  refine tkA 2 ?_ rfl ?_ (by assumption) ?_; rotate_left; focus (intro U hU; (try dsimp only at hU); go_simp; try (with_reducible rfl))
  simp only [gt6, Act.put]
  refine tkA 3 ?_ rfl ?_ (by assumption) ?_; rotate_left; focus (intro U hU; (try dsimp only at hU); go_simp; try (with_reducible rfl))
  simp only [gt6, Act.put]
  refine tkA 4 ?_ rfl ?_ (by assumption) ?_; rotate_left; focus (intro U hU; (try dsimp only at hU); go_simp; try (with_reducible rfl))
  simp only [gt6, Act.put]
  refine wpAnyH_ready (rs := [5]) (by kernel_rfl) (by simp) ?_
  refine AllReadyH.cons rfl (fun K hK => ?_) AllReadyH.nil
  simp only [gt3]
  go_simp
  refine (HAP.out k0 (HL6.out.2.1.keep hk9) (HB6.out.trans (hk9.mono HB6.out.size)) (by have h7 := HBW6.out.size; have h8 := hk9.size; omega)).mono ?_
  rintro q w4 ⟨rfl, A4, c4, els4, hem, hrn, hto, hob⟩
  have hk4 : Tch (fun g => g = M ∨ g = G) k6 w4 := hk0.trans hto (fun g hg _ => hg)
  clear hto
  go_wp2_with fail
  refine hK.out _ _ ?_ (fun hHeld2 => ?_)
  focus
    exact hS _ hk4
  clear hHeld
  have hHeld := hHeld2
  clear hHeld2 hK K
  try simp only [gt6, Act.put]
  refine tkA 6 ?_ rfl ?_ (by assumption) ?_; rotate_left; focus (intro U hU; (try dsimp only at hU); go_simp; try (with_reducible rfl))
  simp only [gt6, Act.put]
  refine wpAnyH_done (by kernel_rfl) ?_ _
  have HEM := hid hem
  have HRN := hid hrn
  have HT4 := hid ((Tch.of_below (S := fun g => g = M ∨ g = G ∨ g = H) HBW6.out).trans hk4 (fun g hg _ => hg.elim .inl (fun h9 => .inr (.inl h9))))
  have HOB := hid hob
  have HRL := hid (rput_ok HL6.out HBK6.out (HYS.out ▸ HOK.out) hk4 hrn)
  obtain ⟨⟨q0, q1, q2⟩, q3, q4, q5⟩ := three_cellsA (hk4.block HL6.out.1 hHM)
  clear hHeld hS hk0 hk4 hk9 hem hrn hob
  go_wp2
  go_ret
  exact ⟨rfl, A4, c4, els4, A8, c8, ys, HRL.out, HYS.out, HEM.out, HT4.out.set H 1 _ (fun _ => .inr (.inr rfl)), HOB.out.imp id (fun h9 g hg => (by have h7 := HBW6.out.size; have h8 := HSZ.out; have h6 := h9 g hg; have h5 := HNN.out; omega))⟩

theorem r21put_any {b H G M R room : Nat} {l : List UInt8} {fu : Int} {A : Option Addr} {c : Nat} {els : List El} {down : Bool} {Ab : Option Addr} {cb : Nat} {xs : List Ee} (x : Rc) (Ax : Option Addr) (cx : Nat) (W0 W : World) (h : RlAt W0 W b H G M R room l fu A c els down Ab cb xs) (hx0 : TxAt W0 Ax cx x.ns) (hW0 : Below W0.heap.size W0 W) (hb : b ≤ W.heap.size) (hr : room ≤ 65536) (hl : l.length ≤ room) (hn : els.length ≤ 100000) (hR : R ≤ 65536) :
    Calls Tryz.prog 14 #[.pointer (some ⟨H, 0, none⟩), .agg (rcc x Ax cx)] W (RpuR W0 W b H G M R room l fu A c els down xs x) := by
  cases hd : down with
  | true => exact hd ▸ r21put_down x Ax cx W0 W h hx0 hW0 hb hr hl hn hR hd
  | false =>
    subst hd
    by_cases hw : whyB (xs.map (·.1)) x = 0
    · by_cases hz : anE room l (decide (0 ≤ fu)) false x = 0
      · by_cases hk : x.k = 1
        · by_cases hf : R < kepB (xs.map (·.1)) + mostR x.j 0 x.ns
          · exact r21put_nfull x Ax cx W0 W h hx0 hW0 hb hr hl hn hR rfl hw hk hf
          · exact r21put_k1 x Ax cx W0 W h hx0 hW0 hb hr hl hn hR rfl hw hk hf hz
        · exact r21put_k0 x Ax cx W0 W h hx0 hW0 hb hr hl hn hR rfl hw hk hz
      · by_cases hk : x.k = 1
        · by_cases hf : R < kepB (xs.map (·.1)) + mostR x.j 0 x.ns
          · exact r21put_nfull x Ax cx W0 W h hx0 hW0 hb hr hl hn hR rfl hw hk hf
          · exact r21put_e1 x Ax cx W0 W h hx0 hW0 hb hr hl hn hR rfl hw hk hf hz
        · exact r21put_e0 x Ax cx W0 W h hx0 hW0 hb hr hl hn hR rfl hw hk hz
    · exact r21put_no x Ax cx W0 W h hx0 hW0 hb hr hl hn hR rfl hw
end Go.Proofs.YtkepfkfoblocgaaGreat
