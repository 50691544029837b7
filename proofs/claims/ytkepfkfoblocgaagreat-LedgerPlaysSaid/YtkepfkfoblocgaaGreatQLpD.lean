/- LedgerPlays: the law. -/
import Derived.Test.YtkepfkfoblocgaaGreatGaP
import Derived.Test.YtkepfkfoblocgaaGreatQLpF
import Derived.Deep.RegionHeld3
import Derived.BigQuiet
import Derived.Lib.QuietBelow
namespace Go.Proofs.YtkepfkfoblocgaaGreat
open Go.RowKit Go.Sort
set_option linter.unusedVariables false
set_option linter.unusedSimpArgs false

set_option maxRecDepth 20000 in
set_option maxHeartbeats 4000000 in
theorem ledgerPlays_out (r0 r1 : Int) (hr : r0 < 0 ∨ 65536 < r0) (Bp : Option Addr) (cb : Nat) (wl : List UInt8) (A : Option Addr) (c : Nat) (al : List La) (W : World) :
    Calls Tryz.prog 3 #[.agg #[.int .i64 r0, .int .i64 r1], .slice Bp wl.length cb, .slice A al.length c] W fun e w' => e = .returned (.bool true) ∧ Below W.heap.size W w' := by
  have HK := hid (fun w => works21_any w)
  have HN := hid (fun w => dnew_out r0 hr w)
  have HRN := hid (fun w => rnew_any r0 w)
  rw [decide_eq_false (show ¬ ((0 : Int) ≤ r0 ∧ r0 ≤ 65536) by omega)] at HRN
  clear hr
  go_enter Tryz.func3, Tryz.ntmps3
  go_upto_region 1 with (fail)
  refine at_world (fun u => u.heap[W.heap.size]? = some (.cells #[.int .i64 r0, .int .i64 r1] 22 (0, 0)) ∧ Below W.heap.size W u) ⟨heap_alloc_new _ _, (Below.refl _ _).alloc (Nat.le_refl _) _⟩ ?_
  rintro w0 ⟨hx0, hb0⟩
  obtain ⟨q0, q1⟩ := two_cellsP hx0
  have HB0 := hid hb0
  clear hx0 hb0
  go_wp2_with fail
  refine (HN.out _).mono ?_
  rintro e w1 ⟨rfl, rfl⟩
  go_wp2_with fail
  refine (HRN.out _).mono ?_
  rintro e w2 ⟨rfl, hb2⟩
  have HB2 := hid (HB0.out.trans (hb2.mono HB0.out.size))
  clear hb2 HRN HN HB0 q0 q1
  go_upto_region 3 with (fail)
  refine at_world (fun u => Below W.heap.size W u) (HB2.out.trans (((Below.refl _ _).alloc (Nat.le_refl _) _).mono HB2.out.size)) ?_
  rintro w3 hb3
  have HB3 := hid hb3
  clear hb3 HB2
  go_wp2_with fail
  refine (HK.out w3).mono ?_
  rintro e wz ⟨rfl, hbz⟩
  have HBZ := hid (HB3.out.trans (hbz.mono HB3.out.size))
  clear hbz
  go_wp2
  go_ret
  exact ⟨rfl, HBZ.out⟩
set_option maxRecDepth 20000 in
set_option maxHeartbeats 8000000 in
theorem ledgerPlays_in (room : Nat) (r1 : Int) (R : Nat) (hR : R ≤ 65536) (hr1 : r1 = (R : Int) ∨ (r1 < 0 ∨ 65536 < r1)) (hr : room ≤ 65536) (Bp : Option Addr) (cb : Nat) (wl : List UInt8) (A : Option Addr) (c : Nat) (al : List La) (W : World) (hwl : IsBytes W Bp wl.length cb wl) (h : InLs W A c al) :
    Calls Tryz.prog 3 #[.agg #[.int .i64 (room : Int), .int .i64 r1], .slice Bp wl.length cb, .slice A al.length c] W fun e w' => e = .returned (.bool true) ∧ Below W.heap.size W w' := by
  have HX := hid h
  have HWL := hid hwl
  have hal : al.length ≤ 9223372036854775807 := sl_len64B h.1
  have hwln := sl_len64B hwl
  have HK := hid (fun w => works21_any w)
  have HSM := hid (fun w (hw : Below W.heap.size W w) => small21_any A c al 40 w (h.below hw))
  have HN := hid (fun w => dnew_in room hr w)
  have HRN := hid (fun w => rnew_any (room : Int) w)
  rw [decide_eq_true (show (0 : Int) ≤ (room : Int) ∧ (room : Int) ≤ 65536 by omega)] at HRN
  have HYS := hid (fun h9 => smallL_yes (al := al) h9)
  have HR1 := hid hr1
  clear h hwl hr1
  generalize smallL (al.map (·.1)) 40 = sm at *
  go_enter Tryz.func3, Tryz.ntmps3
  go_upto_region 1 with (fail)
  refine at_world (fun u => u.heap[W.heap.size]? = some (.cells #[.int .i64 (room : Int), .int .i64 r1] 22 (0, 0)) ∧ Below W.heap.size W u) ⟨heap_alloc_new _ _, (Below.refl _ _).alloc (Nat.le_refl _) _⟩ ?_
  rintro w0 ⟨hx0, hb0⟩
  have HQ0 := hid hx0
  have HB0 := hid hb0
  have hQl := lt_of_block hx0
  clear hx0 hb0
  generalize hQQ : W.heap.size = Q at *
  have HQQ := hid hQQ
  clear hQQ
  obtain ⟨q0, q1⟩ := two_cellsP HQ0.out
  go_wp2_with fail
  refine (HN.out _).mono ?_
  rintro e w1 ⟨rfl, hd1, hb1⟩
  have HD1 := hid hd1
  have HB1 := hid (HB0.out.trans (hb1.mono (by omega)))
  have HQ1 := hid (keep0 HQ0.out hb1)
  have hDl := hd1.lt
  generalize hDD : w0.heap.size = D at *
  have HDD := hid (show Q ≤ D by omega)
  clear hd1 hb1 HN hDD q0 q1 HB0 HQ0
  obtain ⟨q0, q1⟩ := two_cellsP HQ1.out
  go_wp2_with fail
  refine (HRN.out _).mono ?_
  rintro e w2 ⟨rfl, hb2⟩
  have HD2 := hid (HD1.out.below hb2)
  have HQ2 := hid (keep0 HQ1.out hb2)
  have HB2 := hid (HB1.out.trans (hb2.mono (by have h7 := HB1.out.size; have h8 := HQQ.out; omega)))
  have hs2 := hb2.size
  clear hb2 HD1 HB1 HRN HQ1 q0 q1
  go_upto_region 3 with (fail)
  refine at_world (fun u => u.heap[w2.heap.size]? = some (.cells #[.string ⟨#[]⟩, .int .i64 (room : Int), .int .i64 (-1)] 28 (0, 0)) ∧ Below w2.heap.size w2 u) ⟨heap_alloc_new _ _, (Below.refl _ _).alloc (Nat.le_refl _) _⟩ ?_
  rintro w3 ⟨hm3, hb3⟩
  have HS3 : Hid (DkS W w3 D w2.heap.size room [] 0 (-1)) := hid ⟨(show decide ((0 : Int) ≤ -1) = false from by decide) ▸ HD2.out.below hb3, hm3, HQQ.out.symm ▸ (HB2.out.trans (hb3.mono (by have h7 := HB2.out.size; have h8 := HQQ.out; omega))), by rw [HQQ.out]; exact HDD.out, by rw [HQQ.out]; have := HDD.out; omega, fun h9 => absurd h9 (by decide), by simp⟩
  have HB3 : Hid (Below W.heap.size W w3) := hid (HQQ.out.symm ▸ (HB2.out.trans (hb3.mono (by have h7 := HB2.out.size; have h8 := HQQ.out; omega))))
  have HQ3 := hid (keep0 HQ2.out hb3)
  clear hm3 hb3 HD2 HB2 HQ2
  generalize w2.heap.size = M at *
  go_wp2_with fail
  refine (HSM.out w3 (HQQ.out ▸ HB3.out)).mono ?_
  rintro e w4 ⟨rfl, hb4⟩
  have HB4 := hid (HB3.out.trans (hb4.mono HB3.out.size))
  have HS4 := hid (HS3.out.below hb4)
  have HQ4 := hid (keep0 HQ3.out hb4)
  clear hb4 HB3 HS3 HSM HQ3
  cases sm
  case false =>
    go_wp2_with fail
    refine (HK.out w4).mono ?_
    rintro e wz ⟨rfl, hbz⟩
    have HBZ := hid (HB4.out.trans (hbz.mono HB4.out.size))
    clear hbz
    go_wp2
    go_ret
    exact ⟨rfl, HBZ.out⟩
  have hal40 := HYS.out rfl
  clear HYS
  by_cases hw2 : 2000 < wl.length
  · have hw2i : (2000 : Int) < (wl.length : Int) := by omega
    go_wp2_with fail
    refine (HK.out w4).mono ?_
    rintro e wz ⟨rfl, hbz⟩
    have HBZ := hid (HB4.out.trans (hbz.mono HB4.out.size))
    clear hbz
    go_wp2
    go_ret
    exact ⟨rfl, HBZ.out⟩
  have hw2i : ¬ (2000 : Int) < (wl.length : Int) := by omega
  have HAP := hid (dappend_any D room [] wl (decide ((0 : Int) ≤ -1)) 0 Bp cb w4 HS4.out.d (HWL.out.below HS4.out.bel) hr HS4.out.lr (by omega))
  clear HB4
  go_wp2_with fail
  refine HAP.out.mono ?_
  rintro e w5 ⟨rfl, hd5, ho5⟩
  have HD5 := hid hd5
  have HO5 := hid ho5
  have hb5 := HS4.out.bel.trans (ho5.below W.heap.size HS4.out.hD HS4.out.bel.size)
  have hcv := convSK (HWL.out.below hb5)
  have HRA := hid (rappend_any M room [] wl (-1) w5 (ho5.block HS4.out.r HS4.out.ne.symm) hr HS4.out.lr (by omega))
  have HQ5 := hid (ho5.block HQ4.out (Ne.symm (by obtain ⟨A9, c9, h9d, _⟩ := HS4.out.d.open; exact blk_ne h9d HQ4.out (by decide))))
  clear hd5 ho5 hb5 HAP
  go_wp2_with fail
  refine HRA.out.mono ?_
  rintro e w6 ⟨rfl, hr6, ho6⟩
  have HQ6 := hid (ho6.block HQ5.out (Ne.symm (blk_ne (HO5.out.block HS4.out.r HS4.out.ne.symm) HQ5.out (by decide))))
  have HKK0 := hid (HS4.out.app HD5.out HO5.out hr6 ho6)
  clear hr6 ho6 HRA HS4 HD5 HO5 hcv HQ4 HQ5
  obtain ⟨l, hl⟩ : ∃ l, apL room [] wl (decide ((0 : Int) ≤ -1)) 0 = l := ⟨_, rfl⟩
  obtain ⟨fu, hf⟩ : ∃ fu, fuN room [] wl (-1) = fu := ⟨_, rfl⟩
  rw [hl, hf] at HKK0
  have HKS := hid HKK0.out
  obtain ⟨fuse, hfs⟩ : ∃ fuse : Nat, 0 = fuse := ⟨_, rfl⟩
  rw [hfs] at HKS
  clear HKK0 hl hf hfs
  obtain ⟨q0, q1⟩ := two_cellsP HQ6.out
  have HOP : Hid (∀ (wq : World) (P9 : Prop), True) := hid (fun _ _ => trivial)
  refine at_world (fun u => (u.heap[Q]? = some (.cells #[.int .i64 (room : Int), .int .i64 r1] 22 (0, 0)) ∧ DkS W u D M room l fuse fu)) ⟨HQ6.out, HKS.out⟩ ?_
  clear HQ6 HKS q0 q1 HOP
  rintro wo ⟨hqo, hko⟩
  have HQO := hid hqo
  have HKO := hid hko
  clear hqo hko
  obtain ⟨q0, q1⟩ := two_cellsP HQO.out
  have HQD := hid (Ne.symm (show D ≠ Q by obtain ⟨A9, c9, h9d, _⟩ := HKO.out.d.open; exact blk_ne h9d HQO.out (by decide)))
  have HQM := hid (Ne.symm (show M ≠ Q from blk_ne HKO.out.r HQO.out (by decide)))
  have HOA := hid (lopenY R _ HR1.out hR hr HKO.out)
  go_wp2_with fail
  refine HOA.out.mono ?_
  rintro e w9 ⟨pl9, pe9, rfl, hop⟩
  have HOB := hid (r21openY hop HKO.out hR hr)
  have HQ9 := hid (hop.tch.block HQO.out HQD.out)
  clear hop HOA q0 q1
  obtain ⟨q0, q1⟩ := two_cellsP HQ9.out
  go_wp2_with fail
  refine HOB.out.mono ?_
  rintro e w10 ⟨pw9, pf9, rfl, hy10, ht10⟩
  have HP2 := hid hy10
  have HQF := hid (ht10.block HQ9.out HQM.out)
  clear hy10 ht10 HOB HQ9 q0 q1 HKO HQO HQD HQM
  go_wp2
  go_loopw [10, 11, 12, 13, 14] (fun pl pe pw pf i wr => ∃ n : Nat, n ≤ al.length ∧ i = .int .i64 (n : Int) ∧ Hid (LpY W wr D M R room r1 pl pe pw pf) ∧ Hid (wr.heap[Q]? = some (.cells #[.int .i64 (room : Int), .int .i64 r1] 22 (0, 0)))) (fun _ _ _ _ i _ => al.length + 1 - (intOf i).toNat)
  case atStart => exact ⟨0, by omega, rfl, HP2, HQF⟩
  case round =>
    clear HP2 HQF
    obtain ⟨n, hn, rfl, HYY, HQR⟩ := hrel
    have hcnd : (n : Int) ≤ (al.length : Int) := by omega
    rcases HYY.out with ⟨rfl, B, B2, L, H, G, G2, l, fuse, fu, A1, c1, els, Ab, cb1, xs, A2, c2, els2, Ab2, cb2, xs2, down, rfl, rfl, rfl, rfl, hS⟩ | ⟨l, fuse, fu, f, hf, rfl, rfl, rfl, rfl, hD⟩
    · skip
      as_aux_lemma =>
      have HSR := hid hS
      have HKD := hid hS.s.disk
      clear hS HYY
      obtain ⟨sx, hsx⟩ : ∃ sx, str l = sx := ⟨_, rfl⟩
      have HSX := hid hsx
      have g1 : (sx.toList != sx.toList) = false := by simp
      have g1' : (sx.toList == sx.toList) = true := by simp
      have hlr : l.length ≤ 100000 := by have := HKD.out.lr; omega
      have hSU : ∀ U, Below wr.heap.size wr U → (U.cell? ⟨M, 0, none⟩ = some (.string sx) ∧ Below wr.heap.size wr U) := fun U hU => by
        obtain ⟨⟨p0, _, _⟩, _⟩ := three_cells (keep0 HKD.out.r hU)
        rw [HSX.out] at p0
        exact ⟨p0, hU⟩
      clear hsx
      go_upto_region 12 with (fail)
      have hk0 : Below wr.heap.size wr wr.drew := below_drew (Below.refl _ _)
      refine wp_region_held_drew (S := fun U => U.cell? ⟨M, 0, none⟩ = some (.string sx) ∧ Below wr.heap.size wr U) (by kernel_rfl) (hSU _ hk0) (fun hHeld => ?_)
      generalize wr.drew = k0 at *
      refine tkA 0 ?_ rfl ?_ (by assumption) ?_; rotate_left; focus (intro U hU; (try dsimp only at hU); go_simp; try (with_reducible rfl))
      simp only [gt6, Act.put]
      refine tkA 1 ?_ rfl ?_ (by assumption) ?_; rotate_left; focus (intro U hU; (try dsimp only at hU); go_simp; try (with_reducible rfl))
      simp only [gt6, Act.put]
      refine tkA 2 ?_ rfl ?_ (by assumption) ?_; rotate_left; focus (intro U hU; (try dsimp only at hU); go_simp; try (with_reducible rfl))
      simp only [gt6, Act.put]
      refine tkA 3 ?_ rfl ?_ (by assumption) ?_; rotate_left; focus (intro U hU; (try dsimp only at hU); go_simp; try (with_reducible rfl))
      simp only [gt6, Act.put]
      refine tkA 4 ?_ rfl ?_ (by assumption) ?_; rotate_left; focus (intro U hU; (try dsimp only at hU); go_simp; try (with_reducible rfl))
      simp only [gt6, Act.put]
      refine tkA 5 ?_ rfl ?_ (by assumption) ?_; rotate_left; focus (intro U hU; (try dsimp only at hU); go_simp; try (with_reducible rfl))
      simp only [gt6, Act.put]
      refine tkA 6 ?_ rfl ?_ (by assumption) ?_; rotate_left; focus (intro U hU; (try dsimp only at hU); go_simp; try (with_reducible rfl))
      simp only [gt6, Act.put]
      refine tkA 7 ?_ rfl ?_ (by assumption) ?_; rotate_left; focus (intro U hU; (try dsimp only at hU); go_simp; try (with_reducible rfl))
      simp only [gt6, Act.put]
      refine tkA 8 ?_ rfl ?_ (by assumption) ?_; rotate_left; focus (intro U hU; (try dsimp only at hU); go_simp; try (with_reducible rfl))
      simp only [gt6, Act.put]
      refine tkA 9 ?_ rfl ?_ (by assumption) ?_; rotate_left; focus (intro U hU; (try dsimp only at hU); go_simp; try (with_reducible rfl))
      simp only [gt6, Act.put]
      refine tkA 10 ?_ rfl ?_ (by assumption) ?_; rotate_left; focus (intro U hU; (try dsimp only at hU); go_simp; try (with_reducible rfl))
      simp only [gt6, Act.put]
      refine tkA 11 ?_ rfl ?_ (by assumption) ?_; rotate_left; focus (intro U hU; (try dsimp only at hU); go_simp; try (with_reducible rfl))
      simp only [gt6, Act.put]
      refine tkA 14 ?_ rfl ?_ (by assumption) ?_; rotate_left; focus (intro U hU; (try dsimp only at hU); go_simp; try (with_reducible rfl))
      simp only [gt6, Act.put]
      refine tkA 15 ?_ rfl ?_ (by assumption) ?_; rotate_left; focus (intro U hU; (try dsimp only at hU); go_simp; try (with_reducible rfl))
      simp only [gt6, Act.put]
      refine wpAnyH_ready (rs := [12]) (by kernel_rfl) (by simp) ?_
      refine AllReadyH.cons rfl (fun K hK => ?_) AllReadyH.nil
      simp only [gt3]
      go_simp
      refine (dbytes_any D room l (decide (0 ≤ fu)) fuse k0 (HKD.out.below hk0).d hlr).mono ?_
      rintro q k4 ⟨A8, c8, rfl, hs8, hb9⟩
      have hk4 := hk0.trans (hb9.mono hk0.size)
      have hcv := convSK hs8
      rw [HSX.out] at hcv
      clear hs8 hb9
      go_wp2_with fail
      refine hK.out _ _ ?_ (fun hHeld2 => ?_)
      focus
        exact hSU _ hk4
      clear hHeld
      have hHeld := hHeld2
      clear hHeld2 hK K
      try simp only [gt6, Act.put]
      refine wpAnyH_ready (rs := [13]) (by kernel_rfl) (by simp) ?_
      refine AllReadyH.cons rfl (fun K hK => ?_) AllReadyH.nil
      simp only [gt3]
      go_simp
      refine hK.out _ _ ?_ (fun hHeld2 => ?_)
      focus
        exact hSU _ hk4
      clear hHeld
      have hHeld := hHeld2
      clear hHeld2 hK K
      try simp only [gt6, Act.put]
      refine tkA 16 ?_ rfl ?_ (by assumption) ?_; rotate_left; focus (intro U hU; (try dsimp only at hU); go_simp; try (with_reducible rfl))
      simp only [gt6, Act.put]
      refine tkA 17 ?_ rfl ?_ (by assumption) ?_; rotate_left; focus (intro U hU; (try dsimp only at hU); go_simp; try (with_reducible rfl))
      simp only [gt6, Act.put]
      refine wpAnyH_done (by kernel_rfl) ?_ _
      have HB4 := hid hk4
      clear hHeld hSU hk0 hk4 hcv g1 g1'
      have HS := hid (HSR.out.below HB4.out)
      have HQ := hid (keep0 HQR.out HB4.out)
      clear HSR HQR HKD HSX hlr HB4
      generalize k4 = wq at *
      by_cases hlt : n < al.length
      · skip
        as_aux_lemma =>
        have hlt2 : (n : Int) < (al.length : Int) := by omega
        have i0 : ¬ (n : Int) < 0 := by omega
        have hne2 : ((n : Int) == (al.length : Int)) = false := by simpa using (show ¬ (n : Int) = (al.length : Int) by omega)
        obtain ⟨b4, o4, hA4, y0, y1, y2, y3, y4, y5, y6, y7, y8⟩ := (HX.out.below HS.out.s.bel).el n hlt
        have HIN := hid (HX.out.2 _ (List.getElem_mem hlt))
        subst hA4
        generalize al[n]'hlt = ya at *
        obtain ⟨⟨d, m, ⟨k, j, t, wk, s, ep, ns⟩⟩, ⟨Ax, cx⟩⟩ := ya
        have HTX0 := hid HIN.out
        unfold InL at HTX0
        simp only at y0 y1 y2 y3 y4 y5 y6 y7 y8 HTX0
        clear HIN
        go_upto_region 16 with (fail)
        refine at_world (fun u => u.heap[wq.heap.size]? = some (.cells #[.int .i64 d, .int .i64 m, .int .i64 k, .int .i64 j, .int .i64 t, .int .i64 wk, .int .i64 s, .int .i64 ep, .slice Ax ns.length cx] 48 (0, 0)) ∧ Below wq.heap.size wq u) ⟨heap_alloc_new _ _, (Below.refl _ _).alloc (Nat.le_refl _) _⟩ ?_
        clear y0 y1 y2 y3 y4 y5 y6 y7 y8
        rintro w7 ⟨hx7, hb7⟩
        have HX7 := hid hx7
        have HS7 := hid (HS.out.below hb7)
        have HQ7 := hid (keep0 HQ.out hb7)
        clear hx7 hb7 HS HQ
        generalize wq.heap.size = AB at *
        obtain ⟨y0, y1, y2, y3, y4, y5, y6, y7, y8⟩ := nine_cellsP HX7.out
        have hd9 : d = 0 ∨ d = 1 ∨ (d ≠ 0 ∧ d ≠ 1) := by omega
        rcases hd9 with hd | hd | ⟨hd0, hd1⟩
        case inl =>
          as_aux_lemma =>
          subst hd
          clear y1
          have nLT := lgT_not HS7.out.lg HX7.out (by decide) (by decide) (by decide) (by decide)
          have nQT := lgT_not HS7.out.lg HQ7.out (by decide) (by decide) (by decide) (by decide)
          have nRT : ¬ (AB = M ∨ AB = G2 ∨ AB = H) := fun h9 => h9.elim (blk_ne HX7.out HS7.out.rl.2.1.2.1 (by decide)) (fun h8 => h8.elim (blk_ne HX7.out HS7.out.rl.2.1.1 (by decide)) (blk_ne HX7.out HS7.out.rl.1 (by decide)))
          have nQR : ¬ (Q = M ∨ Q = G2 ∨ Q = H) := fun h9 => h9.elim (blk_ne HQ7.out HS7.out.rl.2.1.2.1 (by decide)) (fun h8 => h8.elim (blk_ne HQ7.out HS7.out.rl.2.1.1 (by decide)) (blk_ne HQ7.out HS7.out.rl.1 (by decide)))
          have hlr := HS7.out.s.lr
          have hel := HS7.out.s.el
          have hel2 := HS7.out.s.len
          have hkp : kepB (xs.map (·.1)) ≤ 1000000 := by
            have h9 := kepB_le (xs.map (·.1))
            have h8 := HS7.out.lg.2.2.2.1
            omega
          have hSb : ∀ U : World, U.heap[AB]? = some (.cells #[.int .i64 0, .int .i64 m, .int .i64 k, .int .i64 j, .int .i64 t, .int .i64 wk, .int .i64 s, .int .i64 ep, .slice Ax ns.length cx] 48 (0, 0)) → (U.cell? ⟨AB, 0, none⟩ = some (.int .i64 0) ∧ U.cell? ⟨AB, 2, none⟩ = some (.int .i64 k) ∧ U.cell? ⟨AB, 3, none⟩ = some (.int .i64 j) ∧ U.cell? ⟨AB, 4, none⟩ = some (.int .i64 t) ∧ U.cell? ⟨AB, 5, none⟩ = some (.int .i64 wk) ∧ U.cell? ⟨AB, 6, none⟩ = some (.int .i64 s) ∧ U.cell? ⟨AB, 7, none⟩ = some (.int .i64 ep) ∧ U.cell? ⟨AB, 8, none⟩ = some (.slice Ax ns.length cx)) := fun U hU => by
            obtain ⟨z0, _, z2, z3, z4, z5, z6, z7, z8⟩ := nine_cellsP hU
            exact ⟨z0, z2, z3, z4, z5, z6, z7, z8⟩
          have hk0 : Below w7.heap.size w7 w7.drew := below_drew (Below.refl _ _)
          have hS0 := hSb _ (keep0 HX7.out hk0)
          clear y2 y3 y4 y5 y6 y7 y8
          refine wp_region_held_drew (S := fun U => (U.cell? ⟨AB, 0, none⟩ = some (.int .i64 0) ∧ U.cell? ⟨AB, 2, none⟩ = some (.int .i64 k) ∧ U.cell? ⟨AB, 3, none⟩ = some (.int .i64 j) ∧ U.cell? ⟨AB, 4, none⟩ = some (.int .i64 t) ∧ U.cell? ⟨AB, 5, none⟩ = some (.int .i64 wk) ∧ U.cell? ⟨AB, 6, none⟩ = some (.int .i64 s) ∧ U.cell? ⟨AB, 7, none⟩ = some (.int .i64 ep) ∧ U.cell? ⟨AB, 8, none⟩ = some (.slice Ax ns.length cx))) (by kernel_rfl) hS0 (fun hHeld => ?_)
          generalize w7.drew = k0 at *
          refine tkA 0 ?_ rfl ?_ (by assumption) ?_; rotate_left; focus (intro U hU; (try dsimp only at hU); go_simp; try (with_reducible rfl))
          simp only [gt6, Act.put]
          refine tkA 1 ?_ rfl ?_ (by assumption) ?_; rotate_left; focus (intro U hU; (try dsimp only at hU); go_simp; try (with_reducible rfl))
          simp only [gt6, Act.put]
          refine tkA 2 ?_ rfl ?_ (by assumption) ?_; rotate_left; focus (intro U hU; (try dsimp only at hU); go_simp; try (with_reducible rfl))
          simp only [gt6, Act.put]
          refine tkA 3 ?_ rfl ?_ (by assumption) ?_; rotate_left; focus (intro U hU; (try dsimp only at hU); go_simp; try (with_reducible rfl))
          simp only [gt6, Act.put]
          refine tkA 4 ?_ rfl ?_ (by assumption) ?_; rotate_left; focus (intro U hU; (try dsimp only at hU); go_simp; try (with_reducible rfl))
          simp only [gt6, Act.put]
          refine tkA 5 ?_ rfl ?_ (by assumption) ?_; rotate_left; focus (intro U hU; (try dsimp only at hU); go_simp; try (with_reducible rfl))
          simp only [gt6, Act.put]
          refine tkA 6 ?_ rfl ?_ (by assumption) ?_; rotate_left; focus (intro U hU; (try dsimp only at hU); go_simp; try (with_reducible rfl))
          simp only [gt6, Act.put]
          refine tkA 8 ?_ rfl ?_ (by assumption) ?_; rotate_left; focus (intro U hU; (try dsimp only at hU); go_simp; try (with_reducible rfl))
          simp only [gt6, Act.put]
          refine tkA 9 ?_ rfl ?_ (by assumption) ?_; rotate_left; focus (intro U hU; (try dsimp only at hU); go_simp; try (with_reducible rfl))
          simp only [gt6, Act.put]
          refine tkA 10 ?_ rfl ?_ (by assumption) ?_; rotate_left; focus (intro U hU; (try dsimp only at hU); go_simp; try (with_reducible rfl))
          simp only [gt6, Act.put]
          refine wpAnyH_ready (rs := [7]) (by kernel_rfl) (by simp) ?_
          refine AllReadyH.cons rfl (fun K hK => ?_) AllReadyH.nil
          simp only [gt3]
          go_simp
          have hAk := HS7.out.below hk0
          have hAP := lpuq_any (Rc.mk k j t wk s ep ns) Ax cx k0 hAk.lg (HTX0.out.below hAk.s.bel) hAk.s.hBs hr hlr (by omega) (by show R ≤ 1000000; omega) hkp
          unfold PutQ at hAP
          simp only [rcc] at hAP
          refine hAP.mono ?_
          rintro q k1 ⟨rfl, A5, c5, els5, Ab5, cb5, xs5, hl5, hx5, hm5, ht5, ho5⟩
          have hx1 : k1.heap[AB]? = _ := ht5.block (keep0 HX7.out hk0) nLT
          have hq1 := ht5.block (keep0 HQ7.out hk0) nQT
          have hS1 := hSb _ hx1
          clear hAP
          go_wp2_with fail
          refine hK.out _ _ ?_ (fun hHeld2 => ?_)
          focus
            exact hS1
          clear hHeld
          have hHeld := hHeld2
          clear hHeld2 hK K
          try simp only [gt6, Act.put]
          refine wpAnyH_ready (rs := [11]) (by kernel_rfl) (by simp) ?_
          refine AllReadyH.cons rfl (fun K hK => ?_) AllReadyH.nil
          simp only [gt3]
          go_simp
          have hbw := hAk.s.bel.trans (ht5.below W.heap.size (fun g hg _ => by
            rcases hg with h1 | h1 | h1 | h1
            · rw [h1]; exact hAk.hL
            · rw [h1]; exact hAk.s.hD
            · rw [h1]; exact hAk.s.hG
            · exact Nat.le_trans hAk.s.hB (own_lt hAk.s.an.2.2.1 g h1).1) hAk.s.bel.size)
          have hRP := r21put_any (Rc.mk k j t wk s ep ns) Ax cx W k1 (hAk.rl_put ht5) HTX0.out hbw (Nat.le_trans hAk.s.hBs2 ht5.size) hr hlr (by omega) hR
          unfold RpuR at hRP
          simp only [rcc] at hRP
          refine hRP.mono ?_
          rintro q k2 ⟨rfl, A6, c6, els6, Ab6, cb6, xs6, hl6, hx6, hm6, ht6, ho6⟩
          have hx2 : k2.heap[AB]? = _ := ht6.block hx1 nRT
          have hq2 := ht6.block hq1 nQR
          have hS2 := hSb _ hx2
          obtain ⟨hee, hxx⟩ := hAk.put (Rc.mk k j t wk s ep ns) hl5 hx5 hm5 ht5 ho5 hl6 hx6 hm6 ht6 ho6
          rw [hee]
          have HP2 := hid (hxx.y rfl)
          clear hRP hl5 hx5 hm5 ht5 ho5 hl6 hx6 hm6 ht6 ho6 hbw hee hxx
          generalize lgE ⟨R, kepB (xs.map (·.1)), room, l, decide (0 ≤ fu), fuse, down⟩ (xs.map (·.1)) (Rc.mk k j t wk s ep ns) = ee at *
          have hne : (ee != ee) = false := by simp
          go_wp2_with fail
          refine hK.out _ _ ?_ (fun hHeld2 => ?_)
          focus
            exact hS2
          clear hHeld
          have hHeld := hHeld2
          clear hHeld2 hK K
          try simp only [gt6, Act.put]
          refine tkA 12 ?_ rfl ?_ (by assumption) ?_; rotate_left; focus (intro U hU; (try dsimp only at hU); go_simp; try (with_reducible rfl))
          simp only [gt6, Act.put]
          refine tkA 13 ?_ rfl ?_ (by assumption) ?_; rotate_left; focus (intro U hU; (try dsimp only at hU); go_simp; try (with_reducible rfl))
          simp only [gt6, Act.put]
          refine wpAnyH_done (by kernel_rfl) ?_ _
          have HX8 := hid hx2
          have HQ8 := hid hq2
          clear hHeld hAk hx1 hx2 hq1 hq2 hS0 hS1 hS2 hk0 hSb nLT nQT nRT nQR hlr hel hel2 hkp HX7 HQ7 HS7
          obtain ⟨y0, y1, y2, y3, y4, y5, y6, y7, y8⟩ := nine_cellsP HX8.out
          go_upto_region 24 with (fail)
          refine at_world (fun u => LpY W u D M R room (R : Int) (.pointer (some ⟨L, 0, none⟩)) (.int .i64 0) (.pointer (some ⟨H, 0, none⟩)) (.int .i64 0) ∧ u.heap[AB]? = some (.cells #[.int .i64 0, .int .i64 m, .int .i64 k, .int .i64 j, .int .i64 t, .int .i64 wk, .int .i64 s, .int .i64 ep, .slice Ax ns.length cx] 48 (0, 0)) ∧ u.heap[Q]? = some (.cells #[.int .i64 (room : Int), .int .i64 (R : Int)] 22 (0, 0))) ⟨HP2.out, HX8.out, HQ8.out⟩ ?_
          clear HP2 HX8 HQ8 y0 y1 y2 y3 y4 y5 y6 y7 y8
          rintro w11 ⟨hY, hx11, hq11⟩
          have HX11 := hid hx11
          have HQ11 := hid hq11
          clear hx11 hq11
          rcases hY with ⟨_, B, B2, L9, H9, G, G2, l, fuse, fu, A1, c1, els, Ab, cb1, xs, A2, c2, els2, Ab2, cb2, xs2, down, hpl, hpe, hpw, hpf, hS⟩ | ⟨_, _, _, f9, hf9, hpl, _⟩
          case inr => exact absurd hpl (by simp)
          cases hpl
          cases hpw
          clear hpe hpf
          have HS := hid hS
          clear hS
          obtain ⟨y0, y1, y2, y3, y4, y5, y6, y7, y8⟩ := nine_cellsP HX11.out
          have HEN := hid (lentry_any j w11 HS.out.lg)
          rw [HS.out.xm] at HEN
          go_wp2_with fail
          refine HEN.out.mono ?_
          rintro e w12 ⟨⟨⟨yi, ysc, yep, yns, ybd, ydn⟩, ⟨xA, xca, xB, xcb, xD, xcd⟩⟩, rfl, hyx, hix, hb12⟩
          have HYX := hid hyx
          have HIX := hid hix
          have HX12 := hid (keep0 HX11.out hb12)
          have HQ12 := hid (keep0 HQ11.out hb12)
          have HS12 := hid (HS.out.below hb12)
          clear hyx hix hb12 HX11 HQ11 HS HEN y0 y1 y2 y3 y4 y5 y6 y7 y8
          simp only [ecE] at *
          go_upto_region 25 with (fail)
          refine at_world (fun u => u.heap[w12.heap.size]? = some (.cells #[.int .i64 yi, .int .i64 ysc, .int .i64 yep, .slice xA yns.length xca, .slice xB ybd.length xcb, .slice xD ydn.length xcd] 55 (0, 0)) ∧ Below w12.heap.size w12 u) ⟨heap_alloc_new _ _, (Below.refl _ _).alloc (Nat.le_refl _) _⟩ ?_
          rintro w13 ⟨hxb, hb13⟩
          have HXB := hid hxb
          have HIX13 := hid (HIX.out.below hb13)
          have HX13 := hid (keep0 HX12.out hb13)
          have HQ13 := hid (keep0 HQ12.out hb13)
          have HS13 := hid (HS12.out.below hb13)
          clear hxb hb13 HX12 HQ12 HS12 HIX
          generalize w12.heap.size = XB at *
          have hSU : ∀ U, Below w13.heap.size w13 U → ((U.cell? ⟨H, 1, none⟩ = some (.slice Ab2 xs2.length cb2) ∧ U.cell? ⟨AB, 3, none⟩ = some (.int .i64 j)) ∧ Below w13.heap.size w13 U) := fun U hU => by
            obtain ⟨⟨_, z1, _⟩, _⟩ := three_cells (keep0 HS13.out.rl.1 hU)
            obtain ⟨_, _, _, a3, _⟩ := nine_cellsP (keep0 HX13.out hU)
            exact ⟨⟨z1, a3⟩, hU⟩
          have hk0 : Below w13.heap.size w13 w13.drew := below_drew (Below.refl _ _)
          refine wp_region_held_drew (S := fun U => (U.cell? ⟨H, 1, none⟩ = some (.slice Ab2 xs2.length cb2) ∧ U.cell? ⟨AB, 3, none⟩ = some (.int .i64 j)) ∧ Below w13.heap.size w13 U) (by kernel_rfl) (hSU _ hk0) (fun hHeld => ?_)
          generalize w13.drew = k0 at *
          refine tkA 0 ?_ rfl ?_ (by assumption) ?_; rotate_left; focus (intro U hU; (try dsimp only at hU); go_simp; try (with_reducible rfl))
          simp only [gt6, Act.put]
          refine tkA 1 ?_ rfl ?_ (by assumption) ?_; rotate_left; focus (intro U hU; (try dsimp only at hU); go_simp; try (with_reducible rfl))
          simp only [gt6, Act.put]
          refine tkA 2 ?_ rfl ?_ (by assumption) ?_; rotate_left; focus (intro U hU; (try dsimp only at hU); go_simp; try (with_reducible rfl))
          simp only [gt6, Act.put]
          refine tkA 3 ?_ rfl ?_ (by assumption) ?_; rotate_left; focus (intro U hU; (try dsimp only at hU); go_simp; try (with_reducible rfl))
          simp only [gt6, Act.put]
          refine tkA 4 ?_ rfl ?_ (by assumption) ?_; rotate_left; focus (intro U hU; (try dsimp only at hU); go_simp; try (with_reducible rfl))
          simp only [gt6, Act.put]
          refine tkA 5 ?_ rfl ?_ (by assumption) ?_; rotate_left; focus (intro U hU; (try dsimp only at hU); go_simp; try (with_reducible rfl))
          simp only [gt6, Act.put]
          refine tkA 6 ?_ rfl ?_ (by assumption) ?_; rotate_left; focus (intro U hU; (try dsimp only at hU); go_simp; try (with_reducible rfl))
          simp only [gt6, Act.put]
          refine wpAnyH_ready (rs := [7, 11]) (by kernel_rfl) (by simp) ?_
          refine (AllReadyH.cons rfl (fun K hK => ?_) (AllReadyH.cons rfl (fun K hK => ?_) AllReadyH.nil))
          · skip
            as_aux_lemma =>
            simp only [gt3]
            go_simp
            refine (r20findX_any Ab2 cb2 xs2 j k0 (HS13.out.rl.2.2.1.now (HS13.out.s.bel) |>.below hk0)).mono ?_
            rintro q k1 ⟨⟨⟨zi, zsc, zep, zns, zbd, zdn⟩, ⟨uA, uca, uB, ucb, uD, ucd⟩⟩, rfl, hzy, hiy, hb1⟩
            have hk1 := hk0.trans (hb1.mono hk0.size)
            simp only [ecE] at *
            go_wp2_with fail
            refine hK.out _ _ ?_ (fun hHeld2 => ?_)
            focus
              exact hSU _ hk1
            clear hHeld
            have hHeld := hHeld2
            clear hHeld2 hK K
            try simp only [gt6, Act.put]
            refine tkA 8 ?_ rfl ?_ (by assumption) ?_; rotate_left; focus (intro U hU; (try dsimp only at hU); go_simp; try (with_reducible rfl))
            simp only [gt6, Act.put]
            refine tkA 9 ?_ rfl ?_ (by assumption) ?_; rotate_left; focus (intro U hU; (try dsimp only at hU); go_simp; try (with_reducible rfl))
            simp only [gt6, Act.put]
            refine tkA 10 ?_ rfl ?_ (by assumption) ?_; rotate_left; focus (intro U hU; (try dsimp only at hU); go_simp; try (with_reducible rfl))
            simp only [gt6, Act.put]
            refine wpAnyH_ready (rs := [11]) (by kernel_rfl) (by simp) ?_
            refine (AllReadyH.cons rfl (fun K hK => ?_) AllReadyH.nil)
            simp only [gt3]
            go_simp
            refine hK.out _ _ ?_ (fun hHeld2 => ?_)
            focus
              exact hSU _ (hk1.alloc hk1.size _)
            clear hHeld
            have hHeld := hHeld2
            clear hHeld2 hK K
            try simp only [gt6, Act.put]
            have hbn : Below (World.heap k1).size k1 (World.alloc k1 (.cells #[.int .i64 0, .int .i64 0, .int .i64 0, .slice none 0 0, .slice none 0 0, .slice none 0 0] 55 (0, 0))) := (Below.refl _ _).alloc (Nat.le_refl _) _
            have hk2 : Below w13.heap.size w13 (World.alloc k1 (.cells #[.int .i64 0, .int .i64 0, .int .i64 0, .slice none 0 0, .slice none 0 0, .slice none 0 0] 55 (0, 0))) := hk1.trans (hbn.mono hk1.size)
            have hy9 := heap_alloc_new k1 (.cells #[.int .i64 0, .int .i64 0, .int .i64 0, .slice none 0 0, .slice none 0 0, .slice none 0 0] 55 (0, 0))
            have hYBl : w13.heap.size ≤ (World.heap k1).size := hk1.size
            clear hbn
            generalize World.alloc k1 (.cells #[.int .i64 0, .int .i64 0, .int .i64 0, .slice none 0 0, .slice none 0 0, .slice none 0 0] 55 (0, 0)) = k2 at *
            generalize (World.heap k1).size = YB at *
            obtain ⟨⟨p0, p1, p2, p3, p4, p5⟩, f0, f1, f2, f3, f4, f5⟩ := six_cells hy9
            have hk3 := putZ6_below hk2 hYBl (.int .i64 zi) (.int .i64 zsc) (.int .i64 zep) (.slice uA zns.length uca) (.slice uB zbd.length ucb) (.slice uD zdn.length ucd)
            have hy10 := putZ6_heap hy9 (.int .i64 zi) (.int .i64 zsc) (.int .i64 zep) (.slice uA zns.length uca) (.slice uB zbd.length ucb) (.slice uD zdn.length ucd)
            refine wpAnyH_ready (rs := [12]) (by kernel_rfl) (by simp) ?_
            refine (AllReadyH.cons rfl (fun K hK => ?_) AllReadyH.nil)
            simp only [gt3]
            go_simp
            refine hK.out _ _ ?_ (fun hHeld2 => ?_)
            focus
              exact hSU _ hk3
            clear hHeld
            have hHeld := hHeld2
            clear hHeld2 hK K
            try simp only [gt6, Act.put]
            refine tkA 13 ?_ rfl ?_ (by assumption) ?_; rotate_left; focus (intro U hU; (try dsimp only at hU); go_simp; try (with_reducible rfl))
            simp only [gt6, Act.put]
            refine wpAnyH_done (by kernel_rfl) ?_ _
            have HIB := hid hiy
            have HZY := hid hzy
            clear hHeld hSU p0 p1 p2 p3 p4 p5 f0 f1 f2 f3 f4 f5 hiy hzy hy9
            go_upto_region 26 with (fail)
            refine at_world (fun u => u.heap[YB]? = some (.cells #[.int .i64 zi, .int .i64 zsc, .int .i64 zep, .slice uA zns.length uca, .slice uB zbd.length ucb, .slice uD zdn.length ucd] 55 (0, 0)) ∧ Below w13.heap.size w13 u) ⟨hy10, hk3⟩ ?_
            clear hy10 hk3
            rintro w14 ⟨hy14, hb14⟩
            have HIY := hid (HIB.out w14 ((HS13.out.rl.2.2.1.now HS13.out.s.bel).below hb14))
            have HYB := hid hy14
            have HXB14 := hid (keep0 HXB.out hb14)
            have HIX14 := hid (HIX13.out.below hb14)
            have HQ14 := hid (keep0 HQ13.out hb14)
            have HS14 := hid (HS13.out.below hb14)
            clear hy14 hb14 HIB HXB HIX13 HX13 HQ13 HS13
            have HDE : Hid (decide ((⟨yi, ysc, yep, yns, ybd, ydn⟩ : En) = ⟨zi, zsc, zep, zns, zbd, zdn⟩) = true) := hid (decide_eq_true (HYX.out.trans HZY.out.symm))
            clear HYX HZY
            generalize (plB (xs2.map (·.1)) j).isSome = okk at *
            have g2 : (okk != okk) = false := by simp
            have g4 : (down != down) = false := by simp
            have g5 : ((els2.length : Int) != (els2.length : Int)) = false := by simp
            have g6 : ((kepB (xs2.map (·.1)) : Int) != (kepB (xs2.map (·.1)) : Int)) = false := by simp
            have hll2 : els2.length ≤ 9223372036854775807 := by
              have h1 := HS14.out.s.len
              have h2 := HS14.out.s.el
              have h3 := HS14.out.s.lr
              omega
            have hSV : ∀ U, Below w14.heap.size w14 U → (((U.cell? ⟨XB, 0, none⟩ = some (.int .i64 yi) ∧ U.cell? ⟨XB, 1, none⟩ = some (.int .i64 ysc) ∧ U.cell? ⟨XB, 2, none⟩ = some (.int .i64 yep) ∧ U.cell? ⟨XB, 3, none⟩ = some (.slice xA yns.length xca) ∧ U.cell? ⟨XB, 4, none⟩ = some (.slice xB ybd.length xcb) ∧ U.cell? ⟨XB, 5, none⟩ = some (.slice xD ydn.length xcd)) ∧ (U.cell? ⟨YB, 0, none⟩ = some (.int .i64 zi) ∧ U.cell? ⟨YB, 1, none⟩ = some (.int .i64 zsc) ∧ U.cell? ⟨YB, 2, none⟩ = some (.int .i64 zep) ∧ U.cell? ⟨YB, 3, none⟩ = some (.slice uA zns.length uca) ∧ U.cell? ⟨YB, 4, none⟩ = some (.slice uB zbd.length ucb) ∧ U.cell? ⟨YB, 5, none⟩ = some (.slice uD zdn.length ucd)) ∧ U.cell? ⟨H, 0, none⟩ = some (.pointer (some ⟨G2, 0, none⟩)) ∧ U.cell? ⟨H, 1, none⟩ = some (.slice Ab2 xs2.length cb2) ∧ U.cell? ⟨G2, 1, none⟩ = some (.slice A2 els2.length c2) ∧ U.cell? ⟨G2, 2, none⟩ = some (.bool down)) ∧ Below w14.heap.size w14 U) := fun U hU => by
              obtain ⟨⟨a0, a1, a2, a3, a4, a5⟩, _⟩ := six_cells (keep0 HXB14.out hU)
              obtain ⟨⟨b0, b1, b2, b3, b4, b5⟩, _⟩ := six_cells (keep0 HYB.out hU)
              obtain ⟨⟨z0, z1, _⟩, _⟩ := three_cells (keep0 HS14.out.rl.1 hU)
              obtain ⟨⟨_, z2, z3⟩, _⟩ := three_cellsA (keep0 HS14.out.rl.2.1.1 hU)
              exact ⟨⟨⟨a0, a1, a2, a3, a4, a5⟩, ⟨b0, b1, b2, b3, b4, b5⟩, z0, z1, z2, z3⟩, hU⟩
            have hh0 : Below w14.heap.size w14 w14.drew := below_drew (Below.refl _ _)
            refine wp_region_held_drew (S := fun U => ((U.cell? ⟨XB, 0, none⟩ = some (.int .i64 yi) ∧ U.cell? ⟨XB, 1, none⟩ = some (.int .i64 ysc) ∧ U.cell? ⟨XB, 2, none⟩ = some (.int .i64 yep) ∧ U.cell? ⟨XB, 3, none⟩ = some (.slice xA yns.length xca) ∧ U.cell? ⟨XB, 4, none⟩ = some (.slice xB ybd.length xcb) ∧ U.cell? ⟨XB, 5, none⟩ = some (.slice xD ydn.length xcd)) ∧ (U.cell? ⟨YB, 0, none⟩ = some (.int .i64 zi) ∧ U.cell? ⟨YB, 1, none⟩ = some (.int .i64 zsc) ∧ U.cell? ⟨YB, 2, none⟩ = some (.int .i64 zep) ∧ U.cell? ⟨YB, 3, none⟩ = some (.slice uA zns.length uca) ∧ U.cell? ⟨YB, 4, none⟩ = some (.slice uB zbd.length ucb) ∧ U.cell? ⟨YB, 5, none⟩ = some (.slice uD zdn.length ucd)) ∧ U.cell? ⟨H, 0, none⟩ = some (.pointer (some ⟨G2, 0, none⟩)) ∧ U.cell? ⟨H, 1, none⟩ = some (.slice Ab2 xs2.length cb2) ∧ U.cell? ⟨G2, 1, none⟩ = some (.slice A2 els2.length c2) ∧ U.cell? ⟨G2, 2, none⟩ = some (.bool down)) ∧ Below w14.heap.size w14 U) (by kernel_rfl) (hSV _ hh0) (fun hHeld => ?_)
            generalize w14.drew = m0 at *
            refine tkA 0 ?_ rfl ?_ (by assumption) ?_; rotate_left; focus (intro U hU; (try dsimp only at hU); go_simp; try (with_reducible rfl))
            simp only [gt6, Act.put]
            refine tkA 1 ?_ rfl ?_ (by assumption) ?_; rotate_left; focus (intro U hU; (try dsimp only at hU); go_simp; try (with_reducible rfl))
            simp only [gt6, Act.put]
            refine tkA 2 ?_ rfl ?_ (by assumption) ?_; rotate_left; focus (intro U hU; (try dsimp only at hU); go_simp; try (with_reducible rfl))
            simp only [gt6, Act.put]
            refine tkA 3 ?_ rfl ?_ (by assumption) ?_; rotate_left; focus (intro U hU; (try dsimp only at hU); go_simp; try (with_reducible rfl))
            simp only [gt6, Act.put]
            refine tkA 4 ?_ rfl ?_ (by assumption) ?_; rotate_left; focus (intro U hU; (try dsimp only at hU); go_simp; try (with_reducible rfl))
            simp only [gt6, Act.put]
            refine tkA 5 ?_ rfl ?_ (by assumption) ?_; rotate_left; focus (intro U hU; (try dsimp only at hU); go_simp; try (with_reducible rfl))
            simp only [gt6, Act.put]
            refine wpAnyH_ready (rs := [6]) (by kernel_rfl) (by simp) ?_
            refine AllReadyH.cons rfl (fun K hK => ?_) AllReadyH.nil
            simp only [gt3]
            go_simp
            have hON := r20one_any (⟨yi, ysc, yep, yns, ybd, ydn⟩, ⟨xA, xca, xB, xcb, xD, xcd⟩) (⟨zi, zsc, zep, zns, zbd, zdn⟩, ⟨uA, uca, uB, ucb, uD, ucd⟩) m0 (HIX14.out.below hh0) (HIY.out.below hh0)
            simp only [ecE] at hON
            refine hON.mono ?_
            rintro q m1 ⟨rfl, hb9⟩
            rw [HDE.out]
            have hh1 := hh0.trans (hb9.mono hh0.size)
            clear hb9 hON
            go_wp2_with fail
            refine hK.out _ _ ?_ (fun hHeld2 => ?_)
            focus
              exact hSV _ hh1
            clear hHeld
            have hHeld := hHeld2
            clear hHeld2 hK K
            try simp only [gt6, Act.put]
            refine tkA 7 ?_ rfl ?_ (by assumption) ?_; rotate_left; focus (intro U hU; (try dsimp only at hU); go_simp; try (with_reducible rfl))
            simp only [gt6, Act.put]
            refine tkA 8 ?_ rfl ?_ (by assumption) ?_; rotate_left; focus (intro U hU; (try dsimp only at hU); go_simp; try (with_reducible rfl))
            simp only [gt6, Act.put]
            refine tkA 9 ?_ rfl ?_ (by assumption) ?_; rotate_left; focus (intro U hU; (try dsimp only at hU); go_simp; try (with_reducible rfl))
            simp only [gt6, Act.put]
            refine tkA 10 ?_ rfl ?_ (by assumption) ?_; rotate_left; focus (intro U hU; (try dsimp only at hU); go_simp; try (with_reducible rfl))
            simp only [gt6, Act.put]
            refine tkA 12 ?_ rfl ?_ (by assumption) ?_; rotate_left; focus (intro U hU; (try dsimp only at hU); go_simp; try (with_reducible rfl))
            simp only [gt6, Act.put]
            refine tkA 13 ?_ rfl ?_ (by assumption) ?_; rotate_left; focus (intro U hU; (try dsimp only at hU); go_simp; try (with_reducible rfl))
            simp only [gt6, Act.put]
            refine tkA 14 ?_ rfl ?_ (by assumption) ?_; rotate_left; focus (intro U hU; (try dsimp only at hU); go_simp; try (with_reducible rfl))
            simp only [gt6, Act.put]
            refine tkA 15 ?_ rfl ?_ (by assumption) ?_; rotate_left; focus (intro U hU; (try dsimp only at hU); go_simp; try (with_reducible rfl))
            simp only [gt6, Act.put]
            refine wpAnyH_ready (rs := [11]) (by kernel_rfl) (by simp) ?_
            refine AllReadyH.cons rfl (fun K hK => ?_) AllReadyH.nil
            simp only [gt3]
            go_simp
            refine (lbook_any m1 (HS14.out.lg.below hh1)).mono ?_
            rintro q m2 ⟨A7, c7, xs7, rfl, he7, hr7, hb9⟩
            have hh2 := hh1.trans (hb9.mono hh1.size)
            clear hb9
            go_wp2_with fail
            refine hK.out _ _ ?_ (fun hHeld2 => ?_)
            focus
              exact hSV _ hh2
            clear hHeld
            have hHeld := hHeld2
            clear hHeld2 hK K
            try simp only [gt6, Act.put]
            refine wpAnyH_ready (rs := [16]) (by kernel_rfl) (by simp) ?_
            refine AllReadyH.cons rfl (fun K hK => ?_) AllReadyH.nil
            simp only [gt3]
            go_simp
            refine (r20same_any A7 Ab2 c7 cb2 xs7 xs2 m2 hr7.inBk ((HS14.out.rl.2.2.1.now HS14.out.s.bel).below hh2)).mono ?_
            rintro q m3 ⟨rfl, hb9⟩
            rw [decide_eq_true (he7.trans HS14.out.xm)]
            have hh3 := hh2.trans (hb9.mono hh2.size)
            clear hb9 hr7 he7
            go_wp2_with fail
            refine hK.out _ _ ?_ (fun hHeld2 => ?_)
            focus
              exact hSV _ hh3
            clear hHeld
            have hHeld := hHeld2
            clear hHeld2 hK K
            try simp only [gt6, Act.put]
            refine tkA 17 ?_ rfl ?_ (by assumption) ?_; rotate_left; focus (intro U hU; (try dsimp only at hU); go_simp; try (with_reducible rfl))
            simp only [gt6, Act.put]
            refine tkA 18 ?_ rfl ?_ (by assumption) ?_; rotate_left; focus (intro U hU; (try dsimp only at hU); go_simp; try (with_reducible rfl))
            simp only [gt6, Act.put]
            refine tkA 19 ?_ rfl ?_ (by assumption) ?_; rotate_left; focus (intro U hU; (try dsimp only at hU); go_simp; try (with_reducible rfl))
            simp only [gt6, Act.put]
            refine tkA 20 ?_ rfl ?_ (by assumption) ?_; rotate_left; focus (intro U hU; (try dsimp only at hU); go_simp; try (with_reducible rfl))
            simp only [gt6, Act.put]
            refine tkA 22 ?_ rfl ?_ (by assumption) ?_; rotate_left; focus (intro U hU; (try dsimp only at hU); go_simp; try (with_reducible rfl))
            simp only [gt6, Act.put]
            refine wpAnyH_ready (rs := [21]) (by kernel_rfl) (by simp) ?_
            refine AllReadyH.cons rfl (fun K hK => ?_) AllReadyH.nil
            simp only [gt3]
            go_simp
            refine (lkept_any m3 (HS14.out.lg.below hh3)).mono ?_
            rintro q m4 ⟨rfl, rfl⟩
            rw [HS14.out.xm]
            go_wp2_with fail
            refine hK.out _ _ ?_ (fun hHeld2 => ?_)
            focus
              exact hSV _ hh3
            clear hHeld
            have hHeld := hHeld2
            clear hHeld2 hK K
            try simp only [gt6, Act.put]
            refine wpAnyH_ready (rs := [23]) (by kernel_rfl) (by simp) ?_
            refine AllReadyH.cons rfl (fun K hK => ?_) AllReadyH.nil
            simp only [gt3]
            go_simp
            refine (r21kept_any m3 (HS14.out.rl.below hh3) (HS14.out.s.bel.trans (hh3.mono HS14.out.s.bel.size))).mono ?_
            rintro q m4 ⟨rfl, hb9⟩
            have hh4 := hh3.trans (hb9.mono hh3.size)
            clear hb9
            go_wp2_with fail
            refine hK.out _ _ ?_ (fun hHeld2 => ?_)
            focus
              exact hSV _ hh4
            clear hHeld
            have hHeld := hHeld2
            clear hHeld2 hK K
            try simp only [gt6, Act.put]
            refine tkA 24 ?_ rfl ?_ (by assumption) ?_; rotate_left; focus (intro U hU; (try dsimp only at hU); go_simp; try (with_reducible rfl))
            simp only [gt6, Act.put]
            refine tkA 25 ?_ rfl ?_ (by assumption) ?_; rotate_left; focus (intro U hU; (try dsimp only at hU); go_simp; try (with_reducible rfl))
            simp only [gt6, Act.put]
            refine tkA 26 ?_ rfl ?_ (by assumption) ?_; rotate_left; focus (intro U hU; (try dsimp only at hU); go_simp; try (with_reducible rfl))
            simp only [gt6, Act.put]
            refine tkA 27 ?_ rfl ?_ (by assumption) ?_; rotate_left; focus (intro U hU; (try dsimp only at hU); go_simp; try (with_reducible rfl))
            simp only [gt6, Act.put]
            refine tkA 29 ?_ rfl ?_ (by assumption) ?_; rotate_left; focus (intro U hU; (try dsimp only at hU); go_simp; try (with_reducible rfl))
            simp only [gt6, Act.put]
            refine tkA 30 ?_ rfl ?_ (by assumption) ?_; rotate_left; focus (intro U hU; (try dsimp only at hU); go_simp; try (with_reducible rfl))
            simp only [gt6, Act.put]
            refine tkA 31 ?_ rfl ?_ (by assumption) ?_; rotate_left; focus (intro U hU; (try dsimp only at hU); go_simp; try (with_reducible rfl))
            simp only [gt6, Act.put]
            refine tkA 32 ?_ rfl ?_ (by assumption) ?_; rotate_left; focus (intro U hU; (try dsimp only at hU); go_simp; try (with_reducible rfl))
            simp only [gt6, Act.put]
            refine tkA 33 ?_ rfl ?_ (by assumption) ?_; rotate_left; focus (intro U hU; (try dsimp only at hU); go_simp; try (with_reducible rfl))
            simp only [gt6, Act.put]
            refine tkA 34 ?_ rfl ?_ (by assumption) ?_; rotate_left; focus (intro U hU; (try dsimp only at hU); go_simp; try (with_reducible rfl))
            simp only [gt6, Act.put]
            refine tkA 35 ?_ rfl ?_ (by assumption) ?_; rotate_left; focus (intro U hU; (try dsimp only at hU); go_simp; try (with_reducible rfl))
            simp only [gt6, Act.put]
            refine wpAnyH_ready (rs := [28]) (by kernel_rfl) (by simp) ?_
            refine AllReadyH.cons rfl (fun K hK => ?_) AllReadyH.nil
            simp only [gt3]
            go_simp
            refine (ldown_any m4 (HS14.out.lg.below hh4)).mono ?_
            rintro q m5 ⟨rfl, rfl⟩
            go_wp2_with fail
            refine hK.out _ _ ?_ (fun hHeld2 => ?_)
            focus
              exact hSV _ hh4
            clear hHeld
            have hHeld := hHeld2
            clear hHeld2 hK K
            try simp only [gt6, Act.put]
            refine tkA 36 ?_ rfl ?_ (by assumption) ?_; rotate_left; focus (intro U hU; (try dsimp only at hU); go_simp; try (with_reducible rfl))
            simp only [gt6, Act.put]
            refine tkA 37 ?_ rfl ?_ (by assumption) ?_; rotate_left; focus (intro U hU; (try dsimp only at hU); go_simp; try (with_reducible rfl))
            simp only [gt6, Act.put]
            refine tkA 38 ?_ rfl ?_ (by assumption) ?_; rotate_left; focus (intro U hU; (try dsimp only at hU); go_simp; try (with_reducible rfl))
            simp only [gt6, Act.put]
            refine tkA 39 ?_ rfl ?_ (by assumption) ?_; rotate_left; focus (intro U hU; (try dsimp only at hU); go_simp; try (with_reducible rfl))
            simp only [gt6, Act.put]
            refine tkA 41 ?_ rfl ?_ (by assumption) ?_; rotate_left; focus (intro U hU; (try dsimp only at hU); go_simp; try (with_reducible rfl))
            simp only [gt6, Act.put]
            refine tkA 42 ?_ rfl ?_ (by assumption) ?_; rotate_left; focus (intro U hU; (try dsimp only at hU); go_simp; try (with_reducible rfl))
            simp only [gt6, Act.put]
            refine tkA 43 ?_ rfl ?_ (by assumption) ?_; rotate_left; focus (intro U hU; (try dsimp only at hU); go_simp; try (with_reducible rfl))
            simp only [gt6, Act.put]
            refine tkA 44 ?_ rfl ?_ (by assumption) ?_; rotate_left; focus (intro U hU; (try dsimp only at hU); go_simp; try (with_reducible rfl))
            simp only [gt6, Act.put]
            refine tkA 45 ?_ rfl ?_ (by assumption) ?_; rotate_left; focus (intro U hU; (try dsimp only at hU); go_simp; try (with_reducible rfl))
            simp only [gt6, Act.put]
            refine tkA 46 ?_ rfl ?_ (by assumption) ?_; rotate_left; focus (intro U hU; (try dsimp only at hU); go_simp; try (with_reducible rfl))
            simp only [gt6, Act.put]
            refine tkA 47 ?_ rfl ?_ (by assumption) ?_; rotate_left; focus (intro U hU; (try dsimp only at hU); go_simp; try (with_reducible rfl))
            simp only [gt6, Act.put]
            refine tkA 48 ?_ rfl ?_ (by assumption) ?_; rotate_left; focus (intro U hU; (try dsimp only at hU); go_simp; try (with_reducible rfl))
            simp only [gt6, Act.put]
            refine wpAnyH_ready (rs := [40]) (by kernel_rfl) (by simp) ?_
            refine AllReadyH.cons rfl (fun K hK => ?_) AllReadyH.nil
            simp only [gt3]
            go_simp
            refine (llen_any m4 (HS14.out.lg.below hh4)).mono ?_
            rintro q m5 ⟨rfl, rfl⟩
            rw [HS14.out.s.len]
            go_wp2_with fail
            refine hK.out _ _ ?_ (fun hHeld2 => ?_)
            focus
              exact hSV _ hh4
            clear hHeld
            have hHeld := hHeld2
            clear hHeld2 hK K
            try simp only [gt6, Act.put]
            refine tkA 49 ?_ rfl ?_ (by assumption) ?_; rotate_left; focus (intro U hU; (try dsimp only at hU); go_simp; try (with_reducible rfl))
            simp only [gt6, Act.put]
            refine tkA 50 ?_ rfl ?_ (by assumption) ?_; rotate_left; focus (intro U hU; (try dsimp only at hU); go_simp; try (with_reducible rfl))
            simp only [gt6, Act.put]
            refine wpAnyH_done (by kernel_rfl) ?_ _
            have HP2 := hid (LpY.of rfl (HS14.out.below hh4))
            have HQF := hid (keep0 HQ14.out hh4)
            clear hHeld hSV hh0 hh1 hh2 hh3 hh4 g2 g4 g5 g6 HS14 HXB14 HYB HIX14 HIY HQ14 HDE
            go_wp2
            go_roundw
            case rel => exact ⟨n + 1, by omega, by go_num, HP2, HQF⟩
            case measure => simp [intOf]; omega
          · skip
            as_aux_lemma =>
            simp only [gt3]
            go_simp
            refine hK.out _ _ ?_ (fun hHeld2 => ?_)
            focus
              exact hSU _ (hk0.alloc hk0.size _)
            clear hHeld
            have hHeld := hHeld2
            clear hHeld2 hK K
            try simp only [gt6, Act.put]
            have hbn : Below (World.heap k0).size k0 (World.alloc k0 (.cells #[.int .i64 0, .int .i64 0, .int .i64 0, .slice none 0 0, .slice none 0 0, .slice none 0 0] 55 (0, 0))) := (Below.refl _ _).alloc (Nat.le_refl _) _
            have hk1 : Below w13.heap.size w13 (World.alloc k0 (.cells #[.int .i64 0, .int .i64 0, .int .i64 0, .slice none 0 0, .slice none 0 0, .slice none 0 0] 55 (0, 0))) := hk0.trans (hbn.mono hk0.size)
            have hy9 := heap_alloc_new k0 (.cells #[.int .i64 0, .int .i64 0, .int .i64 0, .slice none 0 0, .slice none 0 0, .slice none 0 0] 55 (0, 0))
            have hYBl : w13.heap.size ≤ (World.heap k0).size := hk0.size
            clear hbn
            generalize World.alloc k0 (.cells #[.int .i64 0, .int .i64 0, .int .i64 0, .slice none 0 0, .slice none 0 0, .slice none 0 0] 55 (0, 0)) = k1 at *
            generalize (World.heap k0).size = YB at *
            refine wpAnyH_ready (rs := [7]) (by kernel_rfl) (by simp) ?_
            refine (AllReadyH.cons rfl (fun K hK => ?_) AllReadyH.nil)
            simp only [gt3]
            go_simp
            refine (r20findX_any Ab2 cb2 xs2 j k1 (HS13.out.rl.2.2.1.now (HS13.out.s.bel) |>.below hk1)).mono ?_
            rintro q k2 ⟨⟨⟨zi, zsc, zep, zns, zbd, zdn⟩, ⟨uA, uca, uB, ucb, uD, ucd⟩⟩, rfl, hzy, hiy, hb1⟩
            have hk2 := hk1.trans (hb1.mono hk1.size)
            simp only [ecE] at *
            go_wp2_with fail
            refine hK.out _ _ ?_ (fun hHeld2 => ?_)
            focus
              exact hSU _ hk2
            clear hHeld
            have hHeld := hHeld2
            clear hHeld2 hK K
            try simp only [gt6, Act.put]
            replace hy9 := keep0 hy9 hb1
            refine tkA 8 ?_ rfl ?_ (by assumption) ?_; rotate_left; focus (intro U hU; (try dsimp only at hU); go_simp; try (with_reducible rfl))
            simp only [gt6, Act.put]
            refine tkA 9 ?_ rfl ?_ (by assumption) ?_; rotate_left; focus (intro U hU; (try dsimp only at hU); go_simp; try (with_reducible rfl))
            simp only [gt6, Act.put]
            refine tkA 10 ?_ rfl ?_ (by assumption) ?_; rotate_left; focus (intro U hU; (try dsimp only at hU); go_simp; try (with_reducible rfl))
            simp only [gt6, Act.put]
            obtain ⟨⟨p0, p1, p2, p3, p4, p5⟩, f0, f1, f2, f3, f4, f5⟩ := six_cells hy9
            have hk3 := putZ6_below hk2 hYBl (.int .i64 zi) (.int .i64 zsc) (.int .i64 zep) (.slice uA zns.length uca) (.slice uB zbd.length ucb) (.slice uD zdn.length ucd)
            have hy10 := putZ6_heap hy9 (.int .i64 zi) (.int .i64 zsc) (.int .i64 zep) (.slice uA zns.length uca) (.slice uB zbd.length ucb) (.slice uD zdn.length ucd)
            refine wpAnyH_ready (rs := [12]) (by kernel_rfl) (by simp) ?_
            refine (AllReadyH.cons rfl (fun K hK => ?_) AllReadyH.nil)
            simp only [gt3]
            go_simp
            refine hK.out _ _ ?_ (fun hHeld2 => ?_)
            focus
              exact hSU _ hk3
            clear hHeld
            have hHeld := hHeld2
            clear hHeld2 hK K
            try simp only [gt6, Act.put]
            refine tkA 13 ?_ rfl ?_ (by assumption) ?_; rotate_left; focus (intro U hU; (try dsimp only at hU); go_simp; try (with_reducible rfl))
            simp only [gt6, Act.put]
            refine wpAnyH_done (by kernel_rfl) ?_ _
            have HIB := hid hiy
            have HZY := hid hzy
            clear hHeld hSU p0 p1 p2 p3 p4 p5 f0 f1 f2 f3 f4 f5 hiy hzy hy9
            go_upto_region 26 with (fail)
            refine at_world (fun u => u.heap[YB]? = some (.cells #[.int .i64 zi, .int .i64 zsc, .int .i64 zep, .slice uA zns.length uca, .slice uB zbd.length ucb, .slice uD zdn.length ucd] 55 (0, 0)) ∧ Below w13.heap.size w13 u) ⟨hy10, hk3⟩ ?_
            clear hy10 hk3
            rintro w14 ⟨hy14, hb14⟩
            have HIY := hid (HIB.out w14 ((HS13.out.rl.2.2.1.now HS13.out.s.bel).below hb14))
            have HYB := hid hy14
            have HXB14 := hid (keep0 HXB.out hb14)
            have HIX14 := hid (HIX13.out.below hb14)
            have HQ14 := hid (keep0 HQ13.out hb14)
            have HS14 := hid (HS13.out.below hb14)
            clear hy14 hb14 HIB HXB HIX13 HX13 HQ13 HS13
            have HDE : Hid (decide ((⟨yi, ysc, yep, yns, ybd, ydn⟩ : En) = ⟨zi, zsc, zep, zns, zbd, zdn⟩) = true) := hid (decide_eq_true (HYX.out.trans HZY.out.symm))
            clear HYX HZY
            generalize (plB (xs2.map (·.1)) j).isSome = okk at *
            have g2 : (okk != okk) = false := by simp
            have g4 : (down != down) = false := by simp
            have g5 : ((els2.length : Int) != (els2.length : Int)) = false := by simp
            have g6 : ((kepB (xs2.map (·.1)) : Int) != (kepB (xs2.map (·.1)) : Int)) = false := by simp
            have hll2 : els2.length ≤ 9223372036854775807 := by
              have h1 := HS14.out.s.len
              have h2 := HS14.out.s.el
              have h3 := HS14.out.s.lr
              omega
            have hSV : ∀ U, Below w14.heap.size w14 U → (((U.cell? ⟨XB, 0, none⟩ = some (.int .i64 yi) ∧ U.cell? ⟨XB, 1, none⟩ = some (.int .i64 ysc) ∧ U.cell? ⟨XB, 2, none⟩ = some (.int .i64 yep) ∧ U.cell? ⟨XB, 3, none⟩ = some (.slice xA yns.length xca) ∧ U.cell? ⟨XB, 4, none⟩ = some (.slice xB ybd.length xcb) ∧ U.cell? ⟨XB, 5, none⟩ = some (.slice xD ydn.length xcd)) ∧ (U.cell? ⟨YB, 0, none⟩ = some (.int .i64 zi) ∧ U.cell? ⟨YB, 1, none⟩ = some (.int .i64 zsc) ∧ U.cell? ⟨YB, 2, none⟩ = some (.int .i64 zep) ∧ U.cell? ⟨YB, 3, none⟩ = some (.slice uA zns.length uca) ∧ U.cell? ⟨YB, 4, none⟩ = some (.slice uB zbd.length ucb) ∧ U.cell? ⟨YB, 5, none⟩ = some (.slice uD zdn.length ucd)) ∧ U.cell? ⟨H, 0, none⟩ = some (.pointer (some ⟨G2, 0, none⟩)) ∧ U.cell? ⟨H, 1, none⟩ = some (.slice Ab2 xs2.length cb2) ∧ U.cell? ⟨G2, 1, none⟩ = some (.slice A2 els2.length c2) ∧ U.cell? ⟨G2, 2, none⟩ = some (.bool down)) ∧ Below w14.heap.size w14 U) := fun U hU => by
              obtain ⟨⟨a0, a1, a2, a3, a4, a5⟩, _⟩ := six_cells (keep0 HXB14.out hU)
              obtain ⟨⟨b0, b1, b2, b3, b4, b5⟩, _⟩ := six_cells (keep0 HYB.out hU)
              obtain ⟨⟨z0, z1, _⟩, _⟩ := three_cells (keep0 HS14.out.rl.1 hU)
              obtain ⟨⟨_, z2, z3⟩, _⟩ := three_cellsA (keep0 HS14.out.rl.2.1.1 hU)
              exact ⟨⟨⟨a0, a1, a2, a3, a4, a5⟩, ⟨b0, b1, b2, b3, b4, b5⟩, z0, z1, z2, z3⟩, hU⟩
            have hh0 : Below w14.heap.size w14 w14.drew := below_drew (Below.refl _ _)
            refine wp_region_held_drew (S := fun U => ((U.cell? ⟨XB, 0, none⟩ = some (.int .i64 yi) ∧ U.cell? ⟨XB, 1, none⟩ = some (.int .i64 ysc) ∧ U.cell? ⟨XB, 2, none⟩ = some (.int .i64 yep) ∧ U.cell? ⟨XB, 3, none⟩ = some (.slice xA yns.length xca) ∧ U.cell? ⟨XB, 4, none⟩ = some (.slice xB ybd.length xcb) ∧ U.cell? ⟨XB, 5, none⟩ = some (.slice xD ydn.length xcd)) ∧ (U.cell? ⟨YB, 0, none⟩ = some (.int .i64 zi) ∧ U.cell? ⟨YB, 1, none⟩ = some (.int .i64 zsc) ∧ U.cell? ⟨YB, 2, none⟩ = some (.int .i64 zep) ∧ U.cell? ⟨YB, 3, none⟩ = some (.slice uA zns.length uca) ∧ U.cell? ⟨YB, 4, none⟩ = some (.slice uB zbd.length ucb) ∧ U.cell? ⟨YB, 5, none⟩ = some (.slice uD zdn.length ucd)) ∧ U.cell? ⟨H, 0, none⟩ = some (.pointer (some ⟨G2, 0, none⟩)) ∧ U.cell? ⟨H, 1, none⟩ = some (.slice Ab2 xs2.length cb2) ∧ U.cell? ⟨G2, 1, none⟩ = some (.slice A2 els2.length c2) ∧ U.cell? ⟨G2, 2, none⟩ = some (.bool down)) ∧ Below w14.heap.size w14 U) (by kernel_rfl) (hSV _ hh0) (fun hHeld => ?_)
            generalize w14.drew = m0 at *
            refine tkA 0 ?_ rfl ?_ (by assumption) ?_; rotate_left; focus (intro U hU; (try dsimp only at hU); go_simp; try (with_reducible rfl))
            simp only [gt6, Act.put]
            refine tkA 1 ?_ rfl ?_ (by assumption) ?_; rotate_left; focus (intro U hU; (try dsimp only at hU); go_simp; try (with_reducible rfl))
            simp only [gt6, Act.put]
            refine tkA 2 ?_ rfl ?_ (by assumption) ?_; rotate_left; focus (intro U hU; (try dsimp only at hU); go_simp; try (with_reducible rfl))
            simp only [gt6, Act.put]
            refine tkA 3 ?_ rfl ?_ (by assumption) ?_; rotate_left; focus (intro U hU; (try dsimp only at hU); go_simp; try (with_reducible rfl))
            simp only [gt6, Act.put]
            refine tkA 4 ?_ rfl ?_ (by assumption) ?_; rotate_left; focus (intro U hU; (try dsimp only at hU); go_simp; try (with_reducible rfl))
            simp only [gt6, Act.put]
            refine tkA 5 ?_ rfl ?_ (by assumption) ?_; rotate_left; focus (intro U hU; (try dsimp only at hU); go_simp; try (with_reducible rfl))
            simp only [gt6, Act.put]
            refine wpAnyH_ready (rs := [6]) (by kernel_rfl) (by simp) ?_
            refine AllReadyH.cons rfl (fun K hK => ?_) AllReadyH.nil
            simp only [gt3]
            go_simp
            have hON := r20one_any (⟨yi, ysc, yep, yns, ybd, ydn⟩, ⟨xA, xca, xB, xcb, xD, xcd⟩) (⟨zi, zsc, zep, zns, zbd, zdn⟩, ⟨uA, uca, uB, ucb, uD, ucd⟩) m0 (HIX14.out.below hh0) (HIY.out.below hh0)
            simp only [ecE] at hON
            refine hON.mono ?_
            rintro q m1 ⟨rfl, hb9⟩
            rw [HDE.out]
            have hh1 := hh0.trans (hb9.mono hh0.size)
            clear hb9 hON
            go_wp2_with fail
            refine hK.out _ _ ?_ (fun hHeld2 => ?_)
            focus
              exact hSV _ hh1
            clear hHeld
            have hHeld := hHeld2
            clear hHeld2 hK K
            try simp only [gt6, Act.put]
            refine tkA 7 ?_ rfl ?_ (by assumption) ?_; rotate_left; focus (intro U hU; (try dsimp only at hU); go_simp; try (with_reducible rfl))
            simp only [gt6, Act.put]
            refine tkA 8 ?_ rfl ?_ (by assumption) ?_; rotate_left; focus (intro U hU; (try dsimp only at hU); go_simp; try (with_reducible rfl))
            simp only [gt6, Act.put]
            refine tkA 9 ?_ rfl ?_ (by assumption) ?_; rotate_left; focus (intro U hU; (try dsimp only at hU); go_simp; try (with_reducible rfl))
            simp only [gt6, Act.put]
            refine tkA 10 ?_ rfl ?_ (by assumption) ?_; rotate_left; focus (intro U hU; (try dsimp only at hU); go_simp; try (with_reducible rfl))
            simp only [gt6, Act.put]
            refine tkA 12 ?_ rfl ?_ (by assumption) ?_; rotate_left; focus (intro U hU; (try dsimp only at hU); go_simp; try (with_reducible rfl))
            simp only [gt6, Act.put]
            refine tkA 13 ?_ rfl ?_ (by assumption) ?_; rotate_left; focus (intro U hU; (try dsimp only at hU); go_simp; try (with_reducible rfl))
            simp only [gt6, Act.put]
            refine tkA 14 ?_ rfl ?_ (by assumption) ?_; rotate_left; focus (intro U hU; (try dsimp only at hU); go_simp; try (with_reducible rfl))
            simp only [gt6, Act.put]
            refine tkA 15 ?_ rfl ?_ (by assumption) ?_; rotate_left; focus (intro U hU; (try dsimp only at hU); go_simp; try (with_reducible rfl))
            simp only [gt6, Act.put]
            refine wpAnyH_ready (rs := [11]) (by kernel_rfl) (by simp) ?_
            refine AllReadyH.cons rfl (fun K hK => ?_) AllReadyH.nil
            simp only [gt3]
            go_simp
            refine (lbook_any m1 (HS14.out.lg.below hh1)).mono ?_
            rintro q m2 ⟨A7, c7, xs7, rfl, he7, hr7, hb9⟩
            have hh2 := hh1.trans (hb9.mono hh1.size)
            clear hb9
            go_wp2_with fail
            refine hK.out _ _ ?_ (fun hHeld2 => ?_)
            focus
              exact hSV _ hh2
            clear hHeld
            have hHeld := hHeld2
            clear hHeld2 hK K
            try simp only [gt6, Act.put]
            refine wpAnyH_ready (rs := [16]) (by kernel_rfl) (by simp) ?_
            refine AllReadyH.cons rfl (fun K hK => ?_) AllReadyH.nil
            simp only [gt3]
            go_simp
            refine (r20same_any A7 Ab2 c7 cb2 xs7 xs2 m2 hr7.inBk ((HS14.out.rl.2.2.1.now HS14.out.s.bel).below hh2)).mono ?_
            rintro q m3 ⟨rfl, hb9⟩
            rw [decide_eq_true (he7.trans HS14.out.xm)]
            have hh3 := hh2.trans (hb9.mono hh2.size)
            clear hb9 hr7 he7
            go_wp2_with fail
            refine hK.out _ _ ?_ (fun hHeld2 => ?_)
            focus
              exact hSV _ hh3
            clear hHeld
            have hHeld := hHeld2
            clear hHeld2 hK K
            try simp only [gt6, Act.put]
            refine tkA 17 ?_ rfl ?_ (by assumption) ?_; rotate_left; focus (intro U hU; (try dsimp only at hU); go_simp; try (with_reducible rfl))
            simp only [gt6, Act.put]
            refine tkA 18 ?_ rfl ?_ (by assumption) ?_; rotate_left; focus (intro U hU; (try dsimp only at hU); go_simp; try (with_reducible rfl))
            simp only [gt6, Act.put]
            refine tkA 19 ?_ rfl ?_ (by assumption) ?_; rotate_left; focus (intro U hU; (try dsimp only at hU); go_simp; try (with_reducible rfl))
            simp only [gt6, Act.put]
            refine tkA 20 ?_ rfl ?_ (by assumption) ?_; rotate_left; focus (intro U hU; (try dsimp only at hU); go_simp; try (with_reducible rfl))
            simp only [gt6, Act.put]
            refine tkA 22 ?_ rfl ?_ (by assumption) ?_; rotate_left; focus (intro U hU; (try dsimp only at hU); go_simp; try (with_reducible rfl))
            simp only [gt6, Act.put]
            refine wpAnyH_ready (rs := [21]) (by kernel_rfl) (by simp) ?_
            refine AllReadyH.cons rfl (fun K hK => ?_) AllReadyH.nil
            simp only [gt3]
            go_simp
            refine (lkept_any m3 (HS14.out.lg.below hh3)).mono ?_
            rintro q m4 ⟨rfl, rfl⟩
            rw [HS14.out.xm]
            go_wp2_with fail
            refine hK.out _ _ ?_ (fun hHeld2 => ?_)
            focus
              exact hSV _ hh3
            clear hHeld
            have hHeld := hHeld2
            clear hHeld2 hK K
            try simp only [gt6, Act.put]
            refine wpAnyH_ready (rs := [23]) (by kernel_rfl) (by simp) ?_
            refine AllReadyH.cons rfl (fun K hK => ?_) AllReadyH.nil
            simp only [gt3]
            go_simp
            refine (r21kept_any m3 (HS14.out.rl.below hh3) (HS14.out.s.bel.trans (hh3.mono HS14.out.s.bel.size))).mono ?_
            rintro q m4 ⟨rfl, hb9⟩
            have hh4 := hh3.trans (hb9.mono hh3.size)
            clear hb9
            go_wp2_with fail
            refine hK.out _ _ ?_ (fun hHeld2 => ?_)
            focus
              exact hSV _ hh4
            clear hHeld
            have hHeld := hHeld2
            clear hHeld2 hK K
            try simp only [gt6, Act.put]
            refine tkA 24 ?_ rfl ?_ (by assumption) ?_; rotate_left; focus (intro U hU; (try dsimp only at hU); go_simp; try (with_reducible rfl))
            simp only [gt6, Act.put]
            refine tkA 25 ?_ rfl ?_ (by assumption) ?_; rotate_left; focus (intro U hU; (try dsimp only at hU); go_simp; try (with_reducible rfl))
            simp only [gt6, Act.put]
            refine tkA 26 ?_ rfl ?_ (by assumption) ?_; rotate_left; focus (intro U hU; (try dsimp only at hU); go_simp; try (with_reducible rfl))
            simp only [gt6, Act.put]
            refine tkA 27 ?_ rfl ?_ (by assumption) ?_; rotate_left; focus (intro U hU; (try dsimp only at hU); go_simp; try (with_reducible rfl))
            simp only [gt6, Act.put]
            refine tkA 29 ?_ rfl ?_ (by assumption) ?_; rotate_left; focus (intro U hU; (try dsimp only at hU); go_simp; try (with_reducible rfl))
            simp only [gt6, Act.put]
            refine tkA 30 ?_ rfl ?_ (by assumption) ?_; rotate_left; focus (intro U hU; (try dsimp only at hU); go_simp; try (with_reducible rfl))
            simp only [gt6, Act.put]
            refine tkA 31 ?_ rfl ?_ (by assumption) ?_; rotate_left; focus (intro U hU; (try dsimp only at hU); go_simp; try (with_reducible rfl))
            simp only [gt6, Act.put]
            refine tkA 32 ?_ rfl ?_ (by assumption) ?_; rotate_left; focus (intro U hU; (try dsimp only at hU); go_simp; try (with_reducible rfl))
            simp only [gt6, Act.put]
            refine tkA 33 ?_ rfl ?_ (by assumption) ?_; rotate_left; focus (intro U hU; (try dsimp only at hU); go_simp; try (with_reducible rfl))
            simp only [gt6, Act.put]
            refine tkA 34 ?_ rfl ?_ (by assumption) ?_; rotate_left; focus (intro U hU; (try dsimp only at hU); go_simp; try (with_reducible rfl))
            simp only [gt6, Act.put]
            refine tkA 35 ?_ rfl ?_ (by assumption) ?_; rotate_left; focus (intro U hU; (try dsimp only at hU); go_simp; try (with_reducible rfl))
            simp only [gt6, Act.put]
            refine wpAnyH_ready (rs := [28]) (by kernel_rfl) (by simp) ?_
            refine AllReadyH.cons rfl (fun K hK => ?_) AllReadyH.nil
            simp only [gt3]
            go_simp
            refine (ldown_any m4 (HS14.out.lg.below hh4)).mono ?_
            rintro q m5 ⟨rfl, rfl⟩
            go_wp2_with fail
            refine hK.out _ _ ?_ (fun hHeld2 => ?_)
            focus
              exact hSV _ hh4
            clear hHeld
            have hHeld := hHeld2
            clear hHeld2 hK K
            try simp only [gt6, Act.put]
            refine tkA 36 ?_ rfl ?_ (by assumption) ?_; rotate_left; focus (intro U hU; (try dsimp only at hU); go_simp; try (with_reducible rfl))
            simp only [gt6, Act.put]
            refine tkA 37 ?_ rfl ?_ (by assumption) ?_; rotate_left; focus (intro U hU; (try dsimp only at hU); go_simp; try (with_reducible rfl))
            simp only [gt6, Act.put]
            refine tkA 38 ?_ rfl ?_ (by assumption) ?_; rotate_left; focus (intro U hU; (try dsimp only at hU); go_simp; try (with_reducible rfl))
            simp only [gt6, Act.put]
            refine tkA 39 ?_ rfl ?_ (by assumption) ?_; rotate_left; focus (intro U hU; (try dsimp only at hU); go_simp; try (with_reducible rfl))
            simp only [gt6, Act.put]
            refine tkA 41 ?_ rfl ?_ (by assumption) ?_; rotate_left; focus (intro U hU; (try dsimp only at hU); go_simp; try (with_reducible rfl))
            simp only [gt6, Act.put]
            refine tkA 42 ?_ rfl ?_ (by assumption) ?_; rotate_left; focus (intro U hU; (try dsimp only at hU); go_simp; try (with_reducible rfl))
            simp only [gt6, Act.put]
            refine tkA 43 ?_ rfl ?_ (by assumption) ?_; rotate_left; focus (intro U hU; (try dsimp only at hU); go_simp; try (with_reducible rfl))
            simp only [gt6, Act.put]
            refine tkA 44 ?_ rfl ?_ (by assumption) ?_; rotate_left; focus (intro U hU; (try dsimp only at hU); go_simp; try (with_reducible rfl))
            simp only [gt6, Act.put]
            refine tkA 45 ?_ rfl ?_ (by assumption) ?_; rotate_left; focus (intro U hU; (try dsimp only at hU); go_simp; try (with_reducible rfl))
            simp only [gt6, Act.put]
            refine tkA 46 ?_ rfl ?_ (by assumption) ?_; rotate_left; focus (intro U hU; (try dsimp only at hU); go_simp; try (with_reducible rfl))
            simp only [gt6, Act.put]
            refine tkA 47 ?_ rfl ?_ (by assumption) ?_; rotate_left; focus (intro U hU; (try dsimp only at hU); go_simp; try (with_reducible rfl))
            simp only [gt6, Act.put]
            refine tkA 48 ?_ rfl ?_ (by assumption) ?_; rotate_left; focus (intro U hU; (try dsimp only at hU); go_simp; try (with_reducible rfl))
            simp only [gt6, Act.put]
            refine wpAnyH_ready (rs := [40]) (by kernel_rfl) (by simp) ?_
            refine AllReadyH.cons rfl (fun K hK => ?_) AllReadyH.nil
            simp only [gt3]
            go_simp
            refine (llen_any m4 (HS14.out.lg.below hh4)).mono ?_
            rintro q m5 ⟨rfl, rfl⟩
            rw [HS14.out.s.len]
            go_wp2_with fail
            refine hK.out _ _ ?_ (fun hHeld2 => ?_)
            focus
              exact hSV _ hh4
            clear hHeld
            have hHeld := hHeld2
            clear hHeld2 hK K
            try simp only [gt6, Act.put]
            refine tkA 49 ?_ rfl ?_ (by assumption) ?_; rotate_left; focus (intro U hU; (try dsimp only at hU); go_simp; try (with_reducible rfl))
            simp only [gt6, Act.put]
            refine tkA 50 ?_ rfl ?_ (by assumption) ?_; rotate_left; focus (intro U hU; (try dsimp only at hU); go_simp; try (with_reducible rfl))
            simp only [gt6, Act.put]
            refine wpAnyH_done (by kernel_rfl) ?_ _
            have HP2 := hid (LpY.of rfl (HS14.out.below hh4))
            have HQF := hid (keep0 HQ14.out hh4)
            clear hHeld hSV hh0 hh1 hh2 hh3 hh4 g2 g4 g5 g6 HS14 HXB14 HYB HIX14 HIY HQ14 HDE
            go_wp2
            go_roundw
            case rel => exact ⟨n + 1, by omega, by go_num, HP2, HQF⟩
            case measure => simp [intOf]; omega
        case inr.inl =>
          as_aux_lemma =>
          subst hd
          go_upto_region 16 with (fail)
          replace y0 := cell_regrown y0
          refine wp_region_quiet_below (by kernel_rfl) (by kernel_rfl) ?_
          repeat (go_big_quiet_step (fail))
          refine wpQuiet_nil ?_
          intro _ hw'
          obtain ⟨⟨dq, osq⟩, hw''⟩ := hw'
          subst hw''
          refine at_world (fun u => Below w7.heap.size w7 u) (below_regrown w7 dq osq) ?_
          rintro w8 hb8
          have HX8 := hid (keep0 HX7.out hb8)
          have HQ8 := hid (keep0 HQ7.out hb8)
          have HS8 := hid (HS7.out.below hb8)
          clear hb8 HX7 HQ7 HS7 y0 y1 y2 y3 y4 y5 y6 y7 y8
          obtain ⟨y0, y1, y2, y3, y4, y5, y6, y7, y8⟩ := nine_cellsP HX8.out
          have HFU := hid (dfuse_any D room l (decide (0 ≤ fu)) fuse m w8 HS8.out.s.an.2.1)
          go_wp2_with fail
          refine HFU.out.mono ?_
          rintro e w9 ⟨⟨v8, rfl⟩, hd8, ho8⟩
          have hN := HS8.out.s.ne
          obtain ⟨A9, c9, h9d, _⟩ := HS8.out.s.an.2.1.open
          have hx9 := ho8.block HX8.out (blk_ne h9d HX8.out (by decide)).symm
          have hq9 := ho8.block HQ8.out (blk_ne h9d HQ8.out (by decide)).symm
          have hm9 : RkAt w9 M room l fu := ho8.block HS8.out.s.rn.2.1 hN.2.2.2.2.2.symm
          have HP2 := hid (LpY.of rfl (HS8.out.fused m hd8 ho8))
          have HX9 := hid ((tch_set w9 M 2 (.int .i64 m)).block hx9 (blk_ne hm9 hx9 (by decide)).symm)
          have HQ9 := hid ((tch_set w9 M 2 (.int .i64 m)).block hq9 (blk_ne hm9 hq9 (by decide)).symm)
          obtain ⟨⟨r0, r2, r3⟩, q0, q1, q2⟩ := three_cells hm9
          clear y0 y1 y2 y3 y4 y5 y6 y7 y8 hd8 ho8 HFU hN h9d HX8 HQ8 HS8 hq9
          obtain ⟨y0, y1, y2, y3, y4, y5, y6, y7, y8⟩ := nine_cellsP hx9
          clear hx9 hm9
          go_upto_region 21 with (fail)
          refine at_world (fun u => LpY W u D M R room (R : Int) (.pointer (some ⟨L, 0, none⟩)) (.int .i64 0) (.pointer (some ⟨H, 0, none⟩)) (.int .i64 0) ∧ u.heap[AB]? = some (.cells #[.int .i64 1, .int .i64 m, .int .i64 k, .int .i64 j, .int .i64 t, .int .i64 wk, .int .i64 s, .int .i64 ep, .slice Ax ns.length cx] 48 (0, 0)) ∧ u.heap[Q]? = some (.cells #[.int .i64 (room : Int), .int .i64 (R : Int)] 22 (0, 0))) ⟨HP2.out, HX9.out, HQ9.out⟩ ?_
          clear HP2 HX9 HQ9 y0 y1 y2 y3 y4 y5 y6 y7 y8 r0 r2 r3 q0 q1 q2
          rintro w9b ⟨hp9, hx9, hq9⟩
          have HP9 := hid hp9
          have HX9 := hid hx9
          have HQ9 := hid hq9
          clear hp9 hx9 hq9
          obtain ⟨y0, y1, y2, y3, y4, y5, y6, y7, y8⟩ := nine_cellsP HX9.out
          go_upto_region 24 with (fail)
          refine at_world (fun u => LpY W u D M R room (R : Int) (.pointer (some ⟨L, 0, none⟩)) (.int .i64 0) (.pointer (some ⟨H, 0, none⟩)) (.int .i64 0) ∧ u.heap[AB]? = some (.cells #[.int .i64 1, .int .i64 m, .int .i64 k, .int .i64 j, .int .i64 t, .int .i64 wk, .int .i64 s, .int .i64 ep, .slice Ax ns.length cx] 48 (0, 0)) ∧ u.heap[Q]? = some (.cells #[.int .i64 (room : Int), .int .i64 (R : Int)] 22 (0, 0))) ⟨HP9.out, HX9.out, HQ9.out⟩ ?_
          clear HP9 HX9 HQ9 y0 y1 y2 y3 y4 y5 y6 y7 y8
          rintro w11 ⟨hY, hx11, hq11⟩
          have HX11 := hid hx11
          have HQ11 := hid hq11
          clear hx11 hq11
          rcases hY with ⟨_, B, B2, L9, H9, G, G2, l, fuse, fu, A1, c1, els, Ab, cb1, xs, A2, c2, els2, Ab2, cb2, xs2, down, hpl, hpe, hpw, hpf, hS⟩ | ⟨_, _, _, f9, hf9, hpl, _⟩
          case inr => exact absurd hpl (by simp)
          cases hpl
          cases hpw
          clear hpe hpf
          have HS := hid hS
          clear hS
          obtain ⟨y0, y1, y2, y3, y4, y5, y6, y7, y8⟩ := nine_cellsP HX11.out
          have HEN := hid (lentry_any j w11 HS.out.lg)
          rw [HS.out.xm] at HEN
          go_wp2_with fail
          refine HEN.out.mono ?_
          rintro e w12 ⟨⟨⟨yi, ysc, yep, yns, ybd, ydn⟩, ⟨xA, xca, xB, xcb, xD, xcd⟩⟩, rfl, hyx, hix, hb12⟩
          have HYX := hid hyx
          have HIX := hid hix
          have HX12 := hid (keep0 HX11.out hb12)
          have HQ12 := hid (keep0 HQ11.out hb12)
          have HS12 := hid (HS.out.below hb12)
          clear hyx hix hb12 HX11 HQ11 HS HEN y0 y1 y2 y3 y4 y5 y6 y7 y8
          simp only [ecE] at *
          go_upto_region 25 with (fail)
          refine at_world (fun u => u.heap[w12.heap.size]? = some (.cells #[.int .i64 yi, .int .i64 ysc, .int .i64 yep, .slice xA yns.length xca, .slice xB ybd.length xcb, .slice xD ydn.length xcd] 55 (0, 0)) ∧ Below w12.heap.size w12 u) ⟨heap_alloc_new _ _, (Below.refl _ _).alloc (Nat.le_refl _) _⟩ ?_
          rintro w13 ⟨hxb, hb13⟩
          have HXB := hid hxb
          have HIX13 := hid (HIX.out.below hb13)
          have HX13 := hid (keep0 HX12.out hb13)
          have HQ13 := hid (keep0 HQ12.out hb13)
          have HS13 := hid (HS12.out.below hb13)
          clear hxb hb13 HX12 HQ12 HS12 HIX
          generalize w12.heap.size = XB at *
          have hSU : ∀ U, Below w13.heap.size w13 U → ((U.cell? ⟨H, 1, none⟩ = some (.slice Ab2 xs2.length cb2) ∧ U.cell? ⟨AB, 3, none⟩ = some (.int .i64 j)) ∧ Below w13.heap.size w13 U) := fun U hU => by
            obtain ⟨⟨_, z1, _⟩, _⟩ := three_cells (keep0 HS13.out.rl.1 hU)
            obtain ⟨_, _, _, a3, _⟩ := nine_cellsP (keep0 HX13.out hU)
            exact ⟨⟨z1, a3⟩, hU⟩
          have hk0 : Below w13.heap.size w13 w13.drew := below_drew (Below.refl _ _)
          refine wp_region_held_drew (S := fun U => (U.cell? ⟨H, 1, none⟩ = some (.slice Ab2 xs2.length cb2) ∧ U.cell? ⟨AB, 3, none⟩ = some (.int .i64 j)) ∧ Below w13.heap.size w13 U) (by kernel_rfl) (hSU _ hk0) (fun hHeld => ?_)
          generalize w13.drew = k0 at *
          refine tkA 0 ?_ rfl ?_ (by assumption) ?_; rotate_left; focus (intro U hU; (try dsimp only at hU); go_simp; try (with_reducible rfl))
          simp only [gt6, Act.put]
          refine tkA 1 ?_ rfl ?_ (by assumption) ?_; rotate_left; focus (intro U hU; (try dsimp only at hU); go_simp; try (with_reducible rfl))
          simp only [gt6, Act.put]
          refine tkA 2 ?_ rfl ?_ (by assumption) ?_; rotate_left; focus (intro U hU; (try dsimp only at hU); go_simp; try (with_reducible rfl))
          simp only [gt6, Act.put]
          refine tkA 3 ?_ rfl ?_ (by assumption) ?_; rotate_left; focus (intro U hU; (try dsimp only at hU); go_simp; try (with_reducible rfl))
          simp only [gt6, Act.put]
          refine tkA 4 ?_ rfl ?_ (by assumption) ?_; rotate_left; focus (intro U hU; (try dsimp only at hU); go_simp; try (with_reducible rfl))
          simp only [gt6, Act.put]
          refine tkA 5 ?_ rfl ?_ (by assumption) ?_; rotate_left; focus (intro U hU; (try dsimp only at hU); go_simp; try (with_reducible rfl))
          simp only [gt6, Act.put]
          refine tkA 6 ?_ rfl ?_ (by assumption) ?_; rotate_left; focus (intro U hU; (try dsimp only at hU); go_simp; try (with_reducible rfl))
          simp only [gt6, Act.put]
          refine wpAnyH_ready (rs := [7, 11]) (by kernel_rfl) (by simp) ?_
          refine (AllReadyH.cons rfl (fun K hK => ?_) (AllReadyH.cons rfl (fun K hK => ?_) AllReadyH.nil))
          · skip
            as_aux_lemma =>
            simp only [gt3]
            go_simp
            refine (r20findX_any Ab2 cb2 xs2 j k0 (HS13.out.rl.2.2.1.now (HS13.out.s.bel) |>.below hk0)).mono ?_
            rintro q k1 ⟨⟨⟨zi, zsc, zep, zns, zbd, zdn⟩, ⟨uA, uca, uB, ucb, uD, ucd⟩⟩, rfl, hzy, hiy, hb1⟩
            have hk1 := hk0.trans (hb1.mono hk0.size)
            simp only [ecE] at *
            go_wp2_with fail
            refine hK.out _ _ ?_ (fun hHeld2 => ?_)
            focus
              exact hSU _ hk1
            clear hHeld
            have hHeld := hHeld2
            clear hHeld2 hK K
            try simp only [gt6, Act.put]
            refine tkA 8 ?_ rfl ?_ (by assumption) ?_; rotate_left; focus (intro U hU; (try dsimp only at hU); go_simp; try (with_reducible rfl))
            simp only [gt6, Act.put]
            refine tkA 9 ?_ rfl ?_ (by assumption) ?_; rotate_left; focus (intro U hU; (try dsimp only at hU); go_simp; try (with_reducible rfl))
            simp only [gt6, Act.put]
            refine tkA 10 ?_ rfl ?_ (by assumption) ?_; rotate_left; focus (intro U hU; (try dsimp only at hU); go_simp; try (with_reducible rfl))
            simp only [gt6, Act.put]
            refine wpAnyH_ready (rs := [11]) (by kernel_rfl) (by simp) ?_
            refine (AllReadyH.cons rfl (fun K hK => ?_) AllReadyH.nil)
            simp only [gt3]
            go_simp
            refine hK.out _ _ ?_ (fun hHeld2 => ?_)
            focus
              exact hSU _ (hk1.alloc hk1.size _)
            clear hHeld
            have hHeld := hHeld2
            clear hHeld2 hK K
            try simp only [gt6, Act.put]
            have hbn : Below (World.heap k1).size k1 (World.alloc k1 (.cells #[.int .i64 0, .int .i64 0, .int .i64 0, .slice none 0 0, .slice none 0 0, .slice none 0 0] 55 (0, 0))) := (Below.refl _ _).alloc (Nat.le_refl _) _
            have hk2 : Below w13.heap.size w13 (World.alloc k1 (.cells #[.int .i64 0, .int .i64 0, .int .i64 0, .slice none 0 0, .slice none 0 0, .slice none 0 0] 55 (0, 0))) := hk1.trans (hbn.mono hk1.size)
            have hy9 := heap_alloc_new k1 (.cells #[.int .i64 0, .int .i64 0, .int .i64 0, .slice none 0 0, .slice none 0 0, .slice none 0 0] 55 (0, 0))
            have hYBl : w13.heap.size ≤ (World.heap k1).size := hk1.size
            clear hbn
            generalize World.alloc k1 (.cells #[.int .i64 0, .int .i64 0, .int .i64 0, .slice none 0 0, .slice none 0 0, .slice none 0 0] 55 (0, 0)) = k2 at *
            generalize (World.heap k1).size = YB at *
            obtain ⟨⟨p0, p1, p2, p3, p4, p5⟩, f0, f1, f2, f3, f4, f5⟩ := six_cells hy9
            have hk3 := putZ6_below hk2 hYBl (.int .i64 zi) (.int .i64 zsc) (.int .i64 zep) (.slice uA zns.length uca) (.slice uB zbd.length ucb) (.slice uD zdn.length ucd)
            have hy10 := putZ6_heap hy9 (.int .i64 zi) (.int .i64 zsc) (.int .i64 zep) (.slice uA zns.length uca) (.slice uB zbd.length ucb) (.slice uD zdn.length ucd)
            refine wpAnyH_ready (rs := [12]) (by kernel_rfl) (by simp) ?_
            refine (AllReadyH.cons rfl (fun K hK => ?_) AllReadyH.nil)
            simp only [gt3]
            go_simp
            refine hK.out _ _ ?_ (fun hHeld2 => ?_)
            focus
              exact hSU _ hk3
            clear hHeld
            have hHeld := hHeld2
            clear hHeld2 hK K
            try simp only [gt6, Act.put]
            refine tkA 13 ?_ rfl ?_ (by assumption) ?_; rotate_left; focus (intro U hU; (try dsimp only at hU); go_simp; try (with_reducible rfl))
            simp only [gt6, Act.put]
            refine wpAnyH_done (by kernel_rfl) ?_ _
            have HIB := hid hiy
            have HZY := hid hzy
            clear hHeld hSU p0 p1 p2 p3 p4 p5 f0 f1 f2 f3 f4 f5 hiy hzy hy9
            go_upto_region 26 with (fail)
            refine at_world (fun u => u.heap[YB]? = some (.cells #[.int .i64 zi, .int .i64 zsc, .int .i64 zep, .slice uA zns.length uca, .slice uB zbd.length ucb, .slice uD zdn.length ucd] 55 (0, 0)) ∧ Below w13.heap.size w13 u) ⟨hy10, hk3⟩ ?_
            clear hy10 hk3
            rintro w14 ⟨hy14, hb14⟩
            have HIY := hid (HIB.out w14 ((HS13.out.rl.2.2.1.now HS13.out.s.bel).below hb14))
            have HYB := hid hy14
            have HXB14 := hid (keep0 HXB.out hb14)
            have HIX14 := hid (HIX13.out.below hb14)
            have HQ14 := hid (keep0 HQ13.out hb14)
            have HS14 := hid (HS13.out.below hb14)
            clear hy14 hb14 HIB HXB HIX13 HX13 HQ13 HS13
            have HDE : Hid (decide ((⟨yi, ysc, yep, yns, ybd, ydn⟩ : En) = ⟨zi, zsc, zep, zns, zbd, zdn⟩) = true) := hid (decide_eq_true (HYX.out.trans HZY.out.symm))
            clear HYX HZY
            generalize (plB (xs2.map (·.1)) j).isSome = okk at *
            have g2 : (okk != okk) = false := by simp
            have g4 : (down != down) = false := by simp
            have g5 : ((els2.length : Int) != (els2.length : Int)) = false := by simp
            have g6 : ((kepB (xs2.map (·.1)) : Int) != (kepB (xs2.map (·.1)) : Int)) = false := by simp
            have hll2 : els2.length ≤ 9223372036854775807 := by
              have h1 := HS14.out.s.len
              have h2 := HS14.out.s.el
              have h3 := HS14.out.s.lr
              omega
            have hSV : ∀ U, Below w14.heap.size w14 U → (((U.cell? ⟨XB, 0, none⟩ = some (.int .i64 yi) ∧ U.cell? ⟨XB, 1, none⟩ = some (.int .i64 ysc) ∧ U.cell? ⟨XB, 2, none⟩ = some (.int .i64 yep) ∧ U.cell? ⟨XB, 3, none⟩ = some (.slice xA yns.length xca) ∧ U.cell? ⟨XB, 4, none⟩ = some (.slice xB ybd.length xcb) ∧ U.cell? ⟨XB, 5, none⟩ = some (.slice xD ydn.length xcd)) ∧ (U.cell? ⟨YB, 0, none⟩ = some (.int .i64 zi) ∧ U.cell? ⟨YB, 1, none⟩ = some (.int .i64 zsc) ∧ U.cell? ⟨YB, 2, none⟩ = some (.int .i64 zep) ∧ U.cell? ⟨YB, 3, none⟩ = some (.slice uA zns.length uca) ∧ U.cell? ⟨YB, 4, none⟩ = some (.slice uB zbd.length ucb) ∧ U.cell? ⟨YB, 5, none⟩ = some (.slice uD zdn.length ucd)) ∧ U.cell? ⟨H, 0, none⟩ = some (.pointer (some ⟨G2, 0, none⟩)) ∧ U.cell? ⟨H, 1, none⟩ = some (.slice Ab2 xs2.length cb2) ∧ U.cell? ⟨G2, 1, none⟩ = some (.slice A2 els2.length c2) ∧ U.cell? ⟨G2, 2, none⟩ = some (.bool down)) ∧ Below w14.heap.size w14 U) := fun U hU => by
              obtain ⟨⟨a0, a1, a2, a3, a4, a5⟩, _⟩ := six_cells (keep0 HXB14.out hU)
              obtain ⟨⟨b0, b1, b2, b3, b4, b5⟩, _⟩ := six_cells (keep0 HYB.out hU)
              obtain ⟨⟨z0, z1, _⟩, _⟩ := three_cells (keep0 HS14.out.rl.1 hU)
              obtain ⟨⟨_, z2, z3⟩, _⟩ := three_cellsA (keep0 HS14.out.rl.2.1.1 hU)
              exact ⟨⟨⟨a0, a1, a2, a3, a4, a5⟩, ⟨b0, b1, b2, b3, b4, b5⟩, z0, z1, z2, z3⟩, hU⟩
            have hh0 : Below w14.heap.size w14 w14.drew := below_drew (Below.refl _ _)
            refine wp_region_held_drew (S := fun U => ((U.cell? ⟨XB, 0, none⟩ = some (.int .i64 yi) ∧ U.cell? ⟨XB, 1, none⟩ = some (.int .i64 ysc) ∧ U.cell? ⟨XB, 2, none⟩ = some (.int .i64 yep) ∧ U.cell? ⟨XB, 3, none⟩ = some (.slice xA yns.length xca) ∧ U.cell? ⟨XB, 4, none⟩ = some (.slice xB ybd.length xcb) ∧ U.cell? ⟨XB, 5, none⟩ = some (.slice xD ydn.length xcd)) ∧ (U.cell? ⟨YB, 0, none⟩ = some (.int .i64 zi) ∧ U.cell? ⟨YB, 1, none⟩ = some (.int .i64 zsc) ∧ U.cell? ⟨YB, 2, none⟩ = some (.int .i64 zep) ∧ U.cell? ⟨YB, 3, none⟩ = some (.slice uA zns.length uca) ∧ U.cell? ⟨YB, 4, none⟩ = some (.slice uB zbd.length ucb) ∧ U.cell? ⟨YB, 5, none⟩ = some (.slice uD zdn.length ucd)) ∧ U.cell? ⟨H, 0, none⟩ = some (.pointer (some ⟨G2, 0, none⟩)) ∧ U.cell? ⟨H, 1, none⟩ = some (.slice Ab2 xs2.length cb2) ∧ U.cell? ⟨G2, 1, none⟩ = some (.slice A2 els2.length c2) ∧ U.cell? ⟨G2, 2, none⟩ = some (.bool down)) ∧ Below w14.heap.size w14 U) (by kernel_rfl) (hSV _ hh0) (fun hHeld => ?_)
            generalize w14.drew = m0 at *
            refine tkA 0 ?_ rfl ?_ (by assumption) ?_; rotate_left; focus (intro U hU; (try dsimp only at hU); go_simp; try (with_reducible rfl))
            simp only [gt6, Act.put]
            refine tkA 1 ?_ rfl ?_ (by assumption) ?_; rotate_left; focus (intro U hU; (try dsimp only at hU); go_simp; try (with_reducible rfl))
            simp only [gt6, Act.put]
            refine tkA 2 ?_ rfl ?_ (by assumption) ?_; rotate_left; focus (intro U hU; (try dsimp only at hU); go_simp; try (with_reducible rfl))
            simp only [gt6, Act.put]
            refine tkA 3 ?_ rfl ?_ (by assumption) ?_; rotate_left; focus (intro U hU; (try dsimp only at hU); go_simp; try (with_reducible rfl))
            simp only [gt6, Act.put]
            refine tkA 4 ?_ rfl ?_ (by assumption) ?_; rotate_left; focus (intro U hU; (try dsimp only at hU); go_simp; try (with_reducible rfl))
            simp only [gt6, Act.put]
            refine tkA 5 ?_ rfl ?_ (by assumption) ?_; rotate_left; focus (intro U hU; (try dsimp only at hU); go_simp; try (with_reducible rfl))
            simp only [gt6, Act.put]
            refine wpAnyH_ready (rs := [6]) (by kernel_rfl) (by simp) ?_
            refine AllReadyH.cons rfl (fun K hK => ?_) AllReadyH.nil
            simp only [gt3]
            go_simp
            have hON := r20one_any (⟨yi, ysc, yep, yns, ybd, ydn⟩, ⟨xA, xca, xB, xcb, xD, xcd⟩) (⟨zi, zsc, zep, zns, zbd, zdn⟩, ⟨uA, uca, uB, ucb, uD, ucd⟩) m0 (HIX14.out.below hh0) (HIY.out.below hh0)
            simp only [ecE] at hON
            refine hON.mono ?_
            rintro q m1 ⟨rfl, hb9⟩
            rw [HDE.out]
            have hh1 := hh0.trans (hb9.mono hh0.size)
            clear hb9 hON
            go_wp2_with fail
            refine hK.out _ _ ?_ (fun hHeld2 => ?_)
            focus
              exact hSV _ hh1
            clear hHeld
            have hHeld := hHeld2
            clear hHeld2 hK K
            try simp only [gt6, Act.put]
            refine tkA 7 ?_ rfl ?_ (by assumption) ?_; rotate_left; focus (intro U hU; (try dsimp only at hU); go_simp; try (with_reducible rfl))
            simp only [gt6, Act.put]
            refine tkA 8 ?_ rfl ?_ (by assumption) ?_; rotate_left; focus (intro U hU; (try dsimp only at hU); go_simp; try (with_reducible rfl))
            simp only [gt6, Act.put]
            refine tkA 9 ?_ rfl ?_ (by assumption) ?_; rotate_left; focus (intro U hU; (try dsimp only at hU); go_simp; try (with_reducible rfl))
            simp only [gt6, Act.put]
            refine tkA 10 ?_ rfl ?_ (by assumption) ?_; rotate_left; focus (intro U hU; (try dsimp only at hU); go_simp; try (with_reducible rfl))
            simp only [gt6, Act.put]
            refine tkA 12 ?_ rfl ?_ (by assumption) ?_; rotate_left; focus (intro U hU; (try dsimp only at hU); go_simp; try (with_reducible rfl))
            simp only [gt6, Act.put]
            refine tkA 13 ?_ rfl ?_ (by assumption) ?_; rotate_left; focus (intro U hU; (try dsimp only at hU); go_simp; try (with_reducible rfl))
            simp only [gt6, Act.put]
            refine tkA 14 ?_ rfl ?_ (by assumption) ?_; rotate_left; focus (intro U hU; (try dsimp only at hU); go_simp; try (with_reducible rfl))
            simp only [gt6, Act.put]
            refine tkA 15 ?_ rfl ?_ (by assumption) ?_; rotate_left; focus (intro U hU; (try dsimp only at hU); go_simp; try (with_reducible rfl))
            simp only [gt6, Act.put]
            refine wpAnyH_ready (rs := [11]) (by kernel_rfl) (by simp) ?_
            refine AllReadyH.cons rfl (fun K hK => ?_) AllReadyH.nil
            simp only [gt3]
            go_simp
            refine (lbook_any m1 (HS14.out.lg.below hh1)).mono ?_
            rintro q m2 ⟨A7, c7, xs7, rfl, he7, hr7, hb9⟩
            have hh2 := hh1.trans (hb9.mono hh1.size)
            clear hb9
            go_wp2_with fail
            refine hK.out _ _ ?_ (fun hHeld2 => ?_)
            focus
              exact hSV _ hh2
            clear hHeld
            have hHeld := hHeld2
            clear hHeld2 hK K
            try simp only [gt6, Act.put]
            refine wpAnyH_ready (rs := [16]) (by kernel_rfl) (by simp) ?_
            refine AllReadyH.cons rfl (fun K hK => ?_) AllReadyH.nil
            simp only [gt3]
            go_simp
            refine (r20same_any A7 Ab2 c7 cb2 xs7 xs2 m2 hr7.inBk ((HS14.out.rl.2.2.1.now HS14.out.s.bel).below hh2)).mono ?_
            rintro q m3 ⟨rfl, hb9⟩
            rw [decide_eq_true (he7.trans HS14.out.xm)]
            have hh3 := hh2.trans (hb9.mono hh2.size)
            clear hb9 hr7 he7
            go_wp2_with fail
            refine hK.out _ _ ?_ (fun hHeld2 => ?_)
            focus
              exact hSV _ hh3
            clear hHeld
            have hHeld := hHeld2
            clear hHeld2 hK K
            try simp only [gt6, Act.put]
            refine tkA 17 ?_ rfl ?_ (by assumption) ?_; rotate_left; focus (intro U hU; (try dsimp only at hU); go_simp; try (with_reducible rfl))
            simp only [gt6, Act.put]
            refine tkA 18 ?_ rfl ?_ (by assumption) ?_; rotate_left; focus (intro U hU; (try dsimp only at hU); go_simp; try (with_reducible rfl))
            simp only [gt6, Act.put]
            refine tkA 19 ?_ rfl ?_ (by assumption) ?_; rotate_left; focus (intro U hU; (try dsimp only at hU); go_simp; try (with_reducible rfl))
            simp only [gt6, Act.put]
            refine tkA 20 ?_ rfl ?_ (by assumption) ?_; rotate_left; focus (intro U hU; (try dsimp only at hU); go_simp; try (with_reducible rfl))
            simp only [gt6, Act.put]
            refine tkA 22 ?_ rfl ?_ (by assumption) ?_; rotate_left; focus (intro U hU; (try dsimp only at hU); go_simp; try (with_reducible rfl))
            simp only [gt6, Act.put]
            refine wpAnyH_ready (rs := [21]) (by kernel_rfl) (by simp) ?_
            refine AllReadyH.cons rfl (fun K hK => ?_) AllReadyH.nil
            simp only [gt3]
            go_simp
            refine (lkept_any m3 (HS14.out.lg.below hh3)).mono ?_
            rintro q m4 ⟨rfl, rfl⟩
            rw [HS14.out.xm]
            go_wp2_with fail
            refine hK.out _ _ ?_ (fun hHeld2 => ?_)
            focus
              exact hSV _ hh3
            clear hHeld
            have hHeld := hHeld2
            clear hHeld2 hK K
            try simp only [gt6, Act.put]
            refine wpAnyH_ready (rs := [23]) (by kernel_rfl) (by simp) ?_
            refine AllReadyH.cons rfl (fun K hK => ?_) AllReadyH.nil
            simp only [gt3]
            go_simp
            refine (r21kept_any m3 (HS14.out.rl.below hh3) (HS14.out.s.bel.trans (hh3.mono HS14.out.s.bel.size))).mono ?_
            rintro q m4 ⟨rfl, hb9⟩
            have hh4 := hh3.trans (hb9.mono hh3.size)
            clear hb9
            go_wp2_with fail
            refine hK.out _ _ ?_ (fun hHeld2 => ?_)
            focus
              exact hSV _ hh4
            clear hHeld
            have hHeld := hHeld2
            clear hHeld2 hK K
            try simp only [gt6, Act.put]
            refine tkA 24 ?_ rfl ?_ (by assumption) ?_; rotate_left; focus (intro U hU; (try dsimp only at hU); go_simp; try (with_reducible rfl))
            simp only [gt6, Act.put]
            refine tkA 25 ?_ rfl ?_ (by assumption) ?_; rotate_left; focus (intro U hU; (try dsimp only at hU); go_simp; try (with_reducible rfl))
            simp only [gt6, Act.put]
            refine tkA 26 ?_ rfl ?_ (by assumption) ?_; rotate_left; focus (intro U hU; (try dsimp only at hU); go_simp; try (with_reducible rfl))
            simp only [gt6, Act.put]
            refine tkA 27 ?_ rfl ?_ (by assumption) ?_; rotate_left; focus (intro U hU; (try dsimp only at hU); go_simp; try (with_reducible rfl))
            simp only [gt6, Act.put]
            refine tkA 29 ?_ rfl ?_ (by assumption) ?_; rotate_left; focus (intro U hU; (try dsimp only at hU); go_simp; try (with_reducible rfl))
            simp only [gt6, Act.put]
            refine tkA 30 ?_ rfl ?_ (by assumption) ?_; rotate_left; focus (intro U hU; (try dsimp only at hU); go_simp; try (with_reducible rfl))
            simp only [gt6, Act.put]
            refine tkA 31 ?_ rfl ?_ (by assumption) ?_; rotate_left; focus (intro U hU; (try dsimp only at hU); go_simp; try (with_reducible rfl))
            simp only [gt6, Act.put]
            refine tkA 32 ?_ rfl ?_ (by assumption) ?_; rotate_left; focus (intro U hU; (try dsimp only at hU); go_simp; try (with_reducible rfl))
            simp only [gt6, Act.put]
            refine tkA 33 ?_ rfl ?_ (by assumption) ?_; rotate_left; focus (intro U hU; (try dsimp only at hU); go_simp; try (with_reducible rfl))
            simp only [gt6, Act.put]
            refine tkA 34 ?_ rfl ?_ (by assumption) ?_; rotate_left; focus (intro U hU; (try dsimp only at hU); go_simp; try (with_reducible rfl))
            simp only [gt6, Act.put]
            refine tkA 35 ?_ rfl ?_ (by assumption) ?_; rotate_left; focus (intro U hU; (try dsimp only at hU); go_simp; try (with_reducible rfl))
            simp only [gt6, Act.put]
            refine wpAnyH_ready (rs := [28]) (by kernel_rfl) (by simp) ?_
            refine AllReadyH.cons rfl (fun K hK => ?_) AllReadyH.nil
            simp only [gt3]
            go_simp
            refine (ldown_any m4 (HS14.out.lg.below hh4)).mono ?_
            rintro q m5 ⟨rfl, rfl⟩
            go_wp2_with fail
            refine hK.out _ _ ?_ (fun hHeld2 => ?_)
            focus
              exact hSV _ hh4
            clear hHeld
            have hHeld := hHeld2
            clear hHeld2 hK K
            try simp only [gt6, Act.put]
            refine tkA 36 ?_ rfl ?_ (by assumption) ?_; rotate_left; focus (intro U hU; (try dsimp only at hU); go_simp; try (with_reducible rfl))
            simp only [gt6, Act.put]
            refine tkA 37 ?_ rfl ?_ (by assumption) ?_; rotate_left; focus (intro U hU; (try dsimp only at hU); go_simp; try (with_reducible rfl))
            simp only [gt6, Act.put]
            refine tkA 38 ?_ rfl ?_ (by assumption) ?_; rotate_left; focus (intro U hU; (try dsimp only at hU); go_simp; try (with_reducible rfl))
            simp only [gt6, Act.put]
            refine tkA 39 ?_ rfl ?_ (by assumption) ?_; rotate_left; focus (intro U hU; (try dsimp only at hU); go_simp; try (with_reducible rfl))
            simp only [gt6, Act.put]
            refine tkA 41 ?_ rfl ?_ (by assumption) ?_; rotate_left; focus (intro U hU; (try dsimp only at hU); go_simp; try (with_reducible rfl))
            simp only [gt6, Act.put]
            refine tkA 42 ?_ rfl ?_ (by assumption) ?_; rotate_left; focus (intro U hU; (try dsimp only at hU); go_simp; try (with_reducible rfl))
            simp only [gt6, Act.put]
            refine tkA 43 ?_ rfl ?_ (by assumption) ?_; rotate_left; focus (intro U hU; (try dsimp only at hU); go_simp; try (with_reducible rfl))
            simp only [gt6, Act.put]
            refine tkA 44 ?_ rfl ?_ (by assumption) ?_; rotate_left; focus (intro U hU; (try dsimp only at hU); go_simp; try (with_reducible rfl))
            simp only [gt6, Act.put]
            refine tkA 45 ?_ rfl ?_ (by assumption) ?_; rotate_left; focus (intro U hU; (try dsimp only at hU); go_simp; try (with_reducible rfl))
            simp only [gt6, Act.put]
            refine tkA 46 ?_ rfl ?_ (by assumption) ?_; rotate_left; focus (intro U hU; (try dsimp only at hU); go_simp; try (with_reducible rfl))
            simp only [gt6, Act.put]
            refine tkA 47 ?_ rfl ?_ (by assumption) ?_; rotate_left; focus (intro U hU; (try dsimp only at hU); go_simp; try (with_reducible rfl))
            simp only [gt6, Act.put]
            refine tkA 48 ?_ rfl ?_ (by assumption) ?_; rotate_left; focus (intro U hU; (try dsimp only at hU); go_simp; try (with_reducible rfl))
            simp only [gt6, Act.put]
            refine wpAnyH_ready (rs := [40]) (by kernel_rfl) (by simp) ?_
            refine AllReadyH.cons rfl (fun K hK => ?_) AllReadyH.nil
            simp only [gt3]
            go_simp
            refine (llen_any m4 (HS14.out.lg.below hh4)).mono ?_
            rintro q m5 ⟨rfl, rfl⟩
            rw [HS14.out.s.len]
            go_wp2_with fail
            refine hK.out _ _ ?_ (fun hHeld2 => ?_)
            focus
              exact hSV _ hh4
            clear hHeld
            have hHeld := hHeld2
            clear hHeld2 hK K
            try simp only [gt6, Act.put]
            refine tkA 49 ?_ rfl ?_ (by assumption) ?_; rotate_left; focus (intro U hU; (try dsimp only at hU); go_simp; try (with_reducible rfl))
            simp only [gt6, Act.put]
            refine tkA 50 ?_ rfl ?_ (by assumption) ?_; rotate_left; focus (intro U hU; (try dsimp only at hU); go_simp; try (with_reducible rfl))
            simp only [gt6, Act.put]
            refine wpAnyH_done (by kernel_rfl) ?_ _
            have HP2 := hid (LpY.of rfl (HS14.out.below hh4))
            have HQF := hid (keep0 HQ14.out hh4)
            clear hHeld hSV hh0 hh1 hh2 hh3 hh4 g2 g4 g5 g6 HS14 HXB14 HYB HIX14 HIY HQ14 HDE
            go_wp2
            go_roundw
            case rel => exact ⟨n + 1, by omega, by go_num, HP2, HQF⟩
            case measure => simp [intOf]; omega
          · skip
            as_aux_lemma =>
            simp only [gt3]
            go_simp
            refine hK.out _ _ ?_ (fun hHeld2 => ?_)
            focus
              exact hSU _ (hk0.alloc hk0.size _)
            clear hHeld
            have hHeld := hHeld2
            clear hHeld2 hK K
            try simp only [gt6, Act.put]
            have hbn : Below (World.heap k0).size k0 (World.alloc k0 (.cells #[.int .i64 0, .int .i64 0, .int .i64 0, .slice none 0 0, .slice none 0 0, .slice none 0 0] 55 (0, 0))) := (Below.refl _ _).alloc (Nat.le_refl _) _
            have hk1 : Below w13.heap.size w13 (World.alloc k0 (.cells #[.int .i64 0, .int .i64 0, .int .i64 0, .slice none 0 0, .slice none 0 0, .slice none 0 0] 55 (0, 0))) := hk0.trans (hbn.mono hk0.size)
            have hy9 := heap_alloc_new k0 (.cells #[.int .i64 0, .int .i64 0, .int .i64 0, .slice none 0 0, .slice none 0 0, .slice none 0 0] 55 (0, 0))
            have hYBl : w13.heap.size ≤ (World.heap k0).size := hk0.size
            clear hbn
            generalize World.alloc k0 (.cells #[.int .i64 0, .int .i64 0, .int .i64 0, .slice none 0 0, .slice none 0 0, .slice none 0 0] 55 (0, 0)) = k1 at *
            generalize (World.heap k0).size = YB at *
            refine wpAnyH_ready (rs := [7]) (by kernel_rfl) (by simp) ?_
            refine (AllReadyH.cons rfl (fun K hK => ?_) AllReadyH.nil)
            simp only [gt3]
            go_simp
            refine (r20findX_any Ab2 cb2 xs2 j k1 (HS13.out.rl.2.2.1.now (HS13.out.s.bel) |>.below hk1)).mono ?_
            rintro q k2 ⟨⟨⟨zi, zsc, zep, zns, zbd, zdn⟩, ⟨uA, uca, uB, ucb, uD, ucd⟩⟩, rfl, hzy, hiy, hb1⟩
            have hk2 := hk1.trans (hb1.mono hk1.size)
            simp only [ecE] at *
            go_wp2_with fail
            refine hK.out _ _ ?_ (fun hHeld2 => ?_)
            focus
              exact hSU _ hk2
            clear hHeld
            have hHeld := hHeld2
            clear hHeld2 hK K
            try simp only [gt6, Act.put]
            replace hy9 := keep0 hy9 hb1
            refine tkA 8 ?_ rfl ?_ (by assumption) ?_; rotate_left; focus (intro U hU; (try dsimp only at hU); go_simp; try (with_reducible rfl))
            simp only [gt6, Act.put]
            refine tkA 9 ?_ rfl ?_ (by assumption) ?_; rotate_left; focus (intro U hU; (try dsimp only at hU); go_simp; try (with_reducible rfl))
            simp only [gt6, Act.put]
            refine tkA 10 ?_ rfl ?_ (by assumption) ?_; rotate_left; focus (intro U hU; (try dsimp only at hU); go_simp; try (with_reducible rfl))
            simp only [gt6, Act.put]
            obtain ⟨⟨p0, p1, p2, p3, p4, p5⟩, f0, f1, f2, f3, f4, f5⟩ := six_cells hy9
            have hk3 := putZ6_below hk2 hYBl (.int .i64 zi) (.int .i64 zsc) (.int .i64 zep) (.slice uA zns.length uca) (.slice uB zbd.length ucb) (.slice uD zdn.length ucd)
            have hy10 := putZ6_heap hy9 (.int .i64 zi) (.int .i64 zsc) (.int .i64 zep) (.slice uA zns.length uca) (.slice uB zbd.length ucb) (.slice uD zdn.length ucd)
            refine wpAnyH_ready (rs := [12]) (by kernel_rfl) (by simp) ?_
            refine (AllReadyH.cons rfl (fun K hK => ?_) AllReadyH.nil)
            simp only [gt3]
            go_simp
            refine hK.out _ _ ?_ (fun hHeld2 => ?_)
            focus
              exact hSU _ hk3
            clear hHeld
            have hHeld := hHeld2
            clear hHeld2 hK K
            try simp only [gt6, Act.put]
            refine tkA 13 ?_ rfl ?_ (by assumption) ?_; rotate_left; focus (intro U hU; (try dsimp only at hU); go_simp; try (with_reducible rfl))
            simp only [gt6, Act.put]
            refine wpAnyH_done (by kernel_rfl) ?_ _
            have HIB := hid hiy
            have HZY := hid hzy
            clear hHeld hSU p0 p1 p2 p3 p4 p5 f0 f1 f2 f3 f4 f5 hiy hzy hy9
            go_upto_region 26 with (fail)
            refine at_world (fun u => u.heap[YB]? = some (.cells #[.int .i64 zi, .int .i64 zsc, .int .i64 zep, .slice uA zns.length uca, .slice uB zbd.length ucb, .slice uD zdn.length ucd] 55 (0, 0)) ∧ Below w13.heap.size w13 u) ⟨hy10, hk3⟩ ?_
            clear hy10 hk3
            rintro w14 ⟨hy14, hb14⟩
            have HIY := hid (HIB.out w14 ((HS13.out.rl.2.2.1.now HS13.out.s.bel).below hb14))
            have HYB := hid hy14
            have HXB14 := hid (keep0 HXB.out hb14)
            have HIX14 := hid (HIX13.out.below hb14)
            have HQ14 := hid (keep0 HQ13.out hb14)
            have HS14 := hid (HS13.out.below hb14)
            clear hy14 hb14 HIB HXB HIX13 HX13 HQ13 HS13
            have HDE : Hid (decide ((⟨yi, ysc, yep, yns, ybd, ydn⟩ : En) = ⟨zi, zsc, zep, zns, zbd, zdn⟩) = true) := hid (decide_eq_true (HYX.out.trans HZY.out.symm))
            clear HYX HZY
            generalize (plB (xs2.map (·.1)) j).isSome = okk at *
            have g2 : (okk != okk) = false := by simp
            have g4 : (down != down) = false := by simp
            have g5 : ((els2.length : Int) != (els2.length : Int)) = false := by simp
            have g6 : ((kepB (xs2.map (·.1)) : Int) != (kepB (xs2.map (·.1)) : Int)) = false := by simp
            have hll2 : els2.length ≤ 9223372036854775807 := by
              have h1 := HS14.out.s.len
              have h2 := HS14.out.s.el
              have h3 := HS14.out.s.lr
              omega
            have hSV : ∀ U, Below w14.heap.size w14 U → (((U.cell? ⟨XB, 0, none⟩ = some (.int .i64 yi) ∧ U.cell? ⟨XB, 1, none⟩ = some (.int .i64 ysc) ∧ U.cell? ⟨XB, 2, none⟩ = some (.int .i64 yep) ∧ U.cell? ⟨XB, 3, none⟩ = some (.slice xA yns.length xca) ∧ U.cell? ⟨XB, 4, none⟩ = some (.slice xB ybd.length xcb) ∧ U.cell? ⟨XB, 5, none⟩ = some (.slice xD ydn.length xcd)) ∧ (U.cell? ⟨YB, 0, none⟩ = some (.int .i64 zi) ∧ U.cell? ⟨YB, 1, none⟩ = some (.int .i64 zsc) ∧ U.cell? ⟨YB, 2, none⟩ = some (.int .i64 zep) ∧ U.cell? ⟨YB, 3, none⟩ = some (.slice uA zns.length uca) ∧ U.cell? ⟨YB, 4, none⟩ = some (.slice uB zbd.length ucb) ∧ U.cell? ⟨YB, 5, none⟩ = some (.slice uD zdn.length ucd)) ∧ U.cell? ⟨H, 0, none⟩ = some (.pointer (some ⟨G2, 0, none⟩)) ∧ U.cell? ⟨H, 1, none⟩ = some (.slice Ab2 xs2.length cb2) ∧ U.cell? ⟨G2, 1, none⟩ = some (.slice A2 els2.length c2) ∧ U.cell? ⟨G2, 2, none⟩ = some (.bool down)) ∧ Below w14.heap.size w14 U) := fun U hU => by
              obtain ⟨⟨a0, a1, a2, a3, a4, a5⟩, _⟩ := six_cells (keep0 HXB14.out hU)
              obtain ⟨⟨b0, b1, b2, b3, b4, b5⟩, _⟩ := six_cells (keep0 HYB.out hU)
              obtain ⟨⟨z0, z1, _⟩, _⟩ := three_cells (keep0 HS14.out.rl.1 hU)
              obtain ⟨⟨_, z2, z3⟩, _⟩ := three_cellsA (keep0 HS14.out.rl.2.1.1 hU)
              exact ⟨⟨⟨a0, a1, a2, a3, a4, a5⟩, ⟨b0, b1, b2, b3, b4, b5⟩, z0, z1, z2, z3⟩, hU⟩
            have hh0 : Below w14.heap.size w14 w14.drew := below_drew (Below.refl _ _)
            refine wp_region_held_drew (S := fun U => ((U.cell? ⟨XB, 0, none⟩ = some (.int .i64 yi) ∧ U.cell? ⟨XB, 1, none⟩ = some (.int .i64 ysc) ∧ U.cell? ⟨XB, 2, none⟩ = some (.int .i64 yep) ∧ U.cell? ⟨XB, 3, none⟩ = some (.slice xA yns.length xca) ∧ U.cell? ⟨XB, 4, none⟩ = some (.slice xB ybd.length xcb) ∧ U.cell? ⟨XB, 5, none⟩ = some (.slice xD ydn.length xcd)) ∧ (U.cell? ⟨YB, 0, none⟩ = some (.int .i64 zi) ∧ U.cell? ⟨YB, 1, none⟩ = some (.int .i64 zsc) ∧ U.cell? ⟨YB, 2, none⟩ = some (.int .i64 zep) ∧ U.cell? ⟨YB, 3, none⟩ = some (.slice uA zns.length uca) ∧ U.cell? ⟨YB, 4, none⟩ = some (.slice uB zbd.length ucb) ∧ U.cell? ⟨YB, 5, none⟩ = some (.slice uD zdn.length ucd)) ∧ U.cell? ⟨H, 0, none⟩ = some (.pointer (some ⟨G2, 0, none⟩)) ∧ U.cell? ⟨H, 1, none⟩ = some (.slice Ab2 xs2.length cb2) ∧ U.cell? ⟨G2, 1, none⟩ = some (.slice A2 els2.length c2) ∧ U.cell? ⟨G2, 2, none⟩ = some (.bool down)) ∧ Below w14.heap.size w14 U) (by kernel_rfl) (hSV _ hh0) (fun hHeld => ?_)
            generalize w14.drew = m0 at *
            refine tkA 0 ?_ rfl ?_ (by assumption) ?_; rotate_left; focus (intro U hU; (try dsimp only at hU); go_simp; try (with_reducible rfl))
            simp only [gt6, Act.put]
            refine tkA 1 ?_ rfl ?_ (by assumption) ?_; rotate_left; focus (intro U hU; (try dsimp only at hU); go_simp; try (with_reducible rfl))
            simp only [gt6, Act.put]
            refine tkA 2 ?_ rfl ?_ (by assumption) ?_; rotate_left; focus (intro U hU; (try dsimp only at hU); go_simp; try (with_reducible rfl))
            simp only [gt6, Act.put]
            refine tkA 3 ?_ rfl ?_ (by assumption) ?_; rotate_left; focus (intro U hU; (try dsimp only at hU); go_simp; try (with_reducible rfl))
            simp only [gt6, Act.put]
            refine tkA 4 ?_ rfl ?_ (by assumption) ?_; rotate_left; focus (intro U hU; (try dsimp only at hU); go_simp; try (with_reducible rfl))
            simp only [gt6, Act.put]
            refine tkA 5 ?_ rfl ?_ (by assumption) ?_; rotate_left; focus (intro U hU; (try dsimp only at hU); go_simp; try (with_reducible rfl))
            simp only [gt6, Act.put]
            refine wpAnyH_ready (rs := [6]) (by kernel_rfl) (by simp) ?_
            refine AllReadyH.cons rfl (fun K hK => ?_) AllReadyH.nil
            simp only [gt3]
            go_simp
            have hON := r20one_any (⟨yi, ysc, yep, yns, ybd, ydn⟩, ⟨xA, xca, xB, xcb, xD, xcd⟩) (⟨zi, zsc, zep, zns, zbd, zdn⟩, ⟨uA, uca, uB, ucb, uD, ucd⟩) m0 (HIX14.out.below hh0) (HIY.out.below hh0)
            simp only [ecE] at hON
            refine hON.mono ?_
            rintro q m1 ⟨rfl, hb9⟩
            rw [HDE.out]
            have hh1 := hh0.trans (hb9.mono hh0.size)
            clear hb9 hON
            go_wp2_with fail
            refine hK.out _ _ ?_ (fun hHeld2 => ?_)
            focus
              exact hSV _ hh1
            clear hHeld
            have hHeld := hHeld2
            clear hHeld2 hK K
            try simp only [gt6, Act.put]
            refine tkA 7 ?_ rfl ?_ (by assumption) ?_; rotate_left; focus (intro U hU; (try dsimp only at hU); go_simp; try (with_reducible rfl))
            simp only [gt6, Act.put]
            refine tkA 8 ?_ rfl ?_ (by assumption) ?_; rotate_left; focus (intro U hU; (try dsimp only at hU); go_simp; try (with_reducible rfl))
            simp only [gt6, Act.put]
            refine tkA 9 ?_ rfl ?_ (by assumption) ?_; rotate_left; focus (intro U hU; (try dsimp only at hU); go_simp; try (with_reducible rfl))
            simp only [gt6, Act.put]
            refine tkA 10 ?_ rfl ?_ (by assumption) ?_; rotate_left; focus (intro U hU; (try dsimp only at hU); go_simp; try (with_reducible rfl))
            simp only [gt6, Act.put]
            refine tkA 12 ?_ rfl ?_ (by assumption) ?_; rotate_left; focus (intro U hU; (try dsimp only at hU); go_simp; try (with_reducible rfl))
            simp only [gt6, Act.put]
            refine tkA 13 ?_ rfl ?_ (by assumption) ?_; rotate_left; focus (intro U hU; (try dsimp only at hU); go_simp; try (with_reducible rfl))
            simp only [gt6, Act.put]
            refine tkA 14 ?_ rfl ?_ (by assumption) ?_; rotate_left; focus (intro U hU; (try dsimp only at hU); go_simp; try (with_reducible rfl))
            simp only [gt6, Act.put]
            refine tkA 15 ?_ rfl ?_ (by assumption) ?_; rotate_left; focus (intro U hU; (try dsimp only at hU); go_simp; try (with_reducible rfl))
            simp only [gt6, Act.put]
            refine wpAnyH_ready (rs := [11]) (by kernel_rfl) (by simp) ?_
            refine AllReadyH.cons rfl (fun K hK => ?_) AllReadyH.nil
            simp only [gt3]
            go_simp
            refine (lbook_any m1 (HS14.out.lg.below hh1)).mono ?_
            rintro q m2 ⟨A7, c7, xs7, rfl, he7, hr7, hb9⟩
            have hh2 := hh1.trans (hb9.mono hh1.size)
            clear hb9
            go_wp2_with fail
            refine hK.out _ _ ?_ (fun hHeld2 => ?_)
            focus
              exact hSV _ hh2
            clear hHeld
            have hHeld := hHeld2
            clear hHeld2 hK K
            try simp only [gt6, Act.put]
            refine wpAnyH_ready (rs := [16]) (by kernel_rfl) (by simp) ?_
            refine AllReadyH.cons rfl (fun K hK => ?_) AllReadyH.nil
            simp only [gt3]
            go_simp
            refine (r20same_any A7 Ab2 c7 cb2 xs7 xs2 m2 hr7.inBk ((HS14.out.rl.2.2.1.now HS14.out.s.bel).below hh2)).mono ?_
            rintro q m3 ⟨rfl, hb9⟩
            rw [decide_eq_true (he7.trans HS14.out.xm)]
            have hh3 := hh2.trans (hb9.mono hh2.size)
            clear hb9 hr7 he7
            go_wp2_with fail
            refine hK.out _ _ ?_ (fun hHeld2 => ?_)
            focus
              exact hSV _ hh3
            clear hHeld
            have hHeld := hHeld2
            clear hHeld2 hK K
            try simp only [gt6, Act.put]
            refine tkA 17 ?_ rfl ?_ (by assumption) ?_; rotate_left; focus (intro U hU; (try dsimp only at hU); go_simp; try (with_reducible rfl))
            simp only [gt6, Act.put]
            refine tkA 18 ?_ rfl ?_ (by assumption) ?_; rotate_left; focus (intro U hU; (try dsimp only at hU); go_simp; try (with_reducible rfl))
            simp only [gt6, Act.put]
            refine tkA 19 ?_ rfl ?_ (by assumption) ?_; rotate_left; focus (intro U hU; (try dsimp only at hU); go_simp; try (with_reducible rfl))
            simp only [gt6, Act.put]
            refine tkA 20 ?_ rfl ?_ (by assumption) ?_; rotate_left; focus (intro U hU; (try dsimp only at hU); go_simp; try (with_reducible rfl))
            simp only [gt6, Act.put]
            refine tkA 22 ?_ rfl ?_ (by assumption) ?_; rotate_left; focus (intro U hU; (try dsimp only at hU); go_simp; try (with_reducible rfl))
            simp only [gt6, Act.put]
            refine wpAnyH_ready (rs := [21]) (by kernel_rfl) (by simp) ?_
            refine AllReadyH.cons rfl (fun K hK => ?_) AllReadyH.nil
            simp only [gt3]
            go_simp
            refine (lkept_any m3 (HS14.out.lg.below hh3)).mono ?_
            rintro q m4 ⟨rfl, rfl⟩
            rw [HS14.out.xm]
            go_wp2_with fail
            refine hK.out _ _ ?_ (fun hHeld2 => ?_)
            focus
              exact hSV _ hh3
            clear hHeld
            have hHeld := hHeld2
            clear hHeld2 hK K
            try simp only [gt6, Act.put]
            refine wpAnyH_ready (rs := [23]) (by kernel_rfl) (by simp) ?_
            refine AllReadyH.cons rfl (fun K hK => ?_) AllReadyH.nil
            simp only [gt3]
            go_simp
            refine (r21kept_any m3 (HS14.out.rl.below hh3) (HS14.out.s.bel.trans (hh3.mono HS14.out.s.bel.size))).mono ?_
            rintro q m4 ⟨rfl, hb9⟩
            have hh4 := hh3.trans (hb9.mono hh3.size)
            clear hb9
            go_wp2_with fail
            refine hK.out _ _ ?_ (fun hHeld2 => ?_)
            focus
              exact hSV _ hh4
            clear hHeld
            have hHeld := hHeld2
            clear hHeld2 hK K
            try simp only [gt6, Act.put]
            refine tkA 24 ?_ rfl ?_ (by assumption) ?_; rotate_left; focus (intro U hU; (try dsimp only at hU); go_simp; try (with_reducible rfl))
            simp only [gt6, Act.put]
            refine tkA 25 ?_ rfl ?_ (by assumption) ?_; rotate_left; focus (intro U hU; (try dsimp only at hU); go_simp; try (with_reducible rfl))
            simp only [gt6, Act.put]
            refine tkA 26 ?_ rfl ?_ (by assumption) ?_; rotate_left; focus (intro U hU; (try dsimp only at hU); go_simp; try (with_reducible rfl))
            simp only [gt6, Act.put]
            refine tkA 27 ?_ rfl ?_ (by assumption) ?_; rotate_left; focus (intro U hU; (try dsimp only at hU); go_simp; try (with_reducible rfl))
            simp only [gt6, Act.put]
            refine tkA 29 ?_ rfl ?_ (by assumption) ?_; rotate_left; focus (intro U hU; (try dsimp only at hU); go_simp; try (with_reducible rfl))
            simp only [gt6, Act.put]
            refine tkA 30 ?_ rfl ?_ (by assumption) ?_; rotate_left; focus (intro U hU; (try dsimp only at hU); go_simp; try (with_reducible rfl))
            simp only [gt6, Act.put]
            refine tkA 31 ?_ rfl ?_ (by assumption) ?_; rotate_left; focus (intro U hU; (try dsimp only at hU); go_simp; try (with_reducible rfl))
            simp only [gt6, Act.put]
            refine tkA 32 ?_ rfl ?_ (by assumption) ?_; rotate_left; focus (intro U hU; (try dsimp only at hU); go_simp; try (with_reducible rfl))
            simp only [gt6, Act.put]
            refine tkA 33 ?_ rfl ?_ (by assumption) ?_; rotate_left; focus (intro U hU; (try dsimp only at hU); go_simp; try (with_reducible rfl))
            simp only [gt6, Act.put]
            refine tkA 34 ?_ rfl ?_ (by assumption) ?_; rotate_left; focus (intro U hU; (try dsimp only at hU); go_simp; try (with_reducible rfl))
            simp only [gt6, Act.put]
            refine tkA 35 ?_ rfl ?_ (by assumption) ?_; rotate_left; focus (intro U hU; (try dsimp only at hU); go_simp; try (with_reducible rfl))
            simp only [gt6, Act.put]
            refine wpAnyH_ready (rs := [28]) (by kernel_rfl) (by simp) ?_
            refine AllReadyH.cons rfl (fun K hK => ?_) AllReadyH.nil
            simp only [gt3]
            go_simp
            refine (ldown_any m4 (HS14.out.lg.below hh4)).mono ?_
            rintro q m5 ⟨rfl, rfl⟩
            go_wp2_with fail
            refine hK.out _ _ ?_ (fun hHeld2 => ?_)
            focus
              exact hSV _ hh4
            clear hHeld
            have hHeld := hHeld2
            clear hHeld2 hK K
            try simp only [gt6, Act.put]
            refine tkA 36 ?_ rfl ?_ (by assumption) ?_; rotate_left; focus (intro U hU; (try dsimp only at hU); go_simp; try (with_reducible rfl))
            simp only [gt6, Act.put]
            refine tkA 37 ?_ rfl ?_ (by assumption) ?_; rotate_left; focus (intro U hU; (try dsimp only at hU); go_simp; try (with_reducible rfl))
            simp only [gt6, Act.put]
            refine tkA 38 ?_ rfl ?_ (by assumption) ?_; rotate_left; focus (intro U hU; (try dsimp only at hU); go_simp; try (with_reducible rfl))
            simp only [gt6, Act.put]
            refine tkA 39 ?_ rfl ?_ (by assumption) ?_; rotate_left; focus (intro U hU; (try dsimp only at hU); go_simp; try (with_reducible rfl))
            simp only [gt6, Act.put]
            refine tkA 41 ?_ rfl ?_ (by assumption) ?_; rotate_left; focus (intro U hU; (try dsimp only at hU); go_simp; try (with_reducible rfl))
            simp only [gt6, Act.put]
            refine tkA 42 ?_ rfl ?_ (by assumption) ?_; rotate_left; focus (intro U hU; (try dsimp only at hU); go_simp; try (with_reducible rfl))
            simp only [gt6, Act.put]
            refine tkA 43 ?_ rfl ?_ (by assumption) ?_; rotate_left; focus (intro U hU; (try dsimp only at hU); go_simp; try (with_reducible rfl))
            simp only [gt6, Act.put]
            refine tkA 44 ?_ rfl ?_ (by assumption) ?_; rotate_left; focus (intro U hU; (try dsimp only at hU); go_simp; try (with_reducible rfl))
            simp only [gt6, Act.put]
            refine tkA 45 ?_ rfl ?_ (by assumption) ?_; rotate_left; focus (intro U hU; (try dsimp only at hU); go_simp; try (with_reducible rfl))
            simp only [gt6, Act.put]
            refine tkA 46 ?_ rfl ?_ (by assumption) ?_; rotate_left; focus (intro U hU; (try dsimp only at hU); go_simp; try (with_reducible rfl))
            simp only [gt6, Act.put]
            refine tkA 47 ?_ rfl ?_ (by assumption) ?_; rotate_left; focus (intro U hU; (try dsimp only at hU); go_simp; try (with_reducible rfl))
            simp only [gt6, Act.put]
            refine tkA 48 ?_ rfl ?_ (by assumption) ?_; rotate_left; focus (intro U hU; (try dsimp only at hU); go_simp; try (with_reducible rfl))
            simp only [gt6, Act.put]
            refine wpAnyH_ready (rs := [40]) (by kernel_rfl) (by simp) ?_
            refine AllReadyH.cons rfl (fun K hK => ?_) AllReadyH.nil
            simp only [gt3]
            go_simp
            refine (llen_any m4 (HS14.out.lg.below hh4)).mono ?_
            rintro q m5 ⟨rfl, rfl⟩
            rw [HS14.out.s.len]
            go_wp2_with fail
            refine hK.out _ _ ?_ (fun hHeld2 => ?_)
            focus
              exact hSV _ hh4
            clear hHeld
            have hHeld := hHeld2
            clear hHeld2 hK K
            try simp only [gt6, Act.put]
            refine tkA 49 ?_ rfl ?_ (by assumption) ?_; rotate_left; focus (intro U hU; (try dsimp only at hU); go_simp; try (with_reducible rfl))
            simp only [gt6, Act.put]
            refine tkA 50 ?_ rfl ?_ (by assumption) ?_; rotate_left; focus (intro U hU; (try dsimp only at hU); go_simp; try (with_reducible rfl))
            simp only [gt6, Act.put]
            refine wpAnyH_done (by kernel_rfl) ?_ _
            have HP2 := hid (LpY.of rfl (HS14.out.below hh4))
            have HQF := hid (keep0 HQ14.out hh4)
            clear hHeld hSV hh0 hh1 hh2 hh3 hh4 g2 g4 g5 g6 HS14 HXB14 HYB HIX14 HIY HQ14 HDE
            go_wp2
            go_roundw
            case rel => exact ⟨n + 1, by omega, by go_num, HP2, HQF⟩
            case measure => simp [intOf]; omega
        case inr.inr =>
          as_aux_lemma =>
          have e0 : (d == 0) = false := by simpa using hd0
          have e1 : (d == 1) = false := by simpa using hd1
          have e0' : decide (d = 0) = false := by simpa using hd0
          go_upto_region 16 with (fail)
          replace y0 := cell_regrown y0
          refine wp_region_quiet_below (by kernel_rfl) (by kernel_rfl) ?_
          repeat (go_big_quiet_step (fail))
          refine wpQuiet_nil ?_
          intro _ hw'
          obtain ⟨⟨dq, osq⟩, hw''⟩ := hw'
          subst hw''
          refine at_world (fun u => Below w7.heap.size w7 u) (below_regrown w7 dq osq) ?_
          rintro w8 hb8
          have HX8 := hid (keep0 HX7.out hb8)
          have HQO := hid (keep0 HQ7.out hb8)
          have HKO := hid (HS7.out.below hb8).s.disk
          clear hb8 HX7 HQ7 HS7 y0 y1 y2 y3 y4 y5 y6 y7 y8
          obtain ⟨y0, y1, y2, y3, y4, y5, y6, y7, y8⟩ := nine_cellsP HX8.out
          have hd01 : d < 0 ∨ (¬ d < 0 ∧ 1 < d) := by omega
          have HQX : Hid (w8.heap[Q]? = some (.cells #[.int .i64 (room : Int), .int .i64 (R : Int)] 22 (0, 0)) ∧ DkS W w8 D M room l fuse fu) := hid ⟨HQO.out, HKO.out⟩
          rcases hd01 with hd2 | ⟨hd2, hd3⟩
          · skip
            go_upto_region 22 with (fail)
            refine at_world (fun u => u.heap[Q]? = some (.cells #[.int .i64 (room : Int), .int .i64 (R : Int)] 22 (0, 0)) ∧ DkS W u D M room l fuse fu) HQX.out ?_
            clear HX8 HQO HKO y0 y1 y2 y3 y4 y5 y6 y7 y8 HQX e0 e1 e0' hd0 hd1 hd2
            rintro wo ⟨hqo, hko⟩
            have HQO := hid hqo
            have HKO := hid hko
            clear hqo hko
            obtain ⟨q0, q1⟩ := two_cellsP HQO.out
            have HQD := hid (Ne.symm (show D ≠ Q by obtain ⟨A9, c9, h9d, _⟩ := HKO.out.d.open; exact blk_ne h9d HQO.out (by decide)))
            have HQM := hid (Ne.symm (show M ≠ Q from blk_ne HKO.out.r HQO.out (by decide)))
            have HOA := hid (lopenY R _ (Or.inl rfl) hR hr HKO.out)
            go_wp2_with fail
            refine HOA.out.mono ?_
            rintro e w9 ⟨pl9, pe9, rfl, hop⟩
            have HOB := hid (r21openY hop HKO.out hR hr)
            have HQ9 := hid (hop.tch.block HQO.out HQD.out)
            clear hop HOA q0 q1
            obtain ⟨q0, q1⟩ := two_cellsP HQ9.out
            go_wp2_with fail
            refine HOB.out.mono ?_
            rintro e w10 ⟨pw9, pf9, rfl, hy10, ht10⟩
            have HP2 := hid hy10
            have HQF := hid (ht10.block HQ9.out HQM.out)
            clear hy10 ht10 HOB HQ9 q0 q1 HKO HQO HQD HQM
            go_wp2
            go_roundw
            case rel => exact ⟨n + 1, by omega, by go_num, HP2, HQF⟩
            case measure => simp [intOf]; omega
          · skip
            go_upto_region 22 with (fail)
            refine at_world (fun u => u.heap[Q]? = some (.cells #[.int .i64 (room : Int), .int .i64 (R : Int)] 22 (0, 0)) ∧ DkS W u D M room l fuse fu) HQX.out ?_
            clear HX8 HQO HKO y0 y1 y2 y3 y4 y5 y6 y7 y8 HQX e0 e1 e0' hd0 hd1 hd2
            rintro wo ⟨hqo, hko⟩
            have HQO := hid hqo
            have HKO := hid hko
            clear hqo hko
            obtain ⟨q0, q1⟩ := two_cellsP HQO.out
            have HQD := hid (Ne.symm (show D ≠ Q by obtain ⟨A9, c9, h9d, _⟩ := HKO.out.d.open; exact blk_ne h9d HQO.out (by decide)))
            have HQM := hid (Ne.symm (show M ≠ Q from blk_ne HKO.out.r HQO.out (by decide)))
            have HOA := hid (lopenY R _ (Or.inl rfl) hR hr HKO.out)
            go_wp2_with fail
            refine HOA.out.mono ?_
            rintro e w9 ⟨pl9, pe9, rfl, hop⟩
            have HOB := hid (r21openY hop HKO.out hR hr)
            have HQ9 := hid (hop.tch.block HQO.out HQD.out)
            clear hop HOA q0 q1
            obtain ⟨q0, q1⟩ := two_cellsP HQ9.out
            go_wp2_with fail
            refine HOB.out.mono ?_
            rintro e w10 ⟨pw9, pf9, rfl, hy10, ht10⟩
            have HP2 := hid hy10
            have HQF := hid (ht10.block HQ9.out HQM.out)
            clear hy10 ht10 HOB HQ9 q0 q1 HKO HQO HQD HQM
            go_wp2
            go_roundw
            case rel => exact ⟨n + 1, by omega, by go_num, HP2, HQF⟩
            case measure => simp [intOf]; omega
      · skip
        obtain rfl : n = al.length := by omega
        have HBT := hid HS.out.s.bel
        clear HS HQ
        generalize wq = wt at *
        go_wp2_with fail
        refine (lopen_nil 9 wt).mono ?_
        rintro e w8 ⟨rfl, rfl⟩
        go_wp2_with fail
        refine (lput0 wt).mono ?_
        rintro e w8 ⟨rfl, hb8⟩
        have HB8 := hid (HBT.out.trans (hb8.mono HBT.out.size))
        clear hb8 HBT
        go_wp2_with fail
        refine (lbook0 w8).mono ?_
        rintro e w9 ⟨rfl, rfl⟩
        go_wp2_with fail
        refine (lkept0 w8).mono ?_
        rintro e w9 ⟨rfl, rfl⟩
        go_wp2_with fail
        refine (llen0 w8).mono ?_
        rintro e w9 ⟨rfl, rfl⟩
        go_wp2_with fail
        refine (ldown0 w8).mono ?_
        rintro e w9 ⟨rfl, rfl⟩
        go_wp2_with fail
        refine (HK.out w8).mono ?_
        rintro e wz ⟨rfl, hbz⟩
        have HBZ := hid (HB8.out.trans (hbz.mono HB8.out.size))
        clear hbz
        go_wp2
        go_ret
        exact ⟨rfl, HBZ.out⟩
    · skip
      as_aux_lemma =>
      have HKD := hid hD
      clear hD HYY
      have hf1 : (f != f) = false := by simp
      have hf2 : (f == 0) = false := by simpa using hf
      have hf3 : (f != 0) = true := by simpa using hf
      obtain ⟨sx, hsx⟩ : ∃ sx, str l = sx := ⟨_, rfl⟩
      have HSX := hid hsx
      have g1 : (sx.toList != sx.toList) = false := by simp
      have g1' : (sx.toList == sx.toList) = true := by simp
      have hlr : l.length ≤ 100000 := by have := HKD.out.lr; omega
      have hSU : ∀ U, Below wr.heap.size wr U → (U.cell? ⟨M, 0, none⟩ = some (.string sx) ∧ Below wr.heap.size wr U) := fun U hU => by
        obtain ⟨⟨p0, _, _⟩, _⟩ := three_cells (keep0 HKD.out.r hU)
        rw [HSX.out] at p0
        exact ⟨p0, hU⟩
      clear hsx
      go_upto_region 12 with (fail)
      have hk0 : Below wr.heap.size wr wr.drew := below_drew (Below.refl _ _)
      refine wp_region_held_drew (S := fun U => U.cell? ⟨M, 0, none⟩ = some (.string sx) ∧ Below wr.heap.size wr U) (by kernel_rfl) (hSU _ hk0) (fun hHeld => ?_)
      generalize wr.drew = k0 at *
      refine tkA 0 ?_ rfl ?_ (by assumption) ?_; rotate_left; focus (intro U hU; (try dsimp only at hU); go_simp; try (with_reducible rfl))
      simp only [gt6, Act.put]
      refine tkA 1 ?_ rfl ?_ (by assumption) ?_; rotate_left; focus (intro U hU; (try dsimp only at hU); go_simp; try (with_reducible rfl))
      simp only [gt6, Act.put]
      refine tkA 2 ?_ rfl ?_ (by assumption) ?_; rotate_left; focus (intro U hU; (try dsimp only at hU); go_simp; try (with_reducible rfl))
      simp only [gt6, Act.put]
      refine tkA 3 ?_ rfl ?_ (by assumption) ?_; rotate_left; focus (intro U hU; (try dsimp only at hU); go_simp; try (with_reducible rfl))
      simp only [gt6, Act.put]
      refine tkA 4 ?_ rfl ?_ (by assumption) ?_; rotate_left; focus (intro U hU; (try dsimp only at hU); go_simp; try (with_reducible rfl))
      simp only [gt6, Act.put]
      refine tkA 5 ?_ rfl ?_ (by assumption) ?_; rotate_left; focus (intro U hU; (try dsimp only at hU); go_simp; try (with_reducible rfl))
      simp only [gt6, Act.put]
      refine tkA 6 ?_ rfl ?_ (by assumption) ?_; rotate_left; focus (intro U hU; (try dsimp only at hU); go_simp; try (with_reducible rfl))
      simp only [gt6, Act.put]
      refine tkA 7 ?_ rfl ?_ (by assumption) ?_; rotate_left; focus (intro U hU; (try dsimp only at hU); go_simp; try (with_reducible rfl))
      simp only [gt6, Act.put]
      refine tkA 8 ?_ rfl ?_ (by assumption) ?_; rotate_left; focus (intro U hU; (try dsimp only at hU); go_simp; try (with_reducible rfl))
      simp only [gt6, Act.put]
      refine tkA 9 ?_ rfl ?_ (by assumption) ?_; rotate_left; focus (intro U hU; (try dsimp only at hU); go_simp; try (with_reducible rfl))
      simp only [gt6, Act.put]
      refine tkA 10 ?_ rfl ?_ (by assumption) ?_; rotate_left; focus (intro U hU; (try dsimp only at hU); go_simp; try (with_reducible rfl))
      simp only [gt6, Act.put]
      refine tkA 11 ?_ rfl ?_ (by assumption) ?_; rotate_left; focus (intro U hU; (try dsimp only at hU); go_simp; try (with_reducible rfl))
      simp only [gt6, Act.put]
      refine tkA 14 ?_ rfl ?_ (by assumption) ?_; rotate_left; focus (intro U hU; (try dsimp only at hU); go_simp; try (with_reducible rfl))
      simp only [gt6, Act.put]
      refine tkA 15 ?_ rfl ?_ (by assumption) ?_; rotate_left; focus (intro U hU; (try dsimp only at hU); go_simp; try (with_reducible rfl))
      simp only [gt6, Act.put]
      refine wpAnyH_ready (rs := [12]) (by kernel_rfl) (by simp) ?_
      refine AllReadyH.cons rfl (fun K hK => ?_) AllReadyH.nil
      simp only [gt3]
      go_simp
      refine (dbytes_any D room l (decide (0 ≤ fu)) fuse k0 (HKD.out.below hk0).d hlr).mono ?_
      rintro q k4 ⟨A8, c8, rfl, hs8, hb9⟩
      have hk4 := hk0.trans (hb9.mono hk0.size)
      have hcv := convSK hs8
      rw [HSX.out] at hcv
      clear hs8 hb9
      go_wp2_with fail
      refine hK.out _ _ ?_ (fun hHeld2 => ?_)
      focus
        exact hSU _ hk4
      clear hHeld
      have hHeld := hHeld2
      clear hHeld2 hK K
      try simp only [gt6, Act.put]
      refine wpAnyH_ready (rs := [13]) (by kernel_rfl) (by simp) ?_
      refine AllReadyH.cons rfl (fun K hK => ?_) AllReadyH.nil
      simp only [gt3]
      go_simp
      refine hK.out _ _ ?_ (fun hHeld2 => ?_)
      focus
        exact hSU _ hk4
      clear hHeld
      have hHeld := hHeld2
      clear hHeld2 hK K
      try simp only [gt6, Act.put]
      refine tkA 16 ?_ rfl ?_ (by assumption) ?_; rotate_left; focus (intro U hU; (try dsimp only at hU); go_simp; try (with_reducible rfl))
      simp only [gt6, Act.put]
      refine tkA 17 ?_ rfl ?_ (by assumption) ?_; rotate_left; focus (intro U hU; (try dsimp only at hU); go_simp; try (with_reducible rfl))
      simp only [gt6, Act.put]
      refine wpAnyH_done (by kernel_rfl) ?_ _
      have HB4 := hid hk4
      clear hHeld hSU hk0 hk4 hcv g1 g1'
      have HBT := hid ((HKD.out.below HB4.out).bel)
      clear HKD HSX hlr HB4 HQR
      generalize k4 = wt at *
      go_wp2_with fail
      refine (lopen_nil 9 wt).mono ?_
      rintro e w8 ⟨rfl, rfl⟩
      go_wp2_with fail
      refine (lput0 wt).mono ?_
      rintro e w8 ⟨rfl, hb8⟩
      have HB8 := hid (HBT.out.trans (hb8.mono HBT.out.size))
      clear hb8 HBT
      go_wp2_with fail
      refine (lbook0 w8).mono ?_
      rintro e w9 ⟨rfl, rfl⟩
      go_wp2_with fail
      refine (lkept0 w8).mono ?_
      rintro e w9 ⟨rfl, rfl⟩
      go_wp2_with fail
      refine (llen0 w8).mono ?_
      rintro e w9 ⟨rfl, rfl⟩
      go_wp2_with fail
      refine (ldown0 w8).mono ?_
      rintro e w9 ⟨rfl, rfl⟩
      go_wp2_with fail
      refine (HK.out w8).mono ?_
      rintro e wz ⟨rfl, hbz⟩
      have HBZ := hid (HB8.out.trans (hbz.mono HB8.out.size))
      clear hbz
      go_wp2
      go_ret
      exact ⟨rfl, HBZ.out⟩
theorem ledgerPlays_law (r0 r1 : Int) (Bp : Option Addr) (n1 cb : Nat) (wl : List UInt8) (A : Option Addr) (c : Nat) (al : List La) (W : World) (hwl : IsBytes W Bp n1 cb wl) (h : InLs W A c al) :
    Calls Tryz.prog 3 #[.agg #[.int .i64 r0, .int .i64 r1], .slice Bp n1 cb, .slice A al.length c] W fun e w' => e = .returned (.bool true) ∧ Below W.heap.size W w' := by
  have hn : n1 = wl.length := by
    have := hwl.1
    simpa [bcells_length] using this.symm
  subst hn
  rcases (by omega : (0 ≤ r0 ∧ r0 ≤ 65536) ∨ (r0 < 0 ∨ 65536 < r0)) with ⟨h1, h2⟩ | h1
  · obtain ⟨room, rfl⟩ := Int.eq_ofNat_of_zero_le h1
    rcases (by omega : (0 ≤ r1 ∧ r1 ≤ 65536) ∨ (r1 < 0 ∨ 65536 < r1)) with ⟨h3, h4⟩ | h3
    · obtain ⟨R, rfl⟩ := Int.eq_ofNat_of_zero_le h3
      exact ledgerPlays_in room (R : Int) R (by omega) (.inl rfl) (by omega) Bp cb wl A c al W hwl h
    · exact ledgerPlays_in room r1 0 (by omega) (.inr h3) (by omega) Bp cb wl A c al W hwl h
  · exact ledgerPlays_out r0 r1 h1 Bp cb wl A c al W
end Go.Proofs.YtkepfkfoblocgaaGreat
