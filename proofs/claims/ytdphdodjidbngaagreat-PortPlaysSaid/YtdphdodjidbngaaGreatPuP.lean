/- port.Clone: contract. -/
import Derived.Test.YtdphdodjidbngaaGreatQGt
import Derived.Test.YtdphdodjidbngaaGreatPtW
import Derived.Test.YtdphdodjidbngaaGreatPaR
import Derived.Test.YtdphdodjidbngaaGreatGaP
namespace Go.Proofs.YtdphdodjidbngaaGreat
open Go.RowKit Go.Sort Go.Maps
set_option linter.unusedVariables false
set_option linter.unusedSimpArgs false

theorem sorted_ext : ∀ (l m : List Ev), l.Pairwise (fun a b => a.t < b.t) → m.Pairwise (fun a b => a.t < b.t) → (∀ x, x ∈ l ↔ x ∈ m) → l = m
  | [], [], _, _, _ => rfl
  | [], b :: m, _, _, h => absurd ((h b).2 (List.mem_cons_self ..)) (by simp)
  | a :: l, [], _, _, h => absurd ((h a).1 (List.mem_cons_self ..)) (by simp)
  | a :: l, b :: m, h1, h2, h => by
    have g1 := List.pairwise_cons.1 h1
    have g2 := List.pairwise_cons.1 h2
    have hab : a = b := by
      have ha := (h a).1 (List.mem_cons_self ..)
      have hb := (h b).2 (List.mem_cons_self ..)
      rcases List.mem_cons.1 ha with h3 | h3
      · exact h3
      · rcases List.mem_cons.1 hb with h4 | h4
        · exact h4.symm
        · have := g1.1 b h4
          have := g2.1 a h3
          omega
    subst hab
    congr 1
    refine sorted_ext l m g1.2 g2.2 fun x => ⟨fun hx => ?_, fun hx => ?_⟩
    · rcases List.mem_cons.1 ((h x).1 (List.mem_cons_of_mem _ hx)) with h3 | h3
      · subst h3
        have := g1.1 x hx
        omega
      · exact h3
    · rcases List.mem_cons.1 ((h x).2 (List.mem_cons_of_mem _ hx)) with h3 | h3
      · subst h3
        have := g2.1 x hx
        omega
      · exact h3
theorem mem_keep2 (e x : Ev) : ∀ L : List Ev, (x = e ∨ (x ∈ L ∧ x.t ≠ e.t)) → x ∈ keepL e L
  | [], h => by
    rcases h with rfl | h
    · simp [keepL]
    · simp at h
  | y :: l, h => by
    unfold keepL
    split
    · rcases h with rfl | ⟨h, h2⟩
      · exact List.mem_cons_of_mem _ (mem_keep2 _ _ l (.inl rfl))
      · rcases List.mem_cons.1 h with rfl | h3
        · exact List.mem_cons_self ..
        · exact List.mem_cons_of_mem _ (mem_keep2 _ _ l (.inr ⟨h3, h2⟩))
    · split
      · rename_i h8 h9
        rcases h with rfl | ⟨h, h2⟩
        · exact List.mem_cons_self ..
        · rcases List.mem_cons.1 h with rfl | h3
          · exact absurd h9 h2
          · exact List.mem_cons_of_mem _ h3
      · rcases h with rfl | ⟨h, h2⟩
        · exact List.mem_cons_self ..
        · exact List.mem_cons_of_mem _ h
/-- The ends that have come. -/
def cameL (L : List Ev) (left : Lit → Bool) : List Ev := L.filter (fun e => !left (.int .i64 e.t))
theorem cameL_step {L : List Ev} {left : Lit → Bool} (hp : L.Pairwise (fun a b => a.t < b.t)) (e : Ev) (he : e ∈ L) : keepL e (cameL L left) = cameL L (fun z => left z && !z.sameKey (.int .i64 e.t)) := by
  have hs : (cameL L left).Pairwise (fun a b => a.t < b.t) := hp.filter _
  refine sorted_ext _ _ (sorted_keep e _ hs) (hp.filter _) fun x => ?_
  have hsk : ∀ y : Ev, (Lit.int .i64 y.t).sameKey (.int .i64 e.t) = decide (y.t = e.t) := fun y => by simp [Lit.sameKey]
  have hm : x ∈ cameL L (fun z => left z && !z.sameKey (.int .i64 e.t)) ↔ x ∈ L ∧ (!(left (.int .i64 x.t) && !decide (x.t = e.t))) = true := by
    rw [cameL, List.mem_filter, hsk]
  rw [hm]
  constructor
  · intro h
    rcases mem_keep e x _ hs h with rfl | ⟨h1, h2⟩
    · exact ⟨he, by simp⟩
    · rw [cameL, List.mem_filter] at h1
      exact ⟨h1.1, by have := h1.2; simp at this; simp [this]⟩
  · rintro ⟨h1, h2⟩
    refine mem_keep2 e x _ ?_
    by_cases hx : x.t = e.t
    · refine .inl ?_
      have h3 : ∀ a ∈ L, ∀ b ∈ L, a.t = b.t → a = b := by
        intro a ha b hb hab
        obtain ⟨i, hi, rfl⟩ := List.mem_iff_getElem.1 ha
        obtain ⟨j, hj, rfl⟩ := List.mem_iff_getElem.1 hb
        rw [List.pairwise_iff_getElem] at hp
        rcases Nat.lt_trichotomy i j with h9 | h9 | h9
        · have := hp i j hi hj h9; omega
        · subst h9; rfl
        · have := hp j i hj hi h9; omega
      exact h3 x h1 e he hx
    · refine .inr ⟨?_, hx⟩
      rw [cameL, List.mem_filter]
      exact ⟨h1, by simp [hx] at h2; simp [h2]⟩

theorem PEnds.farI {w : World} {g gg : Nat} {L : List Ev} (h : PEnds w g L) (hi : ∀ off, w.cell? ⟨gg, off, none⟩ = none) : PFar w g L gg := by
  obtain ⟨_, _, D, h3, _, _, h6⟩ := h
  refine ⟨D, h3, fun e he => ?_⟩
  obtain ⟨A, c, h7, h8⟩ := h6 e he
  refine ⟨A, c, h7, fun h0 b off hA => ?_⟩
  obtain ⟨b', off', hA', hc⟩ := h8.2.2.2 (by rw [scells_length]; exact h0)
  rw [hA] at hA'
  cases hA'
  have h9 := hc 0 (by rw [scells_length]; exact h0)
  rw [List.getElem?_eq_getElem (by rw [scells_length]; exact h0)] at h9
  rintro rfl
  rw [hi] at h9
  cases h9
theorem ranges_iter {P : Program} {k : TypeId} {H : Type} {R : Value → Option (DataW H × List MemPlace)} {w : World} {b r n : Nat} {D : DataW H} {left : Lit → Bool} {cnt : Nat} (h : w.ranges P k R b r n D left cnt) : ∀ off, w.cell? ⟨r, off, none⟩ = none := by
  obtain ⟨es, clock, since, seen, c0, h1, h2, h3, h4, h5, rest⟩ := h
  intro off
  simp [World.cell?, h5]

set_option maxRecDepth 20000 in
set_option maxHeartbeats 8000000 in
theorem pclone_any {P M : Nat} {nd inc bd : Int} {L : List Ev} (W : World) (h : PortAt W P M nd inc bd L) (hn : nodeB nd = true) (h1 : 1 ≤ inc) (h2 : inc ≤ 72057594037927935) (h3 : 1 ≤ bd) (h4 : bd ≤ 16) (hl : ∀ e ∈ L, e.o.l.length ≤ 1000) :
    Calls Tryz.prog 17 #[.pointer (some ⟨P, 0, none⟩)] W fun e w' => ∃ P' M', e = .returned (.pointer (some ⟨P', 0, none⟩)) ∧ W.heap.size ≤ P' ∧ W.heap.size ≤ M' ∧ PortAt w' P' M' nd inc bd L ∧ Below W.heap.size W w' := by
  have HNW := hid (fun w => ptNew_any nd inc bd hn h1 h2 h3 h4 w)
  have HH := hid h
  have HLL := hid hl
  have hP := lt_of_block h.blk
  have hM := h.ends.lt
  clear h hn h1 h2 h3 h4 hl
  go_enter Tryz.func17, Tryz.ntmps17
  go_upto_region 3 with (fail)
  have hk0 : Below W.heap.size W W.drew := below_drew (Below.refl _ _)
  have hS : ∀ U, Below W.heap.size W U → (U.cell? ⟨P, 0, none⟩ = some (.int .i64 nd) ∧ U.cell? ⟨P, 1, none⟩ = some (.int .i64 inc) ∧ U.cell? ⟨P, 2, none⟩ = some (.int .i64 bd)) := fun U hU => by
    obtain ⟨c0, c1, c2, c3⟩ := HH.out.cells
    exact ⟨(hU.cell hP).trans c0, (hU.cell hP).trans c1, (hU.cell hP).trans c2⟩
  refine wp_region_held_drew (S := fun U => (U.cell? ⟨P, 0, none⟩ = some (.int .i64 nd) ∧ U.cell? ⟨P, 1, none⟩ = some (.int .i64 inc) ∧ U.cell? ⟨P, 2, none⟩ = some (.int .i64 bd))) (by kernel_rfl) (hS _ hk0) (fun hHeld => ?_)
  generalize W.drew = k0 at *
  refine tkA 0 ?_ rfl ?_ (by assumption) ?_; rotate_left; focus (intro U hU; (try dsimp only at hU); go_simp; try (with_reducible rfl))
  simp only [gt6, Act.put]
  refine tkA 1 ?_ rfl ?_ (by assumption) ?_; rotate_left; focus (intro U hU; (try dsimp only at hU); go_simp; try (with_reducible rfl))
  simp only [gt6, Act.put]
  refine tkA 2 ?_ rfl ?_ (by assumption) ?_; rotate_left; focus (intro U hU; (try dsimp only at hU); go_simp; try (with_reducible rfl))
  simp only [gt6, Act.put]
  refine tkA 3 ?_ rfl ?_ (by assumption) ?_; rotate_left; focus (intro U hU; (try dsimp only at hU); go_simp; try (with_reducible rfl))
  simp only [gt6, Act.put]
  refine tkA 4 ?_ rfl ?_ (by assumption) ?_; rotate_left; focus (intro U hU; (try dsimp only at hU); go_simp; try (with_reducible rfl))
  simp only [gt6, Act.put]
  refine tkA 5 ?_ rfl ?_ (by assumption) ?_; rotate_left; focus (intro U hU; (try dsimp only at hU); go_simp; try (with_reducible rfl))
  simp only [gt6, Act.put]
  refine tkA 6 ?_ rfl ?_ (by assumption) ?_; rotate_left; focus (intro U hU; (try dsimp only at hU); go_simp; try (with_reducible rfl))
  simp only [gt6, Act.put]
  refine tkA 7 ?_ rfl ?_ (by assumption) ?_; rotate_left; focus (intro U hU; (try dsimp only at hU); go_simp; try (with_reducible rfl))
  simp only [gt6, Act.put]
  refine tkA 8 ?_ rfl ?_ (by assumption) ?_; rotate_left; focus (intro U hU; (try dsimp only at hU); go_simp; try (with_reducible rfl))
  simp only [gt6, Act.put]
  refine tkA 9 ?_ rfl ?_ (by assumption) ?_; rotate_left; focus (intro U hU; (try dsimp only at hU); go_simp; try (with_reducible rfl))
  simp only [gt6, Act.put]
  refine tkA 10 ?_ rfl ?_ (by assumption) ?_; rotate_left; focus (intro U hU; (try dsimp only at hU); go_simp; try (with_reducible rfl))
  simp only [gt6, Act.put]
  refine tkA 11 ?_ rfl ?_ (by assumption) ?_; rotate_left; focus (intro U hU; (try dsimp only at hU); go_simp; try (with_reducible rfl))
  simp only [gt6, Act.put]
  refine wpAnyH_ready (rs := [12]) (by kernel_rfl) (by simp) ?_
  refine AllReadyH.cons rfl (fun K hK => ?_) AllReadyH.nil
  simp only [gt3]
  go_simp
  refine (HNW.out k0).mono ?_
  rintro q k1 ⟨P2, M2, rfl, hPW, hMW, hnp, hb1⟩
  have hk1 := hk0.trans (hb1.mono hk0.size)
  replace hPW := Nat.le_trans hk0.size hPW
  replace hMW := Nat.le_trans hk0.size hMW
  clear hb1
  go_wp2_with fail
  refine hK.out _ _ ?_ (fun hHeld2 => ?_)
  focus
    exact hS _ hk1
  clear hHeld
  have hHeld := hHeld2
  clear hHeld2 hK K
  try simp only [gt6, Act.put]
  refine tkA 13 ?_ rfl ?_ (by assumption) ?_; rotate_left; focus (intro U hU; (try dsimp only at hU); go_simp; try (with_reducible rfl))
  simp only [gt6, Act.put]
  refine wpAnyH_done (by kernel_rfl) ?_ _
  clear hHeld hS
  have HNP := hid hnp
  have HK1 := hid hk1
  have hP2 := lt_of_block hnp.blk
  have hM2 := hnp.ends.lt
  have HPP : Hid (W.heap.size ≤ P2 ∧ W.heap.size ≤ M2) := hid ⟨hPW, hMW⟩
  have hMM : M ≠ M2 := by omega
  obtain ⟨c0, c1, c2, c3⟩ := (HH.out.below hk1).cells
  obtain ⟨hpw, hrg, D, hown0, hsz, hhas, hrow⟩ := HH.out.ends
  have hown := nmap_blk hown0 (hk1.block M hM)
  have HPW := hid hpw
  have HRG := hid hrg
  have HSZ := hid hsz
  have HHS := hid hhas
  have HRW := hid hrow
  clear c0 c1 c2 hnp hk1 hPW hMW hpw hrg hown0 hsz hhas hrow
  go_wp2_with (first
    | (at_range; refine wpList_range_own _ rfl _ 58 rfl 3 71 keyed_int Tryz.underlying58 valR M 72 D rfl hown ?_; intro w0 hrg0 hg0 hs0)
    | go_in)
  go_frame
  have HB0 := hid (HK1.out.grown hg0 HK1.out.size (fun k e => by cases e))
  have HN0 := hid (HNP.out.below ((Below.refl _ _).grown hg0 (Nat.le_refl _) (fun k e => by cases e)))
  have hks := HK1.out.size
  clear HNP HK1 hown
  generalize hRR : k1.heap.size = RR at *
  have HRR : Hid (P2 < RR ∧ M2 < RR ∧ M < RR ∧ W.heap.size ≤ RR) := hid ⟨by omega, by omega, by omega, by omega⟩
  clear hRR hks
  go_loopw [4] (fun _ wr => ∃ (left : Lit → Bool) (cnt : Nat), wr.ranges Tryz.prog 3 valR M RR 72 D left cnt ∧ Hid (PortAt wr P2 M2 nd inc bd (cameL L left)) ∧ Hid (Below W.heap.size W wr)) (fun _ wr => wr.rangeLeft M RR)
  case atStart =>
    refine ⟨_, _, hrg0, ?_, HB0.out⟩
    have h9 : cameL L (Maps.has D) = [] := by
      rw [cameL, List.filter_eq_nil_iff]
      intro e he
      rw [HHS.out e.t]
      have : (L.any fun x => x.t == e.t) = true := by
        rw [List.any_eq_true]
        exact ⟨e, he, by simp⟩
      rw [this]
      simp
    rw [h9]
    exact HN0.out
  case round =>
    obtain ⟨left, cnt, hrg, HQ, HB⟩ := hrel
    go_wp2_with (first
      | (at_next; refine wpList_next_ranges _ rfl _ rfl 3 keyed_int valR (Value.int .i64) id (fun key kl hk => by obtain ⟨x, hx, _⟩ := Maps.keyOf_i64 Tryz.underlying3 hk; exact ⟨x, hx⟩) (fun v _ _ => ⟨v, rfl⟩) M RR 72 _ _ _ rfl hrg ?_ ?_)
      | go_in)
    · intro hc0 hl0
      have h9 : cameL L left = L := by
        rw [cameL, List.filter_eq_self]
        intro e he
        rw [hl0]
        rfl
      rw [h9] at HQ
      have HH1 := hid HPP.out.1
      have HH2 := hid HPP.out.2
      clear h9 hl0 hc0
      go_wp2
      go_ret
      exact ⟨P2, M2, rfl, HH1.out, HH2.out, HQ.out, HB.out⟩
    · intro x cv kl yd yp w1 cnt1 hkey hlk hv hat hrg1 hlt hg1 hs1 hen
      obtain ⟨x', ex, rfl, hwf⟩ := Maps.keyOf_i64 Tryz.underlying3 hkey
      obtain rfl : x = x' := encZ_inj ex
      have hha := (HHS.out x).symm.trans (has_true_of_atKey hat)
      obtain ⟨e, he, hex⟩ := List.any_eq_true.1 hha
      have hex : e.t = x := by simpa using hex
      obtain ⟨A, c, hr1, hr2⟩ := HRW.out e he
      have hvv : cv = .agg (ec e A c) := by
        have h8 : yd = .held cv := by
          unfold valR at hv
          rw [Option.some.injEq, Prod.mk.injEq] at hv
          exact hv.1.symm
        have h7 := (hat (.held (.bool true))).symm.trans (hex ▸ hr1 (.held (.bool true)))
        rw [h8] at h7
        injection h7
      subst hvv
      subst hex
      have HST := hid (cameL_step (left := left) HPW.out e he)
      have HCL := hid (fun w (hb : Below W.heap.size W w) => clone_str A e.o.l.length c (scells e.o.l) w (hr2.below hb) (scells_one _) (by have := HLL.out e he; omega))
      have hr0 := HRG.out e he
      have HR0 : Hid (0 ≤ e.t ∧ e.t < 72) := hid hr0
      have hW1 := hrg1.lt
      have HQ1 : Hid (PortAt w1 P2 M2 nd inc bd (cameL L left)) := hid (HQ.out.but (S := fun g => g = RR) (fun g hg hn => hg1.block g hg (fun e9 => hn (Option.some.inj e9))) (by have := HRR.out.1; omega) (by have := HRR.out.2.1; omega) (fun gg hg => by
        subst hg
        exact HQ.out.ends.farI (ranges_iter hrg)))
      have HB1 := hid (HB.out.grown hg1 HB.out.size (fun k e9 => by cases e9; exact HRR.out.2.2.2))
      have HG1 := hid hrg1
      clear hkey hlk hv hat hha he hr1 hr2 hr0 hg1 hs1 hwf ex HQ HB
      obtain ⟨f, t, i, ⟨p, q, l, wt, fl⟩, gm, gp, gl⟩ := e
      simp only [ec] at hen HCL HR0 HG1 HST
      simp only [ec, id]
      go_upto_region 7 with (fail)
      refine at_world (fun u => u.heap[w1.heap.size]? = some (.cells #[.int .i64 f, .int .i64 t, .int .i64 i, .int .i64 p, .int .i64 q, .slice A l.length c, .int .i64 wt, .int .i64 fl, .int .i64 gm, .int .i64 gp, .int .i64 gl] 71 (0, 0)) ∧ Below w1.heap.size w1 u) ⟨heap_alloc_new _ _, (Below.refl _ _).alloc (Nat.le_refl _) _⟩ ?_
      rintro w2 ⟨hz2, hb2⟩
      have HC2 := hid (HCL.out w2 (HB1.out.trans (hb2.mono HB1.out.size)))
      obtain ⟨Z, hZ⟩ : ∃ Z, Z = w1.heap.size := ⟨_, rfl⟩
      rw [← hZ] at hz2 ⊢
      have HZZ := hid hZ
      obtain ⟨⟨p0, p1, p2, p3, p4, p5, p6, p7, p8, p9, p10⟩, ⟨g0, g1, g2, g3, g4, g5, g6, g7, g8, g9, g10⟩⟩ := eleven_cells hz2
      have HZ2 := hid hz2
      have HB2 := hid hb2
      clear HCL hz2 hb2 hZ hen
      go_wp2_with fail
      refine HC2.out.mono ?_
      rintro q9 w3 ⟨v, rfl, hb3, ho3⟩
      obtain ⟨A2, c2, rfl, -⟩ := Sl.of_own ho3
      have hz3 := keep0 HZ2.out hb3
      clear p0 p1 p2 p3 p4 p5 p6 p7 p8 p9 p10 g0 g1 g2 g3 g4 g5 g6 g7 g8 g9 g10
      obtain ⟨⟨p0, p1, p2, p3, p4, p5, p6, p7, p8, p9, p10⟩, ⟨g0, g1, g2, g3, g4, g5, g6, g7, g8, g9, g10⟩⟩ := eleven_cells hz3
      have HS3 := hid (heap_setCell_same w3 Z 5 _ _ (.slice A2 l.length c2) hz3)
      have HO3 := hid (own_at (own_mono ho3 HB2.out.size) hz3 (by decide) fun g hg => Below.heap_setCell w3 ⟨Z, 5, none⟩ (.slice A2 l.length c2) _ hg)
      have HB3 := hid ((HB2.out.trans (hb3.mono HB2.out.size)).setCell (p := ⟨Z, 5, none⟩) (by have := HZZ.out; show w1.heap.size ≤ Z; omega) (.slice A2 l.length c2))
      clear hz3 hb3 ho3 HC2 HZ2 HB2
      go_upto_region 8 with (fail)
      refine at_world (fun u => u.heap[Z]? = some (.cells #[.int .i64 f, .int .i64 t, .int .i64 i, .int .i64 p, .int .i64 q, .slice A2 l.length c2, .int .i64 wt, .int .i64 fl, .int .i64 gm, .int .i64 gp, .int .i64 gl] 71 (0, 0)) ∧ u.ownsRow w1.heap.size 9 1 (.slice A2 l.length c2) l.length (scells l) ∧ Below w1.heap.size w1 u) ⟨HS3.out, HO3.out, HB3.out⟩ ?_
      clear p0 p1 p2 p3 p4 p5 p6 p7 p8 p9 p10 g0 g1 g2 g3 g4 g5 g6 g7 g8 g9 g10 HS3 HO3 HB3
      rintro w4 ⟨hz4, ho4, hb4⟩
      have hk0 : Below w1.heap.size w1 w4.drew := below_drew hb4
      have HQ4 := hid (HQ1.out.below hk0)
      have hblk := HQ4.out.blk
      obtain ⟨w8, hrun, hE8, hO8⟩ := pends_put HQ4.out.ends ⟨f, t, i, ⟨p, q, l, wt, fl⟩, gm, gp, gl⟩ A2 c2 HR0.out.1 HR0.out.2 ((sl_own ho4).below (below_drew (Below.refl _ _))) Tryz.underlying58
      have hz0 : w4.drew.heap[Z]? = some (.cells #[.int .i64 f, .int .i64 t, .int .i64 i, .int .i64 p, .int .i64 q, .slice A2 l.length c2, .int .i64 wt, .int .i64 fl, .int .i64 gm, .int .i64 gp, .int .i64 gl] 71 (0, 0)) := hz4
      obtain ⟨es, clock, hmb⟩ := HQ4.out.ends.block
      have hPM := HQ4.out.ne
      have hZM : Z ≠ M2 := by
        rintro rfl
        rw [hmb] at hz0
        cases hz0
      have hS : ∀ U : World, U.heap[P2]? = some (.cells #[.int .i64 nd, .int .i64 inc, .int .i64 bd, .map (some M2)] 60 (0, 0)) → U.heap[Z]? = some (.cells #[.int .i64 f, .int .i64 t, .int .i64 i, .int .i64 p, .int .i64 q, .slice A2 l.length c2, .int .i64 wt, .int .i64 fl, .int .i64 gm, .int .i64 gp, .int .i64 gl] 71 (0, 0)) → (U.cell? ⟨P2, 3, none⟩ = some (.map (some M2)) ∧ (U.cell? ⟨Z, 0, none⟩ = some (.int .i64 f) ∧ U.cell? ⟨Z, 1, none⟩ = some (.int .i64 t) ∧ U.cell? ⟨Z, 2, none⟩ = some (.int .i64 i) ∧ U.cell? ⟨Z, 3, none⟩ = some (.int .i64 p) ∧ U.cell? ⟨Z, 4, none⟩ = some (.int .i64 q) ∧ U.cell? ⟨Z, 5, none⟩ = some (.slice A2 l.length c2) ∧ U.cell? ⟨Z, 6, none⟩ = some (.int .i64 wt) ∧ U.cell? ⟨Z, 7, none⟩ = some (.int .i64 fl) ∧ U.cell? ⟨Z, 8, none⟩ = some (.int .i64 gm) ∧ U.cell? ⟨Z, 9, none⟩ = some (.int .i64 gp) ∧ U.cell? ⟨Z, 10, none⟩ = some (.int .i64 gl))) := fun U h1 h2 => ⟨by rw [cell_of_row U P2 3 _ _ _ h1]; rfl, (eleven_cells h2).1⟩
      have hE9 : PEnds w8 M2 (cameL L fun z => left z && !z.sameKey (.int .i64 t)) := by
        rw [← HST.out]
        exact hE8
      have HPA8 : Hid (PortAt w8 P2 M2 nd inc bd (cameL L fun z => left z && !z.sameKey (.int .i64 t))) := hid ⟨(hO8.keep P2 hPM (lt_of_block hblk)).trans hblk, hE9⟩
      have hW1 := HG1.out.lt
      have hM1 := HG1.out.owns.lt
      have HMB : Hid (w8.heap[M]? = w1.heap[M]?) := hid ((hO8.keep M hMM (by have := hk0.size; omega)).trans (hk0.block M hM1))
      have HRB : Hid (w8.heap[RR]? = w1.heap[RR]?) := hid ((hO8.keep RR (by have := HRR.out.2.1; omega) (by have := hk0.size; omega)).trans (hk0.block RR hW1))
      have HO8 : Hid (Below W.heap.size W w8) := hid ((HB1.out.trans (hk0.mono HB1.out.size)).trans (hO8.below W.heap.size HPP.out.2 (by have := HB1.out.size; have := hk0.size; omega)))
      have hz8 := (hO8.keep Z hZM (lt_of_block hz0)).trans hz0
      have hblk8 := HPA8.out.blk
      simp only [ec] at hrun
      clear HQ4 HQ1 hE8 hE9 hO8 hPM hZM hmb HB1 hz4 ho4 hb4
      refine wp_region_held_drew (S := fun U => U.cell? ⟨P2, 3, none⟩ = some (.map (some M2)) ∧ (U.cell? ⟨Z, 0, none⟩ = some (.int .i64 f) ∧ U.cell? ⟨Z, 1, none⟩ = some (.int .i64 t) ∧ U.cell? ⟨Z, 2, none⟩ = some (.int .i64 i) ∧ U.cell? ⟨Z, 3, none⟩ = some (.int .i64 p) ∧ U.cell? ⟨Z, 4, none⟩ = some (.int .i64 q) ∧ U.cell? ⟨Z, 5, none⟩ = some (.slice A2 l.length c2) ∧ U.cell? ⟨Z, 6, none⟩ = some (.int .i64 wt) ∧ U.cell? ⟨Z, 7, none⟩ = some (.int .i64 fl) ∧ U.cell? ⟨Z, 8, none⟩ = some (.int .i64 gm) ∧ U.cell? ⟨Z, 9, none⟩ = some (.int .i64 gp) ∧ U.cell? ⟨Z, 10, none⟩ = some (.int .i64 gl))) (by kernel_rfl) (hS _ hblk hz0) (fun hHeld => ?_)
      clear hk0
      generalize w4.drew = k0 at *
      refine tkA 0 ?_ rfl ?_ (by assumption) ?_; rotate_left; focus (intro U hU; (try dsimp only at hU); go_simp; try (with_reducible rfl))
      simp only [gt6, Act.put]
      refine tkA 1 ?_ rfl ?_ (by assumption) ?_; rotate_left; focus (intro U hU; (try dsimp only at hU); go_simp; try (with_reducible rfl))
      simp only [gt6, Act.put]
      refine tkA 2 ?_ rfl ?_ (by assumption) ?_; rotate_left; focus (intro U hU; (try dsimp only at hU); go_simp; try (with_reducible rfl))
      simp only [gt6, Act.put]
      refine tkA 3 ?_ rfl ?_ (by assumption) ?_; rotate_left; focus (intro U hU; (try dsimp only at hU); go_simp; try (with_reducible rfl))
      simp only [gt6, Act.put]
      refine tkA 4 ?_ rfl ?_ (by assumption) ?_; rotate_left; focus (intro U hU; (try dsimp only at hU); go_simp; try (with_reducible rfl))
      simp only [gt6, Act.put]
      refine tkA 5 ?_ rfl ?_ (by assumption) ?_; rotate_left; focus (intro U hU; (try dsimp only at hU); go_simp; try (with_reducible rfl))
      simp only [gt6, Act.put]
      refine wpAnyH_ready (rs := [6]) (by kernel_rfl) (by simp) ?_
      refine AllReadyH.cons rfl (fun K hK => ?_) AllReadyH.nil
      simp only [gt3]
      go_simp
      refine hK.out _ _ ?_ (fun hHeld2 => ?_)
      focus
        exact hS _ hblk8 hz8
      clear hHeld
      have hHeld := hHeld2
      clear hHeld2 hK K
      try simp only [gt6, Act.put]
      refine wpAnyH_done (by kernel_rfl) ?_ _
      clear hHeld hS hblk hz0 hz8 hblk8 hrun
      go_wp2
      go_roundw
      case rel => exact ⟨_, cnt1, ranges_blk HG1.out HMB.out HRB.out, HPA8.out, HO8.out⟩
      case measure =>
        rw [(ranges_blk HG1.out HMB.out HRB.out).left_eq, hrg.left_eq]
        exact hlt
end Go.Proofs.YtdphdodjidbngaaGreat

namespace Go.Proofs.YtdphdodjidbngaaGreat
open Go.RowKit Go.Sort
set_option linter.unusedVariables false
set_option linter.unusedSimpArgs false

/-- Few texts, of 32 bytes at most; numbers in range. -/
def GI (m : Nat) (e : Ev) : Prop := e.o.l.length ≤ 4 ∧ (∀ y ∈ e.o.l, y.length ≤ 32) ∧ 1 ≤ e.o.q ∧ e.o.q ≤ (m : Int) + 1 ∧ 0 ≤ e.l ∧ e.l ≤ 72057594037927935
theorem GI.gd {m : Nat} {e : Ev} (h : GI m e) (hm : m ≤ 1000) : GdE e := by
  obtain ⟨h1, h2, h3, h4, h5, h6⟩ := h
  exact ⟨by omega, h5, by omega, by omega, by omega, fun y hy => by have := h2 y hy; omega⟩
theorem GI.mono {m m' : Nat} {e : Ev} (h : GI m e) (hm : m ≤ m') : GI m' e := by
  obtain ⟨h1, h2, h3, h4, h5, h6⟩ := h
  exact ⟨h1, h2, h3, by omega, h5, h6⟩
theorem mem_keepW (e x : Ev) : ∀ L : List Ev, x ∈ keepL e L → x = e ∨ x ∈ L
  | [], h => by
    left
    simpa [keepL] using h
  | y :: l, h => by
    unfold keepL at h
    split at h
    · rcases List.mem_cons.1 h with rfl | h9
      · exact .inr (List.mem_cons_self ..)
      · rcases mem_keepW e x l h9 with h8 | h8
        · exact .inl h8
        · exact .inr (List.mem_cons_of_mem _ h8)
    · split at h
      · rcases List.mem_cons.1 h with h9 | h9
        · exact .inl h9
        · exact .inr (List.mem_cons_of_mem _ h9)
      · rcases List.mem_cons.1 h with h9 | h9
        · exact .inl h9
        · exact .inr h9
theorem gN_range (m p l inc me seq : Int) (h : 0 ≤ l ∧ l ≤ 72057594037927935) (hs : 0 ≤ seq ∧ seq ≤ 72057594037927935) : 0 ≤ gN m p l inc me seq ∧ gN m p l inc me seq ≤ 72057594037927935 := by
  unfold gN
  split
  · exact hs
  · split
    · exact h
    · unfold gL
      split <;> omega
theorem pbL_len2 (x : Pk) : (pbL x).length ≤ 1000 := by
  cases h : chkP x with
  | true => exact pbL_len h
  | false =>
    have : pbL x = [] := by
      rw [pbL, pbS, str_list, if_neg (by show ¬ okP x.k x.f x.t x.i x.p x.s x.b = true; rw [show okP x.k x.f x.t x.i x.p x.s x.b = false from h]; simp)]
    rw [this]
    simp
theorem tick_len (L : List Ev) (h : L.length ≤ 72) : (ptickV L).2.length ≤ 72 := by
  have h9 : ∀ l : List Ev, ((l.map tkT).flatten).length ≤ l.length := by
    intro l
    induction l with
    | nil => simp
    | cons a l ih =>
      rw [List.map_cons, List.flatten_cons, List.length_append, List.length_cons]
      have := tkT_len a
      omega
  have := h9 L
  show ((L.map tkT).flatten).length ≤ 72
  omega
end Go.Proofs.YtdphdodjidbngaaGreat

namespace Go.Proofs.YtdphdodjidbngaaGreat
open Go.RowKit
set_option linter.unusedVariables false
set_option linter.unusedSimpArgs false

/-- An act: what, whom to, a text, a packet. -/
structure Ap where
  d : Int
  t : Int
  tx : ByteArray
  k : Int
  f : Int
  to' : Int
  i : Int
  p : Int
  s : Int
  b : ByteArray
instance : Inhabited Ap := ⟨⟨0, 0, ⟨#[]⟩, 0, 0, 0, 0, 0, 0, ⟨#[]⟩⟩⟩
def apl (x : Ap) : List Value := [.int .i64 x.d, .int .i64 x.t, .string x.tx, .int .i64 x.k, .int .i64 x.f, .int .i64 x.to', .int .i64 x.i, .int .i64 x.p, .int .i64 x.s, .string x.b]
theorem apl_len (x : Ap) : (apl x).length = 10 := rfl
def ApOk (x : Ap) : Prop := x.tx.size ≤ maxLen ∧ x.b.size ≤ maxLen
theorem list10 {l : List Value} (h : l.length = 10) : ∃ a b c d e f g i j k, l = [a, b, c, d, e, f, g, i, j, k] := by
  match l, h with
  | [a, b, c, d, e, f, g, i, j, k], _ => exact ⟨a, b, c, d, e, f, g, i, j, k, rfl⟩
theorem rd_ap {w : World} {cs : List Value} (hn : cs.length = 10) (h : Rd Tryz.prog w 32 cs) : ∃ x : Ap, cs = apl x ∧ ApOk x := by
  have hc : Tryz.prog.cellsOf 3 = 1 := by kernel_rfl
  have hc1 : Tryz.prog.cellsOf 9 = 1 := by kernel_rfl
  have hc2 : Tryz.prog.cellsOf 30 = 7 := by kernel_rfl
  obtain ⟨_, hf⟩ := Rd.struct Tryz.underlying32 h
  have f0 : Rd Tryz.prog w 3 ((cs.drop 0).take (Tryz.prog.cellsOf 3)) := hf 0 _ rfl
  have f1 : Rd Tryz.prog w 3 ((cs.drop 1).take (Tryz.prog.cellsOf 3)) := hf 1 _ rfl
  have f2 : Rd Tryz.prog w 9 ((cs.drop 2).take (Tryz.prog.cellsOf 9)) := hf 2 _ rfl
  have f3 : Rd Tryz.prog w 30 ((cs.drop 3).take (Tryz.prog.cellsOf 30)) := hf 3 _ rfl
  rw [hc] at f0 f1
  rw [hc1] at f2
  rw [hc2] at f3
  obtain ⟨d, e0, _⟩ := Rd.int Tryz.underlying3 f0
  obtain ⟨t, e1, _⟩ := Rd.int Tryz.underlying3 f1
  obtain ⟨x, e2, wx⟩ := Rd.string Tryz.underlying9 f2
  obtain ⟨k, f, t2, i, p, s, b, e3, wb⟩ := rd_packet (a := ((cs.drop 3).take 7).toArray) (by simp; omega) (by simpa using f3)
  obtain ⟨y0, y1, y2, y3, y4, y5, y6, y7, y8, y9, rfl⟩ := list10 hn
  have e3 := congrArg Array.toList e3
  simp at e0 e1 e2 e3
  obtain ⟨g0, g1, g2, g3, g4, g5, g6⟩ := e3
  exact ⟨⟨d, t, x, k, f, t2, i, p, s, b⟩, by simp [apl, e0, e1, e2, g0, g1, g2, g3, g4, g5, g6], wx, wb⟩
theorem Sl.ap {w : World} {A : Option Addr} {len cap : Nat} {l : List Ap} (h : Sl w 10 A len cap (gcells apl l)) (k : Nat) (hk : k < l.length) : ∃ b off, A = some ⟨b, off, none⟩ ∧ w.cell? ⟨b, off + k * 10, none⟩ = some (.int .i64 l[k].d) ∧ w.cell? ⟨b, off + k * 10 + 1, none⟩ = some (.int .i64 l[k].t) ∧ w.cell? ⟨b, off + k * 10 + 2, none⟩ = some (.string l[k].tx) ∧ w.cell? ⟨b, off + k * 10 + 3, none⟩ = some (.int .i64 l[k].k) ∧ w.cell? ⟨b, off + k * 10 + 4, none⟩ = some (.int .i64 l[k].f) ∧ w.cell? ⟨b, off + k * 10 + 5, none⟩ = some (.int .i64 l[k].to') ∧ w.cell? ⟨b, off + k * 10 + 6, none⟩ = some (.int .i64 l[k].i) ∧ w.cell? ⟨b, off + k * 10 + 7, none⟩ = some (.int .i64 l[k].p) ∧ w.cell? ⟨b, off + k * 10 + 8, none⟩ = some (.int .i64 l[k].s) ∧ w.cell? ⟨b, off + k * 10 + 9, none⟩ = some (.string l[k].b) := by
  obtain ⟨b, off, rfl, hc⟩ := h.gat apl_len k hk (by omega)
  exact ⟨b, off, rfl, hc 0 _ rfl, hc 1 _ rfl, hc 2 _ rfl, hc 3 _ rfl, hc 4 _ rfl, hc 5 _ rfl, hc 6 _ rfl, hc 7 _ rfl, hc 8 _ rfl, hc 9 _ rfl⟩
end Go.Proofs.YtdphdodjidbngaaGreat

