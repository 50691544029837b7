/- the document's port: Put. -/
import Derived.Test.YtdphdodjidbngaaGreatQGt
import Derived.Test.YtdphdodjidbngaaGreatWv2
import Derived.Test.YtdphdodjidbngaaGreatLv3
import Derived.Deep.CutRange
namespace Go.Proofs.YtdphdodjidbngaaGreat
open Go.RowKit Go.Sort
set_option linter.unusedVariables false
set_option linter.unusedSimpArgs false

/-- What the document's Put answers: the ends, what is sent, the error. -/
def rputV (nd inc bd : Int) (L : List Ev) (k : Int) (y : List UInt8) : List Ev × List (List UInt8) × Int :=
  if nodeB k = false ∨ k = nd then (L, [], 1)
  else (keepL (putE (endP nd inc L k) bd y).1.1 L, (putE (endP nd inc L k) bd y).1.2.map pbL, (putE (endP nd inc L k) bd y).2)
/-- What a call leaves: texts and an error. -/
def RPutR (W : World) (base g : Nat) (nd inc bd : Int) (r : List Ev × List (List UInt8) × Int) (x : Ending) (w' : World) : Prop :=
  ∃ A c, x = .returned (.tuple #[.slice A r.2.1.length c, .int .i64 r.2.2]) ∧ w'.ownsRow W.heap.size 9 1 (.slice A r.2.1.length c) r.2.1.length (scells r.2.1) ∧ R7 W w' base g nd inc bd r.1

set_option maxRecDepth 20000 in
set_option maxHeartbeats 8000000 in
theorem rput_in {base g : Nat} {nd inc bd : Int} {L : List Ev} (k : Int) (y : List UInt8) (W : World) (h : P7M W base g nd inc bd L) (hR : L.Pairwise (fun a b => a.t < b.t)) (hX : L.length ≤ 1000) (hbW : base ≤ W.heap.size) (hbg : base ≤ g) (hG : ∀ e ∈ L, GdE e) (h0 : 0 ≤ k) (h1 : k < 72) (hkn : k ≠ nd) (hy : y.length ≤ maxLen) :
    Calls Tryz.prog 8 #[.pointer (some ⟨g, 0, none⟩), .int .i64 k, .string (str y)] W (RPutR W base g nd inc bd (rputV nd inc bd L k y)) := by
  have hNB : nodeB k = true := by simp [nodeB, h0, h1]
  have HV : Hid (rputV nd inc bd L k y = (keepL (putE (endP nd inc L k) bd y).1.1 L, (putE (endP nd inc L k) bd y).1.2.map pbL, (putE (endP nd inc L k) bd y).2)) := hid (by rw [rputV, if_neg (by simp [hNB, hkn])])
  have hGE := gdE_end hG nd inc k
  have HEND := hid (fun U (hU : Below W.heap.size W U) => p7end k U (h.below hU))
  have HPUT := hid (fun A c U hs => r26put_any (endP nd inc L k) bd y A c U hs hGE.1 hy)
  have hPB := putE_b (endP nd inc L k) bd y hGE.2.2.2.2.2
  have HPL : Hid ((putE (endP nd inc L k) bd y).1.2.length ≤ 1000) := hid (putE_len _ _ _)
  have HW := hid h
  have HKE := hid (fun e A c U h1 h3 h4 => p7kept (base := base) (g := g) (nd := nd) (inc := inc) (bd := bd) (M := L) e A c U h1 hR hX h3 h4 hbg)
  have HBW := hid hbW
  have hk0n : decide (k < 0) = false := decide_eq_false (by omega)
  have hk71 : decide (71 < k) = false := decide_eq_false (by omega)
  have hkn2 : (k == nd) = false := by simpa using hkn
  obtain ⟨hlt, c0, c1, c2⟩ := h.at
  have HLT := hid hlt
  generalize rputV nd inc bd L k y = rv at *
  generalize putE (endP nd inc L k) bd y = pv at *
  generalize endP nd inc L k = e0 at *
  obtain ⟨⟨⟨f1, t1, i1, ⟨p1, q1, l1, wt1, fl1⟩, gm1, gp1, gl1⟩, ps⟩, er⟩ := pv
  obtain ⟨f, t, i, ⟨p, q, l, wt, fl⟩, gm, gp, gl⟩ := e0
  simp only [REndP, ec] at HPUT HEND HV hPB HPL
  have HPB := hid hPB
  generalize str y = sy at *
  clear hPB hGE hG hy h hNB h0 h1 hkn hlt hR hX hbW
  go_enter Tryz.func8, Tryz.ntmps8
  go_upto_region 3 with (fail)
  clear c0 c1 hkn2 hk0n hk71
  go_cut [8, 9, 10] from 26 to 38 (fun v8 v9 v10 wx => ∃ Z A2 c2 B d, v8 = .pointer (some ⟨Z, 0, none⟩) ∧ v9 = .slice B ps.length d ∧ v10 = .int .i64 er ∧ wx.heap[Z]? = some (.cells #[.int .i64 f1, .int .i64 t1, .int .i64 i1, .int .i64 p1, .int .i64 q1, .slice A2 l1.length c2, .int .i64 wt1, .int .i64 fl1, .int .i64 gm1, .int .i64 gp1, .int .i64 gl1] 82 (0, 0)) ∧ Sl wx 1 A2 l1.length c2 (scells l1) ∧ OwnR W wx (.slice B ps.length d) ps ∧ Below W.heap.size W wx)
  case rest =>
    obtain ⟨Z, A2, c2, B, d, rfl, rfl, rfl, hz, ho, hp, hb⟩ := hcut
    clear HEND HPUT
    have HB := hid hb
    have HP := hid hp
    have HK := hid (HKE.out ⟨f1, t1, i1, ⟨p1, q1, l1, wt1, fl1⟩, gm1, gp1, gl1⟩ A2 c2 wc (HW.out.below hb) ho (Nat.le_trans HBW.out hb.size))
    simp only [ec] at HK
    obtain ⟨⟨z0, z1, z2, z3, z4, z5, z6, z7, z8, z9, z10⟩, -⟩ := eleven_cells hz
    clear hb hz ho hp HKE
    go_wp2_with fail
    refine HK.out.mono ?_
    rintro qe w8 ⟨rfl, h7⟩
    have H7 := hid (h7.after HB.out HBW.out)
    have HP8 := hid (own_sts HP.out h7.s (by decide) (by decide))
    have HE8 := hid (r27bytes_any B ps.length d ps w8 (sl_own HP8.out) HPL.out HPB.out)
    clear HK h7 HP HP8 HB z0 z1 z2 z3 z4 z5 z6 z7 z8 z9 z10
    go_wp2_with fail
    refine HE8.out.mono ?_
    rintro qe w9 ⟨v, rfl, ho9, hb9⟩
    obtain ⟨A9, c9, rfl, -⟩ := Sl.of_own ho9
    have HR9 := hid (own_mono ho9 H7.out.s.size)
    have H9 := hid (H7.out.then hb9 HBW.out)
    clear ho9 hb9 HE8 H7
    go_wp2
    refine bodyPost_ret (v := .tuple #[.slice A9 ps.length c9, .int .i64 er]) (by simp [results, Tryz.results8, go_sem]) rfl ⟨A9, c9, ?_, ?_, ?_⟩
    · rw [HV.out]
      simp only [List.length_map]
    · rw [HV.out]
      simp only [List.length_map]
      exact HR9.out
    · rw [HV.out]
      exact H9.out
  have hS : ∀ U, Below W.heap.size W U → (U.cell? ⟨g, 2, none⟩ = some (.int .i64 bd)) := fun U hU => (hU.cell HLT.out).trans c2
  have hk0 : Below W.heap.size W W.drew := below_drew (Below.refl _ _)
  refine wp_region_held_drew (S := fun U => U.cell? ⟨g, 2, none⟩ = some (.int .i64 bd)) (by kernel_rfl) (hS _ hk0) (fun hHeld => ?_)
  generalize W.drew = k0 at *
  refine tkA 0 ?_ rfl ?_ (by assumption) ?_; rotate_left; focus (intro U hU; (try dsimp only at hU); go_simp; try (with_reducible rfl))
  simp only [gt6, Act.put]
  refine tkA 1 ?_ rfl ?_ (by assumption) ?_; rotate_left; focus (intro U hU; (try dsimp only at hU); go_simp; try (with_reducible rfl))
  simp only [gt6, Act.put]
  refine tkA 3 ?_ rfl ?_ (by assumption) ?_; rotate_left; focus (intro U hU; (try dsimp only at hU); go_simp; try (with_reducible rfl))
  simp only [gt6, Act.put]
  refine tkA 4 ?_ rfl ?_ (by assumption) ?_; rotate_left; focus (intro U hU; (try dsimp only at hU); go_simp; try (with_reducible rfl))
  simp only [gt6, Act.put]
  refine tkA 5 ?_ rfl ?_ (by assumption) ?_; rotate_left; focus (intro U hU; (try dsimp only at hU); go_simp; try (with_reducible rfl))
  simp only [gt6, Act.put]
  refine tkA 6 ?_ rfl ?_ (by assumption) ?_; rotate_left; focus (intro U hU; (try dsimp only at hU); go_simp; try (with_reducible rfl))
  simp only [gt6, Act.put]
  refine tkA 7 ?_ rfl ?_ (by assumption) ?_; rotate_left; focus (intro U hU; (try dsimp only at hU); go_simp; try (with_reducible rfl))
  simp only [gt6, Act.put]
  refine wpAnyH_ready (rs := [2, 13]) (by kernel_rfl) (by simp) ?_
  refine (AllReadyH.cons rfl (fun K hK => ?_) (AllReadyH.cons rfl (fun K hK => ?_) AllReadyH.nil))
  · skip
    simp only [gt3]
    go_simp
    refine (HEND.out k0 hk0).mono ?_
    rintro qe k1 ⟨A1, c1, rfl, hs1, hb1⟩
    replace hk0 := hk0.trans (hb1.mono hk0.size)
    have HS1 := hid hs1
    clear hs1 hb1
    go_wp2_with fail
    refine hK.out _ _ ?_ (fun hHeld2 => ?_)
    focus
      exact hS _ hk0
    clear hHeld
    have hHeld := hHeld2
    clear hHeld2 hK K
    try simp only [gt6, Act.put]
    refine wpAnyH_ready (rs := [8, 13]) (by kernel_rfl) (by simp) ?_
    refine (AllReadyH.cons rfl (fun K hK => ?_) (AllReadyH.cons rfl (fun K hK => ?_) AllReadyH.nil))
    · skip
      simp only [gt3]
      go_simp
      refine (HPUT.out A1 c1 k1 HS1.out).mono ?_
      rintro qe k3 ⟨A2, c2, B2, d2, rfl, ho2, hp2, hb2⟩
      have HO : Hid (Sl k3 1 A2 l1.length c2 (scells l1)) := hid ho2
      simp only [ec]
      have HP : Hid (OwnR W k3 (.slice B2 ps.length d2) ps) := hid (own_mono hp2 hk0.size)
      replace hk0 := hk0.trans (hb2.mono hk0.size)
      clear ho2 hp2 hb2
      go_wp2_with fail
      refine hK.out _ _ ?_ (fun hHeld2 => ?_)
      focus
        exact hS _ hk0
      clear hHeld
      have hHeld := hHeld2
      clear hHeld2 hK K
      try simp only [gt6, Act.put]
      refine tkA 9 ?_ rfl ?_ (by assumption) ?_; rotate_left; focus (intro U hU; (try dsimp only at hU); go_simp; try (with_reducible rfl))
      simp only [gt6, Act.put]
      refine tkA 10 ?_ rfl ?_ (by assumption) ?_; rotate_left; focus (intro U hU; (try dsimp only at hU); go_simp; try (with_reducible rfl))
      simp only [gt6, Act.put]
      refine tkA 11 ?_ rfl ?_ (by assumption) ?_; rotate_left; focus (intro U hU; (try dsimp only at hU); go_simp; try (with_reducible rfl))
      simp only [gt6, Act.put]
      refine tkA 12 ?_ rfl ?_ (by assumption) ?_; rotate_left; focus (intro U hU; (try dsimp only at hU); go_simp; try (with_reducible rfl))
      simp only [gt6, Act.put]
      refine wpAnyH_ready (rs := [13]) (by kernel_rfl) (by simp) ?_
      refine (AllReadyH.cons rfl (fun K hK => ?_) AllReadyH.nil)
      have hbs : Below (World.heap k3).size k3 (k3.alloc (.cells #[.int .i64 0, .int .i64 0, .int .i64 0, .int .i64 0, .int .i64 0, .slice none 0 0, .int .i64 0, .int .i64 0, .int .i64 0, .int .i64 0, .int .i64 0] 82)) := (Below.refl _ _).alloc (Nat.le_refl _) _
      have HZ : Hid ((k3.alloc (.cells #[.int .i64 0, .int .i64 0, .int .i64 0, .int .i64 0, .int .i64 0, .slice none 0 0, .int .i64 0, .int .i64 0, .int .i64 0, .int .i64 0, .int .i64 0] 82)).heap[(World.heap k3).size]? = some (.cells #[.int .i64 0, .int .i64 0, .int .i64 0, .int .i64 0, .int .i64 0, .slice none 0 0, .int .i64 0, .int .i64 0, .int .i64 0, .int .i64 0, .int .i64 0] 82 (0, 0))) := hid (heap_alloc_new _ _)
      have HZZ : Hid (W.heap.size ≤ (World.heap k3).size) := hid hk0.size
      replace hk0 := hk0.trans (hbs.mono hk0.size)
      have HO9 := hid (HO.out.below hbs)
      have HP9 : Hid (OwnR W (k3.alloc (.cells #[.int .i64 0, .int .i64 0, .int .i64 0, .int .i64 0, .int .i64 0, .slice none 0 0, .int .i64 0, .int .i64 0, .int .i64 0, .int .i64 0, .int .i64 0] 82)) (.slice B2 ps.length d2) ps) := hid (own_keep HP.out hbs)
      clear HO HP
      have HO := HO9
      have HP := HP9
      clear HO9 HP9
      clear hbs
      simp only [gt3]
      go_simp
      refine hK.out _ _ ?_ (fun hHeld2 => ?_)
      focus
        exact hS _ hk0
      clear hHeld
      have hHeld := hHeld2
      clear hHeld2 hK K
      try simp only [gt6, Act.put]
      generalize (k3.alloc (.cells #[.int .i64 0, .int .i64 0, .int .i64 0, .int .i64 0, .int .i64 0, .slice none 0 0, .int .i64 0, .int .i64 0, .int .i64 0, .int .i64 0, .int .i64 0] 82)) = k5 at *
      generalize (World.heap k3).size = ZB at *
      refine wpAnyH_ready (rs := [14]) (by kernel_rfl) (by simp) ?_
      refine (AllReadyH.cons rfl (fun K hK => ?_) AllReadyH.nil)
      obtain ⟨⟨d0, d1, d2, d3, d4, d5, d6, d7, d8, d9, d10⟩, ⟨g0, g1, g2, g3, g4, g5, g6, g7, g8, g9, g10⟩⟩ := eleven_cells HZ.out
      simp only [gt3]
      go_simp
      clear d0 d1 d2 d3 d4 d5 d6 d7 d8 d9 d10 g0 g1 g2 g3 g4 g5 g6 g7 g8 g9 g10
      refine hK.out _ _ ?_ (fun hHeld2 => ?_)
      focus
        exact hS _ (put11_below hk0 HZZ.out (.int .i64 f1) (.int .i64 t1) (.int .i64 i1) (.int .i64 p1) (.int .i64 q1) (.slice A2 l1.length c2) (.int .i64 wt1) (.int .i64 fl1) (.int .i64 gm1) (.int .i64 gp1) (.int .i64 gl1))
      clear hHeld
      have hHeld := hHeld2
      clear hHeld2 hK K
      try simp only [gt6, Act.put]
      refine tkA 15 ?_ rfl ?_ (by assumption) ?_; rotate_left; focus (intro U hU; (try dsimp only at hU); go_simp; try (with_reducible rfl))
      simp only [gt6, Act.put]
      refine tkA 16 ?_ rfl ?_ (by assumption) ?_; rotate_left; focus (intro U hU; (try dsimp only at hU); go_simp; try (with_reducible rfl))
      simp only [gt6, Act.put]
      refine wpAnyH_done (by kernel_rfl) ?_ _
      have hz9 := put11_heap HZ.out (.int .i64 f1) (.int .i64 t1) (.int .i64 i1) (.int .i64 p1) (.int .i64 q1) (.slice A2 l1.length c2) (.int .i64 wt1) (.int .i64 fl1) (.int .i64 gm1) (.int .i64 gp1) (.int .i64 gl1)
      have hb9 := put11_below hk0 HZZ.out (.int .i64 f1) (.int .i64 t1) (.int .i64 i1) (.int .i64 p1) (.int .i64 q1) (.slice A2 l1.length c2) (.int .i64 wt1) (.int .i64 fl1) (.int .i64 gm1) (.int .i64 gp1) (.int .i64 gl1)
      have ho9 : Sl (put11 k5 ZB (.int .i64 f1) (.int .i64 t1) (.int .i64 i1) (.int .i64 p1) (.int .i64 q1) (.slice A2 l1.length c2) (.int .i64 wt1) (.int .i64 fl1) (.int .i64 gm1) (.int .i64 gp1) (.int .i64 gl1)) 1 A2 l1.length c2 (scells l1) := sl_st HO.out HZ.out ez_ns fun g hg => put11_other (w := k5) (b := ZB) hg (.int .i64 f1) (.int .i64 t1) (.int .i64 i1) (.int .i64 p1) (.int .i64 q1) (.slice A2 l1.length c2) (.int .i64 wt1) (.int .i64 fl1) (.int .i64 gm1) (.int .i64 gp1) (.int .i64 gl1)
      have hp9 : OwnR W (put11 k5 ZB (.int .i64 f1) (.int .i64 t1) (.int .i64 i1) (.int .i64 p1) (.int .i64 q1) (.slice A2 l1.length c2) (.int .i64 wt1) (.int .i64 fl1) (.int .i64 gm1) (.int .i64 gp1) (.int .i64 gl1)) (.slice B2 ps.length d2) ps := own_at HP.out HZ.out (by decide) fun g hg => put11_other (w := k5) (b := ZB) hg (.int .i64 f1) (.int .i64 t1) (.int .i64 i1) (.int .i64 p1) (.int .i64 q1) (.slice A2 l1.length c2) (.int .i64 wt1) (.int .i64 fl1) (.int .i64 gm1) (.int .i64 gp1) (.int .i64 gl1)
      clear hHeld hS HZ HO HP hk0
      go_wp2_with fail
      go_meet
      exact ⟨_, _, _, _, _, rfl, rfl, rfl, hz9, ho9, hp9, hb9⟩
    · skip
      have hbs : Below (World.heap k1).size k1 (k1.alloc (.cells #[.int .i64 0, .int .i64 0, .int .i64 0, .int .i64 0, .int .i64 0, .slice none 0 0, .int .i64 0, .int .i64 0, .int .i64 0, .int .i64 0, .int .i64 0] 82)) := (Below.refl _ _).alloc (Nat.le_refl _) _
      have HZ : Hid ((k1.alloc (.cells #[.int .i64 0, .int .i64 0, .int .i64 0, .int .i64 0, .int .i64 0, .slice none 0 0, .int .i64 0, .int .i64 0, .int .i64 0, .int .i64 0, .int .i64 0] 82)).heap[(World.heap k1).size]? = some (.cells #[.int .i64 0, .int .i64 0, .int .i64 0, .int .i64 0, .int .i64 0, .slice none 0 0, .int .i64 0, .int .i64 0, .int .i64 0, .int .i64 0, .int .i64 0] 82 (0, 0))) := hid (heap_alloc_new _ _)
      have HZZ : Hid (W.heap.size ≤ (World.heap k1).size) := hid hk0.size
      replace hk0 := hk0.trans (hbs.mono hk0.size)
      have HS9 := hid (HS1.out.below hbs)
      clear HS1
      have HS1 := HS9
      clear HS9
      clear hbs
      simp only [gt3]
      go_simp
      refine hK.out _ _ ?_ (fun hHeld2 => ?_)
      focus
        exact hS _ hk0
      clear hHeld
      have hHeld := hHeld2
      clear hHeld2 hK K
      try simp only [gt6, Act.put]
      generalize (k1.alloc (.cells #[.int .i64 0, .int .i64 0, .int .i64 0, .int .i64 0, .int .i64 0, .slice none 0 0, .int .i64 0, .int .i64 0, .int .i64 0, .int .i64 0, .int .i64 0] 82)) = k4 at *
      generalize (World.heap k1).size = ZB at *
      refine wpAnyH_ready (rs := [8]) (by kernel_rfl) (by simp) ?_
      refine (AllReadyH.cons rfl (fun K hK => ?_) AllReadyH.nil)
      simp only [gt3]
      go_simp
      refine (HPUT.out A1 c1 k4 HS1.out).mono ?_
      rintro qe k6 ⟨A2, c2, B2, d2, rfl, ho2, hp2, hb2⟩
      have HO : Hid (Sl k6 1 A2 l1.length c2 (scells l1)) := hid ho2
      simp only [ec]
      have HP : Hid (OwnR W k6 (.slice B2 ps.length d2) ps) := hid (own_mono hp2 hk0.size)
      replace hk0 := hk0.trans (hb2.mono hk0.size)
      have HZ9 := hid (keep0 HZ.out hb2)
      clear HZ
      have HZ := HZ9
      clear HZ9
      clear ho2 hp2 hb2
      go_wp2_with fail
      refine hK.out _ _ ?_ (fun hHeld2 => ?_)
      focus
        exact hS _ hk0
      clear hHeld
      have hHeld := hHeld2
      clear hHeld2 hK K
      try simp only [gt6, Act.put]
      refine tkA 9 ?_ rfl ?_ (by assumption) ?_; rotate_left; focus (intro U hU; (try dsimp only at hU); go_simp; try (with_reducible rfl))
      simp only [gt6, Act.put]
      refine tkA 10 ?_ rfl ?_ (by assumption) ?_; rotate_left; focus (intro U hU; (try dsimp only at hU); go_simp; try (with_reducible rfl))
      simp only [gt6, Act.put]
      refine tkA 11 ?_ rfl ?_ (by assumption) ?_; rotate_left; focus (intro U hU; (try dsimp only at hU); go_simp; try (with_reducible rfl))
      simp only [gt6, Act.put]
      refine tkA 12 ?_ rfl ?_ (by assumption) ?_; rotate_left; focus (intro U hU; (try dsimp only at hU); go_simp; try (with_reducible rfl))
      simp only [gt6, Act.put]
      refine wpAnyH_ready (rs := [14]) (by kernel_rfl) (by simp) ?_
      refine (AllReadyH.cons rfl (fun K hK => ?_) AllReadyH.nil)
      obtain ⟨⟨d0, d1, d2, d3, d4, d5, d6, d7, d8, d9, d10⟩, ⟨g0, g1, g2, g3, g4, g5, g6, g7, g8, g9, g10⟩⟩ := eleven_cells HZ.out
      simp only [gt3]
      go_simp
      clear d0 d1 d2 d3 d4 d5 d6 d7 d8 d9 d10 g0 g1 g2 g3 g4 g5 g6 g7 g8 g9 g10
      refine hK.out _ _ ?_ (fun hHeld2 => ?_)
      focus
        exact hS _ (put11_below hk0 HZZ.out (.int .i64 f1) (.int .i64 t1) (.int .i64 i1) (.int .i64 p1) (.int .i64 q1) (.slice A2 l1.length c2) (.int .i64 wt1) (.int .i64 fl1) (.int .i64 gm1) (.int .i64 gp1) (.int .i64 gl1))
      clear hHeld
      have hHeld := hHeld2
      clear hHeld2 hK K
      try simp only [gt6, Act.put]
      refine tkA 15 ?_ rfl ?_ (by assumption) ?_; rotate_left; focus (intro U hU; (try dsimp only at hU); go_simp; try (with_reducible rfl))
      simp only [gt6, Act.put]
      refine tkA 16 ?_ rfl ?_ (by assumption) ?_; rotate_left; focus (intro U hU; (try dsimp only at hU); go_simp; try (with_reducible rfl))
      simp only [gt6, Act.put]
      refine wpAnyH_done (by kernel_rfl) ?_ _
      have hz9 := put11_heap HZ.out (.int .i64 f1) (.int .i64 t1) (.int .i64 i1) (.int .i64 p1) (.int .i64 q1) (.slice A2 l1.length c2) (.int .i64 wt1) (.int .i64 fl1) (.int .i64 gm1) (.int .i64 gp1) (.int .i64 gl1)
      have hb9 := put11_below hk0 HZZ.out (.int .i64 f1) (.int .i64 t1) (.int .i64 i1) (.int .i64 p1) (.int .i64 q1) (.slice A2 l1.length c2) (.int .i64 wt1) (.int .i64 fl1) (.int .i64 gm1) (.int .i64 gp1) (.int .i64 gl1)
      have ho9 : Sl (put11 k6 ZB (.int .i64 f1) (.int .i64 t1) (.int .i64 i1) (.int .i64 p1) (.int .i64 q1) (.slice A2 l1.length c2) (.int .i64 wt1) (.int .i64 fl1) (.int .i64 gm1) (.int .i64 gp1) (.int .i64 gl1)) 1 A2 l1.length c2 (scells l1) := sl_st HO.out HZ.out ez_ns fun g hg => put11_other (w := k6) (b := ZB) hg (.int .i64 f1) (.int .i64 t1) (.int .i64 i1) (.int .i64 p1) (.int .i64 q1) (.slice A2 l1.length c2) (.int .i64 wt1) (.int .i64 fl1) (.int .i64 gm1) (.int .i64 gp1) (.int .i64 gl1)
      have hp9 : OwnR W (put11 k6 ZB (.int .i64 f1) (.int .i64 t1) (.int .i64 i1) (.int .i64 p1) (.int .i64 q1) (.slice A2 l1.length c2) (.int .i64 wt1) (.int .i64 fl1) (.int .i64 gm1) (.int .i64 gp1) (.int .i64 gl1)) (.slice B2 ps.length d2) ps := own_at HP.out HZ.out (by decide) fun g hg => put11_other (w := k6) (b := ZB) hg (.int .i64 f1) (.int .i64 t1) (.int .i64 i1) (.int .i64 p1) (.int .i64 q1) (.slice A2 l1.length c2) (.int .i64 wt1) (.int .i64 fl1) (.int .i64 gm1) (.int .i64 gp1) (.int .i64 gl1)
      clear hHeld hS HZ HO HP hk0
      go_wp2_with fail
      go_meet
      exact ⟨_, _, _, _, _, rfl, rfl, rfl, hz9, ho9, hp9, hb9⟩
  · skip
    have hbs : Below (World.heap k0).size k0 (k0.alloc (.cells #[.int .i64 0, .int .i64 0, .int .i64 0, .int .i64 0, .int .i64 0, .slice none 0 0, .int .i64 0, .int .i64 0, .int .i64 0, .int .i64 0, .int .i64 0] 82)) := (Below.refl _ _).alloc (Nat.le_refl _) _
    have HZ : Hid ((k0.alloc (.cells #[.int .i64 0, .int .i64 0, .int .i64 0, .int .i64 0, .int .i64 0, .slice none 0 0, .int .i64 0, .int .i64 0, .int .i64 0, .int .i64 0, .int .i64 0] 82)).heap[(World.heap k0).size]? = some (.cells #[.int .i64 0, .int .i64 0, .int .i64 0, .int .i64 0, .int .i64 0, .slice none 0 0, .int .i64 0, .int .i64 0, .int .i64 0, .int .i64 0, .int .i64 0] 82 (0, 0))) := hid (heap_alloc_new _ _)
    have HZZ : Hid (W.heap.size ≤ (World.heap k0).size) := hid hk0.size
    replace hk0 := hk0.trans (hbs.mono hk0.size)
    clear hbs
    simp only [gt3]
    go_simp
    refine hK.out _ _ ?_ (fun hHeld2 => ?_)
    focus
      exact hS _ hk0
    clear hHeld
    have hHeld := hHeld2
    clear hHeld2 hK K
    try simp only [gt6, Act.put]
    generalize (k0.alloc (.cells #[.int .i64 0, .int .i64 0, .int .i64 0, .int .i64 0, .int .i64 0, .slice none 0 0, .int .i64 0, .int .i64 0, .int .i64 0, .int .i64 0, .int .i64 0] 82)) = k2 at *
    generalize (World.heap k0).size = ZB at *
    refine wpAnyH_ready (rs := [2]) (by kernel_rfl) (by simp) ?_
    refine (AllReadyH.cons rfl (fun K hK => ?_) AllReadyH.nil)
    simp only [gt3]
    go_simp
    refine (HEND.out k2 hk0).mono ?_
    rintro qe k7 ⟨A1, c1, rfl, hs1, hb1⟩
    replace hk0 := hk0.trans (hb1.mono hk0.size)
    have HS1 := hid hs1
    have HZ9 := hid (keep0 HZ.out hb1)
    clear HZ
    have HZ := HZ9
    clear HZ9
    clear hs1 hb1
    go_wp2_with fail
    refine hK.out _ _ ?_ (fun hHeld2 => ?_)
    focus
      exact hS _ hk0
    clear hHeld
    have hHeld := hHeld2
    clear hHeld2 hK K
    try simp only [gt6, Act.put]
    refine wpAnyH_ready (rs := [8]) (by kernel_rfl) (by simp) ?_
    refine (AllReadyH.cons rfl (fun K hK => ?_) AllReadyH.nil)
    simp only [gt3]
    go_simp
    refine (HPUT.out A1 c1 k7 HS1.out).mono ?_
    rintro qe k8 ⟨A2, c2, B2, d2, rfl, ho2, hp2, hb2⟩
    have HO : Hid (Sl k8 1 A2 l1.length c2 (scells l1)) := hid ho2
    simp only [ec]
    have HP : Hid (OwnR W k8 (.slice B2 ps.length d2) ps) := hid (own_mono hp2 hk0.size)
    replace hk0 := hk0.trans (hb2.mono hk0.size)
    have HZ9 := hid (keep0 HZ.out hb2)
    clear HZ
    have HZ := HZ9
    clear HZ9
    clear ho2 hp2 hb2
    go_wp2_with fail
    refine hK.out _ _ ?_ (fun hHeld2 => ?_)
    focus
      exact hS _ hk0
    clear hHeld
    have hHeld := hHeld2
    clear hHeld2 hK K
    try simp only [gt6, Act.put]
    refine tkA 9 ?_ rfl ?_ (by assumption) ?_; rotate_left; focus (intro U hU; (try dsimp only at hU); go_simp; try (with_reducible rfl))
    simp only [gt6, Act.put]
    refine tkA 10 ?_ rfl ?_ (by assumption) ?_; rotate_left; focus (intro U hU; (try dsimp only at hU); go_simp; try (with_reducible rfl))
    simp only [gt6, Act.put]
    refine tkA 11 ?_ rfl ?_ (by assumption) ?_; rotate_left; focus (intro U hU; (try dsimp only at hU); go_simp; try (with_reducible rfl))
    simp only [gt6, Act.put]
    refine tkA 12 ?_ rfl ?_ (by assumption) ?_; rotate_left; focus (intro U hU; (try dsimp only at hU); go_simp; try (with_reducible rfl))
    simp only [gt6, Act.put]
    refine wpAnyH_ready (rs := [14]) (by kernel_rfl) (by simp) ?_
    refine (AllReadyH.cons rfl (fun K hK => ?_) AllReadyH.nil)
    obtain ⟨⟨d0, d1, d2, d3, d4, d5, d6, d7, d8, d9, d10⟩, ⟨g0, g1, g2, g3, g4, g5, g6, g7, g8, g9, g10⟩⟩ := eleven_cells HZ.out
    simp only [gt3]
    go_simp
    clear d0 d1 d2 d3 d4 d5 d6 d7 d8 d9 d10 g0 g1 g2 g3 g4 g5 g6 g7 g8 g9 g10
    refine hK.out _ _ ?_ (fun hHeld2 => ?_)
    focus
      exact hS _ (put11_below hk0 HZZ.out (.int .i64 f1) (.int .i64 t1) (.int .i64 i1) (.int .i64 p1) (.int .i64 q1) (.slice A2 l1.length c2) (.int .i64 wt1) (.int .i64 fl1) (.int .i64 gm1) (.int .i64 gp1) (.int .i64 gl1))
    clear hHeld
    have hHeld := hHeld2
    clear hHeld2 hK K
    try simp only [gt6, Act.put]
    refine tkA 15 ?_ rfl ?_ (by assumption) ?_; rotate_left; focus (intro U hU; (try dsimp only at hU); go_simp; try (with_reducible rfl))
    simp only [gt6, Act.put]
    refine tkA 16 ?_ rfl ?_ (by assumption) ?_; rotate_left; focus (intro U hU; (try dsimp only at hU); go_simp; try (with_reducible rfl))
    simp only [gt6, Act.put]
    refine wpAnyH_done (by kernel_rfl) ?_ _
    have hz9 := put11_heap HZ.out (.int .i64 f1) (.int .i64 t1) (.int .i64 i1) (.int .i64 p1) (.int .i64 q1) (.slice A2 l1.length c2) (.int .i64 wt1) (.int .i64 fl1) (.int .i64 gm1) (.int .i64 gp1) (.int .i64 gl1)
    have hb9 := put11_below hk0 HZZ.out (.int .i64 f1) (.int .i64 t1) (.int .i64 i1) (.int .i64 p1) (.int .i64 q1) (.slice A2 l1.length c2) (.int .i64 wt1) (.int .i64 fl1) (.int .i64 gm1) (.int .i64 gp1) (.int .i64 gl1)
    have ho9 : Sl (put11 k8 ZB (.int .i64 f1) (.int .i64 t1) (.int .i64 i1) (.int .i64 p1) (.int .i64 q1) (.slice A2 l1.length c2) (.int .i64 wt1) (.int .i64 fl1) (.int .i64 gm1) (.int .i64 gp1) (.int .i64 gl1)) 1 A2 l1.length c2 (scells l1) := sl_st HO.out HZ.out ez_ns fun g hg => put11_other (w := k8) (b := ZB) hg (.int .i64 f1) (.int .i64 t1) (.int .i64 i1) (.int .i64 p1) (.int .i64 q1) (.slice A2 l1.length c2) (.int .i64 wt1) (.int .i64 fl1) (.int .i64 gm1) (.int .i64 gp1) (.int .i64 gl1)
    have hp9 : OwnR W (put11 k8 ZB (.int .i64 f1) (.int .i64 t1) (.int .i64 i1) (.int .i64 p1) (.int .i64 q1) (.slice A2 l1.length c2) (.int .i64 wt1) (.int .i64 fl1) (.int .i64 gm1) (.int .i64 gp1) (.int .i64 gl1)) (.slice B2 ps.length d2) ps := own_at HP.out HZ.out (by decide) fun g hg => put11_other (w := k8) (b := ZB) hg (.int .i64 f1) (.int .i64 t1) (.int .i64 i1) (.int .i64 p1) (.int .i64 q1) (.slice A2 l1.length c2) (.int .i64 wt1) (.int .i64 fl1) (.int .i64 gm1) (.int .i64 gp1) (.int .i64 gl1)
    clear hHeld hS HZ HO HP hk0
    go_wp2_with fail
    go_meet
    exact ⟨_, _, _, _, _, rfl, rfl, rfl, hz9, ho9, hp9, hb9⟩
end Go.Proofs.YtdphdodjidbngaaGreat

namespace Go.Proofs.YtdphdodjidbngaaGreat
open Go.RowKit Go.Sort
set_option linter.unusedVariables false
set_option linter.unusedSimpArgs false

set_option maxRecDepth 20000 in
theorem r27put_any {base g : Nat} {nd inc bd : Int} {L : List Ev} (k : Int) (y : List UInt8) (W : World) (h : P7M W base g nd inc bd L) (hR : L.Pairwise (fun a b => a.t < b.t)) (hX : L.length ≤ 1000) (hbW : base ≤ W.heap.size) (hbg : base ≤ g) (hG : ∀ e ∈ L, GdE e) (hy : y.length ≤ maxLen) :
    Calls Tryz.prog 8 #[.pointer (some ⟨g, 0, none⟩), .int .i64 k, .string (str y)] W (RPutR W base g nd inc bd (rputV nd inc bd L k y)) := by
  by_cases h0 : 0 ≤ k ∧ k < 72 ∧ k ≠ nd
  · exact rput_in k y W h hR hX hbW hbg hG h0.1 h0.2.1 h0.2.2 hy
  have HV : Hid (rputV nd inc bd L k y = (L, [], 1)) := hid (by
    rw [rputV, if_pos]
    by_cases hk : k = nd
    · exact .inr hk
    · left
      simp only [nodeB]
      rcases (by omega : k < 0 ∨ 72 ≤ k) with h1 | h1
      · simp [show ¬ 0 ≤ k by omega]
      · simp [show ¬ k < 72 by omega])
  have HH := hid (R7.keep h)
  obtain ⟨hlt, c0, c1, c2⟩ := h.at
  generalize rputV nd inc bd L k y = rv at *
  generalize str y = sy at *
  clear h hR hX hbW hbg hG hy hlt c1 c2
  by_cases h1 : k < 0
  · have e1 : decide (k < 0) = true := decide_eq_true h1
    clear h0
    go_enter Tryz.func8, Tryz.ntmps8
    go_wp2
    refine bodyPost_ret (v := .tuple #[.slice none 0 0, .int .i64 1]) (by simp [results, Tryz.results8, go_sem]) rfl ⟨none, 0, ?_, ?_, ?_⟩
    · rw [HV.out]; rfl
    · rw [HV.out]; exact World.ownsRow_nil _ _ _ _
    · rw [HV.out]; exact HH.out
  · by_cases h2 : 71 < k
    · have e1 : decide (k < 0) = false := decide_eq_false h1
      have e2 : decide (71 < k) = true := decide_eq_true h2
      clear h0
      go_enter Tryz.func8, Tryz.ntmps8
      go_wp2
      refine bodyPost_ret (v := .tuple #[.slice none 0 0, .int .i64 1]) (by simp [results, Tryz.results8, go_sem]) rfl ⟨none, 0, ?_, ?_, ?_⟩
      · rw [HV.out]; rfl
      · rw [HV.out]; exact World.ownsRow_nil _ _ _ _
      · rw [HV.out]; exact HH.out
    · obtain rfl : k = nd := by omega
      have e1 : decide (k < 0) = false := decide_eq_false h1
      have e2 : decide (71 < k) = false := decide_eq_false h2
      have e3 : (k == k) = true := by simp
      clear h0
      go_enter Tryz.func8, Tryz.ntmps8
      go_wp2
      refine bodyPost_ret (v := .tuple #[.slice none 0 0, .int .i64 1]) (by simp [results, Tryz.results8, go_sem]) rfl ⟨none, 0, ?_, ?_, ?_⟩
      · rw [HV.out]; rfl
      · rw [HV.out]; exact World.ownsRow_nil _ _ _ _
      · rw [HV.out]; exact HH.out
end Go.Proofs.YtdphdodjidbngaaGreat

