/- port.Put: contract. -/
import Derived.Test.YtdphdodjidbngaaGreatQGt
import Derived.Test.YtdphdodjidbngaaGreatPtX
import Derived.Test.YtdphdodjidbngaaGreatQPtD
import Derived.Test.YtdphdodjidbngaaGreatLkQ
import Derived.Deep.CutRange
namespace Go.Proofs.YtdphdodjidbngaaGreat
open Go.RowKit Go.Sort
set_option linter.unusedVariables false
set_option linter.unusedSimpArgs false

/-- An end whose numbers and texts are in range. -/
def GdE (e : Ev) : Prop := e.o.l.length ≤ 999 ∧ 0 ≤ e.l ∧ e.l ≤ 9223372036854775807 ∧ -9223372036854775808 ≤ e.o.q ∧ e.o.q < 9223372036854775807 ∧ ∀ y ∈ e.o.l, y.length ≤ 1000
theorem gdE_new (f t i : Int) : GdE (newE f t i) := ⟨by simp [newE], by simp [newE], by simp [newE], by simp [newE], by simp [newE], fun y hy => by simp [newE] at hy⟩
theorem gdE_end {L : List Ev} (h : ∀ e ∈ L, GdE e) (nd inc k : Int) : GdE (endP nd inc L k) := by
  unfold endP
  cases hf : L.find? (fun e => e.t == k) with
  | none => exact gdE_new _ _ _
  | some e => exact h e (List.mem_of_find?_eq_some hf)
/-- What Put answers: the ends, what is sent, the error. -/
def pputV (nd inc bd : Int) (L : List Ev) (k : Int) (y : List UInt8) : List Ev × List (List UInt8) × Int :=
  if nodeB k = false ∨ k = nd then (L, [], 1)
  else if (putE (endP nd inc L k) bd y).2 = 0 then (keepL (putE (endP nd inc L k) bd y).1.1 L, (putE (endP nd inc L k) bd y).1.2.map pbL, 0) else (L, [], (putE (endP nd inc L k) bd y).2)
/-- What a call at a port leaves: texts and an error. -/
def PPutR (W : World) (P M : Nat) (nd inc bd : Int) (L : List Ev) (r : List Ev × List (List UInt8) × Int) (x : Ending) (w' : World) : Prop :=
  ∃ A c, x = .returned (.tuple #[.slice A r.2.1.length c, .int .i64 r.2.2]) ∧ w'.ownsRow W.heap.size 9 1 (.slice A r.2.1.length c) r.2.1.length (scells r.2.1) ∧ PortAt w' P M nd inc bd r.1 ∧ Only M W w' ∧ ∀ gg, gg < W.heap.size → PFar W M L gg → PFar w' M r.1 gg
theorem putE_t (e : Ev) (bd : Int) (y : List UInt8) : (putE e bd y).1.1.t = e.t := by
  unfold putE setO
  split <;> rfl
theorem dataV_b (e : Ev) (b : Bool) (h : ∀ y ∈ e.o.l, y.length ≤ 1000) : ∀ x ∈ dataV e b, x.b.length ≤ 1000 := by
  intro x hx
  unfold dataV at hx
  cases b with
  | false => simp at hx
  | true =>
    cases hl : e.o.l with
    | nil => simp [hl] at hx
    | cons y ys =>
      simp only [hl, if_true, List.mem_singleton] at hx
      subst hx
      exact h y (by rw [hl]; exact List.mem_cons_self ..)
theorem putV_mem (o : Ov) (k : Int) (y x : List UInt8) (h : x ∈ (putV o k y).1.1.l) : x ∈ o.l ∨ x = y := by
  unfold putV at h
  split at h
  · exact .inl h
  · split at h
    · exact .inl h
    · split at h
      · exact .inl h
      · split at h
        · simp only [List.mem_singleton] at h
          exact .inr h
        · simp only [List.mem_append, List.mem_singleton] at h
          exact h
theorem putE_b (e : Ev) (bd : Int) (y : List UInt8) (h : ∀ y ∈ e.o.l, y.length ≤ 1000) : ∀ x ∈ (putE e bd y).1.2, x.b.length ≤ 1000 := by
  unfold putE
  split
  · intro x hx
    simp at hx
  · rename_i h1
    refine dataV_b _ _ fun z hz => ?_
    simp only [setO] at hz
    rcases putV_mem _ _ _ _ hz with h9 | rfl
    · exact h z h9
    · omega
theorem putE_len (e : Ev) (bd : Int) (y : List UInt8) : (putE e bd y).1.2.length ≤ 1000 := by
  unfold putE
  split
  · simp
  · exact Nat.le_trans (dataV_len _ _) (by omega)
theorem own_map {w w' : World} {base e s n g : Nat} {v : Value} {xs : List Value} {es : Array MapEntry} {clock : Nat} (h : w.ownsRow base e s v n xs) (hg : w.heap[g]? = some (.map es clock)) (hk : ∀ b, b ≠ g → b < w.heap.size → w'.heap[b]? = w.heap[b]?) : w'.ownsRow base e s v n xs := by
  refine ⟨h.1, ?_⟩
  rcases h.2 with h2 | ⟨b, cap, cur, h3, h4, h5, h6⟩
  · exact .inl h2
  · refine .inr ⟨b, cap, cur, h3, h4, (hk b ?_ (lt_of_block h5)).trans h5, h6⟩
    rintro rfl
    rw [hg] at h5
    cases h5

set_option maxRecDepth 20000 in
set_option maxHeartbeats 8000000 in
theorem pput_in {P M : Nat} {nd inc bd : Int} {L : List Ev} (k : Int) (y : List UInt8) (W : World) (h : PortAt W P M nd inc bd L) (hG : ∀ e ∈ L, GdE e) (h0 : 0 ≤ k) (h1 : k < 72) (hkn : k ≠ nd) (hy : y.length ≤ maxLen) :
    Calls Tryz.prog 7 #[.pointer (some ⟨P, 0, none⟩), .int .i64 k, .string (str y)] W (PPutR W P M nd inc bd L (pputV nd inc bd L k y)) := by
  have hNB : nodeB k = true := by simp [nodeB, h0, h1]
  have HV : Hid (pputV nd inc bd L k y = if (putE (endP nd inc L k) bd y).2 = 0 then (keepL (putE (endP nd inc L k) bd y).1.1 L, (putE (endP nd inc L k) bd y).1.2.map pbL, 0) else (L, [], (putE (endP nd inc L k) bd y).2)) := hid (by rw [pputV, if_neg (by simp [hNB, hkn])])
  have hGE := gdE_end hG nd inc k
  have HN := hid (fun u => pnode_any k u)
  rw [hNB] at HN
  have HEND := hid (fun U (hU : Below W.heap.size W U) => pend_any k U (h.below hU) h0 h1)
  have HPUT := hid (fun A c U hs => lput_any (endP nd inc L k) bd y A c U hs hGE.1 hy)
  have hPT : (putE (endP nd inc L k) bd y).1.1.t = k := (putE_t _ _ _).trans (endP_t _ _ _ _)
  have hPB := putE_b (endP nd inc L k) bd y hGE.2.2.2.2.2
  have HPL : Hid ((putE (endP nd inc L k) bd y).1.2.length ≤ 1000) := hid (putE_len _ _ _)
  have HW := hid h
  have HH0 := hid h0
  have HH1 := hid h1
  have hkn2 : (k == nd) = false := by simpa using hkn
  obtain ⟨c0, c1, c2, c3⟩ := h.cells
  generalize pputV nd inc bd L k y = rv at *
  generalize putE (endP nd inc L k) bd y = pv at *
  generalize endP nd inc L k = e0 at *
  obtain ⟨⟨⟨f1, t1, i1, ⟨p1, q1, l1, wt1, fl1⟩, gm1, gp1, gl1⟩, ps⟩, er⟩ := pv
  obtain ⟨f, t, i, ⟨p, q, l, wt, fl⟩, gm, gp, gl⟩ := e0
  simp only [EndPR, ec] at HPUT HEND HV hPT hPB HPL
  subst hPT
  have HPB := hid hPB
  generalize str y = sy at *
  clear hPB hGE hG hy h hNB h0 h1 hkn
  go_enter Tryz.func7, Tryz.ntmps7
  go_upto_region 3 with (go_at_call 22; refine (HN.out _).mono ?_; rintro e w' ⟨rfl, rfl⟩)
  clear c0 c1 c3 hkn2 HN
  go_cut [8, 9, 10] from 26 to 38 (fun v8 v9 v10 wx => ∃ Z A2 c2 B d, v8 = .pointer (some ⟨Z, 0, none⟩) ∧ v9 = .slice B ps.length d ∧ v10 = .int .i64 er ∧ wx.heap[Z]? = some (.cells #[.int .i64 f1, .int .i64 t1, .int .i64 i1, .int .i64 p1, .int .i64 q1, .slice A2 l1.length c2, .int .i64 wt1, .int .i64 fl1, .int .i64 gm1, .int .i64 gp1, .int .i64 gl1] 71 (0, 0)) ∧ wx.ownsRow W.heap.size 9 1 (.slice A2 l1.length c2) l1.length (scells l1) ∧ OwnP W wx (.slice B ps.length d) ps ∧ Below W.heap.size W wx)
  case rest =>
    obtain ⟨Z, A2, c2, B, d, rfl, rfl, rfl, hz, ho, hp, hb⟩ := hcut
    clear HEND HPUT
    have HB := hid hb
    have HZ := hid hz
    have HO := hid ho
    have HP := hid hp
    clear hb hz ho hp
    have HPA := hid (HW.out.below HB.out)
    by_cases he : er = 0
    · subst he
      have HVV := hid (HV.out.trans (if_pos rfl))
      go_upto_region 6 with (fail)
      have hk0 : Below wc.heap.size wc wc.drew := below_drew (Below.refl _ _)
      have HPB0 := hid (HPA.out.below hk0)
      have hblk := HPB0.out.blk
      obtain ⟨w8, hrun, hE8, hO8⟩ := pends_put HPB0.out.ends ⟨f1, t1, i1, ⟨p1, q1, l1, wt1, fl1⟩, gm1, gp1, gl1⟩ A2 c2 HH0.out HH1.out (sl_own (own_keep HO.out hk0)) Tryz.underlying58
      have hz0 := keep0 HZ.out hk0
      obtain ⟨es, clock, hmb⟩ := HPB0.out.ends.block
      have hPM := HPB0.out.ne
      have hZM : Z ≠ M := by
        rintro rfl
        rw [hmb] at hz0
        cases hz0
      have hS : ∀ U : World, U.heap[P]? = some (.cells #[.int .i64 nd, .int .i64 inc, .int .i64 bd, .map (some M)] 60 (0, 0)) → U.heap[Z]? = some (.cells #[.int .i64 f1, .int .i64 t1, .int .i64 i1, .int .i64 p1, .int .i64 q1, .slice A2 l1.length c2, .int .i64 wt1, .int .i64 fl1, .int .i64 gm1, .int .i64 gp1, .int .i64 gl1] 71 (0, 0)) → (U.cell? ⟨P, 3, none⟩ = some (.map (some M)) ∧ (U.cell? ⟨Z, 0, none⟩ = some (.int .i64 f1) ∧ U.cell? ⟨Z, 1, none⟩ = some (.int .i64 t1) ∧ U.cell? ⟨Z, 2, none⟩ = some (.int .i64 i1) ∧ U.cell? ⟨Z, 3, none⟩ = some (.int .i64 p1) ∧ U.cell? ⟨Z, 4, none⟩ = some (.int .i64 q1) ∧ U.cell? ⟨Z, 5, none⟩ = some (.slice A2 l1.length c2) ∧ U.cell? ⟨Z, 6, none⟩ = some (.int .i64 wt1) ∧ U.cell? ⟨Z, 7, none⟩ = some (.int .i64 fl1) ∧ U.cell? ⟨Z, 8, none⟩ = some (.int .i64 gm1) ∧ U.cell? ⟨Z, 9, none⟩ = some (.int .i64 gp1) ∧ U.cell? ⟨Z, 10, none⟩ = some (.int .i64 gl1))) := fun U h1 h2 => ⟨by rw [cell_of_row U P 3 _ _ _ h1]; rfl, (eleven_cells h2).1⟩
      have HP8 := hid (own_map (own_keep HP.out hk0) hmb hO8.keep)
      have HF8 : Hid (∀ gg, gg < W.heap.size → PFar W M L gg → PFar w8 M (keepL ⟨f1, t1, i1, ⟨p1, q1, l1, wt1, fl1⟩, gm1, gp1, gl1⟩ L) gg) := hid (by
        intro gg hgg hf
        refine pfar_put HPB0.out.ends (hf.blk (HB.out.block M HW.out.ends.lt)) ⟨f1, t1, i1, ⟨p1, q1, l1, wt1, fl1⟩, gm1, gp1, gl1⟩ A2 c2 HH0.out HH1.out (sl_own (own_keep HO.out hk0)) Tryz.underlying58 hrun ?_
        intro _ b2 off2 hA2
        have h9 := own_blk_ge HO.out b2 (by rw [hA2]; rfl)
        omega)
      have HPA8 : Hid (PortAt w8 P M nd inc bd (keepL ⟨f1, t1, i1, ⟨p1, q1, l1, wt1, fl1⟩, gm1, gp1, gl1⟩ L)) := hid ⟨(hO8.keep P hPM (lt_of_block hblk)).trans hblk, hE8⟩
      have HO8 := hid (((Only.of_below (B := M) HB.out).trans (Only.of_below hk0)).trans hO8)
      have hz8 := (hO8.keep Z hZM (lt_of_block hz0)).trans hz0
      have hblk8 := HPA8.out.blk
      simp only [ec] at hrun
      have HE8 := hid (encoded_any B ps.length d ps w8 (sl_own HP8.out) HPL.out HPB.out)
      clear HPB0 HPA HP HO hE8 hO8 hPM hZM hmb HZ HB
      refine wp_region_held_drew (S := fun U => U.cell? ⟨P, 3, none⟩ = some (.map (some M)) ∧ (U.cell? ⟨Z, 0, none⟩ = some (.int .i64 f1) ∧ U.cell? ⟨Z, 1, none⟩ = some (.int .i64 t1) ∧ U.cell? ⟨Z, 2, none⟩ = some (.int .i64 i1) ∧ U.cell? ⟨Z, 3, none⟩ = some (.int .i64 p1) ∧ U.cell? ⟨Z, 4, none⟩ = some (.int .i64 q1) ∧ U.cell? ⟨Z, 5, none⟩ = some (.slice A2 l1.length c2) ∧ U.cell? ⟨Z, 6, none⟩ = some (.int .i64 wt1) ∧ U.cell? ⟨Z, 7, none⟩ = some (.int .i64 fl1) ∧ U.cell? ⟨Z, 8, none⟩ = some (.int .i64 gm1) ∧ U.cell? ⟨Z, 9, none⟩ = some (.int .i64 gp1) ∧ U.cell? ⟨Z, 10, none⟩ = some (.int .i64 gl1))) (by kernel_rfl) (hS _ hblk hz0) (fun hHeld => ?_)
      clear hk0
      generalize wc.drew = k0 at *
      refine tkA 0 ?_ rfl ?_ (by assumption) ?_; rotate_left; focus (intro U hU; (try dsimp only at hU); go_simp; try (with_reducible rfl))
      simp only [gt6, Act.put]
      refine tkA 1 ?_ rfl ?_ (by assumption) ?_; rotate_left; focus (intro U hU; (try dsimp only at hU); go_simp; try (with_reducible rfl))
      simp only [gt6, Act.put]
      refine tkA 2 ?_ rfl ?_ (by assumption) ?_; rotate_left; focus (intro U hU; (try dsimp only at hU); go_simp; try (with_reducible rfl))
      simp only [gt6, Act.put]
      refine tkA 3 ?_ rfl ?_ (by assumption) ?_; rotate_left; focus (intro U hU; (try dsimp only at hU); go_simp; try (with_reducible rfl))
      simp only [gt6, Act.put]
      refine tkA 4 ?_ rfl ?_ (by assumption) ?_; rotate_left; focus (intro U hU; (try dsimp only at hU); go_simp; try (with_reducible rfl))
      simp only [gt6, Act.put]
      refine tkA 5 ?_ rfl ?_ (by assumption) ?_; rotate_left; focus (intro U hU; (try dsimp only at hU); go_simp; try (with_reducible rfl))
      simp only [gt6, Act.put]
      refine wpAnyH_ready (rs := [6]) (by kernel_rfl) (by simp) ?_
      refine AllReadyH.cons rfl (fun K hK => ?_) AllReadyH.nil
      simp only [gt3]
      go_simp
      refine hK.out _ _ ?_ (fun hHeld2 => ?_)
      focus
        exact hS _ hblk8 hz8
      clear hHeld
      have hHeld := hHeld2
      clear hHeld2 hK K
      try simp only [gt6, Act.put]
      refine wpAnyH_done (by kernel_rfl) ?_ _
      clear hHeld hS hblk hz0 hz8 hblk8 hrun
      go_wp2_with fail
      refine HE8.out.mono ?_
      rintro qe w9 ⟨v, rfl, ho9, hb9⟩
      obtain ⟨A9, c9, rfl, -⟩ := Sl.of_own ho9
      have HR9 := hid (own_mono ho9 HO8.out.size)
      have HPA9 := hid (HPA8.out.below hb9)
      have HO9 := hid (HO8.out.trans (Only.of_below hb9))
      have HF9 := hid (fun gg (h1 : gg < W.heap.size) (h2 : PFar W M L gg) => (HF8.out gg h1 h2).blk (hb9.block M HPA8.out.ends.lt))
      clear ho9 hb9 HE8 HPA8 HO8 HF8
      go_wp2
      refine bodyPost_ret (v := .tuple #[.slice A9 ps.length c9, .int .i64 0]) (by simp [results, Tryz.results7, go_sem]) rfl ⟨A9, c9, ?_, ?_, ?_, HO9.out, fun gg h1 h2 => by rw [HVV.out]; exact HF9.out gg h1 h2⟩
      · rw [HVV.out]
        simp only [List.length_map]
      · rw [HVV.out]
        simp only [List.length_map]
        exact HR9.out
      · rw [HVV.out]
        exact HPA9.out
    · have HVV := hid (HV.out.trans (if_neg he))
      have he2 : (er == 0) = false := by simpa using he
      clear he
      go_wp2
      refine bodyPost_ret (v := .tuple #[.slice none 0 0, .int .i64 er]) (by simp [results, Tryz.results7, go_sem]) rfl ⟨none, 0, ?_, ?_, ?_, Only.of_below HB.out, fun gg h1 h2 => by rw [HVV.out]; exact h2.blk (HB.out.block M HW.out.ends.lt)⟩
      · rw [HVV.out]
        rfl
      · rw [HVV.out]
        exact World.ownsRow_nil _ _ _ _
      · rw [HVV.out]
        exact HPA.out
  have hS : ∀ U, Below W.heap.size W U → (U.cell? ⟨P, 2, none⟩ = some (.int .i64 bd)) := fun U hU => (hU.cell (lt_of_block HW.out.blk)).trans c2
  have hk0 : Below W.heap.size W W.drew := below_drew (Below.refl _ _)
  refine wp_region_held_drew (S := fun U => U.cell? ⟨P, 2, none⟩ = some (.int .i64 bd)) (by kernel_rfl) (hS _ hk0) (fun hHeld => ?_)
  generalize W.drew = k0 at *
  refine tkA 0 ?_ rfl ?_ (by assumption) ?_; rotate_left; focus (intro U hU; (try dsimp only at hU); go_simp; try (with_reducible rfl))
  simp only [gt6, Act.put]
  refine tkA 1 ?_ rfl ?_ (by assumption) ?_; rotate_left; focus (intro U hU; (try dsimp only at hU); go_simp; try (with_reducible rfl))
  simp only [gt6, Act.put]
  refine tkA 3 ?_ rfl ?_ (by assumption) ?_; rotate_left; focus (intro U hU; (try dsimp only at hU); go_simp; try (with_reducible rfl))
  simp only [gt6, Act.put]
  refine tkA 4 ?_ rfl ?_ (by assumption) ?_; rotate_left; focus (intro U hU; (try dsimp only at hU); go_simp; try (with_reducible rfl))
  simp only [gt6, Act.put]
  refine tkA 5 ?_ rfl ?_ (by assumption) ?_; rotate_left; focus (intro U hU; (try dsimp only at hU); go_simp; try (with_reducible rfl))
  simp only [gt6, Act.put]
  refine tkA 6 ?_ rfl ?_ (by assumption) ?_; rotate_left; focus (intro U hU; (try dsimp only at hU); go_simp; try (with_reducible rfl))
  simp only [gt6, Act.put]
  refine tkA 7 ?_ rfl ?_ (by assumption) ?_; rotate_left; focus (intro U hU; (try dsimp only at hU); go_simp; try (with_reducible rfl))
  simp only [gt6, Act.put]
  refine wpAnyH_ready (rs := [2, 13]) (by kernel_rfl) (by simp) ?_
  refine (AllReadyH.cons rfl (fun K hK => ?_) (AllReadyH.cons rfl (fun K hK => ?_) AllReadyH.nil))
  · skip
    simp only [gt3]
    go_simp
    refine (HEND.out k0 hk0).mono ?_
    rintro qe k1 ⟨A1, c1, rfl, hs1, hb1⟩
    replace hk0 := hk0.trans (hb1.mono hk0.size)
    have HS1 := hid hs1
    clear hs1 hb1
    go_wp2_with fail
    refine hK.out _ _ ?_ (fun hHeld2 => ?_)
    focus
      exact hS _ hk0
    clear hHeld
    have hHeld := hHeld2
    clear hHeld2 hK K
    try simp only [gt6, Act.put]
    refine wpAnyH_ready (rs := [8, 13]) (by kernel_rfl) (by simp) ?_
    refine (AllReadyH.cons rfl (fun K hK => ?_) (AllReadyH.cons rfl (fun K hK => ?_) AllReadyH.nil))
    · skip
      simp only [gt3]
      go_simp
      refine (HPUT.out A1 c1 k1 HS1.out).mono ?_
      rintro qe k3 ⟨A2, c2, B2, d2, rfl, ho2, hp2, hb2⟩
      have HO : Hid (k3.ownsRow W.heap.size 9 1 (.slice A2 l1.length c2) l1.length (scells l1)) := hid (own_mono ho2 hk0.size)
      simp only [ec]
      have HP : Hid (OwnP W k3 (.slice B2 ps.length d2) ps) := hid (own_mono hp2 hk0.size)
      replace hk0 := hk0.trans (hb2.mono hk0.size)
      clear ho2 hp2 hb2
      go_wp2_with fail
      refine hK.out _ _ ?_ (fun hHeld2 => ?_)
      focus
        exact hS _ hk0
      clear hHeld
      have hHeld := hHeld2
      clear hHeld2 hK K
      try simp only [gt6, Act.put]
      refine tkA 9 ?_ rfl ?_ (by assumption) ?_; rotate_left; focus (intro U hU; (try dsimp only at hU); go_simp; try (with_reducible rfl))
      simp only [gt6, Act.put]
      refine tkA 10 ?_ rfl ?_ (by assumption) ?_; rotate_left; focus (intro U hU; (try dsimp only at hU); go_simp; try (with_reducible rfl))
      simp only [gt6, Act.put]
      refine tkA 11 ?_ rfl ?_ (by assumption) ?_; rotate_left; focus (intro U hU; (try dsimp only at hU); go_simp; try (with_reducible rfl))
      simp only [gt6, Act.put]
      refine tkA 12 ?_ rfl ?_ (by assumption) ?_; rotate_left; focus (intro U hU; (try dsimp only at hU); go_simp; try (with_reducible rfl))
      simp only [gt6, Act.put]
      refine wpAnyH_ready (rs := [13]) (by kernel_rfl) (by simp) ?_
      refine (AllReadyH.cons rfl (fun K hK => ?_) AllReadyH.nil)
      have hbs : Below (World.heap k3).size k3 (k3.alloc (.cells #[.int .i64 0, .int .i64 0, .int .i64 0, .int .i64 0, .int .i64 0, .slice none 0 0, .int .i64 0, .int .i64 0, .int .i64 0, .int .i64 0, .int .i64 0] 71)) := (Below.refl _ _).alloc (Nat.le_refl _) _
      have HZ : Hid ((k3.alloc (.cells #[.int .i64 0, .int .i64 0, .int .i64 0, .int .i64 0, .int .i64 0, .slice none 0 0, .int .i64 0, .int .i64 0, .int .i64 0, .int .i64 0, .int .i64 0] 71)).heap[(World.heap k3).size]? = some (.cells #[.int .i64 0, .int .i64 0, .int .i64 0, .int .i64 0, .int .i64 0, .slice none 0 0, .int .i64 0, .int .i64 0, .int .i64 0, .int .i64 0, .int .i64 0] 71 (0, 0))) := hid (heap_alloc_new _ _)
      have HZZ : Hid (W.heap.size ≤ (World.heap k3).size) := hid hk0.size
      replace hk0 := hk0.trans (hbs.mono hk0.size)
      have HO9 := hid (own_keep HO.out hbs)
      have HP9 : Hid (OwnP W (k3.alloc (.cells #[.int .i64 0, .int .i64 0, .int .i64 0, .int .i64 0, .int .i64 0, .slice none 0 0, .int .i64 0, .int .i64 0, .int .i64 0, .int .i64 0, .int .i64 0] 71)) (.slice B2 ps.length d2) ps) := hid (own_keep HP.out hbs)
      clear HO HP
      have HO := HO9
      have HP := HP9
      clear HO9 HP9
      clear hbs
      simp only [gt3]
      go_simp
      refine hK.out _ _ ?_ (fun hHeld2 => ?_)
      focus
        exact hS _ hk0
      clear hHeld
      have hHeld := hHeld2
      clear hHeld2 hK K
      try simp only [gt6, Act.put]
      generalize (k3.alloc (.cells #[.int .i64 0, .int .i64 0, .int .i64 0, .int .i64 0, .int .i64 0, .slice none 0 0, .int .i64 0, .int .i64 0, .int .i64 0, .int .i64 0, .int .i64 0] 71)) = k5 at *
      generalize (World.heap k3).size = ZB at *
      refine wpAnyH_ready (rs := [14]) (by kernel_rfl) (by simp) ?_
      refine (AllReadyH.cons rfl (fun K hK => ?_) AllReadyH.nil)
      obtain ⟨⟨d0, d1, d2, d3, d4, d5, d6, d7, d8, d9, d10⟩, ⟨g0, g1, g2, g3, g4, g5, g6, g7, g8, g9, g10⟩⟩ := eleven_cells HZ.out
      simp only [gt3]
      go_simp
      clear d0 d1 d2 d3 d4 d5 d6 d7 d8 d9 d10 g0 g1 g2 g3 g4 g5 g6 g7 g8 g9 g10
      refine hK.out _ _ ?_ (fun hHeld2 => ?_)
      focus
        exact hS _ (put11_below hk0 HZZ.out (.int .i64 f1) (.int .i64 t1) (.int .i64 i1) (.int .i64 p1) (.int .i64 q1) (.slice A2 l1.length c2) (.int .i64 wt1) (.int .i64 fl1) (.int .i64 gm1) (.int .i64 gp1) (.int .i64 gl1))
      clear hHeld
      have hHeld := hHeld2
      clear hHeld2 hK K
      try simp only [gt6, Act.put]
      refine tkA 15 ?_ rfl ?_ (by assumption) ?_; rotate_left; focus (intro U hU; (try dsimp only at hU); go_simp; try (with_reducible rfl))
      simp only [gt6, Act.put]
      refine tkA 16 ?_ rfl ?_ (by assumption) ?_; rotate_left; focus (intro U hU; (try dsimp only at hU); go_simp; try (with_reducible rfl))
      simp only [gt6, Act.put]
      refine wpAnyH_done (by kernel_rfl) ?_ _
      have hz9 := put11_heap HZ.out (.int .i64 f1) (.int .i64 t1) (.int .i64 i1) (.int .i64 p1) (.int .i64 q1) (.slice A2 l1.length c2) (.int .i64 wt1) (.int .i64 fl1) (.int .i64 gm1) (.int .i64 gp1) (.int .i64 gl1)
      have hb9 := put11_below hk0 HZZ.out (.int .i64 f1) (.int .i64 t1) (.int .i64 i1) (.int .i64 p1) (.int .i64 q1) (.slice A2 l1.length c2) (.int .i64 wt1) (.int .i64 fl1) (.int .i64 gm1) (.int .i64 gp1) (.int .i64 gl1)
      have ho9 := own_at HO.out HZ.out (by decide) fun g hg => put11_other (w := k5) (b := ZB) hg (.int .i64 f1) (.int .i64 t1) (.int .i64 i1) (.int .i64 p1) (.int .i64 q1) (.slice A2 l1.length c2) (.int .i64 wt1) (.int .i64 fl1) (.int .i64 gm1) (.int .i64 gp1) (.int .i64 gl1)
      have hp9 : OwnP W (put11 k5 ZB (.int .i64 f1) (.int .i64 t1) (.int .i64 i1) (.int .i64 p1) (.int .i64 q1) (.slice A2 l1.length c2) (.int .i64 wt1) (.int .i64 fl1) (.int .i64 gm1) (.int .i64 gp1) (.int .i64 gl1)) (.slice B2 ps.length d2) ps := own_at HP.out HZ.out (by decide) fun g hg => put11_other (w := k5) (b := ZB) hg (.int .i64 f1) (.int .i64 t1) (.int .i64 i1) (.int .i64 p1) (.int .i64 q1) (.slice A2 l1.length c2) (.int .i64 wt1) (.int .i64 fl1) (.int .i64 gm1) (.int .i64 gp1) (.int .i64 gl1)
      clear hHeld hS HZ HO HP hk0
      go_wp2_with fail
      go_meet
      exact ⟨_, _, _, _, _, rfl, rfl, rfl, hz9, ho9, hp9, hb9⟩
    · skip
      have hbs : Below (World.heap k1).size k1 (k1.alloc (.cells #[.int .i64 0, .int .i64 0, .int .i64 0, .int .i64 0, .int .i64 0, .slice none 0 0, .int .i64 0, .int .i64 0, .int .i64 0, .int .i64 0, .int .i64 0] 71)) := (Below.refl _ _).alloc (Nat.le_refl _) _
      have HZ : Hid ((k1.alloc (.cells #[.int .i64 0, .int .i64 0, .int .i64 0, .int .i64 0, .int .i64 0, .slice none 0 0, .int .i64 0, .int .i64 0, .int .i64 0, .int .i64 0, .int .i64 0] 71)).heap[(World.heap k1).size]? = some (.cells #[.int .i64 0, .int .i64 0, .int .i64 0, .int .i64 0, .int .i64 0, .slice none 0 0, .int .i64 0, .int .i64 0, .int .i64 0, .int .i64 0, .int .i64 0] 71 (0, 0))) := hid (heap_alloc_new _ _)
      have HZZ : Hid (W.heap.size ≤ (World.heap k1).size) := hid hk0.size
      replace hk0 := hk0.trans (hbs.mono hk0.size)
      have HS9 := hid (HS1.out.below hbs)
      clear HS1
      have HS1 := HS9
      clear HS9
      clear hbs
      simp only [gt3]
      go_simp
      refine hK.out _ _ ?_ (fun hHeld2 => ?_)
      focus
        exact hS _ hk0
      clear hHeld
      have hHeld := hHeld2
      clear hHeld2 hK K
      try simp only [gt6, Act.put]
      generalize (k1.alloc (.cells #[.int .i64 0, .int .i64 0, .int .i64 0, .int .i64 0, .int .i64 0, .slice none 0 0, .int .i64 0, .int .i64 0, .int .i64 0, .int .i64 0, .int .i64 0] 71)) = k4 at *
      generalize (World.heap k1).size = ZB at *
      refine wpAnyH_ready (rs := [8]) (by kernel_rfl) (by simp) ?_
      refine (AllReadyH.cons rfl (fun K hK => ?_) AllReadyH.nil)
      simp only [gt3]
      go_simp
      refine (HPUT.out A1 c1 k4 HS1.out).mono ?_
      rintro qe k6 ⟨A2, c2, B2, d2, rfl, ho2, hp2, hb2⟩
      have HO : Hid (k6.ownsRow W.heap.size 9 1 (.slice A2 l1.length c2) l1.length (scells l1)) := hid (own_mono ho2 hk0.size)
      simp only [ec]
      have HP : Hid (OwnP W k6 (.slice B2 ps.length d2) ps) := hid (own_mono hp2 hk0.size)
      replace hk0 := hk0.trans (hb2.mono hk0.size)
      have HZ9 := hid (keep0 HZ.out hb2)
      clear HZ
      have HZ := HZ9
      clear HZ9
      clear ho2 hp2 hb2
      go_wp2_with fail
      refine hK.out _ _ ?_ (fun hHeld2 => ?_)
      focus
        exact hS _ hk0
      clear hHeld
      have hHeld := hHeld2
      clear hHeld2 hK K
      try simp only [gt6, Act.put]
      refine tkA 9 ?_ rfl ?_ (by assumption) ?_; rotate_left; focus (intro U hU; (try dsimp only at hU); go_simp; try (with_reducible rfl))
      simp only [gt6, Act.put]
      refine tkA 10 ?_ rfl ?_ (by assumption) ?_; rotate_left; focus (intro U hU; (try dsimp only at hU); go_simp; try (with_reducible rfl))
      simp only [gt6, Act.put]
      refine tkA 11 ?_ rfl ?_ (by assumption) ?_; rotate_left; focus (intro U hU; (try dsimp only at hU); go_simp; try (with_reducible rfl))
      simp only [gt6, Act.put]
      refine tkA 12 ?_ rfl ?_ (by assumption) ?_; rotate_left; focus (intro U hU; (try dsimp only at hU); go_simp; try (with_reducible rfl))
      simp only [gt6, Act.put]
      refine wpAnyH_ready (rs := [14]) (by kernel_rfl) (by simp) ?_
      refine (AllReadyH.cons rfl (fun K hK => ?_) AllReadyH.nil)
      obtain ⟨⟨d0, d1, d2, d3, d4, d5, d6, d7, d8, d9, d10⟩, ⟨g0, g1, g2, g3, g4, g5, g6, g7, g8, g9, g10⟩⟩ := eleven_cells HZ.out
      simp only [gt3]
      go_simp
      clear d0 d1 d2 d3 d4 d5 d6 d7 d8 d9 d10 g0 g1 g2 g3 g4 g5 g6 g7 g8 g9 g10
      refine hK.out _ _ ?_ (fun hHeld2 => ?_)
      focus
        exact hS _ (put11_below hk0 HZZ.out (.int .i64 f1) (.int .i64 t1) (.int .i64 i1) (.int .i64 p1) (.int .i64 q1) (.slice A2 l1.length c2) (.int .i64 wt1) (.int .i64 fl1) (.int .i64 gm1) (.int .i64 gp1) (.int .i64 gl1))
      clear hHeld
      have hHeld := hHeld2
      clear hHeld2 hK K
      try simp only [gt6, Act.put]
      refine tkA 15 ?_ rfl ?_ (by assumption) ?_; rotate_left; focus (intro U hU; (try dsimp only at hU); go_simp; try (with_reducible rfl))
      simp only [gt6, Act.put]
      refine tkA 16 ?_ rfl ?_ (by assumption) ?_; rotate_left; focus (intro U hU; (try dsimp only at hU); go_simp; try (with_reducible rfl))
      simp only [gt6, Act.put]
      refine wpAnyH_done (by kernel_rfl) ?_ _
      have hz9 := put11_heap HZ.out (.int .i64 f1) (.int .i64 t1) (.int .i64 i1) (.int .i64 p1) (.int .i64 q1) (.slice A2 l1.length c2) (.int .i64 wt1) (.int .i64 fl1) (.int .i64 gm1) (.int .i64 gp1) (.int .i64 gl1)
      have hb9 := put11_below hk0 HZZ.out (.int .i64 f1) (.int .i64 t1) (.int .i64 i1) (.int .i64 p1) (.int .i64 q1) (.slice A2 l1.length c2) (.int .i64 wt1) (.int .i64 fl1) (.int .i64 gm1) (.int .i64 gp1) (.int .i64 gl1)
      have ho9 := own_at HO.out HZ.out (by decide) fun g hg => put11_other (w := k6) (b := ZB) hg (.int .i64 f1) (.int .i64 t1) (.int .i64 i1) (.int .i64 p1) (.int .i64 q1) (.slice A2 l1.length c2) (.int .i64 wt1) (.int .i64 fl1) (.int .i64 gm1) (.int .i64 gp1) (.int .i64 gl1)
      have hp9 : OwnP W (put11 k6 ZB (.int .i64 f1) (.int .i64 t1) (.int .i64 i1) (.int .i64 p1) (.int .i64 q1) (.slice A2 l1.length c2) (.int .i64 wt1) (.int .i64 fl1) (.int .i64 gm1) (.int .i64 gp1) (.int .i64 gl1)) (.slice B2 ps.length d2) ps := own_at HP.out HZ.out (by decide) fun g hg => put11_other (w := k6) (b := ZB) hg (.int .i64 f1) (.int .i64 t1) (.int .i64 i1) (.int .i64 p1) (.int .i64 q1) (.slice A2 l1.length c2) (.int .i64 wt1) (.int .i64 fl1) (.int .i64 gm1) (.int .i64 gp1) (.int .i64 gl1)
      clear hHeld hS HZ HO HP hk0
      go_wp2_with fail
      go_meet
      exact ⟨_, _, _, _, _, rfl, rfl, rfl, hz9, ho9, hp9, hb9⟩
  · skip
    have hbs : Below (World.heap k0).size k0 (k0.alloc (.cells #[.int .i64 0, .int .i64 0, .int .i64 0, .int .i64 0, .int .i64 0, .slice none 0 0, .int .i64 0, .int .i64 0, .int .i64 0, .int .i64 0, .int .i64 0] 71)) := (Below.refl _ _).alloc (Nat.le_refl _) _
    have HZ : Hid ((k0.alloc (.cells #[.int .i64 0, .int .i64 0, .int .i64 0, .int .i64 0, .int .i64 0, .slice none 0 0, .int .i64 0, .int .i64 0, .int .i64 0, .int .i64 0, .int .i64 0] 71)).heap[(World.heap k0).size]? = some (.cells #[.int .i64 0, .int .i64 0, .int .i64 0, .int .i64 0, .int .i64 0, .slice none 0 0, .int .i64 0, .int .i64 0, .int .i64 0, .int .i64 0, .int .i64 0] 71 (0, 0))) := hid (heap_alloc_new _ _)
    have HZZ : Hid (W.heap.size ≤ (World.heap k0).size) := hid hk0.size
    replace hk0 := hk0.trans (hbs.mono hk0.size)
    clear hbs
    simp only [gt3]
    go_simp
    refine hK.out _ _ ?_ (fun hHeld2 => ?_)
    focus
      exact hS _ hk0
    clear hHeld
    have hHeld := hHeld2
    clear hHeld2 hK K
    try simp only [gt6, Act.put]
    generalize (k0.alloc (.cells #[.int .i64 0, .int .i64 0, .int .i64 0, .int .i64 0, .int .i64 0, .slice none 0 0, .int .i64 0, .int .i64 0, .int .i64 0, .int .i64 0, .int .i64 0] 71)) = k2 at *
    generalize (World.heap k0).size = ZB at *
    refine wpAnyH_ready (rs := [2]) (by kernel_rfl) (by simp) ?_
    refine (AllReadyH.cons rfl (fun K hK => ?_) AllReadyH.nil)
    simp only [gt3]
    go_simp
    refine (HEND.out k2 hk0).mono ?_
    rintro qe k7 ⟨A1, c1, rfl, hs1, hb1⟩
    replace hk0 := hk0.trans (hb1.mono hk0.size)
    have HS1 := hid hs1
    have HZ9 := hid (keep0 HZ.out hb1)
    clear HZ
    have HZ := HZ9
    clear HZ9
    clear hs1 hb1
    go_wp2_with fail
    refine hK.out _ _ ?_ (fun hHeld2 => ?_)
    focus
      exact hS _ hk0
    clear hHeld
    have hHeld := hHeld2
    clear hHeld2 hK K
    try simp only [gt6, Act.put]
    refine wpAnyH_ready (rs := [8]) (by kernel_rfl) (by simp) ?_
    refine (AllReadyH.cons rfl (fun K hK => ?_) AllReadyH.nil)
    simp only [gt3]
    go_simp
    refine (HPUT.out A1 c1 k7 HS1.out).mono ?_
    rintro qe k8 ⟨A2, c2, B2, d2, rfl, ho2, hp2, hb2⟩
    have HO : Hid (k8.ownsRow W.heap.size 9 1 (.slice A2 l1.length c2) l1.length (scells l1)) := hid (own_mono ho2 hk0.size)
    simp only [ec]
    have HP : Hid (OwnP W k8 (.slice B2 ps.length d2) ps) := hid (own_mono hp2 hk0.size)
    replace hk0 := hk0.trans (hb2.mono hk0.size)
    have HZ9 := hid (keep0 HZ.out hb2)
    clear HZ
    have HZ := HZ9
    clear HZ9
    clear ho2 hp2 hb2
    go_wp2_with fail
    refine hK.out _ _ ?_ (fun hHeld2 => ?_)
    focus
      exact hS _ hk0
    clear hHeld
    have hHeld := hHeld2
    clear hHeld2 hK K
    try simp only [gt6, Act.put]
    refine tkA 9 ?_ rfl ?_ (by assumption) ?_; rotate_left; focus (intro U hU; (try dsimp only at hU); go_simp; try (with_reducible rfl))
    simp only [gt6, Act.put]
    refine tkA 10 ?_ rfl ?_ (by assumption) ?_; rotate_left; focus (intro U hU; (try dsimp only at hU); go_simp; try (with_reducible rfl))
    simp only [gt6, Act.put]
    refine tkA 11 ?_ rfl ?_ (by assumption) ?_; rotate_left; focus (intro U hU; (try dsimp only at hU); go_simp; try (with_reducible rfl))
    simp only [gt6, Act.put]
    refine tkA 12 ?_ rfl ?_ (by assumption) ?_; rotate_left; focus (intro U hU; (try dsimp only at hU); go_simp; try (with_reducible rfl))
    simp only [gt6, Act.put]
    refine wpAnyH_ready (rs := [14]) (by kernel_rfl) (by simp) ?_
    refine (AllReadyH.cons rfl (fun K hK => ?_) AllReadyH.nil)
    obtain ⟨⟨d0, d1, d2, d3, d4, d5, d6, d7, d8, d9, d10⟩, ⟨g0, g1, g2, g3, g4, g5, g6, g7, g8, g9, g10⟩⟩ := eleven_cells HZ.out
    simp only [gt3]
    go_simp
    clear d0 d1 d2 d3 d4 d5 d6 d7 d8 d9 d10 g0 g1 g2 g3 g4 g5 g6 g7 g8 g9 g10
    refine hK.out _ _ ?_ (fun hHeld2 => ?_)
    focus
      exact hS _ (put11_below hk0 HZZ.out (.int .i64 f1) (.int .i64 t1) (.int .i64 i1) (.int .i64 p1) (.int .i64 q1) (.slice A2 l1.length c2) (.int .i64 wt1) (.int .i64 fl1) (.int .i64 gm1) (.int .i64 gp1) (.int .i64 gl1))
    clear hHeld
    have hHeld := hHeld2
    clear hHeld2 hK K
    try simp only [gt6, Act.put]
    refine tkA 15 ?_ rfl ?_ (by assumption) ?_; rotate_left; focus (intro U hU; (try dsimp only at hU); go_simp; try (with_reducible rfl))
    simp only [gt6, Act.put]
    refine tkA 16 ?_ rfl ?_ (by assumption) ?_; rotate_left; focus (intro U hU; (try dsimp only at hU); go_simp; try (with_reducible rfl))
    simp only [gt6, Act.put]
    refine wpAnyH_done (by kernel_rfl) ?_ _
    have hz9 := put11_heap HZ.out (.int .i64 f1) (.int .i64 t1) (.int .i64 i1) (.int .i64 p1) (.int .i64 q1) (.slice A2 l1.length c2) (.int .i64 wt1) (.int .i64 fl1) (.int .i64 gm1) (.int .i64 gp1) (.int .i64 gl1)
    have hb9 := put11_below hk0 HZZ.out (.int .i64 f1) (.int .i64 t1) (.int .i64 i1) (.int .i64 p1) (.int .i64 q1) (.slice A2 l1.length c2) (.int .i64 wt1) (.int .i64 fl1) (.int .i64 gm1) (.int .i64 gp1) (.int .i64 gl1)
    have ho9 := own_at HO.out HZ.out (by decide) fun g hg => put11_other (w := k8) (b := ZB) hg (.int .i64 f1) (.int .i64 t1) (.int .i64 i1) (.int .i64 p1) (.int .i64 q1) (.slice A2 l1.length c2) (.int .i64 wt1) (.int .i64 fl1) (.int .i64 gm1) (.int .i64 gp1) (.int .i64 gl1)
    have hp9 : OwnP W (put11 k8 ZB (.int .i64 f1) (.int .i64 t1) (.int .i64 i1) (.int .i64 p1) (.int .i64 q1) (.slice A2 l1.length c2) (.int .i64 wt1) (.int .i64 fl1) (.int .i64 gm1) (.int .i64 gp1) (.int .i64 gl1)) (.slice B2 ps.length d2) ps := own_at HP.out HZ.out (by decide) fun g hg => put11_other (w := k8) (b := ZB) hg (.int .i64 f1) (.int .i64 t1) (.int .i64 i1) (.int .i64 p1) (.int .i64 q1) (.slice A2 l1.length c2) (.int .i64 wt1) (.int .i64 fl1) (.int .i64 gm1) (.int .i64 gp1) (.int .i64 gl1)
    clear hHeld hS HZ HO HP hk0
    go_wp2_with fail
    go_meet
    exact ⟨_, _, _, _, _, rfl, rfl, rfl, hz9, ho9, hp9, hb9⟩
end Go.Proofs.YtdphdodjidbngaaGreat

namespace Go.Proofs.YtdphdodjidbngaaGreat
open Go.RowKit Go.Sort
set_option linter.unusedVariables false
set_option linter.unusedSimpArgs false

set_option maxRecDepth 20000 in
theorem pput_any {P M : Nat} {nd inc bd : Int} {L : List Ev} (k : Int) (y : List UInt8) (W : World) (h : PortAt W P M nd inc bd L) (hG : ∀ e ∈ L, GdE e) (hy : y.length ≤ maxLen) :
    Calls Tryz.prog 7 #[.pointer (some ⟨P, 0, none⟩), .int .i64 k, .string (str y)] W (PPutR W P M nd inc bd L (pputV nd inc bd L k y)) := by
  by_cases hn : nodeB k = true
  · by_cases hk : k = nd
    · have HV : Hid (pputV nd inc bd L k y = (L, [], 1)) := hid (by rw [pputV, if_pos (.inr hk)])
      have HN := hid (fun u => pnode_any k u)
      rw [hn] at HN
      obtain ⟨c0, c1, c2, c3⟩ := h.cells
      have HH := hid h
      have hkn : (k == nd) = true := by simpa using hk
      generalize pputV nd inc bd L k y = rv at *
      generalize str y = sy at *
      clear hn hk h hG hy
      go_enter Tryz.func7, Tryz.ntmps7
      go_wp2_with (go_at_call 22; refine (HN.out _).mono ?_; rintro e w' ⟨rfl, rfl⟩)
      refine bodyPost_ret (v := .tuple #[.slice none 0 0, .int .i64 1]) (by simp [results, Tryz.results7, go_sem]) rfl ⟨none, 0, ?_, ?_, ?_, Only.refl _ _, fun gg h1 h2 => by rw [HV.out]; exact h2⟩
      · rw [HV.out]; rfl
      · rw [HV.out]; exact World.ownsRow_nil _ _ _ _
      · rw [HV.out]; exact HH.out
    · simp only [nodeB, Bool.and_eq_true, decide_eq_true_eq] at hn
      exact pput_in k y W h hG hn.1 hn.2 hk hy
  · have hn2 : nodeB k = false := by simpa using hn
    have HV : Hid (pputV nd inc bd L k y = (L, [], 1)) := hid (by rw [pputV, if_pos (.inl hn2)])
    have HN := hid (fun u => pnode_any k u)
    rw [hn2] at HN
    obtain ⟨c0, c1, c2, c3⟩ := h.cells
    have HH := hid h
    generalize pputV nd inc bd L k y = rv at *
    generalize str y = sy at *
    clear hn hn2 h hG hy
    go_enter Tryz.func7, Tryz.ntmps7
    go_wp2_with (go_at_call 22; refine (HN.out _).mono ?_; rintro e w' ⟨rfl, rfl⟩)
    refine bodyPost_ret (v := .tuple #[.slice none 0 0, .int .i64 1]) (by simp [results, Tryz.results7, go_sem]) rfl ⟨none, 0, ?_, ?_, ?_, Only.refl _ _, fun gg h1 h2 => by rw [HV.out]; exact h2⟩
    · rw [HV.out]; rfl
    · rw [HV.out]; exact World.ownsRow_nil _ _ _ _
    · rw [HV.out]; exact HH.out

set_option maxRecDepth 20000 in
theorem fld_out (x0 x1 x2 x3 x4 x5 x6 x7 x8 x9 x10 : Value) (w : World) : (Instr.field 71 (.agg #[x0, x1, x2, x3, x4, x5, x6, x7, x8, x9, x10]) 3).run Tryz.prog w = .ok (.agg #[x3, x4, x5, x6, x7]) w := by rfl
set_option maxRecDepth 20000 in
theorem fld_texts (x3 x4 x6 x7 : Value) (A : Option Addr) (n c : Nat) (w : World) : (Instr.field 67 (.agg #[x3, x4, .slice A n c, x6, x7]) 2).run Tryz.prog w = .ok (.slice A n c) w := by rfl
/-- How many texts wait for a node. -/
def pwaitV (L : List Ev) (k : Int) : Int := ((endP 0 0 L k).o.l.length : Nat)
set_option maxRecDepth 20000 in
theorem pwaits_any {P M : Nat} {nd inc bd : Int} {L : List Ev} (k : Int) (W : World) (h : PortAt W P M nd inc bd L) (h0 : 0 ≤ k) (h1 : k < 72) :
    Calls Tryz.prog 18 #[.pointer (some ⟨P, 0, none⟩), .int .i64 k] W fun e w' => e = .returned (.int .i64 (pwaitV L k)) ∧ W = w' := by
  obtain ⟨c0, c1, c2, c3⟩ := h.cells
  cases ha : (L.any fun x => x.t == k) with
  | true =>
    obtain ⟨A, c, -, hl0, -, -, -⟩ := pends_yes h.ends h0 h1 ha
    have hl := hl0 W (Below.refl _ _)
    clear hl0
    have HV : Hid (pwaitV L k = ((endP 0 0 L k).o.l.length : Nat)) := hid rfl
    generalize pwaitV L k = rv at *
    generalize endP 0 0 L k = e at *
    obtain ⟨f, t, i, ⟨p, q, l, wt, fl⟩, gm, gp, gl⟩ := e
    simp only [ec] at hl HV
    clear ha h h0 h1
    go_enter Tryz.func18, Tryz.ntmps18
    have hf1 := fun x0 x1 x2 x3 x4 x5 x6 x7 x8 x9 x10 => fld_out x0 x1 x2 x3 x4 x5 x6 x7 x8 x9 x10
    have hf2 := fun x3 x4 x6 x7 A n c => fld_texts x3 x4 x6 x7 A n c
    go_wp2
    go_ret
    exact ⟨by rw [HV.out]; rfl, rfl⟩
  | false =>
    obtain ⟨-, hl0, hE⟩ := pends_no h.ends (by omega) (by omega) ha
    have hl := hl0 W (Below.refl _ _)
    clear hl0
    have HV : Hid (pwaitV L k = 0) := hid (by rw [pwaitV, hE]; rfl)
    simp only [ez] at hl
    generalize pwaitV L k = rv at *
    clear ha h h0 h1 hE
    go_enter Tryz.func18, Tryz.ntmps18
    have hf1 := fun x0 x1 x2 x3 x4 x5 x6 x7 x8 x9 x10 => fld_out x0 x1 x2 x3 x4 x5 x6 x7 x8 x9 x10
    have hf2 := fun x3 x4 x6 x7 A n c => fld_texts x3 x4 x6 x7 A n c
    go_wp2
    go_ret
    exact ⟨by rw [HV.out]; rfl, rfl⟩
end Go.Proofs.YtdphdodjidbngaaGreat

