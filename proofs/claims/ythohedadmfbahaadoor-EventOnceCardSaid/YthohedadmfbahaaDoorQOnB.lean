/- EventOnce: the law. -/
import Derived.Test.YthohedadmfbahaaDoorQOnA
import Derived.Test.YthohedadmfbahaaDoorOnP
import Derived.Test.YthohedadmfbahaaDoorQEvX
import Derived.Test.YthohedadmfbahaaDoorKwP
namespace Go.Proofs.YthohedadmfbahaaDoor
open Go.RowKit Go.Sort Go.Shelf
set_option linter.unusedVariables false
set_option linter.unusedSimpArgs false

theorem info_ev : (Tryd.prog.info? 37).map (fun i => (i.zero, i.size, i.bytes)) = some (some (.agg #[.int .i64 0, .int .i64 0, .int .i64 0, .int .i64 0]), 4, 32) := by kernel_rfl
/-- Entries of the call's own stay where only a row of events is touched. -/
theorem RowBk.tch {w w' : World} {b base n : Nat} {v vD : Value} {xs : List Ee} {ds : List Value} (h : RowBk w b v xs) (hD : w.ownsRow base 37 4 vD n ds) (ht : Tch (fun g => vD.ownBlock = some g) w w') : RowBk w' b v xs := by
  have go : ∀ {e s n v} {zs : List Value}, w.ownsRow b e s v n zs → e ≠ 37 → w'.ownsRow b e s v n zs := fun ho hne => ht.own ho fun g hg => own_apart ho hD hne g hg
  refine ⟨go h.1 (by decide), fun x hx => ?_, h.2.2⟩
  have h1 := h.2.1 x hx
  exact ⟨⟨go h1.1.1 (by decide), h1.1.2⟩, go h1.2.1 (by decide), go h1.2.2 (by decide)⟩
theorem bel_drewN {W w : World} (h : RowKit.Below W.heap.size W w) (q : Nat) : RowKit.Below W.heap.size W (w.drewN q) := bel_trans h (below_drewNO w q)
theorem own_shape {w : World} {b e s n : Nat} {v : Value} {xs : List Value} (h : w.ownsRow b e s v n xs) : ∃ A c, v = .slice A n c := by
  rcases h.2 with ⟨rfl, rfl⟩ | ⟨g, cap, cur, rfl, _⟩
  · exact ⟨_, _, rfl⟩
  · exact ⟨_, _, rfl⟩
theorem ranL_le (w : Int) : ∀ l : List Ev, -(l.length : Int) ≤ ranL w l ∧ ranL w l ≤ (l.length : Int)
  | [] => by simp [ranL]
  | d :: l => by
    have h := ranL_le w l
    rw [ranL, List.length_cons]
    split <;> split <;> omega
theorem ranL_take {w : Int} {D : List Ev} {k : Nat} (hk : k < D.length) : ranL w (D.take (k + 1)) = ranL w (D.take k) + ((if D[k].kd = 2 ∧ D[k].w = w then 1 else 0) - (if D[k].kd = 3 ∧ D[k].w = w then 1 else 0)) := by
  rw [List.take_succ_eq_append_getElem hk, ranL_snoc]
theorem ranL_tk (w : Int) {D : List Ev} {k : Nat} (h : D.length ≤ 60) : -60 ≤ ranL w (D.take k) ∧ ranL w (D.take k) ≤ 60 := by
  have h1 := ranL_le w (D.take k)
  have h2 : (D.take k).length ≤ D.length := by rw [List.length_take]; exact Nat.min_le_right _ _
  omega

set_option maxRecDepth 20000 in
set_option maxHeartbeats 8000000 in
theorem eventOnce_law (x : Cf) (N : Option Addr) (nc : Nat) (K : Option Addr) (kc : Nat) (J : Option Addr) (jc : Nat) (js : List Jo) (L : Option Addr) (lc : Nat) (evs : List Ev) (W : World) (hC : CfAt W x N nc K kc) (hJ : InJs W J jc js) (hL : Sl W 4 L evs.length lc (gcells evl evs)) :
    Calls Tryd.prog 3 #[.agg (wdc x N nc K kc J jc js.length), .slice L evs.length lc] W fun e w' => e = .returned (.bool true) ∧ RowKit.Below W.heap.size W w' := by
  have HW := hid works39_any
  have HLC := hid (fun u (hu : RowKit.Below W.heap.size W u) => r14long_any x N nc K kc u (hC.below hu))
  have HLJ := hid (fun u (hu : RowKit.Below W.heap.size W u) => long39_any J jc js u (hJ.below hu))
  have hln : longCf x = false → longJs js = false → x.ws.length ≤ 1000 ∧ SmJ js := fun h1 h2 => ⟨by have := (longCf_no h1).2; omega, (longJs_sm h2).2⟩
  have HLN := hid hln
  have HWS := hid (fun u (hu : RowKit.Below W.heap.size W u) => (hC.below hu).2.1)
  have HEL := hid (fun u (hu : RowKit.Below W.heap.size W u) k (hk : k < evs.length) => Sl.gat (f := evl) (n := 4) evl_len (hL.below hu) k hk (by omega))
  have HST9 := hid (fun (h : x.ws.length ≤ 1000 ∧ SmJ js) u (hu : RowKit.Below W.heap.size W u) (S : Option Addr) (sc : Nat) (ys : List Ee) (e : Ev) (hy : InBk u S sc ys) (hyn : ys.length ≤ 100) (hyk : ∀ y ∈ ys, smE y.1) => show Calls Tryd.prog 7 #[.agg (cfc x N nc K kc), .slice J js.length jc, .slice S ys.length sc, .agg #[.int .i64 e.kd, .int .i64 e.j, .int .i64 e.t, .int .i64 e.w]] u fun q w' => ∃ A' c' zs, q = .returned (.tuple #[.slice A' zs.length c', .bool (posV x js (ys.map (·.1)) e)]) ∧ zs.map (·.1) = (if posV x js (ys.map (·.1)) e then aftV js (ys.map (·.1)) e else ys.map (·.1)) ∧ RowBk w' u.heap.size (.slice A' zs.length c') zs ∧ RowKit.Below u.heap.size u w' from step_any x N nc K kc J jc js S sc ys e.kd e.j e.t e.w u (hC.below hu) (hJ.below hu) hy hyn hyk h.2 h.1)
  have HOK := hid (fun (hs : x.ws.length ≤ 1000 ∧ SmJ js) b n e (h : OkL b n) (hp : posV x js b e = true) => aft_ok h hs.2 hp)
  have HON := hid (fun b D e (h : Onc b D) (hp : posV x js b e = true) => h.step hp)
  have HRN := hid (fun b D e (h : Onc b D) (hc : ∀ w, ranL w D = (runS w b : Int)) (hp : posV x js b e = true) => h.ran hc hp)
  have HFR := hid (fun b D e (h : Onc b D) (hp : posV x js b e = true) => h.fresh hp)
  have HKD := hid (fun b (e : Ev) (hp : posV x js b e = true) => show e.kd = 1 ∨ e.kd = 2 ∨ e.kd = 3 from by
    by_cases h1 : e.kd = 1
    · exact .inl h1
    · exact .inr (pos_entry hp h1).1)
  have HO2 := hid (fun b D j t w (h : Onc b D) (hc : ∀ w, ranL w D = (runS w b : Int)) (hp : posV x js b ⟨2, j, t, w⟩ = true) => show (∀ d ∈ D, d.kd = 2 → d.j = j → d.t = t → False) ∧ 0 ≤ w ∧ w < (x.ws.length : Int) ∧ ranL w D < (x.ws.getD w.toNat (0, 0, 0)).1 from by
    have h9 := lau_slots (pos_kd.1 hp)
    rw [hc]
    exact ⟨h.once hp, h9.1, h9.2.1, h9.2.2.2⟩)
  have HO3 := hid (fun b D j t w (h : Onc b D) (hp : posV x js b ⟨3, j, t, w⟩ = true) => h.launched hp)
  have HOA := hid (fun b D kd j t w (h : Onc b D) (hp : posV x js b ⟨kd, j, t, w⟩ = true) (h1 : kd ≠ 1) => h.accepted hp h1)
  have hel : evs.length ≤ maxLen := Nat.le_trans hL.2.1 hL.2.2.1
  unfold maxLen at hel
  clear hC hJ hL hln
  generalize longCf x = lc9 at *
  generalize longJs js = lj at *
  generalize posV x js = pV at *
  generalize aftV js = aV at *
  obtain ⟨c0, le, ag, ro, ou, T, ws⟩ := x
  simp only [cfc, wdc] at *
  generalize js.length = jn at *
  go_enter Tryd.func3, Tryd.ntmps3
  go_upto_region 2 with (fail)
  refine at_world (fun u => u.heap[W.heap.size]? = some (.cells #[.int .i64 c0, .int .i64 le, .int .i64 ag, .int .i64 ro, .int .i64 ou, .slice N T.length nc, .slice K ws.length kc, .slice J jn jc] 28 (0, 0)) ∧ u.heap[W.heap.size + 1]? = some (.cells #[.int .i64 c0, .int .i64 le, .int .i64 ag, .int .i64 ro, .int .i64 ou, .slice N T.length nc, .slice K ws.length kc] 25 (0, 0)) ∧ RowKit.Below W.heap.size W u) (lay2E W _ _) ?_
  rintro w1 ⟨hq, hc, hb⟩
  have HQ := hid hq
  have HC := hid hc
  have HB := hid hb
  clear hq hc hb
  generalize W.heap.size + 1 = Qc at *
  generalize hQ : W.heap.size = Q at HQ
  have HQW := hid hQ
  clear hQ
  obtain ⟨q0, q1, q2, q3, q4, q5, q6, q7⟩ := cells8 HQ.out
  obtain ⟨c0', c1', c2', c3', c4', c5', c6'⟩ := seven_cellsJ HC.out
  go_wp2_with fail
  refine (HLC.out _ HB.out).mono ?_
  rintro e w2 ⟨rfl, hb⟩
  have HB2 := hid (HB.out.trans (hb.mono HB.out.size))
  have HQ2 := hid (keep0 HQ.out hb)
  have HC2 := hid (keep0 HC.out hb)
  clear hb HB HQ HC HLC q0 q1 q2 q3 q4 q5 q6 q7 c0' c1' c2' c3' c4' c5' c6'
  cases lc9 with
  | true =>
    go_wp2_with (go_at_call 6; refine (HW.out _).mono ?_; rintro e w7 ⟨rfl, hb7⟩)
    go_ret
    exact ⟨rfl, HB2.out.trans (hb7.mono HB2.out.size)⟩
  | false =>
  obtain ⟨q0, q1, q2, q3, q4, q5, q6, q7⟩ := cells8 HQ2.out
  go_wp2_with fail
  refine (HLJ.out _ HB2.out).mono ?_
  rintro e w3 ⟨rfl, rfl⟩
  clear HLJ
  cases lj with
  | true =>
    clear q0 q1 q2 q3 q4 q5 q6 q7
    go_wp2_with (go_at_call 6; refine (HW.out _).mono ?_; rintro e w7 ⟨rfl, hb7⟩)
    go_ret
    exact ⟨rfl, HB2.out.trans (hb7.mono HB2.out.size)⟩
  | false =>
  have HSM := hid (HLN.out (by first | rfl | trivial) (by first | rfl | trivial))
  clear HLN
  by_cases h60 : 60 < evs.length
  · have h61 : (evs.length : Int) > 60 := by omega
    clear q0 q1 q2 q3 q4 q5 q6 q7
    go_wp2_with (go_at_call 6; refine (HW.out _).mono ?_; rintro e w7 ⟨rfl, hb7⟩)
    go_ret
    exact ⟨rfl, HB2.out.trans (hb7.mono HB2.out.size)⟩
  have h61 : ¬ (evs.length : Int) > 60 := by omega
  clear q0 q1 q2 q3 q4 q5 q6 q7
  go_wp2
  go_loopw [6, 7, 8, 9, 10, 11, 12, 13] (fun s d i _ _ _ _ _ wr => ∃ (n : Nat) (A1 A2 : Option Addr) (c1 c2 : Nat) (ys : List Ee) (D : List Ev), n ≤ evs.length ∧ i = .int .i64 (n : Int) ∧ s = .slice A1 ys.length c1 ∧ d = .slice A2 D.length c2 ∧ Hid (RowBk wr w2.heap.size (.slice A1 ys.length c1) ys ∧ wr.ownsRow w2.heap.size 37 4 (.slice A2 D.length c2) D.length (gcells evl D)) ∧ Hid (OkL (ys.map (·.1)) n ∧ Onc (ys.map (·.1)) D ∧ (∀ w, ranL w D = (runS w (ys.map (·.1)) : Int)) ∧ D.length ≤ n) ∧ Hid (RowKit.Below w2.heap.size w2 wr)) (fun _ _ i _ _ _ _ _ _ => evs.length - (intOf i).toNat)
  case atStart => exact ⟨0, none, none, 0, 0, [], [], by omega, rfl, rfl, rfl, ⟨RowBk.nil _ _, World.ownsRow_nil _ _ _ _⟩, ⟨⟨by simp, by simp⟩, Onc.nil, fun _ => rfl, by simp⟩, RowKit.Below.refl _ _⟩
  case round =>
    obtain ⟨n, A1, A2, c1, c2, ys, D, hn9, rfl, rfl, rfl, HO, HI, HB⟩ := hrel
    have HBW := hid (HB2.out.trans (HB.out.mono HB2.out.size))
    have HQ3 := hid (keep0 HQ2.out HB.out)
    have HC3 := hid (keep0 HC2.out HB.out)
    by_cases hlt : n < evs.length
    · have hlt2 : (n : Int) < (evs.length : Int) := by omega
      have hn0 : ¬ (n : Int) < 0 := by omega
      have HEV := hid (fun u (hu : RowKit.Below wr.heap.size wr u) => HEL.out u (HBW.out.trans (hu.mono HBW.out.size)) n hlt)
      obtain ⟨b, off, hA, _⟩ := HEV.out wr (RowKit.Below.refl _ _)
      subst hA
      have hyl : ys.length ≤ 100 := by have := HI.out.1.1; rw [List.length_map] at this; omega
      have hyk : ∀ y ∈ ys, smE y.1 := fun y hy => HI.out.1.2 _ (List.mem_map.2 ⟨y, hy, rfl⟩)
      have hdl : D.length ≤ 60 := by have := HI.out.2.2.2; omega
      have HST2 := hid (fun u (hu : RowKit.Below wr.heap.size wr u) => HST9.out HSM.out u (HBW.out.trans (hu.mono HBW.out.size)) A1 c1 ys evs[n] ((HO.out.1.keep hu).inBk) hyl hyk)
      obtain ⟨ev, hev⟩ : ∃ ev, evs[n] = ev := ⟨_, rfl⟩
      rw [hev] at HEV HST2
      clear hyk hev
      obtain ⟨kd, j, t, w⟩ := ev
      simp only [evl] at HEV HST2
      have hS : ∀ U, RowKit.Below wr.heap.size wr U → (((U.cell? ⟨Qc, 0, none⟩ = some (.int .i64 c0) ∧ U.cell? ⟨Qc, 1, none⟩ = some (.int .i64 le) ∧ U.cell? ⟨Qc, 2, none⟩ = some (.int .i64 ag) ∧ U.cell? ⟨Qc, 3, none⟩ = some (.int .i64 ro) ∧ U.cell? ⟨Qc, 4, none⟩ = some (.int .i64 ou) ∧ U.cell? ⟨Qc, 5, none⟩ = some (.slice N T.length nc) ∧ U.cell? ⟨Qc, 6, none⟩ = some (.slice K ws.length kc)) ∧ U.cell? ⟨Q, 7, none⟩ = some (.slice J jn jc) ∧ (U.cell? ⟨b, off + n * 4, none⟩ = some (.int .i64 kd) ∧ U.cell? ⟨b, off + n * 4 + 1, none⟩ = some (.int .i64 j) ∧ U.cell? ⟨b, off + n * 4 + 2, none⟩ = some (.int .i64 t) ∧ U.cell? ⟨b, off + n * 4 + 3, none⟩ = some (.int .i64 w))) ∧ RowKit.Below wr.heap.size wr U) := fun U hU => ⟨⟨seven_cellsJ (keep0 HC3.out hU), (cells8 (keep0 HQ3.out hU)).2.2.2.2.2.2.2, by
        obtain ⟨b7, o7, h7, hc⟩ := HEV.out U hU
        cases h7
        exact ⟨hc 0 _ rfl, hc 1 _ rfl, hc 2 _ rfl, hc 3 _ rfl⟩⟩, hU⟩
      go_upto_region 9 with (fail)
      have hu0 : RowKit.Below wr.heap.size wr wr.drew := below_drew (RowKit.Below.refl _ _)
      refine wp_region_held_drew (S := fun U => ((U.cell? ⟨Qc, 0, none⟩ = some (.int .i64 c0) ∧ U.cell? ⟨Qc, 1, none⟩ = some (.int .i64 le) ∧ U.cell? ⟨Qc, 2, none⟩ = some (.int .i64 ag) ∧ U.cell? ⟨Qc, 3, none⟩ = some (.int .i64 ro) ∧ U.cell? ⟨Qc, 4, none⟩ = some (.int .i64 ou) ∧ U.cell? ⟨Qc, 5, none⟩ = some (.slice N T.length nc) ∧ U.cell? ⟨Qc, 6, none⟩ = some (.slice K ws.length kc)) ∧ U.cell? ⟨Q, 7, none⟩ = some (.slice J jn jc) ∧ (U.cell? ⟨b, off + n * 4, none⟩ = some (.int .i64 kd) ∧ U.cell? ⟨b, off + n * 4 + 1, none⟩ = some (.int .i64 j) ∧ U.cell? ⟨b, off + n * 4 + 2, none⟩ = some (.int .i64 t) ∧ U.cell? ⟨b, off + n * 4 + 3, none⟩ = some (.int .i64 w))) ∧ RowKit.Below wr.heap.size wr U) (by kernel_rfl) (hS _ hu0) (fun hHeld => ?_)
      generalize wr.drew = u0 at *
      refine wpAnyH_take (i := 0) (v := ?_) rfl (by kernel_rfl) (by kernel_rfl) (by kernel_rfl) (fun _ _ _ h => h) (Or.inl ⟨by rfl, ?_⟩) (by assumption) ?_
      rotate_left
      focus
        intro U hU
        try dsimp only at hU
        go_simp
        try (with_reducible rfl)
      simp only [List.getElem_toArray, List.getElem_cons_succ, List.getElem_cons_zero, Act.put, List.setIfInBounds_toArray, List.set_cons_zero, List.set_cons_succ]
      refine wpAnyH_take (i := 1) (v := ?_) rfl (by kernel_rfl) (by kernel_rfl) (by kernel_rfl) (fun _ _ _ h => h) (Or.inl ⟨by rfl, ?_⟩) (by assumption) ?_
      rotate_left
      focus
        intro U hU
        try dsimp only at hU
        go_simp
        try (with_reducible rfl)
      simp only [List.getElem_toArray, List.getElem_cons_succ, List.getElem_cons_zero, Act.put, List.setIfInBounds_toArray, List.set_cons_zero, List.set_cons_succ]
      refine wpAnyH_take (i := 2) (v := ?_) rfl (by kernel_rfl) (by kernel_rfl) (by kernel_rfl) (fun _ _ _ h => h) (Or.inl ⟨by rfl, ?_⟩) (by assumption) ?_
      rotate_left
      focus
        intro U hU
        try dsimp only at hU
        go_simp
        try (with_reducible rfl)
      simp only [List.getElem_toArray, List.getElem_cons_succ, List.getElem_cons_zero, Act.put, List.setIfInBounds_toArray, List.set_cons_zero, List.set_cons_succ]
      refine wpAnyH_take (i := 3) (v := ?_) rfl (by kernel_rfl) (by kernel_rfl) (by kernel_rfl) (fun _ _ _ h => h) (Or.inl ⟨by rfl, ?_⟩) (by assumption) ?_
      rotate_left
      focus
        intro U hU
        try dsimp only at hU
        go_simp
        try (with_reducible rfl)
      simp only [List.getElem_toArray, List.getElem_cons_succ, List.getElem_cons_zero, Act.put, List.setIfInBounds_toArray, List.set_cons_zero, List.set_cons_succ]
      refine wpAnyH_take (i := 4) (v := ?_) rfl (by kernel_rfl) (by kernel_rfl) (by kernel_rfl) (fun _ _ _ h => h) (Or.inl ⟨by rfl, ?_⟩) (by assumption) ?_
      rotate_left
      focus
        intro U hU
        try dsimp only at hU
        go_simp
        try (with_reducible rfl)
      simp only [List.getElem_toArray, List.getElem_cons_succ, List.getElem_cons_zero, Act.put, List.setIfInBounds_toArray, List.set_cons_zero, List.set_cons_succ]
      refine wpAnyH_take (i := 5) (v := ?_) rfl (by kernel_rfl) (by kernel_rfl) (by kernel_rfl) (fun _ _ _ h => h) (Or.inl ⟨by rfl, ?_⟩) (by assumption) ?_
      rotate_left
      focus
        intro U hU
        try dsimp only at hU
        go_simp
        try (with_reducible rfl)
      simp only [List.getElem_toArray, List.getElem_cons_succ, List.getElem_cons_zero, Act.put, List.setIfInBounds_toArray, List.set_cons_zero, List.set_cons_succ]
      refine wpAnyH_take (i := 6) (v := ?_) rfl (by kernel_rfl) (by kernel_rfl) (by kernel_rfl) (fun _ _ _ h => h) (Or.inl ⟨by rfl, ?_⟩) (by assumption) ?_
      rotate_left
      focus
        intro U hU
        try dsimp only at hU
        go_simp
        try (with_reducible rfl)
      simp only [List.getElem_toArray, List.getElem_cons_succ, List.getElem_cons_zero, Act.put, List.setIfInBounds_toArray, List.set_cons_zero, List.set_cons_succ]
      refine wpAnyH_take (i := 7) (v := ?_) rfl (by kernel_rfl) (by kernel_rfl) (by kernel_rfl) (fun _ _ _ h => h) (Or.inl ⟨by rfl, ?_⟩) (by assumption) ?_
      rotate_left
      focus
        intro U hU
        try dsimp only at hU
        go_simp
        try (with_reducible rfl)
      simp only [List.getElem_toArray, List.getElem_cons_succ, List.getElem_cons_zero, Act.put, List.setIfInBounds_toArray, List.set_cons_zero, List.set_cons_succ]
      refine wpAnyH_ready (rs := [8]) (by kernel_rfl) (by simp) ?_
      refine AllReadyH.cons rfl (fun K hK => ?_) AllReadyH.nil
      simp only [List.getElem_toArray, List.getElem_cons_succ, List.getElem_cons_zero]
      go_simp
      refine (HST2.out _ hu0).mono ?_
      rintro q u1 ⟨A5, c5, zs, rfl, hzs, hin, hb1⟩
      have hu1 : RowKit.Below wr.heap.size wr u1 := hu0.trans (hb1.mono hu0.size)
      have HZ := hid (And.intro hzs hin)
      have HU0 : wr.heap.size ≤ u0.heap.size := hu0.size
      clear hb1 hzs hin
      go_wp2_with fail
      refine hK.out _ _ ?_ (fun hHeld2 => ?_)
      focus
        exact hS _ (by with_reducible assumption)
      clear hHeld
      have hHeld := hHeld2
      clear hHeld2 hK K
      try simp only [List.getElem_toArray, List.getElem_cons_succ, List.getElem_cons_zero, Act.put, List.setIfInBounds_toArray, List.set_cons_zero, List.set_cons_succ]
      refine wpAnyH_take (i := 9) (v := ?_) rfl (by kernel_rfl) (by kernel_rfl) (by kernel_rfl) (fun _ _ _ h => h) (Or.inl ⟨by rfl, ?_⟩) (by assumption) ?_
      rotate_left
      focus
        intro U hU
        try dsimp only at hU
        go_simp
        try (with_reducible rfl)
      simp only [List.getElem_toArray, List.getElem_cons_succ, List.getElem_cons_zero, Act.put, List.setIfInBounds_toArray, List.set_cons_zero, List.set_cons_succ]
      refine wpAnyH_take (i := 10) (v := ?_) rfl (by kernel_rfl) (by kernel_rfl) (by kernel_rfl) (fun _ _ _ h => h) (Or.inl ⟨by rfl, ?_⟩) (by assumption) ?_
      rotate_left
      focus
        intro U hU
        try dsimp only at hU
        go_simp
        try (with_reducible rfl)
      simp only [List.getElem_toArray, List.getElem_cons_succ, List.getElem_cons_zero, Act.put, List.setIfInBounds_toArray, List.set_cons_zero, List.set_cons_succ]
      refine wpAnyH_take (i := 11) (v := ?_) rfl (by kernel_rfl) (by kernel_rfl) (by kernel_rfl) (fun _ _ _ h => h) (Or.inl ⟨by rfl, ?_⟩) (by assumption) ?_
      rotate_left
      focus
        intro U hU
        try dsimp only at hU
        go_simp
        try (with_reducible rfl)
      simp only [List.getElem_toArray, List.getElem_cons_succ, List.getElem_cons_zero, Act.put, List.setIfInBounds_toArray, List.set_cons_zero, List.set_cons_succ]
      refine wpAnyH_take (i := 12) (v := ?_) rfl (by kernel_rfl) (by kernel_rfl) (by kernel_rfl) (fun _ _ _ h => h) (Or.inl ⟨by rfl, ?_⟩) (by assumption) ?_
      rotate_left
      focus
        intro U hU
        try dsimp only at hU
        go_simp
        try (with_reducible rfl)
      simp only [List.getElem_toArray, List.getElem_cons_succ, List.getElem_cons_zero, Act.put, List.setIfInBounds_toArray, List.set_cons_zero, List.set_cons_succ]
      refine wpAnyH_take (i := 13) (v := ?_) rfl (by kernel_rfl) (by kernel_rfl) (by kernel_rfl) (fun _ _ _ h => h) (Or.inl ⟨by rfl, ?_⟩) (by assumption) ?_
      rotate_left
      focus
        intro U hU
        try dsimp only at hU
        go_simp
        try (with_reducible rfl)
      simp only [List.getElem_toArray, List.getElem_cons_succ, List.getElem_cons_zero, Act.put, List.setIfInBounds_toArray, List.set_cons_zero, List.set_cons_succ]
      refine wpAnyH_done (by kernel_rfl) ?_ _
      clear hHeld hS
      have HU1 := hid hu1
      have HB9 := hid (HB.out.trans (hu1.mono HB.out.size))
      have HO1 := hid (And.intro ((HO.out.1.keep HU1.out)) (own_keep HO.out.2 HU1.out))
      clear hu1 hu0
      cases hpv : pV (ys.map (·.1)) ⟨kd, j, t, w⟩ with
      | false =>
        clear hpv HST2 HEV HZ
        go_wp2
        go_roundw
        case rel => exact ⟨n + 1, A1, A2, c1, c2, ys, D, by omega, by go_num, rfl, rfl, HO1, hid ⟨⟨by have := HI.out.1.1; omega, HI.out.1.2⟩, HI.out.2.1, HI.out.2.2.1, by have := HI.out.2.2.2; omega⟩, HB9⟩
        case measure => simp [intOf]; omega
      | true =>
        have hz1 := HZ.out.1
        rw [hpv, if_pos rfl] at hz1
        have HZ1 := hid hz1
        have HP := hid hpv
        clear hz1 hpv HST2
        have HK9 := hid (HKD.out _ _ HP.out)
        have HFR9 := hid (HFR.out _ D _ HI.out.2.1 HP.out)
        have HNE := hid (And.intro (HOK.out HSM.out _ n _ HI.out.1 HP.out) (And.intro (HON.out _ D _ HI.out.2.1 HP.out) (HRN.out _ D _ HI.out.2.1 HI.out.2.2.1 HP.out)))
        have HZR := hid (HZ.out.2.mono (show w2.heap.size ≤ u0.heap.size from Nat.le_trans HB.out.size HU0))
        clear HZ
        obtain ⟨b7, o7, h7, cq⟩ := HEV.out _ HU1.out
        cases h7
        have r0 := cq 0 _ rfl
        have r1 := cq 1 _ rfl
        have r2 := cq 2 _ rfl
        have r3 := cq 3 _ rfl
        simp only [Nat.add_zero] at r0
        clear cq HEV
        go_upto_region 13 with (fail)
        refine at_world (fun u => u.heap[u1.heap.size]? = some (.cells #[.int .i64 kd, .int .i64 j, .int .i64 t, .int .i64 w] 37 (0, 0)) ∧ RowKit.Below u1.heap.size u1 u) ⟨heap_alloc_new _ _, bel_alloc (RowKit.Below.refl _ _) _⟩ ?_
        clear r0 r1 r2 r3
        rintro w5 ⟨hx, hb⟩
        have HX := hid hx
        have HUB := hid (HBW.out.trans (HU1.out.mono HBW.out.size))
        have HB5 := hid (HUB.out.trans (hb.mono HUB.out.size))
        have HB5' := hid (HB9.out.trans (hb.mono HB9.out.size))
        have HC5 := hid (keep0 (keep0 HC3.out HU1.out) hb)
        have HZR5 := hid (HZR.out.keep hb)
        have HD5 := hid (own_keep HO1.out.2 hb)
        clear hx hb HZR HO1 HC3 HQ3
        generalize hBx : u1.heap.size = Bx at HX
        clear hBx
        have HDL := hid (fun u (hu : RowKit.Below w5.heap.size w5 u) m (hm : m < D.length) => Sl.gat (f := evl) (n := 4) evl_len ((sl_own HD5.out).below hu) m hm (by omega))
        obtain ⟨rn, hrn⟩ : ∃ rn : Nat → Int, ∀ m, rn m = ranL w (D.take m) := ⟨fun m => ranL w (D.take m), fun _ => rfl⟩
        have HR0 : Hid (rn 0 = 0) := hid (by rw [hrn]; rfl)
        have HRS := hid (fun m (hm : m < D.length) => show rn (m + 1) = rn m + ((if D[m].kd = 2 ∧ D[m].w = w then 1 else 0) - (if D[m].kd = 3 ∧ D[m].w = w then 1 else 0)) from by rw [hrn, hrn]; exact ranL_take hm)
        have HRB := hid (fun m => show -60 ≤ rn m ∧ rn m ≤ 60 from by rw [hrn]; exact ranL_tk w hdl)
        have HRE := hid (show rn D.length = ranL w D from by rw [hrn, List.take_length])
        have HFN := hid (fun m (hm : m < D.length) => show D[m] ≠ ⟨kd, j, t, w⟩ from fun h => HFR9.out (by rw [← h]; exact List.getElem_mem hm))
        have HDB := hid (fun m (hm : m < D.length) (h2 : kd = 2) => show D[m].kd = 2 → D[m].j = j → D[m].t = t → False from by
          subst h2
          exact (HO2.out _ D j t w HI.out.2.1 HI.out.2.2.1 HP.out).1 _ (List.getElem_mem hm))
        clear hrn
        go_wp2
        go_loopw [12, 13] (fun r k wi => ∃ m : Nat, m ≤ D.length ∧ k = .int .i64 (m : Int) ∧ r = .int .i64 (rn m) ∧ Hid (RowKit.Below w5.heap.size w5 wi)) (fun _ k _ => D.length - (intOf k).toNat)
        case atStart => exact ⟨0, by omega, rfl, by rw [HR0.out], RowKit.Below.refl _ _⟩
        case round =>
          obtain ⟨m, hm9, rfl, rfl, HBI⟩ := hrel
          by_cases hmt : m < D.length
          · have hmt2 : (m : Int) < (D.length : Int) := by omega
            have hm0 : ¬ (m : Int) < 0 := by omega
            obtain ⟨bd, od, hA, hc⟩ := HDL.out wr HBI.out m hmt
            subst hA
            have q0 := hc 0 _ rfl
            have q1 := hc 1 _ rfl
            have q2 := hc 2 _ rfl
            have q3 := hc 3 _ rfl
            have HRS2 := hid (HRS.out m hmt)
            have hrb := HRB.out m
            have hfn := HFN.out m hmt
            have hdb := HDB.out m hmt
            obtain ⟨x0, x1, x2, x3⟩ := four_cellsE (keep0 HX.out HBI.out)
            clear hc HRS HRB HFN HDB
            obtain ⟨dv, hdv⟩ : ∃ dv, D[m] = dv := ⟨_, rfl⟩
            rw [hdv] at q0 q1 q2 q3 HRS2 hfn hdb
            clear hdv
            have he : ∀ u : World, _ := fun u => ev_run dv ⟨kd, j, t, w⟩ false (iff_of_false (by simp) hfn) u
            clear hfn
            obtain ⟨ld, lj, lt, lw⟩ := dv
            simp only [evl, Nat.add_zero] at q0 q1 q2 q3 he hdb HRS2
            have hwp : IntKind.i64.wrap (rn m + 1) = rn m + 1 := by simp [IntKind.wrap, IntKind.bits, IntKind.signed]; omega
            have hwm : IntKind.i64.wrap (rn m - 1) = rn m - 1 := by simp [IntKind.wrap, IntKind.bits, IntKind.signed]; omega
            clear hrb
            obtain ⟨rm, hrm⟩ : ∃ rm, rn m = rm := ⟨_, rfl⟩
            have HRM := hid hrm
            rw [hrm] at HRS2 hwp hwm ⊢
            clear hrm
            by_cases a2 : ld = 2
            · by_cases aw : lw = w
              · skip
                as_aux_lemma =>
                obtain rfl : ld = 2 := a2
                obtain rfl : w = lw := aw.symm
                have HV : Hid (rn (m + 1) = rm + 1) := hid (by rw [HRS2.out, if_pos ⟨rfl, rfl⟩, if_neg (by omega)]; omega)
                clear HRS2
                by_cases hk2 : kd = 2
                · obtain rfl : kd = 2 := hk2
                  by_cases hj : lj = j
                  · obtain rfl : j = lj := hj.symm
                    have ht : ¬ lt = t := fun h => hdb rfl rfl rfl h
                    have et : (lt == t) = false := by simpa using ht
                    have et2 : decide (lt = t) = false := decide_eq_false ht
                    clear hdb
                    go_upto_region 17 with (fail)
                    go_quiet (fail)
                    go_upto_region 19 with (fail)
                    go_quiet (fail)
                    go_upto_region 21 with (fail)
                    go_quiet (fail)
                    go_upto_region 23 with (fail)
                    go_quiet (fail)
                    go_wp2
                    go_roundw
                    case rel => exact ⟨m + 1, by omega, by go_num, by rw [HV.out], hid (by repeat' (first | exact HBI.out | with_reducible refine bel_drewN ?_ _))⟩
                    case measure => simp [intOf]; omega
                  · have ej : (lj == j) = false := by simpa using hj
                    have ej2 : decide (lj = j) = false := decide_eq_false hj
                    clear hdb
                    go_upto_region 17 with (fail)
                    go_quiet (fail)
                    go_upto_region 19 with (fail)
                    go_quiet (fail)
                    go_upto_region 21 with (fail)
                    go_quiet (fail)
                    go_upto_region 23 with (fail)
                    go_quiet (fail)
                    go_wp2
                    go_roundw
                    case rel => exact ⟨m + 1, by omega, by go_num, by rw [HV.out], hid (by repeat' (first | exact HBI.out | with_reducible refine bel_drewN ?_ _))⟩
                    case measure => simp [intOf]; omega
                · have ek : (kd == 2) = false := by simpa using hk2
                  have ek2 : decide (kd = 2) = false := decide_eq_false hk2
                  clear hdb
                  go_upto_region 17 with (fail)
                  go_quiet (fail)
                  go_upto_region 19 with (fail)
                  go_quiet (fail)
                  go_upto_region 21 with (fail)
                  go_quiet (fail)
                  go_upto_region 23 with (fail)
                  go_quiet (fail)
                  go_wp2
                  go_roundw
                  case rel => exact ⟨m + 1, by omega, by go_num, by rw [HV.out], hid (by repeat' (first | exact HBI.out | with_reducible refine bel_drewN ?_ _))⟩
                  case measure => simp [intOf]; omega
              · skip
                as_aux_lemma =>
                obtain rfl : ld = 2 := a2
                have HV : Hid (rn (m + 1) = rm) := hid (by rw [HRS2.out, if_neg (fun h => aw h.2), if_neg (by omega)]; omega)
                have ew : (lw == w) = false := by simpa using aw
                have ew2 : decide (lw = w) = false := decide_eq_false aw
                clear HRS2
                by_cases hk2 : kd = 2
                · obtain rfl : kd = 2 := hk2
                  by_cases hj : lj = j
                  · obtain rfl : j = lj := hj.symm
                    have ht : ¬ lt = t := fun h => hdb rfl rfl rfl h
                    have et : (lt == t) = false := by simpa using ht
                    have et2 : decide (lt = t) = false := decide_eq_false ht
                    clear hdb
                    go_upto_region 17 with (fail)
                    go_quiet (fail)
                    go_upto_region 19 with (fail)
                    go_quiet (fail)
                    go_upto_region 21 with (fail)
                    go_quiet (fail)
                    go_upto_region 23 with (fail)
                    go_quiet (fail)
                    go_wp2
                    go_roundw
                    case rel => exact ⟨m + 1, by omega, by go_num, by rw [HV.out], hid (by repeat' (first | exact HBI.out | with_reducible refine bel_drewN ?_ _))⟩
                    case measure => simp [intOf]; omega
                  · have ej : (lj == j) = false := by simpa using hj
                    have ej2 : decide (lj = j) = false := decide_eq_false hj
                    clear hdb
                    go_upto_region 17 with (fail)
                    go_quiet (fail)
                    go_upto_region 19 with (fail)
                    go_quiet (fail)
                    go_upto_region 21 with (fail)
                    go_quiet (fail)
                    go_upto_region 23 with (fail)
                    go_quiet (fail)
                    go_wp2
                    go_roundw
                    case rel => exact ⟨m + 1, by omega, by go_num, by rw [HV.out], hid (by repeat' (first | exact HBI.out | with_reducible refine bel_drewN ?_ _))⟩
                    case measure => simp [intOf]; omega
                · have ek : (kd == 2) = false := by simpa using hk2
                  have ek2 : decide (kd = 2) = false := decide_eq_false hk2
                  clear hdb
                  go_upto_region 17 with (fail)
                  go_quiet (fail)
                  go_upto_region 19 with (fail)
                  go_quiet (fail)
                  go_upto_region 21 with (fail)
                  go_quiet (fail)
                  go_upto_region 23 with (fail)
                  go_quiet (fail)
                  go_wp2
                  go_roundw
                  case rel => exact ⟨m + 1, by omega, by go_num, by rw [HV.out], hid (by repeat' (first | exact HBI.out | with_reducible refine bel_drewN ?_ _))⟩
                  case measure => simp [intOf]; omega
            · by_cases a3 : ld = 3
              · by_cases aw : lw = w
                · skip
                  as_aux_lemma =>
                  obtain rfl : ld = 3 := a3
                  obtain rfl : w = lw := aw.symm
                  have HV : Hid (rn (m + 1) = rm - 1) := hid (by rw [HRS2.out, if_neg (by omega), if_pos ⟨rfl, rfl⟩]; omega)
                  clear HRS2
                  by_cases hk2 : kd = 2
                  · obtain rfl : kd = 2 := hk2
                    clear hdb
                    go_upto_region 17 with (fail)
                    go_quiet (fail)
                    go_upto_region 19 with (fail)
                    go_quiet (fail)
                    go_upto_region 21 with (fail)
                    go_quiet (fail)
                    go_upto_region 23 with (fail)
                    go_quiet (fail)
                    go_wp2
                    go_roundw
                    case rel => exact ⟨m + 1, by omega, by go_num, by rw [HV.out], hid (by repeat' (first | exact HBI.out | with_reducible refine bel_drewN ?_ _))⟩
                    case measure => simp [intOf]; omega
                  · have ek : (kd == 2) = false := by simpa using hk2
                    have ek2 : decide (kd = 2) = false := decide_eq_false hk2
                    clear hdb
                    go_upto_region 17 with (fail)
                    go_quiet (fail)
                    go_upto_region 19 with (fail)
                    go_quiet (fail)
                    go_upto_region 21 with (fail)
                    go_quiet (fail)
                    go_upto_region 23 with (fail)
                    go_quiet (fail)
                    go_wp2
                    go_roundw
                    case rel => exact ⟨m + 1, by omega, by go_num, by rw [HV.out], hid (by repeat' (first | exact HBI.out | with_reducible refine bel_drewN ?_ _))⟩
                    case measure => simp [intOf]; omega
                · skip
                  as_aux_lemma =>
                  obtain rfl : ld = 3 := a3
                  have HV : Hid (rn (m + 1) = rm) := hid (by rw [HRS2.out, if_neg (by omega), if_neg (fun h => aw h.2)]; omega)
                  have ew : (lw == w) = false := by simpa using aw
                  have ew2 : decide (lw = w) = false := decide_eq_false aw
                  clear HRS2
                  by_cases hk2 : kd = 2
                  · obtain rfl : kd = 2 := hk2
                    clear hdb
                    go_upto_region 17 with (fail)
                    go_quiet (fail)
                    go_upto_region 19 with (fail)
                    go_quiet (fail)
                    go_upto_region 21 with (fail)
                    go_quiet (fail)
                    go_upto_region 23 with (fail)
                    go_quiet (fail)
                    go_wp2
                    go_roundw
                    case rel => exact ⟨m + 1, by omega, by go_num, by rw [HV.out], hid (by repeat' (first | exact HBI.out | with_reducible refine bel_drewN ?_ _))⟩
                    case measure => simp [intOf]; omega
                  · have ek : (kd == 2) = false := by simpa using hk2
                    have ek2 : decide (kd = 2) = false := decide_eq_false hk2
                    clear hdb
                    go_upto_region 17 with (fail)
                    go_quiet (fail)
                    go_upto_region 19 with (fail)
                    go_quiet (fail)
                    go_upto_region 21 with (fail)
                    go_quiet (fail)
                    go_upto_region 23 with (fail)
                    go_quiet (fail)
                    go_wp2
                    go_roundw
                    case rel => exact ⟨m + 1, by omega, by go_num, by rw [HV.out], hid (by repeat' (first | exact HBI.out | with_reducible refine bel_drewN ?_ _))⟩
                    case measure => simp [intOf]; omega
              · skip
                as_aux_lemma =>
                have HV : Hid (rn (m + 1) = rm) := hid (by rw [HRS2.out, if_neg (by omega), if_neg (by omega)]; omega)
                have e2 : (ld == 2) = false := by simpa using a2
                have e22 : decide (ld = 2) = false := decide_eq_false a2
                have e3 : (ld == 3) = false := by simpa using a3
                have e32 : decide (ld = 3) = false := decide_eq_false a3
                clear HRS2
                by_cases hk2 : kd = 2
                · obtain rfl : kd = 2 := hk2
                  clear hdb
                  go_upto_region 17 with (fail)
                  go_quiet (fail)
                  go_upto_region 19 with (fail)
                  go_quiet (fail)
                  go_upto_region 21 with (fail)
                  go_quiet (fail)
                  go_upto_region 23 with (fail)
                  go_quiet (fail)
                  go_wp2
                  go_roundw
                  case rel => exact ⟨m + 1, by omega, by go_num, by rw [HV.out], hid (by repeat' (first | exact HBI.out | with_reducible refine bel_drewN ?_ _))⟩
                  case measure => simp [intOf]; omega
                · have ek : (kd == 2) = false := by simpa using hk2
                  have ek2 : decide (kd = 2) = false := decide_eq_false hk2
                  clear hdb
                  go_upto_region 17 with (fail)
                  go_quiet (fail)
                  go_upto_region 19 with (fail)
                  go_quiet (fail)
                  go_upto_region 21 with (fail)
                  go_quiet (fail)
                  go_upto_region 23 with (fail)
                  go_quiet (fail)
                  go_wp2
                  go_roundw
                  case rel => exact ⟨m + 1, by omega, by go_num, by rw [HV.out], hid (by repeat' (first | exact HBI.out | with_reducible refine bel_drewN ?_ _))⟩
                  case measure => simp [intOf]; omega
          · obtain rfl : m = D.length := by omega
            have hge : ¬ (D.length : Int) < (D.length : Int) := by omega
            have HBI2 := hid (HB5.out.trans (HBI.out.mono HB5.out.size))
            have HBI3 := hid (HB5'.out.trans (HBI.out.mono HB5'.out.size))
            have HX6 := hid (keep0 HX.out HBI.out)
            have HC6 := hid (keep0 HC5.out HBI.out)
            have HD6 := hid (own_keep HD5.out HBI.out)
            have HZR6 := hid (HZR5.out.keep HBI.out)
            have hrd := HRE.out
            generalize rn D.length = rd at *
            have HRD := hid hrd
            clear hrd HRE HRS HRB HFN HDB HR0 HDL HX HC5 HD5 HZR5 HB5 HB5' HBI
            obtain ⟨x0, x1, x2, x3⟩ := four_cellsE HX6.out
            have hk9 := HK9.out
            try simp only at hk9
            clear HK9
            rcases hk9 with rfl | rfl | rfl
            · skip
              as_aux_lemma =>
              clear x0 x1 x2 x3
              obtain ⟨x0, x1, x2, x3⟩ := four_cellsE HX6.out
              go_upto_region 29 with (fail)
              clear x0 x1 x2 x3
              have hal := bel_alloc (RowKit.Below.refl _ wr) (.cells #[.int .i64 1, .int .i64 j, .int .i64 t, .int .i64 w] 37)
              have hdz := HI.out.2.2.2
              have HZA := hid (HZR6.out.keep hal)
              have HDA := hid (own_keep HD6.out hal)
              obtain ⟨x0, x1, x2, x3⟩ := four_cellsE HX6.out
              have HBA := hid (HBI3.out.trans (hal.mono HBI3.out.size))
              clear hal
              go_wp2_with (at_builtin; refine wpList_append_slw rfl (.tmp 188) (.tmp 190) 29 rfl w2.heap.size 37 Tryd.underlying29 info_ev rfl (by omega) rfl HDA.out rfl (Sl.lit wr 37 4 1 #[.int .i64 1, .int .i64 j, .int .i64 t, .int .i64 w] rfl (by unfold maxLen; omega)) (by simp [Value.oneCell']) (by unfold maxLen; omega) (by omega) HBA.out.size ?_)
              intro v' w9 h2 ht h4
              have HRW := hid (RowBk.tch HZA.out HDA.out ht)
              have HBW9 := hid (HBA.out.trans (ht.below w2.heap.size (fun g hg _ => (own_lt HDA.out g hg).1) HBA.out.size))
              obtain ⟨A9, c9, rfl, _⟩ := Sl.of_own h2
              have HOW : Hid (w9.ownsRow w2.heap.size 37 4 (.slice A9 (D ++ [(⟨1, j, t, w⟩ : Ev)]).length c9) (D ++ [(⟨1, j, t, w⟩ : Ev)]).length (gcells evl (D ++ [(⟨1, j, t, w⟩ : Ev)]))) := hid (by rw [List.length_append, gcells_snoc]; exact h2)
              clear h2 ht h4 HZA HDA HBA x0 x1 x2 x3
              go_wp2
              go_roundw
              case rel => exact ⟨n + 1, A5, A9, c5, c9, zs, D ++ [(⟨1, j, t, w⟩ : Ev)], by omega, by go_num, rfl, by rw [List.length_append]; rfl, hid ⟨HRW.out, HOW.out⟩, hid ⟨by rw [HZ1.out]; exact HNE.out.1, by rw [HZ1.out]; exact HNE.out.2.1, by rw [HZ1.out]; exact HNE.out.2.2, by rw [List.length_append]; simp; omega⟩, HBW9⟩
              case measure => simp [intOf]; omega
            · skip
              as_aux_lemma =>
              have h29 := HO2.out _ D j t w HI.out.2.1 HI.out.2.2.1 HP.out
              rw [← HRD.out] at h29
              have HAC := hid (HOA.out _ D 2 j t w HI.out.2.1 HP.out (by omega))
              obtain ⟨h2a, hw0, hw1, hw2⟩ := h29
              clear h2a
              obtain ⟨wn, rfl⟩ := Int.eq_ofNat_of_zero_le hw0
              try simp only at hw1 hw2
              rw [Int.toNat_natCast] at hw2
              have hwl : wn < ws.length := by omega
              obtain ⟨c0', c1', c2', c3', c4', c5', c6'⟩ := seven_cellsJ HC6.out
              have hWk := HWS.out wr HBI2.out
              try simp only at hWk
              obtain ⟨bw, ow, hKA, hkx⟩ := hWk.2.2.2 (by rw [gcells_length (f := wkc) (n := 3) (fun _ => rfl)]; omega)
              clear hkx
              subst hKA
              have cw := hWk.wk0 wn hwl
              clear hWk
              generalize (ws.getD wn (0, 0, 0)).1 = sl at *
              have hw3 : ¬ (wn : Int) < 0 := by omega
              have hw4 : ¬ (wn : Int) ≥ (ws.length : Int) := by omega
              have hw5 : ¬ rd ≥ sl := by omega
              go_upto_region 27 with (fail)
              clear c0' c1' c2' c3' c4' c5' c6' cw
              go_wp2_with fail
              refine (has_yes A2 c2 D 1 j 0 0 wr (sl_own HD6.out) HAC.out).mono ?_
              rintro e w8 ⟨rfl, hb⟩
              have HX8 := hid (keep0 HX6.out hb)
              have HD8 := hid (own_keep HD6.out hb)
              have HZR8 := hid (HZR6.out.keep hb)
              have HBI38 := hid (HBI3.out.trans (hb.mono HBI3.out.size))
              clear hb x0 x1 x2 x3
              obtain ⟨x0, x1, x2, x3⟩ := four_cellsE HX8.out
              go_upto_region 29 with (fail)
              clear x0 x1 x2 x3
              have hal := bel_alloc (RowKit.Below.refl _ w8) (.cells #[.int .i64 2, .int .i64 j, .int .i64 t, .int .i64 (wn : Int)] 37)
              have hdz := HI.out.2.2.2
              have HZA := hid (HZR8.out.keep hal)
              have HDA := hid (own_keep HD8.out hal)
              obtain ⟨x0, x1, x2, x3⟩ := four_cellsE HX8.out
              have HBA := hid (HBI38.out.trans (hal.mono HBI38.out.size))
              clear hal
              go_wp2_with (at_builtin; refine wpList_append_slw rfl (.tmp 188) (.tmp 190) 29 rfl w2.heap.size 37 Tryd.underlying29 info_ev rfl (by omega) rfl HDA.out rfl (Sl.lit w8 37 4 1 #[.int .i64 2, .int .i64 j, .int .i64 t, .int .i64 (wn : Int)] rfl (by unfold maxLen; omega)) (by simp [Value.oneCell']) (by unfold maxLen; omega) (by omega) HBA.out.size ?_)
              intro v' w9 h2 ht h4
              have HRW := hid (RowBk.tch HZA.out HDA.out ht)
              have HBW9 := hid (HBA.out.trans (ht.below w2.heap.size (fun g hg _ => (own_lt HDA.out g hg).1) HBA.out.size))
              obtain ⟨A9, c9, rfl, _⟩ := Sl.of_own h2
              have HOW : Hid (w9.ownsRow w2.heap.size 37 4 (.slice A9 (D ++ [(⟨2, j, t, (wn : Int)⟩ : Ev)]).length c9) (D ++ [(⟨2, j, t, (wn : Int)⟩ : Ev)]).length (gcells evl (D ++ [(⟨2, j, t, (wn : Int)⟩ : Ev)]))) := hid (by rw [List.length_append, gcells_snoc]; exact h2)
              clear h2 ht h4 HZA HDA HBA x0 x1 x2 x3
              go_wp2
              go_roundw
              case rel => exact ⟨n + 1, A5, A9, c5, c9, zs, D ++ [(⟨2, j, t, (wn : Int)⟩ : Ev)], by omega, by go_num, rfl, by rw [List.length_append]; rfl, hid ⟨HRW.out, HOW.out⟩, hid ⟨by rw [HZ1.out]; exact HNE.out.1, by rw [HZ1.out]; exact HNE.out.2.1, by rw [HZ1.out]; exact HNE.out.2.2, by rw [List.length_append]; simp; omega⟩, HBW9⟩
              case measure => simp [intOf]; omega
            · skip
              as_aux_lemma =>
              have HLA := hid (HO3.out _ D j t w HI.out.2.1 HP.out)
              have HAC := hid (HOA.out _ D 3 j t w HI.out.2.1 HP.out (by omega))
              go_upto_region 27 with (fail)
              go_wp2_with fail
              refine (has_yes A2 c2 D 2 j t w wr (sl_own HD6.out) HLA.out).mono ?_
              rintro e w7 ⟨rfl, hb⟩
              have HX7 := hid (keep0 HX6.out hb)
              have HD7 := hid (own_keep HD6.out hb)
              have HZR7 := hid (HZR6.out.keep hb)
              have HBI37 := hid (HBI3.out.trans (hb.mono HBI3.out.size))
              clear hb x0 x1 x2 x3
              obtain ⟨x0, x1, x2, x3⟩ := four_cellsE HX7.out
              go_wp2_with fail
              refine (has_yes A2 c2 D 1 j 0 0 w7 (sl_own HD7.out) HAC.out).mono ?_
              rintro e w8 ⟨rfl, hb⟩
              have HX8 := hid (keep0 HX7.out hb)
              have HD8 := hid (own_keep HD7.out hb)
              have HZR8 := hid (HZR7.out.keep hb)
              have HBI38 := hid (HBI37.out.trans (hb.mono HBI37.out.size))
              clear hb x0 x1 x2 x3
              obtain ⟨x0, x1, x2, x3⟩ := four_cellsE HX8.out
              go_upto_region 29 with (fail)
              clear x0 x1 x2 x3
              have hal := bel_alloc (RowKit.Below.refl _ w8) (.cells #[.int .i64 3, .int .i64 j, .int .i64 t, .int .i64 w] 37)
              have hdz := HI.out.2.2.2
              have HZA := hid (HZR8.out.keep hal)
              have HDA := hid (own_keep HD8.out hal)
              obtain ⟨x0, x1, x2, x3⟩ := four_cellsE HX8.out
              have HBA := hid (HBI38.out.trans (hal.mono HBI38.out.size))
              clear hal
              go_wp2_with (at_builtin; refine wpList_append_slw rfl (.tmp 188) (.tmp 190) 29 rfl w2.heap.size 37 Tryd.underlying29 info_ev rfl (by omega) rfl HDA.out rfl (Sl.lit w8 37 4 1 #[.int .i64 3, .int .i64 j, .int .i64 t, .int .i64 w] rfl (by unfold maxLen; omega)) (by simp [Value.oneCell']) (by unfold maxLen; omega) (by omega) HBA.out.size ?_)
              intro v' w9 h2 ht h4
              have HRW := hid (RowBk.tch HZA.out HDA.out ht)
              have HBW9 := hid (HBA.out.trans (ht.below w2.heap.size (fun g hg _ => (own_lt HDA.out g hg).1) HBA.out.size))
              obtain ⟨A9, c9, rfl, _⟩ := Sl.of_own h2
              have HOW : Hid (w9.ownsRow w2.heap.size 37 4 (.slice A9 (D ++ [(⟨3, j, t, w⟩ : Ev)]).length c9) (D ++ [(⟨3, j, t, w⟩ : Ev)]).length (gcells evl (D ++ [(⟨3, j, t, w⟩ : Ev)]))) := hid (by rw [List.length_append, gcells_snoc]; exact h2)
              clear h2 ht h4 HZA HDA HBA x0 x1 x2 x3
              go_wp2
              go_roundw
              case rel => exact ⟨n + 1, A5, A9, c5, c9, zs, D ++ [(⟨3, j, t, w⟩ : Ev)], by omega, by go_num, rfl, by rw [List.length_append]; rfl, hid ⟨HRW.out, HOW.out⟩, hid ⟨by rw [HZ1.out]; exact HNE.out.1, by rw [HZ1.out]; exact HNE.out.2.1, by rw [HZ1.out]; exact HNE.out.2.2, by rw [List.length_append]; simp; omega⟩, HBW9⟩
              case measure => simp [intOf]; omega
    · obtain rfl : n = evs.length := by omega
      have hge : ¬ (evs.length : Int) < (evs.length : Int) := by omega
      clear HI HO
      go_wp2_with (go_at_call 6; refine (HW.out _).mono ?_; rintro e w7 ⟨rfl, hb7⟩)
      go_ret
      exact ⟨rfl, HBW.out.trans (hb7.mono HBW.out.size)⟩
end Go.Proofs.YthohedadmfbahaaDoor
