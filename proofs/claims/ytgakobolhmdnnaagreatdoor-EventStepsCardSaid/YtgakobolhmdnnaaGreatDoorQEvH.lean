/- The document's Run, Long of layer 39: contracts. -/
import Derived.Test.YtgakobolhmdnnaaGreatDoorQEvG
namespace Go.Proofs.YtgakobolhmdnnaaGreatDoor
open Go.RowKit Go.Sort
set_option linter.unusedVariables false
set_option linter.unusedSimpArgs false

set_option maxRecDepth 20000 in
set_option maxHeartbeats 4000000 in
theorem rrun_any (x : Cf) (N : Option Addr) (nc : Nat) (K : Option Addr) (kc : Nat) (J : Option Addr) (jc : Nat) (js : List Jo) (L : Option Addr) (lc : Nat) (evs : List Ev) (W : World) (hC : CfAt W x N nc K kc) (hJ : InJs W J jc js) (hL : Sl W 4 L evs.length lc (gcells evl evs)) (hn : evs.length ≤ 60) (hs : SmJ js) (hw : x.ws.length ≤ 1000) :
    Calls Tryz.prog 18 #[.agg (cfc x N nc K kc), .slice J js.length jc, .slice L evs.length lc] W fun e w' => ∃ A' c' xs', e = .returned (.tuple #[.slice A' xs'.length c', .int .i64 ((runL x js [] evs).2 : Nat)]) ∧ xs'.map (·.1) = (runL x js [] evs).1 ∧ InBk w' A' c' xs' ∧ RowKit.Below W.heap.size W w' := by
  have HST9 := hid (fun u (hu : RowKit.Below W.heap.size W u) (S : Option Addr) (sc : Nat) (ys : List Ee) (e : Ev) (hy : InBk u S sc ys) (hyn : ys.length ≤ 100) (hyk : ∀ y ∈ ys, smE y.1) => show Calls Tryz.prog 11 #[.agg (cfc x N nc K kc), .slice J js.length jc, .slice S ys.length sc, .agg #[.int .i64 e.kd, .int .i64 e.j, .int .i64 e.t, .int .i64 e.w]] u fun q w' => ∃ A' c' zs, q = .returned (.tuple #[.slice A' zs.length c', .bool (posV x js (ys.map (·.1)) e)]) ∧ zs.map (·.1) = (if posV x js (ys.map (·.1)) e then aftV js (ys.map (·.1)) e else ys.map (·.1)) ∧ InBk w' A' c' zs ∧ RowKit.Below u.heap.size u w' from rstep_any x N nc K kc J jc js S sc ys e.kd e.j e.t e.w u (hC.below hu) (hJ.below hu) hy hs hyn hyk hw)
  have HEL := hid (fun u (hu : RowKit.Below W.heap.size W u) k (hk : k < evs.length) => Sl.gat (f := evl) (n := 4) evl_len (hL.below hu) k hk (by omega))
  have HOK := hid (fun b n e (h : OkL b n) (hp : posV x js b e = true) => aft_ok h hs hp)
  have HYE := hid (fun b n (hk : n < evs.length) h hp => runL_yes (x := x) (js := js) (b0 := []) (b := b) hk h hp)
  have HNO := hid (fun b n (hk : n < evs.length) h hp => runL_no (x := x) (js := js) (b0 := []) (b := b) hk h hp)
  have HEN := hid (fun b n (hk : evs.length ≤ n) h => runL_end (x := x) (js := js) (b0 := []) (b := b) hk h)
  have HST : Hid (runL x js [] evs = ((runL x js [] (evs.drop 0)).1, 0 + (runL x js [] (evs.drop 0)).2)) := hid (by rw [List.drop_zero, Nat.zero_add])
  clear hC hJ hL hs hw
  generalize runL x js = rl at *
  generalize posV x js = pV at *
  generalize aftV js = aV at *
  obtain ⟨RR, hRR⟩ : ∃ RR, rl [] evs = RR := ⟨_, rfl⟩
  have HRR := hid hRR
  rw [hRR]
  clear hRR
  obtain ⟨c0, le, ag, ro, ou, T, ws⟩ := x
  simp only [cfc] at *
  generalize js.length = jn at *
  go_enter Tryz.func18, Tryz.ntmps18
  go_upto_region 1 with (fail)
  refine at_world (fun u => u.heap[W.heap.size]? = some (.cells #[.int .i64 c0, .int .i64 le, .int .i64 ag, .int .i64 ro, .int .i64 ou, .slice N T.length nc, .slice K ws.length kc] 25 (0, 0)) ∧ RowKit.Below W.heap.size W u) ⟨heap_alloc_new _ _, bel_alloc (RowKit.Below.refl _ _) _⟩ ?_
  rintro w1 ⟨hq, hb⟩
  have HB1 := hid hb
  have HQ1 := hid hq
  clear hq hb
  generalize hQ : W.heap.size = Q at HQ1
  clear hQ
  go_wp2
  go_loopw [8, 9, 10, 11] (fun v i _ _ wr => ∃ (n : Nat) (A' : Option Addr) (c' : Nat) (ys : List Ee), n ≤ evs.length ∧ i = .int .i64 (n : Int) ∧ v = .slice A' ys.length c' ∧ Hid (InBk wr A' c' ys ∧ OkL (ys.map (·.1)) n ∧ rl [] evs = ((rl (ys.map (·.1)) (evs.drop n)).1, n + (rl (ys.map (·.1)) (evs.drop n)).2)) ∧ Hid (RowKit.Below w1.heap.size w1 wr)) (fun _ i _ _ _ => evs.length - (intOf i).toNat)
  case atStart => exact ⟨0, none, 0, [], by omega, rfl, rfl, ⟨⟨Sl.nil _ _ _ _ (Nat.zero_le _), by simp⟩, ⟨by simp, by simp⟩, HST.out⟩, RowKit.Below.refl _ _⟩
  case round =>
    obtain ⟨n, A', c', ys, hn9, rfl, rfl, HI, HB⟩ := hrel
    have HBW := hid (HB1.out.trans (HB.out.mono HB1.out.size))
    have HQ2 := hid (keep0 HQ1.out HB.out)
    by_cases hlt : n < evs.length
    · have hlt2 : (n : Int) < (evs.length : Int) := by omega
      have hn0 : ¬ (n : Int) < 0 := by omega
      have HEV := hid (fun u (hu : RowKit.Below wr.heap.size wr u) => HEL.out u (HBW.out.trans (hu.mono HBW.out.size)) n hlt)
      obtain ⟨b, off, hA, _⟩ := HEV.out wr (RowKit.Below.refl _ _)
      subst hA
      have hyl : ys.length ≤ 100 := by have := HI.out.2.1.1; rw [List.length_map] at this; omega
      have hyk : ∀ y ∈ ys, smE y.1 := fun y hy => HI.out.2.1.2 _ (List.mem_map.2 ⟨y, hy, rfl⟩)
      have HST2 := hid (fun u (hu : RowKit.Below wr.heap.size wr u) => HST9.out u (HBW.out.trans (hu.mono HBW.out.size)) A' c' ys evs[n] (HI.out.1.below hu) hyl hyk)
      have HYE2 := hid (fun hp => HYE.out (ys.map (·.1)) n hlt HI.out.2.2 hp)
      have HNO2 := hid (fun hp => HNO.out (ys.map (·.1)) n hlt HI.out.2.2 hp)
      have HOK2 := hid (fun (hp : pV (ys.map (·.1)) evs[n] = true) => HOK.out (ys.map (·.1)) n evs[n] HI.out.2.1 hp)
      clear hyk
      generalize evs[n] = ev at *
      obtain ⟨kd, j, t, w⟩ := ev
      simp only [evl] at HEV HST2
      have hS : ∀ U, RowKit.Below wr.heap.size wr U → (((U.cell? ⟨Q, 0, none⟩ = some (.int .i64 c0) ∧ U.cell? ⟨Q, 1, none⟩ = some (.int .i64 le) ∧ U.cell? ⟨Q, 2, none⟩ = some (.int .i64 ag) ∧ U.cell? ⟨Q, 3, none⟩ = some (.int .i64 ro) ∧ U.cell? ⟨Q, 4, none⟩ = some (.int .i64 ou) ∧ U.cell? ⟨Q, 5, none⟩ = some (.slice N T.length nc) ∧ U.cell? ⟨Q, 6, none⟩ = some (.slice K ws.length kc)) ∧ (U.cell? ⟨b, off + n * 4, none⟩ = some (.int .i64 kd) ∧ U.cell? ⟨b, off + n * 4 + 1, none⟩ = some (.int .i64 j) ∧ U.cell? ⟨b, off + n * 4 + 2, none⟩ = some (.int .i64 t) ∧ U.cell? ⟨b, off + n * 4 + 3, none⟩ = some (.int .i64 w))) ∧ RowKit.Below wr.heap.size wr U) := fun U hU => ⟨⟨seven_cellsJ (keep0 HQ2.out hU), by
        obtain ⟨b7, o7, h7, hc⟩ := HEV.out U hU
        cases h7
        exact ⟨hc 0 _ rfl, hc 1 _ rfl, hc 2 _ rfl, hc 3 _ rfl⟩⟩, hU⟩
      go_upto_region 5 with (fail)
      have hu0 : RowKit.Below wr.heap.size wr wr.drew := below_drew (RowKit.Below.refl _ _)
      refine wp_region_held_drew (S := fun U => ((U.cell? ⟨Q, 0, none⟩ = some (.int .i64 c0) ∧ U.cell? ⟨Q, 1, none⟩ = some (.int .i64 le) ∧ U.cell? ⟨Q, 2, none⟩ = some (.int .i64 ag) ∧ U.cell? ⟨Q, 3, none⟩ = some (.int .i64 ro) ∧ U.cell? ⟨Q, 4, none⟩ = some (.int .i64 ou) ∧ U.cell? ⟨Q, 5, none⟩ = some (.slice N T.length nc) ∧ U.cell? ⟨Q, 6, none⟩ = some (.slice K ws.length kc)) ∧ (U.cell? ⟨b, off + n * 4, none⟩ = some (.int .i64 kd) ∧ U.cell? ⟨b, off + n * 4 + 1, none⟩ = some (.int .i64 j) ∧ U.cell? ⟨b, off + n * 4 + 2, none⟩ = some (.int .i64 t) ∧ U.cell? ⟨b, off + n * 4 + 3, none⟩ = some (.int .i64 w))) ∧ RowKit.Below wr.heap.size wr U) (by kernel_rfl) (hS _ hu0) (fun hHeld => ?_)
      generalize wr.drew = u0 at *
      refine wpAnyH_take (i := 0) (v := ?_) rfl (by kernel_rfl) (by kernel_rfl) (by kernel_rfl) (fun _ _ _ h => h) (Or.inl ⟨by rfl, ?_⟩) (by assumption) ?_
      rotate_left
      focus
        intro U hU
        try dsimp only at hU
        go_simp
        try (with_reducible rfl)
      simp only [List.getElem_toArray, List.getElem_cons_succ, List.getElem_cons_zero, Act.put, List.setIfInBounds_toArray, List.set_cons_zero, List.set_cons_succ]
      refine wpAnyH_take (i := 1) (v := ?_) rfl (by kernel_rfl) (by kernel_rfl) (by kernel_rfl) (fun _ _ _ h => h) (Or.inl ⟨by rfl, ?_⟩) (by assumption) ?_
      rotate_left
      focus
        intro U hU
        try dsimp only at hU
        go_simp
        try (with_reducible rfl)
      simp only [List.getElem_toArray, List.getElem_cons_succ, List.getElem_cons_zero, Act.put, List.setIfInBounds_toArray, List.set_cons_zero, List.set_cons_succ]
      refine wpAnyH_take (i := 2) (v := ?_) rfl (by kernel_rfl) (by kernel_rfl) (by kernel_rfl) (fun _ _ _ h => h) (Or.inl ⟨by rfl, ?_⟩) (by assumption) ?_
      rotate_left
      focus
        intro U hU
        try dsimp only at hU
        go_simp
        try (with_reducible rfl)
      simp only [List.getElem_toArray, List.getElem_cons_succ, List.getElem_cons_zero, Act.put, List.setIfInBounds_toArray, List.set_cons_zero, List.set_cons_succ]
      refine wpAnyH_take (i := 3) (v := ?_) rfl (by kernel_rfl) (by kernel_rfl) (by kernel_rfl) (fun _ _ _ h => h) (Or.inl ⟨by rfl, ?_⟩) (by assumption) ?_
      rotate_left
      focus
        intro U hU
        try dsimp only at hU
        go_simp
        try (with_reducible rfl)
      simp only [List.getElem_toArray, List.getElem_cons_succ, List.getElem_cons_zero, Act.put, List.setIfInBounds_toArray, List.set_cons_zero, List.set_cons_succ]
      refine wpAnyH_take (i := 4) (v := ?_) rfl (by kernel_rfl) (by kernel_rfl) (by kernel_rfl) (fun _ _ _ h => h) (Or.inl ⟨by rfl, ?_⟩) (by assumption) ?_
      rotate_left
      focus
        intro U hU
        try dsimp only at hU
        go_simp
        try (with_reducible rfl)
      simp only [List.getElem_toArray, List.getElem_cons_succ, List.getElem_cons_zero, Act.put, List.setIfInBounds_toArray, List.set_cons_zero, List.set_cons_succ]
      refine wpAnyH_take (i := 5) (v := ?_) rfl (by kernel_rfl) (by kernel_rfl) (by kernel_rfl) (fun _ _ _ h => h) (Or.inl ⟨by rfl, ?_⟩) (by assumption) ?_
      rotate_left
      focus
        intro U hU
        try dsimp only at hU
        go_simp
        try (with_reducible rfl)
      simp only [List.getElem_toArray, List.getElem_cons_succ, List.getElem_cons_zero, Act.put, List.setIfInBounds_toArray, List.set_cons_zero, List.set_cons_succ]
      refine wpAnyH_take (i := 6) (v := ?_) rfl (by kernel_rfl) (by kernel_rfl) (by kernel_rfl) (fun _ _ _ h => h) (Or.inl ⟨by rfl, ?_⟩) (by assumption) ?_
      rotate_left
      focus
        intro U hU
        try dsimp only at hU
        go_simp
        try (with_reducible rfl)
      simp only [List.getElem_toArray, List.getElem_cons_succ, List.getElem_cons_zero, Act.put, List.setIfInBounds_toArray, List.set_cons_zero, List.set_cons_succ]
      refine wpAnyH_ready (rs := [7]) (by kernel_rfl) (by simp) ?_
      refine AllReadyH.cons rfl (fun K hK => ?_) AllReadyH.nil
      simp only [List.getElem_toArray, List.getElem_cons_succ, List.getElem_cons_zero]
      go_simp
      refine (HST2.out _ hu0).mono ?_
      rintro q u1 ⟨A5, c5, zs, rfl, hzs, hin, hb1⟩
      have hu1 : RowKit.Below wr.heap.size wr u1 := hu0.trans (hb1.mono hu0.size)
      have HZ := hid (And.intro hzs hin)
      clear hb1 hzs hin
      go_wp2_with fail
      refine hK.out _ _ ?_ (fun hHeld2 => ?_)
      focus
        exact hS _ (by with_reducible assumption)
      clear hHeld
      have hHeld := hHeld2
      clear hHeld2 hK K
      try simp only [List.getElem_toArray, List.getElem_cons_succ, List.getElem_cons_zero, Act.put, List.setIfInBounds_toArray, List.set_cons_zero, List.set_cons_succ]
      refine wpAnyH_take (i := 8) (v := ?_) rfl (by kernel_rfl) (by kernel_rfl) (by kernel_rfl) (fun _ _ _ h => h) (Or.inl ⟨by rfl, ?_⟩) (by assumption) ?_
      rotate_left
      focus
        intro U hU
        try dsimp only at hU
        go_simp
        try (with_reducible rfl)
      simp only [List.getElem_toArray, List.getElem_cons_succ, List.getElem_cons_zero, Act.put, List.setIfInBounds_toArray, List.set_cons_zero, List.set_cons_succ]
      refine wpAnyH_take (i := 9) (v := ?_) rfl (by kernel_rfl) (by kernel_rfl) (by kernel_rfl) (fun _ _ _ h => h) (Or.inl ⟨by rfl, ?_⟩) (by assumption) ?_
      rotate_left
      focus
        intro U hU
        try dsimp only at hU
        go_simp
        try (with_reducible rfl)
      simp only [List.getElem_toArray, List.getElem_cons_succ, List.getElem_cons_zero, Act.put, List.setIfInBounds_toArray, List.set_cons_zero, List.set_cons_succ]
      refine wpAnyH_take (i := 10) (v := ?_) rfl (by kernel_rfl) (by kernel_rfl) (by kernel_rfl) (fun _ _ _ h => h) (Or.inl ⟨by rfl, ?_⟩) (by assumption) ?_
      rotate_left
      focus
        intro U hU
        try dsimp only at hU
        go_simp
        try (with_reducible rfl)
      simp only [List.getElem_toArray, List.getElem_cons_succ, List.getElem_cons_zero, Act.put, List.setIfInBounds_toArray, List.set_cons_zero, List.set_cons_succ]
      refine wpAnyH_take (i := 11) (v := ?_) rfl (by kernel_rfl) (by kernel_rfl) (by kernel_rfl) (fun _ _ _ h => h) (Or.inl ⟨by rfl, ?_⟩) (by assumption) ?_
      rotate_left
      focus
        intro U hU
        try dsimp only at hU
        go_simp
        try (with_reducible rfl)
      simp only [List.getElem_toArray, List.getElem_cons_succ, List.getElem_cons_zero, Act.put, List.setIfInBounds_toArray, List.set_cons_zero, List.set_cons_succ]
      refine wpAnyH_take (i := 12) (v := ?_) rfl (by kernel_rfl) (by kernel_rfl) (by kernel_rfl) (fun _ _ _ h => h) (Or.inl ⟨by rfl, ?_⟩) (by assumption) ?_
      rotate_left
      focus
        intro U hU
        try dsimp only at hU
        go_simp
        try (with_reducible rfl)
      simp only [List.getElem_toArray, List.getElem_cons_succ, List.getElem_cons_zero, Act.put, List.setIfInBounds_toArray, List.set_cons_zero, List.set_cons_succ]
      refine wpAnyH_done (by kernel_rfl) ?_ _
      clear hHeld hS
      have HU1 := hid hu1
      have HB9 := hid (HB.out.trans (hu1.mono HB.out.size))
      clear hu1 hu0 HEV
      cases hpv : pV (ys.map (·.1)) ⟨kd, j, t, w⟩ with
      | false =>
        have HE := hid (HNO2.out hpv)
        have hRRv : RR = (ys.map (·.1), n) := by rw [← HRR.out]; exact HE.out
        have HRV := hid hRRv
        clear hpv hRRv HYE2 HNO2 HOK2 HST2
        go_wp2
        refine bodyPost_ret (v := .tuple #[.slice A' ys.length c', .int .i64 (n : Int)]) (by simp [results, Tryz.results18, go_sem]) rfl ⟨A', c', ys, ?_, ?_, HI.out.1.below HU1.out, HBW.out.trans (HU1.out.mono HBW.out.size)⟩
        · rw [HRV.out]
        · rw [HRV.out]
      | true =>
        have HE := hid (HYE2.out hpv)
        have HO9 := hid (HOK2.out hpv)
        have hz1 := HZ.out.1
        rw [hpv, if_pos rfl] at hz1
        have HZ1 := hid hz1
        clear hpv HYE2 HNO2 HOK2 HST2 hz1
        go_wp2
        go_roundw
        case rel => exact ⟨n + 1, A5, c5, zs, by omega, by go_num, rfl, hid ⟨HZ.out.2, by rw [HZ1.out]; exact HO9.out, by rw [HZ1.out]; exact HE.out⟩, HB9⟩
        case measure => simp [intOf]; omega
    · have hge : ¬ (n : Int) < (evs.length : Int) := by omega
      obtain rfl : n = evs.length := by omega
      have HE := hid (HEN.out (ys.map (·.1)) _ (Nat.le_refl _) HI.out.2.2)
      have hRRv : RR = (ys.map (·.1), evs.length) := by rw [← HRR.out]; exact HE.out
      have HRV := hid hRRv
      clear hRRv HE
      go_wp2
      refine bodyPost_ret (v := .tuple #[.slice A' ys.length c', .int .i64 (evs.length : Int)]) (by simp [results, Tryz.results18, go_sem]) rfl ⟨A', c', ys, ?_, ?_, HI.out.1, HBW.out⟩
      · rw [HRV.out]
      · rw [HRV.out]

/-- Are jobs more than are looked at, or longer? -/
def longJs (js : List Jo) : Bool := js.any (fun x => longB x.ns 20 300) || decide (20 < js.length)
theorem longJs_yes {js : List Jo} {k : Nat} (hk : k < js.length) (h : longB js[k].ns 20 300 = true) : longJs js = true := by
  unfold longJs
  rw [Bool.or_eq_true]
  exact .inl (List.any_eq_true.2 ⟨_, List.getElem_mem hk, h⟩)
theorem longJs_end {js : List Jo} (h : ∀ k (hk : k < js.length), longB js[k].ns 20 300 = false) : longJs js = decide (20 < js.length) := by
  unfold longJs
  have h9 : js.any (fun x => longB x.ns 20 300) = false := by
    rw [List.any_eq_false]
    intro x hx
    obtain ⟨k, hk, rfl⟩ := List.getElem_of_mem hx
    rw [h k hk]; simp
  rw [h9, Bool.false_or]
theorem longJs_sm {js : List Jo} (h : longJs js = false) : js.length ≤ 20 ∧ SmJ js := by
  unfold longJs at h
  rw [Bool.or_eq_false_iff, decide_eq_false_iff_not, List.any_eq_false] at h
  refine ⟨by omega, fun y hy => ?_⟩
  have h9 := h.1 y hy
  obtain ⟨h1, h2⟩ := longB_no (l := y.ns) (most := 20) (each := 300) (by simpa using h9)
  exact ⟨by omega, fun s hs => by have := h1 s hs; omega⟩

set_option maxRecDepth 20000 in
set_option maxHeartbeats 1000000 in
theorem long39_any (J : Option Addr) (jc : Nat) (js : List Jo) (W : World) (hJ : InJs W J jc js) :
    Calls Tryz.prog 6 #[.slice J js.length jc] W fun e w' => e = .returned (.bool (longJs js)) ∧ W = w' := by
  have HJ := hid hJ
  have hjl : js.length ≤ 9223372036854775807 := by have := hJ.len; unfold maxLen at this; omega
  have HY := hid (fun k (hk : k < js.length) h => longJs_yes (js := js) hk h)
  have HE := hid (fun h => longJs_end (js := js) h)
  obtain ⟨R, hR⟩ : ∃ R, longJs js = R := ⟨_, rfl⟩
  rw [hR] at HY HE ⊢
  clear hJ hR
  go_enter Tryz.func6, Tryz.ntmps6
  go_wp2
  go_loopw [3] (fun i wr => ∃ n : Nat, n ≤ js.length ∧ i = .int .i64 (n : Int) ∧ Hid (∀ k (hk : k < js.length), k < n → longB js[k].ns 20 300 = false) ∧ W = wr) (fun i _ => js.length - (intOf i).toNat)
  case atStart => exact ⟨0, by omega, rfl, fun k hk h => absurd h (by omega), rfl⟩
  case round =>
    obtain ⟨n, hn9, rfl, HT, rfl⟩ := hrel
    by_cases hlt : n < js.length
    · have hlt2 : (n : Int) < (js.length : Int) := by omega
      have hn0 : ¬ (n : Int) < 0 := by omega
      obtain ⟨b, off, hA, q0, q1⟩ := HJ.out.el n hlt
      subst hA
      have HL := hid (long_any js[n].A js[n].ns.length js[n].c js[n].ns 20 300 W (HJ.out.2 _ (List.getElem_mem hlt)).1 (HJ.out.2 _ (List.getElem_mem hlt)).2)
      have HY2 := hid (fun h => HY.out n hlt h)
      have HT2 := hid (fun (h : longB js[n].ns 20 300 = false) => show ∀ k (hk : k < js.length), k < n + 1 → longB js[k].ns 20 300 = false from fun k hk hkn => by
        by_cases h9 : k < n
        · exact HT.out k hk h9
        · obtain rfl : k = n := by omega
          exact h)
      generalize longB js[n].ns 20 300 = lb at *
      generalize js[n].ns.length = nn at *
      generalize js[n].A = Aj at *
      generalize js[n].c = cj at *
      generalize js[n].id = ij at *
      go_wp2_with fail
      refine HL.out.mono ?_
      rintro e w2 ⟨rfl, rfl⟩
      clear HL q0 q1
      cases lb with
      | true =>
        have HR9 := hid (HY2.out (by first | rfl | trivial))
        clear HY2 HT2
        go_wp2
        go_ret
        exact ⟨by rw [HR9.out]; rfl, rfl⟩
      | false =>
        have HT3 := hid (HT2.out (by first | rfl | trivial))
        clear HY2 HT2
        go_wp2
        go_roundw
        case rel => exact ⟨n + 1, by omega, by go_num, HT3.out, by trivial⟩
        case measure => simp [intOf]; omega
    · have hge : ¬ (n : Int) < (js.length : Int) := by omega
      have HR9 := hid (HE.out (fun k hk => HT.out k hk (by omega)))
      go_wp2
      go_ret
      exact ⟨by rw [HR9.out]; simp; omega, rfl⟩
end Go.Proofs.YtgakobolhmdnnaaGreatDoor
