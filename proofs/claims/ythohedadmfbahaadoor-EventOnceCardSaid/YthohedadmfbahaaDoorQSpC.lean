/- event.possible, event.after, event.Step at Accepted: contracts. -/
import Derived.Test.YthohedadmfbahaaDoorQSpB
namespace Go.Proofs.YthohedadmfbahaaDoor
open Go.RowKit Go.Sort
set_option linter.unusedVariables false
set_option linter.unusedSimpArgs false

theorem own_rep {w : World} {N n T b : Nat} {z : Value} {xs : List Value} (h : w.heap[N]? = some (.cells (Array.replicate n z) T (0, 0))) (hb : b ≤ N) (hm : n ≤ maxLen) (hx : xs = List.replicate n z) : w.ownsRow b T 1 (.slice (some ⟨N, 0, none⟩) n n) n xs := by
  subst hx
  exact ⟨by simp, .inr ⟨N, n, _, rfl, hb, h, Nat.le_refl _, hm, by simp, by simp⟩⟩
theorem sl_blk6 {w : World} {N t : Nat} {x0 x1 x2 x3 x4 x5 : Value} (h : w.heap[N]? = some (.cells #[x0, x1, x2, x3, x4, x5] t (0, 0))) : Sl w 6 (some ⟨N, 0, none⟩) 1 1 [x0, x1, x2, x3, x4, x5] :=
  ⟨rfl, Nat.le_refl _, by unfold maxLen; omega, fun _ => ⟨N, 0, rfl, fun i hi => by rw [Nat.zero_add, cell_of_row w N i _ t (0, 0) h]; simp⟩⟩
/-- The entry of a job that is accepted. -/
def newE (j : Int) (ns : List (List UInt8)) : En := ⟨j, 0, 1, ns, List.replicate ns.length 0, List.replicate ns.length false⟩

set_option maxRecDepth 20000 in
set_option maxHeartbeats 1000000 in
theorem possible1_any (x : Cf) (N : Option Addr) (nc : Nat) (K : Option Addr) (kc : Nat) (J : Option Addr) (jc : Nat) (js : List Jo) (S : Option Addr) (sc : Nat) (xs : List Ee) (j t w : Int) (W : World) (hC : CfAt W x N nc K kc) (hJ : InJs W J jc js) (hS : InBk W S sc xs) (hs : ∀ y ∈ js, ∀ s ∈ y.ns, s.length ≤ 1000) (hw : x.ws.length ≤ 1000) :
    Calls Tryd.prog 13 #[.agg (cfc x N nc K kc), .slice J js.length jc, .slice S xs.length sc, .agg #[.int .i64 1, .int .i64 j, .int .i64 t, .int .i64 w]] W fun e w' => e = .returned (.bool (accB x js (xs.map (·.1)) j t w)) ∧ Below W.heap.size W w' := by
  have HAC := hid (fun u (hu : Below W.heap.size W u) => accept_any x N nc K kc J jc js S sc xs 1 j t w u (hC.below hu) (hJ.below hu) (hS.below hu) hs hw)
  clear hC hJ hS hs hw
  generalize accB x js (xs.map (·.1)) j t w = R at *
  obtain ⟨c0, le, ag, ro, ou, T, ws⟩ := x
  simp only [cfc] at *
  generalize js.length = jn at *
  generalize xs.length = xn at *
  generalize T.length = tn at *
  generalize ws.length = wn at *
  go_enter Tryd.func13, Tryd.ntmps13
  go_upto_region 1 with (fail)
  refine at_world (fun u => u.heap[W.heap.size]? = some (.cells #[.int .i64 c0, .int .i64 le, .int .i64 ag, .int .i64 ro, .int .i64 ou, .slice N tn nc, .slice K wn kc] 25 (0, 0)) ∧ u.heap[W.heap.size + 1]? = some (.cells #[.int .i64 1, .int .i64 j, .int .i64 t, .int .i64 w] 37 (0, 0)) ∧ Below W.heap.size W u) (lay2E W _ _) ?_
  rintro w1 ⟨hq, hj, hb⟩
  have HB := hid hb
  obtain ⟨p0, p1, p2, p3⟩ := four_cellsE hj
  obtain ⟨q0, q1, q2, q3, q4, q5, q6⟩ := seven_cellsJ hq
  clear hq hj hb
  go_wp2_with fail
  refine (HAC.out _ HB.out).mono ?_
  rintro e w2 ⟨rfl, hb⟩
  have HB2 := hid (HB.out.trans (hb.mono HB.out.size))
  clear hb p0 p1 p2 p3 q0 q1 q2 q3 q4 q5 q6
  go_wp2
  go_ret
  exact ⟨rfl, HB2.out⟩

set_option maxRecDepth 20000 in
set_option maxHeartbeats 8000000 in
theorem after1_any (J : Option Addr) (jc : Nat) (js : List Jo) (A : Option Addr) (c : Nat) (xs : List Ee) (j t wk : Int) (b : Nat) (k : Nat) (W : World) (h : RowBk W b (.slice A xs.length c) xs) (hb : b ≤ W.heap.size) (hJ : InJs W J jc js) (hn : xs.length ≤ 100000) (hlk : ljI js j = (k : Int)) (hk : k < js.length) (hkl : js[k].ns.length ≤ 1000) (hks : ∀ s ∈ js[k].ns, s.length ≤ 1000) :
    Calls Tryd.prog 14 #[.slice J js.length jc, .slice A xs.length c, .agg #[.int .i64 1, .int .i64 j, .int .i64 t, .int .i64 wk]] W fun e w' => ∃ A' c' xs', e = .returned (.slice A' xs'.length c') ∧ xs'.map (·.1) = xs.map (·.1) ++ [newE j js[k].ns] ∧ RowBk w' b (.slice A' xs'.length c') xs' ∧ RowKit.Below b W w' := by
  have HPL := hid (fun w (hw : RowKit.Below W.heap.size W w) => eplace_any A c xs j w (h.inBk.below hw))
  have HLI := hid (fun u (hu : Below W.heap.size W u) => listed_any J jc js j u (hJ.below hu))
  rw [Hid, hlk] at HLI
  have HLI := hid HLI
  have HEL := hid (fun u (hu : Below W.heap.size W u) => (hJ.below hu).el k hk)
  have HTX := hid (fun u (hu : Below W.heap.size W u) => (hJ.below hu).2 _ (List.getElem_mem hk))
  have hk0 : ¬ (k : Int) < 0 := by omega
  have hkj : (k : Int) < (js.length : Int) := by omega
  have hjl : js.length ≤ 9223372036854775807 := by have := hJ.len; unfold maxLen at this; omega
  have HR := hid h
  have HNS := hid hks
  clear h hJ hlk hks
  generalize js[k].ns = ns at *
  generalize js[k].id = jid0 at *
  generalize js[k].A = Ax at *
  generalize js[k].c = cx at *
  clear hk
  generalize js.length = jn at *
  generalize plI (xs.map (·.1)) j = pli at *
  go_enter Tryd.func14, Tryd.ntmps14
  go_upto_region 1 with (fail)
  refine at_world (fun u => u.heap[W.heap.size]? = some (.cells #[.int .i64 1, .int .i64 j, .int .i64 t, .int .i64 wk] 37 (0, 0)) ∧ RowKit.Below W.heap.size W u) ⟨heap_alloc_new _ _, (RowKit.Below.refl _ _).alloc (Nat.le_refl _) _⟩ ?_
  rintro w1 ⟨hx1, hb1⟩
  obtain ⟨p0, p1, p2, p3⟩ := four_cellsE hx1
  have HX1 := hid hx1
  have HB1 := hid hb1
  clear hx1 hb1
  go_wp2_with fail
  refine (HPL.out w1 HB1.out).mono ?_
  rintro e w2 ⟨rfl, hb2⟩
  have HB2 := hid (HB1.out.trans (hb2.mono HB1.out.size))
  have HX2 := hid (keep0 HX1.out hb2)
  clear hb2 HB1 HX1 HPL p0 p1 p2 p3
  obtain ⟨p0, p1, p2, p3⟩ := four_cellsE HX2.out
  go_wp2_with fail
  refine (HLI.out w2 HB2.out).mono ?_
  rintro e w3 ⟨rfl, hb2⟩
  have HB3 := hid (HB2.out.trans (hb2.mono HB2.out.size))
  have HX3 := hid (keep0 HX2.out hb2)
  clear hb2 HB2 HX2 HLI p0 p1 p2 p3
  obtain ⟨jb, joff, hJ9, e0, e1⟩ := HEL.out w3 HB3.out
  subst hJ9
  have HT3 := hid (HTX.out w3 HB3.out)
  have HCS := hid (clone_strB Ax ns.length cx (scells ns) w3 (HT3.out.1) (scells_one _) (by omega))
  generalize hnl : ns.length = n at *
  have HNL := hid hnl
  clear hnl HTX HEL HT3
  go_wp2_with fail
  refine HCS.out.mono ?_
  rintro e w4 ⟨v2, rfl, gg, hsn⟩
  obtain ⟨A2, c2, rfl, _⟩ := Sl.of_own hsn
  have HSN := hid (own_mono hsn (Nat.le_trans hb HB3.out.size))
  have HB4 := hid (HB3.out.trans (gg.mono HB3.out.size))
  have HX4 := hid (keep0 HX3.out gg)
  have HR4 := hid (HR.out.keep HB4.out)
  have HSF : Hid (∀ y ∈ xs, (∀ g, blk y.2.B = some g → g < W.heap.size) ∧ (∀ g, blk y.2.D = some g → g < W.heap.size)) := hid (fun y hy => ⟨fun g hg => (blk_lt (HR.out.2.1 y hy).2.1 g hg).2, fun g hg => (blk_lt (HR.out.2.1 y hy).2.2 g hg).2⟩)
  have hbs : b ≤ w4.heap.size := Nat.le_trans hb HB4.out.size
  clear gg hsn HB3 HX3 HR HCS e0 e1
  have hmk1 := run_make_1 (P := Tryd.prog) 54 3 Tryd.underlying54 info_int rfl n n (Nat.le_refl _) (by omega) (by unfold maxLen; omega)
  have hmk2 := run_make_1 (P := Tryd.prog) 55 4 Tryd.underlying55 info_bool rfl n n (Nat.le_refl _) (by omega) (by unfold maxLen; omega)
  go_upto_region 5 with (fail)
  have hNlt : W.heap.size < w4.heap.size := lt_of_block HX4.out
  generalize hNN : W.heap.size = N at *
  have HNN := hid hNN
  clear hNN
  have hNG : ¬ (Value.slice A xs.length c).ownBlock = some N := fun h9 => own_apart_blk HR4.out.1 HX4.out (by decide) N h9 rfl
  have hS : ∀ U, Tch (fun q => (Value.slice A xs.length c).ownBlock = some q) w4 U → ((U.cell? ⟨N, 1, none⟩ = some (.int .i64 j)) ∧ Tch (fun q => (Value.slice A xs.length c).ownBlock = some q) w4 U) := fun U hU => by
    obtain ⟨_, h1, _, _⟩ := four_cellsE (hU.block HX4.out hNG)
    exact ⟨h1, hU⟩
  have hu0 : RowKit.Below w4.heap.size w4 w4.drew := below_drew (RowKit.Below.refl _ _)
  have hsn : w4.drew.ownsRow b 9 1 (.slice A2 n c2) n (scells ns) := own_keep HSN.out hu0
  clear HSN
  refine wp_region_held_drew (S := fun U => (U.cell? ⟨N, 1, none⟩ = some (.int .i64 j)) ∧ Tch (fun q => (Value.slice A xs.length c).ownBlock = some q) w4 U) (by kernel_rfl) (hS _ (Tch.of_below hu0)) (fun hHeld => ?_)
  generalize w4.drew = u0 at *
  refine wpAnyH_take (i := 0) (v := ?_) rfl (by kernel_rfl) (by kernel_rfl) (by kernel_rfl) (fun _ _ _ h => h) (Or.inl ⟨by rfl, ?_⟩) (by assumption) ?_
  rotate_left
  focus
    intro U hU
    try dsimp only at hU
    go_simp
    try (with_reducible rfl)
  simp only [List.getElem_toArray, List.getElem_cons_succ, List.getElem_cons_zero, Act.put, List.setIfInBounds_toArray, List.set_cons_zero, List.set_cons_succ]
  refine wpAnyH_take (i := 1) (v := ?_) rfl (by kernel_rfl) (by kernel_rfl) (by kernel_rfl) (fun _ _ _ h => h) (Or.inl ⟨by rfl, ?_⟩) (by assumption) ?_
  rotate_left
  focus
    intro U hU
    try dsimp only at hU
    go_simp
    try (with_reducible rfl)
  simp only [List.getElem_toArray, List.getElem_cons_succ, List.getElem_cons_zero, Act.put, List.setIfInBounds_toArray, List.set_cons_zero, List.set_cons_succ]
  refine wpAnyH_take (i := 2) (v := ?_) rfl (by kernel_rfl) (by kernel_rfl) (by kernel_rfl) (fun _ _ _ h => h) (Or.inl ⟨by rfl, ?_⟩) (by assumption) ?_
  rotate_left
  focus
    intro U hU
    try dsimp only at hU
    go_simp
    try (with_reducible rfl)
  simp only [List.getElem_toArray, List.getElem_cons_succ, List.getElem_cons_zero, Act.put, List.setIfInBounds_toArray, List.set_cons_zero, List.set_cons_succ]
  refine wpAnyH_take (i := 3) (v := ?_) rfl (by kernel_rfl) (by kernel_rfl) (by kernel_rfl) (fun _ _ _ h => h) (Or.inl ⟨by rfl, ?_⟩) (by assumption) ?_
  rotate_left
  focus
    intro U hU
    try dsimp only at hU
    go_simp
    try (with_reducible rfl)
  simp only [List.getElem_toArray, List.getElem_cons_succ, List.getElem_cons_zero, Act.put, List.setIfInBounds_toArray, List.set_cons_zero, List.set_cons_succ]
  refine wpAnyH_take (i := 4) (v := ?_) rfl (by kernel_rfl) (by kernel_rfl) (by kernel_rfl) (fun _ _ _ h => h) (Or.inl ⟨by rfl, ?_⟩) (by assumption) ?_
  rotate_left
  focus
    intro U hU
    try dsimp only at hU
    go_simp
    try (with_reducible rfl)
  simp only [List.getElem_toArray, List.getElem_cons_succ, List.getElem_cons_zero, Act.put, List.setIfInBounds_toArray, List.set_cons_zero, List.set_cons_succ]
  refine wpAnyH_take (i := 5) (v := ?_) rfl (by kernel_rfl) (by kernel_rfl) (by kernel_rfl) (fun _ _ _ h => h) (Or.inl ⟨by rfl, ?_⟩) (by assumption) ?_
  rotate_left
  focus
    intro U hU
    try dsimp only at hU
    go_simp
    try (with_reducible rfl)
  simp only [List.getElem_toArray, List.getElem_cons_succ, List.getElem_cons_zero, Act.put, List.setIfInBounds_toArray, List.set_cons_zero, List.set_cons_succ]
  refine wpAnyH_take (i := 7) (v := ?_) rfl (by kernel_rfl) (by kernel_rfl) (by kernel_rfl) (fun _ _ _ h => h) (Or.inl ⟨by rfl, ?_⟩) (by assumption) ?_
  rotate_left
  focus
    intro U hU
    try dsimp only at hU
    go_simp
    try (with_reducible rfl)
  simp only [List.getElem_toArray, List.getElem_cons_succ, List.getElem_cons_zero, Act.put, List.setIfInBounds_toArray, List.set_cons_zero, List.set_cons_succ]
  refine wpAnyH_take (i := 8) (v := ?_) rfl (by kernel_rfl) (by kernel_rfl) (by kernel_rfl) (fun _ _ _ h => h) (Or.inl ⟨by rfl, ?_⟩) (by assumption) ?_
  rotate_left
  focus
    intro U hU
    try dsimp only at hU
    go_simp
    try (with_reducible rfl)
  simp only [List.getElem_toArray, List.getElem_cons_succ, List.getElem_cons_zero, Act.put, List.setIfInBounds_toArray, List.set_cons_zero, List.set_cons_succ]
  refine wpAnyH_ready (rs := [6, 9]) (by kernel_rfl) (by simp) ?_
  refine (AllReadyH.cons rfl (fun K hK => ?_) (AllReadyH.cons rfl (fun K hK => ?_) AllReadyH.nil))
  · skip
    simp only [List.getElem_toArray, List.getElem_cons_succ, List.getElem_cons_zero]
    go_simp
    refine hK.out _ _ ?_ (fun hHeld2 => ?_)
    focus
      exact hS _ (Tch.of_below (hu0.alloc hu0.size _))
    clear hHeld
    have hHeld := hHeld2
    clear hHeld2 hK K
    try simp only [List.getElem_toArray, List.getElem_cons_succ, List.getElem_cons_zero, Act.put, List.setIfInBounds_toArray, List.set_cons_zero, List.set_cons_succ]
    have gg : RowKit.Below (World.heap u0).size u0 (World.alloc u0 (.cells (Array.replicate n (.int .i64 0)) 3 (0, 0))) := (RowKit.Below.refl _ _).alloc (Nat.le_refl _) _
    have hu1 := hu0.trans (gg.mono hu0.size)
    have hsb : (World.alloc u0 (.cells (Array.replicate n (.int .i64 0)) 3 (0, 0))).ownsRow w4.heap.size 3 1 (.slice (some ⟨(World.heap u0).size, 0, none⟩) n n) n (icells .i64 (List.replicate n 0)) := own_rep (heap_alloc_new u0 _) hu0.size (by unfold maxLen; omega) (by simp [icells, blcells])
    replace hsn := own_keep hsn gg
    clear gg
    generalize World.alloc u0 (.cells (Array.replicate n (.int .i64 0)) 3 (0, 0)) = u1 at *
    generalize (World.heap u0).size = M1 at *
    refine wpAnyH_ready (rs := [9]) (by kernel_rfl) (by simp) ?_
    refine (AllReadyH.cons rfl (fun K hK => ?_) AllReadyH.nil)
    simp only [List.getElem_toArray, List.getElem_cons_succ, List.getElem_cons_zero]
    go_simp
    refine hK.out _ _ ?_ (fun hHeld2 => ?_)
    focus
      exact hS _ (Tch.of_below (hu1.alloc hu1.size _))
    clear hHeld
    have hHeld := hHeld2
    clear hHeld2 hK K
    try simp only [List.getElem_toArray, List.getElem_cons_succ, List.getElem_cons_zero, Act.put, List.setIfInBounds_toArray, List.set_cons_zero, List.set_cons_succ]
    have gg : RowKit.Below (World.heap u1).size u1 (World.alloc u1 (.cells (Array.replicate n (.bool false)) 4 (0, 0))) := (RowKit.Below.refl _ _).alloc (Nat.le_refl _) _
    have hu2 := hu1.trans (gg.mono hu1.size)
    have hsd : (World.alloc u1 (.cells (Array.replicate n (.bool false)) 4 (0, 0))).ownsRow w4.heap.size 4 1 (.slice (some ⟨(World.heap u1).size, 0, none⟩) n n) n (blcells (List.replicate n false)) := own_rep (heap_alloc_new u1 _) hu1.size (by unfold maxLen; omega) (by simp [icells, blcells])
    replace hsn := own_keep hsn gg
    replace hsb := own_keep hsb gg
    clear gg
    generalize World.alloc u1 (.cells (Array.replicate n (.bool false)) 4 (0, 0)) = u2 at *
    generalize (World.heap u1).size = M2 at *
    refine wpAnyH_take (i := 10) (v := ?_) rfl (by kernel_rfl) (by kernel_rfl) (by kernel_rfl) (fun _ _ _ h => h) (Or.inl ⟨by rfl, ?_⟩) (by assumption) ?_
    rotate_left
    focus
      intro U hU
      try dsimp only at hU
      go_simp
      try (with_reducible rfl)
    simp only [List.getElem_toArray, List.getElem_cons_succ, List.getElem_cons_zero, Act.put, List.setIfInBounds_toArray, List.set_cons_zero, List.set_cons_succ]
    refine wpAnyH_ready (rs := [11]) (by kernel_rfl) (by simp) ?_
    refine (AllReadyH.cons rfl (fun K hK => ?_) AllReadyH.nil)
    simp only [List.getElem_toArray, List.getElem_cons_succ, List.getElem_cons_zero]
    go_simp
    refine hK.out _ _ ?_ (fun hHeld2 => ?_)
    focus
      exact hS _ (Tch.of_below (hu2.alloc hu2.size _))
    clear hHeld
    have hHeld := hHeld2
    clear hHeld2 hK K
    try simp only [List.getElem_toArray, List.getElem_cons_succ, List.getElem_cons_zero, Act.put, List.setIfInBounds_toArray, List.set_cons_zero, List.set_cons_succ]
    have gg : RowKit.Below (World.heap u2).size u2 (World.alloc u2 (.cells #[.int .i64 j, .int .i64 0, .int .i64 1, .slice A2 n c2, .slice (some ⟨M1, 0, none⟩) n n, .slice (some ⟨M2, 0, none⟩) n n] 57 (0, 0))) := (RowKit.Below.refl _ _).alloc (Nat.le_refl _) _
    have hu3 := hu2.trans (gg.mono hu2.size)
    have hx9 := heap_alloc_new u2 (.cells #[.int .i64 j, .int .i64 0, .int .i64 1, .slice A2 n c2, .slice (some ⟨M1, 0, none⟩) n n, .slice (some ⟨M2, 0, none⟩) n n] 57 (0, 0))
    replace hsn := own_keep hsn gg
    replace hsb := own_keep hsb gg
    replace hsd := own_keep hsd gg
    clear gg
    generalize World.alloc u2 (.cells #[.int .i64 j, .int .i64 0, .int .i64 1, .slice A2 n c2, .slice (some ⟨M1, 0, none⟩) n n, .slice (some ⟨M2, 0, none⟩) n n] 57 (0, 0)) = u3 at *
    generalize (World.heap u2).size = N9 at *
    refine wpAnyH_ready (rs := [12]) (by kernel_rfl) (by simp) ?_
    refine (AllReadyH.cons rfl (fun K hK => ?_) AllReadyH.nil)
    refine step_append_slw rfl (.tmp 26) (.tmp 37) 33 rfl b 57 Tryd.underlying33 info_entry rfl (by omega) rfl (own_keep HR4.out.1 hu3) rfl (sl_blk6 hx9) (by simp [Value.oneCell']) ?c1 ?c2 ?c3 ?_
    case c1 => unfold maxLen; omega
    case c2 => omega
    case c3 => have := hu3.size; omega
    intro v5 w6 ho5 ht5 hw5
    have hk6 : Tch (fun q => (Value.slice A xs.length c).ownBlock = some q) w4 w6 := (Tch.of_below hu3).trans ht5 (fun g hg _ => hg)
    have HOE : OwE u3 b (newE j ns, ⟨A2, c2, some ⟨M1, 0, none⟩, n, some ⟨M2, 0, none⟩, n⟩) := ⟨⟨by simpa [newE, HNL.out] using hsn, fun z hz => Nat.le_trans (HNS.out z (by simpa [newE] using hz)) (by unfold maxLen; omega)⟩, by simpa [newE, HNL.out] using own_mono hsb hbs, by simpa [newE, HNL.out] using own_mono hsd hbs⟩
    have HO6 : RowBk w6 b v5 (xs ++ [(newE j ns, ⟨A2, c2, some ⟨M1, 0, none⟩, n, some ⟨M2, 0, none⟩, n⟩)]) := (HR4.out.keep hu3).push HOE (fun y hy => ⟨fun g hg he => by have h1 := (HSF.out y hy).1 g hg; have h2 := (blk_lt hsb g he).1; omega, fun g hg he => by have h1 := (HSF.out y hy).2 g hg; have h2 := (blk_lt hsd g he).1; omega⟩) (by simpa [ebl, newE, HNL.out] using ho5) (fun g _ hl hne => ht5.keep g hne hl)
    have HBF := hk6.below b (fun g hg _ => (own_lt HR4.out.1 g hg).1) hbs
    clear ht5 hw5 ho5 hsn hsb hsd hx9 HOE
    obtain ⟨A6, c6, rfl, _⟩ := Sl.of_own HO6.1
    refine hK.out _ _ ?_ (fun hHeld2 => ?_)
    focus
      exact hS _ hk6
    clear hHeld
    have hHeld := hHeld2
    clear hHeld2 hK K
    try simp only [List.getElem_toArray, List.getElem_cons_succ, List.getElem_cons_zero, Act.put, List.setIfInBounds_toArray, List.set_cons_zero, List.set_cons_succ]
    refine wpAnyH_take (i := 13) (v := ?_) rfl (by kernel_rfl) (by kernel_rfl) (by kernel_rfl) (fun _ _ _ h => h) (Or.inl ⟨by rfl, ?_⟩) (by assumption) ?_
    rotate_left
    focus
      intro U hU
      try dsimp only at hU
      go_simp
      try (with_reducible rfl)
    simp only [List.getElem_toArray, List.getElem_cons_succ, List.getElem_cons_zero, Act.put, List.setIfInBounds_toArray, List.set_cons_zero, List.set_cons_succ]
    refine wpAnyH_done (by kernel_rfl) ?_ _
    clear hHeld hS hmk1 hmk2
    go_wp2
    go_ret
    refine ⟨A6, c6, xs ++ [(newE j ns, ⟨A2, c2, some ⟨M1, 0, none⟩, n, some ⟨M2, 0, none⟩, n⟩)], by rw [List.length_append]; rfl, by rw [List.map_append]; rfl, HO6, ?_⟩
    exact ((HNN.out ▸ HB4.out : RowKit.Below N W w4).mono hb).trans HBF
  · skip
    simp only [List.getElem_toArray, List.getElem_cons_succ, List.getElem_cons_zero]
    go_simp
    refine hK.out _ _ ?_ (fun hHeld2 => ?_)
    focus
      exact hS _ (Tch.of_below (hu0.alloc hu0.size _))
    clear hHeld
    have hHeld := hHeld2
    clear hHeld2 hK K
    try simp only [List.getElem_toArray, List.getElem_cons_succ, List.getElem_cons_zero, Act.put, List.setIfInBounds_toArray, List.set_cons_zero, List.set_cons_succ]
    have gg : RowKit.Below (World.heap u0).size u0 (World.alloc u0 (.cells (Array.replicate n (.bool false)) 4 (0, 0))) := (RowKit.Below.refl _ _).alloc (Nat.le_refl _) _
    have hu1 := hu0.trans (gg.mono hu0.size)
    have hsd : (World.alloc u0 (.cells (Array.replicate n (.bool false)) 4 (0, 0))).ownsRow w4.heap.size 4 1 (.slice (some ⟨(World.heap u0).size, 0, none⟩) n n) n (blcells (List.replicate n false)) := own_rep (heap_alloc_new u0 _) hu0.size (by unfold maxLen; omega) (by simp [icells, blcells])
    replace hsn := own_keep hsn gg
    clear gg
    generalize World.alloc u0 (.cells (Array.replicate n (.bool false)) 4 (0, 0)) = u1 at *
    generalize (World.heap u0).size = M2 at *
    refine wpAnyH_ready (rs := [6]) (by kernel_rfl) (by simp) ?_
    refine (AllReadyH.cons rfl (fun K hK => ?_) AllReadyH.nil)
    simp only [List.getElem_toArray, List.getElem_cons_succ, List.getElem_cons_zero]
    go_simp
    refine hK.out _ _ ?_ (fun hHeld2 => ?_)
    focus
      exact hS _ (Tch.of_below (hu1.alloc hu1.size _))
    clear hHeld
    have hHeld := hHeld2
    clear hHeld2 hK K
    try simp only [List.getElem_toArray, List.getElem_cons_succ, List.getElem_cons_zero, Act.put, List.setIfInBounds_toArray, List.set_cons_zero, List.set_cons_succ]
    have gg : RowKit.Below (World.heap u1).size u1 (World.alloc u1 (.cells (Array.replicate n (.int .i64 0)) 3 (0, 0))) := (RowKit.Below.refl _ _).alloc (Nat.le_refl _) _
    have hu2 := hu1.trans (gg.mono hu1.size)
    have hsb : (World.alloc u1 (.cells (Array.replicate n (.int .i64 0)) 3 (0, 0))).ownsRow w4.heap.size 3 1 (.slice (some ⟨(World.heap u1).size, 0, none⟩) n n) n (icells .i64 (List.replicate n 0)) := own_rep (heap_alloc_new u1 _) hu1.size (by unfold maxLen; omega) (by simp [icells, blcells])
    replace hsn := own_keep hsn gg
    replace hsd := own_keep hsd gg
    clear gg
    generalize World.alloc u1 (.cells (Array.replicate n (.int .i64 0)) 3 (0, 0)) = u2 at *
    generalize (World.heap u1).size = M1 at *
    refine wpAnyH_take (i := 10) (v := ?_) rfl (by kernel_rfl) (by kernel_rfl) (by kernel_rfl) (fun _ _ _ h => h) (Or.inl ⟨by rfl, ?_⟩) (by assumption) ?_
    rotate_left
    focus
      intro U hU
      try dsimp only at hU
      go_simp
      try (with_reducible rfl)
    simp only [List.getElem_toArray, List.getElem_cons_succ, List.getElem_cons_zero, Act.put, List.setIfInBounds_toArray, List.set_cons_zero, List.set_cons_succ]
    refine wpAnyH_ready (rs := [11]) (by kernel_rfl) (by simp) ?_
    refine (AllReadyH.cons rfl (fun K hK => ?_) AllReadyH.nil)
    simp only [List.getElem_toArray, List.getElem_cons_succ, List.getElem_cons_zero]
    go_simp
    refine hK.out _ _ ?_ (fun hHeld2 => ?_)
    focus
      exact hS _ (Tch.of_below (hu2.alloc hu2.size _))
    clear hHeld
    have hHeld := hHeld2
    clear hHeld2 hK K
    try simp only [List.getElem_toArray, List.getElem_cons_succ, List.getElem_cons_zero, Act.put, List.setIfInBounds_toArray, List.set_cons_zero, List.set_cons_succ]
    have gg : RowKit.Below (World.heap u2).size u2 (World.alloc u2 (.cells #[.int .i64 j, .int .i64 0, .int .i64 1, .slice A2 n c2, .slice (some ⟨M1, 0, none⟩) n n, .slice (some ⟨M2, 0, none⟩) n n] 57 (0, 0))) := (RowKit.Below.refl _ _).alloc (Nat.le_refl _) _
    have hu3 := hu2.trans (gg.mono hu2.size)
    have hx9 := heap_alloc_new u2 (.cells #[.int .i64 j, .int .i64 0, .int .i64 1, .slice A2 n c2, .slice (some ⟨M1, 0, none⟩) n n, .slice (some ⟨M2, 0, none⟩) n n] 57 (0, 0))
    replace hsn := own_keep hsn gg
    replace hsb := own_keep hsb gg
    replace hsd := own_keep hsd gg
    clear gg
    generalize World.alloc u2 (.cells #[.int .i64 j, .int .i64 0, .int .i64 1, .slice A2 n c2, .slice (some ⟨M1, 0, none⟩) n n, .slice (some ⟨M2, 0, none⟩) n n] 57 (0, 0)) = u3 at *
    generalize (World.heap u2).size = N9 at *
    refine wpAnyH_ready (rs := [12]) (by kernel_rfl) (by simp) ?_
    refine (AllReadyH.cons rfl (fun K hK => ?_) AllReadyH.nil)
    refine step_append_slw rfl (.tmp 26) (.tmp 37) 33 rfl b 57 Tryd.underlying33 info_entry rfl (by omega) rfl (own_keep HR4.out.1 hu3) rfl (sl_blk6 hx9) (by simp [Value.oneCell']) ?c1 ?c2 ?c3 ?_
    case c1 => unfold maxLen; omega
    case c2 => omega
    case c3 => have := hu3.size; omega
    intro v5 w6 ho5 ht5 hw5
    have hk6 : Tch (fun q => (Value.slice A xs.length c).ownBlock = some q) w4 w6 := (Tch.of_below hu3).trans ht5 (fun g hg _ => hg)
    have HOE : OwE u3 b (newE j ns, ⟨A2, c2, some ⟨M1, 0, none⟩, n, some ⟨M2, 0, none⟩, n⟩) := ⟨⟨by simpa [newE, HNL.out] using hsn, fun z hz => Nat.le_trans (HNS.out z (by simpa [newE] using hz)) (by unfold maxLen; omega)⟩, by simpa [newE, HNL.out] using own_mono hsb hbs, by simpa [newE, HNL.out] using own_mono hsd hbs⟩
    have HO6 : RowBk w6 b v5 (xs ++ [(newE j ns, ⟨A2, c2, some ⟨M1, 0, none⟩, n, some ⟨M2, 0, none⟩, n⟩)]) := (HR4.out.keep hu3).push HOE (fun y hy => ⟨fun g hg he => by have h1 := (HSF.out y hy).1 g hg; have h2 := (blk_lt hsb g he).1; omega, fun g hg he => by have h1 := (HSF.out y hy).2 g hg; have h2 := (blk_lt hsd g he).1; omega⟩) (by simpa [ebl, newE, HNL.out] using ho5) (fun g _ hl hne => ht5.keep g hne hl)
    have HBF := hk6.below b (fun g hg _ => (own_lt HR4.out.1 g hg).1) hbs
    clear ht5 hw5 ho5 hsn hsb hsd hx9 HOE
    obtain ⟨A6, c6, rfl, _⟩ := Sl.of_own HO6.1
    refine hK.out _ _ ?_ (fun hHeld2 => ?_)
    focus
      exact hS _ hk6
    clear hHeld
    have hHeld := hHeld2
    clear hHeld2 hK K
    try simp only [List.getElem_toArray, List.getElem_cons_succ, List.getElem_cons_zero, Act.put, List.setIfInBounds_toArray, List.set_cons_zero, List.set_cons_succ]
    refine wpAnyH_take (i := 13) (v := ?_) rfl (by kernel_rfl) (by kernel_rfl) (by kernel_rfl) (fun _ _ _ h => h) (Or.inl ⟨by rfl, ?_⟩) (by assumption) ?_
    rotate_left
    focus
      intro U hU
      try dsimp only at hU
      go_simp
      try (with_reducible rfl)
    simp only [List.getElem_toArray, List.getElem_cons_succ, List.getElem_cons_zero, Act.put, List.setIfInBounds_toArray, List.set_cons_zero, List.set_cons_succ]
    refine wpAnyH_done (by kernel_rfl) ?_ _
    clear hHeld hS hmk1 hmk2
    go_wp2
    go_ret
    refine ⟨A6, c6, xs ++ [(newE j ns, ⟨A2, c2, some ⟨M1, 0, none⟩, n, some ⟨M2, 0, none⟩, n⟩)], by rw [List.length_append]; rfl, by rw [List.map_append]; rfl, HO6, ?_⟩
    exact ((HNN.out ▸ HB4.out : RowKit.Below N W w4).mono hb).trans HBF
end Go.Proofs.YthohedadmfbahaaDoor
