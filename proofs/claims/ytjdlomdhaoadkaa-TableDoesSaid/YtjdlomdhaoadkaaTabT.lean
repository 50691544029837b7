/- TableDoes: the law. -/
import Derived.Test.YtjdlomdhaoadkaaTabS
import Derived.Test.YtjdlomdhaoadkaaTabP
import Derived.Test.YtjdlomdhaoadkaaTabU
import Derived.Test.YtjdlomdhaoadkaaTabM
import Derived.Deep.RegionHeld3
namespace Go.Proofs.Ytjdlomdhaoadkaa
open Go.RowKit Go.Lib Go.Sort
set_option linter.unusedVariables false
set_option linter.unusedSimpArgs false

theorem qbel {P : Program} {f : FuncId} {args : Array Value} {W : World} {v : Value} (h : Calls P f args W fun e w' => e = .returned v ∧ ∃ q, w' = W.drewN q) : Calls P f args W fun e w' => e = .returned v ∧ Below W.heap.size W w' :=
  h.mono fun _ _ ⟨h1, q, h2⟩ => ⟨h1, by rw [h2]; exact ⟨rfl, rfl, rfl, Nat.le_refl _, fun _ _ => rfl⟩⟩
theorem rrows_in {w : World} {A : Option Addr} {len cap : Nat} (h : Rd Try.prog w 22 [.slice A len cap]) : ∃ l : List Tr, Sl w 3 A len cap (gcells r3 l) ∧ l.length = len := by
  obtain ⟨l, h1, h2, _⟩ := rows_in (α := Tr) (f := r3) (fun _ => True) Try.underlying22 (n := 3) (by kernel_rfl) (by omega) (fun _ => rfl) (fun cs hl hr => by
    have hc3 : Try.prog.cellsOf 3 = 1 := by kernel_rfl
    have hc2 : Try.prog.cellsOf 28 = 2 := by kernel_rfl
    obtain ⟨_, hf⟩ := Rd.struct Try.underlying50 hr
    have f0 : Rd Try.prog w 28 ((cs.drop 0).take (Try.prog.cellsOf 28)) := hf 0 _ rfl
    have f2 : Rd Try.prog w 3 ((cs.drop 2).take (Try.prog.cellsOf 3)) := hf 1 _ rfl
    obtain ⟨_, hg⟩ := Rd.struct Try.underlying28 f0
    have g0 : Rd Try.prog w 3 ((((cs.drop 0).take (Try.prog.cellsOf 28)).drop 0).take (Try.prog.cellsOf 3)) := hg 0 _ rfl
    have g1 : Rd Try.prog w 3 ((((cs.drop 0).take (Try.prog.cellsOf 28)).drop 1).take (Try.prog.cellsOf 3)) := hg 1 _ rfl
    rw [hc3, hc2] at g0 g1
    rw [hc3] at f2
    obtain ⟨a, ea, _⟩ := Rd.int Try.underlying3 g0
    obtain ⟨b, eb, _⟩ := Rd.int Try.underlying3 g1
    obtain ⟨c, ec, _⟩ := Rd.int Try.underlying3 f2
    match cs, hl with
    | [x, y, z], _ =>
      simp at ea eb ec
      exact ⟨(a, b, c), by rw [ea, eb, ec]; rfl, trivial⟩) h
  exact ⟨l, h1, h2⟩

set_option maxRecDepth 20000 in
set_option maxHeartbeats 16000000 in
theorem tableDoes_small (A B : Option Addr) (cap cap' : Nat) (l m : List Tr) (n0 n1 n2 : Int) (W : World) (hA : Sl W 3 A l.length cap (gcells r3 l)) (hB : Sl W 3 B m.length cap' (gcells r3 m)) (hl : l.length ≤ 100) (hm : m.length ≤ 100) :
    Calls Try.prog 3 #[.slice A l.length cap, .slice B m.length cap', .agg #[.int .i64 n0, .int .i64 n1, .int .i64 n2]] W fun e w' => e = .returned (.bool true) ∧ Below W.heap.size W w' := by
  have HA := hid hA
  have HB := hid hB
  have i1 : (l.length : Int) ≤ 100 := by omega
  have i2 : (m.length : Int) ≤ 100 := by omega
  have HLL := hid hl
  have HLM := hid hm
  clear hA hB hl hm
  go_enter Try.func3, Try.ntmps3
  go_upto_region 1 with (fail)
  refine at_world (fun u => u.heap[W.heap.size]? = some (.cells #[.int .i64 n0, .int .i64 n1, .int .i64 n2] 23 (0, 0)) ∧ Below W.heap.size W u) ⟨heap_alloc_new _ _, (Below.refl _ _).alloc (Nat.le_refl _) _⟩ ?_
  rintro w1 ⟨hx1, hb1⟩
  have HN1 := hid hx1
  have HB1 := hid hb1
  clear hx1 hb1
  go_wp2_with fail
  refine (of31_any A cap l w1 (HA.out.below HB1.out) (by have := HLL.out; omega)).mono ?_
  rintro e w2 ⟨A1, c1, rfl, ho, hb⟩
  have HX := hid (sl_own ho)
  have HN2 := hid (keep0 HN1.out hb)
  have HB2 := hid (HB1.out.trans (hb.mono HB1.out.size))
  clear ho hb HN1 HB1
  obtain ⟨⟨q0, q1, q2⟩, _⟩ := three_cells HN2.out
  go_upto_region 5 with (fail)
  refine at_world (fun u => u.heap[w2.heap.size]? = some (.cells #[.int .i64 n0, .int .i64 n1] 28 (0, 0)) ∧ Below w2.heap.size w2 u) ⟨heap_alloc_new _ _, (Below.refl _ _).alloc (Nat.le_refl _) _⟩ ?_
  rintro w3 ⟨hx3, hb3⟩
  have HM3 := hid hx3
  have HN3 := hid (keep0 HN2.out hb3)
  have HX3 := hid (HX.out.below hb3)
  have HB3 := hid (HB2.out.trans (hb3.mono HB2.out.size))
  clear hx3 hb3 HN2 HB2 HX q0 q1 q2
  generalize w2.heap.size = M at *
  obtain ⟨⟨q0, q1, q2⟩, _⟩ := three_cells HN3.out
  obtain ⟨p0, p1, _, _⟩ := two_cells HM3.out
  have HSE := hid (tset_any A1 c1 l n0 n1 n2 w3 HX3.out (by have := HLL.out; omega))
  unfold SetR at HSE
  have HRS := hid (fun U hU => rset_any A cap l n0 n1 n2 U hU (by have := HLL.out; omega))
  unfold RSetR at HRS
  have HT2L : Hid ((setT l n0 n1 n2).length ≤ 1000) := hid (by have := setT_len l n0 n1 n2; have := HLL.out; omega)
  generalize setT l n0 n1 n2 = T2 at *
  generalize setOk l n0 n1 n2 = ok at *
  go_wp2_with fail
  refine HSE.out.mono ?_
  rintro e w4 ⟨A2, c2, rfl, ho, hb⟩
  have HA2 := hid (sl_own ho)
  have HM4 := hid (keep0 HM3.out hb)
  have HN4 := hid (keep0 HN3.out hb)
  have HX4 := hid (HX3.out.below hb)
  have HB4 := hid (HB3.out.trans (hb.mono HB3.out.size))
  clear ho hb HN3 HB3 HX3 HM3 q0 q1 q2 p0 p1 HSE
  obtain ⟨⟨q0, q1, q2⟩, _⟩ := three_cells HN4.out
  obtain ⟨p0, p1, _, _⟩ := two_cells HM4.out
  go_wp2_with fail
  refine (HRS.out w4 (HA.out.below HB4.out)).mono ?_
  rintro e w5 ⟨A3, c3, rfl, hs, hb⟩
  have HA3 := hid hs
  have HA25 := hid (HA2.out.below hb)
  have HM5 := hid (keep0 HM4.out hb)
  have HN5 := hid (keep0 HN4.out hb)
  have HX5 := hid (HX4.out.below hb)
  have HB5 := hid (HB4.out.trans (hb.mono HB4.out.size))
  clear hs hb HN4 HB4 HX4 HM4 q0 q1 q2 p0 p1 HRS HA2
  generalize hNN : W.heap.size = N at HN5
  have HBW : Hid (Below W.heap.size W w5) := HB5
  clear hNN
  -- what each call answers, at any later world
  have C1 := hid (fun U (hU : Below w5.heap.size w5 U) => qbel (is31_any A2 A3 c2 c3 T2 T2 U (HA25.out.below hU) (HA3.out.below hU) HT2L.out HT2L.out))
  have C2 := hid (fun U (hU : Below w5.heap.size w5 U) => qbel (is31_any A1 A c1 cap l l U (HX5.out.below hU) (HA.out.below (HBW.out.trans (hU.mono HBW.out.size))) (by have := HLL.out; omega) (by have := HLL.out; omega)))
  have C3 := hid (fun U (hU : Below w5.heap.size w5 U) => tcheck_any A1 c1 l U (HX5.out.below hU))
  have C4 := hid (fun U (hU : Below w5.heap.size w5 U) => rcheck31_any A cap l U (HA.out.below (HBW.out.trans (hU.mono HBW.out.size))) (by have := HLL.out; omega))
  have C5 := hid (fun U (hU : Below w5.heap.size w5 U) => state_any A1 c1 l n0 n1 U (HX5.out.below hU))
  have C6 := hid (fun U (hU : Below w5.heap.size w5 U) => rstate_any A cap l n0 n1 U (HA.out.below (HBW.out.trans (hU.mono HBW.out.size))) (by have := HLL.out; omega))
  have C7 := hid (fun U (hU : Below w5.heap.size w5 U) => tof_any A1 c1 l n0 U (HX5.out.below hU) (by have := HLL.out; omega))
  have C8 := hid (fun U (hU : Below w5.heap.size w5 U) => rof31_any A cap l n0 U (HA.out.below (HBW.out.trans (hU.mono HBW.out.size))) (by have := HLL.out; omega))
  have HOL : Hid ((ofF n0 l).length ≤ 1000) := hid (by have := ofF_len n0 l; have := HLL.out; omega)
  have D1 := hid (fun U (hU : Below w5.heap.size w5 U) => tin_any A1 c1 l n2 U (HX5.out.below hU) (by have := HLL.out; omega))
  have D2 := hid (fun U (hU : Below w5.heap.size w5 U) => rin31_any A cap l n2 U (HA.out.below (HBW.out.trans (hU.mono HBW.out.size))) (by have := HLL.out; omega))
  have HIL : Hid ((inF n2 l).length ≤ 1000) := hid (by have := inF_len n2 l; have := HLL.out; omega)
  have D3 := hid (fun U (hU : Below w5.heap.size w5 U) => of31_any B cap' m U (HB.out.below (HBW.out.trans (hU.mono HBW.out.size))) (by have := HLM.out; omega))
  have D4 := hid (fun U (hU : Below w5.heap.size w5 U) A9 c9 (h9 : Sl U 3 A9 m.length c9 (gcells r3 m)) => qbel (tsame_any A1 A9 c1 c9 l m U (HX5.out.below hU) h9 (by have := HLL.out; omega) (by have := HLM.out; omega)))
  have D5 := hid (fun U (hU : Below w5.heap.size w5 U) => qbel (same31_any A B cap cap' l m U (HA.out.below (HBW.out.trans (hU.mono HBW.out.size))) (HB.out.below (HBW.out.trans (hU.mono HBW.out.size))) (by have := HLL.out; omega) (by have := HLM.out; omega)))
  have D6 := hid (fun U (hU : Below w5.heap.size w5 U) => qbel (tsame_any A1 A1 c1 c1 l l U (HX5.out.below hU) (HX5.out.below hU) (by have := HLL.out; omega) (by have := HLL.out; omega)))
  have eT : (T2 == T2) = true := by simp
  have eL : (l == l) = true := by simp
  rw [eT] at C1
  rw [eL] at C2 D6
  clear eT eL
  generalize ofF n0 l = OF at *
  generalize inF n2 l = IN at *
  generalize chkB l = ck at *
  generalize stF n0 n1 l = st at *
  generalize (l == m) = sm at *
  have e1 : (ok != ok) = false := by simp
  have e2 : (ck != ck) = false := by simp
  have e3 : (st != st) = false := by simp
  have e4 : (sm == sm) = true := by simp
  clear HA HB HX5 HA25 HA3 HB5
  generalize T2.length = t2 at *
  generalize l.length = ll at *
  generalize m.length = ml at *
  have HCELL := hid (fun U (hU : Below w5.heap.size w5 U) => And.intro (three_cells (keep0 HN5.out hU)).1 (And.intro (two_cells (keep0 HM5.out hU)).1 (two_cells (keep0 HM5.out hU)).2.1))
  go_upto_region 7 with (fail)
  have hS : ∀ U, Below w5.heap.size w5 U → (((U.cell? ⟨N, 0, none⟩ = some (.int .i64 n0) ∧ U.cell? ⟨N, 1, none⟩ = some (.int .i64 n1) ∧ U.cell? ⟨N, 2, none⟩ = some (.int .i64 n2)) ∧ U.cell? ⟨M, 0, none⟩ = some (.int .i64 n0) ∧ U.cell? ⟨M, 1, none⟩ = some (.int .i64 n1)) ∧ Below w5.heap.size w5 U) := fun U hU => ⟨HCELL.out U hU, hU⟩
  have hu0 : Below w5.heap.size w5 w5.drew := below_drew (Below.refl _ _)
  refine wp_region_held_drew (S := fun U => (((U.cell? ⟨N, 0, none⟩ = some (.int .i64 n0) ∧ U.cell? ⟨N, 1, none⟩ = some (.int .i64 n1) ∧ U.cell? ⟨N, 2, none⟩ = some (.int .i64 n2)) ∧ U.cell? ⟨M, 0, none⟩ = some (.int .i64 n0) ∧ U.cell? ⟨M, 1, none⟩ = some (.int .i64 n1)) ∧ Below w5.heap.size w5 U)) (by kernel_rfl) (hS _ hu0) (fun hHeld => ?_)
  refine wpAnyH_take (i := 0) (v := ?_) rfl (by kernel_rfl) (by kernel_rfl) (by kernel_rfl) (fun _ _ _ h => h) (Or.inl ⟨by rfl, ?_⟩) (by assumption) ?_
  rotate_left
  focus
    intro U hU
    try dsimp only at hU
    go_simp
    try (with_reducible rfl)
  simp only [List.getElem_toArray, List.getElem_cons_succ, List.getElem_cons_zero, Act.put, List.setIfInBounds_toArray, List.set_cons_zero, List.set_cons_succ]
  refine wpAnyH_take (i := 1) (v := ?_) rfl (by kernel_rfl) (by kernel_rfl) (by kernel_rfl) (fun _ _ _ h => h) (Or.inl ⟨by rfl, ?_⟩) (by assumption) ?_
  rotate_left
  focus
    intro U hU
    try dsimp only at hU
    go_simp
    try (with_reducible rfl)
  simp only [List.getElem_toArray, List.getElem_cons_succ, List.getElem_cons_zero, Act.put, List.setIfInBounds_toArray, List.set_cons_zero, List.set_cons_succ]
  refine wpAnyH_ready (rs := [2]) (by kernel_rfl) (by simp) ?_
  refine AllReadyH.cons rfl (fun K hK => ?_) AllReadyH.nil
  simp only [List.getElem_toArray, List.getElem_cons_succ, List.getElem_cons_zero]
  go_simp
  refine (C1.out _ hu0).mono ?_
  rintro e u1 ⟨rfl, hb⟩
  have hu1 : Below w5.heap.size w5 u1 := hu0.trans (hb.mono hu0.size)
  clear hb
  go_wp2_with fail
  refine hK.out _ _ ?_ (fun hHeld2 => ?_)
  focus
    exact hS _ (by with_reducible assumption)
  clear hHeld
  have hHeld := hHeld2
  clear hHeld2 hK K
  try simp only [List.getElem_toArray, List.getElem_cons_succ, List.getElem_cons_zero, Act.put, List.setIfInBounds_toArray, List.set_cons_zero, List.set_cons_succ]
  refine wpAnyH_take (i := 3) (v := ?_) rfl (by kernel_rfl) (by kernel_rfl) (by kernel_rfl) (fun _ _ _ h => h) (Or.inl ⟨by rfl, ?_⟩) (by assumption) ?_
  rotate_left
  focus
    intro U hU
    try dsimp only at hU
    go_simp
    try (with_reducible rfl)
  simp only [List.getElem_toArray, List.getElem_cons_succ, List.getElem_cons_zero, Act.put, List.setIfInBounds_toArray, List.set_cons_zero, List.set_cons_succ]
  refine wpAnyH_take (i := 4) (v := ?_) rfl (by kernel_rfl) (by kernel_rfl) (by kernel_rfl) (fun _ _ _ h => h) (Or.inl ⟨by rfl, ?_⟩) (by assumption) ?_
  rotate_left
  focus
    intro U hU
    try dsimp only at hU
    go_simp
    try (with_reducible rfl)
  simp only [List.getElem_toArray, List.getElem_cons_succ, List.getElem_cons_zero, Act.put, List.setIfInBounds_toArray, List.set_cons_zero, List.set_cons_succ]
  refine wpAnyH_take (i := 5) (v := ?_) rfl (by kernel_rfl) (by kernel_rfl) (by kernel_rfl) (fun _ _ _ h => h) (Or.inl ⟨by rfl, ?_⟩) (by assumption) ?_
  rotate_left
  focus
    intro U hU
    try dsimp only at hU
    go_simp
    try (with_reducible rfl)
  simp only [List.getElem_toArray, List.getElem_cons_succ, List.getElem_cons_zero, Act.put, List.setIfInBounds_toArray, List.set_cons_zero, List.set_cons_succ]
  refine wpAnyH_take (i := 6) (v := ?_) rfl (by kernel_rfl) (by kernel_rfl) (by kernel_rfl) (fun _ _ _ h => h) (Or.inl ⟨by rfl, ?_⟩) (by assumption) ?_
  rotate_left
  focus
    intro U hU
    try dsimp only at hU
    go_simp
    try (with_reducible rfl)
  simp only [List.getElem_toArray, List.getElem_cons_succ, List.getElem_cons_zero, Act.put, List.setIfInBounds_toArray, List.set_cons_zero, List.set_cons_succ]
  refine wpAnyH_take (i := 7) (v := ?_) rfl (by kernel_rfl) (by kernel_rfl) (by kernel_rfl) (fun _ _ _ h => h) (Or.inl ⟨by rfl, ?_⟩) (by assumption) ?_
  rotate_left
  focus
    intro U hU
    try dsimp only at hU
    go_simp
    try (with_reducible rfl)
  simp only [List.getElem_toArray, List.getElem_cons_succ, List.getElem_cons_zero, Act.put, List.setIfInBounds_toArray, List.set_cons_zero, List.set_cons_succ]
  refine wpAnyH_take (i := 8) (v := ?_) rfl (by kernel_rfl) (by kernel_rfl) (by kernel_rfl) (fun _ _ _ h => h) (Or.inl ⟨by rfl, ?_⟩) (by assumption) ?_
  rotate_left
  focus
    intro U hU
    try dsimp only at hU
    go_simp
    try (with_reducible rfl)
  simp only [List.getElem_toArray, List.getElem_cons_succ, List.getElem_cons_zero, Act.put, List.setIfInBounds_toArray, List.set_cons_zero, List.set_cons_succ]
  refine wpAnyH_take (i := 9) (v := ?_) rfl (by kernel_rfl) (by kernel_rfl) (by kernel_rfl) (fun _ _ _ h => h) (Or.inl ⟨by rfl, ?_⟩) (by assumption) ?_
  rotate_left
  focus
    intro U hU
    try dsimp only at hU
    go_simp
    try (with_reducible rfl)
  simp only [List.getElem_toArray, List.getElem_cons_succ, List.getElem_cons_zero, Act.put, List.setIfInBounds_toArray, List.set_cons_zero, List.set_cons_succ]
  refine wpAnyH_take (i := 10) (v := ?_) rfl (by kernel_rfl) (by kernel_rfl) (by kernel_rfl) (fun _ _ _ h => h) (Or.inl ⟨by rfl, ?_⟩) (by assumption) ?_
  rotate_left
  focus
    intro U hU
    try dsimp only at hU
    go_simp
    try (with_reducible rfl)
  simp only [List.getElem_toArray, List.getElem_cons_succ, List.getElem_cons_zero, Act.put, List.setIfInBounds_toArray, List.set_cons_zero, List.set_cons_succ]
  refine wpAnyH_take (i := 11) (v := ?_) rfl (by kernel_rfl) (by kernel_rfl) (by kernel_rfl) (fun _ _ _ h => h) (Or.inl ⟨by rfl, ?_⟩) (by assumption) ?_
  rotate_left
  focus
    intro U hU
    try dsimp only at hU
    go_simp
    try (with_reducible rfl)
  simp only [List.getElem_toArray, List.getElem_cons_succ, List.getElem_cons_zero, Act.put, List.setIfInBounds_toArray, List.set_cons_zero, List.set_cons_succ]
  refine wpAnyH_ready (rs := [12]) (by kernel_rfl) (by simp) ?_
  refine AllReadyH.cons rfl (fun K hK => ?_) AllReadyH.nil
  simp only [List.getElem_toArray, List.getElem_cons_succ, List.getElem_cons_zero]
  go_simp
  refine (C2.out _ hu1).mono ?_
  rintro e u2 ⟨rfl, hb⟩
  have hu2 : Below w5.heap.size w5 u2 := hu1.trans (hb.mono hu1.size)
  clear hb
  go_wp2_with fail
  refine hK.out _ _ ?_ (fun hHeld2 => ?_)
  focus
    exact hS _ (by with_reducible assumption)
  clear hHeld
  have hHeld := hHeld2
  clear hHeld2 hK K
  try simp only [List.getElem_toArray, List.getElem_cons_succ, List.getElem_cons_zero, Act.put, List.setIfInBounds_toArray, List.set_cons_zero, List.set_cons_succ]
  refine wpAnyH_take (i := 13) (v := ?_) rfl (by kernel_rfl) (by kernel_rfl) (by kernel_rfl) (fun _ _ _ h => h) (Or.inl ⟨by rfl, ?_⟩) (by assumption) ?_
  rotate_left
  focus
    intro U hU
    try dsimp only at hU
    go_simp
    try (with_reducible rfl)
  simp only [List.getElem_toArray, List.getElem_cons_succ, List.getElem_cons_zero, Act.put, List.setIfInBounds_toArray, List.set_cons_zero, List.set_cons_succ]
  refine wpAnyH_take (i := 14) (v := ?_) rfl (by kernel_rfl) (by kernel_rfl) (by kernel_rfl) (fun _ _ _ h => h) (Or.inl ⟨by rfl, ?_⟩) (by assumption) ?_
  rotate_left
  focus
    intro U hU
    try dsimp only at hU
    go_simp
    try (with_reducible rfl)
  simp only [List.getElem_toArray, List.getElem_cons_succ, List.getElem_cons_zero, Act.put, List.setIfInBounds_toArray, List.set_cons_zero, List.set_cons_succ]
  refine wpAnyH_take (i := 15) (v := ?_) rfl (by kernel_rfl) (by kernel_rfl) (by kernel_rfl) (fun _ _ _ h => h) (Or.inl ⟨by rfl, ?_⟩) (by assumption) ?_
  rotate_left
  focus
    intro U hU
    try dsimp only at hU
    go_simp
    try (with_reducible rfl)
  simp only [List.getElem_toArray, List.getElem_cons_succ, List.getElem_cons_zero, Act.put, List.setIfInBounds_toArray, List.set_cons_zero, List.set_cons_succ]
  refine wpAnyH_take (i := 16) (v := ?_) rfl (by kernel_rfl) (by kernel_rfl) (by kernel_rfl) (fun _ _ _ h => h) (Or.inl ⟨by rfl, ?_⟩) (by assumption) ?_
  rotate_left
  focus
    intro U hU
    try dsimp only at hU
    go_simp
    try (with_reducible rfl)
  simp only [List.getElem_toArray, List.getElem_cons_succ, List.getElem_cons_zero, Act.put, List.setIfInBounds_toArray, List.set_cons_zero, List.set_cons_succ]
  refine wpAnyH_take (i := 18) (v := ?_) rfl (by kernel_rfl) (by kernel_rfl) (by kernel_rfl) (fun _ _ _ h => h) (Or.inl ⟨by rfl, ?_⟩) (by assumption) ?_
  rotate_left
  focus
    intro U hU
    try dsimp only at hU
    go_simp
    try (with_reducible rfl)
  simp only [List.getElem_toArray, List.getElem_cons_succ, List.getElem_cons_zero, Act.put, List.setIfInBounds_toArray, List.set_cons_zero, List.set_cons_succ]
  refine wpAnyH_ready (rs := [17]) (by kernel_rfl) (by simp) ?_
  refine AllReadyH.cons rfl (fun K hK => ?_) AllReadyH.nil
  simp only [List.getElem_toArray, List.getElem_cons_succ, List.getElem_cons_zero]
  go_simp
  refine (C3.out _ hu2).mono ?_
  rintro e u3 ⟨rfl, hb⟩
  have hu3 : Below w5.heap.size w5 u3 := hu2.trans (hb.mono hu2.size)
  clear hb
  go_wp2_with fail
  refine hK.out _ _ ?_ (fun hHeld2 => ?_)
  focus
    exact hS _ (by with_reducible assumption)
  clear hHeld
  have hHeld := hHeld2
  clear hHeld2 hK K
  try simp only [List.getElem_toArray, List.getElem_cons_succ, List.getElem_cons_zero, Act.put, List.setIfInBounds_toArray, List.set_cons_zero, List.set_cons_succ]
  refine wpAnyH_ready (rs := [19]) (by kernel_rfl) (by simp) ?_
  refine AllReadyH.cons rfl (fun K hK => ?_) AllReadyH.nil
  simp only [List.getElem_toArray, List.getElem_cons_succ, List.getElem_cons_zero]
  go_simp
  refine (C4.out _ hu3).mono ?_
  rintro e u4 ⟨rfl, hb⟩
  have hu4 : Below w5.heap.size w5 u4 := hu3.trans (hb.mono hu3.size)
  clear hb
  go_wp2_with fail
  refine hK.out _ _ ?_ (fun hHeld2 => ?_)
  focus
    exact hS _ (by with_reducible assumption)
  clear hHeld
  have hHeld := hHeld2
  clear hHeld2 hK K
  try simp only [List.getElem_toArray, List.getElem_cons_succ, List.getElem_cons_zero, Act.put, List.setIfInBounds_toArray, List.set_cons_zero, List.set_cons_succ]
  refine wpAnyH_take (i := 20) (v := ?_) rfl (by kernel_rfl) (by kernel_rfl) (by kernel_rfl) (fun _ _ _ h => h) (Or.inl ⟨by rfl, ?_⟩) (by assumption) ?_
  rotate_left
  focus
    intro U hU
    try dsimp only at hU
    go_simp
    try (with_reducible rfl)
  simp only [List.getElem_toArray, List.getElem_cons_succ, List.getElem_cons_zero, Act.put, List.setIfInBounds_toArray, List.set_cons_zero, List.set_cons_succ]
  refine wpAnyH_take (i := 21) (v := ?_) rfl (by kernel_rfl) (by kernel_rfl) (by kernel_rfl) (fun _ _ _ h => h) (Or.inl ⟨by rfl, ?_⟩) (by assumption) ?_
  rotate_left
  focus
    intro U hU
    try dsimp only at hU
    go_simp
    try (with_reducible rfl)
  simp only [List.getElem_toArray, List.getElem_cons_succ, List.getElem_cons_zero, Act.put, List.setIfInBounds_toArray, List.set_cons_zero, List.set_cons_succ]
  refine wpAnyH_take (i := 22) (v := ?_) rfl (by kernel_rfl) (by kernel_rfl) (by kernel_rfl) (fun _ _ _ h => h) (Or.inl ⟨by rfl, ?_⟩) (by assumption) ?_
  rotate_left
  focus
    intro U hU
    try dsimp only at hU
    go_simp
    try (with_reducible rfl)
  simp only [List.getElem_toArray, List.getElem_cons_succ, List.getElem_cons_zero, Act.put, List.setIfInBounds_toArray, List.set_cons_zero, List.set_cons_succ]
  refine wpAnyH_take (i := 23) (v := ?_) rfl (by kernel_rfl) (by kernel_rfl) (by kernel_rfl) (fun _ _ _ h => h) (Or.inl ⟨by rfl, ?_⟩) (by assumption) ?_
  rotate_left
  focus
    intro U hU
    try dsimp only at hU
    go_simp
    try (with_reducible rfl)
  simp only [List.getElem_toArray, List.getElem_cons_succ, List.getElem_cons_zero, Act.put, List.setIfInBounds_toArray, List.set_cons_zero, List.set_cons_succ]
  refine wpAnyH_take (i := 24) (v := ?_) rfl (by kernel_rfl) (by kernel_rfl) (by kernel_rfl) (fun _ _ _ h => h) (Or.inl ⟨by rfl, ?_⟩) (by assumption) ?_
  rotate_left
  focus
    intro U hU
    try dsimp only at hU
    go_simp
    try (with_reducible rfl)
  simp only [List.getElem_toArray, List.getElem_cons_succ, List.getElem_cons_zero, Act.put, List.setIfInBounds_toArray, List.set_cons_zero, List.set_cons_succ]
  refine wpAnyH_take (i := 26) (v := ?_) rfl (by kernel_rfl) (by kernel_rfl) (by kernel_rfl) (fun _ _ _ h => h) (Or.inl ⟨by rfl, ?_⟩) (by assumption) ?_
  rotate_left
  focus
    intro U hU
    try dsimp only at hU
    go_simp
    try (with_reducible rfl)
  simp only [List.getElem_toArray, List.getElem_cons_succ, List.getElem_cons_zero, Act.put, List.setIfInBounds_toArray, List.set_cons_zero, List.set_cons_succ]
  refine wpAnyH_take (i := 27) (v := ?_) rfl (by kernel_rfl) (by kernel_rfl) (by kernel_rfl) (fun _ _ _ h => h) (Or.inl ⟨by rfl, ?_⟩) (by assumption) ?_
  rotate_left
  focus
    intro U hU
    try dsimp only at hU
    go_simp
    try (with_reducible rfl)
  simp only [List.getElem_toArray, List.getElem_cons_succ, List.getElem_cons_zero, Act.put, List.setIfInBounds_toArray, List.set_cons_zero, List.set_cons_succ]
  refine wpAnyH_ready (rs := [25]) (by kernel_rfl) (by simp) ?_
  refine AllReadyH.cons rfl (fun K hK => ?_) AllReadyH.nil
  simp only [List.getElem_toArray, List.getElem_cons_succ, List.getElem_cons_zero]
  go_simp
  refine (C5.out _ hu4).mono ?_
  rintro e u5 ⟨rfl, hb⟩
  have hu5 : Below w5.heap.size w5 u5 := hu4.trans (hb.mono hu4.size)
  clear hb
  go_wp2_with fail
  refine hK.out _ _ ?_ (fun hHeld2 => ?_)
  focus
    exact hS _ (by with_reducible assumption)
  clear hHeld
  have hHeld := hHeld2
  clear hHeld2 hK K
  try simp only [List.getElem_toArray, List.getElem_cons_succ, List.getElem_cons_zero, Act.put, List.setIfInBounds_toArray, List.set_cons_zero, List.set_cons_succ]
  refine wpAnyH_ready (rs := [28]) (by kernel_rfl) (by simp) ?_
  refine AllReadyH.cons rfl (fun K hK => ?_) AllReadyH.nil
  simp only [List.getElem_toArray, List.getElem_cons_succ, List.getElem_cons_zero]
  go_simp
  refine (C6.out _ hu5).mono ?_
  rintro e u6 ⟨rfl, hb⟩
  have hu6 : Below w5.heap.size w5 u6 := hu5.trans (hb.mono hu5.size)
  clear hb
  go_wp2_with fail
  refine hK.out _ _ ?_ (fun hHeld2 => ?_)
  focus
    exact hS _ (by with_reducible assumption)
  clear hHeld
  have hHeld := hHeld2
  clear hHeld2 hK K
  try simp only [List.getElem_toArray, List.getElem_cons_succ, List.getElem_cons_zero, Act.put, List.setIfInBounds_toArray, List.set_cons_zero, List.set_cons_succ]
  refine wpAnyH_take (i := 29) (v := ?_) rfl (by kernel_rfl) (by kernel_rfl) (by kernel_rfl) (fun _ _ _ h => h) (Or.inl ⟨by rfl, ?_⟩) (by assumption) ?_
  rotate_left
  focus
    intro U hU
    try dsimp only at hU
    go_simp
    try (with_reducible rfl)
  simp only [List.getElem_toArray, List.getElem_cons_succ, List.getElem_cons_zero, Act.put, List.setIfInBounds_toArray, List.set_cons_zero, List.set_cons_succ]
  refine wpAnyH_take (i := 30) (v := ?_) rfl (by kernel_rfl) (by kernel_rfl) (by kernel_rfl) (fun _ _ _ h => h) (Or.inl ⟨by rfl, ?_⟩) (by assumption) ?_
  rotate_left
  focus
    intro U hU
    try dsimp only at hU
    go_simp
    try (with_reducible rfl)
  simp only [List.getElem_toArray, List.getElem_cons_succ, List.getElem_cons_zero, Act.put, List.setIfInBounds_toArray, List.set_cons_zero, List.set_cons_succ]
  refine wpAnyH_take (i := 31) (v := ?_) rfl (by kernel_rfl) (by kernel_rfl) (by kernel_rfl) (fun _ _ _ h => h) (Or.inl ⟨by rfl, ?_⟩) (by assumption) ?_
  rotate_left
  focus
    intro U hU
    try dsimp only at hU
    go_simp
    try (with_reducible rfl)
  simp only [List.getElem_toArray, List.getElem_cons_succ, List.getElem_cons_zero, Act.put, List.setIfInBounds_toArray, List.set_cons_zero, List.set_cons_succ]
  refine wpAnyH_take (i := 32) (v := ?_) rfl (by kernel_rfl) (by kernel_rfl) (by kernel_rfl) (fun _ _ _ h => h) (Or.inl ⟨by rfl, ?_⟩) (by assumption) ?_
  rotate_left
  focus
    intro U hU
    try dsimp only at hU
    go_simp
    try (with_reducible rfl)
  simp only [List.getElem_toArray, List.getElem_cons_succ, List.getElem_cons_zero, Act.put, List.setIfInBounds_toArray, List.set_cons_zero, List.set_cons_succ]
  refine wpAnyH_take (i := 33) (v := ?_) rfl (by kernel_rfl) (by kernel_rfl) (by kernel_rfl) (fun _ _ _ h => h) (Or.inl ⟨by rfl, ?_⟩) (by assumption) ?_
  rotate_left
  focus
    intro U hU
    try dsimp only at hU
    go_simp
    try (with_reducible rfl)
  simp only [List.getElem_toArray, List.getElem_cons_succ, List.getElem_cons_zero, Act.put, List.setIfInBounds_toArray, List.set_cons_zero, List.set_cons_succ]
  refine wpAnyH_take (i := 34) (v := ?_) rfl (by kernel_rfl) (by kernel_rfl) (by kernel_rfl) (fun _ _ _ h => h) (Or.inl ⟨by rfl, ?_⟩) (by assumption) ?_
  rotate_left
  focus
    intro U hU
    try dsimp only at hU
    go_simp
    try (with_reducible rfl)
  simp only [List.getElem_toArray, List.getElem_cons_succ, List.getElem_cons_zero, Act.put, List.setIfInBounds_toArray, List.set_cons_zero, List.set_cons_succ]
  refine wpAnyH_take (i := 36) (v := ?_) rfl (by kernel_rfl) (by kernel_rfl) (by kernel_rfl) (fun _ _ _ h => h) (Or.inl ⟨by rfl, ?_⟩) (by assumption) ?_
  rotate_left
  focus
    intro U hU
    try dsimp only at hU
    go_simp
    try (with_reducible rfl)
  simp only [List.getElem_toArray, List.getElem_cons_succ, List.getElem_cons_zero, Act.put, List.setIfInBounds_toArray, List.set_cons_zero, List.set_cons_succ]
  refine wpAnyH_take (i := 37) (v := ?_) rfl (by kernel_rfl) (by kernel_rfl) (by kernel_rfl) (fun _ _ _ h => h) (Or.inl ⟨by rfl, ?_⟩) (by assumption) ?_
  rotate_left
  focus
    intro U hU
    try dsimp only at hU
    go_simp
    try (with_reducible rfl)
  simp only [List.getElem_toArray, List.getElem_cons_succ, List.getElem_cons_zero, Act.put, List.setIfInBounds_toArray, List.set_cons_zero, List.set_cons_succ]
  refine wpAnyH_take (i := 38) (v := ?_) rfl (by kernel_rfl) (by kernel_rfl) (by kernel_rfl) (fun _ _ _ h => h) (Or.inl ⟨by rfl, ?_⟩) (by assumption) ?_
  rotate_left
  focus
    intro U hU
    try dsimp only at hU
    go_simp
    try (with_reducible rfl)
  simp only [List.getElem_toArray, List.getElem_cons_succ, List.getElem_cons_zero, Act.put, List.setIfInBounds_toArray, List.set_cons_zero, List.set_cons_succ]
  refine wpAnyH_ready (rs := [35]) (by kernel_rfl) (by simp) ?_
  refine AllReadyH.cons rfl (fun K hK => ?_) AllReadyH.nil
  simp only [List.getElem_toArray, List.getElem_cons_succ, List.getElem_cons_zero]
  go_simp
  refine (C7.out _ hu6).mono ?_
  rintro e u7 ⟨A7, c7, rfl, ho, hb⟩
  have hu7 : Below w5.heap.size w5 u7 := hu6.trans (hb.mono hu6.size)
  have H7 := hid (sl_own ho)
  clear ho
  clear hb
  go_wp2_with fail
  refine hK.out _ _ ?_ (fun hHeld2 => ?_)
  focus
    exact hS _ (by with_reducible assumption)
  clear hHeld
  have hHeld := hHeld2
  clear hHeld2 hK K
  try simp only [List.getElem_toArray, List.getElem_cons_succ, List.getElem_cons_zero, Act.put, List.setIfInBounds_toArray, List.set_cons_zero, List.set_cons_succ]
  refine wpAnyH_ready (rs := [39]) (by kernel_rfl) (by simp) ?_
  refine AllReadyH.cons rfl (fun K hK => ?_) AllReadyH.nil
  simp only [List.getElem_toArray, List.getElem_cons_succ, List.getElem_cons_zero]
  go_simp
  refine (C8.out _ hu7).mono ?_
  rintro e u8 ⟨A8, c8, rfl, ho, hb⟩
  have hu8 : Below w5.heap.size w5 u8 := hu7.trans (hb.mono hu7.size)
  have H8 := hid (qbel (is31_any A7 A8 c7 c8 OF OF _ (H7.out.below hb) (sl_own ho) HOL.out HOL.out))
  rw [show (OF == OF) = true by simp] at H8
  clear ho H7
  clear hb
  go_wp2_with fail
  refine hK.out _ _ ?_ (fun hHeld2 => ?_)
  focus
    exact hS _ (by with_reducible assumption)
  clear hHeld
  have hHeld := hHeld2
  clear hHeld2 hK K
  try simp only [List.getElem_toArray, List.getElem_cons_succ, List.getElem_cons_zero, Act.put, List.setIfInBounds_toArray, List.set_cons_zero, List.set_cons_succ]
  refine wpAnyH_ready (rs := [40]) (by kernel_rfl) (by simp) ?_
  refine AllReadyH.cons rfl (fun K hK => ?_) AllReadyH.nil
  simp only [List.getElem_toArray, List.getElem_cons_succ, List.getElem_cons_zero]
  go_simp
  refine (H8.out).mono ?_
  rintro e u9 ⟨rfl, hb⟩
  have hu9 : Below w5.heap.size w5 u9 := hu8.trans (hb.mono hu8.size)
  clear hb
  go_wp2_with fail
  refine hK.out _ _ ?_ (fun hHeld2 => ?_)
  focus
    exact hS _ (by with_reducible assumption)
  clear hHeld
  have hHeld := hHeld2
  clear hHeld2 hK K
  try simp only [List.getElem_toArray, List.getElem_cons_succ, List.getElem_cons_zero, Act.put, List.setIfInBounds_toArray, List.set_cons_zero, List.set_cons_succ]
  refine wpAnyH_take (i := 41) (v := ?_) rfl (by kernel_rfl) (by kernel_rfl) (by kernel_rfl) (fun _ _ _ h => h) (Or.inl ⟨by rfl, ?_⟩) (by assumption) ?_
  rotate_left
  focus
    intro U hU
    try dsimp only at hU
    go_simp
    try (with_reducible rfl)
  simp only [List.getElem_toArray, List.getElem_cons_succ, List.getElem_cons_zero, Act.put, List.setIfInBounds_toArray, List.set_cons_zero, List.set_cons_succ]
  refine wpAnyH_take (i := 42) (v := ?_) rfl (by kernel_rfl) (by kernel_rfl) (by kernel_rfl) (fun _ _ _ h => h) (Or.inl ⟨by rfl, ?_⟩) (by assumption) ?_
  rotate_left
  focus
    intro U hU
    try dsimp only at hU
    go_simp
    try (with_reducible rfl)
  simp only [List.getElem_toArray, List.getElem_cons_succ, List.getElem_cons_zero, Act.put, List.setIfInBounds_toArray, List.set_cons_zero, List.set_cons_succ]
  refine wpAnyH_done (by kernel_rfl) ?_ _
  clear hHeld hS H8 hu0 hu1 hu2 hu3 hu4 hu5 hu6 hu7 hu8
  refine at_world (fun u => Below w5.heap.size w5 u) hu9 ?_
  rintro w6 hb6
  have HB6 := hid hb6
  clear hu9 hb6 C1 C2 C3 C4 C5 C6 C7 C8
  go_upto_region 9 with (fail)
  have hS : ∀ U, Below w5.heap.size w5 U → (((U.cell? ⟨N, 0, none⟩ = some (.int .i64 n0) ∧ U.cell? ⟨N, 1, none⟩ = some (.int .i64 n1) ∧ U.cell? ⟨N, 2, none⟩ = some (.int .i64 n2)) ∧ U.cell? ⟨M, 0, none⟩ = some (.int .i64 n0) ∧ U.cell? ⟨M, 1, none⟩ = some (.int .i64 n1)) ∧ Below w5.heap.size w5 U) := fun U hU => ⟨HCELL.out U hU, hU⟩
  have hu0 : Below w5.heap.size w5 w6.drew := below_drew HB6.out
  refine wp_region_held_drew (S := fun U => (((U.cell? ⟨N, 0, none⟩ = some (.int .i64 n0) ∧ U.cell? ⟨N, 1, none⟩ = some (.int .i64 n1) ∧ U.cell? ⟨N, 2, none⟩ = some (.int .i64 n2)) ∧ U.cell? ⟨M, 0, none⟩ = some (.int .i64 n0) ∧ U.cell? ⟨M, 1, none⟩ = some (.int .i64 n1)) ∧ Below w5.heap.size w5 U)) (by kernel_rfl) (hS _ hu0) (fun hHeld => ?_)
  refine wpAnyH_take (i := 0) (v := ?_) rfl (by kernel_rfl) (by kernel_rfl) (by kernel_rfl) (fun _ _ _ h => h) (Or.inl ⟨by rfl, ?_⟩) (by assumption) ?_
  rotate_left
  focus
    intro U hU
    try dsimp only at hU
    go_simp
    try (with_reducible rfl)
  simp only [List.getElem_toArray, List.getElem_cons_succ, List.getElem_cons_zero, Act.put, List.setIfInBounds_toArray, List.set_cons_zero, List.set_cons_succ]
  refine wpAnyH_take (i := 1) (v := ?_) rfl (by kernel_rfl) (by kernel_rfl) (by kernel_rfl) (fun _ _ _ h => h) (Or.inl ⟨by rfl, ?_⟩) (by assumption) ?_
  rotate_left
  focus
    intro U hU
    try dsimp only at hU
    go_simp
    try (with_reducible rfl)
  simp only [List.getElem_toArray, List.getElem_cons_succ, List.getElem_cons_zero, Act.put, List.setIfInBounds_toArray, List.set_cons_zero, List.set_cons_succ]
  refine wpAnyH_take (i := 2) (v := ?_) rfl (by kernel_rfl) (by kernel_rfl) (by kernel_rfl) (fun _ _ _ h => h) (Or.inl ⟨by rfl, ?_⟩) (by assumption) ?_
  rotate_left
  focus
    intro U hU
    try dsimp only at hU
    go_simp
    try (with_reducible rfl)
  simp only [List.getElem_toArray, List.getElem_cons_succ, List.getElem_cons_zero, Act.put, List.setIfInBounds_toArray, List.set_cons_zero, List.set_cons_succ]
  refine wpAnyH_take (i := 4) (v := ?_) rfl (by kernel_rfl) (by kernel_rfl) (by kernel_rfl) (fun _ _ _ h => h) (Or.inl ⟨by rfl, ?_⟩) (by assumption) ?_
  rotate_left
  focus
    intro U hU
    try dsimp only at hU
    go_simp
    try (with_reducible rfl)
  simp only [List.getElem_toArray, List.getElem_cons_succ, List.getElem_cons_zero, Act.put, List.setIfInBounds_toArray, List.set_cons_zero, List.set_cons_succ]
  refine wpAnyH_take (i := 5) (v := ?_) rfl (by kernel_rfl) (by kernel_rfl) (by kernel_rfl) (fun _ _ _ h => h) (Or.inl ⟨by rfl, ?_⟩) (by assumption) ?_
  rotate_left
  focus
    intro U hU
    try dsimp only at hU
    go_simp
    try (with_reducible rfl)
  simp only [List.getElem_toArray, List.getElem_cons_succ, List.getElem_cons_zero, Act.put, List.setIfInBounds_toArray, List.set_cons_zero, List.set_cons_succ]
  refine wpAnyH_take (i := 6) (v := ?_) rfl (by kernel_rfl) (by kernel_rfl) (by kernel_rfl) (fun _ _ _ h => h) (Or.inl ⟨by rfl, ?_⟩) (by assumption) ?_
  rotate_left
  focus
    intro U hU
    try dsimp only at hU
    go_simp
    try (with_reducible rfl)
  simp only [List.getElem_toArray, List.getElem_cons_succ, List.getElem_cons_zero, Act.put, List.setIfInBounds_toArray, List.set_cons_zero, List.set_cons_succ]
  refine wpAnyH_ready (rs := [3]) (by kernel_rfl) (by simp) ?_
  refine AllReadyH.cons rfl (fun K hK => ?_) AllReadyH.nil
  simp only [List.getElem_toArray, List.getElem_cons_succ, List.getElem_cons_zero]
  go_simp
  refine (D1.out _ hu0).mono ?_
  rintro e u1 ⟨A7, c7, rfl, ho, hb⟩
  have hu1 : Below w5.heap.size w5 u1 := hu0.trans (hb.mono hu0.size)
  have H7 := hid (sl_own ho)
  clear ho
  clear hb
  go_wp2_with fail
  refine hK.out _ _ ?_ (fun hHeld2 => ?_)
  focus
    exact hS _ (by with_reducible assumption)
  clear hHeld
  have hHeld := hHeld2
  clear hHeld2 hK K
  try simp only [List.getElem_toArray, List.getElem_cons_succ, List.getElem_cons_zero, Act.put, List.setIfInBounds_toArray, List.set_cons_zero, List.set_cons_succ]
  refine wpAnyH_ready (rs := [7]) (by kernel_rfl) (by simp) ?_
  refine AllReadyH.cons rfl (fun K hK => ?_) AllReadyH.nil
  simp only [List.getElem_toArray, List.getElem_cons_succ, List.getElem_cons_zero]
  go_simp
  refine (D2.out _ hu1).mono ?_
  rintro e u2 ⟨A8, c8, rfl, ho, hb⟩
  have hu2 : Below w5.heap.size w5 u2 := hu1.trans (hb.mono hu1.size)
  have H8 := hid (qbel (rtasks_any A7 A8 IN.length c7 IN.length c8 IN IN _ (H7.out.below hb) (sl_own ho) (by have := HIL.out; omega) (by have := HIL.out; omega)))
  rw [show (IN == IN) = true by simp] at H8
  clear ho H7
  clear hb
  go_wp2_with fail
  refine hK.out _ _ ?_ (fun hHeld2 => ?_)
  focus
    exact hS _ (by with_reducible assumption)
  clear hHeld
  have hHeld := hHeld2
  clear hHeld2 hK K
  try simp only [List.getElem_toArray, List.getElem_cons_succ, List.getElem_cons_zero, Act.put, List.setIfInBounds_toArray, List.set_cons_zero, List.set_cons_succ]
  refine wpAnyH_ready (rs := [8]) (by kernel_rfl) (by simp) ?_
  refine AllReadyH.cons rfl (fun K hK => ?_) AllReadyH.nil
  simp only [List.getElem_toArray, List.getElem_cons_succ, List.getElem_cons_zero]
  go_simp
  refine (H8.out).mono ?_
  rintro e u3 ⟨rfl, hb⟩
  have hu3 : Below w5.heap.size w5 u3 := hu2.trans (hb.mono hu2.size)
  clear hb
  go_wp2_with fail
  refine hK.out _ _ ?_ (fun hHeld2 => ?_)
  focus
    exact hS _ (by with_reducible assumption)
  clear hHeld
  have hHeld := hHeld2
  clear hHeld2 hK K
  try simp only [List.getElem_toArray, List.getElem_cons_succ, List.getElem_cons_zero, Act.put, List.setIfInBounds_toArray, List.set_cons_zero, List.set_cons_succ]
  refine wpAnyH_take (i := 9) (v := ?_) rfl (by kernel_rfl) (by kernel_rfl) (by kernel_rfl) (fun _ _ _ h => h) (Or.inl ⟨by rfl, ?_⟩) (by assumption) ?_
  rotate_left
  focus
    intro U hU
    try dsimp only at hU
    go_simp
    try (with_reducible rfl)
  simp only [List.getElem_toArray, List.getElem_cons_succ, List.getElem_cons_zero, Act.put, List.setIfInBounds_toArray, List.set_cons_zero, List.set_cons_succ]
  refine wpAnyH_take (i := 10) (v := ?_) rfl (by kernel_rfl) (by kernel_rfl) (by kernel_rfl) (fun _ _ _ h => h) (Or.inl ⟨by rfl, ?_⟩) (by assumption) ?_
  rotate_left
  focus
    intro U hU
    try dsimp only at hU
    go_simp
    try (with_reducible rfl)
  simp only [List.getElem_toArray, List.getElem_cons_succ, List.getElem_cons_zero, Act.put, List.setIfInBounds_toArray, List.set_cons_zero, List.set_cons_succ]
  refine wpAnyH_take (i := 11) (v := ?_) rfl (by kernel_rfl) (by kernel_rfl) (by kernel_rfl) (fun _ _ _ h => h) (Or.inl ⟨by rfl, ?_⟩) (by assumption) ?_
  rotate_left
  focus
    intro U hU
    try dsimp only at hU
    go_simp
    try (with_reducible rfl)
  simp only [List.getElem_toArray, List.getElem_cons_succ, List.getElem_cons_zero, Act.put, List.setIfInBounds_toArray, List.set_cons_zero, List.set_cons_succ]
  refine wpAnyH_take (i := 14) (v := ?_) rfl (by kernel_rfl) (by kernel_rfl) (by kernel_rfl) (fun _ _ _ h => h) (Or.inl ⟨by rfl, ?_⟩) (by assumption) ?_
  rotate_left
  focus
    intro U hU
    try dsimp only at hU
    go_simp
    try (with_reducible rfl)
  simp only [List.getElem_toArray, List.getElem_cons_succ, List.getElem_cons_zero, Act.put, List.setIfInBounds_toArray, List.set_cons_zero, List.set_cons_succ]
  refine wpAnyH_take (i := 15) (v := ?_) rfl (by kernel_rfl) (by kernel_rfl) (by kernel_rfl) (fun _ _ _ h => h) (Or.inl ⟨by rfl, ?_⟩) (by assumption) ?_
  rotate_left
  focus
    intro U hU
    try dsimp only at hU
    go_simp
    try (with_reducible rfl)
  simp only [List.getElem_toArray, List.getElem_cons_succ, List.getElem_cons_zero, Act.put, List.setIfInBounds_toArray, List.set_cons_zero, List.set_cons_succ]
  refine wpAnyH_ready (rs := [12]) (by kernel_rfl) (by simp) ?_
  refine AllReadyH.cons rfl (fun K hK => ?_) AllReadyH.nil
  simp only [List.getElem_toArray, List.getElem_cons_succ, List.getElem_cons_zero]
  go_simp
  refine (D3.out _ hu3).mono ?_
  rintro e u4 ⟨A9, c9, rfl, ho, hb⟩
  have hu4 : Below w5.heap.size w5 u4 := hu3.trans (hb.mono hu3.size)
  have H9 := hid (D4.out _ hu4 A9 c9 (sl_own ho))
  clear ho
  clear hb
  go_wp2_with fail
  refine hK.out _ _ ?_ (fun hHeld2 => ?_)
  focus
    exact hS _ (by with_reducible assumption)
  clear hHeld
  have hHeld := hHeld2
  clear hHeld2 hK K
  try simp only [List.getElem_toArray, List.getElem_cons_succ, List.getElem_cons_zero, Act.put, List.setIfInBounds_toArray, List.set_cons_zero, List.set_cons_succ]
  refine wpAnyH_ready (rs := [13]) (by kernel_rfl) (by simp) ?_
  refine AllReadyH.cons rfl (fun K hK => ?_) AllReadyH.nil
  simp only [List.getElem_toArray, List.getElem_cons_succ, List.getElem_cons_zero]
  go_simp
  refine (H9.out).mono ?_
  rintro e u5 ⟨rfl, hb⟩
  have hu5 : Below w5.heap.size w5 u5 := hu4.trans (hb.mono hu4.size)
  clear hb
  go_wp2_with fail
  refine hK.out _ _ ?_ (fun hHeld2 => ?_)
  focus
    exact hS _ (by with_reducible assumption)
  clear hHeld
  have hHeld := hHeld2
  clear hHeld2 hK K
  try simp only [List.getElem_toArray, List.getElem_cons_succ, List.getElem_cons_zero, Act.put, List.setIfInBounds_toArray, List.set_cons_zero, List.set_cons_succ]
  refine wpAnyH_ready (rs := [16]) (by kernel_rfl) (by simp) ?_
  refine AllReadyH.cons rfl (fun K hK => ?_) AllReadyH.nil
  simp only [List.getElem_toArray, List.getElem_cons_succ, List.getElem_cons_zero]
  go_simp
  refine (D5.out _ hu5).mono ?_
  rintro e u6 ⟨rfl, hb⟩
  have hu6 : Below w5.heap.size w5 u6 := hu5.trans (hb.mono hu5.size)
  clear hb
  go_wp2_with fail
  refine hK.out _ _ ?_ (fun hHeld2 => ?_)
  focus
    exact hS _ (by with_reducible assumption)
  clear hHeld
  have hHeld := hHeld2
  clear hHeld2 hK K
  try simp only [List.getElem_toArray, List.getElem_cons_succ, List.getElem_cons_zero, Act.put, List.setIfInBounds_toArray, List.set_cons_zero, List.set_cons_succ]
  refine wpAnyH_take (i := 17) (v := ?_) rfl (by kernel_rfl) (by kernel_rfl) (by kernel_rfl) (fun _ _ _ h => h) (Or.inl ⟨by rfl, ?_⟩) (by assumption) ?_
  rotate_left
  focus
    intro U hU
    try dsimp only at hU
    go_simp
    try (with_reducible rfl)
  simp only [List.getElem_toArray, List.getElem_cons_succ, List.getElem_cons_zero, Act.put, List.setIfInBounds_toArray, List.set_cons_zero, List.set_cons_succ]
  refine wpAnyH_take (i := 18) (v := ?_) rfl (by kernel_rfl) (by kernel_rfl) (by kernel_rfl) (fun _ _ _ h => h) (Or.inl ⟨by rfl, ?_⟩) (by assumption) ?_
  rotate_left
  focus
    intro U hU
    try dsimp only at hU
    go_simp
    try (with_reducible rfl)
  simp only [List.getElem_toArray, List.getElem_cons_succ, List.getElem_cons_zero, Act.put, List.setIfInBounds_toArray, List.set_cons_zero, List.set_cons_succ]
  refine wpAnyH_take (i := 19) (v := ?_) rfl (by kernel_rfl) (by kernel_rfl) (by kernel_rfl) (fun _ _ _ h => h) (Or.inl ⟨by rfl, ?_⟩) (by assumption) ?_
  rotate_left
  focus
    intro U hU
    try dsimp only at hU
    go_simp
    try (with_reducible rfl)
  simp only [List.getElem_toArray, List.getElem_cons_succ, List.getElem_cons_zero, Act.put, List.setIfInBounds_toArray, List.set_cons_zero, List.set_cons_succ]
  refine wpAnyH_take (i := 20) (v := ?_) rfl (by kernel_rfl) (by kernel_rfl) (by kernel_rfl) (fun _ _ _ h => h) (Or.inl ⟨by rfl, ?_⟩) (by assumption) ?_
  rotate_left
  focus
    intro U hU
    try dsimp only at hU
    go_simp
    try (with_reducible rfl)
  simp only [List.getElem_toArray, List.getElem_cons_succ, List.getElem_cons_zero, Act.put, List.setIfInBounds_toArray, List.set_cons_zero, List.set_cons_succ]
  refine wpAnyH_take (i := 21) (v := ?_) rfl (by kernel_rfl) (by kernel_rfl) (by kernel_rfl) (fun _ _ _ h => h) (Or.inl ⟨by rfl, ?_⟩) (by assumption) ?_
  rotate_left
  focus
    intro U hU
    try dsimp only at hU
    go_simp
    try (with_reducible rfl)
  simp only [List.getElem_toArray, List.getElem_cons_succ, List.getElem_cons_zero, Act.put, List.setIfInBounds_toArray, List.set_cons_zero, List.set_cons_succ]
  refine wpAnyH_ready (rs := [22]) (by kernel_rfl) (by simp) ?_
  refine AllReadyH.cons rfl (fun K hK => ?_) AllReadyH.nil
  simp only [List.getElem_toArray, List.getElem_cons_succ, List.getElem_cons_zero]
  go_simp
  refine (D6.out _ hu6).mono ?_
  rintro e u7 ⟨rfl, hb⟩
  have hu7 : Below w5.heap.size w5 u7 := hu6.trans (hb.mono hu6.size)
  clear hb
  go_wp2_with fail
  refine hK.out _ _ ?_ (fun hHeld2 => ?_)
  focus
    exact hS _ (by with_reducible assumption)
  clear hHeld
  have hHeld := hHeld2
  clear hHeld2 hK K
  try simp only [List.getElem_toArray, List.getElem_cons_succ, List.getElem_cons_zero, Act.put, List.setIfInBounds_toArray, List.set_cons_zero, List.set_cons_succ]
  refine wpAnyH_take (i := 23) (v := ?_) rfl (by kernel_rfl) (by kernel_rfl) (by kernel_rfl) (fun _ _ _ h => h) (Or.inl ⟨by rfl, ?_⟩) (by assumption) ?_
  rotate_left
  focus
    intro U hU
    try dsimp only at hU
    go_simp
    try (with_reducible rfl)
  simp only [List.getElem_toArray, List.getElem_cons_succ, List.getElem_cons_zero, Act.put, List.setIfInBounds_toArray, List.set_cons_zero, List.set_cons_succ]
  refine wpAnyH_take (i := 24) (v := ?_) rfl (by kernel_rfl) (by kernel_rfl) (by kernel_rfl) (fun _ _ _ h => h) (Or.inl ⟨by rfl, ?_⟩) (by assumption) ?_
  rotate_left
  focus
    intro U hU
    try dsimp only at hU
    go_simp
    try (with_reducible rfl)
  simp only [List.getElem_toArray, List.getElem_cons_succ, List.getElem_cons_zero, Act.put, List.setIfInBounds_toArray, List.set_cons_zero, List.set_cons_succ]
  refine wpAnyH_ready (rs := [25]) (by kernel_rfl) (by simp) ?_
  refine AllReadyH.cons rfl (fun K hK => ?_) AllReadyH.nil
  simp only [List.getElem_toArray, List.getElem_cons_succ, List.getElem_cons_zero]
  go_simp
  refine (works31_any _).mono ?_
  rintro e u8 ⟨rfl, hb⟩
  have hu8 : Below w5.heap.size w5 u8 := hu7.trans (hb.mono hu7.size)
  clear hb
  go_wp2_with fail
  refine hK.out _ _ ?_ (fun hHeld2 => ?_)
  focus
    exact hS _ (by with_reducible assumption)
  clear hHeld
  have hHeld := hHeld2
  clear hHeld2 hK K
  try simp only [List.getElem_toArray, List.getElem_cons_succ, List.getElem_cons_zero, Act.put, List.setIfInBounds_toArray, List.set_cons_zero, List.set_cons_succ]
  refine wpAnyH_take (i := 26) (v := ?_) rfl (by kernel_rfl) (by kernel_rfl) (by kernel_rfl) (fun _ _ _ h => h) (Or.inl ⟨by rfl, ?_⟩) (by assumption) ?_
  rotate_left
  focus
    intro U hU
    try dsimp only at hU
    go_simp
    try (with_reducible rfl)
  simp only [List.getElem_toArray, List.getElem_cons_succ, List.getElem_cons_zero, Act.put, List.setIfInBounds_toArray, List.set_cons_zero, List.set_cons_succ]
  refine wpAnyH_take (i := 27) (v := ?_) rfl (by kernel_rfl) (by kernel_rfl) (by kernel_rfl) (fun _ _ _ h => h) (Or.inl ⟨by rfl, ?_⟩) (by assumption) ?_
  rotate_left
  focus
    intro U hU
    try dsimp only at hU
    go_simp
    try (with_reducible rfl)
  simp only [List.getElem_toArray, List.getElem_cons_succ, List.getElem_cons_zero, Act.put, List.setIfInBounds_toArray, List.set_cons_zero, List.set_cons_succ]
  refine wpAnyH_done (by kernel_rfl) ?_ _
  clear hHeld hS
  go_wp2
  go_ret
  exact ⟨rfl, HBW.out.trans (hu8.mono HBW.out.size)⟩

set_option maxRecDepth 20000 in
theorem tableDoes_big (A B : Option Addr) (x y cap cap' : Nat) (a2 : Array Value) (W : World) (hx : x ≤ maxLen) (hy : y ≤ maxLen) (h : 100 < x ∨ 100 < y) (n0 n1 n2 : Int) :
    Calls Try.prog 3 #[.slice A x cap, .slice B y cap', .agg #[.int .i64 n0, .int .i64 n1, .int .i64 n2]] W fun e w' => e = .returned (.bool true) ∧ Below W.heap.size W w' := by
  unfold maxLen at hx hy
  have HB : Hid (Below W.heap.size W (W.alloc (.cells #[.int .i64 n0, .int .i64 n1, .int .i64 n2] 23))) := hid ((Below.refl _ _).alloc (Nat.le_refl _) _)
  by_cases h1 : 100 < x
  · have i1 : (100 : Int) < (x : Int) := by omega
    have d1 : decide ((100 : Int) < (x : Int)) = true := decide_eq_true i1
    clear h
    go_enter Try.func3, Try.ntmps3
    go_wp2_with fail
    refine (works31_any _).mono ?_
    rintro e w6 ⟨rfl, hb⟩
    go_wp2
    go_ret
    exact ⟨rfl, HB.out.trans (hb.mono HB.out.size)⟩
  · have i1 : ¬ (100 : Int) < (x : Int) := by omega
    have d1 : decide ((100 : Int) < (x : Int)) = false := decide_eq_false i1
    have i2 : (100 : Int) < (y : Int) := by omega
    have d2 : decide ((100 : Int) < (y : Int)) = true := decide_eq_true i2
    clear h
    go_enter Try.func3, Try.ntmps3
    go_wp2_with fail
    refine (works31_any _).mono ?_
    rintro e w6 ⟨rfl, hb⟩
    go_wp2
    go_ret
    exact ⟨rfl, HB.out.trans (hb.mono HB.out.size)⟩
theorem tableDoes_law (A B : Option Addr) (x y cap cap' : Nat) (a2 : Array Value) (W : World) (hA : Rd Try.prog W 22 [.slice A x cap]) (hB : Rd Try.prog W 22 [.slice B y cap']) (hn : a2.size = 3) (h2 : Rd Try.prog W 23 a2.toList) :
    Calls Try.prog 3 #[.slice A x cap, .slice B y cap', .agg a2] W fun e w' => e = .returned (.bool true) ∧ Below W.heap.size W w' := by
  obtain ⟨xs, hx⟩ := Rd.array_ints Try.underlying23 Try.underlying3 (by kernel_rfl) (by kernel_rfl) h2
  obtain ⟨a, b, c, rfl, _, _, _⟩ := ints3 hx
  obtain ⟨l, hl, rfl⟩ := rrows_in hA
  obtain ⟨m, hm, rfl⟩ := rrows_in hB
  by_cases h1 : 100 < l.length ∨ 100 < m.length
  · exact tableDoes_big A B _ _ cap cap' #[] W (Nat.le_trans hl.2.1 hl.2.2.1) (Nat.le_trans hm.2.1 hm.2.2.1) h1 a b c
  · exact tableDoes_small A B cap cap' l m a b c W hl hm (by omega) (by omega)
end Go.Proofs.Ytjdlomdhaoadkaa
