/- Rounds that are alike; the law's Of and Is: contracts. -/
import Derived.Test.YtadjmgmdnekllaaRndB
import Derived.Test.YtadjmgmdnekllaaSame06
import Derived.Test.YtadjmgmdnekllaaStep
import Derived.Deep.RegionHeld3
import Derived.BigQuiet
import Derived.Deep.QuietTactic
namespace Go.Proofs.Ytadjmgmdnekllaa
open Go.RowKit Go.Sort
set_option linter.unusedVariables false
set_option linter.unusedSimpArgs false

theorem bcell5 {w : World} {A : Option Addr} {len cap : Nat} {l : List Bool} (h : Sl w 1 A len cap (bcs l)) (k : Nat) (hk : k < l.length) : ∃ b off, A = some ⟨b, off, none⟩ ∧ w.cell? ⟨b, off + k, none⟩ = some (.bool l[k]) := by
  obtain ⟨b, off, ha, hc⟩ := Sl.at h k (by rw [bcs_len]; exact hk)
  refine ⟨b, off, ha, ?_⟩
  rw [hc]
  simp [bcs]
theorem blen {w : World} {A : Option Addr} {len cap : Nat} {l : List Bool} (h : Sl w 1 A len cap (bcs l)) : len = l.length := by
  have := h.1
  rw [bcs_len] at this; omega
theorem drew_below {n : Nat} {W w : World} (h : Below n W w) (q : Nat) : Below n W (w.drewN q) := ⟨h.os, h.tape, h.output, h.size, h.block⟩

set_option maxRecDepth 20000 in
set_option maxHeartbeats 2000000 in
theorem eqb_any (A B : Option Addr) (cA cB : Nat) (l : List Bool) (W : World) (hA : Sl W 1 A l.length cA (bcs l)) (hB : Sl W 1 B l.length cB (bcs l)) (hl : l.length ≤ 1000) :
    Calls Try.prog 116 #[.slice A l.length cA, .slice B l.length cB] W fun e w' => e = .returned (.bool true) ∧ Below W.heap.size W w' := by
  have HA := hid hA
  have HB := hid hB
  have e9 : ((l.length : Int) != (l.length : Int)) = false := by simp
  have hll : (l.length : Int) ≤ 1000 := by omega
  clear hA hB
  go_enter Try.func116, Try.ntmps116
  go_wp2
  go_loopw [5, 13] (fun _ i wr => ∃ k q : Nat, k ≤ l.length ∧ i = .int .i64 (k : Int) ∧ wr = W.drewN q) (fun _ i _ => l.length - (intOf i).toNat)
  case atStart => exact ⟨0, 0, by omega, rfl, rfl⟩
  case round =>
    obtain ⟨k, q, hk, rfl, rfl⟩ := hrel
    by_cases hlt : k < l.length
    · have hlt2 : (k : Int) < (l.length : Int) := by omega
      obtain ⟨b, off, hAe, c1⟩ := bcell5 HA.out k hlt
      subst hAe
      obtain ⟨b2, off2, hBe, c2⟩ := bcell5 HB.out k hlt
      subst hBe
      generalize l[k] = x at *
      have e1 : (x != x) = false := by simp
      go_wp2
      go_quiet (fail)
      go_wp2
      go_roundw
      case rel => exact ⟨k + 1, q + nq, by omega, by go_num, rfl⟩
      case measure => simp [intOf]; omega
    · have hge : ¬ (k : Int) < (l.length : Int) := by omega
      go_wp2
      go_ret
      exact ⟨rfl, drew_below (Below.refl _ _) _⟩

set_option maxRecDepth 20000 in
set_option maxHeartbeats 2000000 in
theorem rsame_any (la lb : Int) (q : Nat) (had : List Bool) (A B : Option Addr) (cA cB : Nat) (W : World) (hA : Sl W 1 A had.length cA (bcs had)) (hB : Sl W 1 B had.length cB (bcs had)) (hl : had.length ≤ 1000) :
    Calls Try.prog 59 #[.agg #[.int .i64 la, .int .u64 (q : Int), .slice A had.length cA], .agg #[.int .i64 lb, .int .u64 (q : Int), .slice B had.length cB]] W fun e w' => e = .returned (.bool (la == lb)) ∧ Below W.heap.size W w' := by
  have HE := hid (fun w (hw : Below W.heap.size W w) => eqb_any A B cA cB had w (hA.below hw) (hB.below hw) hl)
  clear hA hB
  have HB0 := hid (below2 W (.cells #[.int .i64 la, .int .u64 (q : Int), .slice A had.length cA] 64) (.cells #[.int .i64 lb, .int .u64 (q : Int), .slice B had.length cB] 64))
  have e1 : ((q : Int) == (q : Int)) = true := by simp
  by_cases h : la = lb
  · subst h
    have e2 : (la == la) = true := by simp
    go_enter Try.func59, Try.ntmps59
    go_wp2_with fail
    refine (HE.out _ HB0.out).mono ?_
    rintro e w2 ⟨rfl, hb2⟩
    have HB2 := hid (HB0.out.trans (hb2.mono HB0.out.size))
    clear hb2
    go_wp2
    go_ret
    exact ⟨by simp, HB2.out⟩
  · have e2 : (la == lb) = false := by simpa using h
    clear h HE
    go_enter Try.func59, Try.ntmps59
    go_wp2
    go_ret
    exact ⟨by simp [e2], HB0.out⟩

set_option maxRecDepth 20000 in
set_option maxHeartbeats 2000000 in
theorem dsame_any (la lb : Int) (asked : List Int) (had : List Bool) (A B HA HB : Option Addr) (cA cB cH cI : Nat) (W : World) (hA : Sl W 1 A asked.length cA (icells .i64 asked)) (hB : Sl W 1 B asked.length cB (icells .i64 asked)) (hHA : Sl W 1 HA had.length cH (bcs had)) (hHB : Sl W 1 HB had.length cI (bcs had)) (hl1 : asked.length ≤ 1000) (hl : had.length ≤ 1000) :
    Calls Try.prog 60 #[.agg #[.int .i64 la, .slice A asked.length cA, .slice HA had.length cH], .agg #[.int .i64 lb, .slice B asked.length cB, .slice HB had.length cI]] W fun e w' => e = .returned (.bool (la == lb)) ∧ Below W.heap.size W w' := by
  have HS := hid (fun w (hw : Below W.heap.size W w) => same06 A B asked.length cA asked.length cB asked asked w (hA.below hw) (hB.below hw) (by omega) (by omega))
  have HHA := hid hHA
  have HHB := hid hHB
  have h0 := heap_first W (.cells #[.int .i64 la, .slice A asked.length cA, .slice HA had.length cH] 62) (.cells #[.int .i64 lb, .slice B asked.length cB, .slice HB had.length cI] 62)
  have h1 := heap_second W (.cells #[.int .i64 la, .slice A asked.length cA, .slice HA had.length cH] 62) (.cells #[.int .i64 lb, .slice B asked.length cB, .slice HB had.length cI] 62)
  have h2 := below2 W (.cells #[.int .i64 la, .slice A asked.length cA, .slice HA had.length cH] 62) (.cells #[.int .i64 lb, .slice B asked.length cB, .slice HB had.length cI] 62)
  have H012 := hid (And.intro h0 (And.intro h1 h2))
  clear hA hB hHA hHB h0 h1 h2
  simp only [beq_self_eq_true] at HS
  by_cases h : la = lb
  · subst h
    have e2 : (la != la) = false := by simp
    have e3 : ((had.length : Int) != (had.length : Int)) = false := by simp
    have hll : (had.length : Int) ≤ 1000 := by omega
    generalize asked.length = al at *
    go_enter Try.func60, Try.ntmps60
    go_upto_region 1 with (fail)
    refine at_world (fun w => w.heap[W.heap.size]? = some (.cells #[.int .i64 la, .slice A al cA, .slice HA had.length cH] 62 (0, 0)) ∧ w.heap[W.heap.size + 1]? = some (.cells #[.int .i64 la, .slice B al cB, .slice HB had.length cI] 62 (0, 0)) ∧ Below W.heap.size W w) H012.out ?_
    clear H012
    rintro w1 ⟨k0, k1, hb1⟩
    obtain ⟨⟨p0, p1, p2⟩, _⟩ := three_cells k0
    obtain ⟨⟨s0, s1, s2⟩, _⟩ := three_cells k1
    have HB1 := hid hb1
    have HX := hid k0
    have HY := hid k1
    have HS1 := hid (HS.out w1 hb1)
    clear k0 k1 hb1 HS
    go_wp2_with fail
    refine HS1.out.mono ?_
    rintro e w2 ⟨rfl, qq, rfl⟩
    clear HS1
    go_wp2
    go_loopw [5] (fun i wr => ∃ k q : Nat, k ≤ had.length ∧ i = .int .i64 (k : Int) ∧ wr = w1.drewN q) (fun i _ => had.length - (intOf i).toNat)
    case atStart => exact ⟨0, qq, by omega, rfl, rfl⟩
    case round =>
      obtain ⟨k, q, hk, rfl, rfl⟩ := hrel
      by_cases hlt : k < had.length
      · have hlt2 : (k : Int) < (had.length : Int) := by omega
        obtain ⟨b, off, hAe, c1⟩ := bcell5 (HHA.out.below HB1.out) k hlt
        subst hAe
        obtain ⟨b2, off2, hBe, c2⟩ := bcell5 (HHB.out.below HB1.out) k hlt
        subst hBe
        generalize had[k] = x at *
        have e1 : (x != x) = false := by simp
        go_wp2
        go_quiet (fail)
        go_wp2
        go_roundw
        case rel => exact ⟨k + 1, q + nq, by omega, by go_num, rfl⟩
        case measure => simp [intOf]; omega
      · have hge : ¬ (k : Int) < (had.length : Int) := by omega
        go_wp2
        go_ret
        exact ⟨by simp, drew_below HB1.out _⟩
  · have e2 : (la != lb) = true := by simpa using h
    have HF : Hid ((la == lb) = false) := hid (by simpa using h)
    clear h HS
    have HB0 := hid H012.out.2.2
    clear H012
    go_enter Try.func60, Try.ntmps60
    go_wp2
    go_ret
    exact ⟨by rw [HF.out]; rfl, HB0.out⟩

set_option maxRecDepth 20000 in
set_option maxHeartbeats 4000000 in
theorem is35_any (la lb : Int) (q : Nat) (had : List Bool) (B HA HB : Option Addr) (cB cH cI : Nat) (W : World) (hB : Sl W 1 B (elems q).length cB (icells .i64 (elems q))) (hHA : Sl W 1 HA had.length cH (bcs had)) (hHB : Sl W 1 HB had.length cI (bcs had)) (hq : q < 18446744073709551616) (hl : had.length ≤ 1000) :
    Calls Try.prog 50 #[.agg #[.int .i64 la, .int .u64 (q : Int), .slice HA had.length cH], .agg #[.int .i64 lb, .slice B (elems q).length cB, .slice HB had.length cI]] W fun e w' => e = .returned (.bool (la == lb)) ∧ Below W.heap.size W w' := by
  have hel : (elems q).length ≤ 1000 := by
    have h4 : (elems q).length ≤ 64 := by rw [elems_def]; exact elemsU_len q 64
    omega
  have HLI := hid (fun w => rlist_any q w hq)
  have HDS := hid (fun w A cA (hw : Below W.heap.size W w) (hA : Sl w 1 A (elems q).length cA (icells .i64 (elems q))) => dsame_any la lb (elems q) had A B HA HB cA cB cH cI w hA (hB.below hw) (hHA.below hw) (hHB.below hw) hel hl)
  generalize elems q = el at *
  have h0 := heap_first W (.cells #[.int .i64 la, .int .u64 (q : Int), .slice HA had.length cH] 64) (.cells #[.int .i64 lb, .slice B el.length cB, .slice HB had.length cI] 62)
  have h1 := heap_second W (.cells #[.int .i64 la, .int .u64 (q : Int), .slice HA had.length cH] 64) (.cells #[.int .i64 lb, .slice B el.length cB, .slice HB had.length cI] 62)
  have h2 := below2 W (.cells #[.int .i64 la, .int .u64 (q : Int), .slice HA had.length cH] 64) (.cells #[.int .i64 lb, .slice B el.length cB, .slice HB had.length cI] 62)
  have H012 := hid (And.intro h0 (And.intro h1 h2))
  clear hB hHA hHB h0 h1 h2 hq hel
  go_enter Try.func50, Try.ntmps50
  go_upto_region 1 with (fail)
  refine at_world (fun w => w.heap[W.heap.size]? = some (.cells #[.int .i64 la, .int .u64 (q : Int), .slice HA had.length cH] 64 (0, 0)) ∧ w.heap[W.heap.size + 1]? = some (.cells #[.int .i64 lb, .slice B el.length cB, .slice HB had.length cI] 62 (0, 0)) ∧ Below W.heap.size W w) H012.out ?_
  clear H012
  rintro w1 ⟨k0, k1, hb1⟩
  have HX := hid k0
  have HY := hid k1
  have HB1 := hid hb1
  clear k0 k1 hb1
  have hS : ∀ U, Below w1.heap.size w1 U → (((U.cell? ⟨W.heap.size, 0, none⟩ = some (.int .i64 la) ∧ U.cell? ⟨W.heap.size, 1, none⟩ = some (.int .u64 (q : Int)) ∧ U.cell? ⟨W.heap.size, 2, none⟩ = some (.slice HA had.length cH)) ∧ (U.cell? ⟨W.heap.size + 1, 0, none⟩ = some (.int .i64 lb) ∧ U.cell? ⟨W.heap.size + 1, 1, none⟩ = some (.slice B el.length cB) ∧ U.cell? ⟨W.heap.size + 1, 2, none⟩ = some (.slice HB had.length cI))) ∧ Below w1.heap.size w1 U) := fun U hU => ⟨⟨(three_cells (keep0 HX.out hU)).1, (three_cells (keep0 HY.out hU)).1⟩, hU⟩
  have hu0 : Below w1.heap.size w1 w1.drew := below_drew (Below.refl _ _)
  refine wp_region_held_drew (S := fun U => ((U.cell? ⟨W.heap.size, 0, none⟩ = some (.int .i64 la) ∧ U.cell? ⟨W.heap.size, 1, none⟩ = some (.int .u64 (q : Int)) ∧ U.cell? ⟨W.heap.size, 2, none⟩ = some (.slice HA had.length cH)) ∧ (U.cell? ⟨W.heap.size + 1, 0, none⟩ = some (.int .i64 lb) ∧ U.cell? ⟨W.heap.size + 1, 1, none⟩ = some (.slice B el.length cB) ∧ U.cell? ⟨W.heap.size + 1, 2, none⟩ = some (.slice HB had.length cI))) ∧ Below w1.heap.size w1 U) (by kernel_rfl) (hS _ hu0) (fun hHeld => ?_)
  refine wpAnyH_take (i := 0) (v := ?_) rfl (by kernel_rfl) (by kernel_rfl) (by kernel_rfl) (fun _ _ _ h => h) (Or.inl ⟨by rfl, ?_⟩) (by assumption) ?_
  rotate_left
  focus
    intro U hU
    try dsimp only at hU
    go_simp
    try (with_reducible rfl)
  simp only [List.getElem_toArray, List.getElem_cons_succ, List.getElem_cons_zero, Act.put, List.setIfInBounds_toArray, List.set_cons_zero, List.set_cons_succ]
  refine wpAnyH_take (i := 1) (v := ?_) rfl (by kernel_rfl) (by kernel_rfl) (by kernel_rfl) (fun _ _ _ h => h) (Or.inl ⟨by rfl, ?_⟩) (by assumption) ?_
  rotate_left
  focus
    intro U hU
    try dsimp only at hU
    go_simp
    try (with_reducible rfl)
  simp only [List.getElem_toArray, List.getElem_cons_succ, List.getElem_cons_zero, Act.put, List.setIfInBounds_toArray, List.set_cons_zero, List.set_cons_succ]
  refine wpAnyH_take (i := 2) (v := ?_) rfl (by kernel_rfl) (by kernel_rfl) (by kernel_rfl) (fun _ _ _ h => h) (Or.inl ⟨by rfl, ?_⟩) (by assumption) ?_
  rotate_left
  focus
    intro U hU
    try dsimp only at hU
    go_simp
    try (with_reducible rfl)
  simp only [List.getElem_toArray, List.getElem_cons_succ, List.getElem_cons_zero, Act.put, List.setIfInBounds_toArray, List.set_cons_zero, List.set_cons_succ]
  refine wpAnyH_take (i := 3) (v := ?_) rfl (by kernel_rfl) (by kernel_rfl) (by kernel_rfl) (fun _ _ _ h => h) (Or.inl ⟨by rfl, ?_⟩) (by assumption) ?_
  rotate_left
  focus
    intro U hU
    try dsimp only at hU
    go_simp
    try (with_reducible rfl)
  simp only [List.getElem_toArray, List.getElem_cons_succ, List.getElem_cons_zero, Act.put, List.setIfInBounds_toArray, List.set_cons_zero, List.set_cons_succ]
  refine wpAnyH_take (i := 5) (v := ?_) rfl (by kernel_rfl) (by kernel_rfl) (by kernel_rfl) (fun _ _ _ h => h) (Or.inl ⟨by rfl, ?_⟩) (by assumption) ?_
  rotate_left
  focus
    intro U hU
    try dsimp only at hU
    go_simp
    try (with_reducible rfl)
  simp only [List.getElem_toArray, List.getElem_cons_succ, List.getElem_cons_zero, Act.put, List.setIfInBounds_toArray, List.set_cons_zero, List.set_cons_succ]
  refine wpAnyH_take (i := 6) (v := ?_) rfl (by kernel_rfl) (by kernel_rfl) (by kernel_rfl) (fun _ _ _ h => h) (Or.inl ⟨by rfl, ?_⟩) (by assumption) ?_
  rotate_left
  focus
    intro U hU
    try dsimp only at hU
    go_simp
    try (with_reducible rfl)
  simp only [List.getElem_toArray, List.getElem_cons_succ, List.getElem_cons_zero, Act.put, List.setIfInBounds_toArray, List.set_cons_zero, List.set_cons_succ]
  refine wpAnyH_take (i := 8) (v := ?_) rfl (by kernel_rfl) (by kernel_rfl) (by kernel_rfl) (fun _ _ _ h => h) (Or.inl ⟨by rfl, ?_⟩) (by assumption) ?_
  rotate_left
  focus
    intro U hU
    try dsimp only at hU
    go_simp
    try (with_reducible rfl)
  simp only [List.getElem_toArray, List.getElem_cons_succ, List.getElem_cons_zero, Act.put, List.setIfInBounds_toArray, List.set_cons_zero, List.set_cons_succ]
  refine wpAnyH_ready (rs := [4]) (by kernel_rfl) (by simp) ?_
  refine AllReadyH.cons rfl (fun K hK => ?_) AllReadyH.nil
  simp only [List.getElem_toArray, List.getElem_cons_succ, List.getElem_cons_zero]
  go_simp
  refine (HLI.out _).mono ?_
  rintro q u1 ⟨v1, rfl, g1, o1⟩
  obtain ⟨A1, c1, rfl, _⟩ := Sl.of_own o1
  have hu1 : Below w1.heap.size w1 u1 := hu0.trans (g1.mono hu0.size)
  have HO1 := hid (sl_own o1)
  clear g1 o1
  go_wp2_with fail
  refine hK.out _ _ ?_ (fun hHeld2 => ?_)
  focus
    exact hS _ (by with_reducible assumption)
  clear hHeld
  have hHeld := hHeld2
  clear hHeld2 hK K
  try simp only [List.getElem_toArray, List.getElem_cons_succ, List.getElem_cons_zero, Act.put, List.setIfInBounds_toArray, List.set_cons_zero, List.set_cons_succ]
  refine wpAnyH_take (i := 7) (v := ?_) rfl (by kernel_rfl) (by kernel_rfl) (by kernel_rfl) (fun _ _ _ h => h) (Or.inl ⟨by rfl, ?_⟩) (by assumption) ?_
  rotate_left
  focus
    intro U hU
    try dsimp only at hU
    go_simp
    try (with_reducible rfl)
  simp only [List.getElem_toArray, List.getElem_cons_succ, List.getElem_cons_zero, Act.put, List.setIfInBounds_toArray, List.set_cons_zero, List.set_cons_succ]
  refine wpAnyH_ready (rs := [9]) (by kernel_rfl) (by simp) ?_
  refine AllReadyH.cons rfl (fun K hK => ?_) AllReadyH.nil
  simp only [List.getElem_toArray, List.getElem_cons_succ, List.getElem_cons_zero]
  go_simp
  refine (HDS.out u1 A1 c1 (HB1.out.trans (hu1.mono HB1.out.size)) HO1.out).mono ?_
  rintro q u2 ⟨rfl, g2⟩
  have hu2 : Below w1.heap.size w1 u2 := hu1.trans (g2.mono hu1.size)
  clear g2
  go_wp2_with fail
  refine hK.out _ _ ?_ (fun hHeld2 => ?_)
  focus
    exact hS _ (by with_reducible assumption)
  clear hHeld
  have hHeld := hHeld2
  clear hHeld2 hK K
  try simp only [List.getElem_toArray, List.getElem_cons_succ, List.getElem_cons_zero, Act.put, List.setIfInBounds_toArray, List.set_cons_zero, List.set_cons_succ]
  refine wpAnyH_take (i := 10) (v := ?_) rfl (by kernel_rfl) (by kernel_rfl) (by kernel_rfl) (fun _ _ _ h => h) (Or.inl ⟨by rfl, ?_⟩) (by assumption) ?_
  rotate_left
  focus
    intro U hU
    try dsimp only at hU
    go_simp
    try (with_reducible rfl)
  simp only [List.getElem_toArray, List.getElem_cons_succ, List.getElem_cons_zero, Act.put, List.setIfInBounds_toArray, List.set_cons_zero, List.set_cons_succ]
  refine wpAnyH_done (by kernel_rfl) ?_ _
  clear hHeld hS
  go_wp2
  go_ret
  exact ⟨rfl, HB1.out.trans (hu2.mono HB1.out.size)⟩

set_option maxRecDepth 20000 in
set_option maxHeartbeats 4000000 in
theorem of35_any (l : Int) (asked : List Int) (A : Option Addr) (c : Nat) (had : List Bool) (H : Option Addr) (ch : Nat) (W : World) (hA : Sl W 1 A asked.length c (icells .i64 asked)) (hH : Sl W 1 H had.length ch (bcs had)) (hlen : had.length ≤ 1000) :
    Calls Try.prog 46 #[.agg #[.int .i64 l, .slice A asked.length c, .slice H had.length ch]] W fun e w' => ∃ H' ch', e = .returned (.agg #[.int .i64 l, .int .u64 (ofL asked : Nat), .slice H' had.length ch']) ∧ Sl w' 1 H' had.length ch' (bcs had) ∧ Below W.heap.size W w' := by
  have HOF := hid (fun w (hw : Below W.heap.size W w) => rof_any A asked.length c asked w (hA.below hw))
  have HH := hid hH
  generalize ofL asked = q at *
  have h0 := heap_first W (.cells #[.int .i64 l, .slice A asked.length c, .slice H had.length ch] 62) (.cells #[.int .i64 0, .int .u64 0, .slice none 0 0] 64)
  have h1 := heap_second W (.cells #[.int .i64 l, .slice A asked.length c, .slice H had.length ch] 62) (.cells #[.int .i64 0, .int .u64 0, .slice none 0 0] 64)
  have h2 := below2 W (.cells #[.int .i64 l, .slice A asked.length c, .slice H had.length ch] 62) (.cells #[.int .i64 0, .int .u64 0, .slice none 0 0] 64)
  have H012 := hid (And.intro h0 (And.intro h1 h2))
  clear hA hH h0 h1 h2
  go_enter Try.func46, Try.ntmps46
  go_upto_region 1 with (fail)
  refine at_world (fun w => w.heap[W.heap.size]? = some (.cells #[.int .i64 l, .slice A asked.length c, .slice H had.length ch] 62 (0, 0)) ∧ w.heap[W.heap.size + 1]? = some (.cells #[.int .i64 0, .int .u64 0, .slice none 0 0] 64 (0, 0)) ∧ Below W.heap.size W w) H012.out ?_
  clear H012
  rintro w1 ⟨k0, k1, hb1⟩
  have HX := hid k0
  have HY := hid k1
  have HB1 := hid hb1
  have HZ := hid (lt_of_block k1)
  clear k0 k1 hb1
  have hS : ∀ U, Below (W.heap.size + 1) w1 U → ((U.cell? ⟨W.heap.size, 0, none⟩ = some (.int .i64 l) ∧ U.cell? ⟨W.heap.size, 1, none⟩ = some (.slice A asked.length c) ∧ U.cell? ⟨W.heap.size, 2, none⟩ = some (.slice H had.length ch)) ∧ Below (W.heap.size + 1) w1 U) := fun U hU => ⟨(three_cells ((hU.block W.heap.size (Nat.lt_succ_self _)).trans HX.out)).1, hU⟩
  have hu0 : Below (W.heap.size + 1) w1 w1.drew := below_drew (Below.refl _ _)
  have HT := hid (fun U (h : Below (W.heap.size + 1) w1 U) => HB1.out.trans (h.mono (Nat.le_succ _)))
  have hz0 : w1.drew.heap[W.heap.size + 1]? = some (.cells #[.int .i64 0, .int .u64 0, .slice none 0 0] 64 (0, 0)) := HY.out
  refine wp_region_held_drew (S := (fun U => (U.cell? ⟨W.heap.size, 0, none⟩ = some (.int .i64 l) ∧ U.cell? ⟨W.heap.size, 1, none⟩ = some (.slice A asked.length c) ∧ U.cell? ⟨W.heap.size, 2, none⟩ = some (.slice H had.length ch)) ∧ Below (W.heap.size + 1) w1 U)) (by kernel_rfl) (hS _ hu0) (fun hHeld => ?_)
  refine wpAnyH_take (i := 0) (v := ?_) rfl (by kernel_rfl) (by kernel_rfl) (by kernel_rfl) (fun _ _ _ h => h) (Or.inl ⟨by rfl, ?_⟩) (by assumption) ?_
  rotate_left
  focus
    intro U hU
    try dsimp only at hU
    go_simp
    try (with_reducible rfl)
  simp only [List.getElem_toArray, List.getElem_cons_succ, List.getElem_cons_zero, Act.put, List.setIfInBounds_toArray, List.set_cons_zero, List.set_cons_succ]
  refine wpAnyH_take (i := 1) (v := ?_) rfl (by kernel_rfl) (by kernel_rfl) (by kernel_rfl) (fun _ _ _ h => h) (Or.inl ⟨by rfl, ?_⟩) (by assumption) ?_
  rotate_left
  focus
    intro U hU
    try dsimp only at hU
    go_simp
    try (with_reducible rfl)
  simp only [List.getElem_toArray, List.getElem_cons_succ, List.getElem_cons_zero, Act.put, List.setIfInBounds_toArray, List.set_cons_zero, List.set_cons_succ]
  refine wpAnyH_take (i := 2) (v := ?_) rfl (by kernel_rfl) (by kernel_rfl) (by kernel_rfl) (fun _ _ _ h => h) (Or.inl ⟨by rfl, ?_⟩) (by assumption) ?_
  rotate_left
  focus
    intro U hU
    try dsimp only at hU
    go_simp
    try (with_reducible rfl)
  simp only [List.getElem_toArray, List.getElem_cons_succ, List.getElem_cons_zero, Act.put, List.setIfInBounds_toArray, List.set_cons_zero, List.set_cons_succ]
  refine wpAnyH_take (i := 3) (v := ?_) rfl (by kernel_rfl) (by kernel_rfl) (by kernel_rfl) (fun _ _ _ h => h) (Or.inl ⟨by rfl, ?_⟩) (by assumption) ?_
  rotate_left
  focus
    intro U hU
    try dsimp only at hU
    go_simp
    try (with_reducible rfl)
  simp only [List.getElem_toArray, List.getElem_cons_succ, List.getElem_cons_zero, Act.put, List.setIfInBounds_toArray, List.set_cons_zero, List.set_cons_succ]
  refine wpAnyH_take (i := 6) (v := ?_) rfl (by kernel_rfl) (by kernel_rfl) (by kernel_rfl) (fun _ _ _ h => h) (Or.inl ⟨by rfl, ?_⟩) (by assumption) ?_
  rotate_left
  focus
    intro U hU
    try dsimp only at hU
    go_simp
    try (with_reducible rfl)
  simp only [List.getElem_toArray, List.getElem_cons_succ, List.getElem_cons_zero, Act.put, List.setIfInBounds_toArray, List.set_cons_zero, List.set_cons_succ]
  refine wpAnyH_take (i := 7) (v := ?_) rfl (by kernel_rfl) (by kernel_rfl) (by kernel_rfl) (fun _ _ _ h => h) (Or.inl ⟨by rfl, ?_⟩) (by assumption) ?_
  rotate_left
  focus
    intro U hU
    try dsimp only at hU
    go_simp
    try (with_reducible rfl)
  simp only [List.getElem_toArray, List.getElem_cons_succ, List.getElem_cons_zero, Act.put, List.setIfInBounds_toArray, List.set_cons_zero, List.set_cons_succ]
  refine wpAnyH_ready (rs := [4, 5]) (by kernel_rfl) (by simp) ?_
  refine (AllReadyH.cons rfl (fun K hK => ?_) (AllReadyH.cons rfl (fun K hK => ?_) AllReadyH.nil))
  · skip
    simp only [List.getElem_toArray, List.getElem_cons_succ, List.getElem_cons_zero]
    go_simp
    refine (HOF.out _ (HT.out _ hu0)).mono ?_
    rintro e ux ⟨rfl, rfl⟩
    go_wp2_with fail
    refine hK.out _ _ ?_ (fun hHeld2 => ?_)
    focus
      exact hS _ hu0
    clear hHeld
    have hHeld := hHeld2
    clear hHeld2 hK K
    try simp only [List.getElem_toArray, List.getElem_cons_succ, List.getElem_cons_zero, Act.put, List.setIfInBounds_toArray, List.set_cons_zero, List.set_cons_succ]
    refine wpAnyH_ready (rs := [5]) (by kernel_rfl) (by simp) ?_
    refine (AllReadyH.cons rfl (fun K hK => ?_) AllReadyH.nil)
    have hb2 : Below (W.heap.size + 1) w1 (World.alloc w1.drew (.cells #[] 4)) := hu0.alloc (by have := hu0.size; have := HZ.out; omega) _
    have hz2 : (World.alloc w1.drew (.cells #[] 4)).heap[W.heap.size + 1]? = some (.cells #[.int .i64 0, .int .u64 0, .slice none 0 0] 64 (0, 0)) := (Below.heap_alloc _ _ _ (lt_of_block hz0)).trans hz0
    have HE2 := hid (own_empty w1.drew 4 1)
    simp only [List.getElem_toArray, List.getElem_cons_succ, List.getElem_cons_zero]
    go_simp
    refine hK.out _ _ ?_ (fun hHeld2 => ?_)
    focus
      exact hS _ hb2
    clear hHeld
    have hHeld := hHeld2
    clear hHeld2 hK K
    try simp only [List.getElem_toArray, List.getElem_cons_succ, List.getElem_cons_zero, Act.put, List.setIfInBounds_toArray, List.set_cons_zero, List.set_cons_succ]
    refine wpAnyH_ready (rs := [8]) (by kernel_rfl) (by simp) ?_
    refine (AllReadyH.cons rfl (fun K hK => ?_) AllReadyH.nil)
    refine step_append_sl rfl (.tmp 8) (.tmp 10) 60 rfl w1.heap.size 4 Try.underlying60 info_bool rfl (by omega) rfl (own_mono HE2.out (by simp)) rfl (HH.out.below (HT.out _ hb2)) (bcs_one _) (by unfold maxLen; omega) (by omega) (by simp) ?_
    intro v5 w5 ho5 hb5 hsz5 hk5
    try simp only [Nat.zero_add, List.nil_append] at ho5
    obtain ⟨A5, c5, rfl, _⟩ := Sl.of_own ho5
    have hb6 : Below (W.heap.size + 1) w1 w5 := hb2.trans (hb5.mono (Nat.le_of_lt HZ.out))
    have hz6 : w5.heap[W.heap.size + 1]? = some (.cells #[.int .i64 0, .int .u64 0, .slice none 0 0] 64 (0, 0)) := (hb5.block _ HZ.out).trans hz2
    have HO5 := hid ho5
    clear ho5 hb5 hsz5 hk5
    simp only [List.getElem_toArray, List.getElem_cons_succ, List.getElem_cons_zero]
    refine hK.out _ _ ?_ (fun hHeld2 => ?_)
    focus
      exact hS _ hb6
    clear hHeld
    have hHeld := hHeld2
    clear hHeld2 hK K
    try simp only [List.getElem_toArray, List.getElem_cons_succ, List.getElem_cons_zero, Act.put, List.setIfInBounds_toArray, List.set_cons_zero, List.set_cons_succ]
    refine wpAnyH_take (i := 9) (v := ?_) rfl (by kernel_rfl) (by kernel_rfl) (by kernel_rfl) (fun _ _ _ h => h) (Or.inl ⟨by rfl, ?_⟩) (by exact hS _ hb6) ?_
    rotate_left
    focus
      intro U hU
      try dsimp only at hU
      go_simp
      try (with_reducible rfl)
    simp only [List.getElem_toArray, List.getElem_cons_succ, List.getElem_cons_zero, Act.put, List.setIfInBounds_toArray, List.set_cons_zero, List.set_cons_succ]
    obtain ⟨_, f0, f1, f2⟩ := three_cells hz6
    obtain ⟨⟨z0, z1, z2⟩, _⟩ := three_cells hz6
    refine wpAnyH_ready (rs := [10]) (by kernel_rfl) (by simp) ?_
    refine AllReadyH.cons rfl (fun K hK => ?_) AllReadyH.nil
    simp only [List.getElem_toArray, List.getElem_cons_succ, List.getElem_cons_zero]
    go_simp
    refine hK.out _ _ ?_ (fun hHeld2 => ?_)
    focus
      exact hS _ (((hb6.setCell (p := ⟨W.heap.size + 1, 0, none⟩) (Nat.le_refl _) _).setCell (p := ⟨W.heap.size + 1, 1, none⟩) (Nat.le_refl _) _).setCell (p := ⟨W.heap.size + 1, 2, none⟩) (Nat.le_refl _) _)
    clear hHeld
    have hHeld := hHeld2
    clear hHeld2 hK K
    try simp only [List.getElem_toArray, List.getElem_cons_succ, List.getElem_cons_zero, Act.put, List.setIfInBounds_toArray, List.set_cons_zero, List.set_cons_succ]
    refine wpAnyH_done (by kernel_rfl) ?_ _
    have hbE := HT.out _ hb6
    have hO5 := HO5.out
    obtain ⟨⟨r0, r1, r2⟩, _⟩ := three_cells (set_three hz6 (.int .i64 l) (.int .u64 (q : Int)) (.slice A5 had.length c5))
    clear hHeld hS z0 z1 z2 f0 f1 f2
    go_wp2
    exact bodyPost_ret (v := .agg #[.int .i64 l, .int .u64 (q : Int), .slice A5 had.length c5]) (by simp [results, Try.results46, go_sem, r0, r1, r2]) rfl ⟨A5, c5, rfl, sl_own (own_setOld (own_setOld (own_setOld hO5 _ _ HZ.out) _ _ HZ.out) _ _ HZ.out), ((hbE.setCell (p := ⟨W.heap.size + 1, 0, none⟩) (Nat.le_succ _) _).setCell (p := ⟨W.heap.size + 1, 1, none⟩) (Nat.le_succ _) _).setCell (p := ⟨W.heap.size + 1, 2, none⟩) (Nat.le_succ _) _⟩
  · skip
    have hb3 : Below (W.heap.size + 1) w1 (World.alloc w1.drew (.cells #[] 4)) := hu0.alloc (by have := hu0.size; have := HZ.out; omega) _
    have hz3 : (World.alloc w1.drew (.cells #[] 4)).heap[W.heap.size + 1]? = some (.cells #[.int .i64 0, .int .u64 0, .slice none 0 0] 64 (0, 0)) := (Below.heap_alloc _ _ _ (lt_of_block hz0)).trans hz0
    have HE3 := hid (own_empty w1.drew 4 1)
    simp only [List.getElem_toArray, List.getElem_cons_succ, List.getElem_cons_zero]
    go_simp
    refine hK.out _ _ ?_ (fun hHeld2 => ?_)
    focus
      exact hS _ hb3
    clear hHeld
    have hHeld := hHeld2
    clear hHeld2 hK K
    try simp only [List.getElem_toArray, List.getElem_cons_succ, List.getElem_cons_zero, Act.put, List.setIfInBounds_toArray, List.set_cons_zero, List.set_cons_succ]
    refine wpAnyH_ready (rs := [4]) (by kernel_rfl) (by simp) ?_
    refine (AllReadyH.cons rfl (fun K hK => ?_) AllReadyH.nil)
    simp only [List.getElem_toArray, List.getElem_cons_succ, List.getElem_cons_zero]
    go_simp
    refine (HOF.out _ (HT.out _ hb3)).mono ?_
    rintro e ux ⟨rfl, rfl⟩
    go_wp2_with fail
    refine hK.out _ _ ?_ (fun hHeld2 => ?_)
    focus
      exact hS _ hb3
    clear hHeld
    have hHeld := hHeld2
    clear hHeld2 hK K
    try simp only [List.getElem_toArray, List.getElem_cons_succ, List.getElem_cons_zero, Act.put, List.setIfInBounds_toArray, List.set_cons_zero, List.set_cons_succ]
    refine wpAnyH_ready (rs := [8]) (by kernel_rfl) (by simp) ?_
    refine (AllReadyH.cons rfl (fun K hK => ?_) AllReadyH.nil)
    refine step_append_sl rfl (.tmp 8) (.tmp 10) 60 rfl w1.heap.size 4 Try.underlying60 info_bool rfl (by omega) rfl (own_mono HE3.out (by simp)) rfl (HH.out.below (HT.out _ hb3)) (bcs_one _) (by unfold maxLen; omega) (by omega) (by simp) ?_
    intro v5 w5 ho5 hb5 hsz5 hk5
    try simp only [Nat.zero_add, List.nil_append] at ho5
    obtain ⟨A5, c5, rfl, _⟩ := Sl.of_own ho5
    have hb6 : Below (W.heap.size + 1) w1 w5 := hb3.trans (hb5.mono (Nat.le_of_lt HZ.out))
    have hz6 : w5.heap[W.heap.size + 1]? = some (.cells #[.int .i64 0, .int .u64 0, .slice none 0 0] 64 (0, 0)) := (hb5.block _ HZ.out).trans hz3
    have HO5 := hid ho5
    clear ho5 hb5 hsz5 hk5
    simp only [List.getElem_toArray, List.getElem_cons_succ, List.getElem_cons_zero]
    refine hK.out _ _ ?_ (fun hHeld2 => ?_)
    focus
      exact hS _ hb6
    clear hHeld
    have hHeld := hHeld2
    clear hHeld2 hK K
    try simp only [List.getElem_toArray, List.getElem_cons_succ, List.getElem_cons_zero, Act.put, List.setIfInBounds_toArray, List.set_cons_zero, List.set_cons_succ]
    refine wpAnyH_take (i := 9) (v := ?_) rfl (by kernel_rfl) (by kernel_rfl) (by kernel_rfl) (fun _ _ _ h => h) (Or.inl ⟨by rfl, ?_⟩) (by exact hS _ hb6) ?_
    rotate_left
    focus
      intro U hU
      try dsimp only at hU
      go_simp
      try (with_reducible rfl)
    simp only [List.getElem_toArray, List.getElem_cons_succ, List.getElem_cons_zero, Act.put, List.setIfInBounds_toArray, List.set_cons_zero, List.set_cons_succ]
    obtain ⟨_, f0, f1, f2⟩ := three_cells hz6
    obtain ⟨⟨z0, z1, z2⟩, _⟩ := three_cells hz6
    refine wpAnyH_ready (rs := [10]) (by kernel_rfl) (by simp) ?_
    refine AllReadyH.cons rfl (fun K hK => ?_) AllReadyH.nil
    simp only [List.getElem_toArray, List.getElem_cons_succ, List.getElem_cons_zero]
    go_simp
    refine hK.out _ _ ?_ (fun hHeld2 => ?_)
    focus
      exact hS _ (((hb6.setCell (p := ⟨W.heap.size + 1, 0, none⟩) (Nat.le_refl _) _).setCell (p := ⟨W.heap.size + 1, 1, none⟩) (Nat.le_refl _) _).setCell (p := ⟨W.heap.size + 1, 2, none⟩) (Nat.le_refl _) _)
    clear hHeld
    have hHeld := hHeld2
    clear hHeld2 hK K
    try simp only [List.getElem_toArray, List.getElem_cons_succ, List.getElem_cons_zero, Act.put, List.setIfInBounds_toArray, List.set_cons_zero, List.set_cons_succ]
    refine wpAnyH_done (by kernel_rfl) ?_ _
    have hbE := HT.out _ hb6
    have hO5 := HO5.out
    obtain ⟨⟨r0, r1, r2⟩, _⟩ := three_cells (set_three hz6 (.int .i64 l) (.int .u64 (q : Int)) (.slice A5 had.length c5))
    clear hHeld hS z0 z1 z2 f0 f1 f2
    go_wp2
    exact bodyPost_ret (v := .agg #[.int .i64 l, .int .u64 (q : Int), .slice A5 had.length c5]) (by simp [results, Try.results46, go_sem, r0, r1, r2]) rfl ⟨A5, c5, rfl, sl_own (own_setOld (own_setOld (own_setOld hO5 _ _ HZ.out) _ _ HZ.out) _ _ HZ.out), ((hbE.setCell (p := ⟨W.heap.size + 1, 0, none⟩) (Nat.le_succ _) _).setCell (p := ⟨W.heap.size + 1, 1, none⟩) (Nat.le_succ _) _).setCell (p := ⟨W.heap.size + 1, 2, none⟩) (Nat.le_succ _) _⟩
end Go.Proofs.Ytadjmgmdnekllaa
