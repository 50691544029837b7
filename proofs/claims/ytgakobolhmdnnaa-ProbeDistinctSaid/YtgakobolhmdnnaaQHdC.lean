/- hand.Pick; the law's bound and its example. -/
import Derived.Test.YtgakobolhmdnnaaQHdB
namespace Go.Proofs.Ytgakobolhmdnnaa
open Go.RowKit Go.Sort
set_option linter.unusedVariables false
set_option linter.unusedSimpArgs false

theorem fnd_yes {l : List Int} {p : Int → Bool} {k : Nat} (hk : k < l.length) (h : (l.take k).find? p = none) (hp : p (l.getD k 0) = true) : l.find? p = some (l.getD k 0) := by
  have e : l.getD k 0 = l[k] := by simp [List.getD, hk]
  rw [e] at hp ⊢
  have e2 : l = l.take k ++ l.drop k := (List.take_append_drop k l).symm
  have e3 : l.find? p = (l.take k ++ l.drop k).find? p := by rw [← e2]
  rw [e3, List.find?_append, h, List.drop_eq_getElem_cons hk]
  simp only [List.find?_cons, hp, Option.none_or]
theorem fnd_no {l : List Int} {p : Int → Bool} {k : Nat} (hk : k < l.length) (h : (l.take k).find? p = none) (hp : p (l.getD k 0) = false) : (l.take (k + 1)).find? p = none := by
  have e : l.getD k 0 = l[k] := by simp [List.getD, hk]
  rw [e] at hp
  rw [List.take_succ_eq_append_getElem hk, List.find?_append, h]
  simp [List.find?_cons, hp]
theorem open_mem {e : En} {x : Int} (hx : x ∈ openB e) : ∃ i : Nat, x = (i : Int) ∧ i < e.ns.length ∧ i < e.bd.length ∧ e.bd.getD i 0 = 0 := by
  unfold openB opk at hx
  obtain ⟨i, hi, rfl⟩ := List.mem_map.1 hx
  obtain ⟨h1, h2⟩ := List.mem_filter.1 hi
  have h3 : i < min e.ns.length e.bd.length := by simpa using h1
  exact ⟨i, rfl, by omega, by omega, by simpa using h2⟩
/-- The task that a worker is assigned; is it fresh; is there one. -/
def mayF (e : En) (T : List (List UInt8)) (ws : List Wk) (wk : Int) : Int → Bool := fun i => hasS (setJ T ws (e.ns.getD i.toNat [])) wk
def pickB (e : En) (T : List (List UInt8)) (ws : List Wk) (wk : Int) (h : List Bool) : Int × Bool × Bool :=
  match pndW e h wk with
  | t :: _ => (t, false, true)
  | [] => match (openB e).find? (mayF e T ws wk) with
    | some i => (i, true, true)
    | none => (-1, false, false)
theorem pick_old {e : En} {T ws wk h t r} (h1 : pndW e h wk = t :: r) : pickB e T ws wk h = (t, false, true) := by unfold pickB; rw [h1]
theorem pick_new {e : En} {T ws wk h i} (h1 : pndW e h wk = []) (h2 : (openB e).find? (mayF e T ws wk) = some i) : pickB e T ws wk h = (i, true, true) := by unfold pickB; rw [h1]; simp only [h2]
theorem pick_none {e : En} {T ws wk h} (h1 : pndW e h wk = []) (h2 : (openB e).find? (mayF e T ws wk) = none) : pickB e T ws wk h = (-1, false, false) := by unfold pickB; rw [h1]; simp only [h2]

set_option maxRecDepth 20000 in
set_option maxHeartbeats 4000000 in
theorem pick_any (x : Cf) (N : Option Addr) (nc : Nat) (K : Option Addr) (kc : Nat) (e : Ee) (wk : Int) (H : Option Addr) (hc : Nat) (h : List Bool) (W : World) (hC : CfAt W x N nc K kc) (hE : InE W e) (hh : HadAt W H hc h) (hbd : BdOk e.1) (hl : e.1.ns.length ≤ 100000 ∧ e.1.bd.length ≤ 100000 ∧ e.1.dn.length ≤ 100000) (hs : ∀ s ∈ e.1.ns, s.length ≤ 1000) (hw : x.ws.length ≤ 1000) :
    Calls Try.prog 37 #[.agg (cfc x N nc K kc), .agg (ecE e), .int .i64 wk, .slice H h.length hc] W fun q w' => q = .returned (.tuple #[.int .i64 (pickB e.1 x.T x.ws wk h).1, .bool (pickB e.1 x.T x.ws wk h).2.1, .bool (pickB e.1 x.T x.ws wk h).2.2]) ∧ RowKit.Below W.heap.size W w' := by
  have HPW := hid (fun u (hu : RowKit.Below W.heap.size W u) => pendw_any e wk H hc h u (hE.below hu) (Sl.below hh hu) hbd hl)
  have HOP := hid (fun u (hu : RowKit.Below W.heap.size W u) => bopen_any e u (hE.below hu) hl)
  have HAD := hid (fun u (hu : RowKit.Below W.heap.size W u) (i : Nat) (hi : i < e.1.ns.length) => admit_any x N nc K kc e wk i u (hC.below hu) (hE.below hu) hi hs hw)
  have HM := hid (fun y (hy : y ∈ openB e.1) => open_mem hy)
  have hol : (openB e.1).length ≤ 100000 := Nat.le_trans (opk_len _ _) (by omega)
  have HR1 := hid (fun t r (h1 : pndW e.1 h wk = t :: r) => pick_old (T := x.T) (ws := x.ws) h1)
  have HR2 := hid (fun (h1 : pndW e.1 h wk = []) i (h2 : (openB e.1).find? (mayF e.1 x.T x.ws wk) = some i) => pick_new h1 h2)
  have HR3 := hid (fun (h1 : pndW e.1 h wk = []) (h2 : (openB e.1).find? (mayF e.1 x.T x.ws wk) = none) => pick_none h1 h2)
  have HF : Hid (∀ i : Nat, mayF e.1 x.T x.ws wk (i : Int) = hasS (setJ x.T x.ws (e.1.ns.getD i [])) wk) := hid fun i => rfl
  obtain ⟨⟨id, scE, ee, ms, bd, dn⟩, ⟨A1, ca, P, cb, D, cd⟩⟩ := e
  obtain ⟨sc, le, ag, ro, ou, T, ws⟩ := x
  simp only at HPW HOP HAD HM hol HR1 HR2 HR3 HF ⊢
  clear hC hE hh hbd hl hs hw
  simp only [ecE, cfc] at *
  generalize pickB ⟨id, scE, ee, ms, bd, dn⟩ T ws wk h = R at *
  obtain ⟨r1, r2, r3⟩ := R
  simp only
  generalize mayF ⟨id, scE, ee, ms, bd, dn⟩ T ws wk = pM at *
  generalize openB ⟨id, scE, ee, ms, bd, dn⟩ = L0 at *
  generalize pndW ⟨id, scE, ee, ms, bd, dn⟩ h wk = PL at *
  generalize h.length = hn at *
  go_enter Try.func37, Try.ntmps37
  go_upto_region 1 with (fail)
  refine at_world (fun u => u.heap[W.heap.size]? = some (.cells #[.int .i64 sc, .int .i64 le, .int .i64 ag, .int .i64 ro, .int .i64 ou, .slice N T.length nc, .slice K ws.length kc] 25 (0, 0)) ∧ u.heap[W.heap.size + 1]? = some (.cells #[.int .i64 id, .int .i64 scE, .int .i64 ee, .slice A1 ms.length ca, .slice P bd.length cb, .slice D dn.length cd] 55 (0, 0)) ∧ RowKit.Below W.heap.size W u) ⟨(Below.heap_alloc _ _ _ (by simp)).trans (heap_alloc_new _ _), by have := heap_alloc_new (W.alloc (.cells #[.int .i64 sc, .int .i64 le, .int .i64 ag, .int .i64 ro, .int .i64 ou, .slice N T.length nc, .slice K ws.length kc] 25)) (.cells #[.int .i64 id, .int .i64 scE, .int .i64 ee, .slice A1 ms.length ca, .slice P bd.length cb, .slice D dn.length cd] 55); simpa using this, bel_alloc (bel_alloc (RowKit.Below.refl _ _) _) _⟩ ?_
  rintro w1 ⟨hq, hj, hb⟩
  have HB := hid hb
  have HQ := hid hq
  have HJ := hid hj
  obtain ⟨⟨p0, p1, p2, p3, p4, p5⟩, _⟩ := six_cells hj
  clear hq hj hb
  generalize W.heap.size + 1 = J at *
  generalize hQ : W.heap.size = Q at HQ
  clear hQ
  go_wp2_with fail
  refine (HPW.out _ HB.out).mono ?_
  rintro e w2 ⟨A2, c2, rfl, hs2, hb2⟩
  have HS2 := hid hs2
  have HB2 := hid (HB.out.trans (hb2.mono HB.out.size))
  have HQ2 := hid (keep0 HQ.out hb2)
  have HJ2 := hid (keep0 HJ.out hb2)
  clear hs2 hb2 HPW HQ HJ HB p0 p1 p2 p3 p4 p5
  cases PL with
  | cons t r =>
    have hpl : (0 : Int) < ((t :: r).length : Nat) := by simp only [List.length_cons]; omega
    have hpl2 : 0 < (t :: r).length := by simp
    have hR := HR1.out t r rfl
    simp only [Prod.mk.injEq] at hR
    obtain ⟨rfl, rfl, rfl⟩ := hR
    have sL := HS2.out
    have hPN := sl_len64 sL
    obtain ⟨bL, oL, hL9, _⟩ := sL.2.2.2 (by rw [icells_length]; omega)
    subst hL9
    have cL := Sl.cell sL 0 hpl2
    simp only [List.getD_cons_zero, Nat.add_zero] at cL
    clear sL HS2 HR1 HR2 HR3 HM hpl2
    generalize (r1 :: r).length = pn at *
    go_wp2
    exact bodyPost_ret (v := .tuple #[.int .i64 r1, .bool false, .bool true]) (by simp [results, Try.results37, go_sem]) rfl ⟨rfl, HB2.out⟩
  | nil =>
    simp only [List.length_nil] at *
    clear HS2 HR1
    obtain ⟨⟨p0, p1, p2, p3, p4, p5⟩, _⟩ := six_cells HJ2.out
    go_wp2_with fail
    refine (HOP.out _ HB2.out).mono ?_
    rintro e w3 ⟨A3, c3, rfl, hs3, hb3⟩
    have HS3 := hid hs3
    have HB3 := hid (HB2.out.trans (hb3.mono HB2.out.size))
    have HQ3 := hid (keep0 HQ2.out hb3)
    have HJ3 := hid (keep0 HJ2.out hb3)
    clear hs3 hb3 HOP HQ2 HJ2 HB2 p0 p1 p2 p3 p4 p5
    have HGM := hid (fun k (hk : k < L0.length) => HM.out _ (getD_mem hk))
    have HFY := hid (fun k (hk : k < L0.length) (h9 : (L0.take k).find? pM = none) (h8 : pM (L0.getD k 0) = true) => HR2.out trivial _ (fnd_yes hk h9 h8))
    have HFN := hid (fun k (hk : k < L0.length) (h9 : (L0.take k).find? pM = none) (h8 : pM (L0.getD k 0) = false) => fnd_no hk h9 h8)
    have HFE := hid (fun (h9 : (L0.take L0.length).find? pM = none) => HR3.out trivial (by rw [List.take_length] at h9; exact h9))
    clear HR2 HR3 HM
    generalize hm : L0.length = m at *
    have HLM := hid hm
    clear hm
    go_wp2
    go_loopw [13, 27] (fun _ i wr => ∃ n : Nat, n ≤ m ∧ i = .int .i64 (n : Int) ∧ Hid ((L0.take n).find? pM = none) ∧ Hid (RowKit.Below w3.heap.size w3 wr)) (fun _ i _ => m - (intOf i).toNat)
    case atStart => exact ⟨0, by omega, rfl, rfl, RowKit.Below.refl _ _⟩
    case round =>
      obtain ⟨n, hn9, rfl, HT, HB4⟩ := hrel
      by_cases hlt : n < m
      · have hlt2 : (n : Int) < (m : Int) := by omega
        have i0 : ¬ (n : Int) < 0 := by omega
        have hwn := wrap_succ n (by omega)
        have hkl : n < L0.length := by rw [HLM.out]; exact hlt
        have sL := HS3.out.below HB4.out
        obtain ⟨bL, oL, hL9, _⟩ := sL.2.2.2 (by rw [icells_length]; omega)
        subst hL9
        have HcL := hid (Sl.cell sL n hkl)
        clear sL
        obtain ⟨j, hj, j1, j2, j3⟩ := HGM.out n hlt
        have HYY := hid (HFY.out n hlt HT.out)
        have HNN := hid (HFN.out n hlt HT.out)
        rw [hj, HF.out j] at HYY HNN
        rw [hj] at HcL
        have cL := HcL.out
        have HAD2 := hid (fun u hu => HAD.out u hu j j1)
        have HQ4 := hid (keep0 HQ3.out HB4.out)
        obtain ⟨⟨p0, p1, p2, p3, p4, p5⟩, _⟩ := six_cells (keep0 HJ3.out HB4.out)
        obtain ⟨q0, q1, q2, q3, q4, q5, q6⟩ := seven_cellsJ HQ4.out
        clear hj hkl HcL j1 j2 j3 HQ4 HT
        generalize hasS (setJ T ws (ms.getD j [])) wk = b at *
        go_wp2_with fail
        refine (HAD2.out _ (HB3.out.trans (HB4.out.mono HB3.out.size))).mono ?_
        rintro e w4 ⟨rfl, hb⟩
        have HB5 := hid (HB4.out.trans (hb.mono HB4.out.size))
        clear HAD2 p0 p1 p2 p3 p4 p5 q0 q1 q2 q3 q4 q5 q6 cL hb HB4
        cases b with
        | true =>
          have hR := HYY.out rfl
          simp only [Prod.mk.injEq] at hR
          obtain ⟨rfl, rfl, rfl⟩ := hR
          clear HYY HNN
          go_wp2
          exact bodyPost_ret (v := .tuple #[.int .i64 (j : Int), .bool true, .bool true]) (by simp [results, Try.results37, go_sem]) rfl ⟨rfl, HB3.out.trans (HB5.out.mono HB3.out.size)⟩
        | false =>
          have HT2 := hid (HNN.out rfl)
          clear HYY HNN
          go_wp2
          go_roundw
          case rel => exact ⟨n + 1, by omega, by go_num, HT2, HB5⟩
          case measure => simp [intOf]; omega
      · have hge : ¬ (n : Int) < (m : Int) := by omega
        obtain rfl : n = m := by omega
        have hR := HFE.out HT.out
        simp only [Prod.mk.injEq] at hR
        obtain ⟨rfl, rfl, rfl⟩ := hR
        clear HFE HT
        go_wp2
        exact bodyPost_ret (v := .tuple #[.int .i64 (-1), .bool false, .bool false]) (by simp [results, Try.results37, go_sem]) rfl ⟨rfl, HB3.out.trans (HB4.out.mono HB3.out.size)⟩

/-- The law's bound. -/
def okb (e : En) : Bool := (e.bd.all fun z => decide (0 ≤ z ∧ z ≤ 64)) && !longBk [e]
theorem okb_bd {e : En} (h : okb e = true) : BdOk e := by
  unfold okb at h
  rw [Bool.and_eq_true] at h
  intro i
  by_cases hi : i < e.bd.length
  · have h2 := List.all_eq_true.1 h.1 e.bd[i] (List.getElem_mem hi)
    have e2 : e.bd.getD i 0 = e.bd[i] := by simp [List.getD, hi]
    rw [e2]
    simpa using h2
  · have e2 : e.bd.getD i 0 = 0 := by simp [List.getD, List.getElem?_eq_none (Nat.le_of_not_lt hi)]
    rw [e2]; omega
theorem okb_len {e : En} (h : okb e = true) : e.ns.length ≤ 30 ∧ e.bd.length ≤ 30 ∧ e.dn.length ≤ 30 ∧ ∀ s ∈ e.ns, s.length ≤ 1000 := by
  unfold okb at h
  rw [Bool.and_eq_true, Bool.not_eq_true'] at h
  obtain ⟨h1, h2⟩ := longBk_sm (xs := [((e, ⟨none, 0, none, 0, none, 0⟩) : Ee)]) (by simpa using h.2)
  obtain ⟨h3, h4, h5⟩ := h2 _ (List.mem_singleton.2 rfl)
  simp only at h3 h4 h5
  obtain ⟨h6, h7⟩ := longB_no h5
  exact ⟨by omega, h3, h4, fun s hs => by have := h6 s hs; omega⟩
theorem okb_no {e : En} {k : Nat} (hk : k < e.bd.length) (h : ¬ (0 ≤ e.bd.getD k 0 ∧ e.bd.getD k 0 ≤ 64)) : okb e = false := by
  have e2 : e.bd.getD k 0 = e.bd[k] := by simp [List.getD, hk]
  rw [e2] at h
  unfold okb
  have : (e.bd.all fun z => decide (0 ≤ z ∧ z ≤ 64)) = false := by
    rw [List.all_eq_false]
    exact ⟨_, List.getElem_mem hk, by simpa using h⟩
  rw [this, Bool.false_and]
theorem okb_end {e : En} (h : ∀ k, k < e.bd.length → 0 ≤ e.bd.getD k 0 ∧ e.bd.getD k 0 ≤ 64) : okb e = !longBk [e] := by
  unfold okb
  have : (e.bd.all fun z => decide (0 ≤ z ∧ z ≤ 64)) = true := by
    rw [List.all_eq_true]
    intro z hz
    obtain ⟨k, hk, rfl⟩ := List.getElem_of_mem hz
    have h2 := h k hk
    have e2 : e.bd.getD k 0 = e.bd[k] := by simp [List.getD, hk]
    rw [e2] at h2
    simpa using h2
  rw [this, Bool.true_and]

set_option maxRecDepth 20000 in
set_option maxHeartbeats 4000000 in
theorem bound34_any (e : Ee) (W : World) (hE : InE W e) :
    Calls Try.prog 35 #[.agg (ecE e)] W fun q w' => q = .returned (.bool (okb e.1)) ∧ RowKit.Below W.heap.size W w' := by
  have HL := hid (fun u (hu : RowKit.Below W.heap.size W u) (B : Option Addr) (hB : Sl u 6 B 1 1 (gcells ebl [e])) => r20long_any B 1 [e] u ⟨hB, fun y hy => by obtain rfl := List.mem_singleton.1 hy; exact hE.below hu⟩)
  have HN := hid (fun k (hk : k < e.1.bd.length) h => okb_no hk h)
  have HE := hid (fun h => okb_end (e := e.1) h)
  have HP := hid hE.2.1
  have hl := sl_len64 hE.2.1
  obtain ⟨⟨id, sc, ee, ms, bd, dn⟩, ⟨A1, ca, P, cb, D, cd⟩⟩ := e
  clear hE
  simp only [ecE, List.map_cons, List.map_nil, List.length_singleton] at *
  generalize okb ⟨id, sc, ee, ms, bd, dn⟩ = R at *
  generalize longBk [⟨id, sc, ee, ms, bd, dn⟩] = lb at *
  go_enter Try.func35, Try.ntmps35
  go_upto_region 1 with (fail)
  refine at_world (fun u => u.heap[W.heap.size]? = some (.cells #[.int .i64 id, .int .i64 sc, .int .i64 ee, .slice A1 ms.length ca, .slice P bd.length cb, .slice D dn.length cd] 55 (0, 0)) ∧ RowKit.Below W.heap.size W u) ⟨heap_alloc_new _ _, (RowKit.Below.refl _ _).alloc (Nat.le_refl _) _⟩ ?_
  rintro w1 ⟨hx1, hb1⟩
  have HX1 := hid hx1
  have HB1 := hid hb1
  obtain ⟨⟨p0, p1, p2, p3, p4, p5⟩, _⟩ := six_cells hx1
  clear hx1 hb1
  obtain ⟨m, hm⟩ : ∃ m, bd.length = m := ⟨_, rfl⟩
  have HM := hid hm
  go_wp2
  go_loopw [3] (fun i wr => ∃ n : Nat, n ≤ bd.length ∧ i = .int .i64 (n : Int) ∧ Hid (∀ k, k < n → 0 ≤ bd.getD k 0 ∧ bd.getD k 0 ≤ 64) ∧ Hid (wr = w1)) (fun i _ => bd.length - (intOf i).toNat)
  case atStart => exact ⟨0, by omega, rfl, fun k h => absurd h (by omega), rfl⟩
  case round =>
    obtain ⟨n, hn9, rfl, HT, HW⟩ := hrel
    obtain rfl := HW.out
    by_cases hlt : n < bd.length
    · have hlt2 : (n : Int) < (bd.length : Int) := by omega
      have i0 : ¬ (n : Int) < 0 := by omega
      have sP := HP.out.below HB1.out
      obtain ⟨bP, oP, hP9, _⟩ := sP.2.2.2 (by rw [icells_length]; omega)
      rw [hP9] at sP p4
      have cP := Sl.cell sP n hlt
      clear sP hP9
      have HNO := hid (HN.out n hlt)
      have HTT := hid (fun (h9 : 0 ≤ bd.getD n 0 ∧ bd.getD n 0 ≤ 64) => show ∀ k, k < n + 1 → 0 ≤ bd.getD k 0 ∧ bd.getD k 0 ≤ 64 from fun k hk => by
        by_cases hk2 : k < n
        · exact HT.out k hk2
        · obtain rfl : k = n := by omega
          exact h9)
      generalize bd.getD n 0 = z at *
      by_cases h1 : z < 0
      · obtain rfl := HNO.out (by omega)
        go_wp2
        go_ret
        exact ⟨rfl, HB1.out⟩
      · by_cases h2 : 64 < z
        · obtain rfl := HNO.out (by omega)
          go_wp2
          go_ret
          exact ⟨rfl, HB1.out⟩
        · have HT2 := hid (HTT.out (by omega))
          clear HNO HTT
          go_wp2
          go_roundw
          case rel => exact ⟨n + 1, by omega, by go_num, HT2, hid (by trivial)⟩
          case measure => simp [intOf]; omega
    · have hge : ¬ (n : Int) < (bd.length : Int) := by omega
      obtain rfl := HE.out (fun k hk => HT.out k (by omega))
      have HS := hid (Sl.lit wr 55 6 1 #[.int .i64 id, .int .i64 sc, .int .i64 ee, .slice A1 ms.length ca, .slice P bd.length cb, .slice D dn.length cd] rfl (by unfold maxLen; omega))
      have HB2 := hid (HB1.out.trans ((bel_alloc (RowKit.Below.refl _ _) (.cells #[.int .i64 id, .int .i64 sc, .int .i64 ee, .slice A1 ms.length ca, .slice P bd.length cb, .slice D dn.length cd] 55) : RowKit.Below wr.heap.size wr _).mono HB1.out.size))
      have HLL := hid (HL.out _ HB2.out _ HS.out)
      clear HS HL hm HM
      go_wp2_with fail
      refine HLL.out.mono ?_
      rintro e w3 ⟨rfl, hb⟩
      have HB3 := hid (HB2.out.trans (hb.mono HB2.out.size))
      clear hb HLL p0 p1 p2 p3 p4 p5
      go_wp2
      go_ret
      exact ⟨rfl, HB3.out⟩

theorem make_wk3 : ∀ W : World, (Instr.makeSlice 23 (.int .i64 3) (.int .i64 3)).run Try.prog W = .ok (.slice (some ⟨W.heap.size, 0, none⟩) 3 3) (W.alloc (.cells #[.int .i64 0, .int .i64 0, .int .u64 0, .int .i64 0, .int .i64 0, .int .u64 0, .int .i64 0, .int .i64 0, .int .u64 0] 94)) := by
  intro W
  obtain ⟨i, hi, hz0, hsize, hby⟩ := info_parts info_worker
  have hr := run_make (P := Try.prog) W 23 94 i _ Try.underlying23 hi hz0 .i64 .i64 3 3 (by omega) (by omega) (by rw [hby]; omega) (by omega)
  have hm : madeCells (Value.agg #[.int .i64 0, .int .i64 0, .int .u64 0]).cells (Int.toNat 3 * 3) = #[.int .i64 0, .int .i64 0, .int .u64 0, .int .i64 0, .int .i64 0, .int .u64 0, .int .i64 0, .int .i64 0, .int .u64 0] := by kernel_rfl
  rw [hr, hsize, hm]
  rfl
theorem info_boolH : (Try.prog.info? 4).map (fun i => (i.zero, i.size, i.bytes)) = some (some (.bool false), 1, 1) := by kernel_rfl
theorem make_bl3 : ∀ W : World, (Instr.makeSlice 53 (.int .i64 3) (.int .i64 3)).run Try.prog W = .ok (.slice (some ⟨W.heap.size, 0, none⟩) 3 3) (W.alloc (.cells #[.bool false, .bool false, .bool false] 4)) :=
  fun W => run_make_1 53 4 Try.underlying53 info_boolH rfl 3 3 (Nat.le_refl _) (by omega) (by unfold maxLen; omega) W
theorem lay34a (W : World) : CfAt ((W.alloc (.cells #[.int .i64 0, .int .i64 0, .int .u64 0, .int .i64 0, .int .i64 0, .int .u64 0, .int .i64 0, .int .i64 0, .int .u64 0] 94)).alloc (.cells (#[.int .i64 0, .int .i64 0, .int .i64 0, .int .i64 0, .int .i64 0, .slice none 0 0, .slice (some ⟨W.heap.size, 0, none⟩) 3 3]) 25)) (⟨0, 0, 0, 0, 0, [], [(0, 0, 0), (0, 0, 0), (0, 0, 0)]⟩ : Cf) none 0 (some ⟨W.heap.size, 0, none⟩) 3 ∧ ((W.alloc (.cells #[.int .i64 0, .int .i64 0, .int .u64 0, .int .i64 0, .int .i64 0, .int .u64 0, .int .i64 0, .int .i64 0, .int .u64 0] 94)).alloc (.cells (#[.int .i64 0, .int .i64 0, .int .i64 0, .int .i64 0, .int .i64 0, .slice none 0 0, .slice (some ⟨W.heap.size, 0, none⟩) 3 3]) 25)).heap[W.heap.size + 1]? = some (.cells (#[.int .i64 0, .int .i64 0, .int .i64 0, .int .i64 0, .int .i64 0, .slice none 0 0, .slice (some ⟨W.heap.size, 0, none⟩) 3 3]) 25 (0, 0)) ∧ RowKit.Below W.heap.size W ((W.alloc (.cells #[.int .i64 0, .int .i64 0, .int .u64 0, .int .i64 0, .int .i64 0, .int .u64 0, .int .i64 0, .int .i64 0, .int .u64 0] 94)).alloc (.cells (#[.int .i64 0, .int .i64 0, .int .i64 0, .int .i64 0, .int .i64 0, .slice none 0 0, .slice (some ⟨W.heap.size, 0, none⟩) 3 3]) 25)) := by
  refine ⟨⟨⟨Sl.nil _ _ _ _ (Nat.zero_le _), by simp⟩, ?_, ?_⟩, ?_, bel_alloc (bel_alloc (RowKit.Below.refl _ _) _) _⟩
  · exact ((Sl.lit W 94 3 3 #[.int .i64 0, .int .i64 0, .int .u64 0, .int .i64 0, .int .i64 0, .int .u64 0, .int .i64 0, .int .i64 0, .int .u64 0] rfl (by unfold maxLen; omega)).below (bel_alloc (RowKit.Below.refl _ _) _) : Sl _ 3 _ 3 3 (gcells wkc [(0, 0, 0), (0, 0, 0), (0, 0, 0)]))
  · intro y h; simp at h; subst h; simp
  · have h9 := heap_alloc_new (W.alloc (.cells #[.int .i64 0, .int .i64 0, .int .u64 0, .int .i64 0, .int .i64 0, .int .u64 0, .int .i64 0, .int .i64 0, .int .u64 0] 94)) (.cells (#[.int .i64 0, .int .i64 0, .int .i64 0, .int .i64 0, .int .i64 0, .slice none 0 0, .slice (some ⟨W.heap.size, 0, none⟩) 3 3]) 25)
    rw [World.size_alloc] at h9
    exact h9
theorem lay34b (W : World) (S I B E : Obj) (hS : S = .cells #[.string ⟨#[42]⟩, .string ⟨#[42]⟩, .string ⟨#[42]⟩] 9) (hI : I = .cells #[.int .i64 0, .int .i64 3, .int .i64 0] 3) (hB : B = .cells #[.bool false, .bool false, .bool false] 4) (hE : E = .cells (#[.int .i64 1, .int .i64 0, .int .i64 0, .slice (some ⟨W.heap.size, 0, none⟩) 3 3, .slice (some ⟨W.heap.size + 1, 0, none⟩) 3 3, .slice (some ⟨W.heap.size + 1 + 1, 0, none⟩) 3 3]) 55) :
    InE ((((W.alloc S).alloc I).alloc B).alloc E) ((⟨1, 0, 0, [[42], [42], [42]], [0, 3, 0], [false, false, false]⟩ : En), ⟨some ⟨W.heap.size, 0, none⟩, 3, some ⟨W.heap.size + 1, 0, none⟩, 3, some ⟨W.heap.size + 1 + 1, 0, none⟩, 3⟩) ∧ ((((W.alloc S).alloc I).alloc B).alloc E).heap[W.heap.size + 1 + 1 + 1]? = some (.cells (#[.int .i64 1, .int .i64 0, .int .i64 0, .slice (some ⟨W.heap.size, 0, none⟩) 3 3, .slice (some ⟨W.heap.size + 1, 0, none⟩) 3 3, .slice (some ⟨W.heap.size + 1 + 1, 0, none⟩) 3 3]) 55 (0, 0)) ∧ RowKit.Below W.heap.size W ((((W.alloc S).alloc I).alloc B).alloc E) := by
  refine ⟨⟨⟨?_, ?_⟩, ?_, ?_⟩, ?_, bel_alloc (bel_alloc (bel_alloc (bel_alloc (RowKit.Below.refl _ _) _) _) _) _⟩
  · subst hS
    exact ((Sl.lit W 9 1 3 #[.string ⟨#[42]⟩, .string ⟨#[42]⟩, .string ⟨#[42]⟩] rfl (by unfold maxLen; omega)).below (bel_alloc (bel_alloc (bel_alloc (RowKit.Below.refl _ _) I) B) E) : Sl _ 1 _ 3 3 (scells [[42], [42], [42]]))
  · intro s h; simp at h; subst h; unfold maxLen; simp
  · subst hI
    have h9 : Sl _ 1 _ 3 3 (icells .i64 [0, 3, 0]) := (Sl.lit (W.alloc S) 3 1 3 #[.int .i64 0, .int .i64 3, .int .i64 0] rfl (by unfold maxLen; omega)).below (bel_alloc (bel_alloc (RowKit.Below.refl _ _) B) E)
    rw [World.size_alloc] at h9
    exact h9
  · subst hB
    have h9 : Sl _ 1 _ 3 3 (blcells [false, false, false]) := (Sl.lit ((W.alloc S).alloc I) 4 1 3 #[.bool false, .bool false, .bool false] rfl (by unfold maxLen; omega)).below (bel_alloc (RowKit.Below.refl _ _) E)
    rw [World.size_alloc, World.size_alloc] at h9
    exact h9
  · subst hE
    have h9 := heap_alloc_new (((W.alloc S).alloc I).alloc B) (.cells (#[.int .i64 1, .int .i64 0, .int .i64 0, .slice (some ⟨W.heap.size, 0, none⟩) 3 3, .slice (some ⟨W.heap.size + 1, 0, none⟩) 3 3, .slice (some ⟨W.heap.size + 1 + 1, 0, none⟩) 3 3]) 55)
    rw [World.size_alloc, World.size_alloc, World.size_alloc] at h9
    exact h9
theorem ex34a : pickB (⟨1, 0, 0, [[42], [42], [42]], [0, 3, 0], [false, false, false]⟩ : En) [] [(0, 0, 0), (0, 0, 0), (0, 0, 0)] 2 [] = (1, false, true) := by kernel_rfl
theorem ex34b : pickB (⟨1, 0, 0, [[42], [42], [42]], [0, 3, 0], [false, false, false]⟩ : En) [] [(0, 0, 0), (0, 0, 0), (0, 0, 0)] 2 [false, true] = (0, true, true) := by kernel_rfl

set_option maxRecDepth 20000 in
set_option maxHeartbeats 4000000 in
theorem works34_any (W : World) : Calls Try.prog 36 #[] W fun e w' => e = .returned (.bool true) ∧ RowKit.Below W.heap.size W w' := by
  have HP := hid (fun u K A B D H hc h (hC : CfAt u (⟨0, 0, 0, 0, 0, [], [(0, 0, 0), (0, 0, 0), (0, 0, 0)]⟩ : Cf) none 0 K 3) (hE : InE u ((⟨1, 0, 0, [[42], [42], [42]], [0, 3, 0], [false, false, false]⟩ : En), ⟨A, 3, B, 3, D, 3⟩)) (hh : HadAt u H hc h) => pick_any (⟨0, 0, 0, 0, 0, [], [(0, 0, 0), (0, 0, 0), (0, 0, 0)]⟩ : Cf) none 0 K 3 ((⟨1, 0, 0, [[42], [42], [42]], [0, 3, 0], [false, false, false]⟩ : En), ⟨A, 3, B, 3, D, 3⟩) 2 H hc h u hC hE hh (by intro i; match i with | 0 => simp | 1 => simp | 2 => simp | _ + 3 => simp) (by simp) (by intro s h; simp at h; subst h; simp) (by simp))
  have HP1 := hid (fun u K A B D hC hE => HP.out u K A B D none 0 [] hC hE (Sl.nil _ _ _ _ (Nat.zero_le _)))
  have HP2 := hid (fun u K A B D H hC hE hh => HP.out u K A B D H 2 [false, true] hC hE hh)
  clear HP
  simp only [ex34a, ex34b, ecE, cfc, List.length_cons, List.length_nil, Nat.zero_add, Nat.reduceAdd] at HP1 HP2
  have hmk1 := make_wk3
  have hmk2 := make_bl3
  go_enter Try.func36, Try.ntmps36
  go_upto_region 2 with (fail)
  refine at_world (fun u => CfAt u (⟨0, 0, 0, 0, 0, [], [(0, 0, 0), (0, 0, 0), (0, 0, 0)]⟩ : Cf) none 0 (some ⟨W.heap.size, 0, none⟩) 3 ∧ u.heap[W.heap.size + 1]? = some (.cells (#[.int .i64 0, .int .i64 0, .int .i64 0, .int .i64 0, .int .i64 0, .slice none 0 0, .slice (some ⟨W.heap.size, 0, none⟩) 3 3]) 25 (0, 0)) ∧ RowKit.Below W.heap.size W u) (lay34a W) ?_
  generalize (some (⟨W.heap.size, 0, none⟩ : Addr)) = K at *
  generalize W.heap.size + 1 = Q at *
  rintro w1 ⟨hC, hq, hb⟩
  have HB := hid hb
  have HC := hid hC
  have HQ := hid hq
  clear hC hq hb hmk1
  go_upto_region 3 with (fail)
  refine at_world (fun u => InE u ((⟨1, 0, 0, [[42], [42], [42]], [0, 3, 0], [false, false, false]⟩ : En), ⟨some ⟨w1.heap.size, 0, none⟩, 3, some ⟨w1.heap.size + 1, 0, none⟩, 3, some ⟨w1.heap.size + 1 + 1, 0, none⟩, 3⟩) ∧ u.heap[w1.heap.size + 1 + 1 + 1]? = some (.cells (#[.int .i64 1, .int .i64 0, .int .i64 0, .slice (some ⟨w1.heap.size, 0, none⟩) 3 3, .slice (some ⟨w1.heap.size + 1, 0, none⟩) 3 3, .slice (some ⟨w1.heap.size + 1 + 1, 0, none⟩) 3 3]) 55 (0, 0)) ∧ RowKit.Below w1.heap.size w1 u) (lay34b w1 _ _ _ _ rfl rfl rfl rfl) ?_
  generalize (some (⟨w1.heap.size, 0, none⟩ : Addr)) = A at *
  generalize (some (⟨w1.heap.size + 1, 0, none⟩ : Addr)) = B at *
  generalize (some (⟨w1.heap.size + 1 + 1, 0, none⟩ : Addr)) = D at *
  generalize w1.heap.size + 1 + 1 + 1 = J at *
  rintro w2 ⟨hE, hj, hb⟩
  have HB2 := hid (HB.out.trans (hb.mono HB.out.size))
  have HC2 := hid (HC.out.below hb)
  have HQ2 := hid (keep0 HQ.out hb)
  have HE2 := hid hE
  have HJ2 := hid hj
  clear hE hj hb hmk2 HB HC HQ
  obtain ⟨⟨p0, p1, p2, p3, p4, p5⟩, _⟩ := six_cells HJ2.out
  obtain ⟨q0, q1, q2, q3, q4, q5, q6⟩ := seven_cellsJ HQ2.out
  go_wp2_with fail
  refine (HP1.out w2 K A B D HC2.out HE2.out).mono ?_
  rintro e w3 ⟨rfl, hb⟩
  have HB3 := hid (HB2.out.trans (hb.mono HB2.out.size))
  have HC3 := hid (HC2.out.below hb)
  have HQ3 := hid (keep0 HQ2.out hb)
  have HE3 := hid (HE2.out.below hb)
  have HJ3 := hid (keep0 HJ2.out hb)
  clear hb p0 p1 p2 p3 p4 p5 q0 q1 q2 q3 q4 q5 q6 HB2 HC2 HQ2 HE2 HJ2 HP1
  obtain ⟨⟨p0, p1, p2, p3, p4, p5⟩, _⟩ := six_cells HJ3.out
  obtain ⟨q0, q1, q2, q3, q4, q5, q6⟩ := seven_cellsJ HQ3.out
  have hal : RowKit.Below w3.heap.size w3 (w3.alloc (.cells #[.bool false, .bool true] 4)) := bel_alloc (RowKit.Below.refl _ _) _
  have HPP := hid (HP2.out _ K A B D _ (HC3.out.below hal) (HE3.out.below hal) (Sl.lit w3 4 1 2 #[.bool false, .bool true] rfl (by unfold maxLen; omega)))
  have HB4 := hid (HB3.out.trans (hal.mono HB3.out.size))
  clear hal HP2
  go_wp2_with fail
  refine HPP.out.mono ?_
  rintro e w4 ⟨rfl, hb⟩
  have HB5 := hid (HB4.out.trans (hb.mono HB4.out.size))
  clear hb HPP p0 p1 p2 p3 p4 p5 q0 q1 q2 q3 q4 q5 q6
  go_wp2
  go_ret
  exact ⟨rfl, HB5.out⟩
end Go.Proofs.Ytgakobolhmdnnaa
