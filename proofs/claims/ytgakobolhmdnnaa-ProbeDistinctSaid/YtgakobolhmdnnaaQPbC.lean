/- ProbeDistinct: the law. -/
import Derived.Test.YtgakobolhmdnnaaQPbB
import Derived.Test.YtgakobolhmdnnaaQHdL
import Derived.Deep.RegionHeld3
namespace Go.Proofs.Ytgakobolhmdnnaa
open Go.RowKit Go.Sort
set_option linter.unusedVariables false
set_option linter.unusedSimpArgs false

theorem u64s_in {w : World} {A : Option Addr} {len cap : Nat} (h : Rd Try.prog w 56 [.slice A len cap]) : ∃ l : List Nat, l.length = len ∧ Sl w 1 A len cap (ucells l) ∧ ∀ y ∈ l, y < 18446744073709551616 := by
  obtain ⟨l, h1, h2, h3⟩ := rows_in (α := Nat) (f := fun n => [.int .u64 (n : Int)]) (fun x => x < 18446744073709551616) Try.underlying56 (n := 1) (by kernel_rfl) (by omega) (fun x => rfl) (fun cs hl hr => by
    obtain ⟨n, e, hw⟩ := Rd.int Try.underlying36 hr
    obtain ⟨s, rfl, hs⟩ := wf_u64m hw
    exact ⟨s, e, hs⟩) h
  have e : gcells (fun n : Nat => [Value.int .u64 (n : Int)]) l = ucells l := by
    clear h1 h2 h3
    induction l with
    | nil => rfl
    | cons a l ih => rw [gcells_cons, ih]; rfl
  rw [e] at h1
  exact ⟨l, h2, h1, h3⟩
theorem wf_u64s {l : List Int} (h : ∀ n ∈ l, (Lit.int .u64 n).wf = true) : ∃ m : List Nat, l.map (Value.int .u64) = ucells m ∧ m.length = l.length ∧ ∀ x ∈ m, x < 18446744073709551616 := by
  induction l with
  | nil => exact ⟨[], rfl, rfl, by simp⟩
  | cons a l ih =>
    obtain ⟨m, h1, h2, h3⟩ := ih fun n hn => h n (by simp [hn])
    obtain ⟨x, rfl, hx⟩ := wf_u64m (h a (by simp))
    refine ⟨x :: m, ?_, by simp [h2], ?_⟩
    · simp only [List.map_cons, h1, ucells]
    · intro y hy
      rcases List.mem_cons.1 hy with rfl | hy
      · exact hx
      · exact h3 y hy
theorem of_u64s {w : World} {a : Option Addr} {len cap : Nat} {zs : List Int} (h : IsRow .u64 w a len cap zs) : ∃ m, Sl w 1 a len cap (ucells m) ∧ m.length = len ∧ ∀ x ∈ m, x < 18446744073709551616 := by
  have h1 := Sl.of_row h
  have hw : ∀ n ∈ zs.take len, (Lit.int .u64 n).wf = true := by
    rcases h with ⟨_, _, _, rfl⟩ | ⟨x, _, _, _, _, _, hw⟩
    · intro n hn; simp at hn
    · exact fun n hn => hw n (List.mem_of_mem_take hn)
  obtain ⟨m, e1, e2, e3⟩ := wf_u64s hw
  rw [e1] at h1
  exact ⟨m, h1.1, by rw [e2]; exact h1.2, e3⟩
theorem hasS_memP (s : Nat) (x : Int) (h : x ∈ elems s) : hasS s x = true := by
  obtain ⟨h0, h1, h2⟩ := (mem_elems s x).1 h
  obtain ⟨n, rfl⟩ := Int.eq_ofNat_of_zero_le h0
  rw [hasS_nat _ n (by omega)]
  exact h2
theorem rnd_has (x : Cf) (e : En) (l : List Nat) (k : Nat) (hk : k < (rndL x e l).length) : hasS (workS x e) ((rndL x e l).getD k 0) = true := by
  have e2 : (rndL x e l).getD k 0 ∈ rndL x e l := getD_mem hk
  exact hasS_memP _ _ (pk_mem _ _ _ _ e2)
theorem rnd_new (x : Cf) (e : En) (l : List Nat) (k : Nat) (hk : k < (rndL x e l).length) : (rndL x e l).getD k 0 ∉ (rndL x e l).take k := by
  have e2 : (rndL x e l).getD k 0 = (rndL x e l)[k] := by simp [List.getD, hk]
  rw [e2]
  have hnd : (rndL x e l).Nodup := pk_nodup _ _ _ (elems_nodup _)
  intro h9
  obtain ⟨i, hi, h8⟩ := List.getElem_of_mem h9
  rw [List.length_take] at hi
  rw [List.getElem_take] at h8
  exact (List.pairwise_iff_getElem.1 hnd) i k _ _ (by omega) h8
theorem rnd_len (x : Cf) (e : En) (l : List Nat) : ((rndL x e l).length : Int) = min (2 * ((openB e).length : Int)) ((elems (workS x e)).length : Int) := by
  unfold rndL
  rw [pk_len]
  omega
theorem work_next (x : Cf) (e : En) (k : Nat) (hk : k < (openB e).length) : orK x.T x.ws (needsL e) (k + 1) = orK x.T x.ws (needsL e) k ||| setJ x.T x.ws (needF e ((openB e).getD k 0)) := by
  rw [orK_succ (by rw [needsL_len]; exact hk)]
  have e2 : (openB e).getD k 0 = (openB e)[k] := by simp [List.getD, hk]
  simp only [needsL, List.getElem_map, e2]
theorem Sl.takeP {w : World} {A : Option Addr} {n c : Nat} {l : List Int} (h : Sl w 1 A n c (icells .i64 l)) (k : Nat) (hk : k ≤ l.length) : Sl w 1 A k c (icells .i64 (l.take k)) := by
  have hn : n = l.length := by have := h.1; rw [icells_length] at this; omega
  have h9 := h.2.1
  refine ⟨by rw [icells_length, List.length_take]; omega, by omega, h.2.2.1, fun h0 => ?_⟩
  rw [icells_length, List.length_take] at h0
  obtain ⟨b, off, rfl, hc⟩ := h.2.2.2 (by rw [icells_length]; omega)
  refine ⟨b, off, rfl, fun i hi => ?_⟩
  rw [icells_length, List.length_take] at hi
  have h1 := hc i (by rw [icells_length]; omega)
  have h2 : icells .i64 (l.take k) = (icells .i64 l).take k := by simp [icells, List.map_take]
  rw [h1, h2, List.getElem?_take, if_pos (by omega)]
theorem u64_or_natP (a b : Nat) (ha : a < 18446744073709551616) (hb : b < 18446744073709551616) : bits .or .u64 (a : Int) (b : Int) = ((a ||| b : Nat) : Int) := u64_or_nat a b ha hb

set_option maxRecDepth 20000 in
set_option maxHeartbeats 8000000 in
theorem probeDistinct_law (x : Cf) (N : Option Addr) (nc : Nat) (K : Option Addr) (kc : Nat) (e : Ee) (A9 : Option Addr) (c9 : Nat) (l : List Nat) (W : World) (hC : CfAt W x N nc K kc) (hE : InE W e) (hA : Sl W 1 A9 l.length c9 (ucells l)) (hu : ∀ y ∈ l, y < 18446744073709551616) :
    Calls Try.prog 6 #[.agg (cfc x N nc K kc), .agg (ecE e), .slice A9 l.length c9] W fun q w' => q = .returned (.bool true) ∧ RowKit.Below W.heap.size W w' := by
  have HW := hid works33_any
  have HLC := hid (fun u (hu : RowKit.Below W.heap.size W u) => r14long_any x N nc K kc u (hC.below hu))
  have HLB := hid (fun u (hu : RowKit.Below W.heap.size W u) (B : Option Addr) (hB : Sl u 6 B 1 1 (gcells ebl [e])) => r20long_any B 1 [e] u ⟨hB, fun y hy => by obtain rfl := List.mem_singleton.1 hy; exact hE.below hu⟩)
  have hsm : longBk [e.1] = false → (e.1.ns.length ≤ 1000 ∧ e.1.bd.length ≤ 1000 ∧ e.1.dn.length ≤ 1000) ∧ ∀ s ∈ e.1.ns, s.length ≤ 1000 := fun h9 => by
    obtain ⟨h1, h2⟩ := longBk_sm (xs := [e]) (by simpa using h9)
    obtain ⟨h3, h4, h5⟩ := h2 _ (List.mem_singleton.2 rfl)
    obtain ⟨h6, h7⟩ := longB_no h5
    exact ⟨by omega, fun s hs => by have := h6 s hs; omega⟩
  have HNW := hid (fun u (hb : RowKit.Below W.heap.size W u) (hl : l.length ≤ 100) => newG A9 l.length c9 l u (hA.below hb) (by omega))
  have HRD := hid (fun (hb : longBk [e.1] = false) (hl : longCf x = false) (hll : l.length ≤ 100) u (hu9 : RowKit.Below W.heap.size W u) TT G E hT hG => round_any x N nc K kc e TT G E l u (hC.below hu9) (hE.below hu9) (hsm hb).1 (hsm hb).2 (by have := (longCf_no hl).2; omega) hT hG (by omega) hu)
  have HOP := hid (fun (hb : longBk [e.1] = false) u (hu : RowKit.Below W.heap.size W u) => r20open_any e u (hE.below hu) (by have := (hsm hb).1; omega))
  have HJS := hid (fun (hb : longBk [e.1] = false) (hl : longCf x = false) u (hu : RowKit.Below W.heap.size W u) (j : Nat) (hj : j < e.1.ns.length) => show Calls _ _ _ _ _ from rjset_any x N nc K kc (needF e.1 (j : Int)) u (hC.below hu) (by
    have e2 : needF e.1 (j : Int) = e.1.ns[j] := by simp [needF, List.getD, hj]
    rw [e2]
    exact (hsm hb).2 _ (List.getElem_mem hj)) (by have := (longCf_no hl).2; omega))
  have HRH := hid (fun u v => rhas_any (workS x e.1) v u (workS_lt _ _))
  have HRL := hid (fun u => rlist_any (workS x e.1) u (workS_lt _ _))
  have HTX := hid (fun u (hu : RowKit.Below W.heap.size W u) (j : Nat) (hj : j < e.1.ns.length) => show ∃ b off, e.2.A = some ⟨b, off, none⟩ ∧ u.cell? ⟨b, off + j, none⟩ = some (.string (str (needF e.1 (j : Int)))) by
    have e2 : needF e.1 (j : Int) = e.1.ns[j] := by simp [needF, List.getD, hj]
    rw [e2]
    exact text_at (hE.below hu).1 j hj)
  have HM := hid (fun k (hk : k < (openB e.1).length) => open_mem (getD_mem hk))
  have HNX := hid (fun k (hk : k < (openB e.1).length) => work_next x e.1 k hk)
  have HOL := hid (fun k => orK_lt x.T x.ws (needsL e.1) k)
  have HSL := hid (fun s => setJ_lt x.T x.ws s)
  have HWS : Hid (orK x.T x.ws (needsL e.1) (openB e.1).length = workS x e.1) := hid (by unfold workS; rw [needsL_len])
  have HO0 : Hid (orK x.T x.ws (needsL e.1) 0 = 0) := hid rfl
  have HGH := hid (fun k (hk : k < (rndL x e.1 l).length) => And.intro (rnd_has x e.1 l k hk) (rnd_new x e.1 l k hk))
  have HGL := hid (rnd_len x e.1 l)
  have hgl : (rndL x e.1 l).length ≤ 100 := by unfold rndL; rw [pk_len]; have : (elems (workS x e.1)).length ≤ 64 := by rw [elems_def]; exact elemsU_len _ 64
                                               omega
  have hel : (elems (workS x e.1)).length ≤ 64 := by rw [elems_def]; exact elemsU_len _ 64
  have hol : longBk [e.1] = false → (openB e.1).length ≤ 1000 := fun h9 => Nat.le_trans (openB_le _) (hsm h9).1.1
  have hns := sl_len64 hE.1.1
  have hl4 := sl_len64 hA
  obtain ⟨⟨id, scE, ee, ms, bd, dn⟩, ⟨A1, ca, P, cb, D, cd⟩⟩ := e
  obtain ⟨sc, le, ag, ro, ou, T, ws⟩ := x
  simp only at HNW HRD HOP HJS HRH HRL HTX HM HNX HOL HSL HWS HO0 HGH HGL hgl hel hns hol
  clear hC hE hA hu hsm
  simp only [ecE, cfc, List.map_cons, List.map_nil, List.length_singleton] at *
  generalize rndL ⟨sc, le, ag, ro, ou, T, ws⟩ ⟨id, scE, ee, ms, bd, dn⟩ l = RL at *
  generalize workS ⟨sc, le, ag, ro, ou, T, ws⟩ ⟨id, scE, ee, ms, bd, dn⟩ = sW at *
  generalize needsL ⟨id, scE, ee, ms, bd, dn⟩ = NL at *
  generalize needF ⟨id, scE, ee, ms, bd, dn⟩ = nF at *
  generalize openB ⟨id, scE, ee, ms, bd, dn⟩ = L0 at *
  generalize longCf ⟨sc, le, ag, ro, ou, T, ws⟩ = lc at *
  generalize longBk [⟨id, scE, ee, ms, bd, dn⟩] = lb at *
  generalize orK T ws NL = oK at *
  generalize l.length = ln at *
  generalize (elems sW).length = en at *
  have HOLL := hid hol
  clear hol
  go_enter Try.func6, Try.ntmps6
  go_upto_region 1 with (fail)
  refine at_world (fun u => u.heap[W.heap.size]? = some (.cells #[.int .i64 sc, .int .i64 le, .int .i64 ag, .int .i64 ro, .int .i64 ou, .slice N T.length nc, .slice K ws.length kc] 25 (0, 0)) ∧ u.heap[W.heap.size + 1]? = some (.cells #[.int .i64 id, .int .i64 scE, .int .i64 ee, .slice A1 ms.length ca, .slice P bd.length cb, .slice D dn.length cd] 55 (0, 0)) ∧ RowKit.Below W.heap.size W u) (lay2 W _ _) ?_
  rintro w1 ⟨hq, hj, hb⟩
  have HB := hid hb
  have HQ := hid hq
  have HJ := hid hj
  clear hq hj hb
  generalize W.heap.size + 1 = J at *
  generalize hQ : W.heap.size = Q at HQ
  clear hQ
  obtain ⟨⟨p0, p1, p2, p3, p4, p5⟩, _⟩ := six_cells HJ.out
  obtain ⟨q0, q1, q2, q3, q4, q5, q6⟩ := seven_cellsJ HQ.out
  go_wp2_with fail
  refine (HLC.out _ HB.out).mono ?_
  rintro e w2 ⟨rfl, hb⟩
  have HB2 := hid (HB.out.trans (hb.mono HB.out.size))
  have HQ2 := hid (keep0 HQ.out hb)
  have HJ2 := hid (keep0 HJ.out hb)
  clear hb p0 p1 p2 p3 p4 p5 q0 q1 q2 q3 q4 q5 q6 HB HQ HJ HLC
  cases lc with
  | true =>
    go_wp2_with fail
    refine (HW.out _).mono ?_
    rintro e w3 ⟨rfl, hb⟩
    have HB3 := hid (HB2.out.trans (hb.mono HB2.out.size))
    clear hb
    go_wp2
    go_ret
    exact ⟨rfl, HB3.out⟩
  | false =>
    obtain ⟨⟨p0, p1, p2, p3, p4, p5⟩, _⟩ := six_cells HJ2.out
    have hal : RowKit.Below w2.heap.size w2 (w2.alloc (.cells #[.int .i64 id, .int .i64 scE, .int .i64 ee, .slice A1 ms.length ca, .slice P bd.length cb, .slice D dn.length cd] 55)) := bel_alloc (RowKit.Below.refl _ _) _
    have HLL := hid (HLB.out _ (HB2.out.trans (hal.mono HB2.out.size)) _ (Sl.lit w2 55 6 1 #[.int .i64 id, .int .i64 scE, .int .i64 ee, .slice A1 ms.length ca, .slice P bd.length cb, .slice D dn.length cd] rfl (by unfold maxLen; omega)))
    have HB3 := hid (HB2.out.trans (hal.mono HB2.out.size))
    have HQ3 := hid (keep0 HQ2.out hal)
    have HJ3 := hid (keep0 HJ2.out hal)
    clear hal HB2 HQ2 HJ2 HLB
    go_wp2_with fail
    refine HLL.out.mono ?_
    rintro e w3 ⟨rfl, hb⟩
    have HB4 := hid (HB3.out.trans (hb.mono HB3.out.size))
    have HQ4 := hid (keep0 HQ3.out hb)
    have HJ4 := hid (keep0 HJ3.out hb)
    clear hb p0 p1 p2 p3 p4 p5 HB3 HQ3 HJ3 HLL
    cases lb with
    | true =>
      go_wp2_with fail
      refine (HW.out _).mono ?_
      rintro e w4 ⟨rfl, hb⟩
      have HB5 := hid (HB4.out.trans (hb.mono HB4.out.size))
      clear hb
      go_wp2
      go_ret
      exact ⟨rfl, HB5.out⟩
    | false =>
      by_cases hlong : 100 < ln
      · have hlong2 : (100 : Int) < (ln : Int) := by omega
        go_wp2_with fail
        refine (HW.out _).mono ?_
        rintro e w4 ⟨rfl, hb⟩
        have HB5 := hid (HB4.out.trans (hb.mono HB4.out.size))
        clear hb
        go_wp2
        go_ret
        exact ⟨rfl, HB5.out⟩
      · have hlong2 : ¬ (100 : Int) < (ln : Int) := by omega
        have HNW2 := hid (fun u hb => HNW.out u hb (by omega))
        have HRD2 := hid (HRD.out (by trivial) (by trivial) (by omega))
        have HOP2 := hid (HOP.out (by trivial))
        have HJS2 := hid (HJS.out (by trivial) (by trivial))
        have hol := HOLL.out (by trivial)
        clear HNW HRD HOP HJS HOLL
        go_upto_region 3 with (fail)
        have hSU : ∀ U, RowKit.Below w3.heap.size w3 U → ((U.cell? ⟨Q, 0, none⟩ = some (.int .i64 sc) ∧ U.cell? ⟨Q, 1, none⟩ = some (.int .i64 le) ∧ U.cell? ⟨Q, 2, none⟩ = some (.int .i64 ag) ∧ U.cell? ⟨Q, 3, none⟩ = some (.int .i64 ro) ∧ U.cell? ⟨Q, 4, none⟩ = some (.int .i64 ou) ∧ U.cell? ⟨Q, 5, none⟩ = some (.slice N T.length nc) ∧ U.cell? ⟨Q, 6, none⟩ = some (.slice K ws.length kc)) ∧ (U.cell? ⟨J, 0, none⟩ = some (.int .i64 id) ∧ U.cell? ⟨J, 1, none⟩ = some (.int .i64 scE) ∧ U.cell? ⟨J, 2, none⟩ = some (.int .i64 ee) ∧ U.cell? ⟨J, 3, none⟩ = some (.slice A1 ms.length ca) ∧ U.cell? ⟨J, 4, none⟩ = some (.slice P bd.length cb) ∧ U.cell? ⟨J, 5, none⟩ = some (.slice D dn.length cd))) := fun U hU => ⟨seven_cellsJ (keep0 HQ4.out hU), (six_cells (keep0 HJ4.out hU)).1⟩
        have hk0 : RowKit.Below w3.heap.size w3 w3.drew := below_drew (RowKit.Below.refl _ _)
        refine wp_region_held_drew (S := fun U => (U.cell? ⟨Q, 0, none⟩ = some (.int .i64 sc) ∧ U.cell? ⟨Q, 1, none⟩ = some (.int .i64 le) ∧ U.cell? ⟨Q, 2, none⟩ = some (.int .i64 ag) ∧ U.cell? ⟨Q, 3, none⟩ = some (.int .i64 ro) ∧ U.cell? ⟨Q, 4, none⟩ = some (.int .i64 ou) ∧ U.cell? ⟨Q, 5, none⟩ = some (.slice N T.length nc) ∧ U.cell? ⟨Q, 6, none⟩ = some (.slice K ws.length kc)) ∧ (U.cell? ⟨J, 0, none⟩ = some (.int .i64 id) ∧ U.cell? ⟨J, 1, none⟩ = some (.int .i64 scE) ∧ U.cell? ⟨J, 2, none⟩ = some (.int .i64 ee) ∧ U.cell? ⟨J, 3, none⟩ = some (.slice A1 ms.length ca) ∧ U.cell? ⟨J, 4, none⟩ = some (.slice P bd.length cb) ∧ U.cell? ⟨J, 5, none⟩ = some (.slice D dn.length cd))) (by kernel_rfl) (hSU _ hk0) (fun hHeld => ?_)
        generalize w3.drew = k0 at *
        refine wpAnyH_take (i := 0) (v := ?_) rfl (by kernel_rfl) (by kernel_rfl) (by kernel_rfl) (fun _ _ _ h => h) (Or.inl ⟨by rfl, ?_⟩) (by assumption) ?_
        rotate_left
        focus
          intro U hU
          try dsimp only at hU
          go_simp
          try (with_reducible rfl)
        simp only [List.getElem_toArray, List.getElem_cons_succ, List.getElem_cons_zero, Act.put, List.setIfInBounds_toArray, List.set_cons_zero, List.set_cons_succ]
        refine wpAnyH_take (i := 2) (v := ?_) rfl (by kernel_rfl) (by kernel_rfl) (by kernel_rfl) (fun _ _ _ h => h) (Or.inl ⟨by rfl, ?_⟩) (by assumption) ?_
        rotate_left
        focus
          intro U hU
          try dsimp only at hU
          go_simp
          try (with_reducible rfl)
        simp only [List.getElem_toArray, List.getElem_cons_succ, List.getElem_cons_zero, Act.put, List.setIfInBounds_toArray, List.set_cons_zero, List.set_cons_succ]
        refine wpAnyH_take (i := 3) (v := ?_) rfl (by kernel_rfl) (by kernel_rfl) (by kernel_rfl) (fun _ _ _ h => h) (Or.inl ⟨by rfl, ?_⟩) (by assumption) ?_
        rotate_left
        focus
          intro U hU
          try dsimp only at hU
          go_simp
          try (with_reducible rfl)
        simp only [List.getElem_toArray, List.getElem_cons_succ, List.getElem_cons_zero, Act.put, List.setIfInBounds_toArray, List.set_cons_zero, List.set_cons_succ]
        refine wpAnyH_ready (rs := [1]) (by kernel_rfl) (by simp) ?_
        refine AllReadyH.cons rfl (fun K hK => ?_) AllReadyH.nil
        simp only [List.getElem_toArray, List.getElem_cons_succ, List.getElem_cons_zero]
        go_simp
        refine (HNW2.out k0 (HB4.out.trans (hk0.mono HB4.out.size))).mono ?_
        rintro q k1 ⟨TT, G, E, rfl, hWT, hTG, hRG, hb1⟩
        have hk1 := hk0.trans (hb1.mono hk0.size)
        have hTT := Nat.le_trans hk0.size hWT
        clear hb1
        go_wp2_with fail
        refine hK.out _ _ ?_ (fun hHeld2 => ?_)
        focus
          exact hSU _ hk1
        clear hHeld
        have hHeld := hHeld2
        clear hHeld2 hK K
        try simp only [List.getElem_toArray, List.getElem_cons_succ, List.getElem_cons_zero, Act.put, List.setIfInBounds_toArray, List.set_cons_zero, List.set_cons_succ]
        refine wpAnyH_ready (rs := [4]) (by kernel_rfl) (by simp) ?_
        refine AllReadyH.cons rfl (fun K hK => ?_) AllReadyH.nil
        simp only [List.getElem_toArray, List.getElem_cons_succ, List.getElem_cons_zero]
        go_simp
        refine (HRD2.out k1 (HB4.out.trans (hk1.mono HB4.out.size)) TT G E hTG (fun g hg => hRG.ltP hg)).mono ?_
        rintro q k2 ⟨AG, CG, rfl, ho9, hO⟩
        have hk2 := hk1.trans (hO.below w3.heap.size hTT hk1.size)
        have hs9 := sl_own ho9
        clear ho9 hO
        go_wp2_with fail
        refine hK.out _ _ ?_ (fun hHeld2 => ?_)
        focus
          exact hSU _ hk2
        clear hHeld
        have hHeld := hHeld2
        clear hHeld2 hK K
        try simp only [List.getElem_toArray, List.getElem_cons_succ, List.getElem_cons_zero, Act.put, List.setIfInBounds_toArray, List.set_cons_zero, List.set_cons_succ]
        refine wpAnyH_take (i := 5) (v := ?_) rfl (by kernel_rfl) (by kernel_rfl) (by kernel_rfl) (fun _ _ _ h => h) (Or.inl ⟨by rfl, ?_⟩) (by assumption) ?_
        rotate_left
        focus
          intro U hU
          try dsimp only at hU
          go_simp
          try (with_reducible rfl)
        simp only [List.getElem_toArray, List.getElem_cons_succ, List.getElem_cons_zero, Act.put, List.setIfInBounds_toArray, List.set_cons_zero, List.set_cons_succ]
        refine wpAnyH_done (by kernel_rfl) ?_ _
        have HB5 := hid (HB4.out.trans (hk2.mono HB4.out.size))
        have HQ5 := hid (keep0 HQ4.out hk2)
        have HJ5 := hid (keep0 HJ4.out hk2)
        have HS5 := hid hs9
        clear hHeld hSU hk0 hk1 hk2 hs9 hTT hTG hRG hWT HB4 HQ4 HJ4 HNW2 HRD2
        obtain ⟨⟨p0, p1, p2, p3, p4, p5⟩, _⟩ := six_cells HJ5.out
        go_wp2_with fail
        refine (HOP2.out _ HB5.out).mono ?_
        rintro e w5 ⟨A5, c5, rfl, hs, hb⟩
        have HS6 := hid (HS5.out.below hb)
        have HO6 := hid hs
        have HB6 := hid (HB5.out.trans (hb.mono HB5.out.size))
        have HQ6 := hid (keep0 HQ5.out hb)
        have HJ6 := hid (keep0 HJ5.out hb)
        clear hs hb p0 p1 p2 p3 p4 p5 HS5 HB5 HQ5 HJ5 HOP2
        generalize hm : L0.length = m at *
        generalize hg : RL.length = gn at *
        have HLM := hid hm
        have HLG := hid hg
        clear hm hg
        go_wp2
        go_loopw [9, 10] (fun v i wr => ∃ n : Nat, n ≤ m ∧ i = .int .i64 (n : Int) ∧ v = .int .u64 (oK n : Nat) ∧ Hid (RowKit.Below w5.heap.size w5 wr)) (fun _ i _ => m - (intOf i).toNat)
        case atStart => exact ⟨0, by omega, rfl, by rw [HO0.out]; rfl, RowKit.Below.refl _ _⟩
        case round =>
          obtain ⟨n, hn9, rfl, rfl, HR⟩ := hrel
          have HB7 := hid (HB6.out.trans (HR.out.mono HB6.out.size))
          have HQ7 := hid (keep0 HQ6.out HR.out)
          have HJ7 := hid (keep0 HJ6.out HR.out)
          by_cases hlt : n < m
          · have hlt2 : (n : Int) < (m : Int) := by omega
            have i0 : ¬ (n : Int) < 0 := by omega
            have hwn := wrap_succ n (by omega)
            have hkl : n < L0.length := by rw [HLM.out]; exact hlt
            have sL := HO6.out.below HR.out
            obtain ⟨bL, oL, hL9, _⟩ := sL.2.2.2 (by rw [icells_length]; omega)
            subst hL9
            have cL := Sl.cell sL n hkl
            obtain ⟨j, hj, j1, j2, j3⟩ := HM.out n hlt
            have HNX2 := hid (HNX.out n hlt)
            rw [hj] at HNX2 cL
            obtain ⟨b, off, hA, ct⟩ := HTX.out wr HB7.out j j1
            have HJS3 := hid (fun u hu => HJS2.out u hu j j1)
            have HUO := hid (u64_or_nat (oK n) (setJ T ws (nF (j : Int))) (HOL.out n) (HSL.out _))
            rw [← HNX2.out] at HUO
            have j0 : ¬ (j : Int) < 0 := by omega
            have j9 : (j : Int) < (ms.length : Int) := by omega
            have HAE := hid hA
            clear sL hkl hj j1 j2 j3 HNX2 hA
            generalize setJ T ws (nF (j : Int)) = sj at *
            generalize str (nF (j : Int)) = st at *
            have huo := HUO.out
            have hSU : ∀ U, RowKit.Below wr.heap.size wr U → ((U.cell? ⟨Q, 0, none⟩ = some (.int .i64 sc) ∧ U.cell? ⟨Q, 1, none⟩ = some (.int .i64 le) ∧ U.cell? ⟨Q, 2, none⟩ = some (.int .i64 ag) ∧ U.cell? ⟨Q, 3, none⟩ = some (.int .i64 ro) ∧ U.cell? ⟨Q, 4, none⟩ = some (.int .i64 ou) ∧ U.cell? ⟨Q, 5, none⟩ = some (.slice N T.length nc) ∧ U.cell? ⟨Q, 6, none⟩ = some (.slice K ws.length kc)) ∧ (U.cell? ⟨J, 0, none⟩ = some (.int .i64 id) ∧ U.cell? ⟨J, 1, none⟩ = some (.int .i64 scE) ∧ U.cell? ⟨J, 2, none⟩ = some (.int .i64 ee) ∧ U.cell? ⟨J, 3, none⟩ = some (.slice (some ⟨b, off, none⟩) ms.length ca) ∧ U.cell? ⟨J, 4, none⟩ = some (.slice P bd.length cb) ∧ U.cell? ⟨J, 5, none⟩ = some (.slice D dn.length cd)) ∧ U.cell? ⟨bL, oL + n, none⟩ = some (.int .i64 (j : Int)) ∧ U.cell? ⟨b, off + j, none⟩ = some (.string st)) := fun U hU => ⟨seven_cellsJ (keep0 HQ7.out hU), by
              have h9 := (six_cells (keep0 HJ7.out hU)).1
              rw [HAE.out] at h9
              exact h9, cellb hU cL, cellb hU ct⟩
            have hk0 : RowKit.Below wr.heap.size wr wr.drew := below_drew (RowKit.Below.refl _ _)
            clear cL ct
            go_upto_region 9 with (fail)
            refine wp_region_held_drew (S := fun U => (U.cell? ⟨Q, 0, none⟩ = some (.int .i64 sc) ∧ U.cell? ⟨Q, 1, none⟩ = some (.int .i64 le) ∧ U.cell? ⟨Q, 2, none⟩ = some (.int .i64 ag) ∧ U.cell? ⟨Q, 3, none⟩ = some (.int .i64 ro) ∧ U.cell? ⟨Q, 4, none⟩ = some (.int .i64 ou) ∧ U.cell? ⟨Q, 5, none⟩ = some (.slice N T.length nc) ∧ U.cell? ⟨Q, 6, none⟩ = some (.slice K ws.length kc)) ∧ (U.cell? ⟨J, 0, none⟩ = some (.int .i64 id) ∧ U.cell? ⟨J, 1, none⟩ = some (.int .i64 scE) ∧ U.cell? ⟨J, 2, none⟩ = some (.int .i64 ee) ∧ U.cell? ⟨J, 3, none⟩ = some (.slice (some ⟨b, off, none⟩) ms.length ca) ∧ U.cell? ⟨J, 4, none⟩ = some (.slice P bd.length cb) ∧ U.cell? ⟨J, 5, none⟩ = some (.slice D dn.length cd)) ∧ U.cell? ⟨bL, oL + n, none⟩ = some (.int .i64 (j : Int)) ∧ U.cell? ⟨b, off + j, none⟩ = some (.string st)) (by kernel_rfl) (hSU _ hk0) (fun hHeld => ?_)
            generalize wr.drew = k0 at *
            refine wpAnyH_take (i := 0) (v := ?_) rfl (by kernel_rfl) (by kernel_rfl) (by kernel_rfl) (fun _ _ _ h => h) (Or.inl ⟨by rfl, ?_⟩) (by assumption) ?_
            rotate_left
            focus
              intro U hU
              try dsimp only at hU
              go_simp
              try (with_reducible rfl)
            simp only [List.getElem_toArray, List.getElem_cons_succ, List.getElem_cons_zero, Act.put, List.setIfInBounds_toArray, List.set_cons_zero, List.set_cons_succ]
            refine wpAnyH_take (i := 1) (v := ?_) rfl (by kernel_rfl) (by kernel_rfl) (by kernel_rfl) (fun _ _ _ h => h) (Or.inl ⟨by rfl, ?_⟩) (by assumption) ?_
            rotate_left
            focus
              intro U hU
              try dsimp only at hU
              go_simp
              try (with_reducible rfl)
            simp only [List.getElem_toArray, List.getElem_cons_succ, List.getElem_cons_zero, Act.put, List.setIfInBounds_toArray, List.set_cons_zero, List.set_cons_succ]
            refine wpAnyH_take (i := 2) (v := ?_) rfl (by kernel_rfl) (by kernel_rfl) (by kernel_rfl) (fun _ _ _ h => h) (Or.inl ⟨by rfl, ?_⟩) (by assumption) ?_
            rotate_left
            focus
              intro U hU
              try dsimp only at hU
              go_simp
              try (with_reducible rfl)
            simp only [List.getElem_toArray, List.getElem_cons_succ, List.getElem_cons_zero, Act.put, List.setIfInBounds_toArray, List.set_cons_zero, List.set_cons_succ]
            refine wpAnyH_take (i := 3) (v := ?_) rfl (by kernel_rfl) (by kernel_rfl) (by kernel_rfl) (fun _ _ _ h => h) (Or.inl ⟨by rfl, ?_⟩) (by assumption) ?_
            rotate_left
            focus
              intro U hU
              try dsimp only at hU
              go_simp
              try (with_reducible rfl)
            simp only [List.getElem_toArray, List.getElem_cons_succ, List.getElem_cons_zero, Act.put, List.setIfInBounds_toArray, List.set_cons_zero, List.set_cons_succ]
            refine wpAnyH_take (i := 4) (v := ?_) rfl (by kernel_rfl) (by kernel_rfl) (by kernel_rfl) (fun _ _ _ h => h) (Or.inl ⟨by rfl, ?_⟩) (by assumption) ?_
            rotate_left
            focus
              intro U hU
              try dsimp only at hU
              go_simp
              try (with_reducible rfl)
            simp only [List.getElem_toArray, List.getElem_cons_succ, List.getElem_cons_zero, Act.put, List.setIfInBounds_toArray, List.set_cons_zero, List.set_cons_succ]
            refine wpAnyH_take (i := 5) (v := ?_) rfl (by kernel_rfl) (by kernel_rfl) (by kernel_rfl) (fun _ _ _ h => h) (Or.inl ⟨by rfl, ?_⟩) (by assumption) ?_
            rotate_left
            focus
              intro U hU
              try dsimp only at hU
              go_simp
              try (with_reducible rfl)
            simp only [List.getElem_toArray, List.getElem_cons_succ, List.getElem_cons_zero, Act.put, List.setIfInBounds_toArray, List.set_cons_zero, List.set_cons_succ]
            refine wpAnyH_take (i := 6) (v := ?_) rfl (by kernel_rfl) (by kernel_rfl) (by kernel_rfl) (fun _ _ _ h => h) (Or.inl ⟨by rfl, ?_⟩) (by assumption) ?_
            rotate_left
            focus
              intro U hU
              try dsimp only at hU
              go_simp
              try (with_reducible rfl)
            simp only [List.getElem_toArray, List.getElem_cons_succ, List.getElem_cons_zero, Act.put, List.setIfInBounds_toArray, List.set_cons_zero, List.set_cons_succ]
            refine wpAnyH_take (i := 7) (v := ?_) rfl (by kernel_rfl) (by kernel_rfl) (by kernel_rfl) (fun _ _ _ h => h) (Or.inl ⟨by rfl, ?_⟩) (by assumption) ?_
            rotate_left
            focus
              intro U hU
              try dsimp only at hU
              go_simp
              try (with_reducible rfl)
            simp only [List.getElem_toArray, List.getElem_cons_succ, List.getElem_cons_zero, Act.put, List.setIfInBounds_toArray, List.set_cons_zero, List.set_cons_succ]
            refine wpAnyH_take (i := 8) (v := ?_) rfl (by kernel_rfl) (by kernel_rfl) (by kernel_rfl) (fun _ _ _ h => h) (Or.inl ⟨by rfl, ?_⟩) (by assumption) ?_
            rotate_left
            focus
              intro U hU
              try dsimp only at hU
              go_simp
              try (with_reducible rfl)
            simp only [List.getElem_toArray, List.getElem_cons_succ, List.getElem_cons_zero, Act.put, List.setIfInBounds_toArray, List.set_cons_zero, List.set_cons_succ]
            refine wpAnyH_take (i := 9) (v := ?_) rfl (by kernel_rfl) (by kernel_rfl) (by kernel_rfl) (fun _ _ _ h => h) (Or.inl ⟨by rfl, ?_⟩) (by assumption) ?_
            rotate_left
            focus
              intro U hU
              try dsimp only at hU
              go_simp
              try (with_reducible rfl)
            simp only [List.getElem_toArray, List.getElem_cons_succ, List.getElem_cons_zero, Act.put, List.setIfInBounds_toArray, List.set_cons_zero, List.set_cons_succ]
            refine wpAnyH_ready (rs := [10]) (by kernel_rfl) (by simp) ?_
            refine AllReadyH.cons rfl (fun K hK => ?_) AllReadyH.nil
            simp only [List.getElem_toArray, List.getElem_cons_succ, List.getElem_cons_zero]
            go_simp
            refine (HJS3.out k0 (HB7.out.trans (hk0.mono HB7.out.size))).mono ?_
            rintro q k1 ⟨rfl, hb1⟩
            have hk1 := hk0.trans (hb1.mono hk0.size)
            clear hb1
            go_wp2_with fail
            refine hK.out _ _ ?_ (fun hHeld2 => ?_)
            focus
              exact hSU _ hk1
            clear hHeld
            have hHeld := hHeld2
            clear hHeld2 hK K
            try simp only [List.getElem_toArray, List.getElem_cons_succ, List.getElem_cons_zero, Act.put, List.setIfInBounds_toArray, List.set_cons_zero, List.set_cons_succ]
            refine wpAnyH_take (i := 11) (v := ?_) rfl (by kernel_rfl) (by kernel_rfl) (by kernel_rfl) (fun _ _ _ h => h) (Or.inl ⟨by rfl, ?_⟩) (by assumption) ?_
            rotate_left
            focus
              intro U hU
              try dsimp only at hU
              go_simp
              try (with_reducible rfl)
            simp only [List.getElem_toArray, List.getElem_cons_succ, List.getElem_cons_zero, Act.put, List.setIfInBounds_toArray, List.set_cons_zero, List.set_cons_succ]
            refine wpAnyH_take (i := 12) (v := ?_) rfl (by kernel_rfl) (by kernel_rfl) (by kernel_rfl) (fun _ _ _ h => h) (Or.inl ⟨by rfl, ?_⟩) (by assumption) ?_
            rotate_left
            focus
              intro U hU
              try dsimp only at hU
              go_simp
              try (with_reducible rfl)
            simp only [List.getElem_toArray, List.getElem_cons_succ, List.getElem_cons_zero, Act.put, List.setIfInBounds_toArray, List.set_cons_zero, List.set_cons_succ]
            refine wpAnyH_done (by kernel_rfl) ?_ _
            have HR2 := hid (HR.out.trans (hk1.mono HR.out.size))
            clear hHeld hSU hk0 hk1 HJS3 HB7 HQ7 HJ7 HAE
            go_wp2
            go_roundw
            case rel => exact ⟨n + 1, by omega, by go_num, by first | rfl | rw [HUO.out], HR2⟩
            case measure => simp [intOf]; omega
          · have hge : ¬ (n : Int) < (m : Int) := by omega
            obtain rfl : n = m := by omega
            have HS8 := hid (HS6.out.below HR.out)
            have HO8 := hid (HO6.out.below HR.out)
            rw [HWS.out]
            obtain ⟨w7, hw7⟩ : ∃ u, u = wr := ⟨_, rfl⟩
            subst hw7
            clear HR HS6 HO6 HQ7 HJ7 HJS2 HTX HM HNX HOL HSL
            go_wp2
            go_loopw [11] (fun i wr => ∃ k : Nat, k ≤ gn ∧ i = .int .i64 (k : Int) ∧ Hid (RowKit.Below w7.heap.size w7 wr)) (fun i _ => gn - (intOf i).toNat)
            case atStart => exact ⟨0, by omega, rfl, RowKit.Below.refl _ _⟩
            case round =>
              obtain ⟨k, hk9, rfl, HR8⟩ := hrel
              have HB8 := hid (HB7.out.trans (HR8.out.mono HB7.out.size))
              by_cases hlt : k < gn
              · have hlt2 : (k : Int) < (gn : Int) := by omega
                have i0 : ¬ (k : Int) < 0 := by omega
                have hwn := wrap_succ k (by omega)
                have hkl : k < RL.length := by rw [HLG.out]; exact hlt
                have sG := HS8.out.below HR8.out
                obtain ⟨bG, oG, hG9, _⟩ := sG.2.2.2 (by rw [icells_length]; omega)
                subst hG9
                have cG := Sl.cell sG k hkl
                have HST := hid (fun u hu => ((HS8.out.below HR8.out).below (hu : RowKit.Below wr.heap.size wr u)).takeP k (by rw [HLG.out]; omega))
                have hto : ∀ u : World, (Instr.slice 52 (.slice (some ⟨bG, oG, none⟩) gn CG) none (some (.int .i64 (k : Int))) none).run Try.prog u = .ok (.slice (some ⟨bG, oG, none⟩) k CG) u := run_to Try.underlying52 info_int _ _ _ _ (by have := sG.2.1; omega)
                obtain ⟨g1, g2⟩ := HGH.out k hlt
                have HRH2 := hid (fun u => HRH.out u (RL.getD k 0))
                rw [g1] at HRH2
                have HIN := hid (fun u (hu : RowKit.Below wr.heap.size wr u) => in06_any _ k CG (RL.take k) (RL.getD k 0) u (HST.out u hu))
                rw [decide_eq_false g2] at HIN
                clear sG hkl g1 g2 HST
                generalize RL.getD k 0 = y at *
                have hSU : ∀ U, RowKit.Below wr.heap.size wr U → (U.cell? ⟨bG, oG + k, none⟩ = some (.int .i64 y)) := fun U hU => cellb hU cG
                have hk0 : RowKit.Below wr.heap.size wr wr.drew := below_drew (RowKit.Below.refl _ _)
                clear cG
                go_upto_region 13 with (fail)
                refine wp_region_held_drew (S := fun U => U.cell? ⟨bG, oG + k, none⟩ = some (.int .i64 y)) (by kernel_rfl) (hSU _ hk0) (fun hHeld => ?_)
                generalize wr.drew = k0 at *
                refine wpAnyH_take (i := 0) (v := ?_) rfl (by kernel_rfl) (by kernel_rfl) (by kernel_rfl) (fun _ _ _ h => h) (Or.inl ⟨by rfl, ?_⟩) (by assumption) ?_
                rotate_left
                focus
                  intro U hU
                  try dsimp only at hU
                  go_simp
                  try (with_reducible rfl)
                simp only [List.getElem_toArray, List.getElem_cons_succ, List.getElem_cons_zero, Act.put, List.setIfInBounds_toArray, List.set_cons_zero, List.set_cons_succ]
                refine wpAnyH_take (i := 1) (v := ?_) rfl (by kernel_rfl) (by kernel_rfl) (by kernel_rfl) (fun _ _ _ h => h) (Or.inl ⟨by rfl, ?_⟩) (by assumption) ?_
                rotate_left
                focus
                  intro U hU
                  try dsimp only at hU
                  go_simp
                  try (with_reducible rfl)
                simp only [List.getElem_toArray, List.getElem_cons_succ, List.getElem_cons_zero, Act.put, List.setIfInBounds_toArray, List.set_cons_zero, List.set_cons_succ]
                refine wpAnyH_take (i := 2) (v := ?_) rfl (by kernel_rfl) (by kernel_rfl) (by kernel_rfl) (fun _ _ _ h => h) (Or.inl ⟨by rfl, ?_⟩) (by assumption) ?_
                rotate_left
                focus
                  intro U hU
                  try dsimp only at hU
                  go_simp
                  try (with_reducible rfl)
                simp only [List.getElem_toArray, List.getElem_cons_succ, List.getElem_cons_zero, Act.put, List.setIfInBounds_toArray, List.set_cons_zero, List.set_cons_succ]
                refine wpAnyH_take (i := 3) (v := ?_) rfl (by kernel_rfl) (by kernel_rfl) (by kernel_rfl) (fun _ _ _ h => h) (Or.inl ⟨by rfl, ?_⟩) (by assumption) ?_
                rotate_left
                focus
                  intro U hU
                  try dsimp only at hU
                  go_simp
                  try (with_reducible rfl)
                simp only [List.getElem_toArray, List.getElem_cons_succ, List.getElem_cons_zero, Act.put, List.setIfInBounds_toArray, List.set_cons_zero, List.set_cons_succ]
                refine wpAnyH_take (i := 4) (v := ?_) rfl (by kernel_rfl) (by kernel_rfl) (by kernel_rfl) (fun _ _ _ h => h) (Or.inl ⟨by rfl, ?_⟩) (by assumption) ?_
                rotate_left
                focus
                  intro U hU
                  try dsimp only at hU
                  go_simp
                  try (with_reducible rfl)
                simp only [List.getElem_toArray, List.getElem_cons_succ, List.getElem_cons_zero, Act.put, List.setIfInBounds_toArray, List.set_cons_zero, List.set_cons_succ]
                refine wpAnyH_ready (rs := [5]) (by kernel_rfl) (by simp) ?_
                refine AllReadyH.cons rfl (fun K hK => ?_) AllReadyH.nil
                simp only [List.getElem_toArray, List.getElem_cons_succ, List.getElem_cons_zero]
                go_simp
                refine (HRH2.out k0).mono ?_
                rintro q k1 ⟨rfl, rfl⟩
                go_wp2_with fail
                refine hK.out _ _ ?_ (fun hHeld2 => ?_)
                focus
                  exact hSU _ hk0
                clear hHeld
                have hHeld := hHeld2
                clear hHeld2 hK K
                try simp only [List.getElem_toArray, List.getElem_cons_succ, List.getElem_cons_zero, Act.put, List.setIfInBounds_toArray, List.set_cons_zero, List.set_cons_succ]
                refine wpAnyH_take (i := 6) (v := ?_) rfl (by kernel_rfl) (by kernel_rfl) (by kernel_rfl) (fun _ _ _ h => h) (Or.inl ⟨by rfl, ?_⟩) (by assumption) ?_
                rotate_left
                focus
                  intro U hU
                  try dsimp only at hU
                  go_simp
                  try (with_reducible rfl)
                simp only [List.getElem_toArray, List.getElem_cons_succ, List.getElem_cons_zero, Act.put, List.setIfInBounds_toArray, List.set_cons_zero, List.set_cons_succ]
                refine wpAnyH_take (i := 7) (v := ?_) rfl (by kernel_rfl) (by kernel_rfl) (by kernel_rfl) (fun _ _ _ h => h) (Or.inl ⟨by rfl, ?_⟩) (by assumption) ?_
                rotate_left
                focus
                  intro U hU
                  try dsimp only at hU
                  go_simp
                  try (with_reducible rfl)
                simp only [List.getElem_toArray, List.getElem_cons_succ, List.getElem_cons_zero, Act.put, List.setIfInBounds_toArray, List.set_cons_zero, List.set_cons_succ]
                refine wpAnyH_take (i := 8) (v := ?_) rfl (by kernel_rfl) (by kernel_rfl) (by kernel_rfl) (fun _ _ _ h => h) (Or.inl ⟨by rfl, ?_⟩) (by assumption) ?_
                rotate_left
                focus
                  intro U hU
                  try dsimp only at hU
                  go_simp
                  try (with_reducible rfl)
                simp only [List.getElem_toArray, List.getElem_cons_succ, List.getElem_cons_zero, Act.put, List.setIfInBounds_toArray, List.set_cons_zero, List.set_cons_succ]
                refine wpAnyH_take (i := 9) (v := ?_) rfl (by kernel_rfl) (by kernel_rfl) (by kernel_rfl) (fun _ _ _ h => h) (Or.inl ⟨by rfl, ?_⟩) (by assumption) ?_
                rotate_left
                focus
                  intro U hU
                  try dsimp only at hU
                  go_simp
                  try (with_reducible rfl)
                simp only [List.getElem_toArray, List.getElem_cons_succ, List.getElem_cons_zero, Act.put, List.setIfInBounds_toArray, List.set_cons_zero, List.set_cons_succ]
                refine wpAnyH_take (i := 10) (v := ?_) rfl (by kernel_rfl) (by kernel_rfl) (by kernel_rfl) (fun _ _ _ h => h) (Or.inl ⟨by rfl, ?_⟩) (by assumption) ?_
                rotate_left
                focus
                  intro U hU
                  try dsimp only at hU
                  go_simp
                  try (with_reducible rfl)
                simp only [List.getElem_toArray, List.getElem_cons_succ, List.getElem_cons_zero, Act.put, List.setIfInBounds_toArray, List.set_cons_zero, List.set_cons_succ]
                refine wpAnyH_take (i := 11) (v := ?_) rfl (by kernel_rfl) (by kernel_rfl) (by kernel_rfl) (fun _ _ _ h => h) (Or.inl ⟨by rfl, ?_⟩) (by assumption) ?_
                rotate_left
                focus
                  intro U hU
                  try dsimp only at hU
                  go_simp
                  try (with_reducible rfl)
                simp only [List.getElem_toArray, List.getElem_cons_succ, List.getElem_cons_zero, Act.put, List.setIfInBounds_toArray, List.set_cons_zero, List.set_cons_succ]
                refine wpAnyH_take (i := 12) (v := ?_) rfl (by kernel_rfl) (by kernel_rfl) (by kernel_rfl) (fun _ _ _ h => h) (Or.inl ⟨by rfl, ?_⟩) (by assumption) ?_
                rotate_left
                focus
                  intro U hU
                  try dsimp only at hU
                  go_simp
                  try (with_reducible rfl)
                simp only [List.getElem_toArray, List.getElem_cons_succ, List.getElem_cons_zero, Act.put, List.setIfInBounds_toArray, List.set_cons_zero, List.set_cons_succ]
                refine wpAnyH_take (i := 13) (v := ?_) rfl (by kernel_rfl) (by kernel_rfl) (by kernel_rfl) (fun _ _ _ h => h) (Or.inl ⟨by rfl, ?_⟩) (by assumption) ?_
                rotate_left
                focus
                  intro U hU
                  try dsimp only at hU
                  go_simp
                  try (with_reducible rfl)
                simp only [List.getElem_toArray, List.getElem_cons_succ, List.getElem_cons_zero, Act.put, List.setIfInBounds_toArray, List.set_cons_zero, List.set_cons_succ]
                refine wpAnyH_take (i := 14) (v := ?_) rfl (by kernel_rfl) (by kernel_rfl) (by kernel_rfl) (fun _ _ _ h => h) (Or.inl ⟨by rfl, ?_⟩) (by assumption) ?_
                rotate_left
                focus
                  intro U hU
                  try dsimp only at hU
                  go_simp
                  try (with_reducible rfl)
                simp only [List.getElem_toArray, List.getElem_cons_succ, List.getElem_cons_zero, Act.put, List.setIfInBounds_toArray, List.set_cons_zero, List.set_cons_succ]
                refine wpAnyH_ready (rs := [15]) (by kernel_rfl) (by simp) ?_
                refine AllReadyH.cons rfl (fun K hK => ?_) AllReadyH.nil
                simp only [List.getElem_toArray, List.getElem_cons_succ, List.getElem_cons_zero]
                go_simp
                refine (HIN.out k0 hk0).mono ?_
                rintro q k1 ⟨rfl, rfl⟩
                go_wp2_with fail
                refine hK.out _ _ ?_ (fun hHeld2 => ?_)
                focus
                  exact hSU _ hk0
                clear hHeld
                have hHeld := hHeld2
                clear hHeld2 hK K
                try simp only [List.getElem_toArray, List.getElem_cons_succ, List.getElem_cons_zero, Act.put, List.setIfInBounds_toArray, List.set_cons_zero, List.set_cons_succ]
                refine wpAnyH_take (i := 16) (v := ?_) rfl (by kernel_rfl) (by kernel_rfl) (by kernel_rfl) (fun _ _ _ h => h) (Or.inl ⟨by rfl, ?_⟩) (by assumption) ?_
                rotate_left
                focus
                  intro U hU
                  try dsimp only at hU
                  go_simp
                  try (with_reducible rfl)
                simp only [List.getElem_toArray, List.getElem_cons_succ, List.getElem_cons_zero, Act.put, List.setIfInBounds_toArray, List.set_cons_zero, List.set_cons_succ]
                refine wpAnyH_done (by kernel_rfl) ?_ _
                have HR9 := hid (HR8.out.trans (hk0.mono HR8.out.size))
                clear hHeld hSU hk0 HRH2 HIN HB8 hto
                go_wp2
                go_roundw
                case rel => exact ⟨k + 1, by omega, by go_num, HR9⟩
                case measure => simp [intOf]; omega
              · have hge : ¬ (k : Int) < (gn : Int) := by omega
                obtain rfl : k = gn := by omega
                have hw2 : IntKind.i64.wrap (2 * (n : Int)) = 2 * (n : Int) := by
                  simp [IntKind.wrap, IntKind.bits, IntKind.signed]
                  omega
                have hgl9 := HGL.out
                have hmin : ((k : Int) == min (2 * (n : Int)) (en : Int)) = true := by rw [hgl9]; simp
                clear hgl9
                go_wp2_with fail
                refine (HRL.out _).mono ?_
                rintro e w9 ⟨v, rfl, hb, ho⟩
                obtain ⟨AE, cE, rfl, _⟩ := Sl.of_own ho
                have HB9 := hid (HB8.out.trans (hb.mono HB8.out.size))
                clear ho hb
                go_wp2_with fail
                refine (HW.out _).mono ?_
                rintro e w10 ⟨rfl, hb⟩
                have HB10 := hid (HB9.out.trans (hb.mono HB9.out.size))
                clear hb
                go_wp2
                go_ret
                exact ⟨rfl, HB10.out⟩
end Go.Proofs.Ytgakobolhmdnnaa
