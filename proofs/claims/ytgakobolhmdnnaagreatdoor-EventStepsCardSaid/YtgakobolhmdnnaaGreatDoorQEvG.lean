/- The document's Step of layer 39: contract. -/
import Derived.Test.YtgakobolhmdnnaaGreatDoorQEvF
namespace Go.Proofs.YtgakobolhmdnnaaGreatDoor
open Go.RowKit Go.Sort
set_option linter.unusedVariables false
set_option linter.unusedSimpArgs false

theorem own_setT9 {w : World} {base e s n b j t : Nat} {v u : Value} {xs : List Value} {cs : Array Value} (h : w.ownsRow base e s v n xs) (hb : w.heap[b]? = some (.cells cs t (0, 0))) (hne : e ≠ t) : (w.setCell ⟨b, j, none⟩ u).ownsRow base e s v n xs :=
  own_same h hb hne (fun g hg => Below.heap_setCell _ _ _ _ hg)
theorem own_blk {w : World} {base e s n g c : Nat} {xs : List Value} (h : w.ownsRow base e s (.slice (some ⟨g, 0, none⟩) n c) n xs) (h0 : 0 < n) : ∃ cs, w.heap[g]? = some (.cells cs e (0, 0)) := by
  obtain ⟨_, _, cs, h9⟩ := own_lt h g rfl
  exact ⟨cs, h9⟩
theorem own_set1 {w : World} {base e s n g c : Nat} {xs : List Value} (h : w.ownsRow base e s (.slice (some ⟨g, 0, none⟩) n c) n xs) (h0 : 0 < n) (hs : 0 < s) (i : Nat) (u : Value) : (w.setCell ⟨g, i, none⟩ u).ownsRow base e s (.slice (some ⟨g, 0, none⟩) n c) n (xs.set i u) := by
  obtain ⟨g9, c9, h9, _, _, _, _, hset, _⟩ := own_open h h0 hs
  cases h9
  exact hset i u
theorem gcells_set_six : ∀ (xs : List Ee) (i : Nat) (hi : i < xs.length) (y : Ee), gcells ebl (xs.set i y) = ((((((gcells ebl xs).set (i * 6) (.int .i64 y.1.id)).set (i * 6 + 1) (.int .i64 y.1.sc)).set (i * 6 + 2) (.int .i64 y.1.ep)).set (i * 6 + 3) (.slice y.2.A y.1.ns.length y.2.ca)).set (i * 6 + 4) (.slice y.2.B y.1.bd.length y.2.cb)).set (i * 6 + 5) (.slice y.2.D y.1.dn.length y.2.cd)
  | [], i, hi, y => absurd hi (by simp)
  | x :: xs, 0, hi, y => by simp [gcells, ebl]
  | x :: xs, i + 1, hi, y => by
    have ih := gcells_set_six xs i (by simpa using hi) y
    have hl : (ebl x).length = 6 := rfl
    have e0 : (i + 1) * 6 - 6 = i * 6 := by omega
    have e1 : ∀ d, (i + 1) * 6 + d - 6 = i * 6 + d := fun d => by omega
    simp only [List.set_cons_succ]
    rw [gcells_cons, gcells_cons, ih]
    rw [List.set_append_right _ _ (by omega), List.set_append_right _ _ (by omega), List.set_append_right _ _ (by omega), List.set_append_right _ _ (by omega), List.set_append_right _ _ (by omega), List.set_append_right _ _ (by omega), hl, e0, e1, e1, e1, e1, e1]

set_option maxRecDepth 20000 in
set_option maxHeartbeats 2000000 in
theorem rstep1_any (x : Cf) (N : Option Addr) (nc : Nat) (K : Option Addr) (kc : Nat) (J : Option Addr) (jc : Nat) (js : List Jo) (S : Option Addr) (sc : Nat) (xs : List Ee) (kd j t w : Int) (W : World) (hC : CfAt W x N nc K kc) (hJ : InJs W J jc js) (hS : InBk W S sc xs) (hs : SmJ js) (hn : xs.length ≤ 100) (hk : ∀ x ∈ xs, smE x.1) (hw : x.ws.length ≤ 1000) (h1 : kd = 1) :
    Calls Tryz.prog 11 #[.agg (cfc x N nc K kc), .slice J js.length jc, .slice S xs.length sc, .agg #[.int .i64 kd, .int .i64 j, .int .i64 t, .int .i64 w]] W fun e w' => ∃ A' c' ys, e = .returned (.tuple #[.slice A' ys.length c', .bool (posB x js (xs.map (·.1)) kd j t w)]) ∧ ys.map (·.1) = (if posB x js (xs.map (·.1)) kd j t w then aftB js (xs.map (·.1)) kd j t w else xs.map (·.1)) ∧ InBk w' A' c' ys ∧ RowKit.Below W.heap.size W w' := by
  subst h1
  have HAC := hid (fun u (hu : RowKit.Below W.heap.size W u) => raccept_any x N nc K kc J jc js S sc xs 1 j t w u (hC.below hu) (hJ.below hu) (hS.below hu) hs hn hw)
  have hpb : posB x js (xs.map (·.1)) 1 j t w = accB x js (xs.map (·.1)) j t w := by unfold posB; rw [if_pos rfl]
  have hab : aftB js (xs.map (·.1)) 1 j t w = xs.map (·.1) ++ [newE j (js.getD (ljI js j).toNat default).ns] := by unfold aftB; rw [if_pos rfl]
  rw [hpb, hab]
  clear hC hJ hS hs hk hw hpb hab
  generalize accB x js (xs.map (·.1)) j t w = R at *
  generalize (if R = true then xs.map (·.1) ++ [newE j (js.getD (ljI js j).toNat default).ns] else xs.map (·.1)) = XF at *
  obtain ⟨c0, le, ag, ro, ou, T, ws⟩ := x
  simp only [cfc] at *
  generalize js.length = jn at *
  generalize xs.length = xn at *
  go_enter Tryz.func11, Tryz.ntmps11
  go_upto_region 1 with (fail)
  refine at_world (fun u => u.heap[W.heap.size]? = some (.cells #[.int .i64 c0, .int .i64 le, .int .i64 ag, .int .i64 ro, .int .i64 ou, .slice N T.length nc, .slice K ws.length kc] 25 (0, 0)) ∧ u.heap[W.heap.size + 1]? = some (.cells #[.int .i64 1, .int .i64 j, .int .i64 t, .int .i64 w] 31 (0, 0)) ∧ RowKit.Below W.heap.size W u) (lay2E W _ _) ?_
  rintro w1 ⟨hq, hj, hb⟩
  have HB := hid hb
  have HQ := hid hq
  have HJ := hid hj
  clear hq hj hb
  generalize hEv : W.heap.size + 1 = Ev at *
  generalize hQ : W.heap.size = Q at HQ
  have HQW := hid (And.intro hQ.symm hEv.symm)
  clear hQ hEv
  obtain ⟨p0, p1, p2, p3⟩ := four_cellsE HJ.out
  obtain ⟨q0, q1, q2, q3, q4, q5, q6⟩ := seven_cellsJ HQ.out
  go_wp2_with fail
  refine (HAC.out _ HB.out).mono ?_
  rintro e w2 ⟨A2, c2, ys, rfl, h2, h3, hb⟩
  have HZ := hid (And.intro h2 (And.intro h3 (HB.out.trans (hb.mono HB.out.size))))
  clear h2 h3 hb p0 p1 p2 p3 q0 q1 q2 q3 q4 q5 q6
  go_wp2
  exact bodyPost_ret (v := .tuple #[.slice A2 ys.length c2, .bool R]) (by simp [results, Tryz.results11, go_sem]) rfl ⟨A2, c2, ys, rfl, HZ.out.1, HZ.out.2.1, HZ.out.2.2⟩

set_option maxRecDepth 20000 in
set_option maxHeartbeats 16000000 in
theorem rstep2_any (x : Cf) (N : Option Addr) (nc : Nat) (K : Option Addr) (kc : Nat) (J : Option Addr) (jc : Nat) (js : List Jo) (S : Option Addr) (sc : Nat) (xs : List Ee) (kd j t w : Int) (W : World) (hC : CfAt W x N nc K kc) (hJ : InJs W J jc js) (hS : InBk W S sc xs) (hs : SmJ js) (hn : xs.length ≤ 100) (hk : ∀ x ∈ xs, smE x.1) (hw : x.ws.length ≤ 1000) (h1 : kd ≠ 1) :
    Calls Tryz.prog 11 #[.agg (cfc x N nc K kc), .slice J js.length jc, .slice S xs.length sc, .agg #[.int .i64 kd, .int .i64 j, .int .i64 t, .int .i64 w]] W fun e w' => ∃ A' c' ys, e = .returned (.tuple #[.slice A' ys.length c', .bool (posB x js (xs.map (·.1)) kd j t w)]) ∧ ys.map (·.1) = (if posB x js (xs.map (·.1)) kd j t w then aftB js (xs.map (·.1)) kd j t w else xs.map (·.1)) ∧ InBk w' A' c' ys ∧ RowKit.Below W.heap.size W w' := by
  have HPL := hid (fun u (hu : RowKit.Below W.heap.size W u) => r20place_any S sc xs j u (hS.below hu))
  have HXS := hid (fun u (hu : RowKit.Below W.heap.size W u) => hS.below hu)
  have HRN := hid (fun u (hu : RowKit.Below W.heap.size W u) => rrunning_any S sc xs w u (hS.below hu) hn (fun x hx => (hk x hx).1))
  have HST := hid (fun u (hu : RowKit.Below W.heap.size W u) (l : List UInt8) (hl : l.length ≤ 1000) => rjset_any x N nc K kc l u (hC.below hu) hl hw)
  have HWS := hid (fun u (hu : RowKit.Below W.heap.size W u) => (hC.below hu).2.1)
  have HK := hid hk
  obtain ⟨R, hR⟩ : ∃ R, posB x js (xs.map (·.1)) kd j t w = R := ⟨_, rfl⟩
  have HV : Hid (R = if kd = 2 then (if plI (xs.map (·.1)) j < 0 ∨ t < 0 ∨ (tkB (atE (xs.map (·.1)) j) : Int) ≤ t ∨ (atE (xs.map (·.1)) j).bd.getD t.toNat 0 ≠ 0 then false else if hasS (setJ x.T x.ws ((atE (xs.map (·.1)) j).ns.getD t.toNat [])) w = true then decide ((runS w (xs.map (·.1)) : Int) < (x.ws.getD w.toNat (0, 0, 0)).1) else false) else if kd = 3 then (if plI (xs.map (·.1)) j < 0 ∨ t < 0 ∨ (tkB (atE (xs.map (·.1)) j) : Int) ≤ t then false else runB (atE (xs.map (·.1)) j) t.toNat w) else false) := hid (by rw [← hR, posB, if_neg h1]; rfl)
  have HIN := hid (fun (h : ¬ plI (xs.map (·.1)) j < 0) => plI_in h)
  have HAT := hid (fun k h hk => atE_at (xs := xs) (j := j) (k := k) h hk)
  have HAF : Hid (aftB js (xs.map (·.1)) kd j t w = (xs.map (·.1)).set (plI (xs.map (·.1)) j).toNat (aftE kd t w (atE (xs.map (·.1)) j))) := hid (by unfold aftB; rw [if_neg h1])
  rw [hR]
  clear hC hJ hS hk hs hw hR
  obtain ⟨AF, hAF⟩ : ∃ AF, aftB js (xs.map (·.1)) kd j t w = AF := ⟨_, rfl⟩
  rw [hAF] at HAF ⊢
  clear hAF
  obtain ⟨XM, hXM⟩ : ∃ XM, xs.map (·.1) = XM := ⟨_, rfl⟩
  have HXM := hid hXM
  have HRN2 := hid (fun u hu => show Calls Tryz.prog 14 #[.slice S xs.length sc, .int .i64 w] u fun e w' => e = .returned (.int .i64 (runS w XM : Nat)) ∧ RowKit.Below u.heap.size u w' by rw [← hXM]; exact HRN.out u hu)
  have HPL2 := hid (fun u hu => show Calls Tryz.prog 24 #[.slice S xs.length sc, .int .i64 j] u fun e w' => e = .returned (.int .i64 (plI XM j)) ∧ u = w' by rw [← hXM]; exact HPL.out u hu)
  rw [hXM] at HV HIN HAT HAF ⊢
  clear hXM HPL HRN
  generalize runS w XM = rs at *
  obtain ⟨pl, hpl⟩ : ∃ pl, plI XM j = pl := ⟨_, rfl⟩
  rw [hpl] at HPL2 HV HIN HAT HAF
  clear hpl
  obtain ⟨AE, hAE⟩ : ∃ AE, atE XM j = AE := ⟨_, rfl⟩
  rw [hAE] at HV HAT HAF
  clear hAE
  obtain ⟨YL, hYL⟩ : ∃ YL, (if R = true then AF else XM) = YL := ⟨_, rfl⟩
  have HYL := hid hYL
  rw [hYL]
  clear hYL
  obtain ⟨c0, le, ag, ro, ou, T, ws⟩ := x
  simp only [cfc] at *
  generalize js.length = jn at *
  have hxl : xs.length ≤ 9223372036854775807 := by omega
  have hk1 : (kd == 1) = false := by simpa using h1
  go_enter Tryz.func11, Tryz.ntmps11
  go_upto_region 1 with (fail)
  refine at_world (fun u => u.heap[W.heap.size]? = some (.cells #[.int .i64 c0, .int .i64 le, .int .i64 ag, .int .i64 ro, .int .i64 ou, .slice N T.length nc, .slice K ws.length kc] 25 (0, 0)) ∧ u.heap[W.heap.size + 1]? = some (.cells #[.int .i64 kd, .int .i64 j, .int .i64 t, .int .i64 w] 31 (0, 0)) ∧ RowKit.Below W.heap.size W u) (lay2E W _ _) ?_
  rintro w1 ⟨hq, hj, hb⟩
  have HB := hid hb
  have HQ := hid hq
  have HJ := hid hj
  clear hq hj hb
  generalize hEv : W.heap.size + 1 = Ev at *
  generalize hQ : W.heap.size = Q at HQ
  have HQW := hid (And.intro hQ.symm hEv.symm)
  clear hQ hEv
  obtain ⟨p0, p1, p2, p3⟩ := four_cellsE HJ.out
  go_wp2_with fail
  refine (HPL2.out _ HB.out).mono ?_
  rintro e w2 ⟨rfl, rfl⟩
  clear HPL2
  go_upto_region 4 with (fail)
  by_cases hp : pl < 0
  · have HR9 : Hid (R = false) := hid (by
      rw [HV.out]
      split
      · rw [if_pos (.inl hp)]
      · split
        · rw [if_pos (.inl hp)]
        · rfl)
    clear HV
    replace p2 := cell_regrown p2
    refine wp_region_quiet_below (by kernel_rfl) (by kernel_rfl) ?_
    repeat (go_big_quiet_step (fail))
    refine wpQuiet_nil ?_
    intro _ hw'
    obtain ⟨⟨dq, osq⟩, hw''⟩ := hw'
    subst hw''
    have hbR := below_regrown w1 dq osq
    refine at_world (fun u => RowKit.Below w1.heap.size w1 u) hbR ?_
    clear hbR p0 p1 p2 p3
    rintro w3 hbR
    have HB9 := hid (HB.out.trans (hbR.mono HB.out.size))
    clear hbR
    go_wp2
    refine bodyPost_ret (v := .tuple #[.slice S xs.length sc, .bool false]) (by simp [results, Tryz.results11, go_sem]) rfl ⟨S, sc, xs, by rw [HR9.out], by rw [← HYL.out, HR9.out, if_neg (by simp)]; exact HXM.out, HXS.out _ HB9.out, HB9.out⟩
  have hd0 : decide (pl < 0) = false := decide_eq_false hp
  obtain ⟨k, hk9, hkl, _⟩ := HIN.out (by first | exact hp | omega)
  subst hk9
  have hkl : k < xs.length := by rw [← HXM.out] at hkl; simpa using hkl
  have hae := HAT.out k rfl hkl
  subst hae
  have hk0 : ¬ (k : Int) < 0 := by omega
  have hkx : (k : Int) < (xs.length : Int) := by omega
  obtain ⟨b, off, hA, q0, q1, q2, q3, q4, q5⟩ := (HXS.out w1 HB.out).el k hkl
  subst hA
  have HE := hid (fun u (hu : RowKit.Below W.heap.size W u) => (HXS.out u hu).2 _ (List.getElem_mem hkl))
  have HEL := hid (fun u (hu : RowKit.Below W.heap.size W u) => (HXS.out u hu).el k hkl)
  have hkk := HK.out _ (List.getElem_mem hkl)
  unfold smE at hkk
  have HSETM := hid (fun y : Ee => show (xs.set k y).map (·.1) = XM.set ((k : Int)).toNat y.1 by rw [Int.toNat_natCast, List.map_set, HXM.out])
  have HSETC := hid (fun y : Ee => gcells_set_six xs k hkl y)
  generalize hx : xs[k] = x at q0 q1 q2 q3 q4 q5 HE hkk HV HEL HAF
  clear hx HAT HIN HK
  by_cases ht : t < 0
  · have HR9 : Hid (R = false) := hid (by
      rw [HV.out]
      split
      · rw [if_pos (.inr (.inl ht))]
      · split
        · rw [if_pos (.inr (.inl ht))]
        · rfl)
    clear HV
    replace p2 := cell_regrown p2
    refine wp_region_quiet_below (by kernel_rfl) (by kernel_rfl) ?_
    repeat (go_big_quiet_step (fail))
    refine wpQuiet_nil ?_
    intro _ hw'
    obtain ⟨⟨dq, osq⟩, hw''⟩ := hw'
    subst hw''
    have hbR := below_regrown w1 dq osq
    refine at_world (fun u => RowKit.Below w1.heap.size w1 u) hbR ?_
    clear hbR p0 p1 p2 p3 q0 q1 q2 q3 q4 q5
    rintro w3 hbR
    have HB9 := hid (HB.out.trans (hbR.mono HB.out.size))
    clear hbR
    go_wp2
    refine bodyPost_ret (v := .tuple #[.slice (some ⟨b, off, none⟩) xs.length sc, .bool false]) (by simp [results, Tryz.results11, go_sem]) rfl ⟨(some ⟨b, off, none⟩), sc, xs, by rw [HR9.out], by rw [← HYL.out, HR9.out, if_neg (by simp)]; exact HXM.out, HXS.out _ HB9.out, HB9.out⟩
  have hd1 : decide (t < 0) = false := decide_eq_false ht
  obtain ⟨tn, rfl⟩ := Int.eq_ofNat_of_zero_le (show 0 ≤ t by omega)
  have HTK := hid (fun u => r20tasks_any x u (by omega) (by omega) (by omega))
  have htk : tkB x.1 ≤ x.1.ns.length ∧ tkB x.1 ≤ x.1.bd.length ∧ tkB x.1 ≤ x.1.dn.length := by unfold tkB; omega
  have HV1 := HV.out
  rw [Int.toNat_natCast] at HV1
  replace HV := hid HV1
  clear HV1
  have hrb : runB x.1 tn w = (decide (0 < x.1.bd.getD tn 0) && ((IntKind.i64.wrap (x.1.bd.getD tn 0 - 1) == w) && !(x.1.dn.getD tn false))) := rfl
  have HRB := hid hrb
  clear hrb
  obtain ⟨⟨id, sE, ee, ms, bd, dn⟩, ⟨A1, ca, P, cb, D, cd⟩⟩ := x
  simp only at q0 q1 q2 q3 q4 q5 HE hkk HV HEL HTK htk HRB HAF
  simp only [ecE] at HTK
  generalize tkB ⟨id, sE, ee, ms, bd, dn⟩ = tk at *
  generalize runB ⟨id, sE, ee, ms, bd, dn⟩ tn w = rb at *
  have ck := reg (w := w1) (fun W' hW' => HTK.out W')
  by_cases htt : tk ≤ tn
  · have hge : (tn : Int) ≥ (tk : Int) := by omega
    have HR9 : Hid (R = false) := hid (by
      rw [HV.out]
      split
      · rw [if_pos (.inr (.inr (.inl (by omega))))]
      · split
        · rw [if_pos (.inr (.inr (by omega)))]
        · rfl)
    clear HV
    replace p2 := cell_regrown p2
    replace q0 := cell_regrown q0
    replace q1 := cell_regrown q1
    replace q2 := cell_regrown q2
    replace q3 := cell_regrown q3
    replace q4 := cell_regrown q4
    replace q5 := cell_regrown q5
    refine wp_region_quiet_below (by kernel_rfl) (by kernel_rfl) ?_
    repeat (go_big_quiet_step (first | (go_at_call 25; with_reducible exact ck _ _)))
    refine wpQuiet_nil ?_
    intro _ hw'
    obtain ⟨⟨dq, osq⟩, hw''⟩ := hw'
    subst hw''
    have hbR := below_regrown w1 dq osq
    refine at_world (fun u => RowKit.Below w1.heap.size w1 u) hbR ?_
    clear hbR p0 p1 p2 p3 q0 q1 q2 q3 q4 q5 ck
    rintro w3 hbR
    have HB9 := hid (HB.out.trans (hbR.mono HB.out.size))
    clear hbR
    go_wp2
    refine bodyPost_ret (v := .tuple #[.slice (some ⟨b, off, none⟩) xs.length sc, .bool false]) (by simp [results, Tryz.results11, go_sem]) rfl ⟨(some ⟨b, off, none⟩), sc, xs, by rw [HR9.out], by rw [← HYL.out, HR9.out, if_neg (by simp)]; exact HXM.out, HXS.out _ HB9.out, HB9.out⟩
  have hge : ¬ (tn : Int) ≥ (tk : Int) := by omega
  have hd2 : decide ((tn : Int) ≥ (tk : Int)) = false := decide_eq_false hge
  have HLE := hid (And.intro (show tn < ms.length by omega) (And.intro (show tn < bd.length by omega) (show tn < dn.length by omega)))
  replace p2 := cell_regrown p2
  replace q0 := cell_regrown q0
  replace q1 := cell_regrown q1
  replace q2 := cell_regrown q2
  replace q3 := cell_regrown q3
  replace q4 := cell_regrown q4
  replace q5 := cell_regrown q5
  refine wp_region_quiet_below (by kernel_rfl) (by kernel_rfl) ?_
  repeat (go_big_quiet_step (first | (go_at_call 25; with_reducible exact ck _ _)))
  refine wpQuiet_nil ?_
  intro _ hw'
  obtain ⟨⟨dq, osq⟩, hw''⟩ := hw'
  subst hw''
  have hbR := below_regrown w1 dq osq
  refine at_world (fun u => RowKit.Below w1.heap.size w1 u) hbR ?_
  clear hbR p0 p1 p2 p3 q0 q1 q2 q3 q4 q5 ck
  rintro w3 hbR
  have HB3 := hid (HB.out.trans (hbR.mono HB.out.size))
  have HQ3 := hid (keep0 HQ.out hbR)
  have HJ3 := hid (keep0 HJ.out hbR)
  clear hbR HB HQ HJ HTK hd0 hd1 hd2 hp ht hge
  obtain ⟨b2, off2, hA2, q0, q1, q2, q3, q4, q5⟩ := HEL.out w3 HB3.out
  cases hA2
  -- the box, the copy
  go_upto_region 7 with (fail)
  have hal : RowKit.Below w3.heap.size w3 (w3.alloc (.cells #[.int .i64 id, .int .i64 sE, .int .i64 ee, .slice A1 ms.length ca, .slice P bd.length cb, .slice D dn.length cd] 45)) := bel_alloc (RowKit.Below.refl _ _) _
  refine at_world (fun u => u.heap[w3.heap.size]? = some (.cells #[.int .i64 id, .int .i64 sE, .int .i64 ee, .slice A1 ms.length ca, .slice P bd.length cb, .slice D dn.length cd] 45 (0, 0)) ∧ RowKit.Below w3.heap.size w3 u ∧ w3.heap.size < u.heap.size) ⟨heap_alloc_new _ _, hal, lt_of_block (heap_alloc_new _ _)⟩ ?_
  clear hal q0 q1 q2 q3 q4 q5
  generalize hXb : w3.heap.size = Xb
  rintro w4 ⟨hx4, hb4, hsz4⟩
  rw [← hXb] at hb4 hsz4
  have HX4 := hid hx4
  have HB4 := hid (HB3.out.trans (hb4.mono HB3.out.size))
  have HQ4 := hid (keep0 HQ3.out hb4)
  have HJ4 := hid (keep0 HJ3.out hb4)
  have HXb := hid (And.intro hXb.symm (And.intro hsz4 HB3.out.size))
  have HB3L := hid (show Ev < w3.heap.size from lt_of_block HJ3.out)
  have HKL := hid hkl
  clear hx4 hb4 hsz4 hXb HB3 HQ3 HJ3
  have HGX := hid (And.intro (HXS.out w4 HB4.out).1 (ebl_one xs))
  go_wp2_with (at_builtin; refine wpList_append_sl (W := w4) rfl (.tmp 49) (.tmp 50) 29 rfl w4.heap.size 45 Tryz.underlying29 info_entry rfl (by omega) rfl (own_empty w4 45 6) rfl (HGX.out.1.below ((RowKit.Below.refl _ _).alloc (Nat.le_refl _) _)) HGX.out.2 (show 0 + xs.length ≤ maxLen by unfold maxLen; omega) (by omega) (Below.size ((RowKit.Below.refl w4.heap.size w4).alloc (Nat.le_refl _) _)) ((RowKit.Below.refl _ _).alloc (Nat.le_refl _) _) ?_)
  intro v5 w5 ho5 hb5 _
  have hO5 : w5.ownsRow w4.heap.size 45 6 v5 xs.length (gcells ebl xs) := by simpa using ho5
  obtain ⟨g, oc, hv5, hgb, _, _, hcell5, _, hglt⟩ := own_open hO5 (by omega) (by omega)
  subst hv5
  have HO5 := hid hO5
  have HX5 := hid (keep0 HX4.out hb5)
  have HB5 := hid (HB4.out.trans (hb5.mono HB4.out.size))
  have HQ5 := hid (keep0 HQ4.out hb5)
  have HJ5 := hid (keep0 HJ4.out hb5)
  have HG := hid (And.intro hgb (And.intro hglt (show Xb < w4.heap.size from lt_of_block HX4.out)))
  clear ho5 hO5 hb5 hcell5 hgb hglt HX4 HB4 HQ4 HJ4 HGX
  obtain ⟨⟨b0, b1, b2, b3, b4, b5⟩, f0, f1, f2, f3, f4, f5⟩ := six_cells HX5.out
  obtain ⟨p0, p1, p2, p3⟩ := four_cellsE HJ5.out
  obtain ⟨g0, g1, g2, g3, g4, g5, g6⟩ := seven_cellsJ HQ5.out
  have hP := (HE.out w5 HB5.out).2.1
  obtain ⟨bp, op, hPA, _⟩ := hP.2.2.2 (by rw [icells_length]; have := HLE.out; simp only; omega)
  have HPI := hid hPA
  simp only at hPA
  subst hPA
  have cP := Sl.cell hP tn (by have := HLE.out; simp only; omega)
  simp only at cP
  have t0 : ¬ (tn : Int) < 0 := by omega
  have tb : (tn : Int) < (bd.length : Int) := by have := HLE.out; omega
  have tm : (tn : Int) < (ms.length : Int) := by have := HLE.out; omega
  have td : (tn : Int) < (dn.length : Int) := by have := HLE.out; omega
  clear hP
  by_cases h2 : kd = 2
  · subst h2
    have HV1 := HV.out
    rw [if_pos rfl] at HV1
    replace HV := hid HV1
    clear HV1 HRB
    go_upto_region 9 with (fail)
    generalize hzz : bd.getD tn 0 = z at cP HV
    by_cases hz : z = 0
    case neg =>
      have hzd : (z != 0) = true := by simpa using hz
      have HR9 : Hid (R = false) := hid (by rw [HV.out, if_pos (.inr (.inr (.inr hz)))])
      clear HV
      replace p0 := cell_regrown p0
      replace p2 := cell_regrown p2
      replace p3 := cell_regrown p3
      replace b0 := cell_regrown b0
      replace b1 := cell_regrown b1
      replace b2 := cell_regrown b2
      replace b3 := cell_regrown b3
      replace b4 := cell_regrown b4
      replace b5 := cell_regrown b5
      replace g0 := cell_regrown g0
      replace g1 := cell_regrown g1
      replace g2 := cell_regrown g2
      replace g3 := cell_regrown g3
      replace g4 := cell_regrown g4
      replace g5 := cell_regrown g5
      replace g6 := cell_regrown g6
      replace cP := cell_regrown cP
      refine wp_region_quiet_below (by kernel_rfl) (by kernel_rfl) ?_
      repeat (go_big_quiet_step (fail))
      refine wpQuiet_nil ?_
      intro _ hw'
      obtain ⟨⟨dq, osq⟩, hw''⟩ := hw'
      subst hw''
      have hbR := below_regrown w5 dq osq
      refine at_world (fun u => RowKit.Below w5.heap.size w5 u) hbR ?_
      clear hbR p0 p1 p2 p3 b0 b1 b2 b3 b4 b5 f0 f1 f2 f3 f4 f5 g0 g1 g2 g3 g4 g5 g6 cP
      rintro w6 hbR
      have HB9 := hid (HB5.out.trans (hbR.mono HB5.out.size))
      clear hbR
      go_wp2
      refine bodyPost_ret (v := .tuple #[.slice (some ⟨b, off, none⟩) xs.length sc, .bool false]) (by simp [results, Tryz.results11, go_sem]) rfl ⟨(some ⟨b, off, none⟩), sc, xs, by rw [HR9.out], by rw [← HYL.out, HR9.out, if_neg (by simp)]; exact HXM.out, HXS.out _ HB9.out, HB9.out⟩
    subst hz
    clear hzz
    have HV1 := HV.out
    rw [if_neg (show ¬ ((k : Int) < 0 ∨ (tn : Int) < 0 ∨ (tk : Int) ≤ (tn : Int) ∨ (0 : Int) ≠ 0) by omega)] at HV1
    replace HV := hid HV1
    clear HV1
    have hsl := hkk.2 (ms.getD tn []) (by
      have h9 := HLE.out.1
      have e9 : ms.getD tn [] = ms[tn] := by simp [List.getD, h9]
      rw [e9]
      exact List.getElem_mem h9)
    have HTY := hid (fun u (hu : RowKit.Below W.heap.size W u) => show ∃ bT oT, A1 = some ⟨bT, oT, none⟩ ∧ u.cell? ⟨bT, oT + tn, none⟩ = some (.string (str (ms.getD tn []))) by
      obtain ⟨bT, oT, h1, h2⟩ := text_at (HE.out u hu).1 tn (by have := HLE.out; simp only; omega)
      simp only at h1 h2
      have h9 := HLE.out.1
      have e9 : ms[tn] = ms.getD tn [] := by simp [List.getD, h9]
      rw [e9] at h2
      exact ⟨bT, oT, h1, h2⟩)
    have hsj := setJ_lt T ws (ms.getD tn [])
    have HSI := hid (fun h => set_in (T := T) (ws := ws) (l := ms.getD tn []) (w := w) h)
    have HS9 := hid (fun u hu => HST.out u hu (ms.getD tn []) hsl)
    have HHA := hid (fun u => same_below (rhas_any (setJ T ws (ms.getD tn [])) w u hsj))
    replace hkk := hkk.1
    clear hsl hsj HST
    generalize ms.getD tn [] = tx at *
    generalize setJ T ws tx = sj at *
    obtain ⟨bT, oT, hAT, ct⟩ := HTY.out w5 HB5.out
    have HAT := hid hAT
    subst hAT
    generalize str tx = stx at *
    have cs := reg (w := w5) (fun W' hW' => HS9.out W' (HB5.out.trans (hW'.mono HB5.out.size)))
    have ch := reg (w := w5) (fun W' hW' => HHA.out W')
    have cr := reg (w := w5) (fun W' hW' => HRN2.out W' (HB5.out.trans (hW'.mono HB5.out.size)))
    by_cases hh : hasS sj w = true
    case neg =>
      have hh2 : hasS sj w = false := by simpa using hh
      have HR9 : Hid (R = false) := hid (by rw [HV.out, if_neg hh])
      rw [hh2] at ch
      clear HV HSI
      replace p0 := cell_regrown p0
      replace p2 := cell_regrown p2
      replace p3 := cell_regrown p3
      replace b0 := cell_regrown b0
      replace b1 := cell_regrown b1
      replace b2 := cell_regrown b2
      replace b3 := cell_regrown b3
      replace b4 := cell_regrown b4
      replace b5 := cell_regrown b5
      replace g0 := cell_regrown g0
      replace g1 := cell_regrown g1
      replace g2 := cell_regrown g2
      replace g3 := cell_regrown g3
      replace g4 := cell_regrown g4
      replace g5 := cell_regrown g5
      replace g6 := cell_regrown g6
      replace cP := cell_regrown cP
      replace ct := cell_regrown ct
      refine wp_region_quiet_below (by kernel_rfl) (by kernel_rfl) ?_
      repeat (go_big_quiet_step (first | (go_at_call 27; with_reducible exact cs _ _) | (go_at_call 26; with_reducible exact ch _ _)))
      refine wpQuiet_nil ?_
      intro _ hw'
      obtain ⟨⟨dq, osq⟩, hw''⟩ := hw'
      subst hw''
      have hbR := below_regrown w5 dq osq
      refine at_world (fun u => RowKit.Below w5.heap.size w5 u) hbR ?_
      clear hbR p0 p1 p2 p3 b0 b1 b2 b3 b4 b5 f0 f1 f2 f3 f4 f5 g0 g1 g2 g3 g4 g5 g6 cP ct cs ch cr
      rintro w6 hbR
      have HB9 := hid (HB5.out.trans (hbR.mono HB5.out.size))
      clear hbR
      go_wp2
      refine bodyPost_ret (v := .tuple #[.slice (some ⟨b, off, none⟩) xs.length sc, .bool false]) (by simp [results, Tryz.results11, go_sem]) rfl ⟨(some ⟨b, off, none⟩), sc, xs, by rw [HR9.out], by rw [← HYL.out, HR9.out, if_neg (by simp)]; exact HXM.out, HXS.out _ HB9.out, HB9.out⟩
    rw [hh] at ch
    have HV1 := HV.out
    rw [if_pos hh] at HV1
    obtain ⟨hw0, hwl, hw64⟩ := HSI.out hh
    obtain ⟨wn, rfl⟩ := Int.eq_ofNat_of_zero_le hw0
    rw [Int.toNat_natCast] at HV1
    replace HV := hid HV1
    clear HV1
    have w0 : ¬ (wn : Int) < 0 := by omega
    have hWk := HWS.out w5 HB5.out
    try simp only at hWk
    obtain ⟨bw, ow, hKA, _⟩ := hWk.2.2.2 (by rw [gcells_length (f := wkc) (n := 3) (fun _ => rfl)]; omega)
    subst hKA
    have cw := hWk.wk0 wn (by omega)
    clear hWk HWS HSI
    generalize (ws.getD wn (0, 0, 0)).1 = sl at *
    by_cases hsl : (rs : Int) < sl
    case neg =>
      have hsg : (rs : Int) ≥ sl := by omega
      have HR9 : Hid (R = false) := hid (by rw [HV.out]; exact decide_eq_false hsl)
      clear HV
      replace p0 := cell_regrown p0
      replace p2 := cell_regrown p2
      replace p3 := cell_regrown p3
      replace b0 := cell_regrown b0
      replace b1 := cell_regrown b1
      replace b2 := cell_regrown b2
      replace b3 := cell_regrown b3
      replace b4 := cell_regrown b4
      replace b5 := cell_regrown b5
      replace g0 := cell_regrown g0
      replace g1 := cell_regrown g1
      replace g2 := cell_regrown g2
      replace g3 := cell_regrown g3
      replace g4 := cell_regrown g4
      replace g5 := cell_regrown g5
      replace g6 := cell_regrown g6
      replace cP := cell_regrown cP
      replace ct := cell_regrown ct
      replace cw := cell_regrown cw
      refine wp_region_quiet_below (by kernel_rfl) (by kernel_rfl) ?_
      repeat (go_big_quiet_step (first | (go_at_call 27; with_reducible exact cs _ _) | (go_at_call 26; with_reducible exact ch _ _) | (go_at_call 14; with_reducible exact cr _ _)))
      refine wpQuiet_nil ?_
      intro _ hw'
      obtain ⟨⟨dq, osq⟩, hw''⟩ := hw'
      subst hw''
      have hbR := below_regrown w5 dq osq
      refine at_world (fun u => RowKit.Below w5.heap.size w5 u) hbR ?_
      clear hbR p0 p1 p2 p3 b0 b1 b2 b3 b4 b5 f0 f1 f2 f3 f4 f5 g0 g1 g2 g3 g4 g5 g6 cP ct cs ch cr cw
      rintro w6 hbR
      have HB9 := hid (HB5.out.trans (hbR.mono HB5.out.size))
      clear hbR
      go_wp2
      refine bodyPost_ret (v := .tuple #[.slice (some ⟨b, off, none⟩) xs.length sc, .bool false]) (by simp [results, Tryz.results11, go_sem]) rfl ⟨(some ⟨b, off, none⟩), sc, xs, by rw [HR9.out], by rw [← HYL.out, HR9.out, if_neg (by simp)]; exact HXM.out, HXS.out _ HB9.out, HB9.out⟩
    have hsg : ¬ (rs : Int) ≥ sl := by omega
    have HR9 : Hid (R = true) := hid (by rw [HV.out]; exact decide_eq_true hsl)
    clear HV
    replace p0 := cell_regrown p0
    replace p2 := cell_regrown p2
    replace p3 := cell_regrown p3
    replace b0 := cell_regrown b0
    replace b1 := cell_regrown b1
    replace b2 := cell_regrown b2
    replace b3 := cell_regrown b3
    replace b4 := cell_regrown b4
    replace b5 := cell_regrown b5
    replace g0 := cell_regrown g0
    replace g1 := cell_regrown g1
    replace g2 := cell_regrown g2
    replace g3 := cell_regrown g3
    replace g4 := cell_regrown g4
    replace g5 := cell_regrown g5
    replace g6 := cell_regrown g6
    replace cP := cell_regrown cP
    replace ct := cell_regrown ct
    replace cw := cell_regrown cw
    refine wp_region_quiet_below (by kernel_rfl) (by kernel_rfl) ?_
    repeat (go_big_quiet_step (first | (go_at_call 27; with_reducible exact cs _ _) | (go_at_call 26; with_reducible exact ch _ _) | (go_at_call 14; with_reducible exact cr _ _)))
    refine wpQuiet_nil ?_
    intro _ hw'
    obtain ⟨⟨dq, osq⟩, hw''⟩ := hw'
    subst hw''
    have hbR := below_regrown w5 dq osq
    refine at_world (fun u => RowKit.Below w5.heap.size w5 u) hbR ?_
    clear hbR p0 p1 p2 p3 b0 b1 b2 b3 b4 b5 f0 f1 f2 f3 f4 f5 g0 g1 g2 g3 g4 g5 g6 cP ct cs ch cr cw
    rintro w6 hbR
    have HB6 := hid (HB5.out.trans (hbR.mono HB5.out.size))
    have HX6 := hid (keep0 HX5.out hbR)
    have HO6 := hid (own_keep HO5.out hbR)
    have HJ6 := hid (keep0 HJ5.out hbR)
    have HG6 := hid (And.intro HG.out.1 (And.intro (Nat.lt_of_lt_of_le HG.out.2.1 hbR.size) HG.out.2.2))
    clear hbR HB5 HX5 HO5 HJ5 HQ5 HG
    obtain ⟨⟨b0, b1, b2, b3, b4, b5⟩, f0, f1, f2, f3, f4, f5⟩ := six_cells HX6.out
    have HSL := hid (HE.out _ HB6.out).2.1
    have hal6 : RowKit.Below w6.heap.size w6 (w6.alloc (.cells #[] 3)) := bel_alloc (RowKit.Below.refl _ _) _
    obtain ⟨⟨a0, a1, a2, a3, a4, a5⟩, _⟩ := six_cells (keep0 HX6.out hal6)
    clear hal6
    go_wp2_with (at_builtin; refine wpList_append_sl (W := w6) rfl (.tmp 91) (.tmp 93) 42 rfl w6.heap.size 3 Tryz.underlying42 info_int rfl (by omega) rfl (own_empty w6 3 1) rfl (HSL.out.below ((RowKit.Below.refl _ _).alloc (Nat.le_refl _) _)) (icells_one _ _) (show 0 + bd.length ≤ maxLen by unfold maxLen; omega) (by omega) (Below.size ((RowKit.Below.refl w6.heap.size w6).alloc (Nat.le_refl _) _)) ((RowKit.Below.refl _ _).alloc (Nat.le_refl _) _) ?_)
    intro v7 w7 ho7 hb7 _
    have hO7 : w7.ownsRow w6.heap.size 3 1 v7 bd.length (icells .i64 bd) := by simpa using ho7
    obtain ⟨gi, ic, hv7, hgib, _, _, hcell7, _, _⟩ := own_open hO7 (by have := HLE.out; omega) (by omega)
    subst hv7
    have HI7 := hid hO7
    have HX7 := hid (keep0 HX6.out hb7)
    have HO7 := hid (own_keep HO6.out hb7)
    have HB7 := hid (HB6.out.trans (hb7.mono HB6.out.size))
    have HJ7 := hid (keep0 HJ6.out hb7)
    have HGI := hid (And.intro hgib (show Xb < w6.heap.size from lt_of_block HX6.out))
    clear a0 a1 a2 a3 a4 a5 ho7 hO7 hb7 hcell7 hgib HX6 HO6 HB6 HJ6 HSL b0 b1 b2 b3 b4 b5 f0 f1 f2 f3 f4 f5
    obtain ⟨⟨b0, b1, b2, b3, b4, b5⟩, f0, f1, f2, f3, f4, f5⟩ := six_cells HX7.out
    go_upto_region 12 with (fail)
    refine at_world (fun u => u.heap[Xb]? = some (.cells #[.int .i64 id, .int .i64 sE, .int .i64 ee, .slice (some ⟨bT, oT, none⟩) ms.length ca, .slice (some ⟨gi, 0, none⟩) bd.length ic, .slice D dn.length cd] 45 (0, 0)) ∧ u.ownsRow w6.heap.size 3 1 (.slice (some ⟨gi, 0, none⟩) bd.length ic) bd.length (icells .i64 bd) ∧ u.ownsRow w4.heap.size 45 6 (.slice (some ⟨g, 0, none⟩) xs.length oc) xs.length (gcells ebl xs) ∧ u.heap[Ev]? = some (.cells #[.int .i64 2, .int .i64 j, .int .i64 (tn : Int), .int .i64 (wn : Int)] 31 (0, 0)) ∧ RowKit.Below W.heap.size W u) ⟨heap_setCell_same w7 Xb 4 _ _ _ HX7.out, own_setOld HI7.out ⟨Xb, 4, none⟩ _ HGI.out.2, own_setOld HO7.out ⟨Xb, 4, none⟩ _ HG6.out.2.2, (Below.heap_setCell _ _ _ _ (show Ev ≠ Xb by have h1 := HQW.out.2; have h2 := HXb.out; have h3 := HB3L.out; omega)).trans HJ7.out, HB7.out.setCell (p := ⟨Xb, 4, none⟩) (show W.heap.size ≤ Xb by have h2 := HXb.out; omega) _⟩ ?_
    rintro w8 ⟨hx8, hi8, ho8, hj8, hb8⟩
    have HX8 := hid hx8
    have HI8 := hid hi8
    have HO8 := hid ho8
    have HB8 := hid hb8
    clear b0 b1 b2 b3 b4 b5 f0 f1 f2 f3 f4 f5 HX7 HI7 HO7 HB7 HJ7
    obtain ⟨⟨b0, b1, b2, b3, b4, b5⟩, f0, f1, f2, f3, f4, f5⟩ := six_cells hx8
    obtain ⟨p0, p1, p2, p3⟩ := four_cellsE hj8
    obtain ⟨gi9, ic9, hgi9, _, _, _, hcell8, _, _⟩ := own_open hi8 (by have := HLE.out; omega) (by omega)
    cases hgi9
    obtain ⟨cq, fq⟩ := hcell8 tn (by rw [icells_length]; have := HLE.out; omega)
    clear hx8 hi8 ho8 hj8 hb8 hcell8
    have hwr : IntKind.i64.wrap ((wn : Int) + 1) = (wn : Int) + 1 := by simp [IntKind.wrap, IntKind.bits, IntKind.signed]; omega
    go_upto_region 13 with (fail)
    obtain ⟨csI, hcsI⟩ := own_blk HI8.out (by have := HLE.out; omega)
    refine at_world (fun u => u.heap[Xb]? = some (.cells #[.int .i64 id, .int .i64 sE, .int .i64 ee, .slice (some ⟨bT, oT, none⟩) ms.length ca, .slice (some ⟨gi, 0, none⟩) bd.length ic, .slice D dn.length cd] 45 (0, 0)) ∧ u.ownsRow w6.heap.size 3 1 (.slice (some ⟨gi, 0, none⟩) bd.length ic) bd.length ((icells .i64 bd).set tn (.int .i64 ((wn : Int) + 1))) ∧ u.ownsRow w4.heap.size 45 6 (.slice (some ⟨g, 0, none⟩) xs.length oc) xs.length (gcells ebl xs) ∧ RowKit.Below W.heap.size W u) ⟨(Below.heap_setCell _ _ _ _ (show Xb ≠ gi by have := HGI.out; omega)).trans HX8.out, own_set1 HI8.out (by have := HLE.out; omega) (by omega) tn _, own_setT9 HO8.out hcsI (by decide), HB8.out.setCell (p := ⟨gi, tn, none⟩) (show W.heap.size ≤ gi by have h1 := HGI.out.1; have h2 := HXb.out; have h3 := HGI.out.2; omega) _⟩ ?_
    rintro w9 ⟨hx9, hi9, ho9, hb9⟩
    rw [← icells_set] at hi9
    have HI9 := hid hi9
    have HO9 := hid ho9
    have HB9 := hid hb9
    clear b0 b1 b2 b3 b4 b5 f0 f1 f2 f3 f4 f5 p0 p1 p2 p3 cq fq hcsI HX8 HI8 HO8 HB8
    obtain ⟨⟨b0, b1, b2, b3, b4, b5⟩, _⟩ := six_cells hx9
    obtain ⟨g9, oc9, hg9, _, _, _, hcell9, _, _⟩ := own_open ho9 (by omega) (by omega)
    cases hg9
    have hgl := gcells_length (f := ebl) (n := 6) ebl_len xs
    have hlt6 : k * 6 + 6 ≤ xs.length * 6 := by rw [← Nat.succ_mul]; exact Nat.mul_le_mul_right _ HKL.out
    obtain ⟨d0, z0⟩ := hcell9 (k * 6) (by omega)
    obtain ⟨d1, z1⟩ := hcell9 (k * 6 + 1) (by omega)
    obtain ⟨d2, z2⟩ := hcell9 (k * 6 + 2) (by omega)
    obtain ⟨d3, z3⟩ := hcell9 (k * 6 + 3) (by omega)
    obtain ⟨d4, z4⟩ := hcell9 (k * 6 + 4) (by omega)
    obtain ⟨d5, z5⟩ := hcell9 (k * 6 + 5) (by omega)
    clear hx9 hi9 ho9 hb9 hcell9
    have hxp : 0 < xs.length := by omega
    have o1 := own_set1 HO9.out hxp (by omega) (k * 6) (.int .i64 id)
    have o2 := own_set1 o1 hxp (by omega) (k * 6 + 1) (.int .i64 sE)
    have o3 := own_set1 o2 hxp (by omega) (k * 6 + 2) (.int .i64 ee)
    have o4 := own_set1 o3 hxp (by omega) (k * 6 + 3) (.slice (some ⟨bT, oT, none⟩) ms.length ca)
    have o5 := own_set1 o4 hxp (by omega) (k * 6 + 4) (.slice (some ⟨gi, 0, none⟩) bd.length ic)
    have o6 := own_set1 o5 hxp (by omega) (k * 6 + 5) (.slice D dn.length cd)
    have hsc := HSETC.out ((⟨id, sE, ee, ms, bd.set tn ((wn : Int) + 1), dn⟩ : En), (⟨(some ⟨bT, oT, none⟩), ca, some ⟨gi, 0, none⟩, ic, D, cd⟩ : Pt))
    simp only [List.length_set] at hsc
    rw [← hsc] at o6
    obtain ⟨cs1, hb1⟩ := own_blk HO9.out hxp
    obtain ⟨cs2, hb2⟩ := own_blk o1 hxp
    obtain ⟨cs3, hb3⟩ := own_blk o2 hxp
    obtain ⟨cs4, hb4⟩ := own_blk o3 hxp
    obtain ⟨cs5, hb5⟩ := own_blk o4 hxp
    obtain ⟨cs6, hb6⟩ := own_blk o5 hxp
    have i6 := own_setT9 (j := k * 6 + 5) (u := .slice D dn.length cd) (own_setT9 (j := k * 6 + 4) (u := .slice (some ⟨gi, 0, none⟩) bd.length ic) (own_setT9 (j := k * 6 + 3) (u := .slice (some ⟨bT, oT, none⟩) ms.length ca) (own_setT9 (j := k * 6 + 2) (u := .int .i64 ee) (own_setT9 (j := k * 6 + 1) (u := .int .i64 sE) (own_setT9 (j := k * 6) (u := .int .i64 id) HI9.out hb1 (by decide)) hb2 (by decide)) hb3 (by decide)) hb4 (by decide)) hb5 (by decide)) hb6 (by decide)
    have hWg : W.heap.size ≤ g := by have h1 := HG6.out; have h2 := HXb.out; omega
    have w6b := (((((HB9.out.setCell (p := ⟨g, k * 6, none⟩) hWg (.int .i64 id)).setCell (p := ⟨g, k * 6 + 1, none⟩) hWg (.int .i64 sE)).setCell (p := ⟨g, k * 6 + 2, none⟩) hWg (.int .i64 ee)).setCell (p := ⟨g, k * 6 + 3, none⟩) hWg (.slice (some ⟨bT, oT, none⟩) ms.length ca)).setCell (p := ⟨g, k * 6 + 4, none⟩) hWg (.slice (some ⟨gi, 0, none⟩) bd.length ic)).setCell (p := ⟨g, k * 6 + 5, none⟩) hWg (.slice D dn.length cd)
    clear cs1 cs2 cs3 cs4 cs5 cs6 hb1 hb2 hb3 hb4 hb5 hb6 o1 o2 o3 o4 o5 hsc
    go_upto_region 14 with (fail)
    refine at_world (fun u => u.ownsRow w4.heap.size 45 6 (.slice (some ⟨g, 0, none⟩) xs.length oc) xs.length (gcells ebl (xs.set k ((⟨id, sE, ee, ms, bd.set tn ((wn : Int) + 1), dn⟩ : En), (⟨(some ⟨bT, oT, none⟩), ca, some ⟨gi, 0, none⟩, ic, D, cd⟩ : Pt)))) ∧ u.ownsRow w6.heap.size 3 1 (.slice (some ⟨gi, 0, none⟩) bd.length ic) bd.length (icells .i64 (bd.set tn ((wn : Int) + 1))) ∧ RowKit.Below W.heap.size W u) ⟨o6, i6, w6b⟩ ?_
    clear o6 i6 w6b b0 b1 b2 b3 b4 b5 d0 d1 d2 d3 d4 d5 z0 z1 z2 z3 z4 z5
    rintro w10 ⟨ho, hi, hb⟩
    have HIN9 : Hid (InBk w10 (some ⟨g, 0, none⟩) oc (xs.set k ((⟨id, sE, ee, ms, bd.set tn ((wn : Int) + 1), dn⟩ : En), (⟨(some ⟨bT, oT, none⟩), ca, some ⟨gi, 0, none⟩, ic, D, cd⟩ : Pt)))) := hid ⟨by rw [List.length_set]; exact sl_own ho, fun y hy => by
      rcases List.mem_or_eq_of_mem_set hy with h8 | h8
      · exact (HXS.out _ hb).2 y h8
      · subst h8
        have h9 := HE.out _ hb
        exact ⟨h9.1, by simpa using sl_own hi, h9.2.2⟩⟩
    have HB10 := hid hb
    clear ho hi hb
    go_wp2
    refine bodyPost_ret (v := .tuple #[.slice (some ⟨g, 0, none⟩) xs.length oc, .bool true]) (by simp [results, Tryz.results11, go_sem]) rfl ⟨some ⟨g, 0, none⟩, oc, xs.set k ((⟨id, sE, ee, ms, bd.set tn ((wn : Int) + 1), dn⟩ : En), (⟨(some ⟨bT, oT, none⟩), ca, some ⟨gi, 0, none⟩, ic, D, cd⟩ : Pt)), by rw [HR9.out, List.length_set], ?_, HIN9.out, HB10.out⟩
    rw [← HYL.out, HR9.out, if_pos rfl, HAF.out, HSETM.out]
    unfold aftE
    rw [if_pos rfl, Int.toNat_natCast]
    rfl
  · have hk2 : (kd == 2) = false := by simpa using h2
    have HV1 := HV.out
    rw [if_neg h2] at HV1
    replace HV := hid HV1
    clear HV1
    by_cases h3 : kd = 3
    case neg =>
      have hk3 : (kd != 3) = true := by simpa using h3
      have HR9 : Hid (R = false) := hid (by rw [HV.out, if_neg h3])
      clear HV
      go_upto_region 15 with (fail)
      replace p0 := cell_regrown p0
      replace p2 := cell_regrown p2
      replace p3 := cell_regrown p3
      replace b0 := cell_regrown b0
      replace b1 := cell_regrown b1
      replace b2 := cell_regrown b2
      replace b3 := cell_regrown b3
      replace b4 := cell_regrown b4
      replace b5 := cell_regrown b5
      replace g0 := cell_regrown g0
      replace g1 := cell_regrown g1
      replace g2 := cell_regrown g2
      replace g3 := cell_regrown g3
      replace g4 := cell_regrown g4
      replace g5 := cell_regrown g5
      replace g6 := cell_regrown g6
      replace cP := cell_regrown cP
      refine wp_region_quiet_below (by kernel_rfl) (by kernel_rfl) ?_
      repeat (go_big_quiet_step (fail))
      refine wpQuiet_nil ?_
      intro _ hw'
      obtain ⟨⟨dq, osq⟩, hw''⟩ := hw'
      subst hw''
      have hbR := below_regrown w5 dq osq
      refine at_world (fun u => RowKit.Below w5.heap.size w5 u) hbR ?_
      clear hbR p0 p1 p2 p3 b0 b1 b2 b3 b4 b5 f0 f1 f2 f3 f4 f5 g0 g1 g2 g3 g4 g5 g6 cP
      rintro w6 hbR
      have HB9 := hid (HB5.out.trans (hbR.mono HB5.out.size))
      clear hbR
      go_wp2
      refine bodyPost_ret (v := .tuple #[.slice (some ⟨b, off, none⟩) xs.length sc, .bool false]) (by simp [results, Tryz.results11, go_sem]) rfl ⟨(some ⟨b, off, none⟩), sc, xs, by rw [HR9.out], by rw [← HYL.out, HR9.out, if_neg (by simp)]; exact HXM.out, HXS.out _ HB9.out, HB9.out⟩
    subst h3
    have HV1 := HV.out
    rw [if_pos rfl, if_neg (show ¬ ((k : Int) < 0 ∨ (tn : Int) < 0 ∨ (tk : Int) ≤ (tn : Int)) by omega), HRB.out] at HV1
    replace HV := hid HV1
    clear HV1 HRB
    have hD := (HE.out w5 HB5.out).2.2
    obtain ⟨bq, oq, hDA, _⟩ := hD.2.2.2 (by rw [blcells_length]; have := HLE.out; simp only; omega)
    simp only at hDA
    subst hDA
    have cD := hD.blcell tn (by have := HLE.out; simp only; omega)
    simp only at cD
    clear hD
    go_upto_region 15 with (fail)
    generalize hzz : bd.getD tn 0 = z at cP HV
    generalize hdd : dn.getD tn false = d at cD HV
    clear hzz hdd
    by_cases hz : 0 < z
    case neg =>
      have hz1 : z < 1 := by omega
      have HR9 : Hid (R = false) := hid (by rw [HV.out, decide_eq_false hz]; rfl)
      clear HV
      replace p0 := cell_regrown p0
      replace p2 := cell_regrown p2
      replace p3 := cell_regrown p3
      replace b0 := cell_regrown b0
      replace b1 := cell_regrown b1
      replace b2 := cell_regrown b2
      replace b3 := cell_regrown b3
      replace b4 := cell_regrown b4
      replace b5 := cell_regrown b5
      replace g0 := cell_regrown g0
      replace g1 := cell_regrown g1
      replace g2 := cell_regrown g2
      replace g3 := cell_regrown g3
      replace g4 := cell_regrown g4
      replace g5 := cell_regrown g5
      replace g6 := cell_regrown g6
      replace cP := cell_regrown cP
      replace cD := cell_regrown cD
      refine wp_region_quiet_below (by kernel_rfl) (by kernel_rfl) ?_
      repeat (go_big_quiet_step (fail))
      refine wpQuiet_nil ?_
      intro _ hw'
      obtain ⟨⟨dq, osq⟩, hw''⟩ := hw'
      subst hw''
      have hbR := below_regrown w5 dq osq
      refine at_world (fun u => RowKit.Below w5.heap.size w5 u) hbR ?_
      clear hbR p0 p1 p2 p3 b0 b1 b2 b3 b4 b5 f0 f1 f2 f3 f4 f5 g0 g1 g2 g3 g4 g5 g6 cP cD
      rintro w6 hbR
      have HB9 := hid (HB5.out.trans (hbR.mono HB5.out.size))
      clear hbR
      go_wp2
      refine bodyPost_ret (v := .tuple #[.slice (some ⟨b, off, none⟩) xs.length sc, .bool false]) (by simp [results, Tryz.results11, go_sem]) rfl ⟨(some ⟨b, off, none⟩), sc, xs, by rw [HR9.out], by rw [← HYL.out, HR9.out, if_neg (by simp)]; exact HXM.out, HXS.out _ HB9.out, HB9.out⟩
    have hz1 : ¬ z < 1 := by omega
    have HV1 := HV.out
    rw [decide_eq_true hz, Bool.true_and] at HV1
    replace HV := hid HV1
    clear HV1
    generalize hzw : IntKind.i64.wrap (z - 1) = zw at *
    by_cases hw : zw = w
    case neg =>
      have hwd : (zw != w) = true := by simpa using hw
      have HR9 : Hid (R = false) := hid (by
        have h9 : (zw == w) = false := by simpa using hw
        rw [HV.out, h9]; rfl)
      clear HV
      replace p0 := cell_regrown p0
      replace p2 := cell_regrown p2
      replace p3 := cell_regrown p3
      replace b0 := cell_regrown b0
      replace b1 := cell_regrown b1
      replace b2 := cell_regrown b2
      replace b3 := cell_regrown b3
      replace b4 := cell_regrown b4
      replace b5 := cell_regrown b5
      replace g0 := cell_regrown g0
      replace g1 := cell_regrown g1
      replace g2 := cell_regrown g2
      replace g3 := cell_regrown g3
      replace g4 := cell_regrown g4
      replace g5 := cell_regrown g5
      replace g6 := cell_regrown g6
      replace cP := cell_regrown cP
      replace cD := cell_regrown cD
      refine wp_region_quiet_below (by kernel_rfl) (by kernel_rfl) ?_
      repeat (go_big_quiet_step (fail))
      refine wpQuiet_nil ?_
      intro _ hw'
      obtain ⟨⟨dq, osq⟩, hw''⟩ := hw'
      subst hw''
      have hbR := below_regrown w5 dq osq
      refine at_world (fun u => RowKit.Below w5.heap.size w5 u) hbR ?_
      clear hbR p0 p1 p2 p3 b0 b1 b2 b3 b4 b5 f0 f1 f2 f3 f4 f5 g0 g1 g2 g3 g4 g5 g6 cP cD
      rintro w6 hbR
      have HB9 := hid (HB5.out.trans (hbR.mono HB5.out.size))
      clear hbR
      go_wp2
      refine bodyPost_ret (v := .tuple #[.slice (some ⟨b, off, none⟩) xs.length sc, .bool false]) (by simp [results, Tryz.results11, go_sem]) rfl ⟨(some ⟨b, off, none⟩), sc, xs, by rw [HR9.out], by rw [← HYL.out, HR9.out, if_neg (by simp)]; exact HXM.out, HXS.out _ HB9.out, HB9.out⟩
    have hwd : (zw != w) = false := by simpa using hw
    have HV1 := HV.out
    rw [show (zw == w) = true by simpa using hw, Bool.true_and] at HV1
    replace HV := hid HV1
    clear HV1
    cases d with
    | true =>
      have HR9 : Hid (R = false) := hid (by rw [HV.out]; rfl)
      clear HV
      replace p0 := cell_regrown p0
      replace p2 := cell_regrown p2
      replace p3 := cell_regrown p3
      replace b0 := cell_regrown b0
      replace b1 := cell_regrown b1
      replace b2 := cell_regrown b2
      replace b3 := cell_regrown b3
      replace b4 := cell_regrown b4
      replace b5 := cell_regrown b5
      replace g0 := cell_regrown g0
      replace g1 := cell_regrown g1
      replace g2 := cell_regrown g2
      replace g3 := cell_regrown g3
      replace g4 := cell_regrown g4
      replace g5 := cell_regrown g5
      replace g6 := cell_regrown g6
      replace cP := cell_regrown cP
      replace cD := cell_regrown cD
      refine wp_region_quiet_below (by kernel_rfl) (by kernel_rfl) ?_
      repeat (go_big_quiet_step (fail))
      refine wpQuiet_nil ?_
      intro _ hw'
      obtain ⟨⟨dq, osq⟩, hw''⟩ := hw'
      subst hw''
      have hbR := below_regrown w5 dq osq
      refine at_world (fun u => RowKit.Below w5.heap.size w5 u) hbR ?_
      clear hbR p0 p1 p2 p3 b0 b1 b2 b3 b4 b5 f0 f1 f2 f3 f4 f5 g0 g1 g2 g3 g4 g5 g6 cP cD
      rintro w6 hbR
      have HB9 := hid (HB5.out.trans (hbR.mono HB5.out.size))
      clear hbR
      go_wp2
      refine bodyPost_ret (v := .tuple #[.slice (some ⟨b, off, none⟩) xs.length sc, .bool false]) (by simp [results, Tryz.results11, go_sem]) rfl ⟨(some ⟨b, off, none⟩), sc, xs, by rw [HR9.out], by rw [← HYL.out, HR9.out, if_neg (by simp)]; exact HXM.out, HXS.out _ HB9.out, HB9.out⟩
    | false =>
      have HR9 : Hid (R = true) := hid (by rw [HV.out]; rfl)
      clear HV
      replace p0 := cell_regrown p0
      replace p2 := cell_regrown p2
      replace p3 := cell_regrown p3
      replace b0 := cell_regrown b0
      replace b1 := cell_regrown b1
      replace b2 := cell_regrown b2
      replace b3 := cell_regrown b3
      replace b4 := cell_regrown b4
      replace b5 := cell_regrown b5
      replace g0 := cell_regrown g0
      replace g1 := cell_regrown g1
      replace g2 := cell_regrown g2
      replace g3 := cell_regrown g3
      replace g4 := cell_regrown g4
      replace g5 := cell_regrown g5
      replace g6 := cell_regrown g6
      replace cP := cell_regrown cP
      replace cD := cell_regrown cD
      refine wp_region_quiet_below (by kernel_rfl) (by kernel_rfl) ?_
      repeat (go_big_quiet_step (fail))
      refine wpQuiet_nil ?_
      intro _ hw'
      obtain ⟨⟨dq, osq⟩, hw''⟩ := hw'
      subst hw''
      have hbR := below_regrown w5 dq osq
      refine at_world (fun u => RowKit.Below w5.heap.size w5 u) hbR ?_
      clear hbR p0 p1 p2 p3 b0 b1 b2 b3 b4 b5 f0 f1 f2 f3 f4 f5 g0 g1 g2 g3 g4 g5 g6 cP cD
      rintro w6 hbR
      have HB6 := hid (HB5.out.trans (hbR.mono HB5.out.size))
      have HX6 := hid (keep0 HX5.out hbR)
      have HO6 := hid (own_keep HO5.out hbR)
      have HJ6 := hid (keep0 HJ5.out hbR)
      have HG6 := hid (And.intro HG.out.1 (And.intro (Nat.lt_of_lt_of_le HG.out.2.1 hbR.size) HG.out.2.2))
      clear hbR HB5 HX5 HO5 HJ5 HQ5 HG
      obtain ⟨⟨b0, b1, b2, b3, b4, b5⟩, f0, f1, f2, f3, f4, f5⟩ := six_cells HX6.out
      have HSL := hid (HE.out _ HB6.out).2.2
      have hal6 : RowKit.Below w6.heap.size w6 (w6.alloc (.cells #[] 4)) := bel_alloc (RowKit.Below.refl _ _) _
      obtain ⟨⟨a0, a1, a2, a3, a4, a5⟩, _⟩ := six_cells (keep0 HX6.out hal6)
      clear hal6
      go_wp2_with (at_builtin; refine wpList_append_sl (W := w6) rfl (.tmp 142) (.tmp 144) 43 rfl w6.heap.size 4 Tryz.underlying43 info_bool rfl (by omega) rfl (own_empty w6 4 1) rfl (HSL.out.below ((RowKit.Below.refl _ _).alloc (Nat.le_refl _) _)) (blcells_one _) (show 0 + dn.length ≤ maxLen by unfold maxLen; omega) (by omega) (Below.size ((RowKit.Below.refl w6.heap.size w6).alloc (Nat.le_refl _) _)) ((RowKit.Below.refl _ _).alloc (Nat.le_refl _) _) ?_)
      intro v7 w7 ho7 hb7 _
      have hO7 : w7.ownsRow w6.heap.size 4 1 v7 dn.length (blcells dn) := by simpa using ho7
      obtain ⟨gi, ic, hv7, hgib, _, _, hcell7, _, _⟩ := own_open hO7 (by have := HLE.out; omega) (by omega)
      subst hv7
      have HI7 := hid hO7
      have HX7 := hid (keep0 HX6.out hb7)
      have HO7 := hid (own_keep HO6.out hb7)
      have HB7 := hid (HB6.out.trans (hb7.mono HB6.out.size))
      have HJ7 := hid (keep0 HJ6.out hb7)
      have HGI := hid (And.intro hgib (show Xb < w6.heap.size from lt_of_block HX6.out))
      clear a0 a1 a2 a3 a4 a5 ho7 hO7 hb7 hcell7 hgib HX6 HO6 HB6 HJ6 HSL b0 b1 b2 b3 b4 b5 f0 f1 f2 f3 f4 f5
      obtain ⟨⟨b0, b1, b2, b3, b4, b5⟩, f0, f1, f2, f3, f4, f5⟩ := six_cells HX7.out
      go_upto_region 18 with (fail)
      refine at_world (fun u => u.heap[Xb]? = some (.cells #[.int .i64 id, .int .i64 sE, .int .i64 ee, .slice A1 ms.length ca, .slice (some ⟨bp, op, none⟩) bd.length cb, .slice (some ⟨gi, 0, none⟩) dn.length ic] 45 (0, 0)) ∧ u.ownsRow w6.heap.size 4 1 (.slice (some ⟨gi, 0, none⟩) dn.length ic) dn.length (blcells dn) ∧ u.ownsRow w4.heap.size 45 6 (.slice (some ⟨g, 0, none⟩) xs.length oc) xs.length (gcells ebl xs) ∧ u.heap[Ev]? = some (.cells #[.int .i64 3, .int .i64 j, .int .i64 (tn : Int), .int .i64 w] 31 (0, 0)) ∧ RowKit.Below W.heap.size W u) ⟨heap_setCell_same w7 Xb 5 _ _ _ HX7.out, own_setOld HI7.out ⟨Xb, 5, none⟩ _ HGI.out.2, own_setOld HO7.out ⟨Xb, 5, none⟩ _ HG6.out.2.2, (Below.heap_setCell _ _ _ _ (show Ev ≠ Xb by have h1 := HQW.out.2; have h2 := HXb.out; have h3 := HB3L.out; omega)).trans HJ7.out, HB7.out.setCell (p := ⟨Xb, 5, none⟩) (show W.heap.size ≤ Xb by have h2 := HXb.out; omega) _⟩ ?_
      rintro w8 ⟨hx8, hi8, ho8, hj8, hb8⟩
      have HX8 := hid hx8
      have HI8 := hid hi8
      have HO8 := hid ho8
      have HB8 := hid hb8
      clear b0 b1 b2 b3 b4 b5 f0 f1 f2 f3 f4 f5 HX7 HI7 HO7 HB7 HJ7
      obtain ⟨⟨b0, b1, b2, b3, b4, b5⟩, f0, f1, f2, f3, f4, f5⟩ := six_cells hx8
      obtain ⟨p0, p1, p2, p3⟩ := four_cellsE hj8
      obtain ⟨gi9, ic9, hgi9, _, _, _, hcell8, _, _⟩ := own_open hi8 (by have := HLE.out; omega) (by omega)
      cases hgi9
      obtain ⟨cq, fq⟩ := hcell8 tn (by rw [blcells_length]; have := HLE.out; omega)
      clear hx8 hi8 ho8 hj8 hb8 hcell8
      go_upto_region 19 with (fail)
      obtain ⟨csI, hcsI⟩ := own_blk HI8.out (by have := HLE.out; omega)
      refine at_world (fun u => u.heap[Xb]? = some (.cells #[.int .i64 id, .int .i64 sE, .int .i64 ee, .slice A1 ms.length ca, .slice (some ⟨bp, op, none⟩) bd.length cb, .slice (some ⟨gi, 0, none⟩) dn.length ic] 45 (0, 0)) ∧ u.ownsRow w6.heap.size 4 1 (.slice (some ⟨gi, 0, none⟩) dn.length ic) dn.length ((blcells dn).set tn (.bool true)) ∧ u.ownsRow w4.heap.size 45 6 (.slice (some ⟨g, 0, none⟩) xs.length oc) xs.length (gcells ebl xs) ∧ RowKit.Below W.heap.size W u) ⟨(Below.heap_setCell _ _ _ _ (show Xb ≠ gi by have := HGI.out; omega)).trans HX8.out, own_set1 HI8.out (by have := HLE.out; omega) (by omega) tn _, own_setT9 HO8.out hcsI (by decide), HB8.out.setCell (p := ⟨gi, tn, none⟩) (show W.heap.size ≤ gi by have h1 := HGI.out.1; have h2 := HXb.out; have h3 := HGI.out.2; omega) _⟩ ?_
      rintro w9 ⟨hx9, hi9, ho9, hb9⟩
      rw [← blcells_set] at hi9
      have HI9 := hid hi9
      have HO9 := hid ho9
      have HB9 := hid hb9
      clear b0 b1 b2 b3 b4 b5 f0 f1 f2 f3 f4 f5 p0 p1 p2 p3 cq fq hcsI HX8 HI8 HO8 HB8
      obtain ⟨⟨b0, b1, b2, b3, b4, b5⟩, _⟩ := six_cells hx9
      obtain ⟨g9, oc9, hg9, _, _, _, hcell9, _, _⟩ := own_open ho9 (by omega) (by omega)
      cases hg9
      have hgl := gcells_length (f := ebl) (n := 6) ebl_len xs
      have hlt6 : k * 6 + 6 ≤ xs.length * 6 := by rw [← Nat.succ_mul]; exact Nat.mul_le_mul_right _ HKL.out
      obtain ⟨d0, z0⟩ := hcell9 (k * 6) (by omega)
      obtain ⟨d1, z1⟩ := hcell9 (k * 6 + 1) (by omega)
      obtain ⟨d2, z2⟩ := hcell9 (k * 6 + 2) (by omega)
      obtain ⟨d3, z3⟩ := hcell9 (k * 6 + 3) (by omega)
      obtain ⟨d4, z4⟩ := hcell9 (k * 6 + 4) (by omega)
      obtain ⟨d5, z5⟩ := hcell9 (k * 6 + 5) (by omega)
      clear hx9 hi9 ho9 hb9 hcell9
      have hxp : 0 < xs.length := by omega
      have o1 := own_set1 HO9.out hxp (by omega) (k * 6) (.int .i64 id)
      have o2 := own_set1 o1 hxp (by omega) (k * 6 + 1) (.int .i64 sE)
      have o3 := own_set1 o2 hxp (by omega) (k * 6 + 2) (.int .i64 ee)
      have o4 := own_set1 o3 hxp (by omega) (k * 6 + 3) (.slice A1 ms.length ca)
      have o5 := own_set1 o4 hxp (by omega) (k * 6 + 4) (.slice (some ⟨bp, op, none⟩) bd.length cb)
      have o6 := own_set1 o5 hxp (by omega) (k * 6 + 5) (.slice (some ⟨gi, 0, none⟩) dn.length ic)
      have hsc := HSETC.out ((⟨id, sE, ee, ms, bd, dn.set tn true⟩ : En), (⟨A1, ca, some ⟨bp, op, none⟩, cb, some ⟨gi, 0, none⟩, ic⟩ : Pt))
      simp only [List.length_set] at hsc
      rw [← hsc] at o6
      obtain ⟨cs1, hb1⟩ := own_blk HO9.out hxp
      obtain ⟨cs2, hb2⟩ := own_blk o1 hxp
      obtain ⟨cs3, hb3⟩ := own_blk o2 hxp
      obtain ⟨cs4, hb4⟩ := own_blk o3 hxp
      obtain ⟨cs5, hb5⟩ := own_blk o4 hxp
      obtain ⟨cs6, hb6⟩ := own_blk o5 hxp
      have i6 := own_setT9 (j := k * 6 + 5) (u := .slice (some ⟨gi, 0, none⟩) dn.length ic) (own_setT9 (j := k * 6 + 4) (u := .slice (some ⟨bp, op, none⟩) bd.length cb) (own_setT9 (j := k * 6 + 3) (u := .slice A1 ms.length ca) (own_setT9 (j := k * 6 + 2) (u := .int .i64 ee) (own_setT9 (j := k * 6 + 1) (u := .int .i64 sE) (own_setT9 (j := k * 6) (u := .int .i64 id) HI9.out hb1 (by decide)) hb2 (by decide)) hb3 (by decide)) hb4 (by decide)) hb5 (by decide)) hb6 (by decide)
      have hWg : W.heap.size ≤ g := by have h1 := HG6.out; have h2 := HXb.out; omega
      have w6b := (((((HB9.out.setCell (p := ⟨g, k * 6, none⟩) hWg (.int .i64 id)).setCell (p := ⟨g, k * 6 + 1, none⟩) hWg (.int .i64 sE)).setCell (p := ⟨g, k * 6 + 2, none⟩) hWg (.int .i64 ee)).setCell (p := ⟨g, k * 6 + 3, none⟩) hWg (.slice A1 ms.length ca)).setCell (p := ⟨g, k * 6 + 4, none⟩) hWg (.slice (some ⟨bp, op, none⟩) bd.length cb)).setCell (p := ⟨g, k * 6 + 5, none⟩) hWg (.slice (some ⟨gi, 0, none⟩) dn.length ic)
      clear cs1 cs2 cs3 cs4 cs5 cs6 hb1 hb2 hb3 hb4 hb5 hb6 o1 o2 o3 o4 o5 hsc
      go_upto_region 20 with (fail)
      refine at_world (fun u => u.ownsRow w4.heap.size 45 6 (.slice (some ⟨g, 0, none⟩) xs.length oc) xs.length (gcells ebl (xs.set k ((⟨id, sE, ee, ms, bd, dn.set tn true⟩ : En), (⟨A1, ca, some ⟨bp, op, none⟩, cb, some ⟨gi, 0, none⟩, ic⟩ : Pt)))) ∧ u.ownsRow w6.heap.size 4 1 (.slice (some ⟨gi, 0, none⟩) dn.length ic) dn.length (blcells (dn.set tn true)) ∧ RowKit.Below W.heap.size W u) ⟨o6, i6, w6b⟩ ?_
      clear o6 i6 w6b b0 b1 b2 b3 b4 b5 d0 d1 d2 d3 d4 d5 z0 z1 z2 z3 z4 z5
      rintro w10 ⟨ho, hi, hb⟩
      have HIN9 : Hid (InBk w10 (some ⟨g, 0, none⟩) oc (xs.set k ((⟨id, sE, ee, ms, bd, dn.set tn true⟩ : En), (⟨A1, ca, some ⟨bp, op, none⟩, cb, some ⟨gi, 0, none⟩, ic⟩ : Pt)))) := hid ⟨by rw [List.length_set]; exact sl_own ho, fun y hy => by
        rcases List.mem_or_eq_of_mem_set hy with h8 | h8
        · exact (HXS.out _ hb).2 y h8
        · subst h8
          have h9 := HE.out _ hb
          exact ⟨h9.1, h9.2.1, by simpa using sl_own hi⟩⟩
      have HB10 := hid hb
      clear ho hi hb
      go_wp2
      refine bodyPost_ret (v := .tuple #[.slice (some ⟨g, 0, none⟩) xs.length oc, .bool true]) (by simp [results, Tryz.results11, go_sem]) rfl ⟨some ⟨g, 0, none⟩, oc, xs.set k ((⟨id, sE, ee, ms, bd, dn.set tn true⟩ : En), (⟨A1, ca, some ⟨bp, op, none⟩, cb, some ⟨gi, 0, none⟩, ic⟩ : Pt)), by rw [HR9.out, List.length_set], ?_, HIN9.out, HB10.out⟩
      rw [← HYL.out, HR9.out, if_pos rfl, HAF.out, HSETM.out]
      unfold aftE
      rw [if_neg (by omega), Int.toNat_natCast]
      rfl
theorem rstep_any (x : Cf) (N : Option Addr) (nc : Nat) (K : Option Addr) (kc : Nat) (J : Option Addr) (jc : Nat) (js : List Jo) (S : Option Addr) (sc : Nat) (xs : List Ee) (kd j t w : Int) (W : World) (hC : CfAt W x N nc K kc) (hJ : InJs W J jc js) (hS : InBk W S sc xs) (hs : SmJ js) (hn : xs.length ≤ 100) (hk : ∀ x ∈ xs, smE x.1) (hw : x.ws.length ≤ 1000) :
    Calls Tryz.prog 11 #[.agg (cfc x N nc K kc), .slice J js.length jc, .slice S xs.length sc, .agg #[.int .i64 kd, .int .i64 j, .int .i64 t, .int .i64 w]] W fun e w' => ∃ A' c' ys, e = .returned (.tuple #[.slice A' ys.length c', .bool (posB x js (xs.map (·.1)) kd j t w)]) ∧ ys.map (·.1) = (if posB x js (xs.map (·.1)) kd j t w then aftB js (xs.map (·.1)) kd j t w else xs.map (·.1)) ∧ InBk w' A' c' ys ∧ RowKit.Below W.heap.size W w' := by
  by_cases h1 : kd = 1
  · exact rstep1_any x N nc K kc J jc js S sc xs kd j t w W hC hJ hS hs hn hk hw h1
  · exact rstep2_any x N nc K kc J jc js S sc xs kd j t w W hC hJ hS hs hn hk hw h1
end Go.Proofs.YtgakobolhmdnnaaGreatDoor
