/- The document's book: Place, Tasks, Why: contracts. -/
import Derived.Test.YtkepfkfoblocgaaGreatQR20A
import Derived.Test.YtkepfkfoblocgaaGreatQRecG
import Derived.Lib.MinMax
namespace Go.Proofs.YtkepfkfoblocgaaGreat
open Go.RowKit Go.Sort
set_option linter.unusedVariables false
set_option linter.unusedSimpArgs false

set_option maxRecDepth 20000 in
set_option maxHeartbeats 1000000 in
theorem r20place_any (A : Option Addr) (c : Nat) (xs : List Ee) (job : Int) (W : World) (h : InBk W A c xs) :
    Calls Tryz.prog 42 #[.slice A xs.length c, .int .i64 job] W fun e w' => e = .returned (.int .i64 (plI (xs.map (·.1)) job)) ∧ W = w' := by
  have HA := hid h
  have hm : xs.length ≤ 9223372036854775807 := by have := h.len; unfold maxLen at this; omega
  have HY := hid (fun k (hk : k < xs.length) (h1 : xs[k].1.id = job) (h2 : ∀ j (hj : j < xs.length), j < k → xs[j].1.id ≠ job) => show plI (xs.map (·.1)) job = (k : Int) by
    unfold plI
    rw [plB_of (k := k) (by simpa using hk) (by simpa using h1) (fun i hi => by simpa using h2 i (by omega) hi)])
  have HN := hid (fun (h2 : ∀ j (hj : j < xs.length), xs[j].1.id ≠ job) => show plI (xs.map (·.1)) job = -1 by
    unfold plI
    rw [plB_of_none (fun e he => by
      obtain ⟨x, hx, rfl⟩ := List.mem_map.1 he
      obtain ⟨j, hj, rfl⟩ := List.getElem_of_mem hx
      exact h2 j hj)])
  clear h
  generalize plI (xs.map (·.1)) job = R at *
  go_enter Tryz.func42, Tryz.ntmps42
  go_wp2
  go_loopw [5] (fun i wr => ∃ k : Nat, k ≤ xs.length ∧ i = .int .i64 (k : Int) ∧ Hid (∀ j (hj : j < xs.length), j < k → xs[j].1.id ≠ job) ∧ W = wr) (fun i _ => xs.length - (intOf i).toNat)
  case atStart => exact ⟨0, by omega, rfl, fun j hj h => absurd h (by omega), rfl⟩
  case round =>
    obtain ⟨k, hk, rfl, HT, rfl⟩ := hrel
    by_cases hlt : k < xs.length
    · have hlt2 : (k : Int) < (xs.length : Int) := by omega
      have k0 : ¬ (k : Int) < 0 := by omega
      obtain ⟨b, off, rfl, q0, q1, q2, q3, q4, q5⟩ := HA.out.el k hlt
      have HY2 := hid (fun h => HY.out k hlt h HT.out)
      have HT3 := hid (fun (hne : ¬ xs[k].1.id = job) => show ∀ j (hj : j < xs.length), j < k + 1 → xs[j].1.id ≠ job from fun j hj hjk => by
        by_cases hjk2 : j < k
        · exact HT.out j hj hjk2
        · obtain rfl : j = k := by omega
          exact hne)
      generalize xs[k].1.id = id at *
      clear q1 q2 q3 q4 q5
      by_cases hxy : id = job
      · have hd : (id == job) = true := by simpa using hxy
        have HE := hid (HY2.out hxy)
        go_wp2
        go_ret
        exact ⟨by obtain rfl := HE.out; rfl, rfl⟩
      · have hd : (id == job) = false := by simpa using hxy
        have HT2 := hid (HT3.out hxy)
        clear HT3 HY2
        go_wp2
        go_roundw
        case rel => exact ⟨k + 1, by omega, by go_num, HT2, by trivial⟩
        case measure => simp [intOf]; omega
    · have hge : ¬ (k : Int) < (xs.length : Int) := by omega
      have HE := hid (HN.out (fun j hj => HT.out j hj (by omega)))
      go_wp2
      go_ret
      exact ⟨by obtain rfl := HE.out; rfl, rfl⟩

set_option maxRecDepth 20000 in
set_option maxHeartbeats 1000000 in
theorem r20tasks_any (e : Ee) (W : World) (h1 : e.1.ns.length ≤ 9223372036854775807) (h2 : e.1.bd.length ≤ 9223372036854775807) (h3 : e.1.dn.length ≤ 9223372036854775807) :
    Calls Tryz.prog 76 #[.agg (ecE e)] W fun x w' => x = .returned (.int .i64 (tkB e.1 : Int)) ∧ RowKit.Below W.heap.size W w' := by
  obtain ⟨⟨id, sc, ee, ms, bd, dn⟩, ⟨A1, ca, P, cb, D, cd⟩⟩ := e
  simp only at h1 h2 h3
  simp only [ecE]
  generalize hv : tkB ⟨id, sc, ee, ms, bd, dn⟩ = v
  have HV : Hid (v = min ms.length (min bd.length dn.length)) := hid (by rw [← hv]; rfl)
  clear hv
  generalize ms.length = n1 at *
  generalize bd.length = n2 at *
  generalize dn.length = n3 at *
  go_enter Tryz.func76, Tryz.ntmps76
  go_upto_region 1 with (fail)
  refine at_world (fun u => u.heap[W.heap.size]? = some (.cells #[.int .i64 id, .int .i64 sc, .int .i64 ee, .slice A1 n1 ca, .slice P n2 cb, .slice D n3 cd] 55 (0, 0)) ∧ RowKit.Below W.heap.size W u) ⟨heap_alloc_new _ _, (RowKit.Below.refl _ _).alloc (Nat.le_refl _) _⟩ ?_
  rintro w1 ⟨hx1, hb1⟩
  obtain ⟨⟨p0, p1, p2, p3, p4, p5⟩, _⟩ := six_cells hx1
  have HB := hid hb1
  clear hx1 hb1
  by_cases a1 : n2 < n1
  · have a2 : (n2 : Int) < (n1 : Int) := by omega
    by_cases c1 : n3 < n2
    · have c2 : (n3 : Int) < (n2 : Int) := by omega
      have hv := HV.out
      obtain rfl : v = n3 := by omega
      clear hv HV
      go_wp2
      go_ret
      exact ⟨rfl, HB.out⟩
    · have c2 : ¬ (n3 : Int) < (n2 : Int) := by omega
      have hv := HV.out
      obtain rfl : v = n2 := by omega
      clear hv HV
      go_wp2
      go_ret
      exact ⟨rfl, HB.out⟩
  · have a2 : ¬ (n2 : Int) < (n1 : Int) := by omega
    by_cases c1 : n3 < n1
    · have c2 : (n3 : Int) < (n1 : Int) := by omega
      have hv := HV.out
      obtain rfl : v = n3 := by omega
      clear hv HV
      go_wp2
      go_ret
      exact ⟨rfl, HB.out⟩
    · have c2 : ¬ (n3 : Int) < (n1 : Int) := by omega
      have hv := HV.out
      obtain rfl : v = n1 := by omega
      clear hv HV
      go_wp2
      go_ret
      exact ⟨rfl, HB.out⟩

theorem wrap_pred {ep : Int} (h : 1 ≤ ep ∧ ep ≤ 9) : IntKind.i64.wrap (ep - 1) = ep - 1 := by
  simp [IntKind.wrap, IntKind.bits, IntKind.signed]
  omega
/-- Why, in the order in which the document asks. -/
theorem whyB_no {b : List En} {x : Rc} (hc : chkR x = false) : whyB b x = 1 := if_pos hc
theorem whyB_none {b : List En} {x : Rc} (hc : chkR x = true) (hp : plB b x.j = none) : whyB b x = if x.k = 1 then (if 40 ≤ b.length then 7 else 0) else 8 := by
  unfold whyB
  rw [if_neg (by rw [hc]; simp), hp]
theorem whyB_some {b : List En} {x : Rc} {i : Nat} (hc : chkR x = true) (hi : i < b.length) (hp : plB b x.j = some i) : whyB b x = if x.k = 1 then 9 else if x.k = 4 then (if x.e - 1 ≠ b[i].ep then 12 else 0) else whyT b[i] x := by
  unfold whyB
  rw [if_neg (by rw [hc]; simp), hp]
  simp only [List.getElem?_eq_getElem hi]

set_option maxRecDepth 20000 in
set_option maxHeartbeats 8000000 in
theorem r20why_any (A : Option Addr) (c : Nat) (xs : List Ee) (x : Rc) (Ax : Option Addr) (cx : Nat) (W : World) (h : InBk W A c xs) (hx : TxAt W Ax cx x.ns) :
    Calls Tryz.prog 57 #[.slice A xs.length c, .agg (rcc x Ax cx)] W fun e w' => e = .returned (.int .i64 (whyB (xs.map (·.1)) x)) ∧ RowKit.Below W.heap.size W w' := by
  have HX := hid h
  have hxl : xs.length ≤ 9223372036854775807 := by have := h.len; unfold maxLen at this; omega
  have HCK := hid (fun w (hw : RowKit.Below W.heap.size W w) => r17check_any x Ax cx w (hx.below hw))
  have HPL := hid (fun w (hw : RowKit.Below W.heap.size W w) => r20place_any A c xs x.j w (h.below hw))
  have HW0 := hid (fun (hc : chkR x = false) => whyB_no (b := xs.map (·.1)) hc)
  have HW1 := hid (fun (hc : chkR x = true) (hp : plB (xs.map (·.1)) x.j = none) => whyB_none hc hp)
  have HW2 := hid (fun (hc : chkR x = true) (i : Nat) (hi : i < xs.length) (hp : plB (xs.map (·.1)) x.j = some i) => whyB_some hc (by simpa using hi) hp)
  have HP2 := hid (fun (hc : chkR x = true) => chk_parts2 hc)
  have HPS := hid (fun i (hp : plB (xs.map (·.1)) x.j = some i) => plB_some hp)
  clear h hx
  unfold plI at HPL
  generalize whyB (xs.map (·.1)) x = R at *
  generalize plB (xs.map (·.1)) x.j = pl at *
  generalize chkR x = ck at *
  simp only [List.length_map, List.getElem_map] at HW1 HW2 HPS
  obtain ⟨k, j, t, wk, sd, ep, ns⟩ := x
  simp only [rcc] at *
  go_enter Tryz.func57, Tryz.ntmps57
  go_upto_region 1 with (fail)
  refine at_world (fun u => u.heap[W.heap.size]? = some (.cells #[.int .i64 k, .int .i64 j, .int .i64 t, .int .i64 wk, .int .i64 sd, .int .i64 ep, .slice Ax ns.length cx] 46 (0, 0)) ∧ RowKit.Below W.heap.size W u) ⟨heap_alloc_new _ _, (RowKit.Below.refl _ _).alloc (Nat.le_refl _) _⟩ ?_
  rintro w1 ⟨hx1, hb1⟩
  have HX1 := hid hx1
  have HB1 := hid hb1
  obtain ⟨p0, p1, p2, p3, p4, p5, p6⟩ := seven_cells hx1
  clear hx1 hb1
  go_wp2_with fail
  refine (HCK.out w1 HB1.out).mono ?_
  rintro e w2 ⟨rfl, hb2⟩
  have HB2 := hid (HB1.out.trans (hb2.mono HB1.out.size))
  have HX2 := hid (keep0 HX1.out hb2)
  clear hb2 HB1 HX1 HCK p0 p1 p2 p3 p4 p5 p6
  obtain ⟨p0, p1, p2, p3, p4, p5, p6⟩ := seven_cells HX2.out
  cases ck
  case false =>
    have HE := hid (HW0.out rfl)
    clear HW0 HW1 HW2 HP2
    go_wp2
    go_ret
    exact ⟨by obtain rfl := HE.out; rfl, HB2.out⟩
  obtain ⟨hk4, ht0, hw0, he9', _, htt⟩ := HP2.out rfl
  have HE9 := hid (fun (h9 : (k == 4) = true) => he9' (by simpa using h9))
  clear he9'
  have HW1' := hid (HW1.out rfl)
  have HW2' := hid (HW2.out rfl)
  clear HW0 HW1 HW2 HP2
  go_wp2_with fail
  refine (HPL.out w2 HB2.out).mono ?_
  rintro e w3 ⟨rfl, rfl⟩
  clear HPL
  cases pl
  case none =>
    have hR := HW1'.out rfl
    clear HW1' HW2' HPS
    by_cases hk : k = 1
    · subst hk
      rw [if_pos rfl] at hR
      by_cases h40 : 40 ≤ xs.length
      · rw [if_pos h40] at hR
        have HR := hid hR
        have i40 : (40 : Int) ≤ (xs.length : Int) := by omega
        clear hR
        go_wp2
        go_ret
        exact ⟨by obtain rfl := HR.out; rfl, HB2.out⟩
      · rw [if_neg h40] at hR
        have HR := hid hR
        have i40 : ¬ (40 : Int) ≤ (xs.length : Int) := by omega
        clear hR
        go_wp2
        go_ret
        exact ⟨by obtain rfl := HR.out; rfl, HB2.out⟩
    · rw [if_neg hk] at hR
      have HR := hid hR
      have hk1 : (k == 1) = false := by simpa using hk
      clear hR
      go_upto_region 10 with (fail)
      have d1 : decide ((-1 : Int) < 0) = true := by decide
      replace p0 := cell_regrown p0
      replace p1 := cell_regrown p1
      replace p2 := cell_regrown p2
      replace p3 := cell_regrown p3
      replace p4 := cell_regrown p4
      replace p5 := cell_regrown p5
      replace p6 := cell_regrown p6
      refine wp_region_quiet_below (by kernel_rfl) (by kernel_rfl) ?_
      repeat (go_big_quiet_step (fail))
      refine wpQuiet_nil ?_
      intro _ hw'
      obtain ⟨⟨dq, osq⟩, hw''⟩ := hw'
      subst hw''
      have HB3 := hid (HB2.out.trans ((below_regrown w2 dq osq).mono HB2.out.size))
      go_wp2
      go_ret
      exact ⟨by obtain rfl := HR.out; rfl, HB3.out⟩
  case some i =>
    obtain ⟨hi, hid9, _⟩ := HPS.out i rfl
    have HR2 := hid (HW2'.out i hi rfl)
    clear HW1' HW2' HPS hid9
    have i0 : ¬ (i : Int) < 0 := by omega
    have i1 : (0 : Int) ≤ (i : Int) := by omega
    have ilt : (i : Int) < (xs.length : Int) := by omega
    by_cases hk : k = 1
    · subst hk
      have hR := HR2.out
      rw [if_pos rfl] at hR
      have HR := hid hR
      clear hR HR2
      go_wp2
      go_ret
      exact ⟨by obtain rfl := HR.out; rfl, HB2.out⟩
    have hk1 : (k == 1) = false := by simpa using hk
    rw [if_neg hk] at HR2
    obtain ⟨b4, o4, hA4, y0, y1, y2, y3, y4, y5⟩ := (HX.out.below HB2.out).el i hi
    have HIN := hid (HX.out.2 _ (List.getElem_mem hi))
    subst hA4
    generalize xs[i]'hi = ya at *
    obtain ⟨⟨id, sc, ee, ms, bd, dn⟩, ⟨A1, ca, P, cb, D, cd⟩⟩ := ya
    simp only at y0 y1 y2 y3 y4 y5 HR2
    have l1 := sl_len64 HIN.out.1.1
    have l3 := sl_len64 HIN.out.2.1
    have l5 := sl_len64 HIN.out.2.2
    simp only at l1 l3 l5
    have HTA := hid (fun w (hw : RowKit.Below w2.heap.size w2 w) => r20tasks_any (⟨id, sc, ee, ms, bd, dn⟩, ⟨A1, ca, P, cb, D, cd⟩) w l1 l3 l5)
    simp only [ecE] at HTA
    have HTK : Hid (tkB ⟨id, sc, ee, ms, bd, dn⟩ ≤ bd.length ∧ tkB ⟨id, sc, ee, ms, bd, dn⟩ ≤ dn.length) := hid (by unfold tkB; simp only; omega)
    have HSB := hid HIN.out.2.1
    have HSD := hid HIN.out.2.2
    simp only at HSB HSD
    by_cases hk44 : k = 4
    · subst hk44
      rw [if_pos rfl] at HR2
      clear HTA HTK
      have d1 : decide ((i : Int) < 0) = false := decide_eq_false (by omega)
      go_upto_region 10 with (fail)
      have z0 := hid y0
      have z1 := hid y1
      have z2 := hid y2
      have z3 := hid y3
      have z4 := hid y4
      have z5 := hid y5
      replace p0 := cell_regrown p0
      replace p1 := cell_regrown p1
      replace p2 := cell_regrown p2
      replace p3 := cell_regrown p3
      replace p4 := cell_regrown p4
      replace p5 := cell_regrown p5
      replace p6 := cell_regrown p6
      replace y0 := cell_regrown y0
      replace y1 := cell_regrown y1
      replace y2 := cell_regrown y2
      replace y3 := cell_regrown y3
      replace y4 := cell_regrown y4
      replace y5 := cell_regrown y5
      refine wp_region_quiet_below (by kernel_rfl) (by kernel_rfl) ?_
      repeat (go_big_quiet_step (fail))
      refine wpQuiet_nil ?_
      intro _ hw'
      obtain ⟨⟨dq, osq⟩, hw''⟩ := hw'
      subst hw''
      have HB3 := hid (HB2.out.trans ((below_regrown w2 dq osq).mono HB2.out.size))
      go_upto_region 12 with (fail)
      have hbq := below_regrown w2 dq osq
      have HX5 := hid (keep0 HX2.out hbq)
      clear p0 p1 p2 p3 p4 p5 p6 y0 y1 y2 y3 y4 y5
      have y0 := cellb hbq z0.out
      have y1 := cellb hbq z1.out
      have y2 := cellb hbq z2.out
      have y3 := cellb hbq z3.out
      have y4 := cellb hbq z4.out
      have y5 := cellb hbq z5.out
      clear hbq z0 z1 z2 z3 z4 z5
      refine at_world (fun u => u = grow (redrawn w2 dq) osq) rfl ?_
      generalize grow (redrawn w2 dq) osq = w5 at *
      rintro w6 rfl
      go_upto_region 13 with (fail)
      refine at_world (fun u => u.heap[W.heap.size]? = some (.cells #[.int .i64 4, .int .i64 j, .int .i64 t, .int .i64 wk, .int .i64 sd, .int .i64 ep, .slice Ax ns.length cx] 46 (0, 0)) ∧ u.heap[w6.heap.size]? = some (.cells #[.int .i64 id, .int .i64 sc, .int .i64 ee, .slice A1 ms.length ca, .slice P bd.length cb, .slice D dn.length cd] 55 (0, 0)) ∧ RowKit.Below W.heap.size W u) ⟨keep0 HX5.out ((RowKit.Below.refl _ _).alloc (Nat.le_refl _) _), heap_alloc_new _ _, HB3.out.trans (((RowKit.Below.refl _ _).alloc (Nat.le_refl _) _).mono HB3.out.size)⟩ ?_
      clear y0 y1 y2 y3 y4 y5 HX5
      rintro w7 ⟨hx7, hy7, hb7⟩
      have HB4 := hid hb7
      obtain ⟨p0, p1, p2, p3, p4, p5, p6⟩ := seven_cells hx7
      obtain ⟨⟨y0, y1, y2, y3, y4, y5⟩, _⟩ := six_cells hy7
      clear hx7 hy7 hb7
      have hepw : IntKind.i64.wrap (ep - 1) = ep - 1 := wrap_pred (HE9.out (by simp))
      by_cases hz : ep - 1 = ee
      · subst hz
        have hR := HR2.out
        rw [if_neg (fun h9 => h9 rfl)] at hR
        have HR := hid hR
        have b1 : (ep - 1 != ep - 1) = false := by simp
        clear hR HR2
        go_wp2
        go_ret
        exact ⟨by obtain rfl := HR.out; rfl, HB4.out⟩
      · have hR := HR2.out
        rw [if_pos hz] at hR
        have HR := hid hR
        have b1 : (ep - 1 != ee) = true := by simpa using hz
        clear hR HR2
        go_wp2
        go_ret
        exact ⟨by obtain rfl := HR.out; rfl, HB4.out⟩
    have hk42 : (k == 4) = false := by simpa using hk44
    have hk43 : (k != 4) = true := by simpa using hk44
    rw [if_neg hk44] at HR2
    unfold whyT at HR2
    simp only at HR2
    generalize tkB ⟨id, sc, ee, ms, bd, dn⟩ = tk at *
    by_cases htk : (tk : Int) ≤ t
    · have hR := HR2.out
      rw [if_pos htk] at hR
      have HR := hid hR
      clear hR HR2
      have d2 : decide ((tk : Int) ≤ t) = true := decide_eq_true htk
      have d1 : decide ((i : Int) < 0) = false := decide_eq_false (by omega)
      go_upto_region 10 with (fail)
      have cG := reg (w := w2) (fun W' hW => HTA.out W' hW)
      have z0 := hid y0
      have z1 := hid y1
      have z2 := hid y2
      have z3 := hid y3
      have z4 := hid y4
      have z5 := hid y5
      replace p0 := cell_regrown p0
      replace p1 := cell_regrown p1
      replace p2 := cell_regrown p2
      replace p3 := cell_regrown p3
      replace p4 := cell_regrown p4
      replace p5 := cell_regrown p5
      replace p6 := cell_regrown p6
      replace y0 := cell_regrown y0
      replace y1 := cell_regrown y1
      replace y2 := cell_regrown y2
      replace y3 := cell_regrown y3
      replace y4 := cell_regrown y4
      replace y5 := cell_regrown y5
      refine wp_region_quiet_below (by kernel_rfl) (by kernel_rfl) ?_
      repeat (go_big_quiet_step ((go_at_call 76; with_reducible exact cG _ _)))
      refine wpQuiet_nil ?_
      intro _ hw'
      obtain ⟨⟨dq, osq⟩, hw''⟩ := hw'
      subst hw''
      have HB3 := hid (HB2.out.trans ((below_regrown w2 dq osq).mono HB2.out.size))
      go_wp2
      go_ret
      exact ⟨by obtain rfl := HR.out; rfl, HB3.out⟩
    rw [if_neg htk] at HR2
    have d2 : decide ((tk : Int) ≤ t) = false := decide_eq_false htk
    have ht9 : t < (bd.length : Int) ∧ t < (dn.length : Int) := by have := HTK.out; omega
    obtain ⟨ht91, ht92⟩ := ht9
    have t0 : ¬ t < 0 := by omega
    obtain ⟨tn, htn⟩ : ∃ tn : Nat, t = (tn : Int) := ⟨t.toNat, by omega⟩
    subst htn
    simp only [Int.toNat_natCast] at HR2
    have htb : tn < bd.length := by omega
    have htd : tn < dn.length := by omega
    clear ht0 htt
    have d1 : decide ((i : Int) < 0) = false := decide_eq_false (by omega)
    go_upto_region 10 with (fail)
    have cG := reg (w := w2) (fun W' hW => HTA.out W' hW)
    have z0 := hid y0
    have z1 := hid y1
    have z2 := hid y2
    have z3 := hid y3
    have z4 := hid y4
    have z5 := hid y5
    replace p0 := cell_regrown p0
    replace p1 := cell_regrown p1
    replace p2 := cell_regrown p2
    replace p3 := cell_regrown p3
    replace p4 := cell_regrown p4
    replace p5 := cell_regrown p5
    replace p6 := cell_regrown p6
    replace y0 := cell_regrown y0
    replace y1 := cell_regrown y1
    replace y2 := cell_regrown y2
    replace y3 := cell_regrown y3
    replace y4 := cell_regrown y4
    replace y5 := cell_regrown y5
    refine wp_region_quiet_below (by kernel_rfl) (by kernel_rfl) ?_
    repeat (go_big_quiet_step ((go_at_call 76; with_reducible exact cG _ _)))
    refine wpQuiet_nil ?_
    intro _ hw'
    obtain ⟨⟨dq, osq⟩, hw''⟩ := hw'
    subst hw''
    have HB3 := hid (HB2.out.trans ((below_regrown w2 dq osq).mono HB2.out.size))
    go_upto_region 12 with (fail)
    have hbq := below_regrown w2 dq osq
    have HX5 := hid (keep0 HX2.out hbq)
    clear p0 p1 p2 p3 p4 p5 p6 y0 y1 y2 y3 y4 y5
    have y0 := cellb hbq z0.out
    have y1 := cellb hbq z1.out
    have y2 := cellb hbq z2.out
    have y3 := cellb hbq z3.out
    have y4 := cellb hbq z4.out
    have y5 := cellb hbq z5.out
    clear hbq z0 z1 z2 z3 z4 z5
    refine at_world (fun u => u = grow (redrawn w2 dq) osq) rfl ?_
    generalize grow (redrawn w2 dq) osq = w5 at *
    rintro w6 rfl
    go_upto_region 13 with (fail)
    refine at_world (fun u => u.heap[W.heap.size]? = some (.cells #[.int .i64 k, .int .i64 j, .int .i64 (tn : Int), .int .i64 wk, .int .i64 sd, .int .i64 ep, .slice Ax ns.length cx] 46 (0, 0)) ∧ u.heap[w6.heap.size]? = some (.cells #[.int .i64 id, .int .i64 sc, .int .i64 ee, .slice A1 ms.length ca, .slice P bd.length cb, .slice D dn.length cd] 55 (0, 0)) ∧ RowKit.Below W.heap.size W u) ⟨keep0 HX5.out ((RowKit.Below.refl _ _).alloc (Nat.le_refl _) _), heap_alloc_new _ _, HB3.out.trans (((RowKit.Below.refl _ _).alloc (Nat.le_refl _) _).mono HB3.out.size)⟩ ?_
    clear y0 y1 y2 y3 y4 y5 HX5
    rintro w7 ⟨hx7, hy7, hb7⟩
    have HB4 := hid hb7
    obtain ⟨p0, p1, p2, p3, p4, p5, p6⟩ := seven_cells hx7
    obtain ⟨⟨y0, y1, y2, y3, y4, y5⟩, _⟩ := six_cells hy7
    clear hx7 hy7 hb7
    have sB := HSB.out.below HB4.out
    have sD := HSD.out.below HB4.out
    obtain ⟨bB, oB, hB9, _⟩ := sB.2.2.2 (by rw [icells_length]; omega)
    obtain ⟨bD, oD, hD9, _⟩ := sD.2.2.2 (by rw [blcells_length]; omega)
    rw [hB9] at sB y4
    rw [hD9] at sD y5
    have cB := Sl.cell sB tn htb
    have cD := Sl.blcell sD tn htd
    clear sB sD hB9 hD9
    obtain ⟨z1, hz1⟩ : ∃ z, bd.getD tn 0 = z := ⟨_, rfl⟩
    obtain ⟨z2, hz2⟩ : ∃ z, dn.getD tn false = z := ⟨_, rfl⟩
    simp only [hz1] at cB HR2
    simp only [hz2] at cD HR2
    clear hz1 hz2
    by_cases hk2 : k = 2
    · subst hk2
      by_cases hz : ep = ee
      · subst hz
        rw [if_neg (fun h9 => h9.2 rfl)] at HR2
        have b1 : (ep != ep) = false := by simp
        by_cases hzz : z1 = 0
        · subst hzz
          have hR := HR2.out
          rw [if_neg (fun h9 => h9.2 rfl), if_neg (fun h9 => absurd h9.1 (by decide)), if_neg (fun h9 => absurd h9.1 (by decide))] at hR
          have HR := hid hR
          clear hR HR2
          go_wp2
          go_ret
          exact ⟨by obtain rfl := HR.out; rfl, HB4.out⟩
        · have hR := HR2.out
          rw [if_pos ⟨rfl, hzz⟩] at hR
          have HR := hid hR
          have b2 : (z1 != 0) = true := by simpa using hzz
          clear hR HR2
          go_wp2
          go_ret
          exact ⟨by obtain rfl := HR.out; rfl, HB4.out⟩
      · have hR := HR2.out
        rw [if_pos ⟨rfl, hz⟩] at hR
        have HR := hid hR
        have b1 : (ep != ee) = true := by simpa using hz
        clear hR HR2
        go_wp2
        go_ret
        exact ⟨by obtain rfl := HR.out; rfl, HB4.out⟩
    · obtain rfl : k = 3 := by omega
      rw [if_neg (fun h9 => absurd h9.1 (by decide)), if_neg (fun h9 => absurd h9.1 (by decide))] at HR2
      by_cases hzz : z1 = 0
      · subst hzz
        have hR := HR2.out
        rw [if_pos ⟨rfl, rfl⟩] at hR
        have HR := hid hR
        clear hR HR2
        go_wp2
        go_ret
        exact ⟨by obtain rfl := HR.out; rfl, HB4.out⟩
      · have b2 : (z1 == 0) = false := by simpa using hzz
        rw [if_neg (fun h9 => hzz h9.2)] at HR2
        cases z2
        case true =>
          have hR := HR2.out
          rw [if_pos ⟨rfl, rfl⟩] at hR
          have HR := hid hR
          clear hR HR2
          go_wp2
          go_ret
          exact ⟨by obtain rfl := HR.out; rfl, HB4.out⟩
        case false =>
          have hR := HR2.out
          rw [if_neg (fun h9 => absurd h9.2 (by decide))] at hR
          have HR := hid hR
          clear hR HR2
          go_wp2
          go_ret
          exact ⟨by obtain rfl := HR.out; rfl, HB4.out⟩
end Go.Proofs.YtkepfkfoblocgaaGreat
