/- Find of both: contracts. -/
import Derived.Test.YtkepfkfoblocgaaQBtB
namespace Go.Proofs.Ytkepfkfoblocgaa
open Go.RowKit Go.Sort
set_option linter.unusedVariables false
set_option linter.unusedSimpArgs false

/-- What Find answers. -/
def findB (b : List En) (job : Int) : En := match plB b job with | some k => b.getD k ⟨0, 0, 0, [], [], []⟩ | none => ⟨0, 0, 0, [], [], []⟩
def FindR (W : World) (f : En) (ok : Bool) (e : Ending) (w' : World) : Prop :=
  ∃ y : Ee, e = .returned (.tuple #[.agg (ecE y), .bool ok]) ∧ y.1 = f ∧ InE w' y ∧ RowKit.Below W.heap.size W w'
theorem FindR.mk {W : World} {f : En} {ok : Bool} {e : Ending} {w' : World} (y : Ee) (h1 : e = .returned (.tuple #[.agg (ecE y), .bool ok])) (h2 : y.1 = f) (h3 : InE w' y) (h4 : RowKit.Below W.heap.size W w') : FindR W f ok e w' := ⟨y, h1, h2, h3, h4⟩
theorem zeroE (w : World) : InE w (⟨0, 0, 0, [], [], []⟩, ⟨none, 0, none, 0, none, 0⟩) := ⟨⟨Sl.nil _ _ _ _ (Nat.zero_le _), fun s hs => by cases hs⟩, Sl.nil _ _ _ _ (Nat.zero_le _), Sl.nil _ _ _ _ (Nat.zero_le _)⟩
def putZ6 (w : World) (g : Nat) (v0 v1 v2 v3 v4 v5 : Value) : World := (((((w.setCell ⟨g, 0, none⟩ v0).setCell ⟨g, 1, none⟩ v1).setCell ⟨g, 2, none⟩ v2).setCell ⟨g, 3, none⟩ v3).setCell ⟨g, 4, none⟩ v4).setCell ⟨g, 5, none⟩ v5
theorem putZ6_heap {w : World} {g t : Nat} {x0 x1 x2 x3 x4 x5 : Value} (h : w.heap[g]? = some (.cells #[x0, x1, x2, x3, x4, x5] t (0, 0))) (v0 v1 v2 v3 v4 v5 : Value) : (putZ6 w g v0 v1 v2 v3 v4 v5).heap[g]? = some (.cells #[v0, v1, v2, v3, v4, v5] t (0, 0)) := by
  have e0 := heap_setCell_same w g 0 _ _ v0 h
  have e1 := heap_setCell_same _ g 1 _ _ v1 e0
  have e2 := heap_setCell_same _ g 2 _ _ v2 e1
  have e3 := heap_setCell_same _ g 3 _ _ v3 e2
  have e4 := heap_setCell_same _ g 4 _ _ v4 e3
  have e5 := heap_setCell_same _ g 5 _ _ v5 e4
  exact e5
theorem putZ6_below {n : Nat} {W w : World} {g : Nat} (h : RowKit.Below n W w) (hg : n ≤ g) (v0 v1 v2 v3 v4 v5 : Value) : RowKit.Below n W (putZ6 w g v0 v1 v2 v3 v4 v5) :=
  (((((h.setCell (p := ⟨g, 0, none⟩) hg v0).setCell (p := ⟨g, 1, none⟩) hg v1).setCell (p := ⟨g, 2, none⟩) hg v2).setCell (p := ⟨g, 3, none⟩) hg v3).setCell (p := ⟨g, 4, none⟩) hg v4).setCell (p := ⟨g, 5, none⟩) hg v5

set_option maxRecDepth 20000 in
set_option maxHeartbeats 4000000 in
theorem r20find_any (A : Option Addr) (c : Nat) (xs : List Ee) (job : Int) (W : World) (h : InBk W A c xs) :
    Calls Try.prog 66 #[.slice A xs.length c, .int .i64 job] W (FindR W (findB (xs.map (·.1)) job) (plB (xs.map (·.1)) job).isSome) := by
  have HX := hid h
  have hxl : xs.length ≤ 9223372036854775807 := by have := h.len; unfold maxLen at this; omega
  have HPL := hid (fun w (hw : RowKit.Below W.heap.size W w) => r20place_any A c xs job w (h.below hw))
  unfold plI at HPL
  have HF0 := hid (fun (hp : plB (xs.map (·.1)) job = none) => show (⟨0, 0, 0, [], [], []⟩ : En) = findB (xs.map (·.1)) job ∧ false = (plB (xs.map (·.1)) job).isSome from by unfold findB; rw [hp]; exact ⟨rfl, rfl⟩)
  have HF1 := hid (fun i (hi : i < xs.length) (hp : plB (xs.map (·.1)) job = some i) => show xs[i].1 = findB (xs.map (·.1)) job ∧ true = (plB (xs.map (·.1)) job).isSome from by unfold findB; rw [hp]; exact ⟨by show xs[i].1 = (xs.map (·.1)).getD i _; rw [List.getD_eq_getElem?_getD, List.getElem?_map, List.getElem?_eq_getElem hi]; rfl, rfl⟩)
  have HPS := hid (fun i (hp : plB (xs.map (·.1)) job = some i) => plB_some hp)
  simp only [List.length_map] at HPS
  generalize findB (xs.map (·.1)) job = F at *
  generalize (plB (xs.map (·.1)) job).isSome = ok at *
  generalize plB (xs.map (·.1)) job = pl at *
  clear h
  go_enter Try.func66, Try.ntmps66
  go_upto_region 1 with (fail)
  refine at_world (fun u => u.heap[W.heap.size]? = some (.cells #[.int .i64 0, .int .i64 0, .int .i64 0, .slice none 0 0, .slice none 0 0, .slice none 0 0] 93 (0, 0)) ∧ RowKit.Below W.heap.size W u) ⟨heap_alloc_new _ _, (RowKit.Below.refl _ _).alloc (Nat.le_refl _) _⟩ ?_
  rintro w1 ⟨hx1, hb1⟩
  have HX1 := hid hx1
  have HB1 := hid hb1
  clear hx1 hb1
  go_wp2_with fail
  refine (HPL.out w1 HB1.out).mono ?_
  rintro e w2 ⟨rfl, rfl⟩
  have HB2 := HB1
  have HX2 := HX1
  clear HB1 HX1
  generalize w1 = w2 at *
  clear HPL
  rcases pl with _ | i
  · obtain ⟨rfl, rfl⟩ := HF0.out rfl
    clear HF0 HF1 HPS
    obtain ⟨⟨p0, p1, p2, p3, p4, p5⟩, f0, f1, f2, f3, f4, f5⟩ := six_cells HX2.out
    clear HX
    go_wp2
    clear p0 p1 p2 p3 p4 p5 f0 f1 f2 f3 f4 f5
    show bodyPost _ _ _ _ _ (putZ6 w2 W.heap.size (.int .i64 0) (.int .i64 0) (.int .i64 0) (.slice none 0 0) (.slice none 0 0) (.slice none 0 0))
    have hz := putZ6_heap HX2.out (.int .i64 0) (.int .i64 0) (.int .i64 0) (.slice none 0 0) (.slice none 0 0) (.slice none 0 0)
    have hbz := putZ6_below HB2.out (Nat.le_refl _) (.int .i64 0) (.int .i64 0) (.int .i64 0) (.slice none 0 0) (.slice none 0 0) (.slice none 0 0)
    generalize putZ6 w2 W.heap.size (.int .i64 0) (.int .i64 0) (.int .i64 0) (.slice none 0 0) (.slice none 0 0) (.slice none 0 0) = wf at *
    obtain ⟨⟨z0, z1, z2, z3, z4, z5⟩, _⟩ := six_cells hz
    have HFIN := FindR.mk (e := .returned (.tuple #[.agg #[.int .i64 0, .int .i64 0, .int .i64 0, .slice none 0 0, .slice none 0 0, .slice none 0 0], .bool false])) (⟨0, 0, 0, [], [], []⟩, ⟨none, 0, none, 0, none, 0⟩) rfl rfl (zeroE wf) hbz
    clear hz hbz HX2 HB2
    exact bodyPost_ret (v := .tuple #[.agg #[.int .i64 0, .int .i64 0, .int .i64 0, .slice none 0 0, .slice none 0 0, .slice none 0 0], .bool false]) (by simp [results, Try.results66, go_sem, z0, z1, z2, z3, z4, z5]) rfl HFIN
  · obtain ⟨hi, hq1, hq2⟩ := HPS.out i rfl
    clear hq1 hq2
    obtain ⟨hF, rfl⟩ := HF1.out i hi rfl
    have HFF := hid hF
    clear HPS HF0 HF1 hF
    have hi2 : (i : Int) < (xs.length : Int) := by omega
    have i0 : ¬ (i : Int) < 0 := by omega
    obtain ⟨b4, o4, hA4, y0, y1, y2, y3, y4, y5⟩ := (HX.out.below HB2.out).el i hi
    have HIN := hid (HX.out.2 _ (List.getElem_mem hi))
    skip
    subst hA4
    generalize xs[i]'hi = ya at *
    obtain ⟨⟨id, sc, ee, ms, bd, dn⟩, ⟨A1, ca, P, cb, D, cd⟩⟩ := ya
    simp only at y0 y1 y2 y3 y4 y5
    have HX3 := HX2
    have HB3 := HB2
    clear HX2 HB2
    have e23 : ∃ w3, w3 = w2 := ⟨_, rfl⟩
    obtain ⟨w3, e23⟩ := e23
    subst e23
    obtain ⟨⟨p0, p1, p2, p3, p4, p5⟩, f0, f1, f2, f3, f4, f5⟩ := six_cells HX3.out
    go_wp2
    try clear y0 y1 y2 y3 y4 y5
    clear p0 p1 p2 p3 p4 p5 f0 f1 f2 f3 f4 f5
    show bodyPost _ _ _ _ _ (putZ6 w3 W.heap.size (.int .i64 id) (.int .i64 sc) (.int .i64 ee) (.slice A1 ms.length ca) (.slice P bd.length cb) (.slice D dn.length cd))
    have hz := putZ6_heap HX3.out (.int .i64 id) (.int .i64 sc) (.int .i64 ee) (.slice A1 ms.length ca) (.slice P bd.length cb) (.slice D dn.length cd)
    have hbz := putZ6_below HB3.out (Nat.le_refl _) (.int .i64 id) (.int .i64 sc) (.int .i64 ee) (.slice A1 ms.length ca) (.slice P bd.length cb) (.slice D dn.length cd)
    have hiz : InE (putZ6 w3 W.heap.size (.int .i64 id) (.int .i64 sc) (.int .i64 ee) (.slice A1 ms.length ca) (.slice P bd.length cb) (.slice D dn.length cd)) (⟨id, sc, ee, ms, bd, dn⟩, ⟨A1, ca, P, cb, D, cd⟩) := HIN.out.below (putZ6_below HB3.out (Nat.le_refl _) (.int .i64 id) (.int .i64 sc) (.int .i64 ee) (.slice A1 ms.length ca) (.slice P bd.length cb) (.slice D dn.length cd))
    generalize putZ6 w3 W.heap.size (.int .i64 id) (.int .i64 sc) (.int .i64 ee) (.slice A1 ms.length ca) (.slice P bd.length cb) (.slice D dn.length cd) = wf at *
    obtain ⟨⟨z0, z1, z2, z3, z4, z5⟩, _⟩ := six_cells hz
    have HFIN := FindR.mk (e := .returned (.tuple #[.agg #[.int .i64 id, .int .i64 sc, .int .i64 ee, .slice A1 ms.length ca, .slice P bd.length cb, .slice D dn.length cd], .bool true])) (⟨id, sc, ee, ms, bd, dn⟩, ⟨A1, ca, P, cb, D, cd⟩) rfl HFF.out hiz hbz
    clear hz hbz hiz HX3 HB3 HIN HFF HX
    exact bodyPost_ret (v := .tuple #[.agg #[.int .i64 id, .int .i64 sc, .int .i64 ee, .slice A1 ms.length ca, .slice P bd.length cb, .slice D dn.length cd], .bool true]) (by simp [results, Try.results66, go_sem, z0, z1, z2, z3, z4, z5]) rfl HFIN

set_option maxRecDepth 20000 in
set_option maxHeartbeats 4000000 in
theorem bfind_any (A : Option Addr) (c : Nat) (xs : List Ee) (job : Int) (W : World) (h : InBk W A c xs) (hsm : ∀ y ∈ xs, SmE y) :
    Calls Try.prog 65 #[.slice A xs.length c, .int .i64 job] W (FindR W (findB (xs.map (·.1)) job) (plB (xs.map (·.1)) job).isSome) := by
  have HX := hid h
  have hxl : xs.length ≤ 9223372036854775807 := by have := h.len; unfold maxLen at this; omega
  have HPL := hid (fun w (hw : RowKit.Below W.heap.size W w) => bplace_any A c xs job w (h.below hw))
  unfold plI at HPL
  have HF0 := hid (fun (hp : plB (xs.map (·.1)) job = none) => show (⟨0, 0, 0, [], [], []⟩ : En) = findB (xs.map (·.1)) job ∧ false = (plB (xs.map (·.1)) job).isSome from by unfold findB; rw [hp]; exact ⟨rfl, rfl⟩)
  have HF1 := hid (fun i (hi : i < xs.length) (hp : plB (xs.map (·.1)) job = some i) => show xs[i].1 = findB (xs.map (·.1)) job ∧ true = (plB (xs.map (·.1)) job).isSome from by unfold findB; rw [hp]; exact ⟨by show xs[i].1 = (xs.map (·.1)).getD i _; rw [List.getD_eq_getElem?_getD, List.getElem?_map, List.getElem?_eq_getElem hi]; rfl, rfl⟩)
  have HPS := hid (fun i (hp : plB (xs.map (·.1)) job = some i) => plB_some hp)
  simp only [List.length_map] at HPS
  generalize findB (xs.map (·.1)) job = F at *
  generalize (plB (xs.map (·.1)) job).isSome = ok at *
  generalize plB (xs.map (·.1)) job = pl at *
  clear h
  go_enter Try.func65, Try.ntmps65
  go_upto_region 1 with (fail)
  refine at_world (fun u => u.heap[W.heap.size]? = some (.cells #[.int .i64 0, .int .i64 0, .int .i64 0, .slice none 0 0, .slice none 0 0, .slice none 0 0] 93 (0, 0)) ∧ RowKit.Below W.heap.size W u) ⟨heap_alloc_new _ _, (RowKit.Below.refl _ _).alloc (Nat.le_refl _) _⟩ ?_
  rintro w1 ⟨hx1, hb1⟩
  have HX1 := hid hx1
  have HB1 := hid hb1
  clear hx1 hb1
  go_wp2_with fail
  refine (HPL.out w1 HB1.out).mono ?_
  rintro e w2 ⟨rfl, hb2⟩
  have HB2 := hid (HB1.out.trans (hb2.mono HB1.out.size))
  have HX2 := hid (keep0 HX1.out hb2)
  clear hb2 HB1 HX1
  clear HPL
  rcases pl with _ | i
  · obtain ⟨rfl, rfl⟩ := HF0.out rfl
    clear HF0 HF1 HPS
    obtain ⟨⟨p0, p1, p2, p3, p4, p5⟩, f0, f1, f2, f3, f4, f5⟩ := six_cells HX2.out
    clear HX
    go_wp2
    clear p0 p1 p2 p3 p4 p5 f0 f1 f2 f3 f4 f5
    show bodyPost _ _ _ _ _ (putZ6 w2 W.heap.size (.int .i64 0) (.int .i64 0) (.int .i64 0) (.slice none 0 0) (.slice none 0 0) (.slice none 0 0))
    have hz := putZ6_heap HX2.out (.int .i64 0) (.int .i64 0) (.int .i64 0) (.slice none 0 0) (.slice none 0 0) (.slice none 0 0)
    have hbz := putZ6_below HB2.out (Nat.le_refl _) (.int .i64 0) (.int .i64 0) (.int .i64 0) (.slice none 0 0) (.slice none 0 0) (.slice none 0 0)
    generalize putZ6 w2 W.heap.size (.int .i64 0) (.int .i64 0) (.int .i64 0) (.slice none 0 0) (.slice none 0 0) (.slice none 0 0) = wf at *
    obtain ⟨⟨z0, z1, z2, z3, z4, z5⟩, _⟩ := six_cells hz
    have HFIN := FindR.mk (e := .returned (.tuple #[.agg #[.int .i64 0, .int .i64 0, .int .i64 0, .slice none 0 0, .slice none 0 0, .slice none 0 0], .bool false])) (⟨0, 0, 0, [], [], []⟩, ⟨none, 0, none, 0, none, 0⟩) rfl rfl (zeroE wf) hbz
    clear hz hbz HX2 HB2
    exact bodyPost_ret (v := .tuple #[.agg #[.int .i64 0, .int .i64 0, .int .i64 0, .slice none 0 0, .slice none 0 0, .slice none 0 0], .bool false]) (by simp [results, Try.results65, go_sem, z0, z1, z2, z3, z4, z5]) rfl HFIN
  · obtain ⟨hi, hq1, hq2⟩ := HPS.out i rfl
    clear hq1 hq2
    obtain ⟨hF, rfl⟩ := HF1.out i hi rfl
    have HFF := hid hF
    clear HPS HF0 HF1 hF
    have hi2 : (i : Int) < (xs.length : Int) := by omega
    have i0 : ¬ (i : Int) < 0 := by omega
    obtain ⟨b4, o4, hA4, y0, y1, y2, y3, y4, y5⟩ := (HX.out.below HB2.out).el i hi
    have HIN := hid (HX.out.2 _ (List.getElem_mem hi))
    have HSM := hid (hsm _ (List.getElem_mem hi))
    clear hsm
    subst hA4
    generalize xs[i]'hi = ya at *
    obtain ⟨⟨id, sc, ee, ms, bd, dn⟩, ⟨A1, ca, P, cb, D, cd⟩⟩ := ya
    simp only at y0 y1 y2 y3 y4 y5
    have HCL := hid (bcloned_any (⟨id, sc, ee, ms, bd, dn⟩, ⟨A1, ca, P, cb, D, cd⟩) w2 (HIN.out.below HB2.out) HSM.out)
    simp only [ecE] at HCL
    go_wp2_with fail
    refine HCL.out.mono ?_
    rintro q w3 ⟨p9, rfl, ho3, hb3⟩
    have HO3 := hid ho3
    have HB3 := hid (HB2.out.trans (hb3.mono HB2.out.size))
    have HX3 := hid (keep0 HX2.out hb3)
    have hNl := lt_of_block HX2.out
    clear ho3 hb3 HCL y0 y1 y2 y3 y4 y5 HX2 HB2
    obtain ⟨⟨p0, p1, p2, p3, p4, p5⟩, f0, f1, f2, f3, f4, f5⟩ := six_cells HX3.out
    go_wp2
    try clear y0 y1 y2 y3 y4 y5
    clear p0 p1 p2 p3 p4 p5 f0 f1 f2 f3 f4 f5
    show bodyPost _ _ _ _ _ (putZ6 w3 W.heap.size (.int .i64 id) (.int .i64 sc) (.int .i64 ee) (.slice p9.A ms.length p9.ca) (.slice p9.B bd.length p9.cb) (.slice p9.D dn.length p9.cd))
    have hz := putZ6_heap HX3.out (.int .i64 id) (.int .i64 sc) (.int .i64 ee) (.slice p9.A ms.length p9.ca) (.slice p9.B bd.length p9.cb) (.slice p9.D dn.length p9.cd)
    have hbz := putZ6_below HB3.out (Nat.le_refl _) (.int .i64 id) (.int .i64 sc) (.int .i64 ee) (.slice p9.A ms.length p9.ca) (.slice p9.B bd.length p9.cb) (.slice p9.D dn.length p9.cd)
    have hiz : InE (putZ6 w3 W.heap.size (.int .i64 id) (.int .i64 sc) (.int .i64 ee) (.slice p9.A ms.length p9.ca) (.slice p9.B bd.length p9.cb) (.slice p9.D dn.length p9.cd)) (⟨id, sc, ee, ms, bd, dn⟩, p9) := by
      have hT : Tch (fun q => q = W.heap.size) w3 (putZ6 w3 W.heap.size (.int .i64 id) (.int .i64 sc) (.int .i64 ee) (.slice p9.A ms.length p9.ca) (.slice p9.B bd.length p9.cb) (.slice p9.D dn.length p9.cd)) := ((((((Tch.refl (fun q => q = W.heap.size) w3).set W.heap.size 0 _ fun _ => rfl).set W.heap.size 1 _ fun _ => rfl).set W.heap.size 2 _ fun _ => rfl).set W.heap.size 3 _ fun _ => rfl).set W.heap.size 4 _ fun _ => rfl).set W.heap.size 5 _ fun _ => rfl
      exact ⟨OwT.tx (b := w2.heap.size) ⟨hT.own HO3.out.1.1 (fun g hg h9 => by have := (own_lt HO3.out.1.1 g hg).1; omega), HO3.out.1.2⟩, sl_own (hT.own HO3.out.2.1 (fun g hg h9 => by have := (own_lt HO3.out.2.1 g hg).1; omega)), sl_own (hT.own HO3.out.2.2 (fun g hg h9 => by have := (own_lt HO3.out.2.2 g hg).1; omega))⟩
    generalize putZ6 w3 W.heap.size (.int .i64 id) (.int .i64 sc) (.int .i64 ee) (.slice p9.A ms.length p9.ca) (.slice p9.B bd.length p9.cb) (.slice p9.D dn.length p9.cd) = wf at *
    obtain ⟨⟨z0, z1, z2, z3, z4, z5⟩, _⟩ := six_cells hz
    have HFIN := FindR.mk (e := .returned (.tuple #[.agg #[.int .i64 id, .int .i64 sc, .int .i64 ee, .slice p9.A ms.length p9.ca, .slice p9.B bd.length p9.cb, .slice p9.D dn.length p9.cd], .bool true])) (⟨id, sc, ee, ms, bd, dn⟩, p9) rfl HFF.out hiz hbz
    clear hz hbz hiz HX3 HB3 HIN HFF HX
    exact bodyPost_ret (v := .tuple #[.agg #[.int .i64 id, .int .i64 sc, .int .i64 ee, .slice p9.A ms.length p9.ca, .slice p9.B bd.length p9.cb, .slice p9.D dn.length p9.cd], .bool true]) (by simp [results, Try.results65, go_sem, z0, z1, z2, z3, z4, z5]) rfl HFIN
end Go.Proofs.Ytkepfkfoblocgaa
