/- The document's Find, once more. The fold's count. -/
import Derived.Test.YtkepfkfoblocgaaGreatQLpB
namespace Go.Proofs.YtkepfkfoblocgaaGreat
open Go.RowKit Go.Sort
set_option linter.unusedVariables false
set_option linter.unusedSimpArgs false

theorem foldB_le : ∀ (l : List Rc) (b : List En), (foldB b l).2 ≤ l.length
  | [], b => Nat.le_refl _
  | x :: l, b => by
    unfold foldB
    split
    · have := foldB_le l (appB b x)
      simp only [List.length_cons]
      omega
    · exact Nat.zero_le _
def FindX (A : Option Addr) (c : Nat) (xs : List Ee) (W : World) (f : En) (ok : Bool) (e : Ending) (w' : World) : Prop :=
  ∃ y : Ee, e = .returned (.tuple #[.agg (ecE y), .bool ok]) ∧ y.1 = f ∧ (∀ w9, InBk w9 A c xs → InE w9 y) ∧ RowKit.Below W.heap.size W w'
theorem FindX.mk {A : Option Addr} {c : Nat} {xs : List Ee} {W : World} {f : En} {ok : Bool} {e : Ending} {w' : World} (y : Ee) (h1 : e = .returned (.tuple #[.agg (ecE y), .bool ok])) (h2 : y.1 = f) (h3 : ∀ w9, InBk w9 A c xs → InE w9 y) (h4 : RowKit.Below W.heap.size W w') : FindX A c xs W f ok e w' := ⟨y, h1, h2, h3, h4⟩

set_option maxRecDepth 20000 in
set_option maxHeartbeats 4000000 in
theorem r20findX_any (A : Option Addr) (c : Nat) (xs : List Ee) (job : Int) (W : World) (h : InBk W A c xs) :
    Calls Tryz.prog 17 #[.slice A xs.length c, .int .i64 job] W (FindX A c xs W (findB (xs.map (·.1)) job) (plB (xs.map (·.1)) job).isSome) := by
  have HX := hid h
  have hxl : xs.length ≤ 9223372036854775807 := by have := h.len; unfold maxLen at this; omega
  have HPL := hid (fun w (hw : RowKit.Below W.heap.size W w) => r20place_any A c xs job w (h.below hw))
  unfold plI at HPL
  have HF0 := hid (fun (hp : plB (xs.map (·.1)) job = none) => show (⟨0, 0, 0, [], [], []⟩ : En) = findB (xs.map (·.1)) job ∧ false = (plB (xs.map (·.1)) job).isSome from by unfold findB; rw [hp]; exact ⟨rfl, rfl⟩)
  have HF1 := hid (fun i (hi : i < xs.length) (hp : plB (xs.map (·.1)) job = some i) => show xs[i].1 = findB (xs.map (·.1)) job ∧ true = (plB (xs.map (·.1)) job).isSome from by unfold findB; rw [hp]; exact ⟨by show xs[i].1 = (xs.map (·.1)).getD i _; rw [List.getD_eq_getElem?_getD, List.getElem?_map, List.getElem?_eq_getElem hi]; rfl, rfl⟩)
  have HPS := hid (fun i (hp : plB (xs.map (·.1)) job = some i) => plB_some hp)
  simp only [List.length_map] at HPS
  generalize findB (xs.map (·.1)) job = F at *
  generalize (plB (xs.map (·.1)) job).isSome = ok at *
  generalize plB (xs.map (·.1)) job = pl at *
  clear h
  go_enter Tryz.func17, Tryz.ntmps17
  go_upto_region 1 with (fail)
  refine at_world (fun u => u.heap[W.heap.size]? = some (.cells #[.int .i64 0, .int .i64 0, .int .i64 0, .slice none 0 0, .slice none 0 0, .slice none 0 0] 55 (0, 0)) ∧ RowKit.Below W.heap.size W u) ⟨heap_alloc_new _ _, (RowKit.Below.refl _ _).alloc (Nat.le_refl _) _⟩ ?_
  rintro w1 ⟨hx1, hb1⟩
  have HX1 := hid hx1
  have HB1 := hid hb1
  clear hx1 hb1
  go_wp2_with fail
  refine (HPL.out w1 HB1.out).mono ?_
  rintro e w2 ⟨rfl, rfl⟩
  have HB2 := HB1
  have HX2 := HX1
  clear HB1 HX1
  generalize w1 = w2 at *
  clear HPL
  rcases pl with _ | i
  · obtain ⟨rfl, rfl⟩ := HF0.out rfl
    clear HF0 HF1 HPS
    obtain ⟨⟨p0, p1, p2, p3, p4, p5⟩, f0, f1, f2, f3, f4, f5⟩ := six_cells HX2.out
    clear HX
    go_wp2
    clear p0 p1 p2 p3 p4 p5 f0 f1 f2 f3 f4 f5
    show bodyPost _ _ _ _ _ (putZ6 w2 W.heap.size (.int .i64 0) (.int .i64 0) (.int .i64 0) (.slice none 0 0) (.slice none 0 0) (.slice none 0 0))
    have hz := putZ6_heap HX2.out (.int .i64 0) (.int .i64 0) (.int .i64 0) (.slice none 0 0) (.slice none 0 0) (.slice none 0 0)
    have hbz := putZ6_below HB2.out (Nat.le_refl _) (.int .i64 0) (.int .i64 0) (.int .i64 0) (.slice none 0 0) (.slice none 0 0) (.slice none 0 0)
    generalize putZ6 w2 W.heap.size (.int .i64 0) (.int .i64 0) (.int .i64 0) (.slice none 0 0) (.slice none 0 0) (.slice none 0 0) = wf at *
    obtain ⟨⟨z0, z1, z2, z3, z4, z5⟩, _⟩ := six_cells hz
    have HFIN := FindX.mk (e := .returned (.tuple #[.agg #[.int .i64 0, .int .i64 0, .int .i64 0, .slice none 0 0, .slice none 0 0, .slice none 0 0], .bool false])) (⟨0, 0, 0, [], [], []⟩, ⟨none, 0, none, 0, none, 0⟩) rfl rfl (fun w9 (_ : InBk w9 A c xs) => zeroE w9) hbz
    clear hz hbz HX2 HB2
    exact bodyPost_ret (v := .tuple #[.agg #[.int .i64 0, .int .i64 0, .int .i64 0, .slice none 0 0, .slice none 0 0, .slice none 0 0], .bool false]) (by simp [results, Tryz.results17, go_sem, z0, z1, z2, z3, z4, z5]) rfl HFIN
  · obtain ⟨hi, hq1, hq2⟩ := HPS.out i rfl
    clear hq1 hq2
    obtain ⟨hF, rfl⟩ := HF1.out i hi rfl
    have HFF := hid hF
    clear HPS HF0 HF1 hF
    have hi2 : (i : Int) < (xs.length : Int) := by omega
    have i0 : ¬ (i : Int) < 0 := by omega
    obtain ⟨b4, o4, hA4, y0, y1, y2, y3, y4, y5⟩ := (HX.out.below HB2.out).el i hi
    have HIN := hid (fun w9 (h9 : InBk w9 A c xs) => h9.2 _ (List.getElem_mem hi))
    skip
    subst hA4
    generalize xs[i]'hi = ya at *
    obtain ⟨⟨id, sc, ee, ms, bd, dn⟩, ⟨A1, ca, P, cb, D, cd⟩⟩ := ya
    simp only at y0 y1 y2 y3 y4 y5
    have HX3 := HX2
    have HB3 := HB2
    clear HX2 HB2
    have e23 : ∃ w3, w3 = w2 := ⟨_, rfl⟩
    obtain ⟨w3, e23⟩ := e23
    subst e23
    obtain ⟨⟨p0, p1, p2, p3, p4, p5⟩, f0, f1, f2, f3, f4, f5⟩ := six_cells HX3.out
    go_wp2
    try clear y0 y1 y2 y3 y4 y5
    clear p0 p1 p2 p3 p4 p5 f0 f1 f2 f3 f4 f5
    show bodyPost _ _ _ _ _ (putZ6 w3 W.heap.size (.int .i64 id) (.int .i64 sc) (.int .i64 ee) (.slice A1 ms.length ca) (.slice P bd.length cb) (.slice D dn.length cd))
    have hz := putZ6_heap HX3.out (.int .i64 id) (.int .i64 sc) (.int .i64 ee) (.slice A1 ms.length ca) (.slice P bd.length cb) (.slice D dn.length cd)
    have hbz := putZ6_below HB3.out (Nat.le_refl _) (.int .i64 id) (.int .i64 sc) (.int .i64 ee) (.slice A1 ms.length ca) (.slice P bd.length cb) (.slice D dn.length cd)
    have hiz := HIN.out
    generalize putZ6 w3 W.heap.size (.int .i64 id) (.int .i64 sc) (.int .i64 ee) (.slice A1 ms.length ca) (.slice P bd.length cb) (.slice D dn.length cd) = wf at *
    obtain ⟨⟨z0, z1, z2, z3, z4, z5⟩, _⟩ := six_cells hz
    have HFIN := FindX.mk (e := .returned (.tuple #[.agg #[.int .i64 id, .int .i64 sc, .int .i64 ee, .slice A1 ms.length ca, .slice P bd.length cb, .slice D dn.length cd], .bool true])) (⟨id, sc, ee, ms, bd, dn⟩, ⟨A1, ca, P, cb, D, cd⟩) rfl HFF.out hiz hbz
    clear hz hbz hiz HX3 HB3 HIN HFF HX
    exact bodyPost_ret (v := .tuple #[.agg #[.int .i64 id, .int .i64 sc, .int .i64 ee, .slice A1 ms.length ca, .slice P bd.length cb, .slice D dn.length cd], .bool true]) (by simp [results, Tryz.results17, go_sem, z0, z1, z2, z3, z4, z5]) rfl HFIN

end Go.Proofs.YtkepfkfoblocgaaGreat
