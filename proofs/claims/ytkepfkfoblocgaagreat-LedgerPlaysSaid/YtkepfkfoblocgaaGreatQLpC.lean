/- ledger.Entry, Len; calls without a ledger; Open where it refuses: contracts. -/
import Derived.Test.YtkepfkfoblocgaaGreatLgX
import Derived.Test.YtkepfkfoblocgaaGreatQLpA
namespace Go.Proofs.YtkepfkfoblocgaaGreat
open Go.RowKit Go.Sort
set_option linter.unusedVariables false
set_option linter.unusedSimpArgs false

/-- As FindR; the entry stays where nothing new is touched. -/
def FindO (W : World) (f : En) (ok : Bool) (e : Ending) (w' : World) : Prop :=
  ∃ y : Ee, e = .returned (.tuple #[.agg (ecE y), .bool ok]) ∧ y.1 = f ∧ (∀ w9, Tch (fun q => q < W.heap.size) w' w9 → InE w9 y) ∧ RowKit.Below W.heap.size W w'
theorem FindO.mk {W : World} {f : En} {ok : Bool} {e : Ending} {w' : World} (y : Ee) (h1 : e = .returned (.tuple #[.agg (ecE y), .bool ok])) (h2 : y.1 = f) (h3 : ∀ w9, Tch (fun q => q < W.heap.size) w' w9 → InE w9 y) (h4 : RowKit.Below W.heap.size W w') : FindO W f ok e w' := ⟨y, h1, h2, h3, h4⟩

set_option maxRecDepth 20000 in
set_option maxHeartbeats 4000000 in
theorem bfindO_any (A : Option Addr) (c : Nat) (xs : List Ee) (job : Int) (W : World) (h : InBk W A c xs) (hsm : ∀ y ∈ xs, SmE y) :
    Calls Tryz.prog 41 #[.slice A xs.length c, .int .i64 job] W (FindO W (findB (xs.map (·.1)) job) (plB (xs.map (·.1)) job).isSome) := by
  have HX := hid h
  have hxl : xs.length ≤ 9223372036854775807 := by have := h.len; unfold maxLen at this; omega
  have HPL := hid (fun w (hw : RowKit.Below W.heap.size W w) => bplace_any A c xs job w (h.below hw))
  unfold plI at HPL
  have HF0 := hid (fun (hp : plB (xs.map (·.1)) job = none) => show (⟨0, 0, 0, [], [], []⟩ : En) = findB (xs.map (·.1)) job ∧ false = (plB (xs.map (·.1)) job).isSome from by unfold findB; rw [hp]; exact ⟨rfl, rfl⟩)
  have HF1 := hid (fun i (hi : i < xs.length) (hp : plB (xs.map (·.1)) job = some i) => show xs[i].1 = findB (xs.map (·.1)) job ∧ true = (plB (xs.map (·.1)) job).isSome from by unfold findB; rw [hp]; exact ⟨by show xs[i].1 = (xs.map (·.1)).getD i _; rw [List.getD_eq_getElem?_getD, List.getElem?_map, List.getElem?_eq_getElem hi]; rfl, rfl⟩)
  have HPS := hid (fun i (hp : plB (xs.map (·.1)) job = some i) => plB_some hp)
  simp only [List.length_map] at HPS
  generalize findB (xs.map (·.1)) job = F at *
  generalize (plB (xs.map (·.1)) job).isSome = ok at *
  generalize plB (xs.map (·.1)) job = pl at *
  clear h
  go_enter Tryz.func41, Tryz.ntmps41
  go_upto_region 1 with (fail)
  refine at_world (fun u => u.heap[W.heap.size]? = some (.cells #[.int .i64 0, .int .i64 0, .int .i64 0, .slice none 0 0, .slice none 0 0, .slice none 0 0] 55 (0, 0)) ∧ RowKit.Below W.heap.size W u) ⟨heap_alloc_new _ _, (RowKit.Below.refl _ _).alloc (Nat.le_refl _) _⟩ ?_
  rintro w1 ⟨hx1, hb1⟩
  have HX1 := hid hx1
  have HB1 := hid hb1
  clear hx1 hb1
  go_wp2_with fail
  refine (HPL.out w1 HB1.out).mono ?_
  rintro e w2 ⟨rfl, hb2⟩
  have HB2 := hid (HB1.out.trans (hb2.mono HB1.out.size))
  have HX2 := hid (keep0 HX1.out hb2)
  clear hb2 HB1 HX1
  clear HPL
  rcases pl with _ | i
  · obtain ⟨rfl, rfl⟩ := HF0.out rfl
    clear HF0 HF1 HPS
    obtain ⟨⟨p0, p1, p2, p3, p4, p5⟩, f0, f1, f2, f3, f4, f5⟩ := six_cells HX2.out
    clear HX
    go_wp2
    clear p0 p1 p2 p3 p4 p5 f0 f1 f2 f3 f4 f5
    show bodyPost _ _ _ _ _ (putZ6 w2 W.heap.size (.int .i64 0) (.int .i64 0) (.int .i64 0) (.slice none 0 0) (.slice none 0 0) (.slice none 0 0))
    have hz := putZ6_heap HX2.out (.int .i64 0) (.int .i64 0) (.int .i64 0) (.slice none 0 0) (.slice none 0 0) (.slice none 0 0)
    have hbz := putZ6_below HB2.out (Nat.le_refl _) (.int .i64 0) (.int .i64 0) (.int .i64 0) (.slice none 0 0) (.slice none 0 0) (.slice none 0 0)
    generalize putZ6 w2 W.heap.size (.int .i64 0) (.int .i64 0) (.int .i64 0) (.slice none 0 0) (.slice none 0 0) (.slice none 0 0) = wf at *
    obtain ⟨⟨z0, z1, z2, z3, z4, z5⟩, _⟩ := six_cells hz
    have HFIN := FindO.mk (e := .returned (.tuple #[.agg #[.int .i64 0, .int .i64 0, .int .i64 0, .slice none 0 0, .slice none 0 0, .slice none 0 0], .bool false])) (⟨0, 0, 0, [], [], []⟩, ⟨none, 0, none, 0, none, 0⟩) rfl rfl (fun w9 _ => zeroE w9) hbz
    clear hz hbz HX2 HB2
    exact bodyPost_ret (v := .tuple #[.agg #[.int .i64 0, .int .i64 0, .int .i64 0, .slice none 0 0, .slice none 0 0, .slice none 0 0], .bool false]) (by simp [results, Tryz.results41, go_sem, z0, z1, z2, z3, z4, z5]) rfl HFIN
  · obtain ⟨hi, hq1, hq2⟩ := HPS.out i rfl
    clear hq1 hq2
    obtain ⟨hF, rfl⟩ := HF1.out i hi rfl
    have HFF := hid hF
    clear HPS HF0 HF1 hF
    have hi2 : (i : Int) < (xs.length : Int) := by omega
    have i0 : ¬ (i : Int) < 0 := by omega
    obtain ⟨b4, o4, hA4, y0, y1, y2, y3, y4, y5⟩ := (HX.out.below HB2.out).el i hi
    have HIN := hid (HX.out.2 _ (List.getElem_mem hi))
    have HSM := hid (hsm _ (List.getElem_mem hi))
    clear hsm
    subst hA4
    generalize xs[i]'hi = ya at *
    obtain ⟨⟨id, sc, ee, ms, bd, dn⟩, ⟨A1, ca, P, cb, D, cd⟩⟩ := ya
    simp only at y0 y1 y2 y3 y4 y5
    have HCL := hid (bcloned_any (⟨id, sc, ee, ms, bd, dn⟩, ⟨A1, ca, P, cb, D, cd⟩) w2 (HIN.out.below HB2.out) HSM.out)
    simp only [ecE] at HCL
    go_wp2_with fail
    refine HCL.out.mono ?_
    rintro q w3 ⟨p9, rfl, ho3, hb3⟩
    have HO3 := hid ho3
    have HB3 := hid (HB2.out.trans (hb3.mono HB2.out.size))
    have HX3 := hid (keep0 HX2.out hb3)
    have hNl := lt_of_block HX2.out
    clear ho3 hb3 HCL y0 y1 y2 y3 y4 y5 HX2 HB2
    obtain ⟨⟨p0, p1, p2, p3, p4, p5⟩, f0, f1, f2, f3, f4, f5⟩ := six_cells HX3.out
    go_wp2
    try clear y0 y1 y2 y3 y4 y5
    clear p0 p1 p2 p3 p4 p5 f0 f1 f2 f3 f4 f5
    show bodyPost _ _ _ _ _ (putZ6 w3 W.heap.size (.int .i64 id) (.int .i64 sc) (.int .i64 ee) (.slice p9.A ms.length p9.ca) (.slice p9.B bd.length p9.cb) (.slice p9.D dn.length p9.cd))
    have hz := putZ6_heap HX3.out (.int .i64 id) (.int .i64 sc) (.int .i64 ee) (.slice p9.A ms.length p9.ca) (.slice p9.B bd.length p9.cb) (.slice p9.D dn.length p9.cd)
    have hbz := putZ6_below HB3.out (Nat.le_refl _) (.int .i64 id) (.int .i64 sc) (.int .i64 ee) (.slice p9.A ms.length p9.ca) (.slice p9.B bd.length p9.cb) (.slice p9.D dn.length p9.cd)
    have hiz : ∀ w9, Tch (fun q => q < W.heap.size) (putZ6 w3 W.heap.size (.int .i64 id) (.int .i64 sc) (.int .i64 ee) (.slice p9.A ms.length p9.ca) (.slice p9.B bd.length p9.cb) (.slice p9.D dn.length p9.cd)) w9 → InE w9 (⟨id, sc, ee, ms, bd, dn⟩, p9) := fun w9 h9 => by
      have hT : Tch (fun q => q ≤ W.heap.size) w3 (putZ6 w3 W.heap.size (.int .i64 id) (.int .i64 sc) (.int .i64 ee) (.slice p9.A ms.length p9.ca) (.slice p9.B bd.length p9.cb) (.slice p9.D dn.length p9.cd)) := ((((((Tch.refl (fun q => q ≤ W.heap.size) w3).set W.heap.size 0 _ fun _ => Nat.le_refl _).set W.heap.size 1 _ fun _ => Nat.le_refl _).set W.heap.size 2 _ fun _ => Nat.le_refl _).set W.heap.size 3 _ fun _ => Nat.le_refl _).set W.heap.size 4 _ fun _ => Nat.le_refl _).set W.heap.size 5 _ fun _ => Nat.le_refl _
      have hT2 := hT.trans h9 (fun g hg _ => Nat.le_of_lt hg)
      exact ⟨OwT.tx (b := w2.heap.size) ⟨hT2.own HO3.out.1.1 (fun g hg h9 => by have := (own_lt HO3.out.1.1 g hg).1; omega), HO3.out.1.2⟩, sl_own (hT2.own HO3.out.2.1 (fun g hg h9 => by have := (own_lt HO3.out.2.1 g hg).1; omega)), sl_own (hT2.own HO3.out.2.2 (fun g hg h9 => by have := (own_lt HO3.out.2.2 g hg).1; omega))⟩
    generalize putZ6 w3 W.heap.size (.int .i64 id) (.int .i64 sc) (.int .i64 ee) (.slice p9.A ms.length p9.ca) (.slice p9.B bd.length p9.cb) (.slice p9.D dn.length p9.cd) = wf at *
    obtain ⟨⟨z0, z1, z2, z3, z4, z5⟩, _⟩ := six_cells hz
    have HFIN := FindO.mk (e := .returned (.tuple #[.agg #[.int .i64 id, .int .i64 sc, .int .i64 ee, .slice p9.A ms.length p9.ca, .slice p9.B bd.length p9.cb, .slice p9.D dn.length p9.cd], .bool true])) (⟨id, sc, ee, ms, bd, dn⟩, p9) rfl HFF.out hiz hbz
    clear hz hbz hiz HX3 HB3 HIN HFF HX
    exact bodyPost_ret (v := .tuple #[.agg #[.int .i64 id, .int .i64 sc, .int .i64 ee, .slice p9.A ms.length p9.ca, .slice p9.B bd.length p9.cb, .slice p9.D dn.length p9.cd], .bool true]) (by simp [results, Tryz.results41, go_sem, z0, z1, z2, z3, z4, z5]) rfl HFIN

set_option maxRecDepth 20000 in
set_option maxHeartbeats 4000000 in
theorem lentry_any {B L G D : Nat} {s : LgS} {A : Option Addr} {c : Nat} {els : List El} {Ab : Option Addr} {cb : Nat} {xs : List Ee} (job : Int) (W : World) (h : LgAt W B L G D s A c els Ab cb xs) : Calls Tryz.prog 16 #[.pointer (some ⟨L, 0, none⟩), .int .i64 job] W (FindR W (findB (xs.map (·.1)) job) (plB (xs.map (·.1)) job).isSome) := by
  have HL := hid h
  have HF := hid (fun w (hw : RowKit.Below W.heap.size W w) => bfindO_any Ab cb xs job w (h.2.2.1.inBk.below hw) (okB_sm h.2.2.2))
  clear h
  generalize findB (xs.map (·.1)) job = F at *
  generalize (plB (xs.map (·.1)) job).isSome = ok at *
  go_enter Tryz.func16, Tryz.ntmps16
  go_upto_region 1 with (fail)
  refine at_world (fun u => u.heap[W.heap.size]? = some (.cells #[.int .i64 0, .int .i64 0, .int .i64 0, .slice none 0 0, .slice none 0 0, .slice none 0 0] 55 (0, 0)) ∧ RowKit.Below W.heap.size W u) ⟨heap_alloc_new _ _, (RowKit.Below.refl _ _).alloc (Nat.le_refl _) _⟩ ?_
  rintro w1 ⟨hx1, hb1⟩
  have HX1 := hid hx1
  have HB1 := hid hb1
  clear hx1 hb1
  obtain ⟨⟨q0, q1, q2, q3⟩, _⟩ := four_cells (HL.out.below HB1.out).1
  go_wp2_with fail
  refine (HF.out w1 HB1.out).mono ?_
  rintro e w2 ⟨y, rfl, hF, hiy, hb2⟩
  have HB2 := hid (HB1.out.trans (hb2.mono HB1.out.size))
  have HX2 := hid (keep0 HX1.out hb2)
  have HIY := hid hiy
  have HFF := hid hF
  have hNl := lt_of_block HX1.out
  clear HF hiy hF hb2 HB1 q0 q1 q2 q3
  obtain ⟨⟨id, sc, ee, ms, bd, dn⟩, ⟨A1, ca, P, cb2, D2, cd⟩⟩ := y
  simp only [ecE] at *
  obtain ⟨⟨p0, p1, p2, p3, p4, p5⟩, f0, f1, f2, f3, f4, f5⟩ := six_cells HX2.out
  go_wp2
  clear p0 p1 p2 p3 p4 p5 f0 f1 f2 f3 f4 f5
  show bodyPost _ _ _ _ _ (putZ6 w2 W.heap.size (.int .i64 id) (.int .i64 sc) (.int .i64 ee) (.slice A1 ms.length ca) (.slice P bd.length cb2) (.slice D2 dn.length cd))
  have hz := putZ6_heap HX2.out (.int .i64 id) (.int .i64 sc) (.int .i64 ee) (.slice A1 ms.length ca) (.slice P bd.length cb2) (.slice D2 dn.length cd)
  have hbz := putZ6_below HB2.out (Nat.le_refl _) (.int .i64 id) (.int .i64 sc) (.int .i64 ee) (.slice A1 ms.length ca) (.slice P bd.length cb2) (.slice D2 dn.length cd)
  have hiz : InE (putZ6 w2 W.heap.size (.int .i64 id) (.int .i64 sc) (.int .i64 ee) (.slice A1 ms.length ca) (.slice P bd.length cb2) (.slice D2 dn.length cd)) (⟨id, sc, ee, ms, bd, dn⟩, ⟨A1, ca, P, cb2, D2, cd⟩) := HIY.out _ (((((((Tch.refl (fun q => q < w1.heap.size) w2).set W.heap.size 0 _ fun _ => hNl).set W.heap.size 1 _ fun _ => hNl).set W.heap.size 2 _ fun _ => hNl).set W.heap.size 3 _ fun _ => hNl).set W.heap.size 4 _ fun _ => hNl).set W.heap.size 5 _ fun _ => hNl)
  generalize putZ6 w2 W.heap.size (.int .i64 id) (.int .i64 sc) (.int .i64 ee) (.slice A1 ms.length ca) (.slice P bd.length cb2) (.slice D2 dn.length cd) = wf at *
  obtain ⟨⟨z0, z1, z2, z3, z4, z5⟩, _⟩ := six_cells hz
  have HFIN := FindR.mk (e := .returned (.tuple #[.agg #[.int .i64 id, .int .i64 sc, .int .i64 ee, .slice A1 ms.length ca, .slice P bd.length cb2, .slice D2 dn.length cd], .bool ok])) (⟨id, sc, ee, ms, bd, dn⟩, ⟨A1, ca, P, cb2, D2, cd⟩) rfl HFF.out hiz hbz
  clear hz hbz hiz HX2 HB2 HIY HFF HL HX1
  exact bodyPost_ret (v := .tuple #[.agg #[.int .i64 id, .int .i64 sc, .int .i64 ee, .slice A1 ms.length ca, .slice P bd.length cb2, .slice D2 dn.length cd], .bool ok]) (by simp [results, Tryz.results16, go_sem, z0, z1, z2, z3, z4, z5]) rfl HFIN
theorem llen_any {B L G D : Nat} {s : LgS} {A : Option Addr} {c : Nat} {els : List El} {Ab : Option Addr} {cb : Nat} {xs : List Ee} (W : World) (h : LgAt W B L G D s A c els Ab cb xs) : Calls Tryz.prog 24 #[.pointer (some ⟨L, 0, none⟩)] W fun e w' => e = .returned (.int .i64 (els.length : Int)) ∧ W = w' := by
  obtain ⟨⟨p0, p1, p2, p3⟩, _⟩ := four_cells h.1
  have HA := hid (alen_any W h.2.1)
  clear h
  go_enter Tryz.func24, Tryz.ntmps24
  go_wp2_with fail
  refine HA.out.mono ?_
  rintro e w2 ⟨rfl, rfl⟩
  go_wp2
  go_ret
  exact ⟨rfl, rfl⟩
theorem llen0 (W : World) : Calls Tryz.prog 24 #[.pointer none] W fun e w' => e = .returned (.int .i64 0) ∧ W = w' := by
  go_enter Tryz.func24, Tryz.ntmps24
  go_wp2
  go_ret
  exact ⟨rfl, rfl⟩
theorem lkept0 (W : World) : Calls Tryz.prog 21 #[.pointer none] W fun e w' => e = .returned (.int .i64 0) ∧ W = w' := by
  go_enter Tryz.func21, Tryz.ntmps21
  go_wp2
  go_ret
  exact ⟨rfl, rfl⟩
theorem ldown0 (W : World) : Calls Tryz.prog 23 #[.pointer none] W fun e w' => e = .returned (.bool true) ∧ W = w' := by
  go_enter Tryz.func23, Tryz.ntmps23
  go_wp2
  go_ret
  exact ⟨rfl, rfl⟩
theorem lbook0 (W : World) : Calls Tryz.prog 20 #[.pointer none] W fun e w' => e = .returned (.slice none 0 0) ∧ W = w' := by
  go_enter Tryz.func20, Tryz.ntmps20
  go_wp2
  go_ret
  exact ⟨rfl, rfl⟩
theorem lput0 (W : World) : Calls Tryz.prog 13 #[.pointer none, .agg #[.int .i64 0, .int .i64 0, .int .i64 0, .int .i64 0, .int .i64 0, .int .i64 0, .slice none 0 0]] W fun e w' => e = .returned (.int .i64 1) ∧ Below W.heap.size W w' := by
  go_enter Tryz.func13, Tryz.ntmps13
  go_upto_region 1 with (fail)
  refine at_world (fun u => Below W.heap.size W u) ((Below.refl _ _).alloc (Nat.le_refl _) _) ?_
  rintro w1 hb1
  have HB1 := hid hb1
  clear hb1
  go_wp2
  go_ret
  exact ⟨rfl, HB1.out⟩
theorem lopen_nil (R : Int) (W : World) : Calls Tryz.prog 10 #[.pointer none, .int .i64 R] W fun e w' => e = .returned (.tuple #[.pointer none, .int .i64 1]) ∧ W = w' := by
  go_enter Tryz.func10, Tryz.ntmps10
  go_wp2
  go_ret2
  exact ⟨rfl, rfl⟩
theorem lopen_bad (D : Nat) (R : Int) (hR : R < 0 ∨ 65536 < R) (W : World) : Calls Tryz.prog 10 #[.pointer (some ⟨D, 0, none⟩), .int .i64 R] W fun e w' => e = .returned (.tuple #[.pointer none, .int .i64 1]) ∧ W = w' := by
  go_enter Tryz.func10, Tryz.ntmps10
  by_cases h1 : R < 0
  · go_wp2
    go_ret2
    exact ⟨rfl, rfl⟩
  · have h2 : 65536 < R := hR.resolve_left h1
    go_wp2
    go_ret2
    exact ⟨rfl, rfl⟩
set_option maxRecDepth 20000 in
set_option maxHeartbeats 4000000 in
theorem lopen_short {D room : Nat} {l : List UInt8} {armed : Bool} {fuse : Nat} (R : Nat) (W : World) (h : DiskAt W D room l armed fuse) (hl : l.length ≤ 100000) (hR : R ≤ 65536) (hfo : (foldB [] (recS l).1).2 < (recS l).1.length) :
    Calls Tryz.prog 10 #[.pointer (some ⟨D, 0, none⟩), .int .i64 (R : Int)] W fun e w' => e = .returned (.tuple #[.pointer none, .int .i64 3]) ∧ DiskAt w' D room (l.take (recS l).2) armed fuse ∧ Tch (fun g => g = D) W w' := by
  have hDl := h.lt
  have HOP := hid (aopen_any W h hl)
  have hR1 : ¬ (R : Int) < 0 := by omega
  have hR2 : ¬ (65536 : Int) < (R : Int) := by omega
  have HFO := hid hfo
  clear h hfo
  go_enter Tryz.func10, Tryz.ntmps10
  go_wp2_with fail
  refine HOP.out.mono ?_
  rintro e w1 ⟨A, c, els, rfl, he, ha, ho⟩
  have HT1 : Hid (Tch (fun g => g = D) W w1) := hid (Tch.of_only ho rfl hDl)
  have HA1 := hid ha
  have HE := hid he
  have hel : els.length ≤ 100000 := Nat.le_trans (els_len he) hl
  have hns := els_ns he
  clear HOP ho ha he
  have HRC := hid (arecords_any w1 HA1.out hel hns)
  clear hns
  go_wp2_with fail
  refine HRC.out.mono ?_
  rintro e w2 ⟨A2, c2, els2, rfl, he2, hr2, hb2⟩
  have hl2 : els2.length = els.length := by
    have h9 := congrArg List.length he2
    simpa using h9
  have HF := hid (bfold_any A2 c2 els2 w2 hr2.inR (by omega))
  rw [he2, HE.out] at HF
  have hnn : (recS l).1.length = els.length := by rw [← HE.out, List.length_map]
  rw [hnn] at HFO
  have HA2 := hid (HA1.out.below hb2)
  have HT2 := hid (HT1.out.grow hb2)
  clear HRC HA1 HT1 he2 hr2 hb2 hl2 hnn
  generalize (foldB [] (recS l).1).2 = fn at *
  go_wp2_with fail
  refine HF.out.mono ?_
  rintro e w3 ⟨Ab, cb, xs, rfl, hx3, hok3, hrb3, hb3⟩
  have HA3 := hid (HA2.out.below hb3)
  have HT3 := hid (HT2.out.grow hb3)
  have HLN := hid (alen_any w3 HA3.out)
  clear HF HA2 HT2 hx3 hok3 hrb3 hb3
  go_wp2_with fail
  refine HLN.out.mono ?_
  rintro e w4 ⟨rfl, rfl⟩
  have hnl : (fn : Int) < (els.length : Int) := by
    have := HFO.out
    omega
  clear HLN
  go_wp2
  go_ret2
  exact ⟨rfl, HA3.out.2.1, HT3.out⟩
end Go.Proofs.YtkepfkfoblocgaaGreat
