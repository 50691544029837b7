/- book: applied: contract. -/
import Derived.Test.YtkepfkfoblocgaaGreatGaP
import Derived.Test.YtkepfkfoblocgaaGreatQBkP2
import Derived.Test.YtkepfkfoblocgaaGreatQBkP1
import Derived.Deep.RegionHeld3
namespace Go.Proofs.YtkepfkfoblocgaaGreat
open Go.RowKit Go.Sort
set_option linter.unusedVariables false
set_option linter.unusedSimpArgs false

/-- What applied leaves. -/
def AplR (W : World) (b : Nat) (xs : List Ee) (x : Rc) (e : Ending) (w' : World) : Prop :=
  ∃ A' c' xs', e = .returned (.slice A' xs'.length c') ∧ xs'.map (·.1) = appB (xs.map (·.1)) x ∧ RowBk w' b (.slice A' xs'.length c') xs' ∧ RowKit.Below b W w'
theorem appB_at {xs : List Ee} {x : Rc} {i : Nat} (hi : i < xs.length) (hk : x.k ≠ 1) (hp : plB (xs.map (·.1)) x.j = some i) : appB (xs.map (·.1)) x = (xs.map (·.1)).set i (chgB x xs[i].1) := by
  unfold appB
  rw [if_neg hk, hp]
  simp only
  rw [modify_set _ i (by simpa using hi), List.getElem_map]
theorem why_at {b : List En} {x : Rc} {i : Nat} (hc : chkR x = true) (hw : whyB b x = 0) (hi : i < b.length) (hk : x.k ≠ 1) (hp : plB b x.j = some i) : (if x.k = 4 then (if x.e - 1 ≠ b[i].ep then (12 : Int) else 0) else whyT b[i] x) = 0 := by
  unfold whyB at hw
  rw [if_neg (by rw [hc]; simp), hp] at hw
  simp only at hw
  rw [if_neg hk, List.getElem?_eq_getElem hi] at hw
  exact hw
theorem why_place {b : List En} {x : Rc} (hc : chkR x = true) (hw : whyB b x = 0) (hk : x.k ≠ 1) : ∃ i, plB b x.j = some i := by
  unfold whyB at hw
  rw [if_neg (by rw [hc]; simp)] at hw
  cases hp : plB b x.j with
  | none =>
    rw [hp] at hw
    simp only at hw
    rw [if_neg hk] at hw
    omega
  | some i => exact ⟨i, rfl⟩
theorem why_task {e : En} {x : Rc} (h : whyT e x = 0) : x.t < (tkB e : Int) := by
  unfold whyT at h
  split at h
  · omega
  · omega
theorem own_rep {w : World} {N n T b : Nat} {z : Value} {xs : List Value} (h : w.heap[N]? = some (.cells (Array.replicate n z) T (0, 0))) (hb : b ≤ N) (hm : n ≤ maxLen) (hx : xs = List.replicate n z) : w.ownsRow b T 1 (.slice (some ⟨N, 0, none⟩) n n) n xs := by
  subst hx
  exact ⟨by simp, .inr ⟨N, n, _, rfl, hb, h, Nat.le_refl _, hm, by simp, by simp⟩⟩
theorem sl_blk6 {w : World} {N t : Nat} {x0 x1 x2 x3 x4 x5 : Value} (h : w.heap[N]? = some (.cells #[x0, x1, x2, x3, x4, x5] t (0, 0))) : Sl w 6 (some ⟨N, 0, none⟩) 1 1 [x0, x1, x2, x3, x4, x5] :=
  ⟨rfl, Nat.le_refl _, by unfold maxLen; omega, fun _ => ⟨N, 0, rfl, fun i hi => by rw [Nat.zero_add, cell_of_row w N i _ t (0, 0) h]; simp⟩⟩
theorem tch_setB (w : World) (b i : Nat) (v : Value) : Tch (fun g => g = b) w (w.setCell ⟨b, i, none⟩ v) := (Tch.refl _ _).set b i v fun _ => rfl
theorem icells_set (l : List Int) (i : Nat) (v : Int) : icells .i64 (l.set i v) = (icells .i64 l).set i (.int .i64 v) := by simp [icells, List.map_set]
theorem blcells_set (l : List Bool) (i : Nat) (v : Bool) : blcells (l.set i v) = (blcells l).set i (.bool v) := by simp [blcells, List.map_set]

set_option maxRecDepth 20000 in
set_option maxHeartbeats 4000000 in
theorem bappl2 (A : Option Addr) (c : Nat) (xs : List Ee) (x : Rc) (Ax : Option Addr) (cx b : Nat) (W : World) (h : RowBk W b (.slice A xs.length c) xs) (hb : b ≤ W.heap.size) (hx : TxAt W Ax cx x.ns) (hc : chkR x = true) (hw : whyB (xs.map (·.1)) x = 0) (hk : x.k = 2) :
    Calls Tryz.prog 50 #[.slice A xs.length c, .agg (rcc x Ax cx)] W (AplR W b xs x) := by
  have hk1 : x.k ≠ 1 := by omega
  obtain ⟨i, hp⟩ := why_place hc hw hk1
  obtain ⟨hi', hj1, hj2⟩ := plB_some hp
  have hi : i < xs.length := by simpa using hi'
  have hwt : (if x.k = 4 then (if x.e - 1 ≠ (xs[i]'hi).1.ep then (12 : Int) else 0) else whyT (xs[i]'hi).1 x) = 0 := by
    have h9 := why_at hc hw hi' hk1 hp
    rwa [List.getElem_map] at h9
  have HAP := hid (appB_at hi hk1 hp)
  have HPL := hid (fun w (hw : RowKit.Below W.heap.size W w) => bplace_any A c xs x.j w (h.inBk.below hw))
  have HPI : Hid (plI (xs.map (·.1)) x.j = (i : Int)) := hid (by unfold plI; rw [hp])
  rw [HPI.out] at HPL
  obtain ⟨_, _, hwk, he4, _, ht⟩ := chk_parts2 hc
  have HR := hid h
  have hxl : xs.length ≤ 9223372036854775807 := by have := h.inBk.len; unfold maxLen at this; omega
  clear h hx hc hw hp hj1 hj2 hi' HPI
  obtain ⟨k, j, t, wk, s, ee, ns⟩ := x
  simp only at hk ht hwk he4 hwt hk1
  subst hk
  simp only [rcc]
  go_enter Tryz.func50, Tryz.ntmps50
  go_upto_region 1 with (fail)
  refine at_world (fun u => u.heap[W.heap.size]? = some (.cells #[.int .i64 2, .int .i64 j, .int .i64 t, .int .i64 wk, .int .i64 s, .int .i64 ee, .slice Ax ns.length cx] 46 (0, 0)) ∧ RowKit.Below W.heap.size W u) ⟨heap_alloc_new _ _, (RowKit.Below.refl _ _).alloc (Nat.le_refl _) _⟩ ?_
  rintro w1 ⟨hx1, hb1⟩
  obtain ⟨p0, p1, p2, p3, p4, p5, p6⟩ := seven_cells hx1
  have HX1 := hid hx1
  have HB1 := hid hb1
  clear hx1 hb1
  go_wp2_with fail
  refine (HPL.out w1 HB1.out).mono ?_
  rintro e w2 ⟨rfl, hb2⟩
  have HB2 := hid (HB1.out.trans (hb2.mono HB1.out.size))
  have HX2 := hid (keep0 HX1.out hb2)
  have HR2 := hid (HR.out.keep HB2.out)
  have hbs : b ≤ w2.heap.size := Nat.le_trans hb HB2.out.size
  clear hb2 HB1 HX1 HR HPL p0 p1 p2 p3 p4 p5 p6
  obtain ⟨p0, p1, p2, p3, p4, p5, p6⟩ := seven_cells HX2.out
  obtain ⟨g, off, rfl, c0, c1, c2, c3, c4, c5⟩ := HR2.out.inBk.el i hi
  obtain ⟨g9, cap9, hg9, _⟩ := own_open HR2.out.1 (by omega) (by omega)
  cases hg9
  simp only [Nat.zero_add] at c0 c1 c2 c3 c4 c5
  have hi2 : (i : Int) < (xs.length : Int) := by omega
  have i0 : ¬ (i : Int) < 0 := by omega
  have hOE := HR2.out.2.1 xs[i] (List.getElem_mem hi)
  rw [if_neg (by omega)] at hwt
  have htk := why_task hwt
  simp only at htk
  obtain ⟨tn, rfl⟩ := Int.eq_ofNat_of_zero_le ht.1
  have htb : tn < xs[i].1.bd.length := by unfold tkB at htk; omega
  have htd : tn < xs[i].1.dn.length := by unfold tkB at htk; omega
  obtain ⟨q, capq, hq, hbq, _, _, hcell, hset, _⟩ := own_open hOE.2.1 (by omega) (by omega)
  obtain ⟨cq, fq⟩ := hcell tn (by rw [icells_length]; exact htb)
  have hQ : xs[i].2.B = some ⟨q, 0, none⟩ := by injection hq
  have hST := hset tn (.int .i64 (wk + 1))
  have hwr : IntKind.i64.wrap (wk + 1) = wk + 1 := by simp [IntKind.wrap, IntKind.bits, IntKind.signed]; omega
  have hdr : RowKit.Below (w2.setCell ⟨q, tn, none⟩ (.int .i64 (wk + 1))).heap.size (w2.setCell ⟨q, tn, none⟩ (.int .i64 (wk + 1))) (w2.setCell ⟨q, tn, none⟩ (.int .i64 (wk + 1))).drew := below_drew (RowKit.Below.refl _ _)
  rw [← icells_set] at hST
  have HN := hid (HR2.out.wrB i hi (xs[i].1.bd.set tn (wk + 1)) (by simp) (show blk xs[i].2.B = some q by rw [hQ]; rfl) ((tch_setB w2 q tn (.int .i64 (wk + 1))).grow hdr) (own_keep hST hdr))
  have HBF := hid ((HB2.out.mono hb).trans (below_drew ((RowKit.Below.refl b w2).setCell (p := ⟨q, tn, none⟩) hbq (.int .i64 (wk + 1)))))
  rw [hQ] at c4
  have hbt2 : (tn : Int) < (xs[i].1.bd.length : Int) := by omega
  have t0 : ¬ (tn : Int) < 0 := by omega
  clear hcell hset htd hOE hwt htk hST hdr hq hbq
  go_upto_region 7 with (fail)
  go_region
  all_goals go_wp2
  all_goals go_ret
  all_goals exact ⟨some ⟨g, 0, none⟩, c, xs.set i (⟨xs[i].1.id, xs[i].1.sc, xs[i].1.ep, xs[i].1.ns, xs[i].1.bd.set tn (wk + 1), xs[i].1.dn⟩, xs[i].2), by rw [List.length_set]; rfl, by rw [HAP.out, List.map_set]; rfl, by rw [List.length_set]; exact HN.out, HBF.out⟩

set_option maxRecDepth 20000 in
set_option maxHeartbeats 4000000 in
theorem bappl3 (A : Option Addr) (c : Nat) (xs : List Ee) (x : Rc) (Ax : Option Addr) (cx b : Nat) (W : World) (h : RowBk W b (.slice A xs.length c) xs) (hb : b ≤ W.heap.size) (hx : TxAt W Ax cx x.ns) (hc : chkR x = true) (hw : whyB (xs.map (·.1)) x = 0) (hk : x.k = 3) :
    Calls Tryz.prog 50 #[.slice A xs.length c, .agg (rcc x Ax cx)] W (AplR W b xs x) := by
  have hk1 : x.k ≠ 1 := by omega
  obtain ⟨i, hp⟩ := why_place hc hw hk1
  obtain ⟨hi', hj1, hj2⟩ := plB_some hp
  have hi : i < xs.length := by simpa using hi'
  have hwt : (if x.k = 4 then (if x.e - 1 ≠ (xs[i]'hi).1.ep then (12 : Int) else 0) else whyT (xs[i]'hi).1 x) = 0 := by
    have h9 := why_at hc hw hi' hk1 hp
    rwa [List.getElem_map] at h9
  have HAP := hid (appB_at hi hk1 hp)
  have HPL := hid (fun w (hw : RowKit.Below W.heap.size W w) => bplace_any A c xs x.j w (h.inBk.below hw))
  have HPI : Hid (plI (xs.map (·.1)) x.j = (i : Int)) := hid (by unfold plI; rw [hp])
  rw [HPI.out] at HPL
  obtain ⟨_, _, hwk, he4, _, ht⟩ := chk_parts2 hc
  have HR := hid h
  have hxl : xs.length ≤ 9223372036854775807 := by have := h.inBk.len; unfold maxLen at this; omega
  clear h hx hc hw hp hj1 hj2 hi' HPI
  obtain ⟨k, j, t, wk, s, ee, ns⟩ := x
  simp only at hk ht hwk he4 hwt hk1
  subst hk
  simp only [rcc]
  go_enter Tryz.func50, Tryz.ntmps50
  go_upto_region 1 with (fail)
  refine at_world (fun u => u.heap[W.heap.size]? = some (.cells #[.int .i64 3, .int .i64 j, .int .i64 t, .int .i64 wk, .int .i64 s, .int .i64 ee, .slice Ax ns.length cx] 46 (0, 0)) ∧ RowKit.Below W.heap.size W u) ⟨heap_alloc_new _ _, (RowKit.Below.refl _ _).alloc (Nat.le_refl _) _⟩ ?_
  rintro w1 ⟨hx1, hb1⟩
  obtain ⟨p0, p1, p2, p3, p4, p5, p6⟩ := seven_cells hx1
  have HX1 := hid hx1
  have HB1 := hid hb1
  clear hx1 hb1
  go_wp2_with fail
  refine (HPL.out w1 HB1.out).mono ?_
  rintro e w2 ⟨rfl, hb2⟩
  have HB2 := hid (HB1.out.trans (hb2.mono HB1.out.size))
  have HX2 := hid (keep0 HX1.out hb2)
  have HR2 := hid (HR.out.keep HB2.out)
  have hbs : b ≤ w2.heap.size := Nat.le_trans hb HB2.out.size
  clear hb2 HB1 HX1 HR HPL p0 p1 p2 p3 p4 p5 p6
  obtain ⟨p0, p1, p2, p3, p4, p5, p6⟩ := seven_cells HX2.out
  obtain ⟨g, off, rfl, c0, c1, c2, c3, c4, c5⟩ := HR2.out.inBk.el i hi
  obtain ⟨g9, cap9, hg9, _⟩ := own_open HR2.out.1 (by omega) (by omega)
  cases hg9
  simp only [Nat.zero_add] at c0 c1 c2 c3 c4 c5
  have hi2 : (i : Int) < (xs.length : Int) := by omega
  have i0 : ¬ (i : Int) < 0 := by omega
  have hOE := HR2.out.2.1 xs[i] (List.getElem_mem hi)
  rw [if_neg (by omega)] at hwt
  have htk := why_task hwt
  simp only at htk
  obtain ⟨tn, rfl⟩ := Int.eq_ofNat_of_zero_le ht.1
  have htb : tn < xs[i].1.bd.length := by unfold tkB at htk; omega
  have htd : tn < xs[i].1.dn.length := by unfold tkB at htk; omega
  obtain ⟨q, capq, hq, hbq, _, _, hcell, hset, _⟩ := own_open hOE.2.2 (by omega) (by omega)
  obtain ⟨cq, fq⟩ := hcell tn (by rw [blcells_length]; exact htd)
  have hQ : xs[i].2.D = some ⟨q, 0, none⟩ := by injection hq
  have hST := hset tn (.bool true)
  have hdr : RowKit.Below (w2.setCell ⟨q, tn, none⟩ (.bool true)).heap.size (w2.setCell ⟨q, tn, none⟩ (.bool true)) (w2.setCell ⟨q, tn, none⟩ (.bool true)).drew := below_drew (RowKit.Below.refl _ _)
  rw [← blcells_set] at hST
  have HN := hid (HR2.out.wrD i hi (xs[i].1.dn.set tn true) (by simp) (show blk xs[i].2.D = some q by rw [hQ]; rfl) ((tch_setB w2 q tn (.bool true)).grow hdr) (own_keep hST hdr))
  have HBF := hid ((HB2.out.mono hb).trans (below_drew ((RowKit.Below.refl b w2).setCell (p := ⟨q, tn, none⟩) hbq (.bool true))))
  rw [hQ] at c5
  have hbt2 : (tn : Int) < (xs[i].1.dn.length : Int) := by omega
  have t0 : ¬ (tn : Int) < 0 := by omega
  clear hcell hset htb hOE hwt htk hST hdr hq hbq
  go_upto_region 9 with (fail)
  go_region
  all_goals go_wp2
  all_goals go_ret
  all_goals exact ⟨some ⟨g, 0, none⟩, c, xs.set i (⟨xs[i].1.id, xs[i].1.sc, xs[i].1.ep, xs[i].1.ns, xs[i].1.bd, xs[i].1.dn.set tn true⟩, xs[i].2), by rw [List.length_set]; rfl, by rw [HAP.out, List.map_set]; rfl, by rw [List.length_set]; exact HN.out, HBF.out⟩

set_option maxRecDepth 20000 in
set_option maxHeartbeats 4000000 in
theorem bappl4 (A : Option Addr) (c : Nat) (xs : List Ee) (x : Rc) (Ax : Option Addr) (cx b : Nat) (W : World) (h : RowBk W b (.slice A xs.length c) xs) (hb : b ≤ W.heap.size) (hx : TxAt W Ax cx x.ns) (hc : chkR x = true) (hw : whyB (xs.map (·.1)) x = 0) (hk : x.k = 4) :
    Calls Tryz.prog 50 #[.slice A xs.length c, .agg (rcc x Ax cx)] W (AplR W b xs x) := by
  have hk1 : x.k ≠ 1 := by omega
  obtain ⟨i, hp⟩ := why_place hc hw hk1
  obtain ⟨hi', hj1, hj2⟩ := plB_some hp
  have hi : i < xs.length := by simpa using hi'
  have hwt : (if x.k = 4 then (if x.e - 1 ≠ (xs[i]'hi).1.ep then (12 : Int) else 0) else whyT (xs[i]'hi).1 x) = 0 := by
    have h9 := why_at hc hw hi' hk1 hp
    rwa [List.getElem_map] at h9
  have HAP := hid (appB_at hi hk1 hp)
  have HPL := hid (fun w (hw : RowKit.Below W.heap.size W w) => bplace_any A c xs x.j w (h.inBk.below hw))
  have HPI : Hid (plI (xs.map (·.1)) x.j = (i : Int)) := hid (by unfold plI; rw [hp])
  rw [HPI.out] at HPL
  obtain ⟨_, _, hwk, he4, _, ht⟩ := chk_parts2 hc
  have HR := hid h
  have hxl : xs.length ≤ 9223372036854775807 := by have := h.inBk.len; unfold maxLen at this; omega
  clear h hx hc hw hp hj1 hj2 hi' HPI
  obtain ⟨k, j, t, wk, s, ee, ns⟩ := x
  simp only at hk ht hwk he4 hwt hk1
  subst hk
  simp only [rcc]
  go_enter Tryz.func50, Tryz.ntmps50
  go_upto_region 1 with (fail)
  refine at_world (fun u => u.heap[W.heap.size]? = some (.cells #[.int .i64 4, .int .i64 j, .int .i64 t, .int .i64 wk, .int .i64 s, .int .i64 ee, .slice Ax ns.length cx] 46 (0, 0)) ∧ RowKit.Below W.heap.size W u) ⟨heap_alloc_new _ _, (RowKit.Below.refl _ _).alloc (Nat.le_refl _) _⟩ ?_
  rintro w1 ⟨hx1, hb1⟩
  obtain ⟨p0, p1, p2, p3, p4, p5, p6⟩ := seven_cells hx1
  have HX1 := hid hx1
  have HB1 := hid hb1
  clear hx1 hb1
  go_wp2_with fail
  refine (HPL.out w1 HB1.out).mono ?_
  rintro e w2 ⟨rfl, hb2⟩
  have HB2 := hid (HB1.out.trans (hb2.mono HB1.out.size))
  have HX2 := hid (keep0 HX1.out hb2)
  have HR2 := hid (HR.out.keep HB2.out)
  have hbs : b ≤ w2.heap.size := Nat.le_trans hb HB2.out.size
  clear hb2 HB1 HX1 HR HPL p0 p1 p2 p3 p4 p5 p6
  obtain ⟨p0, p1, p2, p3, p4, p5, p6⟩ := seven_cells HX2.out
  obtain ⟨g, off, rfl, c0, c1, c2, c3, c4, c5⟩ := HR2.out.inBk.el i hi
  obtain ⟨g9, cap9, hg9, _⟩ := own_open HR2.out.1 (by omega) (by omega)
  cases hg9
  simp only [Nat.zero_add] at c0 c1 c2 c3 c4 c5
  have hi2 : (i : Int) < (xs.length : Int) := by omega
  have i0 : ¬ (i : Int) < 0 := by omega
  have hOE := HR2.out.2.1 xs[i] (List.getElem_mem hi)
  obtain ⟨g8, cap8, hg8, hbg, _, _, hcell, hset, _⟩ := own_open HR2.out.1 (by omega) (by omega)
  cases hg8
  have hgl := gcells_length (f := ebl) (n := 6) ebl_len xs
  have hlt : i * 6 + 6 ≤ xs.length * 6 := by rw [← Nat.succ_mul]; exact Nat.mul_le_mul_right _ hi
  obtain ⟨d1, f1⟩ := hcell (i * 6 + 1) (by omega)
  obtain ⟨d2, f2⟩ := hcell (i * 6 + 2) (by omega)
  have hST := hset (i * 6 + 1) (.int .i64 s)
  obtain ⟨g7, cap7, hg7, _, _, _, hcell7, hset7, _⟩ := own_open hST (by omega) (by omega)
  cases hg7
  have hST2 := hset7 (i * 6 + 2) (.int .i64 ee)
  have hdr : ∀ w : World, RowKit.Below w.heap.size w w.drew := fun w => below_drew (RowKit.Below.refl _ _)
  have HT2 : Tch (fun q => (Value.slice (some ⟨g, 0, none⟩) xs.length c).ownBlock = some q) w2 ((w2.setCell ⟨g, i * 6 + 1, none⟩ (.int .i64 s)).setCell ⟨g, i * 6 + 2, none⟩ (.int .i64 ee)) := ((Tch.refl (fun q => (Value.slice (some ⟨g, 0, none⟩) xs.length c).ownBlock = some q) w2).set g (i * 6 + 1) _ (fun _ => rfl)).set g (i * 6 + 2) _ (fun _ => rfl)
  have HN := hid (HR2.out.wrE i hi s ee (HT2.grow (hdr _)) (own_keep hST2 (hdr _)))
  have HBF := hid ((HB2.out.mono hb).trans (below_drew (((RowKit.Below.refl b w2).setCell (p := ⟨g, i * 6 + 1, none⟩) hbg (.int .i64 s)).setCell (p := ⟨g, i * 6 + 2, none⟩) hbg (.int .i64 ee))))
  clear d1 d2 hcell hcell7 hset hset7 hgl hOE hwt hST hST2 HT2 hdr hbg
  go_upto_region 11 with (fail)
  go_region
  all_goals go_wp2
  all_goals go_ret
  all_goals exact ⟨some ⟨g, 0, none⟩, c, xs.set i (⟨xs[i].1.id, s, ee, xs[i].1.ns, xs[i].1.bd, xs[i].1.dn⟩, xs[i].2), by rw [List.length_set]; rfl, by rw [HAP.out, List.map_set]; rfl, by rw [List.length_set]; exact HN.out, HBF.out⟩

set_option maxRecDepth 20000 in
set_option maxHeartbeats 8000000 in
theorem bappl1 (A : Option Addr) (c : Nat) (xs : List Ee) (x : Rc) (Ax : Option Addr) (cx b : Nat) (W : World) (h : RowBk W b (.slice A xs.length c) xs) (hb : b ≤ W.heap.size) (hx : TxAt W Ax cx x.ns) (hn : xs.length ≤ 100000) (hc : chkR x = true) (hk : x.k = 1) :
    Calls Tryz.prog 50 #[.slice A xs.length c, .agg (rcc x Ax cx)] W (AplR W b xs x) := by
  have HAP : Hid (appB (xs.map (·.1)) x = xs.map (·.1) ++ [newB x]) := hid (if_pos hk)
  have HPL := hid (fun w (hw : RowKit.Below W.heap.size W w) => bplace_any A c xs x.j w (h.inBk.below hw))
  have hnn := (chkR_ns hc).1
  have HNS := hid (chkR_ns hc).2
  have HR := hid h
  have HX := hid hx
  clear h hx hc
  obtain ⟨k, j, t, wk, s, ee, ns⟩ := x
  simp only at hk hnn HNS HX
  subst hk
  simp only [rcc]
  go_enter Tryz.func50, Tryz.ntmps50
  go_upto_region 1 with (fail)
  refine at_world (fun u => u.heap[W.heap.size]? = some (.cells #[.int .i64 1, .int .i64 j, .int .i64 t, .int .i64 wk, .int .i64 s, .int .i64 ee, .slice Ax ns.length cx] 46 (0, 0)) ∧ RowKit.Below W.heap.size W u) ⟨heap_alloc_new _ _, (RowKit.Below.refl _ _).alloc (Nat.le_refl _) _⟩ ?_
  rintro w1 ⟨hx1, hb1⟩
  obtain ⟨p0, p1, p2, p3, p4, p5, p6⟩ := seven_cells hx1
  have HX1 := hid hx1
  have HB1 := hid hb1
  clear hx1 hb1
  go_wp2_with fail
  refine (HPL.out w1 HB1.out).mono ?_
  rintro e w2 ⟨rfl, hb2⟩
  have HB2 := hid (HB1.out.trans (hb2.mono HB1.out.size))
  have HX2 := hid (keep0 HX1.out hb2)
  have HR2 := hid (HR.out.keep HB2.out)
  have HTX := hid (HX.out.below HB2.out)
  have hbs : b ≤ w2.heap.size := Nat.le_trans hb HB2.out.size
  clear hb2 HB1 HX1 HR HPL HX p0 p1 p2 p3 p4 p5 p6
  obtain ⟨p0, p1, p2, p3, p4, p5, p6⟩ := seven_cells HX2.out
  have HCS := hid (fun w (hw : RowKit.Below w2.heap.size w2 w) => clone_strB Ax ns.length cx (scells ns) w ((HTX.out.below hw).1) (scells_one _) (by omega))
  generalize plI (xs.map (·.1)) j = pli at *
  generalize hnl : ns.length = n at *
  have HNL := hid hnl
  clear hnl
  have hmk1 := run_make_1 (P := Tryz.prog) 52 3 Tryz.underlying52 info_int rfl n n (Nat.le_refl _) (by omega) (by unfold maxLen; omega)
  have hmk2 := run_make_1 (P := Tryz.prog) 53 4 Tryz.underlying53 info_bool rfl n n (Nat.le_refl _) (by omega) (by unfold maxLen; omega)
  go_upto_region 5 with (fail)
  clear p0 p1 p2 p3 p4 p5 p6
  have hNlt : W.heap.size < w2.heap.size := lt_of_block HX2.out
  generalize hNN : W.heap.size = N at *
  have HNN := hid hNN
  clear hNN
  have hNG : ¬ (Value.slice A xs.length c).ownBlock = some N := fun h9 => own_apart_blk HR2.out.1 HX2.out (by decide) N h9 rfl
  have hS : ∀ U, Tch (fun q => (Value.slice A xs.length c).ownBlock = some q) w2 U → ((U.cell? ⟨N, 1, none⟩ = some (.int .i64 j) ∧ U.cell? ⟨N, 4, none⟩ = some (.int .i64 s) ∧ U.cell? ⟨N, 6, none⟩ = some (.slice Ax n cx)) ∧ Tch (fun q => (Value.slice A xs.length c).ownBlock = some q) w2 U) := fun U hU => by
    obtain ⟨_, h1, _, _, h4, _, h6⟩ := seven_cells (hU.block HX2.out hNG)
    exact ⟨⟨h1, h4, h6⟩, hU⟩
  have hu0 : RowKit.Below w2.heap.size w2 w2.drew := below_drew (RowKit.Below.refl _ _)
  refine wp_region_held_drew (S := fun U => (U.cell? ⟨N, 1, none⟩ = some (.int .i64 j) ∧ U.cell? ⟨N, 4, none⟩ = some (.int .i64 s) ∧ U.cell? ⟨N, 6, none⟩ = some (.slice Ax n cx)) ∧ Tch (fun q => (Value.slice A xs.length c).ownBlock = some q) w2 U) (by kernel_rfl) (hS _ (Tch.of_below hu0)) (fun hHeld => ?_)
  generalize w2.drew = u0 at *
  refine tkA 0 ?_ rfl ?_ (by assumption) ?_; rotate_left; focus (intro U hU; (try dsimp only at hU); go_simp; try (with_reducible rfl))
  simp only [gt6, Act.put]
  refine tkA 1 ?_ rfl ?_ (by assumption) ?_; rotate_left; focus (intro U hU; (try dsimp only at hU); go_simp; try (with_reducible rfl))
  simp only [gt6, Act.put]
  refine tkA 2 ?_ rfl ?_ (by assumption) ?_; rotate_left; focus (intro U hU; (try dsimp only at hU); go_simp; try (with_reducible rfl))
  simp only [gt6, Act.put]
  refine tkA 3 ?_ rfl ?_ (by assumption) ?_; rotate_left; focus (intro U hU; (try dsimp only at hU); go_simp; try (with_reducible rfl))
  simp only [gt6, Act.put]
  refine tkA 4 ?_ rfl ?_ (by assumption) ?_; rotate_left; focus (intro U hU; (try dsimp only at hU); go_simp; try (with_reducible rfl))
  simp only [gt6, Act.put]
  refine tkA 5 ?_ rfl ?_ (by assumption) ?_; rotate_left; focus (intro U hU; (try dsimp only at hU); go_simp; try (with_reducible rfl))
  simp only [gt6, Act.put]
  refine tkA 6 ?_ rfl ?_ (by assumption) ?_; rotate_left; focus (intro U hU; (try dsimp only at hU); go_simp; try (with_reducible rfl))
  simp only [gt6, Act.put]
  refine tkA 8 ?_ rfl ?_ (by assumption) ?_; rotate_left; focus (intro U hU; (try dsimp only at hU); go_simp; try (with_reducible rfl))
  simp only [gt6, Act.put]
  refine tkA 10 ?_ rfl ?_ (by assumption) ?_; rotate_left; focus (intro U hU; (try dsimp only at hU); go_simp; try (with_reducible rfl))
  simp only [gt6, Act.put]
  refine wpAnyH_ready (rs := [7, 9, 11]) (by kernel_rfl) (by simp) ?_
  refine (AllReadyH.cons rfl (fun K hK => ?_) (AllReadyH.cons rfl (fun K hK => ?_) (AllReadyH.cons rfl (fun K hK => ?_) AllReadyH.nil)))
  · skip
    simp only [gt3]
    go_simp
    refine (HCS.out u0 hu0).mono ?_
    rintro q u1 ⟨v2, rfl, gg, hsn⟩
    obtain ⟨A2, c2, rfl, _⟩ := Sl.of_own hsn
    have hu1 := hu0.trans (gg.mono hu0.size)
    replace hsn := own_mono hsn hu0.size
    clear gg
    go_wp2_with fail
    refine hK.out _ _ ?_ (fun hHeld2 => ?_)
    focus
      exact hS _ (Tch.of_below hu1)
    clear hHeld
    have hHeld := hHeld2
    clear hHeld2 hK K
    try simp only [gt6, Act.put]
    refine wpAnyH_ready (rs := [9, 11]) (by kernel_rfl) (by simp) ?_
    refine (AllReadyH.cons rfl (fun K hK => ?_) (AllReadyH.cons rfl (fun K hK => ?_) AllReadyH.nil))
    · skip
      simp only [gt3]
      go_simp
      refine hK.out _ _ ?_ (fun hHeld2 => ?_)
      focus
        exact hS _ (Tch.of_below (hu1.alloc hu1.size _))
      clear hHeld
      have hHeld := hHeld2
      clear hHeld2 hK K
      try simp only [gt6, Act.put]
      have gg : RowKit.Below (World.heap u1).size u1 (World.alloc u1 (.cells (Array.replicate n (.int .i64 0)) 3 (0, 0))) := (RowKit.Below.refl _ _).alloc (Nat.le_refl _) _
      have hu2 := hu1.trans (gg.mono hu1.size)
      have hsb : (World.alloc u1 (.cells (Array.replicate n (.int .i64 0)) 3 (0, 0))).ownsRow w2.heap.size 3 1 (.slice (some ⟨(World.heap u1).size, 0, none⟩) n n) n (icells .i64 (List.replicate n 0)) := own_rep (heap_alloc_new u1 _) hu1.size (by unfold maxLen; omega) (by simp [icells, blcells])
      replace hsn := own_keep hsn gg
      clear gg
      generalize World.alloc u1 (.cells (Array.replicate n (.int .i64 0)) 3 (0, 0)) = u2 at *
      generalize (World.heap u1).size = M1 at *
      refine wpAnyH_ready (rs := [11]) (by kernel_rfl) (by simp) ?_
      refine (AllReadyH.cons rfl (fun K hK => ?_) AllReadyH.nil)
      simp only [gt3]
      go_simp
      refine hK.out _ _ ?_ (fun hHeld2 => ?_)
      focus
        exact hS _ (Tch.of_below (hu2.alloc hu2.size _))
      clear hHeld
      have hHeld := hHeld2
      clear hHeld2 hK K
      try simp only [gt6, Act.put]
      have gg : RowKit.Below (World.heap u2).size u2 (World.alloc u2 (.cells (Array.replicate n (.bool false)) 4 (0, 0))) := (RowKit.Below.refl _ _).alloc (Nat.le_refl _) _
      have hu3 := hu2.trans (gg.mono hu2.size)
      have hsd : (World.alloc u2 (.cells (Array.replicate n (.bool false)) 4 (0, 0))).ownsRow w2.heap.size 4 1 (.slice (some ⟨(World.heap u2).size, 0, none⟩) n n) n (blcells (List.replicate n false)) := own_rep (heap_alloc_new u2 _) hu2.size (by unfold maxLen; omega) (by simp [icells, blcells])
      replace hsn := own_keep hsn gg
      replace hsb := own_keep hsb gg
      clear gg
      generalize World.alloc u2 (.cells (Array.replicate n (.bool false)) 4 (0, 0)) = u3 at *
      generalize (World.heap u2).size = M2 at *
      refine tkA 12 ?_ rfl ?_ (by assumption) ?_; rotate_left; focus (intro U hU; (try dsimp only at hU); go_simp; try (with_reducible rfl))
      simp only [gt6, Act.put]
      refine wpAnyH_ready (rs := [13]) (by kernel_rfl) (by simp) ?_
      refine (AllReadyH.cons rfl (fun K hK => ?_) AllReadyH.nil)
      simp only [gt3]
      go_simp
      refine hK.out _ _ ?_ (fun hHeld2 => ?_)
      focus
        exact hS _ (Tch.of_below (hu3.alloc hu3.size _))
      clear hHeld
      have hHeld := hHeld2
      clear hHeld2 hK K
      try simp only [gt6, Act.put]
      have gg : RowKit.Below (World.heap u3).size u3 (World.alloc u3 (.cells #[.int .i64 j, .int .i64 s, .int .i64 1, .slice A2 n c2, .slice (some ⟨M1, 0, none⟩) n n, .slice (some ⟨M2, 0, none⟩) n n] 55 (0, 0))) := (RowKit.Below.refl _ _).alloc (Nat.le_refl _) _
      have hu4 := hu3.trans (gg.mono hu3.size)
      have hx9 := heap_alloc_new u3 (.cells #[.int .i64 j, .int .i64 s, .int .i64 1, .slice A2 n c2, .slice (some ⟨M1, 0, none⟩) n n, .slice (some ⟨M2, 0, none⟩) n n] 55 (0, 0))
      replace hsn := own_keep hsn gg
      replace hsb := own_keep hsb gg
      replace hsd := own_keep hsd gg
      clear gg
      generalize World.alloc u3 (.cells #[.int .i64 j, .int .i64 s, .int .i64 1, .slice A2 n c2, .slice (some ⟨M1, 0, none⟩) n n, .slice (some ⟨M2, 0, none⟩) n n] 55 (0, 0)) = u4 at *
      generalize (World.heap u3).size = N9 at *
      refine wpAnyH_ready (rs := [14]) (by kernel_rfl) (by simp) ?_
      refine (AllReadyH.cons rfl (fun K hK => ?_) AllReadyH.nil)
      refine step_append_slw rfl (.tmp 18) (.tmp 31) 60 rfl b 55 Tryz.underlying60 info_entry rfl (by omega) rfl (own_keep HR2.out.1 hu4) rfl (sl_blk6 hx9) (by simp [Value.oneCell']) ?c1 ?c2 ?c3 ?_
      case c1 => unfold maxLen; omega
      case c2 => omega
      case c3 => have := hu4.size; omega
      intro v5 w6 ho5 ht5 hw5
      have hk6 : Tch (fun q => (Value.slice A xs.length c).ownBlock = some q) w2 w6 := (Tch.of_below hu4).trans ht5 (fun g hg _ => hg)
      have HOE : OwE u4 w2.heap.size (newB ⟨1, j, t, wk, s, ee, ns⟩, ⟨A2, c2, some ⟨M1, 0, none⟩, n, some ⟨M2, 0, none⟩, n⟩) := ⟨⟨by simpa [newB, HNL.out] using hsn, fun z hz => Nat.le_trans (HNS.out z (by simpa [newB] using hz)) (by unfold maxLen; omega)⟩, by simpa [newB, HNL.out] using hsb, by simpa [newB, HNL.out] using hsd⟩
      have HO6 : RowBk w6 b v5 (xs ++ [(newB ⟨1, j, t, wk, s, ee, ns⟩, ⟨A2, c2, some ⟨M1, 0, none⟩, n, some ⟨M2, 0, none⟩, n⟩)]) := (HR2.out.keep hu4).push (HOE.mono hbs) (fun y hy => sepE (HR2.out.2.1 y hy) HOE (Nat.le_refl _)) (by simpa [ebl, newB, HNL.out] using ho5) (fun g _ hl hne => ht5.keep g hne hl)
      have HBF := hk6.below b (fun g hg _ => (own_lt HR2.out.1 g hg).1) hbs
      clear ht5 hw5 ho5 hsn hsb hsd hx9 HOE
      obtain ⟨A6, c6, rfl, _⟩ := Sl.of_own HO6.1
      refine hK.out _ _ ?_ (fun hHeld2 => ?_)
      focus
        exact hS _ hk6
      clear hHeld
      have hHeld := hHeld2
      clear hHeld2 hK K
      try simp only [gt6, Act.put]
      refine tkA 15 ?_ rfl ?_ (by assumption) ?_; rotate_left; focus (intro U hU; (try dsimp only at hU); go_simp; try (with_reducible rfl))
      simp only [gt6, Act.put]
      refine wpAnyH_done (by kernel_rfl) ?_ _
      clear hHeld hS hmk1 hmk2
      go_wp2
      go_ret
      refine ⟨A6, c6, xs ++ [(newB ⟨1, j, t, wk, s, ee, ns⟩, ⟨A2, c2, some ⟨M1, 0, none⟩, n, some ⟨M2, 0, none⟩, n⟩)], by rw [List.length_append]; rfl, by rw [HAP.out, List.map_append]; rfl, HO6, ?_⟩
      exact ((HNN.out ▸ HB2.out : RowKit.Below N W w2).mono hb).trans HBF
    · skip
      simp only [gt3]
      go_simp
      refine hK.out _ _ ?_ (fun hHeld2 => ?_)
      focus
        exact hS _ (Tch.of_below (hu1.alloc hu1.size _))
      clear hHeld
      have hHeld := hHeld2
      clear hHeld2 hK K
      try simp only [gt6, Act.put]
      have gg : RowKit.Below (World.heap u1).size u1 (World.alloc u1 (.cells (Array.replicate n (.bool false)) 4 (0, 0))) := (RowKit.Below.refl _ _).alloc (Nat.le_refl _) _
      have hu2 := hu1.trans (gg.mono hu1.size)
      have hsd : (World.alloc u1 (.cells (Array.replicate n (.bool false)) 4 (0, 0))).ownsRow w2.heap.size 4 1 (.slice (some ⟨(World.heap u1).size, 0, none⟩) n n) n (blcells (List.replicate n false)) := own_rep (heap_alloc_new u1 _) hu1.size (by unfold maxLen; omega) (by simp [icells, blcells])
      replace hsn := own_keep hsn gg
      clear gg
      generalize World.alloc u1 (.cells (Array.replicate n (.bool false)) 4 (0, 0)) = u2 at *
      generalize (World.heap u1).size = M2 at *
      refine wpAnyH_ready (rs := [9]) (by kernel_rfl) (by simp) ?_
      refine (AllReadyH.cons rfl (fun K hK => ?_) AllReadyH.nil)
      simp only [gt3]
      go_simp
      refine hK.out _ _ ?_ (fun hHeld2 => ?_)
      focus
        exact hS _ (Tch.of_below (hu2.alloc hu2.size _))
      clear hHeld
      have hHeld := hHeld2
      clear hHeld2 hK K
      try simp only [gt6, Act.put]
      have gg : RowKit.Below (World.heap u2).size u2 (World.alloc u2 (.cells (Array.replicate n (.int .i64 0)) 3 (0, 0))) := (RowKit.Below.refl _ _).alloc (Nat.le_refl _) _
      have hu3 := hu2.trans (gg.mono hu2.size)
      have hsb : (World.alloc u2 (.cells (Array.replicate n (.int .i64 0)) 3 (0, 0))).ownsRow w2.heap.size 3 1 (.slice (some ⟨(World.heap u2).size, 0, none⟩) n n) n (icells .i64 (List.replicate n 0)) := own_rep (heap_alloc_new u2 _) hu2.size (by unfold maxLen; omega) (by simp [icells, blcells])
      replace hsn := own_keep hsn gg
      replace hsd := own_keep hsd gg
      clear gg
      generalize World.alloc u2 (.cells (Array.replicate n (.int .i64 0)) 3 (0, 0)) = u3 at *
      generalize (World.heap u2).size = M1 at *
      refine tkA 12 ?_ rfl ?_ (by assumption) ?_; rotate_left; focus (intro U hU; (try dsimp only at hU); go_simp; try (with_reducible rfl))
      simp only [gt6, Act.put]
      refine wpAnyH_ready (rs := [13]) (by kernel_rfl) (by simp) ?_
      refine (AllReadyH.cons rfl (fun K hK => ?_) AllReadyH.nil)
      simp only [gt3]
      go_simp
      refine hK.out _ _ ?_ (fun hHeld2 => ?_)
      focus
        exact hS _ (Tch.of_below (hu3.alloc hu3.size _))
      clear hHeld
      have hHeld := hHeld2
      clear hHeld2 hK K
      try simp only [gt6, Act.put]
      have gg : RowKit.Below (World.heap u3).size u3 (World.alloc u3 (.cells #[.int .i64 j, .int .i64 s, .int .i64 1, .slice A2 n c2, .slice (some ⟨M1, 0, none⟩) n n, .slice (some ⟨M2, 0, none⟩) n n] 55 (0, 0))) := (RowKit.Below.refl _ _).alloc (Nat.le_refl _) _
      have hu4 := hu3.trans (gg.mono hu3.size)
      have hx9 := heap_alloc_new u3 (.cells #[.int .i64 j, .int .i64 s, .int .i64 1, .slice A2 n c2, .slice (some ⟨M1, 0, none⟩) n n, .slice (some ⟨M2, 0, none⟩) n n] 55 (0, 0))
      replace hsn := own_keep hsn gg
      replace hsb := own_keep hsb gg
      replace hsd := own_keep hsd gg
      clear gg
      generalize World.alloc u3 (.cells #[.int .i64 j, .int .i64 s, .int .i64 1, .slice A2 n c2, .slice (some ⟨M1, 0, none⟩) n n, .slice (some ⟨M2, 0, none⟩) n n] 55 (0, 0)) = u4 at *
      generalize (World.heap u3).size = N9 at *
      refine wpAnyH_ready (rs := [14]) (by kernel_rfl) (by simp) ?_
      refine (AllReadyH.cons rfl (fun K hK => ?_) AllReadyH.nil)
      refine step_append_slw rfl (.tmp 18) (.tmp 31) 60 rfl b 55 Tryz.underlying60 info_entry rfl (by omega) rfl (own_keep HR2.out.1 hu4) rfl (sl_blk6 hx9) (by simp [Value.oneCell']) ?c1 ?c2 ?c3 ?_
      case c1 => unfold maxLen; omega
      case c2 => omega
      case c3 => have := hu4.size; omega
      intro v5 w6 ho5 ht5 hw5
      have hk6 : Tch (fun q => (Value.slice A xs.length c).ownBlock = some q) w2 w6 := (Tch.of_below hu4).trans ht5 (fun g hg _ => hg)
      have HOE : OwE u4 w2.heap.size (newB ⟨1, j, t, wk, s, ee, ns⟩, ⟨A2, c2, some ⟨M1, 0, none⟩, n, some ⟨M2, 0, none⟩, n⟩) := ⟨⟨by simpa [newB, HNL.out] using hsn, fun z hz => Nat.le_trans (HNS.out z (by simpa [newB] using hz)) (by unfold maxLen; omega)⟩, by simpa [newB, HNL.out] using hsb, by simpa [newB, HNL.out] using hsd⟩
      have HO6 : RowBk w6 b v5 (xs ++ [(newB ⟨1, j, t, wk, s, ee, ns⟩, ⟨A2, c2, some ⟨M1, 0, none⟩, n, some ⟨M2, 0, none⟩, n⟩)]) := (HR2.out.keep hu4).push (HOE.mono hbs) (fun y hy => sepE (HR2.out.2.1 y hy) HOE (Nat.le_refl _)) (by simpa [ebl, newB, HNL.out] using ho5) (fun g _ hl hne => ht5.keep g hne hl)
      have HBF := hk6.below b (fun g hg _ => (own_lt HR2.out.1 g hg).1) hbs
      clear ht5 hw5 ho5 hsn hsb hsd hx9 HOE
      obtain ⟨A6, c6, rfl, _⟩ := Sl.of_own HO6.1
      refine hK.out _ _ ?_ (fun hHeld2 => ?_)
      focus
        exact hS _ hk6
      clear hHeld
      have hHeld := hHeld2
      clear hHeld2 hK K
      try simp only [gt6, Act.put]
      refine tkA 15 ?_ rfl ?_ (by assumption) ?_; rotate_left; focus (intro U hU; (try dsimp only at hU); go_simp; try (with_reducible rfl))
      simp only [gt6, Act.put]
      refine wpAnyH_done (by kernel_rfl) ?_ _
      clear hHeld hS hmk1 hmk2
      go_wp2
      go_ret
      refine ⟨A6, c6, xs ++ [(newB ⟨1, j, t, wk, s, ee, ns⟩, ⟨A2, c2, some ⟨M1, 0, none⟩, n, some ⟨M2, 0, none⟩, n⟩)], by rw [List.length_append]; rfl, by rw [HAP.out, List.map_append]; rfl, HO6, ?_⟩
      exact ((HNN.out ▸ HB2.out : RowKit.Below N W w2).mono hb).trans HBF
  · skip
    simp only [gt3]
    go_simp
    refine hK.out _ _ ?_ (fun hHeld2 => ?_)
    focus
      exact hS _ (Tch.of_below (hu0.alloc hu0.size _))
    clear hHeld
    have hHeld := hHeld2
    clear hHeld2 hK K
    try simp only [gt6, Act.put]
    have gg : RowKit.Below (World.heap u0).size u0 (World.alloc u0 (.cells (Array.replicate n (.int .i64 0)) 3 (0, 0))) := (RowKit.Below.refl _ _).alloc (Nat.le_refl _) _
    have hu1 := hu0.trans (gg.mono hu0.size)
    have hsb : (World.alloc u0 (.cells (Array.replicate n (.int .i64 0)) 3 (0, 0))).ownsRow w2.heap.size 3 1 (.slice (some ⟨(World.heap u0).size, 0, none⟩) n n) n (icells .i64 (List.replicate n 0)) := own_rep (heap_alloc_new u0 _) hu0.size (by unfold maxLen; omega) (by simp [icells, blcells])
    clear gg
    generalize World.alloc u0 (.cells (Array.replicate n (.int .i64 0)) 3 (0, 0)) = u1 at *
    generalize (World.heap u0).size = M1 at *
    refine wpAnyH_ready (rs := [7, 11]) (by kernel_rfl) (by simp) ?_
    refine (AllReadyH.cons rfl (fun K hK => ?_) (AllReadyH.cons rfl (fun K hK => ?_) AllReadyH.nil))
    · skip
      simp only [gt3]
      go_simp
      refine (HCS.out u1 hu1).mono ?_
      rintro q u2 ⟨v2, rfl, gg, hsn⟩
      obtain ⟨A2, c2, rfl, _⟩ := Sl.of_own hsn
      have hu2 := hu1.trans (gg.mono hu1.size)
      replace hsn := own_mono hsn hu1.size
      replace hsb := own_keep hsb gg
      clear gg
      go_wp2_with fail
      refine hK.out _ _ ?_ (fun hHeld2 => ?_)
      focus
        exact hS _ (Tch.of_below hu2)
      clear hHeld
      have hHeld := hHeld2
      clear hHeld2 hK K
      try simp only [gt6, Act.put]
      refine wpAnyH_ready (rs := [11]) (by kernel_rfl) (by simp) ?_
      refine (AllReadyH.cons rfl (fun K hK => ?_) AllReadyH.nil)
      simp only [gt3]
      go_simp
      refine hK.out _ _ ?_ (fun hHeld2 => ?_)
      focus
        exact hS _ (Tch.of_below (hu2.alloc hu2.size _))
      clear hHeld
      have hHeld := hHeld2
      clear hHeld2 hK K
      try simp only [gt6, Act.put]
      have gg : RowKit.Below (World.heap u2).size u2 (World.alloc u2 (.cells (Array.replicate n (.bool false)) 4 (0, 0))) := (RowKit.Below.refl _ _).alloc (Nat.le_refl _) _
      have hu3 := hu2.trans (gg.mono hu2.size)
      have hsd : (World.alloc u2 (.cells (Array.replicate n (.bool false)) 4 (0, 0))).ownsRow w2.heap.size 4 1 (.slice (some ⟨(World.heap u2).size, 0, none⟩) n n) n (blcells (List.replicate n false)) := own_rep (heap_alloc_new u2 _) hu2.size (by unfold maxLen; omega) (by simp [icells, blcells])
      replace hsb := own_keep hsb gg
      replace hsn := own_keep hsn gg
      clear gg
      generalize World.alloc u2 (.cells (Array.replicate n (.bool false)) 4 (0, 0)) = u3 at *
      generalize (World.heap u2).size = M2 at *
      refine tkA 12 ?_ rfl ?_ (by assumption) ?_; rotate_left; focus (intro U hU; (try dsimp only at hU); go_simp; try (with_reducible rfl))
      simp only [gt6, Act.put]
      refine wpAnyH_ready (rs := [13]) (by kernel_rfl) (by simp) ?_
      refine (AllReadyH.cons rfl (fun K hK => ?_) AllReadyH.nil)
      simp only [gt3]
      go_simp
      refine hK.out _ _ ?_ (fun hHeld2 => ?_)
      focus
        exact hS _ (Tch.of_below (hu3.alloc hu3.size _))
      clear hHeld
      have hHeld := hHeld2
      clear hHeld2 hK K
      try simp only [gt6, Act.put]
      have gg : RowKit.Below (World.heap u3).size u3 (World.alloc u3 (.cells #[.int .i64 j, .int .i64 s, .int .i64 1, .slice A2 n c2, .slice (some ⟨M1, 0, none⟩) n n, .slice (some ⟨M2, 0, none⟩) n n] 55 (0, 0))) := (RowKit.Below.refl _ _).alloc (Nat.le_refl _) _
      have hu4 := hu3.trans (gg.mono hu3.size)
      have hx9 := heap_alloc_new u3 (.cells #[.int .i64 j, .int .i64 s, .int .i64 1, .slice A2 n c2, .slice (some ⟨M1, 0, none⟩) n n, .slice (some ⟨M2, 0, none⟩) n n] 55 (0, 0))
      replace hsn := own_keep hsn gg
      replace hsb := own_keep hsb gg
      replace hsd := own_keep hsd gg
      clear gg
      generalize World.alloc u3 (.cells #[.int .i64 j, .int .i64 s, .int .i64 1, .slice A2 n c2, .slice (some ⟨M1, 0, none⟩) n n, .slice (some ⟨M2, 0, none⟩) n n] 55 (0, 0)) = u4 at *
      generalize (World.heap u3).size = N9 at *
      refine wpAnyH_ready (rs := [14]) (by kernel_rfl) (by simp) ?_
      refine (AllReadyH.cons rfl (fun K hK => ?_) AllReadyH.nil)
      refine step_append_slw rfl (.tmp 18) (.tmp 31) 60 rfl b 55 Tryz.underlying60 info_entry rfl (by omega) rfl (own_keep HR2.out.1 hu4) rfl (sl_blk6 hx9) (by simp [Value.oneCell']) ?c1 ?c2 ?c3 ?_
      case c1 => unfold maxLen; omega
      case c2 => omega
      case c3 => have := hu4.size; omega
      intro v5 w6 ho5 ht5 hw5
      have hk6 : Tch (fun q => (Value.slice A xs.length c).ownBlock = some q) w2 w6 := (Tch.of_below hu4).trans ht5 (fun g hg _ => hg)
      have HOE : OwE u4 w2.heap.size (newB ⟨1, j, t, wk, s, ee, ns⟩, ⟨A2, c2, some ⟨M1, 0, none⟩, n, some ⟨M2, 0, none⟩, n⟩) := ⟨⟨by simpa [newB, HNL.out] using hsn, fun z hz => Nat.le_trans (HNS.out z (by simpa [newB] using hz)) (by unfold maxLen; omega)⟩, by simpa [newB, HNL.out] using hsb, by simpa [newB, HNL.out] using hsd⟩
      have HO6 : RowBk w6 b v5 (xs ++ [(newB ⟨1, j, t, wk, s, ee, ns⟩, ⟨A2, c2, some ⟨M1, 0, none⟩, n, some ⟨M2, 0, none⟩, n⟩)]) := (HR2.out.keep hu4).push (HOE.mono hbs) (fun y hy => sepE (HR2.out.2.1 y hy) HOE (Nat.le_refl _)) (by simpa [ebl, newB, HNL.out] using ho5) (fun g _ hl hne => ht5.keep g hne hl)
      have HBF := hk6.below b (fun g hg _ => (own_lt HR2.out.1 g hg).1) hbs
      clear ht5 hw5 ho5 hsn hsb hsd hx9 HOE
      obtain ⟨A6, c6, rfl, _⟩ := Sl.of_own HO6.1
      refine hK.out _ _ ?_ (fun hHeld2 => ?_)
      focus
        exact hS _ hk6
      clear hHeld
      have hHeld := hHeld2
      clear hHeld2 hK K
      try simp only [gt6, Act.put]
      refine tkA 15 ?_ rfl ?_ (by assumption) ?_; rotate_left; focus (intro U hU; (try dsimp only at hU); go_simp; try (with_reducible rfl))
      simp only [gt6, Act.put]
      refine wpAnyH_done (by kernel_rfl) ?_ _
      clear hHeld hS hmk1 hmk2
      go_wp2
      go_ret
      refine ⟨A6, c6, xs ++ [(newB ⟨1, j, t, wk, s, ee, ns⟩, ⟨A2, c2, some ⟨M1, 0, none⟩, n, some ⟨M2, 0, none⟩, n⟩)], by rw [List.length_append]; rfl, by rw [HAP.out, List.map_append]; rfl, HO6, ?_⟩
      exact ((HNN.out ▸ HB2.out : RowKit.Below N W w2).mono hb).trans HBF
    · skip
      simp only [gt3]
      go_simp
      refine hK.out _ _ ?_ (fun hHeld2 => ?_)
      focus
        exact hS _ (Tch.of_below (hu1.alloc hu1.size _))
      clear hHeld
      have hHeld := hHeld2
      clear hHeld2 hK K
      try simp only [gt6, Act.put]
      have gg : RowKit.Below (World.heap u1).size u1 (World.alloc u1 (.cells (Array.replicate n (.bool false)) 4 (0, 0))) := (RowKit.Below.refl _ _).alloc (Nat.le_refl _) _
      have hu2 := hu1.trans (gg.mono hu1.size)
      have hsd : (World.alloc u1 (.cells (Array.replicate n (.bool false)) 4 (0, 0))).ownsRow w2.heap.size 4 1 (.slice (some ⟨(World.heap u1).size, 0, none⟩) n n) n (blcells (List.replicate n false)) := own_rep (heap_alloc_new u1 _) hu1.size (by unfold maxLen; omega) (by simp [icells, blcells])
      replace hsb := own_keep hsb gg
      clear gg
      generalize World.alloc u1 (.cells (Array.replicate n (.bool false)) 4 (0, 0)) = u2 at *
      generalize (World.heap u1).size = M2 at *
      refine wpAnyH_ready (rs := [7]) (by kernel_rfl) (by simp) ?_
      refine (AllReadyH.cons rfl (fun K hK => ?_) AllReadyH.nil)
      simp only [gt3]
      go_simp
      refine (HCS.out u2 hu2).mono ?_
      rintro q u3 ⟨v2, rfl, gg, hsn⟩
      obtain ⟨A2, c2, rfl, _⟩ := Sl.of_own hsn
      have hu3 := hu2.trans (gg.mono hu2.size)
      replace hsn := own_mono hsn hu2.size
      replace hsb := own_keep hsb gg
      replace hsd := own_keep hsd gg
      clear gg
      go_wp2_with fail
      refine hK.out _ _ ?_ (fun hHeld2 => ?_)
      focus
        exact hS _ (Tch.of_below hu3)
      clear hHeld
      have hHeld := hHeld2
      clear hHeld2 hK K
      try simp only [gt6, Act.put]
      refine tkA 12 ?_ rfl ?_ (by assumption) ?_; rotate_left; focus (intro U hU; (try dsimp only at hU); go_simp; try (with_reducible rfl))
      simp only [gt6, Act.put]
      refine wpAnyH_ready (rs := [13]) (by kernel_rfl) (by simp) ?_
      refine (AllReadyH.cons rfl (fun K hK => ?_) AllReadyH.nil)
      simp only [gt3]
      go_simp
      refine hK.out _ _ ?_ (fun hHeld2 => ?_)
      focus
        exact hS _ (Tch.of_below (hu3.alloc hu3.size _))
      clear hHeld
      have hHeld := hHeld2
      clear hHeld2 hK K
      try simp only [gt6, Act.put]
      have gg : RowKit.Below (World.heap u3).size u3 (World.alloc u3 (.cells #[.int .i64 j, .int .i64 s, .int .i64 1, .slice A2 n c2, .slice (some ⟨M1, 0, none⟩) n n, .slice (some ⟨M2, 0, none⟩) n n] 55 (0, 0))) := (RowKit.Below.refl _ _).alloc (Nat.le_refl _) _
      have hu4 := hu3.trans (gg.mono hu3.size)
      have hx9 := heap_alloc_new u3 (.cells #[.int .i64 j, .int .i64 s, .int .i64 1, .slice A2 n c2, .slice (some ⟨M1, 0, none⟩) n n, .slice (some ⟨M2, 0, none⟩) n n] 55 (0, 0))
      replace hsn := own_keep hsn gg
      replace hsb := own_keep hsb gg
      replace hsd := own_keep hsd gg
      clear gg
      generalize World.alloc u3 (.cells #[.int .i64 j, .int .i64 s, .int .i64 1, .slice A2 n c2, .slice (some ⟨M1, 0, none⟩) n n, .slice (some ⟨M2, 0, none⟩) n n] 55 (0, 0)) = u4 at *
      generalize (World.heap u3).size = N9 at *
      refine wpAnyH_ready (rs := [14]) (by kernel_rfl) (by simp) ?_
      refine (AllReadyH.cons rfl (fun K hK => ?_) AllReadyH.nil)
      refine step_append_slw rfl (.tmp 18) (.tmp 31) 60 rfl b 55 Tryz.underlying60 info_entry rfl (by omega) rfl (own_keep HR2.out.1 hu4) rfl (sl_blk6 hx9) (by simp [Value.oneCell']) ?c1 ?c2 ?c3 ?_
      case c1 => unfold maxLen; omega
      case c2 => omega
      case c3 => have := hu4.size; omega
      intro v5 w6 ho5 ht5 hw5
      have hk6 : Tch (fun q => (Value.slice A xs.length c).ownBlock = some q) w2 w6 := (Tch.of_below hu4).trans ht5 (fun g hg _ => hg)
      have HOE : OwE u4 w2.heap.size (newB ⟨1, j, t, wk, s, ee, ns⟩, ⟨A2, c2, some ⟨M1, 0, none⟩, n, some ⟨M2, 0, none⟩, n⟩) := ⟨⟨by simpa [newB, HNL.out] using hsn, fun z hz => Nat.le_trans (HNS.out z (by simpa [newB] using hz)) (by unfold maxLen; omega)⟩, by simpa [newB, HNL.out] using hsb, by simpa [newB, HNL.out] using hsd⟩
      have HO6 : RowBk w6 b v5 (xs ++ [(newB ⟨1, j, t, wk, s, ee, ns⟩, ⟨A2, c2, some ⟨M1, 0, none⟩, n, some ⟨M2, 0, none⟩, n⟩)]) := (HR2.out.keep hu4).push (HOE.mono hbs) (fun y hy => sepE (HR2.out.2.1 y hy) HOE (Nat.le_refl _)) (by simpa [ebl, newB, HNL.out] using ho5) (fun g _ hl hne => ht5.keep g hne hl)
      have HBF := hk6.below b (fun g hg _ => (own_lt HR2.out.1 g hg).1) hbs
      clear ht5 hw5 ho5 hsn hsb hsd hx9 HOE
      obtain ⟨A6, c6, rfl, _⟩ := Sl.of_own HO6.1
      refine hK.out _ _ ?_ (fun hHeld2 => ?_)
      focus
        exact hS _ hk6
      clear hHeld
      have hHeld := hHeld2
      clear hHeld2 hK K
      try simp only [gt6, Act.put]
      refine tkA 15 ?_ rfl ?_ (by assumption) ?_; rotate_left; focus (intro U hU; (try dsimp only at hU); go_simp; try (with_reducible rfl))
      simp only [gt6, Act.put]
      refine wpAnyH_done (by kernel_rfl) ?_ _
      clear hHeld hS hmk1 hmk2
      go_wp2
      go_ret
      refine ⟨A6, c6, xs ++ [(newB ⟨1, j, t, wk, s, ee, ns⟩, ⟨A2, c2, some ⟨M1, 0, none⟩, n, some ⟨M2, 0, none⟩, n⟩)], by rw [List.length_append]; rfl, by rw [HAP.out, List.map_append]; rfl, HO6, ?_⟩
      exact ((HNN.out ▸ HB2.out : RowKit.Below N W w2).mono hb).trans HBF
  · skip
    simp only [gt3]
    go_simp
    refine hK.out _ _ ?_ (fun hHeld2 => ?_)
    focus
      exact hS _ (Tch.of_below (hu0.alloc hu0.size _))
    clear hHeld
    have hHeld := hHeld2
    clear hHeld2 hK K
    try simp only [gt6, Act.put]
    have gg : RowKit.Below (World.heap u0).size u0 (World.alloc u0 (.cells (Array.replicate n (.bool false)) 4 (0, 0))) := (RowKit.Below.refl _ _).alloc (Nat.le_refl _) _
    have hu1 := hu0.trans (gg.mono hu0.size)
    have hsd : (World.alloc u0 (.cells (Array.replicate n (.bool false)) 4 (0, 0))).ownsRow w2.heap.size 4 1 (.slice (some ⟨(World.heap u0).size, 0, none⟩) n n) n (blcells (List.replicate n false)) := own_rep (heap_alloc_new u0 _) hu0.size (by unfold maxLen; omega) (by simp [icells, blcells])
    clear gg
    generalize World.alloc u0 (.cells (Array.replicate n (.bool false)) 4 (0, 0)) = u1 at *
    generalize (World.heap u0).size = M2 at *
    refine wpAnyH_ready (rs := [7, 9]) (by kernel_rfl) (by simp) ?_
    refine (AllReadyH.cons rfl (fun K hK => ?_) (AllReadyH.cons rfl (fun K hK => ?_) AllReadyH.nil))
    · skip
      simp only [gt3]
      go_simp
      refine (HCS.out u1 hu1).mono ?_
      rintro q u2 ⟨v2, rfl, gg, hsn⟩
      obtain ⟨A2, c2, rfl, _⟩ := Sl.of_own hsn
      have hu2 := hu1.trans (gg.mono hu1.size)
      replace hsn := own_mono hsn hu1.size
      replace hsd := own_keep hsd gg
      clear gg
      go_wp2_with fail
      refine hK.out _ _ ?_ (fun hHeld2 => ?_)
      focus
        exact hS _ (Tch.of_below hu2)
      clear hHeld
      have hHeld := hHeld2
      clear hHeld2 hK K
      try simp only [gt6, Act.put]
      refine wpAnyH_ready (rs := [9]) (by kernel_rfl) (by simp) ?_
      refine (AllReadyH.cons rfl (fun K hK => ?_) AllReadyH.nil)
      simp only [gt3]
      go_simp
      refine hK.out _ _ ?_ (fun hHeld2 => ?_)
      focus
        exact hS _ (Tch.of_below (hu2.alloc hu2.size _))
      clear hHeld
      have hHeld := hHeld2
      clear hHeld2 hK K
      try simp only [gt6, Act.put]
      have gg : RowKit.Below (World.heap u2).size u2 (World.alloc u2 (.cells (Array.replicate n (.int .i64 0)) 3 (0, 0))) := (RowKit.Below.refl _ _).alloc (Nat.le_refl _) _
      have hu3 := hu2.trans (gg.mono hu2.size)
      have hsb : (World.alloc u2 (.cells (Array.replicate n (.int .i64 0)) 3 (0, 0))).ownsRow w2.heap.size 3 1 (.slice (some ⟨(World.heap u2).size, 0, none⟩) n n) n (icells .i64 (List.replicate n 0)) := own_rep (heap_alloc_new u2 _) hu2.size (by unfold maxLen; omega) (by simp [icells, blcells])
      replace hsd := own_keep hsd gg
      replace hsn := own_keep hsn gg
      clear gg
      generalize World.alloc u2 (.cells (Array.replicate n (.int .i64 0)) 3 (0, 0)) = u3 at *
      generalize (World.heap u2).size = M1 at *
      refine tkA 12 ?_ rfl ?_ (by assumption) ?_; rotate_left; focus (intro U hU; (try dsimp only at hU); go_simp; try (with_reducible rfl))
      simp only [gt6, Act.put]
      refine wpAnyH_ready (rs := [13]) (by kernel_rfl) (by simp) ?_
      refine (AllReadyH.cons rfl (fun K hK => ?_) AllReadyH.nil)
      simp only [gt3]
      go_simp
      refine hK.out _ _ ?_ (fun hHeld2 => ?_)
      focus
        exact hS _ (Tch.of_below (hu3.alloc hu3.size _))
      clear hHeld
      have hHeld := hHeld2
      clear hHeld2 hK K
      try simp only [gt6, Act.put]
      have gg : RowKit.Below (World.heap u3).size u3 (World.alloc u3 (.cells #[.int .i64 j, .int .i64 s, .int .i64 1, .slice A2 n c2, .slice (some ⟨M1, 0, none⟩) n n, .slice (some ⟨M2, 0, none⟩) n n] 55 (0, 0))) := (RowKit.Below.refl _ _).alloc (Nat.le_refl _) _
      have hu4 := hu3.trans (gg.mono hu3.size)
      have hx9 := heap_alloc_new u3 (.cells #[.int .i64 j, .int .i64 s, .int .i64 1, .slice A2 n c2, .slice (some ⟨M1, 0, none⟩) n n, .slice (some ⟨M2, 0, none⟩) n n] 55 (0, 0))
      replace hsn := own_keep hsn gg
      replace hsb := own_keep hsb gg
      replace hsd := own_keep hsd gg
      clear gg
      generalize World.alloc u3 (.cells #[.int .i64 j, .int .i64 s, .int .i64 1, .slice A2 n c2, .slice (some ⟨M1, 0, none⟩) n n, .slice (some ⟨M2, 0, none⟩) n n] 55 (0, 0)) = u4 at *
      generalize (World.heap u3).size = N9 at *
      refine wpAnyH_ready (rs := [14]) (by kernel_rfl) (by simp) ?_
      refine (AllReadyH.cons rfl (fun K hK => ?_) AllReadyH.nil)
      refine step_append_slw rfl (.tmp 18) (.tmp 31) 60 rfl b 55 Tryz.underlying60 info_entry rfl (by omega) rfl (own_keep HR2.out.1 hu4) rfl (sl_blk6 hx9) (by simp [Value.oneCell']) ?c1 ?c2 ?c3 ?_
      case c1 => unfold maxLen; omega
      case c2 => omega
      case c3 => have := hu4.size; omega
      intro v5 w6 ho5 ht5 hw5
      have hk6 : Tch (fun q => (Value.slice A xs.length c).ownBlock = some q) w2 w6 := (Tch.of_below hu4).trans ht5 (fun g hg _ => hg)
      have HOE : OwE u4 w2.heap.size (newB ⟨1, j, t, wk, s, ee, ns⟩, ⟨A2, c2, some ⟨M1, 0, none⟩, n, some ⟨M2, 0, none⟩, n⟩) := ⟨⟨by simpa [newB, HNL.out] using hsn, fun z hz => Nat.le_trans (HNS.out z (by simpa [newB] using hz)) (by unfold maxLen; omega)⟩, by simpa [newB, HNL.out] using hsb, by simpa [newB, HNL.out] using hsd⟩
      have HO6 : RowBk w6 b v5 (xs ++ [(newB ⟨1, j, t, wk, s, ee, ns⟩, ⟨A2, c2, some ⟨M1, 0, none⟩, n, some ⟨M2, 0, none⟩, n⟩)]) := (HR2.out.keep hu4).push (HOE.mono hbs) (fun y hy => sepE (HR2.out.2.1 y hy) HOE (Nat.le_refl _)) (by simpa [ebl, newB, HNL.out] using ho5) (fun g _ hl hne => ht5.keep g hne hl)
      have HBF := hk6.below b (fun g hg _ => (own_lt HR2.out.1 g hg).1) hbs
      clear ht5 hw5 ho5 hsn hsb hsd hx9 HOE
      obtain ⟨A6, c6, rfl, _⟩ := Sl.of_own HO6.1
      refine hK.out _ _ ?_ (fun hHeld2 => ?_)
      focus
        exact hS _ hk6
      clear hHeld
      have hHeld := hHeld2
      clear hHeld2 hK K
      try simp only [gt6, Act.put]
      refine tkA 15 ?_ rfl ?_ (by assumption) ?_; rotate_left; focus (intro U hU; (try dsimp only at hU); go_simp; try (with_reducible rfl))
      simp only [gt6, Act.put]
      refine wpAnyH_done (by kernel_rfl) ?_ _
      clear hHeld hS hmk1 hmk2
      go_wp2
      go_ret
      refine ⟨A6, c6, xs ++ [(newB ⟨1, j, t, wk, s, ee, ns⟩, ⟨A2, c2, some ⟨M1, 0, none⟩, n, some ⟨M2, 0, none⟩, n⟩)], by rw [List.length_append]; rfl, by rw [HAP.out, List.map_append]; rfl, HO6, ?_⟩
      exact ((HNN.out ▸ HB2.out : RowKit.Below N W w2).mono hb).trans HBF
    · skip
      simp only [gt3]
      go_simp
      refine hK.out _ _ ?_ (fun hHeld2 => ?_)
      focus
        exact hS _ (Tch.of_below (hu1.alloc hu1.size _))
      clear hHeld
      have hHeld := hHeld2
      clear hHeld2 hK K
      try simp only [gt6, Act.put]
      have gg : RowKit.Below (World.heap u1).size u1 (World.alloc u1 (.cells (Array.replicate n (.int .i64 0)) 3 (0, 0))) := (RowKit.Below.refl _ _).alloc (Nat.le_refl _) _
      have hu2 := hu1.trans (gg.mono hu1.size)
      have hsb : (World.alloc u1 (.cells (Array.replicate n (.int .i64 0)) 3 (0, 0))).ownsRow w2.heap.size 3 1 (.slice (some ⟨(World.heap u1).size, 0, none⟩) n n) n (icells .i64 (List.replicate n 0)) := own_rep (heap_alloc_new u1 _) hu1.size (by unfold maxLen; omega) (by simp [icells, blcells])
      replace hsd := own_keep hsd gg
      clear gg
      generalize World.alloc u1 (.cells (Array.replicate n (.int .i64 0)) 3 (0, 0)) = u2 at *
      generalize (World.heap u1).size = M1 at *
      refine wpAnyH_ready (rs := [7]) (by kernel_rfl) (by simp) ?_
      refine (AllReadyH.cons rfl (fun K hK => ?_) AllReadyH.nil)
      simp only [gt3]
      go_simp
      refine (HCS.out u2 hu2).mono ?_
      rintro q u3 ⟨v2, rfl, gg, hsn⟩
      obtain ⟨A2, c2, rfl, _⟩ := Sl.of_own hsn
      have hu3 := hu2.trans (gg.mono hu2.size)
      replace hsn := own_mono hsn hu2.size
      replace hsd := own_keep hsd gg
      replace hsb := own_keep hsb gg
      clear gg
      go_wp2_with fail
      refine hK.out _ _ ?_ (fun hHeld2 => ?_)
      focus
        exact hS _ (Tch.of_below hu3)
      clear hHeld
      have hHeld := hHeld2
      clear hHeld2 hK K
      try simp only [gt6, Act.put]
      refine tkA 12 ?_ rfl ?_ (by assumption) ?_; rotate_left; focus (intro U hU; (try dsimp only at hU); go_simp; try (with_reducible rfl))
      simp only [gt6, Act.put]
      refine wpAnyH_ready (rs := [13]) (by kernel_rfl) (by simp) ?_
      refine (AllReadyH.cons rfl (fun K hK => ?_) AllReadyH.nil)
      simp only [gt3]
      go_simp
      refine hK.out _ _ ?_ (fun hHeld2 => ?_)
      focus
        exact hS _ (Tch.of_below (hu3.alloc hu3.size _))
      clear hHeld
      have hHeld := hHeld2
      clear hHeld2 hK K
      try simp only [gt6, Act.put]
      have gg : RowKit.Below (World.heap u3).size u3 (World.alloc u3 (.cells #[.int .i64 j, .int .i64 s, .int .i64 1, .slice A2 n c2, .slice (some ⟨M1, 0, none⟩) n n, .slice (some ⟨M2, 0, none⟩) n n] 55 (0, 0))) := (RowKit.Below.refl _ _).alloc (Nat.le_refl _) _
      have hu4 := hu3.trans (gg.mono hu3.size)
      have hx9 := heap_alloc_new u3 (.cells #[.int .i64 j, .int .i64 s, .int .i64 1, .slice A2 n c2, .slice (some ⟨M1, 0, none⟩) n n, .slice (some ⟨M2, 0, none⟩) n n] 55 (0, 0))
      replace hsn := own_keep hsn gg
      replace hsb := own_keep hsb gg
      replace hsd := own_keep hsd gg
      clear gg
      generalize World.alloc u3 (.cells #[.int .i64 j, .int .i64 s, .int .i64 1, .slice A2 n c2, .slice (some ⟨M1, 0, none⟩) n n, .slice (some ⟨M2, 0, none⟩) n n] 55 (0, 0)) = u4 at *
      generalize (World.heap u3).size = N9 at *
      refine wpAnyH_ready (rs := [14]) (by kernel_rfl) (by simp) ?_
      refine (AllReadyH.cons rfl (fun K hK => ?_) AllReadyH.nil)
      refine step_append_slw rfl (.tmp 18) (.tmp 31) 60 rfl b 55 Tryz.underlying60 info_entry rfl (by omega) rfl (own_keep HR2.out.1 hu4) rfl (sl_blk6 hx9) (by simp [Value.oneCell']) ?c1 ?c2 ?c3 ?_
      case c1 => unfold maxLen; omega
      case c2 => omega
      case c3 => have := hu4.size; omega
      intro v5 w6 ho5 ht5 hw5
      have hk6 : Tch (fun q => (Value.slice A xs.length c).ownBlock = some q) w2 w6 := (Tch.of_below hu4).trans ht5 (fun g hg _ => hg)
      have HOE : OwE u4 w2.heap.size (newB ⟨1, j, t, wk, s, ee, ns⟩, ⟨A2, c2, some ⟨M1, 0, none⟩, n, some ⟨M2, 0, none⟩, n⟩) := ⟨⟨by simpa [newB, HNL.out] using hsn, fun z hz => Nat.le_trans (HNS.out z (by simpa [newB] using hz)) (by unfold maxLen; omega)⟩, by simpa [newB, HNL.out] using hsb, by simpa [newB, HNL.out] using hsd⟩
      have HO6 : RowBk w6 b v5 (xs ++ [(newB ⟨1, j, t, wk, s, ee, ns⟩, ⟨A2, c2, some ⟨M1, 0, none⟩, n, some ⟨M2, 0, none⟩, n⟩)]) := (HR2.out.keep hu4).push (HOE.mono hbs) (fun y hy => sepE (HR2.out.2.1 y hy) HOE (Nat.le_refl _)) (by simpa [ebl, newB, HNL.out] using ho5) (fun g _ hl hne => ht5.keep g hne hl)
      have HBF := hk6.below b (fun g hg _ => (own_lt HR2.out.1 g hg).1) hbs
      clear ht5 hw5 ho5 hsn hsb hsd hx9 HOE
      obtain ⟨A6, c6, rfl, _⟩ := Sl.of_own HO6.1
      refine hK.out _ _ ?_ (fun hHeld2 => ?_)
      focus
        exact hS _ hk6
      clear hHeld
      have hHeld := hHeld2
      clear hHeld2 hK K
      try simp only [gt6, Act.put]
      refine tkA 15 ?_ rfl ?_ (by assumption) ?_; rotate_left; focus (intro U hU; (try dsimp only at hU); go_simp; try (with_reducible rfl))
      simp only [gt6, Act.put]
      refine wpAnyH_done (by kernel_rfl) ?_ _
      clear hHeld hS hmk1 hmk2
      go_wp2
      go_ret
      refine ⟨A6, c6, xs ++ [(newB ⟨1, j, t, wk, s, ee, ns⟩, ⟨A2, c2, some ⟨M1, 0, none⟩, n, some ⟨M2, 0, none⟩, n⟩)], by rw [List.length_append]; rfl, by rw [HAP.out, List.map_append]; rfl, HO6, ?_⟩
      exact ((HNN.out ▸ HB2.out : RowKit.Below N W w2).mono hb).trans HBF
theorem bapplied_any (A : Option Addr) (c : Nat) (xs : List Ee) (x : Rc) (Ax : Option Addr) (cx b : Nat) (W : World) (h : RowBk W b (.slice A xs.length c) xs) (hb : b ≤ W.heap.size) (hx : TxAt W Ax cx x.ns) (hn : xs.length ≤ 100000) (hw : whyB (xs.map (·.1)) x = 0) :
    Calls Tryz.prog 50 #[.slice A xs.length c, .agg (rcc x Ax cx)] W (AplR W b xs x) := by
  have hc := whyB_chk hw
  rcases (chk_parts2 hc).1 with hk | hk | hk | hk
  · exact bappl1 A c xs x Ax cx b W h hb hx hn hc hk
  · exact bappl2 A c xs x Ax cx b W h hb hx hc hw hk
  · exact bappl3 A c xs x Ax cx b W h hb hx hc hw hk
  · exact bappl4 A c xs x Ax cx b W h hb hx hc hw hk
end Go.Proofs.YtkepfkfoblocgaaGreat

namespace Go.Proofs.YtkepfkfoblocgaaGreat
open Go.RowKit Go.Sort
set_option linter.unusedVariables false
set_option linter.unusedSimpArgs false

set_option maxRecDepth 20000 in
set_option maxHeartbeats 4000000 in
theorem bstep_no (A : Option Addr) (c : Nat) (xs : List Ee) (x : Rc) (Ax : Option Addr) (cx : Nat) (W : World) (h : InBk W A c xs) (hx : TxAt W Ax cx x.ns) (hw : whyB (xs.map (·.1)) x ≠ 0) :
    Calls Tryz.prog 36 #[.slice A xs.length c, .agg (rcc x Ax cx)] W fun e w' => e = .returned (.tuple #[.slice none 0 0, .int .i64 (whyB (xs.map (·.1)) x)]) ∧ RowKit.Below W.heap.size W w' := by
  have HRF := hid (fun w (hw : RowKit.Below W.heap.size W w) => brefusal_any A c xs x Ax cx w (h.below hw) (hx.below hw))
  have HA := hid h
  have HX := hid hx
  clear h hx
  generalize whyB (xs.map (·.1)) x = rv at *
  have hne : (rv != 0) = true := by simpa using hw
  obtain ⟨k, j, t, wk, s, ee, ns⟩ := x
  simp only [rcc] at *
  go_enter Tryz.func36, Tryz.ntmps36
  go_upto_region 1 with (fail)
  refine at_world (fun u => u.heap[W.heap.size]? = some (.cells #[.int .i64 k, .int .i64 j, .int .i64 t, .int .i64 wk, .int .i64 s, .int .i64 ee, .slice Ax ns.length cx] 46 (0, 0)) ∧ RowKit.Below W.heap.size W u) ⟨heap_alloc_new _ _, (RowKit.Below.refl _ _).alloc (Nat.le_refl _) _⟩ ?_
  rintro w1 ⟨hx1, hb1⟩
  obtain ⟨p0, p1, p2, p3, p4, p5, p6⟩ := seven_cells hx1
  have HX1 := hid hx1
  have HB1 := hid hb1
  clear hx1 hb1
  go_wp2_with fail
  refine (HRF.out w1 HB1.out).mono ?_
  rintro e w2 ⟨rfl, hb2⟩
  have HB2 := hid (HB1.out.trans (hb2.mono HB1.out.size))
  have HX2 := hid (keep0 HX1.out hb2)
  clear hb2 HB1 HX1 HRF p0 p1 p2 p3 p4 p5 p6
  go_wp2
  go_ret2
  exact ⟨rfl, HB2.out⟩

set_option maxRecDepth 20000 in
set_option maxHeartbeats 4000000 in
theorem bstep_ok (A : Option Addr) (c : Nat) (xs : List Ee) (x : Rc) (Ax : Option Addr) (cx : Nat) (W : World) (h : InBk W A c xs) (hx : TxAt W Ax cx x.ns) (hn : xs.length ≤ 100000) (hk : ∀ y ∈ xs, SmE y) (hw : whyB (xs.map (·.1)) x = 0) :
    Calls Tryz.prog 36 #[.slice A xs.length c, .agg (rcc x Ax cx)] W fun e w' => ∃ A' c' xs', e = .returned (.tuple #[.slice A' xs'.length c', .int .i64 0]) ∧ xs'.map (·.1) = appB (xs.map (·.1)) x ∧ RowBk w' W.heap.size (.slice A' xs'.length c') xs' ∧ RowKit.Below W.heap.size W w' := by
  have HRF := hid (fun w (hw : RowKit.Below W.heap.size W w) => brefusal_any A c xs x Ax cx w (h.below hw) (hx.below hw))
  have HA := hid h
  have HX := hid hx
  clear h hx
  have HK := hid hk
  have HAP := hid (fun A' c' xs' b w (h1 : RowBk w b (.slice A' xs'.length c') xs') (h2 : b ≤ w.heap.size) (h3 : TxAt w Ax cx x.ns) (h4 : xs'.length ≤ 100000) (h5 : xs'.map (·.1) = xs.map (·.1)) => bapplied_any A' c' xs' x Ax cx b w h1 h2 h3 h4 (by rw [h5]; exact hw))
  rw [hw] at HRF
  clear hk hw
  obtain ⟨k, j, t, wk, s, ee, ns⟩ := x
  simp only [rcc] at *
  go_enter Tryz.func36, Tryz.ntmps36
  go_upto_region 1 with (fail)
  refine at_world (fun u => u.heap[W.heap.size]? = some (.cells #[.int .i64 k, .int .i64 j, .int .i64 t, .int .i64 wk, .int .i64 s, .int .i64 ee, .slice Ax ns.length cx] 46 (0, 0)) ∧ RowKit.Below W.heap.size W u) ⟨heap_alloc_new _ _, (RowKit.Below.refl _ _).alloc (Nat.le_refl _) _⟩ ?_
  rintro w1 ⟨hx1, hb1⟩
  obtain ⟨p0, p1, p2, p3, p4, p5, p6⟩ := seven_cells hx1
  have HX1 := hid hx1
  have HB1 := hid hb1
  clear hx1 hb1
  go_wp2_with fail
  refine (HRF.out w1 HB1.out).mono ?_
  rintro e w2 ⟨rfl, hb2⟩
  have HB2 := hid (HB1.out.trans (hb2.mono HB1.out.size))
  have HX2 := hid (keep0 HX1.out hb2)
  clear hb2 HB1 HX1 HRF p0 p1 p2 p3 p4 p5 p6
  go_upto_region 4 with (fail)
  have hNlt : W.heap.size < w2.heap.size := lt_of_block HX2.out
  generalize hNN : W.heap.size = N at *
  have HNN := hid hNN
  clear hNN
  have hS : ∀ U, RowKit.Below w2.heap.size w2 U → ((U.cell? ⟨N, 0, none⟩ = some (.int .i64 k) ∧ U.cell? ⟨N, 1, none⟩ = some (.int .i64 j) ∧ U.cell? ⟨N, 2, none⟩ = some (.int .i64 t) ∧ U.cell? ⟨N, 3, none⟩ = some (.int .i64 wk) ∧ U.cell? ⟨N, 4, none⟩ = some (.int .i64 s) ∧ U.cell? ⟨N, 5, none⟩ = some (.int .i64 ee) ∧ U.cell? ⟨N, 6, none⟩ = some (.slice Ax ns.length cx)) ∧ RowKit.Below w2.heap.size w2 U) := fun U hU => ⟨seven_cells (keep0 HX2.out hU), hU⟩
  have hu0 : RowKit.Below w2.heap.size w2 w2.drew := below_drew (RowKit.Below.refl _ _)
  have HBW : Hid (RowKit.Below W.heap.size W w2) := hid (HNN.out ▸ HB2.out)
  refine wp_region_held_drew (S := fun U => (U.cell? ⟨N, 0, none⟩ = some (.int .i64 k) ∧ U.cell? ⟨N, 1, none⟩ = some (.int .i64 j) ∧ U.cell? ⟨N, 2, none⟩ = some (.int .i64 t) ∧ U.cell? ⟨N, 3, none⟩ = some (.int .i64 wk) ∧ U.cell? ⟨N, 4, none⟩ = some (.int .i64 s) ∧ U.cell? ⟨N, 5, none⟩ = some (.int .i64 ee) ∧ U.cell? ⟨N, 6, none⟩ = some (.slice Ax ns.length cx)) ∧ RowKit.Below w2.heap.size w2 U) (by kernel_rfl) (hS _ hu0) (fun hHeld => ?_)
  generalize w2.drew = u0 at *
  refine tkA 0 ?_ rfl ?_ (by assumption) ?_; rotate_left; focus (intro U hU; (try dsimp only at hU); go_simp; try (with_reducible rfl))
  simp only [gt6, Act.put]
  refine tkA 2 ?_ rfl ?_ (by assumption) ?_; rotate_left; focus (intro U hU; (try dsimp only at hU); go_simp; try (with_reducible rfl))
  simp only [gt6, Act.put]
  refine wpAnyH_ready (rs := [1]) (by kernel_rfl) (by simp) ?_
  refine AllReadyH.cons rfl (fun K hK => ?_) AllReadyH.nil
  simp only [gt3]
  go_simp
  refine (bclone_any A c xs u0 (HA.out.below (HBW.out.trans (hu0.mono HBW.out.size))) hn HK.out).mono ?_
  rintro q u1 ⟨A1, c1, xs1, rfl, hm1, hr1, hb1⟩
  have hu1 : RowKit.Below w2.heap.size w2 u1 := hu0.trans (hb1.mono hu0.size)
  have HL1 := hid (show xs1.length = xs.length by have := congrArg List.length hm1; simpa using this)
  have hs1 := hb1.size
  clear hb1
  go_wp2_with fail
  refine hK.out _ _ ?_ (fun hHeld2 => ?_)
  focus
    exact hS _ hu1
  clear hHeld
  have hHeld := hHeld2
  clear hHeld2 hK K
  try simp only [gt6, Act.put]
  refine wpAnyH_ready (rs := [3]) (by kernel_rfl) (by simp) ?_
  refine AllReadyH.cons rfl (fun K hK => ?_) AllReadyH.nil
  simp only [gt3]
  go_simp
  refine (HAP.out A1 c1 xs1 u0.heap.size u1 hr1 hs1 (HX.out.below (HBW.out.trans (hu1.mono HBW.out.size))) (by rw [HL1.out]; exact hn) hm1).mono ?_
  rintro q u2 ⟨A2, c2, xs2, rfl, hm2, hr2, hb2⟩
  have hu2 : RowKit.Below w2.heap.size w2 u2 := hu1.trans (hb2.mono hu0.size)
  rw [hm1] at hm2
  clear hb2 hr1 hm1
  go_wp2_with fail
  refine hK.out _ _ ?_ (fun hHeld2 => ?_)
  focus
    exact hS _ hu2
  clear hHeld
  have hHeld := hHeld2
  clear hHeld2 hK K
  try simp only [gt6, Act.put]
  refine tkA 4 ?_ rfl ?_ (by assumption) ?_; rotate_left; focus (intro U hU; (try dsimp only at hU); go_simp; try (with_reducible rfl))
  simp only [gt6, Act.put]
  refine tkA 5 ?_ rfl ?_ (by assumption) ?_; rotate_left; focus (intro U hU; (try dsimp only at hU); go_simp; try (with_reducible rfl))
  simp only [gt6, Act.put]
  refine wpAnyH_done (by kernel_rfl) ?_ _
  have HR2 := hid (hr2.mono (show N ≤ u0.heap.size from Nat.le_trans (Nat.le_of_lt hNlt) hu0.size))
  have HM2 := hid hm2
  have HU2 := hid (HBW.out.trans (hu2.mono HBW.out.size))
  clear hHeld hS hu0 hu1 hu2 hr2 hm2 hs1
  go_wp2
  go_ret2
  exact ⟨A2, c2, xs2, rfl, HM2.out, by rw [HNN.out]; exact HR2.out, HU2.out⟩
end Go.Proofs.YtkepfkfoblocgaaGreat
