/- The document's book: Step: contract. -/
import Derived.Test.YtkepfkfoblocgaaGreatGaP
import Derived.Test.YtkepfkfoblocgaaGreatQR20B
import Derived.Test.YtkepfkfoblocgaaGreatQBkP3
import Derived.Deep.RegionHeld3
namespace Go.Proofs.YtkepfkfoblocgaaGreat
open Go.RowKit Go.Sort
set_option linter.unusedVariables false
set_option linter.unusedSimpArgs false

/-- What Step leaves. -/
def StpR (W : World) (A : Option Addr) (c : Nat) (xs : List Ee) (x : Rc) (Ax : Option Addr) (cx : Nat) (e : Ending) (w' : World) : Prop :=
  ∃ A' c' xs', e = .returned (.tuple #[.slice A' xs'.length c', .int .i64 0]) ∧ xs'.map (·.1) = appB (xs.map (·.1)) x ∧ (∀ (T : Nat → Prop) (w2 : World), Tch T w' w2 → (∀ g, T g → ∀ cs t fr, w'.heap[g]? = some (.cells cs t fr) → t ≠ 55 ∧ t ≠ 9 ∧ t ≠ 3 ∧ t ≠ 4) → InBk w2 A c xs → TxAt w2 Ax cx x.ns → InBk w2 A' c' xs') ∧ RowKit.Below W.heap.size W w'
theorem Tch.own_ty {T : Nat → Prop} {w w' : World} {base e s n : Nat} {v : Value} {xs : List Value} (ht : Tch T w w') (h : w.ownsRow base e s v n xs) (hn : ∀ g, T g → ∀ cs t fr, w.heap[g]? = some (.cells cs t fr) → t ≠ e) : w'.ownsRow base e s v n xs :=
  ht.own h fun g hg hs => by
    obtain ⟨_, _, cur, hc⟩ := own_lt h g hg
    exact hn g hs _ _ _ hc rfl
theorem set_six (x : Ee) (l : List Value) (n : Nat) (v : Value) : (ebl x ++ l).set (6 + n) v = ebl x ++ l.set n v := by
  rw [List.set_append_right _ _ (by simp [ebl])]
  simp [ebl]
theorem gcells_set6 (v0 v1 v2 v3 v4 v5 : Value) (y : Ee) (hy : ebl y = [v0, v1, v2, v3, v4, v5]) : ∀ (xs : List Ee) (i : Nat) (hi : i < xs.length), ((((((gcells ebl xs).set (i * 6) v0).set (i * 6 + 1) v1).set (i * 6 + 2) v2).set (i * 6 + 3) v3).set (i * 6 + 4) v4).set (i * 6 + 5) v5 = gcells ebl (xs.set i y)
  | x :: xs, 0, _ => by
    rw [List.set_cons_zero, gcells_cons, gcells_cons, hy]
    simp [ebl]
  | x :: xs, i + 1, hi => by
    have h9 := gcells_set6 v0 v1 v2 v3 v4 v5 y hy xs i (by simpa using hi)
    rw [List.set_cons_succ, gcells_cons, gcells_cons, ← h9]
    rw [show (i + 1) * 6 = 6 + i * 6 by omega]
    simp only [Nat.add_assoc, set_six]
def putE6 (w : World) (g k : Nat) (v0 v1 v2 v3 v4 v5 : Value) : World := (((((w.setCell ⟨g, k, none⟩ v0).setCell ⟨g, k + 1, none⟩ v1).setCell ⟨g, k + 2, none⟩ v2).setCell ⟨g, k + 3, none⟩ v3).setCell ⟨g, k + 4, none⟩ v4).setCell ⟨g, k + 5, none⟩ v5
theorem own_set1 {w : World} {b e s n g cap : Nat} {l : List Value} (h : w.ownsRow b e s (.slice (some ⟨g, 0, none⟩) n cap) n l) (h0 : 0 < n) (hs : 0 < s) (i : Nat) (v : Value) : (w.setCell ⟨g, i, none⟩ v).ownsRow b e s (.slice (some ⟨g, 0, none⟩) n cap) n (l.set i v) := by
  obtain ⟨g', cap', he, _, _, _, _, hset, _⟩ := own_open h h0 hs
  cases he
  exact hset i v
theorem putE6_own {w : World} {b n g cap i : Nat} {xs : List Ee} {v0 v1 v2 v3 v4 v5 : Value} (h : w.ownsRow b 55 6 (.slice (some ⟨g, 0, none⟩) n cap) n (gcells ebl xs)) (h0 : 0 < n) (hi : i < xs.length) (y : Ee) (hy : ebl y = [v0, v1, v2, v3, v4, v5]) : (putE6 w g (i * 6) v0 v1 v2 v3 v4 v5).ownsRow b 55 6 (.slice (some ⟨g, 0, none⟩) n cap) n (gcells ebl (xs.set i y)) := by
  rw [← gcells_set6 v0 v1 v2 v3 v4 v5 y hy xs i hi]
  exact own_set1 (own_set1 (own_set1 (own_set1 (own_set1 (own_set1 h h0 (by omega) _ _) h0 (by omega) _ _) h0 (by omega) _ _) h0 (by omega) _ _) h0 (by omega) _ _) h0 (by omega) _ _
theorem putE6_tch (w : World) (g k : Nat) (v0 v1 v2 v3 v4 v5 : Value) : Tch (fun q => q = g) w (putE6 w g k v0 v1 v2 v3 v4 v5) :=
  ((((((Tch.refl (fun q => q = g) w).set g k v0 fun _ => rfl).set g (k + 1) v1 fun _ => rfl).set g (k + 2) v2 fun _ => rfl).set g (k + 3) v3 fun _ => rfl).set g (k + 4) v4 fun _ => rfl).set g (k + 5) v5 fun _ => rfl
theorem cells6 {w : World} {b n g cap i : Nat} {xs : List Ee} (h : w.ownsRow b 55 6 (.slice (some ⟨g, 0, none⟩) n cap) n (gcells ebl xs)) (hn : xs.length = n) (hi : i < n) : ∃ u0 u1 u2 u3 u4 u5, (w.cell? ⟨g, i * 6, none⟩ = some u0 ∧ w.cell? ⟨g, i * 6 + 1, none⟩ = some u1 ∧ w.cell? ⟨g, i * 6 + 2, none⟩ = some u2 ∧ w.cell? ⟨g, i * 6 + 3, none⟩ = some u3 ∧ w.cell? ⟨g, i * 6 + 4, none⟩ = some u4 ∧ w.cell? ⟨g, i * 6 + 5, none⟩ = some u5) ∧ (w.frozen? ⟨g, i * 6, none⟩ = false ∧ w.frozen? ⟨g, i * 6 + 1, none⟩ = false ∧ w.frozen? ⟨g, i * 6 + 2, none⟩ = false ∧ w.frozen? ⟨g, i * 6 + 3, none⟩ = false ∧ w.frozen? ⟨g, i * 6 + 4, none⟩ = false ∧ w.frozen? ⟨g, i * 6 + 5, none⟩ = false) := by
  obtain ⟨g', cap', he, _, _, _, hc, _, _⟩ := own_open h (by omega) (by omega)
  cases he
  have hgl := gcells_length (f := ebl) (n := 6) ebl_len xs
  have hlt : i * 6 + 6 ≤ xs.length * 6 := by rw [← Nat.succ_mul]; exact Nat.mul_le_mul_right _ (by omega)
  exact ⟨_, _, _, _, _, _, ⟨(hc (i * 6) (by omega)).1, (hc (i * 6 + 1) (by omega)).1, (hc (i * 6 + 2) (by omega)).1, (hc (i * 6 + 3) (by omega)).1, (hc (i * 6 + 4) (by omega)).1, (hc (i * 6 + 5) (by omega)).1⟩, (hc (i * 6) (by omega)).2, (hc (i * 6 + 1) (by omega)).2, (hc (i * 6 + 2) (by omega)).2, (hc (i * 6 + 3) (by omega)).2, (hc (i * 6 + 4) (by omega)).2, (hc (i * 6 + 5) (by omega)).2⟩

set_option maxRecDepth 20000 in
set_option maxHeartbeats 8000000 in
theorem r20step2 (A : Option Addr) (c : Nat) (xs : List Ee) (x : Rc) (Ax : Option Addr) (cx : Nat) (W : World) (h : InBk W A c xs) (hx : TxAt W Ax cx x.ns) (hn : xs.length ≤ 100000) (hsm : ∀ y ∈ xs, SmE y) (hw : whyB (xs.map (·.1)) x = 0) (hk : x.k = 2) :
    Calls Tryz.prog 38 #[.slice A xs.length c, .agg (rcc x Ax cx)] W (StpR W A c xs x Ax cx) := by
  have hc := whyB_chk hw
  have HWY := hid (fun w (hw9 : RowKit.Below W.heap.size W w) => r20why_any A c xs x Ax cx w (h.below hw9) (hx.below hw9))
  simp only [hw] at HWY
  have HX := hid h
  have HTX := hid hx
  have hxl : xs.length ≤ 9223372036854775807 := by omega
  have hk1 : x.k ≠ 1 := by omega
  obtain ⟨i, hp⟩ := why_place hc hw hk1
  obtain ⟨hi', hj1, hj2⟩ := plB_some hp
  have hi : i < xs.length := by simpa using hi'
  have hwt : (if x.k = 4 then (if x.e - 1 ≠ (xs[i]'hi).1.ep then (12 : Int) else 0) else whyT (xs[i]'hi).1 x) = 0 := by
    have h9 := why_at hc hw hi' hk1 hp
    rwa [List.getElem_map] at h9
  have HAP := hid (appB_at hi hk1 hp)
  have HPL := hid (fun w (hw : RowKit.Below W.heap.size W w) => r20place_any A c xs x.j w (h.below hw))
  have HPI : Hid (plI (xs.map (·.1)) x.j = (i : Int)) := hid (by unfold plI; rw [hp])
  rw [HPI.out] at HPL
  obtain ⟨_, _, hwk, he4, _, ht⟩ := chk_parts2 hc
  clear h hx hc hw hp hj1 hj2 hi' HPI
  obtain ⟨k, j, t, wk, sd, ep, ns⟩ := x
  simp only at hk ht hwk he4 hwt hk1
  subst hk
  unfold StpR
  simp only [rcc] at HWY ⊢
  go_enter Tryz.func38, Tryz.ntmps38
  go_upto_region 1 with (fail)
  refine at_world (fun u => u.heap[W.heap.size]? = some (.cells #[.int .i64 2, .int .i64 j, .int .i64 t, .int .i64 wk, .int .i64 sd, .int .i64 ep, .slice Ax ns.length cx] 46 (0, 0)) ∧ RowKit.Below W.heap.size W u) ⟨heap_alloc_new _ _, (RowKit.Below.refl _ _).alloc (Nat.le_refl _) _⟩ ?_
  rintro w1 ⟨hx1, hb1⟩
  obtain ⟨p0, p1, p2, p3, p4, p5, p6⟩ := seven_cells hx1
  have HX1 := hid hx1
  have HB1 := hid hb1
  clear hx1 hb1
  go_wp2_with fail
  refine (HWY.out w1 HB1.out).mono ?_
  rintro e w2 ⟨rfl, hb2⟩
  have HB2 := hid (HB1.out.trans (hb2.mono HB1.out.size))
  have HX2 := hid (keep0 HX1.out hb2)
  clear hb2 HB1 HX1 HWY p0 p1 p2 p3 p4 p5 p6
  have HE := hid (own_empty w2 55 6)
  have HI2 := hid (HX.out.below HB2.out)
  go_wp2_with (at_builtin; refine wpList_append_sl (W := w2) rfl (.tmp 17) (.tmp 18) 60 rfl w2.heap.size 55 Tryz.underlying60 info_entry rfl (by omega) rfl HE.out rfl (HI2.out.1.below ((RowKit.Below.refl _ _).alloc (Nat.le_refl _) _)) (ebl_one xs) ?c1 ?c2 ?c3 ((RowKit.Below.refl _ _).alloc (Nat.le_refl _) _) ?_)
  case c1 => unfold maxLen; omega
  case c2 => omega
  case c3 => simp
  intro v3 w3 ho3 hb3 _
  try simp only [Nat.zero_add, List.nil_append] at ho3
  obtain ⟨A3, c3, rfl, _⟩ := Sl.of_own ho3
  have HX3 := hid (keep0 HX2.out hb3)
  have HB3 := hid (HB2.out.trans (hb3.mono HB2.out.size))
  have HO3 := hid ho3
  have hs3 := hb3.size
  have hNl : W.heap.size < w2.heap.size := lt_of_block HX2.out
  clear ho3 hb3 HE HI2 HX2 HB2
  generalize hb0 : w2.heap.size = b0 at *
  clear hb0
  obtain ⟨p0, p1, p2, p3, p4, p5, p6⟩ := seven_cells HX3.out
  go_wp2_with fail
  refine (HPL.out w3 HB3.out).mono ?_
  rintro e w4 ⟨rfl, rfl⟩
  clear HPL
  have hi2 : (i : Int) < (xs.length : Int) := by omega
  have i0 : ¬ (i : Int) < 0 := by omega
  obtain ⟨b4, o4, hA4, y0, y1, y2, y3, y4, y5⟩ := (HX.out.below HB3.out).el i hi
  have HIN := hid (HX.out.2 _ (List.getElem_mem hi))
  have HMEM := hid (List.getElem_mem hi)
  have HSM := hid (hsm _ (List.getElem_mem hi))
  clear hsm
  subst hA4
  generalize xs[i]'hi = ya at *
  obtain ⟨⟨id, sc, ee, ms, bd, dn⟩, ⟨A1, ca, P, cb, D, cd⟩⟩ := ya
  simp only at y0 y1 y2 y3 y4 y5 hwt
  go_upto_region 10 with (fail)
  refine at_world (fun u => u.heap[W.heap.size]? = some (.cells #[.int .i64 2, .int .i64 j, .int .i64 t, .int .i64 wk, .int .i64 sd, .int .i64 ep, .slice Ax ns.length cx] 46 (0, 0)) ∧ u.heap[w3.heap.size]? = some (.cells #[.int .i64 id, .int .i64 sc, .int .i64 ee, .slice A1 ms.length ca, .slice P bd.length cb, .slice D dn.length cd] 55 (0, 0)) ∧ u.ownsRow b0 55 6 (.slice A3 xs.length c3) xs.length (gcells ebl xs) ∧ RowKit.Below w3.heap.size w3 u) ⟨keep0 HX3.out ((RowKit.Below.refl _ _).alloc (Nat.le_refl _) _), heap_alloc_new _ _, own_keep HO3.out ((RowKit.Below.refl _ _).alloc (Nat.le_refl _) _), (RowKit.Below.refl _ _).alloc (Nat.le_refl _) _⟩ ?_
  clear p0 p1 p2 p3 p4 p5 p6 y0 y1 y2 y3 y4 y5
  rintro w4 ⟨hx4, he4', ho4, hb4⟩
  have HX4 := hid hx4
  have HE4 := hid he4'
  have HB4 := hid (HB3.out.trans (hb4.mono HB3.out.size))
  obtain ⟨g, cap9, hg9, hgb, _, _, _, _, _⟩ := own_open ho4 (by omega) (by omega)
  cases hg9
  have HO4 := hid ho4
  have hgM : g < w3.heap.size := (own_lt HO3.out g rfl).2.1
  have hM4 : w3.heap.size < w4.heap.size := lt_of_block he4'
  clear hx4 he4' ho4 hb4 HX3 HO3 HB3
  generalize hMM : w3.heap.size = M at *
  clear hMM
  obtain ⟨p0, p1, p2, p3, p4, p5, p6⟩ := seven_cells HX4.out
  obtain ⟨⟨y0, y1, y2, y3, y4, y5⟩, f0, f1, f2, f3, f4, f5⟩ := six_cells HE4.out
  rw [if_neg (by omega)] at hwt
  have htk := why_task hwt
  simp only at htk
  obtain ⟨tn, rfl⟩ := Int.eq_ofNat_of_zero_le ht.1
  have htb : tn < bd.length := by unfold tkB at htk; simp only at htk; omega
  have htd : tn < dn.length := by unfold tkB at htk; simp only at htk; omega
  clear hwt htk he4 ht
  have HEE := hid (own_empty w4 3 1)
  have HSL := hid (HIN.out.2.1.below HB4.out)
  have hll := sl_len64 HSL.out
  have HLB : Hid (bd.length ≤ 100000) := hid (by have h9 := HSM.out; unfold SmE at h9; simp only at h9; omega)
  go_wp2_with (at_builtin; refine wpList_append_sl (W := w4) rfl (.tmp 51) (.tmp 53) 52 rfl w4.heap.size 3 Tryz.underlying52 info_int rfl (by omega) rfl HEE.out rfl (HSL.out.below ((RowKit.Below.refl _ _).alloc (Nat.le_refl _) _)) (icells_one .i64 bd) ?e1 ?e2 (by simp) ((RowKit.Below.refl _ _).alloc (Nat.le_refl _) _) ?_)
  case e1 => have := HLB.out; unfold maxLen; omega
  case e2 => have := HLB.out; omega
  intro v5 w5 ho5 hb5 _
  try simp only [Nat.zero_add, List.nil_append] at ho5
  obtain ⟨A5, c5, rfl, _⟩ := Sl.of_own ho5
  have HX5 := hid (keep0 HX4.out hb5)
  have HE5 := hid (keep0 HE4.out hb5)
  have HO5 := hid (own_keep HO4.out hb5)
  have HB5 := hid (HB4.out.trans (hb5.mono HB4.out.size))
  have HR5 := hid ho5
  have hs5 := hb5.size
  clear ho5 hb5 HEE HSL HX4 HE4 HO4 HB4 p0 p1 p2 p3 p4 p5 p6 y0 y1 y2 y3 y4 y5 f0 f1 f2 f3 f4 f5
  generalize hb4 : w4.heap.size = b4s at *
  clear hb4
  obtain ⟨⟨y0, y1, y2, y3, y4, y5⟩, f0, f1, f2, f3, f4, f5⟩ := six_cells HE5.out
  go_upto_region 12 with (fail)
  have hT6 : Tch (fun q => q = M) w5 (w5.setCell ⟨M, 4, none⟩ (.slice A5 bd.length c5)) := (Tch.refl (fun q => q = M) w5).set M 4 _ fun _ => rfl
  refine at_world (fun u => u.heap[W.heap.size]? = some (.cells #[.int .i64 2, .int .i64 j, .int .i64 (tn : Int), .int .i64 wk, .int .i64 sd, .int .i64 ep, .slice Ax ns.length cx] 46 (0, 0)) ∧ u.heap[M]? = some (.cells #[.int .i64 id, .int .i64 sc, .int .i64 ee, .slice A1 ms.length ca, .slice A5 bd.length c5, .slice D dn.length cd] 55 (0, 0)) ∧ u.ownsRow b0 55 6 (.slice (some ⟨g, 0, none⟩) xs.length c3) xs.length (gcells ebl xs) ∧ u.ownsRow b4s 3 1 (.slice A5 bd.length c5) bd.length (icells .i64 bd) ∧ RowKit.Below W.heap.size W u) ⟨hT6.block HX5.out (by omega), (by rw [heap_setCell_same w5 M 4 _ _ (.slice A5 bd.length c5) HE5.out]; rfl), hT6.own HO5.out (fun q hq h9 => by have h8 : g = q := (by simpa [Value.ownBlock] using hq); omega), hT6.own HR5.out (fun q hq h9 => by have := (own_lt HR5.out q hq).1; omega), HB5.out.trans (hT6.below W.heap.size (fun q hq _ => by omega) HB5.out.size)⟩ ?_
  clear hT6 HX5 HE5 HO5 HR5 HB5 y0 y1 y2 y3 y4 y5 f0 f1 f2 f3 f4 f5
  rintro w6 ⟨hx6, he6, ho6, hr6, hb6⟩
  obtain ⟨q, capq, hq, hbq, _, _, hcell, hset, _⟩ := own_open hr6 (by omega) (by omega)
  cases hq
  obtain ⟨cq, fq⟩ := hcell tn (by rw [icells_length]; omega)
  have HST := hid (hset tn (.int .i64 (wk + 1)))
  have hqM : M < q := by omega
  have HX6 := hid hx6
  have HE6 := hid he6
  have HO6 := hid ho6
  have HB6 := hid hb6
  clear hx6 he6 ho6 hr6 hb6 hcell hset
  obtain ⟨p0, p1, p2, p3, p4, p5, p6⟩ := seven_cells HX6.out
  obtain ⟨⟨y0, y1, y2, y3, y4, y5⟩, f0, f1, f2, f3, f4, f5⟩ := six_cells HE6.out
  have t0 : ¬ (tn : Int) < 0 := by omega
  have t1 : (tn : Int) < (bd.length : Int) := by omega
  have hwr : IntKind.i64.wrap (wk + 1) = wk + 1 := by simp [IntKind.wrap, IntKind.bits, IntKind.signed]; omega
  go_upto_region 13 with (fail)
  have hT7 : Tch (fun z => z = q) w6 (w6.setCell ⟨q, tn, none⟩ (.int .i64 (wk + 1))) := (Tch.refl (fun z => z = q) w6).set q tn _ fun _ => rfl
  refine at_world (fun u => u.heap[W.heap.size]? = some (.cells #[.int .i64 2, .int .i64 j, .int .i64 (tn : Int), .int .i64 wk, .int .i64 sd, .int .i64 ep, .slice Ax ns.length cx] 46 (0, 0)) ∧ u.heap[M]? = some (.cells #[.int .i64 id, .int .i64 sc, .int .i64 ee, .slice A1 ms.length ca, .slice (some ⟨q, 0, none⟩) bd.length c5, .slice D dn.length cd] 55 (0, 0)) ∧ u.ownsRow b0 55 6 (.slice (some ⟨g, 0, none⟩) xs.length c3) xs.length (gcells ebl xs) ∧ u.ownsRow b4s 3 1 (.slice (some ⟨q, 0, none⟩) bd.length c5) bd.length ((icells .i64 bd).set tn (.int .i64 (wk + 1))) ∧ RowKit.Below W.heap.size W u) ⟨hT7.block HX6.out (by omega), hT7.block HE6.out (by omega), hT7.own HO6.out (fun z hz h9 => by have h8 : g = z := (by simpa [Value.ownBlock] using hz); omega), HST.out, HB6.out.trans (hT7.below W.heap.size (fun z hz _ => by omega) HB6.out.size)⟩ ?_
  clear hT7 HX6 HE6 HO6 HB6 HST cq fq p0 p1 p2 p3 p4 p5 p6 y0 y1 y2 y3 y4 y5 f0 f1 f2 f3 f4 f5
  rintro w9 ⟨hx9, he9, ho9, hr9, hb9⟩
  have HX9 := hid hx9
  have HE9 := hid he9
  have HO9 := hid ho9
  have HR9 := hid hr9
  have HB9 := hid hb9
  clear hx9 he9 ho9 hr9 hb9
  obtain ⟨p0, p1, p2, p3, p4, p5, p6⟩ := seven_cells HX9.out
  obtain ⟨⟨y0, y1, y2, y3, y4, y5⟩, f0, f1, f2, f3, f4, f5⟩ := six_cells HE9.out
  obtain ⟨u0, u1, u2, u3, u4, u5, ⟨k0, k1, k2, k3, k4, k5⟩, d0, d1, d2, d3, d4, d5⟩ := cells6 HO9.out rfl hi
  have HFN := hid (putE6_own HO9.out (v0 := .int .i64 id) (v1 := .int .i64 sc) (v2 := .int .i64 ee) (v3 := .slice A1 ms.length ca) (v4 := .slice (some ⟨q, 0, none⟩) bd.length c5) (v5 := .slice D dn.length cd) (by omega) hi (⟨id, sc, ee, ms, bd.set tn (wk + 1), dn⟩, ⟨A1, ca, some ⟨q, 0, none⟩, c5, D, cd⟩) (by simp [ebl]))
  have hTT := putE6_tch w9 g (i * 6) (.int .i64 id) (.int .i64 sc) (.int .i64 ee) (.slice A1 ms.length ca) (.slice (some ⟨q, 0, none⟩) bd.length c5) (.slice D dn.length cd)
  have HBF := hid (HB9.out.trans (hTT.below W.heap.size (fun q hq _ => by omega) HB9.out.size))
  have HRN := hid (hTT.own HR9.out (fun z hz h9 => by have h8 : q = z := (by simpa [Value.ownBlock] using hz); omega))
  simp only [putE6] at HFN HBF HRN
  clear hTT HX9 HE9 HO9 HB9
  go_wp2
  go_ret2
  refine ⟨some ⟨g, 0, none⟩, c3, xs.set i (⟨id, sc, ee, ms, bd.set tn (wk + 1), dn⟩, ⟨A1, ca, some ⟨q, 0, none⟩, c5, D, cd⟩), by rw [List.length_set]; rfl, by rw [HAP.out, List.map_set]; rfl, fun T w2 hT hty hin htx => ⟨by rw [List.length_set]; exact sl_own (hT.own_ty HFN.out (fun z hz cs t fr h9 => by first | exact (hty z hz cs t fr h9).1 | exact (hty z hz cs t fr.1 fr.2 h9).1)), fun e he => ?_⟩, HBF.out⟩
  rcases List.mem_or_eq_of_mem_set he with he | rfl
  · exact hin.2 e he
  · exact ⟨(hin.2 _ HMEM.out).1, (by
    have h := sl_own (hT.own_ty HRN.out (fun z hz cs t fr h9 => by first | exact (hty z hz cs t fr h9).2.2.1 | exact (hty z hz cs t fr.1 fr.2 h9).2.2.1))
    show Sl _ 1 _ (bd.set tn (wk + 1)).length _ _
    rw [List.length_set, icells_set]
    exact h), (hin.2 _ HMEM.out).2.2⟩

set_option maxRecDepth 20000 in
set_option maxHeartbeats 8000000 in
theorem r20step3 (A : Option Addr) (c : Nat) (xs : List Ee) (x : Rc) (Ax : Option Addr) (cx : Nat) (W : World) (h : InBk W A c xs) (hx : TxAt W Ax cx x.ns) (hn : xs.length ≤ 100000) (hsm : ∀ y ∈ xs, SmE y) (hw : whyB (xs.map (·.1)) x = 0) (hk : x.k = 3) :
    Calls Tryz.prog 38 #[.slice A xs.length c, .agg (rcc x Ax cx)] W (StpR W A c xs x Ax cx) := by
  have hc := whyB_chk hw
  have HWY := hid (fun w (hw9 : RowKit.Below W.heap.size W w) => r20why_any A c xs x Ax cx w (h.below hw9) (hx.below hw9))
  simp only [hw] at HWY
  have HX := hid h
  have HTX := hid hx
  have hxl : xs.length ≤ 9223372036854775807 := by omega
  have hk1 : x.k ≠ 1 := by omega
  obtain ⟨i, hp⟩ := why_place hc hw hk1
  obtain ⟨hi', hj1, hj2⟩ := plB_some hp
  have hi : i < xs.length := by simpa using hi'
  have hwt : (if x.k = 4 then (if x.e - 1 ≠ (xs[i]'hi).1.ep then (12 : Int) else 0) else whyT (xs[i]'hi).1 x) = 0 := by
    have h9 := why_at hc hw hi' hk1 hp
    rwa [List.getElem_map] at h9
  have HAP := hid (appB_at hi hk1 hp)
  have HPL := hid (fun w (hw : RowKit.Below W.heap.size W w) => r20place_any A c xs x.j w (h.below hw))
  have HPI : Hid (plI (xs.map (·.1)) x.j = (i : Int)) := hid (by unfold plI; rw [hp])
  rw [HPI.out] at HPL
  obtain ⟨_, _, hwk, he4, _, ht⟩ := chk_parts2 hc
  clear h hx hc hw hp hj1 hj2 hi' HPI
  obtain ⟨k, j, t, wk, sd, ep, ns⟩ := x
  simp only at hk ht hwk he4 hwt hk1
  subst hk
  unfold StpR
  simp only [rcc] at HWY ⊢
  go_enter Tryz.func38, Tryz.ntmps38
  go_upto_region 1 with (fail)
  refine at_world (fun u => u.heap[W.heap.size]? = some (.cells #[.int .i64 3, .int .i64 j, .int .i64 t, .int .i64 wk, .int .i64 sd, .int .i64 ep, .slice Ax ns.length cx] 46 (0, 0)) ∧ RowKit.Below W.heap.size W u) ⟨heap_alloc_new _ _, (RowKit.Below.refl _ _).alloc (Nat.le_refl _) _⟩ ?_
  rintro w1 ⟨hx1, hb1⟩
  obtain ⟨p0, p1, p2, p3, p4, p5, p6⟩ := seven_cells hx1
  have HX1 := hid hx1
  have HB1 := hid hb1
  clear hx1 hb1
  go_wp2_with fail
  refine (HWY.out w1 HB1.out).mono ?_
  rintro e w2 ⟨rfl, hb2⟩
  have HB2 := hid (HB1.out.trans (hb2.mono HB1.out.size))
  have HX2 := hid (keep0 HX1.out hb2)
  clear hb2 HB1 HX1 HWY p0 p1 p2 p3 p4 p5 p6
  have HE := hid (own_empty w2 55 6)
  have HI2 := hid (HX.out.below HB2.out)
  go_wp2_with (at_builtin; refine wpList_append_sl (W := w2) rfl (.tmp 17) (.tmp 18) 60 rfl w2.heap.size 55 Tryz.underlying60 info_entry rfl (by omega) rfl HE.out rfl (HI2.out.1.below ((RowKit.Below.refl _ _).alloc (Nat.le_refl _) _)) (ebl_one xs) ?c1 ?c2 ?c3 ((RowKit.Below.refl _ _).alloc (Nat.le_refl _) _) ?_)
  case c1 => unfold maxLen; omega
  case c2 => omega
  case c3 => simp
  intro v3 w3 ho3 hb3 _
  try simp only [Nat.zero_add, List.nil_append] at ho3
  obtain ⟨A3, c3, rfl, _⟩ := Sl.of_own ho3
  have HX3 := hid (keep0 HX2.out hb3)
  have HB3 := hid (HB2.out.trans (hb3.mono HB2.out.size))
  have HO3 := hid ho3
  have hs3 := hb3.size
  have hNl : W.heap.size < w2.heap.size := lt_of_block HX2.out
  clear ho3 hb3 HE HI2 HX2 HB2
  generalize hb0 : w2.heap.size = b0 at *
  clear hb0
  obtain ⟨p0, p1, p2, p3, p4, p5, p6⟩ := seven_cells HX3.out
  go_wp2_with fail
  refine (HPL.out w3 HB3.out).mono ?_
  rintro e w4 ⟨rfl, rfl⟩
  clear HPL
  have hi2 : (i : Int) < (xs.length : Int) := by omega
  have i0 : ¬ (i : Int) < 0 := by omega
  obtain ⟨b4, o4, hA4, y0, y1, y2, y3, y4, y5⟩ := (HX.out.below HB3.out).el i hi
  have HIN := hid (HX.out.2 _ (List.getElem_mem hi))
  have HMEM := hid (List.getElem_mem hi)
  have HSM := hid (hsm _ (List.getElem_mem hi))
  clear hsm
  subst hA4
  generalize xs[i]'hi = ya at *
  obtain ⟨⟨id, sc, ee, ms, bd, dn⟩, ⟨A1, ca, P, cb, D, cd⟩⟩ := ya
  simp only at y0 y1 y2 y3 y4 y5 hwt
  go_upto_region 10 with (fail)
  refine at_world (fun u => u.heap[W.heap.size]? = some (.cells #[.int .i64 3, .int .i64 j, .int .i64 t, .int .i64 wk, .int .i64 sd, .int .i64 ep, .slice Ax ns.length cx] 46 (0, 0)) ∧ u.heap[w3.heap.size]? = some (.cells #[.int .i64 id, .int .i64 sc, .int .i64 ee, .slice A1 ms.length ca, .slice P bd.length cb, .slice D dn.length cd] 55 (0, 0)) ∧ u.ownsRow b0 55 6 (.slice A3 xs.length c3) xs.length (gcells ebl xs) ∧ RowKit.Below w3.heap.size w3 u) ⟨keep0 HX3.out ((RowKit.Below.refl _ _).alloc (Nat.le_refl _) _), heap_alloc_new _ _, own_keep HO3.out ((RowKit.Below.refl _ _).alloc (Nat.le_refl _) _), (RowKit.Below.refl _ _).alloc (Nat.le_refl _) _⟩ ?_
  clear p0 p1 p2 p3 p4 p5 p6 y0 y1 y2 y3 y4 y5
  rintro w4 ⟨hx4, he4', ho4, hb4⟩
  have HX4 := hid hx4
  have HE4 := hid he4'
  have HB4 := hid (HB3.out.trans (hb4.mono HB3.out.size))
  obtain ⟨g, cap9, hg9, hgb, _, _, _, _, _⟩ := own_open ho4 (by omega) (by omega)
  cases hg9
  have HO4 := hid ho4
  have hgM : g < w3.heap.size := (own_lt HO3.out g rfl).2.1
  have hM4 : w3.heap.size < w4.heap.size := lt_of_block he4'
  clear hx4 he4' ho4 hb4 HX3 HO3 HB3
  generalize hMM : w3.heap.size = M at *
  clear hMM
  obtain ⟨p0, p1, p2, p3, p4, p5, p6⟩ := seven_cells HX4.out
  obtain ⟨⟨y0, y1, y2, y3, y4, y5⟩, f0, f1, f2, f3, f4, f5⟩ := six_cells HE4.out
  rw [if_neg (by omega)] at hwt
  have htk := why_task hwt
  simp only at htk
  obtain ⟨tn, rfl⟩ := Int.eq_ofNat_of_zero_le ht.1
  have htb : tn < bd.length := by unfold tkB at htk; simp only at htk; omega
  have htd : tn < dn.length := by unfold tkB at htk; simp only at htk; omega
  clear hwt htk he4 ht
  have HEE := hid (own_empty w4 4 1)
  have HSL := hid (HIN.out.2.2.below HB4.out)
  have hll := sl_len64 HSL.out
  have HLB : Hid (dn.length ≤ 100000) := hid (by have h9 := HSM.out; unfold SmE at h9; simp only at h9; omega)
  go_wp2_with (at_builtin; refine wpList_append_sl (W := w4) rfl (.tmp 67) (.tmp 69) 53 rfl w4.heap.size 4 Tryz.underlying53 info_bool rfl (by omega) rfl HEE.out rfl (HSL.out.below ((RowKit.Below.refl _ _).alloc (Nat.le_refl _) _)) (blcells_one dn) ?e1 ?e2 (by simp) ((RowKit.Below.refl _ _).alloc (Nat.le_refl _) _) ?_)
  case e1 => have := HLB.out; unfold maxLen; omega
  case e2 => have := HLB.out; omega
  intro v5 w5 ho5 hb5 _
  try simp only [Nat.zero_add, List.nil_append] at ho5
  obtain ⟨A5, c5, rfl, _⟩ := Sl.of_own ho5
  have HX5 := hid (keep0 HX4.out hb5)
  have HE5 := hid (keep0 HE4.out hb5)
  have HO5 := hid (own_keep HO4.out hb5)
  have HB5 := hid (HB4.out.trans (hb5.mono HB4.out.size))
  have HR5 := hid ho5
  have hs5 := hb5.size
  clear ho5 hb5 HEE HSL HX4 HE4 HO4 HB4 p0 p1 p2 p3 p4 p5 p6 y0 y1 y2 y3 y4 y5 f0 f1 f2 f3 f4 f5
  generalize hb4 : w4.heap.size = b4s at *
  clear hb4
  obtain ⟨⟨y0, y1, y2, y3, y4, y5⟩, f0, f1, f2, f3, f4, f5⟩ := six_cells HE5.out
  go_upto_region 15 with (fail)
  have hT6 : Tch (fun q => q = M) w5 (w5.setCell ⟨M, 5, none⟩ (.slice A5 dn.length c5)) := (Tch.refl (fun q => q = M) w5).set M 5 _ fun _ => rfl
  refine at_world (fun u => u.heap[W.heap.size]? = some (.cells #[.int .i64 3, .int .i64 j, .int .i64 (tn : Int), .int .i64 wk, .int .i64 sd, .int .i64 ep, .slice Ax ns.length cx] 46 (0, 0)) ∧ u.heap[M]? = some (.cells #[.int .i64 id, .int .i64 sc, .int .i64 ee, .slice A1 ms.length ca, .slice P bd.length cb, .slice A5 dn.length c5] 55 (0, 0)) ∧ u.ownsRow b0 55 6 (.slice (some ⟨g, 0, none⟩) xs.length c3) xs.length (gcells ebl xs) ∧ u.ownsRow b4s 4 1 (.slice A5 dn.length c5) dn.length (blcells dn) ∧ RowKit.Below W.heap.size W u) ⟨hT6.block HX5.out (by omega), (by rw [heap_setCell_same w5 M 5 _ _ (.slice A5 dn.length c5) HE5.out]; rfl), hT6.own HO5.out (fun q hq h9 => by have h8 : g = q := (by simpa [Value.ownBlock] using hq); omega), hT6.own HR5.out (fun q hq h9 => by have := (own_lt HR5.out q hq).1; omega), HB5.out.trans (hT6.below W.heap.size (fun q hq _ => by omega) HB5.out.size)⟩ ?_
  clear hT6 HX5 HE5 HO5 HR5 HB5 y0 y1 y2 y3 y4 y5 f0 f1 f2 f3 f4 f5
  rintro w6 ⟨hx6, he6, ho6, hr6, hb6⟩
  obtain ⟨q, capq, hq, hbq, _, _, hcell, hset, _⟩ := own_open hr6 (by omega) (by omega)
  cases hq
  obtain ⟨cq, fq⟩ := hcell tn (by rw [blcells_length]; omega)
  have HST := hid (hset tn (.bool true))
  have hqM : M < q := by omega
  have HX6 := hid hx6
  have HE6 := hid he6
  have HO6 := hid ho6
  have HB6 := hid hb6
  clear hx6 he6 ho6 hr6 hb6 hcell hset
  obtain ⟨p0, p1, p2, p3, p4, p5, p6⟩ := seven_cells HX6.out
  obtain ⟨⟨y0, y1, y2, y3, y4, y5⟩, f0, f1, f2, f3, f4, f5⟩ := six_cells HE6.out
  have t0 : ¬ (tn : Int) < 0 := by omega
  have t1 : (tn : Int) < (dn.length : Int) := by omega
  go_upto_region 16 with (fail)
  have hT7 : Tch (fun z => z = q) w6 (w6.setCell ⟨q, tn, none⟩ (.bool true)) := (Tch.refl (fun z => z = q) w6).set q tn _ fun _ => rfl
  refine at_world (fun u => u.heap[W.heap.size]? = some (.cells #[.int .i64 3, .int .i64 j, .int .i64 (tn : Int), .int .i64 wk, .int .i64 sd, .int .i64 ep, .slice Ax ns.length cx] 46 (0, 0)) ∧ u.heap[M]? = some (.cells #[.int .i64 id, .int .i64 sc, .int .i64 ee, .slice A1 ms.length ca, .slice P bd.length cb, .slice (some ⟨q, 0, none⟩) dn.length c5] 55 (0, 0)) ∧ u.ownsRow b0 55 6 (.slice (some ⟨g, 0, none⟩) xs.length c3) xs.length (gcells ebl xs) ∧ u.ownsRow b4s 4 1 (.slice (some ⟨q, 0, none⟩) dn.length c5) dn.length ((blcells dn).set tn (.bool true)) ∧ RowKit.Below W.heap.size W u) ⟨hT7.block HX6.out (by omega), hT7.block HE6.out (by omega), hT7.own HO6.out (fun z hz h9 => by have h8 : g = z := (by simpa [Value.ownBlock] using hz); omega), HST.out, HB6.out.trans (hT7.below W.heap.size (fun z hz _ => by omega) HB6.out.size)⟩ ?_
  clear hT7 HX6 HE6 HO6 HB6 HST cq fq p0 p1 p2 p3 p4 p5 p6 y0 y1 y2 y3 y4 y5 f0 f1 f2 f3 f4 f5
  rintro w9 ⟨hx9, he9, ho9, hr9, hb9⟩
  have HX9 := hid hx9
  have HE9 := hid he9
  have HO9 := hid ho9
  have HR9 := hid hr9
  have HB9 := hid hb9
  clear hx9 he9 ho9 hr9 hb9
  obtain ⟨p0, p1, p2, p3, p4, p5, p6⟩ := seven_cells HX9.out
  obtain ⟨⟨y0, y1, y2, y3, y4, y5⟩, f0, f1, f2, f3, f4, f5⟩ := six_cells HE9.out
  obtain ⟨u0, u1, u2, u3, u4, u5, ⟨k0, k1, k2, k3, k4, k5⟩, d0, d1, d2, d3, d4, d5⟩ := cells6 HO9.out rfl hi
  have HFN := hid (putE6_own HO9.out (v0 := .int .i64 id) (v1 := .int .i64 sc) (v2 := .int .i64 ee) (v3 := .slice A1 ms.length ca) (v4 := .slice P bd.length cb) (v5 := .slice (some ⟨q, 0, none⟩) dn.length c5) (by omega) hi (⟨id, sc, ee, ms, bd, dn.set tn true⟩, ⟨A1, ca, P, cb, some ⟨q, 0, none⟩, c5⟩) (by simp [ebl]))
  have hTT := putE6_tch w9 g (i * 6) (.int .i64 id) (.int .i64 sc) (.int .i64 ee) (.slice A1 ms.length ca) (.slice P bd.length cb) (.slice (some ⟨q, 0, none⟩) dn.length c5)
  have HBF := hid (HB9.out.trans (hTT.below W.heap.size (fun q hq _ => by omega) HB9.out.size))
  have HRN := hid (hTT.own HR9.out (fun z hz h9 => by have h8 : q = z := (by simpa [Value.ownBlock] using hz); omega))
  simp only [putE6] at HFN HBF HRN
  clear hTT HX9 HE9 HO9 HB9
  go_wp2
  go_ret2
  refine ⟨some ⟨g, 0, none⟩, c3, xs.set i (⟨id, sc, ee, ms, bd, dn.set tn true⟩, ⟨A1, ca, P, cb, some ⟨q, 0, none⟩, c5⟩), by rw [List.length_set]; rfl, by rw [HAP.out, List.map_set]; rfl, fun T w2 hT hty hin htx => ⟨by rw [List.length_set]; exact sl_own (hT.own_ty HFN.out (fun z hz cs t fr h9 => by first | exact (hty z hz cs t fr h9).1 | exact (hty z hz cs t fr.1 fr.2 h9).1)), fun e he => ?_⟩, HBF.out⟩
  rcases List.mem_or_eq_of_mem_set he with he | rfl
  · exact hin.2 e he
  · exact ⟨(hin.2 _ HMEM.out).1, (hin.2 _ HMEM.out).2.1, (by
    have h := sl_own (hT.own_ty HRN.out (fun z hz cs t fr h9 => by first | exact (hty z hz cs t fr h9).2.2.2 | exact (hty z hz cs t fr.1 fr.2 h9).2.2.2))
    show Sl _ 1 _ (dn.set tn true).length _ _
    rw [List.length_set, blcells_set]
    exact h)⟩

set_option maxRecDepth 20000 in
set_option maxHeartbeats 8000000 in
theorem r20step4 (A : Option Addr) (c : Nat) (xs : List Ee) (x : Rc) (Ax : Option Addr) (cx : Nat) (W : World) (h : InBk W A c xs) (hx : TxAt W Ax cx x.ns) (hn : xs.length ≤ 100000) (hsm : ∀ y ∈ xs, SmE y) (hw : whyB (xs.map (·.1)) x = 0) (hk : x.k = 4) :
    Calls Tryz.prog 38 #[.slice A xs.length c, .agg (rcc x Ax cx)] W (StpR W A c xs x Ax cx) := by
  have hc := whyB_chk hw
  have HWY := hid (fun w (hw9 : RowKit.Below W.heap.size W w) => r20why_any A c xs x Ax cx w (h.below hw9) (hx.below hw9))
  simp only [hw] at HWY
  have HX := hid h
  have HTX := hid hx
  have hxl : xs.length ≤ 9223372036854775807 := by omega
  have hk1 : x.k ≠ 1 := by omega
  obtain ⟨i, hp⟩ := why_place hc hw hk1
  obtain ⟨hi', hj1, hj2⟩ := plB_some hp
  have hi : i < xs.length := by simpa using hi'
  have hwt : (if x.k = 4 then (if x.e - 1 ≠ (xs[i]'hi).1.ep then (12 : Int) else 0) else whyT (xs[i]'hi).1 x) = 0 := by
    have h9 := why_at hc hw hi' hk1 hp
    rwa [List.getElem_map] at h9
  have HAP := hid (appB_at hi hk1 hp)
  have HPL := hid (fun w (hw : RowKit.Below W.heap.size W w) => r20place_any A c xs x.j w (h.below hw))
  have HPI : Hid (plI (xs.map (·.1)) x.j = (i : Int)) := hid (by unfold plI; rw [hp])
  rw [HPI.out] at HPL
  obtain ⟨_, _, hwk, he4, _, ht⟩ := chk_parts2 hc
  clear h hx hc hw hp hj1 hj2 hi' HPI
  obtain ⟨k, j, t, wk, sd, ep, ns⟩ := x
  simp only at hk ht hwk he4 hwt hk1
  subst hk
  unfold StpR
  simp only [rcc] at HWY ⊢
  go_enter Tryz.func38, Tryz.ntmps38
  go_upto_region 1 with (fail)
  refine at_world (fun u => u.heap[W.heap.size]? = some (.cells #[.int .i64 4, .int .i64 j, .int .i64 t, .int .i64 wk, .int .i64 sd, .int .i64 ep, .slice Ax ns.length cx] 46 (0, 0)) ∧ RowKit.Below W.heap.size W u) ⟨heap_alloc_new _ _, (RowKit.Below.refl _ _).alloc (Nat.le_refl _) _⟩ ?_
  rintro w1 ⟨hx1, hb1⟩
  obtain ⟨p0, p1, p2, p3, p4, p5, p6⟩ := seven_cells hx1
  have HX1 := hid hx1
  have HB1 := hid hb1
  clear hx1 hb1
  go_wp2_with fail
  refine (HWY.out w1 HB1.out).mono ?_
  rintro e w2 ⟨rfl, hb2⟩
  have HB2 := hid (HB1.out.trans (hb2.mono HB1.out.size))
  have HX2 := hid (keep0 HX1.out hb2)
  clear hb2 HB1 HX1 HWY p0 p1 p2 p3 p4 p5 p6
  have HE := hid (own_empty w2 55 6)
  have HI2 := hid (HX.out.below HB2.out)
  go_wp2_with (at_builtin; refine wpList_append_sl (W := w2) rfl (.tmp 17) (.tmp 18) 60 rfl w2.heap.size 55 Tryz.underlying60 info_entry rfl (by omega) rfl HE.out rfl (HI2.out.1.below ((RowKit.Below.refl _ _).alloc (Nat.le_refl _) _)) (ebl_one xs) ?c1 ?c2 ?c3 ((RowKit.Below.refl _ _).alloc (Nat.le_refl _) _) ?_)
  case c1 => unfold maxLen; omega
  case c2 => omega
  case c3 => simp
  intro v3 w3 ho3 hb3 _
  try simp only [Nat.zero_add, List.nil_append] at ho3
  obtain ⟨A3, c3, rfl, _⟩ := Sl.of_own ho3
  have HX3 := hid (keep0 HX2.out hb3)
  have HB3 := hid (HB2.out.trans (hb3.mono HB2.out.size))
  have HO3 := hid ho3
  have hs3 := hb3.size
  have hNl : W.heap.size < w2.heap.size := lt_of_block HX2.out
  clear ho3 hb3 HE HI2 HX2 HB2
  generalize hb0 : w2.heap.size = b0 at *
  clear hb0
  obtain ⟨p0, p1, p2, p3, p4, p5, p6⟩ := seven_cells HX3.out
  go_wp2_with fail
  refine (HPL.out w3 HB3.out).mono ?_
  rintro e w4 ⟨rfl, rfl⟩
  clear HPL
  have hi2 : (i : Int) < (xs.length : Int) := by omega
  have i0 : ¬ (i : Int) < 0 := by omega
  obtain ⟨b4, o4, hA4, y0, y1, y2, y3, y4, y5⟩ := (HX.out.below HB3.out).el i hi
  have HIN := hid (HX.out.2 _ (List.getElem_mem hi))
  have HMEM := hid (List.getElem_mem hi)
  have HSM := hid (hsm _ (List.getElem_mem hi))
  clear hsm
  subst hA4
  generalize xs[i]'hi = ya at *
  obtain ⟨⟨id, sc, ee, ms, bd, dn⟩, ⟨A1, ca, P, cb, D, cd⟩⟩ := ya
  simp only at y0 y1 y2 y3 y4 y5 hwt
  go_upto_region 10 with (fail)
  refine at_world (fun u => u.heap[W.heap.size]? = some (.cells #[.int .i64 4, .int .i64 j, .int .i64 t, .int .i64 wk, .int .i64 sd, .int .i64 ep, .slice Ax ns.length cx] 46 (0, 0)) ∧ u.heap[w3.heap.size]? = some (.cells #[.int .i64 id, .int .i64 sc, .int .i64 ee, .slice A1 ms.length ca, .slice P bd.length cb, .slice D dn.length cd] 55 (0, 0)) ∧ u.ownsRow b0 55 6 (.slice A3 xs.length c3) xs.length (gcells ebl xs) ∧ RowKit.Below w3.heap.size w3 u) ⟨keep0 HX3.out ((RowKit.Below.refl _ _).alloc (Nat.le_refl _) _), heap_alloc_new _ _, own_keep HO3.out ((RowKit.Below.refl _ _).alloc (Nat.le_refl _) _), (RowKit.Below.refl _ _).alloc (Nat.le_refl _) _⟩ ?_
  clear p0 p1 p2 p3 p4 p5 p6 y0 y1 y2 y3 y4 y5
  rintro w4 ⟨hx4, he4', ho4, hb4⟩
  have HX4 := hid hx4
  have HE4 := hid he4'
  have HB4 := hid (HB3.out.trans (hb4.mono HB3.out.size))
  obtain ⟨g, cap9, hg9, hgb, _, _, _, _, _⟩ := own_open ho4 (by omega) (by omega)
  cases hg9
  have HO4 := hid ho4
  have hgM : g < w3.heap.size := (own_lt HO3.out g rfl).2.1
  have hM4 : w3.heap.size < w4.heap.size := lt_of_block he4'
  clear hx4 he4' ho4 hb4 HX3 HO3 HB3
  generalize hMM : w3.heap.size = M at *
  clear hMM
  obtain ⟨p0, p1, p2, p3, p4, p5, p6⟩ := seven_cells HX4.out
  obtain ⟨⟨y0, y1, y2, y3, y4, y5⟩, f0, f1, f2, f3, f4, f5⟩ := six_cells HE4.out
  clear hwt he4 ht hwk
  go_upto_region 19 with (fail)
  have hT6 : Tch (fun q => q = M) w4 ((w4.setCell ⟨M, 1, none⟩ (.int .i64 sd)).setCell ⟨M, 2, none⟩ (.int .i64 ep)) := ((Tch.refl (fun q => q = M) w4).set M 1 _ fun _ => rfl).set M 2 _ fun _ => rfl
  refine at_world (fun u => u.heap[W.heap.size]? = some (.cells #[.int .i64 4, .int .i64 j, .int .i64 t, .int .i64 wk, .int .i64 sd, .int .i64 ep, .slice Ax ns.length cx] 46 (0, 0)) ∧ u.heap[M]? = some (.cells #[.int .i64 id, .int .i64 sd, .int .i64 ep, .slice A1 ms.length ca, .slice P bd.length cb, .slice D dn.length cd] 55 (0, 0)) ∧ u.ownsRow b0 55 6 (.slice (some ⟨g, 0, none⟩) xs.length c3) xs.length (gcells ebl xs) ∧ RowKit.Below W.heap.size W u) ⟨hT6.block HX4.out (by omega), (by rw [heap_setCell_same _ M 2 _ _ (.int .i64 ep) (heap_setCell_same w4 M 1 _ _ (.int .i64 sd) HE4.out)]; rfl), hT6.own HO4.out (fun q hq h9 => by have h8 : g = q := (by simpa [Value.ownBlock] using hq); omega), HB4.out.trans (hT6.below W.heap.size (fun q hq _ => by omega) HB4.out.size)⟩ ?_
  clear hT6 HX4 HE4 HO4 HB4 p0 p1 p2 p3 p4 p5 p6 y0 y1 y2 y3 y4 y5 f0 f1 f2 f3 f4 f5
  rintro w9 ⟨hx9, he9, ho9, hb9⟩
  have HX9 := hid hx9
  have HE9 := hid he9
  have HO9 := hid ho9
  have HB9 := hid hb9
  clear hx9 he9 ho9 hb9
  obtain ⟨p0, p1, p2, p3, p4, p5, p6⟩ := seven_cells HX9.out
  obtain ⟨⟨y0, y1, y2, y3, y4, y5⟩, f0, f1, f2, f3, f4, f5⟩ := six_cells HE9.out
  obtain ⟨u0, u1, u2, u3, u4, u5, ⟨k0, k1, k2, k3, k4, k5⟩, d0, d1, d2, d3, d4, d5⟩ := cells6 HO9.out rfl hi
  have HFN := hid (putE6_own HO9.out (v0 := .int .i64 id) (v1 := .int .i64 sd) (v2 := .int .i64 ep) (v3 := .slice A1 ms.length ca) (v4 := .slice P bd.length cb) (v5 := .slice D dn.length cd) (by omega) hi (⟨id, sd, ep, ms, bd, dn⟩, ⟨A1, ca, P, cb, D, cd⟩) (by simp [ebl]))
  have hTT := putE6_tch w9 g (i * 6) (.int .i64 id) (.int .i64 sd) (.int .i64 ep) (.slice A1 ms.length ca) (.slice P bd.length cb) (.slice D dn.length cd)
  have HBF := hid (HB9.out.trans (hTT.below W.heap.size (fun q hq _ => by omega) HB9.out.size))
  have HRN := hid HBF.out
  simp only [putE6] at HFN HBF HRN
  clear hTT HX9 HE9 HO9 HB9
  go_wp2
  go_ret2
  refine ⟨some ⟨g, 0, none⟩, c3, xs.set i (⟨id, sd, ep, ms, bd, dn⟩, ⟨A1, ca, P, cb, D, cd⟩), by rw [List.length_set]; rfl, by rw [HAP.out, List.map_set]; rfl, fun T w2 hT hty hin htx => ⟨by rw [List.length_set]; exact sl_own (hT.own_ty HFN.out (fun z hz cs t fr h9 => by first | exact (hty z hz cs t fr h9).1 | exact (hty z hz cs t fr.1 fr.2 h9).1)), fun e he => ?_⟩, HBF.out⟩
  rcases List.mem_or_eq_of_mem_set he with he | rfl
  · exact hin.2 e he
  · exact ⟨(hin.2 _ HMEM.out).1, (hin.2 _ HMEM.out).2.1, (hin.2 _ HMEM.out).2.2⟩

set_option maxRecDepth 20000 in
set_option maxHeartbeats 8000000 in
theorem r20step1 (A : Option Addr) (c : Nat) (xs : List Ee) (x : Rc) (Ax : Option Addr) (cx : Nat) (W : World) (h : InBk W A c xs) (hx : TxAt W Ax cx x.ns) (hn : xs.length ≤ 100000) (hsm : ∀ y ∈ xs, SmE y) (hw : whyB (xs.map (·.1)) x = 0) (hk : x.k = 1) :
    Calls Tryz.prog 38 #[.slice A xs.length c, .agg (rcc x Ax cx)] W (StpR W A c xs x Ax cx) := by
  have hc := whyB_chk hw
  have HWY := hid (fun w (hw9 : RowKit.Below W.heap.size W w) => r20why_any A c xs x Ax cx w (h.below hw9) (hx.below hw9))
  simp only [hw] at HWY
  have HX := hid h
  have HTX := hid hx
  have hxl : xs.length ≤ 9223372036854775807 := by omega
  have HAP : Hid (appB (xs.map (·.1)) x = xs.map (·.1) ++ [newB x]) := hid (if_pos hk)
  have hnn := (chkR_ns hc).1
  clear h hx hc hw
  obtain ⟨k, j, t, wk, sd, ep, ns⟩ := x
  simp only at hk hnn
  subst hk
  unfold StpR
  simp only [rcc] at HWY ⊢
  go_enter Tryz.func38, Tryz.ntmps38
  go_upto_region 1 with (fail)
  refine at_world (fun u => u.heap[W.heap.size]? = some (.cells #[.int .i64 1, .int .i64 j, .int .i64 t, .int .i64 wk, .int .i64 sd, .int .i64 ep, .slice Ax ns.length cx] 46 (0, 0)) ∧ RowKit.Below W.heap.size W u) ⟨heap_alloc_new _ _, (RowKit.Below.refl _ _).alloc (Nat.le_refl _) _⟩ ?_
  rintro w1 ⟨hx1, hb1⟩
  obtain ⟨p0, p1, p2, p3, p4, p5, p6⟩ := seven_cells hx1
  have HX1 := hid hx1
  have HB1 := hid hb1
  clear hx1 hb1
  go_wp2_with fail
  refine (HWY.out w1 HB1.out).mono ?_
  rintro e w2 ⟨rfl, hb2⟩
  have HB2 := hid (HB1.out.trans (hb2.mono HB1.out.size))
  have HX2 := hid (keep0 HX1.out hb2)
  clear hb2 HB1 HX1 HWY p0 p1 p2 p3 p4 p5 p6
  have HE := hid (own_empty w2 55 6)
  have HI2 := hid (HX.out.below HB2.out)
  go_wp2_with (at_builtin; refine wpList_append_sl (W := w2) rfl (.tmp 17) (.tmp 18) 60 rfl w2.heap.size 55 Tryz.underlying60 info_entry rfl (by omega) rfl HE.out rfl (HI2.out.1.below ((RowKit.Below.refl _ _).alloc (Nat.le_refl _) _)) (ebl_one xs) ?c1 ?c2 ?c3 ((RowKit.Below.refl _ _).alloc (Nat.le_refl _) _) ?_)
  case c1 => unfold maxLen; omega
  case c2 => omega
  case c3 => simp
  intro v3 w3 ho3 hb3 _
  try simp only [Nat.zero_add, List.nil_append] at ho3
  obtain ⟨A3, c3, rfl, _⟩ := Sl.of_own ho3
  have HX3 := hid (keep0 HX2.out hb3)
  have HB3 := hid (HB2.out.trans (hb3.mono HB2.out.size))
  have HO3 := hid ho3
  have hs3 := hb3.size
  have hNl : W.heap.size < w2.heap.size := lt_of_block HX2.out
  clear ho3 hb3 HE HI2 HX2 HB2
  generalize hb0 : w2.heap.size = b0 at *
  clear hb0
  obtain ⟨p0, p1, p2, p3, p4, p5, p6⟩ := seven_cells HX3.out
  have HNS := hid hnn
  clear hnn hsm
  generalize hnl : ns.length = n at *
  have HNL := hid hnl
  have hn16 : n ≤ 16 := HNS.out
  clear hnl
  have hmk1 := run_make_1 (P := Tryz.prog) 52 3 Tryz.underlying52 info_int rfl n n (Nat.le_refl _) (by omega) (by unfold maxLen; omega)
  have hmk2 := run_make_1 (P := Tryz.prog) 53 4 Tryz.underlying53 info_bool rfl n n (Nat.le_refl _) (by omega) (by unfold maxLen; omega)
  go_upto_region 7 with (fail)
  clear p0 p1 p2 p3 p4 p5 p6
  have hWb : W.heap.size < b0 := hNl
  generalize hNN : W.heap.size = N at *
  have HNN := hid hNN
  clear hNN
  have HXB := hid (fun U (hU : RowKit.Below b0 w3 U) => hU.block N hWb)
  have hS : ∀ U, RowKit.Below b0 w3 U → ((U.cell? ⟨N, 1, none⟩ = some (.int .i64 j) ∧ U.cell? ⟨N, 4, none⟩ = some (.int .i64 sd) ∧ U.cell? ⟨N, 6, none⟩ = some (.slice Ax n cx)) ∧ RowKit.Below b0 w3 U) := fun U hU => by
    obtain ⟨_, h1, _, _, h4, _, h6⟩ := seven_cells ((HXB.out U hU).trans HX3.out)
    exact ⟨⟨h1, h4, h6⟩, hU⟩
  have hu0 : RowKit.Below w3.heap.size w3 w3.drew := below_drew (RowKit.Below.refl _ _)
  refine wp_region_held_drew (S := fun U => (U.cell? ⟨N, 1, none⟩ = some (.int .i64 j) ∧ U.cell? ⟨N, 4, none⟩ = some (.int .i64 sd) ∧ U.cell? ⟨N, 6, none⟩ = some (.slice Ax n cx)) ∧ RowKit.Below b0 w3 U) (by kernel_rfl) (hS _ (hu0.mono hs3)) (fun hHeld => ?_)
  generalize w3.drew = u0 at *
  refine tkA 0 ?_ rfl ?_ (by assumption) ?_; rotate_left; focus (intro U hU; (try dsimp only at hU); go_simp; try (with_reducible rfl))
  simp only [gt6, Act.put]
  refine tkA 1 ?_ rfl ?_ (by assumption) ?_; rotate_left; focus (intro U hU; (try dsimp only at hU); go_simp; try (with_reducible rfl))
  simp only [gt6, Act.put]
  refine tkA 2 ?_ rfl ?_ (by assumption) ?_; rotate_left; focus (intro U hU; (try dsimp only at hU); go_simp; try (with_reducible rfl))
  simp only [gt6, Act.put]
  refine tkA 3 ?_ rfl ?_ (by assumption) ?_; rotate_left; focus (intro U hU; (try dsimp only at hU); go_simp; try (with_reducible rfl))
  simp only [gt6, Act.put]
  refine tkA 4 ?_ rfl ?_ (by assumption) ?_; rotate_left; focus (intro U hU; (try dsimp only at hU); go_simp; try (with_reducible rfl))
  simp only [gt6, Act.put]
  refine tkA 5 ?_ rfl ?_ (by assumption) ?_; rotate_left; focus (intro U hU; (try dsimp only at hU); go_simp; try (with_reducible rfl))
  simp only [gt6, Act.put]
  refine tkA 6 ?_ rfl ?_ (by assumption) ?_; rotate_left; focus (intro U hU; (try dsimp only at hU); go_simp; try (with_reducible rfl))
  simp only [gt6, Act.put]
  refine tkA 7 ?_ rfl ?_ (by assumption) ?_; rotate_left; focus (intro U hU; (try dsimp only at hU); go_simp; try (with_reducible rfl))
  simp only [gt6, Act.put]
  refine tkA 9 ?_ rfl ?_ (by assumption) ?_; rotate_left; focus (intro U hU; (try dsimp only at hU); go_simp; try (with_reducible rfl))
  simp only [gt6, Act.put]
  refine wpAnyH_ready (rs := [8, 10]) (by kernel_rfl) (by simp) ?_
  refine (AllReadyH.cons rfl (fun K hK => ?_) (AllReadyH.cons rfl (fun K hK => ?_) AllReadyH.nil))
  · skip
    simp only [gt3]
    go_simp
    refine hK.out _ _ ?_ (fun hHeld2 => ?_)
    focus
      exact hS _ ((hu0.alloc hu0.size _).mono hs3)
    clear hHeld
    have hHeld := hHeld2
    clear hHeld2 hK K
    try simp only [gt6, Act.put]
    have gg : RowKit.Below (World.heap u0).size u0 (World.alloc u0 (.cells (Array.replicate n (.int .i64 0)) 3 (0, 0))) := (RowKit.Below.refl _ _).alloc (Nat.le_refl _) _
    have hu1 := hu0.trans (gg.mono hu0.size)
    have hsb : (World.alloc u0 (.cells (Array.replicate n (.int .i64 0)) 3 (0, 0))).ownsRow w3.heap.size 3 1 (.slice (some ⟨(World.heap u0).size, 0, none⟩) n n) n (icells .i64 (List.replicate n 0)) := own_rep (heap_alloc_new u0 _) hu0.size (by unfold maxLen; omega) (by simp [icells, blcells])
    clear gg
    generalize World.alloc u0 (.cells (Array.replicate n (.int .i64 0)) 3 (0, 0)) = u1 at *
    generalize (World.heap u0).size = M1 at *
    refine wpAnyH_ready (rs := [10]) (by kernel_rfl) (by simp) ?_
    refine (AllReadyH.cons rfl (fun K hK => ?_) AllReadyH.nil)
    simp only [gt3]
    go_simp
    refine hK.out _ _ ?_ (fun hHeld2 => ?_)
    focus
      exact hS _ ((hu1.alloc hu1.size _).mono hs3)
    clear hHeld
    have hHeld := hHeld2
    clear hHeld2 hK K
    try simp only [gt6, Act.put]
    have gg : RowKit.Below (World.heap u1).size u1 (World.alloc u1 (.cells (Array.replicate n (.bool false)) 4 (0, 0))) := (RowKit.Below.refl _ _).alloc (Nat.le_refl _) _
    have hu2 := hu1.trans (gg.mono hu1.size)
    have hsd : (World.alloc u1 (.cells (Array.replicate n (.bool false)) 4 (0, 0))).ownsRow w3.heap.size 4 1 (.slice (some ⟨(World.heap u1).size, 0, none⟩) n n) n (blcells (List.replicate n false)) := own_rep (heap_alloc_new u1 _) hu1.size (by unfold maxLen; omega) (by simp [icells, blcells])
    replace hsb := own_keep hsb gg
    clear gg
    generalize World.alloc u1 (.cells (Array.replicate n (.bool false)) 4 (0, 0)) = u2 at *
    generalize (World.heap u1).size = M2 at *
    refine tkA 11 ?_ rfl ?_ (by assumption) ?_; rotate_left; focus (intro U hU; (try dsimp only at hU); go_simp; try (with_reducible rfl))
    simp only [gt6, Act.put]
    refine wpAnyH_ready (rs := [12]) (by kernel_rfl) (by simp) ?_
    refine (AllReadyH.cons rfl (fun K hK => ?_) AllReadyH.nil)
    simp only [gt3]
    go_simp
    refine hK.out _ _ ?_ (fun hHeld2 => ?_)
    focus
      exact hS _ ((hu2.alloc hu2.size _).mono hs3)
    clear hHeld
    have hHeld := hHeld2
    clear hHeld2 hK K
    try simp only [gt6, Act.put]
    have gg : RowKit.Below (World.heap u2).size u2 (World.alloc u2 (.cells #[.int .i64 j, .int .i64 sd, .int .i64 1, .slice Ax n cx, .slice (some ⟨M1, 0, none⟩) n n, .slice (some ⟨M2, 0, none⟩) n n] 55 (0, 0))) := (RowKit.Below.refl _ _).alloc (Nat.le_refl _) _
    have hu3 := hu2.trans (gg.mono hu2.size)
    have hx9 := heap_alloc_new u2 (.cells #[.int .i64 j, .int .i64 sd, .int .i64 1, .slice Ax n cx, .slice (some ⟨M1, 0, none⟩) n n, .slice (some ⟨M2, 0, none⟩) n n] 55 (0, 0))
    replace hsb := own_keep hsb gg
    replace hsd := own_keep hsd gg
    clear gg
    generalize World.alloc u2 (.cells #[.int .i64 j, .int .i64 sd, .int .i64 1, .slice Ax n cx, .slice (some ⟨M1, 0, none⟩) n n, .slice (some ⟨M2, 0, none⟩) n n] 55 (0, 0)) = u3 at *
    generalize (World.heap u2).size = N9 at *
    refine wpAnyH_ready (rs := [13]) (by kernel_rfl) (by simp) ?_
    refine (AllReadyH.cons rfl (fun K hK => ?_) AllReadyH.nil)
    refine step_append_sl rfl (.tmp 26) (.tmp 38) 60 rfl b0 55 Tryz.underlying60 info_entry rfl (by omega) rfl (own_keep HO3.out hu3) rfl (sl_blk6 hx9) (by simp [Value.oneCell']) ?c1 ?c2 ?c3 ?_
    case c1 => unfold maxLen; omega
    case c2 => omega
    case c3 => have := hu3.size; omega
    intro v5 w6 ho5 ht5 hgz hkp
    have hk6 : RowKit.Below b0 w3 w6 := (hu3.mono hs3).trans ht5
    have hsb6 := own_block hsb (w' := w6) (fun z o hz ho => (hkp z (by omega) (lt_of_block ho) (fun h9 => by have := (own_lt HO3.out z h9).2.1; omega)).trans ho)
    have hsd6 := own_block hsd (w' := w6) (fun z o hz ho => (hkp z (by omega) (lt_of_block ho) (fun h9 => by have := (own_lt HO3.out z h9).2.1; omega)).trans ho)
    clear ht5 hgz hkp hsb hsd hx9
    obtain ⟨A6, c6, rfl, _⟩ := Sl.of_own ho5
    refine hK.out _ _ ?_ (fun hHeld2 => ?_)
    focus
      exact hS _ hk6
    clear hHeld
    have hHeld := hHeld2
    clear hHeld2 hK K
    try simp only [gt6, Act.put]
    refine tkA 14 ?_ rfl ?_ (by assumption) ?_; rotate_left; focus (intro U hU; (try dsimp only at hU); go_simp; try (with_reducible rfl))
    simp only [gt6, Act.put]
    refine tkA 15 ?_ rfl ?_ (by assumption) ?_; rotate_left; focus (intro U hU; (try dsimp only at hU); go_simp; try (with_reducible rfl))
    simp only [gt6, Act.put]
    refine wpAnyH_done (by kernel_rfl) ?_ _
    have HBF := hid (HB3.out.trans (hk6.mono (show N ≤ b0 by omega)))
    have HO6 := hid ho5
    have HSB := hid hsb6
    have HSD := hid hsd6
    clear hHeld hS hmk1 hmk2 ho5 hsb6 hsd6 hk6 hu0 hu1 hu2 hu3
    go_wp2
    go_ret2
    have hBF := HNN.out ▸ HBF.out
    refine ⟨A6, c6, xs ++ [(newB ⟨1, j, t, wk, sd, ep, ns⟩, ⟨Ax, cx, some ⟨M1, 0, none⟩, n, some ⟨M2, 0, none⟩, n⟩)], by rw [List.length_append]; rfl, by rw [HAP.out, List.map_append]; rfl, fun T w2 hT hty hin htx => ⟨?_, fun e he => ?_⟩, hBF⟩
    · rw [List.length_append, gcells_snoc]
      have h9 := sl_own (hT.own_ty HO6.out (fun z hz cs t fr h9 => by first | exact (hty z hz cs t fr h9).1 | exact (hty z hz cs t fr.1 fr.2 h9).1))
      simpa [ebl, newB, HNL.out] using h9
    · rcases List.mem_append.1 he with he | he
      · exact hin.2 e he
      · obtain rfl : e = (newB ⟨1, j, t, wk, sd, ep, ns⟩, ⟨Ax, cx, some ⟨M1, 0, none⟩, n, some ⟨M2, 0, none⟩, n⟩) := by simpa using he
        have h7 := sl_own (hT.own_ty HSB.out (fun z hz cs t fr h9 => by first | exact (hty z hz cs t fr h9).2.2.1 | exact (hty z hz cs t fr.1 fr.2 h9).2.2.1))
        have h8 := sl_own (hT.own_ty HSD.out (fun z hz cs t fr h9 => by first | exact (hty z hz cs t fr h9).2.2.2 | exact (hty z hz cs t fr.1 fr.2 h9).2.2.2))
        exact ⟨htx, by simpa [newB, HNL.out] using h7, by simpa [newB, HNL.out] using h8⟩
  · skip
    simp only [gt3]
    go_simp
    refine hK.out _ _ ?_ (fun hHeld2 => ?_)
    focus
      exact hS _ ((hu0.alloc hu0.size _).mono hs3)
    clear hHeld
    have hHeld := hHeld2
    clear hHeld2 hK K
    try simp only [gt6, Act.put]
    have gg : RowKit.Below (World.heap u0).size u0 (World.alloc u0 (.cells (Array.replicate n (.bool false)) 4 (0, 0))) := (RowKit.Below.refl _ _).alloc (Nat.le_refl _) _
    have hu1 := hu0.trans (gg.mono hu0.size)
    have hsd : (World.alloc u0 (.cells (Array.replicate n (.bool false)) 4 (0, 0))).ownsRow w3.heap.size 4 1 (.slice (some ⟨(World.heap u0).size, 0, none⟩) n n) n (blcells (List.replicate n false)) := own_rep (heap_alloc_new u0 _) hu0.size (by unfold maxLen; omega) (by simp [icells, blcells])
    clear gg
    generalize World.alloc u0 (.cells (Array.replicate n (.bool false)) 4 (0, 0)) = u1 at *
    generalize (World.heap u0).size = M2 at *
    refine wpAnyH_ready (rs := [8]) (by kernel_rfl) (by simp) ?_
    refine (AllReadyH.cons rfl (fun K hK => ?_) AllReadyH.nil)
    simp only [gt3]
    go_simp
    refine hK.out _ _ ?_ (fun hHeld2 => ?_)
    focus
      exact hS _ ((hu1.alloc hu1.size _).mono hs3)
    clear hHeld
    have hHeld := hHeld2
    clear hHeld2 hK K
    try simp only [gt6, Act.put]
    have gg : RowKit.Below (World.heap u1).size u1 (World.alloc u1 (.cells (Array.replicate n (.int .i64 0)) 3 (0, 0))) := (RowKit.Below.refl _ _).alloc (Nat.le_refl _) _
    have hu2 := hu1.trans (gg.mono hu1.size)
    have hsb : (World.alloc u1 (.cells (Array.replicate n (.int .i64 0)) 3 (0, 0))).ownsRow w3.heap.size 3 1 (.slice (some ⟨(World.heap u1).size, 0, none⟩) n n) n (icells .i64 (List.replicate n 0)) := own_rep (heap_alloc_new u1 _) hu1.size (by unfold maxLen; omega) (by simp [icells, blcells])
    replace hsd := own_keep hsd gg
    clear gg
    generalize World.alloc u1 (.cells (Array.replicate n (.int .i64 0)) 3 (0, 0)) = u2 at *
    generalize (World.heap u1).size = M1 at *
    refine tkA 11 ?_ rfl ?_ (by assumption) ?_; rotate_left; focus (intro U hU; (try dsimp only at hU); go_simp; try (with_reducible rfl))
    simp only [gt6, Act.put]
    refine wpAnyH_ready (rs := [12]) (by kernel_rfl) (by simp) ?_
    refine (AllReadyH.cons rfl (fun K hK => ?_) AllReadyH.nil)
    simp only [gt3]
    go_simp
    refine hK.out _ _ ?_ (fun hHeld2 => ?_)
    focus
      exact hS _ ((hu2.alloc hu2.size _).mono hs3)
    clear hHeld
    have hHeld := hHeld2
    clear hHeld2 hK K
    try simp only [gt6, Act.put]
    have gg : RowKit.Below (World.heap u2).size u2 (World.alloc u2 (.cells #[.int .i64 j, .int .i64 sd, .int .i64 1, .slice Ax n cx, .slice (some ⟨M1, 0, none⟩) n n, .slice (some ⟨M2, 0, none⟩) n n] 55 (0, 0))) := (RowKit.Below.refl _ _).alloc (Nat.le_refl _) _
    have hu3 := hu2.trans (gg.mono hu2.size)
    have hx9 := heap_alloc_new u2 (.cells #[.int .i64 j, .int .i64 sd, .int .i64 1, .slice Ax n cx, .slice (some ⟨M1, 0, none⟩) n n, .slice (some ⟨M2, 0, none⟩) n n] 55 (0, 0))
    replace hsb := own_keep hsb gg
    replace hsd := own_keep hsd gg
    clear gg
    generalize World.alloc u2 (.cells #[.int .i64 j, .int .i64 sd, .int .i64 1, .slice Ax n cx, .slice (some ⟨M1, 0, none⟩) n n, .slice (some ⟨M2, 0, none⟩) n n] 55 (0, 0)) = u3 at *
    generalize (World.heap u2).size = N9 at *
    refine wpAnyH_ready (rs := [13]) (by kernel_rfl) (by simp) ?_
    refine (AllReadyH.cons rfl (fun K hK => ?_) AllReadyH.nil)
    refine step_append_sl rfl (.tmp 26) (.tmp 38) 60 rfl b0 55 Tryz.underlying60 info_entry rfl (by omega) rfl (own_keep HO3.out hu3) rfl (sl_blk6 hx9) (by simp [Value.oneCell']) ?c1 ?c2 ?c3 ?_
    case c1 => unfold maxLen; omega
    case c2 => omega
    case c3 => have := hu3.size; omega
    intro v5 w6 ho5 ht5 hgz hkp
    have hk6 : RowKit.Below b0 w3 w6 := (hu3.mono hs3).trans ht5
    have hsb6 := own_block hsb (w' := w6) (fun z o hz ho => (hkp z (by omega) (lt_of_block ho) (fun h9 => by have := (own_lt HO3.out z h9).2.1; omega)).trans ho)
    have hsd6 := own_block hsd (w' := w6) (fun z o hz ho => (hkp z (by omega) (lt_of_block ho) (fun h9 => by have := (own_lt HO3.out z h9).2.1; omega)).trans ho)
    clear ht5 hgz hkp hsb hsd hx9
    obtain ⟨A6, c6, rfl, _⟩ := Sl.of_own ho5
    refine hK.out _ _ ?_ (fun hHeld2 => ?_)
    focus
      exact hS _ hk6
    clear hHeld
    have hHeld := hHeld2
    clear hHeld2 hK K
    try simp only [gt6, Act.put]
    refine tkA 14 ?_ rfl ?_ (by assumption) ?_; rotate_left; focus (intro U hU; (try dsimp only at hU); go_simp; try (with_reducible rfl))
    simp only [gt6, Act.put]
    refine tkA 15 ?_ rfl ?_ (by assumption) ?_; rotate_left; focus (intro U hU; (try dsimp only at hU); go_simp; try (with_reducible rfl))
    simp only [gt6, Act.put]
    refine wpAnyH_done (by kernel_rfl) ?_ _
    have HBF := hid (HB3.out.trans (hk6.mono (show N ≤ b0 by omega)))
    have HO6 := hid ho5
    have HSB := hid hsb6
    have HSD := hid hsd6
    clear hHeld hS hmk1 hmk2 ho5 hsb6 hsd6 hk6 hu0 hu1 hu2 hu3
    go_wp2
    go_ret2
    have hBF := HNN.out ▸ HBF.out
    refine ⟨A6, c6, xs ++ [(newB ⟨1, j, t, wk, sd, ep, ns⟩, ⟨Ax, cx, some ⟨M1, 0, none⟩, n, some ⟨M2, 0, none⟩, n⟩)], by rw [List.length_append]; rfl, by rw [HAP.out, List.map_append]; rfl, fun T w2 hT hty hin htx => ⟨?_, fun e he => ?_⟩, hBF⟩
    · rw [List.length_append, gcells_snoc]
      have h9 := sl_own (hT.own_ty HO6.out (fun z hz cs t fr h9 => by first | exact (hty z hz cs t fr h9).1 | exact (hty z hz cs t fr.1 fr.2 h9).1))
      simpa [ebl, newB, HNL.out] using h9
    · rcases List.mem_append.1 he with he | he
      · exact hin.2 e he
      · obtain rfl : e = (newB ⟨1, j, t, wk, sd, ep, ns⟩, ⟨Ax, cx, some ⟨M1, 0, none⟩, n, some ⟨M2, 0, none⟩, n⟩) := by simpa using he
        have h7 := sl_own (hT.own_ty HSB.out (fun z hz cs t fr h9 => by first | exact (hty z hz cs t fr h9).2.2.1 | exact (hty z hz cs t fr.1 fr.2 h9).2.2.1))
        have h8 := sl_own (hT.own_ty HSD.out (fun z hz cs t fr h9 => by first | exact (hty z hz cs t fr h9).2.2.2 | exact (hty z hz cs t fr.1 fr.2 h9).2.2.2))
        exact ⟨htx, by simpa [newB, HNL.out] using h7, by simpa [newB, HNL.out] using h8⟩

set_option maxRecDepth 20000 in
set_option maxHeartbeats 4000000 in
theorem r20step_no (A : Option Addr) (c : Nat) (xs : List Ee) (x : Rc) (Ax : Option Addr) (cx : Nat) (W : World) (h : InBk W A c xs) (hx : TxAt W Ax cx x.ns) (hw : whyB (xs.map (·.1)) x ≠ 0) :
    Calls Tryz.prog 38 #[.slice A xs.length c, .agg (rcc x Ax cx)] W fun e w' => e = .returned (.tuple #[.slice none 0 0, .int .i64 (whyB (xs.map (·.1)) x)]) ∧ RowKit.Below W.heap.size W w' := by
  have HWY := hid (fun w (hw9 : RowKit.Below W.heap.size W w) => r20why_any A c xs x Ax cx w (h.below hw9) (hx.below hw9))
  have hxl : xs.length ≤ 9223372036854775807 := by have := h.len; unfold maxLen at this; omega
  have hb1 : (whyB (xs.map (·.1)) x != 0) = true := by simpa using hw
  clear h hx
  generalize whyB (xs.map (·.1)) x = R at *
  obtain ⟨k, j, t, wk, sd, ep, ns⟩ := x
  simp only [rcc] at HWY ⊢
  go_enter Tryz.func38, Tryz.ntmps38
  go_upto_region 1 with (fail)
  refine at_world (fun u => u.heap[W.heap.size]? = some (.cells #[.int .i64 k, .int .i64 j, .int .i64 t, .int .i64 wk, .int .i64 sd, .int .i64 ep, .slice Ax ns.length cx] 46 (0, 0)) ∧ RowKit.Below W.heap.size W u) ⟨heap_alloc_new _ _, (RowKit.Below.refl _ _).alloc (Nat.le_refl _) _⟩ ?_
  rintro w1 ⟨hx1, hbb1⟩
  obtain ⟨p0, p1, p2, p3, p4, p5, p6⟩ := seven_cells hx1
  have HB1 := hid hbb1
  clear hx1 hbb1
  go_wp2_with fail
  refine (HWY.out w1 HB1.out).mono ?_
  rintro e w2 ⟨rfl, hb2⟩
  have HB2 := hid (HB1.out.trans (hb2.mono HB1.out.size))
  clear hb2 HB1 HWY p0 p1 p2 p3 p4 p5 p6
  go_wp2
  go_ret2
  exact ⟨rfl, HB2.out⟩
theorem r20step_any (A : Option Addr) (c : Nat) (xs : List Ee) (x : Rc) (Ax : Option Addr) (cx : Nat) (W : World) (h : InBk W A c xs) (hx : TxAt W Ax cx x.ns) (hn : xs.length ≤ 100000) (hsm : ∀ y ∈ xs, SmE y) (hw : whyB (xs.map (·.1)) x = 0) :
    Calls Tryz.prog 38 #[.slice A xs.length c, .agg (rcc x Ax cx)] W (StpR W A c xs x Ax cx) := by
  rcases (chk_parts2 (whyB_chk hw)).1 with hk | hk | hk | hk
  · exact r20step1 A c xs x Ax cx W h hx hn hsm hw hk
  · exact r20step2 A c xs x Ax cx W h hx hn hsm hw hk
  · exact r20step3 A c xs x Ax cx W h hx hn hsm hw hk
  · exact r20step4 A c xs x Ax cx W h hx hn hsm hw hk
end Go.Proofs.YtkepfkfoblocgaaGreat
