/- The outbox: contracts. -/
import Derived.Test.YtdekemlckpbbcaaSenA
import Derived.Test.YtdekemlckpbbcaaPcA
import Derived.Deep.Cut
import Derived.Deep.CutRange
namespace Go.Proofs.Ytdekemlckpbbcaa
open Go.RowKit Go.Sort
set_option linter.unusedVariables false
set_option linter.unusedSimpArgs false

theorem five_cells {w : World} {b t : Nat} {x y z u v : Value} (h : w.heap[b]? = some (.cells #[x, y, z, u, v] t (0, 0))) :
    (w.cell? ⟨b, 0, none⟩ = some x ∧ w.cell? ⟨b, 1, none⟩ = some y ∧ w.cell? ⟨b, 2, none⟩ = some z ∧ w.cell? ⟨b, 3, none⟩ = some u ∧ w.cell? ⟨b, 4, none⟩ = some v) ∧ w.frozen? ⟨b, 0, none⟩ = false ∧ w.frozen? ⟨b, 1, none⟩ = false ∧ w.frozen? ⟨b, 2, none⟩ = false ∧ w.frozen? ⟨b, 3, none⟩ = false ∧ w.frozen? ⟨b, 4, none⟩ = false := by
  refine ⟨⟨?_, ?_, ?_, ?_, ?_⟩, frozen_of_row w b 0 _ t h, frozen_of_row w b 1 _ t h, frozen_of_row w b 2 _ t h, frozen_of_row w b 3 _ t h, frozen_of_row w b 4 _ t h⟩
  · rw [cell_of_row w b 0 _ _ _ h]; rfl
  · rw [cell_of_row w b 1 _ _ _ h]; rfl
  · rw [cell_of_row w b 2 _ _ _ h]; rfl
  · rw [cell_of_row w b 3 _ _ _ h]; rfl
  · rw [cell_of_row w b 4 _ _ _ h]; rfl
def put5 (w : World) (b : Nat) (a0 a1 a2 a3 a4 : Value) : World := ((((w.setCell ⟨b, 0, none⟩ a0).setCell ⟨b, 1, none⟩ a1).setCell ⟨b, 2, none⟩ a2).setCell ⟨b, 3, none⟩ a3).setCell ⟨b, 4, none⟩ a4
theorem put5_heap {w : World} {b t : Nat} {x0 x1 x2 x3 x4 : Value} (h : w.heap[b]? = some (.cells #[x0, x1, x2, x3, x4] t (0, 0))) (a0 a1 a2 a3 a4 : Value) : (put5 w b a0 a1 a2 a3 a4).heap[b]? = some (.cells #[a0, a1, a2, a3, a4] t (0, 0)) := by
  have h1 := heap_setCell_same w b 0 _ t a0 h
  have h2 := heap_setCell_same _ b 1 _ t a1 h1
  have h3 := heap_setCell_same _ b 2 _ t a2 h2
  have h4 := heap_setCell_same _ b 3 _ t a3 h3
  have h5 := heap_setCell_same _ b 4 _ t a4 h4
  unfold put5
  rw [h5]
  rfl
theorem put5_below {n : Nat} {W w : World} {b : Nat} (h : Below n W w) (hb : n ≤ b) (a0 a1 a2 a3 a4 : Value) : Below n W (put5 w b a0 a1 a2 a3 a4) :=
  ((((h.setCell (p := ⟨b, 0, none⟩) hb a0).setCell (p := ⟨b, 1, none⟩) hb a1).setCell (p := ⟨b, 2, none⟩) hb a2).setCell (p := ⟨b, 3, none⟩) hb a3).setCell (p := ⟨b, 4, none⟩) hb a4
theorem put5_other {w : World} {b g : Nat} (hg : g ≠ b) (a0 a1 a2 a3 a4 : Value) : (put5 w b a0 a1 a2 a3 a4).heap[g]? = w.heap[g]? := by
  unfold put5
  rw [Below.heap_setCell _ _ _ _ hg, Below.heap_setCell _ _ _ _ hg, Below.heap_setCell _ _ _ _ hg, Below.heap_setCell _ _ _ _ hg, Below.heap_setCell _ _ _ _ hg]
theorem own_at {w w' : World} {b t base e s n : Nat} {v : Value} {xs : List Value} {cs : Array Value} (h : w.ownsRow base e s v n xs) (hb : w.heap[b]? = some (.cells cs t (0, 0))) (hne : e ≠ t) (hk : ∀ g, g ≠ b → w'.heap[g]? = w.heap[g]?) : w'.ownsRow base e s v n xs := by
  have h9 := own_blk_ne h hb hne
  refine ⟨h.1, ?_⟩
  rcases h.2 with h2 | ⟨g, cap, cur, h3, h4, h5, h6⟩
  · exact .inl h2
  · refine .inr ⟨g, cap, cur, h3, h4, (hk g ?_).trans h5, h6⟩
    rintro rfl
    rw [h3] at h9
    exact h9 rfl

/-- An outbox. -/
structure Ov where
  p : Int
  q : Int
  l : List (List UInt8)
  w : Int
  f : Int
def oc (o : Ov) (A : Option Addr) (c : Nat) : Array Value := #[.int .i64 o.p, .int .i64 o.q, .slice A o.l.length c, .int .i64 o.w, .int .i64 o.f]
def oz : Array Value := #[.int .i64 0, .int .i64 0, .slice none 0 0, .int .i64 0, .int .i64 0]
/-- The copy of the argument, at X; the result, at Z. -/
def SX (W u : World) (X Z : Nat) (o : Ov) (A : Option Addr) (c : Nat) : Prop :=
  u.heap[X]? = some (.cells (oc o A c) 28 (0, 0)) ∧ u.heap[Z]? = some (.cells oz 28 (0, 0)) ∧ u.ownsRow W.heap.size 9 1 (.slice A o.l.length c) o.l.length (scells o.l) ∧ Below W.heap.size W u
theorem SX.keep {W u w : World} {X Z : Nat} {o : Ov} {A : Option Addr} {c : Nat} (h : SX W u X Z o A c) (hb : Below u.heap.size u w) : SX W w X Z o A c := ⟨keep0 h.1 hb, keep0 h.2.1 hb, own_keep h.2.2.1 hb, h.2.2.2.trans (hb.mono h.2.2.2.size)⟩
/-- All of the copy is set. -/
theorem SX.put {W u u' : World} {X Z : Nat} {o o' : Ov} {A A' : Option Addr} {c c' : Nat} (hx : u.heap[X]? = some (.cells (oc o A c) 28 (0, 0))) (hz : u.heap[Z]? = some (.cells oz 28 (0, 0))) (hne : Z ≠ X) (ho : u.ownsRow W.heap.size 9 1 (.slice A' o'.l.length c') o'.l.length (scells o'.l)) (hb : Below W.heap.size W u) (hX : W.heap.size ≤ X)
    (he : u' = put5 u X (.int .i64 o'.p) (.int .i64 o'.q) (.slice A' o'.l.length c') (.int .i64 o'.w) (.int .i64 o'.f)) : SX W u' X Z o' A' c' := by
  subst he
  exact ⟨put5_heap hx _ _ _ _ _, (put5_other hne _ _ _ _ _).trans hz, own_at ho hx (by decide) fun g hg => put5_other hg _ _ _ _ _, put5_below hb hX _ _ _ _ _⟩
/-- One cell of the copy is set. -/
theorem SX.one {W u u' : World} {X Z : Nat} {o o' : Ov} {A A' : Option Addr} {c c' : Nat} (hx : u.heap[X]? = some (.cells (oc o A c) 28 (0, 0))) (hz : u.heap[Z]? = some (.cells oz 28 (0, 0))) (hne : Z ≠ X) (ho : u.ownsRow W.heap.size 9 1 (.slice A' o'.l.length c') o'.l.length (scells o'.l)) (hb : Below W.heap.size W u) (hX : W.heap.size ≤ X) (i : Nat) (v : Value)
    (hi : (oc o A c).setIfInBounds i v = oc o' A' c') (he : u' = u.setCell ⟨X, i, none⟩ v) : SX W u' X Z o' A' c' := by
  subst he
  exact ⟨by rw [heap_setCell_same u X i _ _ v hx, hi], (Below.heap_setCell _ _ _ _ hne).trans hz, own_at ho hx (by decide) fun g hg => Below.heap_setCell _ _ _ _ hg, hb.setCell (p := ⟨X, i, none⟩) hX _⟩
/-- The result is set. -/
theorem SX.ret {W u : World} {X Z : Nat} {o : Ov} {A : Option Addr} {c : Nat} (h : SX W u X Z o A c) (hZ : W.heap.size ≤ Z) :
    (put5 u Z (.int .i64 o.p) (.int .i64 o.q) (.slice A o.l.length c) (.int .i64 o.w) (.int .i64 o.f)).ownsRow W.heap.size 9 1 (.slice A o.l.length c) o.l.length (scells o.l) ∧ Below W.heap.size W (put5 u Z (.int .i64 o.p) (.int .i64 o.q) (.slice A o.l.length c) (.int .i64 o.w) (.int .i64 o.f)) :=
  ⟨own_at h.2.2.1 h.2.1 (by decide) fun g hg => put5_other hg _ _ _ _ _, put5_below h.2.2.2 hZ _ _ _ _ _⟩
theorem al3 (W : World) (o1 o2 o3 : Obj) : (((W.alloc o1).alloc o2).alloc o3).heap[W.heap.size]? = some o1 ∧ (((W.alloc o1).alloc o2).alloc o3).heap[W.heap.size + 1]? = some o2 ∧ (((W.alloc o1).alloc o2).alloc o3).heap[W.heap.size + 2]? = some o3 ∧ Below W.heap.size W (((W.alloc o1).alloc o2).alloc o3) := by
  have h3 := heap_alloc_new ((W.alloc o1).alloc o2) o3
  refine ⟨?_, ?_, by simpa using h3, (below2 W o1 o2).alloc (by simp; omega) _⟩
  · rw [Below.heap_alloc _ _ _ (by simp; omega)]; exact heap_first W o1 o2
  · rw [Below.heap_alloc _ _ _ (by simp)]; exact heap_second W o1 o2
def begV (o : Ov) : Ov × Bool := if o.l.length = 0 then (o, false) else ({ o with w := 1, f := 1 }, true)

set_option maxRecDepth 20000 in
set_option maxHeartbeats 2000000 in
theorem ocloned_any (o : Ov) (A : Option Addr) (c : Nat) (W : World) (h : Sl W 1 A o.l.length c (scells o.l)) (hl : o.l.length ≤ 1000) :
    Calls Try.prog 37 #[.agg (oc o A c)] W fun e w' => ∃ A' c', e = .returned (.agg (oc o A' c')) ∧ w'.ownsRow W.heap.size 9 1 (.slice A' o.l.length c') o.l.length (scells o.l) ∧ Below W.heap.size W w' := by
  have HC := hid (fun w (hw : Below W.heap.size W w) => clone_str A o.l.length c (scells o.l) w (h.below hw) (scells_one _) (by omega))
  clear h hl
  obtain ⟨p, q, l, wt, f⟩ := o
  simp only [oc] at *
  go_enter Try.func37, Try.ntmps37
  go_upto_region 1 with (fail)
  refine at_world (fun u => u.heap[W.heap.size]? = some (.cells (oc ⟨p, q, l, wt, f⟩ A c) 28 (0, 0)) ∧ u.heap[W.heap.size + 1]? = some (.cells oz 28 (0, 0)) ∧ Below W.heap.size W u) ⟨heap_first _ _ _, heap_second _ _ _, below2 _ _ _⟩ ?_
  rintro w1 ⟨hx1, hz1, hb1⟩
  obtain ⟨⟨p0, p1, p2, p3, p4⟩, f0, f1, f2, f3, f4⟩ := five_cells hx1
  have HX1 := hid hx1
  have HZ1 := hid hz1
  have HB1 := hid hb1
  clear hx1 hz1 hb1
  go_wp2_with fail
  refine (HC.out _ HB1.out).mono ?_
  rintro e w2 ⟨v, rfl, hb2, ho2⟩
  obtain ⟨A2, c2, rfl, _⟩ := Sl.of_own ho2
  have hx2 := keep0 HX1.out hb2
  have hb9 := HB1.out.trans (hb2.mono HB1.out.size)
  have HS2 := hid (SX.one (X := W.heap.size) (Z := W.heap.size + 1) (o' := ⟨p, q, l, wt, f⟩) (A' := A2) (c' := c2) hx2 (keep0 HZ1.out hb2) (by omega) (own_mono ho2 HB1.out.size) hb9 (Nat.le_refl _) 2 (.slice A2 l.length c2) rfl rfl)
  clear p0 p1 p2 p3 p4 f0 f1 f2 f3 f4 HX1 HZ1 HB1 hb2 ho2 hb9 HC
  obtain ⟨⟨p0, p1, p2, p3, p4⟩, f0, f1, f2, f3, f4⟩ := five_cells hx2
  clear hx2
  go_upto_region 2 with (fail)
  refine at_world (fun u => SX W u W.heap.size (W.heap.size + 1) ⟨p, q, l, wt, f⟩ A2 c2) HS2.out ?_
  clear p0 p1 p2 p3 p4 f0 f1 f2 f3 f4 HS2
  rintro w3 hs3
  obtain ⟨⟨p0, p1, p2, p3, p4⟩, _⟩ := five_cells hs3.1
  obtain ⟨_, g0, g1, g2, g3, g4⟩ := five_cells hs3.2.1
  obtain ⟨⟨r0, r1, r2, r3, r4⟩, _⟩ := five_cells (put5_heap hs3.2.1 (.int .i64 p) (.int .i64 q) (.slice A2 l.length c2) (.int .i64 wt) (.int .i64 f))
  simp only [put5] at r0 r1 r2 r3 r4
  have HS3 := hid hs3
  clear hs3
  go_wp2
  have hr := HS3.out.ret (show W.heap.size ≤ W.heap.size + 1 by omega)
  exact bodyPost_ret (v := .agg #[.int .i64 p, .int .i64 q, .slice A2 l.length c2, .int .i64 wt, .int .i64 f]) (by simp [results, Try.results37, go_sem, r0, r1, r2, r3, r4]) rfl ⟨A2, c2, rfl, hr.1, hr.2⟩

set_option maxRecDepth 20000 in
theorem onew_any (W : World) : Calls Try.prog 9 #[] W fun e w' => e = .returned (.agg (oc ⟨1, 1, [], 1, 0⟩ none 0)) ∧ Below W.heap.size W w' := by
  go_enter Try.func9, Try.ntmps9
  go_upto_region 1 with (fail)
  refine at_world (fun u => u.heap[W.heap.size]? = some (.cells oz 28 (0, 0)) ∧ Below W.heap.size W u) ⟨heap_alloc_new _ _, (Below.refl _ _).alloc (Nat.le_refl _) _⟩ ?_
  rintro w1 ⟨hz1, hb1⟩
  have HZ1 := hid hz1
  have HB1 := hid hb1
  clear hz1 hb1
  go_wp2_with fail
  refine (pnew_any _).mono ?_
  rintro e w2 ⟨rfl, hb2⟩
  have hz2 := keep0 HZ1.out hb2
  have HB2 := hid (HB1.out.trans (hb2.mono HB1.out.size))
  obtain ⟨_, g0, g1, g2, g3, g4⟩ := five_cells hz2
  obtain ⟨⟨r0, r1, r2, r3, r4⟩, _⟩ := five_cells (put5_heap hz2 (.int .i64 1) (.int .i64 1) (.slice none 0 0) (.int .i64 1) (.int .i64 0))
  simp only [put5] at r0 r1 r2 r3 r4
  clear hb2 HZ1 HB1 hz2
  go_wp2
  exact bodyPost_ret (v := .agg #[.int .i64 1, .int .i64 1, .slice none 0 0, .int .i64 1, .int .i64 0]) (by simp [results, Try.results9, go_sem, r0, r1, r2, r3, r4]) rfl ⟨rfl, put5_below HB2.out (Nat.le_refl _) _ _ _ _ _⟩

set_option maxRecDepth 20000 in
set_option maxHeartbeats 2000000 in
theorem begun_any (o : Ov) (A : Option Addr) (c : Nat) (W : World) (hl : o.l.length ≤ 1001) :
    Calls Try.prog 40 #[.agg (oc o A c)] W fun e w' => e = .returned (.tuple #[.agg (oc (begV o).1 A c), .bool (begV o).2]) ∧ Below W.heap.size W w' := by
  have HV : Hid (begV o = if o.l.length = 0 then (o, false) else ({ o with w := 1, f := 1 }, true)) := hid rfl
  generalize begV o = bv at *
  obtain ⟨p, q, l, wt, f⟩ := o
  simp only [oc] at *
  go_enter Try.func40, Try.ntmps40
  go_upto_region 1 with (fail)
  refine at_world (fun u => u.heap[W.heap.size]? = some (.cells (oc ⟨p, q, l, wt, f⟩ A c) 28 (0, 0)) ∧ u.heap[W.heap.size + 1]? = some (.cells oz 28 (0, 0)) ∧ Below W.heap.size W u) ⟨heap_first _ _ _, heap_second _ _ _, below2 _ _ _⟩ ?_
  rintro w1 ⟨hx1, hz1, hb1⟩
  obtain ⟨⟨p0, p1, p2, p3, p4⟩, f0, f1, f2, f3, f4⟩ := five_cells hx1
  obtain ⟨_, g0, g1, g2, g3, g4⟩ := five_cells hz1
  have HX1 := hid hx1
  have HZ1 := hid hz1
  have HB1 := hid hb1
  clear hx1 hz1 hb1
  by_cases h0 : l.length = 0
  · have HVV : Hid (bv = (⟨p, q, l, wt, f⟩, false)) := hid (by rw [HV.out, if_pos h0])
    obtain ⟨⟨r0, r1, r2, r3, r4⟩, _⟩ := five_cells (put5_heap HZ1.out (.int .i64 p) (.int .i64 q) (.slice A l.length c) (.int .i64 wt) (.int .i64 f))
    simp only [put5] at r0 r1 r2 r3 r4
    have e0 : ((l.length : Int) == 0) = true := by rw [beq_iff_eq]; omega
    clear h0
    go_wp2
    exact bodyPost_ret (v := .tuple #[.agg #[.int .i64 p, .int .i64 q, .slice A l.length c, .int .i64 wt, .int .i64 f], .bool false]) (by simp [results, Try.results40, go_sem, r0, r1, r2, r3, r4]) rfl ⟨by rw [HVV.out], put5_below HB1.out (by omega) _ _ _ _ _⟩
  · have HVV : Hid (bv = (⟨p, q, l, 1, 1⟩, true)) := hid (by rw [HV.out, if_neg h0])
    have e0 : ((l.length : Int) == 0) = false := by rw [beq_eq_false_iff_ne]; omega
    clear h0
    go_wp2_with fail
    refine (start_any _ _ _).mono ?_
    rintro e w2 ⟨rfl, hb2⟩
    have hx2 := keep0 HX1.out hb2
    have HZ2 := hid (keep0 HZ1.out hb2)
    have HB2 := hid (HB1.out.trans (hb2.mono HB1.out.size))
    clear p0 p1 p2 p3 p4 f0 f1 f2 f3 f4 g0 g1 g2 g3 g4 hb2 HX1 HZ1 HB1
    have hx3 := heap_setCell_same _ W.heap.size 4 _ _ (.int .i64 1) (heap_setCell_same w2 W.heap.size 3 _ _ (.int .i64 1) hx2)
    have HX3 := hid hx3
    obtain ⟨⟨p0, p1, p2, p3, p4⟩, f0, f1, f2, f3, f4⟩ := five_cells hx2
    clear hx2 hx3
    go_upto_region 4 with (fail)
    refine at_world (fun u => u.heap[W.heap.size]? = some (.cells (oc ⟨p, q, l, 1, 1⟩ A c) 28 (0, 0)) ∧ u.heap[W.heap.size + 1]? = some (.cells oz 28 (0, 0)) ∧ Below W.heap.size W u) ⟨HX3.out, (Below.heap_setCell _ _ _ _ (by simp)).trans ((Below.heap_setCell _ _ _ _ (by simp)).trans HZ2.out), (HB2.out.setCell (p := ⟨_, 3, none⟩) (Nat.le_refl _) _).setCell (p := ⟨_, 4, none⟩) (Nat.le_refl _) _⟩ ?_
    clear p0 p1 p2 p3 p4 f0 f1 f2 f3 f4 HX3 HZ2 HB2
    rintro w3 ⟨hx3, hz3, hb3⟩
    obtain ⟨⟨p0, p1, p2, p3, p4⟩, _⟩ := five_cells hx3
    obtain ⟨_, g0, g1, g2, g3, g4⟩ := five_cells hz3
    obtain ⟨⟨r0, r1, r2, r3, r4⟩, _⟩ := five_cells (put5_heap hz3 (.int .i64 p) (.int .i64 q) (.slice A l.length c) (.int .i64 1) (.int .i64 1))
    simp only [put5] at r0 r1 r2 r3 r4
    have HB3 := hid hb3
    clear hx3 hz3 hb3
    go_wp2
    exact bodyPost_ret (v := .tuple #[.agg #[.int .i64 p, .int .i64 q, .slice A l.length c, .int .i64 1, .int .i64 1], .bool true]) (by simp [results, Try.results40, go_sem, r0, r1, r2, r3, r4]) rfl ⟨by rw [HVV.out], put5_below HB3.out (by omega) _ _ _ _ _⟩
end Go.Proofs.Ytdekemlckpbbcaa
