/- The document's outbox: Learn, Tick, Acked: contracts. -/
import Derived.Test.YtdekemlckpbbcaaLdA
import Derived.Test.YtdekemlckpbbcaaLnkC
namespace Go.Proofs.Ytdekemlckpbbcaa
open Go.RowKit Go.Sort
set_option linter.unusedVariables false
set_option linter.unusedSimpArgs false

/-- What a function of the document answers that gives an outbox and whether to send. -/
def ROut (r : Ov × Bool) (W : World) (e : Ending) (w' : World) : Prop :=
  ∃ A' c', e = .returned (.tuple #[.agg (oc r.1 A' c'), .bool r.2]) ∧ Sl w' 1 A' r.1.l.length c' (scells r.1.l) ∧ Below W.heap.size W w'

set_option maxRecDepth 20000 in
theorem r24learn_any (o : Ov) (pr : Int) (A : Option Addr) (c : Nat) (W : World) (h : Sl W 1 A o.l.length c (scells o.l)) :
    Calls Try.prog 81 #[.agg (oc o A c), .int .i64 pr] W (ROut (lrnV o pr) W) := by
  have HS := hid h
  have HV : Hid (lrnV o pr = if pr ≤ o.p then (o, false) else if o.l.length = 0 then (⟨pr, 1, o.l, o.w, o.f⟩, false) else (⟨pr, 1, o.l, 1, 1⟩, true)) := hid (by
    unfold lrnV begV
    split
    · rfl
    · split <;> rfl)
  obtain ⟨p, q, l, wt, fl⟩ := o
  simp only at HV HS
  clear h
  simp only [oc]
  by_cases h1 : pr ≤ p
  · rw [HV.out, if_pos h1]
    clear HV
    have d1 : decide (pr ≤ p) = true := decide_eq_true h1
    go_enter Try.func81, Try.ntmps81
    go_wp2
    exact bodyPost_ret (v := .tuple #[.agg #[.int .i64 p, .int .i64 q, .slice A l.length c, .int .i64 wt, .int .i64 fl], .bool false]) (by simp [results, Try.results81, go_sem]) rfl ⟨A, c, rfl, HS.out.below (below2 _ _ _), below2 _ _ _⟩
  · rw [HV.out, if_neg h1]
    have d1 : decide (pr ≤ p) = false := decide_eq_false h1
    by_cases h0 : l.length = 0
    · rw [if_pos h0]
      obtain rfl := List.eq_nil_of_length_eq_zero h0
      clear HV h0
      go_enter Try.func81, Try.ntmps81
      go_wp2
      exact bodyPost_ret (v := .tuple #[.agg #[.int .i64 pr, .int .i64 1, .slice A 0 c, .int .i64 wt, .int .i64 fl], .bool false]) (by simp [results, Try.results81, go_sem]) rfl ⟨A, c, rfl, HS.out.below (below2 _ _ _), below2 _ _ _⟩
    · rw [if_neg h0]
      have e0 : ((l.length : Int) == 0) = false := beq_eq_false_iff_ne.2 (by omega)
      clear HV h0
      go_enter Try.func81, Try.ntmps81
      go_wp2
      exact bodyPost_ret (v := .tuple #[.agg #[.int .i64 pr, .int .i64 1, .slice A l.length c, .int .i64 1, .int .i64 1], .bool true]) (by simp [results, Try.results81, go_sem]) rfl ⟨A, c, rfl, HS.out.below (below2 _ _ _), below2 _ _ _⟩

theorem two_cellsd {w : World} {b t : Nat} {x0 x1 : Value} (h : w.heap[b]? = some (.cells #[x0, x1] t (0, 0))) : w.cell? ⟨b, 0, none⟩ = some x0 ∧ w.cell? ⟨b, 1, none⟩ = some x1 :=
  ⟨by rw [cell_of_row w b 0 _ _ _ h]; rfl, by rw [cell_of_row w b 1 _ _ _ h]; rfl⟩
theorem pace_set {w : World} {b t : Nat} {x0 x1 x2 x3 x4 : Value} (h : w.heap[b]? = some (.cells #[x0, x1, x2, x3, x4] t (0, 0))) (y z : Value) : ((w.setCell ⟨b, 3, none⟩ y).setCell ⟨b, 4, none⟩ z).heap[b]? = some (.cells #[x0, x1, x2, y, z] t (0, 0)) := by
  have h1 : (w.setCell ⟨b, 3, none⟩ y).heap[b]? = some (.cells #[x0, x1, x2, y, x4] t (0, 0)) := by rw [heap_setCell_same w b 3 _ _ _ h]; rfl
  rw [heap_setCell_same _ b 4 _ _ _ h1]
  rfl
theorem pace_other {w : World} {b g : Nat} (hg : g ≠ b) (y z : Value) : ((w.setCell ⟨b, 3, none⟩ y).setCell ⟨b, 4, none⟩ z).heap[g]? = w.heap[g]? := by
  rw [Below.heap_setCell _ _ _ _ hg, Below.heap_setCell _ _ _ _ hg]
theorem pace_below {n : Nat} {W w : World} {b : Nat} (h : Below n W w) (hb : n ≤ b) (y z : Value) : Below n W ((w.setCell ⟨b, 3, none⟩ y).setCell ⟨b, 4, none⟩ z) :=
  (h.setCell (p := ⟨b, 3, none⟩) hb y).setCell (p := ⟨b, 4, none⟩) hb z

set_option maxRecDepth 20000 in
theorem r24tick_any (o : Ov) (A : Option Addr) (c : Nat) (W : World) (h : Sl W 1 A o.l.length c (scells o.l)) :
    Calls Try.prog 50 #[.agg (oc o A c)] W (ROut (tikV o) W) := by
  have HS := hid h
  have HV : Hid (tikV o = if o.l = [] then (o, false) else (⟨o.p, o.q, o.l, tkW o.w o.f, tkL o.w o.f⟩, tkB o.w o.f)) := hid rfl
  have HT := hid (fun w => r13tick_any o.w o.f w)
  obtain ⟨p, q, l, wt, fl⟩ := o
  simp only at HV HS HT
  clear h
  simp only [oc]
  by_cases h0 : l = []
  · rw [HV.out, if_pos h0]
    subst h0
    clear HV HT
    go_enter Try.func50, Try.ntmps50
    go_wp2
    exact bodyPost_ret (v := .tuple #[.agg #[.int .i64 p, .int .i64 q, .slice A 0 c, .int .i64 wt, .int .i64 fl], .bool false]) (by simp [results, Try.results50, go_sem]) rfl ⟨A, c, rfl, HS.out.below (below2 _ _ _), below2 _ _ _⟩
  · rw [HV.out, if_neg h0]
    have e0 : ((l.length : Int) == 0) = false := beq_eq_false_iff_ne.2 (by
      intro h
      exact h0 (List.eq_nil_of_length_eq_zero (by omega)))
    clear HV h0
    generalize tkW wt fl = w' at *
    generalize tkL wt fl = f' at *
    generalize tkB wt fl = b' at *
    go_enter Try.func50, Try.ntmps50
    go_wp2_with fail
    refine (HT.out _).mono ?_
    rintro e w2 ⟨rfl, hb2⟩
    have hx2 := keep0 (heap_first W (.cells #[.int .i64 p, .int .i64 q, .slice A l.length c, .int .i64 wt, .int .i64 fl] 44) (.cells oz 44)) hb2
    have hz2 := keep0 (heap_second W (.cells #[.int .i64 p, .int .i64 q, .slice A l.length c, .int .i64 wt, .int .i64 fl] 44) (.cells oz 44)) hb2
    have HB2 := hid ((below2 W _ _).trans (hb2.mono (below2 W _ _).size))
    clear hb2 HT
    go_upto_region 4 with (fail)
    have hbn : Below w2.heap.size w2 (w2.alloc (.cells #[.int .i64 w', .int .i64 f'] 42)) := (Below.refl _ _).alloc (Nat.le_refl _) _
    refine at_world (fun u => u.heap[W.heap.size]? = some (.cells #[.int .i64 p, .int .i64 q, .slice A l.length c, .int .i64 wt, .int .i64 fl] 44 (0, 0)) ∧ u.heap[W.heap.size + 1]? = some (.cells oz 44 (0, 0)) ∧ u.heap[w2.heap.size]? = some (.cells #[.int .i64 w', .int .i64 f'] 42 (0, 0)) ∧ Below W.heap.size W u) ⟨keep0 hx2 hbn, keep0 hz2 hbn, heap_alloc_new _ _, HB2.out.trans (hbn.mono HB2.out.size)⟩ ?_
    have hne : W.heap.size ≠ w2.heap.size := by have := lt_of_block hx2; omega
    clear hx2 hz2 HB2 hbn
    generalize w2.heap.size = Pz at *
    rintro u ⟨hx, hz, hp, hb⟩
    obtain ⟨⟨p0, p1, p2, p3, p4⟩, f0, f1, f2, f3, f4⟩ := five_cells hx
    obtain ⟨t0, t1⟩ := two_cellsd hp
    have HX := hid (pace_set hx (.int .i64 w') (.int .i64 f'))
    have HZ := hid ((pace_other (show W.heap.size + 1 ≠ W.heap.size by omega) (.int .i64 w') (.int .i64 f')).trans hz)
    have HB := hid (pace_below hb (Nat.le_refl _) (.int .i64 w') (.int .i64 f'))
    clear hx hz hp hb hne
    go_upto_region 5 with (fail)
    refine at_world (fun u => u.heap[W.heap.size]? = some (.cells #[.int .i64 p, .int .i64 q, .slice A l.length c, .int .i64 w', .int .i64 f'] 44 (0, 0)) ∧ u.heap[W.heap.size + 1]? = some (.cells oz 44 (0, 0)) ∧ Below W.heap.size W u) ⟨HX.out, HZ.out, HB.out⟩ ?_
    clear p0 p1 p2 p3 p4 f0 f1 f2 f3 f4 t0 t1 HX HZ HB
    rintro u ⟨hx, hz, hb⟩
    obtain ⟨⟨p0, p1, p2, p3, p4⟩, _⟩ := five_cells hx
    obtain ⟨_, f0, f1, f2, f3, f4⟩ := five_cells hz
    have hq := put5_heap hz (.int .i64 p) (.int .i64 q) (.slice A l.length c) (.int .i64 w') (.int .i64 f')
    obtain ⟨⟨r0, r1, r2, r3, r4⟩, _⟩ := five_cells hq
    simp only [put5] at r0 r1 r2 r3 r4
    have HB := hid (put5_below hb (show W.heap.size ≤ W.heap.size + 1 by omega) (.int .i64 p) (.int .i64 q) (.slice A l.length c) (.int .i64 w') (.int .i64 f'))
    clear hx hz hb hq
    go_wp2
    exact bodyPost_ret (v := .tuple #[.agg #[.int .i64 p, .int .i64 q, .slice A l.length c, .int .i64 w', .int .i64 f'], .bool b']) (by simp [results, Try.results50, go_sem, r0, r1, r2, r3, r4]) rfl ⟨A, c, rfl, HS.out.below HB.out, HB.out⟩
end Go.Proofs.Ytdekemlckpbbcaa
