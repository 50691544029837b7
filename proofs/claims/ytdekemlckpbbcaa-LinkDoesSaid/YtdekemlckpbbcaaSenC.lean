/- The outbox: Put, Acked, Learn, Tick, First: contracts. -/
import Derived.Test.YtdekemlckpbbcaaSenB
namespace Go.Proofs.Ytdekemlckpbbcaa
open Go.RowKit Go.Sort
set_option linter.unusedVariables false
set_option linter.unusedSimpArgs false

/-- What a call answers that gives an outbox and a bool. -/
def OutR (r : Ov × Bool) (W : World) (e : Ending) (w' : World) : Prop :=
  ∃ A' c', e = .returned (.tuple #[.agg (oc r.1 A' c'), .bool r.2]) ∧ w'.ownsRow W.heap.size 9 1 (.slice A' r.1.l.length c') r.1.l.length (scells r.1.l) ∧ Below W.heap.size W w'
def putV (o : Ov) (bound : Int) (y : List UInt8) : (Ov × Bool) × Int :=
  if y = [] then ((o, false), 1) else if y ∈ o.l then ((o, false), 0) else if bound ≤ (o.l.length : Int) then ((o, false), 7) else if o.l = [] then ((⟨o.p, o.q, [y], 1, 1⟩, true), 0) else ((⟨o.p, o.q, o.l ++ [y], o.w, o.f⟩, false), 0)
def ackV (o : Ov) (peer seq : Int) : Ov × Bool := if o.l = [] ∨ peer ≠ o.p ∨ seq ≠ o.q then (o, false) else begV ⟨o.p, o.q + 1, o.l.tail, 1, 0⟩
def lrnV (o : Ov) (peer : Int) : Ov × Bool := if peer ≤ o.p then (o, false) else begV ⟨peer, 1, o.l, o.w, o.f⟩
def tikV (o : Ov) : Ov × Bool := if o.l = [] then (o, false) else (⟨o.p, o.q, o.l, tkW o.w o.f, tkL o.w o.f⟩, tkB o.w o.f)
theorem SX.retv {W u : World} {X Z : Nat} {o : Ov} {A : Option Addr} {c : Nat} (h : SX W u X Z o A c) (hZ : W.heap.size ≤ Z) (x0 x1 x3 x4 : Value) :
    (put5 u Z x0 x1 (.slice A o.l.length c) x3 x4).ownsRow W.heap.size 9 1 (.slice A o.l.length c) o.l.length (scells o.l) ∧ Below W.heap.size W (put5 u Z x0 x1 (.slice A o.l.length c) x3 x4) :=
  ⟨own_at h.2.2.1 h.2.1 (by decide) fun g hg => put5_other hg _ _ _ _ _, put5_below h.2.2.2 hZ _ _ _ _ _⟩
theorem SX.pace {W u u' : World} {X Z : Nat} {o : Ov} {A : Option Addr} {c : Nat} (h : SX W u X Z o A c) (hne : Z ≠ X) (hX : W.heap.size ≤ X) (w' f' : Int) (he : u' = (u.setCell ⟨X, 3, none⟩ (.int .i64 w')).setCell ⟨X, 4, none⟩ (.int .i64 f')) : SX W u' X Z ⟨o.p, o.q, o.l, w', f'⟩ A c := by
  have h1 := SX.one h.1 h.2.1 hne (o' := ⟨o.p, o.q, o.l, w', o.f⟩) (A' := A) (c' := c) h.2.2.1 h.2.2.2 hX 3 (.int .i64 w') rfl rfl
  exact SX.one h1.1 h1.2.1 hne (o' := ⟨o.p, o.q, o.l, w', f'⟩) (A' := A) (c' := c) h1.2.2.1 h1.2.2.2 hX 4 (.int .i64 f') rfl he
theorem begV_l (o : Ov) : (begV o).1.l = o.l := by unfold begV; split <;> rfl

set_option maxRecDepth 20000 in
set_option maxHeartbeats 4000000 in
theorem learn_any (o : Ov) (peer : Int) (A : Option Addr) (c : Nat) (W : World) (h : Sl W 1 A o.l.length c (scells o.l)) (hl : o.l.length ≤ 1000) :
    Calls Try.prog 12 #[.agg (oc o A c), .int .i64 peer] W (OutR (lrnV o peer) W) := by
  have HCL := hid (fun w (hw : Below W.heap.size W w) => ocloned_any o A c w (h.below hw) hl)
  have HL := hid hl
  have HV : Hid (lrnV o peer = if peer ≤ o.p then (o, false) else begV ⟨peer, 1, o.l, o.w, o.f⟩) := hid rfl
  generalize lrnV o peer = rv at *
  clear h hl
  obtain ⟨p, q, l, wt, f⟩ := o
  simp only [oc] at *
  go_enter Try.func12, Try.ntmps12
  go_upto_region 1 with (fail)
  refine at_world (fun u => u.heap[W.heap.size]? = some (.cells (oc ⟨p, q, l, wt, f⟩ A c) 28 (0, 0)) ∧ u.heap[W.heap.size + 1]? = some (.cells oz 28 (0, 0)) ∧ Below W.heap.size W u) ⟨heap_first _ _ _, heap_second _ _ _, below2 _ _ _⟩ ?_
  rintro w1 ⟨hx1, hz1, hb1⟩
  obtain ⟨⟨p0, p1, p2, p3, p4⟩, f0, f1, f2, f3, f4⟩ := five_cells hx1
  have HX1 := hid hx1
  have HZ1 := hid hz1
  have HB1 := hid hb1
  clear hx1 hz1 hb1
  go_wp2_with fail
  refine (HCL.out _ HB1.out).mono ?_
  rintro e w2 ⟨A1, c1, rfl, ho2, hb2⟩
  have hx2 := keep0 HX1.out hb2
  have HB2 := hid (HB1.out.trans (hb2.mono HB1.out.size))
  have HS2 := hid (SX.put (o' := ⟨p, q, l, wt, f⟩) hx2 (keep0 HZ1.out hb2) (by omega) (own_mono ho2 HB1.out.size) HB2.out (Nat.le_refl _) rfl)
  clear p0 p1 p2 p3 p4 f0 f1 f2 f3 f4
  obtain ⟨⟨p0, p1, p2, p3, p4⟩, f0, f1, f2, f3, f4⟩ := five_cells hx2
  clear hx2 ho2 hb2 HX1 HZ1 HB1 HCL HB2
  go_upto_region 2 with (fail)
  refine at_world (fun u => SX W u W.heap.size (W.heap.size + 1) ⟨p, q, l, wt, f⟩ A1 c1) HS2.out ?_
  clear p0 p1 p2 p3 p4 f0 f1 f2 f3 f4 HS2
  rintro w3 hs3
  have HS3 := hid hs3
  clear hs3
  by_cases h1 : peer ≤ p
  · have HVV : Hid (rv = (⟨p, q, l, wt, f⟩, false)) := hid (by rw [HV.out, if_pos h1])
    have d1 : decide (peer ≤ p) = true := decide_eq_true h1
    obtain ⟨⟨p0, p1, p2, p3, p4⟩, _⟩ := five_cells HS3.out.1
    obtain ⟨_, g0, g1, g2, g3, g4⟩ := five_cells HS3.out.2.1
    obtain ⟨⟨r0, r1, r2, r3, r4⟩, _⟩ := five_cells (put5_heap HS3.out.2.1 (.int .i64 p) (.int .i64 q) (.slice A1 l.length c1) (.int .i64 wt) (.int .i64 f))
    simp only [put5] at r0 r1 r2 r3 r4
    go_wp2
    have hr := HS3.out.ret (show W.heap.size ≤ W.heap.size + 1 by omega)
    exact bodyPost_ret (v := .tuple #[.agg #[.int .i64 p, .int .i64 q, .slice A1 l.length c1, .int .i64 wt, .int .i64 f], .bool false]) (by simp [results, Try.results12, go_sem, r0, r1, r2, r3, r4]) rfl ⟨A1, c1, by rw [HVV.out]; rfl, by rw [HVV.out]; exact hr.1, hr.2⟩
  · have HVV : Hid (rv = begV ⟨peer, 1, l, wt, f⟩) := hid (by rw [HV.out, if_neg h1])
    have d1 : decide (peer ≤ p) = false := decide_eq_false h1
    have HBG := hid (fun w => begun_any ⟨peer, 1, l, wt, f⟩ A1 c1 w (by have := HL.out; simp only at this ⊢; omega))
    have hbl := begV_l ⟨peer, 1, l, wt, f⟩
    generalize begV ⟨peer, 1, l, wt, f⟩ = bv at *
    obtain ⟨⟨bp, bq, bl, bw, bf⟩, bb⟩ := bv
    simp only at hbl
    subst hbl
    simp only [oc] at HBG
    obtain ⟨⟨p0, p1, p2, p3, p4⟩, f0, f1, f2, f3, f4⟩ := five_cells HS3.out.1
    have HS4 := hid (SX.one (SX.one HS3.out.1 HS3.out.2.1 (by omega) (o' := ⟨peer, q, bl, wt, f⟩) HS3.out.2.2.1 HS3.out.2.2.2 (Nat.le_refl _) 0 (.int .i64 peer) rfl rfl).1 (SX.one HS3.out.1 HS3.out.2.1 (by omega) (o' := ⟨peer, q, bl, wt, f⟩) HS3.out.2.2.1 HS3.out.2.2.2 (Nat.le_refl _) 0 (.int .i64 peer) rfl rfl).2.1 (by omega) (o' := ⟨peer, 1, bl, wt, f⟩) (SX.one HS3.out.1 HS3.out.2.1 (by omega) (o' := ⟨peer, q, bl, wt, f⟩) HS3.out.2.2.1 HS3.out.2.2.2 (Nat.le_refl _) 0 (.int .i64 peer) rfl rfl).2.2.1 (SX.one HS3.out.1 HS3.out.2.1 (by omega) (o' := ⟨peer, q, bl, wt, f⟩) HS3.out.2.2.1 HS3.out.2.2.2 (Nat.le_refl _) 0 (.int .i64 peer) rfl rfl).2.2.2 (Nat.le_refl _) 1 (.int .i64 1) rfl rfl)
    go_upto_region 5 with (fail)
    refine at_world (fun u => SX W u W.heap.size (W.heap.size + 1) ⟨peer, 1, bl, wt, f⟩ A1 c1) HS4.out ?_
    clear p0 p1 p2 p3 p4 f0 f1 f2 f3 f4 HS4 HS3
    rintro w5 hs5
    have HS5 := hid hs5
    clear hs5
    obtain ⟨⟨p0, p1, p2, p3, p4⟩, _⟩ := five_cells HS5.out.1
    go_wp2_with fail
    refine (HBG.out _).mono ?_
    rintro e w6 ⟨rfl, hb6⟩
    have HS6 := hid (HS5.out.keep hb6)
    clear hb6 HS5 p0 p1 p2 p3 p4
    obtain ⟨_, g0, g1, g2, g3, g4⟩ := five_cells HS6.out.2.1
    obtain ⟨⟨r0, r1, r2, r3, r4⟩, _⟩ := five_cells (put5_heap HS6.out.2.1 (.int .i64 bp) (.int .i64 bq) (.slice A1 bl.length c1) (.int .i64 bw) (.int .i64 bf))
    simp only [put5] at r0 r1 r2 r3 r4
    have HR := hid (SX.retv HS6.out (show W.heap.size ≤ W.heap.size + 1 by omega) (.int .i64 bp) (.int .i64 bq) (.int .i64 bw) (.int .i64 bf))
    go_wp2
    exact bodyPost_ret (v := .tuple #[.agg #[.int .i64 bp, .int .i64 bq, .slice A1 bl.length c1, .int .i64 bw, .int .i64 bf], .bool bb]) (by simp [results, Try.results12, go_sem, r0, r1, r2, r3, r4]) rfl ⟨A1, c1, by rw [HVV.out]; rfl, by rw [HVV.out]; exact HR.out.1, HR.out.2⟩

set_option maxRecDepth 20000 in
set_option maxHeartbeats 4000000 in
theorem otick_any (o : Ov)  (A : Option Addr) (c : Nat) (W : World) (h : Sl W 1 A o.l.length c (scells o.l)) (hl : o.l.length ≤ 1000) :
    Calls Try.prog 13 #[.agg (oc o A c)] W (OutR (tikV o) W) := by
  have HCL := hid (fun w (hw : Below W.heap.size W w) => ocloned_any o A c w (h.below hw) hl)
  have HL := hid hl
  have HV : Hid (tikV o = if o.l = [] then (o, false) else (⟨o.p, o.q, o.l, tkW o.w o.f, tkL o.w o.f⟩, tkB o.w o.f)) := hid rfl
  generalize tikV o = rv at *
  clear h hl
  obtain ⟨p, q, l, wt, f⟩ := o
  simp only [oc] at *
  go_enter Try.func13, Try.ntmps13
  go_upto_region 1 with (fail)
  refine at_world (fun u => u.heap[W.heap.size]? = some (.cells (oc ⟨p, q, l, wt, f⟩ A c) 28 (0, 0)) ∧ u.heap[W.heap.size + 1]? = some (.cells oz 28 (0, 0)) ∧ Below W.heap.size W u) ⟨heap_first _ _ _, heap_second _ _ _, below2 _ _ _⟩ ?_
  rintro w1 ⟨hx1, hz1, hb1⟩
  obtain ⟨⟨p0, p1, p2, p3, p4⟩, f0, f1, f2, f3, f4⟩ := five_cells hx1
  have HX1 := hid hx1
  have HZ1 := hid hz1
  have HB1 := hid hb1
  clear hx1 hz1 hb1
  go_wp2_with fail
  refine (HCL.out _ HB1.out).mono ?_
  rintro e w2 ⟨A1, c1, rfl, ho2, hb2⟩
  have hx2 := keep0 HX1.out hb2
  have HB2 := hid (HB1.out.trans (hb2.mono HB1.out.size))
  have HS2 := hid (SX.put (o' := ⟨p, q, l, wt, f⟩) hx2 (keep0 HZ1.out hb2) (by omega) (own_mono ho2 HB1.out.size) HB2.out (Nat.le_refl _) rfl)
  clear p0 p1 p2 p3 p4 f0 f1 f2 f3 f4
  obtain ⟨⟨p0, p1, p2, p3, p4⟩, f0, f1, f2, f3, f4⟩ := five_cells hx2
  clear hx2 ho2 hb2 HX1 HZ1 HB1 HCL HB2
  go_upto_region 2 with (fail)
  refine at_world (fun u => SX W u W.heap.size (W.heap.size + 1) ⟨p, q, l, wt, f⟩ A1 c1) HS2.out ?_
  clear p0 p1 p2 p3 p4 f0 f1 f2 f3 f4 HS2
  rintro w3 hs3
  have HS3 := hid hs3
  clear hs3
  by_cases h1 : l = []
  · have HVV : Hid (rv = (⟨p, q, l, wt, f⟩, false)) := hid (by rw [HV.out, if_pos h1])
    have e0 : ((l.length : Int) == 0) = true := by rw [h1]; rfl
    clear h1
    obtain ⟨⟨p0, p1, p2, p3, p4⟩, _⟩ := five_cells HS3.out.1
    obtain ⟨_, g0, g1, g2, g3, g4⟩ := five_cells HS3.out.2.1
    obtain ⟨⟨r0, r1, r2, r3, r4⟩, _⟩ := five_cells (put5_heap HS3.out.2.1 (.int .i64 p) (.int .i64 q) (.slice A1 l.length c1) (.int .i64 wt) (.int .i64 f))
    simp only [put5] at r0 r1 r2 r3 r4
    go_wp2
    have hr := HS3.out.ret (show W.heap.size ≤ W.heap.size + 1 by omega)
    exact bodyPost_ret (v := .tuple #[.agg #[.int .i64 p, .int .i64 q, .slice A1 l.length c1, .int .i64 wt, .int .i64 f], .bool false]) (by simp [results, Try.results13, go_sem, r0, r1, r2, r3, r4]) rfl ⟨A1, c1, by rw [HVV.out]; rfl, by rw [HVV.out]; exact hr.1, hr.2⟩
  · have HVV : Hid (rv = (⟨p, q, l, tkW wt f, tkL wt f⟩, tkB wt f)) := hid (by rw [HV.out, if_neg h1])
    have e0 : ((l.length : Int) == 0) = false := by rw [beq_eq_false_iff_ne]; intro h; exact h1 (List.eq_nil_of_length_eq_zero (by omega))
    clear h1
    have HTK := hid (fun w => tick_any wt f w)
    generalize tkW wt f = wt' at *
    generalize tkL wt f = f' at *
    generalize tkB wt f = b' at *
    obtain ⟨⟨p0, p1, p2, p3, p4⟩, f0, f1, f2, f3, f4⟩ := five_cells HS3.out.1
    go_wp2_with fail
    refine (HTK.out _).mono ?_
    rintro e w4 ⟨rfl, hb4⟩
    have HS4 := hid (HS3.out.keep hb4)
    clear hb4 HS3 HTK p0 p1 p2 p3 p4 f0 f1 f2 f3 f4
    go_upto_region 5 with (fail)
    refine at_world (fun u => u.heap[w4.heap.size]? = some (.cells #[.int .i64 wt', .int .i64 f'] 26 (0, 0)) ∧ SX W u W.heap.size (W.heap.size + 1) ⟨p, q, l, wt, f⟩ A1 c1) ⟨heap_alloc_new _ _, HS4.out.keep ((Below.refl _ _).alloc (Nat.le_refl _) _)⟩ ?_
    rintro w5 ⟨hp5, hs5⟩
    have HS5 := hid hs5
    obtain ⟨⟨p0, p1, p2, p3, p4⟩, f0, f1, f2, f3, f4⟩ := five_cells hs5.1
    obtain ⟨q0, q1, _, _⟩ := two_cells hp5
    clear hs5 hp5
    generalize w4.heap.size = P at *
    have HS6 := hid (SX.pace HS5.out (by omega) (Nat.le_refl _) wt' f' rfl)
    clear HS4 HS5
    go_upto_region 6 with (fail)
    refine at_world (fun u => SX W u W.heap.size (W.heap.size + 1) ⟨p, q, l, wt', f'⟩ A1 c1) HS6.out ?_
    clear p0 p1 p2 p3 p4 f0 f1 f2 f3 f4 q0 q1 HS6
    rintro w7 hs7
    have HS7 := hid hs7
    clear hs7
    obtain ⟨⟨p0, p1, p2, p3, p4⟩, _⟩ := five_cells HS7.out.1
    obtain ⟨_, g0, g1, g2, g3, g4⟩ := five_cells HS7.out.2.1
    obtain ⟨⟨r0, r1, r2, r3, r4⟩, _⟩ := five_cells (put5_heap HS7.out.2.1 (.int .i64 p) (.int .i64 q) (.slice A1 l.length c1) (.int .i64 wt') (.int .i64 f'))
    simp only [put5] at r0 r1 r2 r3 r4
    go_wp2
    have hr := HS7.out.ret (show W.heap.size ≤ W.heap.size + 1 by omega)
    exact bodyPost_ret (v := .tuple #[.agg #[.int .i64 p, .int .i64 q, .slice A1 l.length c1, .int .i64 wt', .int .i64 f'], .bool b']) (by simp [results, Try.results13, go_sem, r0, r1, r2, r3, r4]) rfl ⟨A1, c1, by rw [HVV.out]; rfl, by rw [HVV.out]; exact hr.1, hr.2⟩

set_option maxRecDepth 20000 in
set_option maxHeartbeats 4000000 in
theorem acked_any (o : Ov) (peer seq : Int) (A : Option Addr) (c : Nat) (W : World) (h : Sl W 1 A o.l.length c (scells o.l)) (hl : o.l.length ≤ 1000) (hq : o.q < 9223372036854775807) (hq0 : -9223372036854775808 ≤ o.q) :
    Calls Try.prog 11 #[.agg (oc o A c), .int .i64 peer, .int .i64 seq] W (OutR (ackV o peer seq) W) := by
  have HCL := hid (fun w (hw : Below W.heap.size W w) => ocloned_any o A c w (h.below hw) hl)
  have HL := hid hl
  have HV : Hid (ackV o peer seq = if o.l = [] ∨ peer ≠ o.p ∨ seq ≠ o.q then (o, false) else begV ⟨o.p, o.q + 1, o.l.tail, 1, 0⟩) := hid rfl
  generalize ackV o peer seq = rv at *
  clear h hl
  obtain ⟨p, q, l, wt, f⟩ := o
  simp only [oc] at *
  go_enter Try.func11, Try.ntmps11
  go_upto_region 1 with (fail)
  refine at_world (fun u => u.heap[W.heap.size]? = some (.cells (oc ⟨p, q, l, wt, f⟩ A c) 28 (0, 0)) ∧ u.heap[W.heap.size + 1]? = some (.cells oz 28 (0, 0)) ∧ Below W.heap.size W u) ⟨heap_first _ _ _, heap_second _ _ _, below2 _ _ _⟩ ?_
  rintro w1 ⟨hx1, hz1, hb1⟩
  obtain ⟨⟨p0, p1, p2, p3, p4⟩, f0, f1, f2, f3, f4⟩ := five_cells hx1
  have HX1 := hid hx1
  have HZ1 := hid hz1
  have HB1 := hid hb1
  clear hx1 hz1 hb1
  go_wp2_with fail
  refine (HCL.out _ HB1.out).mono ?_
  rintro e w2 ⟨A1, c1, rfl, ho2, hb2⟩
  have hx2 := keep0 HX1.out hb2
  have HB2 := hid (HB1.out.trans (hb2.mono HB1.out.size))
  have HS2 := hid (SX.put (o' := ⟨p, q, l, wt, f⟩) hx2 (keep0 HZ1.out hb2) (by omega) (own_mono ho2 HB1.out.size) HB2.out (Nat.le_refl _) rfl)
  clear p0 p1 p2 p3 p4 f0 f1 f2 f3 f4
  obtain ⟨⟨p0, p1, p2, p3, p4⟩, f0, f1, f2, f3, f4⟩ := five_cells hx2
  clear hx2 ho2 hb2 HX1 HZ1 HB1 HCL HB2
  go_upto_region 2 with (fail)
  refine at_world (fun u => SX W u W.heap.size (W.heap.size + 1) ⟨p, q, l, wt, f⟩ A1 c1) HS2.out ?_
  clear p0 p1 p2 p3 p4 f0 f1 f2 f3 f4 HS2
  rintro w3 hs3
  have HS3 := hid hs3
  clear hs3
  by_cases h1 : l = []
  · have HVV : Hid (rv = (⟨p, q, l, wt, f⟩, false)) := hid (by rw [HV.out, if_pos (.inl h1)])
    have e0 : ((l.length : Int) == 0) = true := by rw [h1]; rfl
    clear h1
    obtain ⟨⟨p0, p1, p2, p3, p4⟩, _⟩ := five_cells HS3.out.1
    obtain ⟨_, g0, g1, g2, g3, g4⟩ := five_cells HS3.out.2.1
    obtain ⟨⟨r0, r1, r2, r3, r4⟩, _⟩ := five_cells (put5_heap HS3.out.2.1 (.int .i64 p) (.int .i64 q) (.slice A1 l.length c1) (.int .i64 wt) (.int .i64 f))
    simp only [put5] at r0 r1 r2 r3 r4
    go_wp2
    have hr := HS3.out.ret (show W.heap.size ≤ W.heap.size + 1 by omega)
    exact bodyPost_ret (v := .tuple #[.agg #[.int .i64 p, .int .i64 q, .slice A1 l.length c1, .int .i64 wt, .int .i64 f], .bool false]) (by simp [results, Try.results11, go_sem, r0, r1, r2, r3, r4]) rfl ⟨A1, c1, by rw [HVV.out]; rfl, by rw [HVV.out]; exact hr.1, hr.2⟩
  have e0 : ((l.length : Int) == 0) = false := by rw [beq_eq_false_iff_ne]; intro h; exact h1 (List.eq_nil_of_length_eq_zero (by omega))
  by_cases h2 : peer = p
  case' neg =>
    have HVV : Hid (rv = (⟨p, q, l, wt, f⟩, false)) := hid (by rw [HV.out, if_pos (.inr (.inl h2))])
    have e2 : (peer != p) = true := by simpa using h2
    clear h1 h2
    obtain ⟨⟨p0, p1, p2, p3, p4⟩, _⟩ := five_cells HS3.out.1
    obtain ⟨_, g0, g1, g2, g3, g4⟩ := five_cells HS3.out.2.1
    obtain ⟨⟨r0, r1, r2, r3, r4⟩, _⟩ := five_cells (put5_heap HS3.out.2.1 (.int .i64 p) (.int .i64 q) (.slice A1 l.length c1) (.int .i64 wt) (.int .i64 f))
    simp only [put5] at r0 r1 r2 r3 r4
    go_wp2
    have hr := HS3.out.ret (show W.heap.size ≤ W.heap.size + 1 by omega)
    exact bodyPost_ret (v := .tuple #[.agg #[.int .i64 p, .int .i64 q, .slice A1 l.length c1, .int .i64 wt, .int .i64 f], .bool false]) (by simp [results, Try.results11, go_sem, r0, r1, r2, r3, r4]) rfl ⟨A1, c1, by rw [HVV.out]; rfl, by rw [HVV.out]; exact hr.1, hr.2⟩
  subst h2
  have e2 : (peer != peer) = false := by simp
  by_cases h3 : seq = q
  case' neg =>
    have HVV : Hid (rv = (⟨peer, q, l, wt, f⟩, false)) := hid (by rw [HV.out, if_pos (.inr (.inr h3))])
    have e3 : (seq != q) = true := by simpa using h3
    clear h1 h3
    obtain ⟨⟨p0, p1, p2, p3, p4⟩, _⟩ := five_cells HS3.out.1
    obtain ⟨_, g0, g1, g2, g3, g4⟩ := five_cells HS3.out.2.1
    obtain ⟨⟨r0, r1, r2, r3, r4⟩, _⟩ := five_cells (put5_heap HS3.out.2.1 (.int .i64 peer) (.int .i64 q) (.slice A1 l.length c1) (.int .i64 wt) (.int .i64 f))
    simp only [put5] at r0 r1 r2 r3 r4
    go_wp2
    have hr := HS3.out.ret (show W.heap.size ≤ W.heap.size + 1 by omega)
    exact bodyPost_ret (v := .tuple #[.agg #[.int .i64 peer, .int .i64 q, .slice A1 l.length c1, .int .i64 wt, .int .i64 f], .bool false]) (by simp [results, Try.results11, go_sem, r0, r1, r2, r3, r4]) rfl ⟨A1, c1, by rw [HVV.out]; rfl, by rw [HVV.out]; exact hr.1, hr.2⟩
  subst h3
  have e3 : (seq != seq) = false := by simp
  have HVV : Hid (rv = begV ⟨peer, seq + 1, l.tail, 1, 0⟩) := hid (by rw [HV.out, if_neg (by simp [h1])])
  have h0 : 0 < l.length := by
    rcases Nat.eq_zero_or_pos l.length with h | h
    · exact absurd (List.eq_nil_of_length_eq_zero h) h1
    · exact h
  have HL2 := hid HL.out
  have hll : l.length ≤ 1000 := HL.out
  have htl : l.tail.length = l.length - 1 := by simp
  have HBG := hid (fun w A c => begun_any ⟨peer, seq + 1, l.tail, 1, 0⟩ A c w (by simp only; omega))
  have hbl := begV_l ⟨peer, seq + 1, l.tail, 1, 0⟩
  generalize begV ⟨peer, seq + 1, l.tail, 1, 0⟩ = bv at *
  obtain ⟨⟨bp, bq, bl, bw, bf⟩, bb⟩ := bv
  simp only at hbl
  have hrun := run_from Try.underlying24 info_str A1 l.length c1 1 (by omega)
  have HD := hid (fun w (hw : SX W w W.heap.size (W.heap.size + 1) ⟨peer, seq, l, wt, f⟩ A1 c1) => (sl_own hw.2.2.1).drop 1 (by simp only; omega))
  have hsc : (scells l).drop (1 * 1) = scells l.tail := by cases l <;> simp [scells]
  simp only [hsc, ← htl] at HD
  simp only [Int.natCast_one, ← htl] at hrun
  rw [← hbl] at HD hrun htl HBG
  have hbl2 : bl.length ≤ 1000 := by omega
  have HTL := hid htl
  have i1 : (1 : Int) ≤ (l.length : Int) := by omega
  have HBL := hid hbl
  clear h0 h1 HL HL2 hsc htl hll hbl
  simp only [oc] at HBG
  have HCS := hid (fun w (hw : SX W w W.heap.size (W.heap.size + 1) ⟨peer, seq, l, wt, f⟩ A1 c1) => clone_str (dropA A1 c1 1 1) bl.length (c1 - 1) (scells bl) w (HD.out w hw) (scells_one _) (by omega))
  clear HD
  generalize dropA A1 c1 1 1 = A8 at *
  obtain ⟨⟨p0, p1, p2, p3, p4⟩, f0, f1, f2, f3, f4⟩ := five_cells HS3.out.1
  go_wp2_with fail
  refine (HCS.out _ HS3.out).mono ?_
  rintro e w4 ⟨v4, rfl, hb4, ho4⟩
  obtain ⟨A4, c4, rfl, _⟩ := Sl.of_own ho4
  have HS4 := hid (HS3.out.keep hb4)
  have HS5 := hid (SX.one HS4.out.1 HS4.out.2.1 (by omega) (o' := ⟨peer, seq, bl, wt, f⟩) (A' := A4) (c' := c4) (own_mono ho4 HS3.out.2.2.2.size) HS4.out.2.2.2 (Nat.le_refl _) 2 (.slice A4 bl.length c4) rfl rfl)
  clear p0 p1 p2 p3 p4 f0 f1 f2 f3 f4 hb4 ho4 HS3 HCS hrun
  obtain ⟨⟨p0, p1, p2, p3, p4⟩, f0, f1, f2, f3, f4⟩ := five_cells HS4.out.1
  go_upto_region 5 with (fail)
  refine at_world (fun u => SX W u W.heap.size (W.heap.size + 1) ⟨peer, seq, bl, wt, f⟩ A4 c4) HS5.out ?_
  clear p0 p1 p2 p3 p4 f0 f1 f2 f3 f4 HS4 HS5
  rintro w6 hs6
  have HS6 := hid hs6
  clear hs6
  have HS7 := hid (SX.one HS6.out.1 HS6.out.2.1 (by omega) (o' := ⟨peer, seq + 1, bl, wt, f⟩) HS6.out.2.2.1 HS6.out.2.2.2 (Nat.le_refl _) 1 (.int .i64 (seq + 1)) rfl rfl)
  obtain ⟨⟨p0, p1, p2, p3, p4⟩, f0, f1, f2, f3, f4⟩ := five_cells HS6.out.1
  have hq1 : seq ≤ 9223372036854775806 := by omega
  go_upto_region 6 with (fail)
  refine at_world (fun u => SX W u W.heap.size (W.heap.size + 1) ⟨peer, seq + 1, bl, wt, f⟩ A4 c4) HS7.out ?_
  clear p0 p1 p2 p3 p4 f0 f1 f2 f3 f4 HS6 HS7 hq hq1
  rintro w8 hs8
  have HS8 := hid hs8
  clear hs8
  obtain ⟨⟨p0, p1, p2, p3, p4⟩, f0, f1, f2, f3, f4⟩ := five_cells HS8.out.1
  go_wp2_with fail
  refine (stop_any _ _ _).mono ?_
  rintro e w9 ⟨rfl, hb9⟩
  have HS9 := hid (HS8.out.keep hb9)
  clear hb9 HS8 p0 p1 p2 p3 p4 f0 f1 f2 f3 f4
  have HSA := hid (SX.pace HS9.out (by omega) (Nat.le_refl _) 1 0 rfl)
  obtain ⟨⟨p0, p1, p2, p3, p4⟩, f0, f1, f2, f3, f4⟩ := five_cells HS9.out.1
  go_upto_region 7 with (fail)
  refine at_world (fun u => SX W u W.heap.size (W.heap.size + 1) ⟨peer, seq + 1, bl, 1, 0⟩ A4 c4) HSA.out ?_
  clear p0 p1 p2 p3 p4 f0 f1 f2 f3 f4 HS9 HSA
  rintro wb hsb
  have HSB := hid hsb
  clear hsb
  obtain ⟨⟨p0, p1, p2, p3, p4⟩, _⟩ := five_cells HSB.out.1
  go_wp2_with fail
  refine (HBG.out _ _ _).mono ?_
  rintro e wc ⟨rfl, hbc⟩
  have HSC := hid (HSB.out.keep hbc)
  clear hbc HSB p0 p1 p2 p3 p4
  obtain ⟨_, g0, g1, g2, g3, g4⟩ := five_cells HSC.out.2.1
  obtain ⟨⟨r0, r1, r2, r3, r4⟩, _⟩ := five_cells (put5_heap HSC.out.2.1 (.int .i64 bp) (.int .i64 bq) (.slice A4 bl.length c4) (.int .i64 bw) (.int .i64 bf))
  simp only [put5] at r0 r1 r2 r3 r4
  have HR := hid (SX.retv HSC.out (show W.heap.size ≤ W.heap.size + 1 by omega) (.int .i64 bp) (.int .i64 bq) (.int .i64 bw) (.int .i64 bf))
  go_wp2
  exact bodyPost_ret (v := .tuple #[.agg #[.int .i64 bp, .int .i64 bq, .slice A4 bl.length c4, .int .i64 bw, .int .i64 bf], .bool bb]) (by simp [results, Try.results11, go_sem, r0, r1, r2, r3, r4]) rfl ⟨A4, c4, by rw [HVV.out]; rfl, by rw [HVV.out]; exact HR.out.1, HR.out.2⟩
end Go.Proofs.Ytdekemlckpbbcaa
