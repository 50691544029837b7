/- link.Take: contract. -/
import Derived.Test.YtdphdodjidbngaaGreatQGt
import Derived.Test.YtdphdodjidbngaaGreatQLnkE
import Derived.Test.YtdphdodjidbngaaGreatPaQ
namespace Go.Proofs.YtdphdodjidbngaaGreat
open Go.RowKit Go.Sort
set_option linter.unusedVariables false
set_option linter.unusedSimpArgs false

def chkP (x : Pk) : Bool := okP x.k x.f x.t x.i x.p x.s x.b
/-- A packet that Take leaves be. -/
def badT (e : Ev) (x : Pk) : Prop := chkP x = false ∨ x.f ≠ e.t ∨ x.t ≠ e.f ∨ x.i < e.p
instance (e : Ev) (x : Pk) : Decidable (badT e x) := by unfold badT; infer_instance
/-- What Take answers. -/
def takV (e : Ev) (x : Pk) : (Ev × List Pk) × ByteArray × Bool :=
  if badT e x then ((e, []), ⟨#[]⟩, false)
  else if x.k = 1 then (datE e x, (if clsD e x = 1 then str x.b else ⟨#[]⟩), decide (clsD e x = 1))
  else if x.k = 2 then (if x.p = e.i then (ackE e x, ⟨#[]⟩, false) else ((e, []), ⟨#[]⟩, false))
  else if x.k = 3 then (if x.p ≤ e.i then (lrnE e x.i, ⟨#[]⟩, false) else ((e, []), ⟨#[]⟩, false))
  else ((e, []), str x.b, true)
theorem str_list (b : List UInt8) : (str b).data.toList = b := by simp [str]

set_option maxRecDepth 20000 in
set_option maxHeartbeats 16000000 in
theorem ltake_any (e : Ev) (x : Pk) (A : Option Addr) (c : Nat) (W : World) (h : Sl W 1 A e.o.l.length c (scells e.o.l)) (hl : e.o.l.length ≤ 1000) (hg0 : 0 ≤ e.l) (hg : e.l ≤ 9223372036854775807) (hs0 : -9223372036854775808 ≤ x.s) (hs : x.s ≤ 9223372036854775807) (hq : e.o.q < 9223372036854775807) (hq0 : -9223372036854775808 ≤ e.o.q) :
    Calls Tryz.prog 35 #[.agg (ec e A c), .agg (pca x)] W (TakR (takV e x).1 (takV e x).2.1 (takV e x).2.2 W) := by
  have HCL := hid (fun w (hw : Below W.heap.size W w) => ecloned_any e A c w (h.below hw) hl)
  have HCK := hid (fun w => pkcheck_any x.k x.f x.t x.i x.p x.s (str x.b) w)
  rw [str_list] at HCK
  have HTD := hid (fun A1 c1 w h9 => tdata_any e x A1 c1 w h9 hl hg0 hg hs0 hs)
  have HAY := hid (fun hx A1 c1 w h9 => tack_yes e x hx A1 c1 w h9 hl hq hq0)
  have HAN := hid (fun hx A1 c1 w => tack_no e x hx A1 c1 w)
  have HLR := hid (fun A1 c1 w h9 => learned_any e x.i A1 c1 w h9 hl)
  have HK : Hid (okP x.k x.f x.t x.i x.p x.s x.b = true → 1 ≤ x.k ∧ x.k ≤ 4) := hid fun h9 => (okP_iff h9).1
  have HV : Hid (takV e x = if (chkP x = false ∨ x.f ≠ e.t ∨ x.t ≠ e.f ∨ x.i < e.p) then ((e, []), ⟨#[]⟩, false)
    else if x.k = 1 then (datE e x, (if clsD e x = 1 then str x.b else ⟨#[]⟩), decide (clsD e x = 1))
    else if x.k = 2 then (if x.p = e.i then (ackE e x, ⟨#[]⟩, false) else ((e, []), ⟨#[]⟩, false))
    else if x.k = 3 then (if x.p ≤ e.i then (lrnE e x.i, ⟨#[]⟩, false) else ((e, []), ⟨#[]⟩, false))
    else ((e, []), str x.b, true)) := hid (by rw [takV]; unfold badT; rfl)
  rw [show chkP x = okP x.k x.f x.t x.i x.p x.s x.b from rfl] at HV
  generalize okP x.k x.f x.t x.i x.p x.s x.b = ck at *
  generalize (if clsD e x = 1 then str x.b else ⟨#[]⟩) = tx at *
  generalize decide (clsD e x = 1) = got at *
  generalize takV e x = rv at *
  generalize datE e x = dv at *
  generalize ackE e x = av at *
  generalize lrnE e x.i = lv at *
  obtain ⟨rr, rt, rg⟩ := rv
  obtain ⟨f, t, i, ⟨p, q, l, wt, fl⟩, gm, gp, gl⟩ := e
  obtain ⟨kd, xf, xt, xi, xp, xs, xb⟩ := x
  clear h hl hg hg0 hs hs0 hq hq0
  simp only [ec, pca] at *
  go_enter Tryz.func35, Tryz.ntmps35
  go_upto_region 1 with (fail)
  refine at_world (fun u => u.heap[W.heap.size]? = some (.cells (ec ⟨f, t, i, ⟨p, q, l, wt, fl⟩, gm, gp, gl⟩ A c) 71 (0, 0)) ∧ u.heap[W.heap.size + 1]? = some (.cells (pca ⟨kd, xf, xt, xi, xp, xs, xb⟩) 90 (0, 0)) ∧ u.heap[W.heap.size + 2]? = some (.cells ez 71 (0, 0)) ∧ Below W.heap.size W u) (al3 _ _ _ _) ?_
  rintro w1 ⟨hx1, hy1, hz1, hb1⟩
  obtain ⟨⟨cp0, cp1, cp2, cp3, cp4, cp5, cp6, cp7, cp8, cp9, cp10⟩, _⟩ := eleven_cells hx1
  have HX1 := hid hx1
  have HY1 := hid hy1
  have HZ1 := hid hz1
  have HB1 := hid hb1
  clear hx1 hy1 hz1 hb1
  go_wp2_with fail
  refine (HCL.out _ HB1.out).mono ?_
  rintro e w2 ⟨A1, c1, rfl, ho2, hb2⟩
  simp only [ec]
  have HX2 := hid (keep0 HX1.out hb2)
  have HY2 := hid (keep0 HY1.out hb2)
  have hz2 := keep0 HZ1.out hb2
  have HO2 := hid (own_mono ho2 HB1.out.size)
  have HB2 := hid (HB1.out.trans (hb2.mono HB1.out.size))
  obtain ⟨_, ⟨cg0, cg1, cg2, cg3, cg4, cg5, cg6, cg7, cg8, cg9, cg10⟩⟩ := eleven_cells hz2
  have HZ2 := hid hz2
  clear cp0 cp1 cp2 cp3 cp4 cp5 cp6 cp7 cp8 cp9 cp10 HX1 HY1 HZ1 ho2 hb2 HB1 HCL hz2
  go_upto_region 2 with (fail)
  refine at_world (fun u => EX W u (W.heap.size + 2) ⟨f, t, i, ⟨p, q, l, wt, fl⟩, gm, gp, gl⟩ A1 c1 ∧ u.heap[W.heap.size + 1]? = some (.cells (pca ⟨kd, xf, xt, xi, xp, xs, xb⟩) 90 (0, 0)) ∧ u.heap[W.heap.size]? = some (.cells (ec ⟨f, t, i, ⟨p, q, l, wt, fl⟩, gm, gp, gl⟩ A c) 71 (0, 0))) ⟨EX.new (e := ⟨f, t, i, ⟨p, q, l, wt, fl⟩, gm, gp, gl⟩) HZ2.out HO2.out HB2.out (by omega), (put11_other (w := w2) (b := W.heap.size + 2) (g := W.heap.size + 1) (by omega) (.int .i64 f) (.int .i64 t) (.int .i64 i) (.int .i64 p) (.int .i64 q) (.slice A1 l.length c1) (.int .i64 wt) (.int .i64 fl) (.int .i64 gm) (.int .i64 gp) (.int .i64 gl)).trans HY2.out, (put11_other (w := w2) (b := W.heap.size + 2) (g := W.heap.size) (by omega) (.int .i64 f) (.int .i64 t) (.int .i64 i) (.int .i64 p) (.int .i64 q) (.slice A1 l.length c1) (.int .i64 wt) (.int .i64 fl) (.int .i64 gm) (.int .i64 gp) (.int .i64 gl)).trans HX2.out⟩ ?_
  clear cg0 cg1 cg2 cg3 cg4 cg5 cg6 cg7 cg8 cg9 cg10 HX2 HY2 HZ2 HO2 HB2
  rintro w3 ⟨hs3, hy3, hx3⟩
  obtain ⟨⟨y0, y1, y2, y3, y4, y5, y6⟩, _⟩ := seven_cells hy3
  have HS3 := hid hs3
  have HY3 := hid hy3
  have HX3 := hid hx3
  clear hs3 hy3 hx3
  go_wp2_with fail
  refine (HCK.out _).mono ?_
  rintro e w5 ⟨rfl, hb5⟩
  have HS := hid (HS3.out.keep hb5)
  have HY := hid (keep0 HY3.out hb5)
  have HX := hid (keep0 HX3.out hb5)
  clear y0 y1 y2 y3 y4 y5 y6 HS3 HY3 HX3 hb5 HCK
  obtain ⟨⟨cp0, cp1, cp2, cp3, cp4, cp5, cp6, cp7, cp8, cp9, cp10⟩, _⟩ := eleven_cells HX.out
  obtain ⟨⟨y0, y1, y2, y3, y4, y5, y6⟩, _⟩ := seven_cells HY.out
  obtain ⟨⟨zq0, zq1, zq2, zq3, zq4, zq5, zq6, zq7, zq8, zq9, zq10⟩, ⟨cg0, cg1, cg2, cg3, cg4, cg5, cg6, cg7, cg8, cg9, cg10⟩⟩ := eleven_cells HS.out.1
  have hb0 : (rr, rt, rg) = ((⟨f, t, i, ⟨p, q, l, wt, fl⟩, gm, gp, gl⟩, ([] : List Pk)), (⟨#[]⟩ : ByteArray), false) → rr = (⟨f, t, i, ⟨p, q, l, wt, fl⟩, gm, gp, gl⟩, []) ∧ rt = ⟨#[]⟩ ∧ rg = false := fun h => by simpa using h
  have HB0 := hid hb0
  clear hb0
  cases ck with
  | false =>
    have hv := HV.out
    rw [if_pos (.inl rfl)] at hv
    obtain ⟨rfl, rfl, rfl⟩ := HB0.out hv
    have HO9 := hid (EX.new (e := ⟨f, t, i, ⟨p, q, l, wt, fl⟩, gm, gp, gl⟩) HS.out.1 HS.out.2.1 HS.out.2.2 (show W.heap.size ≤ W.heap.size + 2 by omega))
    have hz9 := HO9.out.1
    simp only [put11] at hz9 HO9
    obtain ⟨⟨cr0, cr1, cr2, cr3, cr4, cr5, cr6, cr7, cr8, cr9, cr10⟩, _⟩ := eleven_cells hz9
    clear hz9 hv HV HK
    go_wp2
    exact bodyPost_ret (v := .tuple #[.agg #[.int .i64 f, .int .i64 t, .int .i64 i, .int .i64 p, .int .i64 q, .slice A1 l.length c1, .int .i64 wt, .int .i64 fl, .int .i64 gm, .int .i64 gp, .int .i64 gl], .string ⟨#[]⟩, .bool false, .slice none 0 0]) (by simp [results, Tryz.results35, go_sem, cr0, cr1, cr2, cr3, cr4, cr5, cr6, cr7, cr8, cr9, cr10]) rfl ⟨A1, c1, none, 0, rfl, HO9.out.2.1, ownP_nil _ _, HO9.out.2.2⟩
  | true =>
  by_cases c1' : xf = t
  case neg =>
    have b1 : (xf != t) = true := by simpa using c1'
    have hv := HV.out
    rw [if_pos (.inr (.inl c1'))] at hv
    clear c1'
    obtain ⟨rfl, rfl, rfl⟩ := HB0.out hv
    have HO9 := hid (EX.new (e := ⟨f, t, i, ⟨p, q, l, wt, fl⟩, gm, gp, gl⟩) HS.out.1 HS.out.2.1 HS.out.2.2 (show W.heap.size ≤ W.heap.size + 2 by omega))
    have hz9 := HO9.out.1
    simp only [put11] at hz9 HO9
    obtain ⟨⟨cr0, cr1, cr2, cr3, cr4, cr5, cr6, cr7, cr8, cr9, cr10⟩, _⟩ := eleven_cells hz9
    clear hz9 hv HV HK
    go_wp2
    exact bodyPost_ret (v := .tuple #[.agg #[.int .i64 f, .int .i64 t, .int .i64 i, .int .i64 p, .int .i64 q, .slice A1 l.length c1, .int .i64 wt, .int .i64 fl, .int .i64 gm, .int .i64 gp, .int .i64 gl], .string ⟨#[]⟩, .bool false, .slice none 0 0]) (by simp [results, Tryz.results35, go_sem, cr0, cr1, cr2, cr3, cr4, cr5, cr6, cr7, cr8, cr9, cr10]) rfl ⟨A1, c1, none, 0, rfl, HO9.out.2.1, ownP_nil _ _, HO9.out.2.2⟩
  have b1 : (xf != t) = false := by simpa using c1'
  by_cases c2' : xt = f
  case neg =>
    have b2 : (xt != f) = true := by simpa using c2'
    have hv := HV.out
    rw [if_pos (.inr (.inr (.inl c2')))] at hv
    clear c1' c2'
    obtain ⟨rfl, rfl, rfl⟩ := HB0.out hv
    have HO9 := hid (EX.new (e := ⟨f, t, i, ⟨p, q, l, wt, fl⟩, gm, gp, gl⟩) HS.out.1 HS.out.2.1 HS.out.2.2 (show W.heap.size ≤ W.heap.size + 2 by omega))
    have hz9 := HO9.out.1
    simp only [put11] at hz9 HO9
    obtain ⟨⟨cr0, cr1, cr2, cr3, cr4, cr5, cr6, cr7, cr8, cr9, cr10⟩, _⟩ := eleven_cells hz9
    clear hz9 hv HV HK
    go_wp2
    exact bodyPost_ret (v := .tuple #[.agg #[.int .i64 f, .int .i64 t, .int .i64 i, .int .i64 p, .int .i64 q, .slice A1 l.length c1, .int .i64 wt, .int .i64 fl, .int .i64 gm, .int .i64 gp, .int .i64 gl], .string ⟨#[]⟩, .bool false, .slice none 0 0]) (by simp [results, Tryz.results35, go_sem, cr0, cr1, cr2, cr3, cr4, cr5, cr6, cr7, cr8, cr9, cr10]) rfl ⟨A1, c1, none, 0, rfl, HO9.out.2.1, ownP_nil _ _, HO9.out.2.2⟩
  have b2 : (xt != f) = false := by simpa using c2'
  by_cases c3' : xi < gp
  case pos =>
    have d3 : decide (xi < gp) = true := decide_eq_true c3'
    have hv := HV.out
    rw [if_pos (.inr (.inr (.inr c3')))] at hv
    clear c1' c2' c3'
    obtain ⟨rfl, rfl, rfl⟩ := HB0.out hv
    have HO9 := hid (EX.new (e := ⟨f, t, i, ⟨p, q, l, wt, fl⟩, gm, gp, gl⟩) HS.out.1 HS.out.2.1 HS.out.2.2 (show W.heap.size ≤ W.heap.size + 2 by omega))
    have hz9 := HO9.out.1
    simp only [put11] at hz9 HO9
    obtain ⟨⟨cr0, cr1, cr2, cr3, cr4, cr5, cr6, cr7, cr8, cr9, cr10⟩, _⟩ := eleven_cells hz9
    clear hz9 hv HV HK
    go_wp2
    exact bodyPost_ret (v := .tuple #[.agg #[.int .i64 f, .int .i64 t, .int .i64 i, .int .i64 p, .int .i64 q, .slice A1 l.length c1, .int .i64 wt, .int .i64 fl, .int .i64 gm, .int .i64 gp, .int .i64 gl], .string ⟨#[]⟩, .bool false, .slice none 0 0]) (by simp [results, Tryz.results35, go_sem, cr0, cr1, cr2, cr3, cr4, cr5, cr6, cr7, cr8, cr9, cr10]) rfl ⟨A1, c1, none, 0, rfl, HO9.out.2.1, ownP_nil _ _, HO9.out.2.2⟩
  have d3 : decide (xi < gp) = false := decide_eq_false c3'
  have hv := HV.out
  rw [if_neg (show ¬ (true = false ∨ xf ≠ t ∨ xt ≠ f ∨ xi < gp) from fun h => h.elim (fun h => by cases h) fun h => h.elim (fun h => h c1') fun h => h.elim (fun h => h c2') c3')] at hv
  clear c1' c2' c3' HV
  obtain ⟨hk1, hk4⟩ := HK.out rfl
  clear HK
  by_cases k1 : kd = 1
  · rw [if_pos k1] at hv
    subst k1
    obtain ⟨rfl, rfl, rfl⟩ : rr = dv ∧ rt = tx ∧ rg = got := by simpa using hv
    clear hv hk1 hk4
    obtain ⟨⟨f2, t2, i2, ⟨p2, q2, l2, wt2, fl2⟩, gm2, gp2, gl2⟩, D2⟩ := rr
    go_wp2_with fail
    refine (HTD.out A1 c1 _ (sl_own HS.out.2.1)).mono ?_
    rintro y w6 ⟨A2, c2, B2, d2, rfl, ho6, hP6, hb6⟩
    simp only [ec]
    have HZ6 := hid (keep0 HS.out.1 hb6)
    have HO6 := hid (own_mono ho6 HS.out.2.2.size)
    have HP6 := hid (own_mono hP6 HS.out.2.2.size)
    have HB6 := hid (HS.out.2.2.trans (hb6.mono HS.out.2.2.size))
    clear cp0 cp1 cp2 cp3 cp4 cp5 cp6 cp7 cp8 cp9 cp10 cg0 cg1 cg2 cg3 cg4 cg5 cg6 cg7 cg8 cg9 cg10 zq0 zq1 zq2 zq3 zq4 zq5 zq6 zq7 zq8 zq9 zq10 y0 y1 y2 y3 y4 y5 y6 ho6 hP6 hb6
    obtain ⟨_, ⟨cg0, cg1, cg2, cg3, cg4, cg5, cg6, cg7, cg8, cg9, cg10⟩⟩ := eleven_cells HZ6.out
    have HO9 := hid (EX.new (e := ⟨f2, t2, i2, ⟨p2, q2, l2, wt2, fl2⟩, gm2, gp2, gl2⟩) HZ6.out HO6.out HB6.out (show W.heap.size ≤ W.heap.size + 2 by omega))
    have HP9 := hid (own_at HP6.out HZ6.out (by decide) fun g hg => put11_other hg (.int .i64 f2) (.int .i64 t2) (.int .i64 i2) (.int .i64 p2) (.int .i64 q2) (.slice A2 l2.length c2) (.int .i64 wt2) (.int .i64 fl2) (.int .i64 gm2) (.int .i64 gp2) (.int .i64 gl2))
    have hz9 := HO9.out.1
    simp only [put11] at hz9 HO9 HP9
    obtain ⟨⟨cr0, cr1, cr2, cr3, cr4, cr5, cr6, cr7, cr8, cr9, cr10⟩, _⟩ := eleven_cells hz9
    clear hz9
    go_wp2
    exact bodyPost_ret (v := .tuple #[.agg #[.int .i64 f2, .int .i64 t2, .int .i64 i2, .int .i64 p2, .int .i64 q2, .slice A2 l2.length c2, .int .i64 wt2, .int .i64 fl2, .int .i64 gm2, .int .i64 gp2, .int .i64 gl2], .string rt, .bool rg, .slice B2 D2.length d2]) (by simp [results, Tryz.results35, go_sem, cr0, cr1, cr2, cr3, cr4, cr5, cr6, cr7, cr8, cr9, cr10]) rfl ⟨A2, c2, B2, d2, rfl, HO9.out.2.1, HP9.out, HO9.out.2.2⟩
  rw [if_neg k1] at hv
  have n1 : (kd == 1) = false := by rw [beq_eq_false_iff_ne]; exact k1
  by_cases k2 : kd = 2
  · rw [if_pos k2] at hv
    subst k2
    clear hk1 hk4 k1 n1
    by_cases hp : xp = i
    · rw [if_pos hp] at hv
      obtain ⟨rfl, rfl, rfl⟩ : rr = av ∧ rt = ⟨#[]⟩ ∧ rg = false := by simpa using hv
      have HAY2 := hid (HAY.out hp)
      clear hv hp HAY HAN
      obtain ⟨⟨f2, t2, i2, ⟨p2, q2, l2, wt2, fl2⟩, gm2, gp2, gl2⟩, D2⟩ := rr
      go_wp2_with fail
      refine (HAY2.out A1 c1 _ (sl_own HS.out.2.1)).mono ?_
      rintro y w6 ⟨A2, c2, B2, d2, rfl, ho6, hP6, hb6⟩
      simp only [ec]
      have HZ6 := hid (keep0 HS.out.1 hb6)
      have HO6 := hid (own_mono ho6 HS.out.2.2.size)
      have HP6 := hid (own_mono hP6 HS.out.2.2.size)
      have HB6 := hid (HS.out.2.2.trans (hb6.mono HS.out.2.2.size))
      clear cp0 cp1 cp2 cp3 cp4 cp5 cp6 cp7 cp8 cp9 cp10 cg0 cg1 cg2 cg3 cg4 cg5 cg6 cg7 cg8 cg9 cg10 zq0 zq1 zq2 zq3 zq4 zq5 zq6 zq7 zq8 zq9 zq10 y0 y1 y2 y3 y4 y5 y6 ho6 hP6 hb6
      obtain ⟨_, ⟨cg0, cg1, cg2, cg3, cg4, cg5, cg6, cg7, cg8, cg9, cg10⟩⟩ := eleven_cells HZ6.out
      go_upto_region 14 with (fail)
      refine at_world (fun u => EX W u (W.heap.size + 2) ⟨f2, t2, i2, ⟨p2, q2, l2, wt2, fl2⟩, gm2, gp2, gl2⟩ A2 c2 ∧ OwnP W u (.slice B2 D2.length d2) D2) ⟨EX.new (e := ⟨f2, t2, i2, ⟨p2, q2, l2, wt2, fl2⟩, gm2, gp2, gl2⟩) HZ6.out HO6.out HB6.out (by omega), own_at HP6.out HZ6.out (by decide) fun g hg => put11_other hg (.int .i64 f2) (.int .i64 t2) (.int .i64 i2) (.int .i64 p2) (.int .i64 q2) (.slice A2 l2.length c2) (.int .i64 wt2) (.int .i64 fl2) (.int .i64 gm2) (.int .i64 gp2) (.int .i64 gl2)⟩ ?_
      clear cg0 cg1 cg2 cg3 cg4 cg5 cg6 cg7 cg8 cg9 cg10 HZ6 HO6 HP6 HB6
      rintro w7 ⟨hs7, hP7⟩
      obtain ⟨⟨zq0, zq1, zq2, zq3, zq4, zq5, zq6, zq7, zq8, zq9, zq10⟩, ⟨cg0, cg1, cg2, cg3, cg4, cg5, cg6, cg7, cg8, cg9, cg10⟩⟩ := eleven_cells hs7.1
      have HO9 := hid (EX.new (e := ⟨f2, t2, i2, ⟨p2, q2, l2, wt2, fl2⟩, gm2, gp2, gl2⟩) hs7.1 hs7.2.1 hs7.2.2 (show W.heap.size ≤ W.heap.size + 2 by omega))
      have HP9 := hid (own_at hP7 hs7.1 (by decide) fun g hg => put11_other hg (.int .i64 f2) (.int .i64 t2) (.int .i64 i2) (.int .i64 p2) (.int .i64 q2) (.slice A2 l2.length c2) (.int .i64 wt2) (.int .i64 fl2) (.int .i64 gm2) (.int .i64 gp2) (.int .i64 gl2))
      have hz9 := HO9.out.1
      simp only [put11] at hz9 HO9 HP9
      obtain ⟨⟨cr0, cr1, cr2, cr3, cr4, cr5, cr6, cr7, cr8, cr9, cr10⟩, _⟩ := eleven_cells hz9
      clear hz9 hs7 hP7
      go_wp2
      exact bodyPost_ret (v := .tuple #[.agg #[.int .i64 f2, .int .i64 t2, .int .i64 i2, .int .i64 p2, .int .i64 q2, .slice A2 l2.length c2, .int .i64 wt2, .int .i64 fl2, .int .i64 gm2, .int .i64 gp2, .int .i64 gl2], .string ⟨#[]⟩, .bool false, .slice B2 D2.length d2]) (by simp [results, Tryz.results35, go_sem, cr0, cr1, cr2, cr3, cr4, cr5, cr6, cr7, cr8, cr9, cr10]) rfl ⟨A2, c2, B2, d2, rfl, HO9.out.2.1, HP9.out, HO9.out.2.2⟩
    · rw [if_neg hp] at hv
      obtain ⟨rfl, rfl, rfl⟩ := HB0.out hv
      have HAN2 := hid (HAN.out hp)
      clear hv hp HAY HAN
      go_wp2_with fail
      refine (HAN2.out A1 c1 _).mono ?_
      rintro y w6 ⟨rfl, hb6⟩
      simp only [ec]
      have HS6 := hid (HS.out.keep hb6)
      clear cp0 cp1 cp2 cp3 cp4 cp5 cp6 cp7 cp8 cp9 cp10 cg0 cg1 cg2 cg3 cg4 cg5 cg6 cg7 cg8 cg9 cg10 zq0 zq1 zq2 zq3 zq4 zq5 zq6 zq7 zq8 zq9 zq10 y0 y1 y2 y3 y4 y5 y6 hb6
      obtain ⟨_, ⟨cg0, cg1, cg2, cg3, cg4, cg5, cg6, cg7, cg8, cg9, cg10⟩⟩ := eleven_cells HS6.out.1
      go_upto_region 14 with (fail)
      refine at_world (fun u => EX W u (W.heap.size + 2) ⟨f, t, i, ⟨p, q, l, wt, fl⟩, gm, gp, gl⟩ A1 c1) (EX.new (e := ⟨f, t, i, ⟨p, q, l, wt, fl⟩, gm, gp, gl⟩) HS6.out.1 HS6.out.2.1 HS6.out.2.2 (by omega)) ?_
      clear cg0 cg1 cg2 cg3 cg4 cg5 cg6 cg7 cg8 cg9 cg10 HS6
      rintro w7 hs7
      obtain ⟨⟨zq0, zq1, zq2, zq3, zq4, zq5, zq6, zq7, zq8, zq9, zq10⟩, ⟨cg0, cg1, cg2, cg3, cg4, cg5, cg6, cg7, cg8, cg9, cg10⟩⟩ := eleven_cells hs7.1
      have HO9 := hid (EX.new (e := ⟨f, t, i, ⟨p, q, l, wt, fl⟩, gm, gp, gl⟩) hs7.1 hs7.2.1 hs7.2.2 (show W.heap.size ≤ W.heap.size + 2 by omega))
      have hz9 := HO9.out.1
      simp only [put11] at hz9 HO9
      obtain ⟨⟨cr0, cr1, cr2, cr3, cr4, cr5, cr6, cr7, cr8, cr9, cr10⟩, _⟩ := eleven_cells hz9
      clear hz9 hs7
      go_wp2
      exact bodyPost_ret (v := .tuple #[.agg #[.int .i64 f, .int .i64 t, .int .i64 i, .int .i64 p, .int .i64 q, .slice A1 l.length c1, .int .i64 wt, .int .i64 fl, .int .i64 gm, .int .i64 gp, .int .i64 gl], .string ⟨#[]⟩, .bool false, .slice none 0 0]) (by simp [results, Tryz.results35, go_sem, cr0, cr1, cr2, cr3, cr4, cr5, cr6, cr7, cr8, cr9, cr10]) rfl ⟨A1, c1, none, 0, rfl, HO9.out.2.1, ownP_nil _ _, HO9.out.2.2⟩
  rw [if_neg k2] at hv
  have n2 : (kd == 2) = false := by rw [beq_eq_false_iff_ne]; exact k2
  by_cases k3 : kd = 3
  · rw [if_pos k3] at hv
    subst k3
    clear hk1 hk4 k1 n1 k2 n2
    by_cases hp : xp ≤ i
    · have d9 : decide (xp ≤ i) = true := decide_eq_true hp
      rw [if_pos hp] at hv
      obtain ⟨rfl, rfl, rfl⟩ : rr = lv ∧ rt = ⟨#[]⟩ ∧ rg = false := by simpa using hv
      clear hv hp
      obtain ⟨⟨f2, t2, i2, ⟨p2, q2, l2, wt2, fl2⟩, gm2, gp2, gl2⟩, D2⟩ := rr
      go_wp2_with fail
      refine (HLR.out A1 c1 _ (sl_own HS.out.2.1)).mono ?_
      rintro y w6 ⟨A2, c2, B2, d2, rfl, ho6, hP6, hb6⟩
      simp only [ec]
      have HZ6 := hid (keep0 HS.out.1 hb6)
      have HO6 := hid (own_mono ho6 HS.out.2.2.size)
      have HP6 := hid (own_mono hP6 HS.out.2.2.size)
      have HB6 := hid (HS.out.2.2.trans (hb6.mono HS.out.2.2.size))
      clear cp0 cp1 cp2 cp3 cp4 cp5 cp6 cp7 cp8 cp9 cp10 cg0 cg1 cg2 cg3 cg4 cg5 cg6 cg7 cg8 cg9 cg10 zq0 zq1 zq2 zq3 zq4 zq5 zq6 zq7 zq8 zq9 zq10 y0 y1 y2 y3 y4 y5 y6 ho6 hP6 hb6
      obtain ⟨_, ⟨cg0, cg1, cg2, cg3, cg4, cg5, cg6, cg7, cg8, cg9, cg10⟩⟩ := eleven_cells HZ6.out
      go_upto_region 14 with (fail)
      refine at_world (fun u => EX W u (W.heap.size + 2) ⟨f2, t2, i2, ⟨p2, q2, l2, wt2, fl2⟩, gm2, gp2, gl2⟩ A2 c2 ∧ OwnP W u (.slice B2 D2.length d2) D2) ⟨EX.new (e := ⟨f2, t2, i2, ⟨p2, q2, l2, wt2, fl2⟩, gm2, gp2, gl2⟩) HZ6.out HO6.out HB6.out (by omega), own_at HP6.out HZ6.out (by decide) fun g hg => put11_other hg (.int .i64 f2) (.int .i64 t2) (.int .i64 i2) (.int .i64 p2) (.int .i64 q2) (.slice A2 l2.length c2) (.int .i64 wt2) (.int .i64 fl2) (.int .i64 gm2) (.int .i64 gp2) (.int .i64 gl2)⟩ ?_
      clear cg0 cg1 cg2 cg3 cg4 cg5 cg6 cg7 cg8 cg9 cg10 HZ6 HO6 HP6 HB6
      rintro w7 ⟨hs7, hP7⟩
      obtain ⟨⟨zq0, zq1, zq2, zq3, zq4, zq5, zq6, zq7, zq8, zq9, zq10⟩, ⟨cg0, cg1, cg2, cg3, cg4, cg5, cg6, cg7, cg8, cg9, cg10⟩⟩ := eleven_cells hs7.1
      have HO9 := hid (EX.new (e := ⟨f2, t2, i2, ⟨p2, q2, l2, wt2, fl2⟩, gm2, gp2, gl2⟩) hs7.1 hs7.2.1 hs7.2.2 (show W.heap.size ≤ W.heap.size + 2 by omega))
      have HP9 := hid (own_at hP7 hs7.1 (by decide) fun g hg => put11_other hg (.int .i64 f2) (.int .i64 t2) (.int .i64 i2) (.int .i64 p2) (.int .i64 q2) (.slice A2 l2.length c2) (.int .i64 wt2) (.int .i64 fl2) (.int .i64 gm2) (.int .i64 gp2) (.int .i64 gl2))
      have hz9 := HO9.out.1
      simp only [put11] at hz9 HO9 HP9
      obtain ⟨⟨cr0, cr1, cr2, cr3, cr4, cr5, cr6, cr7, cr8, cr9, cr10⟩, _⟩ := eleven_cells hz9
      clear hz9 hs7 hP7
      go_wp2
      exact bodyPost_ret (v := .tuple #[.agg #[.int .i64 f2, .int .i64 t2, .int .i64 i2, .int .i64 p2, .int .i64 q2, .slice A2 l2.length c2, .int .i64 wt2, .int .i64 fl2, .int .i64 gm2, .int .i64 gp2, .int .i64 gl2], .string ⟨#[]⟩, .bool false, .slice B2 D2.length d2]) (by simp [results, Tryz.results35, go_sem, cr0, cr1, cr2, cr3, cr4, cr5, cr6, cr7, cr8, cr9, cr10]) rfl ⟨A2, c2, B2, d2, rfl, HO9.out.2.1, HP9.out, HO9.out.2.2⟩
    · have d9 : decide (xp ≤ i) = false := decide_eq_false hp
      rw [if_neg hp] at hv
      obtain ⟨rfl, rfl, rfl⟩ := HB0.out hv
      clear hv hp
      have HO9 := hid (EX.new (e := ⟨f, t, i, ⟨p, q, l, wt, fl⟩, gm, gp, gl⟩) HS.out.1 HS.out.2.1 HS.out.2.2 (show W.heap.size ≤ W.heap.size + 2 by omega))
      have hz9 := HO9.out.1
      simp only [put11] at hz9 HO9
      obtain ⟨⟨cr0, cr1, cr2, cr3, cr4, cr5, cr6, cr7, cr8, cr9, cr10⟩, _⟩ := eleven_cells hz9
      clear hz9
      go_wp2
      exact bodyPost_ret (v := .tuple #[.agg #[.int .i64 f, .int .i64 t, .int .i64 i, .int .i64 p, .int .i64 q, .slice A1 l.length c1, .int .i64 wt, .int .i64 fl, .int .i64 gm, .int .i64 gp, .int .i64 gl], .string ⟨#[]⟩, .bool false, .slice none 0 0]) (by simp [results, Tryz.results35, go_sem, cr0, cr1, cr2, cr3, cr4, cr5, cr6, cr7, cr8, cr9, cr10]) rfl ⟨A1, c1, none, 0, rfl, HO9.out.2.1, ownP_nil _ _, HO9.out.2.2⟩
  rw [if_neg k3] at hv
  obtain ⟨rfl, rfl, rfl⟩ : rr = (⟨f, t, i, ⟨p, q, l, wt, fl⟩, gm, gp, gl⟩, []) ∧ rt = str xb ∧ rg = true := by simpa using hv
  have k4 : kd = 4 := by omega
  subst k4
  clear hk1 hk4 k1 n1 k2 n2 k3 hv
  have hS : ∀ U, (EX W U (W.heap.size + 2) ⟨f, t, i, ⟨p, q, l, wt, fl⟩, gm, gp, gl⟩ A1 c1 ∧ U.heap[W.heap.size + 1]? = some (.cells (pca ⟨4, xf, xt, xi, xp, xs, xb⟩) 90 (0, 0))) → ((((U.cell? ⟨W.heap.size + 2, 0, none⟩ = some (.int .i64 f) ∧ U.cell? ⟨W.heap.size + 2, 1, none⟩ = some (.int .i64 t) ∧ U.cell? ⟨W.heap.size + 2, 2, none⟩ = some (.int .i64 i) ∧ U.cell? ⟨W.heap.size + 2, 3, none⟩ = some (.int .i64 p) ∧ U.cell? ⟨W.heap.size + 2, 4, none⟩ = some (.int .i64 q) ∧ U.cell? ⟨W.heap.size + 2, 5, none⟩ = some (.slice A1 l.length c1) ∧ U.cell? ⟨W.heap.size + 2, 6, none⟩ = some (.int .i64 wt) ∧ U.cell? ⟨W.heap.size + 2, 7, none⟩ = some (.int .i64 fl) ∧ U.cell? ⟨W.heap.size + 2, 8, none⟩ = some (.int .i64 gm) ∧ U.cell? ⟨W.heap.size + 2, 9, none⟩ = some (.int .i64 gp) ∧ U.cell? ⟨W.heap.size + 2, 10, none⟩ = some (.int .i64 gl)) ∧ U.cell? ⟨W.heap.size + 1, 6, none⟩ = some (.string (str xb))) ∧ (U.frozen? ⟨W.heap.size + 2, 0, none⟩ = false ∧ U.frozen? ⟨W.heap.size + 2, 1, none⟩ = false ∧ U.frozen? ⟨W.heap.size + 2, 2, none⟩ = false ∧ U.frozen? ⟨W.heap.size + 2, 3, none⟩ = false ∧ U.frozen? ⟨W.heap.size + 2, 4, none⟩ = false ∧ U.frozen? ⟨W.heap.size + 2, 5, none⟩ = false ∧ U.frozen? ⟨W.heap.size + 2, 6, none⟩ = false ∧ U.frozen? ⟨W.heap.size + 2, 7, none⟩ = false ∧ U.frozen? ⟨W.heap.size + 2, 8, none⟩ = false ∧ U.frozen? ⟨W.heap.size + 2, 9, none⟩ = false ∧ U.frozen? ⟨W.heap.size + 2, 10, none⟩ = false)) ∧ (EX W U (W.heap.size + 2) ⟨f, t, i, ⟨p, q, l, wt, fl⟩, gm, gp, gl⟩ A1 c1 ∧ U.heap[W.heap.size + 1]? = some (.cells (pca ⟨4, xf, xt, xi, xp, xs, xb⟩) 90 (0, 0)))) := fun U h => ⟨⟨⟨(eleven_cells h.1.1).1, (seven_cells h.2).1.2.2.2.2.2.2⟩, (eleven_cells h.1.1).2⟩, h⟩
  go_upto_region 13 with (fail)
  have hk0 : EX W w5.drew (W.heap.size + 2) ⟨f, t, i, ⟨p, q, l, wt, fl⟩, gm, gp, gl⟩ A1 c1 ∧ w5.drew.heap[W.heap.size + 1]? = some (.cells (pca ⟨4, xf, xt, xi, xp, xs, xb⟩) 90 (0, 0)) := ⟨HS.out.keep (below_drew (Below.refl _ _)), keep0 HY.out (below_drew (Below.refl _ _))⟩
  have hk8 : EX W (put11 w5.drew (W.heap.size + 2) (.int .i64 f) (.int .i64 t) (.int .i64 i) (.int .i64 p) (.int .i64 q) (.slice A1 l.length c1) (.int .i64 wt) (.int .i64 fl) (.int .i64 gm) (.int .i64 gp) (.int .i64 gl)) (W.heap.size + 2) ⟨f, t, i, ⟨p, q, l, wt, fl⟩, gm, gp, gl⟩ A1 c1 ∧ (put11 w5.drew (W.heap.size + 2) (.int .i64 f) (.int .i64 t) (.int .i64 i) (.int .i64 p) (.int .i64 q) (.slice A1 l.length c1) (.int .i64 wt) (.int .i64 fl) (.int .i64 gm) (.int .i64 gp) (.int .i64 gl)).heap[W.heap.size + 1]? = some (.cells (pca ⟨4, xf, xt, xi, xp, xs, xb⟩) 90 (0, 0)) := ⟨EX.new (e := ⟨f, t, i, ⟨p, q, l, wt, fl⟩, gm, gp, gl⟩) hk0.1.1 hk0.1.2.1 hk0.1.2.2 (by omega), (put11_other (w := w5.drew) (b := W.heap.size + 2) (g := W.heap.size + 1) (by omega) (.int .i64 f) (.int .i64 t) (.int .i64 i) (.int .i64 p) (.int .i64 q) (.slice A1 l.length c1) (.int .i64 wt) (.int .i64 fl) (.int .i64 gm) (.int .i64 gp) (.int .i64 gl)).trans hk0.2⟩
  have HO9 := hid hk8.1
  have hz9 := hk8.1.1
  simp only [put11] at hz9 HO9 hk8
  clear cp0 cp1 cp2 cp3 cp4 cp5 cp6 cp7 cp8 cp9 cp10 cg0 cg1 cg2 cg3 cg4 cg5 cg6 cg7 cg8 cg9 cg10 zq0 zq1 zq2 zq3 zq4 zq5 zq6 zq7 zq8 zq9 zq10
  obtain ⟨_, ⟨cg0, cg1, cg2, cg3, cg4, cg5, cg6, cg7, cg8, cg9, cg10⟩⟩ := eleven_cells hk0.1.1
  refine wp_region_held_drew (S := fun U => (((U.cell? ⟨W.heap.size + 2, 0, none⟩ = some (.int .i64 f) ∧ U.cell? ⟨W.heap.size + 2, 1, none⟩ = some (.int .i64 t) ∧ U.cell? ⟨W.heap.size + 2, 2, none⟩ = some (.int .i64 i) ∧ U.cell? ⟨W.heap.size + 2, 3, none⟩ = some (.int .i64 p) ∧ U.cell? ⟨W.heap.size + 2, 4, none⟩ = some (.int .i64 q) ∧ U.cell? ⟨W.heap.size + 2, 5, none⟩ = some (.slice A1 l.length c1) ∧ U.cell? ⟨W.heap.size + 2, 6, none⟩ = some (.int .i64 wt) ∧ U.cell? ⟨W.heap.size + 2, 7, none⟩ = some (.int .i64 fl) ∧ U.cell? ⟨W.heap.size + 2, 8, none⟩ = some (.int .i64 gm) ∧ U.cell? ⟨W.heap.size + 2, 9, none⟩ = some (.int .i64 gp) ∧ U.cell? ⟨W.heap.size + 2, 10, none⟩ = some (.int .i64 gl)) ∧ U.cell? ⟨W.heap.size + 1, 6, none⟩ = some (.string (str xb))) ∧ (U.frozen? ⟨W.heap.size + 2, 0, none⟩ = false ∧ U.frozen? ⟨W.heap.size + 2, 1, none⟩ = false ∧ U.frozen? ⟨W.heap.size + 2, 2, none⟩ = false ∧ U.frozen? ⟨W.heap.size + 2, 3, none⟩ = false ∧ U.frozen? ⟨W.heap.size + 2, 4, none⟩ = false ∧ U.frozen? ⟨W.heap.size + 2, 5, none⟩ = false ∧ U.frozen? ⟨W.heap.size + 2, 6, none⟩ = false ∧ U.frozen? ⟨W.heap.size + 2, 7, none⟩ = false ∧ U.frozen? ⟨W.heap.size + 2, 8, none⟩ = false ∧ U.frozen? ⟨W.heap.size + 2, 9, none⟩ = false ∧ U.frozen? ⟨W.heap.size + 2, 10, none⟩ = false)) ∧ (EX W U (W.heap.size + 2) ⟨f, t, i, ⟨p, q, l, wt, fl⟩, gm, gp, gl⟩ A1 c1 ∧ U.heap[W.heap.size + 1]? = some (.cells (pca ⟨4, xf, xt, xi, xp, xs, xb⟩) 90 (0, 0)))) (by kernel_rfl) (hS _ hk0) (fun hHeld => ?_)
  generalize w5.drew = k0 at *
  refine tkA 0 ?_ rfl ?_ (by assumption) ?_; rotate_left; focus (intro U hU; (try dsimp only at hU); go_simp; try (with_reducible rfl))
  simp only [gt6, Act.put]
  refine tkA 1 ?_ rfl ?_ (by assumption) ?_; rotate_left; focus (intro U hU; (try dsimp only at hU); go_simp; try (with_reducible rfl))
  simp only [gt6, Act.put]
  refine tkA 2 ?_ rfl ?_ (by assumption) ?_; rotate_left; focus (intro U hU; (try dsimp only at hU); go_simp; try (with_reducible rfl))
  simp only [gt6, Act.put]
  refine wpAnyH_ready (rs := [3]) (by kernel_rfl) (by simp) ?_
  refine AllReadyH.cons rfl (fun K hK => ?_) AllReadyH.nil
  simp only [gt3]
  go_simp
  refine hK.out _ _ ?_ (fun hHeld2 => ?_)
  focus
    exact hS _ hk8
  clear hHeld
  have hHeld := hHeld2
  clear hHeld2 hK K
  try simp only [gt6, Act.put]
  refine tkA 4 ?_ rfl ?_ (by assumption) ?_; rotate_left; focus (intro U hU; (try dsimp only at hU); go_simp; try (with_reducible rfl))
  simp only [gt6, Act.put]
  refine tkA 5 ?_ rfl ?_ (by assumption) ?_; rotate_left; focus (intro U hU; (try dsimp only at hU); go_simp; try (with_reducible rfl))
  simp only [gt6, Act.put]
  refine tkA 6 ?_ rfl ?_ (by assumption) ?_; rotate_left; focus (intro U hU; (try dsimp only at hU); go_simp; try (with_reducible rfl))
  simp only [gt6, Act.put]
  refine wpAnyH_done (by kernel_rfl) ?_ _
  obtain ⟨⟨cr0, cr1, cr2, cr3, cr4, cr5, cr6, cr7, cr8, cr9, cr10⟩, _⟩ := eleven_cells hz9
  clear hz9 hk0 hk8 hHeld hS
  go_wp2_with fail
  exact bodyPost_ret (v := .tuple #[.agg #[.int .i64 f, .int .i64 t, .int .i64 i, .int .i64 p, .int .i64 q, .slice A1 l.length c1, .int .i64 wt, .int .i64 fl, .int .i64 gm, .int .i64 gp, .int .i64 gl], .string (str xb), .bool true, .slice none 0 0]) (by simp [results, Tryz.results35, go_sem, cr0, cr1, cr2, cr3, cr4, cr5, cr6, cr7, cr8, cr9, cr10]) rfl ⟨A1, c1, none, 0, rfl, HO9.out.2.1, ownP_nil _ _, HO9.out.2.2⟩
end Go.Proofs.YtdphdodjidbngaaGreat

namespace Go.Proofs.YtdphdodjidbngaaGreat
open Go.RowKit Go.Sort
set_option linter.unusedVariables false
set_option linter.unusedSimpArgs false

def newE (f t i : Int) : Ev := ⟨f, t, i, ⟨1, 1, [], 1, 0⟩, i, 1, 0⟩

set_option maxRecDepth 20000 in
set_option maxHeartbeats 4000000 in
theorem lnew_any (f t i : Int) (W : World) : Calls Tryz.prog 46 #[.int .i64 f, .int .i64 t, .int .i64 i] W fun x w' => x = .returned (.agg (ec (newE f t i) none 0)) ∧ Below W.heap.size W w' := by
  go_enter Tryz.func46, Tryz.ntmps46
  go_upto_region 1 with (fail)
  refine at_world (fun u => u.heap[W.heap.size]? = some (.cells ez 71 (0, 0)) ∧ Below W.heap.size W u) ⟨heap_alloc_new _ _, (Below.refl _ _).alloc (Nat.le_refl _) _⟩ ?_
  rintro w1 ⟨hz1, hb1⟩
  have HZ1 := hid hz1
  have HB1 := hid hb1
  clear hz1 hb1
  go_wp2_with fail
  refine (onew_any _).mono ?_
  rintro e w2 ⟨rfl, hb2⟩
  simp only [oc, List.length_nil]
  have HZ2 := hid (keep0 HZ1.out hb2)
  have HB2 := hid (HB1.out.trans (hb2.mono HB1.out.size))
  clear HZ1 HB1 hb2
  go_wp2_with fail
  refine (snew_any _ _).mono ?_
  rintro e w3 ⟨rfl, hb3⟩
  have hz3 := keep0 HZ2.out hb3
  have HB3 := hid (put11_below (HB2.out.trans (hb3.mono HB2.out.size)) (Nat.le_refl _) (.int .i64 f) (.int .i64 t) (.int .i64 i) (.int .i64 1) (.int .i64 1) (.slice none 0 0) (.int .i64 1) (.int .i64 0) (.int .i64 i) (.int .i64 1) (.int .i64 0))
  have hz9 := put11_heap hz3 (.int .i64 f) (.int .i64 t) (.int .i64 i) (.int .i64 1) (.int .i64 1) (.slice none 0 0) (.int .i64 1) (.int .i64 0) (.int .i64 i) (.int .i64 1) (.int .i64 0)
  obtain ⟨_, ⟨cg0, cg1, cg2, cg3, cg4, cg5, cg6, cg7, cg8, cg9, cg10⟩⟩ := eleven_cells hz3
  simp only [put11] at hz9 HB3
  obtain ⟨⟨cr0, cr1, cr2, cr3, cr4, cr5, cr6, cr7, cr8, cr9, cr10⟩, _⟩ := eleven_cells hz9
  clear HZ2 HB2 hb3 hz3 hz9
  go_wp2
  exact bodyPost_ret (v := .agg #[.int .i64 f, .int .i64 t, .int .i64 i, .int .i64 1, .int .i64 1, .slice none 0 0, .int .i64 1, .int .i64 0, .int .i64 i, .int .i64 1, .int .i64 0]) (by simp [results, Tryz.results46, go_sem, cr0, cr1, cr2, cr3, cr4, cr5, cr6, cr7, cr8, cr9, cr10]) rfl ⟨rfl, HB3.out⟩

end Go.Proofs.YtdphdodjidbngaaGreat

namespace Go.Proofs.YtdphdodjidbngaaGreat
end Go.Proofs.YtdphdodjidbngaaGreat

