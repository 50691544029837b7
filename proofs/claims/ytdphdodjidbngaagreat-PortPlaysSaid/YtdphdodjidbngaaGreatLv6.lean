/- The document's end: Take of an Ack: contract. -/
import Derived.Test.YtdphdodjidbngaaGreatLv5
namespace Go.Proofs.YtdphdodjidbngaaGreat
open Go.RowKit Go.Sort
set_option linter.unusedVariables false
set_option linter.unusedSimpArgs false
theorem info_rpk : (Tryz.prog.info? 30).map (fun i => (i.zero, i.size, i.bytes)) = some (some (.agg #[.int .i64 0, .int .i64 0, .int .i64 0, .int .i64 0, .int .i64 0, .int .i64 0, .string ⟨#[]⟩]), 7, 64) := by kernel_rfl

set_option maxRecDepth 20000 in
set_option maxHeartbeats 4000000 in
theorem r26take_2y (f t i p q : Int) (l : List (List UInt8)) (wt fl gm gp gl : Int) (kd xf xt xi xp xs : Int) (xb : List UInt8) (A : Option Addr) (c : Nat) (W : World) (h : Sl W 1 A l.length c (scells l)) (hk : okP kd xf xt xi xp xs xb = true) (h1 : xf = t) (h2 : xt = f) (h3 : ¬ xi < gp) (h4 : kd = 2) (h5 : xp = i) (hle : l.length ≤ 1000) (hq : q < 9223372036854775807) (hq0 : -9223372036854775808 ≤ q) :
    Calls Tryz.prog 37 #[.agg #[.int .i64 f, .int .i64 t, .int .i64 i, .int .i64 p, .int .i64 q, .slice A l.length c, .int .i64 wt, .int .i64 fl, .int .i64 gm, .int .i64 gp, .int .i64 gl], .agg #[.int .i64 kd, .int .i64 xf, .int .i64 xt, .int .i64 xi, .int .i64 xp, .int .i64 xs, .string (str xb)]] W (RTook (ackE ⟨f, t, i, ⟨p, q, l, wt, fl⟩, gm, gp, gl⟩ ⟨kd, xf, xt, xi, xp, xs, xb⟩) ⟨#[]⟩ false W) := by
  have HS := hid h
  have HCK := hid (fun w => rcheck_any kd xf xt xi xp xs (str xb) w)
  rw [str_list] at HCK
  have HLE := hid hle
  have HQ := hid (And.intro hq hq0)
  rw [hk] at HCK
  have b1 : (xf != t) = false := by simpa using h1
  have b2 : (xt != f) = false := by simpa using h2
  have b3 : decide (xi < gp) = false := decide_eq_false h3
  have b4 : (kd == 4) = false := by simp; omega
  have b5 : (kd == 3) = false := by simp; omega
  have b6 : (kd == 2) = true := by simpa using h4
  have b7 : (xp != i) = false := by simpa using h5
  clear h hk h1 h2 h4 h5 hle hq hq0
  go_enter Tryz.func37, Tryz.ntmps37
  go_upto_region 1 with (fail)
  refine at_world (fun u => u.heap[W.heap.size]? = some (.cells #[.int .i64 f, .int .i64 t, .int .i64 i, .int .i64 p, .int .i64 q, .slice A l.length c, .int .i64 wt, .int .i64 fl, .int .i64 gm, .int .i64 gp, .int .i64 gl] 82 (0, 0)) ∧ u.heap[W.heap.size + 1]? = some (.cells #[.int .i64 kd, .int .i64 xf, .int .i64 xt, .int .i64 xi, .int .i64 xp, .int .i64 xs, .string (str xb)] 30 (0, 0)) ∧ u.heap[W.heap.size + 2]? = some (.cells #[.int .i64 0, .int .i64 0, .int .i64 0, .int .i64 0, .int .i64 0, .slice none 0 0, .int .i64 0, .int .i64 0, .int .i64 0, .int .i64 0, .int .i64 0, .string ⟨#[]⟩, .bool false, .slice none 0 0] 100 (0, 0)) ∧ Below W.heap.size W u) (al3 _ _ _ _) ?_
  rintro w1 ⟨hx, hy, hz, hb⟩
  obtain ⟨⟨y0, y1, y2, y3, y4, y5, y6⟩, _⟩ := seven_cells hy
  have HX1 := hid hx
  have HY1 := hid hy
  have HZ1 := hid hz
  have HB1 := hid hb
  clear hx hy hz hb
  go_wp2_with fail
  refine (HCK.out _).mono ?_
  rintro e w5 ⟨rfl, hb5⟩
  have HX := hid (keep0 HX1.out hb5)
  have HY := hid (keep0 HY1.out hb5)
  have HZ := hid (keep0 HZ1.out hb5)
  have HB := hid (HB1.out.trans (hb5.mono HB1.out.size))
  clear y0 y1 y2 y3 y4 y5 y6 HX1 HY1 HZ1 HB1 hb5 HCK
  obtain ⟨⟨x0, x1, x2, x3, x4, x5, x6, x7, x8, x9, x10⟩, _⟩ := eleven_cells HX.out
  obtain ⟨⟨y0, y1, y2, y3, y4, y5, y6⟩, _⟩ := seven_cells HY.out
  have HLR := hid (r26learn_ex ⟨f, t, i, ⟨p, q, l, wt, fl⟩, gm, gp, gl⟩ xi A c w5 (HS.out.below HB.out) HLE.out)
  have HLL : Hid ((lrnE ⟨f, t, i, ⟨p, q, l, wt, fl⟩, gm, gp, gl⟩ xi).1.o.l = l) := hid (lrnV_l _ _)
  have HQ2 : Hid ((lrnE ⟨f, t, i, ⟨p, q, l, wt, fl⟩, gm, gp, gl⟩ xi).1.o.q = q ∨ (lrnE ⟨f, t, i, ⟨p, q, l, wt, fl⟩, gm, gp, gl⟩ xi).1.o.q = 1) := hid (lrnV_q _ _)
  have HD2 : Hid ((lrnE ⟨f, t, i, ⟨p, q, l, wt, fl⟩, gm, gp, gl⟩ xi).2.length ≤ 1) := hid (dataV_len _ _)
  obtain ⟨rv, hrv⟩ : ∃ rv, lrnE ⟨f, t, i, ⟨p, q, l, wt, fl⟩, gm, gp, gl⟩ xi = rv := ⟨_, rfl⟩
  have HLX := hid hrv
  rw [hrv] at HLR HLL HQ2 HD2
  clear hrv
  obtain ⟨⟨f2, t2, i2, ⟨p2, q2, l2, wt2, fl2⟩, gm2, gp2, gl2⟩, L⟩ := rv
  obtain rfl : l2 = l := HLL.out
  simp only at HQ2 HD2
  simp only [ec] at HLR
  go_wp2_with fail
  refine HLR.out.mono ?_
  rintro e w6 ⟨B2, d2, rfl, hP6, hb6⟩
  simp only [ec]
  have hz6 := keep0 HZ.out hb6
  have hy6 := keep0 HY.out hb6
  have hb7 := HB.out.trans (hb6.mono HB.out.size)
  have hP7 := own_mono hP6 HB.out.size
  clear x0 x1 x2 x3 x4 x5 x6 x7 x8 x9 x10 y0 y1 y2 y3 y4 y5 y6 HX HY HZ HB hb6 hP6 HLR HLL
  go_upto_region 14 with (fail)
  have hbn : Below w6.heap.size w6 (w6.alloc (.cells (ec ⟨f2, t2, i2, ⟨p2, q2, l2, wt2, fl2⟩, gm2, gp2, gl2⟩ A c) 82)) := (Below.refl _ _).alloc (Nat.le_refl _) _
  refine at_world (fun u => u.heap[w6.heap.size]? = some (.cells (ec ⟨f2, t2, i2, ⟨p2, q2, l2, wt2, fl2⟩, gm2, gp2, gl2⟩ A c) 82 (0, 0)) ∧ u.heap[W.heap.size + 1]? = some (.cells #[.int .i64 kd, .int .i64 xf, .int .i64 xt, .int .i64 xi, .int .i64 xp, .int .i64 xs, .string (str xb)] 30 (0, 0)) ∧ u.heap[W.heap.size + 2]? = some (.cells #[.int .i64 0, .int .i64 0, .int .i64 0, .int .i64 0, .int .i64 0, .slice none 0 0, .int .i64 0, .int .i64 0, .int .i64 0, .int .i64 0, .int .i64 0, .string ⟨#[]⟩, .bool false, .slice none 0 0] 100 (0, 0)) ∧ OwnR W u (.slice B2 L.length d2) L ∧ Below W.heap.size W u) ⟨heap_alloc_new _ _, keep0 hy6 hbn, keep0 hz6 hbn, own_keep hP7 hbn, hb7.trans (hbn.mono hb7.size)⟩ ?_
  have hTW : W.heap.size + 2 < w6.heap.size := lt_of_block hz6
  clear hy6 hz6 hP7 hb7 hbn
  generalize w6.heap.size = Tb at *
  rintro w7 ⟨ht, hy, hz, hP, hb⟩
  have HAK := hid (r24acked_ex ⟨p2, q2, l2, wt2, fl2⟩ xi xs A c w7 (HS.out.below hb) HLE.out (show q2 < 9223372036854775807 by have := HQ2.out; have := HQ.out; omega) (show -9223372036854775808 ≤ q2 by have := HQ2.out; have := HQ.out; omega))
  have HNV := hid (ackV_ne ⟨p2, q2, l2, wt2, fl2⟩ xi xs)
  have HR : Hid (ackE ⟨f, t, i, ⟨p, q, l2, wt, fl⟩, gm, gp, gl⟩ ⟨kd, xf, xt, xi, xp, xs, xb⟩ = (setO ⟨f2, t2, i2, ⟨p2, q2, l2, wt2, fl2⟩, gm2, gp2, gl2⟩ (ackV ⟨p2, q2, l2, wt2, fl2⟩ xi xs).1, L ++ dataV (setO ⟨f2, t2, i2, ⟨p2, q2, l2, wt2, fl2⟩, gm2, gp2, gl2⟩ (ackV ⟨p2, q2, l2, wt2, fl2⟩ xi xs).1) (ackV ⟨p2, q2, l2, wt2, fl2⟩ xi xs).2)) := hid (by unfold ackE; rw [HLX.out])
  simp only [setO] at HR
  generalize ackV ⟨p2, q2, l2, wt2, fl2⟩ xi xs = av at *
  obtain ⟨⟨p3, q3, l3, wt3, fl3⟩, b3⟩ := av
  simp only at HR
  simp only [oc] at HAK
  obtain ⟨⟨x0, x1, x2, x3, x4, x5, x6, x7, x8, x9, x10⟩, _⟩ := eleven_cells ht
  obtain ⟨⟨y0, y1, y2, y3, y4, y5, y6⟩, _⟩ := seven_cells hy
  have HT := hid ht
  have HZ := hid hz
  have HP := hid hP
  have HB := hid hb
  clear ht hy hz hP hb
  go_wp2_with fail
  refine HAK.out.mono ?_
  rintro e w8 ⟨A3, c3, rfl, hr3, hb8⟩
  simp only [oc]
  have HR3 := hid (fun V (hV : Below W.heap.size W V) => hr3 V (HS.out.below hV))
  have ht8 := keep0 HT.out hb8
  have hz8 := keep0 HZ.out hb8
  have hP8 := own_keep HP.out hb8
  have hB8 := HB.out.trans (hb8.mono HB.out.size)
  clear x0 x1 x2 x3 x4 x5 x6 x7 x8 x9 x10 y0 y1 y2 y3 y4 y5 y6 HT HZ HP HB hb8 hr3 HAK
  go_upto_region 15 with (fail)
  have hbn : Below w8.heap.size w8 (w8.alloc (.cells (oc ⟨p3, q3, l3, wt3, fl3⟩ A3 c3) 79)) := (Below.refl _ _).alloc (Nat.le_refl _) _
  refine at_world (fun u => u.heap[w8.heap.size]? = some (.cells (oc ⟨p3, q3, l3, wt3, fl3⟩ A3 c3) 79 (0, 0)) ∧ u.heap[Tb]? = some (.cells (ec ⟨f2, t2, i2, ⟨p2, q2, l2, wt2, fl2⟩, gm2, gp2, gl2⟩ A c) 82 (0, 0)) ∧ u.heap[W.heap.size + 2]? = some (.cells #[.int .i64 0, .int .i64 0, .int .i64 0, .int .i64 0, .int .i64 0, .slice none 0 0, .int .i64 0, .int .i64 0, .int .i64 0, .int .i64 0, .int .i64 0, .string ⟨#[]⟩, .bool false, .slice none 0 0] 100 (0, 0)) ∧ OwnR W u (.slice B2 L.length d2) L ∧ Below W.heap.size W u) ⟨heap_alloc_new _ _, keep0 ht8 hbn, keep0 hz8 hbn, own_keep hP8 hbn, hB8.trans (hbn.mono hB8.size)⟩ ?_
  clear ht8 hz8 hP8 hB8 hbn
  generalize w8.heap.size = To at *
  rintro w8a ⟨ho, ht, hz, hP, hb⟩
  obtain ⟨⟨z0, z1, z2, z3, z4⟩, _⟩ := five_cells ho
  obtain ⟨_, ⟨cg0, cg1, cg2, cg3, cg4, cg5, cg6, cg7, cg8, cg9, cg10⟩⟩ := eleven_cells ht
  have hey := EY.out (u' := ((((w8a.setCell ⟨Tb, 3, none⟩ (.int .i64 p3)).setCell ⟨Tb, 4, none⟩ (.int .i64 q3)).setCell ⟨Tb, 5, none⟩ (.slice A3 l3.length c3)).setCell ⟨Tb, 6, none⟩ (.int .i64 wt3)).setCell ⟨Tb, 7, none⟩ (.int .i64 fl3)) (o' := ⟨p3, q3, l3, wt3, fl3⟩) ht (HR3.out w8a hb) hb (show W.heap.size ≤ Tb by omega) rfl
  have hot : ∀ g, g ≠ Tb → (((((w8a.setCell ⟨Tb, 3, none⟩ (.int .i64 p3)).setCell ⟨Tb, 4, none⟩ (.int .i64 q3)).setCell ⟨Tb, 5, none⟩ (.slice A3 l3.length c3)).setCell ⟨Tb, 6, none⟩ (.int .i64 wt3)).setCell ⟨Tb, 7, none⟩ (.int .i64 fl3)).heap[g]? = w8a.heap[g]? := fun g hg => by rw [Below.heap_setCell _ _ _ _ hg, Below.heap_setCell _ _ _ _ hg, Below.heap_setCell _ _ _ _ hg, Below.heap_setCell _ _ _ _ hg, Below.heap_setCell _ _ _ _ hg]
  have HT := hid hey.1
  have HB := hid hey.2.2
  have HZ := hid ((hot (W.heap.size + 2) (by omega)).trans hz)
  have HP := hid (own_at hP ht (by decide) hot)
  clear ho ht hz hP hb hey hot
  go_upto_region 16 with (fail)
  refine at_world (fun u => u.heap[Tb]? = some (.cells (ec ⟨f2, t2, i2, ⟨p3, q3, l3, wt3, fl3⟩, gm2, gp2, gl2⟩ A3 c3) 82 (0, 0)) ∧ u.heap[W.heap.size + 2]? = some (.cells #[.int .i64 0, .int .i64 0, .int .i64 0, .int .i64 0, .int .i64 0, .slice none 0 0, .int .i64 0, .int .i64 0, .int .i64 0, .int .i64 0, .int .i64 0, .string ⟨#[]⟩, .bool false, .slice none 0 0] 100 (0, 0)) ∧ OwnR W u (.slice B2 L.length d2) L ∧ Below W.heap.size W u) ⟨HT.out, HZ.out, HP.out, HB.out⟩ ?_
  clear z0 z1 z2 z3 z4 cg0 cg1 cg2 cg3 cg4 cg5 cg6 cg7 cg8 cg9 cg10 HT HZ HP HB
  rintro w9 ⟨ht, hz, hP, hb⟩
  have HDA := hid (data26_any ⟨f2, t2, i2, ⟨p3, q3, l3, wt3, fl3⟩, gm2, gp2, gl2⟩ b3 HNV.out A3 c3 w9 (HR3.out w9 hb))
  have HDL : Hid ((dataV ⟨f2, t2, i2, ⟨p3, q3, l3, wt3, fl3⟩, gm2, gp2, gl2⟩ b3).length ≤ 1) := hid (dataV_len _ _)
  generalize dataV ⟨f2, t2, i2, ⟨p3, q3, l3, wt3, fl3⟩, gm2, gp2, gl2⟩ b3 = D at *
  simp only [ec] at HDA
  obtain ⟨⟨x0, x1, x2, x3, x4, x5, x6, x7, x8, x9, x10⟩, _⟩ := eleven_cells ht
  have HT := hid ht
  have HZ := hid hz
  have HP := hid hP
  have HB := hid hb
  clear ht hz hP hb
  go_wp2_with fail
  refine HDA.out.mono ?_
  rintro e w10 ⟨B4, d4, rfl, hP4, hb10⟩
  have HT2 := hid (keep0 HT.out hb10)
  have HZ2 := hid (keep0 HZ.out hb10)
  have HP2 := hid (own_keep HP.out hb10)
  have hB2 := HB.out.trans (hb10.mono HB.out.size)
  have HB2 := hid hB2
  have hsl4 := sl_own hP4
  have hle := hB2.size
  have hl1 : L.length ≤ 1 := HD2.out
  have hl2 : D.length ≤ 1 := HDL.out
  clear x0 x1 x2 x3 x4 x5 x6 x7 x8 x9 x10 HT HZ HP HB hP4 hb10 hB2 HDA
  go_wp2_with (at_builtin; refine wpList_append_mid rfl (.tmp 99) (.tmp 102) 83 rfl W.heap.size 30 Tryz.underlying83 info_rpk rfl (by omega) rfl (Mid.of_own HP2.out) rfl hsl4 (pkc_one _) (by show L.length + D.length ≤ _; unfold maxLen; omega) (by show (L.length + D.length) * 64 ≤ _; omega) hle HB2.out ?_)
  intro v11 w11 hM hb hsz11 hk11
  obtain ⟨B5, d5, rfl, _⟩ := Mid.form hM
  have ht := (hk11 Tb (lt_of_block HT2.out) (own_blk_ne HP2.out HT2.out (by decide))).trans HT2.out
  have hz := (hk11 (W.heap.size + 2) (lt_of_block HZ2.out) (own_blk_ne HP2.out HZ2.out (by decide))).trans HZ2.out
  clear HT2 HZ2 HP2 HB2 hsz11 hk11 hsl4 hle
  go_upto_region 17 with (fail)
  refine at_world (fun u => u.heap[Tb]? = some (.cells (ec ⟨f2, t2, i2, ⟨p3, q3, l3, wt3, fl3⟩, gm2, gp2, gl2⟩ A3 c3) 82 (0, 0)) ∧ u.heap[W.heap.size + 2]? = some (.cells #[.int .i64 0, .int .i64 0, .int .i64 0, .int .i64 0, .int .i64 0, .slice none 0 0, .int .i64 0, .int .i64 0, .int .i64 0, .int .i64 0, .int .i64 0, .string ⟨#[]⟩, .bool false, .slice none 0 0] 100 (0, 0)) ∧ Mid u W.heap.size 30 7 (.slice B5 (L.length + D.length) d5) (L.length + D.length) (gcells pkc L ++ gcells pkc D) ∧ Below W.heap.size W u) ⟨ht, hz, hM, hb⟩ ?_
  clear ht hz hM hb
  rintro w12 ⟨ht, hz, hM, hb⟩
  obtain ⟨⟨x0, x1, x2, x3, x4, x5, x6, x7, x8, x9, x10⟩, _⟩ := eleven_cells ht
  obtain ⟨_, ⟨g0, g1, g2, g3, g4, g5, g6, g7, g8, g9, g10, g11, g12, g13⟩⟩ := fourteen_cells hz
  obtain ⟨⟨r0, r1, r2, r3, r4, r5, r6, r7, r8, r9, r10, r11, r12, r13⟩, _⟩ := fourteen_cells (put14_heap hz (.int .i64 f2) (.int .i64 t2) (.int .i64 i2) (.int .i64 p3) (.int .i64 q3) (.slice A3 l3.length c3) (.int .i64 wt3) (.int .i64 fl3) (.int .i64 gm2) (.int .i64 gp2) (.int .i64 gl2) (.string ⟨#[]⟩) (.bool false) (.slice B5 (L.length + D.length) d5))
  have HB9 := hid (put14_below hb (show W.heap.size ≤ W.heap.size + 2 by omega) (.int .i64 f2) (.int .i64 t2) (.int .i64 i2) (.int .i64 p3) (.int .i64 q3) (.slice A3 l3.length c3) (.int .i64 wt3) (.int .i64 fl3) (.int .i64 gm2) (.int .i64 gp2) (.int .i64 gl2) (.string ⟨#[]⟩) (.bool false) (.slice B5 (L.length + D.length) d5))
  have HP9 := hid (Mid.sl (hM.only hz (by decide) fun g hg _ => put14_other hg (.int .i64 f2) (.int .i64 t2) (.int .i64 i2) (.int .i64 p3) (.int .i64 q3) (.slice A3 l3.length c3) (.int .i64 wt3) (.int .i64 fl3) (.int .i64 gm2) (.int .i64 gp2) (.int .i64 gl2) (.string ⟨#[]⟩) (.bool false) (.slice B5 (L.length + D.length) d5)))
  simp only [put14] at r0 r1 r2 r3 r4 r5 r6 r7 r8 r9 r10 r11 r12 r13
  clear ht hz hb hM
  go_wp2
  exact bodyPost_ret (v := .agg (tkc ⟨f2, t2, i2, ⟨p3, q3, l3, wt3, fl3⟩, gm2, gp2, gl2⟩ A3 c3 ⟨#[]⟩ false B5 (L.length + D.length) d5)) (by simp [results, Tryz.results37, go_sem, tkc, r0, r1, r2, r3, r4, r5, r6, r7, r8, r9, r10, r11, r12, r13]) rfl (by rw [HR.out]; exact ⟨A3, c3, B5, d5, by rw [List.length_append], HR3.out _ HB9.out, by rw [List.length_append, gcells_append]; exact HP9.out, HB9.out⟩)
end Go.Proofs.YtdphdodjidbngaaGreat

namespace Go.Proofs.YtdphdodjidbngaaGreat
open Go.RowKit Go.Sort
set_option linter.unusedVariables false
set_option linter.unusedSimpArgs false
theorem three_cellsd {w : World} {b t : Nat} {x0 x1 x2 : Value} (h : w.heap[b]? = some (.cells #[x0, x1, x2] t (0, 0))) : w.cell? ⟨b, 0, none⟩ = some x0 ∧ w.cell? ⟨b, 1, none⟩ = some x1 ∧ w.cell? ⟨b, 2, none⟩ = some x2 :=
  ⟨by rw [cell_of_row w b 0 _ _ _ h]; rfl, by rw [cell_of_row w b 1 _ _ _ h]; rfl, by rw [cell_of_row w b 2 _ _ _ h]; rfl⟩

set_option maxRecDepth 20000 in
set_option maxHeartbeats 4000000 in
theorem r26take_1c0 (f t i p q : Int) (l : List (List UInt8)) (wt fl gm gp gl : Int) (kd xf xt xi xp xs : Int) (xb : List UInt8) (A : Option Addr) (c : Nat) (W : World) (h : Sl W 1 A l.length c (scells l)) (hk : okP kd xf xt xi xp xs xb = true) (h1 : xf = t) (h2 : xt = f) (h3 : ¬ xi < gp) (h4 : kd = 1) (hle : l.length ≤ 1000) (hgl : 0 ≤ gl ∧ gl ≤ 9223372036854775807) (hxs : -9223372036854775808 ≤ xs ∧ xs ≤ 9223372036854775807) (hcl : clsD ⟨f, t, i, ⟨p, q, l, wt, fl⟩, gm, gp, gl⟩ ⟨kd, xf, xt, xi, xp, xs, xb⟩ = 0) :
    Calls Tryz.prog 37 #[.agg #[.int .i64 f, .int .i64 t, .int .i64 i, .int .i64 p, .int .i64 q, .slice A l.length c, .int .i64 wt, .int .i64 fl, .int .i64 gm, .int .i64 gp, .int .i64 gl], .agg #[.int .i64 kd, .int .i64 xf, .int .i64 xt, .int .i64 xi, .int .i64 xp, .int .i64 xs, .string (str xb)]] W (RTook (datE ⟨f, t, i, ⟨p, q, l, wt, fl⟩, gm, gp, gl⟩ ⟨kd, xf, xt, xi, xp, xs, xb⟩) ⟨#[]⟩ false W) := by
  have HS := hid h
  have HCK := hid (fun w => rcheck_any kd xf xt xi xp xs (str xb) w)
  rw [str_list] at HCK
  have HLE := hid hle
  have HGL := hid hgl
  have HXS := hid hxs
  have HCL := hid hcl
  rw [hk] at HCK
  have b1 : (xf != t) = false := by simpa using h1
  have b2 : (xt != f) = false := by simpa using h2
  have b3 : decide (xi < gp) = false := decide_eq_false h3
  have b4 : (kd == 4) = false := by simp; omega
  have b5 : (kd == 3) = false := by simp; omega
  have b6 : (kd == 2) = false := by simp; omega
  clear h hk h1 h2 h4 hle hgl hxs hcl
  go_enter Tryz.func37, Tryz.ntmps37
  go_upto_region 1 with (fail)
  refine at_world (fun u => u.heap[W.heap.size]? = some (.cells #[.int .i64 f, .int .i64 t, .int .i64 i, .int .i64 p, .int .i64 q, .slice A l.length c, .int .i64 wt, .int .i64 fl, .int .i64 gm, .int .i64 gp, .int .i64 gl] 82 (0, 0)) ∧ u.heap[W.heap.size + 1]? = some (.cells #[.int .i64 kd, .int .i64 xf, .int .i64 xt, .int .i64 xi, .int .i64 xp, .int .i64 xs, .string (str xb)] 30 (0, 0)) ∧ u.heap[W.heap.size + 2]? = some (.cells #[.int .i64 0, .int .i64 0, .int .i64 0, .int .i64 0, .int .i64 0, .slice none 0 0, .int .i64 0, .int .i64 0, .int .i64 0, .int .i64 0, .int .i64 0, .string ⟨#[]⟩, .bool false, .slice none 0 0] 100 (0, 0)) ∧ Below W.heap.size W u) (al3 _ _ _ _) ?_
  rintro w1 ⟨hx, hy, hz, hb⟩
  obtain ⟨⟨y0, y1, y2, y3, y4, y5, y6⟩, _⟩ := seven_cells hy
  have HX1 := hid hx
  have HY1 := hid hy
  have HZ1 := hid hz
  have HB1 := hid hb
  clear hx hy hz hb
  go_wp2_with fail
  refine (HCK.out _).mono ?_
  rintro e w5 ⟨rfl, hb5⟩
  have HX := hid (keep0 HX1.out hb5)
  have HY := hid (keep0 HY1.out hb5)
  have HZ := hid (keep0 HZ1.out hb5)
  have HB := hid (HB1.out.trans (hb5.mono HB1.out.size))
  clear y0 y1 y2 y3 y4 y5 y6 HX1 HY1 HZ1 HB1 hb5 HCK
  obtain ⟨⟨x0, x1, x2, x3, x4, x5, x6, x7, x8, x9, x10⟩, _⟩ := eleven_cells HX.out
  obtain ⟨⟨y0, y1, y2, y3, y4, y5, y6⟩, _⟩ := seven_cells HY.out
  have HLR := hid (r26learn_ex ⟨f, t, i, ⟨p, q, l, wt, fl⟩, gm, gp, gl⟩ xi A c w5 (HS.out.below HB.out) HLE.out)
  have HLL : Hid ((lrnE ⟨f, t, i, ⟨p, q, l, wt, fl⟩, gm, gp, gl⟩ xi).1.o.l = l) := hid (lrnV_l _ _)
  have HQ2 : Hid ((lrnE ⟨f, t, i, ⟨p, q, l, wt, fl⟩, gm, gp, gl⟩ xi).1.o.q = q ∨ (lrnE ⟨f, t, i, ⟨p, q, l, wt, fl⟩, gm, gp, gl⟩ xi).1.o.q = 1) := hid (lrnV_q _ _)
  have HD2 : Hid ((lrnE ⟨f, t, i, ⟨p, q, l, wt, fl⟩, gm, gp, gl⟩ xi).2.length ≤ 1) := hid (dataV_len _ _)
  obtain ⟨rv, hrv⟩ : ∃ rv, lrnE ⟨f, t, i, ⟨p, q, l, wt, fl⟩, gm, gp, gl⟩ xi = rv := ⟨_, rfl⟩
  have HLX := hid hrv
  rw [hrv] at HLR HLL HQ2 HD2
  clear hrv
  obtain ⟨⟨f2, t2, i2, ⟨p2, q2, l2, wt2, fl2⟩, gm2, gp2, gl2⟩, L⟩ := rv
  obtain rfl : l2 = l := HLL.out
  simp only at HQ2 HD2
  simp only [ec] at HLR
  go_wp2_with fail
  refine HLR.out.mono ?_
  rintro e w6 ⟨B2, d2, rfl, hP6, hb6⟩
  simp only [ec]
  have hz6 := keep0 HZ.out hb6
  have hx6 := keep0 HX.out hb6
  have hy6 := keep0 HY.out hb6
  have hb7 := HB.out.trans (hb6.mono HB.out.size)
  have hP7 := own_mono hP6 HB.out.size
  clear x0 x1 x2 x3 x4 x5 x6 x7 x8 x9 x10 y0 y1 y2 y3 y4 y5 y6 HX HY HZ HB hb6 hP6 HLR HLL
  go_upto_region 19 with (fail)
  have hbn : Below w6.heap.size w6 (w6.alloc (.cells (ec ⟨f2, t2, i2, ⟨p2, q2, l2, wt2, fl2⟩, gm2, gp2, gl2⟩ A c) 82)) := (Below.refl _ _).alloc (Nat.le_refl _) _
  refine at_world (fun u => u.heap[W.heap.size]? = some (.cells #[.int .i64 f, .int .i64 t, .int .i64 i, .int .i64 p, .int .i64 q, .slice A l2.length c, .int .i64 wt, .int .i64 fl, .int .i64 gm, .int .i64 gp, .int .i64 gl] 82 (0, 0)) ∧ u.heap[w6.heap.size]? = some (.cells (ec ⟨f2, t2, i2, ⟨p2, q2, l2, wt2, fl2⟩, gm2, gp2, gl2⟩ A c) 82 (0, 0)) ∧ u.heap[W.heap.size + 1]? = some (.cells #[.int .i64 kd, .int .i64 xf, .int .i64 xt, .int .i64 xi, .int .i64 xp, .int .i64 xs, .string (str xb)] 30 (0, 0)) ∧ u.heap[W.heap.size + 2]? = some (.cells #[.int .i64 0, .int .i64 0, .int .i64 0, .int .i64 0, .int .i64 0, .slice none 0 0, .int .i64 0, .int .i64 0, .int .i64 0, .int .i64 0, .int .i64 0, .string ⟨#[]⟩, .bool false, .slice none 0 0] 100 (0, 0)) ∧ OwnR W u (.slice B2 L.length d2) L ∧ Below W.heap.size W u) ⟨keep0 hx6 hbn, heap_alloc_new _ _, keep0 hy6 hbn, keep0 hz6 hbn, own_keep hP7 hbn, hb7.trans (hbn.mono hb7.size)⟩ ?_
  have hTW : W.heap.size + 2 < w6.heap.size := lt_of_block hz6
  clear hx6 hy6 hz6 hP7 hb7 hbn
  generalize w6.heap.size = Tb at *
  rintro w7 ⟨hx, ht, hy, hz, hP, hb⟩
  have ef : f2 = f := (congrArg (fun r : Ev × List Pk => r.1.f) HLX.out).symm
  have et : t2 = t := (congrArg (fun r : Ev × List Pk => r.1.t) HLX.out).symm
  have ei : i2 = i := (congrArg (fun r : Ev × List Pk => r.1.i) HLX.out).symm
  have em : gm2 = gm := (congrArg (fun r : Ev × List Pk => r.1.m) HLX.out).symm
  have ep : gp2 = gP gp xi := (congrArg (fun r : Ev × List Pk => r.1.p) HLX.out).symm
  have el : gl2 = gL gp gl xi := (congrArg (fun r : Ev × List Pk => r.1.l) HLX.out).symm
  have eo : (lrnV ⟨p, q, l2, wt, fl⟩ xi).1 = ⟨p2, q2, l2, wt2, fl2⟩ := congrArg (fun r : Ev × List Pk => r.1.o) HLX.out
  have e2 : (lrnE ⟨f, t, i, ⟨p, q, l2, wt, fl⟩, gm, gp, gl⟩ xi).2 = L := congrArg (fun r : Ev × List Pk => r.2) HLX.out
  subst f2 t2 i2 gm2
  have hc : gC gm gp2 gl2 xi xp xs = 0 := by rw [ep, el]; exact HCL.out
  have HR : Hid (datE ⟨f, t, i, ⟨p, q, l2, wt, fl⟩, gm, gp, gl⟩ ⟨kd, xf, xt, xi, xp, xs, xb⟩ = (⟨f, t, i, ⟨p2, q2, l2, wt2, fl2⟩, gm, gP gp2 xi, gN gm gp2 gl2 xi xp xs⟩, L ++ [])) := hid (by
    unfold datE
    rw [show (lrnE ⟨f, t, i, ⟨p, q, l2, wt, fl⟩, gm, gp, gl⟩ (⟨kd, xf, xt, xi, xp, xs, xb⟩ : Pk).i).2 = L from e2]
    unfold ansD dend
    rw [show clsD ⟨f, t, i, ⟨p, q, l2, wt, fl⟩, gm, gp, gl⟩ ⟨kd, xf, xt, xi, xp, xs, xb⟩ = 0 from HCL.out]
    simp only [eo]
    rw [← ep, ← el]
    simp)
  have hgl2 : 0 ≤ gl2 ∧ gl2 ≤ 9223372036854775807 := by
    have := HGL.out
    rw [el]
    unfold gL
    split <;> omega
  have HTK := hid (fun w => rtake_any gm gp2 gl2 xi xp xs w hgl2.1 HXS.out.2 HXS.out.1 hgl2.2)
  rw [hc] at HTK
  clear ep el eo e2 hc hgl2
  generalize gP gp2 xi = gp3 at *
  generalize gN gm gp2 gl2 xi xp xs = gl3 at *
  obtain ⟨⟨x0, x1, x2, x3, x4, x5, x6, x7, x8, x9, x10⟩, _⟩ := eleven_cells ht
  obtain ⟨⟨y0, y1, y2, y3, y4, y5, y6⟩, _⟩ := seven_cells hy
  have HT := hid ht
  have HX := hid hx
  have HY := hid hy
  have HZ := hid hz
  have HP := hid hP
  have HB := hid hb
  clear ht hx hy hz hP hb
  go_wp2_with fail
  refine (HTK.out _).mono ?_
  rintro e w8 ⟨rfl, hb8⟩
  have ht8 := keep0 HT.out hb8
  have hx8 := keep0 HX.out hb8
  have hy8 := keep0 HY.out hb8
  have hz8 := keep0 HZ.out hb8
  have hP8 := own_keep HP.out hb8
  have hB8 := HB.out.trans (hb8.mono HB.out.size)
  clear x0 x1 x2 x3 x4 x5 x6 x7 x8 x9 x10 y0 y1 y2 y3 y4 y5 y6 HT HX HY HZ HP HB hb8 HTK
  go_upto_region 20 with (fail)
  have hbn : Below w8.heap.size w8 (w8.alloc (.cells #[.int .i64 gm, .int .i64 gp3, .int .i64 gl3] 80)) := (Below.refl _ _).alloc (Nat.le_refl _) _
  refine at_world (fun u => u.heap[w8.heap.size]? = some (.cells #[.int .i64 gm, .int .i64 gp3, .int .i64 gl3] 80 (0, 0)) ∧ u.heap[Tb]? = some (.cells (ec ⟨f, t, i, ⟨p2, q2, l2, wt2, fl2⟩, gm, gp2, gl2⟩ A c) 82 (0, 0)) ∧ u.heap[W.heap.size]? = some (.cells #[.int .i64 f, .int .i64 t, .int .i64 i, .int .i64 p, .int .i64 q, .slice A l2.length c, .int .i64 wt, .int .i64 fl, .int .i64 gm, .int .i64 gp, .int .i64 gl] 82 (0, 0)) ∧ u.heap[W.heap.size + 1]? = some (.cells #[.int .i64 kd, .int .i64 xf, .int .i64 xt, .int .i64 xi, .int .i64 xp, .int .i64 xs, .string (str xb)] 30 (0, 0)) ∧ u.heap[W.heap.size + 2]? = some (.cells #[.int .i64 0, .int .i64 0, .int .i64 0, .int .i64 0, .int .i64 0, .slice none 0 0, .int .i64 0, .int .i64 0, .int .i64 0, .int .i64 0, .int .i64 0, .string ⟨#[]⟩, .bool false, .slice none 0 0] 100 (0, 0)) ∧ OwnR W u (.slice B2 L.length d2) L ∧ Below W.heap.size W u) ⟨heap_alloc_new _ _, keep0 ht8 hbn, keep0 hx8 hbn, keep0 hy8 hbn, keep0 hz8 hbn, own_keep hP8 hbn, hB8.trans (hbn.mono hB8.size)⟩ ?_
  clear ht8 hx8 hy8 hz8 hP8 hB8 hbn
  generalize w8.heap.size = To at *
  rintro w8a ⟨ho, ht, hx, hy, hz, hP, hb⟩
  obtain ⟨z0, z1, z2⟩ := three_cellsd ho
  obtain ⟨_, ⟨cg0, cg1, cg2, cg3, cg4, cg5, cg6, cg7, cg8, cg9, cg10⟩⟩ := eleven_cells ht
  have hey : EY W w8a Tb ⟨f, t, i, ⟨p2, q2, l2, wt2, fl2⟩, gm, gp2, gl2⟩ A c := ⟨ht, HS.out.below hb, hb⟩
  have heg := hey.gate (show W.heap.size ≤ Tb by omega) gm gp3 gl3 rfl
  have hot : ∀ g, g ≠ Tb → (((w8a.setCell ⟨Tb, 8, none⟩ (.int .i64 gm)).setCell ⟨Tb, 9, none⟩ (.int .i64 gp3)).setCell ⟨Tb, 10, none⟩ (.int .i64 gl3)).heap[g]? = w8a.heap[g]? := fun g hg => by rw [Below.heap_setCell _ _ _ _ hg, Below.heap_setCell _ _ _ _ hg, Below.heap_setCell _ _ _ _ hg]
  have HT := hid heg.1
  have HB := hid heg.2.2
  have HX := hid ((hot W.heap.size (by omega)).trans hx)
  have HY := hid ((hot (W.heap.size + 1) (by omega)).trans hy)
  have HZ := hid ((hot (W.heap.size + 2) (by omega)).trans hz)
  have HP := hid (own_at hP ht (by decide) hot)
  clear ho ht hx hy hz hP hb hey heg hot
  go_upto_region 21 with (fail)
  refine at_world (fun u => u.heap[Tb]? = some (.cells (ec ⟨f, t, i, ⟨p2, q2, l2, wt2, fl2⟩, gm, gp3, gl3⟩ A c) 82 (0, 0)) ∧ u.heap[W.heap.size]? = some (.cells #[.int .i64 f, .int .i64 t, .int .i64 i, .int .i64 p, .int .i64 q, .slice A l2.length c, .int .i64 wt, .int .i64 fl, .int .i64 gm, .int .i64 gp, .int .i64 gl] 82 (0, 0)) ∧ u.heap[W.heap.size + 1]? = some (.cells #[.int .i64 kd, .int .i64 xf, .int .i64 xt, .int .i64 xi, .int .i64 xp, .int .i64 xs, .string (str xb)] 30 (0, 0)) ∧ u.heap[W.heap.size + 2]? = some (.cells #[.int .i64 0, .int .i64 0, .int .i64 0, .int .i64 0, .int .i64 0, .slice none 0 0, .int .i64 0, .int .i64 0, .int .i64 0, .int .i64 0, .int .i64 0, .string ⟨#[]⟩, .bool false, .slice none 0 0] 100 (0, 0)) ∧ OwnR W u (.slice B2 L.length d2) L ∧ Below W.heap.size W u) ⟨HT.out, HX.out, HY.out, HZ.out, HP.out, HB.out⟩ ?_
  clear z0 z1 z2 cg0 cg1 cg2 cg3 cg4 cg5 cg6 cg7 cg8 cg9 cg10 HT HX HY HZ HP HB
  rintro w9 ⟨ht, hx, hy, hz, hP, hb⟩
  obtain ⟨⟨x0, x1, x2, x3, x4, x5, x6, x7, x8, x9, x10⟩, _⟩ := eleven_cells hx
  obtain ⟨⟨y0, y1, y2, y3, y4, y5, y6⟩, _⟩ := seven_cells hy
  have HT := hid ht
  have HY := hid hy
  have HZ := hid hz
  have HP := hid hP
  have HB := hid hb
  clear ht hx hy hz hP hb
  go_upto_region 27 with (fail)
  have hbn : Below w9.heap.size w9 (w9.alloc (.cells #[.int .i64 2, .int .i64 f, .int .i64 t, .int .i64 i, .int .i64 xi, .int .i64 xs, .string ⟨#[]⟩] 30)) := (Below.refl _ _).alloc (Nat.le_refl _) _
  refine at_world (fun u => u.heap[Tb]? = some (.cells (ec ⟨f, t, i, ⟨p2, q2, l2, wt2, fl2⟩, gm, gp3, gl3⟩ A c) 82 (0, 0)) ∧ u.heap[W.heap.size + 2]? = some (.cells #[.int .i64 0, .int .i64 0, .int .i64 0, .int .i64 0, .int .i64 0, .slice none 0 0, .int .i64 0, .int .i64 0, .int .i64 0, .int .i64 0, .int .i64 0, .string ⟨#[]⟩, .bool false, .slice none 0 0] 100 (0, 0)) ∧ Mid u W.heap.size 30 7 (.slice B2 L.length d2) L.length (gcells pkc L) ∧ Below W.heap.size W u) ⟨keep0 HT.out hbn, keep0 HZ.out hbn, Mid.of_own (own_keep HP.out hbn), HB.out.trans (hbn.mono HB.out.size)⟩ ?_
  clear hbn x0 x1 x2 x3 x4 x5 x6 x7 x8 x9 x10 y0 y1 y2 y3 y4 y5 y6 HT HY HZ HP HB
  rintro w12 ⟨ht, hz, hM, hb⟩
  obtain ⟨⟨x0, x1, x2, x3, x4, x5, x6, x7, x8, x9, x10⟩, _⟩ := eleven_cells ht
  obtain ⟨_, ⟨g0, g1, g2, g3, g4, g5, g6, g7, g8, g9, g10, g11, g12, g13⟩⟩ := fourteen_cells hz
  obtain ⟨⟨r0, r1, r2, r3, r4, r5, r6, r7, r8, r9, r10, r11, r12, r13⟩, _⟩ := fourteen_cells (put14_heap hz (.int .i64 f) (.int .i64 t) (.int .i64 i) (.int .i64 p2) (.int .i64 q2) (.slice A l2.length c) (.int .i64 wt2) (.int .i64 fl2) (.int .i64 gm) (.int .i64 gp3) (.int .i64 gl3) (.string ⟨#[]⟩) (.bool false) (.slice B2 L.length d2))
  have HB9 := hid (put14_below hb (show W.heap.size ≤ W.heap.size + 2 by omega) (.int .i64 f) (.int .i64 t) (.int .i64 i) (.int .i64 p2) (.int .i64 q2) (.slice A l2.length c) (.int .i64 wt2) (.int .i64 fl2) (.int .i64 gm) (.int .i64 gp3) (.int .i64 gl3) (.string ⟨#[]⟩) (.bool false) (.slice B2 L.length d2))
  have HP9 := hid (Mid.sl (hM.only hz (by decide) fun g hg _ => put14_other hg (.int .i64 f) (.int .i64 t) (.int .i64 i) (.int .i64 p2) (.int .i64 q2) (.slice A l2.length c) (.int .i64 wt2) (.int .i64 fl2) (.int .i64 gm) (.int .i64 gp3) (.int .i64 gl3) (.string ⟨#[]⟩) (.bool false) (.slice B2 L.length d2)))
  simp only [put14] at r0 r1 r2 r3 r4 r5 r6 r7 r8 r9 r10 r11 r12 r13
  clear ht hz hb hM
  go_wp2
  exact bodyPost_ret (v := .agg (tkc ⟨f, t, i, ⟨p2, q2, l2, wt2, fl2⟩, gm, gp3, gl3⟩ A c ⟨#[]⟩ false B2 L.length d2)) (by simp [results, Tryz.results37, go_sem, tkc, r0, r1, r2, r3, r4, r5, r6, r7, r8, r9, r10, r11, r12, r13]) rfl (by rw [HR.out]; exact ⟨A, c, B2, d2, by rw [List.append_nil], HS.out.below HB9.out, by rw [List.append_nil]; exact HP9.out, HB9.out⟩)

set_option maxRecDepth 20000 in
set_option maxHeartbeats 4000000 in
theorem r26take_1c1 (f t i p q : Int) (l : List (List UInt8)) (wt fl gm gp gl : Int) (kd xf xt xi xp xs : Int) (xb : List UInt8) (A : Option Addr) (c : Nat) (W : World) (h : Sl W 1 A l.length c (scells l)) (hk : okP kd xf xt xi xp xs xb = true) (h1 : xf = t) (h2 : xt = f) (h3 : ¬ xi < gp) (h4 : kd = 1) (hle : l.length ≤ 1000) (hgl : 0 ≤ gl ∧ gl ≤ 9223372036854775807) (hxs : -9223372036854775808 ≤ xs ∧ xs ≤ 9223372036854775807) (hcl : clsD ⟨f, t, i, ⟨p, q, l, wt, fl⟩, gm, gp, gl⟩ ⟨kd, xf, xt, xi, xp, xs, xb⟩ = 1) :
    Calls Tryz.prog 37 #[.agg #[.int .i64 f, .int .i64 t, .int .i64 i, .int .i64 p, .int .i64 q, .slice A l.length c, .int .i64 wt, .int .i64 fl, .int .i64 gm, .int .i64 gp, .int .i64 gl], .agg #[.int .i64 kd, .int .i64 xf, .int .i64 xt, .int .i64 xi, .int .i64 xp, .int .i64 xs, .string (str xb)]] W (RTook (datE ⟨f, t, i, ⟨p, q, l, wt, fl⟩, gm, gp, gl⟩ ⟨kd, xf, xt, xi, xp, xs, xb⟩) (str xb) true W) := by
  have HS := hid h
  have HCK := hid (fun w => rcheck_any kd xf xt xi xp xs (str xb) w)
  rw [str_list] at HCK
  have HLE := hid hle
  have HGL := hid hgl
  have HXS := hid hxs
  have HCL := hid hcl
  rw [hk] at HCK
  have b1 : (xf != t) = false := by simpa using h1
  have b2 : (xt != f) = false := by simpa using h2
  have b3 : decide (xi < gp) = false := decide_eq_false h3
  have b4 : (kd == 4) = false := by simp; omega
  have b5 : (kd == 3) = false := by simp; omega
  have b6 : (kd == 2) = false := by simp; omega
  clear h hk h1 h2 h4 hle hgl hxs hcl
  go_enter Tryz.func37, Tryz.ntmps37
  go_upto_region 1 with (fail)
  refine at_world (fun u => u.heap[W.heap.size]? = some (.cells #[.int .i64 f, .int .i64 t, .int .i64 i, .int .i64 p, .int .i64 q, .slice A l.length c, .int .i64 wt, .int .i64 fl, .int .i64 gm, .int .i64 gp, .int .i64 gl] 82 (0, 0)) ∧ u.heap[W.heap.size + 1]? = some (.cells #[.int .i64 kd, .int .i64 xf, .int .i64 xt, .int .i64 xi, .int .i64 xp, .int .i64 xs, .string (str xb)] 30 (0, 0)) ∧ u.heap[W.heap.size + 2]? = some (.cells #[.int .i64 0, .int .i64 0, .int .i64 0, .int .i64 0, .int .i64 0, .slice none 0 0, .int .i64 0, .int .i64 0, .int .i64 0, .int .i64 0, .int .i64 0, .string ⟨#[]⟩, .bool false, .slice none 0 0] 100 (0, 0)) ∧ Below W.heap.size W u) (al3 _ _ _ _) ?_
  rintro w1 ⟨hx, hy, hz, hb⟩
  obtain ⟨⟨y0, y1, y2, y3, y4, y5, y6⟩, _⟩ := seven_cells hy
  have HX1 := hid hx
  have HY1 := hid hy
  have HZ1 := hid hz
  have HB1 := hid hb
  clear hx hy hz hb
  go_wp2_with fail
  refine (HCK.out _).mono ?_
  rintro e w5 ⟨rfl, hb5⟩
  have HX := hid (keep0 HX1.out hb5)
  have HY := hid (keep0 HY1.out hb5)
  have HZ := hid (keep0 HZ1.out hb5)
  have HB := hid (HB1.out.trans (hb5.mono HB1.out.size))
  clear y0 y1 y2 y3 y4 y5 y6 HX1 HY1 HZ1 HB1 hb5 HCK
  obtain ⟨⟨x0, x1, x2, x3, x4, x5, x6, x7, x8, x9, x10⟩, _⟩ := eleven_cells HX.out
  obtain ⟨⟨y0, y1, y2, y3, y4, y5, y6⟩, _⟩ := seven_cells HY.out
  have HLR := hid (r26learn_ex ⟨f, t, i, ⟨p, q, l, wt, fl⟩, gm, gp, gl⟩ xi A c w5 (HS.out.below HB.out) HLE.out)
  have HLL : Hid ((lrnE ⟨f, t, i, ⟨p, q, l, wt, fl⟩, gm, gp, gl⟩ xi).1.o.l = l) := hid (lrnV_l _ _)
  have HQ2 : Hid ((lrnE ⟨f, t, i, ⟨p, q, l, wt, fl⟩, gm, gp, gl⟩ xi).1.o.q = q ∨ (lrnE ⟨f, t, i, ⟨p, q, l, wt, fl⟩, gm, gp, gl⟩ xi).1.o.q = 1) := hid (lrnV_q _ _)
  have HD2 : Hid ((lrnE ⟨f, t, i, ⟨p, q, l, wt, fl⟩, gm, gp, gl⟩ xi).2.length ≤ 1) := hid (dataV_len _ _)
  obtain ⟨rv, hrv⟩ : ∃ rv, lrnE ⟨f, t, i, ⟨p, q, l, wt, fl⟩, gm, gp, gl⟩ xi = rv := ⟨_, rfl⟩
  have HLX := hid hrv
  rw [hrv] at HLR HLL HQ2 HD2
  clear hrv
  obtain ⟨⟨f2, t2, i2, ⟨p2, q2, l2, wt2, fl2⟩, gm2, gp2, gl2⟩, L⟩ := rv
  obtain rfl : l2 = l := HLL.out
  simp only at HQ2 HD2
  simp only [ec] at HLR
  go_wp2_with fail
  refine HLR.out.mono ?_
  rintro e w6 ⟨B2, d2, rfl, hP6, hb6⟩
  simp only [ec]
  have hz6 := keep0 HZ.out hb6
  have hx6 := keep0 HX.out hb6
  have hy6 := keep0 HY.out hb6
  have hb7 := HB.out.trans (hb6.mono HB.out.size)
  have hP7 := hP6
  have hW5 : W.heap.size + 2 < w5.heap.size := lt_of_block HZ.out
  clear x0 x1 x2 x3 x4 x5 x6 x7 x8 x9 x10 y0 y1 y2 y3 y4 y5 y6 HX HY HZ HB hb6 hP6 HLR HLL
  go_upto_region 19 with (fail)
  have hbn : Below w6.heap.size w6 (w6.alloc (.cells (ec ⟨f2, t2, i2, ⟨p2, q2, l2, wt2, fl2⟩, gm2, gp2, gl2⟩ A c) 82)) := (Below.refl _ _).alloc (Nat.le_refl _) _
  refine at_world (fun u => u.heap[W.heap.size]? = some (.cells #[.int .i64 f, .int .i64 t, .int .i64 i, .int .i64 p, .int .i64 q, .slice A l2.length c, .int .i64 wt, .int .i64 fl, .int .i64 gm, .int .i64 gp, .int .i64 gl] 82 (0, 0)) ∧ u.heap[w6.heap.size]? = some (.cells (ec ⟨f2, t2, i2, ⟨p2, q2, l2, wt2, fl2⟩, gm2, gp2, gl2⟩ A c) 82 (0, 0)) ∧ u.heap[W.heap.size + 1]? = some (.cells #[.int .i64 kd, .int .i64 xf, .int .i64 xt, .int .i64 xi, .int .i64 xp, .int .i64 xs, .string (str xb)] 30 (0, 0)) ∧ u.heap[W.heap.size + 2]? = some (.cells #[.int .i64 0, .int .i64 0, .int .i64 0, .int .i64 0, .int .i64 0, .slice none 0 0, .int .i64 0, .int .i64 0, .int .i64 0, .int .i64 0, .int .i64 0, .string ⟨#[]⟩, .bool false, .slice none 0 0] 100 (0, 0)) ∧ OwnR w5 u (.slice B2 L.length d2) L ∧ Below W.heap.size W u) ⟨keep0 hx6 hbn, heap_alloc_new _ _, keep0 hy6 hbn, keep0 hz6 hbn, own_keep hP7 hbn, hb7.trans (hbn.mono hb7.size)⟩ ?_
  have hTW : W.heap.size + 2 < w6.heap.size := lt_of_block hz6
  clear hx6 hy6 hz6 hP7 hb7 hbn
  generalize w6.heap.size = Tb at *
  rintro w7 ⟨hx, ht, hy, hz, hP, hb⟩
  have ef : f2 = f := (congrArg (fun r : Ev × List Pk => r.1.f) HLX.out).symm
  have et : t2 = t := (congrArg (fun r : Ev × List Pk => r.1.t) HLX.out).symm
  have ei : i2 = i := (congrArg (fun r : Ev × List Pk => r.1.i) HLX.out).symm
  have em : gm2 = gm := (congrArg (fun r : Ev × List Pk => r.1.m) HLX.out).symm
  have ep : gp2 = gP gp xi := (congrArg (fun r : Ev × List Pk => r.1.p) HLX.out).symm
  have el : gl2 = gL gp gl xi := (congrArg (fun r : Ev × List Pk => r.1.l) HLX.out).symm
  have eo : (lrnV ⟨p, q, l2, wt, fl⟩ xi).1 = ⟨p2, q2, l2, wt2, fl2⟩ := congrArg (fun r : Ev × List Pk => r.1.o) HLX.out
  have e2 : (lrnE ⟨f, t, i, ⟨p, q, l2, wt, fl⟩, gm, gp, gl⟩ xi).2 = L := congrArg (fun r : Ev × List Pk => r.2) HLX.out
  subst f2 t2 i2 gm2
  have hc : gC gm gp2 gl2 xi xp xs = 1 := by rw [ep, el]; exact HCL.out
  have HR : Hid (datE ⟨f, t, i, ⟨p, q, l2, wt, fl⟩, gm, gp, gl⟩ ⟨kd, xf, xt, xi, xp, xs, xb⟩ = (⟨f, t, i, ⟨p2, q2, l2, wt2, fl2⟩, gm, gP gp2 xi, gN gm gp2 gl2 xi xp xs⟩, L ++ [⟨2, f, t, i, xi, xs, []⟩])) := hid (by
    unfold datE
    rw [show (lrnE ⟨f, t, i, ⟨p, q, l2, wt, fl⟩, gm, gp, gl⟩ (⟨kd, xf, xt, xi, xp, xs, xb⟩ : Pk).i).2 = L from e2]
    unfold ansD dend
    rw [show clsD ⟨f, t, i, ⟨p, q, l2, wt, fl⟩, gm, gp, gl⟩ ⟨kd, xf, xt, xi, xp, xs, xb⟩ = 1 from HCL.out]
    simp only [eo]
    rw [← ep, ← el]
    simp)
  have hgl2 : 0 ≤ gl2 ∧ gl2 ≤ 9223372036854775807 := by
    have := HGL.out
    rw [el]
    unfold gL
    split <;> omega
  have HTK := hid (fun w => rtake_any gm gp2 gl2 xi xp xs w hgl2.1 HXS.out.2 HXS.out.1 hgl2.2)
  rw [hc] at HTK
  clear ep el eo e2 hc hgl2
  generalize gP gp2 xi = gp3 at *
  generalize gN gm gp2 gl2 xi xp xs = gl3 at *
  obtain ⟨⟨x0, x1, x2, x3, x4, x5, x6, x7, x8, x9, x10⟩, _⟩ := eleven_cells ht
  obtain ⟨⟨y0, y1, y2, y3, y4, y5, y6⟩, _⟩ := seven_cells hy
  have HT := hid ht
  have HX := hid hx
  have HY := hid hy
  have HZ := hid hz
  have HP := hid hP
  have HB := hid hb
  clear ht hx hy hz hP hb
  go_wp2_with fail
  refine (HTK.out _).mono ?_
  rintro e w8 ⟨rfl, hb8⟩
  have ht8 := keep0 HT.out hb8
  have hx8 := keep0 HX.out hb8
  have hy8 := keep0 HY.out hb8
  have hz8 := keep0 HZ.out hb8
  have hP8 := own_keep HP.out hb8
  have hB8 := HB.out.trans (hb8.mono HB.out.size)
  clear x0 x1 x2 x3 x4 x5 x6 x7 x8 x9 x10 y0 y1 y2 y3 y4 y5 y6 HT HX HY HZ HP HB hb8 HTK
  go_upto_region 20 with (fail)
  have hbn : Below w8.heap.size w8 (w8.alloc (.cells #[.int .i64 gm, .int .i64 gp3, .int .i64 gl3] 80)) := (Below.refl _ _).alloc (Nat.le_refl _) _
  refine at_world (fun u => u.heap[w8.heap.size]? = some (.cells #[.int .i64 gm, .int .i64 gp3, .int .i64 gl3] 80 (0, 0)) ∧ u.heap[Tb]? = some (.cells (ec ⟨f, t, i, ⟨p2, q2, l2, wt2, fl2⟩, gm, gp2, gl2⟩ A c) 82 (0, 0)) ∧ u.heap[W.heap.size]? = some (.cells #[.int .i64 f, .int .i64 t, .int .i64 i, .int .i64 p, .int .i64 q, .slice A l2.length c, .int .i64 wt, .int .i64 fl, .int .i64 gm, .int .i64 gp, .int .i64 gl] 82 (0, 0)) ∧ u.heap[W.heap.size + 1]? = some (.cells #[.int .i64 kd, .int .i64 xf, .int .i64 xt, .int .i64 xi, .int .i64 xp, .int .i64 xs, .string (str xb)] 30 (0, 0)) ∧ u.heap[W.heap.size + 2]? = some (.cells #[.int .i64 0, .int .i64 0, .int .i64 0, .int .i64 0, .int .i64 0, .slice none 0 0, .int .i64 0, .int .i64 0, .int .i64 0, .int .i64 0, .int .i64 0, .string ⟨#[]⟩, .bool false, .slice none 0 0] 100 (0, 0)) ∧ OwnR w5 u (.slice B2 L.length d2) L ∧ Below W.heap.size W u) ⟨heap_alloc_new _ _, keep0 ht8 hbn, keep0 hx8 hbn, keep0 hy8 hbn, keep0 hz8 hbn, own_keep hP8 hbn, hB8.trans (hbn.mono hB8.size)⟩ ?_
  clear ht8 hx8 hy8 hz8 hP8 hB8 hbn
  generalize w8.heap.size = To at *
  rintro w8a ⟨ho, ht, hx, hy, hz, hP, hb⟩
  obtain ⟨z0, z1, z2⟩ := three_cellsd ho
  obtain ⟨_, ⟨cg0, cg1, cg2, cg3, cg4, cg5, cg6, cg7, cg8, cg9, cg10⟩⟩ := eleven_cells ht
  have hey : EY W w8a Tb ⟨f, t, i, ⟨p2, q2, l2, wt2, fl2⟩, gm, gp2, gl2⟩ A c := ⟨ht, HS.out.below hb, hb⟩
  have heg := hey.gate (show W.heap.size ≤ Tb by omega) gm gp3 gl3 rfl
  have hot : ∀ g, g ≠ Tb → (((w8a.setCell ⟨Tb, 8, none⟩ (.int .i64 gm)).setCell ⟨Tb, 9, none⟩ (.int .i64 gp3)).setCell ⟨Tb, 10, none⟩ (.int .i64 gl3)).heap[g]? = w8a.heap[g]? := fun g hg => by rw [Below.heap_setCell _ _ _ _ hg, Below.heap_setCell _ _ _ _ hg, Below.heap_setCell _ _ _ _ hg]
  have HT := hid heg.1
  have HB := hid heg.2.2
  have HX := hid ((hot W.heap.size (by omega)).trans hx)
  have HY := hid ((hot (W.heap.size + 1) (by omega)).trans hy)
  have HZ := hid ((hot (W.heap.size + 2) (by omega)).trans hz)
  have HP := hid (own_at hP ht (by decide) hot)
  clear ho ht hx hy hz hP hb hey heg hot
  go_upto_region 21 with (fail)
  refine at_world (fun u => u.heap[Tb]? = some (.cells (ec ⟨f, t, i, ⟨p2, q2, l2, wt2, fl2⟩, gm, gp3, gl3⟩ A c) 82 (0, 0)) ∧ u.heap[W.heap.size]? = some (.cells #[.int .i64 f, .int .i64 t, .int .i64 i, .int .i64 p, .int .i64 q, .slice A l2.length c, .int .i64 wt, .int .i64 fl, .int .i64 gm, .int .i64 gp, .int .i64 gl] 82 (0, 0)) ∧ u.heap[W.heap.size + 1]? = some (.cells #[.int .i64 kd, .int .i64 xf, .int .i64 xt, .int .i64 xi, .int .i64 xp, .int .i64 xs, .string (str xb)] 30 (0, 0)) ∧ u.heap[W.heap.size + 2]? = some (.cells #[.int .i64 0, .int .i64 0, .int .i64 0, .int .i64 0, .int .i64 0, .slice none 0 0, .int .i64 0, .int .i64 0, .int .i64 0, .int .i64 0, .int .i64 0, .string ⟨#[]⟩, .bool false, .slice none 0 0] 100 (0, 0)) ∧ OwnR w5 u (.slice B2 L.length d2) L ∧ Below W.heap.size W u) ⟨HT.out, HX.out, HY.out, HZ.out, HP.out, HB.out⟩ ?_
  clear z0 z1 z2 cg0 cg1 cg2 cg3 cg4 cg5 cg6 cg7 cg8 cg9 cg10 HT HX HY HZ HP HB
  rintro w9 ⟨ht, hx, hy, hz, hP, hb⟩
  obtain ⟨⟨x0, x1, x2, x3, x4, x5, x6, x7, x8, x9, x10⟩, _⟩ := eleven_cells hx
  obtain ⟨⟨y0, y1, y2, y3, y4, y5, y6⟩, _⟩ := seven_cells hy
  have HT := hid ht
  have HY := hid hy
  have HZ := hid hz
  have HP := hid hP
  have HB := hid hb
  clear ht hx hy hz hP hb
  go_upto_region 26 with (fail)
  have hbn : Below w9.heap.size w9 (w9.alloc (.cells #[.int .i64 2, .int .i64 f, .int .i64 t, .int .i64 i, .int .i64 xi, .int .i64 xs, .string ⟨#[]⟩] 30)) := (Below.refl _ _).alloc (Nat.le_refl _) _
  refine at_world (fun u => u.heap[w9.heap.size]? = some (.cells #[.int .i64 2, .int .i64 f, .int .i64 t, .int .i64 i, .int .i64 xi, .int .i64 xs, .string ⟨#[]⟩] 30 (0, 0)) ∧ u.heap[Tb]? = some (.cells (ec ⟨f, t, i, ⟨p2, q2, l2, wt2, fl2⟩, gm, gp3, gl3⟩ A c) 82 (0, 0)) ∧ u.heap[W.heap.size + 1]? = some (.cells #[.int .i64 kd, .int .i64 xf, .int .i64 xt, .int .i64 xi, .int .i64 xp, .int .i64 xs, .string (str xb)] 30 (0, 0)) ∧ u.heap[W.heap.size + 2]? = some (.cells #[.int .i64 0, .int .i64 0, .int .i64 0, .int .i64 0, .int .i64 0, .slice none 0 0, .int .i64 0, .int .i64 0, .int .i64 0, .int .i64 0, .int .i64 0, .string ⟨#[]⟩, .bool false, .slice none 0 0] 100 (0, 0)) ∧ OwnR w5 u (.slice B2 L.length d2) L ∧ Below W.heap.size W u) ⟨heap_alloc_new _ _, keep0 HT.out hbn, keep0 HY.out hbn, keep0 HZ.out hbn, own_keep HP.out hbn, HB.out.trans (hbn.mono HB.out.size)⟩ ?_
  clear hbn x0 x1 x2 x3 x4 x5 x6 x7 x8 x9 x10 y0 y1 y2 y3 y4 y5 y6 HT HY HZ HP HB
  generalize w9.heap.size = Pb at *
  rintro w10 ⟨hk, ht, hy, hz, hP, hb⟩
  obtain ⟨⟨y0, y1, y2, y3, y4, y5, y6⟩, _⟩ := seven_cells hk
  have hbn : Below w10.heap.size w10 (w10.alloc (.cells #[.int .i64 2, .int .i64 f, .int .i64 t, .int .i64 i, .int .i64 xi, .int .i64 xs, .string ⟨#[]⟩] 30)) := (Below.refl _ _).alloc (Nat.le_refl _) _
  have HT2 := hid (keep0 ht hbn)
  have HY2 := hid (keep0 hy hbn)
  have HZ2 := hid (keep0 hz hbn)
  have HP2 := hid (own_keep hP hbn)
  have hB2 := hb.trans (hbn.mono hb.size)
  have HB2 := hid hB2
  have HSL := hid (Sl.lit w10 30 7 1 #[.int .i64 2, .int .i64 f, .int .i64 t, .int .i64 i, .int .i64 xi, .int .i64 xs, .string ⟨#[]⟩] rfl (by unfold maxLen; omega))
  have hle := hB2.size
  have hl1 : L.length ≤ 1 := HD2.out
  clear hk ht hy hz hP hb hbn hB2
  go_wp2_with (at_builtin; refine wpList_append_mid rfl (.tmp 145) (.tmp 147) 83 rfl W.heap.size 30 Tryz.underlying83 info_rpk rfl (by omega) rfl (Mid.of_own (own_mono HP2.out (show W.heap.size ≤ w5.heap.size by omega))) rfl HSL.out (by simp [Value.oneCell']) (by show L.length + 1 ≤ _; unfold maxLen; omega) (by show (L.length + 1) * 64 ≤ _; omega) hle HB2.out ?_)
  intro v11 w11 hM hb hsz11 hk11
  obtain ⟨B5, d5, rfl, _⟩ := Mid.form hM
  have ht := (hk11 Tb (by simpa using lt_of_block HT2.out) (own_blk_ne HP2.out HT2.out (by decide))).trans HT2.out
  have hz := (hk11 (W.heap.size + 2) (by simpa using lt_of_block HZ2.out) (own_blk_ne HP2.out HZ2.out (by decide))).trans HZ2.out
  have hy := (hk11 (W.heap.size + 1) (by simpa using lt_of_block HY2.out) (fun he => by have := own_blk_ge HP2.out _ he; omega)).trans HY2.out
  clear y0 y1 y2 y3 y4 y5 y6 HT2 HY2 HZ2 HP2 HB2 HSL hsz11 hk11 hle
  go_upto_region 27 with (fail)
  refine at_world (fun u => u.heap[Tb]? = some (.cells (ec ⟨f, t, i, ⟨p2, q2, l2, wt2, fl2⟩, gm, gp3, gl3⟩ A c) 82 (0, 0)) ∧ u.heap[W.heap.size + 1]? = some (.cells #[.int .i64 kd, .int .i64 xf, .int .i64 xt, .int .i64 xi, .int .i64 xp, .int .i64 xs, .string (str xb)] 30 (0, 0)) ∧ u.heap[W.heap.size + 2]? = some (.cells #[.int .i64 0, .int .i64 0, .int .i64 0, .int .i64 0, .int .i64 0, .slice none 0 0, .int .i64 0, .int .i64 0, .int .i64 0, .int .i64 0, .int .i64 0, .string ⟨#[]⟩, .bool false, .slice none 0 0] 100 (0, 0)) ∧ Mid u W.heap.size 30 7 (.slice B5 (L.length + 1) d5) (L.length + 1) (gcells pkc (L ++ [⟨2, f, t, i, xi, xs, []⟩])) ∧ Below W.heap.size W u) ⟨ht, hy, hz, (by rw [gcells_append]; exact hM), hb⟩ ?_
  clear ht hy hz hM hb
  rintro w12 ⟨ht, hy, hz, hM, hb⟩
  obtain ⟨⟨y0, y1, y2, y3, y4, y5, y6⟩, _⟩ := seven_cells hy
  clear hy
  obtain ⟨⟨x0, x1, x2, x3, x4, x5, x6, x7, x8, x9, x10⟩, _⟩ := eleven_cells ht
  obtain ⟨_, ⟨g0, g1, g2, g3, g4, g5, g6, g7, g8, g9, g10, g11, g12, g13⟩⟩ := fourteen_cells hz
  obtain ⟨⟨r0, r1, r2, r3, r4, r5, r6, r7, r8, r9, r10, r11, r12, r13⟩, _⟩ := fourteen_cells (put14_heap hz (.int .i64 f) (.int .i64 t) (.int .i64 i) (.int .i64 p2) (.int .i64 q2) (.slice A l2.length c) (.int .i64 wt2) (.int .i64 fl2) (.int .i64 gm) (.int .i64 gp3) (.int .i64 gl3) (.string (str xb)) (.bool true) (.slice B5 (L.length + 1) d5))
  have HB9 := hid (put14_below hb (show W.heap.size ≤ W.heap.size + 2 by omega) (.int .i64 f) (.int .i64 t) (.int .i64 i) (.int .i64 p2) (.int .i64 q2) (.slice A l2.length c) (.int .i64 wt2) (.int .i64 fl2) (.int .i64 gm) (.int .i64 gp3) (.int .i64 gl3) (.string (str xb)) (.bool true) (.slice B5 (L.length + 1) d5))
  have HP9 := hid (Mid.sl (hM.only hz (by decide) fun g hg _ => put14_other hg (.int .i64 f) (.int .i64 t) (.int .i64 i) (.int .i64 p2) (.int .i64 q2) (.slice A l2.length c) (.int .i64 wt2) (.int .i64 fl2) (.int .i64 gm) (.int .i64 gp3) (.int .i64 gl3) (.string (str xb)) (.bool true) (.slice B5 (L.length + 1) d5)))
  simp only [put14] at r0 r1 r2 r3 r4 r5 r6 r7 r8 r9 r10 r11 r12 r13
  clear ht hz hb hM
  go_wp2
  exact bodyPost_ret (v := .agg (tkc ⟨f, t, i, ⟨p2, q2, l2, wt2, fl2⟩, gm, gp3, gl3⟩ A c (str xb) true B5 (L.length + 1) d5)) (by simp [results, Tryz.results37, go_sem, tkc, r0, r1, r2, r3, r4, r5, r6, r7, r8, r9, r10, r11, r12, r13]) rfl (by rw [HR.out]; exact ⟨A, c, B5, d5, (by simp only [List.length_append, List.length_cons, List.length_nil, Nat.zero_add]), HS.out.below HB9.out, (by rw [List.length_append]; exact HP9.out), HB9.out⟩)

set_option maxRecDepth 20000 in
set_option maxHeartbeats 4000000 in
theorem r26take_1c2 (f t i p q : Int) (l : List (List UInt8)) (wt fl gm gp gl : Int) (kd xf xt xi xp xs : Int) (xb : List UInt8) (A : Option Addr) (c : Nat) (W : World) (h : Sl W 1 A l.length c (scells l)) (hk : okP kd xf xt xi xp xs xb = true) (h1 : xf = t) (h2 : xt = f) (h3 : ¬ xi < gp) (h4 : kd = 1) (hle : l.length ≤ 1000) (hgl : 0 ≤ gl ∧ gl ≤ 9223372036854775807) (hxs : -9223372036854775808 ≤ xs ∧ xs ≤ 9223372036854775807) (hcl : clsD ⟨f, t, i, ⟨p, q, l, wt, fl⟩, gm, gp, gl⟩ ⟨kd, xf, xt, xi, xp, xs, xb⟩ = 2) :
    Calls Tryz.prog 37 #[.agg #[.int .i64 f, .int .i64 t, .int .i64 i, .int .i64 p, .int .i64 q, .slice A l.length c, .int .i64 wt, .int .i64 fl, .int .i64 gm, .int .i64 gp, .int .i64 gl], .agg #[.int .i64 kd, .int .i64 xf, .int .i64 xt, .int .i64 xi, .int .i64 xp, .int .i64 xs, .string (str xb)]] W (RTook (datE ⟨f, t, i, ⟨p, q, l, wt, fl⟩, gm, gp, gl⟩ ⟨kd, xf, xt, xi, xp, xs, xb⟩) ⟨#[]⟩ false W) := by
  have HS := hid h
  have HCK := hid (fun w => rcheck_any kd xf xt xi xp xs (str xb) w)
  rw [str_list] at HCK
  have HLE := hid hle
  have HGL := hid hgl
  have HXS := hid hxs
  have HCL := hid hcl
  rw [hk] at HCK
  have b1 : (xf != t) = false := by simpa using h1
  have b2 : (xt != f) = false := by simpa using h2
  have b3 : decide (xi < gp) = false := decide_eq_false h3
  have b4 : (kd == 4) = false := by simp; omega
  have b5 : (kd == 3) = false := by simp; omega
  have b6 : (kd == 2) = false := by simp; omega
  clear h hk h1 h2 h4 hle hgl hxs hcl
  go_enter Tryz.func37, Tryz.ntmps37
  go_upto_region 1 with (fail)
  refine at_world (fun u => u.heap[W.heap.size]? = some (.cells #[.int .i64 f, .int .i64 t, .int .i64 i, .int .i64 p, .int .i64 q, .slice A l.length c, .int .i64 wt, .int .i64 fl, .int .i64 gm, .int .i64 gp, .int .i64 gl] 82 (0, 0)) ∧ u.heap[W.heap.size + 1]? = some (.cells #[.int .i64 kd, .int .i64 xf, .int .i64 xt, .int .i64 xi, .int .i64 xp, .int .i64 xs, .string (str xb)] 30 (0, 0)) ∧ u.heap[W.heap.size + 2]? = some (.cells #[.int .i64 0, .int .i64 0, .int .i64 0, .int .i64 0, .int .i64 0, .slice none 0 0, .int .i64 0, .int .i64 0, .int .i64 0, .int .i64 0, .int .i64 0, .string ⟨#[]⟩, .bool false, .slice none 0 0] 100 (0, 0)) ∧ Below W.heap.size W u) (al3 _ _ _ _) ?_
  rintro w1 ⟨hx, hy, hz, hb⟩
  obtain ⟨⟨y0, y1, y2, y3, y4, y5, y6⟩, _⟩ := seven_cells hy
  have HX1 := hid hx
  have HY1 := hid hy
  have HZ1 := hid hz
  have HB1 := hid hb
  clear hx hy hz hb
  go_wp2_with fail
  refine (HCK.out _).mono ?_
  rintro e w5 ⟨rfl, hb5⟩
  have HX := hid (keep0 HX1.out hb5)
  have HY := hid (keep0 HY1.out hb5)
  have HZ := hid (keep0 HZ1.out hb5)
  have HB := hid (HB1.out.trans (hb5.mono HB1.out.size))
  clear y0 y1 y2 y3 y4 y5 y6 HX1 HY1 HZ1 HB1 hb5 HCK
  obtain ⟨⟨x0, x1, x2, x3, x4, x5, x6, x7, x8, x9, x10⟩, _⟩ := eleven_cells HX.out
  obtain ⟨⟨y0, y1, y2, y3, y4, y5, y6⟩, _⟩ := seven_cells HY.out
  have HLR := hid (r26learn_ex ⟨f, t, i, ⟨p, q, l, wt, fl⟩, gm, gp, gl⟩ xi A c w5 (HS.out.below HB.out) HLE.out)
  have HLL : Hid ((lrnE ⟨f, t, i, ⟨p, q, l, wt, fl⟩, gm, gp, gl⟩ xi).1.o.l = l) := hid (lrnV_l _ _)
  have HQ2 : Hid ((lrnE ⟨f, t, i, ⟨p, q, l, wt, fl⟩, gm, gp, gl⟩ xi).1.o.q = q ∨ (lrnE ⟨f, t, i, ⟨p, q, l, wt, fl⟩, gm, gp, gl⟩ xi).1.o.q = 1) := hid (lrnV_q _ _)
  have HD2 : Hid ((lrnE ⟨f, t, i, ⟨p, q, l, wt, fl⟩, gm, gp, gl⟩ xi).2.length ≤ 1) := hid (dataV_len _ _)
  obtain ⟨rv, hrv⟩ : ∃ rv, lrnE ⟨f, t, i, ⟨p, q, l, wt, fl⟩, gm, gp, gl⟩ xi = rv := ⟨_, rfl⟩
  have HLX := hid hrv
  rw [hrv] at HLR HLL HQ2 HD2
  clear hrv
  obtain ⟨⟨f2, t2, i2, ⟨p2, q2, l2, wt2, fl2⟩, gm2, gp2, gl2⟩, L⟩ := rv
  obtain rfl : l2 = l := HLL.out
  simp only at HQ2 HD2
  simp only [ec] at HLR
  go_wp2_with fail
  refine HLR.out.mono ?_
  rintro e w6 ⟨B2, d2, rfl, hP6, hb6⟩
  simp only [ec]
  have hz6 := keep0 HZ.out hb6
  have hx6 := keep0 HX.out hb6
  have hy6 := keep0 HY.out hb6
  have hb7 := HB.out.trans (hb6.mono HB.out.size)
  have hP7 := own_mono hP6 HB.out.size
  clear x0 x1 x2 x3 x4 x5 x6 x7 x8 x9 x10 y0 y1 y2 y3 y4 y5 y6 HX HY HZ HB hb6 hP6 HLR HLL
  go_upto_region 19 with (fail)
  have hbn : Below w6.heap.size w6 (w6.alloc (.cells (ec ⟨f2, t2, i2, ⟨p2, q2, l2, wt2, fl2⟩, gm2, gp2, gl2⟩ A c) 82)) := (Below.refl _ _).alloc (Nat.le_refl _) _
  refine at_world (fun u => u.heap[W.heap.size]? = some (.cells #[.int .i64 f, .int .i64 t, .int .i64 i, .int .i64 p, .int .i64 q, .slice A l2.length c, .int .i64 wt, .int .i64 fl, .int .i64 gm, .int .i64 gp, .int .i64 gl] 82 (0, 0)) ∧ u.heap[w6.heap.size]? = some (.cells (ec ⟨f2, t2, i2, ⟨p2, q2, l2, wt2, fl2⟩, gm2, gp2, gl2⟩ A c) 82 (0, 0)) ∧ u.heap[W.heap.size + 1]? = some (.cells #[.int .i64 kd, .int .i64 xf, .int .i64 xt, .int .i64 xi, .int .i64 xp, .int .i64 xs, .string (str xb)] 30 (0, 0)) ∧ u.heap[W.heap.size + 2]? = some (.cells #[.int .i64 0, .int .i64 0, .int .i64 0, .int .i64 0, .int .i64 0, .slice none 0 0, .int .i64 0, .int .i64 0, .int .i64 0, .int .i64 0, .int .i64 0, .string ⟨#[]⟩, .bool false, .slice none 0 0] 100 (0, 0)) ∧ OwnR W u (.slice B2 L.length d2) L ∧ Below W.heap.size W u) ⟨keep0 hx6 hbn, heap_alloc_new _ _, keep0 hy6 hbn, keep0 hz6 hbn, own_keep hP7 hbn, hb7.trans (hbn.mono hb7.size)⟩ ?_
  have hTW : W.heap.size + 2 < w6.heap.size := lt_of_block hz6
  clear hx6 hy6 hz6 hP7 hb7 hbn
  generalize w6.heap.size = Tb at *
  rintro w7 ⟨hx, ht, hy, hz, hP, hb⟩
  have ef : f2 = f := (congrArg (fun r : Ev × List Pk => r.1.f) HLX.out).symm
  have et : t2 = t := (congrArg (fun r : Ev × List Pk => r.1.t) HLX.out).symm
  have ei : i2 = i := (congrArg (fun r : Ev × List Pk => r.1.i) HLX.out).symm
  have em : gm2 = gm := (congrArg (fun r : Ev × List Pk => r.1.m) HLX.out).symm
  have ep : gp2 = gP gp xi := (congrArg (fun r : Ev × List Pk => r.1.p) HLX.out).symm
  have el : gl2 = gL gp gl xi := (congrArg (fun r : Ev × List Pk => r.1.l) HLX.out).symm
  have eo : (lrnV ⟨p, q, l2, wt, fl⟩ xi).1 = ⟨p2, q2, l2, wt2, fl2⟩ := congrArg (fun r : Ev × List Pk => r.1.o) HLX.out
  have e2 : (lrnE ⟨f, t, i, ⟨p, q, l2, wt, fl⟩, gm, gp, gl⟩ xi).2 = L := congrArg (fun r : Ev × List Pk => r.2) HLX.out
  subst f2 t2 i2 gm2
  have hc : gC gm gp2 gl2 xi xp xs = 2 := by rw [ep, el]; exact HCL.out
  have HR : Hid (datE ⟨f, t, i, ⟨p, q, l2, wt, fl⟩, gm, gp, gl⟩ ⟨kd, xf, xt, xi, xp, xs, xb⟩ = (⟨f, t, i, ⟨p2, q2, l2, wt2, fl2⟩, gm, gP gp2 xi, gN gm gp2 gl2 xi xp xs⟩, L ++ [⟨2, f, t, i, xi, xs, []⟩])) := hid (by
    unfold datE
    rw [show (lrnE ⟨f, t, i, ⟨p, q, l2, wt, fl⟩, gm, gp, gl⟩ (⟨kd, xf, xt, xi, xp, xs, xb⟩ : Pk).i).2 = L from e2]
    unfold ansD dend
    rw [show clsD ⟨f, t, i, ⟨p, q, l2, wt, fl⟩, gm, gp, gl⟩ ⟨kd, xf, xt, xi, xp, xs, xb⟩ = 2 from HCL.out]
    simp only [eo]
    rw [← ep, ← el]
    simp)
  have hgl2 : 0 ≤ gl2 ∧ gl2 ≤ 9223372036854775807 := by
    have := HGL.out
    rw [el]
    unfold gL
    split <;> omega
  have HTK := hid (fun w => rtake_any gm gp2 gl2 xi xp xs w hgl2.1 HXS.out.2 HXS.out.1 hgl2.2)
  rw [hc] at HTK
  clear ep el eo e2 hc hgl2
  generalize gP gp2 xi = gp3 at *
  generalize gN gm gp2 gl2 xi xp xs = gl3 at *
  obtain ⟨⟨x0, x1, x2, x3, x4, x5, x6, x7, x8, x9, x10⟩, _⟩ := eleven_cells ht
  obtain ⟨⟨y0, y1, y2, y3, y4, y5, y6⟩, _⟩ := seven_cells hy
  have HT := hid ht
  have HX := hid hx
  have HY := hid hy
  have HZ := hid hz
  have HP := hid hP
  have HB := hid hb
  clear ht hx hy hz hP hb
  go_wp2_with fail
  refine (HTK.out _).mono ?_
  rintro e w8 ⟨rfl, hb8⟩
  have ht8 := keep0 HT.out hb8
  have hx8 := keep0 HX.out hb8
  have hy8 := keep0 HY.out hb8
  have hz8 := keep0 HZ.out hb8
  have hP8 := own_keep HP.out hb8
  have hB8 := HB.out.trans (hb8.mono HB.out.size)
  clear x0 x1 x2 x3 x4 x5 x6 x7 x8 x9 x10 y0 y1 y2 y3 y4 y5 y6 HT HX HY HZ HP HB hb8 HTK
  go_upto_region 20 with (fail)
  have hbn : Below w8.heap.size w8 (w8.alloc (.cells #[.int .i64 gm, .int .i64 gp3, .int .i64 gl3] 80)) := (Below.refl _ _).alloc (Nat.le_refl _) _
  refine at_world (fun u => u.heap[w8.heap.size]? = some (.cells #[.int .i64 gm, .int .i64 gp3, .int .i64 gl3] 80 (0, 0)) ∧ u.heap[Tb]? = some (.cells (ec ⟨f, t, i, ⟨p2, q2, l2, wt2, fl2⟩, gm, gp2, gl2⟩ A c) 82 (0, 0)) ∧ u.heap[W.heap.size]? = some (.cells #[.int .i64 f, .int .i64 t, .int .i64 i, .int .i64 p, .int .i64 q, .slice A l2.length c, .int .i64 wt, .int .i64 fl, .int .i64 gm, .int .i64 gp, .int .i64 gl] 82 (0, 0)) ∧ u.heap[W.heap.size + 1]? = some (.cells #[.int .i64 kd, .int .i64 xf, .int .i64 xt, .int .i64 xi, .int .i64 xp, .int .i64 xs, .string (str xb)] 30 (0, 0)) ∧ u.heap[W.heap.size + 2]? = some (.cells #[.int .i64 0, .int .i64 0, .int .i64 0, .int .i64 0, .int .i64 0, .slice none 0 0, .int .i64 0, .int .i64 0, .int .i64 0, .int .i64 0, .int .i64 0, .string ⟨#[]⟩, .bool false, .slice none 0 0] 100 (0, 0)) ∧ OwnR W u (.slice B2 L.length d2) L ∧ Below W.heap.size W u) ⟨heap_alloc_new _ _, keep0 ht8 hbn, keep0 hx8 hbn, keep0 hy8 hbn, keep0 hz8 hbn, own_keep hP8 hbn, hB8.trans (hbn.mono hB8.size)⟩ ?_
  clear ht8 hx8 hy8 hz8 hP8 hB8 hbn
  generalize w8.heap.size = To at *
  rintro w8a ⟨ho, ht, hx, hy, hz, hP, hb⟩
  obtain ⟨z0, z1, z2⟩ := three_cellsd ho
  obtain ⟨_, ⟨cg0, cg1, cg2, cg3, cg4, cg5, cg6, cg7, cg8, cg9, cg10⟩⟩ := eleven_cells ht
  have hey : EY W w8a Tb ⟨f, t, i, ⟨p2, q2, l2, wt2, fl2⟩, gm, gp2, gl2⟩ A c := ⟨ht, HS.out.below hb, hb⟩
  have heg := hey.gate (show W.heap.size ≤ Tb by omega) gm gp3 gl3 rfl
  have hot : ∀ g, g ≠ Tb → (((w8a.setCell ⟨Tb, 8, none⟩ (.int .i64 gm)).setCell ⟨Tb, 9, none⟩ (.int .i64 gp3)).setCell ⟨Tb, 10, none⟩ (.int .i64 gl3)).heap[g]? = w8a.heap[g]? := fun g hg => by rw [Below.heap_setCell _ _ _ _ hg, Below.heap_setCell _ _ _ _ hg, Below.heap_setCell _ _ _ _ hg]
  have HT := hid heg.1
  have HB := hid heg.2.2
  have HX := hid ((hot W.heap.size (by omega)).trans hx)
  have HY := hid ((hot (W.heap.size + 1) (by omega)).trans hy)
  have HZ := hid ((hot (W.heap.size + 2) (by omega)).trans hz)
  have HP := hid (own_at hP ht (by decide) hot)
  clear ho ht hx hy hz hP hb hey heg hot
  go_upto_region 21 with (fail)
  refine at_world (fun u => u.heap[Tb]? = some (.cells (ec ⟨f, t, i, ⟨p2, q2, l2, wt2, fl2⟩, gm, gp3, gl3⟩ A c) 82 (0, 0)) ∧ u.heap[W.heap.size]? = some (.cells #[.int .i64 f, .int .i64 t, .int .i64 i, .int .i64 p, .int .i64 q, .slice A l2.length c, .int .i64 wt, .int .i64 fl, .int .i64 gm, .int .i64 gp, .int .i64 gl] 82 (0, 0)) ∧ u.heap[W.heap.size + 1]? = some (.cells #[.int .i64 kd, .int .i64 xf, .int .i64 xt, .int .i64 xi, .int .i64 xp, .int .i64 xs, .string (str xb)] 30 (0, 0)) ∧ u.heap[W.heap.size + 2]? = some (.cells #[.int .i64 0, .int .i64 0, .int .i64 0, .int .i64 0, .int .i64 0, .slice none 0 0, .int .i64 0, .int .i64 0, .int .i64 0, .int .i64 0, .int .i64 0, .string ⟨#[]⟩, .bool false, .slice none 0 0] 100 (0, 0)) ∧ OwnR W u (.slice B2 L.length d2) L ∧ Below W.heap.size W u) ⟨HT.out, HX.out, HY.out, HZ.out, HP.out, HB.out⟩ ?_
  clear z0 z1 z2 cg0 cg1 cg2 cg3 cg4 cg5 cg6 cg7 cg8 cg9 cg10 HT HX HY HZ HP HB
  rintro w9 ⟨ht, hx, hy, hz, hP, hb⟩
  obtain ⟨⟨x0, x1, x2, x3, x4, x5, x6, x7, x8, x9, x10⟩, _⟩ := eleven_cells hx
  obtain ⟨⟨y0, y1, y2, y3, y4, y5, y6⟩, _⟩ := seven_cells hy
  have HT := hid ht
  have HY := hid hy
  have HZ := hid hz
  have HP := hid hP
  have HB := hid hb
  clear ht hx hy hz hP hb
  go_upto_region 26 with (fail)
  have hbn : Below w9.heap.size w9 (w9.alloc (.cells #[.int .i64 2, .int .i64 f, .int .i64 t, .int .i64 i, .int .i64 xi, .int .i64 xs, .string ⟨#[]⟩] 30)) := (Below.refl _ _).alloc (Nat.le_refl _) _
  refine at_world (fun u => u.heap[w9.heap.size]? = some (.cells #[.int .i64 2, .int .i64 f, .int .i64 t, .int .i64 i, .int .i64 xi, .int .i64 xs, .string ⟨#[]⟩] 30 (0, 0)) ∧ u.heap[Tb]? = some (.cells (ec ⟨f, t, i, ⟨p2, q2, l2, wt2, fl2⟩, gm, gp3, gl3⟩ A c) 82 (0, 0)) ∧ u.heap[W.heap.size + 1]? = some (.cells #[.int .i64 kd, .int .i64 xf, .int .i64 xt, .int .i64 xi, .int .i64 xp, .int .i64 xs, .string (str xb)] 30 (0, 0)) ∧ u.heap[W.heap.size + 2]? = some (.cells #[.int .i64 0, .int .i64 0, .int .i64 0, .int .i64 0, .int .i64 0, .slice none 0 0, .int .i64 0, .int .i64 0, .int .i64 0, .int .i64 0, .int .i64 0, .string ⟨#[]⟩, .bool false, .slice none 0 0] 100 (0, 0)) ∧ OwnR W u (.slice B2 L.length d2) L ∧ Below W.heap.size W u) ⟨heap_alloc_new _ _, keep0 HT.out hbn, keep0 HY.out hbn, keep0 HZ.out hbn, own_keep HP.out hbn, HB.out.trans (hbn.mono HB.out.size)⟩ ?_
  clear hbn x0 x1 x2 x3 x4 x5 x6 x7 x8 x9 x10 y0 y1 y2 y3 y4 y5 y6 HT HY HZ HP HB
  generalize w9.heap.size = Pb at *
  rintro w10 ⟨hk, ht, hy, hz, hP, hb⟩
  obtain ⟨⟨y0, y1, y2, y3, y4, y5, y6⟩, _⟩ := seven_cells hk
  have hbn : Below w10.heap.size w10 (w10.alloc (.cells #[.int .i64 2, .int .i64 f, .int .i64 t, .int .i64 i, .int .i64 xi, .int .i64 xs, .string ⟨#[]⟩] 30)) := (Below.refl _ _).alloc (Nat.le_refl _) _
  have HT2 := hid (keep0 ht hbn)
  have HY2 := hid (keep0 hy hbn)
  have HZ2 := hid (keep0 hz hbn)
  have HP2 := hid (own_keep hP hbn)
  have hB2 := hb.trans (hbn.mono hb.size)
  have HB2 := hid hB2
  have HSL := hid (Sl.lit w10 30 7 1 #[.int .i64 2, .int .i64 f, .int .i64 t, .int .i64 i, .int .i64 xi, .int .i64 xs, .string ⟨#[]⟩] rfl (by unfold maxLen; omega))
  have hle := hB2.size
  have hl1 : L.length ≤ 1 := HD2.out
  clear hk ht hy hz hP hb hbn hB2
  go_wp2_with (at_builtin; refine wpList_append_mid rfl (.tmp 145) (.tmp 147) 83 rfl W.heap.size 30 Tryz.underlying83 info_rpk rfl (by omega) rfl (Mid.of_own HP2.out) rfl HSL.out (by simp [Value.oneCell']) (by show L.length + 1 ≤ _; unfold maxLen; omega) (by show (L.length + 1) * 64 ≤ _; omega) hle HB2.out ?_)
  intro v11 w11 hM hb hsz11 hk11
  obtain ⟨B5, d5, rfl, _⟩ := Mid.form hM
  have ht := (hk11 Tb (by simpa using lt_of_block HT2.out) (own_blk_ne HP2.out HT2.out (by decide))).trans HT2.out
  have hz := (hk11 (W.heap.size + 2) (by simpa using lt_of_block HZ2.out) (own_blk_ne HP2.out HZ2.out (by decide))).trans HZ2.out
  clear y0 y1 y2 y3 y4 y5 y6 HT2 HY2 HZ2 HP2 HB2 HSL hsz11 hk11 hle
  go_upto_region 27 with (fail)
  refine at_world (fun u => u.heap[Tb]? = some (.cells (ec ⟨f, t, i, ⟨p2, q2, l2, wt2, fl2⟩, gm, gp3, gl3⟩ A c) 82 (0, 0)) ∧ u.heap[W.heap.size + 2]? = some (.cells #[.int .i64 0, .int .i64 0, .int .i64 0, .int .i64 0, .int .i64 0, .slice none 0 0, .int .i64 0, .int .i64 0, .int .i64 0, .int .i64 0, .int .i64 0, .string ⟨#[]⟩, .bool false, .slice none 0 0] 100 (0, 0)) ∧ Mid u W.heap.size 30 7 (.slice B5 (L.length + 1) d5) (L.length + 1) (gcells pkc (L ++ [⟨2, f, t, i, xi, xs, []⟩])) ∧ Below W.heap.size W u) ⟨ht, hz, (by rw [gcells_append]; exact hM), hb⟩ ?_
  clear ht hz hM hb
  rintro w12 ⟨ht, hz, hM, hb⟩
  obtain ⟨⟨x0, x1, x2, x3, x4, x5, x6, x7, x8, x9, x10⟩, _⟩ := eleven_cells ht
  obtain ⟨_, ⟨g0, g1, g2, g3, g4, g5, g6, g7, g8, g9, g10, g11, g12, g13⟩⟩ := fourteen_cells hz
  obtain ⟨⟨r0, r1, r2, r3, r4, r5, r6, r7, r8, r9, r10, r11, r12, r13⟩, _⟩ := fourteen_cells (put14_heap hz (.int .i64 f) (.int .i64 t) (.int .i64 i) (.int .i64 p2) (.int .i64 q2) (.slice A l2.length c) (.int .i64 wt2) (.int .i64 fl2) (.int .i64 gm) (.int .i64 gp3) (.int .i64 gl3) (.string ⟨#[]⟩) (.bool false) (.slice B5 (L.length + 1) d5))
  have HB9 := hid (put14_below hb (show W.heap.size ≤ W.heap.size + 2 by omega) (.int .i64 f) (.int .i64 t) (.int .i64 i) (.int .i64 p2) (.int .i64 q2) (.slice A l2.length c) (.int .i64 wt2) (.int .i64 fl2) (.int .i64 gm) (.int .i64 gp3) (.int .i64 gl3) (.string ⟨#[]⟩) (.bool false) (.slice B5 (L.length + 1) d5))
  have HP9 := hid (Mid.sl (hM.only hz (by decide) fun g hg _ => put14_other hg (.int .i64 f) (.int .i64 t) (.int .i64 i) (.int .i64 p2) (.int .i64 q2) (.slice A l2.length c) (.int .i64 wt2) (.int .i64 fl2) (.int .i64 gm) (.int .i64 gp3) (.int .i64 gl3) (.string ⟨#[]⟩) (.bool false) (.slice B5 (L.length + 1) d5)))
  simp only [put14] at r0 r1 r2 r3 r4 r5 r6 r7 r8 r9 r10 r11 r12 r13
  clear ht hz hb hM
  go_wp2
  exact bodyPost_ret (v := .agg (tkc ⟨f, t, i, ⟨p2, q2, l2, wt2, fl2⟩, gm, gp3, gl3⟩ A c ⟨#[]⟩ false B5 (L.length + 1) d5)) (by simp [results, Tryz.results37, go_sem, tkc, r0, r1, r2, r3, r4, r5, r6, r7, r8, r9, r10, r11, r12, r13]) rfl (by rw [HR.out]; exact ⟨A, c, B5, d5, (by simp only [List.length_append, List.length_cons, List.length_nil, Nat.zero_add]), HS.out.below HB9.out, (by rw [List.length_append]; exact HP9.out), HB9.out⟩)

set_option maxRecDepth 20000 in
set_option maxHeartbeats 4000000 in
theorem r26take_1c3 (f t i p q : Int) (l : List (List UInt8)) (wt fl gm gp gl : Int) (kd xf xt xi xp xs : Int) (xb : List UInt8) (A : Option Addr) (c : Nat) (W : World) (h : Sl W 1 A l.length c (scells l)) (hk : okP kd xf xt xi xp xs xb = true) (h1 : xf = t) (h2 : xt = f) (h3 : ¬ xi < gp) (h4 : kd = 1) (hle : l.length ≤ 1000) (hgl : 0 ≤ gl ∧ gl ≤ 9223372036854775807) (hxs : -9223372036854775808 ≤ xs ∧ xs ≤ 9223372036854775807) (hcl : clsD ⟨f, t, i, ⟨p, q, l, wt, fl⟩, gm, gp, gl⟩ ⟨kd, xf, xt, xi, xp, xs, xb⟩ = 3) :
    Calls Tryz.prog 37 #[.agg #[.int .i64 f, .int .i64 t, .int .i64 i, .int .i64 p, .int .i64 q, .slice A l.length c, .int .i64 wt, .int .i64 fl, .int .i64 gm, .int .i64 gp, .int .i64 gl], .agg #[.int .i64 kd, .int .i64 xf, .int .i64 xt, .int .i64 xi, .int .i64 xp, .int .i64 xs, .string (str xb)]] W (RTook (datE ⟨f, t, i, ⟨p, q, l, wt, fl⟩, gm, gp, gl⟩ ⟨kd, xf, xt, xi, xp, xs, xb⟩) ⟨#[]⟩ false W) := by
  have HS := hid h
  have HCK := hid (fun w => rcheck_any kd xf xt xi xp xs (str xb) w)
  rw [str_list] at HCK
  have HLE := hid hle
  have HGL := hid hgl
  have HXS := hid hxs
  have HCL := hid hcl
  rw [hk] at HCK
  have b1 : (xf != t) = false := by simpa using h1
  have b2 : (xt != f) = false := by simpa using h2
  have b3 : decide (xi < gp) = false := decide_eq_false h3
  have b4 : (kd == 4) = false := by simp; omega
  have b5 : (kd == 3) = false := by simp; omega
  have b6 : (kd == 2) = false := by simp; omega
  clear h hk h1 h2 h4 hle hgl hxs hcl
  go_enter Tryz.func37, Tryz.ntmps37
  go_upto_region 1 with (fail)
  refine at_world (fun u => u.heap[W.heap.size]? = some (.cells #[.int .i64 f, .int .i64 t, .int .i64 i, .int .i64 p, .int .i64 q, .slice A l.length c, .int .i64 wt, .int .i64 fl, .int .i64 gm, .int .i64 gp, .int .i64 gl] 82 (0, 0)) ∧ u.heap[W.heap.size + 1]? = some (.cells #[.int .i64 kd, .int .i64 xf, .int .i64 xt, .int .i64 xi, .int .i64 xp, .int .i64 xs, .string (str xb)] 30 (0, 0)) ∧ u.heap[W.heap.size + 2]? = some (.cells #[.int .i64 0, .int .i64 0, .int .i64 0, .int .i64 0, .int .i64 0, .slice none 0 0, .int .i64 0, .int .i64 0, .int .i64 0, .int .i64 0, .int .i64 0, .string ⟨#[]⟩, .bool false, .slice none 0 0] 100 (0, 0)) ∧ Below W.heap.size W u) (al3 _ _ _ _) ?_
  rintro w1 ⟨hx, hy, hz, hb⟩
  obtain ⟨⟨y0, y1, y2, y3, y4, y5, y6⟩, _⟩ := seven_cells hy
  have HX1 := hid hx
  have HY1 := hid hy
  have HZ1 := hid hz
  have HB1 := hid hb
  clear hx hy hz hb
  go_wp2_with fail
  refine (HCK.out _).mono ?_
  rintro e w5 ⟨rfl, hb5⟩
  have HX := hid (keep0 HX1.out hb5)
  have HY := hid (keep0 HY1.out hb5)
  have HZ := hid (keep0 HZ1.out hb5)
  have HB := hid (HB1.out.trans (hb5.mono HB1.out.size))
  clear y0 y1 y2 y3 y4 y5 y6 HX1 HY1 HZ1 HB1 hb5 HCK
  obtain ⟨⟨x0, x1, x2, x3, x4, x5, x6, x7, x8, x9, x10⟩, _⟩ := eleven_cells HX.out
  obtain ⟨⟨y0, y1, y2, y3, y4, y5, y6⟩, _⟩ := seven_cells HY.out
  have HLR := hid (r26learn_ex ⟨f, t, i, ⟨p, q, l, wt, fl⟩, gm, gp, gl⟩ xi A c w5 (HS.out.below HB.out) HLE.out)
  have HLL : Hid ((lrnE ⟨f, t, i, ⟨p, q, l, wt, fl⟩, gm, gp, gl⟩ xi).1.o.l = l) := hid (lrnV_l _ _)
  have HQ2 : Hid ((lrnE ⟨f, t, i, ⟨p, q, l, wt, fl⟩, gm, gp, gl⟩ xi).1.o.q = q ∨ (lrnE ⟨f, t, i, ⟨p, q, l, wt, fl⟩, gm, gp, gl⟩ xi).1.o.q = 1) := hid (lrnV_q _ _)
  have HD2 : Hid ((lrnE ⟨f, t, i, ⟨p, q, l, wt, fl⟩, gm, gp, gl⟩ xi).2.length ≤ 1) := hid (dataV_len _ _)
  obtain ⟨rv, hrv⟩ : ∃ rv, lrnE ⟨f, t, i, ⟨p, q, l, wt, fl⟩, gm, gp, gl⟩ xi = rv := ⟨_, rfl⟩
  have HLX := hid hrv
  rw [hrv] at HLR HLL HQ2 HD2
  clear hrv
  obtain ⟨⟨f2, t2, i2, ⟨p2, q2, l2, wt2, fl2⟩, gm2, gp2, gl2⟩, L⟩ := rv
  obtain rfl : l2 = l := HLL.out
  simp only at HQ2 HD2
  simp only [ec] at HLR
  go_wp2_with fail
  refine HLR.out.mono ?_
  rintro e w6 ⟨B2, d2, rfl, hP6, hb6⟩
  simp only [ec]
  have hz6 := keep0 HZ.out hb6
  have hx6 := keep0 HX.out hb6
  have hy6 := keep0 HY.out hb6
  have hb7 := HB.out.trans (hb6.mono HB.out.size)
  have hP7 := own_mono hP6 HB.out.size
  clear x0 x1 x2 x3 x4 x5 x6 x7 x8 x9 x10 y0 y1 y2 y3 y4 y5 y6 HX HY HZ HB hb6 hP6 HLR HLL
  go_upto_region 19 with (fail)
  have hbn : Below w6.heap.size w6 (w6.alloc (.cells (ec ⟨f2, t2, i2, ⟨p2, q2, l2, wt2, fl2⟩, gm2, gp2, gl2⟩ A c) 82)) := (Below.refl _ _).alloc (Nat.le_refl _) _
  refine at_world (fun u => u.heap[W.heap.size]? = some (.cells #[.int .i64 f, .int .i64 t, .int .i64 i, .int .i64 p, .int .i64 q, .slice A l2.length c, .int .i64 wt, .int .i64 fl, .int .i64 gm, .int .i64 gp, .int .i64 gl] 82 (0, 0)) ∧ u.heap[w6.heap.size]? = some (.cells (ec ⟨f2, t2, i2, ⟨p2, q2, l2, wt2, fl2⟩, gm2, gp2, gl2⟩ A c) 82 (0, 0)) ∧ u.heap[W.heap.size + 1]? = some (.cells #[.int .i64 kd, .int .i64 xf, .int .i64 xt, .int .i64 xi, .int .i64 xp, .int .i64 xs, .string (str xb)] 30 (0, 0)) ∧ u.heap[W.heap.size + 2]? = some (.cells #[.int .i64 0, .int .i64 0, .int .i64 0, .int .i64 0, .int .i64 0, .slice none 0 0, .int .i64 0, .int .i64 0, .int .i64 0, .int .i64 0, .int .i64 0, .string ⟨#[]⟩, .bool false, .slice none 0 0] 100 (0, 0)) ∧ OwnR W u (.slice B2 L.length d2) L ∧ Below W.heap.size W u) ⟨keep0 hx6 hbn, heap_alloc_new _ _, keep0 hy6 hbn, keep0 hz6 hbn, own_keep hP7 hbn, hb7.trans (hbn.mono hb7.size)⟩ ?_
  have hTW : W.heap.size + 2 < w6.heap.size := lt_of_block hz6
  clear hx6 hy6 hz6 hP7 hb7 hbn
  generalize w6.heap.size = Tb at *
  rintro w7 ⟨hx, ht, hy, hz, hP, hb⟩
  have ef : f2 = f := (congrArg (fun r : Ev × List Pk => r.1.f) HLX.out).symm
  have et : t2 = t := (congrArg (fun r : Ev × List Pk => r.1.t) HLX.out).symm
  have ei : i2 = i := (congrArg (fun r : Ev × List Pk => r.1.i) HLX.out).symm
  have em : gm2 = gm := (congrArg (fun r : Ev × List Pk => r.1.m) HLX.out).symm
  have ep : gp2 = gP gp xi := (congrArg (fun r : Ev × List Pk => r.1.p) HLX.out).symm
  have el : gl2 = gL gp gl xi := (congrArg (fun r : Ev × List Pk => r.1.l) HLX.out).symm
  have eo : (lrnV ⟨p, q, l2, wt, fl⟩ xi).1 = ⟨p2, q2, l2, wt2, fl2⟩ := congrArg (fun r : Ev × List Pk => r.1.o) HLX.out
  have e2 : (lrnE ⟨f, t, i, ⟨p, q, l2, wt, fl⟩, gm, gp, gl⟩ xi).2 = L := congrArg (fun r : Ev × List Pk => r.2) HLX.out
  subst f2 t2 i2 gm2
  have hc : gC gm gp2 gl2 xi xp xs = 3 := by rw [ep, el]; exact HCL.out
  have HR : Hid (datE ⟨f, t, i, ⟨p, q, l2, wt, fl⟩, gm, gp, gl⟩ ⟨kd, xf, xt, xi, xp, xs, xb⟩ = (⟨f, t, i, ⟨p2, q2, l2, wt2, fl2⟩, gm, gP gp2 xi, gN gm gp2 gl2 xi xp xs⟩, L ++ [⟨3, f, t, i, xi, 0, []⟩])) := hid (by
    unfold datE
    rw [show (lrnE ⟨f, t, i, ⟨p, q, l2, wt, fl⟩, gm, gp, gl⟩ (⟨kd, xf, xt, xi, xp, xs, xb⟩ : Pk).i).2 = L from e2]
    unfold ansD dend
    rw [show clsD ⟨f, t, i, ⟨p, q, l2, wt, fl⟩, gm, gp, gl⟩ ⟨kd, xf, xt, xi, xp, xs, xb⟩ = 3 from HCL.out]
    simp only [eo]
    rw [← ep, ← el]
    simp)
  have hgl2 : 0 ≤ gl2 ∧ gl2 ≤ 9223372036854775807 := by
    have := HGL.out
    rw [el]
    unfold gL
    split <;> omega
  have HTK := hid (fun w => rtake_any gm gp2 gl2 xi xp xs w hgl2.1 HXS.out.2 HXS.out.1 hgl2.2)
  rw [hc] at HTK
  clear ep el eo e2 hc hgl2
  generalize gP gp2 xi = gp3 at *
  generalize gN gm gp2 gl2 xi xp xs = gl3 at *
  obtain ⟨⟨x0, x1, x2, x3, x4, x5, x6, x7, x8, x9, x10⟩, _⟩ := eleven_cells ht
  obtain ⟨⟨y0, y1, y2, y3, y4, y5, y6⟩, _⟩ := seven_cells hy
  have HT := hid ht
  have HX := hid hx
  have HY := hid hy
  have HZ := hid hz
  have HP := hid hP
  have HB := hid hb
  clear ht hx hy hz hP hb
  go_wp2_with fail
  refine (HTK.out _).mono ?_
  rintro e w8 ⟨rfl, hb8⟩
  have ht8 := keep0 HT.out hb8
  have hx8 := keep0 HX.out hb8
  have hy8 := keep0 HY.out hb8
  have hz8 := keep0 HZ.out hb8
  have hP8 := own_keep HP.out hb8
  have hB8 := HB.out.trans (hb8.mono HB.out.size)
  clear x0 x1 x2 x3 x4 x5 x6 x7 x8 x9 x10 y0 y1 y2 y3 y4 y5 y6 HT HX HY HZ HP HB hb8 HTK
  go_upto_region 20 with (fail)
  have hbn : Below w8.heap.size w8 (w8.alloc (.cells #[.int .i64 gm, .int .i64 gp3, .int .i64 gl3] 80)) := (Below.refl _ _).alloc (Nat.le_refl _) _
  refine at_world (fun u => u.heap[w8.heap.size]? = some (.cells #[.int .i64 gm, .int .i64 gp3, .int .i64 gl3] 80 (0, 0)) ∧ u.heap[Tb]? = some (.cells (ec ⟨f, t, i, ⟨p2, q2, l2, wt2, fl2⟩, gm, gp2, gl2⟩ A c) 82 (0, 0)) ∧ u.heap[W.heap.size]? = some (.cells #[.int .i64 f, .int .i64 t, .int .i64 i, .int .i64 p, .int .i64 q, .slice A l2.length c, .int .i64 wt, .int .i64 fl, .int .i64 gm, .int .i64 gp, .int .i64 gl] 82 (0, 0)) ∧ u.heap[W.heap.size + 1]? = some (.cells #[.int .i64 kd, .int .i64 xf, .int .i64 xt, .int .i64 xi, .int .i64 xp, .int .i64 xs, .string (str xb)] 30 (0, 0)) ∧ u.heap[W.heap.size + 2]? = some (.cells #[.int .i64 0, .int .i64 0, .int .i64 0, .int .i64 0, .int .i64 0, .slice none 0 0, .int .i64 0, .int .i64 0, .int .i64 0, .int .i64 0, .int .i64 0, .string ⟨#[]⟩, .bool false, .slice none 0 0] 100 (0, 0)) ∧ OwnR W u (.slice B2 L.length d2) L ∧ Below W.heap.size W u) ⟨heap_alloc_new _ _, keep0 ht8 hbn, keep0 hx8 hbn, keep0 hy8 hbn, keep0 hz8 hbn, own_keep hP8 hbn, hB8.trans (hbn.mono hB8.size)⟩ ?_
  clear ht8 hx8 hy8 hz8 hP8 hB8 hbn
  generalize w8.heap.size = To at *
  rintro w8a ⟨ho, ht, hx, hy, hz, hP, hb⟩
  obtain ⟨z0, z1, z2⟩ := three_cellsd ho
  obtain ⟨_, ⟨cg0, cg1, cg2, cg3, cg4, cg5, cg6, cg7, cg8, cg9, cg10⟩⟩ := eleven_cells ht
  have hey : EY W w8a Tb ⟨f, t, i, ⟨p2, q2, l2, wt2, fl2⟩, gm, gp2, gl2⟩ A c := ⟨ht, HS.out.below hb, hb⟩
  have heg := hey.gate (show W.heap.size ≤ Tb by omega) gm gp3 gl3 rfl
  have hot : ∀ g, g ≠ Tb → (((w8a.setCell ⟨Tb, 8, none⟩ (.int .i64 gm)).setCell ⟨Tb, 9, none⟩ (.int .i64 gp3)).setCell ⟨Tb, 10, none⟩ (.int .i64 gl3)).heap[g]? = w8a.heap[g]? := fun g hg => by rw [Below.heap_setCell _ _ _ _ hg, Below.heap_setCell _ _ _ _ hg, Below.heap_setCell _ _ _ _ hg]
  have HT := hid heg.1
  have HB := hid heg.2.2
  have HX := hid ((hot W.heap.size (by omega)).trans hx)
  have HY := hid ((hot (W.heap.size + 1) (by omega)).trans hy)
  have HZ := hid ((hot (W.heap.size + 2) (by omega)).trans hz)
  have HP := hid (own_at hP ht (by decide) hot)
  clear ho ht hx hy hz hP hb hey heg hot
  go_upto_region 21 with (fail)
  refine at_world (fun u => u.heap[Tb]? = some (.cells (ec ⟨f, t, i, ⟨p2, q2, l2, wt2, fl2⟩, gm, gp3, gl3⟩ A c) 82 (0, 0)) ∧ u.heap[W.heap.size]? = some (.cells #[.int .i64 f, .int .i64 t, .int .i64 i, .int .i64 p, .int .i64 q, .slice A l2.length c, .int .i64 wt, .int .i64 fl, .int .i64 gm, .int .i64 gp, .int .i64 gl] 82 (0, 0)) ∧ u.heap[W.heap.size + 1]? = some (.cells #[.int .i64 kd, .int .i64 xf, .int .i64 xt, .int .i64 xi, .int .i64 xp, .int .i64 xs, .string (str xb)] 30 (0, 0)) ∧ u.heap[W.heap.size + 2]? = some (.cells #[.int .i64 0, .int .i64 0, .int .i64 0, .int .i64 0, .int .i64 0, .slice none 0 0, .int .i64 0, .int .i64 0, .int .i64 0, .int .i64 0, .int .i64 0, .string ⟨#[]⟩, .bool false, .slice none 0 0] 100 (0, 0)) ∧ OwnR W u (.slice B2 L.length d2) L ∧ Below W.heap.size W u) ⟨HT.out, HX.out, HY.out, HZ.out, HP.out, HB.out⟩ ?_
  clear z0 z1 z2 cg0 cg1 cg2 cg3 cg4 cg5 cg6 cg7 cg8 cg9 cg10 HT HX HY HZ HP HB
  rintro w9 ⟨ht, hx, hy, hz, hP, hb⟩
  obtain ⟨⟨x0, x1, x2, x3, x4, x5, x6, x7, x8, x9, x10⟩, _⟩ := eleven_cells hx
  obtain ⟨⟨y0, y1, y2, y3, y4, y5, y6⟩, _⟩ := seven_cells hy
  have HT := hid ht
  have HY := hid hy
  have HZ := hid hz
  have HP := hid hP
  have HB := hid hb
  clear ht hx hy hz hP hb
  go_upto_region 26 with (fail)
  have hbn : Below w9.heap.size w9 (w9.alloc (.cells #[.int .i64 3, .int .i64 f, .int .i64 t, .int .i64 i, .int .i64 xi, .int .i64 0, .string ⟨#[]⟩] 30)) := (Below.refl _ _).alloc (Nat.le_refl _) _
  refine at_world (fun u => u.heap[w9.heap.size]? = some (.cells #[.int .i64 3, .int .i64 f, .int .i64 t, .int .i64 i, .int .i64 xi, .int .i64 0, .string ⟨#[]⟩] 30 (0, 0)) ∧ u.heap[Tb]? = some (.cells (ec ⟨f, t, i, ⟨p2, q2, l2, wt2, fl2⟩, gm, gp3, gl3⟩ A c) 82 (0, 0)) ∧ u.heap[W.heap.size + 1]? = some (.cells #[.int .i64 kd, .int .i64 xf, .int .i64 xt, .int .i64 xi, .int .i64 xp, .int .i64 xs, .string (str xb)] 30 (0, 0)) ∧ u.heap[W.heap.size + 2]? = some (.cells #[.int .i64 0, .int .i64 0, .int .i64 0, .int .i64 0, .int .i64 0, .slice none 0 0, .int .i64 0, .int .i64 0, .int .i64 0, .int .i64 0, .int .i64 0, .string ⟨#[]⟩, .bool false, .slice none 0 0] 100 (0, 0)) ∧ OwnR W u (.slice B2 L.length d2) L ∧ Below W.heap.size W u) ⟨heap_alloc_new _ _, keep0 HT.out hbn, keep0 HY.out hbn, keep0 HZ.out hbn, own_keep HP.out hbn, HB.out.trans (hbn.mono HB.out.size)⟩ ?_
  clear hbn x0 x1 x2 x3 x4 x5 x6 x7 x8 x9 x10 y0 y1 y2 y3 y4 y5 y6 HT HY HZ HP HB
  generalize w9.heap.size = Pb at *
  rintro w10 ⟨hk, ht, hy, hz, hP, hb⟩
  obtain ⟨⟨y0, y1, y2, y3, y4, y5, y6⟩, _⟩ := seven_cells hk
  have hbn : Below w10.heap.size w10 (w10.alloc (.cells #[.int .i64 3, .int .i64 f, .int .i64 t, .int .i64 i, .int .i64 xi, .int .i64 0, .string ⟨#[]⟩] 30)) := (Below.refl _ _).alloc (Nat.le_refl _) _
  have HT2 := hid (keep0 ht hbn)
  have HY2 := hid (keep0 hy hbn)
  have HZ2 := hid (keep0 hz hbn)
  have HP2 := hid (own_keep hP hbn)
  have hB2 := hb.trans (hbn.mono hb.size)
  have HB2 := hid hB2
  have HSL := hid (Sl.lit w10 30 7 1 #[.int .i64 3, .int .i64 f, .int .i64 t, .int .i64 i, .int .i64 xi, .int .i64 0, .string ⟨#[]⟩] rfl (by unfold maxLen; omega))
  have hle := hB2.size
  have hl1 : L.length ≤ 1 := HD2.out
  clear hk ht hy hz hP hb hbn hB2
  go_wp2_with (at_builtin; refine wpList_append_mid rfl (.tmp 145) (.tmp 147) 83 rfl W.heap.size 30 Tryz.underlying83 info_rpk rfl (by omega) rfl (Mid.of_own HP2.out) rfl HSL.out (by simp [Value.oneCell']) (by show L.length + 1 ≤ _; unfold maxLen; omega) (by show (L.length + 1) * 64 ≤ _; omega) hle HB2.out ?_)
  intro v11 w11 hM hb hsz11 hk11
  obtain ⟨B5, d5, rfl, _⟩ := Mid.form hM
  have ht := (hk11 Tb (by simpa using lt_of_block HT2.out) (own_blk_ne HP2.out HT2.out (by decide))).trans HT2.out
  have hz := (hk11 (W.heap.size + 2) (by simpa using lt_of_block HZ2.out) (own_blk_ne HP2.out HZ2.out (by decide))).trans HZ2.out
  clear y0 y1 y2 y3 y4 y5 y6 HT2 HY2 HZ2 HP2 HB2 HSL hsz11 hk11 hle
  go_upto_region 27 with (fail)
  refine at_world (fun u => u.heap[Tb]? = some (.cells (ec ⟨f, t, i, ⟨p2, q2, l2, wt2, fl2⟩, gm, gp3, gl3⟩ A c) 82 (0, 0)) ∧ u.heap[W.heap.size + 2]? = some (.cells #[.int .i64 0, .int .i64 0, .int .i64 0, .int .i64 0, .int .i64 0, .slice none 0 0, .int .i64 0, .int .i64 0, .int .i64 0, .int .i64 0, .int .i64 0, .string ⟨#[]⟩, .bool false, .slice none 0 0] 100 (0, 0)) ∧ Mid u W.heap.size 30 7 (.slice B5 (L.length + 1) d5) (L.length + 1) (gcells pkc (L ++ [⟨3, f, t, i, xi, 0, []⟩])) ∧ Below W.heap.size W u) ⟨ht, hz, (by rw [gcells_append]; exact hM), hb⟩ ?_
  clear ht hz hM hb
  rintro w12 ⟨ht, hz, hM, hb⟩
  obtain ⟨⟨x0, x1, x2, x3, x4, x5, x6, x7, x8, x9, x10⟩, _⟩ := eleven_cells ht
  obtain ⟨_, ⟨g0, g1, g2, g3, g4, g5, g6, g7, g8, g9, g10, g11, g12, g13⟩⟩ := fourteen_cells hz
  obtain ⟨⟨r0, r1, r2, r3, r4, r5, r6, r7, r8, r9, r10, r11, r12, r13⟩, _⟩ := fourteen_cells (put14_heap hz (.int .i64 f) (.int .i64 t) (.int .i64 i) (.int .i64 p2) (.int .i64 q2) (.slice A l2.length c) (.int .i64 wt2) (.int .i64 fl2) (.int .i64 gm) (.int .i64 gp3) (.int .i64 gl3) (.string ⟨#[]⟩) (.bool false) (.slice B5 (L.length + 1) d5))
  have HB9 := hid (put14_below hb (show W.heap.size ≤ W.heap.size + 2 by omega) (.int .i64 f) (.int .i64 t) (.int .i64 i) (.int .i64 p2) (.int .i64 q2) (.slice A l2.length c) (.int .i64 wt2) (.int .i64 fl2) (.int .i64 gm) (.int .i64 gp3) (.int .i64 gl3) (.string ⟨#[]⟩) (.bool false) (.slice B5 (L.length + 1) d5))
  have HP9 := hid (Mid.sl (hM.only hz (by decide) fun g hg _ => put14_other hg (.int .i64 f) (.int .i64 t) (.int .i64 i) (.int .i64 p2) (.int .i64 q2) (.slice A l2.length c) (.int .i64 wt2) (.int .i64 fl2) (.int .i64 gm) (.int .i64 gp3) (.int .i64 gl3) (.string ⟨#[]⟩) (.bool false) (.slice B5 (L.length + 1) d5)))
  simp only [put14] at r0 r1 r2 r3 r4 r5 r6 r7 r8 r9 r10 r11 r12 r13
  clear ht hz hb hM
  go_wp2
  exact bodyPost_ret (v := .agg (tkc ⟨f, t, i, ⟨p2, q2, l2, wt2, fl2⟩, gm, gp3, gl3⟩ A c ⟨#[]⟩ false B5 (L.length + 1) d5)) (by simp [results, Tryz.results37, go_sem, tkc, r0, r1, r2, r3, r4, r5, r6, r7, r8, r9, r10, r11, r12, r13]) rfl (by rw [HR.out]; exact ⟨A, c, B5, d5, (by simp only [List.length_append, List.length_cons, List.length_nil, Nat.zero_add]), HS.out.below HB9.out, (by rw [List.length_append]; exact HP9.out), HB9.out⟩)
end Go.Proofs.YtdphdodjidbngaaGreat

namespace Go.Proofs.YtdphdodjidbngaaGreat
open Go.RowKit Go.Sort
set_option linter.unusedVariables false
set_option linter.unusedSimpArgs false
theorem clsD_four (e : Ev) (x : Pk) : clsD e x = 0 ∨ clsD e x = 1 ∨ clsD e x = 2 ∨ clsD e x = 3 := by
  unfold clsD gC
  repeat' split
  all_goals simp
theorem r26take_any (f t i p q : Int) (l : List (List UInt8)) (wt fl gm gp gl : Int) (kd xf xt xi xp xs : Int) (xb : List UInt8) (A : Option Addr) (c : Nat) (W : World) (h : Sl W 1 A l.length c (scells l)) (hle : l.length ≤ 1000) (hnel : ∀ t ∈ l, t ≠ []) (hgl : 0 ≤ gl ∧ gl ≤ 9223372036854775807) (hxs : -9223372036854775808 ≤ xs ∧ xs ≤ 9223372036854775807) (hq : q < 9223372036854775807) (hq0 : -9223372036854775808 ≤ q) :
    Calls Tryz.prog 37 #[.agg #[.int .i64 f, .int .i64 t, .int .i64 i, .int .i64 p, .int .i64 q, .slice A l.length c, .int .i64 wt, .int .i64 fl, .int .i64 gm, .int .i64 gp, .int .i64 gl], .agg #[.int .i64 kd, .int .i64 xf, .int .i64 xt, .int .i64 xi, .int .i64 xp, .int .i64 xs, .string (str xb)]] W (RTook (takV ⟨f, t, i, ⟨p, q, l, wt, fl⟩, gm, gp, gl⟩ ⟨kd, xf, xt, xi, xp, xs, xb⟩).1 (takV ⟨f, t, i, ⟨p, q, l, wt, fl⟩, gm, gp, gl⟩ ⟨kd, xf, xt, xi, xp, xs, xb⟩).2.1 (takV ⟨f, t, i, ⟨p, q, l, wt, fl⟩, gm, gp, gl⟩ ⟨kd, xf, xt, xi, xp, xs, xb⟩).2.2 W) := by
  by_cases hk : okP kd xf xt xi xp xs xb = true
  · by_cases h1 : xf = t
    · by_cases h2 : xt = f
      · by_cases h3 : xi < gp
        · have hv : takV ⟨f, t, i, ⟨p, q, l, wt, fl⟩, gm, gp, gl⟩ ⟨kd, xf, xt, xi, xp, xs, xb⟩ = ((⟨f, t, i, ⟨p, q, l, wt, fl⟩, gm, gp, gl⟩, []), ⟨#[]⟩, false) := by unfold takV; rw [if_pos (show badT ⟨f, t, i, ⟨p, q, l, wt, fl⟩, gm, gp, gl⟩ ⟨kd, xf, xt, xi, xp, xs, xb⟩ from Or.inr (Or.inr (Or.inr h3)))]
          rw [hv]
          exact r26take_bad3 f t i p q l wt fl gm gp gl kd xf xt xi xp xs xb A c W h hk h1 h2 h3
        · have hbd : ¬ badT ⟨f, t, i, ⟨p, q, l, wt, fl⟩, gm, gp, gl⟩ ⟨kd, xf, xt, xi, xp, xs, xb⟩ := by
            rintro (h9 | h9 | h9 | h9)
            · exact absurd (show okP kd xf xt xi xp xs xb = false from h9) (by rw [hk]; decide)
            · exact h9 h1
            · exact h9 h2
            · exact h3 h9
          have hkk := (okP_iff hk).1
          by_cases k1 : kd = 1
          · have hv : takV ⟨f, t, i, ⟨p, q, l, wt, fl⟩, gm, gp, gl⟩ ⟨kd, xf, xt, xi, xp, xs, xb⟩ = (datE ⟨f, t, i, ⟨p, q, l, wt, fl⟩, gm, gp, gl⟩ ⟨kd, xf, xt, xi, xp, xs, xb⟩, (if clsD ⟨f, t, i, ⟨p, q, l, wt, fl⟩, gm, gp, gl⟩ ⟨kd, xf, xt, xi, xp, xs, xb⟩ = 1 then str xb else ⟨#[]⟩), decide (clsD ⟨f, t, i, ⟨p, q, l, wt, fl⟩, gm, gp, gl⟩ ⟨kd, xf, xt, xi, xp, xs, xb⟩ = 1)) := by unfold takV; rw [if_neg hbd, if_pos (show (⟨kd, xf, xt, xi, xp, xs, xb⟩ : Pk).k = 1 from k1)]
            rw [hv]
            rcases clsD_four ⟨f, t, i, ⟨p, q, l, wt, fl⟩, gm, gp, gl⟩ ⟨kd, xf, xt, xi, xp, xs, xb⟩ with hc | hc | hc | hc
            · rw [hc]; exact r26take_1c0 f t i p q l wt fl gm gp gl kd xf xt xi xp xs xb A c W h hk h1 h2 h3 k1 hle hgl hxs hc
            · rw [hc]; exact r26take_1c1 f t i p q l wt fl gm gp gl kd xf xt xi xp xs xb A c W h hk h1 h2 h3 k1 hle hgl hxs hc
            · rw [hc]; exact r26take_1c2 f t i p q l wt fl gm gp gl kd xf xt xi xp xs xb A c W h hk h1 h2 h3 k1 hle hgl hxs hc
            · rw [hc]; exact r26take_1c3 f t i p q l wt fl gm gp gl kd xf xt xi xp xs xb A c W h hk h1 h2 h3 k1 hle hgl hxs hc
          · by_cases k2 : kd = 2
            · by_cases h5 : xp = i
              · have hv : takV ⟨f, t, i, ⟨p, q, l, wt, fl⟩, gm, gp, gl⟩ ⟨kd, xf, xt, xi, xp, xs, xb⟩ = (ackE ⟨f, t, i, ⟨p, q, l, wt, fl⟩, gm, gp, gl⟩ ⟨kd, xf, xt, xi, xp, xs, xb⟩, ⟨#[]⟩, false) := by unfold takV; rw [if_neg hbd, if_neg (show ¬ (⟨kd, xf, xt, xi, xp, xs, xb⟩ : Pk).k = 1 from k1), if_pos (show (⟨kd, xf, xt, xi, xp, xs, xb⟩ : Pk).k = 2 from k2), if_pos (show (⟨kd, xf, xt, xi, xp, xs, xb⟩ : Pk).p = (⟨f, t, i, ⟨p, q, l, wt, fl⟩, gm, gp, gl⟩ : Ev).i from h5)]
                rw [hv]
                exact r26take_2y f t i p q l wt fl gm gp gl kd xf xt xi xp xs xb A c W h hk h1 h2 h3 k2 h5 hle hq hq0
              · have hv : takV ⟨f, t, i, ⟨p, q, l, wt, fl⟩, gm, gp, gl⟩ ⟨kd, xf, xt, xi, xp, xs, xb⟩ = ((⟨f, t, i, ⟨p, q, l, wt, fl⟩, gm, gp, gl⟩, []), ⟨#[]⟩, false) := by unfold takV; rw [if_neg hbd, if_neg (show ¬ (⟨kd, xf, xt, xi, xp, xs, xb⟩ : Pk).k = 1 from k1), if_pos (show (⟨kd, xf, xt, xi, xp, xs, xb⟩ : Pk).k = 2 from k2), if_neg (show ¬ (⟨kd, xf, xt, xi, xp, xs, xb⟩ : Pk).p = (⟨f, t, i, ⟨p, q, l, wt, fl⟩, gm, gp, gl⟩ : Ev).i from h5)]
                rw [hv]
                exact r26take_2n f t i p q l wt fl gm gp gl kd xf xt xi xp xs xb A c W h hk h1 h2 h3 k2 h5
            · by_cases k3 : kd = 3
              · by_cases h5 : i < xp
                · have hv : takV ⟨f, t, i, ⟨p, q, l, wt, fl⟩, gm, gp, gl⟩ ⟨kd, xf, xt, xi, xp, xs, xb⟩ = ((⟨f, t, i, ⟨p, q, l, wt, fl⟩, gm, gp, gl⟩, []), ⟨#[]⟩, false) := by unfold takV; rw [if_neg hbd, if_neg (show ¬ (⟨kd, xf, xt, xi, xp, xs, xb⟩ : Pk).k = 1 from k1), if_neg (show ¬ (⟨kd, xf, xt, xi, xp, xs, xb⟩ : Pk).k = 2 from k2), if_pos (show (⟨kd, xf, xt, xi, xp, xs, xb⟩ : Pk).k = 3 from k3), if_neg (show ¬ (⟨kd, xf, xt, xi, xp, xs, xb⟩ : Pk).p ≤ (⟨f, t, i, ⟨p, q, l, wt, fl⟩, gm, gp, gl⟩ : Ev).i from by show ¬ xp ≤ i; omega)]
                  rw [hv]
                  exact r26take_3n f t i p q l wt fl gm gp gl kd xf xt xi xp xs xb A c W h hk h1 h2 h3 k3 h5
                · have hv : takV ⟨f, t, i, ⟨p, q, l, wt, fl⟩, gm, gp, gl⟩ ⟨kd, xf, xt, xi, xp, xs, xb⟩ = (lrnE ⟨f, t, i, ⟨p, q, l, wt, fl⟩, gm, gp, gl⟩ xi, ⟨#[]⟩, false) := by unfold takV; rw [if_neg hbd, if_neg (show ¬ (⟨kd, xf, xt, xi, xp, xs, xb⟩ : Pk).k = 1 from k1), if_neg (show ¬ (⟨kd, xf, xt, xi, xp, xs, xb⟩ : Pk).k = 2 from k2), if_pos (show (⟨kd, xf, xt, xi, xp, xs, xb⟩ : Pk).k = 3 from k3), if_pos (show (⟨kd, xf, xt, xi, xp, xs, xb⟩ : Pk).p ≤ (⟨f, t, i, ⟨p, q, l, wt, fl⟩, gm, gp, gl⟩ : Ev).i from by show xp ≤ i; omega)]
                  rw [hv]
                  exact r26take_3y f t i p q l wt fl gm gp gl kd xf xt xi xp xs xb A c W h hk h1 h2 h3 k3 h5 hle hnel
              · have k4 : kd = 4 := by have := hkk.1; have := hkk.2; omega
                have hv : takV ⟨f, t, i, ⟨p, q, l, wt, fl⟩, gm, gp, gl⟩ ⟨kd, xf, xt, xi, xp, xs, xb⟩ = ((⟨f, t, i, ⟨p, q, l, wt, fl⟩, gm, gp, gl⟩, []), str xb, true) := by unfold takV; rw [if_neg hbd, if_neg (show ¬ (⟨kd, xf, xt, xi, xp, xs, xb⟩ : Pk).k = 1 from k1), if_neg (show ¬ (⟨kd, xf, xt, xi, xp, xs, xb⟩ : Pk).k = 2 from k2), if_neg (show ¬ (⟨kd, xf, xt, xi, xp, xs, xb⟩ : Pk).k = 3 from k3)]
                rw [hv]
                exact r26take_4 f t i p q l wt fl gm gp gl kd xf xt xi xp xs xb A c W h hk h1 h2 h3 k4
      · have hv : takV ⟨f, t, i, ⟨p, q, l, wt, fl⟩, gm, gp, gl⟩ ⟨kd, xf, xt, xi, xp, xs, xb⟩ = ((⟨f, t, i, ⟨p, q, l, wt, fl⟩, gm, gp, gl⟩, []), ⟨#[]⟩, false) := by unfold takV; rw [if_pos (show badT ⟨f, t, i, ⟨p, q, l, wt, fl⟩, gm, gp, gl⟩ ⟨kd, xf, xt, xi, xp, xs, xb⟩ from Or.inr (Or.inr (Or.inl h2)))]
        rw [hv]
        exact r26take_bad2 f t i p q l wt fl gm gp gl kd xf xt xi xp xs xb A c W h hk h1 h2
    · have hv : takV ⟨f, t, i, ⟨p, q, l, wt, fl⟩, gm, gp, gl⟩ ⟨kd, xf, xt, xi, xp, xs, xb⟩ = ((⟨f, t, i, ⟨p, q, l, wt, fl⟩, gm, gp, gl⟩, []), ⟨#[]⟩, false) := by unfold takV; rw [if_pos (show badT ⟨f, t, i, ⟨p, q, l, wt, fl⟩, gm, gp, gl⟩ ⟨kd, xf, xt, xi, xp, xs, xb⟩ from Or.inr (Or.inl h1))]
      rw [hv]
      exact r26take_bad1 f t i p q l wt fl gm gp gl kd xf xt xi xp xs xb A c W h hk h1
  · have hk' : okP kd xf xt xi xp xs xb = false := by simpa using hk
    have hv : takV ⟨f, t, i, ⟨p, q, l, wt, fl⟩, gm, gp, gl⟩ ⟨kd, xf, xt, xi, xp, xs, xb⟩ = ((⟨f, t, i, ⟨p, q, l, wt, fl⟩, gm, gp, gl⟩, []), ⟨#[]⟩, false) := by unfold takV; rw [if_pos (show badT ⟨f, t, i, ⟨p, q, l, wt, fl⟩, gm, gp, gl⟩ ⟨kd, xf, xt, xi, xp, xs, xb⟩ from Or.inl (show chkP ⟨kd, xf, xt, xi, xp, xs, xb⟩ = false from hk'))]
    rw [hv]
    exact r26take_bad0 f t i p q l wt fl gm gp gl kd xf xt xi xp xs xb A c W h hk'
end Go.Proofs.YtdphdodjidbngaaGreat

