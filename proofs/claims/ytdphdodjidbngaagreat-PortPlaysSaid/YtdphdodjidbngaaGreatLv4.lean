/- The document's end: Take, where the end stays as it is: contracts. -/
import Derived.Test.YtdphdodjidbngaaGreatLv3
namespace Go.Proofs.YtdphdodjidbngaaGreat
open Go.RowKit Go.Sort
set_option linter.unusedVariables false
set_option linter.unusedSimpArgs false

set_option maxRecDepth 20000 in
set_option maxHeartbeats 4000000 in
theorem r26take_bad0 (f t i p q : Int) (l : List (List UInt8)) (wt fl gm gp gl : Int) (kd xf xt xi xp xs : Int) (xb : List UInt8) (A : Option Addr) (c : Nat) (W : World) (h : Sl W 1 A l.length c (scells l)) (hk : okP kd xf xt xi xp xs xb = false) :
    Calls Tryz.prog 37 #[.agg #[.int .i64 f, .int .i64 t, .int .i64 i, .int .i64 p, .int .i64 q, .slice A l.length c, .int .i64 wt, .int .i64 fl, .int .i64 gm, .int .i64 gp, .int .i64 gl], .agg #[.int .i64 kd, .int .i64 xf, .int .i64 xt, .int .i64 xi, .int .i64 xp, .int .i64 xs, .string (str xb)]] W (RTook (⟨f, t, i, ⟨p, q, l, wt, fl⟩, gm, gp, gl⟩, []) ⟨#[]⟩ false W) := by
  have HS := hid h
  have HCK := hid (fun w => rcheck_any kd xf xt xi xp xs (str xb) w)
  rw [str_list] at HCK
  rw [hk] at HCK
  clear h hk
  go_enter Tryz.func37, Tryz.ntmps37
  go_upto_region 1 with (fail)
  refine at_world (fun u => u.heap[W.heap.size]? = some (.cells #[.int .i64 f, .int .i64 t, .int .i64 i, .int .i64 p, .int .i64 q, .slice A l.length c, .int .i64 wt, .int .i64 fl, .int .i64 gm, .int .i64 gp, .int .i64 gl] 82 (0, 0)) ∧ u.heap[W.heap.size + 1]? = some (.cells #[.int .i64 kd, .int .i64 xf, .int .i64 xt, .int .i64 xi, .int .i64 xp, .int .i64 xs, .string (str xb)] 30 (0, 0)) ∧ u.heap[W.heap.size + 2]? = some (.cells #[.int .i64 0, .int .i64 0, .int .i64 0, .int .i64 0, .int .i64 0, .slice none 0 0, .int .i64 0, .int .i64 0, .int .i64 0, .int .i64 0, .int .i64 0, .string ⟨#[]⟩, .bool false, .slice none 0 0] 100 (0, 0)) ∧ Below W.heap.size W u) (al3 _ _ _ _) ?_
  rintro w1 ⟨hx, hy, hz, hb⟩
  obtain ⟨⟨y0, y1, y2, y3, y4, y5, y6⟩, _⟩ := seven_cells hy
  have HX1 := hid hx
  have HY1 := hid hy
  have HZ1 := hid hz
  have HB1 := hid hb
  clear hx hy hz hb
  go_wp2_with fail
  refine (HCK.out _).mono ?_
  rintro e w5 ⟨rfl, hb5⟩
  have HX := hid (keep0 HX1.out hb5)
  have HY := hid (keep0 HY1.out hb5)
  have HZ := hid (keep0 HZ1.out hb5)
  have HB := hid (HB1.out.trans (hb5.mono HB1.out.size))
  clear y0 y1 y2 y3 y4 y5 y6 HX1 HY1 HZ1 HB1 hb5 HCK
  obtain ⟨⟨x0, x1, x2, x3, x4, x5, x6, x7, x8, x9, x10⟩, _⟩ := eleven_cells HX.out
  obtain ⟨⟨y0, y1, y2, y3, y4, y5, y6⟩, _⟩ := seven_cells HY.out
  obtain ⟨_, ⟨g0, g1, g2, g3, g4, g5, g6, g7, g8, g9, g10, g11, g12, g13⟩⟩ := fourteen_cells HZ.out
  obtain ⟨⟨r0, r1, r2, r3, r4, r5, r6, r7, r8, r9, r10, r11, r12, r13⟩, _⟩ := fourteen_cells (put14_heap HZ.out (.int .i64 f) (.int .i64 t) (.int .i64 i) (.int .i64 p) (.int .i64 q) (.slice A l.length c) (.int .i64 wt) (.int .i64 fl) (.int .i64 gm) (.int .i64 gp) (.int .i64 gl) (.string ⟨#[]⟩) (.bool false) (.slice none 0 0))
  have HB9 := hid (put14_below HB.out (show W.heap.size ≤ W.heap.size + 2 by omega) (.int .i64 f) (.int .i64 t) (.int .i64 i) (.int .i64 p) (.int .i64 q) (.slice A l.length c) (.int .i64 wt) (.int .i64 fl) (.int .i64 gm) (.int .i64 gp) (.int .i64 gl) (.string ⟨#[]⟩) (.bool false) (.slice none 0 0))
  simp only [put14] at r0 r1 r2 r3 r4 r5 r6 r7 r8 r9 r10 r11 r12 r13
  clear HX HY HZ HB
  go_wp2
  exact bodyPost_ret (v := .agg (tkc ⟨f, t, i, ⟨p, q, l, wt, fl⟩, gm, gp, gl⟩ A c ⟨#[]⟩ false none 0 0)) (by simp [results, Tryz.results37, go_sem, tkc, r0, r1, r2, r3, r4, r5, r6, r7, r8, r9, r10, r11, r12, r13]) rfl ⟨A, c, none, 0, rfl, HS.out.below HB9.out, Sl.nil _ 7 0 none (Nat.zero_le _), HB9.out⟩

set_option maxRecDepth 20000 in
set_option maxHeartbeats 4000000 in
theorem r26take_bad1 (f t i p q : Int) (l : List (List UInt8)) (wt fl gm gp gl : Int) (kd xf xt xi xp xs : Int) (xb : List UInt8) (A : Option Addr) (c : Nat) (W : World) (h : Sl W 1 A l.length c (scells l)) (hk : okP kd xf xt xi xp xs xb = true) (h1 : xf ≠ t) :
    Calls Tryz.prog 37 #[.agg #[.int .i64 f, .int .i64 t, .int .i64 i, .int .i64 p, .int .i64 q, .slice A l.length c, .int .i64 wt, .int .i64 fl, .int .i64 gm, .int .i64 gp, .int .i64 gl], .agg #[.int .i64 kd, .int .i64 xf, .int .i64 xt, .int .i64 xi, .int .i64 xp, .int .i64 xs, .string (str xb)]] W (RTook (⟨f, t, i, ⟨p, q, l, wt, fl⟩, gm, gp, gl⟩, []) ⟨#[]⟩ false W) := by
  have HS := hid h
  have HCK := hid (fun w => rcheck_any kd xf xt xi xp xs (str xb) w)
  rw [str_list] at HCK
  rw [hk] at HCK
  have b1 : (xf != t) = true := by simpa using h1
  clear h hk h1
  go_enter Tryz.func37, Tryz.ntmps37
  go_upto_region 1 with (fail)
  refine at_world (fun u => u.heap[W.heap.size]? = some (.cells #[.int .i64 f, .int .i64 t, .int .i64 i, .int .i64 p, .int .i64 q, .slice A l.length c, .int .i64 wt, .int .i64 fl, .int .i64 gm, .int .i64 gp, .int .i64 gl] 82 (0, 0)) ∧ u.heap[W.heap.size + 1]? = some (.cells #[.int .i64 kd, .int .i64 xf, .int .i64 xt, .int .i64 xi, .int .i64 xp, .int .i64 xs, .string (str xb)] 30 (0, 0)) ∧ u.heap[W.heap.size + 2]? = some (.cells #[.int .i64 0, .int .i64 0, .int .i64 0, .int .i64 0, .int .i64 0, .slice none 0 0, .int .i64 0, .int .i64 0, .int .i64 0, .int .i64 0, .int .i64 0, .string ⟨#[]⟩, .bool false, .slice none 0 0] 100 (0, 0)) ∧ Below W.heap.size W u) (al3 _ _ _ _) ?_
  rintro w1 ⟨hx, hy, hz, hb⟩
  obtain ⟨⟨y0, y1, y2, y3, y4, y5, y6⟩, _⟩ := seven_cells hy
  have HX1 := hid hx
  have HY1 := hid hy
  have HZ1 := hid hz
  have HB1 := hid hb
  clear hx hy hz hb
  go_wp2_with fail
  refine (HCK.out _).mono ?_
  rintro e w5 ⟨rfl, hb5⟩
  have HX := hid (keep0 HX1.out hb5)
  have HY := hid (keep0 HY1.out hb5)
  have HZ := hid (keep0 HZ1.out hb5)
  have HB := hid (HB1.out.trans (hb5.mono HB1.out.size))
  clear y0 y1 y2 y3 y4 y5 y6 HX1 HY1 HZ1 HB1 hb5 HCK
  obtain ⟨⟨x0, x1, x2, x3, x4, x5, x6, x7, x8, x9, x10⟩, _⟩ := eleven_cells HX.out
  obtain ⟨⟨y0, y1, y2, y3, y4, y5, y6⟩, _⟩ := seven_cells HY.out
  obtain ⟨_, ⟨g0, g1, g2, g3, g4, g5, g6, g7, g8, g9, g10, g11, g12, g13⟩⟩ := fourteen_cells HZ.out
  obtain ⟨⟨r0, r1, r2, r3, r4, r5, r6, r7, r8, r9, r10, r11, r12, r13⟩, _⟩ := fourteen_cells (put14_heap HZ.out (.int .i64 f) (.int .i64 t) (.int .i64 i) (.int .i64 p) (.int .i64 q) (.slice A l.length c) (.int .i64 wt) (.int .i64 fl) (.int .i64 gm) (.int .i64 gp) (.int .i64 gl) (.string ⟨#[]⟩) (.bool false) (.slice none 0 0))
  have HB9 := hid (put14_below HB.out (show W.heap.size ≤ W.heap.size + 2 by omega) (.int .i64 f) (.int .i64 t) (.int .i64 i) (.int .i64 p) (.int .i64 q) (.slice A l.length c) (.int .i64 wt) (.int .i64 fl) (.int .i64 gm) (.int .i64 gp) (.int .i64 gl) (.string ⟨#[]⟩) (.bool false) (.slice none 0 0))
  simp only [put14] at r0 r1 r2 r3 r4 r5 r6 r7 r8 r9 r10 r11 r12 r13
  clear HX HY HZ HB
  go_wp2
  exact bodyPost_ret (v := .agg (tkc ⟨f, t, i, ⟨p, q, l, wt, fl⟩, gm, gp, gl⟩ A c ⟨#[]⟩ false none 0 0)) (by simp [results, Tryz.results37, go_sem, tkc, r0, r1, r2, r3, r4, r5, r6, r7, r8, r9, r10, r11, r12, r13]) rfl ⟨A, c, none, 0, rfl, HS.out.below HB9.out, Sl.nil _ 7 0 none (Nat.zero_le _), HB9.out⟩

set_option maxRecDepth 20000 in
set_option maxHeartbeats 4000000 in
theorem r26take_bad2 (f t i p q : Int) (l : List (List UInt8)) (wt fl gm gp gl : Int) (kd xf xt xi xp xs : Int) (xb : List UInt8) (A : Option Addr) (c : Nat) (W : World) (h : Sl W 1 A l.length c (scells l)) (hk : okP kd xf xt xi xp xs xb = true) (h1 : xf = t) (h2 : xt ≠ f) :
    Calls Tryz.prog 37 #[.agg #[.int .i64 f, .int .i64 t, .int .i64 i, .int .i64 p, .int .i64 q, .slice A l.length c, .int .i64 wt, .int .i64 fl, .int .i64 gm, .int .i64 gp, .int .i64 gl], .agg #[.int .i64 kd, .int .i64 xf, .int .i64 xt, .int .i64 xi, .int .i64 xp, .int .i64 xs, .string (str xb)]] W (RTook (⟨f, t, i, ⟨p, q, l, wt, fl⟩, gm, gp, gl⟩, []) ⟨#[]⟩ false W) := by
  have HS := hid h
  have HCK := hid (fun w => rcheck_any kd xf xt xi xp xs (str xb) w)
  rw [str_list] at HCK
  rw [hk] at HCK
  have b1 : (xf != t) = false := by simpa using h1
  have b2 : (xt != f) = true := by simpa using h2
  clear h hk h1 h2
  go_enter Tryz.func37, Tryz.ntmps37
  go_upto_region 1 with (fail)
  refine at_world (fun u => u.heap[W.heap.size]? = some (.cells #[.int .i64 f, .int .i64 t, .int .i64 i, .int .i64 p, .int .i64 q, .slice A l.length c, .int .i64 wt, .int .i64 fl, .int .i64 gm, .int .i64 gp, .int .i64 gl] 82 (0, 0)) ∧ u.heap[W.heap.size + 1]? = some (.cells #[.int .i64 kd, .int .i64 xf, .int .i64 xt, .int .i64 xi, .int .i64 xp, .int .i64 xs, .string (str xb)] 30 (0, 0)) ∧ u.heap[W.heap.size + 2]? = some (.cells #[.int .i64 0, .int .i64 0, .int .i64 0, .int .i64 0, .int .i64 0, .slice none 0 0, .int .i64 0, .int .i64 0, .int .i64 0, .int .i64 0, .int .i64 0, .string ⟨#[]⟩, .bool false, .slice none 0 0] 100 (0, 0)) ∧ Below W.heap.size W u) (al3 _ _ _ _) ?_
  rintro w1 ⟨hx, hy, hz, hb⟩
  obtain ⟨⟨y0, y1, y2, y3, y4, y5, y6⟩, _⟩ := seven_cells hy
  have HX1 := hid hx
  have HY1 := hid hy
  have HZ1 := hid hz
  have HB1 := hid hb
  clear hx hy hz hb
  go_wp2_with fail
  refine (HCK.out _).mono ?_
  rintro e w5 ⟨rfl, hb5⟩
  have HX := hid (keep0 HX1.out hb5)
  have HY := hid (keep0 HY1.out hb5)
  have HZ := hid (keep0 HZ1.out hb5)
  have HB := hid (HB1.out.trans (hb5.mono HB1.out.size))
  clear y0 y1 y2 y3 y4 y5 y6 HX1 HY1 HZ1 HB1 hb5 HCK
  obtain ⟨⟨x0, x1, x2, x3, x4, x5, x6, x7, x8, x9, x10⟩, _⟩ := eleven_cells HX.out
  obtain ⟨⟨y0, y1, y2, y3, y4, y5, y6⟩, _⟩ := seven_cells HY.out
  obtain ⟨_, ⟨g0, g1, g2, g3, g4, g5, g6, g7, g8, g9, g10, g11, g12, g13⟩⟩ := fourteen_cells HZ.out
  obtain ⟨⟨r0, r1, r2, r3, r4, r5, r6, r7, r8, r9, r10, r11, r12, r13⟩, _⟩ := fourteen_cells (put14_heap HZ.out (.int .i64 f) (.int .i64 t) (.int .i64 i) (.int .i64 p) (.int .i64 q) (.slice A l.length c) (.int .i64 wt) (.int .i64 fl) (.int .i64 gm) (.int .i64 gp) (.int .i64 gl) (.string ⟨#[]⟩) (.bool false) (.slice none 0 0))
  have HB9 := hid (put14_below HB.out (show W.heap.size ≤ W.heap.size + 2 by omega) (.int .i64 f) (.int .i64 t) (.int .i64 i) (.int .i64 p) (.int .i64 q) (.slice A l.length c) (.int .i64 wt) (.int .i64 fl) (.int .i64 gm) (.int .i64 gp) (.int .i64 gl) (.string ⟨#[]⟩) (.bool false) (.slice none 0 0))
  simp only [put14] at r0 r1 r2 r3 r4 r5 r6 r7 r8 r9 r10 r11 r12 r13
  clear HX HY HZ HB
  go_wp2
  exact bodyPost_ret (v := .agg (tkc ⟨f, t, i, ⟨p, q, l, wt, fl⟩, gm, gp, gl⟩ A c ⟨#[]⟩ false none 0 0)) (by simp [results, Tryz.results37, go_sem, tkc, r0, r1, r2, r3, r4, r5, r6, r7, r8, r9, r10, r11, r12, r13]) rfl ⟨A, c, none, 0, rfl, HS.out.below HB9.out, Sl.nil _ 7 0 none (Nat.zero_le _), HB9.out⟩

set_option maxRecDepth 20000 in
set_option maxHeartbeats 4000000 in
theorem r26take_bad3 (f t i p q : Int) (l : List (List UInt8)) (wt fl gm gp gl : Int) (kd xf xt xi xp xs : Int) (xb : List UInt8) (A : Option Addr) (c : Nat) (W : World) (h : Sl W 1 A l.length c (scells l)) (hk : okP kd xf xt xi xp xs xb = true) (h1 : xf = t) (h2 : xt = f) (h3 : xi < gp) :
    Calls Tryz.prog 37 #[.agg #[.int .i64 f, .int .i64 t, .int .i64 i, .int .i64 p, .int .i64 q, .slice A l.length c, .int .i64 wt, .int .i64 fl, .int .i64 gm, .int .i64 gp, .int .i64 gl], .agg #[.int .i64 kd, .int .i64 xf, .int .i64 xt, .int .i64 xi, .int .i64 xp, .int .i64 xs, .string (str xb)]] W (RTook (⟨f, t, i, ⟨p, q, l, wt, fl⟩, gm, gp, gl⟩, []) ⟨#[]⟩ false W) := by
  have HS := hid h
  have HCK := hid (fun w => rcheck_any kd xf xt xi xp xs (str xb) w)
  rw [str_list] at HCK
  rw [hk] at HCK
  have b1 : (xf != t) = false := by simpa using h1
  have b2 : (xt != f) = false := by simpa using h2
  have b3 : decide (xi < gp) = true := decide_eq_true h3
  clear h hk h1 h2
  go_enter Tryz.func37, Tryz.ntmps37
  go_upto_region 1 with (fail)
  refine at_world (fun u => u.heap[W.heap.size]? = some (.cells #[.int .i64 f, .int .i64 t, .int .i64 i, .int .i64 p, .int .i64 q, .slice A l.length c, .int .i64 wt, .int .i64 fl, .int .i64 gm, .int .i64 gp, .int .i64 gl] 82 (0, 0)) ∧ u.heap[W.heap.size + 1]? = some (.cells #[.int .i64 kd, .int .i64 xf, .int .i64 xt, .int .i64 xi, .int .i64 xp, .int .i64 xs, .string (str xb)] 30 (0, 0)) ∧ u.heap[W.heap.size + 2]? = some (.cells #[.int .i64 0, .int .i64 0, .int .i64 0, .int .i64 0, .int .i64 0, .slice none 0 0, .int .i64 0, .int .i64 0, .int .i64 0, .int .i64 0, .int .i64 0, .string ⟨#[]⟩, .bool false, .slice none 0 0] 100 (0, 0)) ∧ Below W.heap.size W u) (al3 _ _ _ _) ?_
  rintro w1 ⟨hx, hy, hz, hb⟩
  obtain ⟨⟨y0, y1, y2, y3, y4, y5, y6⟩, _⟩ := seven_cells hy
  have HX1 := hid hx
  have HY1 := hid hy
  have HZ1 := hid hz
  have HB1 := hid hb
  clear hx hy hz hb
  go_wp2_with fail
  refine (HCK.out _).mono ?_
  rintro e w5 ⟨rfl, hb5⟩
  have HX := hid (keep0 HX1.out hb5)
  have HY := hid (keep0 HY1.out hb5)
  have HZ := hid (keep0 HZ1.out hb5)
  have HB := hid (HB1.out.trans (hb5.mono HB1.out.size))
  clear y0 y1 y2 y3 y4 y5 y6 HX1 HY1 HZ1 HB1 hb5 HCK
  obtain ⟨⟨x0, x1, x2, x3, x4, x5, x6, x7, x8, x9, x10⟩, _⟩ := eleven_cells HX.out
  obtain ⟨⟨y0, y1, y2, y3, y4, y5, y6⟩, _⟩ := seven_cells HY.out
  obtain ⟨_, ⟨g0, g1, g2, g3, g4, g5, g6, g7, g8, g9, g10, g11, g12, g13⟩⟩ := fourteen_cells HZ.out
  obtain ⟨⟨r0, r1, r2, r3, r4, r5, r6, r7, r8, r9, r10, r11, r12, r13⟩, _⟩ := fourteen_cells (put14_heap HZ.out (.int .i64 f) (.int .i64 t) (.int .i64 i) (.int .i64 p) (.int .i64 q) (.slice A l.length c) (.int .i64 wt) (.int .i64 fl) (.int .i64 gm) (.int .i64 gp) (.int .i64 gl) (.string ⟨#[]⟩) (.bool false) (.slice none 0 0))
  have HB9 := hid (put14_below HB.out (show W.heap.size ≤ W.heap.size + 2 by omega) (.int .i64 f) (.int .i64 t) (.int .i64 i) (.int .i64 p) (.int .i64 q) (.slice A l.length c) (.int .i64 wt) (.int .i64 fl) (.int .i64 gm) (.int .i64 gp) (.int .i64 gl) (.string ⟨#[]⟩) (.bool false) (.slice none 0 0))
  simp only [put14] at r0 r1 r2 r3 r4 r5 r6 r7 r8 r9 r10 r11 r12 r13
  clear HX HY HZ HB
  go_wp2
  exact bodyPost_ret (v := .agg (tkc ⟨f, t, i, ⟨p, q, l, wt, fl⟩, gm, gp, gl⟩ A c ⟨#[]⟩ false none 0 0)) (by simp [results, Tryz.results37, go_sem, tkc, r0, r1, r2, r3, r4, r5, r6, r7, r8, r9, r10, r11, r12, r13]) rfl ⟨A, c, none, 0, rfl, HS.out.below HB9.out, Sl.nil _ 7 0 none (Nat.zero_le _), HB9.out⟩

set_option maxRecDepth 20000 in
set_option maxHeartbeats 4000000 in
theorem r26take_4 (f t i p q : Int) (l : List (List UInt8)) (wt fl gm gp gl : Int) (kd xf xt xi xp xs : Int) (xb : List UInt8) (A : Option Addr) (c : Nat) (W : World) (h : Sl W 1 A l.length c (scells l)) (hk : okP kd xf xt xi xp xs xb = true) (h1 : xf = t) (h2 : xt = f) (h3 : ¬ xi < gp) (h4 : kd = 4) :
    Calls Tryz.prog 37 #[.agg #[.int .i64 f, .int .i64 t, .int .i64 i, .int .i64 p, .int .i64 q, .slice A l.length c, .int .i64 wt, .int .i64 fl, .int .i64 gm, .int .i64 gp, .int .i64 gl], .agg #[.int .i64 kd, .int .i64 xf, .int .i64 xt, .int .i64 xi, .int .i64 xp, .int .i64 xs, .string (str xb)]] W (RTook (⟨f, t, i, ⟨p, q, l, wt, fl⟩, gm, gp, gl⟩, []) (str xb) true W) := by
  have HS := hid h
  have HCK := hid (fun w => rcheck_any kd xf xt xi xp xs (str xb) w)
  rw [str_list] at HCK
  rw [hk] at HCK
  have b1 : (xf != t) = false := by simpa using h1
  have b2 : (xt != f) = false := by simpa using h2
  have b3 : decide (xi < gp) = false := decide_eq_false h3
  have b4 : (kd == 4) = true := by simpa using h4
  clear h hk h1 h2 h4
  go_enter Tryz.func37, Tryz.ntmps37
  go_upto_region 1 with (fail)
  refine at_world (fun u => u.heap[W.heap.size]? = some (.cells #[.int .i64 f, .int .i64 t, .int .i64 i, .int .i64 p, .int .i64 q, .slice A l.length c, .int .i64 wt, .int .i64 fl, .int .i64 gm, .int .i64 gp, .int .i64 gl] 82 (0, 0)) ∧ u.heap[W.heap.size + 1]? = some (.cells #[.int .i64 kd, .int .i64 xf, .int .i64 xt, .int .i64 xi, .int .i64 xp, .int .i64 xs, .string (str xb)] 30 (0, 0)) ∧ u.heap[W.heap.size + 2]? = some (.cells #[.int .i64 0, .int .i64 0, .int .i64 0, .int .i64 0, .int .i64 0, .slice none 0 0, .int .i64 0, .int .i64 0, .int .i64 0, .int .i64 0, .int .i64 0, .string ⟨#[]⟩, .bool false, .slice none 0 0] 100 (0, 0)) ∧ Below W.heap.size W u) (al3 _ _ _ _) ?_
  rintro w1 ⟨hx, hy, hz, hb⟩
  obtain ⟨⟨y0, y1, y2, y3, y4, y5, y6⟩, _⟩ := seven_cells hy
  have HX1 := hid hx
  have HY1 := hid hy
  have HZ1 := hid hz
  have HB1 := hid hb
  clear hx hy hz hb
  go_wp2_with fail
  refine (HCK.out _).mono ?_
  rintro e w5 ⟨rfl, hb5⟩
  have HX := hid (keep0 HX1.out hb5)
  have HY := hid (keep0 HY1.out hb5)
  have HZ := hid (keep0 HZ1.out hb5)
  have HB := hid (HB1.out.trans (hb5.mono HB1.out.size))
  clear y0 y1 y2 y3 y4 y5 y6 HX1 HY1 HZ1 HB1 hb5 HCK
  obtain ⟨⟨x0, x1, x2, x3, x4, x5, x6, x7, x8, x9, x10⟩, _⟩ := eleven_cells HX.out
  obtain ⟨⟨y0, y1, y2, y3, y4, y5, y6⟩, _⟩ := seven_cells HY.out
  obtain ⟨_, ⟨g0, g1, g2, g3, g4, g5, g6, g7, g8, g9, g10, g11, g12, g13⟩⟩ := fourteen_cells HZ.out
  obtain ⟨⟨r0, r1, r2, r3, r4, r5, r6, r7, r8, r9, r10, r11, r12, r13⟩, _⟩ := fourteen_cells (put14_heap HZ.out (.int .i64 f) (.int .i64 t) (.int .i64 i) (.int .i64 p) (.int .i64 q) (.slice A l.length c) (.int .i64 wt) (.int .i64 fl) (.int .i64 gm) (.int .i64 gp) (.int .i64 gl) (.string (str xb)) (.bool true) (.slice none 0 0))
  have HB9 := hid (put14_below HB.out (show W.heap.size ≤ W.heap.size + 2 by omega) (.int .i64 f) (.int .i64 t) (.int .i64 i) (.int .i64 p) (.int .i64 q) (.slice A l.length c) (.int .i64 wt) (.int .i64 fl) (.int .i64 gm) (.int .i64 gp) (.int .i64 gl) (.string (str xb)) (.bool true) (.slice none 0 0))
  simp only [put14] at r0 r1 r2 r3 r4 r5 r6 r7 r8 r9 r10 r11 r12 r13
  clear HX HY HZ HB
  go_wp2
  exact bodyPost_ret (v := .agg (tkc ⟨f, t, i, ⟨p, q, l, wt, fl⟩, gm, gp, gl⟩ A c (str xb) true none 0 0)) (by simp [results, Tryz.results37, go_sem, tkc, r0, r1, r2, r3, r4, r5, r6, r7, r8, r9, r10, r11, r12, r13]) rfl ⟨A, c, none, 0, rfl, HS.out.below HB9.out, Sl.nil _ 7 0 none (Nat.zero_le _), HB9.out⟩

set_option maxRecDepth 20000 in
set_option maxHeartbeats 4000000 in
theorem r26take_3n (f t i p q : Int) (l : List (List UInt8)) (wt fl gm gp gl : Int) (kd xf xt xi xp xs : Int) (xb : List UInt8) (A : Option Addr) (c : Nat) (W : World) (h : Sl W 1 A l.length c (scells l)) (hk : okP kd xf xt xi xp xs xb = true) (h1 : xf = t) (h2 : xt = f) (h3 : ¬ xi < gp) (h4 : kd = 3) (h5 : i < xp) :
    Calls Tryz.prog 37 #[.agg #[.int .i64 f, .int .i64 t, .int .i64 i, .int .i64 p, .int .i64 q, .slice A l.length c, .int .i64 wt, .int .i64 fl, .int .i64 gm, .int .i64 gp, .int .i64 gl], .agg #[.int .i64 kd, .int .i64 xf, .int .i64 xt, .int .i64 xi, .int .i64 xp, .int .i64 xs, .string (str xb)]] W (RTook (⟨f, t, i, ⟨p, q, l, wt, fl⟩, gm, gp, gl⟩, []) ⟨#[]⟩ false W) := by
  have HS := hid h
  have HCK := hid (fun w => rcheck_any kd xf xt xi xp xs (str xb) w)
  rw [str_list] at HCK
  rw [hk] at HCK
  have b1 : (xf != t) = false := by simpa using h1
  have b2 : (xt != f) = false := by simpa using h2
  have b3 : decide (xi < gp) = false := decide_eq_false h3
  have b4 : (kd == 4) = false := by simp; omega
  have b5 : (kd == 3) = true := by simpa using h4
  have b6 : decide (i < xp) = true := decide_eq_true h5
  clear h hk h1 h2 h4
  go_enter Tryz.func37, Tryz.ntmps37
  go_upto_region 1 with (fail)
  refine at_world (fun u => u.heap[W.heap.size]? = some (.cells #[.int .i64 f, .int .i64 t, .int .i64 i, .int .i64 p, .int .i64 q, .slice A l.length c, .int .i64 wt, .int .i64 fl, .int .i64 gm, .int .i64 gp, .int .i64 gl] 82 (0, 0)) ∧ u.heap[W.heap.size + 1]? = some (.cells #[.int .i64 kd, .int .i64 xf, .int .i64 xt, .int .i64 xi, .int .i64 xp, .int .i64 xs, .string (str xb)] 30 (0, 0)) ∧ u.heap[W.heap.size + 2]? = some (.cells #[.int .i64 0, .int .i64 0, .int .i64 0, .int .i64 0, .int .i64 0, .slice none 0 0, .int .i64 0, .int .i64 0, .int .i64 0, .int .i64 0, .int .i64 0, .string ⟨#[]⟩, .bool false, .slice none 0 0] 100 (0, 0)) ∧ Below W.heap.size W u) (al3 _ _ _ _) ?_
  rintro w1 ⟨hx, hy, hz, hb⟩
  obtain ⟨⟨y0, y1, y2, y3, y4, y5, y6⟩, _⟩ := seven_cells hy
  have HX1 := hid hx
  have HY1 := hid hy
  have HZ1 := hid hz
  have HB1 := hid hb
  clear hx hy hz hb
  go_wp2_with fail
  refine (HCK.out _).mono ?_
  rintro e w5 ⟨rfl, hb5⟩
  have HX := hid (keep0 HX1.out hb5)
  have HY := hid (keep0 HY1.out hb5)
  have HZ := hid (keep0 HZ1.out hb5)
  have HB := hid (HB1.out.trans (hb5.mono HB1.out.size))
  clear y0 y1 y2 y3 y4 y5 y6 HX1 HY1 HZ1 HB1 hb5 HCK
  obtain ⟨⟨x0, x1, x2, x3, x4, x5, x6, x7, x8, x9, x10⟩, _⟩ := eleven_cells HX.out
  obtain ⟨⟨y0, y1, y2, y3, y4, y5, y6⟩, _⟩ := seven_cells HY.out
  obtain ⟨_, ⟨g0, g1, g2, g3, g4, g5, g6, g7, g8, g9, g10, g11, g12, g13⟩⟩ := fourteen_cells HZ.out
  obtain ⟨⟨r0, r1, r2, r3, r4, r5, r6, r7, r8, r9, r10, r11, r12, r13⟩, _⟩ := fourteen_cells (put14_heap HZ.out (.int .i64 f) (.int .i64 t) (.int .i64 i) (.int .i64 p) (.int .i64 q) (.slice A l.length c) (.int .i64 wt) (.int .i64 fl) (.int .i64 gm) (.int .i64 gp) (.int .i64 gl) (.string ⟨#[]⟩) (.bool false) (.slice none 0 0))
  have HB9 := hid (put14_below HB.out (show W.heap.size ≤ W.heap.size + 2 by omega) (.int .i64 f) (.int .i64 t) (.int .i64 i) (.int .i64 p) (.int .i64 q) (.slice A l.length c) (.int .i64 wt) (.int .i64 fl) (.int .i64 gm) (.int .i64 gp) (.int .i64 gl) (.string ⟨#[]⟩) (.bool false) (.slice none 0 0))
  simp only [put14] at r0 r1 r2 r3 r4 r5 r6 r7 r8 r9 r10 r11 r12 r13
  clear HX HY HZ HB
  go_wp2
  exact bodyPost_ret (v := .agg (tkc ⟨f, t, i, ⟨p, q, l, wt, fl⟩, gm, gp, gl⟩ A c ⟨#[]⟩ false none 0 0)) (by simp [results, Tryz.results37, go_sem, tkc, r0, r1, r2, r3, r4, r5, r6, r7, r8, r9, r10, r11, r12, r13]) rfl ⟨A, c, none, 0, rfl, HS.out.below HB9.out, Sl.nil _ 7 0 none (Nat.zero_le _), HB9.out⟩

set_option maxRecDepth 20000 in
set_option maxHeartbeats 4000000 in
theorem r26take_2n (f t i p q : Int) (l : List (List UInt8)) (wt fl gm gp gl : Int) (kd xf xt xi xp xs : Int) (xb : List UInt8) (A : Option Addr) (c : Nat) (W : World) (h : Sl W 1 A l.length c (scells l)) (hk : okP kd xf xt xi xp xs xb = true) (h1 : xf = t) (h2 : xt = f) (h3 : ¬ xi < gp) (h4 : kd = 2) (h5 : xp ≠ i) :
    Calls Tryz.prog 37 #[.agg #[.int .i64 f, .int .i64 t, .int .i64 i, .int .i64 p, .int .i64 q, .slice A l.length c, .int .i64 wt, .int .i64 fl, .int .i64 gm, .int .i64 gp, .int .i64 gl], .agg #[.int .i64 kd, .int .i64 xf, .int .i64 xt, .int .i64 xi, .int .i64 xp, .int .i64 xs, .string (str xb)]] W (RTook (⟨f, t, i, ⟨p, q, l, wt, fl⟩, gm, gp, gl⟩, []) ⟨#[]⟩ false W) := by
  have HS := hid h
  have HCK := hid (fun w => rcheck_any kd xf xt xi xp xs (str xb) w)
  rw [str_list] at HCK
  rw [hk] at HCK
  have b1 : (xf != t) = false := by simpa using h1
  have b2 : (xt != f) = false := by simpa using h2
  have b3 : decide (xi < gp) = false := decide_eq_false h3
  have b4 : (kd == 4) = false := by simp; omega
  have b5 : (kd == 3) = false := by simp; omega
  have b6 : (kd == 2) = true := by simpa using h4
  have b7 : (xp != i) = true := by simpa using h5
  clear h hk h1 h2 h4 h5
  go_enter Tryz.func37, Tryz.ntmps37
  go_upto_region 1 with (fail)
  refine at_world (fun u => u.heap[W.heap.size]? = some (.cells #[.int .i64 f, .int .i64 t, .int .i64 i, .int .i64 p, .int .i64 q, .slice A l.length c, .int .i64 wt, .int .i64 fl, .int .i64 gm, .int .i64 gp, .int .i64 gl] 82 (0, 0)) ∧ u.heap[W.heap.size + 1]? = some (.cells #[.int .i64 kd, .int .i64 xf, .int .i64 xt, .int .i64 xi, .int .i64 xp, .int .i64 xs, .string (str xb)] 30 (0, 0)) ∧ u.heap[W.heap.size + 2]? = some (.cells #[.int .i64 0, .int .i64 0, .int .i64 0, .int .i64 0, .int .i64 0, .slice none 0 0, .int .i64 0, .int .i64 0, .int .i64 0, .int .i64 0, .int .i64 0, .string ⟨#[]⟩, .bool false, .slice none 0 0] 100 (0, 0)) ∧ Below W.heap.size W u) (al3 _ _ _ _) ?_
  rintro w1 ⟨hx, hy, hz, hb⟩
  obtain ⟨⟨y0, y1, y2, y3, y4, y5, y6⟩, _⟩ := seven_cells hy
  have HX1 := hid hx
  have HY1 := hid hy
  have HZ1 := hid hz
  have HB1 := hid hb
  clear hx hy hz hb
  go_wp2_with fail
  refine (HCK.out _).mono ?_
  rintro e w5 ⟨rfl, hb5⟩
  have HX := hid (keep0 HX1.out hb5)
  have HY := hid (keep0 HY1.out hb5)
  have HZ := hid (keep0 HZ1.out hb5)
  have HB := hid (HB1.out.trans (hb5.mono HB1.out.size))
  clear y0 y1 y2 y3 y4 y5 y6 HX1 HY1 HZ1 HB1 hb5 HCK
  obtain ⟨⟨x0, x1, x2, x3, x4, x5, x6, x7, x8, x9, x10⟩, _⟩ := eleven_cells HX.out
  obtain ⟨⟨y0, y1, y2, y3, y4, y5, y6⟩, _⟩ := seven_cells HY.out
  obtain ⟨_, ⟨g0, g1, g2, g3, g4, g5, g6, g7, g8, g9, g10, g11, g12, g13⟩⟩ := fourteen_cells HZ.out
  obtain ⟨⟨r0, r1, r2, r3, r4, r5, r6, r7, r8, r9, r10, r11, r12, r13⟩, _⟩ := fourteen_cells (put14_heap HZ.out (.int .i64 f) (.int .i64 t) (.int .i64 i) (.int .i64 p) (.int .i64 q) (.slice A l.length c) (.int .i64 wt) (.int .i64 fl) (.int .i64 gm) (.int .i64 gp) (.int .i64 gl) (.string ⟨#[]⟩) (.bool false) (.slice none 0 0))
  have HB9 := hid (put14_below HB.out (show W.heap.size ≤ W.heap.size + 2 by omega) (.int .i64 f) (.int .i64 t) (.int .i64 i) (.int .i64 p) (.int .i64 q) (.slice A l.length c) (.int .i64 wt) (.int .i64 fl) (.int .i64 gm) (.int .i64 gp) (.int .i64 gl) (.string ⟨#[]⟩) (.bool false) (.slice none 0 0))
  simp only [put14] at r0 r1 r2 r3 r4 r5 r6 r7 r8 r9 r10 r11 r12 r13
  clear HX HY HZ HB
  go_wp2
  exact bodyPost_ret (v := .agg (tkc ⟨f, t, i, ⟨p, q, l, wt, fl⟩, gm, gp, gl⟩ A c ⟨#[]⟩ false none 0 0)) (by simp [results, Tryz.results37, go_sem, tkc, r0, r1, r2, r3, r4, r5, r6, r7, r8, r9, r10, r11, r12, r13]) rfl ⟨A, c, none, 0, rfl, HS.out.below HB9.out, Sl.nil _ 7 0 none (Nat.zero_le _), HB9.out⟩
end Go.Proofs.YtdphdodjidbngaaGreat

namespace Go.Proofs.YtdphdodjidbngaaGreat
open Go.RowKit Go.Sort
set_option linter.unusedVariables false
set_option linter.unusedSimpArgs false

/-- Texts that are not empty stay where a block is written that holds none but empty ones. -/
theorem sl_st2 {w w' : World} {b t : Nat} {cs : Array Value} {A : Option Addr} {n c : Nat} {l : List (List UInt8)} (h : Sl w 1 A n c (scells l)) (hl : ∀ t ∈ l, t ≠ []) (hb : w.heap[b]? = some (.cells cs t (0, 0))) (hns : ∀ (i : Nat) (s : ByteArray), cs[i]? = some (.string s) → s = ⟨#[]⟩) (hk : ∀ g, g ≠ b → w'.heap[g]? = w.heap[g]?) : Sl w' 1 A n c (scells l) := by
  obtain ⟨h1, h2, h3, h4⟩ := h
  refine ⟨h1, h2, h3, fun h0 => ?_⟩
  obtain ⟨bl, off, ha, hc⟩ := h4 h0
  refine ⟨bl, off, ha, fun i hi => ?_⟩
  have h5 := hc i hi
  have hne : bl ≠ b := by
    rintro rfl
    have h6 := hc i hi
    rw [cell_of_row w bl (off + i) cs t (0, 0) hb, List.getElem?_eq_getElem hi] at h6
    have h7 : ∃ x ∈ l, (scells l)[i] = .string (str x) := by
      have : (scells l)[i] ∈ scells l := List.getElem_mem hi
      obtain ⟨x, hx, hxe⟩ := List.mem_map.1 this
      exact ⟨x, hx, hxe.symm⟩
    obtain ⟨x, hx, hs⟩ := h7
    rw [hs] at h6
    have h8 := hns _ _ h6
    have h9 : (str x).data.toList = [] := by rw [h8]
    rw [str_list] at h9
    exact hl x hx h9
  rw [← h5]
  have h8 := hk bl hne
  simp only [World.cell?, h8]
theorem tz_ns (i : Nat) (s : ByteArray) : (#[.int .i64 0, .int .i64 0, .int .i64 0, .int .i64 0, .int .i64 0, .slice none 0 0, .int .i64 0, .int .i64 0, .int .i64 0, .int .i64 0, .int .i64 0, .string ⟨#[]⟩, .bool false, .slice none 0 0] : Array Value)[i]? = some (.string s) → s = ⟨#[]⟩ := by
  intro h
  have hi : i < 14 := by
    rcases Nat.lt_or_ge i 14 with h9 | h9
    · exact h9
    · rw [Array.getElem?_eq_none (by simpa using h9)] at h
      cases h
  rcases (by omega : i = 0 ∨ i = 1 ∨ i = 2 ∨ i = 3 ∨ i = 4 ∨ i = 5 ∨ i = 6 ∨ i = 7 ∨ i = 8 ∨ i = 9 ∨ i = 10 ∨ i = 11 ∨ i = 12 ∨ i = 13) with rfl | rfl | rfl | rfl | rfl | rfl | rfl | rfl | rfl | rfl | rfl | rfl | rfl | rfl <;> simp at h
  exact h.symm

set_option maxRecDepth 20000 in
set_option maxHeartbeats 4000000 in
theorem r26take_3y (f t i p q : Int) (l : List (List UInt8)) (wt fl gm gp gl : Int) (kd xf xt xi xp xs : Int) (xb : List UInt8) (A : Option Addr) (c : Nat) (W : World) (h : Sl W 1 A l.length c (scells l)) (hk : okP kd xf xt xi xp xs xb = true) (h1 : xf = t) (h2 : xt = f) (h3 : ¬ xi < gp) (h4 : kd = 3) (h5 : ¬ i < xp) (hle : l.length ≤ 1000) (hnel : ∀ t ∈ l, t ≠ []) :
    Calls Tryz.prog 37 #[.agg #[.int .i64 f, .int .i64 t, .int .i64 i, .int .i64 p, .int .i64 q, .slice A l.length c, .int .i64 wt, .int .i64 fl, .int .i64 gm, .int .i64 gp, .int .i64 gl], .agg #[.int .i64 kd, .int .i64 xf, .int .i64 xt, .int .i64 xi, .int .i64 xp, .int .i64 xs, .string (str xb)]] W (RTook (lrnE ⟨f, t, i, ⟨p, q, l, wt, fl⟩, gm, gp, gl⟩ xi) ⟨#[]⟩ false W) := by
  have HS := hid h
  have HCK := hid (fun w => rcheck_any kd xf xt xi xp xs (str xb) w)
  rw [str_list] at HCK
  have HLE := hid hle
  have HNEL := hid hnel
  rw [hk] at HCK
  have b1 : (xf != t) = false := by simpa using h1
  have b2 : (xt != f) = false := by simpa using h2
  have b3 : decide (xi < gp) = false := decide_eq_false h3
  have b4 : (kd == 4) = false := by simp; omega
  have b5 : (kd == 3) = true := by simpa using h4
  have b6 : decide (i < xp) = false := decide_eq_false h5
  clear h hk h1 h2 h4 hle hnel
  go_enter Tryz.func37, Tryz.ntmps37
  go_upto_region 1 with (fail)
  refine at_world (fun u => u.heap[W.heap.size]? = some (.cells #[.int .i64 f, .int .i64 t, .int .i64 i, .int .i64 p, .int .i64 q, .slice A l.length c, .int .i64 wt, .int .i64 fl, .int .i64 gm, .int .i64 gp, .int .i64 gl] 82 (0, 0)) ∧ u.heap[W.heap.size + 1]? = some (.cells #[.int .i64 kd, .int .i64 xf, .int .i64 xt, .int .i64 xi, .int .i64 xp, .int .i64 xs, .string (str xb)] 30 (0, 0)) ∧ u.heap[W.heap.size + 2]? = some (.cells #[.int .i64 0, .int .i64 0, .int .i64 0, .int .i64 0, .int .i64 0, .slice none 0 0, .int .i64 0, .int .i64 0, .int .i64 0, .int .i64 0, .int .i64 0, .string ⟨#[]⟩, .bool false, .slice none 0 0] 100 (0, 0)) ∧ Below W.heap.size W u) (al3 _ _ _ _) ?_
  rintro w1 ⟨hx, hy, hz, hb⟩
  obtain ⟨⟨y0, y1, y2, y3, y4, y5, y6⟩, _⟩ := seven_cells hy
  have HX1 := hid hx
  have HY1 := hid hy
  have HZ1 := hid hz
  have HB1 := hid hb
  clear hx hy hz hb
  go_wp2_with fail
  refine (HCK.out _).mono ?_
  rintro e w5 ⟨rfl, hb5⟩
  have HX := hid (keep0 HX1.out hb5)
  have HY := hid (keep0 HY1.out hb5)
  have HZ := hid (keep0 HZ1.out hb5)
  have HB := hid (HB1.out.trans (hb5.mono HB1.out.size))
  clear y0 y1 y2 y3 y4 y5 y6 HX1 HY1 HZ1 HB1 hb5 HCK
  obtain ⟨⟨x0, x1, x2, x3, x4, x5, x6, x7, x8, x9, x10⟩, _⟩ := eleven_cells HX.out
  obtain ⟨⟨y0, y1, y2, y3, y4, y5, y6⟩, _⟩ := seven_cells HY.out
  have HLR := hid (r26learn_any ⟨f, t, i, ⟨p, q, l, wt, fl⟩, gm, gp, gl⟩ xi A c w5 (HS.out.below HB.out) HLE.out)
  have HLL : Hid ((lrnE ⟨f, t, i, ⟨p, q, l, wt, fl⟩, gm, gp, gl⟩ xi).1.o.l = l) := hid (lrnV_l _ _)
  generalize lrnE ⟨f, t, i, ⟨p, q, l, wt, fl⟩, gm, gp, gl⟩ xi = rv at *
  obtain ⟨⟨f2, t2, i2, ⟨p2, q2, l2, wt2, fl2⟩, gm2, gp2, gl2⟩, L⟩ := rv
  obtain rfl : l2 = l := HLL.out
  simp only [ec] at HLR
  go_wp2_with fail
  refine HLR.out.mono ?_
  rintro e w6 ⟨A2, c2, B2, d2, rfl, ho6, hP6, hb6⟩
  simp only [ec]
  have hz6 := keep0 HZ.out hb6
  have hy6 := keep0 HY.out hb6
  have hb7 := HB.out.trans (hb6.mono HB.out.size)
  have hP7 := own_mono hP6 HB.out.size
  clear x0 x1 x2 x3 x4 x5 x6 x7 x8 x9 x10 y0 y1 y2 y3 y4 y5 y6 HX HY HZ HB hb6 hP6 HLR HLL
  go_upto_region 9 with (fail)
  have hbn : Below w6.heap.size w6 (w6.alloc (.cells (ec ⟨f2, t2, i2, ⟨p2, q2, l2, wt2, fl2⟩, gm2, gp2, gl2⟩ A2 c2) 82)) := (Below.refl _ _).alloc (Nat.le_refl _) _
  refine at_world (fun u => u.heap[w6.heap.size]? = some (.cells (ec ⟨f2, t2, i2, ⟨p2, q2, l2, wt2, fl2⟩, gm2, gp2, gl2⟩ A2 c2) 82 (0, 0)) ∧ u.heap[W.heap.size + 1]? = some (.cells #[.int .i64 kd, .int .i64 xf, .int .i64 xt, .int .i64 xi, .int .i64 xp, .int .i64 xs, .string (str xb)] 30 (0, 0)) ∧ u.heap[W.heap.size + 2]? = some (.cells #[.int .i64 0, .int .i64 0, .int .i64 0, .int .i64 0, .int .i64 0, .slice none 0 0, .int .i64 0, .int .i64 0, .int .i64 0, .int .i64 0, .int .i64 0, .string ⟨#[]⟩, .bool false, .slice none 0 0] 100 (0, 0)) ∧ Sl u 1 A2 l2.length c2 (scells l2) ∧ OwnR W u (.slice B2 L.length d2) L ∧ Below W.heap.size W u) ⟨heap_alloc_new _ _, keep0 hy6 hbn, keep0 hz6 hbn, ho6.below hbn, own_keep hP7 hbn, hb7.trans (hbn.mono hb7.size)⟩ ?_
  have hTW : W.heap.size ≤ w6.heap.size := hb7.size
  clear hy6 hz6 ho6 hP7 hb7 hbn
  generalize w6.heap.size = Tb at *
  rintro w7 ⟨ht, hy, hz, ho, hP, hb⟩
  obtain ⟨⟨x0, x1, x2, x3, x4, x5, x6, x7, x8, x9, x10⟩, _⟩ := eleven_cells ht
  obtain ⟨_, ⟨g0, g1, g2, g3, g4, g5, g6, g7, g8, g9, g10, g11, g12, g13⟩⟩ := fourteen_cells hz
  obtain ⟨⟨r0, r1, r2, r3, r4, r5, r6, r7, r8, r9, r10, r11, r12, r13⟩, _⟩ := fourteen_cells (put14_heap hz (.int .i64 f2) (.int .i64 t2) (.int .i64 i2) (.int .i64 p2) (.int .i64 q2) (.slice A2 l2.length c2) (.int .i64 wt2) (.int .i64 fl2) (.int .i64 gm2) (.int .i64 gp2) (.int .i64 gl2) (.string ⟨#[]⟩) (.bool false) (.slice B2 L.length d2))
  have HB9 := hid (put14_below hb (show W.heap.size ≤ W.heap.size + 2 by omega) (.int .i64 f2) (.int .i64 t2) (.int .i64 i2) (.int .i64 p2) (.int .i64 q2) (.slice A2 l2.length c2) (.int .i64 wt2) (.int .i64 fl2) (.int .i64 gm2) (.int .i64 gp2) (.int .i64 gl2) (.string ⟨#[]⟩) (.bool false) (.slice B2 L.length d2))
  have HO9 := hid (sl_st2 ho HNEL.out hz tz_ns fun g hg => put14_other hg (.int .i64 f2) (.int .i64 t2) (.int .i64 i2) (.int .i64 p2) (.int .i64 q2) (.slice A2 l2.length c2) (.int .i64 wt2) (.int .i64 fl2) (.int .i64 gm2) (.int .i64 gp2) (.int .i64 gl2) (.string ⟨#[]⟩) (.bool false) (.slice B2 L.length d2))
  have HP9 := hid (sl_own (own_at hP hz (by decide) fun g hg => put14_other hg (.int .i64 f2) (.int .i64 t2) (.int .i64 i2) (.int .i64 p2) (.int .i64 q2) (.slice A2 l2.length c2) (.int .i64 wt2) (.int .i64 fl2) (.int .i64 gm2) (.int .i64 gp2) (.int .i64 gl2) (.string ⟨#[]⟩) (.bool false) (.slice B2 L.length d2)))
  simp only [put14] at r0 r1 r2 r3 r4 r5 r6 r7 r8 r9 r10 r11 r12 r13
  clear ht hz hb ho hP
  go_wp2
  exact bodyPost_ret (v := .agg (tkc ⟨f2, t2, i2, ⟨p2, q2, l2, wt2, fl2⟩, gm2, gp2, gl2⟩ A2 c2 ⟨#[]⟩ false B2 L.length d2)) (by simp [results, Tryz.results37, go_sem, tkc, r0, r1, r2, r3, r4, r5, r6, r7, r8, r9, r10, r11, r12, r13]) rfl ⟨A2, c2, B2, d2, rfl, HO9.out, HP9.out, HB9.out⟩
end Go.Proofs.YtdphdodjidbngaaGreat

