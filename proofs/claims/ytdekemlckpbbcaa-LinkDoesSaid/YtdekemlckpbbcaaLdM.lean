/- The document's end: Take, where the end stays as it is: contracts. -/
import Derived.Test.YtdekemlckpbbcaaLdL
namespace Go.Proofs.Ytdekemlckpbbcaa
open Go.RowKit Go.Sort
set_option linter.unusedVariables false
set_option linter.unusedSimpArgs false

set_option maxRecDepth 20000 in
set_option maxHeartbeats 4000000 in
theorem r26take_bad0 (f t i p q : Int) (l : List (List UInt8)) (wt fl gm gp gl : Int) (kd xf xt xi xp xs : Int) (xb : List UInt8) (A : Option Addr) (c : Nat) (W : World) (h : Sl W 1 A l.length c (scells l)) (hk : okP kd xf xt xi xp xs xb = false) :
    Calls Try.prog 28 #[.agg #[.int .i64 f, .int .i64 t, .int .i64 i, .int .i64 p, .int .i64 q, .slice A l.length c, .int .i64 wt, .int .i64 fl, .int .i64 gm, .int .i64 gp, .int .i64 gl], .agg #[.int .i64 kd, .int .i64 xf, .int .i64 xt, .int .i64 xi, .int .i64 xp, .int .i64 xs, .string (str xb)]] W (RTook (⟨f, t, i, ⟨p, q, l, wt, fl⟩, gm, gp, gl⟩, []) ⟨#[]⟩ false W) := by
  have HS := hid h
  have HCK := hid (fun w => rcheck_any kd xf xt xi xp xs (str xb) w)
  rw [str_list] at HCK
  rw [hk] at HCK
  clear h hk
  go_enter Try.func28, Try.ntmps28
  go_upto_region 1 with (fail)
  refine at_world (fun u => u.heap[W.heap.size]? = some (.cells #[.int .i64 f, .int .i64 t, .int .i64 i, .int .i64 p, .int .i64 q, .slice A l.length c, .int .i64 wt, .int .i64 fl, .int .i64 gm, .int .i64 gp, .int .i64 gl] 48 (0, 0)) ∧ u.heap[W.heap.size + 1]? = some (.cells #[.int .i64 kd, .int .i64 xf, .int .i64 xt, .int .i64 xi, .int .i64 xp, .int .i64 xs, .string (str xb)] 50 (0, 0)) ∧ u.heap[W.heap.size + 2]? = some (.cells #[.int .i64 0, .int .i64 0, .int .i64 0, .int .i64 0, .int .i64 0, .slice none 0 0, .int .i64 0, .int .i64 0, .int .i64 0, .int .i64 0, .int .i64 0, .string ⟨#[]⟩, .bool false, .slice none 0 0] 74 (0, 0)) ∧ Below W.heap.size W u) (al3 _ _ _ _) ?_
  rintro w1 ⟨hx, hy, hz, hb⟩
  obtain ⟨⟨y0, y1, y2, y3, y4, y5, y6⟩, _⟩ := seven_cells hy
  have HX1 := hid hx
  have HY1 := hid hy
  have HZ1 := hid hz
  have HB1 := hid hb
  clear hx hy hz hb
  go_wp2_with fail
  refine (HCK.out _).mono ?_
  rintro e w5 ⟨rfl, hb5⟩
  have HX := hid (keep0 HX1.out hb5)
  have HY := hid (keep0 HY1.out hb5)
  have HZ := hid (keep0 HZ1.out hb5)
  have HB := hid (HB1.out.trans (hb5.mono HB1.out.size))
  clear y0 y1 y2 y3 y4 y5 y6 HX1 HY1 HZ1 HB1 hb5 HCK
  obtain ⟨⟨x0, x1, x2, x3, x4, x5, x6, x7, x8, x9, x10⟩, _⟩ := eleven_cells HX.out
  obtain ⟨⟨y0, y1, y2, y3, y4, y5, y6⟩, _⟩ := seven_cells HY.out
  obtain ⟨_, ⟨g0, g1, g2, g3, g4, g5, g6, g7, g8, g9, g10, g11, g12, g13⟩⟩ := fourteen_cells HZ.out
  obtain ⟨⟨r0, r1, r2, r3, r4, r5, r6, r7, r8, r9, r10, r11, r12, r13⟩, _⟩ := fourteen_cells (put14_heap HZ.out (.int .i64 f) (.int .i64 t) (.int .i64 i) (.int .i64 p) (.int .i64 q) (.slice A l.length c) (.int .i64 wt) (.int .i64 fl) (.int .i64 gm) (.int .i64 gp) (.int .i64 gl) (.string ⟨#[]⟩) (.bool false) (.slice none 0 0))
  have HB9 := hid (put14_below HB.out (show W.heap.size ≤ W.heap.size + 2 by omega) (.int .i64 f) (.int .i64 t) (.int .i64 i) (.int .i64 p) (.int .i64 q) (.slice A l.length c) (.int .i64 wt) (.int .i64 fl) (.int .i64 gm) (.int .i64 gp) (.int .i64 gl) (.string ⟨#[]⟩) (.bool false) (.slice none 0 0))
  simp only [put14] at r0 r1 r2 r3 r4 r5 r6 r7 r8 r9 r10 r11 r12 r13
  clear HX HY HZ HB
  go_wp2
  exact bodyPost_ret (v := .agg (tkc ⟨f, t, i, ⟨p, q, l, wt, fl⟩, gm, gp, gl⟩ A c ⟨#[]⟩ false none 0 0)) (by simp [results, Try.results28, go_sem, tkc, r0, r1, r2, r3, r4, r5, r6, r7, r8, r9, r10, r11, r12, r13]) rfl ⟨A, c, none, 0, rfl, HS.out.below HB9.out, Sl.nil _ 7 0 none (Nat.zero_le _), HB9.out⟩

set_option maxRecDepth 20000 in
set_option maxHeartbeats 4000000 in
theorem r26take_bad1 (f t i p q : Int) (l : List (List UInt8)) (wt fl gm gp gl : Int) (kd xf xt xi xp xs : Int) (xb : List UInt8) (A : Option Addr) (c : Nat) (W : World) (h : Sl W 1 A l.length c (scells l)) (hk : okP kd xf xt xi xp xs xb = true) (h1 : xf ≠ t) :
    Calls Try.prog 28 #[.agg #[.int .i64 f, .int .i64 t, .int .i64 i, .int .i64 p, .int .i64 q, .slice A l.length c, .int .i64 wt, .int .i64 fl, .int .i64 gm, .int .i64 gp, .int .i64 gl], .agg #[.int .i64 kd, .int .i64 xf, .int .i64 xt, .int .i64 xi, .int .i64 xp, .int .i64 xs, .string (str xb)]] W (RTook (⟨f, t, i, ⟨p, q, l, wt, fl⟩, gm, gp, gl⟩, []) ⟨#[]⟩ false W) := by
  have HS := hid h
  have HCK := hid (fun w => rcheck_any kd xf xt xi xp xs (str xb) w)
  rw [str_list] at HCK
  rw [hk] at HCK
  have b1 : (xf != t) = true := by simpa using h1
  clear h hk h1
  go_enter Try.func28, Try.ntmps28
  go_upto_region 1 with (fail)
  refine at_world (fun u => u.heap[W.heap.size]? = some (.cells #[.int .i64 f, .int .i64 t, .int .i64 i, .int .i64 p, .int .i64 q, .slice A l.length c, .int .i64 wt, .int .i64 fl, .int .i64 gm, .int .i64 gp, .int .i64 gl] 48 (0, 0)) ∧ u.heap[W.heap.size + 1]? = some (.cells #[.int .i64 kd, .int .i64 xf, .int .i64 xt, .int .i64 xi, .int .i64 xp, .int .i64 xs, .string (str xb)] 50 (0, 0)) ∧ u.heap[W.heap.size + 2]? = some (.cells #[.int .i64 0, .int .i64 0, .int .i64 0, .int .i64 0, .int .i64 0, .slice none 0 0, .int .i64 0, .int .i64 0, .int .i64 0, .int .i64 0, .int .i64 0, .string ⟨#[]⟩, .bool false, .slice none 0 0] 74 (0, 0)) ∧ Below W.heap.size W u) (al3 _ _ _ _) ?_
  rintro w1 ⟨hx, hy, hz, hb⟩
  obtain ⟨⟨y0, y1, y2, y3, y4, y5, y6⟩, _⟩ := seven_cells hy
  have HX1 := hid hx
  have HY1 := hid hy
  have HZ1 := hid hz
  have HB1 := hid hb
  clear hx hy hz hb
  go_wp2_with fail
  refine (HCK.out _).mono ?_
  rintro e w5 ⟨rfl, hb5⟩
  have HX := hid (keep0 HX1.out hb5)
  have HY := hid (keep0 HY1.out hb5)
  have HZ := hid (keep0 HZ1.out hb5)
  have HB := hid (HB1.out.trans (hb5.mono HB1.out.size))
  clear y0 y1 y2 y3 y4 y5 y6 HX1 HY1 HZ1 HB1 hb5 HCK
  obtain ⟨⟨x0, x1, x2, x3, x4, x5, x6, x7, x8, x9, x10⟩, _⟩ := eleven_cells HX.out
  obtain ⟨⟨y0, y1, y2, y3, y4, y5, y6⟩, _⟩ := seven_cells HY.out
  obtain ⟨_, ⟨g0, g1, g2, g3, g4, g5, g6, g7, g8, g9, g10, g11, g12, g13⟩⟩ := fourteen_cells HZ.out
  obtain ⟨⟨r0, r1, r2, r3, r4, r5, r6, r7, r8, r9, r10, r11, r12, r13⟩, _⟩ := fourteen_cells (put14_heap HZ.out (.int .i64 f) (.int .i64 t) (.int .i64 i) (.int .i64 p) (.int .i64 q) (.slice A l.length c) (.int .i64 wt) (.int .i64 fl) (.int .i64 gm) (.int .i64 gp) (.int .i64 gl) (.string ⟨#[]⟩) (.bool false) (.slice none 0 0))
  have HB9 := hid (put14_below HB.out (show W.heap.size ≤ W.heap.size + 2 by omega) (.int .i64 f) (.int .i64 t) (.int .i64 i) (.int .i64 p) (.int .i64 q) (.slice A l.length c) (.int .i64 wt) (.int .i64 fl) (.int .i64 gm) (.int .i64 gp) (.int .i64 gl) (.string ⟨#[]⟩) (.bool false) (.slice none 0 0))
  simp only [put14] at r0 r1 r2 r3 r4 r5 r6 r7 r8 r9 r10 r11 r12 r13
  clear HX HY HZ HB
  go_wp2
  exact bodyPost_ret (v := .agg (tkc ⟨f, t, i, ⟨p, q, l, wt, fl⟩, gm, gp, gl⟩ A c ⟨#[]⟩ false none 0 0)) (by simp [results, Try.results28, go_sem, tkc, r0, r1, r2, r3, r4, r5, r6, r7, r8, r9, r10, r11, r12, r13]) rfl ⟨A, c, none, 0, rfl, HS.out.below HB9.out, Sl.nil _ 7 0 none (Nat.zero_le _), HB9.out⟩

set_option maxRecDepth 20000 in
set_option maxHeartbeats 4000000 in
theorem r26take_bad2 (f t i p q : Int) (l : List (List UInt8)) (wt fl gm gp gl : Int) (kd xf xt xi xp xs : Int) (xb : List UInt8) (A : Option Addr) (c : Nat) (W : World) (h : Sl W 1 A l.length c (scells l)) (hk : okP kd xf xt xi xp xs xb = true) (h1 : xf = t) (h2 : xt ≠ f) :
    Calls Try.prog 28 #[.agg #[.int .i64 f, .int .i64 t, .int .i64 i, .int .i64 p, .int .i64 q, .slice A l.length c, .int .i64 wt, .int .i64 fl, .int .i64 gm, .int .i64 gp, .int .i64 gl], .agg #[.int .i64 kd, .int .i64 xf, .int .i64 xt, .int .i64 xi, .int .i64 xp, .int .i64 xs, .string (str xb)]] W (RTook (⟨f, t, i, ⟨p, q, l, wt, fl⟩, gm, gp, gl⟩, []) ⟨#[]⟩ false W) := by
  have HS := hid h
  have HCK := hid (fun w => rcheck_any kd xf xt xi xp xs (str xb) w)
  rw [str_list] at HCK
  rw [hk] at HCK
  have b1 : (xf != t) = false := by simpa using h1
  have b2 : (xt != f) = true := by simpa using h2
  clear h hk h1 h2
  go_enter Try.func28, Try.ntmps28
  go_upto_region 1 with (fail)
  refine at_world (fun u => u.heap[W.heap.size]? = some (.cells #[.int .i64 f, .int .i64 t, .int .i64 i, .int .i64 p, .int .i64 q, .slice A l.length c, .int .i64 wt, .int .i64 fl, .int .i64 gm, .int .i64 gp, .int .i64 gl] 48 (0, 0)) ∧ u.heap[W.heap.size + 1]? = some (.cells #[.int .i64 kd, .int .i64 xf, .int .i64 xt, .int .i64 xi, .int .i64 xp, .int .i64 xs, .string (str xb)] 50 (0, 0)) ∧ u.heap[W.heap.size + 2]? = some (.cells #[.int .i64 0, .int .i64 0, .int .i64 0, .int .i64 0, .int .i64 0, .slice none 0 0, .int .i64 0, .int .i64 0, .int .i64 0, .int .i64 0, .int .i64 0, .string ⟨#[]⟩, .bool false, .slice none 0 0] 74 (0, 0)) ∧ Below W.heap.size W u) (al3 _ _ _ _) ?_
  rintro w1 ⟨hx, hy, hz, hb⟩
  obtain ⟨⟨y0, y1, y2, y3, y4, y5, y6⟩, _⟩ := seven_cells hy
  have HX1 := hid hx
  have HY1 := hid hy
  have HZ1 := hid hz
  have HB1 := hid hb
  clear hx hy hz hb
  go_wp2_with fail
  refine (HCK.out _).mono ?_
  rintro e w5 ⟨rfl, hb5⟩
  have HX := hid (keep0 HX1.out hb5)
  have HY := hid (keep0 HY1.out hb5)
  have HZ := hid (keep0 HZ1.out hb5)
  have HB := hid (HB1.out.trans (hb5.mono HB1.out.size))
  clear y0 y1 y2 y3 y4 y5 y6 HX1 HY1 HZ1 HB1 hb5 HCK
  obtain ⟨⟨x0, x1, x2, x3, x4, x5, x6, x7, x8, x9, x10⟩, _⟩ := eleven_cells HX.out
  obtain ⟨⟨y0, y1, y2, y3, y4, y5, y6⟩, _⟩ := seven_cells HY.out
  obtain ⟨_, ⟨g0, g1, g2, g3, g4, g5, g6, g7, g8, g9, g10, g11, g12, g13⟩⟩ := fourteen_cells HZ.out
  obtain ⟨⟨r0, r1, r2, r3, r4, r5, r6, r7, r8, r9, r10, r11, r12, r13⟩, _⟩ := fourteen_cells (put14_heap HZ.out (.int .i64 f) (.int .i64 t) (.int .i64 i) (.int .i64 p) (.int .i64 q) (.slice A l.length c) (.int .i64 wt) (.int .i64 fl) (.int .i64 gm) (.int .i64 gp) (.int .i64 gl) (.string ⟨#[]⟩) (.bool false) (.slice none 0 0))
  have HB9 := hid (put14_below HB.out (show W.heap.size ≤ W.heap.size + 2 by omega) (.int .i64 f) (.int .i64 t) (.int .i64 i) (.int .i64 p) (.int .i64 q) (.slice A l.length c) (.int .i64 wt) (.int .i64 fl) (.int .i64 gm) (.int .i64 gp) (.int .i64 gl) (.string ⟨#[]⟩) (.bool false) (.slice none 0 0))
  simp only [put14] at r0 r1 r2 r3 r4 r5 r6 r7 r8 r9 r10 r11 r12 r13
  clear HX HY HZ HB
  go_wp2
  exact bodyPost_ret (v := .agg (tkc ⟨f, t, i, ⟨p, q, l, wt, fl⟩, gm, gp, gl⟩ A c ⟨#[]⟩ false none 0 0)) (by simp [results, Try.results28, go_sem, tkc, r0, r1, r2, r3, r4, r5, r6, r7, r8, r9, r10, r11, r12, r13]) rfl ⟨A, c, none, 0, rfl, HS.out.below HB9.out, Sl.nil _ 7 0 none (Nat.zero_le _), HB9.out⟩

set_option maxRecDepth 20000 in
set_option maxHeartbeats 4000000 in
theorem r26take_bad3 (f t i p q : Int) (l : List (List UInt8)) (wt fl gm gp gl : Int) (kd xf xt xi xp xs : Int) (xb : List UInt8) (A : Option Addr) (c : Nat) (W : World) (h : Sl W 1 A l.length c (scells l)) (hk : okP kd xf xt xi xp xs xb = true) (h1 : xf = t) (h2 : xt = f) (h3 : xi < gp) :
    Calls Try.prog 28 #[.agg #[.int .i64 f, .int .i64 t, .int .i64 i, .int .i64 p, .int .i64 q, .slice A l.length c, .int .i64 wt, .int .i64 fl, .int .i64 gm, .int .i64 gp, .int .i64 gl], .agg #[.int .i64 kd, .int .i64 xf, .int .i64 xt, .int .i64 xi, .int .i64 xp, .int .i64 xs, .string (str xb)]] W (RTook (⟨f, t, i, ⟨p, q, l, wt, fl⟩, gm, gp, gl⟩, []) ⟨#[]⟩ false W) := by
  have HS := hid h
  have HCK := hid (fun w => rcheck_any kd xf xt xi xp xs (str xb) w)
  rw [str_list] at HCK
  rw [hk] at HCK
  have b1 : (xf != t) = false := by simpa using h1
  have b2 : (xt != f) = false := by simpa using h2
  have b3 : decide (xi < gp) = true := decide_eq_true h3
  clear h hk h1 h2
  go_enter Try.func28, Try.ntmps28
  go_upto_region 1 with (fail)
  refine at_world (fun u => u.heap[W.heap.size]? = some (.cells #[.int .i64 f, .int .i64 t, .int .i64 i, .int .i64 p, .int .i64 q, .slice A l.length c, .int .i64 wt, .int .i64 fl, .int .i64 gm, .int .i64 gp, .int .i64 gl] 48 (0, 0)) ∧ u.heap[W.heap.size + 1]? = some (.cells #[.int .i64 kd, .int .i64 xf, .int .i64 xt, .int .i64 xi, .int .i64 xp, .int .i64 xs, .string (str xb)] 50 (0, 0)) ∧ u.heap[W.heap.size + 2]? = some (.cells #[.int .i64 0, .int .i64 0, .int .i64 0, .int .i64 0, .int .i64 0, .slice none 0 0, .int .i64 0, .int .i64 0, .int .i64 0, .int .i64 0, .int .i64 0, .string ⟨#[]⟩, .bool false, .slice none 0 0] 74 (0, 0)) ∧ Below W.heap.size W u) (al3 _ _ _ _) ?_
  rintro w1 ⟨hx, hy, hz, hb⟩
  obtain ⟨⟨y0, y1, y2, y3, y4, y5, y6⟩, _⟩ := seven_cells hy
  have HX1 := hid hx
  have HY1 := hid hy
  have HZ1 := hid hz
  have HB1 := hid hb
  clear hx hy hz hb
  go_wp2_with fail
  refine (HCK.out _).mono ?_
  rintro e w5 ⟨rfl, hb5⟩
  have HX := hid (keep0 HX1.out hb5)
  have HY := hid (keep0 HY1.out hb5)
  have HZ := hid (keep0 HZ1.out hb5)
  have HB := hid (HB1.out.trans (hb5.mono HB1.out.size))
  clear y0 y1 y2 y3 y4 y5 y6 HX1 HY1 HZ1 HB1 hb5 HCK
  obtain ⟨⟨x0, x1, x2, x3, x4, x5, x6, x7, x8, x9, x10⟩, _⟩ := eleven_cells HX.out
  obtain ⟨⟨y0, y1, y2, y3, y4, y5, y6⟩, _⟩ := seven_cells HY.out
  obtain ⟨_, ⟨g0, g1, g2, g3, g4, g5, g6, g7, g8, g9, g10, g11, g12, g13⟩⟩ := fourteen_cells HZ.out
  obtain ⟨⟨r0, r1, r2, r3, r4, r5, r6, r7, r8, r9, r10, r11, r12, r13⟩, _⟩ := fourteen_cells (put14_heap HZ.out (.int .i64 f) (.int .i64 t) (.int .i64 i) (.int .i64 p) (.int .i64 q) (.slice A l.length c) (.int .i64 wt) (.int .i64 fl) (.int .i64 gm) (.int .i64 gp) (.int .i64 gl) (.string ⟨#[]⟩) (.bool false) (.slice none 0 0))
  have HB9 := hid (put14_below HB.out (show W.heap.size ≤ W.heap.size + 2 by omega) (.int .i64 f) (.int .i64 t) (.int .i64 i) (.int .i64 p) (.int .i64 q) (.slice A l.length c) (.int .i64 wt) (.int .i64 fl) (.int .i64 gm) (.int .i64 gp) (.int .i64 gl) (.string ⟨#[]⟩) (.bool false) (.slice none 0 0))
  simp only [put14] at r0 r1 r2 r3 r4 r5 r6 r7 r8 r9 r10 r11 r12 r13
  clear HX HY HZ HB
  go_wp2
  exact bodyPost_ret (v := .agg (tkc ⟨f, t, i, ⟨p, q, l, wt, fl⟩, gm, gp, gl⟩ A c ⟨#[]⟩ false none 0 0)) (by simp [results, Try.results28, go_sem, tkc, r0, r1, r2, r3, r4, r5, r6, r7, r8, r9, r10, r11, r12, r13]) rfl ⟨A, c, none, 0, rfl, HS.out.below HB9.out, Sl.nil _ 7 0 none (Nat.zero_le _), HB9.out⟩

set_option maxRecDepth 20000 in
set_option maxHeartbeats 4000000 in
theorem r26take_4 (f t i p q : Int) (l : List (List UInt8)) (wt fl gm gp gl : Int) (kd xf xt xi xp xs : Int) (xb : List UInt8) (A : Option Addr) (c : Nat) (W : World) (h : Sl W 1 A l.length c (scells l)) (hk : okP kd xf xt xi xp xs xb = true) (h1 : xf = t) (h2 : xt = f) (h3 : ¬ xi < gp) (h4 : kd = 4) :
    Calls Try.prog 28 #[.agg #[.int .i64 f, .int .i64 t, .int .i64 i, .int .i64 p, .int .i64 q, .slice A l.length c, .int .i64 wt, .int .i64 fl, .int .i64 gm, .int .i64 gp, .int .i64 gl], .agg #[.int .i64 kd, .int .i64 xf, .int .i64 xt, .int .i64 xi, .int .i64 xp, .int .i64 xs, .string (str xb)]] W (RTook (⟨f, t, i, ⟨p, q, l, wt, fl⟩, gm, gp, gl⟩, []) (str xb) true W) := by
  have HS := hid h
  have HCK := hid (fun w => rcheck_any kd xf xt xi xp xs (str xb) w)
  rw [str_list] at HCK
  rw [hk] at HCK
  have b1 : (xf != t) = false := by simpa using h1
  have b2 : (xt != f) = false := by simpa using h2
  have b3 : decide (xi < gp) = false := decide_eq_false h3
  have b4 : (kd == 4) = true := by simpa using h4
  clear h hk h1 h2 h4
  go_enter Try.func28, Try.ntmps28
  go_upto_region 1 with (fail)
  refine at_world (fun u => u.heap[W.heap.size]? = some (.cells #[.int .i64 f, .int .i64 t, .int .i64 i, .int .i64 p, .int .i64 q, .slice A l.length c, .int .i64 wt, .int .i64 fl, .int .i64 gm, .int .i64 gp, .int .i64 gl] 48 (0, 0)) ∧ u.heap[W.heap.size + 1]? = some (.cells #[.int .i64 kd, .int .i64 xf, .int .i64 xt, .int .i64 xi, .int .i64 xp, .int .i64 xs, .string (str xb)] 50 (0, 0)) ∧ u.heap[W.heap.size + 2]? = some (.cells #[.int .i64 0, .int .i64 0, .int .i64 0, .int .i64 0, .int .i64 0, .slice none 0 0, .int .i64 0, .int .i64 0, .int .i64 0, .int .i64 0, .int .i64 0, .string ⟨#[]⟩, .bool false, .slice none 0 0] 74 (0, 0)) ∧ Below W.heap.size W u) (al3 _ _ _ _) ?_
  rintro w1 ⟨hx, hy, hz, hb⟩
  obtain ⟨⟨y0, y1, y2, y3, y4, y5, y6⟩, _⟩ := seven_cells hy
  have HX1 := hid hx
  have HY1 := hid hy
  have HZ1 := hid hz
  have HB1 := hid hb
  clear hx hy hz hb
  go_wp2_with fail
  refine (HCK.out _).mono ?_
  rintro e w5 ⟨rfl, hb5⟩
  have HX := hid (keep0 HX1.out hb5)
  have HY := hid (keep0 HY1.out hb5)
  have HZ := hid (keep0 HZ1.out hb5)
  have HB := hid (HB1.out.trans (hb5.mono HB1.out.size))
  clear y0 y1 y2 y3 y4 y5 y6 HX1 HY1 HZ1 HB1 hb5 HCK
  obtain ⟨⟨x0, x1, x2, x3, x4, x5, x6, x7, x8, x9, x10⟩, _⟩ := eleven_cells HX.out
  obtain ⟨⟨y0, y1, y2, y3, y4, y5, y6⟩, _⟩ := seven_cells HY.out
  obtain ⟨_, ⟨g0, g1, g2, g3, g4, g5, g6, g7, g8, g9, g10, g11, g12, g13⟩⟩ := fourteen_cells HZ.out
  obtain ⟨⟨r0, r1, r2, r3, r4, r5, r6, r7, r8, r9, r10, r11, r12, r13⟩, _⟩ := fourteen_cells (put14_heap HZ.out (.int .i64 f) (.int .i64 t) (.int .i64 i) (.int .i64 p) (.int .i64 q) (.slice A l.length c) (.int .i64 wt) (.int .i64 fl) (.int .i64 gm) (.int .i64 gp) (.int .i64 gl) (.string (str xb)) (.bool true) (.slice none 0 0))
  have HB9 := hid (put14_below HB.out (show W.heap.size ≤ W.heap.size + 2 by omega) (.int .i64 f) (.int .i64 t) (.int .i64 i) (.int .i64 p) (.int .i64 q) (.slice A l.length c) (.int .i64 wt) (.int .i64 fl) (.int .i64 gm) (.int .i64 gp) (.int .i64 gl) (.string (str xb)) (.bool true) (.slice none 0 0))
  simp only [put14] at r0 r1 r2 r3 r4 r5 r6 r7 r8 r9 r10 r11 r12 r13
  clear HX HY HZ HB
  go_wp2
  exact bodyPost_ret (v := .agg (tkc ⟨f, t, i, ⟨p, q, l, wt, fl⟩, gm, gp, gl⟩ A c (str xb) true none 0 0)) (by simp [results, Try.results28, go_sem, tkc, r0, r1, r2, r3, r4, r5, r6, r7, r8, r9, r10, r11, r12, r13]) rfl ⟨A, c, none, 0, rfl, HS.out.below HB9.out, Sl.nil _ 7 0 none (Nat.zero_le _), HB9.out⟩

set_option maxRecDepth 20000 in
set_option maxHeartbeats 4000000 in
theorem r26take_3n (f t i p q : Int) (l : List (List UInt8)) (wt fl gm gp gl : Int) (kd xf xt xi xp xs : Int) (xb : List UInt8) (A : Option Addr) (c : Nat) (W : World) (h : Sl W 1 A l.length c (scells l)) (hk : okP kd xf xt xi xp xs xb = true) (h1 : xf = t) (h2 : xt = f) (h3 : ¬ xi < gp) (h4 : kd = 3) (h5 : i < xp) :
    Calls Try.prog 28 #[.agg #[.int .i64 f, .int .i64 t, .int .i64 i, .int .i64 p, .int .i64 q, .slice A l.length c, .int .i64 wt, .int .i64 fl, .int .i64 gm, .int .i64 gp, .int .i64 gl], .agg #[.int .i64 kd, .int .i64 xf, .int .i64 xt, .int .i64 xi, .int .i64 xp, .int .i64 xs, .string (str xb)]] W (RTook (⟨f, t, i, ⟨p, q, l, wt, fl⟩, gm, gp, gl⟩, []) ⟨#[]⟩ false W) := by
  have HS := hid h
  have HCK := hid (fun w => rcheck_any kd xf xt xi xp xs (str xb) w)
  rw [str_list] at HCK
  rw [hk] at HCK
  have b1 : (xf != t) = false := by simpa using h1
  have b2 : (xt != f) = false := by simpa using h2
  have b3 : decide (xi < gp) = false := decide_eq_false h3
  have b4 : (kd == 4) = false := by simp; omega
  have b5 : (kd == 3) = true := by simpa using h4
  have b6 : decide (i < xp) = true := decide_eq_true h5
  clear h hk h1 h2 h4
  go_enter Try.func28, Try.ntmps28
  go_upto_region 1 with (fail)
  refine at_world (fun u => u.heap[W.heap.size]? = some (.cells #[.int .i64 f, .int .i64 t, .int .i64 i, .int .i64 p, .int .i64 q, .slice A l.length c, .int .i64 wt, .int .i64 fl, .int .i64 gm, .int .i64 gp, .int .i64 gl] 48 (0, 0)) ∧ u.heap[W.heap.size + 1]? = some (.cells #[.int .i64 kd, .int .i64 xf, .int .i64 xt, .int .i64 xi, .int .i64 xp, .int .i64 xs, .string (str xb)] 50 (0, 0)) ∧ u.heap[W.heap.size + 2]? = some (.cells #[.int .i64 0, .int .i64 0, .int .i64 0, .int .i64 0, .int .i64 0, .slice none 0 0, .int .i64 0, .int .i64 0, .int .i64 0, .int .i64 0, .int .i64 0, .string ⟨#[]⟩, .bool false, .slice none 0 0] 74 (0, 0)) ∧ Below W.heap.size W u) (al3 _ _ _ _) ?_
  rintro w1 ⟨hx, hy, hz, hb⟩
  obtain ⟨⟨y0, y1, y2, y3, y4, y5, y6⟩, _⟩ := seven_cells hy
  have HX1 := hid hx
  have HY1 := hid hy
  have HZ1 := hid hz
  have HB1 := hid hb
  clear hx hy hz hb
  go_wp2_with fail
  refine (HCK.out _).mono ?_
  rintro e w5 ⟨rfl, hb5⟩
  have HX := hid (keep0 HX1.out hb5)
  have HY := hid (keep0 HY1.out hb5)
  have HZ := hid (keep0 HZ1.out hb5)
  have HB := hid (HB1.out.trans (hb5.mono HB1.out.size))
  clear y0 y1 y2 y3 y4 y5 y6 HX1 HY1 HZ1 HB1 hb5 HCK
  obtain ⟨⟨x0, x1, x2, x3, x4, x5, x6, x7, x8, x9, x10⟩, _⟩ := eleven_cells HX.out
  obtain ⟨⟨y0, y1, y2, y3, y4, y5, y6⟩, _⟩ := seven_cells HY.out
  obtain ⟨_, ⟨g0, g1, g2, g3, g4, g5, g6, g7, g8, g9, g10, g11, g12, g13⟩⟩ := fourteen_cells HZ.out
  obtain ⟨⟨r0, r1, r2, r3, r4, r5, r6, r7, r8, r9, r10, r11, r12, r13⟩, _⟩ := fourteen_cells (put14_heap HZ.out (.int .i64 f) (.int .i64 t) (.int .i64 i) (.int .i64 p) (.int .i64 q) (.slice A l.length c) (.int .i64 wt) (.int .i64 fl) (.int .i64 gm) (.int .i64 gp) (.int .i64 gl) (.string ⟨#[]⟩) (.bool false) (.slice none 0 0))
  have HB9 := hid (put14_below HB.out (show W.heap.size ≤ W.heap.size + 2 by omega) (.int .i64 f) (.int .i64 t) (.int .i64 i) (.int .i64 p) (.int .i64 q) (.slice A l.length c) (.int .i64 wt) (.int .i64 fl) (.int .i64 gm) (.int .i64 gp) (.int .i64 gl) (.string ⟨#[]⟩) (.bool false) (.slice none 0 0))
  simp only [put14] at r0 r1 r2 r3 r4 r5 r6 r7 r8 r9 r10 r11 r12 r13
  clear HX HY HZ HB
  go_wp2
  exact bodyPost_ret (v := .agg (tkc ⟨f, t, i, ⟨p, q, l, wt, fl⟩, gm, gp, gl⟩ A c ⟨#[]⟩ false none 0 0)) (by simp [results, Try.results28, go_sem, tkc, r0, r1, r2, r3, r4, r5, r6, r7, r8, r9, r10, r11, r12, r13]) rfl ⟨A, c, none, 0, rfl, HS.out.below HB9.out, Sl.nil _ 7 0 none (Nat.zero_le _), HB9.out⟩

set_option maxRecDepth 20000 in
set_option maxHeartbeats 4000000 in
theorem r26take_2n (f t i p q : Int) (l : List (List UInt8)) (wt fl gm gp gl : Int) (kd xf xt xi xp xs : Int) (xb : List UInt8) (A : Option Addr) (c : Nat) (W : World) (h : Sl W 1 A l.length c (scells l)) (hk : okP kd xf xt xi xp xs xb = true) (h1 : xf = t) (h2 : xt = f) (h3 : ¬ xi < gp) (h4 : kd = 2) (h5 : xp ≠ i) :
    Calls Try.prog 28 #[.agg #[.int .i64 f, .int .i64 t, .int .i64 i, .int .i64 p, .int .i64 q, .slice A l.length c, .int .i64 wt, .int .i64 fl, .int .i64 gm, .int .i64 gp, .int .i64 gl], .agg #[.int .i64 kd, .int .i64 xf, .int .i64 xt, .int .i64 xi, .int .i64 xp, .int .i64 xs, .string (str xb)]] W (RTook (⟨f, t, i, ⟨p, q, l, wt, fl⟩, gm, gp, gl⟩, []) ⟨#[]⟩ false W) := by
  have HS := hid h
  have HCK := hid (fun w => rcheck_any kd xf xt xi xp xs (str xb) w)
  rw [str_list] at HCK
  rw [hk] at HCK
  have b1 : (xf != t) = false := by simpa using h1
  have b2 : (xt != f) = false := by simpa using h2
  have b3 : decide (xi < gp) = false := decide_eq_false h3
  have b4 : (kd == 4) = false := by simp; omega
  have b5 : (kd == 3) = false := by simp; omega
  have b6 : (kd == 2) = true := by simpa using h4
  have b7 : (xp != i) = true := by simpa using h5
  clear h hk h1 h2 h4 h5
  go_enter Try.func28, Try.ntmps28
  go_upto_region 1 with (fail)
  refine at_world (fun u => u.heap[W.heap.size]? = some (.cells #[.int .i64 f, .int .i64 t, .int .i64 i, .int .i64 p, .int .i64 q, .slice A l.length c, .int .i64 wt, .int .i64 fl, .int .i64 gm, .int .i64 gp, .int .i64 gl] 48 (0, 0)) ∧ u.heap[W.heap.size + 1]? = some (.cells #[.int .i64 kd, .int .i64 xf, .int .i64 xt, .int .i64 xi, .int .i64 xp, .int .i64 xs, .string (str xb)] 50 (0, 0)) ∧ u.heap[W.heap.size + 2]? = some (.cells #[.int .i64 0, .int .i64 0, .int .i64 0, .int .i64 0, .int .i64 0, .slice none 0 0, .int .i64 0, .int .i64 0, .int .i64 0, .int .i64 0, .int .i64 0, .string ⟨#[]⟩, .bool false, .slice none 0 0] 74 (0, 0)) ∧ Below W.heap.size W u) (al3 _ _ _ _) ?_
  rintro w1 ⟨hx, hy, hz, hb⟩
  obtain ⟨⟨y0, y1, y2, y3, y4, y5, y6⟩, _⟩ := seven_cells hy
  have HX1 := hid hx
  have HY1 := hid hy
  have HZ1 := hid hz
  have HB1 := hid hb
  clear hx hy hz hb
  go_wp2_with fail
  refine (HCK.out _).mono ?_
  rintro e w5 ⟨rfl, hb5⟩
  have HX := hid (keep0 HX1.out hb5)
  have HY := hid (keep0 HY1.out hb5)
  have HZ := hid (keep0 HZ1.out hb5)
  have HB := hid (HB1.out.trans (hb5.mono HB1.out.size))
  clear y0 y1 y2 y3 y4 y5 y6 HX1 HY1 HZ1 HB1 hb5 HCK
  obtain ⟨⟨x0, x1, x2, x3, x4, x5, x6, x7, x8, x9, x10⟩, _⟩ := eleven_cells HX.out
  obtain ⟨⟨y0, y1, y2, y3, y4, y5, y6⟩, _⟩ := seven_cells HY.out
  obtain ⟨_, ⟨g0, g1, g2, g3, g4, g5, g6, g7, g8, g9, g10, g11, g12, g13⟩⟩ := fourteen_cells HZ.out
  obtain ⟨⟨r0, r1, r2, r3, r4, r5, r6, r7, r8, r9, r10, r11, r12, r13⟩, _⟩ := fourteen_cells (put14_heap HZ.out (.int .i64 f) (.int .i64 t) (.int .i64 i) (.int .i64 p) (.int .i64 q) (.slice A l.length c) (.int .i64 wt) (.int .i64 fl) (.int .i64 gm) (.int .i64 gp) (.int .i64 gl) (.string ⟨#[]⟩) (.bool false) (.slice none 0 0))
  have HB9 := hid (put14_below HB.out (show W.heap.size ≤ W.heap.size + 2 by omega) (.int .i64 f) (.int .i64 t) (.int .i64 i) (.int .i64 p) (.int .i64 q) (.slice A l.length c) (.int .i64 wt) (.int .i64 fl) (.int .i64 gm) (.int .i64 gp) (.int .i64 gl) (.string ⟨#[]⟩) (.bool false) (.slice none 0 0))
  simp only [put14] at r0 r1 r2 r3 r4 r5 r6 r7 r8 r9 r10 r11 r12 r13
  clear HX HY HZ HB
  go_wp2
  exact bodyPost_ret (v := .agg (tkc ⟨f, t, i, ⟨p, q, l, wt, fl⟩, gm, gp, gl⟩ A c ⟨#[]⟩ false none 0 0)) (by simp [results, Try.results28, go_sem, tkc, r0, r1, r2, r3, r4, r5, r6, r7, r8, r9, r10, r11, r12, r13]) rfl ⟨A, c, none, 0, rfl, HS.out.below HB9.out, Sl.nil _ 7 0 none (Nat.zero_le _), HB9.out⟩
end Go.Proofs.Ytdekemlckpbbcaa
