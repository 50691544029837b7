/- The outbox: Put, First; the page's example: contracts. -/
import Derived.Test.YtdekemlckpbbcaaSenC
namespace Go.Proofs.Ytdekemlckpbbcaa
open Go.RowKit Go.Sort
set_option linter.unusedVariables false
set_option linter.unusedSimpArgs false

/-- What Put answers. -/
def PutR (r : (Ov × Bool) × Int) (W : World) (e : Ending) (w' : World) : Prop :=
  ∃ A' c', e = .returned (.tuple #[.agg (oc r.1.1 A' c'), .bool r.1.2, .int .i64 r.2]) ∧ w'.ownsRow W.heap.size 9 1 (.slice A' r.1.1.l.length c') r.1.1.l.length (scells r.1.1.l) ∧ Below W.heap.size W w'
theorem SX.push {W w w' : World} {X Z : Nat} {o : Ov} {A : Option Addr} {c : Nat} {v' : Value} {y : List UInt8} (h : SX W w X Z o A c) (hX : W.heap.size ≤ X) (hZ : W.heap.size ≤ Z) (hne : Z ≠ X)
    (h2 : w'.ownsRow W.heap.size 9 1 v' (o.l.length + 1) (scells o.l ++ [.string (str y)])) (h3 : Below W.heap.size W w') (h5 : ∀ g, W.heap.size ≤ g → g < w.heap.size → (Value.slice A o.l.length c).ownBlock ≠ some g → w'.heap[g]? = w.heap[g]?) :
    w'.heap[X]? = some (.cells (oc o A c) 28 (0, 0)) ∧ ∃ B' c', v' = .slice B' (o.l.length + 1) c' ∧ SX W (w'.setCell ⟨X, 2, none⟩ (.slice B' (o.l.length + 1) c')) X Z ⟨o.p, o.q, o.l ++ [y], o.w, o.f⟩ B' c' := by
  obtain ⟨B', c', rfl, _⟩ := Sl.of_own h2
  have kX : w'.heap[X]? = w.heap[X]? := h5 X hX (lt_of_block h.1) (own_blk_ne h.2.2.1 h.1 (by decide))
  have kZ : w'.heap[Z]? = w.heap[Z]? := h5 Z hZ (lt_of_block h.2.1) (own_blk_ne h.2.2.1 h.2.1 (by decide))
  have hll : (o.l ++ [y]).length = o.l.length + 1 := by simp
  exact ⟨kX.trans h.1, B', c', rfl, SX.one (kX.trans h.1) (kZ.trans h.2.1) hne (o' := ⟨o.p, o.q, o.l ++ [y], o.w, o.f⟩) (A' := B') (c' := c') (by simp only [hll, scells_snoc]; exact h2) h3 hX 2 _ (by simp [oc]) rfl⟩
theorem str_nil (y : List UInt8) (h : y = []) : (str y).toList = [] := by rw [ByteArray.toList_eq, h]; rfl
theorem str_cons (y : List UInt8) (h : y ≠ []) : ¬ (str y).toList = [] := fun h2 => h (by rw [ByteArray.toList_eq] at h2; simpa [str] using h2)
theorem own_nil_out {W : World} {base e : Nat} {A : Option Addr} {c : Nat} (h : W.ownsRow base e 1 (.slice A 0 c) 0 []) : True := trivial

set_option maxRecDepth 20000 in
set_option maxHeartbeats 8000000 in
theorem put_any (o : Ov) (bound : Int) (y : List UInt8) (A : Option Addr) (c : Nat) (W : World) (h : Sl W 1 A o.l.length c (scells o.l)) (hl : o.l.length ≤ 999) :
    Calls Try.prog 10 #[.agg (oc o A c), .int .i64 bound, .string (str y)] W (PutR (putV o bound y) W) := by
  have HCL := hid (fun w (hw : Below W.heap.size W w) => ocloned_any o A c w (h.below hw) (by omega))
  have HL := hid hl
  have HV : Hid (putV o bound y = if y = [] then ((o, false), 1) else if y ∈ o.l then ((o, false), 0) else if bound ≤ (o.l.length : Int) then ((o, false), 7) else if o.l = [] then ((⟨o.p, o.q, [y], 1, 1⟩, true), 0) else ((⟨o.p, o.q, o.l ++ [y], o.w, o.f⟩, false), 0)) := hid rfl
  generalize putV o bound y = rv at *
  clear h hl
  obtain ⟨p, q, l, wt, f⟩ := o
  simp only [oc] at *
  go_enter Try.func10, Try.ntmps10
  go_upto_region 1 with (fail)
  refine at_world (fun u => u.heap[W.heap.size]? = some (.cells (oc ⟨p, q, l, wt, f⟩ A c) 28 (0, 0)) ∧ u.heap[W.heap.size + 1]? = some (.cells #[.string (str y)] 9 (0, 0)) ∧ u.heap[W.heap.size + 2]? = some (.cells oz 28 (0, 0)) ∧ Below W.heap.size W u) (al3 _ _ _ _) ?_
  rintro w1 ⟨hx1, hy1, hz1, hb1⟩
  obtain ⟨⟨p0, p1, p2, p3, p4⟩, f0, f1, f2, f3, f4⟩ := five_cells hx1
  have HX1 := hid hx1
  have HY1 := hid hy1
  have HZ1 := hid hz1
  have HB1 := hid hb1
  clear hx1 hy1 hz1 hb1
  go_wp2_with fail
  refine (HCL.out _ HB1.out).mono ?_
  rintro e w2 ⟨A1, c1, rfl, ho2, hb2⟩
  have hx2 := keep0 HX1.out hb2
  have HB2 := hid (HB1.out.trans (hb2.mono HB1.out.size))
  have HS2 := hid (SX.put (o' := ⟨p, q, l, wt, f⟩) hx2 (keep0 HZ1.out hb2) (by omega) (own_mono ho2 HB1.out.size) HB2.out (Nat.le_refl _) rfl)
  have HY2 := hid ((put5_other (w := w2) (b := W.heap.size) (g := W.heap.size + 1) (by omega) (.int .i64 p) (.int .i64 q) (.slice A1 l.length c1) (.int .i64 wt) (.int .i64 f)).trans (keep0 HY1.out hb2))
  clear p0 p1 p2 p3 p4 f0 f1 f2 f3 f4
  obtain ⟨⟨p0, p1, p2, p3, p4⟩, f0, f1, f2, f3, f4⟩ := five_cells hx2
  clear hx2 ho2 hb2 HX1 HY1 HZ1 HB1 HCL HB2
  go_upto_region 2 with (fail)
  refine at_world (fun u => SX W u W.heap.size (W.heap.size + 2) ⟨p, q, l, wt, f⟩ A1 c1 ∧ u.heap[W.heap.size + 1]? = some (.cells #[.string (str y)] 9 (0, 0))) ⟨HS2.out, HY2.out⟩ ?_
  clear p0 p1 p2 p3 p4 f0 f1 f2 f3 f4 HS2 HY2
  rintro w3 ⟨hs3, hy3⟩
  have HS3 := hid hs3
  have yc : w3.cell? ⟨W.heap.size + 1, 0, none⟩ = some (.string (str y)) := by rw [cell_of_row _ _ _ _ _ _ hy3]; rfl
  obtain ⟨⟨p0, p1, p2, p3, p4⟩, f0, f1, f2, f3, f4⟩ := five_cells hs3.1
  have HHF := hid (hasf_any A1 c1 l (W.heap.size + 1) y w3 (sl_own hs3.2.2.1) yc)
  clear hs3 hy3
  go_wp2_with fail
  refine HHF.out.mono ?_
  rintro e w4 ⟨rfl, rfl⟩
  clear HHF
  by_cases h1 : y = []
  · have HVV : Hid (rv = ((⟨p, q, l, wt, f⟩, false), 1)) := hid (by rw [HV.out, if_pos h1])
    have hte := str_nil y h1
    have hte2 : (str y).toList.isEmpty = true := by rw [hte]; rfl
    clear h1 HV
    generalize decide (y ∈ l) = dm at *
    clear p0 p1 p2 p3 p4 f0 f1 f2 f3 f4
    obtain ⟨⟨p0, p1, p2, p3, p4⟩, _⟩ := five_cells HS3.out.1
    obtain ⟨_, g0, g1, g2, g3, g4⟩ := five_cells HS3.out.2.1
    obtain ⟨⟨r0, r1, r2, r3, r4⟩, _⟩ := five_cells (put5_heap HS3.out.2.1 (.int .i64 p) (.int .i64 q) (.slice A1 l.length c1) (.int .i64 wt) (.int .i64 f))
    simp only [put5] at r0 r1 r2 r3 r4
    go_wp2
    have hr := HS3.out.ret (show W.heap.size ≤ W.heap.size + 2 by omega)
    exact bodyPost_ret (v := .tuple #[.agg #[.int .i64 p, .int .i64 q, .slice A1 l.length c1, .int .i64 wt, .int .i64 f], .bool false, .int .i64 1]) (by simp [results, Try.results10, go_sem, r0, r1, r2, r3, r4]) rfl ⟨A1, c1, by rw [HVV.out]; rfl, by rw [HVV.out]; exact hr.1, hr.2⟩
  have hte := str_cons y h1
  have hte2 : (str y).toList.isEmpty = false := by simpa using hte
  by_cases h2 : y ∈ l
  case' pos =>
    have HVV : Hid (rv = ((⟨p, q, l, wt, f⟩, false), 0)) := hid (by rw [HV.out, if_neg h1, if_pos h2])
    have d2 : decide (y ∈ l) = true := decide_eq_true h2
    rw [d2]
    clear h1 h2 HV d2
    clear p0 p1 p2 p3 p4 f0 f1 f2 f3 f4
    obtain ⟨⟨p0, p1, p2, p3, p4⟩, _⟩ := five_cells HS3.out.1
    obtain ⟨_, g0, g1, g2, g3, g4⟩ := five_cells HS3.out.2.1
    obtain ⟨⟨r0, r1, r2, r3, r4⟩, _⟩ := five_cells (put5_heap HS3.out.2.1 (.int .i64 p) (.int .i64 q) (.slice A1 l.length c1) (.int .i64 wt) (.int .i64 f))
    simp only [put5] at r0 r1 r2 r3 r4
    go_wp2
    have hr := HS3.out.ret (show W.heap.size ≤ W.heap.size + 2 by omega)
    exact bodyPost_ret (v := .tuple #[.agg #[.int .i64 p, .int .i64 q, .slice A1 l.length c1, .int .i64 wt, .int .i64 f], .bool false, .int .i64 0]) (by simp [results, Try.results10, go_sem, r0, r1, r2, r3, r4]) rfl ⟨A1, c1, by rw [HVV.out]; rfl, by rw [HVV.out]; exact hr.1, hr.2⟩
  have d2 : decide (y ∈ l) = false := decide_eq_false h2
  rw [d2]
  clear d2
  by_cases h3 : bound ≤ (l.length : Int)
  case' pos =>
    have HVV : Hid (rv = ((⟨p, q, l, wt, f⟩, false), 7)) := hid (by rw [HV.out, if_neg h1, if_neg h2, if_pos h3])
    have d3 : decide (bound ≤ (l.length : Int)) = true := decide_eq_true h3
    clear h1 h2 HV
    clear p0 p1 p2 p3 p4 f0 f1 f2 f3 f4
    obtain ⟨⟨p0, p1, p2, p3, p4⟩, _⟩ := five_cells HS3.out.1
    obtain ⟨_, g0, g1, g2, g3, g4⟩ := five_cells HS3.out.2.1
    obtain ⟨⟨r0, r1, r2, r3, r4⟩, _⟩ := five_cells (put5_heap HS3.out.2.1 (.int .i64 p) (.int .i64 q) (.slice A1 l.length c1) (.int .i64 wt) (.int .i64 f))
    simp only [put5] at r0 r1 r2 r3 r4
    go_wp2
    have hr := HS3.out.ret (show W.heap.size ≤ W.heap.size + 2 by omega)
    exact bodyPost_ret (v := .tuple #[.agg #[.int .i64 p, .int .i64 q, .slice A1 l.length c1, .int .i64 wt, .int .i64 f], .bool false, .int .i64 7]) (by simp [results, Try.results10, go_sem, r0, r1, r2, r3, r4]) rfl ⟨A1, c1, by rw [HVV.out]; rfl, by rw [HVV.out]; exact hr.1, hr.2⟩
  have d3 : decide (bound ≤ (l.length : Int)) = false := decide_eq_false h3
  have HV2 : Hid (rv = if l = [] then ((⟨p, q, [y], 1, 1⟩, true), 0) else ((⟨p, q, l ++ [y], wt, f⟩, false), 0)) := hid (by rw [HV.out, if_neg h1, if_neg h2, if_neg h3])
  have hl9 : l.length ≤ 999 := HL.out
  clear h1 h2 h3 HV HL
  go_wp2_with (at_builtin; refine wpList_append_1k (W := W) rfl (.tmp 32) (.tmp 34) 24 rfl W.heap.size 9 Try.underlying24 info_str rfl (by omega) rfl HS3.out.2.2.1 rfl (by rfl) (by simp [Value.oneCell']) ?c1 ?c2 HS3.out.2.2.2.size HS3.out.2.2.2 ?_)
  case c1 => unfold maxLen; omega
  case c2 => omega
  intro v5 w5 h2 h3 h4 h5
  obtain ⟨hx5, A5, c5, rfl, hs5⟩ := HS3.out.push (y := y) (Nat.le_refl _) (show W.heap.size ≤ W.heap.size + 2 by omega) (by omega) h2 h3 h5
  have HS5 := hid hs5
  clear p0 p1 p2 p3 p4 f0 f1 f2 f3 f4 h2 h3 h4 h5 hs5 HS3 hte hte2 yc
  obtain ⟨⟨p0, p1, p2, p3, p4⟩, f0, f1, f2, f3, f4⟩ := five_cells hx5
  clear hx5
  go_upto_region 10 with (fail)
  refine at_world (fun u => SX W u W.heap.size (W.heap.size + 2) ⟨p, q, l ++ [y], wt, f⟩ A5 c5) HS5.out ?_
  clear p0 p1 p2 p3 p4 f0 f1 f2 f3 f4 HS5
  rintro w6 hs6
  have HS6 := hid hs6
  clear hs6
  have HL6 : Hid ((l ++ [y]).length = l.length + 1) := hid (by simp)
  by_cases h4 : l = []
  · have HVV : Hid (rv = ((⟨p, q, l ++ [y], 1, 1⟩, true), 0)) := hid (by rw [HV2.out, if_pos h4, h4]; rfl)
    have hl0 : l.length = 0 := by rw [h4]; rfl
    have HBG := hid (fun w => begun_any ⟨p, q, l ++ [y], wt, f⟩ A5 c5 w (by simp only [HL6.out]; omega))
    have hbv : begV ⟨p, q, l ++ [y], wt, f⟩ = (⟨p, q, l ++ [y], 1, 1⟩, true) := by unfold begV; rw [if_neg (by simp)]
    rw [hbv] at HBG
    have HN : Hid ((l ++ [y]).length = 1) := hid (by rw [HL6.out, hl0])
    simp only [oc] at HBG
    obtain ⟨⟨p0, p1, p2, p3, p4⟩, f0, f1, f2, f3, f4⟩ := five_cells HS6.out.1
    clear hbv h4 hl0 HL6
    generalize hL : l ++ [y] = L at *
    have HLL := hid hL
    clear hL
    have i1 : ¬ (1 : Int) < (L.length : Int) := by rw [HN.out]; omega
    have d1 : decide ((1 : Int) < (L.length : Int)) = false := decide_eq_false i1
    go_wp2_with fail
    refine (HBG.out _).mono ?_
    rintro e w7 ⟨rfl, hb7⟩
    have HS7 := hid (HS6.out.keep hb7)
    clear hb7 HS6 p0 p1 p2 p3 p4 f0 f1 f2 f3 f4 HBG
    have HS8 := hid (SX.put (o' := ⟨p, q, L, 1, 1⟩) HS7.out.1 HS7.out.2.1 (by omega) HS7.out.2.2.1 HS7.out.2.2.2 (Nat.le_refl _) rfl)
    obtain ⟨⟨p0, p1, p2, p3, p4⟩, f0, f1, f2, f3, f4⟩ := five_cells HS7.out.1
    go_upto_region 13 with (fail)
    refine at_world (fun u => SX W u W.heap.size (W.heap.size + 2) ⟨p, q, L, 1, 1⟩ A5 c5) HS8.out ?_
    clear p0 p1 p2 p3 p4 f0 f1 f2 f3 f4 HS7 HS8
    rintro w9 hs9
    have HS9 := hid hs9
    clear hs9
    obtain ⟨⟨p0, p1, p2, p3, p4⟩, _⟩ := five_cells HS9.out.1
    obtain ⟨_, g0, g1, g2, g3, g4⟩ := five_cells HS9.out.2.1
    obtain ⟨⟨r0, r1, r2, r3, r4⟩, _⟩ := five_cells (put5_heap HS9.out.2.1 (.int .i64 p) (.int .i64 q) (.slice A5 L.length c5) (.int .i64 1) (.int .i64 1))
    simp only [put5] at r0 r1 r2 r3 r4
    go_wp2
    have hr := HS9.out.ret (show W.heap.size ≤ W.heap.size + 2 by omega)
    exact bodyPost_ret (v := .tuple #[.agg #[.int .i64 p, .int .i64 q, .slice A5 L.length c5, .int .i64 1, .int .i64 1], .bool true, .int .i64 0]) (by simp [results, Try.results10, go_sem, r0, r1, r2, r3, r4]) rfl ⟨A5, c5, by rw [HVV.out]; rfl, by rw [HVV.out]; exact hr.1, hr.2⟩
  · have HVV : Hid (rv = ((⟨p, q, l ++ [y], wt, f⟩, false), 0)) := hid (by rw [HV2.out, if_neg h4])
    have hl0 : 0 < l.length := by
      rcases Nat.eq_zero_or_pos l.length with h | h
      · exact absurd (List.eq_nil_of_length_eq_zero h) h4
      · exact h
    have HN : Hid (1 < (l ++ [y]).length) := hid (by rw [HL6.out]; omega)
    clear h4 hl0 HL6
    generalize hL : l ++ [y] = L at *
    have HLL := hid hL
    clear hL
    have i1 : (1 : Int) < (L.length : Int) := by have := HN.out; omega
    have d1 : decide ((1 : Int) < (L.length : Int)) = true := decide_eq_true i1
    obtain ⟨⟨p0, p1, p2, p3, p4⟩, _⟩ := five_cells HS6.out.1
    obtain ⟨_, g0, g1, g2, g3, g4⟩ := five_cells HS6.out.2.1
    obtain ⟨⟨r0, r1, r2, r3, r4⟩, _⟩ := five_cells (put5_heap HS6.out.2.1 (.int .i64 p) (.int .i64 q) (.slice A5 L.length c5) (.int .i64 wt) (.int .i64 f))
    simp only [put5] at r0 r1 r2 r3 r4
    go_wp2
    have hr := HS6.out.ret (show W.heap.size ≤ W.heap.size + 2 by omega)
    exact bodyPost_ret (v := .tuple #[.agg #[.int .i64 p, .int .i64 q, .slice A5 L.length c5, .int .i64 wt, .int .i64 f], .bool false, .int .i64 0]) (by simp [results, Try.results10, go_sem, r0, r1, r2, r3, r4]) rfl ⟨A5, c5, by rw [HVV.out]; rfl, by rw [HVV.out]; exact hr.1, hr.2⟩

set_option maxRecDepth 20000 in
theorem first_any (o : Ov) (y : List UInt8) (t : List (List UInt8)) (hy : o.l = y :: t) (A : Option Addr) (c : Nat) (W : World) (h : Sl W 1 A o.l.length c (scells o.l)) (hl : o.l.length ≤ 1000) :
    Calls Try.prog 35 #[.agg (oc o A c)] W fun e w' => e = .returned (.string (str y)) ∧ Below W.heap.size W w' := by
  obtain ⟨p, q, l, wt, f⟩ := o
  simp only at hy
  have h0 : 0 < l.length := by rw [hy]; simp
  obtain ⟨b, off, rfl, c1⟩ := scells_at h 0 h0
  have hg : l[0] = y := by simp [hy]
  rw [hg, Nat.add_zero] at c1
  have HB0 : Hid (Below W.heap.size W (W.alloc (.cells (oc ⟨p, q, l, wt, f⟩ (some ⟨b, off, none⟩) c) 28))) := hid ((Below.refl _ _).alloc (Nat.le_refl _) _)
  have c2 : ∀ o, (W.alloc o).cell? ⟨b, off, none⟩ = some (.string (str y)) := fun o => (World.cell?_alloc_lt W o _ (lt_of_cell c1)).trans c1
  have e0 : ((l.length : Int) == 0) = false := by rw [beq_eq_false_iff_ne]; omega
  have i0 : (0 : Int) < (l.length : Int) := by omega
  simp only [oc] at *
  clear hg hy h h0 c1
  go_enter Try.func35, Try.ntmps35
  go_wp2
  go_ret
  exact ⟨rfl, HB0.out⟩
theorem exS1 : putV ⟨1, 1, [], 1, 0⟩ 5 [97] = ((⟨1, 1, [[97]], 1, 1⟩, true), 0) := by simp [putV]
theorem exS2 : putV ⟨1, 1, [[97]], 1, 1⟩ 5 [98] = ((⟨1, 1, [[97], [98]], 1, 1⟩, false), 0) := by simp [putV]
theorem exS3 : putV ⟨1, 1, [[97], [98]], 1, 1⟩ 5 [97] = ((⟨1, 1, [[97], [98]], 1, 1⟩, false), 0) := by simp [putV]
theorem exS4 : ackV ⟨1, 1, [[97], [98]], 1, 1⟩ 1 1 = (⟨1, 2, [[98]], 1, 1⟩, true) := by simp [ackV, begV]
theorem sl_nil0 (w : World) : Sl w 1 none 0 0 (scells []) := ⟨rfl, Nat.le_refl _, by unfold maxLen; omega, fun h => by simp [scells] at h⟩

set_option maxRecDepth 20000 in
set_option maxHeartbeats 8000000 in
theorem works24_any (W : World) : Calls Try.prog 8 #[] W fun e w' => e = .returned (.bool true) ∧ Below W.heap.size W w' := by
  have H1 := hid (fun (w : World) => put_any ⟨1, 1, [], 1, 0⟩ 5 [97] none 0 w (sl_nil0 w) (by decide))
  have H2 := hid (fun (A : Option Addr) (c : Nat) (w : World) h => put_any ⟨1, 1, [[97]], 1, 1⟩ 5 [98] A c w h (by decide))
  have H3 := hid (fun (A : Option Addr) (c : Nat) (w : World) h => put_any ⟨1, 1, [[97], [98]], 1, 1⟩ 5 [97] A c w h (by decide))
  have H4 := hid (fun (A : Option Addr) (c : Nat) (w : World) h => acked_any ⟨1, 1, [[97], [98]], 1, 1⟩ 1 1 A c w h (by decide) (by decide) (by decide))
  have H5 := hid (fun (A : Option Addr) (c : Nat) (w : World) h => first_any ⟨1, 2, [[98]], 1, 1⟩ [98] [] rfl A c w h (by decide))
  have H0 := hid (fun (w : World) => onew_any w)
  unfold PutR at H1 H2 H3
  unfold OutR at H4
  rw [exS1] at H1
  rw [exS2] at H2
  rw [exS3] at H3
  rw [exS4] at H4
  simp only [oc, List.length_cons, List.length_nil, Nat.zero_add, Nat.reduceAdd, show str [97] = ⟨#[97]⟩ from rfl, show str [98] = ⟨#[98]⟩ from rfl] at H0 H1 H2 H3 H4 H5
  go_enter Try.func8, Try.ntmps8
  go_wp2_with fail
  refine (H0.out _).mono ?_
  rintro e w1 ⟨rfl, hb1⟩
  have HB1 := hid hb1
  clear hb1
  go_wp2_with fail
  refine (H1.out _).mono ?_
  rintro e w2 ⟨A2, c2, rfl, ho2, hb2⟩
  have HB2 := hid (HB1.out.trans (hb2.mono HB1.out.size))
  have HS2 := hid (sl_own ho2)
  clear ho2 hb2 HB1 H0 H1
  go_upto_region 2 with (fail)
  refine at_world (fun u => u.heap[w2.heap.size]? = some (.cells #[.int .i64 1, .int .i64 1, .slice A2 1 c2, .int .i64 1, .int .i64 1] 28 (0, 0)) ∧ Below w2.heap.size w2 u) ⟨heap_alloc_new _ _, (Below.refl _ _).alloc (Nat.le_refl _) _⟩ ?_
  rintro w3 ⟨hx3, hb3⟩
  have HX3 := hid hx3
  have HS3 := hid (HS2.out.below hb3)
  have HB3 := hid (HB2.out.trans (hb3.mono HB2.out.size))
  have hW : W.heap.size ≤ w2.heap.size := HB2.out.size
  clear hx3 hb3 HS2 HB2
  generalize w2.heap.size = T at *
  obtain ⟨⟨p0, p1, p2, p3, p4⟩, f0, f1, f2, f3, f4⟩ := five_cells HX3.out
  go_wp2_with fail
  refine (H2.out _ _ _ HS3.out).mono ?_
  rintro e w5 ⟨A5, c5, rfl, ho, hb⟩
  have hx := keep0 HX3.out hb
  have HT5 := hid ho
  have HB5 := hid (HB3.out.trans (hb.mono HB3.out.size))
  have HX5 := hid (put5_heap hx (.int .i64 1) (.int .i64 1) (.slice A5 2 c5) (.int .i64 1) (.int .i64 1))
  have HSS5 := hid (own_at (w' := put5 w5 T (.int .i64 1) (.int .i64 1) (.slice A5 2 c5) (.int .i64 1) (.int .i64 1)) ho hx (by decide) fun g hg => put5_other hg _ _ _ _ _)
  have HBB5 := hid (put5_below (b := T) HB5.out hW (.int .i64 1) (.int .i64 1) (.slice A5 2 c5) (.int .i64 1) (.int .i64 1))
  clear p0 p1 p2 p3 p4 f0 f1 f2 f3 f4 ho hb HX3 HS3 HB3 H2
  obtain ⟨⟨p0, p1, p2, p3, p4⟩, f0, f1, f2, f3, f4⟩ := five_cells hx
  clear hx
  go_upto_region 3 with (fail)
  refine at_world (fun u => u.heap[T]? = some (.cells #[.int .i64 1, .int .i64 1, .slice A5 2 c5, .int .i64 1, .int .i64 1] 28 (0, 0)) ∧ Sl u 1 A5 2 c5 (scells [[97], [98]]) ∧ Below W.heap.size W u) ⟨HX5.out, sl_own HSS5.out, HBB5.out⟩ ?_
  clear p0 p1 p2 p3 p4 f0 f1 f2 f3 f4 HX5 HSS5 HBB5 HT5 HB5
  rintro w5b ⟨hx, hs, hb⟩
  have HX5 := hid hx
  have HS5 := hid hs
  have HB5 := hid hb
  obtain ⟨⟨p0, p1, p2, p3, p4⟩, f0, f1, f2, f3, f4⟩ := five_cells hx
  clear hx hs hb
  go_wp2_with fail
  refine (H3.out _ _ _ HS5.out).mono ?_
  rintro e w6 ⟨A6, c6, rfl, ho, hb⟩
  have hx := keep0 HX5.out hb
  have HT6 := hid ho
  have HB6 := hid (HB5.out.trans (hb.mono HB5.out.size))
  have HX6 := hid (put5_heap hx (.int .i64 1) (.int .i64 1) (.slice A6 2 c6) (.int .i64 1) (.int .i64 1))
  have HSS6 := hid (own_at (w' := put5 w6 T (.int .i64 1) (.int .i64 1) (.slice A6 2 c6) (.int .i64 1) (.int .i64 1)) ho hx (by decide) fun g hg => put5_other hg _ _ _ _ _)
  have HBB6 := hid (put5_below (b := T) HB6.out hW (.int .i64 1) (.int .i64 1) (.slice A6 2 c6) (.int .i64 1) (.int .i64 1))
  clear p0 p1 p2 p3 p4 f0 f1 f2 f3 f4 ho hb HX5 HS5 HB5 H3
  obtain ⟨⟨p0, p1, p2, p3, p4⟩, f0, f1, f2, f3, f4⟩ := five_cells hx
  clear hx
  go_upto_region 4 with (fail)
  refine at_world (fun u => u.heap[T]? = some (.cells #[.int .i64 1, .int .i64 1, .slice A6 2 c6, .int .i64 1, .int .i64 1] 28 (0, 0)) ∧ Sl u 1 A6 2 c6 (scells [[97], [98]]) ∧ Below W.heap.size W u) ⟨HX6.out, sl_own HSS6.out, HBB6.out⟩ ?_
  clear p0 p1 p2 p3 p4 f0 f1 f2 f3 f4 HX6 HSS6 HBB6 HT6 HB6
  rintro w6b ⟨hx, hs, hb⟩
  have HX6 := hid hx
  have HS6 := hid hs
  have HB6 := hid hb
  obtain ⟨⟨p0, p1, p2, p3, p4⟩, f0, f1, f2, f3, f4⟩ := five_cells hx
  clear hx hs hb
  go_wp2_with fail
  refine (H4.out _ _ _ HS6.out).mono ?_
  rintro e w7 ⟨A7, c7, rfl, ho, hb⟩
  have hx := keep0 HX6.out hb
  have HT7 := hid ho
  have HB7 := hid (HB6.out.trans (hb.mono HB6.out.size))
  have HX7 := hid (put5_heap hx (.int .i64 1) (.int .i64 2) (.slice A7 1 c7) (.int .i64 1) (.int .i64 1))
  have HSS7 := hid (own_at (w' := put5 w7 T (.int .i64 1) (.int .i64 2) (.slice A7 1 c7) (.int .i64 1) (.int .i64 1)) ho hx (by decide) fun g hg => put5_other hg _ _ _ _ _)
  have HBB7 := hid (put5_below (b := T) HB7.out hW (.int .i64 1) (.int .i64 2) (.slice A7 1 c7) (.int .i64 1) (.int .i64 1))
  clear p0 p1 p2 p3 p4 f0 f1 f2 f3 f4 ho hb HX6 HS6 HB6 H4
  obtain ⟨⟨p0, p1, p2, p3, p4⟩, f0, f1, f2, f3, f4⟩ := five_cells hx
  clear hx
  go_upto_region 5 with (fail)
  refine at_world (fun u => u.heap[T]? = some (.cells #[.int .i64 1, .int .i64 2, .slice A7 1 c7, .int .i64 1, .int .i64 1] 28 (0, 0)) ∧ Sl u 1 A7 1 c7 (scells [[98]]) ∧ Below W.heap.size W u) ⟨HX7.out, sl_own HSS7.out, HBB7.out⟩ ?_
  clear p0 p1 p2 p3 p4 f0 f1 f2 f3 f4 HX7 HSS7 HBB7 HT7 HB7
  rintro w7b ⟨hx, hs, hb⟩
  have HX7 := hid hx
  have HS7 := hid hs
  have HB7 := hid hb
  obtain ⟨⟨p0, p1, p2, p3, p4⟩, f0, f1, f2, f3, f4⟩ := five_cells hx
  clear hx hs hb
  go_wp2_with fail
  refine (H5.out _ _ _ HS7.out).mono ?_
  rintro e w8 ⟨rfl, hb8⟩
  have HB8 := hid (HB7.out.trans (hb8.mono HB7.out.size))
  obtain ⟨⟨q0, q1, q2, q3, q4⟩, _⟩ := five_cells (keep0 HX7.out hb8)
  clear hb8 p0 p1 p2 p3 p4 f0 f1 f2 f3 f4 HS7 HX7
  go_wp2
  go_ret
  exact ⟨rfl, HB8.out⟩
end Go.Proofs.Ytdekemlckpbbcaa
