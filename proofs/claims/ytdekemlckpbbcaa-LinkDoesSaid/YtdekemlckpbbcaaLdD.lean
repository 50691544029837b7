/- The document's outbox: Put: contract. -/
import Derived.Test.YtdekemlckpbbcaaLdC
import Derived.Test.YtdekemlckpbbcaaMid
namespace Go.Proofs.Ytdekemlckpbbcaa
open Go.RowKit Go.Sort
set_option linter.unusedVariables false
set_option linter.unusedSimpArgs false

/-- What Put answers. -/
def RPut (r : (Ov × Bool) × Int) (W : World) (e : Ending) (w' : World) : Prop :=
  ∃ A' c', e = .returned (.tuple #[.agg (oc r.1.1 A' c'), .bool r.1.2, .int .i64 r.2]) ∧ Sl w' 1 A' r.1.1.l.length c' (scells r.1.1.l) ∧ Below W.heap.size W w'
set_option maxRecDepth 20000 in
set_option maxHeartbeats 4000000 in
theorem r24put_any (o : Ov) (bound : Int) (y : List UInt8) (A : Option Addr) (c : Nat) (W : World) (h : Sl W 1 A o.l.length c (scells o.l)) (hl : o.l.length ≤ 999) (hy : y.length ≤ maxLen) :
    Calls Try.prog 47 #[.agg (oc o A c), .int .i64 bound, .string (str y)] W (RPut (putV o bound y) W) := by
  have HS := hid h
  have HV : Hid (putV o bound y = if y = [] then ((o, false), 1) else if y ∈ o.l then ((o, false), 0) else if bound ≤ (o.l.length : Int) then ((o, false), 7) else if o.l = [] then ((⟨o.p, o.q, [y], 1, 1⟩, true), 0) else ((⟨o.p, o.q, o.l ++ [y], o.w, o.f⟩, false), 0)) := hid rfl
  generalize putV o bound y = rv at *
  have HPL := hid (fun w (hb : Below W.heap.size W w) => rplace_any A o.l.length c o.l y w (h.below hb))
  have HMM : Hid (0 ≤ placeJ o.l y ↔ y ∈ o.l) := hid (placeJ_mem _ _)
  obtain ⟨p, q, l, wt, fl⟩ := o
  simp only at HV HS hl HPL HMM
  clear h
  simp only [oc]
  by_cases h1 : y = []
  · obtain rfl := HV.out.trans (if_pos h1)
    have e1 := str_nil y h1
    have e2 : ((str y).toList == []) = true := by simp [e1]
    clear h1
    clear HV HPL HMM
    go_enter Try.func47, Try.ntmps47
    go_wp2
    exact bodyPost_ret (v := .tuple #[.agg #[.int .i64 p, .int .i64 q, .slice A l.length c, .int .i64 wt, .int .i64 fl], .bool false, .int .i64 1]) (by simp [results, Try.results47, go_sem]) rfl ⟨A, c, rfl, HS.out.below (below2 _ _ _), below2 _ _ _⟩
  have e1 := str_cons y h1
  have e2 : ((str y).toList == []) = false := by simpa using e1
  have HV1 := hid (HV.out.trans (if_neg h1))
  clear h1 HV
  go_enter Try.func47, Try.ntmps47
  go_wp2_with fail
  refine (HPL.out _ (below2 _ _ _)).mono ?_
  rintro e w2 ⟨rfl, rfl⟩
  clear HPL
  by_cases h2 : y ∈ l
  · obtain rfl := HV1.out.trans (if_pos h2)
    have d2 : decide (0 ≤ placeJ l y) = true := decide_eq_true (HMM.out.2 h2)
    have d3 : 0 ≤ placeJ l y := HMM.out.2 h2
    clear h2 HMM HV1
    generalize placeJ l y = pj at *
    go_wp2
    exact bodyPost_ret (v := .tuple #[.agg #[.int .i64 p, .int .i64 q, .slice A l.length c, .int .i64 wt, .int .i64 fl], .bool false, .int .i64 0]) (by simp [results, Try.results47, go_sem]) rfl ⟨A, c, rfl, HS.out.below (below2 _ _ _), below2 _ _ _⟩
  have HV2 := hid (HV1.out.trans (if_neg h2))
  clear HV1
  have d2 : decide (0 ≤ placeJ l y) = false := decide_eq_false (fun h => h2 (HMM.out.1 h))
  have d3 : ¬ 0 ≤ placeJ l y := fun h => h2 (HMM.out.1 h)
  clear h2 HMM
  generalize placeJ l y = pj at *
  by_cases h3 : bound ≤ (l.length : Int)
  · obtain rfl := HV2.out.trans (if_pos h3)
    have d4 : decide (bound ≤ (l.length : Int)) = true := decide_eq_true h3
    go_wp2
    exact bodyPost_ret (v := .tuple #[.agg #[.int .i64 p, .int .i64 q, .slice A l.length c, .int .i64 wt, .int .i64 fl], .bool false, .int .i64 7]) (by simp [results, Try.results47, go_sem]) rfl ⟨A, c, rfl, HS.out.below (below2 _ _ _), below2 _ _ _⟩
  have HV3 := hid (HV2.out.trans (if_neg h3))
  clear HV2
  have d4 : decide (bound ≤ (l.length : Int)) = false := decide_eq_false h3
  go_upto_region 7 with (fail)
  clear h3 d4 d2 d3
  refine at_world (fun u => u.heap[W.heap.size]? = some (.cells #[.int .i64 p, .int .i64 q, .slice A l.length c, .int .i64 wt, .int .i64 fl] 44 (0, 0)) ∧ u.heap[W.heap.size + 1]? = some (.cells oz 44 (0, 0)) ∧ Below W.heap.size W u) ⟨heap_first _ _ _, heap_second _ _ _, below2 _ _ _⟩ ?_
  rintro w3 ⟨hx, hz, hb⟩
  have HX := hid hx
  have HZ := hid hz
  have HB := hid hb
  obtain ⟨⟨p0, p1, p2, p3, p4⟩, _⟩ := five_cells hx
  have hgl := lt_of_block hx
  have HE0 := hid (Mid.of_own (own_empty w3 9 1))
  have hbs : Below w3.heap.size w3 (w3.alloc (.cells #[] 9)) := (Below.refl _ _).alloc (Nat.le_refl _) _
  have HBS := hid hbs
  have HSL := hid (HS.out.below (hb.trans (hbs.mono hb.size)))
  have hle := hbs.size
  clear hx hz hb hbs
  go_wp2_with (at_builtin; refine wpList_append_mid rfl (.tmp 24) (.tmp 26) 24 rfl w3.heap.size 9 Try.underlying24 info_str rfl (by omega) rfl HE0.out rfl HSL.out (scells_one _) (by unfold maxLen; omega) (by omega) hle HBS.out ?_)
  intro v5 w5 ho5 hb5 hsz5 hk5
  obtain ⟨T5, c5, rfl, _⟩ := Mid.form ho5
  clear p0 p1 p2 p3 p4 HE0 HBS HSL hle hsz5 hk5
  have HT := hid (ho5.keep ((Below.refl _ _).alloc (Nat.le_refl _) (.cells #[.string (str y)] 9)))
  have HB5 := hid (hb5.alloc hb5.size (.cells #[.string (str y)] 9))
  have HS5 := hid (Sl.lit w5 9 1 1 #[.string (str y)] rfl (by unfold maxLen; omega))
  have hle5 := HB5.out.size
  clear ho5 hb5
  go_wp2_with (at_builtin; refine wpList_append_mid rfl (.tmp 27) (.tmp 29) 24 rfl w3.heap.size 9 Try.underlying24 info_str rfl (by omega) rfl HT.out rfl HS5.out (by simp; rfl) (by unfold maxLen; omega) (by omega) hle5 HB5.out ?_)
  intro v7 w7 ho7 hb7 hsz7 hk7
  obtain ⟨T7, c7, rfl, _⟩ := Mid.form ho7
  have hx7 := keep0 HX.out hb7
  have hz7 := keep0 HZ.out hb7
  obtain ⟨_, f0, f1, f2, f3, f4⟩ := five_cells hx7
  have hx8 : (w7.setCell ⟨W.heap.size, 2, none⟩ (.slice T7 (l.length + 1) c7)).heap[W.heap.size]? = some (.cells #[.int .i64 p, .int .i64 q, .slice T7 (l.length + 1) c7, .int .i64 wt, .int .i64 fl] 44 (0, 0)) := by
    rw [heap_setCell_same w7 W.heap.size 2 _ _ _ hx7]
    rfl
  have hz8 := (Below.heap_setCell w7 ⟨W.heap.size, 2, none⟩ (.slice T7 (l.length + 1) c7) (W.heap.size + 1) (show W.heap.size + 1 ≠ W.heap.size by omega)).trans hz7
  have ho8 := ho7.setOther hx7 (by decide) 2 (.slice T7 (l.length + 1) c7)
  have hb8 : Below W.heap.size W (w7.setCell ⟨W.heap.size, 2, none⟩ (.slice T7 (l.length + 1) c7)) := (HB.out.trans (hb7.mono HB.out.size)).setCell (p := ⟨W.heap.size, 2, none⟩) (Nat.le_refl _) _
  go_upto_region 8 with (fail)
  refine at_world (fun u => u.heap[W.heap.size]? = some (.cells #[.int .i64 p, .int .i64 q, .slice T7 (l.length + 1) c7, .int .i64 wt, .int .i64 fl] 44 (0, 0)) ∧ u.heap[W.heap.size + 1]? = some (.cells oz 44 (0, 0)) ∧ Mid u w3.heap.size 9 1 (.slice T7 (l.length + 1) c7) (l.length + 1) (scells l ++ [.string (str y)]) ∧ Below W.heap.size W u) ⟨hx8, hz8, ho8, hb8⟩ ?_
  clear f0 f1 f2 f3 f4 hx7 hz7 hx8 hz8 ho8 hb8 ho7 hb7 hsz7 hk7 HT HB5 HS5 hle5 HX HZ HB hgl
  rintro w8 ⟨hx, hz, ho, hb⟩
  generalize hL1 : l.length + 1 = L1 at *
  have HL1 := hid hL1
  by_cases h0 : l = []
  · obtain rfl := HV3.out.trans (if_pos h0)
    have e3 : ((L1 : Int) == 1) = true := by rw [← hL1, h0]; rfl
    have H0 := hid h0
    clear h0 hL1 HV3
    obtain ⟨⟨p0, p1, p2, p3, p4⟩, f0, f1, f2, f3, f4⟩ := five_cells hx
    have HX := hid (pace_set hx (.int .i64 1) (.int .i64 1))
    have HZ := hid ((pace_other (show W.heap.size + 1 ≠ W.heap.size by omega) (.int .i64 1) (.int .i64 1)).trans hz)
    have HB := hid (pace_below hb (Nat.le_refl _) (.int .i64 1) (.int .i64 1))
    have HO := hid (ho.only (w' := (w8.setCell ⟨W.heap.size, 3, none⟩ (.int .i64 1)).setCell ⟨W.heap.size, 4, none⟩ (.int .i64 1)) hx (by decide) (fun g hg _ => pace_other hg (.int .i64 1) (.int .i64 1)))
    clear hx hz hb ho
    go_upto_region 10 with (fail)
    refine at_world (fun u => u.heap[W.heap.size]? = some (.cells #[.int .i64 p, .int .i64 q, .slice T7 L1 c7, .int .i64 1, .int .i64 1] 44 (0, 0)) ∧ u.heap[W.heap.size + 1]? = some (.cells oz 44 (0, 0)) ∧ Mid u w3.heap.size 9 1 (.slice T7 L1 c7) L1 (scells l ++ [.string (str y)]) ∧ Below W.heap.size W u) ⟨HX.out, HZ.out, HO.out, HB.out⟩ ?_
    clear p0 p1 p2 p3 p4 f0 f1 f2 f3 f4 HX HZ HO HB
    rintro w9 ⟨hx, hz, ho, hb⟩
    obtain ⟨⟨p0, p1, p2, p3, p4⟩, _⟩ := five_cells hx
    obtain ⟨_, f0, f1, f2, f3, f4⟩ := five_cells hz
    obtain ⟨⟨r0, r1, r2, r3, r4⟩, _⟩ := five_cells (put5_heap hz (.int .i64 p) (.int .i64 q) (.slice T7 L1 c7) (.int .i64 1) (.int .i64 1))
    simp only [put5] at r0 r1 r2 r3 r4
    have HB := hid (put5_below hb (show W.heap.size ≤ W.heap.size + 1 by omega) (.int .i64 p) (.int .i64 q) (.slice T7 L1 c7) (.int .i64 1) (.int .i64 1))
    have HO := hid (Mid.sl (ho.only hz (by decide) (fun g hg _ => put5_other hg (.int .i64 p) (.int .i64 q) (.slice T7 L1 c7) (.int .i64 1) (.int .i64 1))))
    have hLL : L1 = ([y]).length := by rw [← HL1.out, H0.out]; rfl
    have hSL : Sl (put5 w9 (W.heap.size + 1) (.int .i64 p) (.int .i64 q) (.slice T7 ([y]).length c7) (.int .i64 1) (.int .i64 1)) 1 T7 ([y]).length c7 (scells ([y])) := by
      have h9 := HO.out
      rw [hLL] at h9
      rw [H0.out] at h9; exact h9
    have HFIN : Hid (RPut ((⟨p, q, [y], 1, 1⟩, true), 0) W (.returned (.tuple #[.agg #[.int .i64 p, .int .i64 q, .slice T7 L1 c7, .int .i64 1, .int .i64 1], .bool true, .int .i64 0])) (put5 w9 (W.heap.size + 1) (.int .i64 p) (.int .i64 q) (.slice T7 L1 c7) (.int .i64 1) (.int .i64 1))) := hid (by
      have hB := HB.out
      rw [hLL] at hB ⊢
      exact ⟨T7, c7, rfl, hSL, hB⟩)
    clear hx hz hb ho hLL hSL HO HB
    go_wp2
    exact bodyPost_ret (v := .tuple #[.agg #[.int .i64 p, .int .i64 q, .slice T7 L1 c7, .int .i64 1, .int .i64 1], .bool true, .int .i64 0]) (by simp [results, Try.results47, go_sem, r0, r1, r2, r3, r4]) rfl HFIN.out
  · obtain rfl := HV3.out.trans (if_neg h0)
    have e3 : ((L1 : Int) == 1) = false := beq_eq_false_iff_ne.2 (by
      intro h9
      exact h0 (List.eq_nil_of_length_eq_zero (by omega)))
    clear h0 hL1 HV3
    obtain ⟨⟨p0, p1, p2, p3, p4⟩, _⟩ := five_cells hx
    obtain ⟨_, f0, f1, f2, f3, f4⟩ := five_cells hz
    obtain ⟨⟨r0, r1, r2, r3, r4⟩, _⟩ := five_cells (put5_heap hz (.int .i64 p) (.int .i64 q) (.slice T7 L1 c7) (.int .i64 wt) (.int .i64 fl))
    simp only [put5] at r0 r1 r2 r3 r4
    have HB := hid (put5_below hb (show W.heap.size ≤ W.heap.size + 1 by omega) (.int .i64 p) (.int .i64 q) (.slice T7 L1 c7) (.int .i64 wt) (.int .i64 fl))
    have HO := hid (Mid.sl (ho.only hz (by decide) (fun g hg _ => put5_other hg (.int .i64 p) (.int .i64 q) (.slice T7 L1 c7) (.int .i64 wt) (.int .i64 fl))))
    have hLL : L1 = (l ++ [y]).length := by rw [← HL1.out]; simp
    have hSL : Sl (put5 w8 (W.heap.size + 1) (.int .i64 p) (.int .i64 q) (.slice T7 (l ++ [y]).length c7) (.int .i64 wt) (.int .i64 fl)) 1 T7 (l ++ [y]).length c7 (scells (l ++ [y])) := by
      have h9 := HO.out
      rw [hLL] at h9
      rw [← scells_snoc] at h9; exact h9
    have HFIN : Hid (RPut ((⟨p, q, l ++ [y], wt, fl⟩, false), 0) W (.returned (.tuple #[.agg #[.int .i64 p, .int .i64 q, .slice T7 L1 c7, .int .i64 wt, .int .i64 fl], .bool false, .int .i64 0])) (put5 w8 (W.heap.size + 1) (.int .i64 p) (.int .i64 q) (.slice T7 L1 c7) (.int .i64 wt) (.int .i64 fl))) := hid (by
      have hB := HB.out
      rw [hLL] at hB ⊢
      exact ⟨T7, c7, rfl, hSL, hB⟩)
    clear hx hz hb ho hLL hSL HO HB
    go_wp2
    exact bodyPost_ret (v := .tuple #[.agg #[.int .i64 p, .int .i64 q, .slice T7 L1 c7, .int .i64 wt, .int .i64 fl], .bool false, .int .i64 0]) (by simp [results, Try.results47, go_sem, r0, r1, r2, r3, r4]) rfl HFIN.out
end Go.Proofs.Ytdekemlckpbbcaa
