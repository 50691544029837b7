/- RoundDoes. -/
import Derived.Test.YtadjmgmdnekllaaRndC
namespace Go.Proofs.Ytadjmgmdnekllaa
open Go.RowKit Go.Sort
set_option linter.unusedVariables false
set_option linter.unusedSimpArgs false

theorem with2_eq (s : Nat) (k j : Int) (hs : s < 18446744073709551616) : ofL (elems s ++ [k, j]) = withS (withS s k) j := by
  have h1 := with_eq s k hs
  apply Nat.eq_of_testBit_eq
  intro i
  unfold withS
  rw [ofL_bit, Nat.testBit_or, Nat.testBit_or, bitN_bit, bitN_bit]
  by_cases hi : i < 64
  · have hm : ((i : Int) ∈ elems s) ↔ s.testBit i = true := by
      rw [mem_elems]
      constructor
      · rintro ⟨_, _, h3⟩; simpa using h3
      · intro h; exact ⟨by omega, by omega, by simpa using h⟩
    simp only [hi, decide_true, Bool.true_and, List.mem_append, List.mem_cons, List.not_mem_nil, or_false]
    rw [Bool.eq_iff_iff]
    simp only [Bool.or_eq_true, decide_eq_true_eq, hm]
    constructor
    · rintro (h | h | h)
      · exact .inl (.inl h)
      · exact .inl (.inr h)
      · exact .inr h
    · rintro ((h | h) | h)
      · exact .inl h
      · exact .inr (.inl h)
      · exact .inr (.inr h)
  · have := bit_high hs (show 64 ≤ i by omega)
    simp [hi, this]
theorem ofL_elems (s : Nat) (hs : s < 18446744073709551616) : ofL (elems s) = s := by
  apply Nat.eq_of_testBit_eq
  intro i
  rw [ofL_bit]
  by_cases hi : i < 64
  · rw [Bool.eq_iff_iff]
    simp only [hi, decide_true, Bool.true_and, decide_eq_true_eq, mem_elems]
    constructor
    · rintro ⟨_, _, h3⟩; simpa using h3
    · intro h; exact ⟨by omega, by omega, by simpa using h⟩
  · have := bit_high hs (show 64 ≤ i by omega)
    simp [hi, this]
theorem elems0 : elems 0 = [] := by decide +kernel
/-- A variable in a block. -/
def VA (w : World) (X : Nat) (t : TypeId) (x0 x1 x2 : Value) : Prop := w.heap[X]? = some (.cells #[x0, x1, x2] t (0, 0))
theorem VA.keep {w w' : World} {X : Nat} {t : TypeId} {x0 x1 x2 : Value} (h : VA w X t x0 x1 x2) (hb : Below w.heap.size w w') : VA w' X t x0 x1 x2 := keep0 h hb

set_option maxRecDepth 20000 in
set_option maxHeartbeats 16000000 in
theorem roundDoes_small (l n : Int) (asked : List Int) (A0 : Option Addr) (c0 : Nat) (had : List Bool) (H : Option Addr) (ch : Nat) (W : World) (hA : Sl W 1 A0 asked.length c0 (icells .i64 asked)) (hH : Sl W 1 H had.length ch (bcs had)) (hla : asked.length ≤ 100) (hlh : had.length ≤ 100) (hl : -9223372036854775808 ≤ l ∧ l ≤ 9223372036854775807) :
    Calls Try.prog 8 #[.agg #[.int .i64 l, .slice A0 asked.length c0, .slice H had.length ch], .int .i64 n] W fun e w' => e = .returned (.bool true) ∧ Below W.heap.size W w' := by
  have HW := hid works35_any
  have hS0 := ofL_lt asked
  have HOF0 := hid (fun w (hw : Below W.heap.size W w) => rof_any A0 asked.length c0 asked w (hA.below hw))
  have HLI0 := hid (fun w => rlist_any (ofL asked) w hS0)
  have hOE := ofL_elems (ofL asked) hS0
  have hP2 := with2_eq (ofL asked) n 3 hS0
  have hE : (elems (ofL asked)).length ≤ 100 := by
    have h4 : (elems (ofL asked)).length ≤ 64 := by rw [elems_def]; exact elemsU_len _ 64
    omega
  have hal : (asked.length : Int) ≤ 100 := by omega
  have hhl : (had.length : Int) ≤ 100 := by omega
  have HHR := hid hH
  generalize ofL asked = S at *
  clear hA hH
  have HE := hid (And.intro hOE (And.intro hP2 (And.intro hE hS0)))
  have HQE : Hid (elems S = elems S) := hid rfl
  clear hOE hP2 hE hS0
  generalize asked.length = al at *
  go_enter Try.func8, Try.ntmps8
  go_upto_region 3 with (fail)
  refine at_world (fun w => w.heap[W.heap.size]? = some (.cells #[.int .i64 l, .slice A0 al c0, .slice H had.length ch] 62 (0, 0)) ∧ Below W.heap.size W w) ⟨heap_alloc_new _ _, (Below.refl _ _).alloc (Nat.le_refl _) _⟩ ?_
  rintro w1 ⟨k1, hb1⟩
  obtain ⟨⟨p0, p1, p2⟩, f0, f1, f2⟩ := three_cells k1
  have HX1 := hid k1
  have HB1 := hid hb1
  clear k1 hb1
  go_wp2_with fail
  refine (HOF0.out _ HB1.out).mono ?_
  rintro e w2 ⟨rfl, rfl⟩
  go_wp2_with fail
  refine (HLI0.out _).mono ?_
  rintro e w2 ⟨v2, rfl, hb2, ho2⟩
  obtain ⟨A, c, rfl, _⟩ := Sl.of_own ho2
  have hx2 := keep0 HX1.out hb2
  have hbw := HB1.out.trans (hb2.mono HB1.out.size)
  have hlt1 : W.heap.size < w1.heap.size := lt_of_block HX1.out
  have HV2 : Hid (VA (w2.setCell ⟨W.heap.size, 1, none⟩ (.slice A (elems S).length c)) W.heap.size 62 (.int .i64 l) (.slice A (elems S).length c) (.slice H had.length ch)) := hid (by
    unfold VA
    rw [heap_setCell_same _ _ _ _ _ _ hx2]; rfl)
  have HSA := hid (sl_own (own_setOld ho2 ⟨W.heap.size, 1, none⟩ (.slice A (elems S).length c) hlt1))
  have HBW := hid (hbw.setCell (p := ⟨W.heap.size, 1, none⟩) (Nat.le_refl _) (.slice A (elems S).length c))
  have HSH := hid (HHR.out.below HBW.out)
  clear p0 p1 p2 f0 f1 f2 hb2 ho2 hbw hlt1 HX1 HB1 HOF0 HLI0 HHR
  obtain ⟨⟨p0, p1, p2⟩, f0, f1, f2⟩ := three_cells hx2
  clear hx2
  go_upto_region 4 with (fail)
  refine at_world (fun w => VA w W.heap.size 62 (.int .i64 l) (.slice A (elems S).length c) (.slice H had.length ch) ∧ Sl w 1 A (elems S).length c (icells .i64 (elems S)) ∧ Sl w 1 H had.length ch (bcs had) ∧ Below W.heap.size W w) ⟨HV2.out, HSA.out, HSH.out, HBW.out⟩ ?_
  clear p0 p1 p2 f0 f1 f2 HV2 HSA HSH HBW
  rintro w3 ⟨hv, hsa, hsh, hb3⟩
  obtain ⟨⟨p0, p1, p2⟩, _⟩ := three_cells hv
  have HV := hid hv
  have HSA := hid hsa
  have HSH := hid hsh
  have HB3 := hid hb3
  clear hv hsa hsh hb3
  have HOF := hid (of35_any l (elems S) A c had H ch w3 HSA.out HSH.out (by omega))
  rw [HE.out.1] at HOF
  obtain ⟨hOE, hP2, hEl, hS64⟩ := HE.out
  have HOE := hid hOE
  clear hOE
  have HP2 := hid hP2
  have HS64 := hid hS64
  clear hP2 hS64 HE HQE
  have hEE : Hid (elems S = elems S) := hid rfl
  generalize hes : elems S = E at *
  have HES := hid hes
  clear hes hEE
  go_wp2_with fail
  refine HOF.out.mono ?_
  rintro e w4 ⟨H1, ch1, rfl, hs1, hb4⟩
  clear p0 p1 p2 HOF
  have hal4 : Below w4.heap.size w4 (w4.alloc (.cells #[.int .i64 l, .int .u64 (S : Int), .slice H1 had.length ch1] 64)) := (Below.refl _ _).alloc (Nat.le_refl _) _
  have hb34 := hb4.trans (hal4.mono hb4.size)
  have H4 := hid (And.intro (HV.out.keep hb34) (And.intro (HSA.out.below hb34) (And.intro (HSH.out.below hb34) (And.intro (HB3.out.trans (hb34.mono HB3.out.size)) (And.intro (show VA (w4.alloc (.cells #[.int .i64 l, .int .u64 (S : Int), .slice H1 had.length ch1] 64)) w4.heap.size 64 (.int .i64 l) (.int .u64 (S : Int)) (.slice H1 had.length ch1) from heap_alloc_new _ _) (hs1.below hal4))))))
  clear hal4 hb34 hs1 hb4 HV HSA HSH HB3
  go_upto_region 5 with (fail)
  refine at_world (fun w => VA w W.heap.size 62 (.int .i64 l) (.slice A E.length c) (.slice H had.length ch) ∧ Sl w 1 A E.length c (icells .i64 E) ∧ Sl w 1 H had.length ch (bcs had) ∧ Below W.heap.size W w ∧ VA w w4.heap.size 64 (.int .i64 l) (.int .u64 (S : Int)) (.slice H1 had.length ch1) ∧ Sl w 1 H1 had.length ch1 (bcs had)) H4.out ?_
  clear H4
  generalize w4.heap.size = X1 at *
  rintro w5 ⟨hv, hsa, hsh, hbw, hv5, hs5⟩
  have HV := hid hv
  have HSA := hid hsa
  have HSH := hid hsh
  have HBW := hid hbw
  have HV5 := hid hv5
  have HS5 := hid hs5
  clear hv hsa hsh hbw hv5 hs5
  obtain ⟨⟨p0, p1, p2⟩, _⟩ := three_cells HV5.out
  have HTK := hid (rtick_any l (S : Int) n H1 had.length ch1 (bcs had) w5 HS5.out (bcs_one _) (by omega) hl.2)
  generalize hrt : rtL l n = lt at *
  have HRT := hid hrt
  clear hrt
  generalize hdl : decide (l ≤ 1) = due at *
  have HDL := hid hdl
  clear hdl
  go_wp2_with fail
  refine HTK.out.mono ?_
  rintro e w6 ⟨v6, rfl, hb6, ho6⟩
  obtain ⟨H2, ch2, rfl, _⟩ := Sl.of_own ho6
  have hal6 : Below w6.heap.size w6 (w6.alloc (.cells #[.int .i64 lt, .int .u64 (S : Int), .slice H2 had.length ch2] 64)) := (Below.refl _ _).alloc (Nat.le_refl _) _
  have hbk := hb6.trans (hal6.mono hb6.size)
  have H6 := hid (And.intro (HV.out.keep hbk) (And.intro (HSA.out.below hbk) (And.intro (HSH.out.below hbk) (And.intro (HBW.out.trans (hbk.mono HBW.out.size)) (And.intro (HV5.out.keep hbk) (And.intro (HS5.out.below hbk) (And.intro (show VA (w6.alloc (.cells #[.int .i64 lt, .int .u64 (S : Int), .slice H2 had.length ch2] 64)) w6.heap.size 64 (.int .i64 lt) (.int .u64 (S : Int)) (.slice H2 had.length ch2) from heap_alloc_new _ _) ((sl_own ho6).below hal6))))))))
  clear hal6 hbk hb6 ho6 HV HSA HSH HBW HV5 HS5 HTK p0 p1 p2
  go_upto_region 6 with (fail)
  refine at_world (fun w => VA w W.heap.size 62 (.int .i64 l) (.slice A E.length c) (.slice H had.length ch) ∧ Sl w 1 A E.length c (icells .i64 E) ∧ Sl w 1 H had.length ch (bcs had) ∧ Below W.heap.size W w ∧ VA w X1 64 (.int .i64 l) (.int .u64 (S : Int)) (.slice H1 had.length ch1) ∧ Sl w 1 H1 had.length ch1 (bcs had) ∧ VA w w6.heap.size 64 (.int .i64 lt) (.int .u64 (S : Int)) (.slice H2 had.length ch2) ∧ Sl w 1 H2 had.length ch2 (bcs had)) H6.out ?_
  clear H6
  generalize w6.heap.size = X2 at *
  rintro w7 ⟨hv, hsa, hsh, hbw, hv5, hs5, hv6, hs6⟩
  have HV := hid hv
  have HSA := hid hsa
  have HSH := hid hsh
  have HBW := hid hbw
  have HV5 := hid hv5
  have HS5 := hid hs5
  have HV6 := hid hv6
  have HS6 := hid hs6
  clear hv hsa hsh hbw hv5 hs5 hv6 hs6
  obtain ⟨⟨p0, p1, p2⟩, _⟩ := three_cells HV.out
  have HDT := hid (dtick_any n l E A c had H ch w7 HSA.out HSH.out hl)
  rw [HRT.out, HDL.out] at HDT
  go_wp2_with fail
  refine HDT.out.mono ?_
  rintro e w8 ⟨A3, c3, H3, ch3, rfl, ha8, hh8, hb8⟩
  have hal8 : Below w8.heap.size w8 (w8.alloc (.cells #[.int .i64 lt, .slice A3 E.length c3, .slice H3 had.length ch3] 62)) := (Below.refl _ _).alloc (Nat.le_refl _) _
  have hbk := hb8.trans (hal8.mono hb8.size)
  have H8 := hid (And.intro (And.intro (HV.out.keep hbk) (And.intro (HSA.out.below hbk) (And.intro (HSH.out.below hbk) (HBW.out.trans (hbk.mono HBW.out.size))))) (And.intro (And.intro (HV5.out.keep hbk) (HS5.out.below hbk)) (And.intro (And.intro (HV6.out.keep hbk) (HS6.out.below hbk)) (And.intro (show VA (w8.alloc (.cells #[.int .i64 lt, .slice A3 E.length c3, .slice H3 had.length ch3] 62)) w8.heap.size 62 (.int .i64 lt) (.slice A3 E.length c3) (.slice H3 had.length ch3) from heap_alloc_new _ _) (And.intro (ha8.below hal8) (hh8.below hal8))))))
  clear hal8 hbk hb8 ha8 hh8 HV HSA HSH HBW HV5 HS5 HV6 HS6 HDT p0 p1 p2
  go_upto_region 7 with (fail)
  refine at_world (fun w => (VA w W.heap.size 62 (.int .i64 l) (.slice A E.length c) (.slice H had.length ch) ∧ Sl w 1 A E.length c (icells .i64 E) ∧ Sl w 1 H had.length ch (bcs had) ∧ Below W.heap.size W w) ∧ (VA w X1 64 (.int .i64 l) (.int .u64 (S : Int)) (.slice H1 had.length ch1) ∧ Sl w 1 H1 had.length ch1 (bcs had)) ∧ (VA w X2 64 (.int .i64 lt) (.int .u64 (S : Int)) (.slice H2 had.length ch2) ∧ Sl w 1 H2 had.length ch2 (bcs had)) ∧ VA w w8.heap.size 62 (.int .i64 lt) (.slice A3 E.length c3) (.slice H3 had.length ch3) ∧ Sl w 1 A3 E.length c3 (icells .i64 E) ∧ Sl w 1 H3 had.length ch3 (bcs had)) H8.out ?_
  clear H8
  generalize w8.heap.size = X3 at *
  rintro w9 ⟨⟨hv, hsa, hsh, hbw⟩, ⟨hv5, hs5⟩, ⟨hv6, hs6⟩, hv8, ha8, hh8⟩
  have HR1 := hid (And.intro (And.intro hv (And.intro hsa (And.intro hsh hbw))) (And.intro (And.intro hv5 hs5) (And.intro (And.intro hv6 hs6) (And.intro hv8 (And.intro ha8 hh8)))))
  obtain ⟨⟨p0, p1, p2⟩, _⟩ := three_cells hv5
  have HOV := hid (over_any n l S had H1 ch1 w9 hs5 (by omega) HS64.out)
  have HEL : Hid ((elems (lessS S n)).length ≤ 100) := hid (by
    have h4 : (elems (lessS S n)).length ≤ 64 := by rw [elems_def]; exact elemsU_len _ 64
    omega)
  clear hv hsa hsh hbw hv5 hs5 hv6 hs6 hv8 ha8 hh8
  generalize hel : elems (lessS S n) = EL at *
  have HELE := hid hel
  clear hel
  go_wp2_with fail
  refine HOV.out.mono ?_
  rintro e w10 ⟨H4, ch4, B, cB, rfl, hh10, hsb, hb10⟩
  have halA : Below w10.heap.size w10 (w10.alloc (.cells #[.int .i64 l, .int .u64 0, .slice H4 had.length ch4] 64)) := (Below.refl _ _).alloc (Nat.le_refl _) _
  have hbk := hb10.trans (halA.mono hb10.size)
  obtain ⟨⟨hv, hsa, hsh, hbw⟩, ⟨hv5, hs5⟩, ⟨hv6, hs6⟩, hv8, ha8, hh8⟩ := HR1.out
  have HA := hid (And.intro (And.intro (hv.keep hbk) (And.intro (hsa.below hbk) (And.intro (hsh.below hbk) (hbw.trans (hbk.mono hbw.size))))) (And.intro (And.intro (hv5.keep hbk) (hs5.below hbk)) (And.intro (And.intro (hv6.keep hbk) (hs6.below hbk)) (And.intro (And.intro (hv8.keep hbk) (And.intro (ha8.below hbk) (hh8.below hbk))) (And.intro (show VA (w10.alloc (.cells #[.int .i64 l, .int .u64 0, .slice H4 had.length ch4] 64)) w10.heap.size 64 (.int .i64 l) (.int .u64 0) (.slice H4 had.length ch4) from heap_alloc_new _ _) (And.intro (hh10.below halA) (hsb.below halA)))))))
  clear halA hbk hb10 hh10 hsb HOV p0 p1 p2 hv hsa hsh hbw hv5 hs5 hv6 hs6 hv8 ha8 hh8 HR1
  go_upto_region 8 with (fail)
  refine at_world (fun w => (VA w W.heap.size 62 (.int .i64 l) (.slice A E.length c) (.slice H had.length ch) ∧ Sl w 1 A E.length c (icells .i64 E) ∧ Sl w 1 H had.length ch (bcs had) ∧ Below W.heap.size W w) ∧ (VA w X1 64 (.int .i64 l) (.int .u64 (S : Int)) (.slice H1 had.length ch1) ∧ Sl w 1 H1 had.length ch1 (bcs had)) ∧ (VA w X2 64 (.int .i64 lt) (.int .u64 (S : Int)) (.slice H2 had.length ch2) ∧ Sl w 1 H2 had.length ch2 (bcs had)) ∧ (VA w X3 62 (.int .i64 lt) (.slice A3 E.length c3) (.slice H3 had.length ch3) ∧ Sl w 1 A3 E.length c3 (icells .i64 E) ∧ Sl w 1 H3 had.length ch3 (bcs had)) ∧ VA w w10.heap.size 64 (.int .i64 l) (.int .u64 0) (.slice H4 had.length ch4) ∧ Sl w 1 H4 had.length ch4 (bcs had) ∧ Sl w 1 B EL.length cB (icells .i64 EL)) HA.out ?_
  clear HA
  generalize w10.heap.size = X4 at *
  rintro w11 h11
  have H11 := hid h11
  obtain ⟨⟨p0, p1, p2⟩, _⟩ := three_cells h11.1.1
  clear h11
  go_upto_region 10 with (fail)
  have hbk : Below w11.heap.size w11 (w11.alloc (.cells #[.int .i64 l, .slice none 0 0, .slice H had.length ch] 62)) := (Below.refl _ _).alloc (Nat.le_refl _) _
  have hx5 : VA (w11.alloc (.cells #[.int .i64 l, .slice none 0 0, .slice H had.length ch] 62)) w11.heap.size 62 (.int .i64 l) (.slice none 0 0) (.slice H had.length ch) := heap_alloc_new _ _
  obtain ⟨⟨hv, hsa, hsh, hbw⟩, ⟨hv5, hs5⟩, ⟨hv6, hs6⟩, ⟨hv8, ha8, hh8⟩, hv10, hs10, hsb⟩ := H11.out
  have HZ := hid (And.intro (And.intro (hv.keep hbk) (And.intro (hsa.below hbk) (And.intro (hsh.below hbk) (hbw.trans (hbk.mono hbw.size))))) (And.intro (And.intro (hv5.keep hbk) (hs5.below hbk)) (And.intro (And.intro (hv6.keep hbk) (hs6.below hbk)) (And.intro (And.intro (hv8.keep hbk) (And.intro (ha8.below hbk) (hh8.below hbk))) (And.intro (hv10.keep hbk) (And.intro (hs10.below hbk) (And.intro (hsb.below hbk) hx5)))))))
  clear hbk hx5 hv hsa hsh hbw hv5 hs5 hv6 hs6 hv8 ha8 hh8 hv10 hs10 hsb H11 p0 p1 p2
  refine at_world (fun w => (VA w W.heap.size 62 (.int .i64 l) (.slice A E.length c) (.slice H had.length ch) ∧ Sl w 1 A E.length c (icells .i64 E) ∧ Sl w 1 H had.length ch (bcs had) ∧ Below W.heap.size W w) ∧ (VA w X1 64 (.int .i64 l) (.int .u64 (S : Int)) (.slice H1 had.length ch1) ∧ Sl w 1 H1 had.length ch1 (bcs had)) ∧ (VA w X2 64 (.int .i64 lt) (.int .u64 (S : Int)) (.slice H2 had.length ch2) ∧ Sl w 1 H2 had.length ch2 (bcs had)) ∧ (VA w X3 62 (.int .i64 lt) (.slice A3 E.length c3) (.slice H3 had.length ch3) ∧ Sl w 1 A3 E.length c3 (icells .i64 E) ∧ Sl w 1 H3 had.length ch3 (bcs had)) ∧ VA w X4 64 (.int .i64 l) (.int .u64 0) (.slice H4 had.length ch4) ∧ Sl w 1 H4 had.length ch4 (bcs had) ∧ Sl w 1 B EL.length cB (icells .i64 EL) ∧ VA w w11.heap.size 62 (.int .i64 l) (.slice none 0 0) (.slice H had.length ch)) HZ.out ?_
  clear HZ
  generalize w11.heap.size = X5 at *
  rintro w0 ⟨⟨hv, hsa, hsh, hbw⟩, ⟨hv5, hs5⟩, ⟨hv6, hs6⟩, ⟨hv8, ha8, hh8⟩, hv10, hs10, hsb, hv12⟩
  have HCELL := hid (fun U (hU : Below w0.heap.size w0 U) => And.intro (three_cells (hv.keep hU)).1 (And.intro (three_cells (hv5.keep hU)).1 (And.intro (three_cells (hv6.keep hU)).1 (And.intro (three_cells (hv8.keep hU)).1 (And.intro (three_cells (hv10.keep hU)).1 (three_cells (hv12.keep hU)).1)))))
  have HBW := hid hbw
  have hEb : E.length ≤ 1000 := by omega
  have hhb : had.length ≤ 1000 := by omega
  have hS64 := HS64.out
  have C1 := hid (fun U (hU : Below w0.heap.size w0 U) => (by
    have h9 := is35_any lt lt S had A3 H2 H3 c3 ch2 ch3 U (by rw [HES.out]; exact ha8.below hU) (hs6.below hU) (hh8.below hU) hS64 hhb
    rw [HES.out, beq_self_eq_true] at h9
    exact h9 : Calls Try.prog 50 #[.agg #[.int .i64 lt, .int .u64 (S : Int), .slice H2 had.length ch2], .agg #[.int .i64 lt, .slice A3 E.length c3, .slice H3 had.length ch3]] U fun e w' => e = .returned (.bool true) ∧ Below U.heap.size U w'))
  have C2 := hid (fun U (hU : Below w0.heap.size w0 U) => (by
    have h9 := is35_any l l 0 had none H4 H 0 ch4 ch U (by rw [elems0]; exact Sl.nil _ _ _ _ (Nat.zero_le _)) (hs10.below hU) (hsh.below hU) (by omega) hhb
    rw [elems0, beq_self_eq_true] at h9
    exact h9 : Calls Try.prog 50 #[.agg #[.int .i64 l, .int .u64 0, .slice H4 had.length ch4], .agg #[.int .i64 l, .slice none 0 0, .slice H had.length ch]] U fun e w' => e = .returned (.bool true) ∧ Below U.heap.size U w'))
  have C3 := hid (fun U (hU : Below w0.heap.size w0 U) => (by
    have h9 := dfull_any n l E A c had H ch U (hsa.below hU) (hsh.below hU)
    rw [HOE.out, HELE.out] at h9
    exact h9 : Calls Try.prog 51 #[.agg #[.int .i64 l, .slice A E.length c, .slice H had.length ch], .int .i64 n] U fun e w' => ∃ A' c' H' ch', e = .returned (.agg #[.int .i64 l, .slice A' EL.length c', .slice H' had.length ch']) ∧ Sl w' 1 A' EL.length c' (icells .i64 EL) ∧ Sl w' 1 H' had.length ch' (bcs had) ∧ Below U.heap.size U w'))
  have C4 := hid (fun (U : World) (A9 : Option Addr) (c9 : Nat) (hU : Below w0.heap.size w0 U) (hs : Sl U 1 A9 EL.length c9 (icells .i64 EL)) => (by
    have h9 := same06 B A9 EL.length cB EL.length c9 EL EL U (hsb.below hU) hs (by have := HEL.out; omega) (by have := HEL.out; omega)
    rw [beq_self_eq_true] at h9
    exact h9 : Calls Try.prog 28 #[.slice B EL.length cB, .slice A9 EL.length c9] U fun e w' => e = .returned (.bool true) ∧ ∃ q, w' = U.drewN q))
  have C5 := hid (fun U => rnew_any n U)
  have C6 := hid (fun U => dnew_any n U)
  have C7 := hid (fun (U : World) (HA : Option Addr) (cH : Nat) (HB : Option Addr) (cI : Nat) (hA : Sl U 1 HA (rnw n) cH (bcs (List.replicate (rnw n) false))) (hB : Sl U 1 HB (rnw n) cI (bcs (List.replicate (rnw n) false))) => (by
    have h9 := is35_any 1 1 0 (List.replicate (rnw n) false) none HA HB 0 cH cI U (by rw [elems0]; exact Sl.nil _ _ _ _ (Nat.zero_le _)) (by rw [List.length_replicate]; exact hA) (by rw [List.length_replicate]; exact hB) (by omega) (by rw [List.length_replicate]; unfold rnw; omega)
    rw [elems0, beq_self_eq_true, List.length_replicate] at h9
    exact h9 : Calls Try.prog 50 #[.agg #[.int .i64 1, .int .u64 0, .slice HA (rnw n) cH], .agg #[.int .i64 1, .slice none 0 0, .slice HB (rnw n) cI]] U fun e w' => e = .returned (.bool true) ∧ Below U.heap.size U w'))
  have HI := hid (fun (U : World) (q : Nat) (hd : List Bool) (HA : Option Addr) (cH : Nat) (A9 : Option Addr) (c9 : Nat) (HB : Option Addr) (cI : Nat) (hq : q < 18446744073709551616) (hl9 : hd.length ≤ 1000) (hA9 : Sl U 1 A9 (elems q).length c9 (icells .i64 (elems q))) (hA : Sl U 1 HA hd.length cH (bcs hd)) (hB : Sl U 1 HB hd.length cI (bcs hd)) => (by
    have h9 := is35_any l l q hd A9 HA HB c9 cH cI U hA9 hA hB hq hl9
    rw [beq_self_eq_true] at h9
    exact h9 : Calls Try.prog 50 #[.agg #[.int .i64 l, .int .u64 (q : Int), .slice HA hd.length cH], .agg #[.int .i64 l, .slice A9 (elems q).length c9, .slice HB hd.length cI]] U fun e w' => e = .returned (.bool true) ∧ Below U.heap.size U w'))
  have D1 := hid (fun (U : World) (AW : Option Addr) (hU : Below w0.heap.size w0 U) (hw : Sl U 1 AW 2 2 (icells .i64 [n, 3])) => (rprobed_any [n, 3] AW 2 l S had H1 ch1 U (hs5.below hU) hhb hS64 hw (by simp) : Calls Try.prog 54 #[.agg #[.int .i64 l, .int .u64 (S : Int), .slice H1 had.length ch1], .slice AW 2 2] U fun e w' => ∃ a' c', e = .returned (.agg #[.int .i64 l, .int .u64 ((withS (withS S n) 3 : Nat) : Int), .slice a' had.length c']) ∧ Sl w' 1 a' had.length c' (bcs had) ∧ Below U.heap.size U w'))
  have D2 := hid (fun (U : World) (AW : Option Addr) (hU : Below w0.heap.size w0 U) (hw : Sl U 1 AW 2 2 (icells .i64 [n, 3])) => (by
    have h9 := dprobed_any [n, 3] AW 2 l E A c had H ch U (hsa.below hU) (hsh.below hU) hw hEb (by simp)
    rw [HP2.out] at h9
    exact h9 : Calls Try.prog 55 #[.agg #[.int .i64 l, .slice A E.length c, .slice H had.length ch], .slice AW 2 2] U fun e w' => ∃ A' c' H' ch', e = .returned (.agg #[.int .i64 l, .slice A' (elems (withS (withS S n) 3)).length c', .slice H' had.length ch']) ∧ Sl w' 1 A' (elems (withS (withS S n) 3)).length c' (icells .i64 (elems (withS (withS S n) 3))) ∧ Sl w' 1 H' had.length ch' (bcs had) ∧ Below U.heap.size U w'))
  have D3 := hid (fun U (hU : Below w0.heap.size w0 U) => rfull_any n l S had H1 ch1 U (hs5.below hU) hhb hS64)
  have D5 := hid (fun U (hU : Below w0.heap.size w0 U) => rcame_any n l S had H1 ch1 U (hs5.below hU) hhb hS64)
  have D6 := hid (fun U (hU : Below w0.heap.size w0 U) => dcame_any n l E A c had H ch U (hsa.below hU) (hsh.below hU) hhb)
  have D7 := hid (fun U (hU : Below w0.heap.size w0 U) => (by
    have h9 := is35_any l l S had A H1 H c ch1 ch U (by rw [HES.out]; exact hsa.below hU) (hs5.below hU) (hsh.below hU) hS64 hhb
    rw [HES.out, beq_self_eq_true] at h9
    exact h9 : Calls Try.prog 50 #[.agg #[.int .i64 l, .int .u64 (S : Int), .slice H1 had.length ch1], .agg #[.int .i64 l, .slice A E.length c, .slice H had.length ch]] U fun e w' => e = .returned (.bool true) ∧ Below U.heap.size U w'))
  have D8 := hid (fun U (hU : Below w0.heap.size w0 U) => rsame_any l lt S had H1 H2 ch1 ch2 U (hs5.below hU) (hs6.below hU) hhb)
  have D9 := hid (fun U (hU : Below w0.heap.size w0 U) => dsame_any l lt E had A A3 H H3 c c3 ch ch3 U (hsa.below hU) (ha8.below hU) (hsh.below hU) (hh8.below hU) hEb hhb)
  have DA := hid (fun U (hU : Below w0.heap.size w0 U) => (by
    have h9 := rsame_any l l S had H1 H1 ch1 ch1 U (hs5.below hU) (hs5.below hU) hhb
    rw [beq_self_eq_true] at h9
    exact h9 : Calls Try.prog 59 #[.agg #[.int .i64 l, .int .u64 (S : Int), .slice H1 had.length ch1], .agg #[.int .i64 l, .int .u64 (S : Int), .slice H1 had.length ch1]] U fun e w' => e = .returned (.bool true) ∧ Below U.heap.size U w'))
  clear hv hsa hsh hbw hv5 hs5 hv6 hs6 hv8 ha8 hh8 hv10 hs10 hsb hv12 hEb hhb hS64
  have HI2 := hid (fun (U : World) (HA : Option Addr) (cH : Nat) (A9 : Option Addr) (c9 : Nat) (HB : Option Addr) (cI : Nat) (hA9 : Sl U 1 A9 EL.length c9 (icells .i64 EL)) (hA : Sl U 1 HA had.length cH (bcs had)) (hB : Sl U 1 HB had.length cI (bcs had)) => (by
    have h9 := HI.out U (lessS S n) had HA cH A9 c9 HB cI (lessS_lt _ _ HS64.out) (by omega) (by rw [HELE.out]; exact hA9) hA hB
    rw [HELE.out] at h9
    exact h9 : Calls Try.prog 50 #[.agg #[.int .i64 l, .int .u64 ((lessS S n : Nat) : Int), .slice HA had.length cH], .agg #[.int .i64 l, .slice A9 EL.length c9, .slice HB had.length cI]] U fun e w' => e = .returned (.bool true) ∧ Below U.heap.size U w'))
  have HI3 := hid (fun (U : World) (HA : Option Addr) (cH : Nat) (A9 : Option Addr) (c9 : Nat) (HB : Option Addr) (cI : Nat) (hA9 : Sl U 1 A9 E.length c9 (icells .i64 E)) (hA : Sl U 1 HA had.length cH (bcs (cameS had n))) (hB : Sl U 1 HB had.length cI (bcs (cameS had n))) => (by
    have h9 := HI.out U S (cameS had n) HA cH A9 c9 HB cI HS64.out (by rw [cameS_len]; omega) (by rw [HES.out]; exact hA9) (by rw [cameS_len]; exact hA) (by rw [cameS_len]; exact hB)
    rw [HES.out, cameS_len] at h9
    exact h9 : Calls Try.prog 50 #[.agg #[.int .i64 l, .int .u64 (S : Int), .slice HA had.length cH], .agg #[.int .i64 l, .slice A9 E.length c9, .slice HB had.length cI]] U fun e w' => e = .returned (.bool true) ∧ Below U.heap.size U w'))
  obtain ⟨⟨a0, a1, a2⟩, ⟨b0, b1, b2⟩, ⟨d0, d1, d2⟩, ⟨e0, e1, e2⟩, ⟨g0, g1, g2⟩, ⟨m0, m1, m2⟩⟩ := HCELL.out _ (Below.refl _ _)
  have e9 : (due != due) = false := by simp
  have hF : ∀ (A9 : Option Addr) (c9 : Nat) (H9 : Option Addr) (ch9 : Nat) (w : World), (Instr.field 62 (Value.agg #[.int .i64 l, .slice A9 EL.length c9, .slice H9 had.length ch9]) 1).run Try.prog w = .ok (.slice A9 EL.length c9) w := fun _ _ _ _ _ => rfl
  clear HOE HP2 HELE HEL HRT HDL
  go_wp2_with fail
  refine (C1.out _ (Below.refl _ _)).mono ?_
  rintro e u1 ⟨rfl, hb⟩
  have HU1 := hid hb
  clear hb
  clear a0 a1 a2 b0 b1 b2 d0 d1 d2 e0 e1 e2 g0 g1 g2 m0 m1 m2
  obtain ⟨⟨a0, a1, a2⟩, ⟨b0, b1, b2⟩, ⟨d0, d1, d2⟩, ⟨e0, e1, e2⟩, ⟨g0, g1, g2⟩, ⟨m0, m1, m2⟩⟩ := HCELL.out _ HU1.out
  go_wp2_with fail
  refine (C2.out _ HU1.out).mono ?_
  rintro e u2 ⟨rfl, hb⟩
  have HU2 := hid (HU1.out.trans (hb.mono HU1.out.size))
  clear hb HU1
  clear a0 a1 a2 b0 b1 b2 d0 d1 d2 e0 e1 e2 g0 g1 g2 m0 m1 m2
  obtain ⟨⟨a0, a1, a2⟩, ⟨b0, b1, b2⟩, ⟨d0, d1, d2⟩, ⟨e0, e1, e2⟩, ⟨g0, g1, g2⟩, ⟨m0, m1, m2⟩⟩ := HCELL.out _ HU2.out
  go_wp2_with fail
  refine (C3.out _ HU2.out).mono ?_
  rintro e u3 ⟨A9, c9, H9, ch9, rfl, hs9, _, hb⟩
  have HU3 := hid (HU2.out.trans (hb.mono HU2.out.size))
  have HS9 := hid hs9
  clear hb hs9 HU2
  clear a0 a1 a2 b0 b1 b2 d0 d1 d2 e0 e1 e2 g0 g1 g2 m0 m1 m2
  go_wp2_with fail
  refine (C4.out u3 A9 c9 HU3.out HS9.out).mono ?_
  rintro e u4 ⟨rfl, qq, rfl⟩
  refine at_world (fun w => Below w0.heap.size w0 w) (drew_below HU3.out qq) ?_
  rintro u4 hb
  have HU4 := hid hb
  clear hb HU3 HS9
  go_wp2_with fail
  refine (C5.out _).mono ?_
  rintro e u5 ⟨v5, rfl, hb, ho5⟩
  obtain ⟨A5, c5, rfl, _⟩ := Sl.of_own ho5
  have HU5 := hid (HU4.out.trans (hb.mono HU4.out.size))
  have HO5 := hid (sl_own ho5)
  clear hb ho5 HU4
  go_wp2_with fail
  refine (C6.out _).mono ?_
  rintro e u6 ⟨H6, ch6, rfl, hs6, hb⟩
  have HU6 := hid (HU5.out.trans (hb.mono HU5.out.size))
  have HO6 := hid (HO5.out.below hb)
  have HS6 := hid hs6
  clear hb hs6 HU5 HO5
  go_wp2_with fail
  refine (C7.out u6 A5 c5 H6 ch6 HO6.out HS6.out).mono ?_
  rintro e u7 ⟨rfl, hb⟩
  have hu7 := HU6.out.trans (hb.mono HU6.out.size)
  clear hb HU6 HO6 HS6 C1 C2 C4 C5 C6 C7
  go_upto_region 12 with (fail)
  have hu : Below w0.heap.size w0 u7.drew := below_drew hu7
  clear hu7
  have hS : ∀ U, Below w0.heap.size w0 U → (((U.cell? ⟨W.heap.size, 0, none⟩ = some (.int .i64 l) ∧ U.cell? ⟨W.heap.size, 1, none⟩ = some (.slice A E.length c) ∧ U.cell? ⟨W.heap.size, 2, none⟩ = some (.slice H had.length ch)) ∧ (U.cell? ⟨X1, 0, none⟩ = some (.int .i64 l) ∧ U.cell? ⟨X1, 1, none⟩ = some (.int .u64 (S : Int)) ∧ U.cell? ⟨X1, 2, none⟩ = some (.slice H1 had.length ch1)) ∧ (U.cell? ⟨X2, 0, none⟩ = some (.int .i64 lt) ∧ U.cell? ⟨X2, 1, none⟩ = some (.int .u64 (S : Int)) ∧ U.cell? ⟨X2, 2, none⟩ = some (.slice H2 had.length ch2)) ∧ (U.cell? ⟨X3, 0, none⟩ = some (.int .i64 lt) ∧ U.cell? ⟨X3, 1, none⟩ = some (.slice A3 E.length c3) ∧ U.cell? ⟨X3, 2, none⟩ = some (.slice H3 had.length ch3)) ∧ (U.cell? ⟨X4, 0, none⟩ = some (.int .i64 l) ∧ U.cell? ⟨X4, 1, none⟩ = some (.int .u64 0) ∧ U.cell? ⟨X4, 2, none⟩ = some (.slice H4 had.length ch4)) ∧ (U.cell? ⟨X5, 0, none⟩ = some (.int .i64 l) ∧ U.cell? ⟨X5, 1, none⟩ = some (.slice none 0 0) ∧ U.cell? ⟨X5, 2, none⟩ = some (.slice H had.length ch))) ∧ Below w0.heap.size w0 U) := fun U hU => ⟨HCELL.out U hU, hU⟩
  have e98 : ((l == lt) == (l == lt)) = true := by simp
  refine wp_region_held_drew (S := fun U => (((U.cell? ⟨W.heap.size, 0, none⟩ = some (.int .i64 l) ∧ U.cell? ⟨W.heap.size, 1, none⟩ = some (.slice A E.length c) ∧ U.cell? ⟨W.heap.size, 2, none⟩ = some (.slice H had.length ch)) ∧ (U.cell? ⟨X1, 0, none⟩ = some (.int .i64 l) ∧ U.cell? ⟨X1, 1, none⟩ = some (.int .u64 (S : Int)) ∧ U.cell? ⟨X1, 2, none⟩ = some (.slice H1 had.length ch1)) ∧ (U.cell? ⟨X2, 0, none⟩ = some (.int .i64 lt) ∧ U.cell? ⟨X2, 1, none⟩ = some (.int .u64 (S : Int)) ∧ U.cell? ⟨X2, 2, none⟩ = some (.slice H2 had.length ch2)) ∧ (U.cell? ⟨X3, 0, none⟩ = some (.int .i64 lt) ∧ U.cell? ⟨X3, 1, none⟩ = some (.slice A3 E.length c3) ∧ U.cell? ⟨X3, 2, none⟩ = some (.slice H3 had.length ch3)) ∧ (U.cell? ⟨X4, 0, none⟩ = some (.int .i64 l) ∧ U.cell? ⟨X4, 1, none⟩ = some (.int .u64 0) ∧ U.cell? ⟨X4, 2, none⟩ = some (.slice H4 had.length ch4)) ∧ (U.cell? ⟨X5, 0, none⟩ = some (.int .i64 l) ∧ U.cell? ⟨X5, 1, none⟩ = some (.slice none 0 0) ∧ U.cell? ⟨X5, 2, none⟩ = some (.slice H had.length ch))) ∧ Below w0.heap.size w0 U)) (by kernel_rfl) (hS _ hu) (fun hHeld => ?_)
  generalize u7.drew = k0 at *
  refine wpAnyH_take (i := 0) (v := ?_) rfl (by kernel_rfl) (by kernel_rfl) (by kernel_rfl) (fun _ _ _ h => h) (Or.inl ⟨by rfl, ?_⟩) (by assumption) ?_
  rotate_left
  focus
    intro U hU
    try dsimp only at hU
    go_simp
    try (with_reducible rfl)
  simp only [List.getElem_toArray, List.getElem_cons_succ, List.getElem_cons_zero, Act.put, List.setIfInBounds_toArray, List.set_cons_zero, List.set_cons_succ]
  refine wpAnyH_take (i := 1) (v := ?_) rfl (by kernel_rfl) (by kernel_rfl) (by kernel_rfl) (fun _ _ _ h => h) (Or.inl ⟨by rfl, ?_⟩) (by assumption) ?_
  rotate_left
  focus
    intro U hU
    try dsimp only at hU
    go_simp
    try (with_reducible rfl)
  simp only [List.getElem_toArray, List.getElem_cons_succ, List.getElem_cons_zero, Act.put, List.setIfInBounds_toArray, List.set_cons_zero, List.set_cons_succ]
  refine wpAnyH_take (i := 4) (v := ?_) rfl (by kernel_rfl) (by kernel_rfl) (by kernel_rfl) (fun _ _ _ h => h) (Or.inl ⟨by rfl, ?_⟩) (by assumption) ?_
  rotate_left
  focus
    intro U hU
    try dsimp only at hU
    go_simp
    try (with_reducible rfl)
  simp only [List.getElem_toArray, List.getElem_cons_succ, List.getElem_cons_zero, Act.put, List.setIfInBounds_toArray, List.set_cons_zero, List.set_cons_succ]
  refine wpAnyH_take (i := 5) (v := ?_) rfl (by kernel_rfl) (by kernel_rfl) (by kernel_rfl) (fun _ _ _ h => h) (Or.inl ⟨by rfl, ?_⟩) (by assumption) ?_
  rotate_left
  focus
    intro U hU
    try dsimp only at hU
    go_simp
    try (with_reducible rfl)
  simp only [List.getElem_toArray, List.getElem_cons_succ, List.getElem_cons_zero, Act.put, List.setIfInBounds_toArray, List.set_cons_zero, List.set_cons_succ]
  refine wpAnyH_ready (rs := [2, 6]) (by kernel_rfl) (by simp) ?_
  refine (AllReadyH.cons rfl (fun K hK => ?_) (AllReadyH.cons rfl (fun K hK => ?_) AllReadyH.nil))
  · skip
    have hbs : Below (World.heap k0).size k0 (World.alloc k0 (.cells #[.int .i64 n, .int .i64 3] 3)) := (Below.refl _ _).alloc (Nat.le_refl _) _
    have hnew : Sl (World.alloc k0 (.cells #[.int .i64 n, .int .i64 3] 3)) 1 (some ⟨(World.heap k0).size, 0, none⟩) 2 2 (icells .i64 [n, 3]) := Sl.lit _ _ 1 2 #[.int .i64 n, .int .i64 3] rfl (by unfold maxLen; omega)
    have HL2 := hid hnew
    replace hu := hu.trans (hbs.mono hu.size)
    simp only [List.getElem_toArray, List.getElem_cons_succ, List.getElem_cons_zero]
    go_simp
    refine hK.out _ _ ?_ (fun hHeld2 => ?_)
    focus
      exact hS _ (by with_reducible assumption)
    clear hHeld
    have hHeld := hHeld2
    clear hHeld2 hK K
    try simp only [List.getElem_toArray, List.getElem_cons_succ, List.getElem_cons_zero, Act.put, List.setIfInBounds_toArray, List.set_cons_zero, List.set_cons_succ]
    clear hbs hnew
    generalize (World.alloc k0 (.cells #[.int .i64 n, .int .i64 3] 3)) = k1 at *
    refine wpAnyH_ready (rs := [3, 6]) (by kernel_rfl) (by simp) ?_
    refine (AllReadyH.cons rfl (fun K hK => ?_) (AllReadyH.cons rfl (fun K hK => ?_) AllReadyH.nil))
    · skip
      simp only [List.getElem_toArray, List.getElem_cons_succ, List.getElem_cons_zero]
      go_simp
      refine (D1.out _ _ hu HL2.out).mono ?_
      rintro q k2 ⟨Ap, cp, rfl, hsp, hbs⟩
      replace HL2 := hid (HL2.out.below hbs)
      have HPR := hid hsp
      clear hsp
      replace hu := hu.trans (hbs.mono hu.size)
      clear hbs
      go_wp2_with fail
      refine hK.out _ _ ?_ (fun hHeld2 => ?_)
      focus
        exact hS _ (by with_reducible assumption)
      clear hHeld
      have hHeld := hHeld2
      clear hHeld2 hK K
      try simp only [List.getElem_toArray, List.getElem_cons_succ, List.getElem_cons_zero, Act.put, List.setIfInBounds_toArray, List.set_cons_zero, List.set_cons_succ]
      refine wpAnyH_ready (rs := [6]) (by kernel_rfl) (by simp) ?_
      refine (AllReadyH.cons rfl (fun K hK => ?_) AllReadyH.nil)
      have hbs : Below (World.heap k2).size k2 (World.alloc k2 (.cells #[.int .i64 n, .int .i64 3] 3)) := (Below.refl _ _).alloc (Nat.le_refl _) _
      have hnew : Sl (World.alloc k2 (.cells #[.int .i64 n, .int .i64 3] 3)) 1 (some ⟨(World.heap k2).size, 0, none⟩) 2 2 (icells .i64 [n, 3]) := Sl.lit _ _ 1 2 #[.int .i64 n, .int .i64 3] rfl (by unfold maxLen; omega)
      replace HL2 := hid (HL2.out.below hbs)
      replace HPR := hid (HPR.out.below hbs)
      have HL6 := hid hnew
      replace hu := hu.trans (hbs.mono hu.size)
      simp only [List.getElem_toArray, List.getElem_cons_succ, List.getElem_cons_zero]
      go_simp
      refine hK.out _ _ ?_ (fun hHeld2 => ?_)
      focus
        exact hS _ (by with_reducible assumption)
      clear hHeld
      have hHeld := hHeld2
      clear hHeld2 hK K
      try simp only [List.getElem_toArray, List.getElem_cons_succ, List.getElem_cons_zero, Act.put, List.setIfInBounds_toArray, List.set_cons_zero, List.set_cons_succ]
      clear hbs hnew
      generalize (World.alloc k2 (.cells #[.int .i64 n, .int .i64 3] 3)) = k3 at *
      refine wpAnyH_ready (rs := [7]) (by kernel_rfl) (by simp) ?_
      refine AllReadyH.cons rfl (fun K hK => ?_) AllReadyH.nil
      simp only [List.getElem_toArray, List.getElem_cons_succ, List.getElem_cons_zero]
      go_simp
      refine (D2.out _ _ hu HL6.out).mono ?_
      rintro q k4 ⟨A7, c7, H7, ch7, rfl, ha7, hh7, hbs⟩
      replace HPR := hid (HPR.out.below hbs)
      have HA7 := hid ha7
      have HH7 := hid hh7
      clear ha7 hh7 HL2 HL6
      replace hu := hu.trans (hbs.mono hu.size)
      clear hbs
      go_wp2_with fail
      refine hK.out _ _ ?_ (fun hHeld2 => ?_)
      focus
        exact hS _ (by with_reducible assumption)
      clear hHeld
      have hHeld := hHeld2
      clear hHeld2 hK K
      try simp only [List.getElem_toArray, List.getElem_cons_succ, List.getElem_cons_zero, Act.put, List.setIfInBounds_toArray, List.set_cons_zero, List.set_cons_succ]
      refine wpAnyH_ready (rs := [8]) (by kernel_rfl) (by simp) ?_
      refine AllReadyH.cons rfl (fun K hK => ?_) AllReadyH.nil
      simp only [List.getElem_toArray, List.getElem_cons_succ, List.getElem_cons_zero]
      go_simp
      refine (HI.out _ (withS (withS S n) 3) had _ _ _ _ _ _ (withS_lt _ _ (withS_lt _ _ HS64.out)) (by omega) HA7.out HPR.out HH7.out).mono ?_
      rintro q k5 ⟨rfl, hbs⟩
      clear HA7 HH7 HPR
      replace hu := hu.trans (hbs.mono hu.size)
      clear hbs
      go_wp2_with fail
      refine hK.out _ _ ?_ (fun hHeld2 => ?_)
      focus
        exact hS _ (by with_reducible assumption)
      clear hHeld
      have hHeld := hHeld2
      clear hHeld2 hK K
      try simp only [List.getElem_toArray, List.getElem_cons_succ, List.getElem_cons_zero, Act.put, List.setIfInBounds_toArray, List.set_cons_zero, List.set_cons_succ]
      refine wpAnyH_take (i := 9) (v := ?_) rfl (by kernel_rfl) (by kernel_rfl) (by kernel_rfl) (fun _ _ _ h => h) (Or.inl ⟨by rfl, ?_⟩) (by assumption) ?_
      rotate_left
      focus
        intro U hU
        try dsimp only at hU
        go_simp
        try (with_reducible rfl)
      simp only [List.getElem_toArray, List.getElem_cons_succ, List.getElem_cons_zero, Act.put, List.setIfInBounds_toArray, List.set_cons_zero, List.set_cons_succ]
      refine wpAnyH_take (i := 10) (v := ?_) rfl (by kernel_rfl) (by kernel_rfl) (by kernel_rfl) (fun _ _ _ h => h) (Or.inl ⟨by rfl, ?_⟩) (by assumption) ?_
      rotate_left
      focus
        intro U hU
        try dsimp only at hU
        go_simp
        try (with_reducible rfl)
      simp only [List.getElem_toArray, List.getElem_cons_succ, List.getElem_cons_zero, Act.put, List.setIfInBounds_toArray, List.set_cons_zero, List.set_cons_succ]
      refine wpAnyH_take (i := 11) (v := ?_) rfl (by kernel_rfl) (by kernel_rfl) (by kernel_rfl) (fun _ _ _ h => h) (Or.inl ⟨by rfl, ?_⟩) (by assumption) ?_
      rotate_left
      focus
        intro U hU
        try dsimp only at hU
        go_simp
        try (with_reducible rfl)
      simp only [List.getElem_toArray, List.getElem_cons_succ, List.getElem_cons_zero, Act.put, List.setIfInBounds_toArray, List.set_cons_zero, List.set_cons_succ]
      refine wpAnyH_take (i := 13) (v := ?_) rfl (by kernel_rfl) (by kernel_rfl) (by kernel_rfl) (fun _ _ _ h => h) (Or.inl ⟨by rfl, ?_⟩) (by assumption) ?_
      rotate_left
      focus
        intro U hU
        try dsimp only at hU
        go_simp
        try (with_reducible rfl)
      simp only [List.getElem_toArray, List.getElem_cons_succ, List.getElem_cons_zero, Act.put, List.setIfInBounds_toArray, List.set_cons_zero, List.set_cons_succ]
      refine wpAnyH_take (i := 14) (v := ?_) rfl (by kernel_rfl) (by kernel_rfl) (by kernel_rfl) (fun _ _ _ h => h) (Or.inl ⟨by rfl, ?_⟩) (by assumption) ?_
      rotate_left
      focus
        intro U hU
        try dsimp only at hU
        go_simp
        try (with_reducible rfl)
      simp only [List.getElem_toArray, List.getElem_cons_succ, List.getElem_cons_zero, Act.put, List.setIfInBounds_toArray, List.set_cons_zero, List.set_cons_succ]
      refine wpAnyH_ready (rs := [12]) (by kernel_rfl) (by simp) ?_
      refine AllReadyH.cons rfl (fun K hK => ?_) AllReadyH.nil
      simp only [List.getElem_toArray, List.getElem_cons_succ, List.getElem_cons_zero]
      go_simp
      refine (D3.out _ hu).mono ?_
      rintro q k6 ⟨Ap, cp, rfl, hsp, hbs⟩
      have HPR := hid hsp
      clear hsp
      replace hu := hu.trans (hbs.mono hu.size)
      clear hbs
      go_wp2_with fail
      refine hK.out _ _ ?_ (fun hHeld2 => ?_)
      focus
        exact hS _ (by with_reducible assumption)
      clear hHeld
      have hHeld := hHeld2
      clear hHeld2 hK K
      try simp only [List.getElem_toArray, List.getElem_cons_succ, List.getElem_cons_zero, Act.put, List.setIfInBounds_toArray, List.set_cons_zero, List.set_cons_succ]
      refine wpAnyH_ready (rs := [15]) (by kernel_rfl) (by simp) ?_
      refine AllReadyH.cons rfl (fun K hK => ?_) AllReadyH.nil
      simp only [List.getElem_toArray, List.getElem_cons_succ, List.getElem_cons_zero]
      go_simp
      refine (C3.out _ hu).mono ?_
      rintro q k7 ⟨A7, c7, H7, ch7, rfl, ha7, hh7, hbs⟩
      replace HPR := hid (HPR.out.below hbs)
      have HA7 := hid ha7
      have HH7 := hid hh7
      clear ha7 hh7
      replace hu := hu.trans (hbs.mono hu.size)
      clear hbs
      go_wp2_with fail
      refine hK.out _ _ ?_ (fun hHeld2 => ?_)
      focus
        exact hS _ (by with_reducible assumption)
      clear hHeld
      have hHeld := hHeld2
      clear hHeld2 hK K
      try simp only [List.getElem_toArray, List.getElem_cons_succ, List.getElem_cons_zero, Act.put, List.setIfInBounds_toArray, List.set_cons_zero, List.set_cons_succ]
      refine wpAnyH_ready (rs := [16]) (by kernel_rfl) (by simp) ?_
      refine AllReadyH.cons rfl (fun K hK => ?_) AllReadyH.nil
      simp only [List.getElem_toArray, List.getElem_cons_succ, List.getElem_cons_zero]
      go_simp
      refine (HI2.out _ _ _ _ _ _ _ HA7.out HPR.out HH7.out).mono ?_
      rintro q k8 ⟨rfl, hbs⟩
      clear HA7 HH7 HPR
      replace hu := hu.trans (hbs.mono hu.size)
      clear hbs
      go_wp2_with fail
      refine hK.out _ _ ?_ (fun hHeld2 => ?_)
      focus
        exact hS _ (by with_reducible assumption)
      clear hHeld
      have hHeld := hHeld2
      clear hHeld2 hK K
      try simp only [List.getElem_toArray, List.getElem_cons_succ, List.getElem_cons_zero, Act.put, List.setIfInBounds_toArray, List.set_cons_zero, List.set_cons_succ]
      refine wpAnyH_take (i := 17) (v := ?_) rfl (by kernel_rfl) (by kernel_rfl) (by kernel_rfl) (fun _ _ _ h => h) (Or.inl ⟨by rfl, ?_⟩) (by assumption) ?_
      rotate_left
      focus
        intro U hU
        try dsimp only at hU
        go_simp
        try (with_reducible rfl)
      simp only [List.getElem_toArray, List.getElem_cons_succ, List.getElem_cons_zero, Act.put, List.setIfInBounds_toArray, List.set_cons_zero, List.set_cons_succ]
      refine wpAnyH_take (i := 18) (v := ?_) rfl (by kernel_rfl) (by kernel_rfl) (by kernel_rfl) (fun _ _ _ h => h) (Or.inl ⟨by rfl, ?_⟩) (by assumption) ?_
      rotate_left
      focus
        intro U hU
        try dsimp only at hU
        go_simp
        try (with_reducible rfl)
      simp only [List.getElem_toArray, List.getElem_cons_succ, List.getElem_cons_zero, Act.put, List.setIfInBounds_toArray, List.set_cons_zero, List.set_cons_succ]
      refine wpAnyH_take (i := 19) (v := ?_) rfl (by kernel_rfl) (by kernel_rfl) (by kernel_rfl) (fun _ _ _ h => h) (Or.inl ⟨by rfl, ?_⟩) (by assumption) ?_
      rotate_left
      focus
        intro U hU
        try dsimp only at hU
        go_simp
        try (with_reducible rfl)
      simp only [List.getElem_toArray, List.getElem_cons_succ, List.getElem_cons_zero, Act.put, List.setIfInBounds_toArray, List.set_cons_zero, List.set_cons_succ]
      refine wpAnyH_take (i := 20) (v := ?_) rfl (by kernel_rfl) (by kernel_rfl) (by kernel_rfl) (fun _ _ _ h => h) (Or.inl ⟨by rfl, ?_⟩) (by assumption) ?_
      rotate_left
      focus
        intro U hU
        try dsimp only at hU
        go_simp
        try (with_reducible rfl)
      simp only [List.getElem_toArray, List.getElem_cons_succ, List.getElem_cons_zero, Act.put, List.setIfInBounds_toArray, List.set_cons_zero, List.set_cons_succ]
      refine wpAnyH_take (i := 22) (v := ?_) rfl (by kernel_rfl) (by kernel_rfl) (by kernel_rfl) (fun _ _ _ h => h) (Or.inl ⟨by rfl, ?_⟩) (by assumption) ?_
      rotate_left
      focus
        intro U hU
        try dsimp only at hU
        go_simp
        try (with_reducible rfl)
      simp only [List.getElem_toArray, List.getElem_cons_succ, List.getElem_cons_zero, Act.put, List.setIfInBounds_toArray, List.set_cons_zero, List.set_cons_succ]
      refine wpAnyH_take (i := 23) (v := ?_) rfl (by kernel_rfl) (by kernel_rfl) (by kernel_rfl) (fun _ _ _ h => h) (Or.inl ⟨by rfl, ?_⟩) (by assumption) ?_
      rotate_left
      focus
        intro U hU
        try dsimp only at hU
        go_simp
        try (with_reducible rfl)
      simp only [List.getElem_toArray, List.getElem_cons_succ, List.getElem_cons_zero, Act.put, List.setIfInBounds_toArray, List.set_cons_zero, List.set_cons_succ]
      refine wpAnyH_ready (rs := [21]) (by kernel_rfl) (by simp) ?_
      refine AllReadyH.cons rfl (fun K hK => ?_) AllReadyH.nil
      simp only [List.getElem_toArray, List.getElem_cons_succ, List.getElem_cons_zero]
      go_simp
      refine (D5.out _ hu).mono ?_
      rintro q k9 ⟨Ap, cp, rfl, hsp, hbs⟩
      have HPR := hid hsp
      clear hsp
      replace hu := hu.trans (hbs.mono hu.size)
      clear hbs
      go_wp2_with fail
      refine hK.out _ _ ?_ (fun hHeld2 => ?_)
      focus
        exact hS _ (by with_reducible assumption)
      clear hHeld
      have hHeld := hHeld2
      clear hHeld2 hK K
      try simp only [List.getElem_toArray, List.getElem_cons_succ, List.getElem_cons_zero, Act.put, List.setIfInBounds_toArray, List.set_cons_zero, List.set_cons_succ]
      refine wpAnyH_ready (rs := [24]) (by kernel_rfl) (by simp) ?_
      refine AllReadyH.cons rfl (fun K hK => ?_) AllReadyH.nil
      simp only [List.getElem_toArray, List.getElem_cons_succ, List.getElem_cons_zero]
      go_simp
      refine (D6.out _ hu).mono ?_
      rintro q k10 ⟨A7, c7, H7, ch7, rfl, ha7, hh7, hbs⟩
      replace HPR := hid (HPR.out.below hbs)
      have HA7 := hid ha7
      have HH7 := hid hh7
      clear ha7 hh7
      replace hu := hu.trans (hbs.mono hu.size)
      clear hbs
      go_wp2_with fail
      refine hK.out _ _ ?_ (fun hHeld2 => ?_)
      focus
        exact hS _ (by with_reducible assumption)
      clear hHeld
      have hHeld := hHeld2
      clear hHeld2 hK K
      try simp only [List.getElem_toArray, List.getElem_cons_succ, List.getElem_cons_zero, Act.put, List.setIfInBounds_toArray, List.set_cons_zero, List.set_cons_succ]
      refine wpAnyH_ready (rs := [25]) (by kernel_rfl) (by simp) ?_
      refine AllReadyH.cons rfl (fun K hK => ?_) AllReadyH.nil
      simp only [List.getElem_toArray, List.getElem_cons_succ, List.getElem_cons_zero]
      go_simp
      refine (HI3.out _ _ _ _ _ _ _ HA7.out HPR.out HH7.out).mono ?_
      rintro q k11 ⟨rfl, hbs⟩
      clear HA7 HH7 HPR
      replace hu := hu.trans (hbs.mono hu.size)
      clear hbs
      go_wp2_with fail
      refine hK.out _ _ ?_ (fun hHeld2 => ?_)
      focus
        exact hS _ (by with_reducible assumption)
      clear hHeld
      have hHeld := hHeld2
      clear hHeld2 hK K
      try simp only [List.getElem_toArray, List.getElem_cons_succ, List.getElem_cons_zero, Act.put, List.setIfInBounds_toArray, List.set_cons_zero, List.set_cons_succ]
      refine wpAnyH_take (i := 26) (v := ?_) rfl (by kernel_rfl) (by kernel_rfl) (by kernel_rfl) (fun _ _ _ h => h) (Or.inl ⟨by rfl, ?_⟩) (by assumption) ?_
      rotate_left
      focus
        intro U hU
        try dsimp only at hU
        go_simp
        try (with_reducible rfl)
      simp only [List.getElem_toArray, List.getElem_cons_succ, List.getElem_cons_zero, Act.put, List.setIfInBounds_toArray, List.set_cons_zero, List.set_cons_succ]
      refine wpAnyH_take (i := 27) (v := ?_) rfl (by kernel_rfl) (by kernel_rfl) (by kernel_rfl) (fun _ _ _ h => h) (Or.inl ⟨by rfl, ?_⟩) (by assumption) ?_
      rotate_left
      focus
        intro U hU
        try dsimp only at hU
        go_simp
        try (with_reducible rfl)
      simp only [List.getElem_toArray, List.getElem_cons_succ, List.getElem_cons_zero, Act.put, List.setIfInBounds_toArray, List.set_cons_zero, List.set_cons_succ]
      refine wpAnyH_take (i := 28) (v := ?_) rfl (by kernel_rfl) (by kernel_rfl) (by kernel_rfl) (fun _ _ _ h => h) (Or.inl ⟨by rfl, ?_⟩) (by assumption) ?_
      rotate_left
      focus
        intro U hU
        try dsimp only at hU
        go_simp
        try (with_reducible rfl)
      simp only [List.getElem_toArray, List.getElem_cons_succ, List.getElem_cons_zero, Act.put, List.setIfInBounds_toArray, List.set_cons_zero, List.set_cons_succ]
      refine wpAnyH_take (i := 29) (v := ?_) rfl (by kernel_rfl) (by kernel_rfl) (by kernel_rfl) (fun _ _ _ h => h) (Or.inl ⟨by rfl, ?_⟩) (by assumption) ?_
      rotate_left
      focus
        intro U hU
        try dsimp only at hU
        go_simp
        try (with_reducible rfl)
      simp only [List.getElem_toArray, List.getElem_cons_succ, List.getElem_cons_zero, Act.put, List.setIfInBounds_toArray, List.set_cons_zero, List.set_cons_succ]
      refine wpAnyH_ready (rs := [30]) (by kernel_rfl) (by simp) ?_
      refine AllReadyH.cons rfl (fun K hK => ?_) AllReadyH.nil
      simp only [List.getElem_toArray, List.getElem_cons_succ, List.getElem_cons_zero]
      go_simp
      refine (D7.out _ hu).mono ?_
      rintro q k12 ⟨rfl, hbs⟩
      replace hu := hu.trans (hbs.mono hu.size)
      clear hbs
      go_wp2_with fail
      refine hK.out _ _ ?_ (fun hHeld2 => ?_)
      focus
        exact hS _ (by with_reducible assumption)
      clear hHeld
      have hHeld := hHeld2
      clear hHeld2 hK K
      try simp only [List.getElem_toArray, List.getElem_cons_succ, List.getElem_cons_zero, Act.put, List.setIfInBounds_toArray, List.set_cons_zero, List.set_cons_succ]
      refine wpAnyH_take (i := 31) (v := ?_) rfl (by kernel_rfl) (by kernel_rfl) (by kernel_rfl) (fun _ _ _ h => h) (Or.inl ⟨by rfl, ?_⟩) (by assumption) ?_
      rotate_left
      focus
        intro U hU
        try dsimp only at hU
        go_simp
        try (with_reducible rfl)
      simp only [List.getElem_toArray, List.getElem_cons_succ, List.getElem_cons_zero, Act.put, List.setIfInBounds_toArray, List.set_cons_zero, List.set_cons_succ]
      refine wpAnyH_take (i := 32) (v := ?_) rfl (by kernel_rfl) (by kernel_rfl) (by kernel_rfl) (fun _ _ _ h => h) (Or.inl ⟨by rfl, ?_⟩) (by assumption) ?_
      rotate_left
      focus
        intro U hU
        try dsimp only at hU
        go_simp
        try (with_reducible rfl)
      simp only [List.getElem_toArray, List.getElem_cons_succ, List.getElem_cons_zero, Act.put, List.setIfInBounds_toArray, List.set_cons_zero, List.set_cons_succ]
      refine wpAnyH_take (i := 33) (v := ?_) rfl (by kernel_rfl) (by kernel_rfl) (by kernel_rfl) (fun _ _ _ h => h) (Or.inl ⟨by rfl, ?_⟩) (by assumption) ?_
      rotate_left
      focus
        intro U hU
        try dsimp only at hU
        go_simp
        try (with_reducible rfl)
      simp only [List.getElem_toArray, List.getElem_cons_succ, List.getElem_cons_zero, Act.put, List.setIfInBounds_toArray, List.set_cons_zero, List.set_cons_succ]
      refine wpAnyH_take (i := 34) (v := ?_) rfl (by kernel_rfl) (by kernel_rfl) (by kernel_rfl) (fun _ _ _ h => h) (Or.inl ⟨by rfl, ?_⟩) (by assumption) ?_
      rotate_left
      focus
        intro U hU
        try dsimp only at hU
        go_simp
        try (with_reducible rfl)
      simp only [List.getElem_toArray, List.getElem_cons_succ, List.getElem_cons_zero, Act.put, List.setIfInBounds_toArray, List.set_cons_zero, List.set_cons_succ]
      refine wpAnyH_take (i := 36) (v := ?_) rfl (by kernel_rfl) (by kernel_rfl) (by kernel_rfl) (fun _ _ _ h => h) (Or.inl ⟨by rfl, ?_⟩) (by assumption) ?_
      rotate_left
      focus
        intro U hU
        try dsimp only at hU
        go_simp
        try (with_reducible rfl)
      simp only [List.getElem_toArray, List.getElem_cons_succ, List.getElem_cons_zero, Act.put, List.setIfInBounds_toArray, List.set_cons_zero, List.set_cons_succ]
      refine wpAnyH_take (i := 37) (v := ?_) rfl (by kernel_rfl) (by kernel_rfl) (by kernel_rfl) (fun _ _ _ h => h) (Or.inl ⟨by rfl, ?_⟩) (by assumption) ?_
      rotate_left
      focus
        intro U hU
        try dsimp only at hU
        go_simp
        try (with_reducible rfl)
      simp only [List.getElem_toArray, List.getElem_cons_succ, List.getElem_cons_zero, Act.put, List.setIfInBounds_toArray, List.set_cons_zero, List.set_cons_succ]
      refine wpAnyH_ready (rs := [35]) (by kernel_rfl) (by simp) ?_
      refine AllReadyH.cons rfl (fun K hK => ?_) AllReadyH.nil
      simp only [List.getElem_toArray, List.getElem_cons_succ, List.getElem_cons_zero]
      go_simp
      refine (D8.out _ hu).mono ?_
      rintro q k13 ⟨rfl, hbs⟩
      replace hu := hu.trans (hbs.mono hu.size)
      clear hbs
      go_wp2_with fail
      refine hK.out _ _ ?_ (fun hHeld2 => ?_)
      focus
        exact hS _ (by with_reducible assumption)
      clear hHeld
      have hHeld := hHeld2
      clear hHeld2 hK K
      try simp only [List.getElem_toArray, List.getElem_cons_succ, List.getElem_cons_zero, Act.put, List.setIfInBounds_toArray, List.set_cons_zero, List.set_cons_succ]
      refine wpAnyH_ready (rs := [38]) (by kernel_rfl) (by simp) ?_
      refine AllReadyH.cons rfl (fun K hK => ?_) AllReadyH.nil
      simp only [List.getElem_toArray, List.getElem_cons_succ, List.getElem_cons_zero]
      go_simp
      refine (D9.out _ hu).mono ?_
      rintro q k14 ⟨rfl, hbs⟩
      replace hu := hu.trans (hbs.mono hu.size)
      clear hbs
      go_wp2_with fail
      refine hK.out _ _ ?_ (fun hHeld2 => ?_)
      focus
        exact hS _ (by with_reducible assumption)
      clear hHeld
      have hHeld := hHeld2
      clear hHeld2 hK K
      try simp only [List.getElem_toArray, List.getElem_cons_succ, List.getElem_cons_zero, Act.put, List.setIfInBounds_toArray, List.set_cons_zero, List.set_cons_succ]
      refine wpAnyH_take (i := 39) (v := ?_) rfl (by kernel_rfl) (by kernel_rfl) (by kernel_rfl) (fun _ _ _ h => h) (Or.inl ⟨by rfl, ?_⟩) (by assumption) ?_
      rotate_left
      focus
        intro U hU
        try dsimp only at hU
        go_simp
        try (with_reducible rfl)
      simp only [List.getElem_toArray, List.getElem_cons_succ, List.getElem_cons_zero, Act.put, List.setIfInBounds_toArray, List.set_cons_zero, List.set_cons_succ]
      refine wpAnyH_take (i := 40) (v := ?_) rfl (by kernel_rfl) (by kernel_rfl) (by kernel_rfl) (fun _ _ _ h => h) (Or.inl ⟨by rfl, ?_⟩) (by assumption) ?_
      rotate_left
      focus
        intro U hU
        try dsimp only at hU
        go_simp
        try (with_reducible rfl)
      simp only [List.getElem_toArray, List.getElem_cons_succ, List.getElem_cons_zero, Act.put, List.setIfInBounds_toArray, List.set_cons_zero, List.set_cons_succ]
      refine wpAnyH_take (i := 41) (v := ?_) rfl (by kernel_rfl) (by kernel_rfl) (by kernel_rfl) (fun _ _ _ h => h) (Or.inl ⟨by rfl, ?_⟩) (by assumption) ?_
      rotate_left
      focus
        intro U hU
        try dsimp only at hU
        go_simp
        try (with_reducible rfl)
      simp only [List.getElem_toArray, List.getElem_cons_succ, List.getElem_cons_zero, Act.put, List.setIfInBounds_toArray, List.set_cons_zero, List.set_cons_succ]
      refine wpAnyH_take (i := 42) (v := ?_) rfl (by kernel_rfl) (by kernel_rfl) (by kernel_rfl) (fun _ _ _ h => h) (Or.inl ⟨by rfl, ?_⟩) (by assumption) ?_
      rotate_left
      focus
        intro U hU
        try dsimp only at hU
        go_simp
        try (with_reducible rfl)
      simp only [List.getElem_toArray, List.getElem_cons_succ, List.getElem_cons_zero, Act.put, List.setIfInBounds_toArray, List.set_cons_zero, List.set_cons_succ]
      refine wpAnyH_take (i := 43) (v := ?_) rfl (by kernel_rfl) (by kernel_rfl) (by kernel_rfl) (fun _ _ _ h => h) (Or.inl ⟨by rfl, ?_⟩) (by assumption) ?_
      rotate_left
      focus
        intro U hU
        try dsimp only at hU
        go_simp
        try (with_reducible rfl)
      simp only [List.getElem_toArray, List.getElem_cons_succ, List.getElem_cons_zero, Act.put, List.setIfInBounds_toArray, List.set_cons_zero, List.set_cons_succ]
      refine wpAnyH_ready (rs := [44]) (by kernel_rfl) (by simp) ?_
      refine AllReadyH.cons rfl (fun K hK => ?_) AllReadyH.nil
      simp only [List.getElem_toArray, List.getElem_cons_succ, List.getElem_cons_zero]
      go_simp
      refine (DA.out _ hu).mono ?_
      rintro q k15 ⟨rfl, hbs⟩
      replace hu := hu.trans (hbs.mono hu.size)
      clear hbs
      go_wp2_with fail
      refine hK.out _ _ ?_ (fun hHeld2 => ?_)
      focus
        exact hS _ (by with_reducible assumption)
      clear hHeld
      have hHeld := hHeld2
      clear hHeld2 hK K
      try simp only [List.getElem_toArray, List.getElem_cons_succ, List.getElem_cons_zero, Act.put, List.setIfInBounds_toArray, List.set_cons_zero, List.set_cons_succ]
      refine wpAnyH_take (i := 45) (v := ?_) rfl (by kernel_rfl) (by kernel_rfl) (by kernel_rfl) (fun _ _ _ h => h) (Or.inl ⟨by rfl, ?_⟩) (by assumption) ?_
      rotate_left
      focus
        intro U hU
        try dsimp only at hU
        go_simp
        try (with_reducible rfl)
      simp only [List.getElem_toArray, List.getElem_cons_succ, List.getElem_cons_zero, Act.put, List.setIfInBounds_toArray, List.set_cons_zero, List.set_cons_succ]
      refine wpAnyH_take (i := 46) (v := ?_) rfl (by kernel_rfl) (by kernel_rfl) (by kernel_rfl) (fun _ _ _ h => h) (Or.inl ⟨by rfl, ?_⟩) (by assumption) ?_
      rotate_left
      focus
        intro U hU
        try dsimp only at hU
        go_simp
        try (with_reducible rfl)
      simp only [List.getElem_toArray, List.getElem_cons_succ, List.getElem_cons_zero, Act.put, List.setIfInBounds_toArray, List.set_cons_zero, List.set_cons_succ]
      refine wpAnyH_ready (rs := [47]) (by kernel_rfl) (by simp) ?_
      refine AllReadyH.cons rfl (fun K hK => ?_) AllReadyH.nil
      simp only [List.getElem_toArray, List.getElem_cons_succ, List.getElem_cons_zero]
      go_simp
      refine (HW.out _).mono ?_
      rintro q k16 ⟨rfl, hbs⟩
      replace hu := hu.trans (hbs.mono hu.size)
      clear hbs
      go_wp2_with fail
      refine hK.out _ _ ?_ (fun hHeld2 => ?_)
      focus
        exact hS _ (by with_reducible assumption)
      clear hHeld
      have hHeld := hHeld2
      clear hHeld2 hK K
      try simp only [List.getElem_toArray, List.getElem_cons_succ, List.getElem_cons_zero, Act.put, List.setIfInBounds_toArray, List.set_cons_zero, List.set_cons_succ]
      refine wpAnyH_take (i := 48) (v := ?_) rfl (by kernel_rfl) (by kernel_rfl) (by kernel_rfl) (fun _ _ _ h => h) (Or.inl ⟨by rfl, ?_⟩) (by assumption) ?_
      rotate_left
      focus
        intro U hU
        try dsimp only at hU
        go_simp
        try (with_reducible rfl)
      simp only [List.getElem_toArray, List.getElem_cons_succ, List.getElem_cons_zero, Act.put, List.setIfInBounds_toArray, List.set_cons_zero, List.set_cons_succ]
      refine wpAnyH_take (i := 49) (v := ?_) rfl (by kernel_rfl) (by kernel_rfl) (by kernel_rfl) (fun _ _ _ h => h) (Or.inl ⟨by rfl, ?_⟩) (by assumption) ?_
      rotate_left
      focus
        intro U hU
        try dsimp only at hU
        go_simp
        try (with_reducible rfl)
      simp only [List.getElem_toArray, List.getElem_cons_succ, List.getElem_cons_zero, Act.put, List.setIfInBounds_toArray, List.set_cons_zero, List.set_cons_succ]
      refine wpAnyH_done (by kernel_rfl) ?_ _
      have hfin := HBW.out.trans (hu.mono HBW.out.size)
      clear hHeld hS
      go_wp2
      go_ret
      exact ⟨rfl, hfin⟩
    · skip
      have hbs : Below (World.heap k1).size k1 (World.alloc k1 (.cells #[.int .i64 n, .int .i64 3] 3)) := (Below.refl _ _).alloc (Nat.le_refl _) _
      have hnew : Sl (World.alloc k1 (.cells #[.int .i64 n, .int .i64 3] 3)) 1 (some ⟨(World.heap k1).size, 0, none⟩) 2 2 (icells .i64 [n, 3]) := Sl.lit _ _ 1 2 #[.int .i64 n, .int .i64 3] rfl (by unfold maxLen; omega)
      replace HL2 := hid (HL2.out.below hbs)
      have HL6 := hid hnew
      replace hu := hu.trans (hbs.mono hu.size)
      simp only [List.getElem_toArray, List.getElem_cons_succ, List.getElem_cons_zero]
      go_simp
      refine hK.out _ _ ?_ (fun hHeld2 => ?_)
      focus
        exact hS _ (by with_reducible assumption)
      clear hHeld
      have hHeld := hHeld2
      clear hHeld2 hK K
      try simp only [List.getElem_toArray, List.getElem_cons_succ, List.getElem_cons_zero, Act.put, List.setIfInBounds_toArray, List.set_cons_zero, List.set_cons_succ]
      clear hbs hnew
      generalize (World.alloc k1 (.cells #[.int .i64 n, .int .i64 3] 3)) = k17 at *
      refine wpAnyH_ready (rs := [3]) (by kernel_rfl) (by simp) ?_
      refine (AllReadyH.cons rfl (fun K hK => ?_) AllReadyH.nil)
      simp only [List.getElem_toArray, List.getElem_cons_succ, List.getElem_cons_zero]
      go_simp
      refine (D1.out _ _ hu HL2.out).mono ?_
      rintro q k18 ⟨Ap, cp, rfl, hsp, hbs⟩
      replace HL6 := hid (HL6.out.below hbs)
      replace HL2 := hid (HL2.out.below hbs)
      have HPR := hid hsp
      clear hsp
      replace hu := hu.trans (hbs.mono hu.size)
      clear hbs
      go_wp2_with fail
      refine hK.out _ _ ?_ (fun hHeld2 => ?_)
      focus
        exact hS _ (by with_reducible assumption)
      clear hHeld
      have hHeld := hHeld2
      clear hHeld2 hK K
      try simp only [List.getElem_toArray, List.getElem_cons_succ, List.getElem_cons_zero, Act.put, List.setIfInBounds_toArray, List.set_cons_zero, List.set_cons_succ]
      refine wpAnyH_ready (rs := [7]) (by kernel_rfl) (by simp) ?_
      refine AllReadyH.cons rfl (fun K hK => ?_) AllReadyH.nil
      simp only [List.getElem_toArray, List.getElem_cons_succ, List.getElem_cons_zero]
      go_simp
      refine (D2.out _ _ hu HL6.out).mono ?_
      rintro q k19 ⟨A7, c7, H7, ch7, rfl, ha7, hh7, hbs⟩
      replace HPR := hid (HPR.out.below hbs)
      have HA7 := hid ha7
      have HH7 := hid hh7
      clear ha7 hh7 HL2 HL6
      replace hu := hu.trans (hbs.mono hu.size)
      clear hbs
      go_wp2_with fail
      refine hK.out _ _ ?_ (fun hHeld2 => ?_)
      focus
        exact hS _ (by with_reducible assumption)
      clear hHeld
      have hHeld := hHeld2
      clear hHeld2 hK K
      try simp only [List.getElem_toArray, List.getElem_cons_succ, List.getElem_cons_zero, Act.put, List.setIfInBounds_toArray, List.set_cons_zero, List.set_cons_succ]
      refine wpAnyH_ready (rs := [8]) (by kernel_rfl) (by simp) ?_
      refine AllReadyH.cons rfl (fun K hK => ?_) AllReadyH.nil
      simp only [List.getElem_toArray, List.getElem_cons_succ, List.getElem_cons_zero]
      go_simp
      refine (HI.out _ (withS (withS S n) 3) had _ _ _ _ _ _ (withS_lt _ _ (withS_lt _ _ HS64.out)) (by omega) HA7.out HPR.out HH7.out).mono ?_
      rintro q k20 ⟨rfl, hbs⟩
      clear HA7 HH7 HPR
      replace hu := hu.trans (hbs.mono hu.size)
      clear hbs
      go_wp2_with fail
      refine hK.out _ _ ?_ (fun hHeld2 => ?_)
      focus
        exact hS _ (by with_reducible assumption)
      clear hHeld
      have hHeld := hHeld2
      clear hHeld2 hK K
      try simp only [List.getElem_toArray, List.getElem_cons_succ, List.getElem_cons_zero, Act.put, List.setIfInBounds_toArray, List.set_cons_zero, List.set_cons_succ]
      refine wpAnyH_take (i := 9) (v := ?_) rfl (by kernel_rfl) (by kernel_rfl) (by kernel_rfl) (fun _ _ _ h => h) (Or.inl ⟨by rfl, ?_⟩) (by assumption) ?_
      rotate_left
      focus
        intro U hU
        try dsimp only at hU
        go_simp
        try (with_reducible rfl)
      simp only [List.getElem_toArray, List.getElem_cons_succ, List.getElem_cons_zero, Act.put, List.setIfInBounds_toArray, List.set_cons_zero, List.set_cons_succ]
      refine wpAnyH_take (i := 10) (v := ?_) rfl (by kernel_rfl) (by kernel_rfl) (by kernel_rfl) (fun _ _ _ h => h) (Or.inl ⟨by rfl, ?_⟩) (by assumption) ?_
      rotate_left
      focus
        intro U hU
        try dsimp only at hU
        go_simp
        try (with_reducible rfl)
      simp only [List.getElem_toArray, List.getElem_cons_succ, List.getElem_cons_zero, Act.put, List.setIfInBounds_toArray, List.set_cons_zero, List.set_cons_succ]
      refine wpAnyH_take (i := 11) (v := ?_) rfl (by kernel_rfl) (by kernel_rfl) (by kernel_rfl) (fun _ _ _ h => h) (Or.inl ⟨by rfl, ?_⟩) (by assumption) ?_
      rotate_left
      focus
        intro U hU
        try dsimp only at hU
        go_simp
        try (with_reducible rfl)
      simp only [List.getElem_toArray, List.getElem_cons_succ, List.getElem_cons_zero, Act.put, List.setIfInBounds_toArray, List.set_cons_zero, List.set_cons_succ]
      refine wpAnyH_take (i := 13) (v := ?_) rfl (by kernel_rfl) (by kernel_rfl) (by kernel_rfl) (fun _ _ _ h => h) (Or.inl ⟨by rfl, ?_⟩) (by assumption) ?_
      rotate_left
      focus
        intro U hU
        try dsimp only at hU
        go_simp
        try (with_reducible rfl)
      simp only [List.getElem_toArray, List.getElem_cons_succ, List.getElem_cons_zero, Act.put, List.setIfInBounds_toArray, List.set_cons_zero, List.set_cons_succ]
      refine wpAnyH_take (i := 14) (v := ?_) rfl (by kernel_rfl) (by kernel_rfl) (by kernel_rfl) (fun _ _ _ h => h) (Or.inl ⟨by rfl, ?_⟩) (by assumption) ?_
      rotate_left
      focus
        intro U hU
        try dsimp only at hU
        go_simp
        try (with_reducible rfl)
      simp only [List.getElem_toArray, List.getElem_cons_succ, List.getElem_cons_zero, Act.put, List.setIfInBounds_toArray, List.set_cons_zero, List.set_cons_succ]
      refine wpAnyH_ready (rs := [12]) (by kernel_rfl) (by simp) ?_
      refine AllReadyH.cons rfl (fun K hK => ?_) AllReadyH.nil
      simp only [List.getElem_toArray, List.getElem_cons_succ, List.getElem_cons_zero]
      go_simp
      refine (D3.out _ hu).mono ?_
      rintro q k21 ⟨Ap, cp, rfl, hsp, hbs⟩
      have HPR := hid hsp
      clear hsp
      replace hu := hu.trans (hbs.mono hu.size)
      clear hbs
      go_wp2_with fail
      refine hK.out _ _ ?_ (fun hHeld2 => ?_)
      focus
        exact hS _ (by with_reducible assumption)
      clear hHeld
      have hHeld := hHeld2
      clear hHeld2 hK K
      try simp only [List.getElem_toArray, List.getElem_cons_succ, List.getElem_cons_zero, Act.put, List.setIfInBounds_toArray, List.set_cons_zero, List.set_cons_succ]
      refine wpAnyH_ready (rs := [15]) (by kernel_rfl) (by simp) ?_
      refine AllReadyH.cons rfl (fun K hK => ?_) AllReadyH.nil
      simp only [List.getElem_toArray, List.getElem_cons_succ, List.getElem_cons_zero]
      go_simp
      refine (C3.out _ hu).mono ?_
      rintro q k22 ⟨A7, c7, H7, ch7, rfl, ha7, hh7, hbs⟩
      replace HPR := hid (HPR.out.below hbs)
      have HA7 := hid ha7
      have HH7 := hid hh7
      clear ha7 hh7
      replace hu := hu.trans (hbs.mono hu.size)
      clear hbs
      go_wp2_with fail
      refine hK.out _ _ ?_ (fun hHeld2 => ?_)
      focus
        exact hS _ (by with_reducible assumption)
      clear hHeld
      have hHeld := hHeld2
      clear hHeld2 hK K
      try simp only [List.getElem_toArray, List.getElem_cons_succ, List.getElem_cons_zero, Act.put, List.setIfInBounds_toArray, List.set_cons_zero, List.set_cons_succ]
      refine wpAnyH_ready (rs := [16]) (by kernel_rfl) (by simp) ?_
      refine AllReadyH.cons rfl (fun K hK => ?_) AllReadyH.nil
      simp only [List.getElem_toArray, List.getElem_cons_succ, List.getElem_cons_zero]
      go_simp
      refine (HI2.out _ _ _ _ _ _ _ HA7.out HPR.out HH7.out).mono ?_
      rintro q k23 ⟨rfl, hbs⟩
      clear HA7 HH7 HPR
      replace hu := hu.trans (hbs.mono hu.size)
      clear hbs
      go_wp2_with fail
      refine hK.out _ _ ?_ (fun hHeld2 => ?_)
      focus
        exact hS _ (by with_reducible assumption)
      clear hHeld
      have hHeld := hHeld2
      clear hHeld2 hK K
      try simp only [List.getElem_toArray, List.getElem_cons_succ, List.getElem_cons_zero, Act.put, List.setIfInBounds_toArray, List.set_cons_zero, List.set_cons_succ]
      refine wpAnyH_take (i := 17) (v := ?_) rfl (by kernel_rfl) (by kernel_rfl) (by kernel_rfl) (fun _ _ _ h => h) (Or.inl ⟨by rfl, ?_⟩) (by assumption) ?_
      rotate_left
      focus
        intro U hU
        try dsimp only at hU
        go_simp
        try (with_reducible rfl)
      simp only [List.getElem_toArray, List.getElem_cons_succ, List.getElem_cons_zero, Act.put, List.setIfInBounds_toArray, List.set_cons_zero, List.set_cons_succ]
      refine wpAnyH_take (i := 18) (v := ?_) rfl (by kernel_rfl) (by kernel_rfl) (by kernel_rfl) (fun _ _ _ h => h) (Or.inl ⟨by rfl, ?_⟩) (by assumption) ?_
      rotate_left
      focus
        intro U hU
        try dsimp only at hU
        go_simp
        try (with_reducible rfl)
      simp only [List.getElem_toArray, List.getElem_cons_succ, List.getElem_cons_zero, Act.put, List.setIfInBounds_toArray, List.set_cons_zero, List.set_cons_succ]
      refine wpAnyH_take (i := 19) (v := ?_) rfl (by kernel_rfl) (by kernel_rfl) (by kernel_rfl) (fun _ _ _ h => h) (Or.inl ⟨by rfl, ?_⟩) (by assumption) ?_
      rotate_left
      focus
        intro U hU
        try dsimp only at hU
        go_simp
        try (with_reducible rfl)
      simp only [List.getElem_toArray, List.getElem_cons_succ, List.getElem_cons_zero, Act.put, List.setIfInBounds_toArray, List.set_cons_zero, List.set_cons_succ]
      refine wpAnyH_take (i := 20) (v := ?_) rfl (by kernel_rfl) (by kernel_rfl) (by kernel_rfl) (fun _ _ _ h => h) (Or.inl ⟨by rfl, ?_⟩) (by assumption) ?_
      rotate_left
      focus
        intro U hU
        try dsimp only at hU
        go_simp
        try (with_reducible rfl)
      simp only [List.getElem_toArray, List.getElem_cons_succ, List.getElem_cons_zero, Act.put, List.setIfInBounds_toArray, List.set_cons_zero, List.set_cons_succ]
      refine wpAnyH_take (i := 22) (v := ?_) rfl (by kernel_rfl) (by kernel_rfl) (by kernel_rfl) (fun _ _ _ h => h) (Or.inl ⟨by rfl, ?_⟩) (by assumption) ?_
      rotate_left
      focus
        intro U hU
        try dsimp only at hU
        go_simp
        try (with_reducible rfl)
      simp only [List.getElem_toArray, List.getElem_cons_succ, List.getElem_cons_zero, Act.put, List.setIfInBounds_toArray, List.set_cons_zero, List.set_cons_succ]
      refine wpAnyH_take (i := 23) (v := ?_) rfl (by kernel_rfl) (by kernel_rfl) (by kernel_rfl) (fun _ _ _ h => h) (Or.inl ⟨by rfl, ?_⟩) (by assumption) ?_
      rotate_left
      focus
        intro U hU
        try dsimp only at hU
        go_simp
        try (with_reducible rfl)
      simp only [List.getElem_toArray, List.getElem_cons_succ, List.getElem_cons_zero, Act.put, List.setIfInBounds_toArray, List.set_cons_zero, List.set_cons_succ]
      refine wpAnyH_ready (rs := [21]) (by kernel_rfl) (by simp) ?_
      refine AllReadyH.cons rfl (fun K hK => ?_) AllReadyH.nil
      simp only [List.getElem_toArray, List.getElem_cons_succ, List.getElem_cons_zero]
      go_simp
      refine (D5.out _ hu).mono ?_
      rintro q k24 ⟨Ap, cp, rfl, hsp, hbs⟩
      have HPR := hid hsp
      clear hsp
      replace hu := hu.trans (hbs.mono hu.size)
      clear hbs
      go_wp2_with fail
      refine hK.out _ _ ?_ (fun hHeld2 => ?_)
      focus
        exact hS _ (by with_reducible assumption)
      clear hHeld
      have hHeld := hHeld2
      clear hHeld2 hK K
      try simp only [List.getElem_toArray, List.getElem_cons_succ, List.getElem_cons_zero, Act.put, List.setIfInBounds_toArray, List.set_cons_zero, List.set_cons_succ]
      refine wpAnyH_ready (rs := [24]) (by kernel_rfl) (by simp) ?_
      refine AllReadyH.cons rfl (fun K hK => ?_) AllReadyH.nil
      simp only [List.getElem_toArray, List.getElem_cons_succ, List.getElem_cons_zero]
      go_simp
      refine (D6.out _ hu).mono ?_
      rintro q k25 ⟨A7, c7, H7, ch7, rfl, ha7, hh7, hbs⟩
      replace HPR := hid (HPR.out.below hbs)
      have HA7 := hid ha7
      have HH7 := hid hh7
      clear ha7 hh7
      replace hu := hu.trans (hbs.mono hu.size)
      clear hbs
      go_wp2_with fail
      refine hK.out _ _ ?_ (fun hHeld2 => ?_)
      focus
        exact hS _ (by with_reducible assumption)
      clear hHeld
      have hHeld := hHeld2
      clear hHeld2 hK K
      try simp only [List.getElem_toArray, List.getElem_cons_succ, List.getElem_cons_zero, Act.put, List.setIfInBounds_toArray, List.set_cons_zero, List.set_cons_succ]
      refine wpAnyH_ready (rs := [25]) (by kernel_rfl) (by simp) ?_
      refine AllReadyH.cons rfl (fun K hK => ?_) AllReadyH.nil
      simp only [List.getElem_toArray, List.getElem_cons_succ, List.getElem_cons_zero]
      go_simp
      refine (HI3.out _ _ _ _ _ _ _ HA7.out HPR.out HH7.out).mono ?_
      rintro q k26 ⟨rfl, hbs⟩
      clear HA7 HH7 HPR
      replace hu := hu.trans (hbs.mono hu.size)
      clear hbs
      go_wp2_with fail
      refine hK.out _ _ ?_ (fun hHeld2 => ?_)
      focus
        exact hS _ (by with_reducible assumption)
      clear hHeld
      have hHeld := hHeld2
      clear hHeld2 hK K
      try simp only [List.getElem_toArray, List.getElem_cons_succ, List.getElem_cons_zero, Act.put, List.setIfInBounds_toArray, List.set_cons_zero, List.set_cons_succ]
      refine wpAnyH_take (i := 26) (v := ?_) rfl (by kernel_rfl) (by kernel_rfl) (by kernel_rfl) (fun _ _ _ h => h) (Or.inl ⟨by rfl, ?_⟩) (by assumption) ?_
      rotate_left
      focus
        intro U hU
        try dsimp only at hU
        go_simp
        try (with_reducible rfl)
      simp only [List.getElem_toArray, List.getElem_cons_succ, List.getElem_cons_zero, Act.put, List.setIfInBounds_toArray, List.set_cons_zero, List.set_cons_succ]
      refine wpAnyH_take (i := 27) (v := ?_) rfl (by kernel_rfl) (by kernel_rfl) (by kernel_rfl) (fun _ _ _ h => h) (Or.inl ⟨by rfl, ?_⟩) (by assumption) ?_
      rotate_left
      focus
        intro U hU
        try dsimp only at hU
        go_simp
        try (with_reducible rfl)
      simp only [List.getElem_toArray, List.getElem_cons_succ, List.getElem_cons_zero, Act.put, List.setIfInBounds_toArray, List.set_cons_zero, List.set_cons_succ]
      refine wpAnyH_take (i := 28) (v := ?_) rfl (by kernel_rfl) (by kernel_rfl) (by kernel_rfl) (fun _ _ _ h => h) (Or.inl ⟨by rfl, ?_⟩) (by assumption) ?_
      rotate_left
      focus
        intro U hU
        try dsimp only at hU
        go_simp
        try (with_reducible rfl)
      simp only [List.getElem_toArray, List.getElem_cons_succ, List.getElem_cons_zero, Act.put, List.setIfInBounds_toArray, List.set_cons_zero, List.set_cons_succ]
      refine wpAnyH_take (i := 29) (v := ?_) rfl (by kernel_rfl) (by kernel_rfl) (by kernel_rfl) (fun _ _ _ h => h) (Or.inl ⟨by rfl, ?_⟩) (by assumption) ?_
      rotate_left
      focus
        intro U hU
        try dsimp only at hU
        go_simp
        try (with_reducible rfl)
      simp only [List.getElem_toArray, List.getElem_cons_succ, List.getElem_cons_zero, Act.put, List.setIfInBounds_toArray, List.set_cons_zero, List.set_cons_succ]
      refine wpAnyH_ready (rs := [30]) (by kernel_rfl) (by simp) ?_
      refine AllReadyH.cons rfl (fun K hK => ?_) AllReadyH.nil
      simp only [List.getElem_toArray, List.getElem_cons_succ, List.getElem_cons_zero]
      go_simp
      refine (D7.out _ hu).mono ?_
      rintro q k27 ⟨rfl, hbs⟩
      replace hu := hu.trans (hbs.mono hu.size)
      clear hbs
      go_wp2_with fail
      refine hK.out _ _ ?_ (fun hHeld2 => ?_)
      focus
        exact hS _ (by with_reducible assumption)
      clear hHeld
      have hHeld := hHeld2
      clear hHeld2 hK K
      try simp only [List.getElem_toArray, List.getElem_cons_succ, List.getElem_cons_zero, Act.put, List.setIfInBounds_toArray, List.set_cons_zero, List.set_cons_succ]
      refine wpAnyH_take (i := 31) (v := ?_) rfl (by kernel_rfl) (by kernel_rfl) (by kernel_rfl) (fun _ _ _ h => h) (Or.inl ⟨by rfl, ?_⟩) (by assumption) ?_
      rotate_left
      focus
        intro U hU
        try dsimp only at hU
        go_simp
        try (with_reducible rfl)
      simp only [List.getElem_toArray, List.getElem_cons_succ, List.getElem_cons_zero, Act.put, List.setIfInBounds_toArray, List.set_cons_zero, List.set_cons_succ]
      refine wpAnyH_take (i := 32) (v := ?_) rfl (by kernel_rfl) (by kernel_rfl) (by kernel_rfl) (fun _ _ _ h => h) (Or.inl ⟨by rfl, ?_⟩) (by assumption) ?_
      rotate_left
      focus
        intro U hU
        try dsimp only at hU
        go_simp
        try (with_reducible rfl)
      simp only [List.getElem_toArray, List.getElem_cons_succ, List.getElem_cons_zero, Act.put, List.setIfInBounds_toArray, List.set_cons_zero, List.set_cons_succ]
      refine wpAnyH_take (i := 33) (v := ?_) rfl (by kernel_rfl) (by kernel_rfl) (by kernel_rfl) (fun _ _ _ h => h) (Or.inl ⟨by rfl, ?_⟩) (by assumption) ?_
      rotate_left
      focus
        intro U hU
        try dsimp only at hU
        go_simp
        try (with_reducible rfl)
      simp only [List.getElem_toArray, List.getElem_cons_succ, List.getElem_cons_zero, Act.put, List.setIfInBounds_toArray, List.set_cons_zero, List.set_cons_succ]
      refine wpAnyH_take (i := 34) (v := ?_) rfl (by kernel_rfl) (by kernel_rfl) (by kernel_rfl) (fun _ _ _ h => h) (Or.inl ⟨by rfl, ?_⟩) (by assumption) ?_
      rotate_left
      focus
        intro U hU
        try dsimp only at hU
        go_simp
        try (with_reducible rfl)
      simp only [List.getElem_toArray, List.getElem_cons_succ, List.getElem_cons_zero, Act.put, List.setIfInBounds_toArray, List.set_cons_zero, List.set_cons_succ]
      refine wpAnyH_take (i := 36) (v := ?_) rfl (by kernel_rfl) (by kernel_rfl) (by kernel_rfl) (fun _ _ _ h => h) (Or.inl ⟨by rfl, ?_⟩) (by assumption) ?_
      rotate_left
      focus
        intro U hU
        try dsimp only at hU
        go_simp
        try (with_reducible rfl)
      simp only [List.getElem_toArray, List.getElem_cons_succ, List.getElem_cons_zero, Act.put, List.setIfInBounds_toArray, List.set_cons_zero, List.set_cons_succ]
      refine wpAnyH_take (i := 37) (v := ?_) rfl (by kernel_rfl) (by kernel_rfl) (by kernel_rfl) (fun _ _ _ h => h) (Or.inl ⟨by rfl, ?_⟩) (by assumption) ?_
      rotate_left
      focus
        intro U hU
        try dsimp only at hU
        go_simp
        try (with_reducible rfl)
      simp only [List.getElem_toArray, List.getElem_cons_succ, List.getElem_cons_zero, Act.put, List.setIfInBounds_toArray, List.set_cons_zero, List.set_cons_succ]
      refine wpAnyH_ready (rs := [35]) (by kernel_rfl) (by simp) ?_
      refine AllReadyH.cons rfl (fun K hK => ?_) AllReadyH.nil
      simp only [List.getElem_toArray, List.getElem_cons_succ, List.getElem_cons_zero]
      go_simp
      refine (D8.out _ hu).mono ?_
      rintro q k28 ⟨rfl, hbs⟩
      replace hu := hu.trans (hbs.mono hu.size)
      clear hbs
      go_wp2_with fail
      refine hK.out _ _ ?_ (fun hHeld2 => ?_)
      focus
        exact hS _ (by with_reducible assumption)
      clear hHeld
      have hHeld := hHeld2
      clear hHeld2 hK K
      try simp only [List.getElem_toArray, List.getElem_cons_succ, List.getElem_cons_zero, Act.put, List.setIfInBounds_toArray, List.set_cons_zero, List.set_cons_succ]
      refine wpAnyH_ready (rs := [38]) (by kernel_rfl) (by simp) ?_
      refine AllReadyH.cons rfl (fun K hK => ?_) AllReadyH.nil
      simp only [List.getElem_toArray, List.getElem_cons_succ, List.getElem_cons_zero]
      go_simp
      refine (D9.out _ hu).mono ?_
      rintro q k29 ⟨rfl, hbs⟩
      replace hu := hu.trans (hbs.mono hu.size)
      clear hbs
      go_wp2_with fail
      refine hK.out _ _ ?_ (fun hHeld2 => ?_)
      focus
        exact hS _ (by with_reducible assumption)
      clear hHeld
      have hHeld := hHeld2
      clear hHeld2 hK K
      try simp only [List.getElem_toArray, List.getElem_cons_succ, List.getElem_cons_zero, Act.put, List.setIfInBounds_toArray, List.set_cons_zero, List.set_cons_succ]
      refine wpAnyH_take (i := 39) (v := ?_) rfl (by kernel_rfl) (by kernel_rfl) (by kernel_rfl) (fun _ _ _ h => h) (Or.inl ⟨by rfl, ?_⟩) (by assumption) ?_
      rotate_left
      focus
        intro U hU
        try dsimp only at hU
        go_simp
        try (with_reducible rfl)
      simp only [List.getElem_toArray, List.getElem_cons_succ, List.getElem_cons_zero, Act.put, List.setIfInBounds_toArray, List.set_cons_zero, List.set_cons_succ]
      refine wpAnyH_take (i := 40) (v := ?_) rfl (by kernel_rfl) (by kernel_rfl) (by kernel_rfl) (fun _ _ _ h => h) (Or.inl ⟨by rfl, ?_⟩) (by assumption) ?_
      rotate_left
      focus
        intro U hU
        try dsimp only at hU
        go_simp
        try (with_reducible rfl)
      simp only [List.getElem_toArray, List.getElem_cons_succ, List.getElem_cons_zero, Act.put, List.setIfInBounds_toArray, List.set_cons_zero, List.set_cons_succ]
      refine wpAnyH_take (i := 41) (v := ?_) rfl (by kernel_rfl) (by kernel_rfl) (by kernel_rfl) (fun _ _ _ h => h) (Or.inl ⟨by rfl, ?_⟩) (by assumption) ?_
      rotate_left
      focus
        intro U hU
        try dsimp only at hU
        go_simp
        try (with_reducible rfl)
      simp only [List.getElem_toArray, List.getElem_cons_succ, List.getElem_cons_zero, Act.put, List.setIfInBounds_toArray, List.set_cons_zero, List.set_cons_succ]
      refine wpAnyH_take (i := 42) (v := ?_) rfl (by kernel_rfl) (by kernel_rfl) (by kernel_rfl) (fun _ _ _ h => h) (Or.inl ⟨by rfl, ?_⟩) (by assumption) ?_
      rotate_left
      focus
        intro U hU
        try dsimp only at hU
        go_simp
        try (with_reducible rfl)
      simp only [List.getElem_toArray, List.getElem_cons_succ, List.getElem_cons_zero, Act.put, List.setIfInBounds_toArray, List.set_cons_zero, List.set_cons_succ]
      refine wpAnyH_take (i := 43) (v := ?_) rfl (by kernel_rfl) (by kernel_rfl) (by kernel_rfl) (fun _ _ _ h => h) (Or.inl ⟨by rfl, ?_⟩) (by assumption) ?_
      rotate_left
      focus
        intro U hU
        try dsimp only at hU
        go_simp
        try (with_reducible rfl)
      simp only [List.getElem_toArray, List.getElem_cons_succ, List.getElem_cons_zero, Act.put, List.setIfInBounds_toArray, List.set_cons_zero, List.set_cons_succ]
      refine wpAnyH_ready (rs := [44]) (by kernel_rfl) (by simp) ?_
      refine AllReadyH.cons rfl (fun K hK => ?_) AllReadyH.nil
      simp only [List.getElem_toArray, List.getElem_cons_succ, List.getElem_cons_zero]
      go_simp
      refine (DA.out _ hu).mono ?_
      rintro q k30 ⟨rfl, hbs⟩
      replace hu := hu.trans (hbs.mono hu.size)
      clear hbs
      go_wp2_with fail
      refine hK.out _ _ ?_ (fun hHeld2 => ?_)
      focus
        exact hS _ (by with_reducible assumption)
      clear hHeld
      have hHeld := hHeld2
      clear hHeld2 hK K
      try simp only [List.getElem_toArray, List.getElem_cons_succ, List.getElem_cons_zero, Act.put, List.setIfInBounds_toArray, List.set_cons_zero, List.set_cons_succ]
      refine wpAnyH_take (i := 45) (v := ?_) rfl (by kernel_rfl) (by kernel_rfl) (by kernel_rfl) (fun _ _ _ h => h) (Or.inl ⟨by rfl, ?_⟩) (by assumption) ?_
      rotate_left
      focus
        intro U hU
        try dsimp only at hU
        go_simp
        try (with_reducible rfl)
      simp only [List.getElem_toArray, List.getElem_cons_succ, List.getElem_cons_zero, Act.put, List.setIfInBounds_toArray, List.set_cons_zero, List.set_cons_succ]
      refine wpAnyH_take (i := 46) (v := ?_) rfl (by kernel_rfl) (by kernel_rfl) (by kernel_rfl) (fun _ _ _ h => h) (Or.inl ⟨by rfl, ?_⟩) (by assumption) ?_
      rotate_left
      focus
        intro U hU
        try dsimp only at hU
        go_simp
        try (with_reducible rfl)
      simp only [List.getElem_toArray, List.getElem_cons_succ, List.getElem_cons_zero, Act.put, List.setIfInBounds_toArray, List.set_cons_zero, List.set_cons_succ]
      refine wpAnyH_ready (rs := [47]) (by kernel_rfl) (by simp) ?_
      refine AllReadyH.cons rfl (fun K hK => ?_) AllReadyH.nil
      simp only [List.getElem_toArray, List.getElem_cons_succ, List.getElem_cons_zero]
      go_simp
      refine (HW.out _).mono ?_
      rintro q k31 ⟨rfl, hbs⟩
      replace hu := hu.trans (hbs.mono hu.size)
      clear hbs
      go_wp2_with fail
      refine hK.out _ _ ?_ (fun hHeld2 => ?_)
      focus
        exact hS _ (by with_reducible assumption)
      clear hHeld
      have hHeld := hHeld2
      clear hHeld2 hK K
      try simp only [List.getElem_toArray, List.getElem_cons_succ, List.getElem_cons_zero, Act.put, List.setIfInBounds_toArray, List.set_cons_zero, List.set_cons_succ]
      refine wpAnyH_take (i := 48) (v := ?_) rfl (by kernel_rfl) (by kernel_rfl) (by kernel_rfl) (fun _ _ _ h => h) (Or.inl ⟨by rfl, ?_⟩) (by assumption) ?_
      rotate_left
      focus
        intro U hU
        try dsimp only at hU
        go_simp
        try (with_reducible rfl)
      simp only [List.getElem_toArray, List.getElem_cons_succ, List.getElem_cons_zero, Act.put, List.setIfInBounds_toArray, List.set_cons_zero, List.set_cons_succ]
      refine wpAnyH_take (i := 49) (v := ?_) rfl (by kernel_rfl) (by kernel_rfl) (by kernel_rfl) (fun _ _ _ h => h) (Or.inl ⟨by rfl, ?_⟩) (by assumption) ?_
      rotate_left
      focus
        intro U hU
        try dsimp only at hU
        go_simp
        try (with_reducible rfl)
      simp only [List.getElem_toArray, List.getElem_cons_succ, List.getElem_cons_zero, Act.put, List.setIfInBounds_toArray, List.set_cons_zero, List.set_cons_succ]
      refine wpAnyH_done (by kernel_rfl) ?_ _
      have hfin := HBW.out.trans (hu.mono HBW.out.size)
      clear hHeld hS
      go_wp2
      go_ret
      exact ⟨rfl, hfin⟩
  · skip
    have hbs : Below (World.heap k0).size k0 (World.alloc k0 (.cells #[.int .i64 n, .int .i64 3] 3)) := (Below.refl _ _).alloc (Nat.le_refl _) _
    have hnew : Sl (World.alloc k0 (.cells #[.int .i64 n, .int .i64 3] 3)) 1 (some ⟨(World.heap k0).size, 0, none⟩) 2 2 (icells .i64 [n, 3]) := Sl.lit _ _ 1 2 #[.int .i64 n, .int .i64 3] rfl (by unfold maxLen; omega)
    have HL6 := hid hnew
    replace hu := hu.trans (hbs.mono hu.size)
    simp only [List.getElem_toArray, List.getElem_cons_succ, List.getElem_cons_zero]
    go_simp
    refine hK.out _ _ ?_ (fun hHeld2 => ?_)
    focus
      exact hS _ (by with_reducible assumption)
    clear hHeld
    have hHeld := hHeld2
    clear hHeld2 hK K
    try simp only [List.getElem_toArray, List.getElem_cons_succ, List.getElem_cons_zero, Act.put, List.setIfInBounds_toArray, List.set_cons_zero, List.set_cons_succ]
    clear hbs hnew
    generalize (World.alloc k0 (.cells #[.int .i64 n, .int .i64 3] 3)) = k32 at *
    refine wpAnyH_ready (rs := [2]) (by kernel_rfl) (by simp) ?_
    refine (AllReadyH.cons rfl (fun K hK => ?_) AllReadyH.nil)
    have hbs : Below (World.heap k32).size k32 (World.alloc k32 (.cells #[.int .i64 n, .int .i64 3] 3)) := (Below.refl _ _).alloc (Nat.le_refl _) _
    have hnew : Sl (World.alloc k32 (.cells #[.int .i64 n, .int .i64 3] 3)) 1 (some ⟨(World.heap k32).size, 0, none⟩) 2 2 (icells .i64 [n, 3]) := Sl.lit _ _ 1 2 #[.int .i64 n, .int .i64 3] rfl (by unfold maxLen; omega)
    replace HL6 := hid (HL6.out.below hbs)
    have HL2 := hid hnew
    replace hu := hu.trans (hbs.mono hu.size)
    simp only [List.getElem_toArray, List.getElem_cons_succ, List.getElem_cons_zero]
    go_simp
    refine hK.out _ _ ?_ (fun hHeld2 => ?_)
    focus
      exact hS _ (by with_reducible assumption)
    clear hHeld
    have hHeld := hHeld2
    clear hHeld2 hK K
    try simp only [List.getElem_toArray, List.getElem_cons_succ, List.getElem_cons_zero, Act.put, List.setIfInBounds_toArray, List.set_cons_zero, List.set_cons_succ]
    clear hbs hnew
    generalize (World.alloc k32 (.cells #[.int .i64 n, .int .i64 3] 3)) = k33 at *
    refine wpAnyH_ready (rs := [3]) (by kernel_rfl) (by simp) ?_
    refine (AllReadyH.cons rfl (fun K hK => ?_) AllReadyH.nil)
    simp only [List.getElem_toArray, List.getElem_cons_succ, List.getElem_cons_zero]
    go_simp
    refine (D1.out _ _ hu HL2.out).mono ?_
    rintro q k34 ⟨Ap, cp, rfl, hsp, hbs⟩
    replace HL6 := hid (HL6.out.below hbs)
    replace HL2 := hid (HL2.out.below hbs)
    have HPR := hid hsp
    clear hsp
    replace hu := hu.trans (hbs.mono hu.size)
    clear hbs
    go_wp2_with fail
    refine hK.out _ _ ?_ (fun hHeld2 => ?_)
    focus
      exact hS _ (by with_reducible assumption)
    clear hHeld
    have hHeld := hHeld2
    clear hHeld2 hK K
    try simp only [List.getElem_toArray, List.getElem_cons_succ, List.getElem_cons_zero, Act.put, List.setIfInBounds_toArray, List.set_cons_zero, List.set_cons_succ]
    refine wpAnyH_ready (rs := [7]) (by kernel_rfl) (by simp) ?_
    refine AllReadyH.cons rfl (fun K hK => ?_) AllReadyH.nil
    simp only [List.getElem_toArray, List.getElem_cons_succ, List.getElem_cons_zero]
    go_simp
    refine (D2.out _ _ hu HL6.out).mono ?_
    rintro q k35 ⟨A7, c7, H7, ch7, rfl, ha7, hh7, hbs⟩
    replace HPR := hid (HPR.out.below hbs)
    have HA7 := hid ha7
    have HH7 := hid hh7
    clear ha7 hh7 HL2 HL6
    replace hu := hu.trans (hbs.mono hu.size)
    clear hbs
    go_wp2_with fail
    refine hK.out _ _ ?_ (fun hHeld2 => ?_)
    focus
      exact hS _ (by with_reducible assumption)
    clear hHeld
    have hHeld := hHeld2
    clear hHeld2 hK K
    try simp only [List.getElem_toArray, List.getElem_cons_succ, List.getElem_cons_zero, Act.put, List.setIfInBounds_toArray, List.set_cons_zero, List.set_cons_succ]
    refine wpAnyH_ready (rs := [8]) (by kernel_rfl) (by simp) ?_
    refine AllReadyH.cons rfl (fun K hK => ?_) AllReadyH.nil
    simp only [List.getElem_toArray, List.getElem_cons_succ, List.getElem_cons_zero]
    go_simp
    refine (HI.out _ (withS (withS S n) 3) had _ _ _ _ _ _ (withS_lt _ _ (withS_lt _ _ HS64.out)) (by omega) HA7.out HPR.out HH7.out).mono ?_
    rintro q k36 ⟨rfl, hbs⟩
    clear HA7 HH7 HPR
    replace hu := hu.trans (hbs.mono hu.size)
    clear hbs
    go_wp2_with fail
    refine hK.out _ _ ?_ (fun hHeld2 => ?_)
    focus
      exact hS _ (by with_reducible assumption)
    clear hHeld
    have hHeld := hHeld2
    clear hHeld2 hK K
    try simp only [List.getElem_toArray, List.getElem_cons_succ, List.getElem_cons_zero, Act.put, List.setIfInBounds_toArray, List.set_cons_zero, List.set_cons_succ]
    refine wpAnyH_take (i := 9) (v := ?_) rfl (by kernel_rfl) (by kernel_rfl) (by kernel_rfl) (fun _ _ _ h => h) (Or.inl ⟨by rfl, ?_⟩) (by assumption) ?_
    rotate_left
    focus
      intro U hU
      try dsimp only at hU
      go_simp
      try (with_reducible rfl)
    simp only [List.getElem_toArray, List.getElem_cons_succ, List.getElem_cons_zero, Act.put, List.setIfInBounds_toArray, List.set_cons_zero, List.set_cons_succ]
    refine wpAnyH_take (i := 10) (v := ?_) rfl (by kernel_rfl) (by kernel_rfl) (by kernel_rfl) (fun _ _ _ h => h) (Or.inl ⟨by rfl, ?_⟩) (by assumption) ?_
    rotate_left
    focus
      intro U hU
      try dsimp only at hU
      go_simp
      try (with_reducible rfl)
    simp only [List.getElem_toArray, List.getElem_cons_succ, List.getElem_cons_zero, Act.put, List.setIfInBounds_toArray, List.set_cons_zero, List.set_cons_succ]
    refine wpAnyH_take (i := 11) (v := ?_) rfl (by kernel_rfl) (by kernel_rfl) (by kernel_rfl) (fun _ _ _ h => h) (Or.inl ⟨by rfl, ?_⟩) (by assumption) ?_
    rotate_left
    focus
      intro U hU
      try dsimp only at hU
      go_simp
      try (with_reducible rfl)
    simp only [List.getElem_toArray, List.getElem_cons_succ, List.getElem_cons_zero, Act.put, List.setIfInBounds_toArray, List.set_cons_zero, List.set_cons_succ]
    refine wpAnyH_take (i := 13) (v := ?_) rfl (by kernel_rfl) (by kernel_rfl) (by kernel_rfl) (fun _ _ _ h => h) (Or.inl ⟨by rfl, ?_⟩) (by assumption) ?_
    rotate_left
    focus
      intro U hU
      try dsimp only at hU
      go_simp
      try (with_reducible rfl)
    simp only [List.getElem_toArray, List.getElem_cons_succ, List.getElem_cons_zero, Act.put, List.setIfInBounds_toArray, List.set_cons_zero, List.set_cons_succ]
    refine wpAnyH_take (i := 14) (v := ?_) rfl (by kernel_rfl) (by kernel_rfl) (by kernel_rfl) (fun _ _ _ h => h) (Or.inl ⟨by rfl, ?_⟩) (by assumption) ?_
    rotate_left
    focus
      intro U hU
      try dsimp only at hU
      go_simp
      try (with_reducible rfl)
    simp only [List.getElem_toArray, List.getElem_cons_succ, List.getElem_cons_zero, Act.put, List.setIfInBounds_toArray, List.set_cons_zero, List.set_cons_succ]
    refine wpAnyH_ready (rs := [12]) (by kernel_rfl) (by simp) ?_
    refine AllReadyH.cons rfl (fun K hK => ?_) AllReadyH.nil
    simp only [List.getElem_toArray, List.getElem_cons_succ, List.getElem_cons_zero]
    go_simp
    refine (D3.out _ hu).mono ?_
    rintro q k37 ⟨Ap, cp, rfl, hsp, hbs⟩
    have HPR := hid hsp
    clear hsp
    replace hu := hu.trans (hbs.mono hu.size)
    clear hbs
    go_wp2_with fail
    refine hK.out _ _ ?_ (fun hHeld2 => ?_)
    focus
      exact hS _ (by with_reducible assumption)
    clear hHeld
    have hHeld := hHeld2
    clear hHeld2 hK K
    try simp only [List.getElem_toArray, List.getElem_cons_succ, List.getElem_cons_zero, Act.put, List.setIfInBounds_toArray, List.set_cons_zero, List.set_cons_succ]
    refine wpAnyH_ready (rs := [15]) (by kernel_rfl) (by simp) ?_
    refine AllReadyH.cons rfl (fun K hK => ?_) AllReadyH.nil
    simp only [List.getElem_toArray, List.getElem_cons_succ, List.getElem_cons_zero]
    go_simp
    refine (C3.out _ hu).mono ?_
    rintro q k38 ⟨A7, c7, H7, ch7, rfl, ha7, hh7, hbs⟩
    replace HPR := hid (HPR.out.below hbs)
    have HA7 := hid ha7
    have HH7 := hid hh7
    clear ha7 hh7
    replace hu := hu.trans (hbs.mono hu.size)
    clear hbs
    go_wp2_with fail
    refine hK.out _ _ ?_ (fun hHeld2 => ?_)
    focus
      exact hS _ (by with_reducible assumption)
    clear hHeld
    have hHeld := hHeld2
    clear hHeld2 hK K
    try simp only [List.getElem_toArray, List.getElem_cons_succ, List.getElem_cons_zero, Act.put, List.setIfInBounds_toArray, List.set_cons_zero, List.set_cons_succ]
    refine wpAnyH_ready (rs := [16]) (by kernel_rfl) (by simp) ?_
    refine AllReadyH.cons rfl (fun K hK => ?_) AllReadyH.nil
    simp only [List.getElem_toArray, List.getElem_cons_succ, List.getElem_cons_zero]
    go_simp
    refine (HI2.out _ _ _ _ _ _ _ HA7.out HPR.out HH7.out).mono ?_
    rintro q k39 ⟨rfl, hbs⟩
    clear HA7 HH7 HPR
    replace hu := hu.trans (hbs.mono hu.size)
    clear hbs
    go_wp2_with fail
    refine hK.out _ _ ?_ (fun hHeld2 => ?_)
    focus
      exact hS _ (by with_reducible assumption)
    clear hHeld
    have hHeld := hHeld2
    clear hHeld2 hK K
    try simp only [List.getElem_toArray, List.getElem_cons_succ, List.getElem_cons_zero, Act.put, List.setIfInBounds_toArray, List.set_cons_zero, List.set_cons_succ]
    refine wpAnyH_take (i := 17) (v := ?_) rfl (by kernel_rfl) (by kernel_rfl) (by kernel_rfl) (fun _ _ _ h => h) (Or.inl ⟨by rfl, ?_⟩) (by assumption) ?_
    rotate_left
    focus
      intro U hU
      try dsimp only at hU
      go_simp
      try (with_reducible rfl)
    simp only [List.getElem_toArray, List.getElem_cons_succ, List.getElem_cons_zero, Act.put, List.setIfInBounds_toArray, List.set_cons_zero, List.set_cons_succ]
    refine wpAnyH_take (i := 18) (v := ?_) rfl (by kernel_rfl) (by kernel_rfl) (by kernel_rfl) (fun _ _ _ h => h) (Or.inl ⟨by rfl, ?_⟩) (by assumption) ?_
    rotate_left
    focus
      intro U hU
      try dsimp only at hU
      go_simp
      try (with_reducible rfl)
    simp only [List.getElem_toArray, List.getElem_cons_succ, List.getElem_cons_zero, Act.put, List.setIfInBounds_toArray, List.set_cons_zero, List.set_cons_succ]
    refine wpAnyH_take (i := 19) (v := ?_) rfl (by kernel_rfl) (by kernel_rfl) (by kernel_rfl) (fun _ _ _ h => h) (Or.inl ⟨by rfl, ?_⟩) (by assumption) ?_
    rotate_left
    focus
      intro U hU
      try dsimp only at hU
      go_simp
      try (with_reducible rfl)
    simp only [List.getElem_toArray, List.getElem_cons_succ, List.getElem_cons_zero, Act.put, List.setIfInBounds_toArray, List.set_cons_zero, List.set_cons_succ]
    refine wpAnyH_take (i := 20) (v := ?_) rfl (by kernel_rfl) (by kernel_rfl) (by kernel_rfl) (fun _ _ _ h => h) (Or.inl ⟨by rfl, ?_⟩) (by assumption) ?_
    rotate_left
    focus
      intro U hU
      try dsimp only at hU
      go_simp
      try (with_reducible rfl)
    simp only [List.getElem_toArray, List.getElem_cons_succ, List.getElem_cons_zero, Act.put, List.setIfInBounds_toArray, List.set_cons_zero, List.set_cons_succ]
    refine wpAnyH_take (i := 22) (v := ?_) rfl (by kernel_rfl) (by kernel_rfl) (by kernel_rfl) (fun _ _ _ h => h) (Or.inl ⟨by rfl, ?_⟩) (by assumption) ?_
    rotate_left
    focus
      intro U hU
      try dsimp only at hU
      go_simp
      try (with_reducible rfl)
    simp only [List.getElem_toArray, List.getElem_cons_succ, List.getElem_cons_zero, Act.put, List.setIfInBounds_toArray, List.set_cons_zero, List.set_cons_succ]
    refine wpAnyH_take (i := 23) (v := ?_) rfl (by kernel_rfl) (by kernel_rfl) (by kernel_rfl) (fun _ _ _ h => h) (Or.inl ⟨by rfl, ?_⟩) (by assumption) ?_
    rotate_left
    focus
      intro U hU
      try dsimp only at hU
      go_simp
      try (with_reducible rfl)
    simp only [List.getElem_toArray, List.getElem_cons_succ, List.getElem_cons_zero, Act.put, List.setIfInBounds_toArray, List.set_cons_zero, List.set_cons_succ]
    refine wpAnyH_ready (rs := [21]) (by kernel_rfl) (by simp) ?_
    refine AllReadyH.cons rfl (fun K hK => ?_) AllReadyH.nil
    simp only [List.getElem_toArray, List.getElem_cons_succ, List.getElem_cons_zero]
    go_simp
    refine (D5.out _ hu).mono ?_
    rintro q k40 ⟨Ap, cp, rfl, hsp, hbs⟩
    have HPR := hid hsp
    clear hsp
    replace hu := hu.trans (hbs.mono hu.size)
    clear hbs
    go_wp2_with fail
    refine hK.out _ _ ?_ (fun hHeld2 => ?_)
    focus
      exact hS _ (by with_reducible assumption)
    clear hHeld
    have hHeld := hHeld2
    clear hHeld2 hK K
    try simp only [List.getElem_toArray, List.getElem_cons_succ, List.getElem_cons_zero, Act.put, List.setIfInBounds_toArray, List.set_cons_zero, List.set_cons_succ]
    refine wpAnyH_ready (rs := [24]) (by kernel_rfl) (by simp) ?_
    refine AllReadyH.cons rfl (fun K hK => ?_) AllReadyH.nil
    simp only [List.getElem_toArray, List.getElem_cons_succ, List.getElem_cons_zero]
    go_simp
    refine (D6.out _ hu).mono ?_
    rintro q k41 ⟨A7, c7, H7, ch7, rfl, ha7, hh7, hbs⟩
    replace HPR := hid (HPR.out.below hbs)
    have HA7 := hid ha7
    have HH7 := hid hh7
    clear ha7 hh7
    replace hu := hu.trans (hbs.mono hu.size)
    clear hbs
    go_wp2_with fail
    refine hK.out _ _ ?_ (fun hHeld2 => ?_)
    focus
      exact hS _ (by with_reducible assumption)
    clear hHeld
    have hHeld := hHeld2
    clear hHeld2 hK K
    try simp only [List.getElem_toArray, List.getElem_cons_succ, List.getElem_cons_zero, Act.put, List.setIfInBounds_toArray, List.set_cons_zero, List.set_cons_succ]
    refine wpAnyH_ready (rs := [25]) (by kernel_rfl) (by simp) ?_
    refine AllReadyH.cons rfl (fun K hK => ?_) AllReadyH.nil
    simp only [List.getElem_toArray, List.getElem_cons_succ, List.getElem_cons_zero]
    go_simp
    refine (HI3.out _ _ _ _ _ _ _ HA7.out HPR.out HH7.out).mono ?_
    rintro q k42 ⟨rfl, hbs⟩
    clear HA7 HH7 HPR
    replace hu := hu.trans (hbs.mono hu.size)
    clear hbs
    go_wp2_with fail
    refine hK.out _ _ ?_ (fun hHeld2 => ?_)
    focus
      exact hS _ (by with_reducible assumption)
    clear hHeld
    have hHeld := hHeld2
    clear hHeld2 hK K
    try simp only [List.getElem_toArray, List.getElem_cons_succ, List.getElem_cons_zero, Act.put, List.setIfInBounds_toArray, List.set_cons_zero, List.set_cons_succ]
    refine wpAnyH_take (i := 26) (v := ?_) rfl (by kernel_rfl) (by kernel_rfl) (by kernel_rfl) (fun _ _ _ h => h) (Or.inl ⟨by rfl, ?_⟩) (by assumption) ?_
    rotate_left
    focus
      intro U hU
      try dsimp only at hU
      go_simp
      try (with_reducible rfl)
    simp only [List.getElem_toArray, List.getElem_cons_succ, List.getElem_cons_zero, Act.put, List.setIfInBounds_toArray, List.set_cons_zero, List.set_cons_succ]
    refine wpAnyH_take (i := 27) (v := ?_) rfl (by kernel_rfl) (by kernel_rfl) (by kernel_rfl) (fun _ _ _ h => h) (Or.inl ⟨by rfl, ?_⟩) (by assumption) ?_
    rotate_left
    focus
      intro U hU
      try dsimp only at hU
      go_simp
      try (with_reducible rfl)
    simp only [List.getElem_toArray, List.getElem_cons_succ, List.getElem_cons_zero, Act.put, List.setIfInBounds_toArray, List.set_cons_zero, List.set_cons_succ]
    refine wpAnyH_take (i := 28) (v := ?_) rfl (by kernel_rfl) (by kernel_rfl) (by kernel_rfl) (fun _ _ _ h => h) (Or.inl ⟨by rfl, ?_⟩) (by assumption) ?_
    rotate_left
    focus
      intro U hU
      try dsimp only at hU
      go_simp
      try (with_reducible rfl)
    simp only [List.getElem_toArray, List.getElem_cons_succ, List.getElem_cons_zero, Act.put, List.setIfInBounds_toArray, List.set_cons_zero, List.set_cons_succ]
    refine wpAnyH_take (i := 29) (v := ?_) rfl (by kernel_rfl) (by kernel_rfl) (by kernel_rfl) (fun _ _ _ h => h) (Or.inl ⟨by rfl, ?_⟩) (by assumption) ?_
    rotate_left
    focus
      intro U hU
      try dsimp only at hU
      go_simp
      try (with_reducible rfl)
    simp only [List.getElem_toArray, List.getElem_cons_succ, List.getElem_cons_zero, Act.put, List.setIfInBounds_toArray, List.set_cons_zero, List.set_cons_succ]
    refine wpAnyH_ready (rs := [30]) (by kernel_rfl) (by simp) ?_
    refine AllReadyH.cons rfl (fun K hK => ?_) AllReadyH.nil
    simp only [List.getElem_toArray, List.getElem_cons_succ, List.getElem_cons_zero]
    go_simp
    refine (D7.out _ hu).mono ?_
    rintro q k43 ⟨rfl, hbs⟩
    replace hu := hu.trans (hbs.mono hu.size)
    clear hbs
    go_wp2_with fail
    refine hK.out _ _ ?_ (fun hHeld2 => ?_)
    focus
      exact hS _ (by with_reducible assumption)
    clear hHeld
    have hHeld := hHeld2
    clear hHeld2 hK K
    try simp only [List.getElem_toArray, List.getElem_cons_succ, List.getElem_cons_zero, Act.put, List.setIfInBounds_toArray, List.set_cons_zero, List.set_cons_succ]
    refine wpAnyH_take (i := 31) (v := ?_) rfl (by kernel_rfl) (by kernel_rfl) (by kernel_rfl) (fun _ _ _ h => h) (Or.inl ⟨by rfl, ?_⟩) (by assumption) ?_
    rotate_left
    focus
      intro U hU
      try dsimp only at hU
      go_simp
      try (with_reducible rfl)
    simp only [List.getElem_toArray, List.getElem_cons_succ, List.getElem_cons_zero, Act.put, List.setIfInBounds_toArray, List.set_cons_zero, List.set_cons_succ]
    refine wpAnyH_take (i := 32) (v := ?_) rfl (by kernel_rfl) (by kernel_rfl) (by kernel_rfl) (fun _ _ _ h => h) (Or.inl ⟨by rfl, ?_⟩) (by assumption) ?_
    rotate_left
    focus
      intro U hU
      try dsimp only at hU
      go_simp
      try (with_reducible rfl)
    simp only [List.getElem_toArray, List.getElem_cons_succ, List.getElem_cons_zero, Act.put, List.setIfInBounds_toArray, List.set_cons_zero, List.set_cons_succ]
    refine wpAnyH_take (i := 33) (v := ?_) rfl (by kernel_rfl) (by kernel_rfl) (by kernel_rfl) (fun _ _ _ h => h) (Or.inl ⟨by rfl, ?_⟩) (by assumption) ?_
    rotate_left
    focus
      intro U hU
      try dsimp only at hU
      go_simp
      try (with_reducible rfl)
    simp only [List.getElem_toArray, List.getElem_cons_succ, List.getElem_cons_zero, Act.put, List.setIfInBounds_toArray, List.set_cons_zero, List.set_cons_succ]
    refine wpAnyH_take (i := 34) (v := ?_) rfl (by kernel_rfl) (by kernel_rfl) (by kernel_rfl) (fun _ _ _ h => h) (Or.inl ⟨by rfl, ?_⟩) (by assumption) ?_
    rotate_left
    focus
      intro U hU
      try dsimp only at hU
      go_simp
      try (with_reducible rfl)
    simp only [List.getElem_toArray, List.getElem_cons_succ, List.getElem_cons_zero, Act.put, List.setIfInBounds_toArray, List.set_cons_zero, List.set_cons_succ]
    refine wpAnyH_take (i := 36) (v := ?_) rfl (by kernel_rfl) (by kernel_rfl) (by kernel_rfl) (fun _ _ _ h => h) (Or.inl ⟨by rfl, ?_⟩) (by assumption) ?_
    rotate_left
    focus
      intro U hU
      try dsimp only at hU
      go_simp
      try (with_reducible rfl)
    simp only [List.getElem_toArray, List.getElem_cons_succ, List.getElem_cons_zero, Act.put, List.setIfInBounds_toArray, List.set_cons_zero, List.set_cons_succ]
    refine wpAnyH_take (i := 37) (v := ?_) rfl (by kernel_rfl) (by kernel_rfl) (by kernel_rfl) (fun _ _ _ h => h) (Or.inl ⟨by rfl, ?_⟩) (by assumption) ?_
    rotate_left
    focus
      intro U hU
      try dsimp only at hU
      go_simp
      try (with_reducible rfl)
    simp only [List.getElem_toArray, List.getElem_cons_succ, List.getElem_cons_zero, Act.put, List.setIfInBounds_toArray, List.set_cons_zero, List.set_cons_succ]
    refine wpAnyH_ready (rs := [35]) (by kernel_rfl) (by simp) ?_
    refine AllReadyH.cons rfl (fun K hK => ?_) AllReadyH.nil
    simp only [List.getElem_toArray, List.getElem_cons_succ, List.getElem_cons_zero]
    go_simp
    refine (D8.out _ hu).mono ?_
    rintro q k44 ⟨rfl, hbs⟩
    replace hu := hu.trans (hbs.mono hu.size)
    clear hbs
    go_wp2_with fail
    refine hK.out _ _ ?_ (fun hHeld2 => ?_)
    focus
      exact hS _ (by with_reducible assumption)
    clear hHeld
    have hHeld := hHeld2
    clear hHeld2 hK K
    try simp only [List.getElem_toArray, List.getElem_cons_succ, List.getElem_cons_zero, Act.put, List.setIfInBounds_toArray, List.set_cons_zero, List.set_cons_succ]
    refine wpAnyH_ready (rs := [38]) (by kernel_rfl) (by simp) ?_
    refine AllReadyH.cons rfl (fun K hK => ?_) AllReadyH.nil
    simp only [List.getElem_toArray, List.getElem_cons_succ, List.getElem_cons_zero]
    go_simp
    refine (D9.out _ hu).mono ?_
    rintro q k45 ⟨rfl, hbs⟩
    replace hu := hu.trans (hbs.mono hu.size)
    clear hbs
    go_wp2_with fail
    refine hK.out _ _ ?_ (fun hHeld2 => ?_)
    focus
      exact hS _ (by with_reducible assumption)
    clear hHeld
    have hHeld := hHeld2
    clear hHeld2 hK K
    try simp only [List.getElem_toArray, List.getElem_cons_succ, List.getElem_cons_zero, Act.put, List.setIfInBounds_toArray, List.set_cons_zero, List.set_cons_succ]
    refine wpAnyH_take (i := 39) (v := ?_) rfl (by kernel_rfl) (by kernel_rfl) (by kernel_rfl) (fun _ _ _ h => h) (Or.inl ⟨by rfl, ?_⟩) (by assumption) ?_
    rotate_left
    focus
      intro U hU
      try dsimp only at hU
      go_simp
      try (with_reducible rfl)
    simp only [List.getElem_toArray, List.getElem_cons_succ, List.getElem_cons_zero, Act.put, List.setIfInBounds_toArray, List.set_cons_zero, List.set_cons_succ]
    refine wpAnyH_take (i := 40) (v := ?_) rfl (by kernel_rfl) (by kernel_rfl) (by kernel_rfl) (fun _ _ _ h => h) (Or.inl ⟨by rfl, ?_⟩) (by assumption) ?_
    rotate_left
    focus
      intro U hU
      try dsimp only at hU
      go_simp
      try (with_reducible rfl)
    simp only [List.getElem_toArray, List.getElem_cons_succ, List.getElem_cons_zero, Act.put, List.setIfInBounds_toArray, List.set_cons_zero, List.set_cons_succ]
    refine wpAnyH_take (i := 41) (v := ?_) rfl (by kernel_rfl) (by kernel_rfl) (by kernel_rfl) (fun _ _ _ h => h) (Or.inl ⟨by rfl, ?_⟩) (by assumption) ?_
    rotate_left
    focus
      intro U hU
      try dsimp only at hU
      go_simp
      try (with_reducible rfl)
    simp only [List.getElem_toArray, List.getElem_cons_succ, List.getElem_cons_zero, Act.put, List.setIfInBounds_toArray, List.set_cons_zero, List.set_cons_succ]
    refine wpAnyH_take (i := 42) (v := ?_) rfl (by kernel_rfl) (by kernel_rfl) (by kernel_rfl) (fun _ _ _ h => h) (Or.inl ⟨by rfl, ?_⟩) (by assumption) ?_
    rotate_left
    focus
      intro U hU
      try dsimp only at hU
      go_simp
      try (with_reducible rfl)
    simp only [List.getElem_toArray, List.getElem_cons_succ, List.getElem_cons_zero, Act.put, List.setIfInBounds_toArray, List.set_cons_zero, List.set_cons_succ]
    refine wpAnyH_take (i := 43) (v := ?_) rfl (by kernel_rfl) (by kernel_rfl) (by kernel_rfl) (fun _ _ _ h => h) (Or.inl ⟨by rfl, ?_⟩) (by assumption) ?_
    rotate_left
    focus
      intro U hU
      try dsimp only at hU
      go_simp
      try (with_reducible rfl)
    simp only [List.getElem_toArray, List.getElem_cons_succ, List.getElem_cons_zero, Act.put, List.setIfInBounds_toArray, List.set_cons_zero, List.set_cons_succ]
    refine wpAnyH_ready (rs := [44]) (by kernel_rfl) (by simp) ?_
    refine AllReadyH.cons rfl (fun K hK => ?_) AllReadyH.nil
    simp only [List.getElem_toArray, List.getElem_cons_succ, List.getElem_cons_zero]
    go_simp
    refine (DA.out _ hu).mono ?_
    rintro q k46 ⟨rfl, hbs⟩
    replace hu := hu.trans (hbs.mono hu.size)
    clear hbs
    go_wp2_with fail
    refine hK.out _ _ ?_ (fun hHeld2 => ?_)
    focus
      exact hS _ (by with_reducible assumption)
    clear hHeld
    have hHeld := hHeld2
    clear hHeld2 hK K
    try simp only [List.getElem_toArray, List.getElem_cons_succ, List.getElem_cons_zero, Act.put, List.setIfInBounds_toArray, List.set_cons_zero, List.set_cons_succ]
    refine wpAnyH_take (i := 45) (v := ?_) rfl (by kernel_rfl) (by kernel_rfl) (by kernel_rfl) (fun _ _ _ h => h) (Or.inl ⟨by rfl, ?_⟩) (by assumption) ?_
    rotate_left
    focus
      intro U hU
      try dsimp only at hU
      go_simp
      try (with_reducible rfl)
    simp only [List.getElem_toArray, List.getElem_cons_succ, List.getElem_cons_zero, Act.put, List.setIfInBounds_toArray, List.set_cons_zero, List.set_cons_succ]
    refine wpAnyH_take (i := 46) (v := ?_) rfl (by kernel_rfl) (by kernel_rfl) (by kernel_rfl) (fun _ _ _ h => h) (Or.inl ⟨by rfl, ?_⟩) (by assumption) ?_
    rotate_left
    focus
      intro U hU
      try dsimp only at hU
      go_simp
      try (with_reducible rfl)
    simp only [List.getElem_toArray, List.getElem_cons_succ, List.getElem_cons_zero, Act.put, List.setIfInBounds_toArray, List.set_cons_zero, List.set_cons_succ]
    refine wpAnyH_ready (rs := [47]) (by kernel_rfl) (by simp) ?_
    refine AllReadyH.cons rfl (fun K hK => ?_) AllReadyH.nil
    simp only [List.getElem_toArray, List.getElem_cons_succ, List.getElem_cons_zero]
    go_simp
    refine (HW.out _).mono ?_
    rintro q k47 ⟨rfl, hbs⟩
    replace hu := hu.trans (hbs.mono hu.size)
    clear hbs
    go_wp2_with fail
    refine hK.out _ _ ?_ (fun hHeld2 => ?_)
    focus
      exact hS _ (by with_reducible assumption)
    clear hHeld
    have hHeld := hHeld2
    clear hHeld2 hK K
    try simp only [List.getElem_toArray, List.getElem_cons_succ, List.getElem_cons_zero, Act.put, List.setIfInBounds_toArray, List.set_cons_zero, List.set_cons_succ]
    refine wpAnyH_take (i := 48) (v := ?_) rfl (by kernel_rfl) (by kernel_rfl) (by kernel_rfl) (fun _ _ _ h => h) (Or.inl ⟨by rfl, ?_⟩) (by assumption) ?_
    rotate_left
    focus
      intro U hU
      try dsimp only at hU
      go_simp
      try (with_reducible rfl)
    simp only [List.getElem_toArray, List.getElem_cons_succ, List.getElem_cons_zero, Act.put, List.setIfInBounds_toArray, List.set_cons_zero, List.set_cons_succ]
    refine wpAnyH_take (i := 49) (v := ?_) rfl (by kernel_rfl) (by kernel_rfl) (by kernel_rfl) (fun _ _ _ h => h) (Or.inl ⟨by rfl, ?_⟩) (by assumption) ?_
    rotate_left
    focus
      intro U hU
      try dsimp only at hU
      go_simp
      try (with_reducible rfl)
    simp only [List.getElem_toArray, List.getElem_cons_succ, List.getElem_cons_zero, Act.put, List.setIfInBounds_toArray, List.set_cons_zero, List.set_cons_succ]
    refine wpAnyH_done (by kernel_rfl) ?_ _
    have hfin := HBW.out.trans (hu.mono HBW.out.size)
    clear hHeld hS
    go_wp2
    go_ret
    exact ⟨rfl, hfin⟩
end Go.Proofs.Ytadjmgmdnekllaa
