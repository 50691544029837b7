/- The document's Bytes of a packet, as a contract. -/
import Derived.Test.YtdjcfeglaiihgaaPacI
import Derived.Test.YtdjcfeglaiihgaaMsgH
namespace Go.Proofs.Ytdjcfeglaiihgaa
open Go.RowKit Go.Sort
set_option linter.unusedVariables false
set_option linter.unusedSimpArgs false

theorem strapp (a b : List UInt8) : str a ++ str b = str (a ++ b) := bapp a b
/-- A string, a packet's block, nothing old touched. -/
structure CSt (W w : World) (k f t i p s : Int) (b : ByteArray) : Prop where
  m : Pc 56 w W.heap.size k f t i p s b
  bel : Below W.heap.size W w
set_option maxRecDepth 20000 in
set_option maxHeartbeats 4000000 in
theorem rpbytes_ok (k : Nat) (f t i p s : Int) (b : ByteArray) (hb : b.size ≤ 1000) (hc : okP k f t i p s b.data.toList = true) (W : World) :
    Calls Try.prog 31 #[.agg #[.int .i64 k, .int .i64 f, .int .i64 t, .int .i64 i, .int .i64 p, .int .i64 s, .string b]] W (OkStr W (str (frP (plB k f t i p s b.data.toList)))) := by
  have hk4 : 1 ≤ k ∧ k ≤ 4 := by have := (okP_iff hc).1; omega
  have HC := hid (fun w => rcheck_any k f t i p s b w)
  rw [hc] at HC
  have HBL := hid (show b.data.toList.length = b.size by rw [Array.length_toList]; rfl)
  have HPL : Hid (plB k f t i p s b.data.toList = numB (cl k) ++ numB (cl f) ++ numB (cl t) ++ numB (cl i) ++ pt (hpP k) p ++ pt (hpS k) s ++ ptT (hpB k) b.data.toList) := hid (by
    rw [plB]
    simp only [Int.toNat_natCast]
    rfl)
  have l0 := (numB_length _ (cl_le (k : Int))).2
  have l1 := (numB_length _ (cl_le f)).2
  have l2 := (numB_length _ (cl_le t)).2
  have l3 := (numB_length _ (cl_le i)).2
  have l4 := (numB_length _ (cl_le p)).2
  have l5 := (numB_length _ (cl_le s)).2
  have N0 := hid (fun w => rnum_any k w)
  have N1 := hid (fun w => rnum_any f w)
  have N2 := hid (fun w => rnum_any t w)
  have N3 := hid (fun w => rnum_any i w)
  have N4 := hid (fun w => rnum_any p w)
  have N5 := hid (fun w => rnum_any s w)
  have NT := hid (fun w => rtext_any b w (by omega))
  obtain ⟨tx, htx⟩ : ∃ tx, str (numB b.size) ++ b = tx := ⟨_, rfl⟩
  rw [htx] at NT
  have HTX := hid htx
  clear htx
  obtain ⟨OUT, hOUT⟩ : ∃ x, str (frP (plB k f t i p s b.data.toList)) = x := ⟨_, rfl⟩
  rw [hOUT]
  rw [HPL.out] at hOUT
  have HPT4 : Hid (pt (hpP k) p = if hpP k then numB (cl p) else []) := hid rfl
  have HPT5 : Hid (pt (hpS k) s = if hpS k then numB (cl s) else []) := hid rfl
  have HPT6 : Hid (ptT (hpB k) b.data.toList = if hpB k then numB b.data.toList.length ++ b.data.toList else []) := hid rfl
  rw [HPT4.out, HPT5.out, HPT6.out, HBL.out] at hOUT
  clear HPT4 HPT5 HPT6 HPL
  generalize numB (cl (k : Int)) = q0 at *
  generalize numB (cl f) = q1 at *
  generalize numB (cl t) = q2 at *
  generalize numB (cl i) = q3 at *
  generalize numB (cl p) = q4 at *
  generalize numB (cl s) = q5 at *
  have HOUT := hid hOUT
  clear hOUT hc
  have HL := hid (And.intro l0 (And.intro l1 (And.intro l2 (And.intro l3 (And.intro l4 l5)))))
  have z0 : (str q0).size + (str q1).size ≤ 16 := by rw [str_size, str_size]; omega
  have z1 : (str q0 ++ str q1).size + (str q2).size ≤ 24 := by rw [ByteArray.size_append, str_size, str_size, str_size]; omega
  have z2 : (str q0 ++ str q1 ++ str q2).size + (str q3).size ≤ 32 := by rw [ByteArray.size_append, ByteArray.size_append, str_size, str_size, str_size, str_size]; omega
  clear l0 l1 l2 l3 l4 l5
  go_enter Try.func31, Try.ntmps31
  go_upto_region 1 with (fail)
  refine at_world (fun w => CSt W w k f t i p s b) ⟨heap_alloc_new _ _, (Below.refl _ _).alloc (Nat.le_refl _) _⟩ ?_
  rintro w1 hS1
  obtain ⟨⟨p0, p1, p2, p3, p4, p5, p6⟩, f0, f1, f2, f3, f4, f5, f6⟩ := seven_cells hS1.m
  go_wp2_with fail
  refine (HC.out _).mono ?_
  rintro x w2 ⟨rfl, hb2⟩
  have HS2 := hid (show CSt W w2 k f t i p s b from ⟨keep0 hS1.m hb2, hS1.bel.trans (hb2.mono hS1.bel.size)⟩)
  clear hS1 hb2 HC p0 p1 p2 p3 p4 p5 p6 f0 f1 f2 f3 f4 f5 f6
  go_upto_region 3 with (fail)
  obtain ⟨⟨p0, p1, p2, p3, p4, p5, p6⟩, f0, f1, f2, f3, f4, f5, f6⟩ := seven_cells HS2.out.m
  clear f0 f1 f2 f3 f4 f5 f6 p4 p5 p6
  replace p0 := cell_regrown p0
  replace p1 := cell_regrown p1
  replace p2 := cell_regrown p2
  replace p3 := cell_regrown p3
  have c0 := reg (w := w2) (fun W' _ => N0.out W')
  have c1 := reg (w := w2) (fun W' _ => N1.out W')
  have c2 := reg (w := w2) (fun W' _ => N2.out W')
  have c3 := reg (w := w2) (fun W' _ => N3.out W')
  refine wp_region_quiet_below (by kernel_rfl) (by kernel_rfl) ?_
  repeat (go_big_quiet_step (first | (go_at_call 63; with_reducible exact c0 _ _) | (go_at_call 63; with_reducible exact c1 _ _) | (go_at_call 63; with_reducible exact c2 _ _) | (go_at_call 63; with_reducible exact c3 _ _)))
  refine wpQuiet_nil ?_
  intro _ hw'
  obtain ⟨⟨dq, osq⟩, hw''⟩ := hw'
  subst hw''
  clear p0 p1 p2 p3 c0 c1 c2 c3 N0 N1 N2 N3 z0 z1 z2
  have HSg := hid (show CSt W (grow (redrawn w2 dq) osq) k f t i p s b from ⟨keep0 HS2.out.m (below_regrown w2 dq osq), HS2.out.bel.trans ((below_regrown w2 dq osq).mono HS2.out.bel.size)⟩)
  clear HS2
  simp only [strapp]
  obtain ⟨L0, hL0⟩ : ∃ L0, q0 ++ q1 ++ q2 ++ q3 = L0 := ⟨_, rfl⟩
  have hl0 : L0.length ≤ 32 := by rw [← hL0]; have := HL.out; simp only [List.length_append]; omega
  rw [hL0] at HOUT ⊢
  generalize str (q0 ++ q1 ++ q2) = y2
  generalize str (q0 ++ q1) = y1
  have HLL0 := hid hL0
  clear hL0
  go_upto_region 4 with (fail)
  refine at_world (fun w => CSt W w k f t i p s b) HSg.out ?_
  clear HSg
  rintro w3 hS3
  have HS := hid hS3
  clear hS3
  obtain ⟨L1, hL1⟩ : ∃ L1, (L0 ++ if hpP k = true then q4 else []) = L1 := ⟨_, rfl⟩
  obtain ⟨L2, hL2⟩ : ∃ L2, (L1 ++ if hpS k = true then q5 else []) = L2 := ⟨_, rfl⟩
  obtain ⟨L3, hL3⟩ : ∃ L3, (L2 ++ if hpB k = true then numB b.size ++ b.data.toList else []) = L3 := ⟨_, rfl⟩
  rw [hL1, hL2, hL3] at HOUT
  have hl1 : L1.length ≤ 40 := by rw [← hL1, List.length_append]; have := HL.out; split <;> simp <;> omega
  have hl2 : L2.length ≤ 48 := by rw [← hL2, List.length_append]; have := HL.out; split <;> simp <;> omega
  have hb8 := (numB_length b.size (by omega)).2
  have hl3 : L3.length ≤ 48 + 8 + b.size := by
    rw [← hL3, List.length_append]
    split
    · rw [List.length_append, HBL.out]; omega
    · simp; omega
  have HL1 := hid hL1
  have HL2 := hid hL2
  have HL3 := hid hL3
  have HLN := hid (And.intro hl0 (And.intro hl1 (And.intro hl2 (And.intro hl3 hb8))))
  clear hL1 hL2 hL3 hl0 hl1 hl2 hl3 hb8
  have HK4 := hid hk4
  clear hk4
  obtain ⟨⟨p0, p1, p2, p3, p4, p5, p6⟩, f0, f1, f2, f3, f4, f5, f6⟩ := seven_cells HS.out.m
  have hzz : (str L0).size + (str q4).size ≤ 100000 := by rw [str_size, str_size]; have := HLN.out; have := HL.out; omega
  have hdk : decide ((k : Int) < 4) = hpP k := by
    have := HK4.out
    rw [Bool.eq_iff_iff]; simp [hpP]; omega
  go_upto_if 24 with (fail)
  go_cut [3] from 25 to 29 (fun v wx => v = .string (str L1) ∧ Hid (CSt W wx k f t i p s b))
  case first =>
    have h1 := HL1.out
    generalize hpP k = hp at *
    cases hp
    case false =>
      go_wp2
      go_meet
      refine ⟨?_, HS.out⟩
      rw [← h1]; simp
    case true =>
      have h2 : L0 ++ q4 = L1 := by simpa using h1
      clear h1
      go_wp2_with fail
      refine (N4.out _).mono ?_
      rintro y w5 ⟨rfl, hb5⟩
      go_wp2
      go_meet
      exact ⟨by rw [strapp, h2], keep0 HS.out.m hb5, HS.out.bel.trans (hb5.mono HS.out.bel.size)⟩
  case rest =>
  obtain ⟨rfl, HS9⟩ := hcut
  clear HS hzz hdk p0 p1 p2 p3 p4 p5 p6 f0 f1 f2 f3 f4 f5 f6 N4 HL1
  have HS := hid HS9.out
  clear HS9
  obtain ⟨w6, rfl⟩ : ∃ w, w = wc := ⟨_, rfl⟩
  obtain ⟨⟨p0, p1, p2, p3, p4, p5, p6⟩, f0, f1, f2, f3, f4, f5, f6⟩ := seven_cells HS.out.m
  have hzz : (str L1).size + (str q5).size ≤ 100000 := by rw [str_size, str_size]; have := HLN.out; have := HL.out; omega
  have hdk : decide ((k : Int) < 3) = hpS k := by
    have := HK4.out
    rw [Bool.eq_iff_iff]; simp [hpS]; omega
  go_upto_if 32 with (fail)
  go_cut [3] from 33 to 37 (fun v wx => v = .string (str L2) ∧ Hid (CSt W wx k f t i p s b))
  case first =>
    have h1 := HL2.out
    generalize hpS k = hp at *
    cases hp
    case false =>
      go_wp2
      go_meet
      refine ⟨?_, HS.out⟩
      rw [← h1]; simp
    case true =>
      have h2 : L1 ++ q5 = L2 := by simpa using h1
      clear h1
      go_wp2_with fail
      refine (N5.out _).mono ?_
      rintro y w5 ⟨rfl, hb5⟩
      go_wp2
      go_meet
      exact ⟨by rw [strapp, h2], keep0 HS.out.m hb5, HS.out.bel.trans (hb5.mono HS.out.bel.size)⟩
  case rest =>
  obtain ⟨rfl, HS9⟩ := hcut
  clear HS hzz hdk p0 p1 p2 p3 p4 p5 p6 f0 f1 f2 f3 f4 f5 f6 N5 HL2
  have HS := hid HS9.out
  clear HS9
  obtain ⟨w7, rfl⟩ : ∃ w, w = wc := ⟨_, rfl⟩
  obtain ⟨⟨p0, p1, p2, p3, p4, p5, p6⟩, f0, f1, f2, f3, f4, f5, f6⟩ := seven_cells HS.out.m
  have hzz : (str L2).size + tx.size ≤ 200000 := by rw [← HTX.out, ByteArray.size_append, str_size, str_size]; have := HLN.out; omega
  have hk := HK4.out
  have hcv : Hid ((k : Int) == 1 ∨ True) := hid (.inr trivial)
  clear hcv
  rcases (by omega : k = 1 ∨ k = 2 ∨ k = 3 ∨ k = 4) with hk | hk | hk | hk
  case' inl =>
    have e1 : ((k : Int) == 1) = true := by rw [hk]; rfl
    have e4 : ((k : Int) == 4) = false := by rw [hk]; rfl
    have hB : hpB k = true := by rw [hk]; rfl
    rw [hB] at HL3
    clear hk hB
    have h1 := HL3.out
    rw [if_pos rfl] at h1
    have h2 : str L2 ++ tx = str L3 := by
      rw [← HTX.out, ← h1, ← strapp, ← strapp, str_of]
    go_wp2_with fail
    refine (NT.out _).mono ?_
    rintro y w8 ⟨rfl, hb8⟩
    have HS8 := hid (HS.out.bel.trans (hb8.mono HS.out.bel.size))
    clear HS hb8 p0 p1 p2 p3 p4 p5 p6 f0 f1 f2 f3 f4 f5 f6 h1 e1 e4
    go_upto_region 10 with (fail)
    clear h2 hzz
    refine at_world (fun w => Below W.heap.size W w) HS8.out ?_
    clear HS8
  case' inr.inl =>
    have e1 : ((k : Int) == 1) = false := by rw [hk]; rfl
    have e4 : ((k : Int) == 4) = false := by rw [hk]; rfl
    have hB : hpB k = false := by rw [hk]; rfl
    rw [hB] at HL3
    clear hk hB
    have h1 := HL3.out
    rw [if_neg (by simp), List.append_nil] at h1
    have HS8 := hid HS.out.bel
    clear HS
    go_upto_region 10 with (fail)
    try rw [h1]
    clear p0 p1 p2 p3 p4 p5 p6 f0 f1 f2 f3 f4 f5 f6 h1 e1 e4 hzz
    refine at_world (fun w => Below W.heap.size W w) HS8.out ?_
    clear HS8
  case' inr.inr.inl =>
    have e1 : ((k : Int) == 1) = false := by rw [hk]; rfl
    have e4 : ((k : Int) == 4) = false := by rw [hk]; rfl
    have hB : hpB k = false := by rw [hk]; rfl
    rw [hB] at HL3
    clear hk hB
    have h1 := HL3.out
    rw [if_neg (by simp), List.append_nil] at h1
    have HS8 := hid HS.out.bel
    clear HS
    go_upto_region 10 with (fail)
    try rw [h1]
    clear p0 p1 p2 p3 p4 p5 p6 f0 f1 f2 f3 f4 f5 f6 h1 e1 e4 hzz
    refine at_world (fun w => Below W.heap.size W w) HS8.out ?_
    clear HS8
  case' inr.inr.inr =>
    have e1 : ((k : Int) == 1) = false := by rw [hk]; rfl
    have e4 : ((k : Int) == 4) = true := by rw [hk]; rfl
    have hB : hpB k = true := by rw [hk]; rfl
    rw [hB] at HL3
    clear hk hB
    have h1 := HL3.out
    rw [if_pos rfl] at h1
    have h2 : str L2 ++ tx = str L3 := by
      rw [← HTX.out, ← h1, ← strapp, ← strapp, str_of]
    go_wp2_with fail
    refine (NT.out _).mono ?_
    rintro y w8 ⟨rfl, hb8⟩
    have HS8 := hid (HS.out.bel.trans (hb8.mono HS.out.bel.size))
    clear HS hb8 p0 p1 p2 p3 p4 p5 p6 f0 f1 f2 f3 f4 f5 f6 h1 e1 e4
    go_upto_region 10 with (fail)
    clear h2 hzz
    refine at_world (fun w => Below W.heap.size W w) HS8.out ?_
    clear HS8
  all_goals
    rintro w9 b9
    have HB9 := hid b9
    have HRP := hid (rput_any (str L3) w9 (by rw [str_size]; have := HLN.out; omega))
    have hst : (str L3).data.toList = L3 := by simp [str]
    rw [hst, HOUT.out] at HRP
    clear b9 hst HOUT
    go_wp2_with (go_at_call 19; refine HRP.out.mono ?_; rintro y w10 ⟨rfl, hb10⟩)
    go_ret
    exact ⟨rfl, HB9.out.trans (hb10.mono HB9.out.size)⟩

theorem rpbytes_no (k f t i p s : Int) (b : ByteArray) (hc : okP k f t i p s b.data.toList = false) (W : World) :
    Calls Try.prog 31 #[.agg #[.int .i64 k, .int .i64 f, .int .i64 t, .int .i64 i, .int .i64 p, .int .i64 s, .string b]] W (OkStr W ⟨#[]⟩) := by
  have HC := hid (fun w => rcheck_any k f t i p s b w)
  rw [hc] at HC
  clear hc
  go_enter Try.func31, Try.ntmps31
  go_upto_region 1 with (fail)
  refine at_world (fun w => Pc 56 w W.heap.size k f t i p s b ∧ Below W.heap.size W w) ⟨heap_alloc_new _ _, (Below.refl _ _).alloc (Nat.le_refl _) _⟩ ?_
  rintro w1 ⟨hm1, hB1⟩
  obtain ⟨⟨p0, p1, p2, p3, p4, p5, p6⟩, f0, f1, f2, f3, f4, f5, f6⟩ := seven_cells hm1
  go_wp2_with (go_at_call 29; refine (HC.out _).mono ?_; rintro x w2 ⟨rfl, hb2⟩)
  go_ret
  exact ⟨rfl, hB1.trans (hb2.mono hB1.size)⟩
theorem rpbytes_any (k f t i p s : Int) (b : ByteArray) (hb : b.size ≤ 1000) (W : World) :
    Calls Try.prog 31 #[.agg #[.int .i64 k, .int .i64 f, .int .i64 t, .int .i64 i, .int .i64 p, .int .i64 s, .string b]] W fun e w' => e = .returned (.string (pbS k f t i p s b)) ∧ Below W.heap.size W w' := by
  cases hc : okP k f t i p s b.data.toList with
  | true =>
    rw [pbS, if_pos hc]
    obtain ⟨n, rfl⟩ : ∃ n : Nat, k = n := ⟨k.toNat, by have := (okP_iff hc).1; omega⟩
    exact rpbytes_ok n f t i p s b hb hc W
  | false =>
    rw [pbS, if_neg (by simp [hc])]
    exact rpbytes_no k f t i p s b hc W
end Go.Proofs.Ytdjcfeglaiihgaa
