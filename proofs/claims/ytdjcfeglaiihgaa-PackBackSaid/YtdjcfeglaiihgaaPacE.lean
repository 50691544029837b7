/- The document's Open, as a contract. -/
import Derived.Test.YtdjcfeglaiihgaaPacC
namespace Go.Proofs.Ytdjcfeglaiihgaa
open Go.RowKit
set_option linter.unusedVariables false
set_option linter.unusedSimpArgs false

set_option maxRecDepth 20000 in
set_option maxHeartbeats 4000000 in
theorem ropen_any (l : List UInt8) (hs : l.length ≤ 1000) (W : World) :
    Calls Try.prog 33 #[.string (str l)] W fun x w' => x = .returned (.tuple #[opV l, .int .i64 (opE l)]) ∧ Below W.heap.size W w' := by
  have HV : Hid (opV l = if opE l = 0 then pkV (qk (cutS l).1).1 (qf (cutS l).1).1 (qt (cutS l).1).1 (qi (cutS l).1).1 (qp (cutS l).1).1 (qs (cutS l).1).1 (str (qb (cutS l).1).1) else pkV 0 0 0 0 0 0 ⟨#[]⟩) := hid rfl
  have HE : Hid (opE l = if (cutS l).2.2 = 0 then (if (cutS l).2.1 < l.length then 3 else qz (cutS l).1) else (((cutS l).2.2 : Nat) : Int)) := hid rfl
  have hcl : (cutS l).2.2 = 0 → (cutS l).1.length ≤ 4096 := fun h => (cut_ok _ h).1
  have HCUT := hid (fun w => rcut_any l w (by omega))
  have hsz : (str l).size = l.length := str_size l
  generalize opV l = ov at *
  generalize opE l = oe at *
  generalize cutS l = cv at *
  obtain ⟨x, n, ce⟩ := cv
  simp only at HV HE hcl HCUT
  have HCL := hid hcl
  clear hcl
  go_enter Try.func33, Try.ntmps33
  go_upto_region 1 with (fail)
  refine at_world (fun w => Pc 56 w W.heap.size 0 0 0 0 0 0 ⟨#[]⟩ ∧ Below W.heap.size W w) ⟨heap_alloc_new _ _, (Below.refl _ _).alloc (Nat.le_refl _) _⟩ ?_
  rintro w2 ⟨hR2, hB2⟩
  have HC := hid (HCUT.out w2)
  have HR2 := hid hR2
  have HB2 := hid hB2
  clear hR2 hB2 HCUT
  go_wp2_with fail
  refine HC.out.mono ?_
  rintro y w3 ⟨rfl, hb3⟩
  have HR3 := hid (show Pc 56 w3 W.heap.size 0 0 0 0 0 0 ⟨#[]⟩ from keep0 HR2.out hb3)
  have HB3 := hid (HB2.out.trans (hb3.mono HB2.out.size))
  clear hb3 HR2 HB2 HC
  obtain ⟨⟨p0, p1, p2, p3, p4, p5, p6⟩, f0, f1, f2, f3, f4, f5, f6⟩ := seven_cells HR3.out
  have fin0 : ∀ (w : World) (v : Int), oe = v → v ≠ 0 → Pc 56 w W.heap.size 0 0 0 0 0 0 ⟨#[]⟩ → ov = pkV 0 0 0 0 0 0 ⟨#[]⟩ := fun w v h1 h2 _ => by
    rw [HV.out, if_neg (by omega)]
  have FIN0 := hid fin0
  clear fin0
  by_cases hce : ce = 0
  · subst hce
    rw [if_pos rfl] at HE
    have HXL := hid (HCL.out rfl)
    clear HCL
    by_cases hn : n < l.length
    · have hn1 : (n : Int) < (l.length : Int) := by omega
      rw [if_pos hn] at HE
      clear hn
      have HV3 := hid (FIN0.out w3 3 HE.out (by decide) HR3.out)
      obtain rfl := HE.out
      clear HE
      go_wp2_with fail
      obtain ⟨⟨r0, r1, r2, r3, r4, r5, r6⟩, _⟩ := seven_cells (set_seven HR3.out (.int .i64 0) (.int .i64 0) (.int .i64 0) (.int .i64 0) (.int .i64 0) (.int .i64 0) (.string ⟨#[]⟩))
      have hbe := below_set7 HB3.out (Nat.le_refl _) (.int .i64 0) (.int .i64 0) (.int .i64 0) (.int .i64 0) (.int .i64 0) (.int .i64 0) (.string ⟨#[]⟩)
      unfold set7 at r0 r1 r2 r3 r4 r5 r6 hbe
      rw [HV3.out]
      refine bodyPost_ret (v := .tuple #[pkV 0 0 0 0 0 0 ⟨#[]⟩, .int .i64 3]) (by simp [results, Try.results33, go_sem, r0, r1, r2, r3, r4, r5, r6, pkV]) rfl ⟨rfl, hbe⟩
    · have hn1 : (l.length : Int) ≤ (n : Int) := by omega
      have hn2 : decide ((n : Int) < (l.length : Int)) = false := decide_eq_false (by omega)
      rw [if_neg hn] at HE
      clear hn FIN0 p0 p1 p2 p3 p4 p5 p6 f0 f1 f2 f3 f4 f5 f6
      have hk0 := takeS_max true 1 4 x 0
      have hpk : Hid (qk x = takeS true 1 4 x 0) := hid rfl
      have hpf : Hid (qf x = rdNum 71 (qk x).2.1 (qk x).2.2) := hid rfl
      have hpt : Hid (qt x = rdNum 71 (qf x).2.1 (qf x).2.2) := hid rfl
      have hpe : Hid (qe x = if (qf x).1 = (qt x).1 then rdFail 3 (qt x).2.2 else (qt x).2.2) := hid rfl
      have hpi : Hid (qi x = takeS true 1 72057594037927935 (qt x).2.1 (qe x)) := hid rfl
      have hpp : Hid (qp x = takeS (hpP (qk x).1) 1 72057594037927935 (qi x).2.1 (qi x).2.2) := hid rfl
      have hps : Hid (qs x = takeS (hpS (qk x).1) 1 72057594037927935 (qp x).2.1 (qp x).2.2) := hid rfl
      have hpb : Hid (qb x = takeT (hpB (qk x).1) (qs x).2.1 (qs x).2.2) := hid rfl
      have hpz : Hid (qz x = rdEnd (qb x).2.1 (qb x).2.2) := hid rfl
      rw [← hpk.out] at hk0
      have hk : (qk x).1 ≤ 4 := by omega
      clear hk0
      generalize qz x = vz at *
      generalize qb x = vb at *
      generalize qs x = vs at *
      generalize qp x = vp at *
      generalize qi x = vi at *
      generalize qe x = ve at *
      generalize qt x = vt at *
      generalize qf x = vf at *
      generalize qk x = vk at *
      obtain ⟨k, lk, ek⟩ := vk
      obtain ⟨f, lf, ef⟩ := vf
      obtain ⟨t, lt, et⟩ := vt
      obtain ⟨i, li, ei⟩ := vi
      obtain ⟨p, lp, ep⟩ := vp
      obtain ⟨q, ls, es⟩ := vs
      obtain ⟨bt, lb, eb⟩ := vb
      simp only at *
      have HKK := hid hk
      clear hk
      have hlens : Hid (lk.length ≤ 4096 ∧ lf.length ≤ 4096 ∧ lt.length ≤ 4096 ∧ li.length ≤ 4096 ∧ lp.length ≤ 4096 ∧ ls.length ≤ 4096) := by
        have hx := HXL.out
        have a1 := takeS_short true 1 4 x 0
        rw [← hpk.out] at a1
        have a2 := rdNum_short 71 lk ek
        rw [← hpf.out] at a2
        have a3 := rdNum_short 71 lf ef
        rw [← hpt.out] at a3
        have a4 := takeS_short true 1 72057594037927935 lt ve
        rw [← hpi.out] at a4
        have a5 := takeS_short (hpP k) 1 72057594037927935 li ei
        rw [← hpp.out] at a5
        have a6 := takeS_short (hpS k) 1 72057594037927935 lp ep
        rw [← hps.out] at a6
        simp only at a1 a2 a3 a4 a5 a6
        exact hid (by omega)
      go_upto_region 7 with (fail)
      refine at_world (fun w => Pc 56 w W.heap.size 0 0 0 0 0 0 ⟨#[]⟩ ∧ RRdr w w3.heap.size x 0 ∧ Below W.heap.size W w) ⟨(Below.heap_alloc _ _ _ (lt_of_block HR3.out)).trans HR3.out, heap_alloc_new _ _, HB3.out.alloc HB3.out.size _⟩ ?_
      have hBB : Hid (W.heap.size < w3.heap.size) := hid (lt_of_block HR3.out)
      clear HR3 HB3
      generalize w3.heap.size = B at *
      rintro w5 ⟨hr5, hR5, hb5⟩
      have HK5 : Hid (Pc 56 w5 W.heap.size 0 0 0 0 0 0 ⟨#[]⟩ ∧ Below W.heap.size W w5 ∧ W.heap.size < B) := hid ⟨hr5, hb5, hBB.out⟩
      have HT := hid (least_any B true 4 x 0 w5 hR5 (by have := HXL.out; omega))
      rw [← hpk.out] at HT
      simp only at HT
      clear hb5 hR5 hr5 hBB hpk
      go_wp2_with fail
      refine HT.out.mono ?_
      rintro y w6 ⟨rfl, hR6, hO6⟩
      have K6 : QRt W (w6.alloc (.cells #[.int .i64 k, .int .i64 0, .int .i64 0, .int .i64 0, .int .i64 0, .int .i64 0, .string ⟨#[]⟩] 56)) W.heap.size B w6.heap.size lk ek k 0 0 0 0 0 ⟨#[]⟩ := by
        have h1 := hO6.block HK5.out.1 (by have := HK5.out.2.2; omega)
        have h2 := HK5.out.2.1.trans (hO6.below W.heap.size (Nat.le_of_lt HK5.out.2.2) HK5.out.2.1.size)
        have h3 : B < w6.heap.size := lt_of_block hR6
        refine ⟨(Below.heap_alloc _ _ _ (lt_of_block h1)).trans h1, hR6.below ((Below.refl _ _).alloc (Nat.le_refl _) _), heap_alloc_new _ _, h2.alloc h2.size _, Nat.le_refl _, Nat.le_of_lt HK5.out.2.2, h2.size, ?_, ?_, ?_⟩
        · have := HK5.out.2.2; omega
        · omega
        · have := lt_of_block h1; omega
      have HK6 := hid K6
      clear hR6 hO6 HK5 K6 HT
      go_upto_region 8 with (fail)
      have K6' := HK6.out
      clear HK6
      generalize w6.heap.size = M at K6' ⊢
      refine at_world (fun w => QRt W w W.heap.size B M lk ek k 0 0 0 0 0 ⟨#[]⟩) K6' ?_
      clear K6'
      rintro w7 K7
      have HT := hid (rrNum_any B lk ek 71 w7 K7.b (by have := hlens.out; omega))
      rw [← hpf.out] at HT
      simp only at HT
      have HK7 := hid K7
      clear K7 hpf
      go_wp2_with fail
      refine HT.out.mono ?_
      rintro y w7b ⟨rfl, hR7, hO7⟩
      have HK7b := hid (HK7.out.go hO7 hR7)
      clear HK7 hR7 hO7 HT
      obtain ⟨⟨p0, p1, p2, p3, p4, p5, p6⟩, f0, f1, f2, f3, f4, f5, f6⟩ := seven_cells HK7b.out.m
      go_upto_region 9 with (fail)
      refine at_world (fun w => QRt W w W.heap.size B M lf ef k f 0 0 0 0 ⟨#[]⟩) (HK7b.out.m1 _) ?_
      clear HK7b p0 p1 p2 p3 p4 p5 p6 f0 f1 f2 f3 f4 f5 f6
      rintro w8 K8
      have HT := hid (rrNum_any B lf ef 71 w8 K8.b (by have := hlens.out; omega))
      rw [← hpt.out] at HT
      simp only at HT
      have HK8 := hid K8
      clear K8 hpt
      go_wp2_with fail
      refine HT.out.mono ?_
      rintro y w8b ⟨rfl, hR8, hO8⟩
      have HK8b := hid (HK8.out.go hO8 hR8)
      clear HK8 hR8 hO8 HT
      obtain ⟨⟨p0, p1, p2, p3, p4, p5, p6⟩, f0, f1, f2, f3, f4, f5, f6⟩ := seven_cells HK8b.out.m
      go_upto_region 10 with (fail)
      refine at_world (fun w => QRt W w W.heap.size B M lt et k f t 0 0 0 ⟨#[]⟩) (HK8b.out.m2 _) ?_
      clear HK8b p0 p1 p2 p3 p4 p5 p6 f0 f1 f2 f3 f4 f5 f6
      rintro w9 K9
      obtain ⟨⟨p0, p1, p2, p3, p4, p5, p6⟩, f0, f1, f2, f3, f4, f5, f6⟩ := seven_cells K9.m
      have HK9 := hid K9
      clear K9
      rcases Classical.em (f = t) with hft | hft
      case' inl =>
        have hd : ((f : Int) == (t : Int)) = true := by simp [hft]
        rw [if_pos hft] at hpe
        have HF := hid (rrFail_any B lt et 3 w9 HK9.out.b)
        rw [← hpe.out] at HF
        clear hpe hft
        go_wp2_with fail
        refine HF.out.mono ?_
        rintro y w10 ⟨⟨v, rfl⟩, hR10, hO10⟩
        have HK10 := hid (HK9.out.go hO10 hR10)
        clear HK9 hR10 hO10 HF p0 p1 p2 p3 p4 p5 p6 f0 f1 f2 f3 f4 f5 f6 hd
        go_upto_region 12 with (fail)
        refine at_world (fun w => QRt W w W.heap.size B M lt ve k f t 0 0 0 ⟨#[]⟩) HK10.out ?_
        clear HK10
      case' inr =>
        have hd : ((f : Int) == (t : Int)) = false := by rw [beq_eq_false_iff_ne]; omega
        rw [if_neg hft] at hpe
        obtain rfl := hpe.out
        clear hft hpe
        go_upto_region 12 with (fail)
        refine at_world (fun w => QRt W w W.heap.size B M lt ve k f t 0 0 0 ⟨#[]⟩) HK9.out ?_
        clear HK9 p0 p1 p2 p3 p4 p5 p6 f0 f1 f2 f3 f4 f5 f6 hd
      all_goals
        rintro w10 K10
        have HT := hid (least_any B true 72057594037927935 lt ve w10 K10.b (by have := hlens.out; omega))
        rw [← hpi.out] at HT
        simp only at HT
        have HK10 := hid K10
        clear K10 hpi
        go_wp2_with fail
        refine HT.out.mono ?_
        rintro y w11 ⟨rfl, hR11, hO11⟩
        have HK11 := hid (HK10.out.go hO11 hR11)
        clear HK10 hR11 hO11 HT
        obtain ⟨⟨p0, p1, p2, p3, p4, p5, p6⟩, f0, f1, f2, f3, f4, f5, f6⟩ := seven_cells HK11.out.m
        go_upto_region 13 with (fail)
        refine at_world (fun w => QRt W w W.heap.size B M li ei k f t i 0 0 ⟨#[]⟩) (HK11.out.m3 _) ?_
        clear HK11 p0 p1 p2 p3 p4 p5 p6 f0 f1 f2 f3 f4 f5 f6
        rintro w12 K12
        obtain ⟨⟨p0, p1, p2, p3, p4, p5, p6⟩, f0, f1, f2, f3, f4, f5, f6⟩ := seven_cells K12.m
        have HK12 := hid K12
        clear K12
        rcases (by have := HKK.out; omega : k = 0 ∨ k = 1 ∨ k = 2 ∨ k = 3 ∨ k = 4) with hk | hk | hk | hk | hk
        case' inl =>
          have hb1 : hpP k = false := by rw [hk]; rfl
          have hb2 : hpS k = false := by rw [hk]; rfl
          have hb3 : hpB k = false := by rw [hk]; rfl
          have hi0 : decide ((0 : Int) < (k : Int)) = false := by simp; omega
          have hj0 : (k : Int) ≤ 0 := by omega
          have hi4 : True := trivial
          have hi3 : True := trivial
          have hj4 : True := trivial
          have hj3 : True := trivial
          have HE1 : Hid (((k : Int) == 1) = false) := hid (by rw [hk]; rfl)
          have HE4 : Hid (((k : Int) == 4) = false) := hid (by rw [hk]; rfl)
          rw [hb1] at hpp
          rw [hb2] at hps
          rw [hb3] at hpb
          clear hb1 hb2 hb3 hk
          have HT := hid (least_any B false 72057594037927935 li ei w12 HK12.out.b (by have := hlens.out; omega))
          rw [← hpp.out] at HT
          simp only at HT
          clear hpp
          go_wp2_with fail
          refine HT.out.mono ?_
          rintro y w13 ⟨rfl, hR13, hO13⟩
          have HK13 := hid (HK12.out.go hO13 hR13)
          clear HK12 hR13 hO13 HT p0 p1 p2 p3 p4 p5 p6 f0 f1 f2 f3 f4 f5 f6
          obtain ⟨⟨p0, p1, p2, p3, p4, p5, p6⟩, f0, f1, f2, f3, f4, f5, f6⟩ := seven_cells HK13.out.m
          go_upto_region 14 with (fail)
          refine at_world (fun w => QRt W w W.heap.size B M lp ep k f t i p 0 ⟨#[]⟩) (HK13.out.m4 _) ?_
          clear HK13 p0 p1 p2 p3 p4 p5 p6 f0 f1 f2 f3 f4 f5 f6
          rintro w14 K14
          obtain ⟨⟨p0, p1, p2, p3, p4, p5, p6⟩, f0, f1, f2, f3, f4, f5, f6⟩ := seven_cells K14.m
          have HT := hid (least_any B false 72057594037927935 lp ep w14 K14.b (by have := hlens.out; omega))
          rw [← hps.out] at HT
          simp only at HT
          have HK14 := hid K14
          clear K14 hps
          go_wp2_with fail
          refine HT.out.mono ?_
          rintro y w15 ⟨rfl, hR15, hO15⟩
          have HK15 := hid (HK14.out.go hO15 hR15)
          clear HK14 hR15 hO15 HT p0 p1 p2 p3 p4 p5 p6 f0 f1 f2 f3 f4 f5 f6
          obtain ⟨⟨p0, p1, p2, p3, p4, p5, p6⟩, f0, f1, f2, f3, f4, f5, f6⟩ := seven_cells HK15.out.m
          go_upto_region 15 with (fail)
          refine at_world (fun w => QRt W w W.heap.size B M ls es k f t i p q ⟨#[]⟩) (HK15.out.m5 _) ?_
          clear HK15 p0 p1 p2 p3 p4 p5 p6 f0 f1 f2 f3 f4 f5 f6 hi0 hi3 hi4 hj0 hj3 hj4
          rintro w16 K16
          obtain ⟨⟨p0, p1, p2, p3, p4, p5, p6⟩, f0, f1, f2, f3, f4, f5, f6⟩ := seven_cells K16.m
          have HK16 := hid K16
          have he1 := HE1.out
          have he4 := HE4.out
          clear K16 HE1 HE4
          have hz := hpb.out
          simp only [takeT, Bool.false_eq_true, if_false, Prod.mk.injEq] at hz
          obtain ⟨hz1, hz2, hz3⟩ := hz
          have HZ3 := hid (And.intro hz1 (And.intro hz2 hz3))
          clear hpb hz1 hz2 hz3
          go_upto_region 19 with (fail)
          refine at_world (fun w => QRt W w W.heap.size B M lb eb k f t i p q (str bt)) (by rw [HZ3.out.1, HZ3.out.2.1, HZ3.out.2.2]; exact HK16.out) ?_
          clear HK16 p0 p1 p2 p3 p4 p5 p6 f0 f1 f2 f3 f4 f5 f6 he1 he4 HZ3
        case' inr.inl =>
          have hb1 : hpP k = true := by rw [hk]; rfl
          have hb2 : hpS k = true := by rw [hk]; rfl
          have hb3 : hpB k = true := by rw [hk]; rfl
          have hi0 : decide ((0 : Int) < (k : Int)) = true := by simp; omega
          have hj0 : (0 : Int) < (k : Int) := by omega
          have hi4 : decide ((k : Int) < 4) = true := by simp; omega
          have hi3 : decide ((k : Int) < 3) = true := by simp; omega
          have hj4 : (k : Int) < 4 := by omega
          have hj3 : (k : Int) < 3 := by omega
          have HE1 : Hid (((k : Int) == 1) = true) := hid (by rw [hk]; rfl)
          have HE4 : Hid (((k : Int) == 4) = false) := hid (by rw [hk]; rfl)
          rw [hb1] at hpp
          rw [hb2] at hps
          rw [hb3] at hpb
          clear hb1 hb2 hb3 hk
          have HT := hid (least_any B true 72057594037927935 li ei w12 HK12.out.b (by have := hlens.out; omega))
          rw [← hpp.out] at HT
          simp only at HT
          clear hpp
          go_wp2_with fail
          refine HT.out.mono ?_
          rintro y w13 ⟨rfl, hR13, hO13⟩
          have HK13 := hid (HK12.out.go hO13 hR13)
          clear HK12 hR13 hO13 HT p0 p1 p2 p3 p4 p5 p6 f0 f1 f2 f3 f4 f5 f6
          obtain ⟨⟨p0, p1, p2, p3, p4, p5, p6⟩, f0, f1, f2, f3, f4, f5, f6⟩ := seven_cells HK13.out.m
          go_upto_region 14 with (fail)
          refine at_world (fun w => QRt W w W.heap.size B M lp ep k f t i p 0 ⟨#[]⟩) (HK13.out.m4 _) ?_
          clear HK13 p0 p1 p2 p3 p4 p5 p6 f0 f1 f2 f3 f4 f5 f6
          rintro w14 K14
          obtain ⟨⟨p0, p1, p2, p3, p4, p5, p6⟩, f0, f1, f2, f3, f4, f5, f6⟩ := seven_cells K14.m
          have HT := hid (least_any B true 72057594037927935 lp ep w14 K14.b (by have := hlens.out; omega))
          rw [← hps.out] at HT
          simp only at HT
          have HK14 := hid K14
          clear K14 hps
          go_wp2_with fail
          refine HT.out.mono ?_
          rintro y w15 ⟨rfl, hR15, hO15⟩
          have HK15 := hid (HK14.out.go hO15 hR15)
          clear HK14 hR15 hO15 HT p0 p1 p2 p3 p4 p5 p6 f0 f1 f2 f3 f4 f5 f6
          obtain ⟨⟨p0, p1, p2, p3, p4, p5, p6⟩, f0, f1, f2, f3, f4, f5, f6⟩ := seven_cells HK15.out.m
          go_upto_region 15 with (fail)
          refine at_world (fun w => QRt W w W.heap.size B M ls es k f t i p q ⟨#[]⟩) (HK15.out.m5 _) ?_
          clear HK15 p0 p1 p2 p3 p4 p5 p6 f0 f1 f2 f3 f4 f5 f6 hi0 hi3 hi4 hj0 hj3 hj4
          rintro w16 K16
          obtain ⟨⟨p0, p1, p2, p3, p4, p5, p6⟩, f0, f1, f2, f3, f4, f5, f6⟩ := seven_cells K16.m
          have HK16 := hid K16
          have he1 := HE1.out
          have he4 := HE4.out
          clear K16 HE1 HE4
          have HT := hid (rrText_any B ls es 32 w16 HK16.out.b (by have := hlens.out; omega))
          have hz : (bt, lb, eb) = if (rdText 32 ls es).1.length = 0 then ((rdText 32 ls es).1, (rdText 32 ls es).2.1, rdFail 3 (rdText 32 ls es).2.2) else rdText 32 ls es := hpb.out
          generalize rdText 32 ls es = tx at *
          obtain ⟨tb, tl, te⟩ := tx
          simp only at HT hz
          have HZB := hid hz
          clear hz hpb
          go_wp2_with fail
          refine HT.out.mono ?_
          rintro y w17 ⟨rfl, hR17, hO17⟩
          have HK17 := hid (HK16.out.go hO17 hR17)
          clear HK16 hR17 hO17 HT p0 p1 p2 p3 p4 p5 p6 f0 f1 f2 f3 f4 f5 f6 he1 he4
          obtain ⟨⟨p0, p1, p2, p3, p4, p5, p6⟩, f0, f1, f2, f3, f4, f5, f6⟩ := seven_cells HK17.out.m
          go_upto_region 17 with (fail)
          refine at_world (fun w => QRt W w W.heap.size B M tl te k f t i p q (str tb)) (HK17.out.m6 _) ?_
          clear HK17 p0 p1 p2 p3 p4 p5 p6 f0 f1 f2 f3 f4 f5 f6
          rintro w18 K18
          obtain ⟨⟨p0, p1, p2, p3, p4, p5, p6⟩, f0, f1, f2, f3, f4, f5, f6⟩ := seven_cells K18.m
          have HK18 := hid K18
          clear K18
          have hts : (str tb).size = tb.length := str_size tb
          rcases Classical.em (tb.length = 0) with htb | htb
          case' inl =>
            rw [if_pos htb] at HZB
            have hte : (((str tb).size : Int) == 0) = true := by rw [hts, htb]; rfl
            have HF := hid (rrFail_any B tl te 3 w18 HK18.out.b)
            have HBT : Hid (bt = tb ∧ lb = tl ∧ eb = rdFail 3 te) := hid (by have := HZB.out; simpa using this)
            rw [← HBT.out.2.2, ← HBT.out.2.1] at HF
            clear hts htb
            go_wp2_with fail
            refine HF.out.mono ?_
            rintro y w19 ⟨⟨v, rfl⟩, hR19, hO19⟩
            have HK19 := hid (HK18.out.go hO19 hR19)
            clear HK18 hR19 hO19 HF p0 p1 p2 p3 p4 p5 p6 f0 f1 f2 f3 f4 f5 f6 hte HZB
            go_upto_region 19 with (fail)
            refine at_world (fun w => QRt W w W.heap.size B M lb eb k f t i p q (str bt)) (by rw [HBT.out.1]; exact HK19.out) ?_
            clear HK19 HBT
          case' inr =>
            rw [if_neg htb] at HZB
            have hte : (((str tb).size : Int) == 0) = false := by rw [hts, beq_eq_false_iff_ne]; omega
            have HBT : Hid (bt = tb ∧ lb = tl ∧ eb = te) := hid (by have := HZB.out; simpa using this)
            clear HZB p0 p1 p2 p3 p4 p5 f0 f1 f2 f3 f4 f5 f6 htb hts
            go_upto_region 19 with (fail)
            refine at_world (fun w => QRt W w W.heap.size B M lb eb k f t i p q (str bt)) (by rw [HBT.out.1, HBT.out.2.1, HBT.out.2.2]; exact HK18.out) ?_
            clear HK18 HBT p6 hte
        case' inr.inr.inl =>
          have hb1 : hpP k = true := by rw [hk]; rfl
          have hb2 : hpS k = true := by rw [hk]; rfl
          have hb3 : hpB k = false := by rw [hk]; rfl
          have hi0 : decide ((0 : Int) < (k : Int)) = true := by simp; omega
          have hj0 : (0 : Int) < (k : Int) := by omega
          have hi4 : decide ((k : Int) < 4) = true := by simp; omega
          have hi3 : decide ((k : Int) < 3) = true := by simp; omega
          have hj4 : (k : Int) < 4 := by omega
          have hj3 : (k : Int) < 3 := by omega
          have HE1 : Hid (((k : Int) == 1) = false) := hid (by rw [hk]; rfl)
          have HE4 : Hid (((k : Int) == 4) = false) := hid (by rw [hk]; rfl)
          rw [hb1] at hpp
          rw [hb2] at hps
          rw [hb3] at hpb
          clear hb1 hb2 hb3 hk
          have HT := hid (least_any B true 72057594037927935 li ei w12 HK12.out.b (by have := hlens.out; omega))
          rw [← hpp.out] at HT
          simp only at HT
          clear hpp
          go_wp2_with fail
          refine HT.out.mono ?_
          rintro y w13 ⟨rfl, hR13, hO13⟩
          have HK13 := hid (HK12.out.go hO13 hR13)
          clear HK12 hR13 hO13 HT p0 p1 p2 p3 p4 p5 p6 f0 f1 f2 f3 f4 f5 f6
          obtain ⟨⟨p0, p1, p2, p3, p4, p5, p6⟩, f0, f1, f2, f3, f4, f5, f6⟩ := seven_cells HK13.out.m
          go_upto_region 14 with (fail)
          refine at_world (fun w => QRt W w W.heap.size B M lp ep k f t i p 0 ⟨#[]⟩) (HK13.out.m4 _) ?_
          clear HK13 p0 p1 p2 p3 p4 p5 p6 f0 f1 f2 f3 f4 f5 f6
          rintro w14 K14
          obtain ⟨⟨p0, p1, p2, p3, p4, p5, p6⟩, f0, f1, f2, f3, f4, f5, f6⟩ := seven_cells K14.m
          have HT := hid (least_any B true 72057594037927935 lp ep w14 K14.b (by have := hlens.out; omega))
          rw [← hps.out] at HT
          simp only at HT
          have HK14 := hid K14
          clear K14 hps
          go_wp2_with fail
          refine HT.out.mono ?_
          rintro y w15 ⟨rfl, hR15, hO15⟩
          have HK15 := hid (HK14.out.go hO15 hR15)
          clear HK14 hR15 hO15 HT p0 p1 p2 p3 p4 p5 p6 f0 f1 f2 f3 f4 f5 f6
          obtain ⟨⟨p0, p1, p2, p3, p4, p5, p6⟩, f0, f1, f2, f3, f4, f5, f6⟩ := seven_cells HK15.out.m
          go_upto_region 15 with (fail)
          refine at_world (fun w => QRt W w W.heap.size B M ls es k f t i p q ⟨#[]⟩) (HK15.out.m5 _) ?_
          clear HK15 p0 p1 p2 p3 p4 p5 p6 f0 f1 f2 f3 f4 f5 f6 hi0 hi3 hi4 hj0 hj3 hj4
          rintro w16 K16
          obtain ⟨⟨p0, p1, p2, p3, p4, p5, p6⟩, f0, f1, f2, f3, f4, f5, f6⟩ := seven_cells K16.m
          have HK16 := hid K16
          have he1 := HE1.out
          have he4 := HE4.out
          clear K16 HE1 HE4
          have hz := hpb.out
          simp only [takeT, Bool.false_eq_true, if_false, Prod.mk.injEq] at hz
          obtain ⟨hz1, hz2, hz3⟩ := hz
          have HZ3 := hid (And.intro hz1 (And.intro hz2 hz3))
          clear hpb hz1 hz2 hz3
          go_upto_region 19 with (fail)
          refine at_world (fun w => QRt W w W.heap.size B M lb eb k f t i p q (str bt)) (by rw [HZ3.out.1, HZ3.out.2.1, HZ3.out.2.2]; exact HK16.out) ?_
          clear HK16 p0 p1 p2 p3 p4 p5 p6 f0 f1 f2 f3 f4 f5 f6 he1 he4 HZ3
        case' inr.inr.inr.inl =>
          have hb1 : hpP k = true := by rw [hk]; rfl
          have hb2 : hpS k = false := by rw [hk]; rfl
          have hb3 : hpB k = false := by rw [hk]; rfl
          have hi0 : decide ((0 : Int) < (k : Int)) = true := by simp; omega
          have hj0 : (0 : Int) < (k : Int) := by omega
          have hi4 : decide ((k : Int) < 4) = true := by simp; omega
          have hi3 : decide ((k : Int) < 3) = false := by simp; omega
          have hj4 : (k : Int) < 4 := by omega
          have hj3 : (3 : Int) ≤ (k : Int) := by omega
          have HE1 : Hid (((k : Int) == 1) = false) := hid (by rw [hk]; rfl)
          have HE4 : Hid (((k : Int) == 4) = false) := hid (by rw [hk]; rfl)
          rw [hb1] at hpp
          rw [hb2] at hps
          rw [hb3] at hpb
          clear hb1 hb2 hb3 hk
          have HT := hid (least_any B true 72057594037927935 li ei w12 HK12.out.b (by have := hlens.out; omega))
          rw [← hpp.out] at HT
          simp only at HT
          clear hpp
          go_wp2_with fail
          refine HT.out.mono ?_
          rintro y w13 ⟨rfl, hR13, hO13⟩
          have HK13 := hid (HK12.out.go hO13 hR13)
          clear HK12 hR13 hO13 HT p0 p1 p2 p3 p4 p5 p6 f0 f1 f2 f3 f4 f5 f6
          obtain ⟨⟨p0, p1, p2, p3, p4, p5, p6⟩, f0, f1, f2, f3, f4, f5, f6⟩ := seven_cells HK13.out.m
          go_upto_region 14 with (fail)
          refine at_world (fun w => QRt W w W.heap.size B M lp ep k f t i p 0 ⟨#[]⟩) (HK13.out.m4 _) ?_
          clear HK13 p0 p1 p2 p3 p4 p5 p6 f0 f1 f2 f3 f4 f5 f6
          rintro w14 K14
          obtain ⟨⟨p0, p1, p2, p3, p4, p5, p6⟩, f0, f1, f2, f3, f4, f5, f6⟩ := seven_cells K14.m
          have HT := hid (least_any B false 72057594037927935 lp ep w14 K14.b (by have := hlens.out; omega))
          rw [← hps.out] at HT
          simp only at HT
          have HK14 := hid K14
          clear K14 hps
          go_wp2_with fail
          refine HT.out.mono ?_
          rintro y w15 ⟨rfl, hR15, hO15⟩
          have HK15 := hid (HK14.out.go hO15 hR15)
          clear HK14 hR15 hO15 HT p0 p1 p2 p3 p4 p5 p6 f0 f1 f2 f3 f4 f5 f6
          obtain ⟨⟨p0, p1, p2, p3, p4, p5, p6⟩, f0, f1, f2, f3, f4, f5, f6⟩ := seven_cells HK15.out.m
          go_upto_region 15 with (fail)
          refine at_world (fun w => QRt W w W.heap.size B M ls es k f t i p q ⟨#[]⟩) (HK15.out.m5 _) ?_
          clear HK15 p0 p1 p2 p3 p4 p5 p6 f0 f1 f2 f3 f4 f5 f6 hi0 hi3 hi4 hj0 hj3 hj4
          rintro w16 K16
          obtain ⟨⟨p0, p1, p2, p3, p4, p5, p6⟩, f0, f1, f2, f3, f4, f5, f6⟩ := seven_cells K16.m
          have HK16 := hid K16
          have he1 := HE1.out
          have he4 := HE4.out
          clear K16 HE1 HE4
          have hz := hpb.out
          simp only [takeT, Bool.false_eq_true, if_false, Prod.mk.injEq] at hz
          obtain ⟨hz1, hz2, hz3⟩ := hz
          have HZ3 := hid (And.intro hz1 (And.intro hz2 hz3))
          clear hpb hz1 hz2 hz3
          go_upto_region 19 with (fail)
          refine at_world (fun w => QRt W w W.heap.size B M lb eb k f t i p q (str bt)) (by rw [HZ3.out.1, HZ3.out.2.1, HZ3.out.2.2]; exact HK16.out) ?_
          clear HK16 p0 p1 p2 p3 p4 p5 p6 f0 f1 f2 f3 f4 f5 f6 he1 he4 HZ3
        case' inr.inr.inr.inr =>
          have hb1 : hpP k = false := by rw [hk]; rfl
          have hb2 : hpS k = false := by rw [hk]; rfl
          have hb3 : hpB k = true := by rw [hk]; rfl
          have hi0 : decide ((0 : Int) < (k : Int)) = true := by simp; omega
          have hj0 : (0 : Int) < (k : Int) := by omega
          have hi4 : decide ((k : Int) < 4) = false := by simp; omega
          have hi3 : decide ((k : Int) < 3) = false := by simp; omega
          have hj4 : (4 : Int) ≤ (k : Int) := by omega
          have hj3 : (3 : Int) ≤ (k : Int) := by omega
          have HE1 : Hid (((k : Int) == 1) = false) := hid (by rw [hk]; rfl)
          have HE4 : Hid (((k : Int) == 4) = true) := hid (by rw [hk]; rfl)
          rw [hb1] at hpp
          rw [hb2] at hps
          rw [hb3] at hpb
          clear hb1 hb2 hb3 hk
          have HT := hid (least_any B false 72057594037927935 li ei w12 HK12.out.b (by have := hlens.out; omega))
          rw [← hpp.out] at HT
          simp only at HT
          clear hpp
          go_wp2_with fail
          refine HT.out.mono ?_
          rintro y w13 ⟨rfl, hR13, hO13⟩
          have HK13 := hid (HK12.out.go hO13 hR13)
          clear HK12 hR13 hO13 HT p0 p1 p2 p3 p4 p5 p6 f0 f1 f2 f3 f4 f5 f6
          obtain ⟨⟨p0, p1, p2, p3, p4, p5, p6⟩, f0, f1, f2, f3, f4, f5, f6⟩ := seven_cells HK13.out.m
          go_upto_region 14 with (fail)
          refine at_world (fun w => QRt W w W.heap.size B M lp ep k f t i p 0 ⟨#[]⟩) (HK13.out.m4 _) ?_
          clear HK13 p0 p1 p2 p3 p4 p5 p6 f0 f1 f2 f3 f4 f5 f6
          rintro w14 K14
          obtain ⟨⟨p0, p1, p2, p3, p4, p5, p6⟩, f0, f1, f2, f3, f4, f5, f6⟩ := seven_cells K14.m
          have HT := hid (least_any B false 72057594037927935 lp ep w14 K14.b (by have := hlens.out; omega))
          rw [← hps.out] at HT
          simp only at HT
          have HK14 := hid K14
          clear K14 hps
          go_wp2_with fail
          refine HT.out.mono ?_
          rintro y w15 ⟨rfl, hR15, hO15⟩
          have HK15 := hid (HK14.out.go hO15 hR15)
          clear HK14 hR15 hO15 HT p0 p1 p2 p3 p4 p5 p6 f0 f1 f2 f3 f4 f5 f6
          obtain ⟨⟨p0, p1, p2, p3, p4, p5, p6⟩, f0, f1, f2, f3, f4, f5, f6⟩ := seven_cells HK15.out.m
          go_upto_region 15 with (fail)
          refine at_world (fun w => QRt W w W.heap.size B M ls es k f t i p q ⟨#[]⟩) (HK15.out.m5 _) ?_
          clear HK15 p0 p1 p2 p3 p4 p5 p6 f0 f1 f2 f3 f4 f5 f6 hi0 hi3 hi4 hj0 hj3 hj4
          rintro w16 K16
          obtain ⟨⟨p0, p1, p2, p3, p4, p5, p6⟩, f0, f1, f2, f3, f4, f5, f6⟩ := seven_cells K16.m
          have HK16 := hid K16
          have he1 := HE1.out
          have he4 := HE4.out
          clear K16 HE1 HE4
          have HT := hid (rrText_any B ls es 32 w16 HK16.out.b (by have := hlens.out; omega))
          have hz : (bt, lb, eb) = if (rdText 32 ls es).1.length = 0 then ((rdText 32 ls es).1, (rdText 32 ls es).2.1, rdFail 3 (rdText 32 ls es).2.2) else rdText 32 ls es := hpb.out
          generalize rdText 32 ls es = tx at *
          obtain ⟨tb, tl, te⟩ := tx
          simp only at HT hz
          have HZB := hid hz
          clear hz hpb
          go_wp2_with fail
          refine HT.out.mono ?_
          rintro y w17 ⟨rfl, hR17, hO17⟩
          have HK17 := hid (HK16.out.go hO17 hR17)
          clear HK16 hR17 hO17 HT p0 p1 p2 p3 p4 p5 p6 f0 f1 f2 f3 f4 f5 f6 he1 he4
          obtain ⟨⟨p0, p1, p2, p3, p4, p5, p6⟩, f0, f1, f2, f3, f4, f5, f6⟩ := seven_cells HK17.out.m
          go_upto_region 17 with (fail)
          refine at_world (fun w => QRt W w W.heap.size B M tl te k f t i p q (str tb)) (HK17.out.m6 _) ?_
          clear HK17 p0 p1 p2 p3 p4 p5 p6 f0 f1 f2 f3 f4 f5 f6
          rintro w18 K18
          obtain ⟨⟨p0, p1, p2, p3, p4, p5, p6⟩, f0, f1, f2, f3, f4, f5, f6⟩ := seven_cells K18.m
          have HK18 := hid K18
          clear K18
          have hts : (str tb).size = tb.length := str_size tb
          rcases Classical.em (tb.length = 0) with htb | htb
          case' inl =>
            rw [if_pos htb] at HZB
            have hte : (((str tb).size : Int) == 0) = true := by rw [hts, htb]; rfl
            have HF := hid (rrFail_any B tl te 3 w18 HK18.out.b)
            have HBT : Hid (bt = tb ∧ lb = tl ∧ eb = rdFail 3 te) := hid (by have := HZB.out; simpa using this)
            rw [← HBT.out.2.2, ← HBT.out.2.1] at HF
            clear hts htb
            go_wp2_with fail
            refine HF.out.mono ?_
            rintro y w19 ⟨⟨v, rfl⟩, hR19, hO19⟩
            have HK19 := hid (HK18.out.go hO19 hR19)
            clear HK18 hR19 hO19 HF p0 p1 p2 p3 p4 p5 p6 f0 f1 f2 f3 f4 f5 f6 hte HZB
            go_upto_region 19 with (fail)
            refine at_world (fun w => QRt W w W.heap.size B M lb eb k f t i p q (str bt)) (by rw [HBT.out.1]; exact HK19.out) ?_
            clear HK19 HBT
          case' inr =>
            rw [if_neg htb] at HZB
            have hte : (((str tb).size : Int) == 0) = false := by rw [hts, beq_eq_false_iff_ne]; omega
            have HBT : Hid (bt = tb ∧ lb = tl ∧ eb = te) := hid (by have := HZB.out; simpa using this)
            clear HZB p0 p1 p2 p3 p4 p5 f0 f1 f2 f3 f4 f5 f6 htb hts
            go_upto_region 19 with (fail)
            refine at_world (fun w => QRt W w W.heap.size B M lb eb k f t i p q (str bt)) (by rw [HBT.out.1, HBT.out.2.1, HBT.out.2.2]; exact HK18.out) ?_
            clear HK18 HBT p6 hte
      all_goals
        rintro w20 K20
        have HED := hid (rrEnd_any B lb eb w20 K20.b)
        rw [← hpz.out] at HED
        obtain ⟨⟨p0, p1, p2, p3, p4, p5, p6⟩, f0, f1, f2, f3, f4, f5, f6⟩ := seven_cells K20.m
        obtain ⟨⟨q0, q1, q2, q3, q4, q5, q6⟩, g0, g1, g2, g3, g4, g5, g6⟩ := seven_cells K20.r
        have HK20 := hid K20
        clear K20
        by_cases he : vz = 0
        · have he2 : oe = 0 := by rw [HE.out, he]
          rw [if_pos he2] at HV
          have HVV := hid HV.out
          subst he
          have HOE := hid he2
          clear HV HE he2
          go_wp2_with (go_at_call 41; refine HED.out.mono ?_; rintro x w' ⟨rfl, rfl⟩)
          obtain ⟨⟨r0, r1, r2, r3, r4, r5, r6⟩, _⟩ := seven_cells (set_seven HK20.out.r (.int .i64 (k : Nat)) (.int .i64 (f : Nat)) (.int .i64 (t : Nat)) (.int .i64 (i : Nat)) (.int .i64 (p : Nat)) (.int .i64 (q : Nat)) (.string (str bt)))
          have hbe := below_set7 HK20.out.bel (Nat.le_refl _) (.int .i64 (k : Nat)) (.int .i64 (f : Nat)) (.int .i64 (t : Nat)) (.int .i64 (i : Nat)) (.int .i64 (p : Nat)) (.int .i64 (q : Nat)) (.string (str bt))
          unfold set7 at r0 r1 r2 r3 r4 r5 r6 hbe
          rw [HVV.out, HOE.out]
          refine bodyPost_ret (v := .tuple #[pkV k f t i p q (str bt), .int .i64 0]) (by simp [results, Try.results33, go_sem, r0, r1, r2, r3, r4, r5, r6, pkV]) rfl ⟨rfl, hbe⟩
        · have he2 : oe = vz := HE.out
          rw [if_neg (by rw [he2]; exact he)] at HV
          have hne : (vz != 0) = true := by simp [he]
          have HVV := hid HV.out
          have HOE := hid he2
          clear HV HE he2 he
          go_wp2_with (go_at_call 41; refine HED.out.mono ?_; rintro x w' ⟨rfl, rfl⟩)
          obtain ⟨⟨r0, r1, r2, r3, r4, r5, r6⟩, _⟩ := seven_cells (set_seven HK20.out.r (.int .i64 0) (.int .i64 0) (.int .i64 0) (.int .i64 0) (.int .i64 0) (.int .i64 0) (.string ⟨#[]⟩))
          have hbe := below_set7 HK20.out.bel (Nat.le_refl _) (.int .i64 0) (.int .i64 0) (.int .i64 0) (.int .i64 0) (.int .i64 0) (.int .i64 0) (.string ⟨#[]⟩)
          unfold set7 at r0 r1 r2 r3 r4 r5 r6 hbe
          rw [HVV.out, HOE.out]
          refine bodyPost_ret (v := .tuple #[pkV 0 0 0 0 0 0 ⟨#[]⟩, .int .i64 vz]) (by simp [results, Try.results33, go_sem, r0, r1, r2, r3, r4, r5, r6, pkV]) rfl ⟨rfl, hbe⟩
  · have hne : ((ce : Int) != 0) = true := by simp [hce]
    rw [if_neg hce] at HE
    have HV3 := hid (FIN0.out w3 ce HE.out (by omega) HR3.out)
    obtain rfl := HE.out
    clear HE hce HCL FIN0
    go_wp2_with fail
    obtain ⟨⟨r0, r1, r2, r3, r4, r5, r6⟩, _⟩ := seven_cells (set_seven HR3.out (.int .i64 0) (.int .i64 0) (.int .i64 0) (.int .i64 0) (.int .i64 0) (.int .i64 0) (.string ⟨#[]⟩))
    have hbe := below_set7 HB3.out (Nat.le_refl _) (.int .i64 0) (.int .i64 0) (.int .i64 0) (.int .i64 0) (.int .i64 0) (.int .i64 0) (.string ⟨#[]⟩)
    unfold set7 at r0 r1 r2 r3 r4 r5 r6 hbe
    rw [HV3.out]
    refine bodyPost_ret (v := .tuple #[pkV 0 0 0 0 0 0 ⟨#[]⟩, .int .i64 ce]) (by simp [results, Try.results33, go_sem, r0, r1, r2, r3, r4, r5, r6, pkV]) rfl ⟨rfl, hbe⟩
end Go.Proofs.Ytdjcfeglaiihgaa
