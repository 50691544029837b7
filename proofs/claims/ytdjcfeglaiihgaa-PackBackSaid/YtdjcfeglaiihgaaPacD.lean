/- pack.Open, as a contract. -/
import Derived.Test.YtdjcfeglaiihgaaPacC
namespace Go.Proofs.Ytdjcfeglaiihgaa
open Go.RowKit
set_option linter.unusedVariables false
set_option linter.unusedSimpArgs false

set_option maxRecDepth 20000 in
set_option maxHeartbeats 4000000 in
theorem open_any (s : ByteArray) (hs : s.size ≤ 1000) (W : World) :
    Calls Try.prog 32 #[.string s] W fun x w' => x = .returned (.tuple #[opV s.data.toList, .int .i64 (opE s.data.toList)]) ∧ Below W.heap.size W w' := by
  have HV : Hid (opV s.data.toList = if opE s.data.toList = 0 then pkV (qk (cutS s.data.toList).1).1 (qf (cutS s.data.toList).1).1 (qt (cutS s.data.toList).1).1 (qi (cutS s.data.toList).1).1 (qp (cutS s.data.toList).1).1 (qs (cutS s.data.toList).1).1 (str (qb (cutS s.data.toList).1).1) else pkV 0 0 0 0 0 0 ⟨#[]⟩) := hid rfl
  have HE : Hid (opE s.data.toList = if (cutS s.data.toList).2.2 = 0 then (if (cutS s.data.toList).2.1 < s.data.toList.length then 3 else qz (cutS s.data.toList).1) else (((cutS s.data.toList).2.2 : Nat) : Int)) := hid rfl
  have hl : s.data.toList.length = s.size := by rw [Array.length_toList]; rfl
  rw [hl] at HE
  have hcl : (cutS s.data.toList).2.2 = 0 → (cutS s.data.toList).1.length ≤ 4096 := fun h => (cut_ok _ h).1
  have HCUT := hid (fun A c w (h : IsBytes w A s.size c s.data.toList) => cut_any A s.size c s.data.toList w h (by omega))
  generalize opV s.data.toList = ov at *
  generalize opE s.data.toList = oe at *
  generalize cutS s.data.toList = cv at *
  obtain ⟨x, n, ce⟩ := cv
  simp only at HV HE hcl HCUT
  have HCL := hid hcl
  clear hcl
  go_enter Try.func32, Try.ntmps32
  go_upto_region 1 with (fail)
  refine at_world (fun w => Pc 58 w W.heap.size 0 0 0 0 0 0 ⟨#[]⟩ ∧ Below W.heap.size W w) ⟨heap_alloc_new _ _, (Below.refl _ _).alloc (Nat.le_refl _) _⟩ ?_
  rintro w1 ⟨hR1, hB1⟩
  obtain ⟨w2, A, c, hcv, hby, hb2⟩ := bytes_of w1 s (by omega)
  have HC := hid (HCUT.out A c w2 hby)
  have HR2 := hid (show Pc 58 w2 W.heap.size 0 0 0 0 0 0 ⟨#[]⟩ from keep0 hR1 hb2)
  have HB2 := hid (hB1.trans (hb2.mono hB1.size))
  clear hR1 hB1 hby hb2 HCUT
  go_wp2_with fail
  refine HC.out.mono ?_
  rintro y w3 ⟨rfl, hb3⟩
  have HR3 := hid (show Pc 58 w3 W.heap.size 0 0 0 0 0 0 ⟨#[]⟩ from keep0 HR2.out hb3)
  have HB3 := hid (HB2.out.trans (hb3.mono HB2.out.size))
  clear hb3 HR2 HB2 HC hcv
  obtain ⟨⟨p0, p1, p2, p3, p4, p5, p6⟩, f0, f1, f2, f3, f4, f5, f6⟩ := seven_cells HR3.out
  have fin0 : ∀ (w : World) (v : Int), oe = v → v ≠ 0 → Pc 58 w W.heap.size 0 0 0 0 0 0 ⟨#[]⟩ → ov = pkV 0 0 0 0 0 0 ⟨#[]⟩ := fun w v h1 h2 _ => by
    rw [HV.out, if_neg (by omega)]
  have FIN0 := hid fin0
  clear fin0
  by_cases hce : ce = 0
  · subst hce
    rw [if_pos rfl] at HE
    have HXL := hid (HCL.out rfl)
    clear HCL
    by_cases hn : n < s.size
    · have hn1 : (n : Int) < (s.size : Int) := by omega
      rw [if_pos hn] at HE
      clear hn
      have HV3 := hid (FIN0.out w3 3 HE.out (by decide) HR3.out)
      obtain rfl := HE.out
      clear HE
      go_wp2_with fail
      obtain ⟨⟨r0, r1, r2, r3, r4, r5, r6⟩, _⟩ := seven_cells (set_seven HR3.out (.int .i64 0) (.int .i64 0) (.int .i64 0) (.int .i64 0) (.int .i64 0) (.int .i64 0) (.string ⟨#[]⟩))
      have hbe := below_set7 HB3.out (Nat.le_refl _) (.int .i64 0) (.int .i64 0) (.int .i64 0) (.int .i64 0) (.int .i64 0) (.int .i64 0) (.string ⟨#[]⟩)
      unfold set7 at r0 r1 r2 r3 r4 r5 r6 hbe
      rw [HV3.out]
      refine bodyPost_ret (v := .tuple #[pkV 0 0 0 0 0 0 ⟨#[]⟩, .int .i64 3]) (by simp [results, Try.results32, go_sem, r0, r1, r2, r3, r4, r5, r6, pkV]) rfl ⟨rfl, hbe⟩
    · have hn1 : (s.size : Int) ≤ (n : Int) := by omega
      have hn2 : decide ((n : Int) < (s.size : Int)) = false := decide_eq_false (by omega)
      rw [if_neg hn] at HE
      clear hn FIN0 p0 p1 p2 p3 p4 p5 p6 f0 f1 f2 f3 f4 f5 f6
      have hxs : (str x).size = x.length := str_size x
      obtain ⟨w4, A4, c4, hcv, hby, hb4⟩ := bytes_of w3 (str x) (by rw [hxs]; have := HXL.out; omega)
      have hxd : (str x).data.toList = x := by simp [str]
      rw [hxd, hxs] at hby
      rw [hxs] at hcv
      have HN := hid (new_any A4 x.length c4 x w4 hby (by have := HXL.out; omega))
      have HR4 := hid (show Pc 58 w4 W.heap.size 0 0 0 0 0 0 ⟨#[]⟩ from keep0 HR3.out hb4)
      have HB4 := hid (HB3.out.trans (hb4.mono HB3.out.size))
      clear HR3 HB3 hby hb4 hxs hxd
      generalize str x = sx at hcv
      have hk0 := takeS_max true 1 4 x 0
      have hpk : Hid (qk x = takeS true 1 4 x 0) := hid rfl
      have hpf : Hid (qf x = rdNum 71 (qk x).2.1 (qk x).2.2) := hid rfl
      have hpt : Hid (qt x = rdNum 71 (qf x).2.1 (qf x).2.2) := hid rfl
      have hpe : Hid (qe x = if (qf x).1 = (qt x).1 then rdFail 3 (qt x).2.2 else (qt x).2.2) := hid rfl
      have hpi : Hid (qi x = takeS true 1 72057594037927935 (qt x).2.1 (qe x)) := hid rfl
      have hpp : Hid (qp x = takeS (hpP (qk x).1) 1 72057594037927935 (qi x).2.1 (qi x).2.2) := hid rfl
      have hps : Hid (qs x = takeS (hpS (qk x).1) 1 72057594037927935 (qp x).2.1 (qp x).2.2) := hid rfl
      have hpb : Hid (qb x = takeT (hpB (qk x).1) (qs x).2.1 (qs x).2.2) := hid rfl
      have hpz : Hid (qz x = rdEnd (qb x).2.1 (qb x).2.2) := hid rfl
      rw [← hpk.out] at hk0
      have hk : (qk x).1 ≤ 4 := by omega
      clear hk0
      generalize qz x = vz at *
      generalize qb x = vb at *
      generalize qs x = vs at *
      generalize qp x = vp at *
      generalize qi x = vi at *
      generalize qe x = ve at *
      generalize qt x = vt at *
      generalize qf x = vf at *
      generalize qk x = vk at *
      obtain ⟨k, lk, ek⟩ := vk
      obtain ⟨f, lf, ef⟩ := vf
      obtain ⟨t, lt, et⟩ := vt
      obtain ⟨i, li, ei⟩ := vi
      obtain ⟨p, lp, ep⟩ := vp
      obtain ⟨q, ls, es⟩ := vs
      obtain ⟨bt, lb, eb⟩ := vb
      simp only at *
      have HHP := hid (hasPeer_any k hk)
      have HHS := hid (hasSeq_any k hk)
      have HHB := hid (hasBody_any k hk)
      clear hk
      generalize hpP k = hp at *
      generalize hpS k = hsq at *
      generalize hpB k = hbo at *
      go_wp2_with fail
      refine HN.out.mono ?_
      rintro y w5 ⟨B, rfl, hB, hR5, hb5⟩
      have HK5 : Hid (Pc 58 w5 W.heap.size 0 0 0 0 0 0 ⟨#[]⟩ ∧ Below W.heap.size W w5 ∧ W.heap.size < B) := hid ⟨keep0 HR4.out hb5, HB4.out.trans (hb5.mono HB4.out.size), Nat.lt_of_lt_of_le (lt_of_block HR4.out) hB⟩
      have HT := hid (from_any B 1 4 x 0 w5 hR5)
      rw [← hpk.out] at HT
      simp only at HT
      clear hb5 hR5 HN HR4 HB4 hcv hpk hB
      go_wp2_with fail
      refine HT.out.mono ?_
      rintro y w6 ⟨rfl, hR6, hO6⟩
      have HT := hid (rdNum_any B lk ek 71 w6 hR6)
      rw [← hpf.out] at HT
      simp only at HT
      have HO6 := hid hO6
      clear hR6 hO6 hpf
      go_wp2_with fail
      refine HT.out.mono ?_
      rintro y w7 ⟨rfl, hR7, hO7⟩
      have HT := hid (rdNum_any B lf ef 71 w7 hR7)
      rw [← hpt.out] at HT
      simp only at HT
      have HO7 := hid (HO6.out.trans hO7)
      clear hR7 hO7 hpt HO6
      go_wp2_with fail
      refine HT.out.mono ?_
      rintro y w8 ⟨rfl, hR8, hO8⟩
      have hO := HO7.out.trans hO8
      clear HO7 HT hO8
      have K8 : QSt W (w8.alloc (.cells #[.int .i64 k, .int .i64 f, .int .i64 t, .int .i64 0, .int .i64 0, .int .i64 0, .string ⟨#[]⟩] 58)) W.heap.size B w8.heap.size lt et k f t 0 0 0 ⟨#[]⟩ := by
        have h1 := hO.block HK5.out.1 (by have := HK5.out.2.2; omega)
        have h2 := HK5.out.2.1.trans (hO.below W.heap.size (Nat.le_of_lt HK5.out.2.2) HK5.out.2.1.size)
        have h3 : B < w8.heap.size := by obtain ⟨_, _, h, _⟩ := hR8; exact lt_of_block h
        refine ⟨(Below.heap_alloc _ _ _ (lt_of_block h1)).trans h1, hR8.below ((Below.refl _ _).alloc (Nat.le_refl _) _), heap_alloc_new _ _, h2.alloc h2.size _, Nat.le_refl _, Nat.le_of_lt HK5.out.2.2, h2.size, ?_, ?_, ?_⟩
        · have := HK5.out.2.2; omega
        · omega
        · have := lt_of_block h1; omega
      have HK8 := hid K8
      clear hR8 hO HK5 K8
      go_upto_region 8 with (fail)
      have K8' := HK8.out
      clear HK8
      generalize w8.heap.size = M at K8' ⊢
      refine at_world (fun w => QSt W w W.heap.size B M lt et k f t 0 0 0 ⟨#[]⟩) K8' ?_
      clear K8'
      rintro w9 K9
      obtain ⟨⟨p0, p1, p2, p3, p4, p5, p6⟩, f0, f1, f2, f3, f4, f5, f6⟩ := seven_cells K9.m
      have HK9 := hid K9
      clear K9
      rcases Classical.em (f = t) with hft | hft
      case' inl =>
        have hd : ((f : Int) == (t : Int)) = true := by simp [hft]
        rw [if_pos hft] at hpe
        have HF := hid (rdFail_any B lt et 3 w9 HK9.out.b)
        rw [← hpe.out] at HF
        clear hpe hft
        go_wp2_with fail
        refine HF.out.mono ?_
        rintro y w10 ⟨⟨v, rfl⟩, hR10, hO10⟩
        have HK10 := hid (HK9.out.go hO10 hR10)
        clear HK9 hR10 hO10 HF p0 p1 p2 p3 p4 p5 p6 f0 f1 f2 f3 f4 f5 f6 hd
        go_upto_region 10 with (fail)
        refine at_world (fun w => QSt W w W.heap.size B M lt ve k f t 0 0 0 ⟨#[]⟩) HK10.out ?_
        clear HK10
      case' inr =>
        have hd : ((f : Int) == (t : Int)) = false := by rw [beq_eq_false_iff_ne]; omega
        rw [if_neg hft] at hpe
        obtain rfl := hpe.out
        clear hft hpe
        go_upto_region 10 with (fail)
        refine at_world (fun w => QSt W w W.heap.size B M lt ve k f t 0 0 0 ⟨#[]⟩) HK9.out ?_
        clear HK9 p0 p1 p2 p3 p4 p5 p6 f0 f1 f2 f3 f4 f5 f6 hd
      all_goals
        rintro w10 K10
        have HT := hid (from_any B 1 72057594037927935 lt ve w10 K10.b)
        rw [← hpi.out] at HT
        simp only at HT
        have HK10 := hid K10
        clear K10 hpi
        go_wp2_with fail
        refine HT.out.mono ?_
        rintro y w11 ⟨rfl, hR11, hO11⟩
        have HK11 := hid (HK10.out.go hO11 hR11)
        clear HK10 hR11 hO11 HT
        obtain ⟨⟨p0, p1, p2, p3, p4, p5, p6⟩, f0, f1, f2, f3, f4, f5, f6⟩ := seven_cells HK11.out.m
        go_upto_region 11 with (fail)
        refine at_world (fun w => QSt W w W.heap.size B M li ei k f t i 0 0 ⟨#[]⟩) (HK11.out.m3 _) ?_
        clear HK11 p0 p1 p2 p3 p4 p5 p6 f0 f1 f2 f3 f4 f5 f6
        rintro w12 K12
        obtain ⟨⟨p0, p1, p2, p3, p4, p5, p6⟩, f0, f1, f2, f3, f4, f5, f6⟩ := seven_cells K12.m
        have HK12 := hid K12
        clear K12
        cases hp
        case' true =>
          have HT := hid (from_any B 1 72057594037927935 li ei w12 HK12.out.b)
          rw [← hpp.out] at HT
          simp only at HT
          clear hpp
          go_wp2_with (go_at_call 59; refine (HHP.out _).mono ?_; rintro y w' ⟨rfl, rfl⟩)
          refine HT.out.mono ?_
          rintro y w13 ⟨rfl, hR13, hO13⟩
          have HK13 := hid (HK12.out.go hO13 hR13)
          clear HK12 hR13 hO13 HT p0 p1 p2 p3 p4 p5 p6 f0 f1 f2 f3 f4 f5 f6
          obtain ⟨⟨p0, p1, p2, p3, p4, p5, p6⟩, f0, f1, f2, f3, f4, f5, f6⟩ := seven_cells HK13.out.m
          go_upto_region 13 with (fail)
          refine at_world (fun w => QSt W w W.heap.size B M lp ep k f t i p 0 ⟨#[]⟩) (HK13.out.m4 _) ?_
          clear HK13 p0 p1 p2 p3 p4 p5 p6 f0 f1 f2 f3 f4 f5 f6
        case' false =>
          have hz := hpp.out
          simp only [takeS, Bool.false_eq_true, if_false, Prod.mk.injEq] at hz
          obtain ⟨hz1, rfl, rfl⟩ := hz
          have HZ := hid (show (p : Int) = 0 by omega)
          clear hpp hz1
          go_upto_region 13 with (go_at_call 59; refine (HHP.out _).mono ?_; rintro y w' ⟨rfl, rfl⟩)
          refine at_world (fun w => QSt W w W.heap.size B M lp ep k f t i p 0 ⟨#[]⟩) (by rw [HZ.out]; exact HK12.out) ?_
          clear HK12 p0 p1 p2 p3 p4 p5 p6 f0 f1 f2 f3 f4 f5 f6
      all_goals
        rintro w14 K14
        obtain ⟨⟨p0, p1, p2, p3, p4, p5, p6⟩, f0, f1, f2, f3, f4, f5, f6⟩ := seven_cells K14.m
        have HK14 := hid K14
        clear K14
        cases hsq
        case' true =>
          have HT := hid (from_any B 1 72057594037927935 lp ep w14 HK14.out.b)
          rw [← hps.out] at HT
          simp only at HT
          clear hps
          go_wp2_with (go_at_call 60; refine (HHS.out _).mono ?_; rintro y w' ⟨rfl, rfl⟩)
          refine HT.out.mono ?_
          rintro y w15 ⟨rfl, hR15, hO15⟩
          have HK15 := hid (HK14.out.go hO15 hR15)
          clear HK14 hR15 hO15 HT p0 p1 p2 p3 p4 p5 p6 f0 f1 f2 f3 f4 f5 f6
          obtain ⟨⟨p0, p1, p2, p3, p4, p5, p6⟩, f0, f1, f2, f3, f4, f5, f6⟩ := seven_cells HK15.out.m
          go_upto_region 15 with (fail)
          refine at_world (fun w => QSt W w W.heap.size B M ls es k f t i p q ⟨#[]⟩) (HK15.out.m5 _) ?_
          clear HK15 p0 p1 p2 p3 p4 p5 p6 f0 f1 f2 f3 f4 f5 f6
        case' false =>
          have hz := hps.out
          simp only [takeS, Bool.false_eq_true, if_false, Prod.mk.injEq] at hz
          obtain ⟨hz1, rfl, rfl⟩ := hz
          have HZ2 := hid (show (q : Int) = 0 by omega)
          clear hps hz1
          go_upto_region 15 with (go_at_call 60; refine (HHS.out _).mono ?_; rintro y w' ⟨rfl, rfl⟩)
          refine at_world (fun w => QSt W w W.heap.size B M ls es k f t i p q ⟨#[]⟩) (by rw [HZ2.out]; exact HK14.out) ?_
          clear HK14 p0 p1 p2 p3 p4 p5 p6 f0 f1 f2 f3 f4 f5 f6
      all_goals
        rintro w16 K16
        obtain ⟨⟨p0, p1, p2, p3, p4, p5, p6⟩, f0, f1, f2, f3, f4, f5, f6⟩ := seven_cells K16.m
        have HK16 := hid K16
        clear K16
        cases hbo
        case' true =>
          have HT := hid (rdText_any B ls es 32 w16 HK16.out.b)
          have hz : (bt, lb, eb) = if (rdText 32 ls es).1.length = 0 then ((rdText 32 ls es).1, (rdText 32 ls es).2.1, rdFail 3 (rdText 32 ls es).2.2) else rdText 32 ls es := hpb.out
          generalize rdText 32 ls es = tx at *
          obtain ⟨tb, tl, te⟩ := tx
          simp only at HT hz
          have HZB := hid hz
          clear hz hpb
          go_wp2_with (go_at_call 61; refine (HHB.out _).mono ?_; rintro y w' ⟨rfl, rfl⟩)
          refine HT.out.mono ?_
          rintro y w17 ⟨rfl, hR17, hO17⟩
          have HK17 := hid (HK16.out.go hO17 hR17)
          clear HK16 hR17 hO17 HT p0 p1 p2 p3 p4 p5 p6 f0 f1 f2 f3 f4 f5 f6
          obtain ⟨⟨p0, p1, p2, p3, p4, p5, p6⟩, f0, f1, f2, f3, f4, f5, f6⟩ := seven_cells HK17.out.m
          go_upto_region 17 with (fail)
          refine at_world (fun w => QSt W w W.heap.size B M tl te k f t i p q (str tb)) (HK17.out.m6 _) ?_
          clear HK17 p0 p1 p2 p3 p4 p5 p6 f0 f1 f2 f3 f4 f5 f6
          rintro w18 K18
          obtain ⟨⟨p0, p1, p2, p3, p4, p5, p6⟩, f0, f1, f2, f3, f4, f5, f6⟩ := seven_cells K18.m
          have HK18 := hid K18
          clear K18
          rcases Classical.em (tb.length = 0) with htb | htb
          case' inl =>
            rw [if_pos htb] at HZB
            have hte : (str tb).toList = [] := by rw [ByteArray.toList_eq]; simpa [str] using List.eq_nil_of_length_eq_zero htb
            have hte2 : (str tb).toList.isEmpty = true := by rw [hte]; rfl
            have HF := hid (rdFail_any B tl te 3 w18 HK18.out.b)
            have HBT : Hid (bt = tb ∧ lb = tl ∧ eb = rdFail 3 te) := hid (by have := HZB.out; simpa using this)
            rw [← HBT.out.2.2, ← HBT.out.2.1] at HF
            go_wp2_with fail
            refine HF.out.mono ?_
            rintro y w19 ⟨⟨v, rfl⟩, hR19, hO19⟩
            have HK19 := hid (HK18.out.go hO19 hR19)
            clear HK18 hR19 hO19 HF p0 p1 p2 p3 p4 p5 p6 f0 f1 f2 f3 f4 f5 f6 hte hte2 HZB
            go_upto_region 19 with (fail)
            refine at_world (fun w => QSt W w W.heap.size B M lb eb k f t i p q (str bt)) (by rw [HBT.out.1]; exact HK19.out) ?_
            clear HK19 HBT
          case' inr =>
            rw [if_neg htb] at HZB
            have hte : ¬ (str tb).toList = [] := fun h => htb (by rw [ByteArray.toList_eq] at h; have : tb = [] := by simpa [str] using h
                                                                  rw [this]; rfl)
            have hte2 : (str tb).toList.isEmpty = false := by simpa using hte
            have HBT : Hid (bt = tb ∧ lb = tl ∧ eb = te) := hid (by have := HZB.out; simpa using this)
            clear HZB p0 p1 p2 p3 p4 p5 f0 f1 f2 f3 f4 f5 f6 htb
            go_upto_region 19 with (fail)
            refine at_world (fun w => QSt W w W.heap.size B M lb eb k f t i p q (str bt)) (by rw [HBT.out.1, HBT.out.2.1, HBT.out.2.2]; exact HK18.out) ?_
            clear HK18 HBT p6 hte hte2
        case' false =>
          have hz := hpb.out
          simp only [takeT, Bool.false_eq_true, if_false, Prod.mk.injEq] at hz
          obtain ⟨hz1, hz2, hz3⟩ := hz
          have HZ3 := hid (And.intro hz1 (And.intro hz2 hz3))
          clear hpb hz1 hz2 hz3
          go_upto_region 19 with (go_at_call 61; refine (HHB.out _).mono ?_; rintro y w' ⟨rfl, rfl⟩)
          refine at_world (fun w => QSt W w W.heap.size B M lb eb k f t i p q (str bt)) (by rw [HZ3.out.1, HZ3.out.2.1, HZ3.out.2.2]; exact HK16.out) ?_
          clear HK16 p0 p1 p2 p3 p4 p5 p6 f0 f1 f2 f3 f4 f5 f6
      all_goals
        rintro w20 K20
        have HED := hid (rdEnd_any B lb eb w20 K20.b)
        rw [← hpz.out] at HED
        obtain ⟨⟨p0, p1, p2, p3, p4, p5, p6⟩, f0, f1, f2, f3, f4, f5, f6⟩ := seven_cells K20.m
        obtain ⟨⟨q0, q1, q2, q3, q4, q5, q6⟩, g0, g1, g2, g3, g4, g5, g6⟩ := seven_cells K20.r
        have HK20 := hid K20
        clear K20
        by_cases he : vz = 0
        · have he2 : oe = 0 := by rw [HE.out, he]
          rw [if_pos he2] at HV
          have HVV := hid HV.out
          subst he
          have HOE := hid he2
          clear HV HE he2
          go_wp2_with (go_at_call 37; refine HED.out.mono ?_; rintro x w' ⟨rfl, rfl⟩)
          obtain ⟨⟨r0, r1, r2, r3, r4, r5, r6⟩, _⟩ := seven_cells (set_seven HK20.out.r (.int .i64 (k : Nat)) (.int .i64 (f : Nat)) (.int .i64 (t : Nat)) (.int .i64 (i : Nat)) (.int .i64 (p : Nat)) (.int .i64 (q : Nat)) (.string (str bt)))
          have hbe := below_set7 HK20.out.bel (Nat.le_refl _) (.int .i64 (k : Nat)) (.int .i64 (f : Nat)) (.int .i64 (t : Nat)) (.int .i64 (i : Nat)) (.int .i64 (p : Nat)) (.int .i64 (q : Nat)) (.string (str bt))
          unfold set7 at r0 r1 r2 r3 r4 r5 r6 hbe
          rw [HVV.out, HOE.out]
          refine bodyPost_ret (v := .tuple #[pkV k f t i p q (str bt), .int .i64 0]) (by simp [results, Try.results32, go_sem, r0, r1, r2, r3, r4, r5, r6, pkV]) rfl ⟨rfl, hbe⟩
        · have he2 : oe = vz := HE.out
          rw [if_neg (by rw [he2]; exact he)] at HV
          have hne : (vz != 0) = true := by simp [he]
          have HVV := hid HV.out
          have HOE := hid he2
          clear HV HE he2 he
          go_wp2_with (go_at_call 37; refine HED.out.mono ?_; rintro x w' ⟨rfl, rfl⟩)
          obtain ⟨⟨r0, r1, r2, r3, r4, r5, r6⟩, _⟩ := seven_cells (set_seven HK20.out.r (.int .i64 0) (.int .i64 0) (.int .i64 0) (.int .i64 0) (.int .i64 0) (.int .i64 0) (.string ⟨#[]⟩))
          have hbe := below_set7 HK20.out.bel (Nat.le_refl _) (.int .i64 0) (.int .i64 0) (.int .i64 0) (.int .i64 0) (.int .i64 0) (.int .i64 0) (.string ⟨#[]⟩)
          unfold set7 at r0 r1 r2 r3 r4 r5 r6 hbe
          rw [HVV.out, HOE.out]
          refine bodyPost_ret (v := .tuple #[pkV 0 0 0 0 0 0 ⟨#[]⟩, .int .i64 vz]) (by simp [results, Try.results32, go_sem, r0, r1, r2, r3, r4, r5, r6, pkV]) rfl ⟨rfl, hbe⟩
  · have hne : ((ce : Int) != 0) = true := by simp [hce]
    rw [if_neg hce] at HE
    have HV3 := hid (FIN0.out w3 ce HE.out (by omega) HR3.out)
    obtain rfl := HE.out
    clear HE hce HCL FIN0
    go_wp2_with fail
    obtain ⟨⟨r0, r1, r2, r3, r4, r5, r6⟩, _⟩ := seven_cells (set_seven HR3.out (.int .i64 0) (.int .i64 0) (.int .i64 0) (.int .i64 0) (.int .i64 0) (.int .i64 0) (.string ⟨#[]⟩))
    have hbe := below_set7 HB3.out (Nat.le_refl _) (.int .i64 0) (.int .i64 0) (.int .i64 0) (.int .i64 0) (.int .i64 0) (.int .i64 0) (.string ⟨#[]⟩)
    unfold set7 at r0 r1 r2 r3 r4 r5 r6 hbe
    rw [HV3.out]
    refine bodyPost_ret (v := .tuple #[pkV 0 0 0 0 0 0 ⟨#[]⟩, .int .i64 ce]) (by simp [results, Try.results32, go_sem, r0, r1, r2, r3, r4, r5, r6, pkV]) rfl ⟨rfl, hbe⟩
end Go.Proofs.Ytdjcfeglaiihgaa
