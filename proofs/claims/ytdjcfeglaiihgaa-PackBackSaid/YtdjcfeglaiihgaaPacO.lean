/- PackBack. -/
import Derived.Test.YtdjcfeglaiihgaaPacN
namespace Go.Proofs.Ytdjcfeglaiihgaa
open Go.RowKit Go.Sort
set_option linter.unusedVariables false
set_option linter.unusedSimpArgs false

theorem wf_u32 {n : Int} (h : (Lit.int .u32 n).wf = true) : 0 ≤ n ∧ n < 4294967296 := by
  simp [Lit.wf, IntKind.min, IntKind.max, IntKind.signed, IntKind.bits] at h
  omega
theorem mod_pow_succ (t i : Nat) : t % 2 ^ (i + 1) = t % 2 ^ i + 2 ^ i * (t / 2 ^ i % 2) := by rw [Nat.pow_succ, Nat.mod_mul]

set_option maxRecDepth 20000 in
set_option maxHeartbeats 8000000 in
theorem packBack_small (k f t i p s : Int) (b x : ByteArray) (t0 t1 : Nat) (ht0 : t0 < 4294967296) (ht1 : t1 < 4294967296) (hb : b.size ≤ 1000) (hx : x.size ≤ 1000) (W : World) :
    Calls Try.prog 11 #[.agg #[.int .i64 k, .int .i64 f, .int .i64 t, .int .i64 i, .int .i64 p, .int .i64 s, .string b], .string x, .agg #[.int .u32 (t0 : Int), .int .u32 (t1 : Int)]] W fun e w' => e = .returned (.bool true) ∧ Below W.heap.size W w' := by
  have HW := hid works23_any
  have h1 : decide (1000 < (x.size : Int)) = false := decide_eq_false (by omega)
  have h2 : (x.size : Int) ≤ 1000 := by omega
  have h3 : decide (1000 < (b.size : Int)) = false := decide_eq_false (by omega)
  have h4 : (b.size : Int) ≤ 1000 := by omega
  have HO := hid (fun w => pof_any k f t i p s b w)
  have HC := hid (fun w => pcheck_any k f t i p s b w)
  have HB := hid (fun w => pbytes_any k f t i p s b hb w)
  have HX := hid (fun w => open_any x hx w)
  have HVO := hid (opV_ok x)
  have HVP := hid (opV_pk x.data.toList)
  have HT1 := hid ht1
  have hK : KSt W ((W.alloc (.cells #[.int .i64 k, .int .i64 f, .int .i64 t, .int .i64 i, .int .i64 p, .int .i64 s, .string b] 56)).alloc (.cells #[.int .u32 (t0 : Int), .int .u32 (t1 : Int)] 52)) W.heap.size (W.heap.size + 1) t0 t1 k f t i p s b := ⟨heap_first _ _ _, heap_second _ _ _, below2 _ _ _⟩
  clear hb hx ht1
  go_enter Try.func11, Try.ntmps11
  go_upto_region 1 with (fail)
  have hne : W.heap.size ≠ W.heap.size + 1 := by omega
  generalize W.heap.size + 1 = B at hK ⊢ hne
  generalize hAA : W.heap.size = A at hK ⊢ hne
  refine at_world (fun w => KSt W w A B t0 t1 k f t i p s b) hK ?_
  clear hK
  rintro w0 hK
  have HK := hid hK
  obtain ⟨⟨p0, p1, p2, p3, p4, p5, p6⟩, f0, f1, f2, f3, f4, f5, f6⟩ := seven_cells hK.a
  clear hK
  go_wp2_with fail
  refine (HX.out _).mono ?_
  rintro y w1 ⟨rfl, hb1⟩
  have HK1 := hid (HK.out.below hb1)
  clear HX hb1 HK p0 p1 p2 p3 p4 p5 p6 f0 f1 f2 f3 f4 f5 f6 h1 h2 h3 h4
  rcases Classical.em (opE x.data.toList = 0) with he | he
  case' inl =>
    obtain ⟨k2, f2, t2, i2, p2, s2, b2, hv, hb2, hy⟩ := HVO.out he
    have HY := hid (fun w => pbytes_any k2 f2 t2 i2 p2 s2 b2 hb2 w)
    rw [hy] at HY
    rw [hv, he]
    clear HVO HVP he hv hb2 hy
    have K1 : Pc 58 (w1.alloc (.cells #[.int .i64 k2, .int .i64 f2, .int .i64 t2, .int .i64 i2, .int .i64 p2, .int .i64 s2, .string b2] 58)) w1.heap.size k2 f2 t2 i2 p2 s2 b2 ∧ KSt W (w1.alloc (.cells #[.int .i64 k2, .int .i64 f2, .int .i64 t2, .int .i64 i2, .int .i64 p2, .int .i64 s2, .string b2] 58)) A B t0 t1 k f t i p s b := ⟨heap_alloc_new _ _, HK1.out.below ((Below.refl _ _).alloc (Nat.le_refl _) _)⟩
    clear HK1
    go_upto_region 4 with (fail)
    generalize w1.heap.size = M1 at K1 ⊢
    refine at_world (fun w => Pc 58 w M1 k2 f2 t2 i2 p2 s2 b2 ∧ KSt W w A B t0 t1 k f t i p s b) K1 ?_
    clear K1
    rintro w2 ⟨hm2, hK2⟩
    have HK2 := hid hK2
    obtain ⟨⟨q0, q1, q2, q3, q4, q5, q6⟩, _⟩ := seven_cells hm2
    clear hm2 hK2
    go_wp2_with fail
    refine (HY.out _).mono ?_
    rintro y w4 ⟨rfl, hb4⟩
    have HK4 := hid (HK2.out.below hb4)
    clear HK2 hb4 HY q0 q1 q2 q3 q4 q5 q6
    go_upto_region 6 with (fail)
    refine at_world (fun w => KSt W w A B t0 t1 k f t i p s b) HK4.out ?_
    clear HK4
  case' inr =>
    obtain ⟨k2, f2, t2, i2, p2, s2, b2, hv⟩ := HVP.out
    rw [hv]
    have hne2 : (opE x.data.toList == 0) = false := by simp [he]
    clear HVO HVP hv he
    generalize opE x.data.toList = e2 at *
    have K1 : KSt W (w1.alloc (.cells #[.int .i64 k2, .int .i64 f2, .int .i64 t2, .int .i64 i2, .int .i64 p2, .int .i64 s2, .string b2] 58)) A B t0 t1 k f t i p s b := HK1.out.below ((Below.refl _ _).alloc (Nat.le_refl _) _)
    clear HK1
    go_upto_region 6 with (fail)
    refine at_world (fun w => KSt W w A B t0 t1 k f t i p s b) K1 ?_
    clear K1 hne2
  all_goals
    rintro w5 hK5
    have HK5 := hid hK5
    obtain ⟨⟨p0, p1, p2, p3, p4, p5, p6⟩, _⟩ := seven_cells hK5.a
    clear hK5
    go_wp2_with (go_at_call 28; refine (HO.out _).mono ?_; rintro y w6 ⟨rfl, hb6⟩)
    refine (HC.out _).mono ?_
    rintro y w7 ⟨rfl, hb7⟩
    have HK7 := hid ((HK5.out.below hb6).below hb7)
    clear HC HK5 hb6 hb7 p0 p1 p2 p3 p4 p5 p6
    obtain ⟨⟨p0, p1, p2, p3, p4, p5, p6⟩, _⟩ := seven_cells HK7.out.a
    cases hok : okP k f t i p s b.data.toList
    case false =>
      have hy : pbS k f t i p s b = ⟨#[]⟩ := by rw [pbS, hok]; rfl
      rw [hy] at HB
      clear hy hok
      go_wp2_with (first
        | (go_at_call 28; refine (HO.out _).mono ?_; rintro y w8 ⟨rfl, hb8⟩)
        | (go_at_call 30; refine (HB.out _).mono ?_; rintro y w9 ⟨rfl, hb9⟩)
        | (go_at_call 26; refine (HW.out _).mono ?_; rintro y w10 ⟨rfl, hb10⟩))
      go_ret
      exact ⟨rfl, (((HK7.out.below hb8).below hb9).below hb10).bel⟩
    case true =>
      have hy : pbS k f t i p s b = str (frP (plB k f t i p s b.data.toList)) := by rw [pbS, if_pos hok]
      rw [hy] at HB
      have HEP := hid (opE_put hok)
      have HVP2 := hid (opV_put hok)
      have hpl := plB_len (f := f) (t := t) (i := i) (p := p) (s := s) (okP_iff hok).2.2.2.2.2.2.2
      generalize plB k f t i p s b.data.toList = pl at *
      have hfl : (frP pl).length = pl.length + 5 := frP_len1 pl (by omega)
      have HCT := hid (fun a m hm hm2 ha h1 => opE_cut (cut_turned2 pl a t1 m (by omega) hm hm2 ha h1))
      have HFN := hid (fun a m h h0 => flips_none (frP pl) (8 + a) t1 m h h0)
      obtain ⟨n, hn⟩ : ∃ n, pl.length = n := ⟨_, rfl⟩
      rw [hn] at hfl hpl HCT
      clear hy hok hn
      generalize frP pl = fr at *
      have hst : (str fr).data.toList = fr := by simp [str]
      have hsz : (str fr).size = n + 5 := by rw [str_size]; exact hfl
      have HFL := hid hfl
      clear hfl
      go_wp2_with (go_at_call 28; refine (HO.out _).mono ?_; rintro y w8 ⟨rfl, hb8⟩)
      refine (HB.out _).mono ?_
      rintro y w9 ⟨rfl, hb9⟩
      have HK9 := hid ((HK7.out.below hb8).below hb9)
      obtain ⟨w10, c, hcv, hrow, hb10, hz10⟩ := bytes_brow w9 (str fr) (by rw [hsz]; omega)
      rw [hst] at hrow
      rw [hsz] at hcv
      have HK10 := hid (HK9.out.below hb10)
      have HROW := hid hrow
      have hGB : Hid (w9.heap.size ≠ A ∧ w9.heap.size ≠ B ∧ W.heap.size ≤ w9.heap.size) := hid ⟨fun e => by have := lt_of_block HK9.out.a; omega, fun e => by have := lt_of_block HK9.out.b; omega, HK9.out.bel.size⟩
      clear HB HK7 hb8 hb9 HK9 hrow hb10 hz10 p0 p1 p2 p3 p4 p5 p6
      generalize w9.heap.size = G at *
      go_upto_region 9 with (fail)
      have hcv2 := convS3 (HROW.out.bytes)
      rw [HFL.out] at hcv2
      have HOP := hid (fun w => open_any (str fr) (by rw [hsz]; omega) w)
      rw [hst, HVP2.out, HEP.out] at HOP
      clear hsz hst
      generalize str fr = sf at *
      go_wp2_with fail
      refine (HOP.out _).mono ?_
      rintro y w11 ⟨rfl, hb11⟩
      have HK11 := hid (HK10.out.below hb11)
      have HROW11 := hid (HROW.out.below hb11)
      have hm : Pc 58 (w11.alloc (.cells #[.int .i64 k, .int .i64 f, .int .i64 t, .int .i64 i, .int .i64 p, .int .i64 s, .string b] 58)) w11.heap.size k f t i p s b := heap_alloc_new _ _
      have ha : Below w11.heap.size w11 (w11.alloc (.cells #[.int .i64 k, .int .i64 f, .int .i64 t, .int .i64 i, .int .i64 p, .int .i64 s, .string b] 58)) := (Below.refl _ _).alloc (Nat.le_refl _) _
      have KK := And.intro hm (And.intro (HK11.out.below ha) (HROW11.out.below ha))
      clear hb11 HK10 HROW HOP hcv hcv2 hm ha HK11 HROW11 HVP2
      go_upto_region 10 with (fail)
      generalize w11.heap.size = M at KK ⊢
      refine at_world (fun w => Pc 58 w M k f t i p s b ∧ KSt W w A B t0 t1 k f t i p s b ∧ BRow w G c fr) KK ?_
      clear KK
      rintro w12 ⟨hm, hK12, hR12⟩
      obtain ⟨⟨p0, p1, p2, p3, p4, p5, p6⟩, _⟩ := seven_cells hm
      obtain ⟨⟨r0, r1, r2, r3, r4, r5, r6⟩, _⟩ := seven_cells hK12.a
      have HK12 := hid hK12
      have HR12 := hid hR12
      have hn6 : decide ((n : Int) + 5 < 6) = false := decide_eq_false (by omega)
      have hn7 : ((n + 5 : Nat) : Int) = (n : Int) + 5 := by omega
      clear hm hK12 hR12
      replace p0 := cell_regrown p0
      replace p1 := cell_regrown p1
      replace p2 := cell_regrown p2
      replace p3 := cell_regrown p3
      replace p4 := cell_regrown p4
      replace p5 := cell_regrown p5
      replace p6 := cell_regrown p6
      replace r0 := cell_regrown r0
      replace r1 := cell_regrown r1
      replace r2 := cell_regrown r2
      replace r3 := cell_regrown r3
      replace r4 := cell_regrown r4
      replace r5 := cell_regrown r5
      replace r6 := cell_regrown r6
      have c0 := reg (w := w12) (fun W' _ => HO.out W')
      refine wp_region_quiet_below (by kernel_rfl) (by kernel_rfl) ?_
      repeat (go_big_quiet_step (first | (go_at_call 28; with_reducible exact c0 _ _)))
      refine wpQuiet_nil ?_
      intro _ hw'
      obtain ⟨⟨dq, osq⟩, hw''⟩ := hw'
      subst hw''
      have KB := below_regrown w12 dq osq
      clear p0 p1 p2 p3 p4 p5 p6 r0 r1 r2 r3 r4 r5 r6 c0 hn6
      go_upto_region 12 with (fail)
      refine at_world (fun w => KSt W w A B t0 t1 k f t i p s b ∧ BRow w G c fr) ⟨HK12.out.below KB, HR12.out.below KB⟩ ?_
      clear KB HK12 HR12
      rintro w13 ⟨hK13, hR13⟩
      have HK13 := hid hK13
      have HR13 := hid hR13
      clear hK13 hR13
      have hn8 : (1 : Int) ≤ (n : Int) := by omega
      have hn9 : (n : Int) ≤ 81 := by omega
      obtain ⟨q0, q1, g0, g1⟩ := two_cells HK13.out.b
      have ht0' : (t0 : Int) < 4294967296 := by omega
      go_upto_region 13 with (fail)
      obtain ⟨N, hN⟩ : ∃ N : Nat, N = 8 * (n + 4) := ⟨_, rfl⟩
      rw [show (8 : Int) * ((n : Int) + 5 - 1) = (N : Int) by omega]
      have hN1 : (1 : Int) ≤ (N : Int) := by omega
      have hN2 : (N : Int) ≤ 680 := by omega
      obtain ⟨aa, haa⟩ : ∃ aa : Nat, t0 % N = aa := ⟨_, rfl⟩
      have haN : aa < N := by rw [← haa]; exact Nat.mod_lt _ (by omega)
      have hm : ((t0 : Int) % (N : Int)) = (aa : Int) := by rw [← haa]; rfl
      have HM := hid hm
      have HNN := hid hN
      clear haa hm hN
      go_upto_region 14 with (fail)
      rw [HM.out]
      obtain ⟨m, hm⟩ : ∃ m : Nat, min 32 (N - aa) = m := ⟨_, rfl⟩
      have hm1 : m ≤ 32 := by omega
      have hm2 : aa + m ≤ N := by omega
      have hm3 : m = 32 ∨ aa + m = N := by omega
      have hla : (aa : Int) < (N : Int) := by omega
      have HMM := hid (And.intro hm1 (And.intro hm2 hm3))
      have HB5 : Hid (8 + aa + m ≤ 8 * (n + 5) ∧ N = 8 * (n + 4)) := hid (by have := HNN.out; omega)
      have HLK := hid (fun j => show (flips fr (8 + aa) t1 j).length = n + 5 by rw [flips_length]; exact HFL.out)
      clear hm hm1 hm2 hm3 HM HNN q0 q1 g0 g1 haN
      go_wp2
      go_loopw [14, 15] (fun tv iv wr => ∃ j : Nat, j ≤ m ∧ iv = .int .i64 (j : Int) ∧ tv = .bool (decide (t1 % 2 ^ j ≠ 0)) ∧ Hid (KSt W wr A B t0 t1 k f t i p s b) ∧ Hid (BRow wr G c (flips fr (8 + aa) t1 j))) (fun _ iv _ => 32 - (intOf iv).toNat)
      case atStart => exact ⟨0, by omega, rfl, by simp [Nat.mod_one], HK13.out, HR13.out⟩
      case round =>
        obtain ⟨j, hj, rfl, rfl, HK2, HR2⟩ := hrel
        have hj32 : (j : Int) ≤ 32 := by have := HMM.out.1; omega
        by_cases hlt : j < m
        · have e1 : (j : Int) < 32 := by have := HMM.out.1; omega
          have e2 : (aa : Int) + (j : Int) < (N : Int) := by have := HMM.out.2.1; omega
          have e3 : decide ((j : Int) < 32) = true := decide_eq_true e1
          have e4 : decide ((aa : Int) + (j : Int) < (N : Int)) = true := decide_eq_true e2
          obtain ⟨q0, q1, g0, g1⟩ := two_cells HK2.out.b
          have HS := hid (mod_pow_succ t1 j)
          have hjm : j + 1 ≤ m := hlt
          clear hlt
          by_cases ht : t1 / 2 ^ j % 2 = 1
          · have z3 : (bits .and .u32 ((t1 : Int) / 2 ^ j) 1 == 1) = true := by rw [odd_bit t1 j HT1.out, ht]; rfl
            have hix : 1 + (aa + j) / 8 < n + 5 := by have := HB5.out; omega
            have hix2 : (8 + aa + j) / 8 = 1 + (aa + j) / 8 := by omega
            have hix3 : (8 + aa + j) % 8 = (aa + j) % 8 := by omega
            obtain ⟨hc, hf⟩ := HR2.out.cell (1 + (aa + j) / 8) (by rw [HLK.out]; exact hix)
            generalize hcc : (flips fr (8 + aa) t1 j).getD (1 + (aa + j) / 8) 0 = ch at hc
            have HCC := hid hcc
            have HST := hid (HR2.out.set (1 + (aa + j) / 8) (ch ^^^ (1 <<< UInt8.ofNat ((aa + j) % 8))) (by rw [HLK.out]; exact hix))
            rw [← flip_val ch _ (by omega)] at HST
            have HFS := hid (show flips fr (8 + aa) t1 (j + 1) = (flips fr (8 + aa) t1 j).set (1 + (aa + j) / 8) (ch ^^^ (1 <<< UInt8.ofNat ((aa + j) % 8))) by
              simp only [flips, ht, if_true, flipL]
              rw [hix2, hix3, HCC.out])
            have HTT : Hid (decide (t1 % 2 ^ (j + 1) ≠ 0) = true) := hid (by
              rw [HS.out, ht]
              have := Nat.two_pow_pos j
              exact decide_eq_true (by omega))
            clear hcc hix2 hix3 HS
            have hix' : 1 + ((aa : Int) + (j : Int)) / 8 < (n : Int) + 5 := by omega
            go_wp2
            go_roundw
            case rel =>
              refine ⟨j + 1, hjm, by go_num, by rw [HTT.out], ⟨?_, ?_, ?_⟩, ?_⟩
              · exact (Below.heap_setCell _ _ _ _ (fun e => hGB.out.1 e.symm)).trans HK2.out.a
              · exact (Below.heap_setCell _ _ _ _ (fun e => hGB.out.2.1 e.symm)).trans HK2.out.b
              · exact HK2.out.bel.setCell hGB.out.2.2 _
              · rw [Hid, HFS.out]; exact HST.out
            case measure => simp [intOf]; omega
          · have z3 : (bits .and .u32 ((t1 : Int) / 2 ^ j) 1 == 1) = false := by rw [odd_bit t1 j HT1.out, show t1 / 2 ^ j % 2 = 0 by omega]; rfl
            have HFS := hid (show flips fr (8 + aa) t1 (j + 1) = flips fr (8 + aa) t1 j by simp only [flips, ht, if_false])
            have HTT : Hid (decide (t1 % 2 ^ (j + 1) ≠ 0) = decide (t1 % 2 ^ j ≠ 0)) := hid (by rw [HS.out, show t1 / 2 ^ j % 2 = 0 by omega, Nat.mul_zero, Nat.add_zero])
            clear HS
            go_wp2
            go_roundw
            case rel => exact ⟨j + 1, hjm, by go_num, by rw [HTT.out], HK2.out, by rw [Hid, HFS.out]; exact HR2.out⟩
            case measure => simp [intOf]; omega
        · obtain rfl : j = m := by omega
          have hrw := HLK.out j
          have hcv2 := convS3 (HR2.out.bytes)
          rw [hrw] at hcv2
          have hsz : (str (flips fr (8 + aa) t1 j)).size = n + 5 := by rw [str_size]; exact hrw
          have hst : (str (flips fr (8 + aa) t1 j)).data.toList = flips fr (8 + aa) t1 j := by simp [str]
          have HOP := hid (fun w => open_any (str (flips fr (8 + aa) t1 j)) (by rw [hsz]; omega) w)
          rw [hst] at HOP
          have HRES : Hid ((opE (flips fr (8 + aa) t1 j) == 0) = !decide (t1 % 2 ^ j ≠ 0)) := hid (by
            by_cases h0 : t1 % 2 ^ j = 0
            · rw [HFN.out aa j (by rw [HFL.out]; exact HB5.out.1) h0, HEP.out, decide_eq_false (by simp [h0])]; rfl
            · have := HCT.out aa j HMM.out.1 (by have := HMM.out.2.2; have := HB5.out; omega) HB5.out.1 h0
              rw [decide_eq_true h0]
              simpa using this)
          obtain ⟨k3, f3, t3, i3, p3, s3, b3, hv⟩ := opV_pk (flips fr (8 + aa) t1 j)
          rw [hv] at HOP
          have hex : (j : Int) < 32 ∧ ¬ (aa : Int) + (j : Int) < (N : Int) ∨ ¬ (j : Int) < 32 := by have := HMM.out; omega
          generalize decide (t1 % 2 ^ j ≠ 0) = tv at *
          generalize opE (flips fr (8 + aa) t1 j) = oe at *
          generalize str (flips fr (8 + aa) t1 j) = sf2 at *
          have HKF := hid HK2.out
          clear hlt hj hrw hsz hst hv HLK HFN HFL HCT HEP HB5 HMM HR2 HK2 hj32 HK13 HR13
          rcases hex with ⟨e1, e2⟩ | e1
          case' inl =>
            have e2' : (N : Int) ≤ (aa : Int) + (j : Int) := by omega
            have e3 : decide ((j : Int) < 32) = true := decide_eq_true e1
            have e4 : decide ((aa : Int) + (j : Int) < (N : Int)) = false := decide_eq_false e2
            clear e2
          case' inr =>
            have e1' : (32 : Int) ≤ (j : Int) := by omega
            have e3 : decide ((j : Int) < 32) = false := decide_eq_false e1
            clear e1
          all_goals
            go_wp2_with fail
            refine (HOP.out _).mono ?_
            rintro y w14 ⟨rfl, hb14⟩
            have HK14 := hid (HKF.out.below hb14)
            have hba : Below w14.heap.size w14 (w14.alloc (.cells #[.int .i64 k3, .int .i64 f3, .int .i64 t3, .int .i64 i3, .int .i64 p3, .int .i64 s3, .string b3] 58)) := (Below.refl _ _).alloc (Nat.le_refl _) _
            have HK15 := hid (HK14.out.below hba)
            have hre := HRES.out
            have htv : ((!tv) == !tv) = true := by cases tv <;> rfl
            clear hb14 hba HK14 HKF HOP hcv2
            go_wp2_with (go_at_call 26; refine (HW.out _).mono ?_; rintro y w16 ⟨rfl, hb16⟩)
            go_ret
            exact ⟨rfl, (HK15.out.below hb16).bel⟩
end Go.Proofs.Ytdjcfeglaiihgaa
