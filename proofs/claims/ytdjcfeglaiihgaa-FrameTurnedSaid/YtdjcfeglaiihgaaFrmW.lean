/- FrameTurned. -/
import Derived.Test.YtdjcfeglaiihgaaFrmV
import Derived.Outline
namespace Go.Proofs.Ytdjcfeglaiihgaa
open Go.RowKit Go.Sort
set_option linter.unusedVariables false
set_option linter.unusedSimpArgs false

theorem bcells_set (l : List UInt8) (j : Nat) (d : UInt8) : bcells (l.set j d) = (bcells l).set j (.int .u8 (d.toNat : Int)) := by simp [bcells, List.map_set]
theorem flip_val (c : UInt8) (r : Nat) (h : r < 8) : bits .xor .u8 (c.toNat : Int) (2 ^ r % 256) = (((c ^^^ (1 <<< UInt8.ofNat r)).toNat : Nat) : Int) := by
  have hc := c.toNat_lt
  have h2 : (2 : Nat) ^ r < 256 := Nat.lt_of_lt_of_le (Nat.pow_lt_pow_right (by omega) h) (by decide)
  have e : ((2 : Int) ^ r % 256) = ((2 ^ r : Nat) : Int) := by
    match r, h with
    | 0, _ => rfl
    | 1, _ => rfl
    | 2, _ => rfl
    | 3, _ => rfl
    | 4, _ => rfl
    | 5, _ => rfl
    | 6, _ => rfl
    | 7, _ => rfl
  rw [e, u8_xor_nat _ _ hc h2, UInt8.toNat_xor, bit_u8 r h]
theorem odd_bit (t k : Nat) (ht : t < 4294967296) : bits .and .u32 ((t : Int) / 2 ^ k) 1 = ((t / 2 ^ k % 2 : Nat) : Int) := by
  have h1 : t / 2 ^ k < 4294967296 := Nat.lt_of_le_of_lt (Nat.div_le_self _ _) ht
  have := u32_and_nat (t / 2 ^ k) 1 h1 (by omega)
  rw [Nat.and_one_is_mod] at this
  rw [← this]
  simp

set_option maxRecDepth 20000 in
set_option maxHeartbeats 4000000 in
theorem frameTurned_small (a : Option Addr) (cap : Nat) (l : List (List UInt8)) (wh t0 t1 : Nat) (W : World) (hA : Sl W 1 a l.length cap (scells l)) (hp : ∀ p ∈ l, p.length ≤ 200) (hn : l.length ≤ 20) (h0 : 0 < l.length) (hwh : wh < 256) (ht0 : t0 < 4294967296) (ht1 : t1 < 4294967296) (hne : t1 ≠ 0) :
    Calls Try.prog 8 #[.slice a l.length cap, .int .u8 (wh : Int), .agg #[.int .u32 (t0 : Int), .int .u32 (t1 : Int)]] W fun e w' => e = .returned (.bool true) ∧ Below W.heap.size W w' := by
  have HP := hid hp
  have HLG : Hid (longB l 20 200 = false) := by
    rw [Hid]
    have := longB_end (l := l) (most := 20) (each := 200) (fun k hk => by have := hp _ (List.getElem_mem hk); omega)
    rw [this]; simp; omega
  have HA0 := hid hA
  have HL := hid (fun w (h : Below W.heap.size W w) => long_any a l.length cap l 20 200 w (hA.below h) (fun s hs => by have := hp s hs; unfold maxLen; omega))
  rw [HLG.out] at HL
  have hcap : l.length ≤ cap := hA.2.1
  have hn2 : (l.length : Int) ≤ 20 := by omega
  have hn3 : (0 : Int) < (l.length : Int) := by omega
  have hz0 : ((l.length : Int) == 0) = false := by rw [beq_eq_false_iff_ne]; omega
  have hz1 : ((t1 : Int) == 0) = false := by rw [beq_eq_false_iff_ne]; omega
  clear hA hp HLG
  go_enter Try.func8, Try.ntmps8
  go_upto_region 1 with (fail)
  refine at_world (fun w => (∃ T, w.heap[W.heap.size]? = some (.cells #[.int .u32 (t0 : Int), .int .u32 (t1 : Int)] T (0, 0))) ∧ Below W.heap.size W w) ⟨⟨_, heap_alloc_new _ _⟩, (Below.refl _ _).alloc (Nat.le_refl _) _⟩ ?_
  rintro w0 ⟨⟨T0, hT0⟩, hB0⟩
  obtain ⟨p0, p1, q0, q1⟩ := two_cells hT0
  have HT0 := hid hT0
  have HB0 := hid hB0
  have HA := hid (HA0.out.below hB0)
  have HL1 := hid (HL.out w0 hB0)
  clear hT0 hB0 HL HA0
  go_wp2_with (go_at_call 25; refine HL1.out.mono ?_; rintro e w' ⟨rfl, rfl⟩)
  clear HL1 p0 p1 q0 q1
  go_loopw [7, 8, 9] (fun b v i wr => ∃ (k : Nat) (A : Option Addr) (c : Nat), k ≤ l.length ∧ i = .int .i64 (k : Int) ∧ b = .slice A (frsL (l.take k)).length c ∧ Hid (wr.ownsRow w0.heap.size 5 1 (.slice A (frsL (l.take k)).length c) (frsL (l.take k)).length (bcells (frsL (l.take k)))) ∧ Hid (wr.ownsRow w0.heap.size 3 1 v k (icells .i64 (endsL l k))) ∧ Hid (Below w0.heap.size w0 wr)) (fun _ _ i _ => l.length - (intOf i).toNat)
  case atStart =>
    refine ⟨0, none, 0, by omega, rfl, rfl, ?_, ?_, Below.refl _ _⟩
    · exact World.ownsRow_nil _ _ _ _
    · have : endsL l 0 = [] := List.eq_nil_of_length_eq_zero (endsL_len l 0)
      rw [Hid, this]
      exact World.ownsRow_nil _ _ _ _
  case round =>
    obtain ⟨k, A, c, hk, rfl, rfl, HO, HE, HB⟩ := hrel
    have HSB := hid (sl_own HO.out)
    have hfl : (frsL (l.take k)).length ≤ 4100 := by
      have := frsL_len (l.take k) (fun q hq => HP.out q (List.mem_of_mem_take hq))
      have := List.length_take_le k l
      omega
    by_cases hlt : k < l.length
    · have hlt2 : (k : Int) < (l.length : Int) := by omega
      obtain ⟨b', off, rfl, hc⟩ := Sl.at (HA.out.below HB.out) k (by rw [scells_length]; exact hlt)
      have e1 : (scells l)[k]'(by rw [scells_length]; exact hlt) = .string (str (l[k]'hlt)) := by simp [scells]
      rw [e1] at hc
      have hpl := HP.out _ (List.getElem_mem hlt)
      have HPUT := hid (fput_any A _ c (frsL (l.take k)) (str (l[k]'hlt)) wr HSB.out (by omega) (by rw [str_size]; omega))
      have hst : (str (l[k]'hlt)).data.toList = l[k]'hlt := by simp [str]
      rw [hst, ← frsL_snoc l k hlt] at HPUT
      have HES := hid (endsL_succ l k)
      have hfl2 : (frsL (l.take (k + 1))).length ≤ 4305 := by
        have := frsL_len (l.take (k + 1)) (fun q hq => HP.out q (List.mem_of_mem_take hq))
        have := List.length_take_le (k + 1) l
        omega
      clear e1 hst HSB hfl hpl
      generalize str (l[k]'hlt) = s at hc HPUT
      generalize hf0 : (frsL (l.take k)).length = n0 at *
      clear hf0
      generalize hf1 : frsL (l.take (k + 1)) = f1 at *
      have HF1 := hid hf1
      clear hf1
      go_wp2_with fail
      refine HPUT.out.mono ?_
      rintro e w2 ⟨A2, c2, rfl, ho2, hb2⟩
      have HB2 := hid (HB.out.trans (hb2.mono HB.out.size))
      have HE2 := hid (own_keep HE.out hb2)
      have HO2 := hid (own_mono ho2 HB.out.size)
      clear ho2 hb2 HPUT
      go_wp2_with (at_builtin; refine wpList_append_1k (W := w0) rfl (.tmp 41) (.tmp 44) 49 rfl w0.heap.size 3 Try.underlying49 info_int rfl (by omega) rfl HE2.out rfl rfl (by simp; rfl) ?c1 ?c2 HB2.out.size HB2.out ?_)
      case c1 => unfold maxLen; omega
      case c2 => omega
      · intro v' w' h2 h3 h4 h5
        have HE3 := hid h2
        have HO3 := hid (own_other HO2.out HE2.out (by decide) h5)
        clear h2 h4 h5
        go_wp2
        go_roundw
        case rel =>
          obtain rfl := HF1.out
          exact ⟨k + 1, A2, c2, by omega, by go_num, rfl, HO3.out, by rw [Hid, HES.out]; exact HE3.out, h3⟩
        case measure => simp [intOf]; omega
    · obtain rfl : k = l.length := by omega
      clear hk hlt
      have hT : l.take l.length = l := List.take_length
      rw [hT] at HSB HO hfl ⊢
      obtain ⟨kk, hkk⟩ : ∃ kk, wh % l.length = kk := ⟨_, rfl⟩
      have hkl : kk < l.length := by rw [← hkk]; exact Nat.mod_lt _ h0
      have HKK := hid hkk
      clear hkk
      have hm1 : ((wh : Int) % (l.length : Int)) = (kk : Int) := by rw [← HKK.out]; rfl
      have hkl2 : (kk : Int) < (l.length : Int) := by omega
      -- the text and the end of index kk
      have HAll := hid (HA.out.below HB.out)
      obtain ⟨b1, o1, hA1, hc1⟩ := Sl.at HAll.out kk (by rw [scells_length]; exact hkl)
      rw [show (scells l)[kk]'(by rw [scells_length]; exact hkl) = .string (str (l[kk]'hkl)) by simp [scells]] at hc1
      obtain ⟨AE, cE, rfl, hSE⟩ := Sl.of_own HE.out
      obtain ⟨b2, o2, hA2, hjunk⟩ := Sl.at hSE kk (by rw [icells_length, endsL_len]; exact hkl)
      clear hjunk
      subst hA1 hA2
      have hc2 := Sl.cell hSE kk (by rw [endsL_len]; exact hkl)
      rw [endsL_at l l.length kk hkl, frsL_take_len l HP.out kk hkl] at hc2
      have hpl := HP.out _ (List.getElem_mem hkl)
      have hsz : (str (l[kk]'hkl)).size = (l[kk]'hkl).length := str_size _
      have hle := frsL_take_le l (kk + 1)
      rw [frsL_take_len l HP.out kk hkl] at hle
      have HTU := hid (fun aa (haa : aa ≤ 8 * (l[kk]'hkl).length) => turned l kk aa t1 HP.out hkl haa hne ht1)
      generalize (l[kk]'hkl).length = p at *
      generalize str (l[kk]'hkl) = s at *
      subst hsz
      generalize hF0 : (frsL (l.take kk)).length = F0 at *
      have HF0 := hid hF0
      generalize hF : (frsL l).length = F at *
      have HF := hid hF
      clear hF0 hF
      have hF1 : 0 < F := by omega
      obtain ⟨g, rfl, hgb⟩ : ∃ g, A = some ⟨g, 0, none⟩ ∧ w0.heap.size ≤ g := by
        rcases HO.out.2 with ⟨_, h⟩ | ⟨g, cap', cur, h, hg, _⟩
        · omega
        · injection h with e1 e2 e3; exact ⟨g, e1, hg⟩
      clear hSE HSB
      have HB9 := hid HB.out
      clear HB
      go_upto_region 11 with (fail)
      rw [hm1]
      go_quiet (fail)
      go_upto_region 12 with (fail)
      obtain ⟨fr, hfr⟩ : ∃ fr : Nat, fr = F0 + 1 := ⟨_, rfl⟩
      rw [show (F0 : Int) + (s.size : Int) + 5 - 4 - (s.size : Int) = (fr : Int) by omega]
      have hf1 : (1 : Int) ≤ (fr : Int) := by omega
      have hf2 : (F0 : Int) + (s.size : Int) + 5 ≤ (F : Int) := by omega
      have hf3 : decide ((fr : Int) < 1) = false := by simp; omega
      have hf4 : decide ((F : Int) < (F0 : Int) + (s.size : Int) + 5) = false := by simp; omega
      have hsz : (s.size : Int) ≤ 200 := by omega
      have hF9 : (F : Int) ≤ 4100 := by omega
      obtain ⟨aa, haa⟩ : ∃ aa : Nat, t0 % (8 * s.size + 1) = aa := ⟨_, rfl⟩
      have haa2 : aa ≤ 8 * s.size := by have := Nat.mod_lt t0 (show 0 < 8 * s.size + 1 by omega); omega
      have hm2 : (t0 : Int) % (8 * (s.size : Int) + 1) = (aa : Int) := by rw [← haa]; push_cast; rfl
      have HAA := hid haa
      clear haa hm1
      have HTQ := hid (HTU aa haa2)
      have HM2 := hid hm2
      obtain ⟨p0, p1, q0, q1⟩ := two_cells (keep0 HT0.out HB9.out)
      have HFR := hid hfr
      have hfb : fr + s.size + 4 ≤ F := by omega
      clear hm2 HTU HKK hfr
      go_upto_region 14 with (fail)
      go_quiet (fail)
      go_upto_region 15 with (fail)
      rw [HM2.out]
      have HK : Hid (flips (frsL l) (8 * fr + aa) t1 0 = frsL l) := hid rfl
      refine at_world (fun w => w.ownsRow w0.heap.size 5 1 (.slice (some ⟨g, 0, none⟩) F c) F (bcells (frsL l)) ∧ w.ownsRow w0.heap.size 3 1 (.slice (some ⟨b2, o2, none⟩) l.length cE) l.length (icells .i64 (endsL l l.length)) ∧ Below w0.heap.size w0 w) ⟨HO.out, HE.out, below_drewN (below_drewN HB9.out)⟩ ?_
      rintro w5 ⟨o5, e5, b5⟩
      have HO5 := hid o5
      have HE5 := hid e5
      have HB5 := hid b5
      have HT1 := hid ht1
      clear o5 e5 b5 HO HE HB9 p0 p1 q0 q1 hc1 hc2 hf2 hf4 HM2 HAll ht1
      rw [← HFR.out] at HTQ
      have hl32 : (flips (frsL l) (8 * fr + aa) t1 32).length = F := by rw [flips_length]; exact HF.out
      have HL32 := hid hl32
      clear hl32
      go_wp2
      go_loopw [13] (fun i wr => ∃ k : Nat, k ≤ 32 ∧ i = .int .i64 (k : Int) ∧ Hid (wr.ownsRow w0.heap.size 5 1 (.slice (some ⟨g, 0, none⟩) F c) F (bcells (flips (frsL l) (8 * fr + aa) t1 k))) ∧ Hid (wr.ownsRow w0.heap.size 3 1 (.slice (some ⟨b2, o2, none⟩) l.length cE) l.length (icells .i64 (endsL l l.length))) ∧ Hid (Below w0.heap.size w0 wr)) (fun i _ => 32 - (intOf i).toNat)
      case atStart => exact ⟨0, by omega, rfl, by rw [Hid, HK.out]; exact HO5.out, HE5.out, HB5.out⟩
      case round =>
        obtain ⟨k, hk, rfl, HR, HE2, HB2⟩ := hrel
        obtain ⟨p0, p1, q0, q1⟩ := two_cells (keep0 HT0.out HB2.out)
        by_cases hk32 : k < 32
        · have hk32' : (k : Int) < 32 := by omega
          by_cases ht : t1 / 2 ^ k % 2 = 1
          · have z3 : (bits .and .u32 ((t1 : Int) / 2 ^ k) 1 == 1) = true := by rw [odd_bit t1 k HT1.out, ht]; rfl
            have hix : fr + (aa + k) / 8 < F := by omega
            have hix2 : (8 * fr + aa + k) / 8 = fr + (aa + k) / 8 := by omega
            have hix3 : (8 * fr + aa + k) % 8 = (aa + k) % 8 := by omega
            have hc := HR.out.cellAt (fr + (aa + k) / 8) (by omega)
            have hfl : fr + (aa + k) / 8 < (flips (frsL l) (8 * fr + aa) t1 k).length := by rw [flips_length, HF.out]; exact hix
            have hf := HR.out.frozenAt (fr + (aa + k) / 8)
            rw [show (bcells (flips (frsL l) (8 * fr + aa) t1 k))[fr + (aa + k) / 8]? = some (.int .u8 (((flips (frsL l) (8 * fr + aa) t1 k).getD (fr + (aa + k) / 8) 0).toNat : Int)) by simp [bcells, hfl]] at hc
            generalize hcc : (flips (frsL l) (8 * fr + aa) t1 k).getD (fr + (aa + k) / 8) 0 = ch at hc
            have HCC := hid hcc
            have HST := hid (HR.out.stored (fr + (aa + k) / 8) (.int .u8 (bits .xor .u8 (ch.toNat : Int) (2 ^ ((aa + k) % 8) % 256))))
            have HFS := hid (show bcells (flips (frsL l) (8 * fr + aa) t1 (k + 1)) = (bcells (flips (frsL l) (8 * fr + aa) t1 k)).set (fr + (aa + k) / 8) (.int .u8 (bits .xor .u8 (ch.toNat : Int) (2 ^ ((aa + k) % 8) % 256))) by
              simp only [flips, ht, if_true, flipL]
              rw [hix2, hix3, bcells_set, HCC.out, flip_val ch _ (by omega)])
            clear hcc hfl hix2 hix3
            have hix' : (fr : Int) + ((aa : Int) + (k : Int)) / 8 < (F : Int) := by omega
            go_wp2
            go_roundw
            case rel => exact ⟨k + 1, by omega, by go_num, by rw [Hid, HFS.out]; exact HST.out.1, own_set_other HE2.out HR.out (by decide) _ _, HB2.out.setCell hgb _⟩
            case measure => simp [intOf]; omega
          · have z3 : (bits .and .u32 ((t1 : Int) / 2 ^ k) 1 == 1) = false := by rw [odd_bit t1 k HT1.out, show t1 / 2 ^ k % 2 = 0 by omega]; rfl
            have HFS := hid (show flips (frsL l) (8 * fr + aa) t1 (k + 1) = flips (frsL l) (8 * fr + aa) t1 k by simp only [flips, ht, if_false])
            go_wp2
            go_roundw
            case rel => exact ⟨k + 1, by omega, by go_num, by rw [Hid, HFS.out]; exact HR.out, HE2.out, HB2.out⟩
            case measure => simp [intOf]; omega
        · obtain rfl : k = 32 := by omega
          have HSB := hid (sl_own HR.out)
          have HALL := hid (all_any (some ⟨g, 0, none⟩) F c _ wr HSB.out (by rw [HL32.out]; omega))
          rw [HTQ.out] at HALL
          have hlk : (l.take kk).length = kk := by rw [List.length_take]; omega
          simp only [hlk] at HALL
          have HSK := hid (Sl.take (HA.out.below HB2.out) kk (Nat.le_of_lt hkl))
          rw [show (scells l).take (kk * 1) = scells (l.take kk) by simp [scells]] at HSK
          have hs2 : ∀ w : World, (Instr.slice 42 (.slice (some ⟨b1, o1, none⟩) l.length cap) none (some (.int .i64 (kk : Int))) none).run Try.prog w = .ok (.slice (some ⟨b1, o1, none⟩) kk cap) w := run_to Try.underlying42 info_str _ l.length cap kk (by omega)
          have HSE := hid (sl_own HE2.out)
          have HRES : Hid (kk = 0 ∧ F0 = 0 ∨ 0 < kk ∧ kk - 1 < l.length ∧ (endsL l l.length).getD (kk - 1) 0 = (F0 : Nat)) := hid (by
            by_cases k0 : kk = 0
            · refine .inl ⟨k0, ?_⟩
              rw [← HF0.out, k0]
              rfl
            · refine .inr ⟨by omega, by omega, ?_⟩
              rw [endsL_at l l.length (kk - 1) (by omega), show kk - 1 + 1 = kk by omega, HF0.out])
          have HB29 := hid (HB0.out.trans (HB2.out.mono HB0.out.size))
          clear HTQ HL32 HSB HR HE2 HB2 p0 p1 q0 q1 HF HF0 HFR HAA hF9 hfb hF1
          go_wp2_with fail
          refine HALL.out.mono ?_
          rintro e w3 ⟨A3, c3, rfl, ho3, hb3⟩
          have HB3 := hid (HB29.out.trans (hb3.mono HB29.out.size))
          have HQ := hid (same03 A3 (some ⟨b1, o1, none⟩) kk c3 kk cap (l.take kk) (l.take kk) w3 (sl_own ho3) (HSK.out.below hb3) (by omega) (by omega))
          rw [show (l.take kk == l.take kk) = true by simp] at HQ
          have HSE3 := hid (HSE.out.below hb3)
          clear ho3 hb3 HALL HSK HSE
          rcases HRES.out with ⟨k0, k1⟩ | ⟨k0, k1, k2⟩
          · subst k0
            subst k1
            clear HRES
            go_wp2_with fail
            refine HQ.out.mono ?_
            rintro x w6 ⟨rfl, q, rfl⟩
            have HB6 := hid (below_drewN (k := q) HB3.out)
            clear HQ HB3
            go_wp2_with (go_at_call 17; refine (works03_any _).mono ?_; rintro x w7 ⟨rfl, hb7⟩)
            go_ret
            exact ⟨rfl, HB6.out.trans (hb7.mono HB6.out.size)⟩
          · obtain ⟨m, hm⟩ : ∃ m : Nat, (kk : Int) - 1 = (m : Int) := ⟨kk - 1, by omega⟩
            have hm2 : m < l.length := by omega
            rw [show kk - 1 = m by omega] at k2
            have hce3 := Sl.cell HSE3.out m (by rw [endsL_len]; exact hm2)
            rw [k2] at hce3
            have k0' : (0 : Int) < (kk : Int) := by omega
            have k0n : ((kk : Int) == 0) = false := by rw [beq_eq_false_iff_ne]; omega
            clear k2 HRES
            go_wp2_with fail
            refine HQ.out.mono ?_
            rintro x w6 ⟨rfl, q, rfl⟩
            have HB6 := hid (below_drewN (k := q) HB3.out)
            clear HQ HB3
            go_wp2_with (go_at_call 17; refine (works03_any _).mono ?_; rintro x w7 ⟨rfl, hb7⟩)
            go_ret
            exact ⟨rfl, HB6.out.trans (hb7.mono HB6.out.size)⟩
end Go.Proofs.Ytdjcfeglaiihgaa
