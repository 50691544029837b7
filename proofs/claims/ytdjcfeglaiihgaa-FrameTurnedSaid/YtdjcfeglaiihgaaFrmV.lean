/- FrameTorn. -/
import Derived.Test.YtdjcfeglaiihgaaFrmK
import Derived.Test.YtdjcfeglaiihgaaFrmT
import Derived.Test.YtdjcfeglaiihgaaStrL
import Derived.Test.YtdjcfeglaiihgaaKeep
import Derived.Test.YtdjcfeglaiihgaaIcell
namespace Go.Proofs.Ytdjcfeglaiihgaa
open Go.RowKit Go.Sort
set_option linter.unusedVariables false
set_option linter.unusedSimpArgs false

/-- Where the frames end. -/
def endsL (l : List (List UInt8)) (k : Nat) : List Int := (List.range k).map fun j => ((frsL (l.take (j + 1))).length : Int)
theorem endsL_len (l : List (List UInt8)) (k : Nat) : (endsL l k).length = k := by simp [endsL]
theorem endsL_succ (l : List (List UInt8)) (k : Nat) : icells .i64 (endsL l (k + 1)) = icells .i64 (endsL l k) ++ [.int .i64 ((frsL (l.take (k + 1))).length : Nat)] := by
  simp [endsL, List.range_succ, icells]
theorem endsL_at (l : List (List UInt8)) (n k : Nat) (h : k < n) : (endsL l n).getD k 0 = ((frsL (l.take (k + 1))).length : Nat) := by
  simp [endsL, h]
attribute [irreducible] endsL

set_option maxRecDepth 20000 in
set_option maxHeartbeats 4000000 in
theorem frameTorn_small (a : Option Addr) (cap : Nat) (l : List (List UInt8)) (cut : Int) (W : World) (hA : Sl W 1 a l.length cap (scells l)) (hp : ∀ p ∈ l, p.length ≤ 200) (hn : l.length ≤ 20) :
    Calls Try.prog 7 #[.slice a l.length cap, .int .i64 cut] W fun e w' => e = .returned (.bool true) ∧ Below W.heap.size W w' := by
  have HA := hid hA
  have HP := hid hp
  have HLN := hid (frsL_len l hp)
  have HLG : Hid (longB l 20 200 = false) := by
    rw [Hid]
    have := longB_end (l := l) (most := 20) (each := 200) (fun k hk => by have := hp _ (List.getElem_mem hk); omega)
    rw [this]; simp; omega
  have HL := hid (long_any a l.length cap l 20 200 W hA (fun s hs => by have := hp s hs; unfold maxLen; omega))
  rw [HLG.out] at HL
  have hcap : l.length ≤ cap := hA.2.1
  have hn2 : (l.length : Int) ≤ 20 := by omega
  clear hA hp HLG
  go_enter Try.func7, Try.ntmps7
  go_wp2_with (go_at_call 25; refine HL.out.mono ?_; rintro e w' ⟨rfl, rfl⟩)
  clear HL
  go_loopw [5, 6, 7] (fun b v i wr => ∃ (k : Nat) (A : Option Addr) (c : Nat), k ≤ l.length ∧ i = .int .i64 (k : Int) ∧ b = .slice A (frsL (l.take k)).length c ∧ Hid (wr.ownsRow W.heap.size 5 1 (.slice A (frsL (l.take k)).length c) (frsL (l.take k)).length (bcells (frsL (l.take k)))) ∧ Hid (wr.ownsRow W.heap.size 3 1 v k (icells .i64 (endsL l k))) ∧ Hid (Below W.heap.size W wr)) (fun _ _ i _ => l.length - (intOf i).toNat)
  case atStart =>
    refine ⟨0, none, 0, by omega, rfl, rfl, ?_, ?_, Below.refl _ _⟩
    · exact World.ownsRow_nil _ _ _ _
    · have : endsL l 0 = [] := List.eq_nil_of_length_eq_zero (endsL_len l 0)
      rw [Hid, this]
      exact World.ownsRow_nil _ _ _ _
  case round =>
    obtain ⟨k, A, c, hk, rfl, rfl, HO, HE, HB⟩ := hrel
    have HSB := hid (sl_own HO.out)
    have hfl : (frsL (l.take k)).length ≤ 4100 := by
      have := frsL_len (l.take k) (fun q hq => HP.out q (List.mem_of_mem_take hq))
      have := List.length_take_le k l
      omega
    by_cases hlt : k < l.length
    · have hlt2 : (k : Int) < (l.length : Int) := by omega
      obtain ⟨b', off, rfl, hc⟩ := Sl.at (HA.out.below HB.out) k (by rw [scells_length]; exact hlt)
      have e1 : (scells l)[k]'(by rw [scells_length]; exact hlt) = .string (str (l[k]'hlt)) := by simp [scells]
      rw [e1] at hc
      have hpl := HP.out _ (List.getElem_mem hlt)
      have HPUT := hid (fput_any A _ c (frsL (l.take k)) (str (l[k]'hlt)) wr HSB.out (by omega) (by rw [str_size]; omega))
      have hst : (str (l[k]'hlt)).data.toList = l[k]'hlt := by simp [str]
      rw [hst, ← frsL_snoc l k hlt] at HPUT
      have HES := hid (endsL_succ l k)
      have hfl2 : (frsL (l.take (k + 1))).length ≤ 4305 := by
        have := frsL_len (l.take (k + 1)) (fun q hq => HP.out q (List.mem_of_mem_take hq))
        have := List.length_take_le (k + 1) l
        omega
      clear e1 hst HSB hfl hpl
      generalize str (l[k]'hlt) = s at hc HPUT
      generalize hf0 : (frsL (l.take k)).length = n0 at *
      clear hf0
      generalize hf1 : frsL (l.take (k + 1)) = f1 at *
      have HF1 := hid hf1
      clear hf1
      go_wp2_with fail
      refine HPUT.out.mono ?_
      rintro e w2 ⟨A2, c2, rfl, ho2, hb2⟩
      have HB2 := hid (HB.out.trans (hb2.mono HB.out.size))
      have HE2 := hid (own_keep HE.out hb2)
      have HO2 := hid (own_mono ho2 HB.out.size)
      clear ho2 hb2 HPUT
      go_wp2_with (at_builtin; refine wpList_append_1k (W := W) rfl (.tmp 27) (.tmp 30) 49 rfl W.heap.size 3 Try.underlying49 info_int rfl (by omega) rfl HE2.out rfl rfl (by simp; rfl) ?c1 ?c2 HB2.out.size HB2.out ?_)
      case c1 => unfold maxLen; omega
      case c2 => omega
      · intro v' w' h2 h3 h4 h5
        have HE3 := hid h2
        have HO3 := hid (own_other HO2.out HE2.out (by decide) h5)
        clear h2 h4 h5
        go_wp2
        go_roundw
        case rel =>
          obtain rfl := HF1.out
          exact ⟨k + 1, A2, c2, by omega, by go_num, rfl, HO3.out, by rw [Hid, HES.out]; exact HE3.out, h3⟩
        case measure => simp [intOf]; omega
    · obtain rfl : k = l.length := by omega
      clear hk hlt
      have HAll := hid (HA.out.below HB.out)
      obtain ⟨AE, cE, rfl, hSE⟩ := Sl.of_own HE.out
      have HSE := hid hSE
      have hT : l.take l.length = l := List.take_length
      rw [hT] at HSB HO hfl ⊢
      have HB0 := hid HB.out
      have HL0 : (frsL l).length ≤ c := HSB.out.2.1
      have HCM : c ≤ 9223372036854775807 := by have := HSB.out.2.2.1; unfold maxLen at this; omega
      clear HE HO hSE hT HA HB
      have HTN := hid (fun k cc h1 h2 h3 => torn l k cc HP.out h1 h2 h3)
      have HEA := hid (fun k (h : k < l.length) => endsL_at l l.length k h)
      have HTK := hid (fun k => frsL_len (l.take k) (fun q hq => HP.out q (List.mem_of_mem_take hq)))
      have HHP := hid (show (frsL (l.take 0)).length = 0 by simp [frsL])
      generalize hF : (frsL l).length = F at *
      have HF := hid hF
      clear hF
      have hgc : ∃ cc : Nat, cc ≤ F ∧ ((cut < 0 ∨ (F : Int) < cut) ∧ cc = F ∨ (0 ≤ cut ∧ cut ≤ F) ∧ cut = (cc : Int)) := by
        by_cases h : cut < 0 ∨ (F : Int) < cut
        · exact ⟨F, Nat.le_refl _, .inl ⟨h, rfl⟩⟩
        · exact ⟨cut.toNat, by omega, .inr ⟨by omega, by omega⟩⟩
      obtain ⟨cc, hccF, hgc⟩ := hgc
      have HCC := hid hccF
      have hs1 : ∀ w : World, (Instr.slice 34 (.slice A F c) none (some (.int .i64 (cc : Int))) none).run Try.prog w = .ok (.slice A cc c) w := run_to Try.underlying34 info_u8 A F c cc (by omega)
      rcases hgc with ⟨h | h, rfl⟩ | ⟨⟨h, h2⟩, rfl⟩
      all_goals (try have hx : (0 : Int) ≤ cut := by omega)
      all_goals
        go_wp2
        go_loop [8] (fun i => ∃ k : Nat, k ≤ l.length ∧ i = .int .i64 (k : Int) ∧ (frsL (l.take k)).length ≤ cc) (fun i => l.length - (intOf i).toNat)
        case atStart => exact ⟨0, by omega, rfl, by rw [HHP.out]; omega⟩
        case round =>
          obtain ⟨k, hk, rfl, hle⟩ := hrel
          have HLE := hid hle
          clear hle
          by_cases hgo : k < l.length ∧ (frsL (l.take (k + 1))).length ≤ cc
          · obtain ⟨hlt, hle2⟩ := hgo
            have hlt2 : (k : Int) < (l.length : Int) := by omega
            have HLE2 := hid hle2
            obtain ⟨be, oe, rfl, hjunk⟩ := Sl.at HSE.out k (by rw [icells_length, endsL_len]; exact hlt)
            clear hjunk
            have hce := Sl.cell HSE.out k (by rw [endsL_len]; exact hlt)
            rw [HEA.out k hlt] at hce
            generalize hfk : (frsL (l.take (k + 1))).length = fk at *
            have HFK := hid hfk
            clear hfk
            have hd : decide ((fk : Int) ≤ (cc : Int)) = true := by simp; omega
            go_wp2
            go_round
            case rel => exact ⟨k + 1, by omega, by go_num, by rw [HFK.out]; exact HLE2.out⟩
            case measure => simp [intOf]; omega
          · have hex : k = l.length ∨ cc < (frsL (l.take (k + 1))).length := by omega
            have HT := hid (HTN.out k cc hk HLE.out hex)
            have HALL := hid (all_any A cc c ((frsL l).take cc) wr (IsBytes.take HSB.out cc (by rw [HF.out]; exact HCC.out)) (by have := HTK.out l.length; have := List.length_take_le cc (frsL l); have := hccF; omega))
            rw [HT.out] at HALL
            have hlk : (l.take k).length = k := by rw [List.length_take]; omega
            simp only [hlk] at HALL
            have HSK := hid (Sl.take HAll.out k hk)
            rw [show (scells l).take (k * 1) = scells (l.take k) by simp [scells]] at HSK
            have hs2 : ∀ w : World, (Instr.slice 42 (.slice a l.length cap) none (some (.int .i64 (k : Int))) none).run Try.prog w = .ok (.slice a k cap) w := run_to Try.underlying42 info_str a l.length cap k (by omega)
            have HRES : Hid (k = 0 ∧ (frsL (l.take k)).length = 0 ∨ 0 < k ∧ k - 1 < l.length ∧ (endsL l l.length).getD (k - 1) 0 = ((frsL (l.take k)).length : Nat)) := hid (by
              by_cases k0 : k = 0
              · subst k0; exact .inl ⟨rfl, HHP.out⟩
              · refine .inr ⟨by omega, by omega, ?_⟩
                rw [HEA.out (k - 1) (by omega), show k - 1 + 1 = k by omega])
            have hgt : k < l.length → cc < (frsL (l.take (k + 1))).length := fun h => by rcases hex with h' | h' <;> omega
            have HGT := hid (fun h => And.intro (hgt h) (HEA.out k h))
            clear hgo hex hgt HT HTN HTK HHP HEA HLE HAll
            generalize hfk : (frsL (l.take k)).length = fk at HRES HALL
            clear hfk
            generalize (frsL (l.take (k + 1))).length = fk1 at HGT
            by_cases hlt : k < l.length
            case' pos =>
              obtain ⟨g1, g2⟩ := HGT.out hlt
              have hlt2 : (k : Int) < (l.length : Int) := by omega
              obtain ⟨be, oe, hAE, hjunk⟩ := Sl.at HSE.out k (by rw [icells_length, endsL_len]; exact hlt)
              clear hjunk
              subst hAE
              have hce := Sl.cell HSE.out k (by rw [endsL_len]; exact hlt)
              rw [g2] at hce
              have hd : decide ((fk1 : Int) ≤ (cc : Int)) = false := by simp; omega
              clear g2
            case' neg =>
              have hge : ¬ (k : Int) < (l.length : Int) := by omega
            all_goals
              clear HGT
              go_wp2_with fail
              refine HALL.out.mono ?_
              rintro e w3 ⟨A3, c3, rfl, ho3, hb3⟩
              have HB3 := hid (HB0.out.trans (hb3.mono HB0.out.size))
              have HQ := hid (same03 A3 a k c3 k cap (l.take k) (l.take k) w3 (sl_own ho3) (HSK.out.below hb3) (by omega) (by omega))
              rw [show (l.take k == l.take k) = true by simp] at HQ
              have HSE3 := hid (HSE.out.below hb3)
              clear ho3 hb3 HALL HSK
              rcases HRES.out with ⟨k0, k1⟩ | ⟨k0, k1, k2⟩
              · subst k0
                subst k1
                clear HRES
                go_wp2_with fail
                refine HQ.out.mono ?_
                rintro x w5 ⟨rfl, q, rfl⟩
                have HB5 := hid (below_drewN (k := q) HB3.out)
                clear HQ HB3
                go_wp2_with (go_at_call 17; refine (works03_any _).mono ?_; rintro x w6 ⟨rfl, hb6⟩)
                go_ret
                exact ⟨rfl, HB5.out.trans (hb6.mono HB5.out.size)⟩
              · obtain ⟨m, hm⟩ : ∃ m : Nat, (k : Int) - 1 = (m : Int) := ⟨k - 1, by omega⟩
                have hm2 : m < l.length := by omega
                rw [show k - 1 = m by omega] at k2
                obtain ⟨bf, of, hAF, hjunk⟩ := Sl.at HSE3.out m (by rw [icells_length, endsL_len]; exact hm2)
                clear hjunk
                have HSE4 := HSE3.out
                rw [hAF] at HSE4
                have hce3 := Sl.cell HSE4 m (by rw [endsL_len]; exact hm2)
                rw [k2] at hce3
                have k0' : (0 : Int) < (k : Int) := by omega
                clear k2 HSE4 HRES
                cases hAF
                go_wp2_with fail
                refine HQ.out.mono ?_
                rintro x w5 ⟨rfl, q, rfl⟩
                have HB5 := hid (below_drewN (k := q) HB3.out)
                clear HQ HB3
                go_wp2_with (go_at_call 17; refine (works03_any _).mono ?_; rintro x w6 ⟨rfl, hb6⟩)
                go_ret
                exact ⟨rfl, HB5.out.trans (hb6.mono HB5.out.size)⟩

theorem frameTorn_law (a : Option Addr) (len cap : Nat) (z : List ByteArray) (cut : Int) (W : World) (h : IsTexts W a len cap z) :
    Calls Try.prog 7 #[.slice a len cap, .int .i64 cut] W fun e w' => e = .returned (.bool true) ∧ Below W.heap.size W w' := by
  obtain ⟨l, hA, rfl, hw⟩ := Sl.of_texts h
  cases hb : longB l 20 200 with
  | false =>
    obtain ⟨h1, h2⟩ := longB_no hb
    exact frameTorn_small a cap l cut W hA (fun p hp => by have := h1 p hp; omega) (by omega)
  | true =>
    have HL := hid (long_any a l.length cap l 20 200 W hA hw)
    rw [hb] at HL
    clear hA hw hb h
    go_enter Try.func7, Try.ntmps7
    go_wp2_with (first
      | (go_at_call 25; refine HL.out.mono ?_; rintro e w' ⟨rfl, rfl⟩)
      | (go_at_call 17; refine (works03_any _).mono ?_; rintro e w' ⟨rfl, hb⟩))
    go_ret
    exact ⟨rfl, hb⟩
end Go.Proofs.Ytdjcfeglaiihgaa
