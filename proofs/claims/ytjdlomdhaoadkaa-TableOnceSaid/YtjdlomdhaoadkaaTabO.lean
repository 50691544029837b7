/- TableOnce. -/
import Derived.Test.YtjdlomdhaoadkaaTabN
import Derived.Test.YtjdlomdhaoadkaaRow3
import Derived.BigQuiet
import Derived.Deep.QuietTactic
import Derived.Deep.CutRange
import Derived.Deep.RegionHeld3
import Derived.RegionTactic
import Derived.ChangeAlike
namespace Go.Proofs.Ytjdlomdhaoadkaa
open Go.RowKit
set_option linter.unusedVariables false
set_option linter.unusedSimpArgs false

theorem below_drewNo {n k : Nat} {W w : World} (h : Below n W w) : Below n W (w.drewN k) := ⟨h.os, h.tape, h.output, h.size, h.block⟩
theorem ranF_no {T : List Tr} {c d s : Int} (h : setOk T c d s = false) (l : List (Int × Int)) (q : Int) : ranF T c d s l q = l := by unfold ranF; rw [if_neg (by rw [h]; simp)]
theorem ranF_ne {T : List Tr} {c d s : Int} (l : List (Int × Int)) {q : Int} (h : ¬ s = q) : ranF T c d s l q = l := by unfold ranF; rw [if_neg (fun h2 => h h2.2)]
theorem ranF_yes {T : List Tr} {c d s : Int} (l : List (Int × Int)) {q : Int} (h : setOk T c d s = true) (h2 : s = q) : ranF T c d s l q = l ++ [(c, d)] := by unfold ranF; rw [if_pos ⟨h, h2⟩]
theorem TW.keep {W w w' : World} {k : Nat} {v3 v4 v5 : Value} (h : TW W w k v3 v4 v5) (hb : Below w.heap.size w w') : TW W w' k v3 v4 v5 := by
  obtain ⟨A, c, T, ran, ended, h1, h2, h3, h4, h5⟩ := h
  exact ⟨A, c, T, ran, ended, h1, h2, own_keep h3 hb, h4.keep hb, h5.trans (hb.mono h5.size)⟩
/-- What the second loop walks over. -/
theorem pair_at {w : World} {A : Option Addr} {len cap : Nat} {l : List (Int × Int)} (h : Sl w 2 A len cap (pcells l)) (k : Nat) (hk : k < l.length) : ∃ b off, A = some ⟨b, off, none⟩ ∧ w.cell? ⟨b, off + k * 2, none⟩ = some (.int .i64 l[k].1) ∧ w.cell? ⟨b, off + k * 2 + 1, none⟩ = some (.int .i64 l[k].2) := by
  have hl := pcells_length l
  obtain ⟨b, off, ha, hc⟩ := h.2.2.2 (by omega)
  have hg := pcells_get l k hk
  exact ⟨b, off, ha, by rw [hc _ (by omega)]; exact hg.1, by rw [Nat.add_assoc, hc _ (by omega)]; exact hg.2⟩

set_option maxRecDepth 20000 in
set_option maxHeartbeats 16000000 in
theorem tableOnce_small (A : Option Addr) (len cap : Nat) (W : World) (h : len ≤ 100) (f : Nat → Nat → Int)
    (hz : 0 < len → ∃ b off, A = some ⟨b, off, none⟩ ∧ ∀ i, i < len → ∀ j, j < 3 → W.cell? ⟨b, off + i * 3 + j, none⟩ = some (.int .i64 (f i j))) :
    Calls Try.prog 4 #[.slice A len cap] W fun e w' => e = .returned (.bool true) ∧ Below W.heap.size W w' := by
  have HZ := hid hz
  have hlen : (len : Int) ≤ 100 := by omega
  have hd : decide ((100 : Int) < (len : Int)) = false := by simp; omega
  clear hz
  go_enter Try.func4, Try.ntmps4
  go_wp2
  go_loopw [3, 4, 5, 6] (fun v3 v4 v5 i wr => ∃ k : Nat, k ≤ len ∧ i = .int .i64 (k : Int) ∧ Hid (TW W wr k v3 v4 v5)) (fun _ _ _ i _ => len - (intOf i).toNat)
  case atStart => exact ⟨0, by omega, rfl, ⟨none, 0, [], [], [], rfl, TI.nil, World.ownsRow_nil _ _ _ _, TwoR.nil _ _ _, Below.refl _ _⟩⟩
  case round =>
    obtain ⟨k, hk, rfl, HT⟩ := hrel
    by_cases hlt : k < len
    · have hlt2 : (k : Int) < (len : Int) := by omega
      obtain ⟨b, off, rfl, hcl⟩ := HZ.out (by omega)
      obtain ⟨A3, c3, T, ran, ended, rfl, hti, ho, htw, hbr⟩ := HT.out
      have c0 := cellb hbr (hcl k hlt 0 (by omega))
      have c1 := cellb hbr (hcl k hlt 1 (by omega))
      have HC2 := hid (hcl k hlt 2 (by omega))
      simp only [Nat.add_zero] at c0
      generalize f k 0 = x at c0
      generalize f k 1 = y at c1
      generalize f k 2 = z at HC2
      have hT1 : T.length ≤ 1000 := by have := hti.2.1; omega
      have hr1 : ran.length ≤ 1000 := by have := hti.2.2.1; omega
      have he1 : ended.length ≤ 1000 := by have := hti.2.2.2.1; omega
      have HST := hid (hti.step x y z)
      have HNO := hid (fun (h : setOk T x y z = false) l q => ranF_no h l q)
      have HNE := hid (fun l q (h : ¬ z = q) => ranF_ne (T := T) (c := x) (d := y) l h)
      have HYE := hid (fun l q (h : setOk T x y z = true) (h2 : z = q) => ranF_yes (T := T) (c := x) (d := y) l h h2)
      have HSE := hid (fun U (hU : Sl U 3 A3 T.length c3 (gcells r3 T)) => tset_any A3 c3 T x y z U hU hT1)
      unfold SetR at HSE
      have HT2L : Hid ((setT T x y z).length ≤ 1000) := hid (by have := setT_len T x y z; have := hti.2.1; omega)
      have HO := hid (sl_own ho)
      have HTW := hid htw
      have HBR := hid hbr
      have HSZ := hid hbr.size
      generalize setT T x y z = T2 at *
      generalize setOk T x y z = ok at *
      generalize ranF T x y z = R at *
      clear hcl hti ho htw hbr HT
      have c0a : ∀ o, (wr.alloc o).cell? ⟨b, off + k * 3, none⟩ = some (.int .i64 x) := fun o => (World.cell?_alloc_lt wr o _ (lt_of_cell c0)).trans c0
      have c1a : ∀ o, (wr.alloc o).cell? ⟨b, off + k * 3 + 1, none⟩ = some (.int .i64 y) := fun o => (World.cell?_alloc_lt wr o _ (lt_of_cell c1)).trans c1
      go_upto_region 8 with (fail)
      go_cut [7] from 26 to 36 (fun tv wx => tv = .pointer (some ⟨wr.heap.size, 0, none⟩) ∧ wx.heap[wr.heap.size]? = some (.cells #[.int .i64 x, .int .i64 y] 28 (0, 0)) ∧ Below wr.heap.size wr wx)
      case first =>
        go_region
        all_goals
          go_wp2_with fail
          go_meet
          exact ⟨rfl, heap_alloc_new _ _, below_drew ((Below.refl _ _).alloc (Nat.le_refl _) _)⟩
      case rest =>
        obtain ⟨rfl, hm1, hb1⟩ := hcut
        have HM := hid hm1
        have hbq := hb1
        have HMS : Hid (W.heap.size ≤ wr.heap.size) := HSZ
        clear c0 c1 c0a c1a hm1 hb1 HSZ
        have HTW1 := hid (HTW.out.keep hbq)
        have HO1 := hid (HO.out.below hbq)
        have HB1 := hid (HBR.out.trans (hbq.mono HBR.out.size))
        clear hbq HTW HO HBR
        generalize wr.heap.size = M at *
        have hS : ∀ U, Below wc.heap.size wc U → ((U.cell? ⟨M, 0, none⟩ = some (.int .i64 x) ∧ U.cell? ⟨M, 1, none⟩ = some (.int .i64 y) ∧ U.cell? ⟨b, off + k * 3 + 2, none⟩ = some (.int .i64 z)) ∧ Below wc.heap.size wc U) := fun U hU => ⟨⟨(two_cells (keep0 HM.out hU)).1, (two_cells (keep0 HM.out hU)).2.1, cellb (HB1.out.trans (hU.mono HB1.out.size)) HC2.out⟩, hU⟩
        go_upto_region 9 with (fail)
        go_region_held3 (fun U => (U.cell? ⟨M, 0, none⟩ = some (.int .i64 x) ∧ U.cell? ⟨M, 1, none⟩ = some (.int .i64 y) ∧ U.cell? ⟨b, off + k * 3 + 2, none⟩ = some (.int .i64 z)) ∧ Below wc.heap.size wc U)
          (first
            | assumption
            | exact hS _ (Below.refl _ _)
            | exact hS _ (below_drew (Below.refl _ _))
            | exact hS _ (bel_trans (And.right (by assumption)) (by assumption)))
          (first
            | (go_at_call 7
               (with_reducible refine (HSE.out _ (HO1.out.below (And.right (by assumption)))).mono ?_)
               rintro e u1 ⟨A2, c2, rfl, o1, g1⟩))
        rename_i hHeld
        have hg : Below wc.heap.size wc u1 := undrew g1
        have HM2 := hid (keep0 HM.out hg)
        have HTW2 := hid (HTW1.out.keep hg)
        have HB2 := hid (HB1.out.trans (hg.mono HB1.out.size))
        have d2 := cellb HB2.out HC2.out
        have HO2 := hid (own_mono o1 (b' := W.heap.size) (by have := HB1.out.size; simpa using this))
        have HCK := hid (fun w (hw : Sl w 3 A2 T2.length c2 (gcells r3 T2)) => tcheck_any A2 c2 T2 w hw)
        rw [HST.out.1] at HCK
        clear hHeld hS hg g1 o1 HM HTW1 HB1 HO1 HSE
        cases ok with
        | false =>
          rw [HNO.out rfl, HNO.out rfl] at HST
          have HTN : Hid (TW W u1 (k + 1) (.slice A2 T2.length c2) _ _ ∧ u1.ownsRow W.heap.size 51 3 (.slice A2 T2.length c2) T2.length (gcells r3 T2)) := hid ⟨⟨A2, c2, T2, ran, ended, rfl, HST.out, HO2.out, HTW2.out, HB2.out⟩, HO2.out⟩
          clear HNO HNE HYE HO2 HTW2
          go_wp2_with fail
          refine (HCK.out _ (sl_own HTN.out.2)).mono ?_
          rintro e u2 ⟨rfl, g2⟩
          have HTE := hid (HTN.out.1.keep g2)
          clear g2 HCK HTN
          go_wp2
          go_roundw
          case rel => exact ⟨k + 1, by omega, by go_num, HTE.out⟩
          case measure => simp [intOf]; omega
        | true =>
          obtain ⟨q0, q1, _, _⟩ := two_cells HM2.out
          by_cases hz2 : z = 2
          · subst hz2
            rw [HYE.out _ _ rfl rfl, HNE.out _ _ (by omega)] at HST
            clear HNO HNE HYE
            go_wp2_with (at_builtin; refine wpList_append_1w (W := W) rfl (.tmp 58) (.tmp 60) 41 rfl W.heap.size 28 Try.underlying41 info_task rfl (by omega) rfl HTW2.out.1 rfl rfl (by simp [Value.oneCell']) ?c1 ?c2 HB2.out.size HB2.out ?_)
            case c1 => unfold maxLen; omega
            case c2 => omega
            intro v' w' m2 b2 s2 k2 w2
            have HT3 := hid (HTW2.out.push m2 k2 w2)
            have d2 := cellb b2 HC2.out
            have HO3 := hid (own_other HO2.out HTW2.out.1 (by decide) k2)
            have HB3 := hid b2
            have HTN : Hid (TW W w' (k + 1) (.slice A2 T2.length c2) _ _ ∧ w'.ownsRow W.heap.size 51 3 (.slice A2 T2.length c2) T2.length (gcells r3 T2)) := hid ⟨⟨A2, c2, T2, _, _, rfl, HST.out, HO3.out, HT3.out, HB3.out⟩, HO3.out⟩
            clear m2 b2 s2 k2 w2 HT3 HO3 HO2 HTW2
            go_wp2_with fail
            refine (HCK.out _ (sl_own HTN.out.2)).mono ?_
            rintro e u2 ⟨rfl, g2⟩
            have HTE := hid (HTN.out.1.keep g2)
            clear g2 HCK HTN
            go_wp2
            go_roundw
            case rel => exact ⟨k + 1, by omega, by go_num, HTE.out⟩
            case measure => simp [intOf]; omega
          · have e2 : (z == 2) = false := by rw [beq_eq_false_iff_ne]; exact hz2
            by_cases hz3 : z = 3
            · subst hz3
              rw [HYE.out _ _ rfl rfl, HNE.out _ _ (by omega)] at HST
              clear HNO HNE HYE hz2
              go_wp2_with (at_builtin; refine wpList_append_1w (W := W) rfl (.tmp 71) (.tmp 73) 41 rfl W.heap.size 28 Try.underlying41 info_task rfl (by omega) rfl HTW2.out.2.1 rfl rfl (by simp [Value.oneCell']) ?c1 ?c2 HB2.out.size HB2.out ?_)
              case c1 => unfold maxLen; omega
              case c2 => omega
              intro v' w' m2 b2 s2 k2 w2
              have HT3 := hid ((HTW2.out.swap.push m2 k2 w2).swap)
              have d2 := cellb b2 HC2.out
              have HO3 := hid (own_other HO2.out HTW2.out.2.1 (by decide) k2)
              have HB3 := hid b2
              have HTN : Hid (TW W w' (k + 1) (.slice A2 T2.length c2) _ _ ∧ w'.ownsRow W.heap.size 51 3 (.slice A2 T2.length c2) T2.length (gcells r3 T2)) := hid ⟨⟨A2, c2, T2, _, _, rfl, HST.out, HO3.out, HT3.out, HB3.out⟩, HO3.out⟩
              clear m2 b2 s2 k2 w2 HT3 HO3 HO2 HTW2
              go_wp2_with fail
              refine (HCK.out _ (sl_own HTN.out.2)).mono ?_
              rintro e u2 ⟨rfl, g2⟩
              have HTE := hid (HTN.out.1.keep g2)
              clear g2 HCK HTN
              go_wp2
              go_roundw
              case rel => exact ⟨k + 1, by omega, by go_num, HTE.out⟩
              case measure => simp [intOf]; omega
            · have e3 : (z == 3) = false := by rw [beq_eq_false_iff_ne]; exact hz3
              rw [HNE.out _ _ hz2, HNE.out _ _ hz3] at HST
              have HTN : Hid (TW W u1 (k + 1) (.slice A2 T2.length c2) _ _ ∧ u1.ownsRow W.heap.size 51 3 (.slice A2 T2.length c2) T2.length (gcells r3 T2)) := hid ⟨⟨A2, c2, T2, ran, ended, rfl, HST.out, HO2.out, HTW2.out, HB2.out⟩, HO2.out⟩
              clear HNO HNE HYE HO2 HTW2 hz2 hz3
              go_wp2_with fail
              refine (HCK.out _ (sl_own HTN.out.2)).mono ?_
              rintro e u2 ⟨rfl, g2⟩
              have HTE := hid (HTN.out.1.keep g2)
              clear g2 HCK HTN
              go_wp2
              go_roundw
              case rel => exact ⟨k + 1, by omega, by go_num, HTE.out⟩
              case measure => simp [intOf]; omega
    · have hge : ¬ (k : Int) < (len : Int) := by omega
      obtain ⟨A3, c3, T, ran, ended, rfl, hti, ho, htw, hbr⟩ := HT.out
      obtain ⟨A4, c4, rfl, hs4⟩ := Sl.of_own htw.1
      obtain ⟨A5, c5, rfl, hs5⟩ := Sl.of_own htw.2.1
      have HS4 := hid hs4
      have HS5 := hid hs5
      have HBR := hid hbr
      have hr1 : (ran.length : Int) ≤ 1000 := by have := hti.2.2.1; omega
      have he1 : (ended.length : Int) ≤ 1000 := by have := hti.2.2.2.1; omega
      have HN4 := hid (fun i j hi hj => nodup_get hti.2.2.2.2.1 i j hi hj)
      have HN5 := hid (fun i j hi hj => nodup_get hti.2.2.2.2.2.1 i j hi hj)
      have HER := hid hti.ended_ran
      clear hti ho htw hbr hs4 hs5 HT HZ
      obtain ⟨wo, rfl⟩ : ∃ wo : World, wo = wr := ⟨_, rfl⟩
      go_wp2
      go_loopw [10] (fun i w2 => ∃ i0 : Nat, i0 ≤ ran.length ∧ i = .int .i64 (i0 : Int) ∧ Hid (Below wo.heap.size wo w2)) (fun i _ => ran.length - (intOf i).toNat)
      case atStart => exact ⟨0, by omega, rfl, Below.refl _ _⟩
      case round =>
        obtain ⟨i0, hi0, rfl, HBI⟩ := hrel
        by_cases hil : i0 < ran.length
        · have hil2 : (i0 : Int) < (ran.length : Int) := by omega
          obtain ⟨wi, rfl⟩ : ∃ wi : World, wi = wr := ⟨_, rfl⟩
          go_wp2
          go_loopw [11] (fun j w3 => ∃ j0 : Nat, j0 ≤ i0 ∧ j = .int .i64 (j0 : Int) ∧ Hid (Below wo.heap.size wo w3)) (fun j _ => i0 - (intOf j).toNat)
          case atStart => exact ⟨0, by omega, rfl, HBI⟩
          case round =>
            obtain ⟨j0, hj0, rfl, HBJ⟩ := hrel
            by_cases hjl : j0 < i0
            · have hjl2 : (j0 : Int) < (i0 : Int) := by omega
              have hjl3 : (j0 : Int) < (ran.length : Int) := by omega
              have hne := HN4.out i0 j0 hil hjl
              obtain ⟨b1, o1, hA1, c10, c11⟩ := pair_at (HS4.out.below HBJ.out) i0 hil
              obtain ⟨b2, o2, hA2, c20, c21⟩ := pair_at (HS4.out.below HBJ.out) j0 (by omega)
              subst hA1
              simp only [Option.some.injEq, Addr.mk.injEq, and_true] at hA2
              obtain ⟨rfl, rfl⟩ := hA2
              have HBQ : Hid (∀ n, Below wo.heap.size wo (wr.drewN n)) := hid (fun n => below_drewNo HBJ.out)
              generalize ran[i0] = p at *
              generalize ran[j0] = q at *
              obtain ⟨p0, p1⟩ := p
              obtain ⟨q0, q1⟩ := q
              simp only at c10 c11 c20 c21 hne
              by_cases h1 : p0 = q0
              · have e1 : (p0 == q0) = true := by rw [beq_iff_eq]; exact h1
                by_cases h2 : p1 = q1
                · have e2 : (p1 == q1) = true := by rw [beq_iff_eq]; exact h2
                  exact absurd ⟨h1, h2⟩ hne
                · have e2 : (p1 == q1) = false := by rw [beq_eq_false_iff_ne]; exact h2
                  clear h1 h2 hne
                  go_wp2
                  go_quiet (fail)
                  go_wp2
                  go_roundw
                  case rel => exact ⟨j0 + 1, by omega, by go_num, HBQ.out _⟩
                  case measure => simp [intOf]; omega
              · have e1 : (p0 == q0) = false := by rw [beq_eq_false_iff_ne]; exact h1
                clear h1 hne
                go_wp2
                go_quiet (fail)
                go_wp2
                go_roundw
                case rel => exact ⟨j0 + 1, by omega, by go_num, HBQ.out _⟩
                case measure => simp [intOf]; omega
            · have hjg : ¬ (j0 : Int) < (i0 : Int) := by omega
              go_wp2
              go_roundw
              case rel => exact ⟨i0 + 1, by omega, by go_num, HBJ⟩
              case measure => simp [intOf]; omega
        · have hig : ¬ (i0 : Int) < (ran.length : Int) := by omega
          clear HN4
          obtain ⟨wi, rfl⟩ : ∃ wi : World, wi = wr := ⟨_, rfl⟩
          go_wp2
          go_loopw [12] (fun i w2 => ∃ i0 : Nat, i0 ≤ ended.length ∧ i = .int .i64 (i0 : Int) ∧ Hid (Below wo.heap.size wo w2)) (fun i _ => ended.length - (intOf i).toNat)
          case atStart => exact ⟨0, by omega, rfl, HBI⟩
          case round =>
            obtain ⟨e0, he0, rfl, HBE⟩ := hrel
            by_cases hel : e0 < ended.length
            · have hel2 : (e0 : Int) < (ended.length : Int) := by omega
              have HMEM : Hid (∃ q, ∃ (hq : q < ran.length), ran[q].1 = ended[e0].1 ∧ ran[q].2 = ended[e0].2) := hid (by
                obtain ⟨q, hq, he⟩ := List.getElem_of_mem (HER.out _ (List.getElem_mem hel))
                exact ⟨q, hq, by rw [he], by rw [he]⟩)
              obtain ⟨wj, rfl⟩ : ∃ wj : World, wj = wr := ⟨_, rfl⟩
              go_wp2
              go_loopw [13, 14] (fun v j w3 => ∃ j0 : Nat, j0 ≤ ran.length ∧ j = .int .i64 (j0 : Int) ∧ Hid (v = .bool true ∨ (v = .bool false ∧ ∀ q (hq : q < ran.length), q < j0 → ¬ (ran[q].1 = ended[e0].1 ∧ ran[q].2 = ended[e0].2))) ∧ Hid (Below wo.heap.size wo w3)) (fun _ j _ => ran.length - (intOf j).toNat)
              case atStart => exact ⟨0, by omega, rfl, .inr ⟨rfl, fun q _ h => absurd h (by omega)⟩, HBE⟩
              case round =>
                obtain ⟨j0, hj0, rfl, HV, HBJ⟩ := hrel
                by_cases hjl : j0 < ran.length
                · have hjl2 : (j0 : Int) < (ran.length : Int) := by omega
                  have HBQ : Hid (∀ n, Below wo.heap.size wo (wr.drewN n)) := hid (fun n => below_drewNo HBJ.out)
                  obtain ⟨b1, o1, hA1, c10, c11⟩ := pair_at (HS4.out.below HBJ.out) j0 hjl
                  obtain ⟨b2, o2, hA2, c20, c21⟩ := pair_at (HS5.out.below HBJ.out) e0 hel
                  subst hA1
                  subst hA2
                  rcases HV.out with rfl | ⟨rfl, hq⟩
                  · clear HV HMEM HN5
                    go_wp2
                    go_quiet (fail)
                    go_wp2
                    go_roundw
                    case rel => exact ⟨j0 + 1, by omega, by go_num, .inl rfl, HBQ.out _⟩
                    case measure => simp [intOf]; omega
                  · have HNX : Hid (¬ (ran[j0].1 = ended[e0].1 ∧ ran[j0].2 = ended[e0].2) → ∀ q (hq : q < ran.length), q < j0 + 1 → ¬ (ran[q].1 = ended[e0].1 ∧ ran[q].2 = ended[e0].2)) := hid (fun hne q hql hqj => by
                      by_cases hqk : q < j0
                      · exact hq q hql hqk
                      · obtain rfl : q = j0 := by omega
                        exact hne)
                    clear HV hq HMEM HN5
                    obtain ⟨p0, hp0⟩ : ∃ z, z = ran[j0].1 := ⟨_, rfl⟩
                    obtain ⟨p1, hp1⟩ : ∃ z, z = ran[j0].2 := ⟨_, rfl⟩
                    obtain ⟨q0, hq0⟩ : ∃ z, z = ended[e0].1 := ⟨_, rfl⟩
                    obtain ⟨q1, hq1⟩ : ∃ z, z = ended[e0].2 := ⟨_, rfl⟩
                    rw [← hp0] at c10
                    rw [← hp1] at c11
                    rw [← hq0] at c20
                    rw [← hq1] at c21
                    have HEQ := hid (And.intro (And.intro hp0 hp1) (And.intro hq0 hq1))
                    clear hp0 hp1 hq0 hq1
                    by_cases h1 : p0 = q0
                    · have e1 : (p0 == q0) = true := by rw [beq_iff_eq]; exact h1
                      by_cases h2 : p1 = q1
                      · have e2 : (p1 == q1) = true := by rw [beq_iff_eq]; exact h2
                        clear h1 h2
                        go_wp2
                        go_quiet (fail)
                        go_wp2
                        go_roundw
                        case rel => exact ⟨j0 + 1, by omega, by go_num, .inl rfl, HBQ.out _⟩
                        case measure => simp [intOf]; omega
                      · have e2 : (p1 == q1) = false := by rw [beq_eq_false_iff_ne]; exact h2
                        have HNY : Hid (_) := hid (HNX.out (by rw [← HEQ.out.1.1, ← HEQ.out.1.2, ← HEQ.out.2.1, ← HEQ.out.2.2]; exact fun h => h2 h.2))
                        clear h1 h2
                        go_wp2
                        go_quiet (fail)
                        go_wp2
                        go_roundw
                        case rel => exact ⟨j0 + 1, by omega, by go_num, .inr ⟨rfl, HNY.out⟩, HBQ.out _⟩
                        case measure => simp [intOf]; omega
                    · have e1 : (p0 == q0) = false := by rw [beq_eq_false_iff_ne]; exact h1
                      have HNY : Hid (_) := hid (HNX.out (by rw [← HEQ.out.1.1, ← HEQ.out.1.2, ← HEQ.out.2.1, ← HEQ.out.2.2]; exact fun h => h1 h.1))
                      clear h1
                      go_wp2
                      go_quiet (fail)
                      go_wp2
                      go_roundw
                      case rel => exact ⟨j0 + 1, by omega, by go_num, .inr ⟨rfl, HNY.out⟩, HBQ.out _⟩
                      case measure => simp [intOf]; omega
                · have hjg : ¬ (j0 : Int) < (ran.length : Int) := by omega
                  have hv : ∃ u, u = Value.bool true := ⟨_, rfl⟩
                  rcases HV.out with rfl | ⟨rfl, hq⟩
                  · clear HV HMEM
                    obtain ⟨wk, rfl⟩ : ∃ wk : World, wk = wr := ⟨_, rfl⟩
                    go_wp2
                    go_loopw [13, 15] (fun v j w3 => ∃ j0 : Nat, j0 ≤ e0 ∧ j = .int .i64 (j0 : Int) ∧ v = .bool true ∧ Hid (Below wo.heap.size wo w3)) (fun _ j _ => e0 - (intOf j).toNat)
                    case atStart => exact ⟨0, by omega, rfl, rfl, HBJ⟩
                    case round =>
                      obtain ⟨g0, hg0, rfl, rfl, HBG⟩ := hrel
                      by_cases hgl : g0 < e0
                      · have hgl2 : (g0 : Int) < (e0 : Int) := by omega
                        have hgl3 : (g0 : Int) < (ended.length : Int) := by omega
                        have hne := HN5.out e0 g0 hel hgl
                        obtain ⟨b1, o1, hA1, c10, c11⟩ := pair_at (HS5.out.below HBG.out) g0 (by omega)
                        obtain ⟨b2, o2, hA2, c20, c21⟩ := pair_at (HS5.out.below HBG.out) e0 hel
                        subst hA1
                        simp only [Option.some.injEq, Addr.mk.injEq, and_true] at hA2
                        obtain ⟨rfl, rfl⟩ := hA2
                        have HBQ : Hid (∀ n, Below wo.heap.size wo (wr.drewN n)) := hid (fun n => below_drewNo HBG.out)
                        generalize ended[e0] = q at *
                        generalize ended[g0] = p at *
                        obtain ⟨p0, p1⟩ := p
                        obtain ⟨q0, q1⟩ := q
                        simp only at c10 c11 c20 c21 hne
                        by_cases h1 : p0 = q0
                        · have e1 : (p0 == q0) = true := by rw [beq_iff_eq]; exact h1
                          by_cases h2 : p1 = q1
                          · have e2 : (p1 == q1) = true := by rw [beq_iff_eq]; exact h2
                            exact absurd ⟨h1.symm, h2.symm⟩ hne
                          · have e2 : (p1 == q1) = false := by rw [beq_eq_false_iff_ne]; exact h2
                            clear h1 h2 hne
                            go_wp2
                            go_quiet (fail)
                            go_wp2
                            go_roundw
                            case rel => exact ⟨g0 + 1, by omega, by go_num, rfl, HBQ.out _⟩
                            case measure => simp [intOf]; omega
                        · have e1 : (p0 == q0) = false := by rw [beq_eq_false_iff_ne]; exact h1
                          clear h1 hne
                          go_wp2
                          go_quiet (fail)
                          go_wp2
                          go_roundw
                          case rel => exact ⟨g0 + 1, by omega, by go_num, rfl, HBQ.out _⟩
                          case measure => simp [intOf]; omega
                      · have hjg2 : ¬ (g0 : Int) < (e0 : Int) := by omega
                        go_wp2
                        go_roundw
                        case rel => exact ⟨e0 + 1, by omega, by go_num, HBG⟩
                        case measure => simp [intOf]; omega
                  · obtain ⟨q, hql, hqe⟩ := HMEM.out
                    exact absurd hqe (hq q hql (by omega))
            · have hig2 : ¬ (e0 : Int) < (ended.length : Int) := by omega
              have HBW := hid (HBR.out.trans (HBE.out.mono HBR.out.size))
              clear HN5 HER HS4 HS5
              go_wp2_with (go_at_call 5; refine (works31_any _).mono ?_; rintro e w4 ⟨rfl, hb4⟩)
              go_ret
              exact ⟨rfl, HBW.out.trans (hb4.mono HBW.out.size)⟩

set_option maxRecDepth 20000 in
theorem tableOnce_big (a : Option Addr) (len cap : Nat) (W : World) (h : 100 < len) (hm : len ≤ maxLen) :
    Calls Try.prog 4 #[.slice a len cap] W fun e w' => e = .returned (.bool true) ∧ Below W.heap.size W w' := by
  unfold maxLen at hm
  have h2 : (100 : Int) < len := by omega
  have hd : decide ((100 : Int) < len) = true := decide_eq_true h2
  go_enter Try.func4, Try.ntmps4
  go_wp2_with fail
  refine (works31_any _).mono ?_
  rintro e w1 ⟨rfl, hb⟩
  go_wp2
  go_ret
  exact ⟨rfl, hb⟩
theorem tableOnce_law (A : Option Addr) (len cap : Nat) (W : World) (h : Rd Try.prog W 47 [.slice A len cap]) :
    Calls Try.prog 4 #[.slice A len cap] W fun e w' => e = .returned (.bool true) ∧ Below W.heap.size W w' := by
  obtain ⟨hm, f, hw, hz⟩ := rows3 h
  by_cases h1 : len ≤ 100
  · exact tableOnce_small A len cap W h1 f hz
  · exact tableOnce_big _ len cap W (by omega) hm
end Go.Proofs.Ytjdlomdhaoadkaa
