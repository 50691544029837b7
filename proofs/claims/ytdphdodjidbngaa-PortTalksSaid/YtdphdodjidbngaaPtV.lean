/- PortTalks: the law. -/
import Derived.Test.YtdphdodjidbngaaPtW
import Derived.Deep.CutRange
namespace Go.Proofs.Ytdphdodjidbngaa
open Go.RowKit Go.Sort
set_option linter.unusedVariables false
set_option linter.unusedSimpArgs false

theorem str_nemP {t : List UInt8} (h : t ≠ []) : (str t).toList.isEmpty = false := by
  rw [ByteArray.toList_eq]
  cases t with
  | nil => exact absurd rfl h
  | cons a b => rfl
theorem nodup_place {l : List (List UInt8)} (h : ∀ j (hj : j < l.length), placeJ l l[j] = (j : Int)) : l.Nodup := by
  rw [List.nodup_iff_pairwise_ne, List.pairwise_iff_getElem]
  intro i j hi hj hij e
  have h1 := h i hi
  have h2 := h j hj
  rw [e] at h1
  omega
theorem ts_start {W w : World} {Pa Ma Pb Mb : Nat} {ia ib : Int} (ha : PortAt w Pa Ma 0 ia 16 []) (hb : PortAt w Pb Mb 8 ib 16 []) (hn : Ma ≠ Mb) (h1 : W.heap.size ≤ Ma) (h2 : W.heap.size ≤ Mb) (hu : Below W.heap.size W w) : TS W w Pa Ma Pb Mb ia ib [] [] (.slice none 0 0) [] (.slice none 0 0) [] :=
  ⟨ha, hb, hn, h1, h2, ⟨rfl, .inl ⟨rfl, rfl⟩⟩, ⟨rfl, .inl ⟨rfl, rfl⟩⟩, fun gg hg => by simp [Value.ownBlock] at hg, fun gg hg => by simp [Value.ownBlock] at hg, fun g hg => by simp [Value.ownBlock] at hg, hu⟩
theorem own_hkP {w w' : World} {base e s n : Nat} {v : Value} {xs : List Value} (h : w.ownsRow base e s v n xs) (hk : ∀ g, base ≤ g → g < w.heap.size → w'.heap[g]? = w.heap[g]?) : w'.ownsRow base e s v n xs := by
  refine ⟨h.1, ?_⟩
  rcases h.2 with h2 | ⟨b, cap, cur, h3, h4, h5, h6⟩
  · exact .inl h2
  · exact .inr ⟨b, cap, cur, h3, h4, (hk b h4 (lt_of_block h5)).trans h5, h6⟩
theorem ptW_succ (ia ib : Int) (l : List (List UInt8)) (k : Nat) : ptW ia ib l (k + 1) = ptW ia ib l k ++ (if k = 0 then [pbL (dtP ia l 1 0)] else []) := by
  unfold ptW
  by_cases h : k = 0
  · simp [h]
  · simp [h]

set_option maxRecDepth 20000 in
set_option maxHeartbeats 16000000 in
theorem portTalks_law (A : Option Addr) (len cap : Nat) (l : List (List UInt8)) (n0 n1 : Int) (h0 : 0 ≤ n0 ∧ n0 < 256) (h1 : 0 ≤ n1 ∧ n1 < 256) (W : World) (hA : Sl W 1 A len cap (scells l)) (hw : ∀ s ∈ l, s.length ≤ maxLen) :
    Calls Try.prog 5 #[.slice A len cap, .agg #[.int .u8 n0, .int .u8 n1]] W fun e w' => e = .returned (.bool true) ∧ Below W.heap.size W w' := by
  obtain rfl : len = l.length := by have := hA.1; rw [scells_length] at this; omega
  have HA := hid hA
  have hlm : (l.length : Int) ≤ 9223372036854775807 := by have h3 := hA.2.1; have h2 := hA.2.2.1; unfold maxLen at h2; omega
  have HWK := hid works27_any
  have HLG := hid (fun w (hb : Below W.heap.size W w) => long_any A l.length cap l 16 32 w (hA.below hb) hw)
  have HPL := hid (fun w (hb : Below W.heap.size W w) (y : List UInt8) => rplace_any A l.length cap l y w (hA.below hb))
  have HN0 := hid h0
  have HN1 := hid h1
  clear hA hw h0 h1
  go_enter Try.func5, Try.ntmps5
  go_upto_region 1 with (fail)
  refine at_world (fun u => u.heap[W.heap.size]? = some (.cells #[.int .u8 n0, .int .u8 n1] 35 (0, 0)) ∧ Below W.heap.size W u) ⟨heap_alloc_new _ _, (Below.refl _ _).alloc (Nat.le_refl _) _⟩ ?_
  rintro w1 ⟨hx1, hb1⟩
  have HX1 := hid hx1
  have HB1 := hid hb1
  have HL1 := hid (HLG.out w1 hb1)
  clear hx1 hb1 HLG
  cases hlb : longB l 16 32 with
  | true =>
    rw [hlb] at HL1
    clear hlb
    go_wp2_with fail
    refine HL1.out.mono ?_
    rintro e w2 ⟨rfl, rfl⟩
    go_wp2_with fail
    refine (HWK.out _).mono ?_
    rintro e w2 ⟨rfl, hb2⟩
    have HB2 := hid (HB1.out.trans (hb2.mono HB1.out.size))
    clear hb2
    go_wp2
    go_ret
    exact ⟨rfl, HB2.out⟩
  | false =>
    rw [hlb] at HL1
    have HLB := hid hlb
    clear hlb
    by_cases hz : l.length = 0
    · have hz2 : ((l.length : Int) == 0) = true := by rw [hz]; rfl
      have hz3 : (l.length : Int) = 0 := by omega
      clear hz
      go_wp2_with fail
      refine HL1.out.mono ?_
      rintro e w2 ⟨rfl, rfl⟩
      go_wp2_with fail
      refine (HWK.out _).mono ?_
      rintro e w2 ⟨rfl, hb2⟩
      have HB2 := hid (HB1.out.trans (hb2.mono HB1.out.size))
      clear hb2
      go_wp2
      go_ret
      exact ⟨rfl, HB2.out⟩
    have hz2 : ((l.length : Int) == 0) = false := beq_eq_false_iff_ne.2 (by omega)
    have HZ := hid hz
    clear hz
    go_wp2_with fail
    refine HL1.out.mono ?_
    rintro e w2 ⟨rfl, rfl⟩
    clear HL1
    go_wp2
    go_loopw [5] (fun i wr => ∃ (k : Nat), k ≤ l.length ∧ i = .int .i64 (k : Int) ∧ Hid (∀ j (hj : j < l.length), j < k → l[j] ≠ [] ∧ placeJ l l[j] = (j : Int)) ∧ Hid (wr.heap[W.heap.size]? = some (.cells #[.int .u8 n0, .int .u8 n1] 35 (0, 0))) ∧ Hid (Below W.heap.size W wr)) (fun i _ => l.length - (intOf i).toNat)
    case atStart => exact ⟨0, by omega, rfl, fun j hj h9 => by omega, HX1.out, HB1.out⟩
    case round =>
      obtain ⟨k, hk, rfl, HQ, HX, HB⟩ := hrel
      by_cases hlt : k < l.length
      · have hlt2 : (k : Int) < (l.length : Int) := by omega
        obtain ⟨b, off, rfl, c1⟩ := scells_at HA.out k hlt
        have c1 := cellb HB.out c1
        have HPK := hid (HPL.out wr HB.out l[k])
        have hw : IntKind.i64.wrap ((k : Int) + 1) = (k : Int) + 1 := IntWalk.i64_in _ (by omega)
        by_cases he : l[k] = []
        · have hte := str_nil l[k] he
          have hte2 : (str l[k]).toList.isEmpty = true := by rw [hte]; rfl
          clear he HPK
          generalize str l[k] = s at *
          go_wp2_with fail
          refine (HWK.out _).mono ?_
          rintro e w2 ⟨rfl, hb2⟩
          have HB2 := hid (HB.out.trans (hb2.mono HB.out.size))
          clear hb2
          go_wp2
          go_ret
          exact ⟨rfl, HB2.out⟩
        have hte2 := str_nemP he
        have hte : (str l[k]).toList ≠ [] := by intro e9; rw [e9] at hte2; cases hte2
        by_cases hp : placeJ l l[k] = (k : Int)
        · have HQ2 : Hid (∀ j (hj : j < l.length), j < k + 1 → l[j] ≠ [] ∧ placeJ l l[j] = (j : Int)) := hid (by
            intro j hj h9
            by_cases h8 : j = k
            · subst h8
              exact ⟨he, hp⟩
            · exact HQ.out j hj (by omega))
          rw [hp] at HPK
          clear he hp HQ
          generalize str l[k] = s at *
          go_wp2_with fail
          refine HPK.out.mono ?_
          rintro e w2 ⟨rfl, rfl⟩
          go_wp2
          go_roundw
          case rel => exact ⟨k + 1, by omega, by go_num, HQ2.out, HX.out, HB.out⟩
          case measure => simp [intOf]; omega
        · have hp2 : (placeJ l l[k] == (k : Int)) = false := by simpa using hp
          generalize placeJ l l[k] = pj at *
          clear he
          generalize str l[k] = s at *
          go_wp2_with fail
          refine HPK.out.mono ?_
          rintro e w2 ⟨rfl, rfl⟩
          go_wp2_with fail
          refine (HWK.out _).mono ?_
          rintro e w2 ⟨rfl, hb2⟩
          have HB2 := hid (HB.out.trans (hb2.mono HB.out.size))
          clear hb2
          go_wp2
          go_ret
          exact ⟨rfl, HB2.out⟩
      · have hge : ¬ (k : Int) < (l.length : Int) := by omega
        obtain rfl : k = l.length := by omega
        have HH : Hid (TkH (1 + n0) (1 + n1) l) := hid (by
          have g0 := HN0.out
          have g1 := HN1.out
          have g2 := HLB.out
          simp only [longB, Bool.or_eq_false_iff, decide_eq_false_iff_not] at g2
          have g3 := HZ.out
          refine ⟨by omega, by omega, by omega, by omega, by omega, by omega, fun y hy => ?_, nodup_place fun j hj => (HQ.out j hj hj).2⟩
          obtain ⟨j, hj, rfl⟩ := List.mem_iff_getElem.1 hy
          refine ⟨(HQ.out j hj hj).1, ?_⟩
          have g4 := g2.1
          rw [List.any_eq_false] at g4
          have := g4 _ (List.getElem_mem hj)
          simp only [decide_eq_true_eq] at this
          omega)
        have hlen : l.length ≤ 16 := HH.out.n2
        have HC1 := hid (fun w => ptNew_any 0 (1 + n0) 16 (by decide) HH.out.a1 (by have := HH.out.a2; omega) (by decide) (by decide) w)
        have HC2 := hid (fun w => ptNew_any 8 (1 + n1) 16 (by decide) HH.out.b1 (by have := HH.out.b2; omega) (by decide) (by decide) w)
        have hw0 : IntKind.i64.wrap n0 = n0 := IntWalk.i64_in _ (by have := HN0.out; omega)
        have hw1 : IntKind.i64.wrap n1 = n1 := IntWalk.i64_in _ (by have := HN1.out; omega)
        have hv0 : IntKind.i64.wrap (1 + n0) = 1 + n0 := IntWalk.i64_in _ (by have := HN0.out; omega)
        have hv1 : IntKind.i64.wrap (1 + n1) = 1 + n1 := IntWalk.i64_in _ (by have := HN1.out; omega)
        clear HQ HPL HZ HLB hz2 HX1 HB1
        go_upto_region 8 with (fail)
        go_cut [6, 7] from 51 to 60 (fun v6 v7 wx => ∃ Pa Ma Pb Mb, v6 = .pointer (some ⟨Pa, 0, none⟩) ∧ v7 = .pointer (some ⟨Pb, 0, none⟩) ∧ PortAt wx Pa Ma 0 (1 + n0) 16 [] ∧ PortAt wx Pb Mb 8 (1 + n1) 16 [] ∧ Ma ≠ Mb ∧ W.heap.size ≤ Ma ∧ W.heap.size ≤ Mb ∧ Below W.heap.size W wx)
        case rest =>
          obtain ⟨Pa, Ma, Pb, Mb, rfl, rfl, ha, hb, hn, hma, hmb, hu⟩ := hcut
          clear HX HB HC1 HC2 hw0 hw1 hv0 hv1 HN0 HN1 hge
          have HT0 := hid (ts_start ha hb hn hma hmb hu)
          clear ha hb hn hma hmb hu
          go_wp2
          go_loopw [8, 10] (fun v8 v10 wr => ∃ (k : Nat), k ≤ l.length ∧ v10 = .int .i64 (k : Int) ∧ Hid (TS W wr Pa Ma Pb Mb (1 + n0) (1 + n1) (ptP (1 + n0) l k) [] v8 (ptW (1 + n0) (1 + n1) l k) (.slice none 0 0) [])) (fun _ v10 _ => l.length - (intOf v10).toNat)
          case atStart => exact ⟨0, by omega, rfl, HT0.out⟩
          case round =>
            clear HT0
            obtain ⟨k, hk, rfl, HT⟩ := hrel
            by_cases hlt : k < l.length
            · have hlt2 : (k : Int) < (l.length : Int) := by omega
              obtain ⟨b, off, rfl, c1⟩ := scells_at HA.out k hlt
              have c1 := cellb HT.out.u c1
              have hgd : l.getD k [] = l[k] := by rw [List.getD_eq_getElem?_getD, List.getElem?_eq_getElem hlt]; rfl
              have HPU := hid (pput_any 8 l[k] wr HT.out.a (gd_P HH.out k hk) (by have := (HH.out.tx _ (List.getElem_mem hlt)).2; unfold maxLen; omega))
              have hps := put_step HH.out k hlt
              rw [hgd] at hps
              rw [hps] at HPU
              have HWS := hid (ptW_succ (1 + n0) (1 + n1) l k)
              have hwl : (ptW (1 + n0) (1 + n1) l k).length ≤ 1 := by unfold ptW; split <;> simp
              have hxl : (if k = 0 then [pbL (dtP (1 + n0) l 1 0)] else []).length ≤ 1 := by split <;> simp
              have hw : IntKind.i64.wrap ((k : Int) + 1) = (k : Int) + 1 := IntWalk.i64_in _ (by omega)
              clear hps hgd
              generalize (if k = 0 then [pbL (dtP (1 + n0) l 1 0)] else []) = X at *
              generalize str l[k] = s at *
              go_wp2_with fail
              refine HPU.out.mono ?_
              rintro e w2 ⟨Ax, cx, rfl, hox, hpx, hux, hfx⟩
              have HT2 := hid (HT.out.callA hpx hux hfx)
              have HSX := hid (sl_own hox)
              clear HPU HT hox hpx hux hfx c1
              dsimp only
              go_wp2_with (at_builtin; refine wpList_append_midw (W := w2) rfl (.tmp 78) (.tmp 79) 22 rfl W.heap.size 9 Try.underlying22 info_str rfl (by omega) rfl HT2.out.way rfl HSX.out (scells_one _) ?c1 ?c2 HT2.out.u.size (Below.refl _ _) ?_)
              case c1 => unfold maxLen; omega
              case c2 => omega
              · intro v' w4 h2 h3 h4 h5 h6
                have HT4 := hid (HT2.out.wayApp (x := X) (by rw [List.length_append, scells_append]; exact h2) h3 h5 h6)
                clear h2 h3 h4 h5 h6 HT2 HSX
                go_wp2
                go_roundw
                case rel => exact ⟨k + 1, by omega, by go_num, by rw [HWS.out]; exact HT4.out⟩
                case measure => simp [intOf]; omega
            · have hge : ¬ (k : Int) < (l.length : Int) := by omega
              obtain rfl : k = l.length := by omega
              have HT1 : Hid (TS W wr Pa Ma Pb Mb (1 + n0) (1 + n1) (phA (1 + n0) (1 + n1) l .d1) (phB (1 + n0) (1 + n1) l .d1) _ ((phW (1 + n0) (1 + n1) l .d1).map pbL) (.slice none 0 0) (l.take (phG l .d1))) := hid (by
                have h9 := HT.out
                rw [put_end HH.out] at h9
                have h8 : ptW (1 + n0) (1 + n1) l l.length = (phW (1 + n0) (1 + n1) l .d1).map pbL := by
                  have := HH.out.n1
                  rw [ptW, if_neg (by omega)]
                  rfl
                rw [h8] at h9
                exact h9)
              clear HT
              go_wp2
              go_loopw [8, 9, 13] (fun v8 v9 v13 wr => ∃ (n : Nat) (ph : Ph), n ≤ 40 ∧ v13 = .int .i64 (n : Int) ∧ Hid ((n = 0 ∧ ph = .d1) ∨ ph = .e) ∧ Hid (TS W wr Pa Ma Pb Mb (1 + n0) (1 + n1) (phA (1 + n0) (1 + n1) l ph) (phB (1 + n0) (1 + n1) l ph) v8 ((phW (1 + n0) (1 + n1) l ph).map pbL) v9 (l.take (phG l ph)))) (fun _ _ v13 _ => 40 - (intOf v13).toNat)
              case atStart => exact ⟨0, .d1, by omega, rfl, .inl ⟨rfl, rfl⟩, HT1.out⟩
              case round =>
                clear HT1
                obtain ⟨n, ph0, hn, rfl, HPH, HT⟩ := hrel
                by_cases hn2 : n < 40
                · have hn3 : (n : Int) < 40 := by omega
                  go_wp2
                  go_loopw [8, 9, 14] (fun v8 v9 v14 wr => ∃ (k : Nat) (ph : Ph), k ≤ 200 ∧ v14 = .int .i64 (k : Int) ∧ Hid (phO (1 + n1) l ph) ∧ Hid (k + phR l ph ≤ 34) ∧ Hid (TS W wr Pa Ma Pb Mb (1 + n0) (1 + n1) (phA (1 + n0) (1 + n1) l ph) (phB (1 + n0) (1 + n1) l ph) v8 ((phW (1 + n0) (1 + n1) l ph).map pbL) v9 (l.take (phG l ph)))) (fun _ _ v14 _ => 200 - (intOf v14).toNat)
                  case atStart =>
                    have hO : phO (1 + n1) l ph0 := by
                      rcases HPH.out with ⟨-, rfl⟩ | rfl
                      · trivial
                      · trivial
                    exact ⟨0, ph0, by omega, rfl, hO, by have := ph_rank HH.out ph0 hO; show 0 + _ ≤ 34; omega, HT.out⟩
                  case round =>
                    clear HT HPH
                    obtain ⟨k, ph, hk, rfl, HO, HR, HT⟩ := hrel
                    have hR := HR.out
                    have hk3 : (k : Int) < 200 := by have := HR.out; unfold Hid at this; omega
                    rcases ph_step HH.out ph HO.out with rfl | ⟨x, hx, hst, hO2, hr2⟩
                    · have HTe : Hid (TS W wr Pa Ma Pb Mb (1 + n0) (1 + n1) (phA (1 + n0) (1 + n1) l .e) (phB (1 + n0) (1 + n1) l .e) _ [] _ (l.take (phG l .e))) := HT
                      clear HT HR HO
                      obtain ⟨A8, c8, rfl, -⟩ := HTe.out.way.form
                      have HTA := hid (ptick_any wr HTe.out.a (gd_A HH.out .e trivial))
                      rw [tick_A] at HTA
                      have hw : IntKind.i64.wrap ((n : Int) + 1) = (n : Int) + 1 := IntWalk.i64_in _ (by omega)
                      simp only [List.length_nil]
                      go_wp2_with fail
                      refine HTA.out.mono ?_
                      rintro e w2 ⟨Ax, cx, rfl, hox, hpx, hux, hfx⟩
                      have HT2 := hid (HTe.out.callA hpx hux hfx)
                      have HSX := hid (sl_own hox)
                      clear HTA HTe hox hpx hux hfx
                      dsimp only
                      go_wp2_with (at_builtin; refine wpList_append_midw (W := w2) rfl (.tmp 140) (.tmp 142) 22 rfl W.heap.size 9 Try.underlying22 info_str rfl (by omega) rfl HT2.out.way rfl HSX.out (scells_one _) (by simp [maxLen]) (by simp) HT2.out.u.size (Below.refl _ _) ?_)
                      · intro v2 w3 h2 h3 h4 h5 h6
                        have HT3 : Hid (TS W w3 Pa Ma Pb Mb (1 + n0) (1 + n1) (phA (1 + n0) (1 + n1) l .e) (phB (1 + n0) (1 + n1) l .e) v2 [] _ (l.take (phG l .e))) := hid (HT2.out.wayApp (x := []) h2 h3 h5 h6)
                        have HTB := hid (ptick_any w3 HT3.out.b (gd_B HH.out .e trivial))
                        rw [tick_B] at HTB
                        clear h2 h3 h4 h5 h6 HT2 HSX
                        go_wp2_with fail
                        refine HTB.out.mono ?_
                        rintro e w4 ⟨Ax, cx, rfl, hox, hpx, hux, hfx⟩
                        have HT4 := hid (HT3.out.callB hpx hux hfx)
                        have HSX := hid (sl_own hox)
                        clear HTB HT3 hox hpx hux hfx
                        dsimp only
                        go_wp2_with (at_builtin; refine wpList_append_midw (W := w4) rfl (.tmp 144) (.tmp 146) 22 rfl W.heap.size 9 Try.underlying22 info_str rfl (by omega) rfl HT4.out.way rfl HSX.out (scells_one _) (by simp [maxLen]) (by simp) HT4.out.u.size (Below.refl _ _) ?_)
                        · intro v3 w5 h2 h3 h4 h5 h6
                          have HT5 : Hid (TS W w5 Pa Ma Pb Mb (1 + n0) (1 + n1) (phA (1 + n0) (1 + n1) l .e) (phB (1 + n0) (1 + n1) l .e) v3 [] _ (l.take (phG l .e))) := hid (HT4.out.wayApp (x := []) h2 h3 h5 h6)
                          clear h2 h3 h4 h5 h6 HT4 HSX
                          go_wp2
                          go_roundw
                          case rel => exact ⟨n + 1, .e, by omega, by go_num, .inr rfl, HT5.out⟩
                          case measure => simp [intOf]; omega
                    · have HTs : Hid (TS W wr Pa Ma Pb Mb (1 + n0) (1 + n1) (phA (1 + n0) (1 + n1) l ph) (phB (1 + n0) (1 + n1) l ph) _ [pbL x] _ (l.take (phG l ph))) := hid (by
                        have h9 := HT.out
                        rw [hx] at h9
                        exact h9)
                      clear HT hx
                      obtain ⟨A8, c8, rfl, hsl⟩ := HTs.out.way.form
                      obtain ⟨b, off, rfl, c1⟩ := hsl.at 0 (by rw [scells_length]; exact Nat.zero_lt_one)
                      have c1 : wr.cell? ⟨b, off, none⟩ = some (.string (str (pbL x))) := c1
                      simp only [List.length_cons, List.length_nil, Nat.zero_add] at HTs ⊢
                      have hc8 : 1 ≤ c8 := hsl.2.1
                      have hrun : ∀ w : World, (Instr.slice 22 (.slice (some ⟨b, off, none⟩) 1 c8) (some (.int .i64 1)) none none).run Try.prog w = .ok (.slice (dropA (some ⟨b, off, none⟩) c8 1 1) 0 (c8 - 1)) w := fun w => run_from Try.underlying22 info_str (some ⟨b, off, none⟩) 1 c8 1 (by omega) w
                      have HTp := hid HTs.out.pop
                      have hxl : ((phW (1 + n0) (1 + n1) l (phN (1 + n1) l ph)).map pbL).length ≤ 1 := by rw [List.length_map]; exact phW_len _
                      have hw : IntKind.i64.wrap ((k : Int) + 1) = (k : Int) + 1 := IntWalk.i64_in _ (by omega)
                      have HRR : Hid (k + 1 + phR l (phN (1 + n1) l ph) ≤ 34) := hid (by have := HR.out; unfold Hid at this; omega)
                      have HOO := hid hO2
                      clear hsl hr2 hR HR hO2
                      generalize dropA (some ⟨b, off, none⟩) c8 1 1 = A9 at *
                      rcases hst with hst | hst
                      · obtain ⟨tx, hv⟩ := stA_tak hst
                        have HTA := hid (ptake_any (pbL x) wr HTs.out.a (gd_A HH.out ph HO.out) (pbL_len hst.2.2.1))
                        rw [hv] at HTA
                        have HB9 := hid hst.2.2.2.2.2.1
                        have HG9 := hid hst.2.2.2.2.2.2
                        clear hv hst HTs
                        obtain ⟨X, hX⟩ : ∃ X, X = (phW (1 + n0) (1 + n1) l (phN (1 + n1) l ph)).map pbL := ⟨_, rfl⟩
                        rw [← hX] at HTA hxl
                        have HXX := hid hX
                        clear hX
                        generalize str (pbL x) = s at *
                        go_wp2_with fail
                        refine HTA.out.mono ?_
                        rintro e w2 ⟨Ax, cx, rfl, hox, hpx, hux, hfx⟩
                        have HT2 := hid (HTp.out.callA hpx hux hfx)
                        have HSX := hid (sl_own hox)
                        clear HTA HTp hox hpx hux hfx c1 hrun
                        dsimp only
                        go_wp2_with (at_builtin; refine wpList_append_midw (W := w2) rfl (.tmp 137) (.tmp 138) 22 rfl W.heap.size 9 Try.underlying22 info_str rfl (by omega) rfl HT2.out.way rfl HSX.out (scells_one _) (by unfold maxLen; show 0 + X.length ≤ _; omega) (by show (0 + X.length) * 16 ≤ _; omega) HT2.out.u.size (Below.refl _ _) ?_)
                        · intro v2 w3 h2 h3 h4 h5 h6
                          have HT3 := hid (HT2.out.wayApp (x := X) (by rw [List.nil_append]; simpa [scells] using h2) h3 h5 h6)
                          rw [List.nil_append, ← HB9.out, ← HG9.out] at HT3
                          clear h2 h3 h4 h5 h6 HT2 HSX
                          go_wp2
                          go_roundw
                          case rel => exact ⟨k + 1, phN (1 + n1) l ph, by omega, by go_num, HOO.out, HRR.out, by rw [← HXX.out]; exact HT3.out⟩
                          case measure => simp [intOf]; omega
                      · obtain ⟨hva, hvb⟩ := stB_tak hst
                        have hch := pbL_len hst.2.2.1
                        have HTA := hid (ptake_any (pbL x) wr HTs.out.a (gd_A HH.out ph HO.out) hch)
                        rw [hva] at HTA
                        have HTB := hid (fun w (h : PortAt w Pb Mb 8 (1 + n1) 16 (phB (1 + n0) (1 + n1) l ph)) => ptake_any (pbL x) w h (gd_B HH.out ph HO.out) hch)
                        rw [hvb] at HTB
                        have HA9 := hid hst.2.2.2.2.2.1
                        have hlast := hst.2.2.2.2.2.2
                        obtain ⟨X, hX⟩ : ∃ X, X = (phW (1 + n0) (1 + n1) l (phN (1 + n1) l ph)).map pbL := ⟨_, rfl⟩
                        rw [← hX] at HTB hxl
                        have HXX := hid hX
                        clear hX hva hvb hch hst HTs
                        rcases hlast with ⟨ht, hg⟩ | ⟨hgl, ht, hg⟩
                        · rw [ht] at HTB
                          have HG9 := hid hg
                          clear ht hg
                          generalize str (pbL x) = s at *
                          go_wp2_with fail
                          refine HTA.out.mono ?_
                          rintro e w2 ⟨Ax, cx, rfl, -, hpx, hux, hfx⟩
                          have HT2 := hid (HTp.out.callA hpx hux hfx)
                          have HTB2 := hid (HTB.out w2 HT2.out.b)
                          clear HTA HTp HTB hpx hux hfx c1 hrun
                          dsimp only
                          go_wp2_with fail
                          refine HTB2.out.mono ?_
                          rintro e w3 ⟨Ay, cy, rfl, hox, hpx, hux, hfx⟩
                          have HT3 := hid (HT2.out.callB hpx hux hfx)
                          have HSX := hid (sl_own hox)
                          clear HTB2 HT2 hox hpx hux hfx
                          dsimp only
                          go_wp2_with (at_builtin; refine wpList_append_midw (W := w3) rfl (.tmp 137) (.tmp 138) 22 rfl W.heap.size 9 Try.underlying22 info_str rfl (by omega) rfl HT3.out.way rfl HSX.out (scells_one _) (by unfold maxLen; show 0 + X.length ≤ _; omega) (by show (0 + X.length) * 16 ≤ _; omega) HT3.out.u.size (Below.refl _ _) ?_)
                          · intro v2 w4 h2 h3 h4 h5 h6
                            have HT4 := hid (HT3.out.wayApp (x := X) (by rw [List.nil_append]; simpa [scells] using h2) h3 h5 h6)
                            rw [List.nil_append, ← HA9.out, ← HG9.out] at HT4
                            clear h2 h3 h4 h5 h6 HT3 HSX
                            go_wp2
                            go_roundw
                            case rel => exact ⟨k + 1, phN (1 + n1) l ph, by omega, by go_num, HOO.out, HRR.out, by rw [← HXX.out]; exact HT4.out⟩
                            case measure => simp [intOf]; omega
                        · rw [ht] at HTB
                          have HG9 := hid hg
                          have hne : l.getD (phG l ph) [] ≠ [] := (HH.out.gt _ hgl).1
                          have hte2 := str_nemP hne
                          have hte : (str (l.getD (phG l ph) [])).toList ≠ [] := by intro e9; rw [e9] at hte2; cases hte2
                          have HTS : Hid (scells [l.getD (phG l ph) []] = [.string (str (l.getD (phG l ph) []))]) := hid rfl
                          have HTK : Hid (l.take (phG l ph + 1) = l.take (phG l ph) ++ [l.getD (phG l ph) []]) := hid (by rw [List.take_succ_eq_append_getElem hgl, List.getD_eq_getElem?_getD, List.getElem?_eq_getElem hgl]; rfl)
                          have hgn : (l.take (phG l ph)).length ≤ 16 := by rw [List.length_take]; omega
                          clear ht hg hne
                          generalize str (l.getD (phG l ph) []) = ts at *
                          generalize str (pbL x) = s at *
                          go_wp2_with fail
                          refine HTA.out.mono ?_
                          rintro e w2 ⟨Ax, cx, rfl, -, hpx, hux, hfx⟩
                          have HT2 := hid (HTp.out.callA hpx hux hfx)
                          have HTB2 := hid (HTB.out w2 HT2.out.b)
                          have HLT := hid (fun gg h9 => HT2.out.lt gg (.inr h9))
                          clear HTA HTp HTB hpx hux hfx c1 hrun
                          dsimp only
                          go_wp2_with fail
                          refine HTB2.out.mono ?_
                          rintro e w3 ⟨Ay, cy, rfl, hox, hpx, hux, hfx⟩
                          have HT3 := hid (HT2.out.callB hpx hux hfx)
                          have hbl : Below w3.heap.size w3 (w3.alloc (.cells #[.string ts] 9)) := (Below.refl _ _).alloc (Nat.le_refl _) _
                          have HTk := hid (HT3.out.keep hbl)
                          have HXk := hid (own_keep hox hbl)
                          have HSL := hid (Sl.lit w3 9 1 1 #[.string ts] rfl (by unfold maxLen; omega))
                          clear HTB2 HT2 hox hpx hux hfx hbl
                          dsimp only
                          go_wp2_with (at_builtin; refine wpList_append_midw (W := w3.alloc (.cells #[.string ts] 9)) rfl (.tmp 123) (.tmp 125) 22 rfl W.heap.size 9 Try.underlying22 info_str rfl (by omega) rfl HTk.out.got rfl HSL.out (fun u hu => by simp at hu; subst hu; rfl) (by unfold maxLen; omega) (by omega) HTk.out.u.size (Below.refl _ _) ?_)
                          · intro v5 w5 h2 h3 h4 h5 h6
                            have HT5 := hid (HTk.out.gotApp (x := [l.getD (phG l ph) []]) (by rw [List.length_append, List.length_take, scells_append, HTS.out]; exact h2) h3 (fun g hg hn => h5 g (by simpa using hg) hn) (by simpa using h6))
                            rw [← HTK.out] at HT5
                            have HSX := hid (sl_own (own_hkP HXk.out (w' := w5) fun g hg1 hg2 => h5 g (by simpa using hg2) fun e9 => by have := HLT.out g e9; omega))
                            clear h2 h3 h4 h5 h6 HTk HXk HSL HT3 HLT
                            go_wp2_with (at_builtin; refine wpList_append_midw (W := w5) rfl (.tmp 137) (.tmp 138) 22 rfl W.heap.size 9 Try.underlying22 info_str rfl (by omega) rfl HT5.out.way rfl HSX.out (scells_one _) (by unfold maxLen; show 0 + X.length ≤ _; omega) (by show (0 + X.length) * 16 ≤ _; omega) HT5.out.u.size (Below.refl _ _) ?_)
                            · intro v2 w4 h2 h3 h4 h5 h6
                              have HT4 := hid (HT5.out.wayApp (x := X) (by rw [List.nil_append]; simpa [scells] using h2) h3 h5 h6)
                              rw [List.nil_append, ← HA9.out, ← HG9.out] at HT4
                              clear h2 h3 h4 h5 h6 HT5 HSX
                              go_wp2
                              go_roundw
                              case rel => exact ⟨k + 1, phN (1 + n1) l ph, by omega, by go_num, HOO.out, HRR.out, by rw [← HXX.out]; exact HT4.out⟩
                              case measure => simp [intOf]; omega
                · have hge2 : ¬ (n : Int) < 40 := by omega
                  obtain rfl : n = 40 := by omega
                  obtain rfl : ph0 = .e := by
                    rcases HPH.out with ⟨h9, -⟩ | h9
                    · cases h9
                    · exact h9
                  have HTe : Hid (TS W wr Pa Ma Pb Mb (1 + n0) (1 + n1) (phA (1 + n0) (1 + n1) l .e) (phB (1 + n0) (1 + n1) l .e) _ [] _ l) := hid (by
                    have h9 := HT.out
                    rw [show l.take (phG l .e) = l from List.take_length] at h9
                    exact h9)
                  clear HT HPH
                  obtain ⟨A9, c9, rfl, hs9⟩ := HTe.out.got.form
                  have HSM := hid (same03 A9 A l.length c9 l.length cap l l wr hs9 (HA.out.below HTe.out.u) (by omega) (by omega))
                  rw [beq_self_eq_true] at HSM
                  have HW1 := hid (fun q => pwaits_any 8 (wr.drewN q) (HTe.out.a.below ⟨rfl, rfl, rfl, Nat.le_refl _, fun _ _ => rfl⟩) (by decide) (by decide))
                  have HW2 := hid (fun q => pwaits_any 0 (wr.drewN q) (HTe.out.b.below ⟨rfl, rfl, rfl, Nat.le_refl _, fun _ _ => rfl⟩) (by decide) (by decide))
                  rw [wait_A] at HW1
                  rw [wait_B] at HW2
                  have HU9 := hid HTe.out.u
                  clear HTe hs9
                  go_wp2_with fail
                  refine HSM.out.mono ?_
                  rintro e w2 ⟨rfl, q, rfl⟩
                  go_wp2_with fail
                  refine (HW1.out q).mono ?_
                  rintro e w2 ⟨rfl, rfl⟩
                  go_wp2_with fail
                  refine (HW2.out q).mono ?_
                  rintro e w2 ⟨rfl, rfl⟩
                  go_wp2_with fail
                  refine (HWK.out _).mono ?_
                  rintro e w2 ⟨rfl, hb2⟩
                  have HB2 : Hid (Below W.heap.size W w2) := hid (HU9.out.trans ((Below.trans (⟨rfl, rfl, rfl, Nat.le_refl _, fun _ _ => rfl⟩ : Below _ wr (wr.drewN q)) hb2).mono HU9.out.size))
                  clear hb2
                  go_wp2
                  go_ret
                  exact ⟨rfl, HB2.out⟩
        have HWR := hid HB.out.size
        have hk0 : Below wr.heap.size wr wr.drew := below_drew (Below.refl _ _)
        have hS : ∀ U, Below wr.heap.size wr U → (U.cell? ⟨W.heap.size, 0, none⟩ = some (.int .u8 n0) ∧ U.cell? ⟨W.heap.size, 1, none⟩ = some (.int .u8 n1)) := fun U hU => by
          have h9 := keep0 HX.out hU
          exact ⟨by rw [cell_of_row U _ 0 _ _ _ h9]; rfl, by rw [cell_of_row U _ 1 _ _ _ h9]; rfl⟩
        refine wp_region_held_drew (S := fun U => U.cell? ⟨W.heap.size, 0, none⟩ = some (.int .u8 n0) ∧ U.cell? ⟨W.heap.size, 1, none⟩ = some (.int .u8 n1)) (by kernel_rfl) (hS _ hk0) (fun hHeld => ?_)
        generalize wr.drew = k0 at *
        refine wpAnyH_take (i := 0) (v := ?_) rfl (by kernel_rfl) (by kernel_rfl) (by kernel_rfl) (fun _ _ _ h => h) (Or.inl ⟨by rfl, ?_⟩) (by assumption) ?_
        rotate_left
        focus
          intro U hU
          try dsimp only at hU
          go_simp
          try (with_reducible rfl)
        simp only [List.getElem_toArray, List.getElem_cons_succ, List.getElem_cons_zero, Act.put, List.setIfInBounds_toArray, List.set_cons_zero, List.set_cons_succ]
        refine wpAnyH_take (i := 1) (v := ?_) rfl (by kernel_rfl) (by kernel_rfl) (by kernel_rfl) (fun _ _ _ h => h) (Or.inl ⟨by rfl, ?_⟩) (by assumption) ?_
        rotate_left
        focus
          intro U hU
          try dsimp only at hU
          go_simp
          try (with_reducible rfl)
        simp only [List.getElem_toArray, List.getElem_cons_succ, List.getElem_cons_zero, Act.put, List.setIfInBounds_toArray, List.set_cons_zero, List.set_cons_succ]
        refine wpAnyH_take (i := 2) (v := ?_) rfl (by kernel_rfl) (by kernel_rfl) (by kernel_rfl) (fun _ _ _ h => h) (Or.inl ⟨by rfl, ?_⟩) (by assumption) ?_
        rotate_left
        focus
          intro U hU
          try dsimp only at hU
          go_simp
          try (with_reducible rfl)
        simp only [List.getElem_toArray, List.getElem_cons_succ, List.getElem_cons_zero, Act.put, List.setIfInBounds_toArray, List.set_cons_zero, List.set_cons_succ]
        refine wpAnyH_take (i := 3) (v := ?_) rfl (by kernel_rfl) (by kernel_rfl) (by kernel_rfl) (fun _ _ _ h => h) (Or.inl ⟨by rfl, ?_⟩) (by assumption) ?_
        rotate_left
        focus
          intro U hU
          try dsimp only at hU
          go_simp
          try (with_reducible rfl)
        simp only [List.getElem_toArray, List.getElem_cons_succ, List.getElem_cons_zero, Act.put, List.setIfInBounds_toArray, List.set_cons_zero, List.set_cons_succ]
        refine wpAnyH_take (i := 5) (v := ?_) rfl (by kernel_rfl) (by kernel_rfl) (by kernel_rfl) (fun _ _ _ h => h) (Or.inl ⟨by rfl, ?_⟩) (by assumption) ?_
        rotate_left
        focus
          intro U hU
          try dsimp only at hU
          go_simp
          try (with_reducible rfl)
        simp only [List.getElem_toArray, List.getElem_cons_succ, List.getElem_cons_zero, Act.put, List.setIfInBounds_toArray, List.set_cons_zero, List.set_cons_succ]
        refine wpAnyH_take (i := 6) (v := ?_) rfl (by kernel_rfl) (by kernel_rfl) (by kernel_rfl) (fun _ _ _ h => h) (Or.inl ⟨by rfl, ?_⟩) (by assumption) ?_
        rotate_left
        focus
          intro U hU
          try dsimp only at hU
          go_simp
          try (with_reducible rfl)
        simp only [List.getElem_toArray, List.getElem_cons_succ, List.getElem_cons_zero, Act.put, List.setIfInBounds_toArray, List.set_cons_zero, List.set_cons_succ]
        refine wpAnyH_take (i := 7) (v := ?_) rfl (by kernel_rfl) (by kernel_rfl) (by kernel_rfl) (fun _ _ _ h => h) (Or.inl ⟨by rfl, ?_⟩) (by assumption) ?_
        rotate_left
        focus
          intro U hU
          try dsimp only at hU
          go_simp
          try (with_reducible rfl)
        simp only [List.getElem_toArray, List.getElem_cons_succ, List.getElem_cons_zero, Act.put, List.setIfInBounds_toArray, List.set_cons_zero, List.set_cons_succ]
        refine wpAnyH_take (i := 8) (v := ?_) rfl (by kernel_rfl) (by kernel_rfl) (by kernel_rfl) (fun _ _ _ h => h) (Or.inl ⟨by rfl, ?_⟩) (by assumption) ?_
        rotate_left
        focus
          intro U hU
          try dsimp only at hU
          go_simp
          try (with_reducible rfl)
        simp only [List.getElem_toArray, List.getElem_cons_succ, List.getElem_cons_zero, Act.put, List.setIfInBounds_toArray, List.set_cons_zero, List.set_cons_succ]
        refine wpAnyH_ready (rs := [4]) (by kernel_rfl) (by simp) ?_
        refine (AllReadyH.cons rfl (fun K hK => ?_) AllReadyH.nil)
        simp only [List.getElem_toArray, List.getElem_cons_succ, List.getElem_cons_zero]
        go_simp
        refine (HC1.out k0).mono ?_
        rintro e k1 ⟨Pa, Ma, rfl, -, hma, ha2, hq⟩
        have hk1 := hk0.trans (hq.mono hk0.size)
        replace hma := Nat.le_trans HWR.out (Nat.le_trans hk0.size hma)
        have hlt := ha2.ends.lt
        clear hq
        go_wp2_with fail
        refine hK.out _ _ ?_ (fun hHeld2 => ?_)
        focus
          exact hS _ hk1
        clear hHeld
        have hHeld := hHeld2
        clear hHeld2 hK K
        try simp only [List.getElem_toArray, List.getElem_cons_succ, List.getElem_cons_zero, Act.put, List.setIfInBounds_toArray, List.set_cons_zero, List.set_cons_succ]
        refine wpAnyH_ready (rs := [9]) (by kernel_rfl) (by simp) ?_
        refine (AllReadyH.cons rfl (fun K hK => ?_) AllReadyH.nil)
        simp only [List.getElem_toArray, List.getElem_cons_succ, List.getElem_cons_zero]
        go_simp
        refine (HC2.out k1).mono ?_
        rintro e k2 ⟨Pb, Mb, rfl, -, hmb, hb2, hq⟩
        have hk2 := hk1.trans (hq.mono hk1.size)
        replace ha2 := ha2.below hq
        have hne : Ma ≠ Mb := by omega
        replace hmb := Nat.le_trans HWR.out (Nat.le_trans hk1.size hmb)
        clear hq hlt
        go_wp2_with fail
        refine hK.out _ _ ?_ (fun hHeld2 => ?_)
        focus
          exact hS _ hk2
        clear hHeld
        have hHeld := hHeld2
        clear hHeld2 hK K
        try simp only [List.getElem_toArray, List.getElem_cons_succ, List.getElem_cons_zero, Act.put, List.setIfInBounds_toArray, List.set_cons_zero, List.set_cons_succ]
        refine wpAnyH_take (i := 10) (v := ?_) rfl (by kernel_rfl) (by kernel_rfl) (by kernel_rfl) (fun _ _ _ h => h) (Or.inl ⟨by rfl, ?_⟩) (by assumption) ?_
        rotate_left
        focus
          intro U hU
          try dsimp only at hU
          go_simp
          try (with_reducible rfl)
        simp only [List.getElem_toArray, List.getElem_cons_succ, List.getElem_cons_zero, Act.put, List.setIfInBounds_toArray, List.set_cons_zero, List.set_cons_succ]
        refine wpAnyH_take (i := 11) (v := ?_) rfl (by kernel_rfl) (by kernel_rfl) (by kernel_rfl) (fun _ _ _ h => h) (Or.inl ⟨by rfl, ?_⟩) (by assumption) ?_
        rotate_left
        focus
          intro U hU
          try dsimp only at hU
          go_simp
          try (with_reducible rfl)
        simp only [List.getElem_toArray, List.getElem_cons_succ, List.getElem_cons_zero, Act.put, List.setIfInBounds_toArray, List.set_cons_zero, List.set_cons_succ]
        refine wpAnyH_done (by kernel_rfl) ?_ _
        clear hHeld hS
        have hu := HB.out.trans (hk2.mono HB.out.size)
        clear hk2
        go_wp2_with fail
        go_meet
        exact ⟨_, _, _, _, rfl, rfl, ha2, hb2, hne, hma, hmb, hu⟩
end Go.Proofs.Ytdphdodjidbngaa

namespace Go.Proofs.Ytdphdodjidbngaa
open Go.RowKit Go.Sort
set_option linter.unusedVariables false
set_option linter.unusedSimpArgs false

theorem wf_u8P {n : Int} (h : (Lit.int .u8 n).wf = true) : 0 ≤ n ∧ n < 256 := by
  simp [Lit.wf, IntKind.min, IntKind.max, IntKind.signed, IntKind.bits] at h
  omega
theorem portTalks_rd (A : Option Addr) (len cap : Nat) (zs : List ByteArray) (c : Array Value) (w : World) (hz : IsTexts w A len cap zs) (hr : Rd Try.prog w 35 c.toList) :
    Calls Try.prog 5 #[.slice A len cap, .agg c] w fun e w' => e = .returned (.bool true) ∧ Below w.heap.size w w' := by
  obtain ⟨l, hl, _, hm⟩ := Sl.of_texts hz
  obtain ⟨xs, hx⟩ := Rd.array_ints Try.underlying35 Try.underlying5 (by kernel_rfl) (by kernel_rfl) hr
  obtain ⟨a, b, rfl, ha, hb⟩ := ints2 hx
  exact portTalks_law A len cap l a b (wf_u8P ha) (wf_u8P hb) w hl hm
end Go.Proofs.Ytdphdodjidbngaa
