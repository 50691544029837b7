/- The document's Words: contract. -/
import Derived.Test.YtnjfcdmnedmldaaLexC
import Derived.Test.YtnjfcdmnedmldaaGlyF
import Derived.Laws.DeepStrings4
namespace Go.Proofs.Ytnjfcdmnedmldaa
open Go.RowKit Go.Sort
set_option linter.unusedVariables false
set_option linter.unusedSimpArgs false

/-- The words of a text, the place, the answer. -/
def lexW (l : List UInt8) : List Wd × Nat × Nat := if 200 < l.length then ([], 0, 4) else lexF l [] false 0 (rns l 0)
theorem str_mid2 (l : List UInt8) (u n : Nat) : (str l).extract u (u + n) = str ((l.drop u).take n) := by
  apply ByteArray.ext
  simp [str, ByteArray.data_extract, List.extract_eq_take_drop]
theorem sl_mid (l : List UInt8) (a b : Nat) (h : a ≤ b) (hb : b ≤ l.length) (w : World) : (Instr.slice 9 (.string (str l)) (some (.int .i64 (a : Int))) (some (.int .i64 (b : Int))) none).run Try.prog w = .ok (.string (str ((l.drop a).take (b - a)))) w := by
  rw [run_slice_string_if w 9 (str l) .i64 .i64 (a : Int) (b : Int) Try.underlying9, if_pos ⟨by omega, by rw [str_size]; omega⟩, if_pos ⟨by omega, by omega⟩, Int.toNat_natCast, Int.toNat_natCast, ← str_mid2, show a + (b - a) = b by omega]
theorem rcells_get0 : ∀ (l : List Rn) (k : Nat) (h : k < l.length), (rcells l)[k * 3]? = some (.int .i64 (l[k].1 : Nat))
  | r :: l, 0, _ => rfl
  | r :: l, k + 1, h => by
    have ih := rcells_get0 l k (by simpa using h)
    rw [show rcells (r :: l) = .int .i64 (r.1 : Nat) :: .int .i64 (r.2.1 : Nat) :: .bool r.2.2 :: rcells l from rfl, show (k + 1) * 3 = k * 3 + 1 + 1 + 1 by omega]
    simpa using ih
theorem Sl.rune0 {w : World} {b off len cap : Nat} {l : List Rn} (h : Sl w 3 (some ⟨b, off, none⟩) len cap (rcells l)) (k : Nat) (hk : k < l.length) : w.cell? ⟨b, off + k * 3, none⟩ = some (.int .i64 (l[k].1 : Nat)) := by
  have hl := rcells_length l
  obtain ⟨b', off', ha, hc⟩ := h.2.2.2 (by omega)
  cases ha
  rw [hc _ (by omega), rcells_get0 l k hk]
/-- The k-th rune, where it stands. -/
theorem get_rns (l : List UInt8) (k p : Nat) (hk : k < (rns l 0).length) (h : (rns l 0).drop k = rns l p) : p < l.length ∧ (rns l 0)[k] = (p, codeN (l.drop p) (szN (l.drop p)), decide (0 < szN (l.drop p))) := by
  have h1 := List.drop_eq_getElem_cons hk
  rw [h] at h1
  by_cases hp : p < l.length
  · refine ⟨hp, ?_⟩
    rw [rns_step l p hp] at h1
    exact (List.cons.inj h1).1.symm
  · rw [rns_end l p (by omega)] at h1
    cases h1
theorem end_rns (l : List UInt8) (k p : Nat) (hk : (rns l 0).length ≤ k) (hp : p ≤ l.length) (h : (rns l 0).drop k = rns l p) : p = l.length := by
  rw [List.drop_eq_nil_of_le hk] at h
  have := hd_pos l p hp
  rw [← h] at this
  exact this.symm
theorem info_rword : (Try.prog.info? 53).map (fun i => (i.zero, i.size, i.bytes)) = some (some (.agg #[.string ⟨#[]⟩, .int .i64 0]), 2, 24) := by kernel_rfl

set_option maxRecDepth 20000 in
set_option maxHeartbeats 8000000 in
theorem rwords_is (l : List UInt8) (hl : l.length ≤ 1000) (W : World) : Calls Try.prog 28 #[.string (str l)] W fun e w' => ∃ A c, e = .returned (.tuple #[.slice A (lexW l).1.length c, .int .i64 ((lexW l).2.1 : Nat), .int .i64 ((lexW l).2.2 : Nat)]) ∧ w'.ownsRow W.heap.size 53 2 (.slice A (lexW l).1.length c) (lexW l).1.length (wcells (lexW l).1) ∧ Below W.heap.size W w' := by
  have HSZ := hid (str_size l)
  by_cases hlong : 200 < l.length
  · have h2 : 200 < ((str l).size : Int) := by rw [HSZ.out]; omega
    have hW : Hid (lexW l = ([], 0, 4)) := hid (by rw [lexW, if_pos hlong])
    clear hlong
    go_enter Try.func28, Try.ntmps28
    go_wp2
    refine bodyPost_ret (v := .tuple #[.slice none 0 0, .int .i64 0, .int .i64 4]) (by simp [results, Try.results28, go_sem]) rfl ?_
    rw [hW.out]
    exact ⟨none, 0, rfl, World.ownsRow_nil _ _ _ _, Below.refl _ _⟩
  · have h2 : ((str l).size : Int) ≤ 200 := by rw [HSZ.out]; omega
    have hl2 : l.length ≤ 200 := by omega
    have HF : Hid (lexF l [] false 0 (rns l 0) = lexW l) := hid (by rw [lexW, if_neg hlong])
    generalize lexW l = F at *
    have HC := hid (rrunes_is l hl W)
    have HN := hid (rns_le l 0)
    have HDR := hid (drop_step l)
    have HGET := hid (fun k p hk h => get_rns l k p hk h)
    have HEND := hid (fun k p hk hp h => end_rns l k p hk hp h)
    have HD0 : Hid ((rns l 0).drop 0 = rns l 0) := hid rfl
    have HLL : Hid ((rns l 0).length ≤ 200) := hid (by have := rns_le l 0; omega)
    go_enter Try.func28, Try.ntmps28
    go_wp2_with fail
    refine HC.out.mono ?_
    rintro e w1 ⟨A, c, rfl, ho, hb⟩
    obtain ⟨A', c', hAc, hs⟩ := Sl.of_own ho
    cases hAc
    have HS := hid hs
    have HB := hid hb
    clear ho hb hs HC
    generalize hrs : rns l 0 = rs at *
    have HRS := hid hrs
    clear hrs hlong
    have HLW := hid (fun (ws : List Wd) (k : Nat) (rs' : List Rn) (h : ∀ r rs'', rs' = r :: rs'' → ¬ LetP (r.2.1 : Int)) => lexF_run l ws k rs' h)
    go_wp2_with fail
    go_loopw [6, 7] (fun v i wr => ∃ (k p : Nat) (ws : List Wd), i = .int .i64 (k : Int) ∧ k ≤ rs.length ∧ p ≤ l.length ∧ ws.length ≤ k ∧ Hid (rs.drop k = rns l p) ∧ Hid (lexF l ws false k (rns l p) = F) ∧ Hid (wr.ownsRow w1.heap.size 53 2 v ws.length (wcells ws)) ∧ Hid (Below w1.heap.size w1 wr)) (fun _ i _ => rs.length - (intOf i).toNat)
    case atStart => exact ⟨0, 0, [], rfl, by omega, by omega, Nat.le_refl _, HRS.out.symm, by rw [Hid, HRS.out]; exact HF.out, World.ownsRow_nil _ _ _ _, Below.refl _ _⟩
    case round =>
      obtain ⟨k, p, ws, rfl, hk, hp, hwk, HD, HX, HO, HBW⟩ := hrel
      have hkk : rs.length ≤ 200 := HLL.out
      by_cases hlt : k < rs.length
      · have hlt2 : (k : Int) < (rs.length : Int) := by omega
        obtain ⟨hpl, hgk⟩ := HGET.out k p hlt HD.out
        obtain ⟨b, off, hA⟩ := HS.out.addr3 (by rw [rcells_length]; omega)
        subst hA
        have HRN := hid (fun w (hw : Below w1.heap.size w1 w) j (hj : j < rs.length) => And.intro ((HS.out.below hw).rune0 j hj) ((HS.out.below hw).rune j hj).1)
        obtain ⟨c0, c1⟩ := HRN.out _ HBW.out k hlt
        have HD2 := hid (HDR.out k p hpl HD.out)
        have HSTP := hid (step_le l p hpl)
        have HC0 := hid (rns_step l p hpl)
        have HLF := hid (lexF_first l ws k p hpl)
        have HBL := hid (fun r rs' => lexF_blank l ws false k r rs')
        have HSI := hid (fun r rs' => lexF_sig l ws false k r rs')
        have HBD := hid (fun r rs' => lexF_bad l ws false k r rs')
        rw [hgk] at c0 c1
        have HGK := hid hgk
        clear hgk
        simp only at c0 c1
        generalize hcc : codeN (l.drop p) (szN (l.drop p)) = cc at c1 HC0 HLF
        have HCC := hid hcc
        clear hcc
        generalize hmm : max (szN (l.drop p)) 1 = mm at HD2 HSTP HC0 HLF
        have HMM := hid hmm
        have hm1 : 1 ≤ mm := by rw [← hmm]; exact szN_1 _
        clear hmm
        have hpm := HSTP.out
        by_cases h32 : cc = 32
        · have HX2 := hid (show lexF l ws false (k + 1) (rns l (p + mm)) = F by rw [← HX.out, HC0.out, HBL.out _ _ h32])
          subst h32
          clear HLF HBL HSI HBD
          go_wp2
          go_roundw
          case rel => exact ⟨k + 1, p + mm, ws, by go_num, by omega, hpm, by omega, HD2.out, HX2.out, HO.out, HBW.out⟩
          case measure => simp [intOf]; omega
        · have e32 : ((cc : Int) == 32) = false := by rw [beq_eq_false_iff_ne]; omega
          have HSG := hid (fun W => rsign_is (cc : Int) W)
          have HLE := hid (fun W => rletter_is (cc : Int) W)
          by_cases hsg : SigP (cc : Int)
          · have hnl : ¬ LetP (cc : Int) := by unfold SigP at hsg; unfold LetP; omega
            have HX2 := hid (show lexF l (ws ++ [([UInt8.ofNat cc], k)]) false (k + 1) (rns l (p + mm)) = F by rw [← HX.out, HC0.out, HSI.out _ _ hnl hsg])
            rw [decide_eq_true hsg] at HSG
            have hc127 : cc < 128 := by unfold SigP at hsg; omega
            have hw8 : IntKind.u8.wrap (cc : Int) = (cc : Int) := by simp [IntKind.wrap, IntKind.bits, IntKind.signed]; omega
            have hv := conv_one (UInt8.ofNat cc) (cc : Int) (by rw [UInt8.toNat_ofNat']; omega)
            clear HLF HBL HSI HBD hsg hnl h32 HLE
            generalize UInt8.ofNat cc = bb at *
            have HLIT : Hid (Sl ((wr.alloc (.cells #[.int .u8 (cc : Int)] 5)).alloc (.cells #[.string (str [bb]), .int .i64 (k : Int)] 53)) 2 (some ⟨wr.heap.size + 1, 0, none⟩) 1 1 (wcells [([bb], k)])) := hid (by
              have h9 := Sl.lit (wr.alloc (.cells #[.int .u8 (cc : Int)] 5)) 53 2 1 #[.string (str [bb]), .int .i64 (k : Int)] rfl (by unfold maxLen; omega)
              rw [World.size_alloc] at h9
              exact h9)
            have HB2 : Hid (Below w1.heap.size w1 ((wr.alloc (.cells #[.int .u8 (cc : Int)] 5)).alloc (.cells #[.string (str [bb]), .int .i64 (k : Int)] 53))) := hid ((HBW.out.alloc HBW.out.size _).alloc (HBW.out.alloc HBW.out.size _).size _)
            have HZ2 := hid HB2.out.size
            go_wp2_with (first
              | (go_at_call 40; refine (HSG.out _).mono ?_; rintro e w' ⟨rfl, rfl⟩)
              | (at_builtin; refine wpList_append_sl (W := w1) rfl (.tmp 31) (.tmp 38) 48 rfl w1.heap.size 53 Try.underlying48 info_rword rfl (by omega) rfl ((HO.out.alloc _).alloc _) rfl HLIT.out (wcells_one [([bb], k)]) (by unfold maxLen; omega) (by omega) HZ2.out HB2.out ?_))
            intro v' w' g2 g3 g4
            have HO3 := hid g2
            clear g2
            go_wp2
            go_roundw
            case rel => exact ⟨k + 1, p + mm, ws ++ [([bb], k)], by go_num, by omega, hpm, by rw [List.length_append]; exact Nat.succ_le_succ hwk, HD2.out, HX2.out, by rw [Hid, List.length_append, wcells_append]; exact HO3.out, g3⟩
            case measure => simp [intOf]; omega
          · rw [decide_eq_false hsg] at HSG
            by_cases hlet : LetP (cc : Int)
            · rw [decide_eq_true hlet] at HLE
              have HLC := hid (show LetP ((codeN (l.drop p) (szN (l.drop p)) : Nat) : Int) by rw [HCC.out]; exact hlet)
              clear HBL HSI HBD HLF hlet hsg h32
              go_wp2_with (first
                | (go_at_call 40; refine (HSG.out _).mono ?_; rintro e w' ⟨rfl, rfl⟩)
                | (go_at_call 21; refine (HLE.out _).mono ?_; rintro e w' ⟨rfl, rfl⟩))
              go_loop [9] (fun kv => ∃ (k2 p2 : Nat), kv = .int .i64 (k2 : Int) ∧ k ≤ k2 ∧ k2 ≤ rs.length ∧ p2 ≤ l.length ∧ p ≤ p2 ∧ Hid (rs.drop k2 = rns l p2) ∧ Hid ((k2 = k ∧ p2 = p) ∨ (k < k2 ∧ lexF l (ws ++ [((l.drop p).take (p2 - p), k)]) true k2 (rns l p2) = F))) (fun kv => rs.length - (intOf kv).toNat)
              case atStart => exact ⟨k, p, rfl, Nat.le_refl _, by omega, hp, Nat.le_refl _, HD.out, .inl ⟨rfl, rfl⟩⟩
              case round =>
                obtain ⟨k2, p2, rfl, hkk2, hk2, hp2, hpp2, HDk, HXk⟩ := hrel
                by_cases hlt3 : k2 < rs.length
                · have hlt4 : (k2 : Int) < (rs.length : Int) := by omega
                  obtain ⟨hpl2, hgk2⟩ := HGET.out k2 p2 hlt3 HDk.out
                  obtain ⟨d0, d1⟩ := HRN.out _ HBW.out k2 hlt3
                  rw [hgk2] at d0 d1
                  clear hgk2
                  simp only at d0 d1
                  have HST2 := hid (show LetP ((codeN (l.drop p2) (szN (l.drop p2)) : Nat) : Int) → lexF l (ws ++ [((l.drop p).take (p2 + max (szN (l.drop p2)) 1 - p), k)]) true (k2 + 1) (rns l (p2 + max (szN (l.drop p2)) 1)) = F from fun hL => by
                    rcases HXk.out with ⟨e1, e2⟩ | ⟨_, e⟩
                    · rw [e2] at hL
                      rw [e1, e2, ← lexF_first l ws k p hpl hL]
                      exact HX.out
                    · rw [← lexF_grow l ws k k2 p p2 hpl2 hpp2 hL]
                      exact e)
                  have HNE2 := hid (show ¬ LetP ((codeN (l.drop p2) (szN (l.drop p2)) : Nat) : Int) → lexF l (ws ++ [((l.drop p).take (p2 - p), k)]) false k2 (rns l p2) = F ∧ k < k2 from fun hN => by
                    rcases HXk.out with ⟨e1, e2⟩ | ⟨h, e⟩
                    · rw [e2] at hN
                      exact absurd HLC.out hN
                    · refine ⟨(HLW.out _ _ _ (fun r rs'' he => ?_)).symm.trans e, h⟩
                      rw [rns_step l p2 hpl2] at he
                      obtain ⟨rfl, _⟩ := List.cons.inj he
                      exact hN)
                  have HDk2 := hid (HDR.out k2 p2 hpl2 HDk.out)
                  have hstp := step_le l p2 hpl2
                  have HLE2 := hid (fun W => rletter_is ((codeN (l.drop p2) (szN (l.drop p2)) : Nat) : Int) W)
                  have hmm1 : 1 ≤ max (szN (l.drop p2)) 1 := szN_1 _
                  generalize max (szN (l.drop p2)) 1 = mm2 at *
                  generalize codeN (l.drop p2) (szN (l.drop p2)) = cc2 at *
                  by_cases hlet2 : LetP (cc2 : Int)
                  · rw [decide_eq_true hlet2] at HLE2
                    have HX2 := hid (HST2.out hlet2)
                    clear HST2 HNE2 hlet2
                    go_wp2_with (go_at_call 21; refine (HLE2.out _).mono ?_; rintro e w' ⟨rfl, rfl⟩)
                    go_round
                    case rel => exact ⟨k2 + 1, p2 + mm2, by go_num, by omega, by omega, hstp, by omega, HDk2.out, .inr ⟨by omega, HX2.out⟩⟩
                    case measure => simp [intOf]; omega
                  · rw [decide_eq_false hlet2] at HLE2
                    obtain ⟨hx9, hkl⟩ := HNE2.out hlet2
                    have HXE := hid hx9
                    have hsm := sl_mid l p p2 hpp2 hp2
                    clear HST2 HNE2 hlet2 hx9 HXk
                    have HHS := hid (rfl : True = True)
                    generalize (l.drop p).take (p2 - p) = sg at *
                    go_wp2_with (first
                      | (go_at_call 21; refine (HLE2.out _).mono ?_; rintro e w' ⟨rfl, rfl⟩)
                      | (at_builtin; refine wpList_append_1 (W := w1) rfl (.tmp 72) (.tmp 83) 48 rfl w1.heap.size 53 Try.underlying48 info_rword rfl (by omega) rfl HO.out rfl rfl (by simp; first | exact ⟨rfl, rfl⟩ | rfl) ?c1 ?c2 HBW.out.size HBW.out ?_))
                    case c1 => unfold maxLen; omega
                    case c2 => omega
                    intro v' w' g2 g3 g4
                    have HO3 := hid g2
                    clear g2
                    go_wp2
                    go_roundw
                    case rel => exact ⟨k2, p2, ws ++ [(sg, k)], rfl, hk2, hp2, by rw [List.length_append, List.length_singleton]; omega, HDk.out, HXE.out, by rw [Hid, List.length_append, wcells_append]; exact HO3.out, g3⟩
                    case measure => simp [intOf]; omega
                · obtain rfl : k2 = rs.length := by omega
                  have hge : ¬ ((rs.length : Nat) : Int) < ((rs.length : Nat) : Int) := by omega
                  have HE := hid (HEND.out _ p2 (Nat.le_refl _) hp2 HDk.out)
                  have HXE := hid (show lexF l (ws ++ [((l.drop p).take (p2 - p), k)]) false rs.length (rns l p2) = F from by
                    rcases HXk.out with ⟨e1, e2⟩ | ⟨h, e⟩
                    · omega
                    · refine (HLW.out _ _ _ (fun r rs'' he => ?_)).symm.trans e
                      rw [rns_end l p2 (by rw [HE.out]; exact Nat.le_refl _)] at he
                      cases he)
                  have hsm := sl_mid l p p2 hpp2 hp2
                  rw [show (p2 : Int) = ((str l).size : Int) by rw [HSZ.out, HE.out]] at hsm
                  have HLE2 := HLE
                  have hkl : k < rs.length := hlt
                  have hk2 : rs.length ≤ rs.length := Nat.le_refl _
                  clear HXk hge
                  have HHS := hid (rfl : True = True)
                  generalize (l.drop p).take (p2 - p) = sg at *
                  go_wp2_with (first
                      | (go_at_call 21; refine (HLE2.out _).mono ?_; rintro e w' ⟨rfl, rfl⟩)
                      | (at_builtin; refine wpList_append_1 (W := w1) rfl (.tmp 72) (.tmp 83) 48 rfl w1.heap.size 53 Try.underlying48 info_rword rfl (by omega) rfl HO.out rfl rfl (by simp; first | exact ⟨rfl, rfl⟩ | rfl) ?c1 ?c2 HBW.out.size HBW.out ?_))
                  case c1 => unfold maxLen; omega
                  case c2 => omega
                  intro v' w' g2 g3 g4
                  have HO3 := hid g2
                  clear g2
                  go_wp2
                  go_roundw
                  case rel => exact ⟨rs.length, p2, ws ++ [(sg, k)], rfl, hk2, hp2, by rw [List.length_append, List.length_singleton]; omega, HDk.out, HXE.out, by rw [Hid, List.length_append, wcells_append]; exact HO3.out, g3⟩
                  case measure => simp [intOf]; omega
            · have HX2 := hid (show F = ([], k, 3) by rw [← HX.out, HC0.out, HBD.out _ _ hlet hsg h32])
              rw [decide_eq_false hlet] at HLE
              clear HLF HBL HSI HBD hsg hlet h32
              go_wp2_with (first
                | (go_at_call 40; refine (HSG.out _).mono ?_; rintro e w' ⟨rfl, rfl⟩)
                | (go_at_call 21; refine (HLE.out _).mono ?_; rintro e w' ⟨rfl, rfl⟩))
              refine bodyPost_ret (v := .tuple #[.slice none 0 0, .int .i64 (k : Int), .int .i64 3]) (by simp [results, Try.results28, go_sem]) rfl ?_
              rw [HX2.out]
              exact ⟨none, 0, rfl, World.ownsRow_nil _ _ _ _, HB.out.trans (HBW.out.mono HB.out.size)⟩
      · obtain rfl : k = rs.length := by omega
        have hge : ¬ ((rs.length : Nat) : Int) < ((rs.length : Nat) : Int) := by omega
        have HE := hid (HEND.out _ p (Nat.le_refl _) hp HD.out)
        have HF2 : Hid (F = (ws, 0, 0)) := hid (by rw [← HX.out, HE.out, rns_end l l.length (Nat.le_refl _)]; rfl)
        clear hlt hge hk
        obtain ⟨A9, c9, rfl, _⟩ := Sl.of_own HO.out
        go_wp2
        refine bodyPost_ret (v := .tuple #[.slice A9 ws.length c9, .int .i64 0, .int .i64 0]) (by simp [results, Try.results28, go_sem]) rfl ?_
        rw [HF2.out]
        exact ⟨A9, c9, rfl, own_mono HO.out HB.out.size, HB.out.trans (HBW.out.mono HB.out.size)⟩
end Go.Proofs.Ytnjfcdmnedmldaa
