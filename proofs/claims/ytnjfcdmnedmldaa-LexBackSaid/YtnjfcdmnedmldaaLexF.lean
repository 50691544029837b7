/- lex.Words: contract. -/
import Derived.Test.YtnjfcdmnedmldaaLexE
import Derived.Laws.Cover4
namespace Go.Proofs.Ytnjfcdmnedmldaa
open Go.RowKit
set_option linter.unusedVariables false
set_option linter.unusedSimpArgs false

theorem conv_rune (c : Int) (w : World) : (convert 21 9 (.int .i32 c)).run Try.prog w = .ok (.string (Utf8.encode c)) w := by
  simp [convert, run_underlying Try.underlying21, run_underlying Try.underlying9, go_sem, Conv.intToString]
theorem enc_low (c : Nat) (h : c < 128) : Utf8.encode (c : Int) = str [UInt8.ofNat c] := by
  unfold Utf8.encode
  have hv : Utf8.valid (c : Int) = true := by simp [Utf8.valid]; omega
  rw [hv]
  simp only [if_true, Int.toNat_natCast]
  rw [if_pos h]
  rfl
theorem iterPos_of {w : World} {k pos : Nat} {s : ByteArray} (h : w.heap[k]? = some (.stringIter s pos)) : w.iterPos k = pos := by simp [World.iterPos, h]
theorem info_word : (Try.prog.info? 54).map (fun i => (i.zero, i.size, i.bytes)) = some (some (.agg #[.string ⟨#[]⟩, .int .i64 0]), 2, 24) := by kernel_rfl
theorem addL_len : ∀ (ws : List Wd) (t : List UInt8), (addL ws t).length = ws.length
  | [], t => rfl
  | [w], t => rfl
  | w :: v :: ws, t => by
    have := addL_len (v :: ws) t
    simp only [addL, List.length_cons] at this ⊢
    omega

set_option maxRecDepth 20000 in
set_option maxHeartbeats 8000000 in
theorem words_is (l : List UInt8) (hl : l.length ≤ 1000) (W : World) : Calls Try.prog 27 #[.string (str l)] W fun e w' => ∃ A c, e = .returned (.tuple #[.slice A (lexW l).1.length c, .int .i64 ((lexW l).2.1 : Nat), .int .i64 ((lexW l).2.2 : Nat)]) ∧ w'.ownsRow W.heap.size 54 2 (.slice A (lexW l).1.length c) (lexW l).1.length (wcells (lexW l).1) ∧ Below W.heap.size W w' := by
  have HSZ := hid (str_size l)
  by_cases hlong : 200 < l.length
  · have h2 : 200 < ((str l).size : Int) := by rw [HSZ.out]; omega
    have hW : Hid (lexW l = ([], 0, 4)) := hid (by rw [lexW, if_pos hlong])
    clear hlong
    go_enter Try.func27, Try.ntmps27
    go_wp2
    refine bodyPost_ret (v := .tuple #[.slice none 0 0, .int .i64 0, .int .i64 4]) (by simp [results, Try.results27, go_sem]) rfl ?_
    rw [hW.out]
    exact ⟨none, 0, rfl, World.ownsRow_nil _ _ _ _, Below.refl _ _⟩
  · have h2 : ((str l).size : Int) ≤ 200 := by rw [HSZ.out]; omega
    have hl2 : l.length ≤ 200 := by omega
    have HF : Hid (lexF l [] false 0 (rns l 0) = lexW l) := hid (by rw [lexW, if_neg hlong])
    generalize lexW l = F at *
    clear hlong
    go_enter Try.func27, Try.ntmps27
    go_wp2_with fail
    go_loopw [5, 6, 7] (fun v i r wr => ∃ (k p : Nat) (ws : List Wd) (run : Bool), i = .int .i64 (k : Int) ∧ r = .bool run ∧ p ≤ l.length ∧ k ≤ p ∧ ws.length ≤ k ∧ Hid (run = true → 0 < ws.length) ∧ Hid (lexF l ws run k (rns l p) = F) ∧ Hid (∀ w ∈ ws, w.1.length ≤ 4 * k) ∧ Hid (wr.heap[W.heap.size]? = some (.stringIter (str l) p)) ∧ Hid (wr.ownsRow (W.heap.size + 1) 54 2 v ws.length (wcells ws)) ∧ Hid (Below W.heap.size W wr)) (fun _ _ _ wr => l.length - wr.iterPos W.heap.size)
    case atStart => exact ⟨0, 0, [], false, rfl, rfl, by omega, Nat.le_refl _, Nat.le_refl _, (fun h => absurd h (by decide)), HF.out, (fun w h => absurd h (List.not_mem_nil)), World.iter_heap _ _ _, World.ownsRow_nil _ _ _ _, (Below.refl _ _).alloc (Nat.le_refl _) _⟩
    case round =>
      obtain ⟨k, p, ws, run, rfl, rfl, hp, hkp, hwk, HRU, HX, HSM, HIT, HO, HB⟩ := hrel
      by_cases hpl : p < l.length
      · have hdc : Utf8.decode (str l) p = (codeN (l.drop p) (szN (l.drop p)), max (szN (l.drop p)) 1) := by
          rw [decode_drop, dec_sz _ (by rw [List.length_drop]; omega)]
        have hnx : ∀ ty, (Instr.next (.pointer (some ⟨W.heap.size, 0, none⟩)) true ty).run Try.prog wr = .ok (.tuple #[.bool true, .int .i64 (p : Int), .int .i32 ((codeN (l.drop p) (szN (l.drop p)) : Nat) : Int)]) (wr.iterAt W.heap.size (str l) (p + max (szN (l.drop p)) 1)) := fun ty => by
          rw [Lib.run_next_any_at wr W.heap.size (str l) p ty HIT.out (by rw [str_size]; exact hpl), hdc]
        have hwd : 1 ≤ max (szN (l.drop p)) 1 := szN_1 _
        have hpm := step_le l p hpl
        have HST := hid (rns_step l p hpl)
        have HCR : Hid (LetP ((codeN (l.drop p) (szN (l.drop p)) : Nat) : Int) → ∀ w, (convert 21 9 (.int .i32 ((codeN (l.drop p) (szN (l.drop p)) : Nat) : Int))).run Try.prog w = .ok (.string (str (bytesR l p))) w) := hid (fun h w => by
          rw [conv_rune, enc_sz _ (by rw [List.length_drop]; omega) (let_whole l p h)]
          rfl)
        have hbr : (bytesR l p).length ≤ 4 := by
          have := (szN_le (l.drop p) (by rw [List.length_drop]; omega)).2
          rw [bytesR, List.length_take]; omega
        clear hdc
        generalize max (szN (l.drop p)) 1 = mm at *
        generalize codeN (l.drop p) (szN (l.drop p)) = cc at *
        have HIT0 := hid (iterPos_of HIT.out)
        have KK : (wr.iterAt W.heap.size (str l) (p + mm)).heap[W.heap.size]? = some (.stringIter (str l) (p + mm)) ∧ (wr.iterAt W.heap.size (str l) (p + mm)).ownsRow (W.heap.size + 1) 54 2 u5 ws.length (wcells ws) ∧ Below W.heap.size W (wr.iterAt W.heap.size (str l) (p + mm)) :=
          ⟨Lib.iterAt_heap _ _ _ _ _ HIT.out, own_iterAt HO.out (by omega), Lib.below_iterAt HB.out (Nat.le_refl _) _ _⟩
        have HKK := hid KK
        clear KK
        go_upto_region 8 with (fail)
        have KK := HKK.out
        clear HKK HIT HO HB hnx
        refine at_world (fun w => w.heap[W.heap.size]? = some (.stringIter (str l) (p + mm)) ∧ w.ownsRow (W.heap.size + 1) 54 2 u5 ws.length (wcells ws) ∧ Below W.heap.size W w) KK ?_
        clear KK
        rintro w2 ⟨IT, ho, hb⟩
        have HIT := hid IT
        have HO := hid ho
        have HB := hid hb
        have HZ := hid (show W.heap.size + 1 ≤ w2.heap.size by have := lt_of_block IT; omega)
        clear IT ho hb
        have HLE := hid (fun W => letter_is (cc : Int) W)
        have HSG := hid (fun W => sign_is (cc : Int) W)
        by_cases hlet : LetP (cc : Int)
        · rw [decide_eq_true hlet] at HLE
          have hcv := HCR.out hlet
          have HX0 := hid (show lexF l (addL (if run = true then ws else ws ++ [([], k)]) (bytesR l p)) true (k + 1) (rns l (p + mm)) = F by rw [← HX.out, HST.out, lexF_let _ _ _ _ _ _ hlet])
          have hbs : (str (bytesR l p)).size ≤ 4 := by rw [str_size]; exact hbr
          clear HCR hlet HST HSG
          generalize bytesR l p = br at *
          cases run with
          | true =>
            obtain ⟨vs, w0, hws⟩ : ∃ vs w0, ws = vs ++ [w0] := by
              rcases List.eq_nil_or_concat ws with h | ⟨L, b, h⟩
              · have := HRU.out rfl
                rw [h] at this
                exact absurd this (by simp)
              · exact ⟨L, b, by simpa using h⟩
            subst hws
            have HX2 := hid (show lexF l (addL (vs ++ [w0]) br) true (k + 1) (rns l (p + mm)) = F from HX0.out)
            have HSB : Hid (∀ w ∈ addL (vs ++ [w0]) br, w.1.length ≤ 4 * (k + 1)) := hid (fun w hw => by
              rw [addL_snoc, List.mem_append, List.mem_singleton] at hw
              rcases hw with hw | rfl
              · have := HSM.out w (by simp [hw]); omega
              · have := HSM.out w0 (by simp)
                show (w0.1 ++ br).length ≤ _
                rw [List.length_append]; omega)
            have hws0 : (str w0.1).size ≤ 800 := by rw [str_size]; have := HSM.out w0 (by simp); omega
            have hsum : (str w0.1).size + (str br).size ≤ 9223372036854775807 := by omega
            have hvk : vs.length + 1 ≤ k := by rw [List.length_append, List.length_singleton] at hwk; exact hwk
            clear HX0 HRU hwk
            go_upto_region 13 with (go_at_call 20; refine (HLE.out _).mono ?_; rintro e w' ⟨rfl, rfl⟩)
            clear HLE
            obtain ⟨g, cap, hv, hgb, hnc, hcm, hcl, hst, hglt⟩ := own_open HO.out (by rw [List.length_append, List.length_singleton]; omega) (by omega)
            obtain ⟨cA, cF⟩ := hcl (vs.length * 2) (by rw [wcells_length, List.length_append, List.length_singleton]; omega)
            have hc9 := (wcells_get (vs ++ [w0]) vs.length (by rw [List.length_append, List.length_singleton]; omega)).1
            rw [List.getElem_concat_length rfl, List.getElem?_eq_getElem (by rw [wcells_length, List.length_append, List.length_singleton]; omega)] at hc9
            rw [Option.some.inj hc9] at cA
            have hS := hst (vs.length * 2) (.string (str (w0.1 ++ br)))
            rw [wcells_add vs w0 br] at hS
            have HS9 := hid hS
            have hNE : g ≠ W.heap.size := by omega
            have HI9 := hid ((Below.heap_setCell w2 ⟨g, vs.length * 2, none⟩ (.string (str w0.1 ++ str br)) W.heap.size (by simpa using hNE.symm)).trans HIT.out)
            have HB9 := hid (HB.out.setCell (show W.heap.size ≤ (⟨g, vs.length * 2, none⟩ : Addr).block by simp; omega) (.string (str w0.1 ++ str br)))
            clear hS hst hcl hc9 hNE
            have hv2 : u5 = .slice (some ⟨g, 0, none⟩) (vs.length + 1) cap := by rw [hv, List.length_append, List.length_singleton]
            subst hv2
            have hn1 : vs.length + 1 ≤ 201 := by rw [List.length_append, List.length_singleton] at hnc; omega
            clear hv
            have HA9 := hid (addL_len (vs ++ [w0]) br)
            have hcnt : (vs ++ [w0]).length = vs.length + 1 := by rw [List.length_append, List.length_singleton]
            have HCN := hid hcnt
            clear hcnt hnc
            go_wp2
            go_roundw
            case rel => exact ⟨k + 1, p + mm, addL (vs ++ [w0]) br, true, by go_num, rfl, hpm, by omega, by rw [HA9.out, HCN.out]; omega, (fun _ => by rw [HA9.out, HCN.out]; omega), HX2.out, HSB.out, HI9.out, by rw [Hid, HA9.out, str_app]; rw [Hid] at HS9; simpa [HCN.out] using HS9, HB9.out⟩
            case measure => rw [iterPos_of HI9.out, HIT0.out]; omega
          | false =>
            have HX2 := hid (show lexF l (addL (ws ++ [([], k)]) br) true (k + 1) (rns l (p + mm)) = F from HX0.out)
            clear HX0 HRU
            go_wp2_with (first
              | (go_at_call 20; refine (HLE.out _).mono ?_; rintro e w' ⟨rfl, rfl⟩)
              | (at_builtin; refine wpList_append_1 (W := w2) rfl (.tmp 24) (.tmp 27) 45 rfl (W.heap.size + 1) 54 Try.underlying45 info_word rfl (by omega) rfl HO.out rfl rfl (by simp; first | exact ⟨rfl, rfl⟩ | rfl) ?c1 ?c2 HZ.out (Below.refl _ _) ?_))
            case c1 => unfold maxLen; omega
            case c2 => omega
            intro v' w' g2 g3 g4
            have HO3 : Hid (w'.ownsRow (W.heap.size + 1) 54 2 v' (ws ++ [(([] : List UInt8), k)]).length (wcells (ws ++ [([], k)]))) := hid (by rw [List.length_append, wcells_append]; exact g2)
            have HI3 := hid ((g3.block W.heap.size (by omega)).trans HIT.out)
            have HB3 := hid (HB.out.trans (g3.mono (Nat.le_succ _)))
            clear g2 g3 g4 HIT HO HB HZ
            have HSM2 : Hid (∀ w ∈ ws ++ [(([] : List UInt8), k)], w.1.length ≤ 4 * k) := hid (fun w hw => by
              rw [List.mem_append, List.mem_singleton] at hw
              rcases hw with hw | rfl
              · exact HSM.out w hw
              · show 0 ≤ 4 * k; omega)
            clear HSM
            obtain ⟨w0, hw0⟩ : ∃ w0 : Wd, w0 = (([] : List UInt8), k) := ⟨_, rfl⟩
            rw [← hw0] at HO3 HSM2 HX2
            obtain ⟨vs, hvs⟩ : ∃ vs : List Wd, vs = ws := ⟨_, rfl⟩
            rw [← hvs] at HO3 HSM2 HX2 hwk
            have HSB : Hid (∀ w ∈ addL (vs ++ [w0]) br, w.1.length ≤ 4 * (k + 1)) := hid (fun w hw => by
              rw [addL_snoc, List.mem_append, List.mem_singleton] at hw
              rcases hw with hw | rfl
              · have := HSM2.out w (by simp [hw]); omega
              · have := HSM2.out w0 (by simp)
                show (w0.1 ++ br).length ≤ _
                rw [List.length_append]; omega)
            have hws0 : (str w0.1).size ≤ 800 := by rw [str_size]; have := HSM2.out w0 (by simp); omega
            have hsum : (str w0.1).size + (str br).size ≤ 9223372036854775807 := by omega
            have hvk : vs.length ≤ k := hwk
            clear HLE hw0 hvs hwk
            go_upto_region 13 with (fail)
            obtain ⟨g, cap, hv, hgb, hnc, hcm, hcl, hst, hglt⟩ := own_open HO3.out (by rw [List.length_append, List.length_singleton]; omega) (by omega)
            obtain ⟨cA, cF⟩ := hcl (vs.length * 2) (by rw [wcells_length, List.length_append, List.length_singleton]; omega)
            have hc9 := (wcells_get (vs ++ [w0]) vs.length (by rw [List.length_append, List.length_singleton]; omega)).1
            rw [List.getElem_concat_length rfl, List.getElem?_eq_getElem (by rw [wcells_length, List.length_append, List.length_singleton]; omega)] at hc9
            rw [Option.some.inj hc9] at cA
            have hS := hst (vs.length * 2) (.string (str (w0.1 ++ br)))
            rw [wcells_add vs w0 br] at hS
            have HS9 := hid hS
            have hNE : g ≠ W.heap.size := by omega
            have HI9 := hid ((Below.heap_setCell w' ⟨g, vs.length * 2, none⟩ (.string (str w0.1 ++ str br)) W.heap.size (by simpa using hNE.symm)).trans HI3.out)
            have HB9 := hid (HB3.out.setCell (show W.heap.size ≤ (⟨g, vs.length * 2, none⟩ : Addr).block by simp; omega) (.string (str w0.1 ++ str br)))
            clear hS hst hcl hc9 hNE
            have hv2 : v' = .slice (some ⟨g, 0, none⟩) (vs.length + 1) cap := by rw [hv, List.length_append, List.length_singleton]
            subst hv2
            have hn1 : vs.length + 1 ≤ 201 := by rw [List.length_append, List.length_singleton] at hnc; omega
            clear hv
            have HA9 := hid (addL_len (vs ++ [w0]) br)
            have hcnt : (vs ++ [w0]).length = vs.length + 1 := by rw [List.length_append, List.length_singleton]
            have HCN := hid hcnt
            clear hcnt hnc
            go_wp2
            go_roundw
            case rel => exact ⟨k + 1, p + mm, addL (vs ++ [w0]) br, true, by go_num, rfl, hpm, by omega, by rw [HA9.out, HCN.out]; omega, (fun _ => by rw [HA9.out, HCN.out]; omega), HX2.out, HSB.out, HI9.out, by rw [Hid, HA9.out, str_app]; rw [Hid] at HS9; simpa [HCN.out] using HS9, HB9.out⟩
            case measure => rw [iterPos_of HI9.out, HIT0.out]; omega
        · rw [decide_eq_false hlet] at HLE
          by_cases hsg : SigP (cc : Int)
          · have HX2 := hid (show lexF l (ws ++ [([UInt8.ofNat cc], k)]) false (k + 1) (rns l (p + mm)) = F by rw [← HX.out, HST.out, lexF_sig _ _ _ _ _ _ hlet hsg])
            rw [decide_eq_true hsg] at HSG
            have hcv : ∀ w, (convert 21 9 (.int .i32 (cc : Int))).run Try.prog w = .ok (.string (str [UInt8.ofNat cc])) w := fun w => by rw [conv_rune, enc_low cc (by unfold SigP at hsg; omega)]
            have HS2 : Hid (∀ w ∈ ws ++ [([UInt8.ofNat cc], k)], w.1.length ≤ 4 * (k + 1)) := hid (fun w hw => by
              rw [List.mem_append, List.mem_singleton] at hw
              rcases hw with hw | rfl
              · have := HSM.out w hw; omega
              · show 1 ≤ 4 * (k + 1); omega)
            clear HCR hlet hsg HST
            generalize UInt8.ofNat cc = bb at *
            go_wp2_with (first
              | (go_at_call 20; refine (HLE.out _).mono ?_; rintro e w' ⟨rfl, rfl⟩)
              | (go_at_call 39; refine (HSG.out _).mono ?_; rintro e w' ⟨rfl, rfl⟩)
              | (at_builtin; refine wpList_append_1 (W := w2) rfl (.tmp 44) (.tmp 49) 45 rfl (W.heap.size + 1) 54 Try.underlying45 info_word rfl (by omega) rfl HO.out rfl rfl (by simp; first | exact ⟨rfl, rfl⟩ | rfl) ?c1 ?c2 HZ.out (Below.refl _ _) ?_))
            case c1 => unfold maxLen; omega
            case c2 => omega
            intro v' w' g2 g3 g4
            have HO3 := hid g2
            have HI3 := hid ((g3.block W.heap.size (by omega)).trans HIT.out)
            have HB3 := hid (HB.out.trans (g3.mono (Nat.le_succ _)))
            clear g2 g3 g4
            go_wp2
            go_roundw
            case rel => exact ⟨k + 1, p + mm, ws ++ [([bb], k)], false, by go_num, rfl, hpm, by omega, by rw [List.length_append, List.length_singleton]; omega, (fun h => absurd h (by decide)), HX2.out, HS2.out, HI3.out, by rw [Hid, List.length_append, wcells_append]; exact HO3.out, HB3.out⟩
            case measure => rw [iterPos_of HI3.out, HIT0.out]; omega
          · rw [decide_eq_false hsg] at HSG
            by_cases h32 : cc = 32
            · have HX2 := hid (show lexF l ws false (k + 1) (rns l (p + mm)) = F by rw [← HX.out, HST.out, lexF_blank _ _ _ _ _ _ h32])
              have HS2 : Hid (∀ w ∈ ws, w.1.length ≤ 4 * (k + 1)) := hid (fun w hw => by have := HSM.out w hw; omega)
              subst h32
              clear HCR hlet hsg HST
              go_wp2_with (first
                | (go_at_call 20; refine (HLE.out _).mono ?_; rintro e w' ⟨rfl, rfl⟩)
                | (go_at_call 39; refine (HSG.out _).mono ?_; rintro e w' ⟨rfl, rfl⟩))
              go_roundw
              case rel => exact ⟨k + 1, p + mm, ws, false, by go_num, rfl, hpm, by omega, by omega, (fun h => absurd h (by decide)), HX2.out, HS2.out, HIT.out, HO.out, HB.out⟩
              case measure => rw [iterPos_of HIT.out, HIT0.out]; omega
            · have HX2 := hid (show F = ([], k, 3) by rw [← HX.out, HST.out, lexF_bad _ _ _ _ _ _ hlet hsg h32])
              have e32 : ((cc : Int) == 32) = false := by rw [beq_eq_false_iff_ne]; omega
              clear HCR hlet hsg HST h32
              go_wp2_with (first
                | (go_at_call 20; refine (HLE.out _).mono ?_; rintro e w' ⟨rfl, rfl⟩)
                | (go_at_call 39; refine (HSG.out _).mono ?_; rintro e w' ⟨rfl, rfl⟩))
              refine bodyPost_ret (v := .tuple #[.slice none 0 0, .int .i64 (k : Int), .int .i64 3]) (by simp [results, Try.results27, go_sem]) rfl ?_
              rw [HX2.out]
              exact ⟨none, 0, rfl, World.ownsRow_nil _ _ _ _, HB.out⟩
      · have hnx : ∀ ty, (Instr.next (.pointer (some ⟨W.heap.size, 0, none⟩)) true ty).run Try.prog wr = .ok (.tuple #[.bool false]) wr := fun ty => Lib.run_next_end_at wr W.heap.size (str l) p ty HIT.out (by rw [str_size]; omega)
        have HF2 : Hid (F = (ws, 0, 0)) := hid (by rw [← HX.out, rns_end l p (by omega)]; rfl)
        obtain ⟨A9, c9, rfl, _⟩ := Sl.of_own HO.out
        go_wp2
        refine bodyPost_ret (v := .tuple #[.slice A9 ws.length c9, .int .i64 0, .int .i64 0]) (by simp [results, Try.results27, go_sem]) rfl ?_
        rw [HF2.out]
        exact ⟨A9, c9, rfl, own_mono HO.out (by omega), HB.out⟩
end Go.Proofs.Ytnjfcdmnedmldaa
