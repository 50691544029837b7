/- DrawPlays. -/
import Derived.Test.YtadjmgmdnekllaaDrawV
import Derived.Deep.RegionHeld3
import Derived.Deep.Cut
import Derived.Deep.CutRange
namespace Go.Proofs.Ytadjmgmdnekllaa
open Go.RowKit Go.Sort
set_option linter.unusedVariables false
set_option linter.unusedSimpArgs false

theorem pk_rest : ∀ (m : Nat) (l : List Nat) (e : List Int), (pk m l e).2.length ≤ l.length ∧ ∀ x ∈ (pk m l e).2, x ∈ l
  | 0, l, e => by rw [pk_zero]; exact ⟨Nat.le_refl _, fun _ h => h⟩
  | m + 1, l, e => by
    by_cases h : e.length = 0
    · have : e = [] := List.length_eq_zero_iff.1 h
      rw [this, pk_nil]; exact ⟨Nat.le_refl _, fun _ h => h⟩
    · rw [pk_step m l e h]
      obtain ⟨h1, h2⟩ := pk_rest m l.tail (e.eraseIdx (l.headD 0 % e.length))
      simp only
      refine ⟨by rw [List.length_tail] at h1; omega, fun x hx => List.mem_of_mem_tail (h2 x hx)⟩
theorem ucells_snoc9 (l : List Nat) (x : Nat) : ucells (l ++ [x]) = ucells l ++ [.int .u64 (x : Int)] := by simp [ucells]
theorem own_emptyP (w : World) (e size H b : Nat) (hH : w.heap.size = H) (hb : b ≤ H) : (w.alloc (.cells #[] e)).drew.ownsRow b e size (.slice (some ⟨H, 0, none⟩) 0 0) 0 [] := by
  subst hH
  exact own_mono (own_empty w e size) hb
theorem ltp2 (w : World) (o o' : Obj) : w.heap.size + 1 < ((w.alloc o).alloc o').drew.heap.size := by simp
theorem ltp1 (w : World) (o o' : Obj) : w.heap.size < ((w.alloc o).alloc o').drew.heap.size := by simp; omega
theorem sl_heap1 {w : World} {g e : Nat} {x : Value} (h : w.heap[g]? = some (.cells #[x] e (0, 0))) : Sl w 1 (some ⟨g, 0, none⟩) 1 1 [x] :=
  ⟨rfl, Nat.le_refl _, by unfold maxLen; omega, fun _ => ⟨g, 0, rfl, fun i hi => by
    rw [cell_of_row w g (0 + i) #[x] e (0, 0) h, Nat.zero_add]
    simp⟩⟩

set_option maxRecDepth 20000 in
set_option maxHeartbeats 8000000 in
theorem drawPlays_small (A : Option Addr) (cp : Nat) (l : List Nat) (Aa : Option Addr) (ca : Nat) (asks : List (Int × Int × Nat)) (W : World) (h : Sl W 1 A l.length cp (ucells l)) (hl : l.length ≤ 100) (hu : ∀ x ∈ l, x < 18446744073709551616) (ha : Sl W 3 Aa asks.length ca (gcells askC asks)) (hn : asks.length ≤ 40) (hok : ∀ x ∈ asks, okA x) :
    Calls Try.prog 5 #[.slice A l.length cp, .slice Aa asks.length ca] W fun e w' => e = .returned (.bool true) ∧ Below W.heap.size W w' := by
  have HA := hid ha
  have HOK := hid hok
  have HNEW := hid (newG A l.length cp l W h (by omega))
  have HST := hid (fun T G E w (ht : W.heap.size ≤ T) (h1 : TapeG w T G E l) (h2 : RowG w G E W.heap.size) (hb : Below W.heap.size W w) => DP.start (N := 100) h ht h1 h2 hb hl hu)
  have hl2 : (l.length : Int) ≤ 100 := by omega
  have hn2 : (asks.length : Int) ≤ 40 := by omega
  clear h hu ha hok
  go_enter Try.func5, Try.ntmps5
  go_wp2_with fail
  refine HNEW.out.mono ?_
  rintro e w1 ⟨T, G, E, rfl, hT, h1, h2, hb⟩
  have HD := hid (HST.out T G E w1 hT h1 h2 hb)
  clear hT h1 h2 hb HNEW HST
  go_wp2
  go_loopw [0, 5, 6, 7, 8, 9, 10, 11, 12, 13, 14, 15] (fun lv tv iv _ _ _ _ _ _ _ _ _ wr => ∃ (k T : Nat) (A : Option Addr) (c : Nat) (cur : List Nat), k ≤ asks.length ∧ iv = .int .i64 (k : Int) ∧ lv = .slice A cur.length c ∧ tv = .pointer (some ⟨T, 0, none⟩) ∧ Hid (DP W wr (100 + k) T A c cur)) (fun _ _ i _ _ _ _ _ _ _ _ _ _ => asks.length - (intOf i).toNat)
  case atStart => exact ⟨0, T, A, cp, l, by omega, rfl, rfl, rfl, HD.out⟩
  case round =>
    clear HD
    obtain ⟨k, T, A, c, cur, hk, rfl, rfl, rfl, HD⟩ := hrel
    by_cases hlt : k < asks.length
    · have hlt2 : (k : Int) < (asks.length : Int) := by omega
      obtain ⟨b, off, rfl, hcl⟩ := Sl.gat (f := askC) (n := 3) (fun _ => rfl) (HA.out.below HD.out.b) k hlt (by omega)
      have c0 := hcl 0 _ rfl
      have c1 := hcl 1 _ rfl
      have c2 := hcl 2 _ rfl
      have hka := HOK.out asks[k] (List.getElem_mem hlt)
      have hcn := HD.out.n
      simp only [Nat.add_zero] at c0
      clear hcl
      generalize asks[k] = ask at *
      obtain ⟨d, n, s⟩ := ask
      obtain ⟨hn9, hs9⟩ := hka
      simp only at c0 c1 c2 hn9 hs9
      have e97 : ((cur.headD 0 : Nat) : Int) = ((cur.headD 0 : Nat) : Int) := rfl
      clear e97
      go_upto_if 42 with (fail)
      obtain ⟨G, E, hTG, hRG, hFG⟩ := HD.out.g
      have HGM : Hid (∀ g, G = some g → g < wr.heap.size) := hid (fun g hg => hRG.lt hg)
      refine at_world (fun w => w.heap[wr.heap.size]? = some (.cells #[.int .i64 d, .int .i64 n, .int .u64 (s : Int)] 43 (0, 0)) ∧ Below wr.heap.size wr w) ⟨heap_alloc_new _ _, (Below.refl _ _).alloc (Nat.le_refl _) _⟩ ?_
      rintro w1 ⟨hk1, hb1⟩
      obtain ⟨⟨p0, p1, p2⟩, _⟩ := three_cells hk1
      have HK1 := hid hk1
      have HD1 := hid (HD.out.below hb1)
      have HM : Hid (wr.heap.size < w1.heap.size ∧ T < wr.heap.size) := hid ⟨lt_of_block hk1, hTG.lt⟩
      have HTG := hid (hTG.below hb1)
      have HRG := hid (hRG.below hb1)
      have HFG := hid hFG
      clear hk1 hb1 c0 c1 c2 HD hTG hRG hFG
      generalize wr.heap.size = M at *
      go_cut [0, 5, 8, 9, 10, 11, 12, 13, 14, 15] from 30 to 122 (fun lv tv okv _ _ _ _ _ _ _ wx => okv = .bool true ∧ ∃ (T : Nat) (A : Option Addr) (c : Nat) (cur : List Nat), lv = .slice A cur.length c ∧ tv = .pointer (some ⟨T, 0, none⟩) ∧ Hid (DP W wx (101 + k) T A c cur))
      case first =>
        by_cases h0 : d = 0
        · subst h0
          have HN := hid (rdnext_any A cur.length c cur w1 w1 (Below.refl _ _) HD1.out.s)
          have HT := hid (fun w (hw : Below w1.heap.size w1 w) => tnextG T G E cur w (HTG.out.below hw) (by omega))
          have htl : cur.tail.length ≤ cur.length := by rw [List.length_tail]; omega
          have HU := hid (fun x (hx : x ∈ cur.tail) => HD1.out.u x (List.mem_of_mem_tail hx))
          have e99 : (((cur.headD 0 : Nat) : Int) == ((cur.headD 0 : Nat) : Int)) = true := by simp
          generalize cur.headD 0 = x0 at *
          generalize cur.tail = ctl at *
          go_wp2_with fail
          refine HN.out.mono ?_
          rintro e w2 ⟨A', c', rfl, hs', hfr, q, rfl⟩
          have hb2 : Below w1.heap.size w1 (w1.drewN q) := ⟨rfl, rfl, rfl, Nat.le_refl _, fun _ _ => rfl⟩
          refine at_world (fun w => Below w1.heap.size w1 w) hb2 ?_
          rintro w2 hb2
          have HB2 := hid hb2
          have HS2 := hid hs'
          have HFR := hid hfr
          clear hb2 hs' hfr HN p0 p1 p2
          go_wp2_with fail
          refine (HT.out _ HB2.out).mono ?_
          rintro e w3 ⟨rfl, hT3, hO3⟩
          have HD3 := hid ((HD1.out.below HB2.out).only (HRG.out.below HB2.out) HFG.out (HTG.out.below HB2.out) hT3 hO3 (HS2.out.below HB2.out) HFR.out htl HU.out)
          clear hT3 hO3 HT
          go_wp2_with fail
          go_meet
          exact ⟨rfl, T, A', c', ctl, rfl, rfl, HD3.out.more (by omega)⟩
        by_cases h1 : d = 1
        · subst h1
          have HN := hid (rdbelow_any A cur.length c cur n w1 w1 (Below.refl _ _) HD1.out.s HD1.out.u hn9)
          have HT := hid (fun w (hw : Below w1.heap.size w1 w) => tbelowG T G E cur n w (HTG.out.below hw) (by omega) HD1.out.u hn9)
          have htl : (if n < 1 then cur else cur.tail).length ≤ cur.length := by split <;> simp
          have HU : Hid (∀ x ∈ (if n < 1 then cur else cur.tail), x < 18446744073709551616) := hid (fun x hx => by
            split at hx
            · exact HD1.out.u x hx
            · exact HD1.out.u x (List.mem_of_mem_tail hx))
          have e99 : (((blw n cur : Nat) : Int) == ((blw n cur : Nat) : Int)) = true := by simp
          generalize blw n cur = x0 at *
          generalize (if n < 1 then cur else cur.tail) = ctl at *
          go_wp2_with fail
          refine HN.out.mono ?_
          rintro e w2 ⟨A', c', rfl, hs', hfr, q, rfl⟩
          have hb2 : Below w1.heap.size w1 (w1.drewN q) := ⟨rfl, rfl, rfl, Nat.le_refl _, fun _ _ => rfl⟩
          refine at_world (fun w => Below w1.heap.size w1 w) hb2 ?_
          rintro w2 hb2
          have HB2 := hid hb2
          have HS2 := hid hs'
          have HFR := hid hfr
          clear hs' hfr HN p0 p1 p2
          obtain ⟨⟨p0, p1, p2⟩, _⟩ := three_cells (keep0 HK1.out hb2)
          clear hb2
          go_wp2_with fail
          refine (HT.out _ HB2.out).mono ?_
          rintro e w3 ⟨rfl, hT3, hO3⟩
          have HD3 := hid ((HD1.out.below HB2.out).only (HRG.out.below HB2.out) HFG.out (HTG.out.below HB2.out) hT3 hO3 (HS2.out.below HB2.out) HFR.out htl HU.out)
          clear hT3 hO3 HT
          go_wp2_with fail
          go_meet
          exact ⟨rfl, T, A', c', ctl, rfl, rfl, HD3.out.more (by omega)⟩
        by_cases h2 : d = 2
        · subst h2
          have HN := hid (rsome_any A cur.length c cur s n w1 HD1.out.s (by omega) HD1.out.u hs9 hn9)
          have HT := hid (fun w (hw : Below w1.heap.size w1 w) => someG T G E cur s n w (HTG.out.below hw) (fun g hg => (HRG.out.below hw).lt hg) (by omega) HD1.out.u hs9 hn9)
          obtain ⟨hpr1, hpr2⟩ := pk_rest n.toNat cur (elems s)
          have hpl : (pk n.toNat cur (elems s)).1.length ≤ 64 := by
            have h3 := pk_len n.toNat cur (elems s)
            have h4 : (elems s).length ≤ 64 := by rw [elems_def]; exact elemsU_len s 64
            omega
          have HU := hid (fun x (hx : x ∈ (pk n.toNat cur (elems s)).2) => HD1.out.u x (hpr2 x hx))
          have HTT : Hid (∃ Ag cg, w1.heap[T]? = some (.cells #[.slice Ag cur.length cg] 162 (0, 0))) := hid (by obtain ⟨Ag, cg, h5, _⟩ := HTG.out; exact ⟨Ag, cg, h5⟩)
          clear hpr2
          generalize pk n.toNat cur (elems s) = pv at *
          obtain ⟨out, ctl⟩ := pv
          simp only at HN HT HU hpr1 hpl
          go_wp2_with fail
          refine HN.out.mono ?_
          rintro e w2 ⟨A1, c1, A2, c2, rfl, ho1, hs2, hfr, hb2⟩
          have HB2 := hid hb2
          have HO1 := hid ho1
          have HS2 := hid hs2
          have HFR := hid hfr
          clear hs2 hfr HN p0 p1 p2 ho1
          obtain ⟨⟨p0, p1, p2⟩, _⟩ := three_cells (keep0 HK1.out hb2)
          clear hb2
          go_wp2_with fail
          refine (HT.out _ HB2.out).mono ?_
          rintro e w3 ⟨v3, rfl, ho3, hT3, hO3⟩
          have HD3 := hid ((HD1.out.below HB2.out).only (HRG.out.below HB2.out) HFG.out (HTG.out.below HB2.out) hT3 hO3 HS2.out HFR.out hpr1 HU.out)
          have ho1' : w3.ownsRow w1.heap.size 3 1 (.slice A1 out.length c1) out.length (icells .i64 out) := by
            obtain ⟨Ag, cg, h5⟩ := HTT.out
            exact own_only HO1.out hO3 (keep0 h5 HB2.out) (by decide)
          obtain ⟨A3, c3, rfl, hs3⟩ := Sl.of_own ho3
          have HSM := hid (same06 A3 A1 out.length c3 out.length c1 out out w3 hs3 (sl_own ho1') (by omega) (by omega))
          clear hT3 hO3 HT ho3 hs3 ho1' HO1
          generalize out.length = on at *
          go_wp2_with fail
          refine HSM.out.mono ?_
          rintro e w4 ⟨rfl, q, rfl⟩
          have hb4 : Below w3.heap.size w3 (w3.drewN q) := ⟨rfl, rfl, rfl, Nat.le_refl _, fun _ _ => rfl⟩
          refine at_world (fun w => Below w3.heap.size w3 w) hb4 ?_
          rintro w4 hb4
          have HD4 := hid (HD3.out.below hb4)
          clear hb4 HSM HD3
          go_wp2_with fail
          go_meet
          exact ⟨by simp, T, A2, c2, ctl, rfl, rfl, HD4.out.more (by omega)⟩
        by_cases h3 : d = 3
        · subst h3
          have HADD := hid (fun w A2 (hw : Below w1.heap.size w1 w) (h2 : Sl w 1 A2 1 1 (ucells [s])) => addG T G E W.heap.size cur [s] A2 1 1 w (HTG.out.below hw) (HRG.out.below hw) (HD1.out.b.trans (hw.mono HD1.out.b.size)).size h2 (by simp; omega) HD1.out.t)
          have hal : Below w1.heap.size w1 (w1.alloc (.cells #[.int .u64 (s : Int)] 22)) := (Below.refl _ _).alloc (Nat.le_refl _) _
          have HAL := hid hal
          clear hal
          go_wp2_with fail
          refine (HADD.out _ _ HAL.out (lit_cells w1 _ #[.int .u64 (s : Int)] 1 rfl (by omega))).mono ?_
          rintro e w2 ⟨⟨v, rfl⟩, ⟨G2, E2, hT2, hR2⟩, hb2, hk2⟩
          have hk3 : ∀ g, g < w1.heap.size → g ≠ T → G ≠ some g → w2.heap[g]? = w1.heap[g]? := fun g h1 h2 h3 => (hk2 g (by have := HAL.out.size; omega) h2 h3).trans (HAL.out.block g h1)
          have HK2 := hid hk3
          have HT2 := hid hT2
          have HR2 := hid hR2
          have HB2 := hid ((HD1.out.b.trans (HAL.out.mono HD1.out.b.size)).trans hb2)
          have HS2 := hid (HD1.out.s.far (w' := w2) fun h0 b off hA hl => hk3 b hl (HFG.out (by rw [ulen] at h0; exact h0) b off hA).1 (HFG.out (by rw [ulen] at h0; exact h0) b off hA).2)
          have hM2 := (hk3 M HM.out.1 (by have := HM.out.2; omega) (fun h9 => by have := HGM.out M h9; omega)).trans HK1.out
          obtain ⟨⟨p0', p1', p2'⟩, _⟩ := three_cells hM2
          have HLT := hid (lt_of_block hM2)
          clear hM2 hk2 hk3 hT2 hR2 hb2 HADD HAL p0 p1 p2
          have hS : ∀ U, Below w2.heap.size w2 U → (U.cell? ⟨M, 2, none⟩ = some (.int .u64 (s : Int)) ∧ Below w2.heap.size w2 U) := fun U hU => ⟨cellb hU p2', hU⟩
          clear p0' p1'
          go_upto_region 23 with (fail)
          go_region_held3 (fun U => U.cell? ⟨M, 2, none⟩ = some (.int .u64 (s : Int)) ∧ Below w2.heap.size w2 U)
            (exact hS _ (by repeat' (first | with_reducible exact Below.refl _ _ | with_reducible exact And.right (by assumption) | with_reducible assumption | with_reducible refine below_drew ?_ | with_reducible refine bel_alloc ?_ _)))
            (first
              | (refine step_append_sl rfl (.tmp 99) (.tmp 100) 38 rfl w2.heap.size 22 Try.underlying38 info_u64 rfl (by omega) rfl (by first | exact own_mono (own_empty _ _ _) (by simp) | exact own_mono ((own_empty _ _ _).alloc _) (by simp) | exact own_emptyP _ _ _ _ _ (by simp) (by omega)) rfl (HS2.out.below (And.right (by assumption))) (ucells_one _) (by unfold maxLen; omega) (by omega) (show Below w2.heap.size w2 _ from And.right (by assumption)).size ?_
                 intro v5 w5 ho5 hb5 hsz5 hk5
                 simp only [Nat.zero_add, List.nil_append] at ho5
                 obtain ⟨A5, c5, rfl, hs5⟩ := Sl.of_own ho5
                 have hb5' : Below w2.heap.size w2 w5 := (show Below w2.heap.size w2 _ from And.right (by assumption)).trans hb5
                 simp at hsz5
                 first
                 | (have y0 : w5.heap[w2.heap.size + 1]? = some (.cells #[.int .u64 (s : Int)] 22 (0, 0)) := (hk5 (w2.heap.size + 1) (by omega) (ltp2 _ _ _) (fun e => absurd (Option.some.inj (show some (w2.heap.size) = some (w2.heap.size + 1) from e)) (by omega))).trans (heap_second w2 _ _)
                    clear hk5)
                 | (have y0 : w5.heap[w2.heap.size]? = some (.cells #[.int .u64 (s : Int)] 22 (0, 0)) := (hk5 (w2.heap.size) (by omega) (ltp1 _ _ _) (fun e => absurd (Option.some.inj (show some (w2.heap.size + 1) = some (w2.heap.size) from e)) (by omega))).trans (heap_first w2 _ _)
                    clear hk5)
                 | clear hk5)
              | (refine step_append_sl rfl (.tmp 101) (.tmp 104) 38 rfl w2.heap.size 22 Try.underlying38 info_u64 rfl (by omega) rfl (own_keep ho5 (by repeat' (first | with_reducible exact Below.refl _ _ | with_reducible refine below_drew ?_ | with_reducible refine bel_alloc ?_ _))) rfl (by first | exact Sl.lit _ _ 1 1 #[.int .u64 (s : Int)] rfl (by unfold maxLen; omega) | exact Sl.below (Sl.lit _ _ 1 1 #[.int .u64 (s : Int)] rfl (by unfold maxLen; omega)) (below_drew (Below.refl _ _)) | exact Sl.below (sl_heap1 y0) (by repeat' (first | with_reducible exact Below.refl _ _ | with_reducible refine below_drew ?_))) (by simp; rfl) (by unfold maxLen; omega) (by omega) (show Below w2.heap.size w2 _ from And.right (by assumption)).size ?_
                 intro v6 w6 ho6 hb6 hsz6 hk6
                 have hb6' : Below w2.heap.size w2 w6 := (show Below w2.heap.size w2 _ from And.right (by assumption)).trans hb6))
          all_goals
            obtain ⟨A6, c6, rfl, hs6⟩ := Sl.of_own ho6
            have HD6 : Hid (DP W w6 (101 + k) T A6 c6 (cur ++ [s])) := hid (DP.fresh HT2.out HR2.out HD1.out.t HB2.out (by rw [ucells_snoc9, List.length_append]; exact ho6) hb6' (by rw [List.length_append]; simp; omega) (fun x hx => by
              rcases List.mem_append.1 hx with hx | hx
              · exact HD1.out.u x hx
              · obtain rfl : x = s := by simpa using hx
                exact hs9))
            rename_i hHeld
            clear hk6 hb6 hsz6 ho6 hs6 hb6' hHeld
            go_wp2_with fail
            go_meet
            exact ⟨rfl, T, A6, c6, cur ++ [s], by rw [List.length_append]; rfl, rfl, HD6.out⟩
        · have HCL := hid (cloneG T G E cur w1 HTG.out (by omega))
          have hal : ∀ w : World, Below w.heap.size w (w.alloc (.cells #[.int .u64 1, .int .u64 2] 22)) := fun w => (Below.refl _ _).alloc (Nat.le_refl _) _
          have HAL := hid hal
          have HADD := hid (fun w A2 (hw : Below w1.heap.size w1 w) (h2 : Sl w 1 A2 2 2 (ucells [1, 2])) => addG T G E W.heap.size cur [1, 2] A2 2 2 w (HTG.out.below hw) (HRG.out.below hw) (HD1.out.b.trans (hw.mono HD1.out.b.size)).size h2 (by simp; omega) HD1.out.t)
          clear hal
          go_wp2_with fail
          refine HCL.out.mono ?_
          rintro e w2 ⟨T', G', E', rfl, hT', h1, h2, hb2⟩
          have HT' := hid hT'
          have HTG' := hid h1
          have HRG' := hid h2
          have HB2 := hid hb2
          clear hT' h1 h2 hb2 HCL p0 p1 p2
          go_wp2_with fail
          refine (HADD.out _ _ (HB2.out.trans ((HAL.out w2).mono HB2.out.size)) (lit_cells w2 _ #[.int .u64 1, .int .u64 2] 2 rfl (by omega))).mono ?_
          rintro e w3 ⟨⟨v, rfl⟩, ⟨G2, E2, hT2, hR2⟩, hb3, hk3⟩
          have HN := hid (tnextG T G2 E2 (cur ++ [1, 2]) w3 hT2 (by simp; omega))
          have HB3 := hid (((HAL.out w2).mono (Nat.le_trans HD1.out.b.size HB2.out.size)).trans hb3)
          have HK3 : Hid (∀ g, g < w2.heap.size → g ≠ T → G ≠ some g → w3.heap[g]? = w2.heap[g]?) := hid (fun g h1 h2 h3 => (hk3 g (by have := (HAL.out w2).size; omega) h2 h3).trans ((HAL.out w2).block g h1))
          have hsz3 := HB3.out.size
          have HSZ3 := hid hsz3
          clear hT2 hR2 hb3 hk3 HADD hsz3
          go_wp2_with fail
          refine HN.out.mono ?_
          rintro e w4 ⟨rfl, _, hO4⟩
          have HD4 := hid (DP.clone HD1.out HFG.out (fun g hg => HRG.out.lt hg) (by have := HM.out; omega) HT'.out HTG'.out HRG'.out HB2.out (HB3.out.trans (hO4.below W.heap.size HD1.out.t (Nat.le_trans (Nat.le_trans HD1.out.b.size HB2.out.size) HSZ3.out))) (fun g h1 h2 h3 => (hO4.keep g h2 (Nat.lt_of_lt_of_le h1 HSZ3.out)).trans (HK3.out g h1 h2 h3)))
          clear hO4 HN HK3
          go_wp2_with fail
          go_meet
          exact ⟨rfl, T', A, c, cur, rfl, rfl, HD4.out.more (by omega)⟩
      case rest =>
        obtain ⟨rfl, T2, A2, c2, cur2, rfl, rfl, HD2⟩ := hcut
        obtain ⟨G2, E2, hT2, _, _⟩ := HD2.out.g
        have hc2 := HD2.out.n
        have HLF := hid (leftG T2 G2 E2 cur2 wc hT2 (by omega))
        clear hT2 HTG HRG HFG HGM HM HK1 HD1 p0 p1 p2
        go_wp2_with fail
        refine HLF.out.mono ?_
        rintro e w5 ⟨A5, c5, rfl, ho5, hb5⟩
        have HD5 := hid (HD2.out.below hb5)
        have HSM := hid (rdsame_any A5 A2 cur2.length c5 cur2.length c2 cur2 cur2 w5 (sl_own ho5) HD5.out.s (by omega) (by omega))
        simp only [beq_self_eq_true] at HSM
        clear ho5 hb5 HLF HD2
        generalize hln : cur2.length = ln2 at *
        have HLN := hid hln
        clear hln
        go_wp2_with fail
        refine HSM.out.mono ?_
        rintro e w6 ⟨rfl, q, rfl⟩
        have hb6 : Below w5.heap.size w5 (w5.drewN q) := ⟨rfl, rfl, rfl, Nat.le_refl _, fun _ _ => rfl⟩
        refine at_world (fun w => Below w5.heap.size w5 w) hb6 ?_
        rintro w6 hb6
        have HD6 := hid (HD5.out.below hb6)
        clear hb6 HSM HD5
        go_wp2
        go_roundw
        case rel => exact ⟨k + 1, T2, A2, c2, cur2, by omega, by go_num, by rw [HLN.out], rfl, HD6.out.more (by omega)⟩
        case measure => simp [intOf]; omega
    · have hge : ¬ (k : Int) < (asks.length : Int) := by omega
      have hbW := HD.out.b
      have HBW := hid hbW
      have hpk : pk (9 : Int).toNat [] (elems 6) = ([1, 2], []) := by unfold pk; decide +kernel
      have HRS := hid (fun w => rsome_any none 0 0 [] 6 9 w (Sl.nil _ _ _ _ (Nat.zero_le _)) (by omega) (by simp) (by omega) (by omega))
      have HS0 := hid (fun w => some0 6 9 w (by omega) (by omega))
      rw [hpk] at HRS HS0
      simp only at HRS HS0
      clear hpk hbW HD
      generalize cur.length = cl9 at *
      generalize asks.length = al9 at *
      go_wp2_with fail
      refine (add0 _ _).mono ?_
      rintro e w2 ⟨⟨v, rfl⟩, rfl⟩
      refine at_world (fun w => Below W.heap.size W w) (HBW.out.alloc HBW.out.size _) ?_
      rintro w2 hb2
      have HB2 := hid hb2
      clear hb2 HBW
      go_wp2_with fail
      refine (HRS.out _).mono ?_
      rintro e w3 ⟨A1, c1, A2, c2, rfl, ho1, _, _, hb3⟩
      have HB3 := hid (HB2.out.trans (hb3.mono HB2.out.size))
      have HO1 := hid ho1
      clear hb3 ho1 HRS HB2
      go_wp2_with fail
      refine (next0 _).mono ?_
      rintro e w4 ⟨rfl, rfl⟩
      go_wp2_with fail
      refine (below0 _ _ (by omega)).mono ?_
      rintro e w4 ⟨rfl, rfl⟩
      go_wp2_with fail
      refine (HS0.out _).mono ?_
      rintro e w4 ⟨v4, rfl, ho4, hb4⟩
      have HB4 := hid (HB3.out.trans (hb4.mono HB3.out.size))
      obtain ⟨A4, c4, rfl, hs4⟩ := Sl.of_own ho4
      have HSM := hid (same06 A4 A1 2 c4 2 c1 [1, 2] [1, 2] w4 hs4 ((sl_own HO1.out).below hb4) (by omega) (by omega))
      have e5 : (([1, 2] : List Int) == [1, 2]) = true := by decide
      rw [e5] at HSM
      clear e5 ho4 hs4 hb4 HB3 HO1 HS0
      go_wp2_with fail
      refine HSM.out.mono ?_
      rintro e w5 ⟨rfl, q, rfl⟩
      refine at_world (fun w => Below W.heap.size W w) (below_drewN HB4.out) ?_
      rintro w5 hb5
      have HB5 := hid hb5
      clear hb5 HB4 HSM
      go_wp2_with fail
      refine (left0 _).mono ?_
      rintro e w6 ⟨rfl, rfl⟩
      go_wp2_with fail
      refine (clone0 _).mono ?_
      rintro e w6 ⟨rfl, rfl⟩
      go_wp2_with fail
      refine (works07_any _).mono ?_
      rintro e w7 ⟨rfl, hb7⟩
      have HB7 := hid (HB5.out.trans (hb7.mono HB5.out.size))
      clear hb7 HB5
      go_wp2
      go_ret
      exact ⟨rfl, HB7.out⟩

set_option maxRecDepth 20000 in
theorem drawPlays_law (A : Option Addr) (len cap : Nat) (z : List Int) (Aa : Option Addr) (la ca : Nat) (W : World) (h : IsRow .u64 W A len cap z) (ha : Rd Try.prog W 39 [.slice Aa la ca]) :
    Calls Try.prog 5 #[.slice A len cap, .slice Aa la ca] W fun e w' => e = .returned (.bool true) ∧ Below W.heap.size W w' := by
  obtain ⟨l, hs, rfl, hu⟩ := of_u64s h
  obtain ⟨asks, has, rfl, hok⟩ := asks_in ha
  have hc9 : l.length ≤ 9223372036854775807 := by have h3 := hs.2.1; have h4 := hs.2.2.1; unfold maxLen at h4; omega
  have hc8 : asks.length ≤ 9223372036854775807 := by have h3 := has.2.1; have h4 := has.2.2.1; unfold maxLen at h4; omega
  by_cases h1 : l.length ≤ 100
  · by_cases h2 : asks.length ≤ 40
    · exact drawPlays_small A cap l Aa ca asks W hs h1 hu has h2 hok
    · have h3 : (l.length : Int) ≤ 100 := by omega
      have h4 : (40 : Int) < asks.length := by omega
      clear hs h hu ha has hok
      go_enter Try.func5, Try.ntmps5
      go_wp2_with (go_at_call 33; refine (works07_any _).mono ?_; rintro e w4 ⟨rfl, hb4⟩)
      go_ret
      exact ⟨rfl, hb4⟩
  · have h3 : (100 : Int) < l.length := by omega
    clear hs h hu ha has hok
    go_enter Try.func5, Try.ntmps5
    go_wp2_with (go_at_call 33; refine (works07_any _).mono ?_; rintro e w4 ⟨rfl, hb4⟩)
    go_ret
    exact ⟨rfl, hb4⟩
end Go.Proofs.Ytadjmgmdnekllaa
