/- round: Over, Probed, Full, Came: contracts. -/
import Derived.Test.YtadjmgmdnekllaaRoundC
import Derived.Test.YtadjmgmdnekllaaFlockL
namespace Go.Proofs.Ytadjmgmdnekllaa
open Go.RowKit Go.Sort
set_option linter.unusedVariables false
set_option linter.unusedSimpArgs false

theorem bcs_len (l : List Bool) : (bcs l).length = l.length := by simp [bcs]
theorem tick_len (n : Nat) : (List.replicate n false).length = n := List.length_replicate
/-- Block W.heap.size is a round, the next one the result; the row of what came is the call's own. -/
def RB (W w : World) (l : Int) (q : Nat) (a : Option Addr) (c : Nat) (had : List Bool) : Prop :=
  w.heap[W.heap.size]? = some (.cells #[.int .i64 l, .int .u64 (q : Int), .slice a had.length c] 64 (0, 0)) ∧ w.heap[W.heap.size + 1]? = some (.cells #[.int .i64 0, .int .u64 0, .slice none 0 0] 64 (0, 0)) ∧ w.ownsRow (W.heap.size + 2) 4 1 (.slice a had.length c) had.length (bcs had) ∧ Below W.heap.size W w
theorem RB.keep {W w w' : World} {l : Int} {q : Nat} {a : Option Addr} {c : Nat} {had : List Bool} (h : RB W w l q a c had) (hb : Below w.heap.size w w') : RB W w' l q a c had := ⟨keep0 h.1 hb, keep0 h.2.1 hb, own_keep h.2.2.1 hb, h.2.2.2.trans (hb.mono h.2.2.2.size)⟩
theorem RB.set1 {W w : World} {l : Int} {q : Nat} {a : Option Addr} {c : Nat} {had : List Bool} (h : RB W w l q a c had) (q' : Nat) : RB W (w.setCell ⟨W.heap.size, 1, none⟩ (.int .u64 (q' : Int))) l q' a c had := by
  refine ⟨?_, (Below.heap_setCell _ _ _ _ (by simp)).trans h.2.1, own_setOld h.2.2.1 _ _ (by simp), h.2.2.2.setCell (Nat.le_refl _) _⟩
  rw [heap_setCell_same _ _ _ _ _ _ h.1]; rfl
theorem RB.fin {W w : World} {l : Int} {q : Nat} {a : Option Addr} {c : Nat} {had : List Bool} (h : RB W w l q a c had) (x0 x1 x2 : Value) : (((w.setCell ⟨W.heap.size + 1, 0, none⟩ x0).setCell ⟨W.heap.size + 1, 1, none⟩ x1).setCell ⟨W.heap.size + 1, 2, none⟩ x2).heap[W.heap.size + 1]? = some (.cells #[x0, x1, x2] 64 (0, 0)) ∧ Sl (((w.setCell ⟨W.heap.size + 1, 0, none⟩ x0).setCell ⟨W.heap.size + 1, 1, none⟩ x1).setCell ⟨W.heap.size + 1, 2, none⟩ x2) 1 a had.length c (bcs had) ∧ Below W.heap.size W (((w.setCell ⟨W.heap.size + 1, 0, none⟩ x0).setCell ⟨W.heap.size + 1, 1, none⟩ x1).setCell ⟨W.heap.size + 1, 2, none⟩ x2) :=
  ⟨set_three h.2.1 _ _ _, sl_own (own_setOld (own_setOld (own_setOld h.2.2.1 _ _ (by simp)) _ _ (by simp)) _ _ (by simp)), ((h.2.2.2.setCell (by simp) _).setCell (by simp) _).setCell (by simp) _⟩

set_option maxRecDepth 20000 in
set_option maxHeartbeats 2000000 in
theorem over_any (but : Int) (l : Int) (q : Nat) (had : List Bool) (A : Option Addr) (cap : Nat) (W : World) (h : Sl W 1 A had.length cap (bcs had)) (hlen : had.length ≤ 1000) (hq : q < 18446744073709551616) :
    Calls Try.prog 49 #[.agg #[.int .i64 l, .int .u64 (q : Int), .slice A had.length cap], .int .i64 but] W fun e w' => ∃ a' c' B cB, e = .returned (.tuple #[.agg #[.int .i64 l, .int .u64 0, .slice a' had.length c'], .slice B (elems (lessS q but)).length cB]) ∧ Sl w' 1 a' had.length c' (bcs had) ∧ Sl w' 1 B (elems (lessS q but)).length cB (icells .i64 (elems (lessS q but))) ∧ Below W.heap.size W w' := by
  have HL := hid (fun w => less_any q but w hq)
  have HLL := hid (fun w => list_any (lessS q but) (lessS_lt q but hq) w)
  clear hq
  generalize lessS q but = q2 at *
  generalize elems q2 = el at *
  have HC := hid (fun w (hb : Below W.heap.size W w) => cloned_any l (q : Int) A had.length cap (bcs had) w (h.below hb) (bcs_one had) hlen)
  clear h
  go_enter Try.func49, Try.ntmps49
  go_wp2_with fail
  refine (HC.out _ (below2 W _ _)).mono ?_
  rintro e w1 ⟨v, rfl, hb, ho⟩
  obtain ⟨a', c', rfl, _⟩ := Sl.of_own ho
  obtain ⟨k0, k1⟩ := blk_after hb
  have hb1 := (below2 W _ _).trans (hb.mono (by simp; omega))
  have K := hid (And.intro k0 (And.intro k1 (And.intro ho hb1)))
  obtain ⟨⟨p0, p1, p2⟩, f0, f1, f2⟩ := three_cells k0
  clear k0 k1 ho hb hb1 HC
  go_upto_region 2 with (fail)
  refine at_world (fun w => RB W w l q a' c' had) ⟨?_, ?_, ?_, ?_⟩ ?_
  · exact set_three K.out.1 _ _ _
  · exact (Below.heap_setCell _ _ _ _ (by simp)).trans ((Below.heap_setCell _ _ _ _ (by simp)).trans ((Below.heap_setCell _ _ _ _ (by simp)).trans K.out.2.1))
  · exact own_setOld (own_setOld (own_setOld (own_mono K.out.2.2.1 (by simp)) _ _ (by simp)) _ _ (by simp)) _ _ (by simp)
  · exact ((K.out.2.2.2.setCell (by simp) _).setCell (by simp) _).setCell (by simp) _
  clear K p0 p1 p2 f0 f1 f2
  rintro w2 hr
  obtain ⟨⟨p0, p1, p2⟩, f0, f1, f2⟩ := three_cells hr.1
  have HR := hid hr
  clear hr
  go_wp2_with fail
  refine (HL.out _).mono ?_
  rintro e w3 ⟨rfl, rfl⟩
  go_wp2_with fail
  refine (HLL.out _).mono ?_
  rintro e w3 ⟨v3, rfl, hb3, ho3⟩
  obtain ⟨B, cB, rfl, _⟩ := Sl.of_own ho3
  have HR3 := hid (HR.out.keep hb3)
  have HSZ := hid (lt_of_block HR.out.2.1)
  have HO3 := hid ho3
  clear hb3 ho3 p0 p1 p2 f0 f1 f2 HR HL HLL
  obtain ⟨⟨p0, p1, p2⟩, f0, f1, f2⟩ := three_cells HR3.out.1
  go_upto_region 4 with (fail)
  refine at_world (fun w => RB W w l 0 a' c' had ∧ w.ownsRow (W.heap.size + 2) 3 1 (.slice B el.length cB) el.length (icells .i64 el)) ⟨HR3.out.set1 0, own_setOld (own_mono HO3.out (by have := HSZ.out; omega)) _ _ (by simp)⟩ ?_
  clear p0 p1 p2 f0 f1 f2 HR3 HO3 HSZ
  rintro w4 ⟨hr4, ho4⟩
  obtain ⟨⟨p0, p1, p2⟩, _⟩ := three_cells hr4.1
  have HR4 := hid hr4
  have HO4 := hid ho4
  clear hr4 ho4
  obtain ⟨_, g0, g1, g2⟩ := three_cells HR4.out.2.1
  obtain ⟨hz9, hs9, hb9⟩ := HR4.out.fin (.int .i64 l) (.int .u64 (0 : Int)) (.slice a' had.length c')
  obtain ⟨⟨r0, r1, r2⟩, _⟩ := three_cells hz9
  go_wp2
  exact bodyPost_ret (v := .tuple #[.agg #[.int .i64 l, .int .u64 (0 : Int), .slice a' had.length c'], .slice B el.length cB]) (by simp [results, Try.results49, go_sem, r0, r1, r2]) rfl ⟨a', c', B, cB, rfl, hs9, sl_own (own_setOld (own_setOld (own_setOld HO4.out _ _ (by simp)) _ _ (by simp)) _ _ (by simp)), hb9⟩
set_option maxRecDepth 20000 in
set_option maxHeartbeats 2000000 in
theorem rfull_any (k : Int) (l : Int) (q : Nat) (had : List Bool) (A : Option Addr) (cap : Nat) (W : World) (h : Sl W 1 A had.length cap (bcs had)) (hlen : had.length ≤ 1000) (hq : q < 18446744073709551616) :
    Calls Try.prog 56 #[.agg #[.int .i64 l, .int .u64 (q : Int), .slice A had.length cap], .int .i64 k] W fun e w' => ∃ a' c', e = .returned (.agg #[.int .i64 l, .int .u64 ((lessS q k : Nat) : Int), .slice a' had.length c']) ∧ Sl w' 1 a' had.length c' (bcs had) ∧ Below W.heap.size W w' := by
  have HL := hid (fun w => less_any q k w hq)
  clear hq
  generalize lessS q k = q2 at *
  have HC := hid (fun w (hb : Below W.heap.size W w) => cloned_any l (q : Int) A had.length cap (bcs had) w (h.below hb) (bcs_one had) hlen)
  clear h
  go_enter Try.func56, Try.ntmps56
  go_wp2_with fail
  refine (HC.out _ (below2 W _ _)).mono ?_
  rintro e w1 ⟨v, rfl, hb, ho⟩
  obtain ⟨a', c', rfl, _⟩ := Sl.of_own ho
  obtain ⟨k0, k1⟩ := blk_after hb
  have hb1 := (below2 W _ _).trans (hb.mono (by simp; omega))
  have K := hid (And.intro k0 (And.intro k1 (And.intro ho hb1)))
  obtain ⟨⟨p0, p1, p2⟩, f0, f1, f2⟩ := three_cells k0
  clear k0 k1 ho hb hb1 HC
  go_upto_region 2 with (fail)
  refine at_world (fun w => RB W w l q a' c' had) ⟨?_, ?_, ?_, ?_⟩ ?_
  · exact set_three K.out.1 _ _ _
  · exact (Below.heap_setCell _ _ _ _ (by simp)).trans ((Below.heap_setCell _ _ _ _ (by simp)).trans ((Below.heap_setCell _ _ _ _ (by simp)).trans K.out.2.1))
  · exact own_setOld (own_setOld (own_setOld (own_mono K.out.2.2.1 (by simp)) _ _ (by simp)) _ _ (by simp)) _ _ (by simp)
  · exact ((K.out.2.2.2.setCell (by simp) _).setCell (by simp) _).setCell (by simp) _
  clear K p0 p1 p2 f0 f1 f2
  rintro w2 hr
  obtain ⟨⟨p0, p1, p2⟩, f0, f1, f2⟩ := three_cells hr.1
  have HR := hid hr
  clear hr
  go_wp2_with fail
  refine (HL.out _).mono ?_
  rintro e w3 ⟨rfl, rfl⟩
  go_upto_region 3 with (fail)
  refine at_world (fun w => RB W w l q2 a' c' had) (HR.out.set1 q2) ?_
  clear p0 p1 p2 f0 f1 f2 HR HL
  rintro w4 hr4
  obtain ⟨⟨p0, p1, p2⟩, _⟩ := three_cells hr4.1
  have HR4 := hid hr4
  clear hr4
  obtain ⟨_, g0, g1, g2⟩ := three_cells HR4.out.2.1
  obtain ⟨hz9, hs9, hb9⟩ := HR4.out.fin (.int .i64 l) (.int .u64 (q2 : Int)) (.slice a' had.length c')
  obtain ⟨⟨r0, r1, r2⟩, _⟩ := three_cells hz9
  go_wp2
  exact bodyPost_ret (v := .agg #[.int .i64 l, .int .u64 (q2 : Int), .slice a' had.length c']) (by simp [results, Try.results56, go_sem, r0, r1, r2]) rfl ⟨a', c', rfl, hs9, hb9⟩
def probS (q : Nat) (ws : List Int) : Nat := ws.foldl withS q
theorem probS_lt (q : Nat) (ws : List Int) (hq : q < 18446744073709551616) : probS q ws < 18446744073709551616 := by
  induction ws generalizing q with
  | nil => exact hq
  | cons w ws ih => exact ih (withS q w) (withS_lt q w hq)
theorem probS_snoc (q : Nat) (ws : List Int) (k : Nat) (hk : k < ws.length) : probS q (ws.take (k + 1)) = withS (probS q (ws.take k)) ws[k] := by
  unfold probS
  rw [List.take_succ_eq_append_getElem hk, List.foldl_append]
  rfl
set_option maxRecDepth 20000 in
set_option maxHeartbeats 2000000 in
theorem rprobed_any (ws : List Int) (AW : Option Addr) (cw : Nat) (l : Int) (q : Nat) (had : List Bool) (A : Option Addr) (cap : Nat) (W : World) (h : Sl W 1 A had.length cap (bcs had)) (hlen : had.length ≤ 1000) (hq : q < 18446744073709551616) (hw : Sl W 1 AW ws.length cw (icells .i64 ws)) (hwl : ws.length ≤ 1000) :
    Calls Try.prog 54 #[.agg #[.int .i64 l, .int .u64 (q : Int), .slice A had.length cap], .slice AW ws.length cw] W fun e w' => ∃ a' c', e = .returned (.agg #[.int .i64 l, .int .u64 ((probS q ws : Nat) : Int), .slice a' had.length c']) ∧ Sl w' 1 a' had.length c' (bcs had) ∧ Below W.heap.size W w' := by
  have HW := hid hw
  have HQ := hid hq
  clear hw hq
  have HC := hid (fun w (hb : Below W.heap.size W w) => cloned_any l (q : Int) A had.length cap (bcs had) w (h.below hb) (bcs_one had) hlen)
  clear h
  go_enter Try.func54, Try.ntmps54
  go_wp2_with fail
  refine (HC.out _ (below2 W _ _)).mono ?_
  rintro e w1 ⟨v, rfl, hb, ho⟩
  obtain ⟨a', c', rfl, _⟩ := Sl.of_own ho
  obtain ⟨k0, k1⟩ := blk_after hb
  have hb1 := (below2 W _ _).trans (hb.mono (by simp; omega))
  have K := hid (And.intro k0 (And.intro k1 (And.intro ho hb1)))
  obtain ⟨⟨p0, p1, p2⟩, f0, f1, f2⟩ := three_cells k0
  clear k0 k1 ho hb hb1 HC
  go_upto_region 2 with (fail)
  refine at_world (fun w => RB W w l q a' c' had) ⟨?_, ?_, ?_, ?_⟩ ?_
  · exact set_three K.out.1 _ _ _
  · exact (Below.heap_setCell _ _ _ _ (by simp)).trans ((Below.heap_setCell _ _ _ _ (by simp)).trans ((Below.heap_setCell _ _ _ _ (by simp)).trans K.out.2.1))
  · exact own_setOld (own_setOld (own_setOld (own_mono K.out.2.2.1 (by simp)) _ _ (by simp)) _ _ (by simp)) _ _ (by simp)
  · exact ((K.out.2.2.2.setCell (by simp) _).setCell (by simp) _).setCell (by simp) _
  clear K p0 p1 p2 f0 f1 f2
  rintro w2 hr
  obtain ⟨⟨p0, p1, p2⟩, f0, f1, f2⟩ := three_cells hr.1
  have HR := hid hr
  clear hr
  have HBW := hid HR.out.2.2.2
  clear p0 p1 p2 f0 f1 f2
  go_wp2
  go_loopw [6, 11] (fun _ i wr => ∃ k : Nat, k ≤ ws.length ∧ i = .int .i64 (k : Int) ∧ Hid (RB W wr l (probS q (ws.take k)) a' c' had)) (fun _ i _ => ws.length - (intOf i).toNat)
  case atStart => exact ⟨0, by omega, rfl, by simpa [Hid, probS] using HR.out⟩
  case round =>
    clear HR
    obtain ⟨k, hk, rfl, HR⟩ := hrel
    by_cases hlt : k < ws.length
    · have hlt2 : (k : Int) < (ws.length : Int) := by omega
      have hws := HW.out.below HR.out.2.2.2
      obtain ⟨b, off, hAW, hdr⟩ := Sl.at hws k (by rw [icells_length]; exact hlt)
      subst hAW
      clear hdr
      have hc := Sl.cell hws k hlt
      have hgd : ws.getD k 0 = ws[k] := by rw [List.getD_eq_getElem?_getD, List.getElem?_eq_getElem hlt]; rfl
      rw [hgd] at hc
      have HWA := hid (fun w => with_any (probS q (ws.take k)) ws[k] w (probS_lt _ _ HQ.out))
      rw [← probS_snoc q ws k hlt] at HWA
      clear hgd hws
      generalize ws[k] = x at *
      generalize hq2 : probS q (ws.take (k + 1)) = q2 at *
      have HQ2 := hid hq2
      clear hq2
      obtain ⟨⟨p0, p1, p2⟩, f0, f1, f2⟩ := three_cells HR.out.1
      go_wp2_with fail
      refine (HWA.out _).mono ?_
      rintro e w3 ⟨rfl, rfl⟩
      have HR2 := hid (HR.out.set1 q2)
      clear HWA HR
      go_wp2
      go_roundw
      case rel => exact ⟨k + 1, by omega, by go_num, by rw [HQ2.out]; exact HR2.out⟩
      case measure => simp [intOf]; omega
    · obtain rfl : k = ws.length := by omega
      have hge : ¬ ((ws.length : Nat) : Int) < ((ws.length : Nat) : Int) := by omega
      have HT := hid (List.take_length (l := ws))
      rw [HT.out] at HR
      clear HT
      obtain ⟨⟨p0, p1, p2⟩, _⟩ := three_cells HR.out.1
      obtain ⟨_, g0, g1, g2⟩ := three_cells HR.out.2.1
      obtain ⟨hz9, hs9, hb9⟩ := HR.out.fin (.int .i64 l) (.int .u64 ((probS q ws : Nat) : Int)) (.slice a' had.length c')
      obtain ⟨⟨r0, r1, r2⟩, _⟩ := three_cells hz9
      go_wp2
      exact bodyPost_ret (v := .agg #[.int .i64 l, .int .u64 ((probS q ws : Nat) : Int), .slice a' had.length c']) (by simp [results, Try.results54, go_sem, r0, r1, r2]) rfl ⟨a', c', rfl, hs9, hb9⟩
def cameS (had : List Bool) (t : Int) : List Bool := if 0 ≤ t ∧ t < (had.length : Int) then had.set t.toNat true else had
theorem cameS_len (had : List Bool) (t : Int) : (cameS had t).length = had.length := by unfold cameS; split <;> simp
theorem bcs_set (had : List Bool) (k : Nat) : (bcs had).set k (.bool true) = bcs (had.set k true) := by simp [bcs, List.map_set]
set_option maxRecDepth 20000 in
set_option maxHeartbeats 2000000 in
theorem rcame_any (t : Int) (l : Int) (q : Nat) (had : List Bool) (A : Option Addr) (cap : Nat) (W : World) (h : Sl W 1 A had.length cap (bcs had)) (hlen : had.length ≤ 1000) (hq : q < 18446744073709551616) :
    Calls Try.prog 57 #[.agg #[.int .i64 l, .int .u64 (q : Int), .slice A had.length cap], .int .i64 t] W fun e w' => ∃ a' c', e = .returned (.agg #[.int .i64 l, .int .u64 ((q : Nat) : Int), .slice a' had.length c']) ∧ Sl w' 1 a' had.length c' (bcs (cameS had t)) ∧ Below W.heap.size W w' := by
  have HC := hid (fun w (hb : Below W.heap.size W w) => cloned_any l (q : Int) A had.length cap (bcs had) w (h.below hb) (bcs_one had) hlen)
  clear h
  go_enter Try.func57, Try.ntmps57
  go_wp2_with fail
  refine (HC.out _ (below2 W _ _)).mono ?_
  rintro e w1 ⟨v, rfl, hb, ho⟩
  obtain ⟨a', c', rfl, _⟩ := Sl.of_own ho
  obtain ⟨k0, k1⟩ := blk_after hb
  have hb1 := (below2 W _ _).trans (hb.mono (by simp; omega))
  have K := hid (And.intro k0 (And.intro k1 (And.intro ho hb1)))
  obtain ⟨⟨p0, p1, p2⟩, f0, f1, f2⟩ := three_cells k0
  clear k0 k1 ho hb hb1 HC
  go_upto_region 2 with (fail)
  refine at_world (fun w => RB W w l q a' c' had) ⟨?_, ?_, ?_, ?_⟩ ?_
  · exact set_three K.out.1 _ _ _
  · exact (Below.heap_setCell _ _ _ _ (by simp)).trans ((Below.heap_setCell _ _ _ _ (by simp)).trans ((Below.heap_setCell _ _ _ _ (by simp)).trans K.out.2.1))
  · exact own_setOld (own_setOld (own_setOld (own_mono K.out.2.2.1 (by simp)) _ _ (by simp)) _ _ (by simp)) _ _ (by simp)
  · exact ((K.out.2.2.2.setCell (by simp) _).setCell (by simp) _).setCell (by simp) _
  clear K p0 p1 p2 f0 f1 f2
  rintro w2 hr
  obtain ⟨⟨p0, p1, p2⟩, f0, f1, f2⟩ := three_cells hr.1
  have HR := hid hr
  clear hr
  have hll : (had.length : Int) ≤ 1000 := by omega
  by_cases ht : 0 ≤ t ∧ t < (had.length : Int)
  · obtain ⟨t1, t2⟩ := ht
    obtain ⟨k, rfl⟩ : ∃ k : Nat, t = (k : Int) := ⟨t.toNat, by omega⟩
    have hkl : k < had.length := by omega
    have hV : Hid (bcs (cameS had (k : Int)) = (bcs had).set k (.bool true)) := hid (by rw [cameS, if_pos ⟨t1, t2⟩, Int.toNat_natCast, bcs_set])
    obtain ⟨g, hg, hgb⟩ : ∃ g, a' = some ⟨g, 0, none⟩ ∧ W.heap.size + 2 ≤ g := by
      rcases HR.out.2.2.1.2 with ⟨_, h9⟩ | ⟨g, cap9, cur, h9, hb, _⟩
      · omega
      · injection h9 with e1; exact ⟨g, e1, hb⟩
    subst hg
    have hc := HR.out.2.2.1.cellAt k (by omega)
    have hf := HR.out.2.2.1.frozenAt k
    have HST := hid ((HR.out.2.2.1.stored k (.bool true)).1)
    have hkl9 : k < (bcs had).length := by rw [bcs_len]; exact hkl
    rw [List.getElem?_eq_getElem hkl9] at hc
    generalize (bcs had)[k]'hkl9 = old at hc
    have HX : Hid ((w2.setCell ⟨g, k, none⟩ (.bool true)).heap[W.heap.size]? = some (.cells #[.int .i64 l, .int .u64 (q : Int), .slice (some ⟨g, 0, none⟩) had.length c'] 64 (0, 0)) ∧ (w2.setCell ⟨g, k, none⟩ (.bool true)).heap[W.heap.size + 1]? = some (.cells #[.int .i64 0, .int .u64 0, .slice none 0 0] 64 (0, 0)) ∧ Below W.heap.size W (w2.setCell ⟨g, k, none⟩ (.bool true))) := hid ⟨(Below.heap_setCell _ _ _ _ (show W.heap.size ≠ g by omega)).trans HR.out.1, (Below.heap_setCell _ _ _ _ (show W.heap.size + 1 ≠ g by omega)).trans HR.out.2.1, HR.out.2.2.2.setCell (show W.heap.size ≤ g by omega) _⟩
    clear hkl9 hgb
    go_upto_region 4 with (fail)
    refine at_world (fun w => w.heap[W.heap.size]? = some (.cells #[.int .i64 l, .int .u64 (q : Int), .slice (some ⟨g, 0, none⟩) had.length c'] 64 (0, 0)) ∧ w.heap[W.heap.size + 1]? = some (.cells #[.int .i64 0, .int .u64 0, .slice none 0 0] 64 (0, 0)) ∧ w.ownsRow (W.heap.size + 2) 4 1 (.slice (some ⟨g, 0, none⟩) had.length c') had.length (bcs (cameS had (k : Int))) ∧ Below W.heap.size W w) ⟨HX.out.1, HX.out.2.1, by rw [hV.out]; exact HST.out, HX.out.2.2⟩ ?_
    clear p0 p1 p2 f0 f1 f2 HR HX HST hc hf
    rintro w4 ⟨hx4, hz4, ho4, hb4⟩
    obtain ⟨⟨p0, p1, p2⟩, _⟩ := three_cells hx4
    obtain ⟨_, g0, g1, g2⟩ := three_cells hz4
    obtain ⟨⟨r0, r1, r2⟩, _⟩ := three_cells (set_three hz4 (.int .i64 l) (.int .u64 (q : Int)) (.slice (some ⟨g, 0, none⟩) had.length c'))
    have HO4 := hid ho4
    have HB4 := hid hb4
    clear hx4 hz4 ho4 hb4
    go_wp2
    exact bodyPost_ret (v := .agg #[.int .i64 l, .int .u64 (q : Int), .slice (some ⟨g, 0, none⟩) had.length c']) (by simp [results, Try.results57, go_sem, r0, r1, r2]) rfl ⟨some ⟨g, 0, none⟩, c', rfl, sl_own (own_setOld (own_setOld (own_setOld HO4.out _ _ (by simp)) _ _ (by simp)) _ _ (by simp)), ((HB4.out.setCell (by simp) _).setCell (by simp) _).setCell (by simp) _⟩
  · have hV : Hid (cameS had t = had) := hid (by rw [cameS, if_neg ht])
    by_cases t1 : 0 ≤ t
    · have t2 : ¬ t < (had.length : Int) := fun h9 => ht ⟨t1, h9⟩
      clear ht
      obtain ⟨_, g0, g1, g2⟩ := three_cells HR.out.2.1
      obtain ⟨hz9, hs9, hb9⟩ := HR.out.fin (.int .i64 l) (.int .u64 (q : Int)) (.slice a' had.length c')
      obtain ⟨⟨r0, r1, r2⟩, _⟩ := three_cells hz9
      go_wp2
      exact bodyPost_ret (v := .agg #[.int .i64 l, .int .u64 (q : Int), .slice a' had.length c']) (by simp [results, Try.results57, go_sem, r0, r1, r2]) rfl ⟨a', c', rfl, by rw [hV.out]; exact hs9, hb9⟩
    · clear ht
      obtain ⟨_, g0, g1, g2⟩ := three_cells HR.out.2.1
      obtain ⟨hz9, hs9, hb9⟩ := HR.out.fin (.int .i64 l) (.int .u64 (q : Int)) (.slice a' had.length c')
      obtain ⟨⟨r0, r1, r2⟩, _⟩ := three_cells hz9
      go_wp2
      exact bodyPost_ret (v := .agg #[.int .i64 l, .int .u64 (q : Int), .slice a' had.length c']) (by simp [results, Try.results57, go_sem, r0, r1, r2]) rfl ⟨a', c', rfl, by rw [hV.out]; exact hs9, hb9⟩
end Go.Proofs.Ytadjmgmdnekllaa
