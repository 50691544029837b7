/- BookTells: the law. -/
import Derived.Test.YtkepfkfoblocgaaQBtA
import Derived.Test.YtkepfkfoblocgaaQBtC
import Derived.Test.YtkepfkfoblocgaaQBtD
import Derived.Test.YtkepfkfoblocgaaQRlong
import Derived.Test.YtkepfkfoblocgaaQRsame
import Derived.Deep.RegionHeld3
namespace Go.Proofs.Ytkepfkfoblocgaa
open Go.RowKit Go.Sort
set_option linter.unusedVariables false
set_option linter.unusedSimpArgs false

theorem ints_inB {w : World} {A : Option Addr} {len cap : Nat} (h : Rd Try.prog w 90 [.slice A len cap]) : ∃ l : List Int, Sl w 1 A len cap (icells .i64 l) ∧ l.length = len := by
  obtain ⟨l, h1, h2, _⟩ := rows_in (α := Int) (f := fun x => [.int .i64 x]) (fun _ => True) Try.underlying90 (n := 1) (by kernel_rfl) (by omega) (fun _ => rfl) (fun cs hl hr => by
    obtain ⟨x, e, _⟩ := Rd.int Try.underlying3 hr
    exact ⟨x, e, trivial⟩) h
  have e : gcells (fun x : Int => [Value.int .i64 x]) l = icells .i64 l := by
    unfold gcells icells
    clear h1 h2
    induction l with
    | nil => rfl
    | cons x l ih => rw [List.map_cons, List.flatten_cons, ih (fun _ _ => trivial), List.map_cons]; rfl
  rw [e] at h1
  exact ⟨l, h1, h2⟩
theorem bools_inB {w : World} {A : Option Addr} {len cap : Nat} (h : Rd Try.prog w 91 [.slice A len cap]) : ∃ l : List Bool, Sl w 1 A len cap (blcells l) ∧ l.length = len := by
  obtain ⟨l, h1, h2, _⟩ := rows_in (α := Bool) (f := fun x => [.bool x]) (fun _ => True) Try.underlying91 (n := 1) (by kernel_rfl) (by omega) (fun _ => rfl) (fun cs hl hr => by
    obtain ⟨x, e⟩ := Rd.bool Try.underlying4 hr
    exact ⟨x, e, trivial⟩) h
  have e : gcells (fun x : Bool => [Value.bool x]) l = blcells l := by
    unfold gcells blcells
    clear h1 h2
    induction l with
    | nil => rfl
    | cons x l ih => rw [List.map_cons, List.flatten_cons, ih (fun _ _ => trivial), List.map_cons]; rfl
  rw [e] at h1
  exact ⟨l, h1, h2⟩
instance : Inhabited Ee := ⟨(⟨0, 0, 0, [], [], []⟩, ⟨none, 0, none, 0, none, 0⟩)⟩
theorem rd_entry {w : World} {a : Array Value} (hn : a.size = 6) (h : Rd Try.prog w 93 a.toList) : ∃ x : Ee, a.toList = ebl x ∧ InE w x := by
  have hc : Try.prog.cellsOf 3 = 1 := by kernel_rfl
  have hc2 : Try.prog.cellsOf 43 = 1 := by kernel_rfl
  have hc3 : Try.prog.cellsOf 90 = 1 := by kernel_rfl
  have hc4 : Try.prog.cellsOf 91 = 1 := by kernel_rfl
  obtain ⟨_, hf⟩ := Rd.struct Try.underlying93 h
  have f0 : Rd Try.prog w 3 ((a.toList.drop 0).take (Try.prog.cellsOf 3)) := hf 0 _ rfl
  have f1 : Rd Try.prog w 3 ((a.toList.drop 1).take (Try.prog.cellsOf 3)) := hf 1 _ rfl
  have f2 : Rd Try.prog w 3 ((a.toList.drop 2).take (Try.prog.cellsOf 3)) := hf 2 _ rfl
  have f3 : Rd Try.prog w 43 ((a.toList.drop 3).take (Try.prog.cellsOf 43)) := hf 3 _ rfl
  have f4 : Rd Try.prog w 90 ((a.toList.drop 4).take (Try.prog.cellsOf 90)) := hf 4 _ rfl
  have f5 : Rd Try.prog w 91 ((a.toList.drop 5).take (Try.prog.cellsOf 91)) := hf 5 _ rfl
  rw [hc] at f0 f1 f2
  rw [hc2] at f3
  rw [hc3] at f4
  rw [hc4] at f5
  obtain ⟨k, e0, _⟩ := Rd.int Try.underlying3 f0
  obtain ⟨j, e1, _⟩ := Rd.int Try.underlying3 f1
  obtain ⟨t, e2, _⟩ := Rd.int Try.underlying3 f2
  have sl : ∀ {i T E : Nat}, Try.prog.underlying T = some (.slice E) → Rd Try.prog w T ((a.toList.drop i).take 1) → ∃ A len cap, (a.toList.drop i).take 1 = [.slice A len cap] := fun hu hr => by
    rcases Rd.slice hu hr with h1 | ⟨ad, len, cap, _, h1, _⟩
    · exact ⟨_, _, _, h1⟩
    · exact ⟨_, _, _, h1⟩
  obtain ⟨A3, n3, c3, e3⟩ := sl Try.underlying43 f3
  obtain ⟨A4, n4, c4, e4⟩ := sl Try.underlying90 f4
  obtain ⟨A5, n5, c5, e5⟩ := sl Try.underlying91 f5
  rw [e3] at f3
  rw [e4] at f4
  rw [e5] at f5
  obtain ⟨l3, rfl, h3⟩ := rd_texts f3
  obtain ⟨l4, h4, rfl⟩ := ints_inB f4
  obtain ⟨l5, h5, rfl⟩ := bools_inB f5
  have one : ∀ {i : Nat} {v : Value}, (a.toList.drop i).take 1 = [v] → a.toList[i]? = some v := fun {i v} h => by
    have h9 : ((a.toList.drop i).take 1)[0]? = some v := by rw [h]; rfl
    rw [List.getElem?_take, if_pos (by omega), List.getElem?_drop, Nat.add_zero] at h9
    exact h9
  have g0 := one e0
  have g1 := one e1
  have g2 := one e2
  have g3 := one e3
  have g4 := one e4
  have g5 := one e5
  refine ⟨(⟨k, j, t, l3, l4, l5⟩, ⟨A3, c3, A4, c4, A5, c5⟩), ?_, h3, h4, h5⟩
  apply List.ext_getElem?
  intro j
  have hl : a.toList.length = 6 := by rw [Array.length_toList]; exact hn
  rcases (by omega : j = 0 ∨ j = 1 ∨ j = 2 ∨ j = 3 ∨ j = 4 ∨ j = 5 ∨ 6 ≤ j) with rfl | rfl | rfl | rfl | rfl | rfl | h9
  · exact g0
  · exact g1
  · exact g2
  · exact g3
  · exact g4
  · exact g5
  · rw [List.getElem?_eq_none (by omega), List.getElem?_eq_none (by simpa [ebl] using h9)]
theorem books_in {w : World} {A : Option Addr} {len cap : Nat} (h : Rd Try.prog w 83 [.slice A len cap]) : ∃ xs : List Ee, xs.length = len ∧ InBk w A cap xs := by
  obtain ⟨l, h1, h2, h3⟩ := rows_in (α := Ee) (f := ebl) (fun x => InE w x) Try.underlying83 (n := 6) (by kernel_rfl) (by omega) ebl_len (fun cs hl hr => by
    obtain ⟨x, e, hx⟩ := rd_entry (a := cs.toArray) (by simpa using hl) (by simpa using hr)
    exact ⟨x, by simpa using e, hx⟩) h
  subst h2
  exact ⟨l, rfl, h1, h3⟩

theorem longE_lenB {l : List Rc} {m : Nat} (h : longE l (m : Int) = false) : l.length ≤ m := by
  unfold longE at h
  rw [Bool.or_eq_false_iff] at h
  have := of_decide_eq_false h.2
  omega
set_option maxRecDepth 20000 in
set_option maxHeartbeats 8000000 in
theorem bookTells_law (A : Option Addr) (c : Nat) (els : List El) (Ab : Option Addr) (cb : Nat) (xs : List Ee) (job : Int) (W : World) (h : InR W A c els) (hb : InBk W Ab cb xs) :
    Calls Try.prog 10 #[.slice A els.length c, .slice Ab xs.length cb, .int .i64 job] W fun e w' => e = .returned (.bool true) ∧ RowKit.Below W.heap.size W w' := by
  have HX := hid h
  have HY := hid hb
  have HK := hid (fun w => works20_any w)
  have HLO := hid (r18long_any A c els 60 W h)
  have HLB := hid (fun w (hw : RowKit.Below W.heap.size W w) => r20long_any Ab cb xs w (hb.below hw))
  have hll : els.length ≤ 9223372036854775807 := by have h1 := h.1.2.1; have h2 := h.1.2.2.1; unfold maxLen at h2; omega
  have hxl : xs.length ≤ 9223372036854775807 := by have := hb.len; unfold maxLen at this; omega
  have HLN := hid (fun h9 => longE_lenB (l := els.map (·.1)) (m := 60) h9)
  rw [List.length_map] at HLN
  simp only [show ((60 : Nat) : Int) = 60 from rfl] at HLN
  have HSM := hid (fun (h9 : longBk (xs.map (·.1)) = false) => show xs.length ≤ 60 ∧ ∀ y ∈ xs, SmE y from ⟨(longBk_sm h9).1, fun y hy => by
    obtain ⟨s1, s2, s3⟩ := (longBk_sm h9).2 y hy
    have := (longB_no s3).2
    exact ⟨by omega, by omega, by omega⟩⟩)
  clear h hb
  generalize longE (els.map (·.1)) 60 = lb at *
  generalize longBk (xs.map (·.1)) = lk at *
  go_enter Try.func10, Try.ntmps10
  go_wp2_with fail
  refine HLO.out.mono ?_
  rintro e w1 ⟨rfl, hb1⟩
  have HB1 := hid hb1
  clear hb1 HLO
  cases lb
  case true =>
    go_wp2_with fail
    refine (HK.out w1).mono ?_
    rintro e wz ⟨rfl, hbz⟩
    have HBZ := hid (HB1.out.trans (hbz.mono HB1.out.size))
    clear hbz
    go_wp2
    go_ret
    exact ⟨rfl, HBZ.out⟩
  have hel := HLN.out rfl
  clear HLN
  go_wp2_with fail
  refine (HLB.out w1 HB1.out).mono ?_
  rintro e w2 ⟨rfl, hb2⟩
  have HB2 := hid (HB1.out.trans (hb2.mono HB1.out.size))
  clear hb2 HLB HB1
  cases lk
  case true =>
    go_wp2_with fail
    refine (HK.out w2).mono ?_
    rintro e wz ⟨rfl, hbz⟩
    have HBZ := hid (HB2.out.trans (hbz.mono HB2.out.size))
    clear hbz
    go_wp2
    go_ret
    exact ⟨rfl, HBZ.out⟩
  obtain ⟨hx60, hsm⟩ := HSM.out rfl
  have HS := hid hsm
  clear HSM hsm
  have HF1 := hid (fun w (hw : RowKit.Below W.heap.size W w) => bfold_any A c els w (HX.out.below hw) (by omega))
  have HF2 := hid (fun w (hw : RowKit.Below W.heap.size W w) => r20fold_any A c els w (HX.out.below hw) (by omega))
  have hnm : (foldB [] (els.map (·.1))).2 ≤ (foldB [] (els.map (·.1))).2 := Nat.le_refl _
  clear hnm
  generalize foldB [] (els.map (·.1)) = fb at *
  obtain ⟨F, n⟩ := fb
  simp only at HF1 HF2
  go_wp2_with fail
  refine (HF1.out w2 HB2.out).mono ?_
  rintro e w3 ⟨A3, c3, cs, rfl, hm3, _, hr3, hb3⟩
  have HB3 := hid (HB2.out.trans (hb3.mono HB2.out.size))
  have HC3 := hid hr3.inBk
  have HMC := hid hm3
  clear hm3 hr3 hb3 HB2 HF1
  go_wp2_with fail
  refine (HF2.out w3 HB3.out).mono ?_
  rintro e w4 ⟨A4, c4, ds, rfl, hm4, _, hp4, hb4⟩
  have HB4 := hid (HB3.out.trans (hb4.mono HB3.out.size))
  have HC4 := hid (HC3.out.below hb4)
  have HD4 := hid (hp4.now (HX.out.below HB4.out))
  have HMD := hid hm4
  clear hm4 hp4 hb4 HB3 HC3 HF2 HX
  have HS1 := r20same_any A3 A4 c3 c4 cs ds w4 HC4.out HD4.out
  rw [decide_eq_true (HMC.out.trans HMD.out.symm)] at HS1
  have HSS := hid HS1
  clear HS1
  go_wp2_with fail
  refine HSS.out.mono ?_
  rintro e w5 ⟨rfl, hb5⟩
  have HB5 := hid (HB4.out.trans (hb5.mono HB4.out.size))
  have HC5 := hid (HC4.out.below hb5)
  have HD5 := hid (HD4.out.below hb5)
  clear hb5 HSS HB4 HC4 HD4
  have HS2 := bsame_any Ab A3 cb c3 xs cs w5 (HY.out.below HB5.out) HC5.out
  rw [HMC.out] at HS2
  have HSS := hid HS2
  clear HS2
  generalize hrr : decide (xs.map (·.1) = F) = r at *
  have HRR := hid hrr
  clear hrr
  go_wp2_with fail
  refine HSS.out.mono ?_
  rintro e w6 ⟨rfl, hb6⟩
  have HB6 := hid (HB5.out.trans (hb6.mono HB5.out.size))
  have HD6 := hid (HD5.out.below hb6)
  clear hb6 HSS HB5 HC5 HD5
  have HS3 := r20same_any Ab A4 cb c4 xs ds w6 (HY.out.below HB6.out) HD6.out
  rw [HMD.out, HRR.out] at HS3
  have HSS := hid HS3
  clear HS3
  have br : (r != r) = false := by simp
  go_wp2_with fail
  refine HSS.out.mono ?_
  rintro e w7 ⟨rfl, hb7⟩
  have HB7 := hid (HB6.out.trans (hb7.mono HB6.out.size))
  clear hb7 HSS HB6 HD6 HRR HMC HMD
  have HS4 := bsame_any Ab Ab cb cb xs xs w7 (HY.out.below HB7.out) (HY.out.below HB7.out)
  rw [decide_eq_true rfl] at HS4
  have HSS := hid HS4
  clear HS4
  go_wp2_with fail
  refine HSS.out.mono ?_
  rintro e w8 ⟨rfl, hb8⟩
  have HB8 := hid (HB7.out.trans (hb8.mono HB7.out.size))
  clear hb8 HSS HB7 br
  try clear r
  go_wp2_with fail
  refine (bclone_any Ab cb xs w8 (HY.out.below HB8.out) (by omega) HS.out).mono ?_
  rintro e w9 ⟨A9, c9, zs, rfl, hm9, hr9, hb9⟩
  have HB9 := hid (HB8.out.trans (hb9.mono HB8.out.size))
  have HS5 := r20same_any A9 Ab c9 cb zs xs w9 hr9.inBk (HY.out.below HB9.out)
  rw [decide_eq_true hm9] at HS5
  have HSS := hid HS5
  clear HS5 hm9 hr9 hb9 HB8
  go_wp2_with fail
  refine HSS.out.mono ?_
  rintro e w10 ⟨rfl, hb10⟩
  have HB10 := hid (HB9.out.trans (hb10.mono HB9.out.size))
  clear hb10 HSS HB9
  have HFB := hid (bfind_any Ab cb xs job w10 (HY.out.below HB10.out) HS.out)
  have HFR := hid (fun w (hw : RowKit.Below W.heap.size W w) => r20find_any Ab cb xs job w (HY.out.below hw))
  unfold FindR at HFB HFR
  generalize findB (xs.map (·.1)) job = fe at *
  generalize (plB (xs.map (·.1)) job).isSome = ok at *
  go_wp2_with fail
  refine HFB.out.mono ?_
  rintro e w11 ⟨ya, rfl, hy11, hi11, hb11⟩
  have HB11 := hid (HB10.out.trans (hb11.mono HB10.out.size))
  have HI11 := hid hi11
  have HYA := hid hy11
  obtain ⟨⟨id1, sc1, ep1, ns1, bd1, dn1⟩, ⟨a1, ca1, a2, ca2, a3, ca3⟩⟩ := ya
  simp only [ecE]
  clear hy11 hi11 hb11 HFB HB10
  go_upto_region 8 with (fail)
  refine at_world (fun u => u.heap[w11.heap.size]? = some (.cells #[.int .i64 id1, .int .i64 sc1, .int .i64 ep1, .slice a1 ns1.length ca1, .slice a2 bd1.length ca2, .slice a3 dn1.length ca3] 93 (0, 0)) ∧ RowKit.Below w11.heap.size w11 u) ⟨heap_alloc_new _ _, (RowKit.Below.refl _ _).alloc (Nat.le_refl _) _⟩ ?_
  rintro w12 ⟨hx12, hb12⟩
  have HX12 := hid hx12
  have HB12 := hid (HB11.out.trans (hb12.mono HB11.out.size))
  have HI12 := hid (HI11.out.below hb12)
  clear hx12 hb12 HB11 HI11
  generalize w11.heap.size = N1 at *
  go_wp2_with fail
  refine (HFR.out w12 HB12.out).mono ?_
  rintro e w13 ⟨yb, rfl, hy13, hi13, hb13⟩
  have HB13 := hid (HB12.out.trans (hb13.mono HB12.out.size))
  have HX13 := hid (keep0 HX12.out hb13)
  have HI13 := hid (HI12.out.below hb13)
  have HJ13 := hid hi13
  have HYB := hid (HYA.out.trans hy13.symm)
  obtain ⟨⟨id2, sc2, ep2, ns2, bd2, dn2⟩, ⟨e1, ce1, e2, ce2, e3, ce3⟩⟩ := yb
  simp only [ecE]
  clear hy13 hi13 hb13 HFR HB12 HX12 HI12 HYA
  go_upto_region 9 with (fail)
  refine at_world (fun u => u.heap[N1]? = some (.cells #[.int .i64 id1, .int .i64 sc1, .int .i64 ep1, .slice a1 ns1.length ca1, .slice a2 bd1.length ca2, .slice a3 dn1.length ca3] 93 (0, 0)) ∧ u.heap[w13.heap.size]? = some (.cells #[.int .i64 id2, .int .i64 sc2, .int .i64 ep2, .slice e1 ns2.length ce1, .slice e2 bd2.length ce2, .slice e3 dn2.length ce3] 93 (0, 0)) ∧ RowKit.Below w13.heap.size w13 u) ⟨keep0 HX13.out ((RowKit.Below.refl _ _).alloc (Nat.le_refl _) _), heap_alloc_new _ _, (RowKit.Below.refl _ _).alloc (Nat.le_refl _) _⟩ ?_
  rintro w14 ⟨hx14, hy14, hb14⟩
  have HB14 := hid (HB13.out.trans (hb14.mono HB13.out.size))
  have HO := r20one_any (⟨id1, sc1, ep1, ns1, bd1, dn1⟩, ⟨a1, ca1, a2, ca2, a3, ca3⟩) (⟨id2, sc2, ep2, ns2, bd2, dn2⟩, ⟨e1, ce1, e2, ce2, e3, ce3⟩) w14 (HI13.out.below hb14) (HJ13.out.below hb14)
  rw [decide_eq_true HYB.out] at HO
  simp only [ecE] at HO
  have HOO := hid HO
  obtain ⟨⟨p0, p1, p2, p3, p4, p5⟩, _⟩ := six_cells hx14
  obtain ⟨⟨q0, q1, q2, q3, q4, q5⟩, _⟩ := six_cells hy14
  clear HO hx14 hy14 hb14 HX13 HI13 HJ13 HYB HB13
  generalize w13.heap.size = N2 at *
  have bo : (ok != ok) = false := by simp
  go_wp2_with fail
  refine HOO.out.mono ?_
  rintro e w15 ⟨rfl, hb15⟩
  have HB15 := hid (HB14.out.trans (hb15.mono HB14.out.size))
  clear hb15 HOO HB14 p0 p1 p2 p3 p4 p5 q0 q1 q2 q3 q4 q5 bo
  go_wp2
  go_loopw [15] (fun i wr => ∃ n : Nat, n ≤ xs.length ∧ i = .int .i64 (n : Int) ∧ Hid (RowKit.Below W.heap.size W wr)) (fun i _ => xs.length - (intOf i).toNat)
  case atStart => exact ⟨0, by omega, rfl, HB15⟩
  case round =>
    obtain ⟨n, hn, rfl, HB⟩ := hrel
    clear HB15
    by_cases hlt : n < xs.length
    · have hlt2 : (n : Int) < (xs.length : Int) := by omega
      have i0 : ¬ (n : Int) < 0 := by omega
      obtain ⟨b4, o4, hA4, y0, y1, y2, y3, y4, y5⟩ := (HY.out.below HB.out).el n hlt
      have HIN := hid ((HY.out.2 _ (List.getElem_mem hlt)).below HB.out)
      have HSE := hid (HS.out _ (List.getElem_mem hlt))
      subst hA4
      generalize xs[n]'hlt = ye at *
      have HOP := hid (fun U (hU : RowKit.Below wr.heap.size wr U) => bopen_any ye U (HIN.out.below hU) HSE.out)
      have HOR := hid (fun U (hU : RowKit.Below wr.heap.size wr U) => r20open_any ye U (HIN.out.below hU) HSE.out)
      have HLP := hid (fun U (hU : RowKit.Below wr.heap.size wr U) => bleft_any ye U (HIN.out.below hU) HSE.out)
      have HLR := hid (fun U (hU : RowKit.Below wr.heap.size wr U) => r20left_any ye U (HIN.out.below hU) HSE.out)
      have hol : (openB ye.1).length ≤ 9223372036854775807 := by
        have h1 := opk_len ye.1 (min ye.1.ns.length ye.1.bd.length)
        have h2 := HSE.out.1
        unfold openB
        omega
      generalize openB ye.1 = L at *
      generalize leftB ye.1 = Q at *
      obtain ⟨⟨id, sc, ee, ms, bd, dn⟩, ⟨A1, ca, P, cb9, D, cd⟩⟩ := ye
      simp only [ecE] at HOP HOR HLP HLR
      simp only at y0 y1 y2 y3 y4 y5
      clear HIN HSE
      go_upto_region 14 with (fail)
      have HY6 := hid (And.intro y0 (And.intro y1 (And.intro y2 (And.intro y3 (And.intro y4 y5)))))
      clear y0 y1 y2 y3 y4 y5
      have hS : ∀ U, RowKit.Below wr.heap.size wr U → ((U.cell? ⟨b4, o4 + n * 6, none⟩ = some (.int .i64 id) ∧ U.cell? ⟨b4, o4 + n * 6 + 1, none⟩ = some (.int .i64 sc) ∧ U.cell? ⟨b4, o4 + n * 6 + 2, none⟩ = some (.int .i64 ee) ∧ U.cell? ⟨b4, o4 + n * 6 + 3, none⟩ = some (.slice A1 ms.length ca) ∧ U.cell? ⟨b4, o4 + n * 6 + 4, none⟩ = some (.slice P bd.length cb9) ∧ U.cell? ⟨b4, o4 + n * 6 + 5, none⟩ = some (.slice D dn.length cd)) ∧ RowKit.Below wr.heap.size wr U) := fun U hU => ⟨⟨cellb hU HY6.out.1, cellb hU HY6.out.2.1, cellb hU HY6.out.2.2.1, cellb hU HY6.out.2.2.2.1, cellb hU HY6.out.2.2.2.2.1, cellb hU HY6.out.2.2.2.2.2⟩, hU⟩
      have hk0 : RowKit.Below wr.heap.size wr wr.drew := below_drew (RowKit.Below.refl _ _)
      refine wp_region_held_drew (S := fun U => (U.cell? ⟨b4, o4 + n * 6, none⟩ = some (.int .i64 id) ∧ U.cell? ⟨b4, o4 + n * 6 + 1, none⟩ = some (.int .i64 sc) ∧ U.cell? ⟨b4, o4 + n * 6 + 2, none⟩ = some (.int .i64 ee) ∧ U.cell? ⟨b4, o4 + n * 6 + 3, none⟩ = some (.slice A1 ms.length ca) ∧ U.cell? ⟨b4, o4 + n * 6 + 4, none⟩ = some (.slice P bd.length cb9) ∧ U.cell? ⟨b4, o4 + n * 6 + 5, none⟩ = some (.slice D dn.length cd)) ∧ RowKit.Below wr.heap.size wr U) (by kernel_rfl) (hS _ hk0) (fun hHeld => ?_)
      generalize wr.drew = k0 at *
      refine wpAnyH_take (i := 0) (v := ?_) rfl (by kernel_rfl) (by kernel_rfl) (by kernel_rfl) (fun _ _ _ h => h) (Or.inl ⟨by rfl, ?_⟩) (by assumption) ?_
      rotate_left
      focus
        intro U hU
        try dsimp only at hU
        go_simp
        try (with_reducible rfl)
      simp only [List.getElem_toArray, List.getElem_cons_succ, List.getElem_cons_zero, Act.put, List.setIfInBounds_toArray, List.set_cons_zero, List.set_cons_succ]
      refine wpAnyH_take (i := 1) (v := ?_) rfl (by kernel_rfl) (by kernel_rfl) (by kernel_rfl) (fun _ _ _ h => h) (Or.inl ⟨by rfl, ?_⟩) (by assumption) ?_
      rotate_left
      focus
        intro U hU
        try dsimp only at hU
        go_simp
        try (with_reducible rfl)
      simp only [List.getElem_toArray, List.getElem_cons_succ, List.getElem_cons_zero, Act.put, List.setIfInBounds_toArray, List.set_cons_zero, List.set_cons_succ]
      refine wpAnyH_take (i := 2) (v := ?_) rfl (by kernel_rfl) (by kernel_rfl) (by kernel_rfl) (fun _ _ _ h => h) (Or.inl ⟨by rfl, ?_⟩) (by assumption) ?_
      rotate_left
      focus
        intro U hU
        try dsimp only at hU
        go_simp
        try (with_reducible rfl)
      simp only [List.getElem_toArray, List.getElem_cons_succ, List.getElem_cons_zero, Act.put, List.setIfInBounds_toArray, List.set_cons_zero, List.set_cons_succ]
      refine wpAnyH_take (i := 3) (v := ?_) rfl (by kernel_rfl) (by kernel_rfl) (by kernel_rfl) (fun _ _ _ h => h) (Or.inl ⟨by rfl, ?_⟩) (by assumption) ?_
      rotate_left
      focus
        intro U hU
        try dsimp only at hU
        go_simp
        try (with_reducible rfl)
      simp only [List.getElem_toArray, List.getElem_cons_succ, List.getElem_cons_zero, Act.put, List.setIfInBounds_toArray, List.set_cons_zero, List.set_cons_succ]
      refine wpAnyH_take (i := 5) (v := ?_) rfl (by kernel_rfl) (by kernel_rfl) (by kernel_rfl) (fun _ _ _ h => h) (Or.inl ⟨by rfl, ?_⟩) (by assumption) ?_
      rotate_left
      focus
        intro U hU
        try dsimp only at hU
        go_simp
        try (with_reducible rfl)
      simp only [List.getElem_toArray, List.getElem_cons_succ, List.getElem_cons_zero, Act.put, List.setIfInBounds_toArray, List.set_cons_zero, List.set_cons_succ]
      refine wpAnyH_take (i := 6) (v := ?_) rfl (by kernel_rfl) (by kernel_rfl) (by kernel_rfl) (fun _ _ _ h => h) (Or.inl ⟨by rfl, ?_⟩) (by assumption) ?_
      rotate_left
      focus
        intro U hU
        try dsimp only at hU
        go_simp
        try (with_reducible rfl)
      simp only [List.getElem_toArray, List.getElem_cons_succ, List.getElem_cons_zero, Act.put, List.setIfInBounds_toArray, List.set_cons_zero, List.set_cons_succ]
      refine wpAnyH_take (i := 7) (v := ?_) rfl (by kernel_rfl) (by kernel_rfl) (by kernel_rfl) (fun _ _ _ h => h) (Or.inl ⟨by rfl, ?_⟩) (by assumption) ?_
      rotate_left
      focus
        intro U hU
        try dsimp only at hU
        go_simp
        try (with_reducible rfl)
      simp only [List.getElem_toArray, List.getElem_cons_succ, List.getElem_cons_zero, Act.put, List.setIfInBounds_toArray, List.set_cons_zero, List.set_cons_succ]
      refine wpAnyH_take (i := 8) (v := ?_) rfl (by kernel_rfl) (by kernel_rfl) (by kernel_rfl) (fun _ _ _ h => h) (Or.inl ⟨by rfl, ?_⟩) (by assumption) ?_
      rotate_left
      focus
        intro U hU
        try dsimp only at hU
        go_simp
        try (with_reducible rfl)
      simp only [List.getElem_toArray, List.getElem_cons_succ, List.getElem_cons_zero, Act.put, List.setIfInBounds_toArray, List.set_cons_zero, List.set_cons_succ]
      refine wpAnyH_ready (rs := [4]) (by kernel_rfl) (by simp) ?_
      refine AllReadyH.cons rfl (fun K hK => ?_) AllReadyH.nil
      simp only [List.getElem_toArray, List.getElem_cons_succ, List.getElem_cons_zero]
      go_simp
      refine (HOP.out k0 hk0).mono ?_
      rintro q k1 ⟨A5, c5, rfl, hs5, hb5⟩
      have hk1 := hk0.trans (hb5.mono hk0.size)
      clear hb5
      go_wp2_with fail
      refine hK.out _ _ ?_ (fun hHeld2 => ?_)
      focus
        exact hS _ hk1
      clear hHeld
      have hHeld := hHeld2
      clear hHeld2 hK K
      try simp only [List.getElem_toArray, List.getElem_cons_succ, List.getElem_cons_zero, Act.put, List.setIfInBounds_toArray, List.set_cons_zero, List.set_cons_succ]
      refine wpAnyH_ready (rs := [9]) (by kernel_rfl) (by simp) ?_
      refine AllReadyH.cons rfl (fun K hK => ?_) AllReadyH.nil
      simp only [List.getElem_toArray, List.getElem_cons_succ, List.getElem_cons_zero]
      go_simp
      refine (HOR.out k1 hk1).mono ?_
      rintro q k2 ⟨A6, c6, rfl, hs6, hb6⟩
      have hk2 := hk1.trans (hb6.mono hk1.size)
      replace hs5 := hs5.below hb6
      clear hb6
      go_wp2_with fail
      refine hK.out _ _ ?_ (fun hHeld2 => ?_)
      focus
        exact hS _ hk2
      clear hHeld
      have hHeld := hHeld2
      clear hHeld2 hK K
      try simp only [List.getElem_toArray, List.getElem_cons_succ, List.getElem_cons_zero, Act.put, List.setIfInBounds_toArray, List.set_cons_zero, List.set_cons_succ]
      refine wpAnyH_ready (rs := [10]) (by kernel_rfl) (by simp) ?_
      refine AllReadyH.cons rfl (fun K hK => ?_) AllReadyH.nil
      simp only [List.getElem_toArray, List.getElem_cons_succ, List.getElem_cons_zero]
      go_simp
      have hsm := same06 A5 A6 L.length c5 L.length c6 L L k2 hs5 hs6 hol hol
      rw [show (L == L) = true by simp] at hsm
      refine hsm.mono ?_
      rintro q k3 ⟨rfl, qd, rfl⟩
      have hk3 : RowKit.Below wr.heap.size wr (k2.drewN qd) := hk2.trans (⟨rfl, rfl, rfl, Nat.le_refl _, fun _ _ => rfl⟩ : RowKit.Below wr.heap.size k2 (k2.drewN qd))
      clear hsm hs5 hs6
      go_wp2_with fail
      refine hK.out _ _ ?_ (fun hHeld2 => ?_)
      focus
        exact hS _ hk3
      clear hHeld
      have hHeld := hHeld2
      clear hHeld2 hK K
      try simp only [List.getElem_toArray, List.getElem_cons_succ, List.getElem_cons_zero, Act.put, List.setIfInBounds_toArray, List.set_cons_zero, List.set_cons_succ]
      refine wpAnyH_take (i := 11) (v := ?_) rfl (by kernel_rfl) (by kernel_rfl) (by kernel_rfl) (fun _ _ _ h => h) (Or.inl ⟨by rfl, ?_⟩) (by assumption) ?_
      rotate_left
      focus
        intro U hU
        try dsimp only at hU
        go_simp
        try (with_reducible rfl)
      simp only [List.getElem_toArray, List.getElem_cons_succ, List.getElem_cons_zero, Act.put, List.setIfInBounds_toArray, List.set_cons_zero, List.set_cons_succ]
      refine wpAnyH_take (i := 12) (v := ?_) rfl (by kernel_rfl) (by kernel_rfl) (by kernel_rfl) (fun _ _ _ h => h) (Or.inl ⟨by rfl, ?_⟩) (by assumption) ?_
      rotate_left
      focus
        intro U hU
        try dsimp only at hU
        go_simp
        try (with_reducible rfl)
      simp only [List.getElem_toArray, List.getElem_cons_succ, List.getElem_cons_zero, Act.put, List.setIfInBounds_toArray, List.set_cons_zero, List.set_cons_succ]
      refine wpAnyH_take (i := 13) (v := ?_) rfl (by kernel_rfl) (by kernel_rfl) (by kernel_rfl) (fun _ _ _ h => h) (Or.inl ⟨by rfl, ?_⟩) (by assumption) ?_
      rotate_left
      focus
        intro U hU
        try dsimp only at hU
        go_simp
        try (with_reducible rfl)
      simp only [List.getElem_toArray, List.getElem_cons_succ, List.getElem_cons_zero, Act.put, List.setIfInBounds_toArray, List.set_cons_zero, List.set_cons_succ]
      refine wpAnyH_take (i := 14) (v := ?_) rfl (by kernel_rfl) (by kernel_rfl) (by kernel_rfl) (fun _ _ _ h => h) (Or.inl ⟨by rfl, ?_⟩) (by assumption) ?_
      rotate_left
      focus
        intro U hU
        try dsimp only at hU
        go_simp
        try (with_reducible rfl)
      simp only [List.getElem_toArray, List.getElem_cons_succ, List.getElem_cons_zero, Act.put, List.setIfInBounds_toArray, List.set_cons_zero, List.set_cons_succ]
      refine wpAnyH_take (i := 15) (v := ?_) rfl (by kernel_rfl) (by kernel_rfl) (by kernel_rfl) (fun _ _ _ h => h) (Or.inl ⟨by rfl, ?_⟩) (by assumption) ?_
      rotate_left
      focus
        intro U hU
        try dsimp only at hU
        go_simp
        try (with_reducible rfl)
      simp only [List.getElem_toArray, List.getElem_cons_succ, List.getElem_cons_zero, Act.put, List.setIfInBounds_toArray, List.set_cons_zero, List.set_cons_succ]
      refine wpAnyH_take (i := 16) (v := ?_) rfl (by kernel_rfl) (by kernel_rfl) (by kernel_rfl) (fun _ _ _ h => h) (Or.inl ⟨by rfl, ?_⟩) (by assumption) ?_
      rotate_left
      focus
        intro U hU
        try dsimp only at hU
        go_simp
        try (with_reducible rfl)
      simp only [List.getElem_toArray, List.getElem_cons_succ, List.getElem_cons_zero, Act.put, List.setIfInBounds_toArray, List.set_cons_zero, List.set_cons_succ]
      refine wpAnyH_take (i := 18) (v := ?_) rfl (by kernel_rfl) (by kernel_rfl) (by kernel_rfl) (fun _ _ _ h => h) (Or.inl ⟨by rfl, ?_⟩) (by assumption) ?_
      rotate_left
      focus
        intro U hU
        try dsimp only at hU
        go_simp
        try (with_reducible rfl)
      simp only [List.getElem_toArray, List.getElem_cons_succ, List.getElem_cons_zero, Act.put, List.setIfInBounds_toArray, List.set_cons_zero, List.set_cons_succ]
      refine wpAnyH_take (i := 19) (v := ?_) rfl (by kernel_rfl) (by kernel_rfl) (by kernel_rfl) (fun _ _ _ h => h) (Or.inl ⟨by rfl, ?_⟩) (by assumption) ?_
      rotate_left
      focus
        intro U hU
        try dsimp only at hU
        go_simp
        try (with_reducible rfl)
      simp only [List.getElem_toArray, List.getElem_cons_succ, List.getElem_cons_zero, Act.put, List.setIfInBounds_toArray, List.set_cons_zero, List.set_cons_succ]
      refine wpAnyH_take (i := 20) (v := ?_) rfl (by kernel_rfl) (by kernel_rfl) (by kernel_rfl) (fun _ _ _ h => h) (Or.inl ⟨by rfl, ?_⟩) (by assumption) ?_
      rotate_left
      focus
        intro U hU
        try dsimp only at hU
        go_simp
        try (with_reducible rfl)
      simp only [List.getElem_toArray, List.getElem_cons_succ, List.getElem_cons_zero, Act.put, List.setIfInBounds_toArray, List.set_cons_zero, List.set_cons_succ]
      refine wpAnyH_take (i := 21) (v := ?_) rfl (by kernel_rfl) (by kernel_rfl) (by kernel_rfl) (fun _ _ _ h => h) (Or.inl ⟨by rfl, ?_⟩) (by assumption) ?_
      rotate_left
      focus
        intro U hU
        try dsimp only at hU
        go_simp
        try (with_reducible rfl)
      simp only [List.getElem_toArray, List.getElem_cons_succ, List.getElem_cons_zero, Act.put, List.setIfInBounds_toArray, List.set_cons_zero, List.set_cons_succ]
      refine wpAnyH_ready (rs := [17]) (by kernel_rfl) (by simp) ?_
      refine AllReadyH.cons rfl (fun K hK => ?_) AllReadyH.nil
      simp only [List.getElem_toArray, List.getElem_cons_succ, List.getElem_cons_zero]
      go_simp
      refine (HLP.out (k2.drewN qd) hk3).mono ?_
      rintro q k4 ⟨rfl, hb7⟩
      have hk4 := hk3.trans (hb7.mono hk3.size)
      clear hb7
      go_wp2_with fail
      refine hK.out _ _ ?_ (fun hHeld2 => ?_)
      focus
        exact hS _ hk4
      clear hHeld
      have hHeld := hHeld2
      clear hHeld2 hK K
      try simp only [List.getElem_toArray, List.getElem_cons_succ, List.getElem_cons_zero, Act.put, List.setIfInBounds_toArray, List.set_cons_zero, List.set_cons_succ]
      refine wpAnyH_ready (rs := [22]) (by kernel_rfl) (by simp) ?_
      refine AllReadyH.cons rfl (fun K hK => ?_) AllReadyH.nil
      simp only [List.getElem_toArray, List.getElem_cons_succ, List.getElem_cons_zero]
      go_simp
      refine (HLR.out k4 hk4).mono ?_
      rintro q k5 ⟨rfl, hb8⟩
      have hk5 := hk4.trans (hb8.mono hk4.size)
      clear hb8
      go_wp2_with fail
      refine hK.out _ _ ?_ (fun hHeld2 => ?_)
      focus
        exact hS _ hk5
      clear hHeld
      have hHeld := hHeld2
      clear hHeld2 hK K
      try simp only [List.getElem_toArray, List.getElem_cons_succ, List.getElem_cons_zero, Act.put, List.setIfInBounds_toArray, List.set_cons_zero, List.set_cons_succ]
      refine wpAnyH_take (i := 23) (v := ?_) rfl (by kernel_rfl) (by kernel_rfl) (by kernel_rfl) (fun _ _ _ h => h) (Or.inl ⟨by rfl, ?_⟩) (by assumption) ?_
      rotate_left
      focus
        intro U hU
        try dsimp only at hU
        go_simp
        try (with_reducible rfl)
      simp only [List.getElem_toArray, List.getElem_cons_succ, List.getElem_cons_zero, Act.put, List.setIfInBounds_toArray, List.set_cons_zero, List.set_cons_succ]
      refine wpAnyH_take (i := 24) (v := ?_) rfl (by kernel_rfl) (by kernel_rfl) (by kernel_rfl) (fun _ _ _ h => h) (Or.inl ⟨by rfl, ?_⟩) (by assumption) ?_
      rotate_left
      focus
        intro U hU
        try dsimp only at hU
        go_simp
        try (with_reducible rfl)
      simp only [List.getElem_toArray, List.getElem_cons_succ, List.getElem_cons_zero, Act.put, List.setIfInBounds_toArray, List.set_cons_zero, List.set_cons_succ]
      refine wpAnyH_done (by kernel_rfl) ?_ _
      have HB5 := hid (HB.out.trans (hk5.mono HB.out.size))
      clear hHeld hS hk0 hk1 hk2 hk3 hk4 hk5 HOP HOR HLP HLR HY6 HB
      have bq : ((Q : Int) != (Q : Int)) = false := by simp
      go_wp2
      go_roundw
      case rel => exact ⟨n + 1, by omega, by go_num, HB5⟩
      case measure => simp [intOf]; omega
    · have hge : ¬ (n : Int) < (xs.length : Int) := by omega
      go_wp2_with fail
      refine (HK.out wr).mono ?_
      rintro e wz ⟨rfl, hbz⟩
      have HBZ := hid (HB.out.trans (hbz.mono HB.out.size))
      clear hbz
      go_wp2
      go_ret
      exact ⟨rfl, HBZ.out⟩
end Go.Proofs.Ytkepfkfoblocgaa
