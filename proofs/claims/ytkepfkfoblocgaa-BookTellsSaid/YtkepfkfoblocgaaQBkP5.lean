/- book: Fold: contract. -/
import Derived.Test.YtkepfkfoblocgaaQBkP3
import Derived.Test.YtkepfkfoblocgaaScP
import Derived.Test.YtkepfkfoblocgaaQSame06
import Derived.Test.YtkepfkfoblocgaaQBkP4
import Derived.Test.YtkepfkfoblocgaaQRlong
import Derived.Test.YtkepfkfoblocgaaQRsame
namespace Go.Proofs.Ytkepfkfoblocgaa
open Go.RowKit
set_option linter.unusedVariables false
set_option linter.unusedSimpArgs false

/-- The book of records, and how many were applied. -/
def foldB : List En → List Rc → List En × Nat
  | b, [] => (b, 0)
  | b, x :: l => if whyB b x = 0 then ((foldB (appB b x) l).1, (foldB (appB b x) l).2 + 1) else (b, 0)
/-- What a walk of Fold holds behind k records. -/
def FoAt (l : List Rc) (b : List En) (k : Nat) : Prop := OkB b ∧ k ≤ l.length ∧ foldB [] l = ((foldB b (l.drop k)).1, (foldB b (l.drop k)).2 + k)
theorem FoAt.start (l : List Rc) : FoAt l [] 0 := ⟨okB_nil, Nat.zero_le _, rfl⟩
theorem FoAt.next {l : List Rc} {b : List En} {k : Nat} (h : FoAt l b k) (hk : k < l.length) (hw : whyB b l[k] = 0) : FoAt l (appB b l[k]) (k + 1) := by
  refine ⟨(step_ok h.1 hw).1, hk, ?_⟩
  rw [h.2.2, List.drop_eq_getElem_cons hk, foldB, if_pos hw]
  simp only [Prod.mk.injEq, true_and]
  omega
theorem FoAt.stop {l : List Rc} {b : List En} {k : Nat} (h : FoAt l b k) (hk : k < l.length) (hw : whyB b l[k] ≠ 0) : foldB [] l = (b, k) := by
  rw [h.2.2, List.drop_eq_getElem_cons hk, foldB, if_neg hw]
  simp
theorem FoAt.done {l : List Rc} {b : List En} {k : Nat} (h : FoAt l b k) (hk : ¬ k < l.length) : foldB [] l = (b, k) := by
  rw [h.2.2, List.drop_eq_nil_of_le (by omega), foldB]
  simp

set_option maxRecDepth 20000 in
set_option maxHeartbeats 4000000 in
theorem bfold_any (A : Option Addr) (c : Nat) (els : List El) (W : World) (h : InR W A c els) (hn : els.length ≤ 100000) :
    Calls Try.prog 60 #[.slice A els.length c] W fun e w' => ∃ A' c' xs', e = .returned (.tuple #[.slice A' xs'.length c', .int .i64 ((foldB [] (els.map (·.1))).2 : Nat)]) ∧ xs'.map (·.1) = (foldB [] (els.map (·.1))).1 ∧ OkB (xs'.map (·.1)) ∧ RowBk w' W.heap.size (.slice A' xs'.length c') xs' ∧ Below W.heap.size W w' := by
  have HX := hid h
  have hll : els.length ≤ 9223372036854775807 := by omega
  clear h
  go_enter Try.func60, Try.ntmps60
  go_wp2
  go_loopw [4, 5, 6, 9] (fun v _ _ i wr => ∃ (k : Nat) (A' : Option Addr) (c' : Nat) (xs : List Ee), k ≤ els.length ∧ i = .int .i64 (k : Int) ∧ v = .slice A' xs.length c' ∧ Hid (FoAt (els.map (·.1)) (xs.map (·.1)) k) ∧ Hid (RowBk wr W.heap.size (.slice A' xs.length c') xs) ∧ Hid (Below W.heap.size W wr)) (fun _ _ _ i _ => els.length - (intOf i).toNat)
  case atStart => exact ⟨0, none, 0, [], by omega, rfl, rfl, FoAt.start _, RowBk.nil _ _, Below.refl _ _⟩
  case round =>
    obtain ⟨n, A', c', xs, hnl, rfl, rfl, HF, HO, HB⟩ := hrel
    by_cases hlt : n < els.length
    · have hlt2 : (n : Int) < (els.length : Int) := by omega
      have hsl := (HX.out.below HB.out).1
      obtain ⟨b, off, rfl, _⟩ := hsl.2.2.2 (by rw [ecells_length]; omega)
      obtain ⟨q0, q1, q2, q3, q4, q5, q6⟩ := Sl.el hsl n hlt
      have ht := HX.out.2 els[n] (List.getElem_mem hlt)
      have HST := hid (fun (h : whyB (xs.map (·.1)) els[n].1 ≠ 0) => HF.out.stop (by simpa using hlt) (by simpa using h))
      have HNX : Hid (whyB (xs.map (·.1)) els[n].1 = 0 → FoAt (els.map (·.1)) (appB (xs.map (·.1)) els[n].1) (n + 1)) := hid (fun h => by
        have h9 := HF.out.next (by simpa using hlt) (by simpa using h)
        simpa using h9)
      have hxl : xs.length ≤ 100000 := by have := HF.out.1.1; simp only [List.length_map] at this; omega
      have HOK := hid HF.out.1
      generalize els[n]'hlt = ee at *
      obtain ⟨x, Ae, ce⟩ := ee
      simp only at q0 q1 q2 q3 q4 q5 q6 ht HST HNX
      have HRF := hid (fun w (hw : Below wr.heap.size wr w) => brefusal_any A' c' xs x Ae ce w (HO.out.inBk.below hw) ((ht.below HB.out).below hw))
      have HAP := hid (fun w (hw : Below wr.heap.size wr w) (h0 : whyB (xs.map (·.1)) x = 0) => bapplied_any A' c' xs x Ae ce W.heap.size w (HO.out.keep hw) (Nat.le_trans HB.out.size hw.size) ((ht.below HB.out).below hw) hxl h0)
      clear hsl ht HF
      generalize whyB (xs.map (·.1)) x = rv at *
      obtain ⟨k, j, t, wk, s, ep, ns⟩ := x
      simp only [rcc] at HRF HAP q0 q1 q2 q3 q4 q5 q6
      go_upto_region 5 with (fail)
      refine at_world (fun u => u.heap[wr.heap.size]? = some (.cells #[.int .i64 k, .int .i64 j, .int .i64 t, .int .i64 wk, .int .i64 s, .int .i64 ep, .slice Ae ns.length ce] 45 (0, 0)) ∧ Below wr.heap.size wr u) ⟨heap_alloc_new _ _, (Below.refl _ _).alloc (Nat.le_refl _) _⟩ ?_
      clear q0 q1 q2 q3 q4 q5 q6
      rintro u1 ⟨hx1, hb1⟩
      obtain ⟨p0, p1, p2, p3, p4, p5, p6⟩ := seven_cells hx1
      have HX1 := hid hx1
      have HB1 := hid hb1
      clear hx1 hb1
      go_wp2_with fail
      refine (HRF.out u1 HB1.out).mono ?_
      rintro e u2 ⟨rfl, hb2⟩
      have HX2 := hid (keep0 HX1.out hb2)
      have HB2 := hid (HB1.out.trans (hb2.mono HB1.out.size))
      clear hb2 HX1 HB1 HRF p0 p1 p2 p3 p4 p5 p6
      obtain ⟨p0, p1, p2, p3, p4, p5, p6⟩ := seven_cells HX2.out
      by_cases hr : rv = 0
      · subst hr
        have HAP2 := hid (HAP.out u2 HB2.out rfl)
        have HNX2 := hid (HNX.out rfl)
        clear HAP HNX HST
        go_wp2_with fail
        refine HAP2.out.mono ?_
        rintro e u3 ⟨A3, c3, xs3, rfl, hm3, hr3, hb3⟩
        rw [← hm3] at HNX2
        have HR3 := hid hr3
        have HB3 := hid ((HB.out.trans (HB2.out.mono HB.out.size)).trans hb3)
        clear hm3 hr3 hb3 HAP2 p0 p1 p2 p3 p4 p5 p6
        go_wp2
        go_roundw
        case rel => exact ⟨n + 1, A3, c3, xs3, by omega, by go_num, rfl, HNX2, HR3, HB3⟩
        case measure => simp [intOf]; omega
      · have hb : (rv != 0) = true := by simpa using hr
        have HE := hid (HST.out hr)
        have HR3 := hid (HO.out.keep HB2.out)
        have HB3 := hid (HB.out.trans (HB2.out.mono HB.out.size))
        clear HST HNX HAP hr
        go_wp2
        go_ret2
        rw [HE.out]
        exact ⟨A', c', xs, rfl, rfl, HOK.out, HR3.out, HB3.out⟩
    · have hge : ¬ (n : Int) < (els.length : Int) := by omega
      obtain rfl : n = els.length := by omega
      have HE := hid (HF.out.done (by simp))
      have HOK := hid HF.out.1
      go_wp2
      go_ret2
      rw [HE.out]
      exact ⟨A', c', xs, rfl, rfl, HOK.out, HO.out, HB.out⟩
end Go.Proofs.Ytkepfkfoblocgaa

namespace Go.Proofs.Ytkepfkfoblocgaa
open Go.RowKit
set_option linter.unusedVariables false
set_option linter.unusedSimpArgs false

def k20 : List Rc := [⟨1, 1, 0, 0, 0, 0, [[42], [42]]⟩, ⟨2, 1, 0, 2, 0, 1, []⟩, ⟨4, 1, 0, 0, 0, 2, []⟩]
theorem ex20 : (foldB [] k20).2 = 3 ∧ whyB (foldB [] k20).1 ⟨2, 1, 1, 0, 0, 1, []⟩ = 12 ∧ whyB (foldB [] k20).1 ⟨2, 1, 1, 0, 0, 2, []⟩ = 0 ∧ (appB (foldB [] k20).1 ⟨2, 1, 1, 0, 0, 2, []⟩).map (·.bd) = [[3, 1]] := by decide +kernel
theorem okB_sm {xs : List Ee} (h : OkB (xs.map (·.1))) : ∀ y ∈ xs, SmE y := fun y hy => by
  obtain ⟨h1, h2, h3, _⟩ := h.2 y.1 (List.mem_map_of_mem hy)
  exact ⟨by omega, by omega, by omega⟩
theorem okB_len {xs : List Ee} (h : OkB (xs.map (·.1))) : xs.length ≤ 40 := by have := h.1; simpa using this
theorem sl_blkN {w : World} {N t size n : Nat} {cs : Array Value} (h : w.heap[N]? = some (.cells cs t (0, 0))) (hs : cs.toList.length = n * size) (hm : n ≤ maxLen) : Sl w size (some ⟨N, 0, none⟩) n n cs.toList :=
  ⟨hs, Nat.le_refl _, hm, fun _ => ⟨N, 0, rfl, fun i hi => by rw [Nat.zero_add, cell_of_row w N i cs t (0, 0) h]; simp⟩⟩
def e20 (N : Nat) : List El := [(⟨1, 1, 0, 0, 0, 0, [[42], [42]]⟩, some ⟨N, 0, none⟩, 2), (⟨2, 1, 0, 2, 0, 1, []⟩, none, 0), (⟨4, 1, 0, 0, 0, 2, []⟩, none, 0)]
theorem e20_map (N : Nat) : (e20 N).map (·.1) = k20 := rfl
theorem e20_in {w : World} {N : Nat} (h1 : w.heap[N]? = some (.cells #[.string ⟨#[42]⟩, .string ⟨#[42]⟩] 9 (0, 0))) (h2 : w.heap[N + 1]? = some (.cells #[.int .i64 1, .int .i64 1, .int .i64 0, .int .i64 0, .int .i64 0, .int .i64 0, .slice (some ⟨N, 0, none⟩) 2 2, .int .i64 2, .int .i64 1, .int .i64 0, .int .i64 2, .int .i64 0, .int .i64 1, .slice none 0 0, .int .i64 4, .int .i64 1, .int .i64 0, .int .i64 0, .int .i64 0, .int .i64 2, .slice none 0 0] 45 (0, 0))) : InR w (some ⟨N + 1, 0, none⟩) 3 (e20 N) := by
  refine ⟨?_, fun e he => ?_⟩
  · exact sl_blkN h2 rfl (show 3 ≤ maxLen by unfold maxLen; omega)
  · simp only [e20, List.mem_cons, List.not_mem_nil, or_false] at he
    rcases he with rfl | rfl | rfl
    · refine ⟨sl_blkN h1 rfl (show 2 ≤ maxLen by unfold maxLen; omega), fun s hs => ?_⟩
      simp only [List.mem_cons, List.not_mem_nil, or_false] at hs
      rcases hs with rfl | rfl <;> (unfold maxLen; decide)
    · exact ⟨Sl.nil _ _ _ _ (Nat.zero_le _), fun s hs => by cases hs⟩
    · exact ⟨Sl.nil _ _ _ _ (Nat.zero_le _), fun s hs => by cases hs⟩
theorem tx_none (w : World) : TxAt w none 0 [] := ⟨Sl.nil _ _ _ _ (by unfold maxLen; omega), fun s hs => by cases hs⟩
theorem one_bd {xs : List Ee} {b : List En} {l : List Int} (h : xs.map (·.1) = b) (hb : b.map (·.bd) = [l]) : ∃ y, xs = [y] ∧ y.1.bd = l := by
  rw [← h] at hb
  match xs, hb with
  | [y], hb => exact ⟨y, rfl, by simpa using hb⟩
set_option maxRecDepth 20000 in
set_option maxHeartbeats 4000000 in
theorem works20_any (W : World) : Calls Try.prog 59 #[] W fun e w' => e = .returned (.bool true) ∧ Below W.heap.size W w' := by
  go_enter Try.func59, Try.ntmps59
  go_upto_region 2 with (fail)
  refine at_world (fun u => u.heap[W.heap.size]? = some (.cells #[.string ⟨#[42]⟩, .string ⟨#[42]⟩] 9 (0, 0)) ∧ u.heap[W.heap.size + 1]? = some (.cells #[.int .i64 1, .int .i64 1, .int .i64 0, .int .i64 0, .int .i64 0, .int .i64 0, .slice (some ⟨W.heap.size, 0, none⟩) 2 2, .int .i64 2, .int .i64 1, .int .i64 0, .int .i64 2, .int .i64 0, .int .i64 1, .slice none 0 0, .int .i64 4, .int .i64 1, .int .i64 0, .int .i64 0, .int .i64 0, .int .i64 2, .slice none 0 0] 45 (0, 0)) ∧ Below W.heap.size W u) ⟨heap_first _ _ _, heap_second _ _ _, below2 _ _ _⟩ ?_
  rintro w1 ⟨hx1, hy1, hb1⟩
  have HF := hid (bfold_any (some ⟨W.heap.size + 1, 0, none⟩) 3 (e20 W.heap.size) w1 (e20_in hx1 hy1) (by simp [e20]))
  rw [e20_map, ex20.1] at HF
  simp only [show (e20 W.heap.size).length = 3 from rfl] at HF
  have HB1 := hid hb1
  clear hx1 hy1 hb1
  go_wp2_with fail
  refine HF.out.mono ?_
  rintro e w2 ⟨A2, c2, xs2, rfl, hm2, hok2, hr2, hb2⟩
  have HB2 := hid (HB1.out.trans (hb2.mono HB1.out.size))
  have HI2 := hid hr2.inBk
  have HOK := hid hok2
  have HM := hid hm2
  clear hm2 hok2 hr2 hb2 HF HB1
  have HS1 := hid (bstep_no A2 c2 xs2 ⟨2, 1, 1, 0, 0, 1, []⟩ none 0 w2 HI2.out (tx_none w2) (by rw [HM.out, ex20.2.1]; decide))
  rw [HM.out, ex20.2.1] at HS1
  simp only [rcc, List.length_nil] at HS1
  go_wp2_with fail
  refine HS1.out.mono ?_
  rintro e w3 ⟨rfl, hb3⟩
  have HB3 := hid (HB2.out.trans (hb3.mono HB2.out.size))
  have HI3 := hid (HI2.out.below hb3)
  clear hb3 HS1 HB2 HI2
  have HS2 := hid (bstep_ok A2 c2 xs2 ⟨2, 1, 1, 0, 0, 2, []⟩ none 0 w3 HI3.out (tx_none w3) (by have := okB_len HOK.out; omega) (okB_sm HOK.out) (by rw [HM.out, ex20.2.2.1]))
  rw [HM.out] at HS2
  simp only [rcc, List.length_nil] at HS2
  go_wp2_with fail
  refine HS2.out.mono ?_
  rintro e w4 ⟨A4, c4, xs4, rfl, hm4, hr4, hb4⟩
  have HB4 := hid (HB3.out.trans (hb4.mono HB3.out.size))
  obtain ⟨y, rfl, hy⟩ := one_bd hm4 ex20.2.2.2
  have HI4 := hid hr4.inBk
  clear hm4 hr4 hb4 HS2 HB3 HI3
  obtain ⟨b, off, rfl, q0, q1, q2, q3, q4, q5⟩ := HI4.out.el 0 (by simp)
  have hyb := (HI4.out.2 y (by simp)).2.1
  simp only [List.getElem_cons_zero, hy, Nat.zero_mul, Nat.add_zero, List.length_cons, List.length_nil, Nat.zero_add] at q0 q1 q2 q3 q4 q5 hyb
  have HYB := hid hyb
  clear hyb
  go_wp2_with fail
  have hba : Below w4.heap.size w4 (w4.alloc (.cells #[.int .i64 3, .int .i64 1] 3)) := (Below.refl _ _).alloc (Nat.le_refl _) _
  have HSM := same06 y.2.B (some ⟨w4.heap.size, 0, none⟩) 2 y.2.cb 2 2 [3, 1] [3, 1] _ (HYB.out.below hba) (sl_blkN (heap_alloc_new w4 (.cells #[.int .i64 3, .int .i64 1] 3)) rfl (show 2 ≤ maxLen by unfold maxLen; omega)) (by omega) (by omega)
  have HB5 := hid (HB4.out.trans (hba.mono HB4.out.size))
  clear hba
  refine HSM.mono ?_
  rintro e w6 ⟨rfl, qd, rfl⟩
  generalize w4.alloc (.cells #[.int .i64 3, .int .i64 1] 3) = w5 at *
  have hd : Below w5.heap.size w5 (w5.drewN qd) := ⟨rfl, rfl, rfl, Nat.le_refl _, fun _ _ => rfl⟩
  have HB6 := hid (HB5.out.trans (hd.mono HB5.out.size))
  clear hd
  go_wp2
  go_ret
  exact ⟨rfl, HB6.out⟩
end Go.Proofs.Ytkepfkfoblocgaa

namespace Go.Proofs.Ytkepfkfoblocgaa
open Go.RowKit Go.Sort
set_option linter.unusedVariables false
set_option linter.unusedSimpArgs false

theorem grow_at {xs xs2 : List Ee} {x : Rc} (h : OkB (xs.map (·.1))) (hw : whyB (xs.map (·.1)) x = 0) (hm : xs2.map (·.1) = appB (xs.map (·.1)) x) : OkB (xs2.map (·.1)) ∧ xs.length ≤ xs2.length ∧ ∀ k (hk : k < xs.length) (hk2 : k < xs2.length), GrowE xs[k].1 xs2[k].1 x := by
  obtain ⟨h1, h2⟩ := step_ok h hw
  have h3 : xs.length ≤ xs2.length := by
    have h4 := appB_len (b := xs.map (·.1)) (x := x)
    rw [← hm] at h4
    simpa using h4
  refine ⟨by rw [hm]; exact h1, h3, fun k hk hk2 => ?_⟩
  have h5 := h2 k (by simpa using hk)
  simp only [← hm, List.getElem_map] at h5
  exact h5
theorem okE_at {xs : List Ee} (h : OkB (xs.map (·.1))) (k : Nat) (hk : k < xs.length) : OkE xs[k].1 := h.2 _ (List.mem_map_of_mem (List.getElem_mem hk))

set_option maxRecDepth 20000 in
set_option maxHeartbeats 8000000 in
theorem bookOnce_law (A : Option Addr) (c : Nat) (els : List El) (W : World) (h : InR W A c els) :
    Calls Try.prog 11 #[.slice A els.length c] W fun e w' => e = .returned (.bool true) ∧ RowKit.Below W.heap.size W w' := by
  have HX := hid h
  have HK := hid (fun w => works20_any w)
  have HLO := hid (r18long_any A c els 60 W h)
  have hll : els.length ≤ 9223372036854775807 := by have h1 := h.1.2.1; have h2 := h.1.2.2.1; unfold maxLen at h2; omega
  clear h
  generalize longE (els.map (·.1)) 60 = lb at *
  go_enter Try.func11, Try.ntmps11
  go_wp2_with fail
  refine HLO.out.mono ?_
  rintro e w1 ⟨rfl, hb1⟩
  have HB1 := hid hb1
  clear hb1 HLO
  cases lb
  case true =>
    go_wp2_with fail
    refine (HK.out w1).mono ?_
    rintro e w2 ⟨rfl, hb2⟩
    have HB2 := hid (HB1.out.trans (hb2.mono HB1.out.size))
    clear hb2
    go_wp2
    go_ret
    exact ⟨rfl, HB2.out⟩
  go_wp2
  go_loopw [3, 4, 5, 6, 7] (fun v i _ _ _ wr => ∃ (n : Nat) (A' : Option Addr) (c' : Nat) (xs : List Ee), n ≤ els.length ∧ i = .int .i64 (n : Int) ∧ v = .slice A' xs.length c' ∧ Hid (OkB (xs.map (·.1))) ∧ Hid (RowBk wr W.heap.size (.slice A' xs.length c') xs) ∧ Hid (RowKit.Below W.heap.size W wr)) (fun _ i _ _ _ _ => els.length - (intOf i).toNat)
  case atStart => exact ⟨0, none, 0, [], by omega, rfl, rfl, okB_nil, RowBk.nil _ _, HB1.out⟩
  case round =>
    obtain ⟨n, A', c', xs, hnl, rfl, rfl, HOK, HO, HB⟩ := hrel
    by_cases hlt : n < els.length
    · have hlt2 : (n : Int) < (els.length : Int) := by omega
      have i0 : ¬ (n : Int) < 0 := by omega
      have hsl := (HX.out.below HB.out).1
      obtain ⟨b, off, rfl, _⟩ := hsl.2.2.2 (by rw [ecells_length]; omega)
      have HEL := hid (fun w (hw : RowKit.Below wr.heap.size wr w) => Sl.el ((HX.out.below (HB.out.trans (hw.mono HB.out.size))).1) n hlt)
      obtain ⟨q0, q1, q2, q3, q4, q5, q6⟩ := Sl.el hsl n hlt
      have ht := (HX.out.2 els[n] (List.getElem_mem hlt)).below HB.out
      generalize els[n]'hlt = ee at *
      obtain ⟨x, Ae, ce⟩ := ee
      simp only at q0 q1 q2 q3 q4 q5 q6 ht HEL
      have hxl : xs.length ≤ 100000 := by have := okB_len HOK.out; omega
      by_cases hw : whyB (xs.map (·.1)) x = 0
      · have HST := hid (bstep_ok A' c' xs x Ae ce wr HO.out.inBk ht hxl (okB_sm HOK.out) hw)
        have HGR := hid (fun xs2 hm => grow_at (xs2 := xs2) HOK.out hw hm)
        have HP2 := hid (chk_parts2 (whyB_chk hw)).2.2.1
        have HGC := hid (fun a b w ha hb oa ob hg => grows_any a b x Ae ce w ha hb oa ob hg HP2.out)
        clear hsl ht hw
        obtain ⟨k, j, t, wk, s, ep, ns⟩ := x
        simp only [rcc] at HST HGC q0 q1 q2 q3 q4 q5 q6
        go_wp2_with fail
        refine HST.out.mono ?_
        rintro e w3 ⟨A3, c3, xs3, rfl, hm3, hr3, hb3⟩
        obtain ⟨hok3, hl3, hg3⟩ := HGR.out xs3 hm3
        have HOK3 := hid hok3
        have HG3 := hid hg3
        have HB3 := hid hb3
        have HR3 := hid (hr3.mono HB.out.size)
        have HO3 := hid (HO.out.keep hb3)
        clear hm3 hok3 hg3 hb3 hr3 HST HGR q0 q1 q2 q3 q4 q5 q6
        have dl3 : decide ((xs3.length : Int) < (xs.length : Int)) = false := decide_eq_false (by omega)
        have il3 : ¬ (xs3.length : Int) < (xs.length : Int) := by omega
        have dl4 : decide (xs3.length < xs.length) = false := decide_eq_false (by omega)
        have hxm : xs.length ≤ 9223372036854775807 := by omega
        have hxm3 : xs3.length ≤ 9223372036854775807 := by have := okB_len HOK3.out; omega
        go_wp2
        go_loopw [7] (fun v wr => ∃ m : Nat, m ≤ xs.length ∧ v = .int .i64 (m : Int) ∧ Hid (RowKit.Below w3.heap.size w3 wr)) (fun v _ => xs.length - (intOf v).toNat)
        case atStart => exact ⟨0, by omega, rfl, RowKit.Below.refl _ _⟩
        case round =>
          obtain ⟨m, hm, rfl, HQ⟩ := hrel
          by_cases hmlt : m < xs.length
          · have m1 : (m : Int) < (xs.length : Int) := by omega
            have m2 : ¬ (m : Int) < 0 := by omega
            have m3 : (m : Int) < (xs3.length : Int) := by omega
            obtain ⟨b4, o4, hA4, y0, y1, y2, y3, y4, y5⟩ := (HO3.out.inBk.below HQ.out).el m hmlt
            obtain ⟨b5, o5, hA5, z0, z1, z2, z3, z4, z5⟩ := (HR3.out.inBk.below HQ.out).el m (by omega)
            obtain ⟨q0, q1, q2, q3, q4, q5, q6⟩ := HEL.out wr (HB3.out.trans (HQ.out.mono HB3.out.size))
            try simp only at q0 q1 q2 q3 q4 q5 q6
            have HC := hid (fun w (hw : RowKit.Below wr.heap.size wr w) => HGC.out xs[m] xs3[m] w ((HO3.out.inBk.2 _ (List.getElem_mem hmlt)).below (HQ.out.trans (hw.mono HQ.out.size))) ((HR3.out.inBk.2 _ (List.getElem_mem (show m < xs3.length by omega))).below (HQ.out.trans (hw.mono HQ.out.size))) (okE_at HOK.out m hmlt) (okE_at HOK3.out m (by omega)) (HG3.out m hmlt (by omega)))
            subst hA4 hA5
            generalize xs[m]'hmlt = ya at *
            generalize xs3[m] = za at *
            obtain ⟨⟨id1, sc1, ep1, ns1, bd1, dn1⟩, ⟨a1, ca1, a2, ca2, a3, ca3⟩⟩ := ya
            obtain ⟨⟨id2, sc2, ep2, ns2, bd2, dn2⟩, ⟨e1, ce1, e2, ce2, e3, ce3⟩⟩ := za
            simp only [ecE] at HC
            simp only at y0 y1 y2 y3 y4 y5 z0 z1 z2 z3 z4 z5
            go_upto_region 14 with (fail)
            have cG := reg (w := wr) (fun W' hW => HC.out W' hW)
            replace y0 := cell_regrown y0
            replace y1 := cell_regrown y1
            replace y2 := cell_regrown y2
            replace y3 := cell_regrown y3
            replace y4 := cell_regrown y4
            replace y5 := cell_regrown y5
            replace z0 := cell_regrown z0
            replace z1 := cell_regrown z1
            replace z2 := cell_regrown z2
            replace z3 := cell_regrown z3
            replace z4 := cell_regrown z4
            replace z5 := cell_regrown z5
            replace q0 := cell_regrown q0
            replace q1 := cell_regrown q1
            replace q2 := cell_regrown q2
            replace q3 := cell_regrown q3
            replace q4 := cell_regrown q4
            replace q5 := cell_regrown q5
            replace q6 := cell_regrown q6
            refine wp_region_quiet_below (by kernel_rfl) (by kernel_rfl) ?_
            repeat (go_big_quiet_step (first | (go_at_call 74; with_reducible exact cG _ _)))
            refine wpQuiet_nil ?_
            intro _ hw'
            obtain ⟨⟨dq, osq⟩, hw''⟩ := hw'
            subst hw''
            have HQ2 := hid (HQ.out.trans ((below_regrown wr dq osq).mono HQ.out.size))
            clear cG HC HQ y0 y1 y2 y3 y4 y5 z0 z1 z2 z3 z4 z5 q0 q1 q2 q3 q4 q5 q6
            go_wp2
            go_roundw
            case rel => exact ⟨m + 1, by omega, by go_num, HQ2.out⟩
            case measure => simp [intOf]; omega
          · have hge : ¬ (m : Int) < (xs.length : Int) := by omega
            have HR4 := hid (HR3.out.keep HQ.out)
            have HB4 := hid (HB.out.trans ((HB3.out.trans (HQ.out.mono HB3.out.size)).mono HB.out.size))
            go_wp2
            go_roundw
            case rel => exact ⟨n + 1, A3, c3, xs3, by omega, by go_num, rfl, HOK3, HR4, HB4⟩
            case measure => simp [intOf]; omega
      · have HST := hid (bstep_no A' c' xs x Ae ce wr HO.out.inBk ht hw)
        have hne : (whyB (xs.map (·.1)) x != 0) = true := by simpa using hw
        generalize whyB (xs.map (·.1)) x = rv at *
        clear hsl ht hw
        obtain ⟨k, j, t, wk, s, ep, ns⟩ := x
        simp only [rcc] at HST
        simp only at q0 q1 q2 q3 q4 q5 q6
        go_wp2_with fail
        refine HST.out.mono ?_
        rintro e w3 ⟨rfl, hb3⟩
        have HB3 := hid (HB.out.trans (hb3.mono HB.out.size))
        have HO3 := hid (HO.out.keep hb3)
        clear hb3 HST q0 q1 q2 q3 q4 q5 q6
        go_wp2
        go_roundw
        case rel => exact ⟨n + 1, A', c', xs, by omega, by go_num, rfl, HOK, HO3, HB3⟩
        case measure => simp [intOf]; omega
    · have hge : ¬ (n : Int) < (els.length : Int) := by omega
      go_wp2_with fail
      refine (HK.out wr).mono ?_
      rintro e w2 ⟨rfl, hb2⟩
      have HB2 := hid (HB.out.trans (hb2.mono HB.out.size))
      clear hb2
      go_wp2
      go_ret
      exact ⟨rfl, HB2.out⟩
end Go.Proofs.Ytkepfkfoblocgaa
