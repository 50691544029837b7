/- book: Fold: contract. -/
import Derived.Test.YtkepfkfoblocgaaGreatQBkP3
import Derived.Test.YtkepfkfoblocgaaGreatScP
import Derived.Test.YtkepfkfoblocgaaGreatQSame06
import Derived.Test.YtkepfkfoblocgaaGreatQBkP4
import Derived.Test.YtkepfkfoblocgaaGreatQRlong
import Derived.Test.YtkepfkfoblocgaaGreatQRsame
namespace Go.Proofs.YtkepfkfoblocgaaGreat
open Go.RowKit
set_option linter.unusedVariables false
set_option linter.unusedSimpArgs false

/-- The book of records, and how many were applied. -/
def foldB : List En → List Rc → List En × Nat
  | b, [] => (b, 0)
  | b, x :: l => if whyB b x = 0 then ((foldB (appB b x) l).1, (foldB (appB b x) l).2 + 1) else (b, 0)
/-- What a walk of Fold holds behind k records. -/
def FoAt (l : List Rc) (b : List En) (k : Nat) : Prop := OkB b ∧ k ≤ l.length ∧ foldB [] l = ((foldB b (l.drop k)).1, (foldB b (l.drop k)).2 + k)
theorem FoAt.start (l : List Rc) : FoAt l [] 0 := ⟨okB_nil, Nat.zero_le _, rfl⟩
theorem FoAt.next {l : List Rc} {b : List En} {k : Nat} (h : FoAt l b k) (hk : k < l.length) (hw : whyB b l[k] = 0) : FoAt l (appB b l[k]) (k + 1) := by
  refine ⟨(step_ok h.1 hw).1, hk, ?_⟩
  rw [h.2.2, List.drop_eq_getElem_cons hk, foldB, if_pos hw]
  simp only [Prod.mk.injEq, true_and]
  omega
theorem FoAt.stop {l : List Rc} {b : List En} {k : Nat} (h : FoAt l b k) (hk : k < l.length) (hw : whyB b l[k] ≠ 0) : foldB [] l = (b, k) := by
  rw [h.2.2, List.drop_eq_getElem_cons hk, foldB, if_neg hw]
  simp
theorem FoAt.done {l : List Rc} {b : List En} {k : Nat} (h : FoAt l b k) (hk : ¬ k < l.length) : foldB [] l = (b, k) := by
  rw [h.2.2, List.drop_eq_nil_of_le (by omega), foldB]
  simp

set_option maxRecDepth 20000 in
set_option maxHeartbeats 4000000 in
theorem bfold_any (A : Option Addr) (c : Nat) (els : List El) (W : World) (h : InR W A c els) (hn : els.length ≤ 100000) :
    Calls Tryz.prog 29 #[.slice A els.length c] W fun e w' => ∃ A' c' xs', e = .returned (.tuple #[.slice A' xs'.length c', .int .i64 ((foldB [] (els.map (·.1))).2 : Nat)]) ∧ xs'.map (·.1) = (foldB [] (els.map (·.1))).1 ∧ OkB (xs'.map (·.1)) ∧ RowBk w' W.heap.size (.slice A' xs'.length c') xs' ∧ Below W.heap.size W w' := by
  have HX := hid h
  have hll : els.length ≤ 9223372036854775807 := by omega
  clear h
  go_enter Tryz.func29, Tryz.ntmps29
  go_wp2
  go_loopw [4, 5, 6, 9] (fun v _ _ i wr => ∃ (k : Nat) (A' : Option Addr) (c' : Nat) (xs : List Ee), k ≤ els.length ∧ i = .int .i64 (k : Int) ∧ v = .slice A' xs.length c' ∧ Hid (FoAt (els.map (·.1)) (xs.map (·.1)) k) ∧ Hid (RowBk wr W.heap.size (.slice A' xs.length c') xs) ∧ Hid (Below W.heap.size W wr)) (fun _ _ _ i _ => els.length - (intOf i).toNat)
  case atStart => exact ⟨0, none, 0, [], by omega, rfl, rfl, FoAt.start _, RowBk.nil _ _, Below.refl _ _⟩
  case round =>
    obtain ⟨n, A', c', xs, hnl, rfl, rfl, HF, HO, HB⟩ := hrel
    by_cases hlt : n < els.length
    · have hlt2 : (n : Int) < (els.length : Int) := by omega
      have hsl := (HX.out.below HB.out).1
      obtain ⟨b, off, rfl, _⟩ := hsl.2.2.2 (by rw [ecells_length]; omega)
      obtain ⟨q0, q1, q2, q3, q4, q5, q6⟩ := Sl.el hsl n hlt
      have ht := HX.out.2 els[n] (List.getElem_mem hlt)
      have HST := hid (fun (h : whyB (xs.map (·.1)) els[n].1 ≠ 0) => HF.out.stop (by simpa using hlt) (by simpa using h))
      have HNX : Hid (whyB (xs.map (·.1)) els[n].1 = 0 → FoAt (els.map (·.1)) (appB (xs.map (·.1)) els[n].1) (n + 1)) := hid (fun h => by
        have h9 := HF.out.next (by simpa using hlt) (by simpa using h)
        simpa using h9)
      have hxl : xs.length ≤ 100000 := by have := HF.out.1.1; simp only [List.length_map] at this; omega
      have HOK := hid HF.out.1
      generalize els[n]'hlt = ee at *
      obtain ⟨x, Ae, ce⟩ := ee
      simp only at q0 q1 q2 q3 q4 q5 q6 ht HST HNX
      have HRF := hid (fun w (hw : Below wr.heap.size wr w) => brefusal_any A' c' xs x Ae ce w (HO.out.inBk.below hw) ((ht.below HB.out).below hw))
      have HAP := hid (fun w (hw : Below wr.heap.size wr w) (h0 : whyB (xs.map (·.1)) x = 0) => bapplied_any A' c' xs x Ae ce W.heap.size w (HO.out.keep hw) (Nat.le_trans HB.out.size hw.size) ((ht.below HB.out).below hw) hxl h0)
      clear hsl ht HF
      generalize whyB (xs.map (·.1)) x = rv at *
      obtain ⟨k, j, t, wk, s, ep, ns⟩ := x
      simp only [rcc] at HRF HAP q0 q1 q2 q3 q4 q5 q6
      go_upto_region 5 with (fail)
      refine at_world (fun u => u.heap[wr.heap.size]? = some (.cells #[.int .i64 k, .int .i64 j, .int .i64 t, .int .i64 wk, .int .i64 s, .int .i64 ep, .slice Ae ns.length ce] 46 (0, 0)) ∧ Below wr.heap.size wr u) ⟨heap_alloc_new _ _, (Below.refl _ _).alloc (Nat.le_refl _) _⟩ ?_
      clear q0 q1 q2 q3 q4 q5 q6
      rintro u1 ⟨hx1, hb1⟩
      obtain ⟨p0, p1, p2, p3, p4, p5, p6⟩ := seven_cells hx1
      have HX1 := hid hx1
      have HB1 := hid hb1
      clear hx1 hb1
      go_wp2_with fail
      refine (HRF.out u1 HB1.out).mono ?_
      rintro e u2 ⟨rfl, hb2⟩
      have HX2 := hid (keep0 HX1.out hb2)
      have HB2 := hid (HB1.out.trans (hb2.mono HB1.out.size))
      clear hb2 HX1 HB1 HRF p0 p1 p2 p3 p4 p5 p6
      obtain ⟨p0, p1, p2, p3, p4, p5, p6⟩ := seven_cells HX2.out
      by_cases hr : rv = 0
      · subst hr
        have HAP2 := hid (HAP.out u2 HB2.out rfl)
        have HNX2 := hid (HNX.out rfl)
        clear HAP HNX HST
        go_wp2_with fail
        refine HAP2.out.mono ?_
        rintro e u3 ⟨A3, c3, xs3, rfl, hm3, hr3, hb3⟩
        rw [← hm3] at HNX2
        have HR3 := hid hr3
        have HB3 := hid ((HB.out.trans (HB2.out.mono HB.out.size)).trans hb3)
        clear hm3 hr3 hb3 HAP2 p0 p1 p2 p3 p4 p5 p6
        go_wp2
        go_roundw
        case rel => exact ⟨n + 1, A3, c3, xs3, by omega, by go_num, rfl, HNX2, HR3, HB3⟩
        case measure => simp [intOf]; omega
      · have hb : (rv != 0) = true := by simpa using hr
        have HE := hid (HST.out hr)
        have HR3 := hid (HO.out.keep HB2.out)
        have HB3 := hid (HB.out.trans (HB2.out.mono HB.out.size))
        clear HST HNX HAP hr
        go_wp2
        go_ret2
        rw [HE.out]
        exact ⟨A', c', xs, rfl, rfl, HOK.out, HR3.out, HB3.out⟩
    · have hge : ¬ (n : Int) < (els.length : Int) := by omega
      obtain rfl : n = els.length := by omega
      have HE := hid (HF.out.done (by simp))
      have HOK := hid HF.out.1
      go_wp2
      go_ret2
      rw [HE.out]
      exact ⟨A', c', xs, rfl, rfl, HOK.out, HO.out, HB.out⟩
end Go.Proofs.YtkepfkfoblocgaaGreat

namespace Go.Proofs.YtkepfkfoblocgaaGreat
open Go.RowKit
set_option linter.unusedVariables false
set_option linter.unusedSimpArgs false

def k20 : List Rc := [⟨1, 1, 0, 0, 0, 0, [[42], [42]]⟩, ⟨2, 1, 0, 2, 0, 1, []⟩, ⟨4, 1, 0, 0, 0, 2, []⟩]
theorem okB_sm {xs : List Ee} (h : OkB (xs.map (·.1))) : ∀ y ∈ xs, SmE y := fun y hy => by
  obtain ⟨h1, h2, h3, _⟩ := h.2 y.1 (List.mem_map_of_mem hy)
  exact ⟨by omega, by omega, by omega⟩
theorem okB_len {xs : List Ee} (h : OkB (xs.map (·.1))) : xs.length ≤ 40 := by have := h.1; simpa using this
theorem sl_blkN {w : World} {N t size n : Nat} {cs : Array Value} (h : w.heap[N]? = some (.cells cs t (0, 0))) (hs : cs.toList.length = n * size) (hm : n ≤ maxLen) : Sl w size (some ⟨N, 0, none⟩) n n cs.toList :=
  ⟨hs, Nat.le_refl _, hm, fun _ => ⟨N, 0, rfl, fun i hi => by rw [Nat.zero_add, cell_of_row w N i cs t (0, 0) h]; simp⟩⟩
def e20 (N : Nat) : List El := [(⟨1, 1, 0, 0, 0, 0, [[42], [42]]⟩, some ⟨N, 0, none⟩, 2), (⟨2, 1, 0, 2, 0, 1, []⟩, none, 0), (⟨4, 1, 0, 0, 0, 2, []⟩, none, 0)]
end Go.Proofs.YtkepfkfoblocgaaGreat

namespace Go.Proofs.YtkepfkfoblocgaaGreat
open Go.RowKit Go.Sort
set_option linter.unusedVariables false
set_option linter.unusedSimpArgs false

end Go.Proofs.YtkepfkfoblocgaaGreat
