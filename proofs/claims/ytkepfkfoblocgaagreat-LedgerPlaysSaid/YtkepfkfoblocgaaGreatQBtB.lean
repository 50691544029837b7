/- The document's book: Fold; Find of both: contracts. -/
import Derived.Test.YtkepfkfoblocgaaGreatQR20C
import Derived.Test.YtkepfkfoblocgaaGreatQBkP5
namespace Go.Proofs.YtkepfkfoblocgaaGreat
open Go.RowKit Go.Sort
set_option linter.unusedVariables false
set_option linter.unusedSimpArgs false

/-- Blocks that hold nothing of a book. -/
def TyN (T : Nat → Prop) (w : World) : Prop := ∀ g, T g → ∀ cs t fr, w.heap[g]? = some (.cells cs t fr) → t ≠ 55 ∧ t ≠ 9 ∧ t ≠ 3 ∧ t ≠ 4
theorem TyN.back {T : Nat → Prop} {w w' : World} (h : TyN T w') (hb : RowKit.Below w.heap.size w w') : TyN T w := fun g hg cs t fr h9 => h g hg cs t fr (keep0 h9 hb)
/-- A book that stays as long as the records stay out of which it was made. -/
def PerR (w : World) (A : Option Addr) (c : Nat) (els : List El) (A' : Option Addr) (c' : Nat) (xs : List Ee) : Prop := ∀ (T : Nat → Prop) (w2 : World), Tch T w w2 → TyN T w → (∀ e ∈ els, TxAt w2 e.2.1 e.2.2 e.1.ns) → InBk w2 A' c' xs
theorem PerR.below {w w' : World} {A : Option Addr} {c : Nat} {els : List El} {A' : Option Addr} {c' : Nat} {xs : List Ee} (h : PerR w A c els A' c' xs) (hb : RowKit.Below w.heap.size w w') : PerR w' A c els A' c' xs := fun T w2 ht hty hin =>
  h T w2 ((Tch.of_below (S := T) hb).trans ht fun _ hg _ => hg) (hty.back hb) hin
theorem PerR.now {w : World} {A : Option Addr} {c : Nat} {els : List El} {A' : Option Addr} {c' : Nat} {xs : List Ee} (h : PerR w A c els A' c' xs) (hi : ∀ e ∈ els, TxAt w e.2.1 e.2.2 e.1.ns) : InBk w A' c' xs := h (fun _ => False) w (Tch.refl _ _) (fun _ hg => hg.elim) hi
theorem PerR.nil (w : World) (A : Option Addr) (c : Nat) (els : List El) : PerR w A c els none 0 [] := fun _ w2 _ _ _ => (RowBk.nil w2 0).inBk
theorem r20stepB (A : Option Addr) (c : Nat) (xs : List Ee) (b : List En) (hxb : xs.map (·.1) = b) (x : Rc) (Ax : Option Addr) (cx : Nat) (W : World) (h : InBk W A c xs) (hx : TxAt W Ax cx x.ns) (hn : xs.length ≤ 100000) (hsm : ∀ y ∈ xs, SmE y) :
    Calls Tryz.prog 38 #[.slice A xs.length c, .agg (rcc x Ax cx)] W fun e w' => ∃ A' c' ys, e = .returned (.tuple #[.slice A' ys.length c', .int .i64 (whyB b x)]) ∧ (whyB b x = 0 → ys.map (·.1) = appB b x ∧ (∀ (T : Nat → Prop) (w2 : World), Tch T w' w2 → TyN T w' → InBk w2 A c xs → TxAt w2 Ax cx x.ns → InBk w2 A' c' ys)) ∧ RowKit.Below W.heap.size W w' := by
  subst hxb
  by_cases hw : whyB (xs.map (·.1)) x = 0
  · refine (r20step_any A c xs x Ax cx W h hx hn hsm hw).mono ?_
    rintro e w' ⟨A', c', ys, rfl, hm, hp, hb⟩
    exact ⟨A', c', ys, by rw [hw], fun _ => ⟨hm, hp⟩, hb⟩
  · refine (r20step_no A c xs x Ax cx W h hx hw).mono ?_
    rintro e w' ⟨rfl, hb⟩
    exact ⟨none, 0, [], rfl, fun h9 => absurd h9 hw, hb⟩

set_option maxRecDepth 20000 in
set_option maxHeartbeats 4000000 in
theorem r20fold_any (A : Option Addr) (c : Nat) (els : List El) (W : World) (h : InR W A c els) (hn : els.length ≤ 100000) :
    Calls Tryz.prog 34 #[.slice A els.length c] W fun e w' => ∃ A' c' xs', e = .returned (.tuple #[.slice A' xs'.length c', .int .i64 ((foldB [] (els.map (·.1))).2 : Nat)]) ∧ xs'.map (·.1) = (foldB [] (els.map (·.1))).1 ∧ OkB (xs'.map (·.1)) ∧ PerR w' A c els A' c' xs' ∧ RowKit.Below W.heap.size W w' := by
  have HX := hid h
  have hll : els.length ≤ 9223372036854775807 := by omega
  have HPN := hid (fun w => PerR.nil w A c els)
  have hA0 : ∀ w, PerR w A c els A c [] → True := fun _ _ => trivial
  clear h hA0
  go_enter Tryz.func34, Tryz.ntmps34
  go_wp2
  go_loopw [4, 5, 6, 7] (fun v i _ _ wr => ∃ (k : Nat) (A' : Option Addr) (c' : Nat) (xs : List Ee), k ≤ els.length ∧ i = .int .i64 (k : Int) ∧ v = .slice A' xs.length c' ∧ Hid (FoAt (els.map (·.1)) (xs.map (·.1)) k) ∧ Hid (PerR wr A c els A' c' xs) ∧ Hid (RowKit.Below W.heap.size W wr)) (fun _ i _ _ _ => els.length - (intOf i).toNat)
  case atStart => exact ⟨0, none, 0, [], by omega, rfl, rfl, FoAt.start _, HPN.out _, RowKit.Below.refl _ _⟩
  case round =>
    obtain ⟨n, A', c', xs, hnl, rfl, rfl, HF, HO, HB⟩ := hrel
    by_cases hlt : n < els.length
    · have hlt2 : (n : Int) < (els.length : Int) := by omega
      have i0 : ¬ (n : Int) < 0 := by omega
      have HIR := hid (fun w (hw : RowKit.Below W.heap.size W w) => HX.out.below hw)
      have hsl := (HX.out.below HB.out).1
      obtain ⟨b, off, hAA, _⟩ := hsl.2.2.2 (by rw [ecells_length]; omega)
      subst hAA
      obtain ⟨q0, q1, q2, q3, q4, q5, q6⟩ := Sl.el hsl n hlt
      have ht := HX.out.2 els[n] (List.getElem_mem hlt)
      have HTX := hid (fun w2 (hi : ∀ e ∈ els, TxAt w2 e.2.1 e.2.2 e.1.ns) => hi els[n] (List.getElem_mem hlt))
      have HST := hid (fun (h : whyB (xs.map (·.1)) els[n].1 ≠ 0) => HF.out.stop (by simpa using hlt) (by simpa using h))
      have HNX : Hid (whyB (xs.map (·.1)) els[n].1 = 0 → FoAt (els.map (·.1)) (appB (xs.map (·.1)) els[n].1) (n + 1)) := hid (fun h => by
        have h9 := HF.out.next (by simpa using hlt) (by simpa using h)
        simpa using h9)
      have hxl : xs.length ≤ 100000 := by have := HF.out.1.1; simp only [List.length_map] at this; omega
      have HOK := hid HF.out.1
      generalize els[n]'hlt = ee at *
      obtain ⟨x, Ae, ce⟩ := ee
      simp only at q0 q1 q2 q3 q4 q5 q6 ht HST HNX HTX
      have HSP := hid (r20stepB A' c' xs _ rfl x Ae ce wr (HO.out.now (HIR.out wr HB.out).2) (ht.below HB.out) hxl (okB_sm HOK.out))
      clear hsl ht HF
      generalize whyB (xs.map (·.1)) x = rv at *
      obtain ⟨k, j, t, wk, s, ep, ns⟩ := x
      simp only [rcc] at HSP
      simp only at q0 q1 q2 q3 q4 q5 q6
      go_wp2_with fail
      refine HSP.out.mono ?_
      rintro e u3 ⟨A3, c3, ys, rfl, hy, hb3⟩
      have HY := hid hy
      have HB3 := hid (HB.out.trans (hb3.mono HB.out.size))
      have HO3 := hid (HO.out.below hb3)
      clear hy HSP q0 q1 q2 q3 q4 q5 q6
      by_cases hr : rv = 0
      · subst hr
        have HNX2 := hid (HNX.out rfl)
        obtain ⟨hm3, hp3⟩ := HY.out rfl
        rw [← hm3] at HNX2
        have HP3 : Hid (PerR u3 (some ⟨b, off, none⟩) c els A3 c3 ys) := hid (fun T w2 hT hty hin => hp3 T w2 hT hty (HO3.out T w2 hT hty hin) (HTX.out w2 hin))
        clear hm3 hp3 hb3 HNX HST HO3 HY
        go_wp2
        go_roundw
        case rel => exact ⟨n + 1, A3, c3, ys, by omega, by go_num, rfl, HNX2, HP3, HB3⟩
        case measure => simp [intOf]; omega
      · have hb : (rv != 0) = true := by simpa using hr
        have HE := hid (HST.out hr)
        clear HST HNX hr HY hb3
        go_wp2
        go_ret2
        rw [HE.out]
        exact ⟨A', c', xs, rfl, rfl, HOK.out, HO3.out, HB3.out⟩
    · have hge : ¬ (n : Int) < (els.length : Int) := by omega
      obtain rfl : n = els.length := by omega
      have HE := hid (HF.out.done (by simp))
      have HOK := hid HF.out.1
      go_wp2
      go_ret2
      rw [HE.out]
      exact ⟨A', c', xs, rfl, rfl, HOK.out, HO.out, HB.out⟩

end Go.Proofs.YtkepfkfoblocgaaGreat
