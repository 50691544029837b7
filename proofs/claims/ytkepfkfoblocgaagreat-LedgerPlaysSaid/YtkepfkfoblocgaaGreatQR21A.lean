/- The document's ledger in memory; Kept: contracts. What a Put does to what is kept. -/
import Derived.Test.YtkepfkfoblocgaaGreatLgX
import Derived.Test.YtkepfkfoblocgaaGreatQAnG
import Derived.Test.YtkepfkfoblocgaaGreatQBtC
import Derived.Test.YtkepfkfoblocgaaGreatQRecQ
namespace Go.Proofs.YtkepfkfoblocgaaGreat
open Go.RowKit Go.Sort
set_option linter.unusedVariables false
set_option linter.unusedSimpArgs false

/-- A book that stays as long as nothing of it is touched. -/
def BkX (W0 w : World) (A : Option Addr) (c : Nat) (xs : List Ee) : Prop := ∀ (T : Nat → Prop) (w2 : World), Tch T w w2 → TyN T w → RowKit.Below W0.heap.size W0 w2 → InBk w2 A c xs
theorem BkX.now {W0 w : World} {A : Option Addr} {c : Nat} {xs : List Ee} (h : BkX W0 w A c xs) (hb : RowKit.Below W0.heap.size W0 w) : InBk w A c xs := h (fun _ => False) w (Tch.refl _ _) (fun _ hg => hg.elim) hb
theorem BkX.tch {W0 w w' : World} {A : Option Addr} {c : Nat} {xs : List Ee} {S : Nat → Prop} (h : BkX W0 w A c xs) (ht : Tch S w w') (hs : TyN S w) : BkX W0 w' A c xs := fun T w2 hT hty hb =>
  h (fun g => S g ∨ T g) w2 ((ht.mono (fun g hg _ => .inl hg)).trans hT (fun g hg _ => .inr hg)) (fun g hg cs t fr hc => by
    by_cases h1 : S g
    · exact hs g h1 cs t fr hc
    · rcases hg with hg | hg
      · exact absurd hg h1
      · exact hty g hg cs t fr (ht.block hc h1)) hb
theorem BkX.below {W0 w w' : World} {A : Option Addr} {c : Nat} {xs : List Ee} (h : BkX W0 w A c xs) (hb : RowKit.Below w.heap.size w w') : BkX W0 w' A c xs := h.tch (Tch.of_below (S := fun _ => False) hb) (fun _ hg => hg.elim)
/-- The book that was folded of records whose texts are own or came in. -/
theorem PerR.bkX {W0 w : World} {b : Nat} {A : Option Addr} {c : Nat} {v : Value} {els : List El} {A' : Option Addr} {c' : Nat} {xs : List Ee} (h : PerR w A c els A' c' xs) (hr : RowX W0 w b v els) : BkX W0 w A' c' xs := fun T w2 hT hty hb =>
  h T w2 hT hty (fun e he => (hr.2 e he).elim (fun h9 => by
    have h8 : OwnS w2 b e.2.1 e.2.2 e.1.ns := ⟨hT.own_ty h9.1 (fun g hg cs t fr hc => (hty g hg cs t fr hc).2.1), h9.2⟩
    exact h8.tx) (fun h9 => h9.below hb))
theorem kep_app {b : List En} {x : Rc} (hb : OkB b) (h : whyB b x = 0) : kepB (appB b x) = kepB b + lgM x := by
  have hx := whyB_chk h
  unfold whyB at h
  rw [if_neg (by rw [hx]; simp)] at h
  by_cases hk : x.k = 1
  · have hap : appB b x = b ++ [newB x] := by unfold appB; rw [if_pos hk]
    have hlm : lgM x = mostR x.j 0 x.ns := if_pos hk
    rw [hap, hlm, kepB_app]
    simp [kepB, newB]
  · cases hp : plB b x.j with
    | none =>
      rw [hp] at h
      simp only [if_neg hk] at h
      omega
    | some i =>
      rw [hp] at h
      obtain ⟨hi, hid, _⟩ := plB_some hp
      simp only [if_neg hk, List.getElem?_eq_getElem hi] at h
      obtain ⟨g1, g2, g3⟩ := chg_us hx (hb.2 _ (List.getElem_mem hi)) hid.symm hk h
      have hap : appB b x = b.modify i (chgB x) := by unfold appB; rw [if_neg hk, hp]
      have hlm : lgM x = 0 := if_neg hk
      rw [hap, hlm, kepB_modify (chgB x) b i hi g2 g3]
      rfl
/-- Block H is a ledger of the document's. -/
def RlAt (W0 w : World) (b H G M R room : Nat) (l : List UInt8) (fu : Int) (A : Option Addr) (c : Nat) (els : List El) (down : Bool) (Ab : Option Addr) (cb : Nat) (xs : List Ee) : Prop :=
  w.heap[H]? = some (.cells #[.pointer (some ⟨G, 0, none⟩), .slice Ab xs.length cb, .int .i64 (R : Int)] 62 (0, 0)) ∧ RnAt W0 w b G M room l fu A c els down ∧ BkX W0 w Ab cb xs ∧ OkB (xs.map (·.1))
theorem RlAt.below {W0 w w' : World} {b H G M R room : Nat} {l : List UInt8} {fu : Int} {A : Option Addr} {c : Nat} {els : List El} {down : Bool} {Ab : Option Addr} {cb : Nat} {xs : List Ee} (h : RlAt W0 w b H G M R room l fu A c els down Ab cb xs) (hb : RowKit.Below w.heap.size w w') : RlAt W0 w' b H G M R room l fu A c els down Ab cb xs :=
  ⟨keep0 h.1 hb, h.2.1.keep hb, h.2.2.1.below hb, h.2.2.2⟩
theorem wrap_sumN (a b : Nat) (h1 : a ≤ 400000) (h2 : b ≤ 10000) : IntKind.i64.wrap ((a : Int) + (b : Int)) = (a : Int) + (b : Int) := by
  simp [IntKind.wrap, IntKind.bits, IntKind.signed]
  omega

set_option maxRecDepth 20000 in
set_option maxHeartbeats 4000000 in
theorem r21kept_any {W0 : World} {b H G M R room : Nat} {l : List UInt8} {fu : Int} {A : Option Addr} {c : Nat} {els : List El} {down : Bool} {Ab : Option Addr} {cb : Nat} {xs : List Ee} (W : World) (h : RlAt W0 W b H G M R room l fu A c els down Ab cb xs) (hW0 : RowKit.Below W0.heap.size W0 W) :
    Calls Tryz.prog 22 #[.pointer (some ⟨H, 0, none⟩)] W fun e w' => e = .returned (.int .i64 (kepB (xs.map (·.1)) : Nat)) ∧ RowKit.Below W.heap.size W w' := by
  have HH := hid h.1
  have HX := hid (h.2.2.1.now hW0)
  have hxl : xs.length ≤ 40 := okB_len h.2.2.2
  have hx7 : xs.length ≤ 9223372036854775807 := by omega
  clear h hW0
  go_enter Tryz.func22, Tryz.ntmps22
  go_wp2
  go_loopw [3, 4] (fun v i wr => ∃ (k : Nat), k ≤ xs.length ∧ i = .int .i64 (k : Int) ∧ v = .int .i64 ((kepB ((xs.map (·.1)).take k) : Nat) : Int) ∧ Hid (RowKit.Below W.heap.size W wr)) (fun _ i _ => xs.length - (intOf i).toNat)
  case atStart => exact ⟨0, by omega, rfl, by rw [List.take_zero]; rfl, RowKit.Below.refl _ _⟩
  case round =>
    obtain ⟨n, hn, rfl, rfl, HB⟩ := hrel
    obtain ⟨⟨p0, p1, p2⟩, _⟩ := three_cells (keep0 HH.out HB.out)
    by_cases hlt : n < xs.length
    · have hlt2 : (n : Int) < (xs.length : Int) := by omega
      have i0 : ¬ (n : Int) < 0 := by omega
      obtain ⟨b4, o4, hA4, y0, y1, y2, y3, y4, y5⟩ := (HX.out.below HB.out).el n hlt
      have HIN := hid ((HX.out.2 _ (List.getElem_mem hlt)).below HB.out)
      have HTK : Hid (kepB ((xs.map (·.1)).take (n + 1)) = kepB ((xs.map (·.1)).take n) + mostR xs[n].1.id 0 xs[n].1.ns) := hid (by
        rw [List.take_succ_eq_append_getElem (by simpa using hlt), kepB_app]
        simp [kepB])
      have hkk : kepB ((xs.map (·.1)).take n) ≤ 400000 := by
        have h9 := kepB_le ((xs.map (·.1)).take n)
        simp only [List.length_take, List.length_map] at h9
        omega
      generalize kepB ((xs.map (·.1)).take n) = kp at *
      obtain ⟨kp2, hk2⟩ : ∃ kp2, kepB ((xs.map (·.1)).take (n + 1)) = kp2 := ⟨_, rfl⟩
      have HK2 := hid hk2
      rw [hk2] at HTK
      clear hk2
      have hM := most_le xs[n].1.id 0 xs[n].1.ns
      have HM := hid (fun w (hw : RowKit.Below wr.heap.size wr w) => r17most_any xs[n].1.id 0 xs[n].1.ns xs[n].2.A xs[n].2.ca w (HIN.out.1.below hw))
      subst hA4
      generalize mostR xs[n].1.id 0 xs[n].1.ns = m at *
      generalize xs[n]'hlt = ye at *
      obtain ⟨⟨id, sc, ee, ms, bd, dn⟩, ⟨A1, ca, P, cb9, D, cd⟩⟩ := ye
      simp only at y0 y1 y2 y3 y4 y5 HM
      have hwr := wrap_sumN kp m hkk hM
      have HWR := hid hwr
      clear HIN y1 y2 y4 y5 p0 p2
      go_upto_region 5 with (fail)
      have cG := reg (w := wr) (fun W' hW => HM.out W' hW)
      replace p1 := cell_regrown p1
      replace y0 := cell_regrown y0
      replace y3 := cell_regrown y3
      refine wp_region_quiet_below (by kernel_rfl) (by kernel_rfl) ?_
      repeat (go_big_quiet_step (first | (go_at_call 39; with_reducible exact cG _ _)))
      refine wpQuiet_nil ?_
      intro _ hw'
      obtain ⟨⟨dq, osq⟩, hw''⟩ := hw'
      subst hw''
      have HB2 := hid (HB.out.trans ((below_regrown wr dq osq).mono HB.out.size))
      clear cG HM HB p1 y0 y3
      go_wp2
      go_roundw
      case rel => exact ⟨n + 1, by omega, by go_num, by rw [HK2.out, HTK.out, Int.natCast_add], HB2⟩
      case measure => simp [intOf]; omega
    · have hge : ¬ (n : Int) < (xs.length : Int) := by omega
      obtain rfl : n = xs.length := by omega
      have HE : Hid ((xs.map (·.1)).take xs.length = xs.map (·.1)) := hid (List.take_of_length_le (by simp))
      go_wp2
      go_ret
      exact ⟨by rw [HE.out]; rfl, HB.out⟩
end Go.Proofs.YtkepfkfoblocgaaGreat
