/- Records are too long: contracts. -/
import Derived.Test.YtkepfkfoblocgaaScP
import Derived.Test.YtkepfkfoblocgaaQStrL
import Derived.Test.YtkepfkfoblocgaaRcP
namespace Go.Proofs.Ytkepfkfoblocgaa
open Go.RowKit
set_option linter.unusedVariables false
set_option linter.unusedSimpArgs false

set_option maxRecDepth 20000 in
set_option maxHeartbeats 4000000 in
theorem r17long_any (x : Rc) (A : Option Addr) (c : Nat) (W : World) (hx : TxAt W A c x.ns) : Calls Try.prog 26 #[.agg (rcc x A c)] W fun e w' => e = .returned (.bool (longB x.ns 20 300)) ∧ RowKit.Below W.heap.size W w' := by
  have hb0 : RowKit.Below W.heap.size W (W.alloc (.cells (rcc x A c) 45)) := (Below.refl _ _).alloc (Nat.le_refl _) _
  have HL := hid (long_any A x.ns.length c x.ns 20 300 _ (hx.below hb0).1 hx.2)
  have hll := hx.len
  have HB := hid hb0
  clear hx hb0
  obtain ⟨k, j, t, w, s, e, ns⟩ := x
  simp only [rcc] at *
  go_enter Try.func26, Try.ntmps26
  go_wp2_with fail
  refine HL.out.mono ?_
  rintro x w2 ⟨rfl, rfl⟩
  go_wp2
  go_ret
  exact ⟨rfl, HB.out⟩
def longE (l : List Rc) (most : Int) : Bool := l.any (fun x => longB x.ns 20 300) || decide (most < (l.length : Int))
theorem longE_yes {l : List Rc} {k : Nat} (most : Int) (hk : k < l.length) (h : longB l[k].ns 20 300 = true) : longE l most = true := by
  unfold longE
  rw [Bool.or_eq_true]
  exact .inl (List.any_eq_true.2 ⟨_, List.getElem_mem hk, h⟩)
theorem longE_end {l : List Rc} (most : Int) (h : ∀ k (hk : k < l.length), longB l[k].ns 20 300 = false) : longE l most = decide (most < (l.length : Int)) := by
  unfold longE
  have : (l.any fun x => longB x.ns 20 300) = false := by
    rw [List.any_eq_false]
    intro x hx
    obtain ⟨k, hk, rfl⟩ := List.getElem_of_mem hx
    rw [h k hk]; simp
  rw [this, Bool.false_or]
set_option maxRecDepth 20000 in
set_option maxHeartbeats 2000000 in
theorem r18long_any (A : Option Addr) (c : Nat) (els : List El) (most : Int) (W : World) (h : InR W A c els) :
    Calls Try.prog 40 #[.slice A els.length c, .int .i64 most] W fun e w' => e = .returned (.bool (longE (els.map (·.1)) most)) ∧ RowKit.Below W.heap.size W w' := by
  have HX := hid h
  have hll : els.length ≤ 9223372036854775807 := by have h1 := h.1.2.1; have h2 := h.1.2.2.1; unfold maxLen at h2; omega
  clear h
  have HY := hid (fun k (hk : k < els.length) (h : longB els[k].1.ns 20 300 = true) => longE_yes (l := els.map (·.1)) (k := k) most (by simpa using hk) (by simpa using h))
  have HE := hid (fun (h : ∀ k (hk : k < els.length), longB els[k].1.ns 20 300 = false) => longE_end (l := els.map (·.1)) most (fun k hk => by simpa using h k (by simpa using hk)))
  rw [List.length_map] at HE
  generalize longE (els.map (·.1)) most = r at *
  go_enter Try.func40, Try.ntmps40
  go_wp2
  go_loopw [5] (fun i wr => ∃ k : Nat, k ≤ els.length ∧ i = .int .i64 (k : Int) ∧ Hid (∀ j (hj : j < els.length), j < k → longB els[j].1.ns 20 300 = false) ∧ Hid (RowKit.Below W.heap.size W wr)) (fun i _ => els.length - (intOf i).toNat)
  case atStart => exact ⟨0, by omega, rfl, fun j hj h => absurd h (by omega), Below.refl _ _⟩
  case round =>
    obtain ⟨k, hk, rfl, HT, HB⟩ := hrel
    by_cases hlt : k < els.length
    · have hlt2 : (k : Int) < (els.length : Int) := by omega
      have hsl := (HX.out.below HB.out).1
      obtain ⟨b, off, rfl, _⟩ := hsl.2.2.2 (by rw [ecells_length]; omega)
      obtain ⟨q0, q1, q2, q3, q4, q5, q6⟩ := Sl.el hsl k hlt
      have HC := hid (r17long_any els[k].1 els[k].2.1 els[k].2.2 wr ((HX.out.below HB.out).2 _ (List.getElem_mem hlt)))
      have HYK := hid (HY.out k hlt)
      have HTK : Hid (longB els[k].1.ns 20 300 = false → ∀ j (hj : j < els.length), j < k + 1 → longB els[j].1.ns 20 300 = false) := hid (fun h j hj hjk => by
        by_cases hj2 : j < k
        · exact HT.out j hj hj2
        · obtain rfl : j = k := by omega
          exact h)
      clear hsl
      generalize longB els[k].1.ns 20 300 = bl at *
      generalize els[k] = ee at *
      obtain ⟨⟨e0, e1, e2, e3, e4, e5, ens⟩, eA, ec⟩ := ee
      simp only [rcc] at HC q0 q1 q2 q3 q4 q5 q6
      generalize ens.length = m at *
      go_wp2_with fail
      refine HC.out.mono ?_
      rintro q w2 ⟨rfl, hb2⟩
      have HB2 := hid (HB.out.trans (hb2.mono HB.out.size))
      clear hb2 HC q0 q1 q2 q3 q4 q5 q6
      cases bl
      case true =>
        have HR := hid (HYK.out rfl)
        clear HYK HTK HT HB
        go_wp2
        go_ret
        exact ⟨by rw [HR.out]; rfl, HB2.out⟩
      case false =>
        have HT2 := hid (HTK.out rfl)
        clear HYK HTK HT HB
        go_wp2
        go_roundw
        case rel => exact ⟨k + 1, by omega, by go_num, HT2.out, HB2.out⟩
        case measure => simp [intOf]; omega
    · have hge : ¬ (k : Int) < (els.length : Int) := by omega
      have HV := hid (HE.out (fun j hj => HT.out j hj (by omega)))
      clear HE HY HT
      by_cases hm : most < (els.length : Int)
      · have hd : decide (most < (els.length : Int)) = true := decide_eq_true hm
        go_wp2
        go_ret
        exact ⟨by rw [HV.out]; simp [hm], HB.out⟩
      · have hd : decide (most < (els.length : Int)) = false := decide_eq_false hm
        have hm2 : (els.length : Int) ≤ most := by omega
        go_wp2
        go_ret
        exact ⟨by rw [HV.out]; simp [hm], HB.out⟩
end Go.Proofs.Ytkepfkfoblocgaa
