/- scan.Whole; R18.Long: contracts. -/
import Derived.Test.YtejeffnolglhoaaScnE
import Derived.Test.YtejeffnolglhoaaRecK
namespace Go.Proofs.Ytejeffnolglhoaa
open Go.RowKit Go.Sort
set_option linter.unusedVariables false
set_option linter.unusedSimpArgs false

set_option maxRecDepth 20000 in
set_option maxHeartbeats 2000000 in
theorem whole_any (a : Option Addr) (len cap : Nat) (l : List UInt8) (W : World) (hb : IsBytes W a len cap l) (hl : l.length ≤ 100000) :
    Calls Try.prog 29 #[.slice a len cap] W fun e w' => e = .returned (.bool (decide ((recS l).2 = l.length))) ∧ RowKit.Below W.heap.size W w' := by
  have HR := hid (records_any a len cap l W hb hl)
  obtain ⟨rfl, _, _⟩ := hb.len
  have hll : l.length ≤ 9223372036854775807 := by omega
  clear hb
  generalize recS l = rs at *
  obtain ⟨acc, g⟩ := rs
  simp only at *
  have HD : Hid (((g : Int) == (l.length : Int)) = decide (g = l.length)) := hid (by rw [Bool.eq_iff_iff]; simp; omega)
  generalize l.length = n at *
  go_enter Try.func29, Try.ntmps29
  go_wp2_with fail
  refine HR.out.mono ?_
  rintro q w2 ⟨v, els, rfl, hm, hr, hb2⟩
  obtain ⟨A, c, rfl, _⟩ := Sl.of_own hr.1
  have HB2 := hid hb2
  clear hm hr hb2 HR
  generalize els.length = en at *
  by_cases he : g = n
  · subst he
    have e9 : ((g : Int) == (g : Int)) = true := by simp
    go_wp2
    go_ret
    exact ⟨by simp, HB2.out⟩
  · have e9 : ((g : Int) == (n : Int)) = false := by simp; omega
    have HDF := hid (decide_eq_false he)
    clear he HD
    go_wp2
    go_ret
    exact ⟨by rw [HDF.out]; rfl, HB2.out⟩

def longE (l : List Rc) (most : Int) : Bool := l.any (fun x => longB x.ns 20 300) || decide (most < (l.length : Int))
theorem longE_yes {l : List Rc} {k : Nat} (most : Int) (hk : k < l.length) (h : longB l[k].ns 20 300 = true) : longE l most = true := by
  unfold longE
  rw [Bool.or_eq_true]
  exact .inl (List.any_eq_true.2 ⟨_, List.getElem_mem hk, h⟩)
theorem longE_end {l : List Rc} (most : Int) (h : ∀ k (hk : k < l.length), longB l[k].ns 20 300 = false) : longE l most = decide (most < (l.length : Int)) := by
  unfold longE
  have : (l.any fun x => longB x.ns 20 300) = false := by
    rw [List.any_eq_false]
    intro x hx
    obtain ⟨k, hk, rfl⟩ := List.getElem_of_mem hx
    rw [h k hk]; simp
  rw [this, Bool.false_or]

set_option maxRecDepth 20000 in
set_option maxHeartbeats 2000000 in
theorem r18long_any (A : Option Addr) (c : Nat) (els : List El) (most : Int) (W : World) (h : InR W A c els) :
    Calls Try.prog 24 #[.slice A els.length c, .int .i64 most] W fun e w' => e = .returned (.bool (longE (els.map (·.1)) most)) ∧ RowKit.Below W.heap.size W w' := by
  have HX := hid h
  have hll : els.length ≤ 9223372036854775807 := by have h1 := h.1.2.1; have h2 := h.1.2.2.1; unfold maxLen at h2; omega
  clear h
  have HY := hid (fun k (hk : k < els.length) (h : longB els[k].1.ns 20 300 = true) => longE_yes (l := els.map (·.1)) (k := k) most (by simpa using hk) (by simpa using h))
  have HE := hid (fun (h : ∀ k (hk : k < els.length), longB els[k].1.ns 20 300 = false) => longE_end (l := els.map (·.1)) most (fun k hk => by simpa using h k (by simpa using hk)))
  rw [List.length_map] at HE
  generalize longE (els.map (·.1)) most = r at *
  go_enter Try.func24, Try.ntmps24
  go_wp2
  go_loopw [5] (fun i wr => ∃ k : Nat, k ≤ els.length ∧ i = .int .i64 (k : Int) ∧ Hid (∀ j (hj : j < els.length), j < k → longB els[j].1.ns 20 300 = false) ∧ Hid (RowKit.Below W.heap.size W wr)) (fun i _ => els.length - (intOf i).toNat)
  case atStart => exact ⟨0, by omega, rfl, fun j hj h => absurd h (by omega), Below.refl _ _⟩
  case round =>
    obtain ⟨k, hk, rfl, HT, HB⟩ := hrel
    by_cases hlt : k < els.length
    · have hlt2 : (k : Int) < (els.length : Int) := by omega
      have hsl := (HX.out.below HB.out).1
      obtain ⟨b, off, rfl, _⟩ := hsl.2.2.2 (by rw [ecells_length]; omega)
      obtain ⟨q0, q1, q2, q3, q4, q5, q6⟩ := Sl.el hsl k hlt
      have HC := hid (r17long_any els[k].1 els[k].2.1 els[k].2.2 wr ((HX.out.below HB.out).2 _ (List.getElem_mem hlt)))
      have HYK := hid (HY.out k hlt)
      have HTK : Hid (longB els[k].1.ns 20 300 = false → ∀ j (hj : j < els.length), j < k + 1 → longB els[j].1.ns 20 300 = false) := hid (fun h j hj hjk => by
        by_cases hj2 : j < k
        · exact HT.out j hj hj2
        · obtain rfl : j = k := by omega
          exact h)
      clear hsl
      generalize longB els[k].1.ns 20 300 = bl at *
      generalize els[k] = ee at *
      obtain ⟨⟨e0, e1, e2, e3, e4, e5, ens⟩, eA, ec⟩ := ee
      simp only [rcc] at HC q0 q1 q2 q3 q4 q5 q6
      generalize ens.length = m at *
      go_wp2_with fail
      refine HC.out.mono ?_
      rintro q w2 ⟨rfl, hb2⟩
      have HB2 := hid (HB.out.trans (hb2.mono HB.out.size))
      clear hb2 HC q0 q1 q2 q3 q4 q5 q6
      cases bl
      case true =>
        have HR := hid (HYK.out rfl)
        clear HYK HTK HT HB
        go_wp2
        go_ret
        exact ⟨by rw [HR.out]; rfl, HB2.out⟩
      case false =>
        have HT2 := hid (HTK.out rfl)
        clear HYK HTK HT HB
        go_wp2
        go_roundw
        case rel => exact ⟨k + 1, by omega, by go_num, HT2.out, HB2.out⟩
        case measure => simp [intOf]; omega
    · have hge : ¬ (k : Int) < (els.length : Int) := by omega
      have HV := hid (HE.out (fun j hj => HT.out j hj (by omega)))
      clear HE HY HT
      by_cases hm : most < (els.length : Int)
      · have hd : decide (most < (els.length : Int)) = true := decide_eq_true hm
        go_wp2
        go_ret
        exact ⟨by rw [HV.out]; simp [hm], HB.out⟩
      · have hd : decide (most < (els.length : Int)) = false := decide_eq_false hm
        have hm2 : (els.length : Int) ≤ most := by omega
        go_wp2
        go_ret
        exact ⟨by rw [HV.out]; simp [hm], HB.out⟩
end Go.Proofs.Ytejeffnolglhoaa
