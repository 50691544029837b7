/- show.Text, the document's Text of layer 11: contracts. -/
import Derived.Test.YtdphdodjidbngaaQShwC
import Derived.Test.YtdphdodjidbngaaQAdU
import Derived.Lib.BitFns
namespace Go.Proofs.Ytdphdodjidbngaa
open Go.RowKit
set_option linter.unusedVariables false
set_option linter.unusedSimpArgs false

theorem belowS_bitS (n i : Nat) : (belowS (n : Int)).testBit i = (decide (i < 64) && decide (i < n)) := by
  rw [← below_eq, ofL_bit]
  have e : ((i : Int) ∈ upto (n : Int) 64) ↔ (i < 64 ∧ i < n) := by rw [mem_upto]; omega
  simp only [e]
  by_cases h : i < 64 <;> simp [h]
/-- Is something asked for that the table lacks? -/
def outN (m : Nat) (l : List (Int × Int)) : Bool := l.any fun x => decide (x.1 = 2) && decide ((m : Int) ≤ x.2)
theorem outN_append (m : Nat) (a b : List (Int × Int)) : outN m (a ++ b) = (outN m a || outN m b) := by simp [outN]
theorem out_in (m : Nat) : ∀ t : Nt, t.wf → (outN m t.flat = false ↔ inT m t)
  | .yes, _ => by simp [outN, Nt.flat, inT]
  | .attr n, h => by
    have h1 := h.1
    simp only [outN, Nt.flat, List.any_cons, List.any_nil, Bool.or_false, decide_true, Bool.true_and, decide_eq_false_iff_not, inT]
    omega
  | .not t, h => by
    have ih := out_in m t h
    rw [Nt.flat, outN_append]
    simp only [inT]
    rw [← ih]
    simp [outN]
  | .pair op a b, h => by
    have iha := out_in m a h.2.1
    have ihb := out_in m b h.2.2
    rw [Nt.flat, outN_append, outN_append]
    simp only [inT]
    rw [← iha, ← ihb]
    have : outN m [(op, 0)] = false := by
      have h9 := h.1
      simp [outN]
      omega
    rw [this]
    simp
theorem and_zero {x y : Nat} : x &&& y = 0 ↔ ∀ i, x.testBit i = true → y.testBit i = false := by
  constructor
  · intro h i hx
    have h9 : (x &&& y).testBit i = false := by rw [h]; simp
    rw [Nat.testBit_and, hx, Bool.true_and] at h9
    exact h9
  · intro h
    refine Nat.eq_of_testBit_eq fun i => ?_
    rw [Nat.testBit_and, Nat.zero_testBit]
    cases hx : x.testBit i with
    | false => rfl
    | true => rw [h i hx]; rfl
theorem comp_bit (x : Nat) (hx : x < 18446744073709551616) (i : Nat) (hi : i < 64) : (18446744073709551615 - x).testBit i = !x.testBit i := by
  have h := Nat.testBit_two_pow_sub_succ (x := x) (n := 64) (by simpa using hx) i
  rw [show 2 ^ 64 - (x + 1) = 18446744073709551615 - x by omega] at h
  rw [h, decide_eq_true hi, Bool.true_and]
/-- Nothing asked for lies beyond the table, by the sets of bits. -/
theorem asks_in (m : Nat) : ∀ t : Nt, t.wf → (t.asks &&& (18446744073709551615 - belowS (m : Int)) = 0 ↔ inT m t)
  | .yes, _ => by simp [Nt.asks, inT]
  | .attr n, h => by
    obtain ⟨h1, h2⟩ := h
    obtain ⟨k, rfl⟩ := Int.eq_ofNat_of_zero_le h1
    have hk : k < 64 := by omega
    rw [and_zero, Nt.asks, inT, Int.toNat_natCast]
    constructor
    · intro h3
      have h4 := h3 k (by rw [ofL_bit]; simp [hk])
      rw [comp_bit _ (belowS_lt _) k hk, belowS_bitS, decide_eq_true hk, Bool.true_and] at h4
      refine ⟨by omega, ?_⟩
      simpa using h4
    · rintro ⟨_, h3⟩ i hi
      rw [ofL_bit] at hi
      simp at hi
      obtain ⟨hi1, hi2⟩ := hi
      obtain rfl : i = k := by omega
      rw [comp_bit _ (belowS_lt _) i hk, belowS_bitS]
      simp [hk, h3]
  | .not t, h => by
    rw [Nt.asks, Nat.zero_or, inT]
    exact asks_in m t h
  | .pair op a b, h => by
    rw [Nt.asks, Nat.zero_or, inT, Nat.and_or_distrib_right, Nat.or_eq_zero_iff, asks_in m a h.2.1, asks_in m b h.2.2]
/-- The text of a list. -/
def textV (T : List (List UInt8)) (l : List (Int × Int)) : List UInt8 := if chkN l = 0 then (match runN [] l with | some [t] => if outN T.length l = true then [] else txt T t | _ => []) else []
theorem textV_tree {T : List (List UInt8)} {t : Nt} (h : t.wf) (hc : chkN t.flat = 0) : textV T t.flat = if outN T.length t.flat = true then [] else txt T t := by unfold textV; rw [if_pos hc, runN_flat t [] h]; rfl
theorem textV_no {T : List (List UInt8)} {l : List (Int × Int)} (h : chkN l ≠ 0) : textV T l = [] := by unfold textV; rw [if_neg h]
theorem textV_len {T : List (List UInt8)} (h100 : ∀ s ∈ T, s.length ≤ 100) (l : List (Int × Int)) (hl : l.length ≤ 1000) : (textV T l).length ≤ 107000 := by
  by_cases hc : chkN l = 0
  · obtain ⟨t, hw, rfl, _, _, _⟩ := chkN_zero hc
    rw [textV_tree hw hc]
    split
    · simp
    · have := txt_len T h100 t; omega
  · rw [textV_no hc]; simp

set_option maxRecDepth 20000 in
set_option maxHeartbeats 4000000 in
theorem ntext_any (TA : Option Addr) (tc : Nat) (T : List (List UInt8)) (h100 : ∀ s ∈ T, s.length ≤ 100) (hTl : T.length ≤ 1000) (A : Option Addr) (cap : Nat) (l : List (Int × Int)) (W : World) (hT : Sl W 1 TA T.length tc (scells T)) (h : Sl W 2 A l.length cap (pcells l)) (hl : l.length ≤ 1000) :
    Calls Try.prog 9 #[.slice TA T.length tc, .slice A l.length cap] W fun e w' => e = .returned (.string (str (textV T l))) ∧ Below W.heap.size W w' := by
  have HC := hid (fun u (hu : Below W.heap.size W u) => ncheck_any A cap l u (h.below hu) hl)
  have HA := hid (fun u (hu : Below W.heap.size W u) => nasks_any A cap l u (h.below hu) hl)
  have HBW := hid (fun u => below_any ((T.length : Nat) : Int) u)
  by_cases hc : chkN l = 0
  · obtain ⟨t, hw, rfl, hd, hf, _⟩ := chkN_zero hc
    rw [hc] at HC
    rw [askN_tree hw hc] at HA
    rw [textV_tree hw hc]
    have HAN := hid (u64_andNot_nat t.asks (belowS ((T.length : Nat) : Int)) (asks_lt t) (belowS_lt _))
    have HIN := hid (asks_in T.length t hw)
    have HOI := hid (out_in T.length t hw)
    have HTX := hid (fun (hin : inT T.length t) u (hu : Below W.heap.size W u) => text_any TA tc T h100 hTl t A cap u (hT.below hu) (h.below hu) hw hin hf hd)
    clear hT h hc hd hf hl hw
    obtain ⟨an, han⟩ : ∃ an, t.asks &&& (18446744073709551615 - belowS ((T.length : Nat) : Int)) = an := ⟨_, rfl⟩
    rw [han] at HAN HIN
    clear han
    generalize belowS ((T.length : Nat) : Int) = bw at *
    generalize t.asks = ta at *
    obtain ⟨ob, hob⟩ : ∃ ob, outN T.length t.flat = ob := ⟨_, rfl⟩
    rw [hob] at HOI ⊢
    clear hob
    obtain ⟨R, hR⟩ : ∃ R, (if ob = true then [] else txt T t) = R := ⟨_, rfl⟩
    have HR := hid hR
    rw [hR]
    clear hR
    generalize t.flat.length = fl at *
    go_enter Try.func9, Try.ntmps9
    go_wp2_with fail
    refine (HC.out W (Below.refl _ _)).mono ?_
    rintro e w1 ⟨rfl, hb⟩
    have HB1 := hid hb
    clear hb HC
    go_wp2_with fail
    refine (HA.out w1 HB1.out).mono ?_
    rintro e w2 ⟨rfl, hb⟩
    have HB2 := hid (HB1.out.trans (hb.mono HB1.out.size))
    clear hb HA HB1
    go_wp2_with fail
    refine (HBW.out w2).mono ?_
    rintro e w3 ⟨rfl, rfl⟩
    clear HBW
    have hbz : bits .andNot .u64 (ta : Int) (bw : Int) = (an : Int) := HAN.out
    by_cases hz : an = 0
    · have hin := HIN.out.1 hz
      have hof := HOI.out.2 hin
      subst hz hof
      have hz0 : (((0 : Nat) : Int) != 0) = false := rfl
      have HT2 := hid (HTX.out hin w2 HB2.out)
      have HRV : Hid (R = txt T t) := hid (by rw [← HR.out, if_neg (by simp)])
      clear HIN HOI HTX hin HAN HR
      rw [show ((0 : Nat) : Int) = 0 from rfl] at hbz hz0
      go_wp2_with fail
      refine HT2.out.mono ?_
      rintro e w4 ⟨rfl, hb⟩
      have HB4 := hid (HB2.out.trans (hb.mono HB2.out.size))
      clear hb HT2
      go_wp2
      go_ret
      exact ⟨by rw [HRV.out]; rfl, HB4.out⟩
    · have hot : ob = true := by
        cases ob with
        | true => rfl
        | false => exact absurd (HIN.out.2 (HOI.out.1 rfl)) hz
      subst hot
      have hz0 : ((an : Int) != 0) = true := by simp; omega
      have HRV : Hid (R = []) := hid (by rw [← HR.out, if_pos rfl])
      clear HIN HOI HTX HAN HR
      go_wp2
      go_ret
      exact ⟨by rw [HRV.out]; rfl, HB2.out⟩
  · have HV : Hid (textV T l = []) := hid (textV_no hc)
    rw [HV.out]
    have hc2 : (chkN l != 0) = true := by simpa using hc
    generalize chkN l = ck at *
    generalize l.length = ln at *
    clear hT h HA HBW HV
    go_enter Try.func9, Try.ntmps9
    go_wp2_with fail
    refine (HC.out W (Below.refl _ _)).mono ?_
    rintro e w1 ⟨rfl, hb⟩
    have HB1 := hid hb
    clear hb HC
    go_wp2
    go_ret
    exact ⟨rfl, HB1.out⟩
end Go.Proofs.Ytdphdodjidbngaa
