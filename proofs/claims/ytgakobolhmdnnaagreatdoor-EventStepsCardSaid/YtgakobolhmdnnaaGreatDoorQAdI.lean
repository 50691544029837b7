/- The document: Says. -/
import Derived.Test.YtgakobolhmdnnaaGreatDoorAeP
namespace Go.Proofs.YtgakobolhmdnnaaGreatDoor
open Go.RowKit Go.Sort
set_option linter.unusedVariables false
set_option linter.unusedSimpArgs false

def attrsL (l : List (Int × Int)) : List Int := (l.filter (fun x => x.1 == 2)).map (·.2)
theorem attrsL_append (a b : List (Int × Int)) : attrsL (a ++ b) = attrsL a ++ attrsL b := by simp [attrsL]
theorem ofL_append (a b : List Int) : ofL (a ++ b) = ofL a ||| ofL b := by
  apply Nat.eq_of_testBit_eq
  intro i
  rw [Nat.testBit_or, ofL_bit, ofL_bit, ofL_bit, Bool.eq_iff_iff]
  simp only [List.mem_append, Bool.and_eq_true, Bool.or_eq_true, decide_eq_true_eq]
  constructor
  · rintro ⟨h1, h2 | h2⟩
    · exact .inl ⟨h1, h2⟩
    · exact .inr ⟨h1, h2⟩
  · rintro (⟨h1, h2⟩ | ⟨h1, h2⟩)
    · exact ⟨h1, .inl h2⟩
    · exact ⟨h1, .inr h2⟩
theorem ofL_nil : ofL [] = 0 := by decide
theorem asks_of : ∀ t : Nt, t.wf → t.asks = ofL (attrsL t.flat)
  | .yes, _ => ofL_nil.symm
  | .attr n, _ => by rw [Nt.asks, Nt.flat]; simp [attrsL]
  | .not t, h => by
    rw [Nt.asks, Nt.flat, attrsL_append, ofL_append, asks_of t h, Nat.zero_or]
    have : attrsL [((3 : Int), (0 : Int))] = [] := by simp [attrsL]
    rw [this, ofL_nil, Nat.or_zero]
  | .pair op a b, h => by
    rw [Nt.asks, Nt.flat, attrsL_append, ofL_append, attrsL_append, ofL_append, asks_of a h.2.1, asks_of b h.2.2, Nat.zero_or]
    have : attrsL [(op, (0 : Int))] = [] := by rcases h.1 with rfl | rfl <;> simp [attrsL]
    rw [this, ofL_nil, Nat.or_zero]
set_option maxRecDepth 20000 in
set_option maxHeartbeats 2000000 in
theorem rsays09_any (A : Option Addr) (cap : Nat) (l : List (Int × Int)) (s : Nat) (W : World) (h : Sl W 2 A l.length cap (pcells l)) (hl : l.length ≤ 1000) (hs : s < 18446744073709551616) :
    Calls Tryz.prog 65 #[.slice A l.length cap, .int .u64 (s : Int)] W fun e w' => e = .returned (.bool (sayN l s)) ∧ Below W.heap.size W w' := by
  have HC := hid (rcheck09_any A cap l W h hl)
  have HL := hid hl
  have HSS := hid hs
  have hl9 : (l.length : Int) ≤ 1000 := by omega
  by_cases hc : chkN l = 0
  · obtain ⟨t, hw, hl0, hd, h31, hr⟩ := chkN_zero hc
    have hp := t.flat_pos
    obtain ⟨e, he⟩ : ∃ e, l.length = e + 1 := ⟨l.length - 1, by rw [hl0]; omega⟩
    have HD := hid (fun w (hb : Below W.heap.size W w) => says0_any A cap l s W h HL.out HSS.out t [] [] e w hb hw (by simpa using hl0) (by simp; rw [← hl0]; omega))
    have HV : Hid (sayN l s = t.holds s) := hid (by rw [hl0] at hc ⊢; exact sayN_tree hw hc s)
    rw [hc] at HC
    clear h hl hc hw hl0 hr hs
    generalize t.holds s = d at *
    generalize hm : l.length = m at *
    clear hm
    subst he
    rw [show ((e + 1 : Nat) : Int) = (e : Int) + 1 by omega] at *
    go_enter Tryz.func65, Tryz.ntmps65
    go_wp2_with fail
    refine HC.out.mono ?_
    rintro x w1 ⟨rfl, hb⟩
    have HB := hid hb
    clear hb HC
    go_wp2_with fail
    refine (HD.out _ HB.out).mono ?_
    rintro x w2 ⟨rfl, hb2⟩
    have HB2 := hid (HB.out.trans (hb2.mono HB.out.size))
    clear hb2
    go_wp2
    go_ret
    exact ⟨by rw [HV.out]; rfl, HB2.out⟩
  · have HV : Hid (sayN l s = false) := hid (by unfold sayN; rw [if_neg hc])
    generalize chkN l = k at *
    have hk0 : (k == 0) = false := by simp [hc]
    clear h hl HL hs
    generalize l.length = m at *
    go_enter Tryz.func65, Tryz.ntmps65
    go_wp2_with fail
    refine HC.out.mono ?_
    rintro x w1 ⟨rfl, hb⟩
    have HB := hid hb
    clear hb HC
    go_wp2
    go_ret
    exact ⟨by rw [HV.out]; rfl, HB.out⟩
end Go.Proofs.YtgakobolhmdnnaaGreatDoor
