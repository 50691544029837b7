/- Needs: the document's Check, Depth, Says, Asks; Same; the page's example: contracts. -/
import Derived.Test.YtdphdodjidbngaaNeeG
namespace Go.Proofs.Ytdphdodjidbngaa
open Go.RowKit Go.Sort
set_option linter.unusedVariables false
set_option linter.unusedSimpArgs false

theorem chkN_bad {l : List (Int × Int)} {k : Nat} (hk : k < l.length) (h : mayN l[k] = false) (hl : ¬ 31 < l.length) : chkN l = 1 :=
  chkN_none (fun t hw he => by
    have h1 := flat_may hw l[k] (by rw [← he]; exact List.getElem_mem hk)
    rw [h] at h1
    exact absurd h1 (by simp)) hl
theorem chkN_begin {l : List (Int × Int)} (h : beginN l l.length ≠ 0) (hl : ¬ 31 < l.length) : chkN l = 1 :=
  chkN_none (fun t hw he => h (by
    have h1 := begin_flat [] [] t hw
    simp only [List.nil_append, List.append_nil, List.length_nil, Nat.zero_add] at h1
    rw [he, h1]
    rfl)) hl
theorem chkN_nil {l : List (Int × Int)} (h : l.length = 0) : chkN l = 1 :=
  chkN_none (fun t hw he => by
    have := t.flat_pos
    rw [← he] at this
    omega) (by omega)

set_option maxRecDepth 20000 in
set_option maxHeartbeats 4000000 in
theorem rcheck09_any (A : Option Addr) (cap : Nat) (l : List (Int × Int)) (W : World) (h : Sl W 2 A l.length cap (pcells l)) (hl : l.length ≤ 1000) :
    Calls Try.prog 13 #[.slice A l.length cap] W fun e w' => e = .returned (.int .i64 (chkN l)) ∧ Below W.heap.size W w' := by
  by_cases h31 : 31 < l.length
  · have h2 : (31 : Int) < (l.length : Int) := by omega
    have HC : Hid (chkN l = 4) := hid (by unfold chkN; rw [if_pos h31])
    have hl9 : (l.length : Int) ≤ 1000 := by omega
    clear h
    generalize hm : l.length = m at *
    clear hm
    go_enter Try.func13, Try.ntmps13
    go_wp2_with fail
    go_ret
    exact ⟨by rw [HC.out]; rfl, Below.refl _ _⟩
  have hl31 : (l.length : Int) ≤ 31 := by omega
  have HS := hid (fun w (hw : Below W.heap.size W w) => h.below hw)
  have HL := hid hl
  clear h hl
  go_enter Try.func13, Try.ntmps13
  go_wp2_with fail
  go_loopw [3] (fun i wr => ∃ k : Nat, k ≤ l.length ∧ i = .int .i64 (k : Int) ∧ Hid ((∀ x ∈ l.take k, mayN x = true) ∧ Below W.heap.size W wr)) (fun i _ => l.length - (intOf i).toNat)
  case atStart => exact ⟨0, by omega, rfl, by simp, Below.refl _ _⟩
  case round =>
    obtain ⟨k, hk, rfl, HR⟩ := hrel
    by_cases hlt : k < l.length
    · have hlt2 : (k : Int) < (l.length : Int) := by omega
      obtain ⟨bb, off, rfl, hc0, hc1⟩ := (HS.out _ HR.out.2).at2 k hlt
      have HM := hid (fun w => may_any l[k].1 l[k].2 w)
      cases hm : mayN l[k] with
      | false =>
        have HB := hid (chkN_bad hlt hm h31)
        rw [show (l[k].1, l[k].2) = l[k] from rfl, hm] at HM
        have HBW := hid HR.out.2
        generalize l[k] = x at *
        obtain ⟨op, n⟩ := x
        simp only at *
        clear hm HR HS
        go_wp2_with fail
        refine (HM.out _).mono ?_
        rintro e w2 ⟨rfl, hb2⟩
        have HB2 := hid (HBW.out.trans (hb2.mono HBW.out.size))
        clear hb2 HBW hc0 hc1 HM
        go_wp2
        go_ret
        exact ⟨by rw [HB.out]; rfl, HB2.out⟩
      | true =>
        have HN : Hid (∀ x ∈ l.take (k + 1), mayN x = true) := hid (fun x hx => by
          rw [List.take_succ_eq_append_getElem hlt] at hx
          rcases List.mem_append.1 hx with hx | hx
          · exact HR.out.1 x hx
          · rw [List.mem_singleton.1 hx]; exact hm)
        rw [show (l[k].1, l[k].2) = l[k] from rfl, hm] at HM
        have HBW := hid HR.out.2
        generalize l[k] = x at *
        obtain ⟨op, n⟩ := x
        simp only at *
        clear hm HR HS
        go_wp2_with fail
        refine (HM.out _).mono ?_
        rintro e w2 ⟨rfl, hb2⟩
        have HB2 := hid (HBW.out.trans (hb2.mono HBW.out.size))
        clear hb2 HBW hc0 hc1 HM
        go_wp2
        go_roundw
        case rel => exact ⟨k + 1, by omega, by go_num, HN.out, HB2.out⟩
        case measure => simp [intOf]; omega
    · have hge : ¬ (k : Int) < (l.length : Int) := by omega
      have HMY : Hid (∀ x ∈ l, mayN x = true) := hid (by have := HR.out.1; rw [List.take_of_length_le (by omega)] at this; exact this)
      have HBW := hid HR.out.2
      clear HR
      by_cases h0 : l.length = 0
      · have HV := hid (chkN_nil h0)
        have h0' : (l.length : Int) = 0 := by omega
        generalize hm : l.length = m at *
        clear hm
        obtain rfl : m = 0 := h0
        obtain rfl : k = 0 := by omega
        go_wp2_with fail
        go_ret
        exact ⟨by rw [HV.out]; rfl, HBW.out⟩
      · obtain ⟨e, he⟩ : ∃ e, l.length = e + 1 := ⟨l.length - 1, by omega⟩
        have HSW := hid (HS.out _ HBW.out)
        have HBG := hid (begin_any A cap l e wr HSW.out HL.out (by omega))
        have HD0 := hid (fun (t : Nt) (hw : t.wf) (hl0 : l = t.flat) => depth0_any A cap l wr HSW.out HL.out t [] [] e hw (by simpa using hl0) (by simp; rw [← hl0]; omega))
        rw [← he] at HBG
        have HTR := hid (fun hb => begin_tree HMY.out hb)
        have HNB := hid (fun hb => chkN_begin (l := l) hb h31)
        have HCT := hid (fun (t : Nt) (hw : t.wf) (hl0 : l = t.flat) => (by rw [hl0]; rw [chkN_tree hw, ← hl0, if_neg h31] : chkN l = if 8 < t.depth then 4 else 0))
        have hfl := fun (t : Nt) (hl0 : l = t.flat) => (by have := t.depth_le; rw [← hl0] at this; omega : t.depth ≤ 31)
        have HFL := hid hfl
        clear HSW HS HMY hfl HL
        have hz : ¬ ((l.length : Int) = 0) := by omega
        have hee : (l.length : Int) = (e : Int) + 1 := by omega
        generalize beginN l l.length = b at *
        generalize hm : l.length = m at *
        clear hm
        subst he
        rw [show ((e + 1 : Nat) : Int) = (e : Int) + 1 by omega] at *
        have hz2 : ((e : Int) + 1 == 0) = false := by simp; omega
        by_cases hb0 : b = 0
        · obtain ⟨t, hw, hl0⟩ := HTR.out hb0
          have HDT := hid (HD0.out t hw hl0)
          have HVT := hid (HCT.out t hw hl0)
          have hd := HFL.out t hl0
          subst hb0
          clear HTR HNB HCT HFL HD0 hl0 hw
          generalize t.depth = d at *
          go_wp2_with fail
          refine HBG.out.mono ?_
          rintro x w2 ⟨rfl, rfl⟩
          go_wp2_with fail
          refine HDT.out.mono ?_
          rintro x w2 ⟨rfl, rfl⟩
          by_cases h8 : 8 < d
          · have h8' : (8 : Int) < (d : Int) := by omega
            have HV : Hid (chkN l = 4) := hid (by rw [HVT.out, if_pos h8])
            go_wp2
            go_ret
            exact ⟨by rw [HV.out]; rfl, HBW.out⟩
          · have h8' : ¬ (8 : Int) < (d : Int) := by omega
            have HV : Hid (chkN l = 0) := hid (by rw [HVT.out, if_neg h8])
            go_wp2
            go_ret
            exact ⟨by rw [HV.out]; rfl, HBW.out⟩
        · have HV := hid (HNB.out hb0)
          have hb1 : (b != 0) = true := by simp [hb0]
          have hb2 : (b == 0) = false := by simp [hb0]
          clear HTR HNB HCT HFL HD0
          go_wp2_with fail
          refine HBG.out.mono ?_
          rintro x w2 ⟨rfl, rfl⟩
          go_wp2
          go_ret
          exact ⟨by rw [HV.out]; rfl, HBW.out⟩
end Go.Proofs.Ytdphdodjidbngaa

