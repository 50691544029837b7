/- show: a need is read of its text: the law. -/
import Derived.Test.YtdphdodjidbngaaQShwL
import Derived.Test.YtdphdodjidbngaaQShwG
namespace Go.Proofs.Ytdphdodjidbngaa
open Go.RowKit
set_option linter.unusedVariables false
set_option linter.unusedSimpArgs false

theorem str_em {t : List UInt8} (h : t = []) : (str t).toList.isEmpty = true := by subst h; rw [ByteArray.toList_eq]; rfl
theorem str_nem {t : List UInt8} (h : t ≠ []) : (str t).toList.isEmpty = false := by
  rw [ByteArray.toList_eq]
  cases t with
  | nil => exact absurd rfl h
  | cons a t => rfl
set_option maxRecDepth 20000 in
set_option maxHeartbeats 4000000 in
theorem showBack_law (TA : Option Addr) (tc : Nat) (T : List (List UInt8)) (A B : Option Addr) (ca cb : Nat) (l m : List (Int × Int)) (W : World) (hT : Sl W 1 TA T.length tc (scells T)) (hTm : ∀ s ∈ T, s.length ≤ 2000000) (hA : Sl W 2 A l.length ca (pcells l)) (hB : Sl W 2 B m.length cb (pcells m)) :
    Calls Try.prog 4 #[.slice TA T.length tc, .slice A l.length ca, .slice B m.length cb] W fun e w' => e = .returned (.bool true) ∧ Below W.heap.size W w' := by
  have HW := hid works11_any
  have HC5 := hid (rcheck05_any TA T.length tc T W hTm hT)
  have HCL := hid (fun u (hu : Below W.heap.size W u) => rcheckL_any A ca l u (hA.below hu))
  have HCM := hid (fun u (hu : Below W.heap.size W u) => rcheckL_any B cb m u (hB.below hu))
  have HTT := hid (fun u (hu : Below W.heap.size W u) => hT.below hu)
  have HAA := hid (fun u (hu : Below W.heap.size W u) => hA.below hu)
  have HBB := hid (fun u (hu : Below W.heap.size W u) => hB.below hu)
  clear hT hTm hA hB
  go_enter Try.func4, Try.ntmps4
  go_wp2_with fail
  refine HC5.out.mono ?_
  rintro e w1 ⟨c, rfl, HG, hb⟩
  have HB1 := hid hb
  clear hb HC5
  by_cases hc : c = 0
  case neg =>
    clear HTT HAA HBB HCL HCM HG
    go_wp2_with (go_at_call 8; refine (HW.out _).mono ?_; rintro e w7 ⟨rfl, hb7⟩)
    go_ret
    exact ⟨rfl, HB1.out.trans (hb7.mono HB1.out.size)⟩
  subst hc
  have HGT := hid (goodT (HG.out rfl))
  clear HG
  go_wp2_with fail
  refine (HCL.out _ HB1.out).mono ?_
  rintro e w2 ⟨rfl, hb⟩
  have HB2 := hid (HB1.out.trans (hb.mono HB1.out.size))
  clear hb HCL HB1
  by_cases hl : chkN l = 0
  case neg =>
    clear HTT HAA HBB HCM HGT
    generalize chkN l = c at *
    go_wp2_with (go_at_call 8; refine (HW.out _).mono ?_; rintro e w7 ⟨rfl, hb7⟩)
    go_ret
    exact ⟨rfl, HB2.out.trans (hb7.mono HB2.out.size)⟩
  rw [hl]
  have HL := hid hl
  clear hl
  go_wp2_with fail
  refine (HCM.out _ HB2.out).mono ?_
  rintro e w3 ⟨rfl, hb⟩
  have HB3 := hid (HB2.out.trans (hb.mono HB2.out.size))
  clear hb HCM HB2
  by_cases hm : chkN m = 0
  case neg =>
    clear HTT HAA HBB HGT
    generalize chkN m = c at *
    go_wp2_with (go_at_call 8; refine (HW.out _).mono ?_; rintro e w7 ⟨rfl, hb7⟩)
    go_ret
    exact ⟨rfl, HB3.out.trans (hb7.mono HB3.out.size)⟩
  rw [hm]
  have HM := hid hm
  clear hm
  have hl31 := chk_short HL.out
  have hm31 := chk_short HM.out
  have HN1 := hid (fun u (hu : Below W.heap.size W u) => ntext_any TA tc T HGT.out.2.2.2 (by have := HGT.out.1; omega) A ca l u (HTT.out u hu) (HAA.out u hu) (by omega))
  have HN2 := hid (fun u (hu : Below W.heap.size W u) => ntext_any TA tc T HGT.out.2.2.2 (by have := HGT.out.1; omega) B cb m u (HTT.out u hu) (HBB.out u hu) (by omega))
  have HEQ := hid (back_eq HGT.out HL.out HM.out)
  have HND := hid (back_nd HGT.out HL.out)
  have HSM := hid (fun u (hu : Below W.heap.size W u) => rnsame_bel A B ca cb l m u (HAA.out u hu) (HBB.out u hu))
  have HNE := hid (fun u (hu : Below W.heap.size W u) (h2 : (textV T l).length ≤ 200) => need_any TA tc T (textV T l) u (HTT.out u hu) (by omega))
  have HXS := hid (fun u (hu : Below W.heap.size W u) (X : Option Addr) (cx : Nat) (hX : Sl u 2 X l.length cx (pcells l)) => rnsame_bel X A cx ca l l u hX (HAA.out u hu))
  have htl : (textV T l).length ≤ 107000 := textV_len HGT.out.2.2.2 l (by omega)
  clear HTT HAA HBB HL HM HGT hm31
  unfold NdAns at HNE
  generalize textV T l = tl at *
  generalize textV T m = tm at *
  go_wp2_with fail
  refine (HN1.out _ HB3.out).mono ?_
  rintro e w4 ⟨rfl, hb⟩
  have HB4 := hid (HB3.out.trans (hb.mono HB3.out.size))
  clear hb HB3
  go_wp2_with fail
  refine (HN2.out _ HB4.out).mono ?_
  rintro e w5 ⟨rfl, hb⟩
  have HB5 := hid (HB4.out.trans (hb.mono HB4.out.size))
  clear hb HB4
  go_wp2_with fail
  refine (HN1.out _ HB5.out).mono ?_
  rintro e w6 ⟨rfl, hb⟩
  have HB6 := hid (HB5.out.trans (hb.mono HB5.out.size))
  clear hb HB5 HN1
  by_cases h1 : tl = []
  · have e1 := str_em h1
    clear HN2 HEQ HND HSM HNE HXS h1
    go_wp2_with (go_at_call 8; refine (HW.out _).mono ?_; rintro e w7 ⟨rfl, hb7⟩)
    go_ret
    exact ⟨rfl, HB6.out.trans (hb7.mono HB6.out.size)⟩
  have e1 := str_nem h1
  replace HEQ := hid (HEQ.out h1)
  replace HND := hid (HND.out h1)
  clear h1
  go_wp2_with fail
  refine (HN2.out _ HB6.out).mono ?_
  rintro e w7 ⟨rfl, hb⟩
  have HB7 := hid (HB6.out.trans (hb.mono HB6.out.size))
  clear hb HB6 HN2
  have HSZ := hid (str_size tl)
  rcases Classical.em (tm = []) with h2 | h2
  case' inl =>
    have e2 := str_em h2
    have HB8 := HB7
    clear HEQ h2 HSM HB7
    go_upto_region 7 with fail
  case' inr =>
    have e2 := str_nem h2
    have e3 := HEQ.out h2
    clear HEQ h2
    go_wp2_with fail
    refine (HSM.out _ HB7.out).mono ?_
    rintro e w8 ⟨rfl, hb⟩
    have HB8 := hid (HB7.out.trans (hb.mono HB7.out.size))
    clear hb HSM HB7
    generalize (l == m) = bb at *
    cases bb
    all_goals go_upto_region 7 with fail
  all_goals
    by_cases h200 : tl.length ≤ 200
    case neg =>
      have hz : (200 : Int) < ((str tl).size : Int) := by rw [HSZ.out]; omega
      clear HND HNE HXS
      go_wp2_with (go_at_call 8; refine (HW.out _).mono ?_; rintro e w9 ⟨rfl, hb9⟩)
      go_ret
      exact ⟨rfl, HB8.out.trans (hb9.mono HB8.out.size)⟩
    have hz : ((str tl).size : Int) ≤ 200 := by rw [HSZ.out]; omega
    have hnd := HND.out h200
    go_wp2_with fail
    refine (HNE.out _ HB8.out h200).mono ?_
    rintro e w9 ⟨X, cx, he, ho, hb⟩
    rw [hnd] at he ho
    simp only at he ho
    subst he
    obtain ⟨X', cx', hXc, hs⟩ := Sl.of_own ho
    cases hXc
    have HX := hid hs
    have HB9 := hid (HB8.out.trans (hb.mono HB8.out.size))
    clear hb ho hs HNE HND hnd HB8 HSZ
    go_wp2_with fail
    refine (HXS.out _ HB9.out _ _ HX.out).mono ?_
    rintro e w10 ⟨rfl, hb⟩
    have HB10 := hid (HB9.out.trans (hb.mono HB9.out.size))
    clear hb HXS HB9 HX
    rw [show (l == l) = true by simp]
    go_wp2_with (go_at_call 8; refine (HW.out _).mono ?_; rintro e w11 ⟨rfl, hb11⟩)
    go_ret
    exact ⟨rfl, HB10.out.trans (hb11.mono HB10.out.size)⟩
end Go.Proofs.Ytdphdodjidbngaa
