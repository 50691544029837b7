/- ShowTexts: the example, the law. -/
import Derived.Test.YtdphdodjidbngaaQShwF
import Derived.Test.YtdphdodjidbngaaGaP
import Derived.Test.YtdphdodjidbngaaNeQ
namespace Go.Proofs.Ytdphdodjidbngaa
open Go.RowKit Go.Shelf
set_option linter.unusedVariables false
set_option linter.unusedSimpArgs false

def t11 : Nt := .pair 4 (.pair 5 (.attr 1) (.attr 2)) (.not (.attr 0))
def T11 : List (List UInt8) := [[97, 114, 109], [103, 112, 117], [115, 115, 100]]
theorem t11_wf : t11.wf := by simp [t11, Nt.wf]
theorem t11_chk : chkN t11.flat = 0 := by rw [chkN_tree t11_wf]; rfl
theorem t11_txt : textV T11 t11.flat = [40, 103, 112, 117, 32, 124, 32, 115, 115, 100, 41, 32, 38, 32, 33, 97, 114, 109] := by
  rw [textV_tree t11_wf t11_chk]
  have h : outN T11.length t11.flat = false := by decide
  rw [h, if_neg (by simp)]
  rfl
set_option maxRecDepth 20000 in
set_option maxHeartbeats 2000000 in
theorem works11_any (W : World) : Calls Try.prog 8 #[] W fun e w' => e = .returned (.bool true) ∧ Below W.heap.size W w' := by
  have HX := hid (fun (TA : Option Addr) (A : Option Addr) (u : World) (hT : Sl u 1 TA 3 3 (scells T11)) (h : Sl u 2 A 6 6 (pcells t11.flat)) => ntext_any TA 3 T11 (by simp [T11]) (by simp [T11]) A 6 t11.flat u hT h (by simp [t11, Nt.flat]))
  rw [t11_txt] at HX
  go_enter Try.func8, Try.ntmps8
  go_upto_region 2 with (fail)
  have hal1 : Below W.heap.size W (W.alloc (.cells #[.int .i64 2, .int .i64 1, .int .i64 2, .int .i64 2, .int .i64 5, .int .i64 0, .int .i64 2, .int .i64 0, .int .i64 3, .int .i64 0, .int .i64 4, .int .i64 0] 77)) := bel_alloc (Below.refl _ _) _
  refine at_world (fun u => Sl u 2 (some ⟨W.heap.size, 0, none⟩) 6 6 (pcells t11.flat) ∧ Below W.heap.size W u) ⟨Sl.lit W 77 2 6 #[.int .i64 2, .int .i64 1, .int .i64 2, .int .i64 2, .int .i64 5, .int .i64 0, .int .i64 2, .int .i64 0, .int .i64 3, .int .i64 0, .int .i64 4, .int .i64 0] rfl (by unfold maxLen; omega), hal1⟩ ?_
  clear hal1
  rintro w1 ⟨hs, hb⟩
  have HS := hid hs
  have HB := hid hb
  clear hs hb
  generalize W.heap.size = X at HS ⊢
  go_wp2_with fail
  have hal2 := bel_alloc (Below.refl _ w1) (.cells #[.string ⟨#[97, 114, 109]⟩, .string ⟨#[103, 112, 117]⟩, .string ⟨#[115, 115, 100]⟩] 9)
  refine (HX.out _ _ _ (Sl.lit w1 9 1 3 #[.string ⟨#[97, 114, 109]⟩, .string ⟨#[103, 112, 117]⟩, .string ⟨#[115, 115, 100]⟩] rfl (by unfold maxLen; omega)) (HS.out.below hal2)).mono ?_
  rintro e w2 ⟨rfl, hb⟩
  have HB2 := hid (HB.out.trans ((hal2.trans (hb.mono hal2.size)).mono HB.out.size))
  clear hal2 hb HX HS HB
  rw [show (str [40, 103, 112, 117, 32, 124, 32, 115, 115, 100, 41, 32, 38, 32, 33, 97, 114, 109]) = ⟨#[40, 103, 112, 117, 32, 124, 32, 115, 115, 100, 41, 32, 38, 32, 33, 97, 114, 109]⟩ from rfl]
  go_wp2
  go_ret
  exact ⟨rfl, HB2.out⟩
theorem lsAt_two {w : World} {e : TypeId} {A B : Option Addr} {ca cb : Nat} {l m : List (Int × Int)} (hA : Sl w 2 A l.length ca (pcells l)) (hB : Sl w 2 B m.length cb (pcells m)) : LsAt (w.alloc (.cells #[.slice A l.length ca, .slice B m.length cb] e)) (some ⟨w.heap.size, 0, none⟩) 2 [⟨l, A, ca⟩, ⟨m, B, cb⟩] := by
  refine ⟨Sl.lit w e 1 2 #[.slice A l.length ca, .slice B m.length cb] rfl (by unfold maxLen; omega), fun y hy => ?_⟩
  have hal : Below w.heap.size w (w.alloc (.cells #[.slice A l.length ca, .slice B m.length cb] e)) := bel_alloc (Below.refl _ _) _
  simp at hy
  rcases hy with rfl | rfl
  · exact hA.below hal
  · exact hB.below hal
set_option maxRecDepth 20000 in
set_option maxHeartbeats 4000000 in
theorem showTexts_law (TA : Option Addr) (tc : Nat) (T : List (List UInt8)) (A B : Option Addr) (ca cb : Nat) (l m : List (Int × Int)) (W : World) (hT : Sl W 1 TA T.length tc (scells T)) (hTm : ∀ s ∈ T, s.length ≤ maxLen) (hA : Sl W 2 A l.length ca (pcells l)) (hB : Sl W 2 B m.length cb (pcells m)) :
    Calls Try.prog 3 #[.slice TA T.length tc, .slice A l.length ca, .slice B m.length cb] W fun e w' => e = .returned (.bool true) ∧ Below W.heap.size W w' := by
  have HW := hid works11_any
  have HLO := hid (long_any TA T.length tc T 40 100 W hT hTm)
  have HLN := hid (fun h => longB_no (l := T) (most := 40) (each := 100) h)
  have HTT := hid (fun u (hu : Below W.heap.size W u) => hT.below hu)
  have HAA := hid (fun u (hu : Below W.heap.size W u) => hA.below hu)
  have HBB := hid (fun u (hu : Below W.heap.size W u) => hB.below hu)
  have hll : l.length ≤ maxLen := Nat.le_trans hA.2.1 hA.2.2.1
  have hml : m.length ≤ maxLen := Nat.le_trans hB.2.1 hB.2.2.1
  unfold maxLen at hll hml
  obtain ⟨lb, hlb⟩ : ∃ lb, longB T 40 100 = lb := ⟨_, rfl⟩
  rw [hlb] at HLO HLN
  clear hT hTm hA hB hlb
  go_enter Try.func3, Try.ntmps3
  go_wp2_with fail
  refine HLO.out.mono ?_
  rintro e w1 ⟨rfl, rfl⟩
  clear HLO
  cases lb with
  | true =>
    clear HTT HAA HBB HLN
    go_wp2_with (go_at_call 8; refine (HW.out _).mono ?_; rintro e w7 ⟨rfl, hb7⟩)
    go_ret
    exact ⟨rfl, hb7⟩
  | false =>
    have hlong := HLN.out rfl
    have h100 : ∀ s ∈ T, s.length ≤ 100 := fun s hs => by have := hlong.1 s hs; omega
    have hTl : T.length ≤ 1000 := by have := hlong.2; omega
    clear HLN hlong
    by_cases h1 : (l.length : Int) > 100
    · clear HTT HAA HBB
      go_wp2_with (go_at_call 8; refine (HW.out _).mono ?_; rintro e w7 ⟨rfl, hb7⟩)
      go_ret
      exact ⟨rfl, hb7⟩
    by_cases h2 : (m.length : Int) > 100
    · clear HTT HAA HBB
      go_wp2_with (go_at_call 8; refine (HW.out _).mono ?_; rintro e w7 ⟨rfl, hb7⟩)
      go_ret
      exact ⟨rfl, hb7⟩
    have hl9 : l.length ≤ 1000 := by omega
    have hm9 : m.length ≤ 1000 := by omega
    have HN1 := hid (fun u (hu : Below W.heap.size W u) => ntext_any TA tc T h100 hTl A ca l u (HTT.out u hu) (HAA.out u hu) hl9)
    have HR1 := hid (fun u (hu : Below W.heap.size W u) => rtextT_any TA tc T h100 A ca l u (HTT.out u hu) (HAA.out u hu) hl9)
    have HR2 := hid (fun u (hu : Below W.heap.size W u) => rtextT_any TA tc T h100 B cb m u (HTT.out u hu) (HBB.out u hu) hm9)
    have HL2 := hid (fun u (hu : Below W.heap.size W u) => nlines_any TA tc T h100 hTl (some ⟨u.heap.size, 0, none⟩) 2 [⟨l, A, ca⟩, ⟨m, B, cb⟩] (u.alloc (.cells #[.slice A l.length ca, .slice B m.length cb] 23)) ((HTT.out u hu).below (bel_alloc (Below.refl _ _) _)) (lsAt_two (HAA.out u hu) (HBB.out u hu)) (by simp) (by simp; exact ⟨hl9, hm9⟩))
    have HL0 := hid (fun u (hu : Below W.heap.size W u) => nlines_any TA tc T h100 hTl none 0 [] u (HTT.out u hu) ⟨Sl.nil _ _ _ _ (Nat.zero_le _), by simp⟩ (by simp) (by simp))
    have htl := textV_len h100 l hl9
    have htm := textV_len h100 m hm9
    have hlns : lns T (pls [(⟨l, A, ca⟩ : Pl), ⟨m, B, cb⟩]) = textV T l ++ [10] ++ textV T m ++ [10] := by simp [lns, pls]
    have hln0 : lns T (pls []) = [] := rfl
    rw [hlns] at HL2
    rw [hln0] at HL0
    clear HTT HAA HBB hlns hln0 h100
    simp only [List.length_cons, List.length_nil] at HL2 HL0
    generalize textV T l = tl at *
    generalize textV T m = tm at *
    generalize l.length = ln at *
    generalize m.length = mn at *
    have e1 : ((str tl).toList == (str tl).toList) = true := by simp
    have e10 : (⟨#[10]⟩ : ByteArray) = str [10] := rfl
    have ecat : (((str tl ++ (⟨#[10]⟩ : ByteArray)) ++ str tm) ++ (⟨#[10]⟩ : ByteArray)) = str (tl ++ [10] ++ tm ++ [10]) := by rw [e10, str_cat, str_cat, str_cat]
    have e2 : ((str (tl ++ [10] ++ tm ++ [10])).toList == (((str tl ++ (⟨#[10]⟩ : ByteArray)) ++ str tm) ++ (⟨#[10]⟩ : ByteArray)).toList) = true := by rw [ecat]; simp
    have hz1 : (str tl).size + (⟨#[10]⟩ : ByteArray).size ≤ 9223372036854775807 := by rw [str_size]; show tl.length + 1 ≤ _; omega
    have hz2 : (str tl ++ (⟨#[10]⟩ : ByteArray)).size + (str tm).size ≤ 9223372036854775807 := by rw [e10, str_cat, str_size, str_size, List.length_append]; show tl.length + 1 + tm.length ≤ _; omega
    have hz3 : ((str tl ++ (⟨#[10]⟩ : ByteArray)) ++ str tm).size + (⟨#[10]⟩ : ByteArray).size ≤ 9223372036854775807 := by rw [e10, str_cat, str_cat, str_size, List.length_append, List.length_append]; show tl.length + 1 + tm.length + 1 ≤ _; omega
    clear ecat e10 htl htm
    generalize str (tl ++ [10] ++ tm ++ [10]) = sall at *
    go_wp2_with fail
    refine (HN1.out W (Below.refl _ _)).mono ?_
    rintro e w2 ⟨rfl, hb⟩
    have HB2 := hid hb
    clear hb HN1
    go_wp2_with fail
    refine (HR1.out w2 HB2.out).mono ?_
    rintro e w3 ⟨rfl, hb⟩
    have HB3 := hid (HB2.out.trans (hb.mono HB2.out.size))
    clear hb HB2
    go_wp2_with fail
    refine (HL2.out w3 HB3.out).mono ?_
    rintro e w4 ⟨rfl, hb⟩
    have HB4 := hid (HB3.out.trans (((bel_alloc (Below.refl w3.heap.size w3) _).trans (hb.mono (bel_alloc (Below.refl w3.heap.size w3) _).size)).mono HB3.out.size))
    clear hb HB3 HL2
    go_wp2_with fail
    refine (HR1.out w4 HB4.out).mono ?_
    rintro e w5 ⟨rfl, hb⟩
    have HB5 := hid (HB4.out.trans (hb.mono HB4.out.size))
    clear hb HB4 HR1
    go_wp2_with fail
    refine (HR2.out w5 HB5.out).mono ?_
    rintro e w6 ⟨rfl, hb⟩
    have HB6 := hid (HB5.out.trans (hb.mono HB5.out.size))
    clear hb HB5 HR2
    go_wp2_with fail
    refine (HL0.out w6 HB6.out).mono ?_
    rintro e w8 ⟨rfl, hb⟩
    have HB8 := hid (HB6.out.trans (hb.mono HB6.out.size))
    clear hb HB6 HL0
    rw [show (str []) = ⟨#[]⟩ from rfl]
    go_wp2_with (go_at_call 8; refine (HW.out _).mono ?_; rintro e w7 ⟨rfl, hb7⟩)
    go_ret
    exact ⟨rfl, HB8.out.trans (hb7.mono HB8.out.size)⟩
end Go.Proofs.Ytdphdodjidbngaa
