/- frame.Put and the document's Put, as contracts. -/
import Derived.Test.YtkepfkfoblocgaaCrcG
import Derived.Test.YtkepfkfoblocgaaOctH
import Derived.Test.YtkepfkfoblocgaaNumM
import Derived.Test.YtkepfkfoblocgaaStep
namespace Go.Proofs.Ytkepfkfoblocgaa
open Go.RowKit
set_option linter.unusedVariables false
set_option linter.unusedSimpArgs false

/-- The bytes of a payload's frame. -/
def frP (l : List UInt8) : List UInt8 := if 4096 < l.length then [] else sealL (numB l.length ++ l)
theorem seal_len (l : List UInt8) : (sealL l).length = l.length + 4 := by simp [sealL, fourL]

set_option maxRecDepth 20000 in
set_option maxHeartbeats 1000000 in
theorem fput_any (a : Option Addr) (len cap : Nat) (l : List UInt8) (s : ByteArray) (W : World) (hb : IsBytes W a len cap l) (hl : l.length ≤ 100000) (hs : s.size ≤ 100000) :
    Calls Try.prog 96 #[.slice a len cap, .string s] W fun e w' => ∃ A c, e = .returned (.slice A (l ++ frP s.data.toList).length c) ∧ w'.ownsRow W.heap.size 5 1 (.slice A (l ++ frP s.data.toList).length c) (l ++ frP s.data.toList).length (bcells (l ++ frP s.data.toList)) ∧ Below W.heap.size W w' := by
  obtain ⟨rfl, hlc, hcm⟩ := hb.len
  have HB := hid hb
  have hsz : s.data.toList.length = s.size := by rw [Array.length_toList]; rfl
  have HSZ := hid hsz
  clear hb hsz
  generalize hq : l ++ frP s.data.toList = q
  have HQ := hid hq
  clear hq
  go_enter Try.func96, Try.ntmps96
  go_wp2_with (at_builtin; refine wpList_append_sl (W := W) rfl (.const (.slice none 0 0)) (.tmp 6) 24 rfl W.heap.size 5 Try.underlying24 info_u8 rfl (by omega) rfl (World.ownsRow_nil _ _ _ _) rfl HB.out (bcells_one _) (by unfold maxLen; omega) (by omega) (Nat.le_refl _) (Below.refl _ _) ?_)
  intro v1 w1 ho1 hb1 _
  have HO1 := hid ho1
  have HB1 := hid hb1
  clear ho1 hb1
  by_cases h4 : s.size ≤ 4096
  · have h4' : (s.size : Int) ≤ 4096 := by omega
    have hd : decide (4096 < (s.size : Int)) = false := by simp; omega
    have hfr : frP s.data.toList = sealL (numB s.size ++ s.data.toList) := by rw [frP, if_neg (by rw [HSZ.out]; omega), HSZ.out]
    rw [hfr] at HQ
    have HT := hid (fun w => text_any none 0 0 [] s w (isBytes_nil w none 0 (Nat.zero_le _)) (by simp) hs)
    rw [List.nil_append] at HT
    have hnl := (numB_length s.size (by omega)).2
    have hml : (numB s.size ++ s.data.toList).length ≤ 5000 := by rw [List.length_append, HSZ.out]; omega
    clear hfr h4 hnl hs HSZ
    generalize numB s.size ++ s.data.toList = m at *
    go_wp2_with fail
    refine (HT.out _).mono ?_
    rintro e w2 ⟨v2, rfl, ho2, hb2⟩
    obtain ⟨A2, c2, rfl, hs2⟩ := own_bytes ho2
    have HS := hid (seal_any A2 _ c2 m w2 hs2 (by omega))
    have HB2 := hid (HB1.out.trans (hb2.mono HB1.out.size))
    have HO2 := hid (own_keep HO1.out hb2)
    clear ho2 hb2 hs2 HT HO1 HB1
    go_wp2_with fail
    refine HS.out.mono ?_
    rintro e w3 ⟨v3, rfl, ho3, hb3⟩
    have hm4 := seal_len m
    rw [← hm4] at ho3
    generalize sealL m = sm at *
    obtain ⟨A3, c3, rfl, hs3⟩ := own_bytes ho3
    have HB3 := hid (HB2.out.trans (hb3.mono HB2.out.size))
    have HO3 := hid (own_keep HO2.out hb3)
    have HS3 := hid hs3
    have HM4 := hid hm4
    clear ho3 hb3 hs3 HS HO2 HB2 hm4
    go_wp2_with (at_builtin; refine wpList_append_sl (W := W) rfl (.tmp 12) (.tmp 15) 24 rfl W.heap.size 5 Try.underlying24 info_u8 rfl (by omega) rfl HO3.out rfl HS3.out (bcells_one _) (by have := HM4.out; unfold maxLen; omega) (by have := HM4.out; omega) HB3.out.size HB3.out ?_)
    intro v4 w4 ho4 hb4 _
    rw [← bcells_append, ← List.length_append, HQ.out] at ho4
    obtain ⟨A4, c4, rfl, _⟩ := own_bytes ho4
    have HO4 := hid ho4
    have HB4 := hid hb4
    clear ho4 hb4 HQ HO3 HS3 HB3 HM4
    go_wp2
    go_ret
    exact ⟨A4, c4, rfl, HO4.out, HB4.out⟩
  · have h4' : 4096 < (s.size : Int) := by omega
    have hd : decide (4096 < (s.size : Int)) = true := by simp; omega
    have hfr : frP s.data.toList = [] := by rw [frP, if_pos (by rw [HSZ.out]; omega)]
    rw [hfr, List.append_nil] at HQ
    obtain rfl := HQ.out
    obtain ⟨A1, c1, rfl, _⟩ := own_bytes HO1.out
    clear HQ hfr h4 hs
    go_wp2
    go_ret
    exact ⟨A1, c1, rfl, HO1.out, HB1.out⟩

set_option maxRecDepth 20000 in
theorem rput_any (s : ByteArray) (W : World) (hs : s.size ≤ 100000) :
    Calls Try.prog 97 #[.string s] W fun e w' => e = .returned (.string (str (frP s.data.toList))) ∧ Below W.heap.size W w' := by
  have hsz : s.data.toList.length = s.size := by rw [Array.length_toList]; rfl
  have HT := hid (fun w => rtext_any s w hs)
  by_cases h4 : s.size ≤ 4096
  · have h4' : (s.size : Int) ≤ 4096 := by omega
    have hd : decide (4096 < (s.size : Int)) = false := by simp; omega
    have hfr : frP s.data.toList = sealL (numB s.size ++ s.data.toList) := by rw [frP, if_neg (by omega), hsz]
    have hnl := (numB_length s.size (by omega)).2
    have hx : (str (numB s.size) ++ s).data.toList = numB s.size ++ s.data.toList := by simp [str, ByteArray.data_append]
    have hxz : (str (numB s.size) ++ s).size ≤ 5000 := by rw [ByteArray.size_append, str_size]; omega
    rw [hfr, ← hx]
    have HS := hid (fun w => rseal_any (str (numB s.size) ++ s) w (by omega))
    clear hfr h4 hnl hs hsz hx
    generalize str (numB s.size) ++ s = x at *
    go_enter Try.func97, Try.ntmps97
    go_wp2_with (first
      | (go_at_call 93; refine (HT.out _).mono ?_; rintro e w1 ⟨rfl, hb1⟩)
      | (go_at_call 122; refine (HS.out _).mono ?_; rintro e w2 ⟨rfl, hb2⟩))
    go_ret
    exact ⟨rfl, hb1.trans (hb2.mono hb1.size)⟩
  · have h4' : 4096 < (s.size : Int) := by omega
    have hd : decide (4096 < (s.size : Int)) = true := by simp; omega
    have hfr : frP s.data.toList = [] := by rw [frP, if_pos (by omega)]
    rw [hfr]
    clear hfr h4 hs hsz HT
    go_enter Try.func97, Try.ntmps97
    go_wp2
    go_ret
    exact ⟨rfl, Below.refl _ _⟩
end Go.Proofs.Ytkepfkfoblocgaa
