/- OctetBack. -/
import Derived.Test.YtgeccjeehhhchaaOctP
import Derived.Test.YtgeccjeehhhchaaCloneI
import Derived.Deep.RegionWith
namespace Go.Proofs.Ytgeccjeehhhchaa
open Go.RowKit Go.Sort
set_option linter.unusedVariables false
set_option linter.unusedSimpArgs false

theorem wd_le7 {n : Nat} (h : n ≤ 72057594037927935) : wd n ≤ 7 := wd_max h
/-- What was put is read. -/
theorem firstN_numB (n : Nat) (h : n ≤ 72057594037927935) (most : Int) (hm : (n : Int) ≤ most) (rest : List UInt8) : firstN most (numB n ++ rest) = (n, (numB n).length, 0) := by
  have chk : ∀ u, chkN most n u = (n, u, 0) := fun u => by rw [chkN, if_neg (by omega)]
  unfold numB
  by_cases h8 : n < 248
  · rw [if_pos h8, List.cons_append, List.nil_append, firstN_cons]
    have e : (UInt8.ofNat n).toNat = n := by rw [UInt8.toNat_ofNat']; omega
    rw [e, if_neg (by omega), if_pos h8, chk]
    rfl
  · rw [if_neg h8, List.cons_append, firstN_cons]
    have hk := wd_le7 h
    have hp := wd_pos (n := n) (by omega)
    have e : (UInt8.ofNat (247 + wd n)).toNat = 247 + wd n := by rw [UInt8.toNat_ofNat']; omega
    have hb := beB_length (wd n) n
    rw [e, if_neg (by omega), if_neg (by omega), show 247 + wd n - 247 = wd n by omega, if_neg (by simp [hb])]
    have ht : (beB (wd n) n ++ rest).take (wd n) = beB (wd n) n := by rw [List.take_append_of_le_length (by omega), List.take_of_length_le (by omega)]
    have hj : joinN 0 (beB (wd n) n) = n := by rw [joinN_beB _ _ _ (wd_lt n)]; omega
    rw [ht, hj, if_neg (by simp [h8]), chk, List.length_cons, hb]
    congr 2
    omega
/-- What is read was put with just those bytes. -/
theorem numB_firstN (most : Int) (l : List UInt8) (h : (firstN most l).2.2 = 0) : numB (firstN most l).1 = l.take (firstN most l).2.1 := by
  cases l with
  | nil => simp [firstN] at h
  | cons c r =>
    have hc := c.toNat_lt
    have chk : ∀ n u, (chkN most n u).2.2 = 0 → chkN most n u = (n, u, 0) := by
      intro n u h
      unfold chkN at *
      by_cases hm : max most 0 < (n : Int)
      · rw [if_pos hm] at h; simp at h
      · rw [if_neg hm]
    rw [firstN_cons] at h ⊢
    by_cases h1 : c.toNat = 255
    · rw [if_pos h1] at h; simp at h
    rw [if_neg h1] at h ⊢
    by_cases h2 : c.toNat < 248
    · rw [if_pos h2] at h ⊢
      rw [chk _ _ h]
      simp [numB, h2]
    rw [if_neg h2] at h ⊢
    by_cases h3 : r.length < c.toNat - 247
    · rw [if_pos h3] at h; simp at h
    rw [if_neg h3] at h ⊢
    by_cases h4 : joinN 0 (r.take (c.toNat - 247)) < 248 ∨ wd (joinN 0 (r.take (c.toNat - 247))) ≠ c.toNat - 247
    · rw [if_pos h4] at h; simp at h
    rw [if_neg h4] at h ⊢
    rw [chk _ _ h]
    have h5 : ¬ joinN 0 (r.take (c.toNat - 247)) < 248 := fun h => h4 (.inl h)
    have h6 : wd (joinN 0 (r.take (c.toNat - 247))) = c.toNat - 247 := Classical.byContradiction fun h => h4 (.inr h)
    simp only
    rw [numB, if_neg h5, h6, beB_joinN _ _ _ (by simp; omega), show 247 + (c.toNat - 247) = c.toNat by omega, show 1 + (c.toNat - 247) = (c.toNat - 247) + 1 by omega, List.take_succ_cons]
    simp
theorem rdNum_numB (n : Nat) (h : n ≤ 72057594037927935) (rest : List UInt8) : rdNum n (numB n ++ rest) 0 = (n, rest, 0) := by
  rw [rdNum, if_pos rfl, firstN_numB n h n (by omega) rest, if_pos rfl]
  simp
theorem rdText_text (s : List UInt8) (h : s.length ≤ 72057594037927935) (rest : List UInt8) : rdText s.length (numB s.length ++ s ++ rest) 0 = (s, rest, 0) := by
  rw [List.append_assoc, rdText, if_pos rfl, firstN_numB _ h _ (by omega) _, if_pos rfl, if_neg (by simp)]
  simp

set_option maxRecDepth 20000 in
set_option maxHeartbeats 4000000 in
theorem octetBack_small (n : Nat) (s : ByteArray) (a : Option Addr) (cap : Nat) (m : List UInt8) (W : World) (hb : IsBytes W a m.length cap m) (hm : m.length ≤ 1000) (hs : s.size ≤ 1000) (hn : n ≤ 72057594037927935) :
    Calls Try.prog 10 #[.int .i64 n, .string s, .slice a m.length cap] W fun e w' => e = .returned (.bool true) ∧ Below W.heap.size W w' := by
  have HM := hid hb
  have HN := hid (fun w => num_any none 0 0 [] n w (isBytes_nil w none 0 (Nat.zero_le _)) (by simp))
  rw [cl_in hn, List.nil_append] at HN
  have hnl := numB_length n hn
  have hsl := numB_length s.size (by omega)
  have hcap := hb.len.2
  have h1 : (m.length : Int) ≤ 1000 := by omega
  have h2 : (s.size : Int) ≤ 1000 := by omega
  have d1 : decide ((n : Int) < 0) = false := by simp
  have d2 : decide (72057594037927935 < (n : Int)) = false := by simp; omega
  have d3 : decide (1000 < (s.size : Int)) = false := by simp; omega
  have d4 : decide (1000 < (m.length : Int)) = false := by simp; omega
  have HR := hid (rdNum_numB n hn)
  have HNN := hid hn
  clear hb hn
  generalize hnb : numB n = nb at *
  have HNB := hid hnb
  clear hnb
  go_enter Try.func10, Try.ntmps10
  go_wp2_with fail
  refine (HN.out _).mono ?_
  rintro e w1 ⟨v, rfl, ho1, hb1⟩
  obtain ⟨A1, c1, rfl, hs1⟩ := own_bytes ho1
  clear ho1 HN
  have HT := hid (text_any A1 nb.length c1 nb s w1 hs1 (by omega) (by omega))
  clear hs1
  go_wp2_with fail
  refine HT.out.mono ?_
  rintro e w2 ⟨v, rfl, ho2, hb2⟩
  obtain ⟨A2, c2, rfl, hs2⟩ := own_bytes ho2
  have hl2 : (nb ++ numB s.size ++ s.data.toList).length ≤ 2000 := by simp; omega
  have HB2 := hid (hb1.trans (hb2.mono hb1.size))
  have HS2 := hid hs2
  clear ho2 HT hb1 hb2 hs2
  generalize hL : nb ++ numB s.size ++ s.data.toList = L at *
  have HL := hid hL
  clear hL
  have hmL : (L ++ m).length ≤ 3000 := by rw [List.length_append]; omega
  go_wp2_with (first
    | (at_builtin; refine wpList_append_sl (W := w2) rfl (.tmp 35) (.tmp 36) 76 rfl w2.heap.size 5 Try.underlying76 info_u8 rfl (by omega) rfl (own_empty w2 5 1) rfl (HS2.out.below ((Below.refl _ _).alloc (Nat.le_refl _) _)) (bcells_one _) (by unfold maxLen; omega) (by omega) (by simp) ((Below.refl _ _).alloc (Nat.le_refl _) _) ?_; intro v3 w3 ho3 hb3 _)
    | (at_builtin; refine wpList_append_sl (W := w2) rfl (.tmp 37) (.tmp 38) 76 rfl w2.heap.size 5 Try.underlying76 info_u8 rfl (by omega) rfl ho3 rfl (HM.out.below (HB2.out.trans (hb3.mono HB2.out.size))) (bcells_one _) (by unfold maxLen; omega) (by omega) hb3.size hb3 ?_; intro v4 w4 ho4 hb4 _))
  have HB4 := hid (HB2.out.trans (hb4.mono HB2.out.size))
  have ho5 : w4.ownsRow w2.heap.size 5 1 v4 (0 + L.length + m.length) (bcells (L ++ m)) := by rw [bcells_append]; exact ho4
  obtain ⟨A4, c4, rfl, hs4⟩ := own_bytes ho5
  have HNew := hid (new_any A4 _ c4 _ w4 hs4 (by omega))
  clear ho3 ho4 ho5 hb3 hb4 hs4
  refine HNew.out.mono ?_
  rintro e w5 ⟨B, rfl, hB, hR, hb5⟩
  have hBW : W.heap.size ≤ B := Nat.le_trans HB4.out.size hB
  have HB5 := hid (HB4.out.trans (hb5.mono HB4.out.size))
  have e5 : L ++ m = nb ++ (numB s.size ++ s.data.toList ++ m) := by rw [← HL.out]; simp
  rw [e5] at hR
  have HC1 := hid (rdNum_any B _ 0 n w5 hR)
  rw [HR.out] at HC1
  have hsz : s.data.toList.length = s.size := by rw [Array.length_toList]; rfl
  have hT := rdText_text s.data.toList (by omega) m
  rw [hsz] at hT
  have HTT := hid hT
  have hT2 : RdrAt w5 B (nb ++ (numB s.size ++ s.data.toList ++ m)) 0 → True := fun _ => trivial
  have HR5 := hid hR
  clear hT hb5 hR hT2 e5 hmL HNew hsz
  go_wp2_with fail
  refine HC1.out.mono ?_
  rintro e w6 ⟨rfl, hR6, hO6⟩
  have HC2 := hid (rdText_any B _ 0 (s.size : Nat) w6 hR6)
  rw [HTT.out] at HC2
  have hb6 := HB5.out.trans (hO6.below W.heap.size hBW HB5.out.size)
  have hM6 := isBytes_only (HM.out.below HB5.out) hO6 HR5.out.two.choose_spec.choose_spec.choose_spec.1 HR5.out.two.choose_spec.choose_spec.choose_spec.2
  have HR6 := hid hR6
  clear hR6 hO6 HC1
  rw [text_len] at HC2
  have HM6 := hid hM6
  have HB6 := hid hb6
  clear hM6 hb6
  go_wp2_with fail
  refine HC2.out.mono ?_
  rintro e w7 ⟨rfl, hR7, hO7⟩
  have HB7 := hid (HB6.out.trans (hO7.below W.heap.size hBW HB6.out.size))
  have HM7 := hid (isBytes_only HM6.out hO7 HR6.out.two.choose_spec.choose_spec.choose_spec.1 HR6.out.two.choose_spec.choose_spec.choose_spec.2)
  have HErr := hid (fun w (hw : w7 = w) => rdErr_any B m 0 w (hw ▸ hR7))
  have HLeft := hid (fun w (hw : w7 = w) => rdLeft_any B m 0 w (hw ▸ hR7))
  have hne : ((n : Int) != (n : Int)) = false := by simp
  have hnl : ((m.length : Int) != (m.length : Int)) = false := by simp
  clear hR7 hO7 HC2 HR6 HM6 HB6 HR5 HTT HB5 hsl
  have HNq := hid (new_any a m.length cap m w7 HM7.out (by omega))
  go_upto_region 8 with (first
    | (go_at_call 73; refine (HErr.out _ rfl).mono ?_; rintro e w' ⟨rfl, rfl⟩)
    | (go_at_call 72; refine (HLeft.out _ rfl).mono ?_; rintro e w' ⟨rfl, rfl⟩))
  go_wp2_with fail
  refine HNq.out.mono ?_
  rintro e w8 ⟨C, rfl, hC, hR8, hb8⟩
  have hCW : W.heap.size ≤ C := Nat.le_trans HB7.out.size hC
  have HB8 := hid (HB7.out.trans (hb8.mono HB7.out.size))
  have HM8 := hid (HM7.out.below hb8)
  have HC3 := hid (rdNum_any C m 0 72057594037927935 w8 hR8)
  have HR8 := hid hR8
  clear hb8 hR8 HNq HErr HLeft HM7 HB7
  go_wp2_with fail
  refine HC3.out.mono ?_
  rintro e w9 ⟨rfl, hR9, hO9⟩
  have HB9 := hid (HB8.out.trans (hO9.below W.heap.size hCW HB8.out.size))
  have HM9 := hid (isBytes_only HM8.out hO9 HR8.out.two.choose_spec.choose_spec.choose_spec.1 HR8.out.two.choose_spec.choose_spec.choose_spec.2)
  clear HC3 HR8 HM8 HB8 hO9
  have hx4 := firstN_err 72057594037927935 m
  have HU := hid (firstN_used 72057594037927935 m)
  have HY := hid (numB_firstN 72057594037927935 m)
  have hRN : rdNum 72057594037927935 m 0 = (if (firstN 72057594037927935 m).2.2 = 0 then ((firstN 72057594037927935 m).1, m.drop (firstN 72057594037927935 m).2.1, (0 : Int)) else (0, m, (((firstN 72057594037927935 m).2.2 : Nat) : Int))) := rfl
  rw [hRN] at hR9 ⊢
  clear hRN
  generalize firstN 72057594037927935 m = t at *
  obtain ⟨y, u, x⟩ := t
  simp only at hR9 hx4 HU HY ⊢
  by_cases hx : x = 0
  · subst hx
    rw [if_pos rfl] at hR9 ⊢
    obtain ⟨u1, u2, y1, _⟩ := HU.out rfl
    have HErr := hid (fun w (hw : w9 = w) => rdErr_any C _ 0 w (hw ▸ hR9))
    have HLeft := hid (fun w (hw : w9 = w) => rdLeft_any C _ 0 w (hw ▸ hR9))
    rw [List.length_drop] at HLeft
    have HQ := hid (fun w => num_any none 0 0 [] y w (isBytes_nil w none 0 (Nat.zero_le _)) (by simp))
    rw [cl_in y1, List.nil_append, HY.out rfl] at HQ
    have hMt := hid (fun U (hU : Below w9.heap.size w9 U) => convB ((HM9.out.take u u2).below hU))
    clear hR9 HU HY y1
    go_upto_region 11 with (go_at_call 72; refine (HLeft.out _ rfl).mono ?_; rintro e w' ⟨rfl, rfl⟩)
    rw [show (m.length : Int) - ((m.length - u : Nat) : Int) = (u : Int) by omega]
    have hu3 : (u : Int) ≤ (m.length : Int) := by omega
    have hk1 : decide ((u : Int) < 0) = false := by simp
    have hk2 : decide ((m.length : Int) < (u : Int)) = false := by simp; omega
    have hk3 : decide (m.length < u) = false := by simp; omega
    have hcapu : (u : Int) ≤ (cap : Int) := by have := hcap.1; omega
    have hcap9 : cap ≤ 9223372036854775807 := by have := hcap.2; unfold maxLen at this; omega
    go_upto_region 13 with (go_at_call 73; refine (HErr.out _ rfl).mono ?_; rintro e w' ⟨rfl, rfl⟩)
    have hbD : Below w9.heap.size w9 w9.drew := below_drew (Below.refl _ _)
    have hcvM := hMt.out
    generalize hmu : m.take u = mu at *
    have HMU := hid hmu
    clear hmu
    go_region_with (first
      | (go_at_call 61
         refine (HQ.out _).mono ?_
         rintro e u1' ⟨v9, rfl, o9, g9⟩
         obtain ⟨A9, c9, rfl, s9⟩ := own_bytes o9
         have hcv9 := convB s9
         have hbU : Below w9.heap.size w9 u1' := hbD.trans (g9.mono (by simp)))
      | (go_at_call 60
         refine (works01_any _).mono ?_
         rintro e w10 ⟨rfl, hb10⟩))
    all_goals go_wp2
    all_goals go_ret
    all_goals exact ⟨rfl, HB9.out.trans ((hbU.trans (hb10.mono hbU.size)).mono HB9.out.size)⟩
  · rw [if_neg hx] at hR9 ⊢
    have HErr := hid (fun w (hw : w9 = w) => rdErr_any C m x w (hw ▸ hR9))
    have HLeft := hid (fun w (hw : w9 = w) => rdLeft_any C m x w (hw ▸ hR9))
    have hxe : (((x : Nat) : Int) != 0) = true := by simp; omega
    clear hR9 HU HY
    go_wp2_with (first
      | (go_at_call 73; refine (HErr.out _ rfl).mono ?_; rintro e w' ⟨rfl, rfl⟩)
      | (go_at_call 72; refine (HLeft.out _ rfl).mono ?_; rintro e w' ⟨rfl, rfl⟩)
      | (go_at_call 60; refine (works01_any _).mono ?_; rintro e w10 ⟨rfl, hb10⟩))
    go_ret
    exact ⟨rfl, HB9.out.trans (hb10.mono HB9.out.size)⟩

theorem octetBack_big (n : Int) (s : ByteArray) (a : Option Addr) (len cap : Nat) (W : World) (hc : len ≤ 9223372036854775807) (hs2 : s.size ≤ 9223372036854775807) (h : n < 0 ∨ 72057594037927935 < n ∨ 1000 < s.size ∨ 1000 < len) :
    Calls Try.prog 10 #[.int .i64 n, .string s, .slice a len cap] W fun e w' => e = .returned (.bool true) ∧ Below W.heap.size W w' := by
  by_cases h0 : n < 0
  · have hd : decide (n < 0) = true := decide_eq_true h0
    clear h
    go_enter Try.func10, Try.ntmps10
    go_wp2_with (go_at_call 60; refine (works01_any _).mono ?_; rintro e w' ⟨rfl, hb⟩)
    go_ret
    exact ⟨rfl, hb⟩
  have hd : decide (n < 0) = false := decide_eq_false h0
  by_cases h1 : 72057594037927935 < n
  · have hd1 : decide (72057594037927935 < n) = true := decide_eq_true h1
    clear h h0
    go_enter Try.func10, Try.ntmps10
    go_wp2_with (go_at_call 60; refine (works01_any _).mono ?_; rintro e w' ⟨rfl, hb⟩)
    go_ret
    exact ⟨rfl, hb⟩
  have hd1 : decide (72057594037927935 < n) = false := decide_eq_false h1
  by_cases h2 : 1000 < s.size
  · have hd2 : decide ((1000 : Int) < s.size) = true := by simp; omega
    have h2' : (1000 : Int) < s.size := by omega
    clear h h0 h1
    go_enter Try.func10, Try.ntmps10
    go_wp2_with (go_at_call 60; refine (works01_any _).mono ?_; rintro e w' ⟨rfl, hb⟩)
    go_ret
    exact ⟨rfl, hb⟩
  · have hd2 : decide ((1000 : Int) < s.size) = false := by simp; omega
    have hd3 : decide ((1000 : Int) < len) = true := by simp; omega
    have h3' : (1000 : Int) < len := by omega
    clear h h0 h1
    go_enter Try.func10, Try.ntmps10
    go_wp2_with (go_at_call 60; refine (works01_any _).mono ?_; rintro e w' ⟨rfl, hb⟩)
    go_ret
    exact ⟨rfl, hb⟩
theorem octetBack_law (n : Int) (s : ByteArray) (a : Option Addr) (len cap : Nat) (z : List Int) (W : World) (hs : s.size ≤ maxLen) (h : IsRow .u8 W a len cap z) :
    Calls Try.prog 10 #[.int .i64 n, .string s, .slice a len cap] W fun e w' => e = .returned (.bool true) ∧ Below W.heap.size W w' := by
  obtain ⟨l, hb⟩ := IsBytes.of_row h
  obtain ⟨rfl, hlc, hcm⟩ := hb.len
  by_cases h1 : 0 ≤ n ∧ n ≤ 72057594037927935 ∧ l.length ≤ 1000 ∧ s.size ≤ 1000
  · obtain ⟨k, rfl⟩ := Int.eq_ofNat_of_zero_le h1.1
    exact octetBack_small k s a cap l W hb h1.2.2.1 h1.2.2.2 (by omega)
  · exact octetBack_big n s a l.length cap W (by unfold maxLen at hcm; omega) (by unfold maxLen at hs; omega) (by omega)
end Go.Proofs.Ytgeccjeehhhchaa
