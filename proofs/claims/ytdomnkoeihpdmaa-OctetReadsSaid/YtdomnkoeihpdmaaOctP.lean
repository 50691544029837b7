/- OctetPuts. -/
import Derived.Test.YtdomnkoeihpdmaaOctR
import Derived.Test.YtdomnkoeihpdmaaOctE
import Derived.Test.YtdomnkoeihpdmaaStep
import Derived.Deep.RegionHeld3
namespace Go.Proofs.Ytdomnkoeihpdmaa
open Go.RowKit Go.Sort
set_option linter.unusedVariables false
set_option linter.unusedSimpArgs false

theorem convB {w : World} {a : Option Addr} {n cap : Nat} {l : List UInt8} (h : IsBytes w a n cap l) : (convert 22 9 (.slice a n cap)).run Try.prog w = .ok (.string (str l)) w :=
  conv_str (P := Try.prog) (src := 22) (dst := 9) Try.underlying22 Try.underlying5 Try.underlying9 h

set_option maxRecDepth 20000 in
set_option maxHeartbeats 1000000 in
theorem works01_any (W : World) : Calls Try.prog 5 #[] W fun e w' => e = .returned (.bool true) ∧ Below W.heap.size W w' := by
  have hl : IsBytes (W.alloc (.cells #[.int .u8 248, .int .u8 7] 5)) (some ⟨W.heap.size, 0, none⟩) 2 2 [248, 7] := Sl.lit W 5 1 2 #[.int .u8 248, .int .u8 7] rfl (by unfold maxLen; omega)
  have H1 := hid (new_any (some ⟨W.heap.size, 0, none⟩) 2 2 [248, 7] _ hl (by simp))
  have H2 := hid (fun B w h => rdNum_any B [248, 7] 0 9 w h)
  rw [show rdNum 9 [248, 7] 0 = (0, [248, 7], 3) by decide] at H2
  have H3 := hid (fun w => num_any none 0 0 [] 300 w (isBytes_nil w none 0 (Nat.zero_le _)) (by simp))
  rw [show numB (cl 300) = [249, 1, 44] by decide] at H3
  clear hl
  go_enter Try.func5, Try.ntmps5
  go_wp2_with fail
  refine H1.out.mono ?_
  rintro e w1 ⟨B, rfl, hB, hR, hb1⟩
  have hb1' := ((Below.refl W.heap.size W).alloc (Nat.le_refl _) (.cells #[.int .u8 248, .int .u8 7] 5)).trans (hb1.mono (by simp))
  clear hb1
  go_wp2_with fail
  refine (H2.out B _ hR).mono ?_
  rintro e w2 ⟨rfl, hR2, hO⟩
  have hb2 := hb1'.trans (hO.below W.heap.size (by simp at hB; omega) hb1'.size)
  clear hR hO hb1' H1 H2
  go_wp2_with fail
  refine (H3.out _).mono ?_
  rintro e w3 ⟨v, rfl, ho, hb3⟩
  obtain ⟨A, c, rfl, hs⟩ := own_bytes ho
  have hcv := convB hs
  rw [show str ([] ++ [249, 1, 44]) = ⟨#[249, 1, 44]⟩ from rfl, show ([] ++ [249, 1, 44] : List UInt8).length = 3 from rfl] at hcv
  have hR3 := hR2.below hb3
  have HE := hid (rdErr_any B _ _ _ hR3)
  have HB := hid (hb2.trans (hb3.mono hb2.size))
  clear ho hs hR2 hb3 hR3 hb2 H3
  go_wp2_with (go_at_call 18; refine HE.out.mono ?_; rintro e w' ⟨rfl, rfl⟩)
  go_ret
  exact ⟨rfl, HB.out⟩

set_option maxRecDepth 20000 in
set_option maxHeartbeats 2000000 in
theorem octetPuts_small (a : Option Addr) (cap : Nat) (l : List UInt8) (n : Int) (s : ByteArray) (W : World) (hb : IsBytes W a l.length cap l) (hl : l.length ≤ 1000) (hs : s.size ≤ 1000) :
    Calls Try.prog 3 #[.slice a l.length cap, .int .i64 n, .string s] W fun e w' => e = .returned (.bool true) ∧ Below W.heap.size W w' := by
  have hcv := convB hb
  have HN := hid (fun w (hw : Below W.heap.size W w) => num_any a l.length cap l n w (hb.below hw) (by omega))
  have HT := hid (fun w (hw : Below W.heap.size W w) => text_any a l.length cap l s w (hb.below hw) (by omega) (by omega))
  have HRN := hid (fun w => rnum_any n w)
  have HRT := hid (fun w => rtext_any s w (by omega))
  have HB := hid hb
  have hq : (str (numB (cl n))).size ≤ 8 := by rw [str_size]; exact (numB_length _ (cl_le n)).2
  have hq2 : (str (numB s.size)).size ≤ 8 := by rw [str_size]; exact (numB_length _ (by omega)).2
  have hp : (str l).size ≤ 1000 := by rw [str_size]; exact hl
  have e1 : str (l ++ numB (cl n)) = str l ++ str (numB (cl n)) := (str_app _ _).symm
  have e2 : str (l ++ numB s.size ++ s.data.toList) = str l ++ (str (numB s.size) ++ s) := by
    rw [List.append_assoc, ← str_app, ← str_app]
    rfl
  have h1 : (l.length : Int) ≤ 1000 := by omega
  have h2 : (s.size : Int) ≤ 1000 := by omega
  clear hb
  generalize str (numB (cl n)) = q1 at *
  generalize numB (cl n) = nb1 at *
  generalize hq3 : str (numB s.size) ++ s = q2 at *
  have hq4 : q2.size ≤ 1008 := by rw [← hq3]; simp [ByteArray.size_append]; omega
  clear hq3 hq2
  generalize numB s.size = nb2 at *
  have E1 := hid e1
  have E2 := hid e2
  clear e1 e2
  go_enter Try.func3, Try.ntmps3
  go_wp2_with fail
  refine (HN.out _ (Below.refl _ _)).mono ?_
  rintro e w1 ⟨v, rfl, ho1, hb1⟩
  obtain ⟨A1, c1, rfl, hs1⟩ := own_bytes ho1
  clear ho1
  generalize (l ++ nb1).length = m1 at *
  go_wp2_with fail
  refine (HT.out _ hb1).mono ?_
  rintro e w2 ⟨v, rfl, ho2, hb2⟩
  obtain ⟨A2, c2, rfl, hs2⟩ := own_bytes ho2
  generalize (l ++ nb2 ++ s.data.toList).length = m2 at *
  have hb12 := hb1.trans (hb2.mono hb1.size)
  have hs1' := hs1.below hb2
  have hs0 := HB.out.below hb12
  clear ho2 hs1 hb1 hb2 hcv
  have HB12 := hid hb12
  clear hb12
  have hS : ∀ U, Below w2.heap.size w2 U → (((convert 22 9 (.slice A1 m1 c1)).run Try.prog U = .ok (.string (str l ++ q1)) U ∧ (convert 22 9 (.slice A2 m2 c2)).run Try.prog U = .ok (.string (str l ++ q2)) U ∧ (convert 22 9 (.slice a l.length cap)).run Try.prog U = .ok (.string (str l)) U) ∧ Below w2.heap.size w2 U) := fun U h => ⟨⟨by rw [convB (hs1'.below h), E1.out], by rw [convB (hs2.below h), E2.out], convB (hs0.below h)⟩, h⟩
  clear hs0 hs1' hs2
  generalize str l = p at *
  have hz1 : ¬ (9223372036854775807 < p.size + q1.size) := by omega
  have hz2 : ¬ (9223372036854775807 < p.size + q2.size) := by omega
  go_upto_region 5 with (fail)
  go_region_held3 (fun U => ((convert 22 9 (.slice A1 m1 c1)).run Try.prog U = .ok (.string (p ++ q1)) U ∧ (convert 22 9 (.slice A2 m2 c2)).run Try.prog U = .ok (.string (p ++ q2)) U ∧ (convert 22 9 (.slice a l.length cap)).run Try.prog U = .ok (.string p) U) ∧ Below w2.heap.size w2 U)
    (exact hS _ (by repeat' (first | with_reducible exact Below.refl _ _ | with_reducible exact And.right (by assumption) | with_reducible assumption | with_reducible refine below_drew ?_)))
    (first
      | (go_at_call 8
         refine (HRN.out _).mono ?_
         rintro e u1 ⟨rfl, g1⟩
         have g1' : Below w2.heap.size w2 u1 := bel_trans (And.right (by assumption)) g1)
      | (go_at_call 9
         refine (HRT.out _).mono ?_
         rintro e u2 ⟨rfl, g2⟩
         have g2' : Below w2.heap.size w2 u2 := bel_trans (And.right (by assumption)) g2)
      | (go_at_call 5
         refine (works01_any _).mono ?_
         rintro e u3 ⟨rfl, g3⟩
         have g3' : Below w2.heap.size w2 u3 := bel_trans (And.right (by assumption)) g3))
  go_wp2
  go_ret
  exact ⟨rfl, HB12.out.trans ((show Below w2.heap.size w2 u3 from by assumption).mono HB12.out.size)⟩

theorem octetPuts_big (a : Option Addr) (len cap : Nat) (n : Int) (s : ByteArray) (W : World) (hc : len ≤ 9223372036854775807) (hs2 : s.size ≤ 9223372036854775807) (h : 1000 < len ∨ 1000 < s.size) :
    Calls Try.prog 3 #[.slice a len cap, .int .i64 n, .string s] W fun e w' => e = .returned (.bool true) ∧ Below W.heap.size W w' := by
  by_cases h1 : 1000 < len
  · have h1' : (1000 : Int) < len := by omega
    have hd : decide ((1000 : Int) < len) = true := by simp; omega
    clear h
    go_enter Try.func3, Try.ntmps3
    go_wp2_with (go_at_call 5; refine (works01_any _).mono ?_; rintro e w' ⟨rfl, hb⟩)
    go_ret
    exact ⟨rfl, hb⟩
  · have h1' : (len : Int) ≤ 1000 := by omega
    have h2' : (1000 : Int) < s.size := by omega
    have hd : decide ((1000 : Int) < len) = false := by simp; omega
    have hd2 : decide ((1000 : Int) < s.size) = true := by simp; omega
    clear h
    go_enter Try.func3, Try.ntmps3
    go_wp2_with (go_at_call 5; refine (works01_any _).mono ?_; rintro e w' ⟨rfl, hb⟩)
    go_ret
    exact ⟨rfl, hb⟩
theorem octetPuts_law (a : Option Addr) (len cap : Nat) (z : List Int) (n : Int) (s : ByteArray) (W : World) (h : IsRow .u8 W a len cap z) (hs : s.size ≤ maxLen) :
    Calls Try.prog 3 #[.slice a len cap, .int .i64 n, .string s] W fun e w' => e = .returned (.bool true) ∧ Below W.heap.size W w' := by
  obtain ⟨l, hb⟩ := IsBytes.of_row h
  obtain ⟨rfl, hlc, hcm⟩ := hb.len
  by_cases h1 : l.length ≤ 1000 ∧ s.size ≤ 1000
  · exact octetPuts_small a cap l n s W hb h1.1 h1.2
  · exact octetPuts_big a l.length cap n s W (by unfold maxLen at hcm; omega) (by unfold maxLen at hs; omega) (by omega)
end Go.Proofs.Ytdomnkoeihpdmaa
