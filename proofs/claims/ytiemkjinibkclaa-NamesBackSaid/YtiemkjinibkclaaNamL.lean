/- The page's example; NamesSets. -/
import Derived.Test.YtiemkjinibkclaaNamD
import Derived.Test.YtiemkjinibkclaaNamE
import Derived.Test.YtiemkjinibkclaaStrL
namespace Go.Proofs.Ytiemkjinibkclaa
open Go.RowKit
set_option linter.unusedVariables false
set_option linter.unusedSimpArgs false

theorem below_drewN {n k : Nat} {W w : World} (h : Below n W w) : Below n W (w.drewN k) := ⟨h.os, h.tape, h.output, h.size, h.block⟩

theorem wf_u64n {n : Int} (h : (Lit.int .u64 n).wf = true) : ∃ s : Nat, n = (s : Int) ∧ s < 18446744073709551616 := by
  simp [Lit.wf, IntKind.min, IntKind.max, IntKind.signed, IntKind.bits] at h
  exact ⟨n.toNat, by omega, by omega⟩
def gpu : List UInt8 := [103, 112, 117]
def ssd : List UInt8 := [115, 115, 100]
def tpu : List UInt8 := [116, 112, 117]
theorem ex1 : setOut [gpu, ssd] [ssd] = (2, -1, 0) := by
  unfold setOut setS okN placeJ
  decide +kernel
theorem ex2 : setOut [gpu, ssd] [ssd, tpu] = (0, 1, 5) := by
  unfold setOut setS okN placeJ
  decide +kernel

set_option maxRecDepth 20000 in
set_option maxHeartbeats 2000000 in
theorem works05_any (W : World) : Calls Try.prog 10 #[] W fun e w' => e = .returned (.bool true) ∧ Below W.heap.size W w' := by
  have S1 : Hid (∀ w, Below (W.heap.size + 1) (W.alloc (.cells #[.string ⟨#[103, 112, 117]⟩, .string ⟨#[115, 115, 100]⟩] 9)) w → Sl w 1 (some ⟨W.heap.size, 0, none⟩) 2 2 (scells [gpu, ssd])) := hid (fun w hw => by
    have h := Sl.lit W 9 1 2 #[.string ⟨#[103, 112, 117]⟩, .string ⟨#[115, 115, 100]⟩] rfl (by unfold maxLen; omega)
    exact Sl.below h (by rw [World.size_alloc]; exact hw))
  have S2 : Hid (∀ (w : World) (n : Nat), w.heap.size = n → Sl (w.alloc (.cells #[.string ⟨#[115, 115, 100]⟩] 9)) 1 (some ⟨n, 0, none⟩) 1 1 (scells [ssd])) := hid (fun w n hn => by subst hn; exact Sl.lit w 9 1 1 #[.string ⟨#[115, 115, 100]⟩] rfl (by unfold maxLen; omega))
  have S3 : Hid (∀ (w : World) (n : Nat), w.heap.size = n → Sl (w.alloc (.cells #[.string ⟨#[115, 115, 100]⟩, .string ⟨#[116, 112, 117]⟩] 9)) 1 (some ⟨n, 0, none⟩) 2 2 (scells [ssd, tpu])) := hid (fun w n hn => by subst hn; exact Sl.lit w 9 1 2 #[.string ⟨#[115, 115, 100]⟩, .string ⟨#[116, 112, 117]⟩] rfl (by unfold maxLen; omega))
  have HC1 := hid (fun A B w h h2 => set_any A B 2 2 1 1 [gpu, ssd] [ssd] w h h2)
  have HC2 := hid (fun A B w h h2 => set_any A B 2 2 2 2 [gpu, ssd] [ssd, tpu] w h h2)
  rw [ex1] at HC1
  rw [ex2] at HC2
  go_enter Try.func10, Try.ntmps10
  go_wp2_with fail
  refine (HC1.out _ _ _ (S1.out _ ((Below.refl _ _).alloc (by simp only [World.size_alloc]; omega) _)) (S2.out _ _ (by simp only [World.size_alloc]))).mono ?_
  rintro e w2 ⟨rfl, hb2⟩
  have HB2 : Hid (Below W.heap.size W w2) := hid ((((Below.refl W.heap.size W).alloc (Nat.le_refl _) _).alloc (by simp only [World.size_alloc]; omega) _).trans (hb2.mono (by simp only [World.size_alloc]; omega)))
  have HS : Hid (Below (W.heap.size + 1) (W.alloc (.cells #[.string ⟨#[103, 112, 117]⟩, .string ⟨#[115, 115, 100]⟩] 9)) w2) := hid (((Below.refl _ _).alloc (by simp only [World.size_alloc]; omega) _).trans (hb2.mono (by simp only [World.size_alloc]; omega)))
  clear hb2
  go_wp2_with fail
  refine (HC2.out _ _ _ (S1.out _ (HS.out.alloc (by have := HS.out.size; simp only [World.size_alloc] at this; omega) _)) (S3.out _ _ rfl)).mono ?_
  rintro e w3 ⟨rfl, hb3⟩
  have HB3 : Hid (Below W.heap.size W w3) := hid ((HB2.out.alloc HB2.out.size _).trans (hb3.mono (by have := HB2.out.size; simp only [World.size_alloc]; omega)))
  clear hb3
  go_wp2
  go_ret
  exact ⟨rfl, HB3.out⟩

set_option maxHeartbeats 1000000 in
theorem namesSets_small (A B : Option Addr) (cap cap2 : Nat) (l m : List (List UInt8)) (s : Nat) (hs : s < 18446744073709551616) (W : World) (h : Sl W 1 A l.length cap (scells l)) (h2 : Sl W 1 B m.length cap2 (scells m))
    (hw : ∀ s ∈ l, s.length ≤ maxLen) (hw2 : ∀ s ∈ m, s.length ≤ maxLen) (hl : longB l 80 100 = false) (hl2 : longB m 80 100 = false) :
    Calls Try.prog 3 #[.slice A l.length cap, .slice B m.length cap2, .int .u64 s] W fun e w' => e = .returned (.bool true) ∧ Below W.heap.size W w' := by
  have hlen : l.length ≤ 100 := by have := (longB_no hl).2; omega
  have HL := hid (long_any A l.length cap l 80 100 W h hw)
  have HL2 := hid (long_any B m.length cap2 m 80 100 W h2 hw2)
  rw [hl] at HL
  rw [hl2] at HL2
  have HS := hid (set_any A B l.length cap m.length cap2 l m W h h2)
  have HR := hid (fun w (hw : Below W.heap.size W w) => rset_any A B l.length cap m.length cap2 l m w (h.below hw) (h2.below hw))
  have HT := hid (fun w (hw : Below W.heap.size W w) => tell_any A l.length cap l s hs w (h.below hw) hlen)
  have HRT := hid (fun w (hw : Below W.heap.size W w) => rtell_any A l.length cap l s hs w (h.below hw) hlen)
  have htl : (tellS l s).length ≤ 100 := Nat.le_trans (tellN_len l s _) hlen
  clear h h2 hw hw2 hl hl2
  obtain ⟨x, y, z⟩ := setOut l m
  go_enter Try.func3, Try.ntmps3
  go_wp2_with fail
  refine HL.out.mono ?_
  rintro e w1 ⟨rfl, rfl⟩
  go_wp2_with fail
  refine HL2.out.mono ?_
  rintro e w1 ⟨rfl, rfl⟩
  go_wp2_with fail
  refine HS.out.mono ?_
  rintro e w1 ⟨rfl, hb1⟩
  have HB1 := hid hb1
  clear hb1 HL HL2 HS
  go_wp2_with fail
  refine (HR.out _ HB1.out).mono ?_
  rintro e w1 ⟨rfl, rfl⟩
  go_wp2_with fail
  refine (HT.out _ HB1.out).mono ?_
  rintro e w2 ⟨A1, c1, rfl, ho1, hb2⟩
  have HB2 := hid (HB1.out.trans (hb2.mono HB1.out.size))
  have HO1 := hid ho1
  clear ho1 hb2 HT HR
  go_wp2_with fail
  refine (HRT.out _ HB2.out).mono ?_
  rintro e w3 ⟨A2, c2, rfl, ho2, hb3⟩
  have HQ := hid (same03 A1 A2 (tellS l s).length c1 (tellS l s).length c2 (tellS l s) (tellS l s) w3 (sl_own (own_keep HO1.out hb3)) (sl_own ho2) (by omega) (by omega))
  rw [show (tellS l s == tellS l s) = true by simp] at HQ
  have HB3 := hid (HB2.out.trans (hb3.mono HB2.out.size))
  clear ho2 hb3 HRT HO1 HB2 HB1
  go_wp2_with fail
  refine HQ.out.mono ?_
  rintro e w4 ⟨rfl, q, rfl⟩
  have HB4 := hid (below_drewN (k := q) HB3.out)
  clear HQ HB3
  go_wp2_with fail
  refine (works05_any _).mono ?_
  rintro e w5 ⟨rfl, hb5⟩
  have HB5 := hid (HB4.out.trans (hb5.mono HB4.out.size))
  clear hb5
  go_wp2
  go_ret
  exact ⟨rfl, HB5.out⟩

theorem namesSets_law (A B : Option Addr) (len cap len2 cap2 : Nat) (z z2 : List ByteArray) (s : Int) (W : World) (h : IsTexts W A len cap z) (h2 : IsTexts W B len2 cap2 z2) (hs : (Lit.int .u64 s).wf = true) :
    Calls Try.prog 3 #[.slice A len cap, .slice B len2 cap2, .int .u64 s] W fun e w' => e = .returned (.bool true) ∧ Below W.heap.size W w' := by
  obtain ⟨l, hA, rfl, hw⟩ := Sl.of_texts h
  obtain ⟨m, hB, rfl, hw2⟩ := Sl.of_texts h2
  obtain ⟨n, rfl, hsn⟩ := wf_u64n hs
  have HL := hid (long_any A l.length cap l 80 100 W hA hw)
  have HL2 := hid (long_any B m.length cap2 m 80 100 W hB hw2)
  cases hb : longB l 80 100 with
  | false =>
    cases hb2 : longB m 80 100 with
    | false => exact namesSets_small A B cap cap2 l m n hsn W hA hB hw hw2 hb hb2
    | true =>
      rw [hb] at HL
      rw [hb2] at HL2
      clear hA hB hw hw2 hb hb2 h h2 hs hsn
      go_enter Try.func3, Try.ntmps3
      go_wp2_with fail
      refine HL.out.mono ?_
      rintro e w1 ⟨rfl, rfl⟩
      go_wp2_with fail
      refine HL2.out.mono ?_
      rintro e w1 ⟨rfl, rfl⟩
      go_wp2_with fail
      refine (works05_any _).mono ?_
      rintro e w5 ⟨rfl, hb5⟩
      go_wp2
      go_ret
      exact ⟨rfl, hb5⟩
  | true =>
    rw [hb] at HL
    clear hA hB hw hw2 hb h h2 hs hsn HL2
    go_enter Try.func3, Try.ntmps3
    go_wp2_with fail
    refine HL.out.mono ?_
    rintro e w1 ⟨rfl, rfl⟩
    go_wp2_with fail
    refine (works05_any _).mono ?_
    rintro e w5 ⟨rfl, hb5⟩
    go_wp2
    go_ret
    exact ⟨rfl, hb5⟩
end Go.Proofs.Ytiemkjinibkclaa
