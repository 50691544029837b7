/- The document's Parse, as a contract. -/
import Derived.Test.YtdjcfeglaiihgaaMsgE
namespace Go.Proofs.Ytdjcfeglaiihgaa
open Go.RowKit
set_option linter.unusedVariables false
set_option linter.unusedSimpArgs false

structure PRt (W w : World) (R B M : Nat) (l : List UInt8) (e k j t p : Int) : Prop where
  r : Mc w R 0 0 0 0
  b : RRdr w B l e
  m : Mc w M k j t p
  bel : Below W.heap.size W w
  hR : W.heap.size ≤ R
  hB : W.heap.size ≤ B
  hM : W.heap.size ≤ M
  rb : R ≠ B
  mb : M ≠ B
  rm : R ≠ M
theorem PRt.go {W w w' : World} {R B M : Nat} {l l2 : List UInt8} {e e2 k j t p : Int} (h : PRt W w R B M l e k j t p) (ho : Only B w w') (hr : RRdr w' B l2 e2) : PRt W w' R B M l2 e2 k j t p :=
  ⟨ho.block h.r h.rb, hr, ho.block h.m h.mb, h.bel.trans (ho.below W.heap.size h.hB h.bel.size), h.hR, h.hB, h.hM, h.rb, h.mb, h.rm⟩
theorem PRt.set2 {W w : World} {R B M : Nat} {l : List UInt8} {e k j t p : Int} (h : PRt W w R B M l e k j t p) (x : Int) : PRt W (w.setCell ⟨M, 2, none⟩ (.int .i64 x)) R B M l e k j x p :=
  ⟨(Below.heap_setCell _ _ _ _ h.rm).trans h.r, (Below.heap_setCell _ _ _ _ (fun e => h.mb e.symm)).trans h.b, heap_setCell_same w M 2 _ _ _ h.m, h.bel.setCell h.hM _, h.hR, h.hB, h.hM, h.rb, h.mb, h.rm⟩
theorem PRt.set3 {W w : World} {R B M : Nat} {l : List UInt8} {e k j t p : Int} (h : PRt W w R B M l e k j t p) (x : Int) : PRt W (w.setCell ⟨M, 3, none⟩ (.int .i64 x)) R B M l e k j t x :=
  ⟨(Below.heap_setCell _ _ _ _ h.rm).trans h.r, (Below.heap_setCell _ _ _ _ (fun e => h.mb e.symm)).trans h.b, heap_setCell_same w M 3 _ _ _ h.m, h.bel.setCell h.hM _, h.hR, h.hB, h.hM, h.rb, h.mb, h.rm⟩

/-- The state before the message is made. -/
structure PR0 (W w : World) (R B : Nat) (l : List UInt8) (e : Int) : Prop where
  r : Mc w R 0 0 0 0
  b : RRdr w B l e
  bel : Below W.heap.size W w
  hR : W.heap.size ≤ R
  hB : W.heap.size ≤ B
  rb : R ≠ B
theorem PR0.go {W w w' : World} {R B : Nat} {l l2 : List UInt8} {e e2 : Int} (h : PR0 W w R B l e) (ho : Only B w w') (hr : RRdr w' B l2 e2) : PR0 W w' R B l2 e2 :=
  ⟨ho.block h.r h.rb, hr, h.bel.trans (ho.below W.heap.size h.hB h.bel.size), h.hR, h.hB, h.rb⟩
theorem PR0.made {W w : World} {R B : Nat} {l : List UInt8} {e : Int} (h : PR0 W w R B l e) (k j : Int) : PRt W (w.alloc (.cells #[.int .i64 k, .int .i64 j, .int .i64 0, .int .i64 0] 24)) R B w.heap.size l e k j 0 0 :=
  ⟨(Below.heap_alloc _ _ _ (lt_of_block h.r)).trans h.r, (Below.heap_alloc _ _ _ (lt_of_block h.b)).trans h.b, heap_alloc_new _ _, h.bel.alloc h.bel.size _, h.hR, h.hB, h.bel.size, h.rb, fun e => by have := lt_of_block h.b; omega, fun e => by have := lt_of_block h.r; omega⟩

set_option maxRecDepth 20000 in
set_option maxHeartbeats 2000000 in
theorem rparse_any (l : List UInt8) (hl : l.length ≤ 1000) (W : World) :
    Calls Try.prog 14 #[.string (str l)] W fun x w' => x = .returned (.tuple #[pm l, .int .i64 (pe l)]) ∧ Below W.heap.size W w' := by
  have hk0 := takeS_max true 1 11 l 0
  have HP : Hid (pm l = if pe l = 0 then msgV (pa l).1 (pb l).1 (pc l).1 (pd l).1 else msgV 0 0 0 0) := hid rfl
  have hpa : Hid (pa l = takeS true 1 11 l 0) := hid rfl
  have hpb : Hid (pb l = takeS (hasB (pa l).1 1) 1 72057594037927935 (pa l).2.1 (pa l).2.2) := hid rfl
  have hpc : Hid (pc l = takeS (hasB (pa l).1 2) 0 15 (pb l).2.1 (pb l).2.2) := hid rfl
  have hpd : Hid (pd l = takeS (hasB (pa l).1 3) 1 9 (pc l).2.1 (pc l).2.2) := hid rfl
  have hpe : Hid (pe l = rdEnd (pd l).2.1 (pd l).2.2) := hid rfl
  have s1 : (pa l).2.1.length ≤ l.length := by rw [hpa.out]; exact takeS_short _ _ _ _ _
  have s2 : (pb l).2.1.length ≤ (pa l).2.1.length := by rw [hpb.out]; exact takeS_short _ _ _ _ _
  have s3 : (pc l).2.1.length ≤ (pb l).2.1.length := by rw [hpc.out]; exact takeS_short _ _ _ _ _
  rw [← hpa.out] at hk0
  have hk : (pa l).1 ≤ 11 := by omega
  clear hk0
  have HS := hid (And.intro s1 (And.intro s2 (And.intro s3 (And.intro hl hk))))
  clear s1 s2 s3 hl hk
  generalize pm l = vm at *
  generalize pe l = ve at *
  generalize pd l = vd at *
  generalize pc l = vc at *
  generalize pb l = vb at *
  generalize pa l = va at *
  obtain ⟨k, la, ea⟩ := va
  obtain ⟨j, lb, eb⟩ := vb
  obtain ⟨t, lc, ec⟩ := vc
  obtain ⟨p, ld, ed⟩ := vd
  simp only at *
  have hta : Hid (takeS true 1 11 l 0 = if ((rdNum 11 l 0).1 : Int) < 1 then ((rdNum 11 l 0).1, (rdNum 11 l 0).2.1, rdFail 3 (rdNum 11 l 0).2.2) else rdNum 11 l 0) := hid rfl
  go_enter Try.func14, Try.ntmps14
  go_upto_region 2 with (fail)
  refine at_world (fun w => PR0 W w W.heap.size (W.heap.size + 1) l 0) ⟨heap_first _ _ _, heap_second _ _ _, below2 _ _ _, Nat.le_refl _, by omega, by omega⟩ ?_
  rintro w1 K1
  have HN := hid (rrNum_any (W.heap.size + 1) l 0 11 w1 K1.b (by have := HS.out; omega))
  have HK1 := hid K1
  clear K1
  generalize hB : W.heap.size + 1 = B at *
  generalize rdNum 11 l 0 = v0 at *
  obtain ⟨k0, la0, ea0⟩ := v0
  simp only at *
  go_wp2_with fail
  refine HN.out.mono ?_
  rintro x w2 ⟨rfl, hR2, hO2⟩
  have HK2 := hid (HK1.out.go hO2 hR2)
  have HF := hid (rrFail_any B la0 ea0 3 w2 hR2)
  clear HK1 HN hR2 hO2
  obtain rfl : k = k0 := by
    have h := hpa.out
    rw [hta.out] at h
    split at h <;> cases h <;> rfl
  rcases Classical.em (k = 0) with h0 | h0
  case' inl =>
    have hd : (((k : Nat) : Int) == 0) = true := by simp [h0]
    rw [if_pos (by omega)] at hta
    rw [hta.out] at hpa
    obtain ⟨rfl, hea⟩ : la = la0 ∧ ea = rdFail 3 ea0 := by have := hpa.out; simp at this; exact this
    rw [← hea] at HF
    clear hta hpa h0
    go_wp2_with fail
    refine HF.out.mono ?_
    rintro x w3 ⟨⟨v, rfl⟩, hR3, hO3⟩
    have HK3 := hid (HK2.out.go hO3 hR3)
    clear HK2 hR3 hO3 HF hea
    go_upto_region 5 with (fail)
    refine at_world (fun w => PR0 W w W.heap.size B la ea) HK3.out ?_
    clear HK3
  case' inr =>
    have hd : (((k : Nat) : Int) == 0) = false := by simp [h0]
    rw [if_neg (by omega)] at hta
    rw [hta.out] at hpa
    obtain ⟨rfl, rfl⟩ : la = la0 ∧ ea = ea0 := by have := hpa.out; simp at this; exact this
    clear hta hpa h0 HF
    go_upto_region 5 with (fail)
    refine at_world (fun w => PR0 W w W.heap.size B la ea) HK2.out ?_
    clear HK2
  all_goals
    rintro w4 K4
    have HT := hid (field_any B k 1 1 72057594037927935 la ea w4 K4.b (by have := HS.out; omega) HS.out.2.2.2.2 (.inl rfl))
    rw [← hpb.out] at HT
    simp only at HT
    have HK4 := hid K4
    clear K4
    go_wp2_with fail
    refine HT.out.mono ?_
    rintro x w5 ⟨rfl, hR5, hO5⟩
    have K6 := (HK4.out.go hO5 hR5).made k j
    clear HK4 hR5 hO5 HT hpb
    go_upto_region 6 with (fail)
    generalize w5.heap.size = M at K6 ⊢
    refine at_world (fun w => PRt W w W.heap.size B M lb eb k j 0 0) K6 ?_
    clear K6
    rintro w6 K6
    have HT := hid (field_any B k 2 0 15 lb eb w6 K6.b (by have := HS.out; omega) HS.out.2.2.2.2 (.inr (.inl rfl)))
    rw [← hpc.out] at HT
    simp only at HT
    have HK6 := hid K6
    clear K6
    go_wp2_with fail
    refine HT.out.mono ?_
    rintro x w8 ⟨rfl, hR8, hO8⟩
    have HK8 := hid (HK6.out.go hO8 hR8)
    clear HK6 hR8 hO8 HT hpc
    obtain ⟨⟨p0, p1, p2, p3⟩, f0, f1, f2, f3⟩ := four_cells HK8.out.m
    go_upto_region 7 with (fail)
    refine at_world (fun w => PRt W w W.heap.size B M lc ec k j t 0) (HK8.out.set2 _) ?_
    clear HK8 p0 p1 p2 p3 f0 f1 f2 f3
    rintro w9 K9
    have HT := hid (field_any B k 3 1 9 lc ec w9 K9.b (by have := HS.out; omega) HS.out.2.2.2.2 (.inr (.inr rfl)))
    rw [← hpd.out] at HT
    simp only at HT
    have HK9 := hid K9
    clear K9
    go_wp2_with fail
    refine HT.out.mono ?_
    rintro x w10 ⟨rfl, hR10, hO10⟩
    have HK10 := hid (HK9.out.go hO10 hR10)
    clear HK9 hR10 hO10 HT hpd
    obtain ⟨⟨p0, p1, p2, p3⟩, f0, f1, f2, f3⟩ := four_cells HK10.out.m
    go_upto_region 8 with (fail)
    refine at_world (fun w => PRt W w W.heap.size B M ld ed k j t p) (HK10.out.set3 _) ?_
    clear HK10 p0 p1 p2 p3 f0 f1 f2 f3 HS
    rintro w11 K11
    have HE := hid (rrEnd_any B ld ed w11 K11.b)
    rw [← hpe.out] at HE
    obtain ⟨⟨p0, p1, p2, p3⟩, f0, f1, f2, f3⟩ := four_cells K11.m
    obtain ⟨⟨q0, q1, q2, q3⟩, g0, g1, g2, g3⟩ := four_cells K11.r
    have HK11 := hid K11
    clear K11
    by_cases he : ve = 0
    · subst he
      rw [if_pos rfl] at HP
      go_wp2_with (go_at_call 41; refine HE.out.mono ?_; rintro x w' ⟨rfl, rfl⟩)
      obtain ⟨⟨r0, r1, r2, r3⟩, _⟩ := four_cells (set_four HK11.out.r (.int .i64 (k : Nat)) (.int .i64 (j : Nat)) (.int .i64 (t : Nat)) (.int .i64 (p : Nat)))
      have hbe := (((HK11.out.bel.setCell (p := ⟨W.heap.size, 0, none⟩) (Nat.le_refl _) (.int .i64 (k : Nat))).setCell (p := ⟨W.heap.size, 1, none⟩) (Nat.le_refl _) (.int .i64 (j : Nat))).setCell (p := ⟨W.heap.size, 2, none⟩) (Nat.le_refl _) (.int .i64 (t : Nat))).setCell (p := ⟨W.heap.size, 3, none⟩) (Nat.le_refl _) (.int .i64 (p : Nat))
      rw [HP.out]
      refine bodyPost_ret (v := .tuple #[msgV k j t p, .int .i64 0]) (by simp [results, Try.results14, go_sem, r0, r1, r2, r3, msgV]) rfl ⟨rfl, hbe⟩
    · rw [if_neg he] at HP
      have hne : (ve != 0) = true := by simp [he]
      go_wp2_with (go_at_call 41; refine HE.out.mono ?_; rintro x w' ⟨rfl, rfl⟩)
      obtain ⟨⟨r0, r1, r2, r3⟩, _⟩ := four_cells (set_four HK11.out.r (.int .i64 (0)) (.int .i64 (0)) (.int .i64 (0)) (.int .i64 (0)))
      have hbe := (((HK11.out.bel.setCell (p := ⟨W.heap.size, 0, none⟩) (Nat.le_refl _) (.int .i64 (0))).setCell (p := ⟨W.heap.size, 1, none⟩) (Nat.le_refl _) (.int .i64 (0))).setCell (p := ⟨W.heap.size, 2, none⟩) (Nat.le_refl _) (.int .i64 (0))).setCell (p := ⟨W.heap.size, 3, none⟩) (Nat.le_refl _) (.int .i64 (0))
      rw [HP.out]
      refine bodyPost_ret (v := .tuple #[msgV 0 0 0 0, .int .i64 ve]) (by simp [results, Try.results14, go_sem, r0, r1, r2, r3, msgV]) rfl ⟨rfl, hbe⟩
end Go.Proofs.Ytdjcfeglaiihgaa
