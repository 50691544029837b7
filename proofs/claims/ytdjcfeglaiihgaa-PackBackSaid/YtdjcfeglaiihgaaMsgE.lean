/- msg.Parse, as a contract. -/
import Derived.Test.YtdjcfeglaiihgaaMsgD
namespace Go.Proofs.Ytdjcfeglaiihgaa
open Go.RowKit
set_option linter.unusedVariables false
set_option linter.unusedSimpArgs false

def pa (l : List UInt8) : Nat × List UInt8 × Int := takeS true 1 11 l 0
def pb (l : List UInt8) : Nat × List UInt8 × Int := takeS (hasB (pa l).1 1) 1 72057594037927935 (pa l).2.1 (pa l).2.2
def pc (l : List UInt8) : Nat × List UInt8 × Int := takeS (hasB (pa l).1 2) 0 15 (pb l).2.1 (pb l).2.2
def pd (l : List UInt8) : Nat × List UInt8 × Int := takeS (hasB (pa l).1 3) 1 9 (pc l).2.1 (pc l).2.2
def pe (l : List UInt8) : Int := rdEnd (pd l).2.1 (pd l).2.2
def msgV (k j t p : Int) : Value := .agg #[.int .i64 k, .int .i64 j, .int .i64 t, .int .i64 p]
/-- The message that is parsed. -/
def pm (l : List UInt8) : Value := if pe l = 0 then msgV (pa l).1 (pb l).1 (pc l).1 (pd l).1 else msgV 0 0 0 0

def Mc (w : World) (M : Nat) (k j t p : Int) : Prop := w.heap[M]? = some (.cells #[.int .i64 k, .int .i64 j, .int .i64 t, .int .i64 p] 24 (0, 0))
theorem isBytes_set4 {w : World} {a : Option Addr} {n cap M : Nat} {l : List UInt8} {k j t p : Int} (h : IsBytes w a n cap l) (hM : Mc w M k j t p) (i : Nat) (v : Value) : IsBytes (w.setCell ⟨M, i, none⟩ v) a n cap l := by
  refine ⟨h.1, h.2.1, h.2.2.1, fun h0 => ?_⟩
  obtain ⟨b, off, rfl, hc⟩ := h.2.2.2 h0
  have hne : b ≠ M := by
    rintro rfl
    have h1 := hc 0 h0
    rw [Nat.add_zero, cell_of_row w b off _ 24 (0, 0) hM] at h1
    rw [List.getElem?_eq_getElem h0] at h1
    simp only [bcells, List.getElem_map] at h1
    match off, h1 with
    | 0, h1 => simp at h1
    | 1, h1 => simp at h1
    | 2, h1 => simp at h1
    | 3, h1 => simp at h1
    | m + 4, h1 => simp at h1
  refine ⟨b, off, rfl, fun i hi => ?_⟩
  rw [World.cell?_of_block (Below.heap_setCell _ _ _ _ hne), hc i hi]
theorem RdrAt.set4 {w : World} {B M : Nat} {l : List UInt8} {e k j t p : Int} (h : RdrAt w B l e) (hM : Mc w M k j t p) (hne : B ≠ M) (i : Nat) (v : Value) : RdrAt (w.setCell ⟨M, i, none⟩ v) B l e := by
  obtain ⟨a, cap, h1, h2⟩ := h
  exact ⟨a, cap, (Below.heap_setCell _ _ _ _ hne).trans h1, isBytes_set4 h2 hM i v⟩

/-- What a walk of Parse holds. -/
structure PSt (W w : World) (R B M : Nat) (l : List UInt8) (e k j t p : Int) : Prop where
  r : Mc w R 0 0 0 0
  b : RdrAt w B l e
  m : Mc w M k j t p
  bel : Below W.heap.size W w
  hR : W.heap.size ≤ R
  hB : W.heap.size ≤ B
  hM : W.heap.size ≤ M
  rb : R ≠ B
  mb : M ≠ B
  rm : R ≠ M
theorem PSt.go {W w w' : World} {R B M : Nat} {l l2 : List UInt8} {e e2 k j t p : Int} (h : PSt W w R B M l e k j t p) (ho : Only B w w') (hr : RdrAt w' B l2 e2) : PSt W w' R B M l2 e2 k j t p :=
  ⟨ho.block h.r h.rb, hr, ho.block h.m h.mb, h.bel.trans (ho.below W.heap.size h.hB h.bel.size), h.hR, h.hB, h.hM, h.rb, h.mb, h.rm⟩
theorem PSt.set1 {W w : World} {R B M : Nat} {l : List UInt8} {e k j t p : Int} (h : PSt W w R B M l e k j t p) (x : Int) : PSt W (w.setCell ⟨M, 1, none⟩ (.int .i64 x)) R B M l e k x t p :=
  ⟨(Below.heap_setCell _ _ _ _ h.rm).trans h.r, h.b.set4 h.m (fun e => h.mb e.symm) _ _, heap_setCell_same w M 1 _ _ _ h.m, h.bel.setCell h.hM _, h.hR, h.hB, h.hM, h.rb, h.mb, h.rm⟩
theorem PSt.set2 {W w : World} {R B M : Nat} {l : List UInt8} {e k j t p : Int} (h : PSt W w R B M l e k j t p) (x : Int) : PSt W (w.setCell ⟨M, 2, none⟩ (.int .i64 x)) R B M l e k j x p :=
  ⟨(Below.heap_setCell _ _ _ _ h.rm).trans h.r, h.b.set4 h.m (fun e => h.mb e.symm) _ _, heap_setCell_same w M 2 _ _ _ h.m, h.bel.setCell h.hM _, h.hR, h.hB, h.hM, h.rb, h.mb, h.rm⟩
theorem PSt.set3 {W w : World} {R B M : Nat} {l : List UInt8} {e k j t p : Int} (h : PSt W w R B M l e k j t p) (x : Int) : PSt W (w.setCell ⟨M, 3, none⟩ (.int .i64 x)) R B M l e k j t x :=
  ⟨(Below.heap_setCell _ _ _ _ h.rm).trans h.r, h.b.set4 h.m (fun e => h.mb e.symm) _ _, heap_setCell_same w M 3 _ _ _ h.m, h.bel.setCell h.hM _, h.hR, h.hB, h.hM, h.rb, h.mb, h.rm⟩

theorem fld_has (k : Nat) (hk : k ≤ 11) : ((bits .and .i64 (fld k : Nat) 1 == 0) = !hasB k 1) ∧ ((bits .and .i64 (fld k : Nat) 2 == 0) = !hasB k 2) ∧ ((bits .and .i64 (fld k : Nat) 4 == 0) = !hasB k 3) := by
  rcases (by omega : k = 0 ∨ k = 1 ∨ k = 2 ∨ k = 3 ∨ k = 4 ∨ k = 5 ∨ k = 6 ∨ k = 7 ∨ k = 8 ∨ k = 9 ∨ k = 10 ∨ k = 11) with rfl | rfl | rfl | rfl | rfl | rfl | rfl | rfl | rfl | rfl | rfl | rfl
  all_goals decide +kernel

set_option maxRecDepth 20000 in
set_option maxHeartbeats 2000000 in
theorem parse_any (s : ByteArray) (hs : s.size ≤ 1000) (W : World) :
    Calls Try.prog 13 #[.string s] W fun x w' => x = .returned (.tuple #[pm s.data.toList, .int .i64 (pe s.data.toList)]) ∧ Below W.heap.size W w' := by
  have hk0 := takeS_max true 1 11 s.data.toList 0
  have HP : Hid (pm s.data.toList = if pe s.data.toList = 0 then msgV (pa s.data.toList).1 (pb s.data.toList).1 (pc s.data.toList).1 (pd s.data.toList).1 else msgV 0 0 0 0) := hid rfl
  have hl : s.data.toList.length = s.size := by rw [Array.length_toList]; rfl
  have hpa : Hid (pa s.data.toList = takeS true 1 11 s.data.toList 0) := hid rfl
  have hpb : Hid (pb s.data.toList = takeS (hasB (pa s.data.toList).1 1) 1 72057594037927935 (pa s.data.toList).2.1 (pa s.data.toList).2.2) := hid rfl
  have hpc : Hid (pc s.data.toList = takeS (hasB (pa s.data.toList).1 2) 0 15 (pb s.data.toList).2.1 (pb s.data.toList).2.2) := hid rfl
  have hpd : Hid (pd s.data.toList = takeS (hasB (pa s.data.toList).1 3) 1 9 (pc s.data.toList).2.1 (pc s.data.toList).2.2) := hid rfl
  have hpe : Hid (pe s.data.toList = rdEnd (pd s.data.toList).2.1 (pd s.data.toList).2.2) := hid rfl
  rw [← hpa.out] at hk0
  have hk : (pa s.data.toList).1 ≤ 11 := by omega
  clear hk0
  generalize pm s.data.toList = vm at *
  generalize pe s.data.toList = ve at *
  generalize pd s.data.toList = vd at *
  generalize pc s.data.toList = vc at *
  generalize pb s.data.toList = vb at *
  generalize pa s.data.toList = va at *
  obtain ⟨k, la, ea⟩ := va
  obtain ⟨j, lb, eb⟩ := vb
  obtain ⟨t, lc, ec⟩ := vc
  obtain ⟨p, ld, ed⟩ := vd
  simp only at *
  have HF := hid (fields_any k hk)
  obtain ⟨hb1, hb2, hb3⟩ := fld_has k hk
  have Hb := hid (And.intro hb1 (And.intro hb2 hb3))
  clear hb1 hb2 hb3 hk
  generalize fld k = f at *
  go_enter Try.func13, Try.ntmps13
  go_upto_region 1 with (fail)
  refine at_world (fun w => Mc w W.heap.size 0 0 0 0 ∧ Below W.heap.size W w) ⟨heap_alloc_new _ _, (Below.refl _ _).alloc (Nat.le_refl _) _⟩ ?_
  rintro w1 ⟨hR1, hB1⟩
  obtain ⟨w2, A, c, hcv, hby, hb2⟩ := bytes_of w1 s (by omega)
  have HN := hid (new_any A s.size c s.data.toList w2 hby (by omega))
  have HR2 := hid (show Mc w2 W.heap.size 0 0 0 0 from keep0 hR1 hb2)
  have HB2 := hid (hB1.trans (hb2.mono hB1.size))
  clear hR1 hB1 hby hb2
  go_wp2_with fail
  refine HN.out.mono ?_
  rintro x w3 ⟨B, rfl, hB, hR3, hb3⟩
  have HK3 : Hid (Mc w3 W.heap.size 0 0 0 0 ∧ Below W.heap.size W w3 ∧ W.heap.size < B) := hid ⟨keep0 HR2.out hb3, HB2.out.trans (hb3.mono HB2.out.size), Nat.lt_of_lt_of_le (lt_of_block HR2.out) hB⟩
  have HT := hid (take_any B 1 1 11 _ 0 w3 hR3 true rfl)
  rw [← hpa.out] at HT
  simp only at HT
  clear hb3 hR3 HN HR2 HB2 hcv hpa hB
  go_wp2_with fail
  refine HT.out.mono ?_
  rintro x w4 ⟨rfl, hR4, hO4⟩
  have K4 : Hid (PSt W (w4.alloc (.cells #[.int .i64 k, .int .i64 0, .int .i64 0, .int .i64 0] 24)) W.heap.size B w4.heap.size la ea k 0 0 0) := by
    have h1 := hO4.block HK3.out.1 (by have := HK3.out.2.2; omega)
    have h2 := HK3.out.2.1.trans (hO4.below W.heap.size (Nat.le_of_lt HK3.out.2.2) HK3.out.2.1.size)
    have h3 : B < w4.heap.size := by obtain ⟨_, _, h, _⟩ := hR4; exact lt_of_block h
    refine hid ⟨(Below.heap_alloc _ _ _ (lt_of_block h1)).trans h1, hR4.below ((Below.refl _ _).alloc (Nat.le_refl _) _), heap_alloc_new _ _, h2.alloc h2.size _, Nat.le_refl _, Nat.le_of_lt HK3.out.2.2, h2.size, ?_, ?_, ?_⟩
    · have := HK3.out.2.2; omega
    · omega
    · have := lt_of_block h1; omega
  clear hR4 hO4 HT HK3
  go_upto_region 3 with (fail)
  have K4' := K4.out
  clear K4
  generalize w4.heap.size = M at K4' ⊢
  refine at_world (fun w => PSt W w W.heap.size B M la ea k 0 0 0) K4' ?_
  clear K4'
  rintro w5 K5
  obtain ⟨⟨p0, p1, p2, p3⟩, f0, f1, f2, f3⟩ := four_cells K5.m
  have HT := hid (take_any B (bits .and .i64 (f : Nat) 1) 1 72057594037927935 _ _ w5 K5.b _ Hb.out.1)
  rw [← hpb.out] at HT
  simp only at HT
  have HK5 := hid K5
  clear K5
  go_wp2_with (go_at_call 36; refine (HF.out _).mono ?_; rintro x w' ⟨rfl, rfl⟩)
  refine HT.out.mono ?_
  rintro x w6 ⟨rfl, hR6, hO6⟩
  have HK6 := hid (HK5.out.go hO6 hR6)
  clear HK5 hR6 hO6 HT HF hpb p0 p1 p2 p3 f0 f1 f2 f3
  obtain ⟨⟨p0, p1, p2, p3⟩, f0, f1, f2, f3⟩ := four_cells HK6.out.m
  go_upto_region 5 with (fail)
  refine at_world (fun w => PSt W w W.heap.size B M lb eb k j 0 0) (HK6.out.set1 _) ?_
  clear HK6 p0 p1 p2 p3 f0 f1 f2 f3
  rintro w7 K7
  have HT := hid (take_any B (bits .and .i64 (f : Nat) 2) 0 15 _ _ w7 K7.b _ Hb.out.2.1)
  rw [← hpc.out] at HT
  simp only at HT
  have HK7 := hid K7
  clear K7
  go_wp2_with fail
  refine HT.out.mono ?_
  rintro x w8 ⟨rfl, hR8, hO8⟩
  have HK8 := hid (HK7.out.go hO8 hR8)
  clear HK7 hR8 hO8 HT hpc
  obtain ⟨⟨p0, p1, p2, p3⟩, f0, f1, f2, f3⟩ := four_cells HK8.out.m
  go_upto_region 6 with (fail)
  refine at_world (fun w => PSt W w W.heap.size B M lc ec k j t 0) (HK8.out.set2 _) ?_
  clear HK8 p0 p1 p2 p3 f0 f1 f2 f3
  rintro w9 K9
  have HT := hid (take_any B (bits .and .i64 (f : Nat) 4) 1 9 _ _ w9 K9.b _ Hb.out.2.2)
  rw [← hpd.out] at HT
  simp only at HT
  have HK9 := hid K9
  clear K9
  go_wp2_with fail
  refine HT.out.mono ?_
  rintro x w10 ⟨rfl, hR10, hO10⟩
  have HK10 := hid (HK9.out.go hO10 hR10)
  clear HK9 hR10 hO10 HT hpd
  obtain ⟨⟨p0, p1, p2, p3⟩, f0, f1, f2, f3⟩ := four_cells HK10.out.m
  go_upto_region 7 with (fail)
  refine at_world (fun w => PSt W w W.heap.size B M ld ed k j t p) (HK10.out.set3 _) ?_
  clear HK10 p0 p1 p2 p3 f0 f1 f2 f3 Hb
  rintro w11 K11
  have HE := hid (rdEnd_any B ld ed w11 K11.b)
  rw [← hpe.out] at HE
  obtain ⟨⟨p0, p1, p2, p3⟩, f0, f1, f2, f3⟩ := four_cells K11.m
  obtain ⟨⟨q0, q1, q2, q3⟩, g0, g1, g2, g3⟩ := four_cells K11.r
  have HK11 := hid K11
  clear K11
  by_cases he : ve = 0
  · subst he
    rw [if_pos rfl] at HP
    go_wp2_with (go_at_call 37; refine HE.out.mono ?_; rintro x w' ⟨rfl, rfl⟩)
    obtain ⟨⟨r0, r1, r2, r3⟩, _⟩ := four_cells (set_four HK11.out.r (.int .i64 (k : Nat)) (.int .i64 (j : Nat)) (.int .i64 (t : Nat)) (.int .i64 (p : Nat)))
    have hbe := (((HK11.out.bel.setCell (p := ⟨W.heap.size, 0, none⟩) (Nat.le_refl _) (.int .i64 (k : Nat))).setCell (p := ⟨W.heap.size, 1, none⟩) (Nat.le_refl _) (.int .i64 (j : Nat))).setCell (p := ⟨W.heap.size, 2, none⟩) (Nat.le_refl _) (.int .i64 (t : Nat))).setCell (p := ⟨W.heap.size, 3, none⟩) (Nat.le_refl _) (.int .i64 (p : Nat))
    rw [HP.out]
    refine bodyPost_ret (v := .tuple #[msgV k j t p, .int .i64 0]) (by simp [results, Try.results13, go_sem, r0, r1, r2, r3, msgV]) rfl ⟨rfl, hbe⟩
  · rw [if_neg he] at HP
    have hne : (ve != 0) = true := by simp [he]
    go_wp2_with (go_at_call 37; refine HE.out.mono ?_; rintro x w' ⟨rfl, rfl⟩)
    obtain ⟨⟨r0, r1, r2, r3⟩, _⟩ := four_cells (set_four HK11.out.r (.int .i64 (0)) (.int .i64 (0)) (.int .i64 (0)) (.int .i64 (0)))
    have hbe := (((HK11.out.bel.setCell (p := ⟨W.heap.size, 0, none⟩) (Nat.le_refl _) (.int .i64 (0))).setCell (p := ⟨W.heap.size, 1, none⟩) (Nat.le_refl _) (.int .i64 (0))).setCell (p := ⟨W.heap.size, 2, none⟩) (Nat.le_refl _) (.int .i64 (0))).setCell (p := ⟨W.heap.size, 3, none⟩) (Nat.le_refl _) (.int .i64 (0))
    rw [HP.out]
    refine bodyPost_ret (v := .tuple #[msgV 0 0 0 0, .int .i64 ve]) (by simp [results, Try.results13, go_sem, r0, r1, r2, r3, msgV]) rfl ⟨rfl, hbe⟩
end Go.Proofs.Ytdjcfeglaiihgaa
