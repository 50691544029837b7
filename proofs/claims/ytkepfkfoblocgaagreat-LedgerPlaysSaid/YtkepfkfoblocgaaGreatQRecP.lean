/- siskinref17.Parse: contract. -/
import Derived.Test.YtkepfkfoblocgaaGreatGaP
import Derived.Test.YtkepfkfoblocgaaGreatRdP
import Derived.Test.YtkepfkfoblocgaaGreatOcP
import Derived.Test.YtkepfkfoblocgaaGreatQRecG
namespace Go.Proofs.YtkepfkfoblocgaaGreat
open Go.RowKit
set_option linter.unusedVariables false
set_option linter.unusedSimpArgs false

theorem takeS_short (hb : Bool) (least most : Int) (l : List UInt8) (e : Int) : (takeS hb least most l e).2.1.length ≤ l.length := by
  have h : (rdNum most l e).2.1.length ≤ l.length := by
    unfold rdNum
    repeat' split
    all_goals simp
  unfold takeS
  repeat' split
  all_goals first | exact h | simp

theorem rdNum_short9 (most : Int) (l : List UInt8) (e : Int) : (rdNum most l e).2.1.length ≤ l.length := by
  unfold rdNum
  split
  · split
    · simp only [List.length_drop]; omega
    · exact Nat.le_refl _
  · exact Nat.le_refl _
theorem rdText_short (most : Int) (l : List UInt8) (e : Int) : (rdText most l e).2.1.length ≤ l.length := by
  unfold rdText
  split
  · split
    · split
      · exact Nat.le_refl _
      · simp only [List.length_drop]; omega
    · exact Nat.le_refl _
  · exact Nat.le_refl _
set_option maxHeartbeats 1000000 in
theorem rfield_any (B f : Nat) (k : Int) (least most : Int) (l : List UInt8) (e : Int) (W : World) (h : RRdr W B l e) (hl : l.length ≤ 100000) (hf : f = 1 ∨ f = 2 ∨ f = 3 ∨ f = 4 ∨ f = 5) :
    Calls Tryz.prog 101 #[.pointer (some ⟨B, 0, none⟩), .int .i64 k, .int .i64 f, .int .i64 least, .int .i64 most] W fun x w' => x = .returned (.int .i64 ((takeS (hasR k f) least most l e).1 : Nat)) ∧ RRdr w' B (takeS (hasR k f) least most l e).2.1 (takeS (hasR k f) least most l e).2.2 ∧ Only B W w' := by
  have HH := hid (fun w => rhas_any k f hf w)
  clear hf
  generalize hasR k f = hb at *
  cases hb with
  | false =>
    have H := hid h
    clear h
    go_enter Tryz.func101, Tryz.ntmps101
    go_wp2_with (refine (HH.out _).mono ?_; rintro x w1 ⟨rfl, rfl⟩)
    go_ret
    exact ⟨rfl, H.out, Only.refl B W⟩
  | true =>
    have HR : Hid (takeS true least most l e = if ((rdNum most l e).1 : Int) < least then ((rdNum most l e).1, (rdNum most l e).2.1, rdFail 3 (rdNum most l e).2.2) else rdNum most l e) := hid rfl
    have HN := hid (rrNum_any B l e most W h hl)
    clear h
    generalize rdNum most l e = t at *
    obtain ⟨n, l2, e2⟩ := t
    simp only at HR HN
    by_cases hlt : (n : Int) < least
    · have hd : decide ((n : Int) < least) = true := decide_eq_true hlt
      rw [if_pos hlt] at HR
      go_enter Tryz.func101, Tryz.ntmps101
      go_wp2_with (go_at_call 81; refine (HH.out _).mono ?_; rintro x w1 ⟨rfl, rfl⟩)
      refine HN.out.mono ?_
      rintro x w1 ⟨rfl, hR, hO⟩
      have HF := hid (rrFail_any B l2 e2 3 w1 hR)
      have HO := hid hO
      clear hR hO
      go_wp2_with fail
      refine HF.out.mono ?_
      rintro x w2 ⟨⟨v, rfl⟩, hR2, hO2⟩
      have HR2 := hid hR2
      have HO2 := hid hO2
      clear hR2 hO2
      go_wp2
      go_ret
      rw [HR.out]
      exact ⟨rfl, HR2.out, HO.out.trans HO2.out⟩
    · have hd : decide ((n : Int) < least) = false := decide_eq_false hlt
      rw [if_neg hlt] at HR
      have hlt' : least ≤ (n : Int) := by omega
      go_enter Tryz.func101, Tryz.ntmps101
      go_wp2_with (go_at_call 81; refine (HH.out _).mono ?_; rintro x w1 ⟨rfl, rfl⟩)
      refine HN.out.mono ?_
      rintro x w1 ⟨rfl, hR, hO⟩
      have HRR := hid hR
      have HO := hid hO
      clear hR hO
      go_wp2
      go_ret
      rw [HR.out]
      exact ⟨rfl, HRR.out, HO.out⟩
/-- What a walk of Parse holds. -/
structure PQ (W w : World) (B M : Nat) (l : List UInt8) (e k j t wk s p : Int) (v : Value) : Prop where
  r : w.heap[W.heap.size]? = some (.cells #[.int .i64 0, .int .i64 0, .int .i64 0, .int .i64 0, .int .i64 0, .int .i64 0, .slice none 0 0] 46 (0, 0))
  b : RRdr w B l e
  m : w.heap[M]? = some (.cells #[.int .i64 k, .int .i64 j, .int .i64 t, .int .i64 wk, .int .i64 s, .int .i64 p, v] 46 (0, 0))
  bel : Below W.heap.size W w
  rb : W.heap.size < B
  bm : B < M
  ll : l.length ≤ 100000
theorem PQ.lt {W w : World} {B M : Nat} {l : List UInt8} {e k j t wk s p : Int} {v : Value} (h : PQ W w B M l e k j t wk s p v) : M < w.heap.size := lt_of_block h.m
theorem PQ.go {W w w' : World} {B M : Nat} {l l2 : List UInt8} {e e2 k j t wk s p : Int} {v : Value} (h : PQ W w B M l e k j t wk s p v) (ho : Only B w w') (hr : RRdr w' B l2 e2) (hs : l2.length ≤ l.length) : PQ W w' B M l2 e2 k j t wk s p v :=
  ⟨ho.block h.r (Nat.ne_of_lt h.rb), hr, ho.block h.m (Nat.ne_of_gt h.bm), h.bel.trans (ho.below W.heap.size (Nat.le_of_lt h.rb) h.bel.size), h.rb, h.bm, Nat.le_trans hs h.ll⟩
theorem PQ.keep {W w w' : World} {B M : Nat} {l : List UInt8} {e k j t wk s p : Int} {v : Value} (h : PQ W w B M l e k j t wk s p v) (hb : Below (M + 1) w w') : PQ W w' B M l e k j t wk s p v :=
  ⟨(hb.block _ (by have := h.rb; have := h.bm; omega)).trans h.r, (hb.block B (by have := h.bm; omega)).trans h.b, (hb.block M (Nat.lt_succ_self M)).trans h.m, h.bel.trans (hb.mono (by have := h.rb; have := h.bm; omega)), h.rb, h.bm, h.ll⟩
theorem PQ.set1 {W w : World} {B M : Nat} {l : List UInt8} {e k j t wk s p : Int} {v : Value} (h : PQ W w B M l e k j t wk s p v) (x : Int) : PQ W (w.setCell ⟨M, 1, none⟩ (.int .i64 x)) B M l e k x t wk s p v :=
  ⟨(Below.heap_setCell _ _ _ _ (show W.heap.size ≠ M by have := h.rb; have := h.bm; omega)).trans h.r, (Below.heap_setCell _ _ _ _ (show B ≠ M by have := h.bm; omega)).trans h.b, heap_setCell_same w M 1 _ _ _ h.m, h.bel.setCell (p := ⟨M, 1, none⟩) (show W.heap.size ≤ M by have := h.rb; have := h.bm; omega) _, h.rb, h.bm, h.ll⟩
theorem PQ.set2 {W w : World} {B M : Nat} {l : List UInt8} {e k j t wk s p : Int} {v : Value} (h : PQ W w B M l e k j t wk s p v) (x : Int) : PQ W (w.setCell ⟨M, 2, none⟩ (.int .i64 x)) B M l e k j x wk s p v :=
  ⟨(Below.heap_setCell _ _ _ _ (show W.heap.size ≠ M by have := h.rb; have := h.bm; omega)).trans h.r, (Below.heap_setCell _ _ _ _ (show B ≠ M by have := h.bm; omega)).trans h.b, heap_setCell_same w M 2 _ _ _ h.m, h.bel.setCell (p := ⟨M, 2, none⟩) (show W.heap.size ≤ M by have := h.rb; have := h.bm; omega) _, h.rb, h.bm, h.ll⟩
theorem PQ.set3 {W w : World} {B M : Nat} {l : List UInt8} {e k j t wk s p : Int} {v : Value} (h : PQ W w B M l e k j t wk s p v) (x : Int) : PQ W (w.setCell ⟨M, 3, none⟩ (.int .i64 x)) B M l e k j t x s p v :=
  ⟨(Below.heap_setCell _ _ _ _ (show W.heap.size ≠ M by have := h.rb; have := h.bm; omega)).trans h.r, (Below.heap_setCell _ _ _ _ (show B ≠ M by have := h.bm; omega)).trans h.b, heap_setCell_same w M 3 _ _ _ h.m, h.bel.setCell (p := ⟨M, 3, none⟩) (show W.heap.size ≤ M by have := h.rb; have := h.bm; omega) _, h.rb, h.bm, h.ll⟩
theorem PQ.set4 {W w : World} {B M : Nat} {l : List UInt8} {e k j t wk s p : Int} {v : Value} (h : PQ W w B M l e k j t wk s p v) (x : Int) : PQ W (w.setCell ⟨M, 4, none⟩ (.int .i64 x)) B M l e k j t wk x p v :=
  ⟨(Below.heap_setCell _ _ _ _ (show W.heap.size ≠ M by have := h.rb; have := h.bm; omega)).trans h.r, (Below.heap_setCell _ _ _ _ (show B ≠ M by have := h.bm; omega)).trans h.b, heap_setCell_same w M 4 _ _ _ h.m, h.bel.setCell (p := ⟨M, 4, none⟩) (show W.heap.size ≤ M by have := h.rb; have := h.bm; omega) _, h.rb, h.bm, h.ll⟩
theorem PQ.set5 {W w : World} {B M : Nat} {l : List UInt8} {e k j t wk s p : Int} {v : Value} (h : PQ W w B M l e k j t wk s p v) (x : Int) : PQ W (w.setCell ⟨M, 5, none⟩ (.int .i64 x)) B M l e k j t wk s x v :=
  ⟨(Below.heap_setCell _ _ _ _ (show W.heap.size ≠ M by have := h.rb; have := h.bm; omega)).trans h.r, (Below.heap_setCell _ _ _ _ (show B ≠ M by have := h.bm; omega)).trans h.b, heap_setCell_same w M 5 _ _ _ h.m, h.bel.setCell (p := ⟨M, 5, none⟩) (show W.heap.size ≤ M by have := h.rb; have := h.bm; omega) _, h.rb, h.bm, h.ll⟩
theorem PQ.set6 {W w : World} {B M : Nat} {l : List UInt8} {e k j t wk s p : Int} {v : Value} (h : PQ W w B M l e k j t wk s p v) (x : Value) : PQ W (w.setCell ⟨M, 6, none⟩ x) B M l e k j t wk s p x :=
  ⟨(Below.heap_setCell _ _ _ _ (show W.heap.size ≠ M by have := h.rb; have := h.bm; omega)).trans h.r, (Below.heap_setCell _ _ _ _ (show B ≠ M by have := h.bm; omega)).trans h.b, heap_setCell_same w M 6 _ _ _ h.m, h.bel.setCell (p := ⟨M, 6, none⟩) (show W.heap.size ≤ M by have := h.rb; have := h.bm; omega) _, h.rb, h.bm, h.ll⟩

set_option maxRecDepth 20000 in
set_option maxHeartbeats 16000000 in
theorem r17parse_own (l : List UInt8) (hl : l.length ≤ 100000) (W : World) :
    Calls Tryz.prog 72 #[.string (str l)] W fun x w' => ∃ A' c', x = .returned (.tuple #[.agg (rcc (pr l) A' c'), .int .i64 (qk l)]) ∧ OwnS w' W.heap.size A' c' (pr l).ns ∧ RowKit.Below W.heap.size W w' := by
  have HPR : Hid (pr l = if qk l = 0 then ⟨(qa l).1, (qj l).1, (qt l).1, (qw l).1, (qs l).1, (qe l).1, (qx l).1⟩ else ⟨0, 0, 0, 0, 0, 0, []⟩) := hid rfl
  have hqa : Hid (qa l = takeS true 1 4 l 0) := hid rfl
  have hqj : Hid (qj l = takeS true 1 72057594037927935 (qa l).2.1 (qa l).2.2) := hid rfl
  have hqt : Hid (qt l = takeS (hasR (qa l).1 1) 0 15 (qj l).2.1 (qj l).2.2) := hid rfl
  have hqw : Hid (qw l = takeS (hasR (qa l).1 2) 0 63 (qt l).2.1 (qt l).2.2) := hid rfl
  have hqs : Hid (qs l = takeS (hasR (qa l).1 3) 0 7 (qw l).2.1 (qw l).2.2) := hid rfl
  have hqe : Hid (qe l = takeS (hasR (qa l).1 4) 1 9 (qs l).2.1 (qs l).2.2) := hid rfl
  have hqn : Hid (qn l = takeS (hasR (qa l).1 5) 1 16 (qe l).2.1 (qe l).2.2) := hid rfl
  have hqx : Hid (qx l = rts (qn l).1 (qn l).2.1 (qn l).2.2) := hid rfl
  have hqk : Hid (qk l = rdEnd (qx l).2.1 (qx l).2.2) := hid rfl
  have hn16 : (qn l).1 ≤ 16 := by
    have := takeS_most (hasR (qa l).1 5) 1 16 (by omega) (qe l).2.1 (qe l).2.2
    rw [← hqn.out] at this
    omega
  have s1 : (qa l).2.1.length ≤ l.length := by rw [hqa.out]; exact takeS_short _ _ _ _ _
  have s2 : (qj l).2.1.length ≤ (qa l).2.1.length := by rw [hqj.out]; exact takeS_short _ _ _ _ _
  have s3 : (qt l).2.1.length ≤ (qj l).2.1.length := by rw [hqt.out]; exact takeS_short _ _ _ _ _
  have s4 : (qw l).2.1.length ≤ (qt l).2.1.length := by rw [hqw.out]; exact takeS_short _ _ _ _ _
  have s5 : (qs l).2.1.length ≤ (qw l).2.1.length := by rw [hqs.out]; exact takeS_short _ _ _ _ _
  have s6 : (qe l).2.1.length ≤ (qs l).2.1.length := by rw [hqe.out]; exact takeS_short _ _ _ _ _
  have s7 : (qn l).2.1.length ≤ (qe l).2.1.length := by rw [hqn.out]; exact takeS_short _ _ _ _ _
  have HS := hid (And.intro s1 (And.intro s2 (And.intro s3 (And.intro s4 (And.intro s5 (And.intro s6 s7))))))
  clear s1 s2 s3 s4 s5 s6 s7
  generalize pr l = vp at *
  generalize qk l = vk at *
  generalize qx l = vx at *
  generalize qn l = vn at *
  generalize qe l = ve at *
  generalize qs l = vs at *
  generalize qw l = vw at *
  generalize qt l = vt at *
  generalize qj l = vj at *
  generalize qa l = va at *
  obtain ⟨k, la, ea⟩ := va
  obtain ⟨j, lj, ej⟩ := vj
  obtain ⟨t, lt, et⟩ := vt
  obtain ⟨wk, lw, ew⟩ := vw
  obtain ⟨s, ls, es⟩ := vs
  obtain ⟨p, le, ee⟩ := ve
  obtain ⟨n, ln, en⟩ := vn
  obtain ⟨xs, lx, ex⟩ := vx
  simp only at *
  have hta : Hid (takeS true 1 4 l 0 = if ((rdNum 4 l 0).1 : Int) < 1 then ((rdNum 4 l 0).1, (rdNum 4 l 0).2.1, rdFail 3 (rdNum 4 l 0).2.2) else rdNum 4 l 0) := hid rfl
  have htj : Hid (takeS true 1 72057594037927935 la ea = if ((rdNum 72057594037927935 la ea).1 : Int) < 1 then ((rdNum 72057594037927935 la ea).1, (rdNum 72057594037927935 la ea).2.1, rdFail 3 (rdNum 72057594037927935 la ea).2.2) else rdNum 72057594037927935 la ea) := hid rfl
  have hs0 := rdNum_short9 4 l 0
  have hs1 := rdNum_short9 72057594037927935 la ea
  have HJN := hid (fun B w (h : RRdr w B la ea) (hl : la.length ≤ 100000) => rrNum_any B la ea 72057594037927935 w h hl)
  generalize rdNum 72057594037927935 la ea = vj0 at *
  obtain ⟨j0, lj0, ej0⟩ := vj0
  go_enter Tryz.func72, Tryz.ntmps72
  go_upto_region 2 with (fail)
  refine at_world (fun w => w.heap[W.heap.size]? = some (.cells #[.int .i64 0, .int .i64 0, .int .i64 0, .int .i64 0, .int .i64 0, .int .i64 0, .slice none 0 0] 46 (0, 0)) ∧ RRdr w (W.heap.size + 1) l 0 ∧ RowKit.Below W.heap.size W w) ⟨heap_first _ _ _, heap_second _ _ _, below2 _ _ _⟩ ?_
  rintro w1 ⟨hR1, hQ1, hB1⟩
  have HN := hid (rrNum_any (W.heap.size + 1) l 0 4 w1 hQ1 hl)
  have HK1 := hid (And.intro hR1 hB1)
  clear hR1 hB1 hQ1
  obtain ⟨B, hB⟩ : ∃ B, W.heap.size + 1 = B := ⟨_, rfl⟩
  have HBE := hid (show W.heap.size < B by omega)
  rw [hB] at HN ⊢
  clear hB
  generalize rdNum 4 l 0 = v0 at *
  obtain ⟨k0, la0, ea0⟩ := v0
  simp only at *
  have HS0 := hid (And.intro hs0 hs1)
  clear hs0 hs1
  go_wp2_with fail
  refine HN.out.mono ?_
  rintro x w2 ⟨rfl, hR2, hO2⟩
  have K2 : Hid (PQ W (w2.alloc (.cells #[.int .i64 k0, .int .i64 0, .int .i64 0, .int .i64 0, .int .i64 0, .int .i64 0, .slice none 0 0] 46)) B w2.heap.size la0 ea0 k0 0 0 0 0 0 (.slice none 0 0)) := by
    have h1 := hO2.block HK1.out.1 (Nat.ne_of_lt HBE.out)
    have h2 := HK1.out.2.trans (hO2.below W.heap.size (Nat.le_of_lt HBE.out) HK1.out.2.size)
    have h3 : B < w2.heap.size := lt_of_block hR2
    exact hid ⟨(Below.heap_alloc _ _ _ (lt_of_block h1)).trans h1, (Below.heap_alloc _ _ _ h3).trans hR2, heap_alloc_new _ _, h2.alloc h2.size _, HBE.out, h3, Nat.le_trans HS0.out.1 hl⟩
  clear hR2 hO2 HN HK1
  obtain rfl : k = k0 := by
    have h := hqa.out
    rw [hta.out] at h
    split at h <;> cases h <;> rfl
  have hjj : j = j0 := by
    have h := hqj.out
    rw [htj.out] at h
    split at h <;> cases h <;> rfl
  subst hjj
  go_upto_region 3 with (fail)
  have K2' := K2.out
  clear K2
  generalize w2.heap.size = M at K2' ⊢
  refine at_world (fun w => PQ W w B M la0 ea0 k 0 0 0 0 0 (.slice none 0 0)) K2' ?_
  clear K2'
  rintro w3 K
  have HK0 := hid K
  obtain ⟨p0, p1, p2, p3, p4, p5, p6⟩ := seven_cells K.m
  obtain ⟨f0, f1, f2, f3, f4, f5, f6⟩ := seven_frz K.m
  rcases Classical.em (k = 0) with h0 | h0
  · skip
    have hd : (((k : Nat) : Int) == 0) = true := by simp [h0]
    rw [if_pos (by omega)] at hta
    rw [hta.out] at hqa
    obtain ⟨rfl, hea⟩ : la = la0 ∧ ea = rdFail 3 ea0 := by have := hqa.out; simp at this; exact this
    have HF := hid (rrFail_any B la ea0 3 _ K.b)
    rw [← hea] at HF
    clear hta hqa h0 K hea
    go_wp2_with fail
    refine HF.out.mono ?_
    rintro x yk ⟨⟨v, rfl⟩, hR, hO⟩
    have K := HK0.out.go hO hR (Nat.le_refl _)
    clear hR hO HF HK0
    go_upto_region 5 with (fail)
    refine at_world (fun w => PQ W w B M la ea k 0 0 0 0 0 (.slice none 0 0)) K ?_
    clear p0 p1 p2 p3 p4 p5 p6 f0 f1 f2 f3 f4 f5 f6
    clear K
    rintro zk K
    have HP0 := hid K
    obtain ⟨p0, p1, p2, p3, p4, p5, p6⟩ := seven_cells K.m
    obtain ⟨f0, f1, f2, f3, f4, f5, f6⟩ := seven_frz K.m
    have HT := hid (HJN.out B _ K.b K.ll)
    clear K
    go_wp2_with fail
    refine HT.out.mono ?_
    rintro x y5 ⟨rfl, hR, hO⟩
    have HK := hid (HP0.out.go hO hR HS0.out.2)
    clear HP0 hR hO HT p0 p1 p2 p3 p4 p5 p6 f0 f1 f2 f3 f4 f5 f6
    obtain ⟨p0, p1, p2, p3, p4, p5, p6⟩ := seven_cells HK.out.m
    obtain ⟨f0, f1, f2, f3, f4, f5, f6⟩ := seven_frz HK.out.m
    go_upto_region 6 with (fail)
    refine at_world (fun w => PQ W w B M lj0 ej0 k j 0 0 0 0 (.slice none 0 0)) (HK.out.set1 _) ?_
    clear HK p0 p1 p2 p3 p4 p5 p6 f0 f1 f2 f3 f4 f5 f6
    rintro z5 K
    have HK1 := hid K
    obtain ⟨p0, p1, p2, p3, p4, p5, p6⟩ := seven_cells K.m
    obtain ⟨f0, f1, f2, f3, f4, f5, f6⟩ := seven_frz K.m
    rcases Classical.em (j = 0) with h0 | h0
    · skip
      have hd : (((j : Nat) : Int) == 0) = true := by simp [h0]
      rw [if_pos (by omega)] at htj
      rw [htj.out] at hqj
      obtain ⟨rfl, hea⟩ : lj = lj0 ∧ ej = rdFail 3 ej0 := by have := hqj.out; simp at this; exact this
      have HF := hid (rrFail_any B lj ej0 3 _ K.b)
      rw [← hea] at HF
      clear htj hqj h0 K hea
      go_wp2_with fail
      refine HF.out.mono ?_
      rintro x yj ⟨⟨v, rfl⟩, hR, hO⟩
      have K := HK1.out.go hO hR (Nat.le_refl _)
      clear hR hO HF HK1
      go_upto_region 8 with (fail)
      refine at_world (fun w => PQ W w B M lj ej k j 0 0 0 0 (.slice none 0 0)) K ?_
      clear p0 p1 p2 p3 p4 p5 p6 f0 f1 f2 f3 f4 f5 f6
      clear K
      rintro zj K
      have HQ0 := hid K
      obtain ⟨p0, p1, p2, p3, p4, p5, p6⟩ := seven_cells K.m
      obtain ⟨f0, f1, f2, f3, f4, f5, f6⟩ := seven_frz K.m
      have HT := hid (rfield_any B 1 k 0 15 _ _ _ K.b K.ll (by omega))
      rw [← hqt.out] at HT
      simp only at HT
      clear K
      go_wp2_with fail
      refine HT.out.mono ?_
      rintro x u8 ⟨rfl, hR, hO⟩
      have HK := hid (HQ0.out.go hO hR HS.out.2.2.1)
      clear HQ0 hR hO HT hqt p0 p1 p2 p3 p4 p5 p6 f0 f1 f2 f3 f4 f5 f6
      obtain ⟨p0, p1, p2, p3, p4, p5, p6⟩ := seven_cells HK.out.m
      obtain ⟨f0, f1, f2, f3, f4, f5, f6⟩ := seven_frz HK.out.m
      go_upto_region 9 with (fail)
      refine at_world (fun w => PQ W w B M lt et k j t 0 0 0 (.slice none 0 0)) (HK.out.set2 _) ?_
      clear HK p0 p1 p2 p3 p4 p5 p6 f0 f1 f2 f3 f4 f5 f6
      rintro z8 K
      have HQ1 := hid K
      obtain ⟨p0, p1, p2, p3, p4, p5, p6⟩ := seven_cells K.m
      obtain ⟨f0, f1, f2, f3, f4, f5, f6⟩ := seven_frz K.m
      have HT := hid (rfield_any B 2 k 0 63 _ _ _ K.b K.ll (by omega))
      rw [← hqw.out] at HT
      simp only at HT
      clear K
      go_wp2_with fail
      refine HT.out.mono ?_
      rintro x u9 ⟨rfl, hR, hO⟩
      have HK := hid (HQ1.out.go hO hR HS.out.2.2.2.1)
      clear HQ1 hR hO HT hqw p0 p1 p2 p3 p4 p5 p6 f0 f1 f2 f3 f4 f5 f6
      obtain ⟨p0, p1, p2, p3, p4, p5, p6⟩ := seven_cells HK.out.m
      obtain ⟨f0, f1, f2, f3, f4, f5, f6⟩ := seven_frz HK.out.m
      go_upto_region 10 with (fail)
      refine at_world (fun w => PQ W w B M lw ew k j t wk 0 0 (.slice none 0 0)) (HK.out.set3 _) ?_
      clear HK p0 p1 p2 p3 p4 p5 p6 f0 f1 f2 f3 f4 f5 f6
      rintro z9 K
      have HQ2 := hid K
      obtain ⟨p0, p1, p2, p3, p4, p5, p6⟩ := seven_cells K.m
      obtain ⟨f0, f1, f2, f3, f4, f5, f6⟩ := seven_frz K.m
      have HT := hid (rfield_any B 3 k 0 7 _ _ _ K.b K.ll (by omega))
      rw [← hqs.out] at HT
      simp only at HT
      clear K
      go_wp2_with fail
      refine HT.out.mono ?_
      rintro x u10 ⟨rfl, hR, hO⟩
      have HK := hid (HQ2.out.go hO hR HS.out.2.2.2.2.1)
      clear HQ2 hR hO HT hqs p0 p1 p2 p3 p4 p5 p6 f0 f1 f2 f3 f4 f5 f6
      obtain ⟨p0, p1, p2, p3, p4, p5, p6⟩ := seven_cells HK.out.m
      obtain ⟨f0, f1, f2, f3, f4, f5, f6⟩ := seven_frz HK.out.m
      go_upto_region 11 with (fail)
      refine at_world (fun w => PQ W w B M ls es k j t wk s 0 (.slice none 0 0)) (HK.out.set4 _) ?_
      clear HK p0 p1 p2 p3 p4 p5 p6 f0 f1 f2 f3 f4 f5 f6
      rintro z10 K
      have HQ3 := hid K
      obtain ⟨p0, p1, p2, p3, p4, p5, p6⟩ := seven_cells K.m
      obtain ⟨f0, f1, f2, f3, f4, f5, f6⟩ := seven_frz K.m
      have HT := hid (rfield_any B 4 k 1 9 _ _ _ K.b K.ll (by omega))
      rw [← hqe.out] at HT
      simp only at HT
      clear K
      go_wp2_with fail
      refine HT.out.mono ?_
      rintro x u11 ⟨rfl, hR, hO⟩
      have HK := hid (HQ3.out.go hO hR HS.out.2.2.2.2.2.1)
      clear HQ3 hR hO HT hqe p0 p1 p2 p3 p4 p5 p6 f0 f1 f2 f3 f4 f5 f6
      obtain ⟨p0, p1, p2, p3, p4, p5, p6⟩ := seven_cells HK.out.m
      obtain ⟨f0, f1, f2, f3, f4, f5, f6⟩ := seven_frz HK.out.m
      go_upto_region 12 with (fail)
      refine at_world (fun w => PQ W w B M le ee k j t wk s p (.slice none 0 0)) (HK.out.set5 _) ?_
      clear HK p0 p1 p2 p3 p4 p5 p6 f0 f1 f2 f3 f4 f5 f6
      rintro z11 K
      have HQ4 := hid K
      obtain ⟨p0, p1, p2, p3, p4, p5, p6⟩ := seven_cells K.m
      obtain ⟨f0, f1, f2, f3, f4, f5, f6⟩ := seven_frz K.m
      have HT := hid (rfield_any B 5 k 1 16 _ _ _ K.b K.ll (by omega))
      rw [← hqn.out] at HT
      simp only at HT
      clear K
      go_wp2_with fail
      refine HT.out.mono ?_
      rintro x u12 ⟨rfl, hR, hO⟩
      have HK := hid (HQ4.out.go hO hR HS.out.2.2.2.2.2.2)
      clear HQ4 hR hO HT hqn p0 p1 p2 p3 p4 p5 p6 f0 f1 f2 f3 f4 f5 f6
      go_wp2_with fail
      go_loopw [7] (fun i wr => ∃ (c : Nat) (Ai : Option Addr) (ci : Nat) (m : List (List UInt8)) (li : List UInt8) (ei : Int), c ≤ n ∧ i = .int .i64 (c : Int) ∧ m.length = c ∧ Hid (rts n ln en = (m ++ (rts (n - c) li ei).1, (rts (n - c) li ei).2)) ∧ Hid (PQ W wr B M li ei k j t wk s p (.slice Ai c ci)) ∧ Hid (wr.ownsRow (M + 1) 9 1 (.slice Ai c ci) c (scells m))) (fun i _ => n - (intOf i).toNat)
      case atStart => exact ⟨0, none, 0, [], ln, en, by omega, rfl, rfl, by rw [Hid]; simp, HK.out, World.ownsRow_nil _ _ _ _⟩
      case round =>
        obtain ⟨c, Ai, ci, m, li, ei, hcn, rfl, hmc, HR, HP, HO⟩ := hrel
        by_cases hlt : c < n
        · have hlt2 : (c : Int) < (n : Int) := by omega
          have HR2 := hid (rts_step hlt HR.out)
          have HLE := hid (rdText_le li ei)
          have HSH := hid (rdText_short 200 li ei)
          have HPd := hid (HP.out.keep (w' := wr.drew) (below_drew (Below.refl _ _)))
          have HOd : Hid (wr.drew.ownsRow (M + 1) 9 1 (.slice Ai c ci) c (scells m)) := hid (own_keep HO.out (below_drew (Below.refl _ _)))
          have HT := hid (rrText_any B li ei 200 wr.drew HPd.out.b HPd.out.ll)
          have c6 := (seven_cells HP.out.m).2.2.2.2.2.2
          have hbel := HP.out.bel
          have hMW : W.heap.size ≤ M := by have := HP.out.rb; have := HP.out.bm; omega
          generalize rdText 200 li ei = r at *
          obtain ⟨sx, l2, e2⟩ := r
          simp only at HT HR2 HLE HSH
          go_upto_region 16 with (fail)
          refine wp_region_held_drew (S := fun U => RowKit.Below W.heap.size W U) (by kernel_rfl) (below_drew hbel) (fun hHeld => ?_)
          refine tkA 0 ?_ rfl ?_ (by assumption) ?_; rotate_left; focus (intro U hU; (try dsimp only at hU); go_simp; try (with_reducible rfl))
          simp only [gt6, Act.put]
          refine tkA 2 ?_ rfl ?_ (by assumption) ?_; rotate_left; focus (intro U hU; (try dsimp only at hU); go_simp; try (with_reducible rfl))
          simp only [gt6, Act.put]
          refine wpAnyH_ready (rs := [1, 3]) (by kernel_rfl) (by simp) ?_
          refine (AllReadyH.cons rfl (fun K hK => ?_) (AllReadyH.cons rfl (fun K hK => ?_) AllReadyH.nil))
          · skip
            simp only [gt3]
            go_simp
            refine hK.out _ _ ?_ (fun hHeld2 => ?_)
            focus
              first | with_reducible assumption | (repeat' (first | with_reducible assumption | with_reducible refine below_drew ?_ | with_reducible refine bel_alloc ?_ _))
            clear hHeld
            have hHeld := hHeld2
            clear hHeld2 hK K
            try simp only [gt6, Act.put]
            refine wpAnyH_ready (rs := [3]) (by kernel_rfl) (by simp) ?_
            refine AllReadyH.cons rfl (fun K hK => ?_) AllReadyH.nil
            simp only [gt3]
            go_simp
            refine HT.out.mono ?_
            rintro q w3 ⟨rfl, hR3, hO3⟩
            have HP3 := hid (HPd.out.go hO3 hR3 HSH.out)
            have HO3 := hid (own_only HOd.out hO3 (Nat.lt_succ_of_lt HPd.out.bm))
            have hbel3 := HP3.out.bel
            have c63 := (seven_cells HP3.out.m).2.2.2.2.2.2
            have c6a : ∀ o : Obj, (w3.alloc o).cell? ⟨M, 6, none⟩ = some (.slice Ai c ci) := fun o => (seven_cells (HP3.out.keep ((Below.refl _ _).alloc HP3.out.lt o)).m).2.2.2.2.2.2
            have hM3 := HP3.out.lt
            clear hR3 hO3
            go_wp2_with fail
            refine hK.out _ _ ?_ (fun hHeld2 => ?_)
            focus
              first | with_reducible assumption | (repeat' (first | with_reducible assumption | with_reducible refine below_drew ?_ | with_reducible refine bel_alloc ?_ _))
            clear hHeld
            have hHeld := hHeld2
            clear hHeld2 hK K
            try simp only [gt6, Act.put]
            refine wpAnyH_ready (rs := [4]) (by kernel_rfl) (by simp) ?_
            refine (AllReadyH.cons rfl (fun K hK => ?_) AllReadyH.nil)
            simp only [gt3]
            go_simp
            refine hK.out _ _ ?_ (fun hHeld2 => ?_)
            focus
              first | with_reducible assumption | (repeat' (first | with_reducible assumption | with_reducible refine below_drew ?_ | with_reducible refine bel_alloc ?_ _))
            clear hHeld
            have hHeld := hHeld2
            clear hHeld2 hK K
            try simp only [gt6, Act.put]
            refine wpAnyH_ready (rs := [5]) (by kernel_rfl) (by simp) ?_
            refine (AllReadyH.cons rfl (fun K hK => ?_) AllReadyH.nil)
            refine step_append_sl rfl (.tmp 58) (.tmp 61) 44 rfl (M + 1) 9 Tryz.underlying44 info_str rfl (by omega) rfl (own_keep HO3.out ((Below.refl _ _).alloc (Nat.le_refl _) _)) rfl (Sl.lit _ _ 1 1 #[.string (str sx)] rfl (by unfold maxLen; omega)) (by simp [Value.oneCell']) (show c + 1 ≤ maxLen by unfold maxLen; omega) (show (c + 1) * 16 ≤ 140737488355328 by omega) (Nat.le_trans hM3 (Below.size ((Below.refl w3.heap.size w3).alloc (Nat.le_refl _) _))) ?_
            intro v5 w5 ho5 hb5 _ _
            have HP5 := hid (HP3.out.keep (((Below.refl _ _).alloc hM3 _).trans hb5))
            obtain ⟨A5, c5, rfl, _⟩ := Sl.of_own ho5
            have HO5 := hid ho5
            have c65 := (seven_cells HP5.out.m).2.2.2.2.2.2
            have f65 := (seven_frz HP5.out.m).2.2.2.2.2.2
            have hbel5 := HP5.out.bel
            have hbel6 := fun v => RowKit.Below.setCell (p := ⟨M, 6, none⟩) HP5.out.bel hMW v
            clear hb5 ho5
            refine hK.out _ _ ?_ (fun hHeld2 => ?_)
            focus
              exact hbel5
            clear hHeld
            have hHeld := hHeld2
            clear hHeld2 hK K
            try simp only [gt6, Act.put]
            refine tkA 6 ?_ rfl ?_ (by assumption) ?_; rotate_left; focus (intro U hU; (try dsimp only at hU); go_simp; try (with_reducible rfl))
            simp only [gt6, Act.put]
            refine wpAnyH_ready (rs := [7]) (by kernel_rfl) (by simp) ?_
            refine (AllReadyH.cons rfl (fun K hK => ?_) AllReadyH.nil)
            simp only [gt3]
            go_simp
            refine hK.out _ _ ?_ (fun hHeld2 => ?_)
            focus
              exact hbel6 _
            clear hHeld
            have hHeld := hHeld2
            clear hHeld2 hK K
            try simp only [gt6, Act.put]
            refine wpAnyH_done (by kernel_rfl) ?_ _
            clear hHeld c6 c63 c6a c65 f65 hbel hbel3 hbel5 hbel6
            go_wp2
            go_roundw
            case rel =>
              refine ⟨c + 1, A5, c5, m ++ [sx], l2, e2, by omega, by go_num, by simp [hmc], HR2.out, HP5.out.set6 _, ?_⟩
              rw [Hid, scells_snoc]
              exact own_setOld HO5.out _ _ (Nat.lt_succ_self M)
            case measure => simp [intOf]; omega
          · skip
            simp only [gt3]
            go_simp
            refine HT.out.mono ?_
            rintro q w3 ⟨rfl, hR3, hO3⟩
            have HP3 := hid (HPd.out.go hO3 hR3 HSH.out)
            have HO3 := hid (own_only HOd.out hO3 (Nat.lt_succ_of_lt HPd.out.bm))
            have hbel3 := HP3.out.bel
            have c63 := (seven_cells HP3.out.m).2.2.2.2.2.2
            have c6a : ∀ o : Obj, (w3.alloc o).cell? ⟨M, 6, none⟩ = some (.slice Ai c ci) := fun o => (seven_cells (HP3.out.keep ((Below.refl _ _).alloc HP3.out.lt o)).m).2.2.2.2.2.2
            have hM3 := HP3.out.lt
            clear hR3 hO3
            go_wp2_with fail
            refine hK.out _ _ ?_ (fun hHeld2 => ?_)
            focus
              first | with_reducible assumption | (repeat' (first | with_reducible assumption | with_reducible refine below_drew ?_ | with_reducible refine bel_alloc ?_ _))
            clear hHeld
            have hHeld := hHeld2
            clear hHeld2 hK K
            try simp only [gt6, Act.put]
            refine wpAnyH_ready (rs := [1, 4]) (by kernel_rfl) (by simp) ?_
            refine (AllReadyH.cons rfl (fun K hK => ?_) (AllReadyH.cons rfl (fun K hK => ?_) AllReadyH.nil))
            · skip
              simp only [gt3]
              go_simp
              refine hK.out _ _ ?_ (fun hHeld2 => ?_)
              focus
                first | with_reducible assumption | (repeat' (first | with_reducible assumption | with_reducible refine below_drew ?_ | with_reducible refine bel_alloc ?_ _))
              clear hHeld
              have hHeld := hHeld2
              clear hHeld2 hK K
              try simp only [gt6, Act.put]
              refine wpAnyH_ready (rs := [4]) (by kernel_rfl) (by simp) ?_
              refine (AllReadyH.cons rfl (fun K hK => ?_) AllReadyH.nil)
              simp only [gt3]
              go_simp
              refine hK.out _ _ ?_ (fun hHeld2 => ?_)
              focus
                first | with_reducible assumption | (repeat' (first | with_reducible assumption | with_reducible refine below_drew ?_ | with_reducible refine bel_alloc ?_ _))
              clear hHeld
              have hHeld := hHeld2
              clear hHeld2 hK K
              try simp only [gt6, Act.put]
              refine wpAnyH_ready (rs := [5]) (by kernel_rfl) (by simp) ?_
              refine (AllReadyH.cons rfl (fun K hK => ?_) AllReadyH.nil)
              refine step_append_sl rfl (.tmp 58) (.tmp 61) 44 rfl (M + 1) 9 Tryz.underlying44 info_str rfl (by omega) rfl (own_keep HO3.out ((Below.refl _ _).alloc (Nat.le_refl _) _)) rfl (Sl.lit _ _ 1 1 #[.string (str sx)] rfl (by unfold maxLen; omega)) (by simp [Value.oneCell']) (show c + 1 ≤ maxLen by unfold maxLen; omega) (show (c + 1) * 16 ≤ 140737488355328 by omega) (Nat.le_trans hM3 (Below.size ((Below.refl w3.heap.size w3).alloc (Nat.le_refl _) _))) ?_
              intro v5 w5 ho5 hb5 _ _
              have HP5 := hid (HP3.out.keep (((Below.refl _ _).alloc hM3 _).trans hb5))
              obtain ⟨A5, c5, rfl, _⟩ := Sl.of_own ho5
              have HO5 := hid ho5
              have c65 := (seven_cells HP5.out.m).2.2.2.2.2.2
              have f65 := (seven_frz HP5.out.m).2.2.2.2.2.2
              have hbel5 := HP5.out.bel
              have hbel6 := fun v => RowKit.Below.setCell (p := ⟨M, 6, none⟩) HP5.out.bel hMW v
              clear hb5 ho5
              refine hK.out _ _ ?_ (fun hHeld2 => ?_)
              focus
                exact hbel5
              clear hHeld
              have hHeld := hHeld2
              clear hHeld2 hK K
              try simp only [gt6, Act.put]
              refine tkA 6 ?_ rfl ?_ (by assumption) ?_; rotate_left; focus (intro U hU; (try dsimp only at hU); go_simp; try (with_reducible rfl))
              simp only [gt6, Act.put]
              refine wpAnyH_ready (rs := [7]) (by kernel_rfl) (by simp) ?_
              refine (AllReadyH.cons rfl (fun K hK => ?_) AllReadyH.nil)
              simp only [gt3]
              go_simp
              refine hK.out _ _ ?_ (fun hHeld2 => ?_)
              focus
                exact hbel6 _
              clear hHeld
              have hHeld := hHeld2
              clear hHeld2 hK K
              try simp only [gt6, Act.put]
              refine wpAnyH_done (by kernel_rfl) ?_ _
              clear hHeld c6 c63 c6a c65 f65 hbel hbel3 hbel5 hbel6
              go_wp2
              go_roundw
              case rel =>
                refine ⟨c + 1, A5, c5, m ++ [sx], l2, e2, by omega, by go_num, by simp [hmc], HR2.out, HP5.out.set6 _, ?_⟩
                rw [Hid, scells_snoc]
                exact own_setOld HO5.out _ _ (Nat.lt_succ_self M)
              case measure => simp [intOf]; omega
            · skip
              simp only [gt3]
              go_simp
              refine hK.out _ _ ?_ (fun hHeld2 => ?_)
              focus
                first | with_reducible assumption | (repeat' (first | with_reducible assumption | with_reducible refine below_drew ?_ | with_reducible refine bel_alloc ?_ _))
              clear hHeld
              have hHeld := hHeld2
              clear hHeld2 hK K
              try simp only [gt6, Act.put]
              refine wpAnyH_ready (rs := [1]) (by kernel_rfl) (by simp) ?_
              refine (AllReadyH.cons rfl (fun K hK => ?_) AllReadyH.nil)
              simp only [gt3]
              go_simp
              refine hK.out _ _ ?_ (fun hHeld2 => ?_)
              focus
                first | with_reducible assumption | (repeat' (first | with_reducible assumption | with_reducible refine below_drew ?_ | with_reducible refine bel_alloc ?_ _))
              clear hHeld
              have hHeld := hHeld2
              clear hHeld2 hK K
              try simp only [gt6, Act.put]
              refine wpAnyH_ready (rs := [5]) (by kernel_rfl) (by simp) ?_
              refine (AllReadyH.cons rfl (fun K hK => ?_) AllReadyH.nil)
              refine step_append_sl rfl (.tmp 58) (.tmp 61) 44 rfl (M + 1) 9 Tryz.underlying44 info_str rfl (by omega) rfl (own_keep HO3.out ((Below.refl _ _).alloc (Nat.le_refl _) _)) rfl (Sl.lit _ _ 1 1 #[.string (str sx)] rfl (by unfold maxLen; omega)) (by simp [Value.oneCell']) (show c + 1 ≤ maxLen by unfold maxLen; omega) (show (c + 1) * 16 ≤ 140737488355328 by omega) (Nat.le_trans hM3 (Below.size ((Below.refl w3.heap.size w3).alloc (Nat.le_refl _) _))) ?_
              intro v5 w5 ho5 hb5 _ _
              have HP5 := hid (HP3.out.keep (((Below.refl _ _).alloc hM3 _).trans hb5))
              obtain ⟨A5, c5, rfl, _⟩ := Sl.of_own ho5
              have HO5 := hid ho5
              have c65 := (seven_cells HP5.out.m).2.2.2.2.2.2
              have f65 := (seven_frz HP5.out.m).2.2.2.2.2.2
              have hbel5 := HP5.out.bel
              have hbel6 := fun v => RowKit.Below.setCell (p := ⟨M, 6, none⟩) HP5.out.bel hMW v
              clear hb5 ho5
              refine hK.out _ _ ?_ (fun hHeld2 => ?_)
              focus
                exact hbel5
              clear hHeld
              have hHeld := hHeld2
              clear hHeld2 hK K
              try simp only [gt6, Act.put]
              refine tkA 6 ?_ rfl ?_ (by assumption) ?_; rotate_left; focus (intro U hU; (try dsimp only at hU); go_simp; try (with_reducible rfl))
              simp only [gt6, Act.put]
              refine wpAnyH_ready (rs := [7]) (by kernel_rfl) (by simp) ?_
              refine (AllReadyH.cons rfl (fun K hK => ?_) AllReadyH.nil)
              simp only [gt3]
              go_simp
              refine hK.out _ _ ?_ (fun hHeld2 => ?_)
              focus
                exact hbel6 _
              clear hHeld
              have hHeld := hHeld2
              clear hHeld2 hK K
              try simp only [gt6, Act.put]
              refine wpAnyH_done (by kernel_rfl) ?_ _
              clear hHeld c6 c63 c6a c65 f65 hbel hbel3 hbel5 hbel6
              go_wp2
              go_roundw
              case rel =>
                refine ⟨c + 1, A5, c5, m ++ [sx], l2, e2, by omega, by go_num, by simp [hmc], HR2.out, HP5.out.set6 _, ?_⟩
                rw [Hid, scells_snoc]
                exact own_setOld HO5.out _ _ (Nat.lt_succ_self M)
              case measure => simp [intOf]; omega
        · obtain rfl : c = n := by omega
          have hge : ¬ (c : Int) < (c : Int) := by omega
          have hxs : xs = m ∧ lx = li ∧ ex = ei := by
            have h1 := hqx.out
            rw [HR.out, Nat.sub_self] at h1
            simpa [rts] using h1
          obtain ⟨rfl, rfl, rfl⟩ := hxs
          have HE := hid (rrEnd_any B lx ex wr HP.out.b)
          rw [← hqk.out] at HE
          have HLS := hid (rts_le c ln en)
          rw [← hqx.out] at HLS
          simp only at HLS
          obtain ⟨p0, p1, p2, p3, p4, p5, p6⟩ := seven_cells HP.out.m
          obtain ⟨g0, g1, g2, g3, g4, g5, g6⟩ := seven_cells HP.out.r
          obtain ⟨h0, h1, h2, h3, h4, h5, h6⟩ := seven_frz HP.out.r
          have hRM : W.heap.size ≠ M := by have := HP.out.rb; have := HP.out.bm; omega
          by_cases he : vk = 0
          · subst he
            rw [if_pos rfl] at HPR
            go_wp2_with (go_at_call 102; refine HE.out.mono ?_; rintro x w' ⟨rfl, rfl⟩)
            obtain ⟨r0, r1, r2, r3, r4, r5, r6⟩ := seven_cells (put7_heap HP.out.r (.int .i64 (k : Nat)) (.int .i64 (j : Nat)) (.int .i64 (t : Nat)) (.int .i64 (wk : Nat)) (.int .i64 (s : Nat)) (.int .i64 (p : Nat)) (.slice Ai c ci))
            simp only [put7] at r0 r1 r2 r3 r4 r5 r6
            rw [HPR.out]
            refine bodyPost_ret (v := .tuple #[.agg #[.int .i64 (k : Nat), .int .i64 (j : Nat), .int .i64 (t : Nat), .int .i64 (wk : Nat), .int .i64 (s : Nat), .int .i64 (p : Nat), .slice Ai c ci], .int .i64 0]) (by simp [results, Tryz.results72, go_sem, r0, r1, r2, r3, r4, r5, r6]) rfl ⟨Ai, ci, by simp only [rcc, hmc], ⟨?_, HLS.out.2⟩, put7_below HP.out.bel (Nat.le_refl _) _ _ _ _ _ _ _⟩
            simp only [hmc]
            exact own_mono (put7_own HO.out (by have := HP.out.rb; have := HP.out.bm; omega) _ _ _ _ _ _ _) (by have := HP.out.rb; have := HP.out.bm; omega)
          · rw [if_neg he] at HPR
            have hne : (vk != 0) = true := by simp [he]
            go_wp2_with (go_at_call 102; refine HE.out.mono ?_; rintro x w' ⟨rfl, rfl⟩)
            obtain ⟨r0, r1, r2, r3, r4, r5, r6⟩ := seven_cells (put7_heap HP.out.r (.int .i64 0) (.int .i64 0) (.int .i64 0) (.int .i64 0) (.int .i64 0) (.int .i64 0) (.slice none 0 0))
            simp only [put7] at r0 r1 r2 r3 r4 r5 r6
            rw [HPR.out]
            refine bodyPost_ret (v := .tuple #[.agg #[.int .i64 0, .int .i64 0, .int .i64 0, .int .i64 0, .int .i64 0, .int .i64 0, .slice none 0 0], .int .i64 vk]) (by simp [results, Tryz.results72, go_sem, r0, r1, r2, r3, r4, r5, r6]) rfl ⟨none, 0, rfl, ⟨World.ownsRow_nil _ _ _ _, by simp⟩, put7_below HP.out.bel (Nat.le_refl _) _ _ _ _ _ _ _⟩
    · skip
      have hd : (((j : Nat) : Int) == 0) = false := by simp [h0]
      rw [if_neg (by omega)] at htj
      rw [htj.out] at hqj
      obtain ⟨rfl, rfl⟩ : lj = lj0 ∧ ej = ej0 := by have := hqj.out; simp at this; exact this
      clear htj hqj h0 HK1
      go_upto_region 8 with (fail)
      refine at_world (fun w => PQ W w B M lj ej k j 0 0 0 0 (.slice none 0 0)) K ?_
      clear p0 p1 p2 p3 p4 p5 p6 f0 f1 f2 f3 f4 f5 f6
      clear K
      rintro zj K
      have HQ0 := hid K
      obtain ⟨p0, p1, p2, p3, p4, p5, p6⟩ := seven_cells K.m
      obtain ⟨f0, f1, f2, f3, f4, f5, f6⟩ := seven_frz K.m
      have HT := hid (rfield_any B 1 k 0 15 _ _ _ K.b K.ll (by omega))
      rw [← hqt.out] at HT
      simp only at HT
      clear K
      go_wp2_with fail
      refine HT.out.mono ?_
      rintro x u8 ⟨rfl, hR, hO⟩
      have HK := hid (HQ0.out.go hO hR HS.out.2.2.1)
      clear HQ0 hR hO HT hqt p0 p1 p2 p3 p4 p5 p6 f0 f1 f2 f3 f4 f5 f6
      obtain ⟨p0, p1, p2, p3, p4, p5, p6⟩ := seven_cells HK.out.m
      obtain ⟨f0, f1, f2, f3, f4, f5, f6⟩ := seven_frz HK.out.m
      go_upto_region 9 with (fail)
      refine at_world (fun w => PQ W w B M lt et k j t 0 0 0 (.slice none 0 0)) (HK.out.set2 _) ?_
      clear HK p0 p1 p2 p3 p4 p5 p6 f0 f1 f2 f3 f4 f5 f6
      rintro z8 K
      have HQ1 := hid K
      obtain ⟨p0, p1, p2, p3, p4, p5, p6⟩ := seven_cells K.m
      obtain ⟨f0, f1, f2, f3, f4, f5, f6⟩ := seven_frz K.m
      have HT := hid (rfield_any B 2 k 0 63 _ _ _ K.b K.ll (by omega))
      rw [← hqw.out] at HT
      simp only at HT
      clear K
      go_wp2_with fail
      refine HT.out.mono ?_
      rintro x u9 ⟨rfl, hR, hO⟩
      have HK := hid (HQ1.out.go hO hR HS.out.2.2.2.1)
      clear HQ1 hR hO HT hqw p0 p1 p2 p3 p4 p5 p6 f0 f1 f2 f3 f4 f5 f6
      obtain ⟨p0, p1, p2, p3, p4, p5, p6⟩ := seven_cells HK.out.m
      obtain ⟨f0, f1, f2, f3, f4, f5, f6⟩ := seven_frz HK.out.m
      go_upto_region 10 with (fail)
      refine at_world (fun w => PQ W w B M lw ew k j t wk 0 0 (.slice none 0 0)) (HK.out.set3 _) ?_
      clear HK p0 p1 p2 p3 p4 p5 p6 f0 f1 f2 f3 f4 f5 f6
      rintro z9 K
      have HQ2 := hid K
      obtain ⟨p0, p1, p2, p3, p4, p5, p6⟩ := seven_cells K.m
      obtain ⟨f0, f1, f2, f3, f4, f5, f6⟩ := seven_frz K.m
      have HT := hid (rfield_any B 3 k 0 7 _ _ _ K.b K.ll (by omega))
      rw [← hqs.out] at HT
      simp only at HT
      clear K
      go_wp2_with fail
      refine HT.out.mono ?_
      rintro x u10 ⟨rfl, hR, hO⟩
      have HK := hid (HQ2.out.go hO hR HS.out.2.2.2.2.1)
      clear HQ2 hR hO HT hqs p0 p1 p2 p3 p4 p5 p6 f0 f1 f2 f3 f4 f5 f6
      obtain ⟨p0, p1, p2, p3, p4, p5, p6⟩ := seven_cells HK.out.m
      obtain ⟨f0, f1, f2, f3, f4, f5, f6⟩ := seven_frz HK.out.m
      go_upto_region 11 with (fail)
      refine at_world (fun w => PQ W w B M ls es k j t wk s 0 (.slice none 0 0)) (HK.out.set4 _) ?_
      clear HK p0 p1 p2 p3 p4 p5 p6 f0 f1 f2 f3 f4 f5 f6
      rintro z10 K
      have HQ3 := hid K
      obtain ⟨p0, p1, p2, p3, p4, p5, p6⟩ := seven_cells K.m
      obtain ⟨f0, f1, f2, f3, f4, f5, f6⟩ := seven_frz K.m
      have HT := hid (rfield_any B 4 k 1 9 _ _ _ K.b K.ll (by omega))
      rw [← hqe.out] at HT
      simp only at HT
      clear K
      go_wp2_with fail
      refine HT.out.mono ?_
      rintro x u11 ⟨rfl, hR, hO⟩
      have HK := hid (HQ3.out.go hO hR HS.out.2.2.2.2.2.1)
      clear HQ3 hR hO HT hqe p0 p1 p2 p3 p4 p5 p6 f0 f1 f2 f3 f4 f5 f6
      obtain ⟨p0, p1, p2, p3, p4, p5, p6⟩ := seven_cells HK.out.m
      obtain ⟨f0, f1, f2, f3, f4, f5, f6⟩ := seven_frz HK.out.m
      go_upto_region 12 with (fail)
      refine at_world (fun w => PQ W w B M le ee k j t wk s p (.slice none 0 0)) (HK.out.set5 _) ?_
      clear HK p0 p1 p2 p3 p4 p5 p6 f0 f1 f2 f3 f4 f5 f6
      rintro z11 K
      have HQ4 := hid K
      obtain ⟨p0, p1, p2, p3, p4, p5, p6⟩ := seven_cells K.m
      obtain ⟨f0, f1, f2, f3, f4, f5, f6⟩ := seven_frz K.m
      have HT := hid (rfield_any B 5 k 1 16 _ _ _ K.b K.ll (by omega))
      rw [← hqn.out] at HT
      simp only at HT
      clear K
      go_wp2_with fail
      refine HT.out.mono ?_
      rintro x u12 ⟨rfl, hR, hO⟩
      have HK := hid (HQ4.out.go hO hR HS.out.2.2.2.2.2.2)
      clear HQ4 hR hO HT hqn p0 p1 p2 p3 p4 p5 p6 f0 f1 f2 f3 f4 f5 f6
      go_wp2_with fail
      go_loopw [7] (fun i wr => ∃ (c : Nat) (Ai : Option Addr) (ci : Nat) (m : List (List UInt8)) (li : List UInt8) (ei : Int), c ≤ n ∧ i = .int .i64 (c : Int) ∧ m.length = c ∧ Hid (rts n ln en = (m ++ (rts (n - c) li ei).1, (rts (n - c) li ei).2)) ∧ Hid (PQ W wr B M li ei k j t wk s p (.slice Ai c ci)) ∧ Hid (wr.ownsRow (M + 1) 9 1 (.slice Ai c ci) c (scells m))) (fun i _ => n - (intOf i).toNat)
      case atStart => exact ⟨0, none, 0, [], ln, en, by omega, rfl, rfl, by rw [Hid]; simp, HK.out, World.ownsRow_nil _ _ _ _⟩
      case round =>
        obtain ⟨c, Ai, ci, m, li, ei, hcn, rfl, hmc, HR, HP, HO⟩ := hrel
        by_cases hlt : c < n
        · have hlt2 : (c : Int) < (n : Int) := by omega
          have HR2 := hid (rts_step hlt HR.out)
          have HLE := hid (rdText_le li ei)
          have HSH := hid (rdText_short 200 li ei)
          have HPd := hid (HP.out.keep (w' := wr.drew) (below_drew (Below.refl _ _)))
          have HOd : Hid (wr.drew.ownsRow (M + 1) 9 1 (.slice Ai c ci) c (scells m)) := hid (own_keep HO.out (below_drew (Below.refl _ _)))
          have HT := hid (rrText_any B li ei 200 wr.drew HPd.out.b HPd.out.ll)
          have c6 := (seven_cells HP.out.m).2.2.2.2.2.2
          have hbel := HP.out.bel
          have hMW : W.heap.size ≤ M := by have := HP.out.rb; have := HP.out.bm; omega
          generalize rdText 200 li ei = r at *
          obtain ⟨sx, l2, e2⟩ := r
          simp only at HT HR2 HLE HSH
          go_upto_region 16 with (fail)
          refine wp_region_held_drew (S := fun U => RowKit.Below W.heap.size W U) (by kernel_rfl) (below_drew hbel) (fun hHeld => ?_)
          refine tkA 0 ?_ rfl ?_ (by assumption) ?_; rotate_left; focus (intro U hU; (try dsimp only at hU); go_simp; try (with_reducible rfl))
          simp only [gt6, Act.put]
          refine tkA 2 ?_ rfl ?_ (by assumption) ?_; rotate_left; focus (intro U hU; (try dsimp only at hU); go_simp; try (with_reducible rfl))
          simp only [gt6, Act.put]
          refine wpAnyH_ready (rs := [1, 3]) (by kernel_rfl) (by simp) ?_
          refine (AllReadyH.cons rfl (fun K hK => ?_) (AllReadyH.cons rfl (fun K hK => ?_) AllReadyH.nil))
          · skip
            simp only [gt3]
            go_simp
            refine hK.out _ _ ?_ (fun hHeld2 => ?_)
            focus
              first | with_reducible assumption | (repeat' (first | with_reducible assumption | with_reducible refine below_drew ?_ | with_reducible refine bel_alloc ?_ _))
            clear hHeld
            have hHeld := hHeld2
            clear hHeld2 hK K
            try simp only [gt6, Act.put]
            refine wpAnyH_ready (rs := [3]) (by kernel_rfl) (by simp) ?_
            refine AllReadyH.cons rfl (fun K hK => ?_) AllReadyH.nil
            simp only [gt3]
            go_simp
            refine HT.out.mono ?_
            rintro q w3 ⟨rfl, hR3, hO3⟩
            have HP3 := hid (HPd.out.go hO3 hR3 HSH.out)
            have HO3 := hid (own_only HOd.out hO3 (Nat.lt_succ_of_lt HPd.out.bm))
            have hbel3 := HP3.out.bel
            have c63 := (seven_cells HP3.out.m).2.2.2.2.2.2
            have c6a : ∀ o : Obj, (w3.alloc o).cell? ⟨M, 6, none⟩ = some (.slice Ai c ci) := fun o => (seven_cells (HP3.out.keep ((Below.refl _ _).alloc HP3.out.lt o)).m).2.2.2.2.2.2
            have hM3 := HP3.out.lt
            clear hR3 hO3
            go_wp2_with fail
            refine hK.out _ _ ?_ (fun hHeld2 => ?_)
            focus
              first | with_reducible assumption | (repeat' (first | with_reducible assumption | with_reducible refine below_drew ?_ | with_reducible refine bel_alloc ?_ _))
            clear hHeld
            have hHeld := hHeld2
            clear hHeld2 hK K
            try simp only [gt6, Act.put]
            refine wpAnyH_ready (rs := [4]) (by kernel_rfl) (by simp) ?_
            refine (AllReadyH.cons rfl (fun K hK => ?_) AllReadyH.nil)
            simp only [gt3]
            go_simp
            refine hK.out _ _ ?_ (fun hHeld2 => ?_)
            focus
              first | with_reducible assumption | (repeat' (first | with_reducible assumption | with_reducible refine below_drew ?_ | with_reducible refine bel_alloc ?_ _))
            clear hHeld
            have hHeld := hHeld2
            clear hHeld2 hK K
            try simp only [gt6, Act.put]
            refine wpAnyH_ready (rs := [5]) (by kernel_rfl) (by simp) ?_
            refine (AllReadyH.cons rfl (fun K hK => ?_) AllReadyH.nil)
            refine step_append_sl rfl (.tmp 58) (.tmp 61) 44 rfl (M + 1) 9 Tryz.underlying44 info_str rfl (by omega) rfl (own_keep HO3.out ((Below.refl _ _).alloc (Nat.le_refl _) _)) rfl (Sl.lit _ _ 1 1 #[.string (str sx)] rfl (by unfold maxLen; omega)) (by simp [Value.oneCell']) (show c + 1 ≤ maxLen by unfold maxLen; omega) (show (c + 1) * 16 ≤ 140737488355328 by omega) (Nat.le_trans hM3 (Below.size ((Below.refl w3.heap.size w3).alloc (Nat.le_refl _) _))) ?_
            intro v5 w5 ho5 hb5 _ _
            have HP5 := hid (HP3.out.keep (((Below.refl _ _).alloc hM3 _).trans hb5))
            obtain ⟨A5, c5, rfl, _⟩ := Sl.of_own ho5
            have HO5 := hid ho5
            have c65 := (seven_cells HP5.out.m).2.2.2.2.2.2
            have f65 := (seven_frz HP5.out.m).2.2.2.2.2.2
            have hbel5 := HP5.out.bel
            have hbel6 := fun v => RowKit.Below.setCell (p := ⟨M, 6, none⟩) HP5.out.bel hMW v
            clear hb5 ho5
            refine hK.out _ _ ?_ (fun hHeld2 => ?_)
            focus
              exact hbel5
            clear hHeld
            have hHeld := hHeld2
            clear hHeld2 hK K
            try simp only [gt6, Act.put]
            refine tkA 6 ?_ rfl ?_ (by assumption) ?_; rotate_left; focus (intro U hU; (try dsimp only at hU); go_simp; try (with_reducible rfl))
            simp only [gt6, Act.put]
            refine wpAnyH_ready (rs := [7]) (by kernel_rfl) (by simp) ?_
            refine (AllReadyH.cons rfl (fun K hK => ?_) AllReadyH.nil)
            simp only [gt3]
            go_simp
            refine hK.out _ _ ?_ (fun hHeld2 => ?_)
            focus
              exact hbel6 _
            clear hHeld
            have hHeld := hHeld2
            clear hHeld2 hK K
            try simp only [gt6, Act.put]
            refine wpAnyH_done (by kernel_rfl) ?_ _
            clear hHeld c6 c63 c6a c65 f65 hbel hbel3 hbel5 hbel6
            go_wp2
            go_roundw
            case rel =>
              refine ⟨c + 1, A5, c5, m ++ [sx], l2, e2, by omega, by go_num, by simp [hmc], HR2.out, HP5.out.set6 _, ?_⟩
              rw [Hid, scells_snoc]
              exact own_setOld HO5.out _ _ (Nat.lt_succ_self M)
            case measure => simp [intOf]; omega
          · skip
            simp only [gt3]
            go_simp
            refine HT.out.mono ?_
            rintro q w3 ⟨rfl, hR3, hO3⟩
            have HP3 := hid (HPd.out.go hO3 hR3 HSH.out)
            have HO3 := hid (own_only HOd.out hO3 (Nat.lt_succ_of_lt HPd.out.bm))
            have hbel3 := HP3.out.bel
            have c63 := (seven_cells HP3.out.m).2.2.2.2.2.2
            have c6a : ∀ o : Obj, (w3.alloc o).cell? ⟨M, 6, none⟩ = some (.slice Ai c ci) := fun o => (seven_cells (HP3.out.keep ((Below.refl _ _).alloc HP3.out.lt o)).m).2.2.2.2.2.2
            have hM3 := HP3.out.lt
            clear hR3 hO3
            go_wp2_with fail
            refine hK.out _ _ ?_ (fun hHeld2 => ?_)
            focus
              first | with_reducible assumption | (repeat' (first | with_reducible assumption | with_reducible refine below_drew ?_ | with_reducible refine bel_alloc ?_ _))
            clear hHeld
            have hHeld := hHeld2
            clear hHeld2 hK K
            try simp only [gt6, Act.put]
            refine wpAnyH_ready (rs := [1, 4]) (by kernel_rfl) (by simp) ?_
            refine (AllReadyH.cons rfl (fun K hK => ?_) (AllReadyH.cons rfl (fun K hK => ?_) AllReadyH.nil))
            · skip
              simp only [gt3]
              go_simp
              refine hK.out _ _ ?_ (fun hHeld2 => ?_)
              focus
                first | with_reducible assumption | (repeat' (first | with_reducible assumption | with_reducible refine below_drew ?_ | with_reducible refine bel_alloc ?_ _))
              clear hHeld
              have hHeld := hHeld2
              clear hHeld2 hK K
              try simp only [gt6, Act.put]
              refine wpAnyH_ready (rs := [4]) (by kernel_rfl) (by simp) ?_
              refine (AllReadyH.cons rfl (fun K hK => ?_) AllReadyH.nil)
              simp only [gt3]
              go_simp
              refine hK.out _ _ ?_ (fun hHeld2 => ?_)
              focus
                first | with_reducible assumption | (repeat' (first | with_reducible assumption | with_reducible refine below_drew ?_ | with_reducible refine bel_alloc ?_ _))
              clear hHeld
              have hHeld := hHeld2
              clear hHeld2 hK K
              try simp only [gt6, Act.put]
              refine wpAnyH_ready (rs := [5]) (by kernel_rfl) (by simp) ?_
              refine (AllReadyH.cons rfl (fun K hK => ?_) AllReadyH.nil)
              refine step_append_sl rfl (.tmp 58) (.tmp 61) 44 rfl (M + 1) 9 Tryz.underlying44 info_str rfl (by omega) rfl (own_keep HO3.out ((Below.refl _ _).alloc (Nat.le_refl _) _)) rfl (Sl.lit _ _ 1 1 #[.string (str sx)] rfl (by unfold maxLen; omega)) (by simp [Value.oneCell']) (show c + 1 ≤ maxLen by unfold maxLen; omega) (show (c + 1) * 16 ≤ 140737488355328 by omega) (Nat.le_trans hM3 (Below.size ((Below.refl w3.heap.size w3).alloc (Nat.le_refl _) _))) ?_
              intro v5 w5 ho5 hb5 _ _
              have HP5 := hid (HP3.out.keep (((Below.refl _ _).alloc hM3 _).trans hb5))
              obtain ⟨A5, c5, rfl, _⟩ := Sl.of_own ho5
              have HO5 := hid ho5
              have c65 := (seven_cells HP5.out.m).2.2.2.2.2.2
              have f65 := (seven_frz HP5.out.m).2.2.2.2.2.2
              have hbel5 := HP5.out.bel
              have hbel6 := fun v => RowKit.Below.setCell (p := ⟨M, 6, none⟩) HP5.out.bel hMW v
              clear hb5 ho5
              refine hK.out _ _ ?_ (fun hHeld2 => ?_)
              focus
                exact hbel5
              clear hHeld
              have hHeld := hHeld2
              clear hHeld2 hK K
              try simp only [gt6, Act.put]
              refine tkA 6 ?_ rfl ?_ (by assumption) ?_; rotate_left; focus (intro U hU; (try dsimp only at hU); go_simp; try (with_reducible rfl))
              simp only [gt6, Act.put]
              refine wpAnyH_ready (rs := [7]) (by kernel_rfl) (by simp) ?_
              refine (AllReadyH.cons rfl (fun K hK => ?_) AllReadyH.nil)
              simp only [gt3]
              go_simp
              refine hK.out _ _ ?_ (fun hHeld2 => ?_)
              focus
                exact hbel6 _
              clear hHeld
              have hHeld := hHeld2
              clear hHeld2 hK K
              try simp only [gt6, Act.put]
              refine wpAnyH_done (by kernel_rfl) ?_ _
              clear hHeld c6 c63 c6a c65 f65 hbel hbel3 hbel5 hbel6
              go_wp2
              go_roundw
              case rel =>
                refine ⟨c + 1, A5, c5, m ++ [sx], l2, e2, by omega, by go_num, by simp [hmc], HR2.out, HP5.out.set6 _, ?_⟩
                rw [Hid, scells_snoc]
                exact own_setOld HO5.out _ _ (Nat.lt_succ_self M)
              case measure => simp [intOf]; omega
            · skip
              simp only [gt3]
              go_simp
              refine hK.out _ _ ?_ (fun hHeld2 => ?_)
              focus
                first | with_reducible assumption | (repeat' (first | with_reducible assumption | with_reducible refine below_drew ?_ | with_reducible refine bel_alloc ?_ _))
              clear hHeld
              have hHeld := hHeld2
              clear hHeld2 hK K
              try simp only [gt6, Act.put]
              refine wpAnyH_ready (rs := [1]) (by kernel_rfl) (by simp) ?_
              refine (AllReadyH.cons rfl (fun K hK => ?_) AllReadyH.nil)
              simp only [gt3]
              go_simp
              refine hK.out _ _ ?_ (fun hHeld2 => ?_)
              focus
                first | with_reducible assumption | (repeat' (first | with_reducible assumption | with_reducible refine below_drew ?_ | with_reducible refine bel_alloc ?_ _))
              clear hHeld
              have hHeld := hHeld2
              clear hHeld2 hK K
              try simp only [gt6, Act.put]
              refine wpAnyH_ready (rs := [5]) (by kernel_rfl) (by simp) ?_
              refine (AllReadyH.cons rfl (fun K hK => ?_) AllReadyH.nil)
              refine step_append_sl rfl (.tmp 58) (.tmp 61) 44 rfl (M + 1) 9 Tryz.underlying44 info_str rfl (by omega) rfl (own_keep HO3.out ((Below.refl _ _).alloc (Nat.le_refl _) _)) rfl (Sl.lit _ _ 1 1 #[.string (str sx)] rfl (by unfold maxLen; omega)) (by simp [Value.oneCell']) (show c + 1 ≤ maxLen by unfold maxLen; omega) (show (c + 1) * 16 ≤ 140737488355328 by omega) (Nat.le_trans hM3 (Below.size ((Below.refl w3.heap.size w3).alloc (Nat.le_refl _) _))) ?_
              intro v5 w5 ho5 hb5 _ _
              have HP5 := hid (HP3.out.keep (((Below.refl _ _).alloc hM3 _).trans hb5))
              obtain ⟨A5, c5, rfl, _⟩ := Sl.of_own ho5
              have HO5 := hid ho5
              have c65 := (seven_cells HP5.out.m).2.2.2.2.2.2
              have f65 := (seven_frz HP5.out.m).2.2.2.2.2.2
              have hbel5 := HP5.out.bel
              have hbel6 := fun v => RowKit.Below.setCell (p := ⟨M, 6, none⟩) HP5.out.bel hMW v
              clear hb5 ho5
              refine hK.out _ _ ?_ (fun hHeld2 => ?_)
              focus
                exact hbel5
              clear hHeld
              have hHeld := hHeld2
              clear hHeld2 hK K
              try simp only [gt6, Act.put]
              refine tkA 6 ?_ rfl ?_ (by assumption) ?_; rotate_left; focus (intro U hU; (try dsimp only at hU); go_simp; try (with_reducible rfl))
              simp only [gt6, Act.put]
              refine wpAnyH_ready (rs := [7]) (by kernel_rfl) (by simp) ?_
              refine (AllReadyH.cons rfl (fun K hK => ?_) AllReadyH.nil)
              simp only [gt3]
              go_simp
              refine hK.out _ _ ?_ (fun hHeld2 => ?_)
              focus
                exact hbel6 _
              clear hHeld
              have hHeld := hHeld2
              clear hHeld2 hK K
              try simp only [gt6, Act.put]
              refine wpAnyH_done (by kernel_rfl) ?_ _
              clear hHeld c6 c63 c6a c65 f65 hbel hbel3 hbel5 hbel6
              go_wp2
              go_roundw
              case rel =>
                refine ⟨c + 1, A5, c5, m ++ [sx], l2, e2, by omega, by go_num, by simp [hmc], HR2.out, HP5.out.set6 _, ?_⟩
                rw [Hid, scells_snoc]
                exact own_setOld HO5.out _ _ (Nat.lt_succ_self M)
              case measure => simp [intOf]; omega
        · obtain rfl : c = n := by omega
          have hge : ¬ (c : Int) < (c : Int) := by omega
          have hxs : xs = m ∧ lx = li ∧ ex = ei := by
            have h1 := hqx.out
            rw [HR.out, Nat.sub_self] at h1
            simpa [rts] using h1
          obtain ⟨rfl, rfl, rfl⟩ := hxs
          have HE := hid (rrEnd_any B lx ex wr HP.out.b)
          rw [← hqk.out] at HE
          have HLS := hid (rts_le c ln en)
          rw [← hqx.out] at HLS
          simp only at HLS
          obtain ⟨p0, p1, p2, p3, p4, p5, p6⟩ := seven_cells HP.out.m
          obtain ⟨g0, g1, g2, g3, g4, g5, g6⟩ := seven_cells HP.out.r
          obtain ⟨h0, h1, h2, h3, h4, h5, h6⟩ := seven_frz HP.out.r
          have hRM : W.heap.size ≠ M := by have := HP.out.rb; have := HP.out.bm; omega
          by_cases he : vk = 0
          · subst he
            rw [if_pos rfl] at HPR
            go_wp2_with (go_at_call 102; refine HE.out.mono ?_; rintro x w' ⟨rfl, rfl⟩)
            obtain ⟨r0, r1, r2, r3, r4, r5, r6⟩ := seven_cells (put7_heap HP.out.r (.int .i64 (k : Nat)) (.int .i64 (j : Nat)) (.int .i64 (t : Nat)) (.int .i64 (wk : Nat)) (.int .i64 (s : Nat)) (.int .i64 (p : Nat)) (.slice Ai c ci))
            simp only [put7] at r0 r1 r2 r3 r4 r5 r6
            rw [HPR.out]
            refine bodyPost_ret (v := .tuple #[.agg #[.int .i64 (k : Nat), .int .i64 (j : Nat), .int .i64 (t : Nat), .int .i64 (wk : Nat), .int .i64 (s : Nat), .int .i64 (p : Nat), .slice Ai c ci], .int .i64 0]) (by simp [results, Tryz.results72, go_sem, r0, r1, r2, r3, r4, r5, r6]) rfl ⟨Ai, ci, by simp only [rcc, hmc], ⟨?_, HLS.out.2⟩, put7_below HP.out.bel (Nat.le_refl _) _ _ _ _ _ _ _⟩
            simp only [hmc]
            exact own_mono (put7_own HO.out (by have := HP.out.rb; have := HP.out.bm; omega) _ _ _ _ _ _ _) (by have := HP.out.rb; have := HP.out.bm; omega)
          · rw [if_neg he] at HPR
            have hne : (vk != 0) = true := by simp [he]
            go_wp2_with (go_at_call 102; refine HE.out.mono ?_; rintro x w' ⟨rfl, rfl⟩)
            obtain ⟨r0, r1, r2, r3, r4, r5, r6⟩ := seven_cells (put7_heap HP.out.r (.int .i64 0) (.int .i64 0) (.int .i64 0) (.int .i64 0) (.int .i64 0) (.int .i64 0) (.slice none 0 0))
            simp only [put7] at r0 r1 r2 r3 r4 r5 r6
            rw [HPR.out]
            refine bodyPost_ret (v := .tuple #[.agg #[.int .i64 0, .int .i64 0, .int .i64 0, .int .i64 0, .int .i64 0, .int .i64 0, .slice none 0 0], .int .i64 vk]) (by simp [results, Tryz.results72, go_sem, r0, r1, r2, r3, r4, r5, r6]) rfl ⟨none, 0, rfl, ⟨World.ownsRow_nil _ _ _ _, by simp⟩, put7_below HP.out.bel (Nat.le_refl _) _ _ _ _ _ _ _⟩
  · skip
    have hd : (((k : Nat) : Int) == 0) = false := by simp [h0]
    rw [if_neg (by omega)] at hta
    rw [hta.out] at hqa
    obtain ⟨rfl, rfl⟩ : la = la0 ∧ ea = ea0 := by have := hqa.out; simp at this; exact this
    clear hta hqa h0 HK0
    go_upto_region 5 with (fail)
    refine at_world (fun w => PQ W w B M la ea k 0 0 0 0 0 (.slice none 0 0)) K ?_
    clear p0 p1 p2 p3 p4 p5 p6 f0 f1 f2 f3 f4 f5 f6
    clear K
    rintro zk K
    have HP0 := hid K
    obtain ⟨p0, p1, p2, p3, p4, p5, p6⟩ := seven_cells K.m
    obtain ⟨f0, f1, f2, f3, f4, f5, f6⟩ := seven_frz K.m
    have HT := hid (HJN.out B _ K.b K.ll)
    clear K
    go_wp2_with fail
    refine HT.out.mono ?_
    rintro x y5 ⟨rfl, hR, hO⟩
    have HK := hid (HP0.out.go hO hR HS0.out.2)
    clear HP0 hR hO HT p0 p1 p2 p3 p4 p5 p6 f0 f1 f2 f3 f4 f5 f6
    obtain ⟨p0, p1, p2, p3, p4, p5, p6⟩ := seven_cells HK.out.m
    obtain ⟨f0, f1, f2, f3, f4, f5, f6⟩ := seven_frz HK.out.m
    go_upto_region 6 with (fail)
    refine at_world (fun w => PQ W w B M lj0 ej0 k j 0 0 0 0 (.slice none 0 0)) (HK.out.set1 _) ?_
    clear HK p0 p1 p2 p3 p4 p5 p6 f0 f1 f2 f3 f4 f5 f6
    rintro z5 K
    have HK1 := hid K
    obtain ⟨p0, p1, p2, p3, p4, p5, p6⟩ := seven_cells K.m
    obtain ⟨f0, f1, f2, f3, f4, f5, f6⟩ := seven_frz K.m
    rcases Classical.em (j = 0) with h0 | h0
    · skip
      have hd : (((j : Nat) : Int) == 0) = true := by simp [h0]
      rw [if_pos (by omega)] at htj
      rw [htj.out] at hqj
      obtain ⟨rfl, hea⟩ : lj = lj0 ∧ ej = rdFail 3 ej0 := by have := hqj.out; simp at this; exact this
      have HF := hid (rrFail_any B lj ej0 3 _ K.b)
      rw [← hea] at HF
      clear htj hqj h0 K hea
      go_wp2_with fail
      refine HF.out.mono ?_
      rintro x yj ⟨⟨v, rfl⟩, hR, hO⟩
      have K := HK1.out.go hO hR (Nat.le_refl _)
      clear hR hO HF HK1
      go_upto_region 8 with (fail)
      refine at_world (fun w => PQ W w B M lj ej k j 0 0 0 0 (.slice none 0 0)) K ?_
      clear p0 p1 p2 p3 p4 p5 p6 f0 f1 f2 f3 f4 f5 f6
      clear K
      rintro zj K
      have HQ0 := hid K
      obtain ⟨p0, p1, p2, p3, p4, p5, p6⟩ := seven_cells K.m
      obtain ⟨f0, f1, f2, f3, f4, f5, f6⟩ := seven_frz K.m
      have HT := hid (rfield_any B 1 k 0 15 _ _ _ K.b K.ll (by omega))
      rw [← hqt.out] at HT
      simp only at HT
      clear K
      go_wp2_with fail
      refine HT.out.mono ?_
      rintro x u8 ⟨rfl, hR, hO⟩
      have HK := hid (HQ0.out.go hO hR HS.out.2.2.1)
      clear HQ0 hR hO HT hqt p0 p1 p2 p3 p4 p5 p6 f0 f1 f2 f3 f4 f5 f6
      obtain ⟨p0, p1, p2, p3, p4, p5, p6⟩ := seven_cells HK.out.m
      obtain ⟨f0, f1, f2, f3, f4, f5, f6⟩ := seven_frz HK.out.m
      go_upto_region 9 with (fail)
      refine at_world (fun w => PQ W w B M lt et k j t 0 0 0 (.slice none 0 0)) (HK.out.set2 _) ?_
      clear HK p0 p1 p2 p3 p4 p5 p6 f0 f1 f2 f3 f4 f5 f6
      rintro z8 K
      have HQ1 := hid K
      obtain ⟨p0, p1, p2, p3, p4, p5, p6⟩ := seven_cells K.m
      obtain ⟨f0, f1, f2, f3, f4, f5, f6⟩ := seven_frz K.m
      have HT := hid (rfield_any B 2 k 0 63 _ _ _ K.b K.ll (by omega))
      rw [← hqw.out] at HT
      simp only at HT
      clear K
      go_wp2_with fail
      refine HT.out.mono ?_
      rintro x u9 ⟨rfl, hR, hO⟩
      have HK := hid (HQ1.out.go hO hR HS.out.2.2.2.1)
      clear HQ1 hR hO HT hqw p0 p1 p2 p3 p4 p5 p6 f0 f1 f2 f3 f4 f5 f6
      obtain ⟨p0, p1, p2, p3, p4, p5, p6⟩ := seven_cells HK.out.m
      obtain ⟨f0, f1, f2, f3, f4, f5, f6⟩ := seven_frz HK.out.m
      go_upto_region 10 with (fail)
      refine at_world (fun w => PQ W w B M lw ew k j t wk 0 0 (.slice none 0 0)) (HK.out.set3 _) ?_
      clear HK p0 p1 p2 p3 p4 p5 p6 f0 f1 f2 f3 f4 f5 f6
      rintro z9 K
      have HQ2 := hid K
      obtain ⟨p0, p1, p2, p3, p4, p5, p6⟩ := seven_cells K.m
      obtain ⟨f0, f1, f2, f3, f4, f5, f6⟩ := seven_frz K.m
      have HT := hid (rfield_any B 3 k 0 7 _ _ _ K.b K.ll (by omega))
      rw [← hqs.out] at HT
      simp only at HT
      clear K
      go_wp2_with fail
      refine HT.out.mono ?_
      rintro x u10 ⟨rfl, hR, hO⟩
      have HK := hid (HQ2.out.go hO hR HS.out.2.2.2.2.1)
      clear HQ2 hR hO HT hqs p0 p1 p2 p3 p4 p5 p6 f0 f1 f2 f3 f4 f5 f6
      obtain ⟨p0, p1, p2, p3, p4, p5, p6⟩ := seven_cells HK.out.m
      obtain ⟨f0, f1, f2, f3, f4, f5, f6⟩ := seven_frz HK.out.m
      go_upto_region 11 with (fail)
      refine at_world (fun w => PQ W w B M ls es k j t wk s 0 (.slice none 0 0)) (HK.out.set4 _) ?_
      clear HK p0 p1 p2 p3 p4 p5 p6 f0 f1 f2 f3 f4 f5 f6
      rintro z10 K
      have HQ3 := hid K
      obtain ⟨p0, p1, p2, p3, p4, p5, p6⟩ := seven_cells K.m
      obtain ⟨f0, f1, f2, f3, f4, f5, f6⟩ := seven_frz K.m
      have HT := hid (rfield_any B 4 k 1 9 _ _ _ K.b K.ll (by omega))
      rw [← hqe.out] at HT
      simp only at HT
      clear K
      go_wp2_with fail
      refine HT.out.mono ?_
      rintro x u11 ⟨rfl, hR, hO⟩
      have HK := hid (HQ3.out.go hO hR HS.out.2.2.2.2.2.1)
      clear HQ3 hR hO HT hqe p0 p1 p2 p3 p4 p5 p6 f0 f1 f2 f3 f4 f5 f6
      obtain ⟨p0, p1, p2, p3, p4, p5, p6⟩ := seven_cells HK.out.m
      obtain ⟨f0, f1, f2, f3, f4, f5, f6⟩ := seven_frz HK.out.m
      go_upto_region 12 with (fail)
      refine at_world (fun w => PQ W w B M le ee k j t wk s p (.slice none 0 0)) (HK.out.set5 _) ?_
      clear HK p0 p1 p2 p3 p4 p5 p6 f0 f1 f2 f3 f4 f5 f6
      rintro z11 K
      have HQ4 := hid K
      obtain ⟨p0, p1, p2, p3, p4, p5, p6⟩ := seven_cells K.m
      obtain ⟨f0, f1, f2, f3, f4, f5, f6⟩ := seven_frz K.m
      have HT := hid (rfield_any B 5 k 1 16 _ _ _ K.b K.ll (by omega))
      rw [← hqn.out] at HT
      simp only at HT
      clear K
      go_wp2_with fail
      refine HT.out.mono ?_
      rintro x u12 ⟨rfl, hR, hO⟩
      have HK := hid (HQ4.out.go hO hR HS.out.2.2.2.2.2.2)
      clear HQ4 hR hO HT hqn p0 p1 p2 p3 p4 p5 p6 f0 f1 f2 f3 f4 f5 f6
      go_wp2_with fail
      go_loopw [7] (fun i wr => ∃ (c : Nat) (Ai : Option Addr) (ci : Nat) (m : List (List UInt8)) (li : List UInt8) (ei : Int), c ≤ n ∧ i = .int .i64 (c : Int) ∧ m.length = c ∧ Hid (rts n ln en = (m ++ (rts (n - c) li ei).1, (rts (n - c) li ei).2)) ∧ Hid (PQ W wr B M li ei k j t wk s p (.slice Ai c ci)) ∧ Hid (wr.ownsRow (M + 1) 9 1 (.slice Ai c ci) c (scells m))) (fun i _ => n - (intOf i).toNat)
      case atStart => exact ⟨0, none, 0, [], ln, en, by omega, rfl, rfl, by rw [Hid]; simp, HK.out, World.ownsRow_nil _ _ _ _⟩
      case round =>
        obtain ⟨c, Ai, ci, m, li, ei, hcn, rfl, hmc, HR, HP, HO⟩ := hrel
        by_cases hlt : c < n
        · have hlt2 : (c : Int) < (n : Int) := by omega
          have HR2 := hid (rts_step hlt HR.out)
          have HLE := hid (rdText_le li ei)
          have HSH := hid (rdText_short 200 li ei)
          have HPd := hid (HP.out.keep (w' := wr.drew) (below_drew (Below.refl _ _)))
          have HOd : Hid (wr.drew.ownsRow (M + 1) 9 1 (.slice Ai c ci) c (scells m)) := hid (own_keep HO.out (below_drew (Below.refl _ _)))
          have HT := hid (rrText_any B li ei 200 wr.drew HPd.out.b HPd.out.ll)
          have c6 := (seven_cells HP.out.m).2.2.2.2.2.2
          have hbel := HP.out.bel
          have hMW : W.heap.size ≤ M := by have := HP.out.rb; have := HP.out.bm; omega
          generalize rdText 200 li ei = r at *
          obtain ⟨sx, l2, e2⟩ := r
          simp only at HT HR2 HLE HSH
          go_upto_region 16 with (fail)
          refine wp_region_held_drew (S := fun U => RowKit.Below W.heap.size W U) (by kernel_rfl) (below_drew hbel) (fun hHeld => ?_)
          refine tkA 0 ?_ rfl ?_ (by assumption) ?_; rotate_left; focus (intro U hU; (try dsimp only at hU); go_simp; try (with_reducible rfl))
          simp only [gt6, Act.put]
          refine tkA 2 ?_ rfl ?_ (by assumption) ?_; rotate_left; focus (intro U hU; (try dsimp only at hU); go_simp; try (with_reducible rfl))
          simp only [gt6, Act.put]
          refine wpAnyH_ready (rs := [1, 3]) (by kernel_rfl) (by simp) ?_
          refine (AllReadyH.cons rfl (fun K hK => ?_) (AllReadyH.cons rfl (fun K hK => ?_) AllReadyH.nil))
          · skip
            simp only [gt3]
            go_simp
            refine hK.out _ _ ?_ (fun hHeld2 => ?_)
            focus
              first | with_reducible assumption | (repeat' (first | with_reducible assumption | with_reducible refine below_drew ?_ | with_reducible refine bel_alloc ?_ _))
            clear hHeld
            have hHeld := hHeld2
            clear hHeld2 hK K
            try simp only [gt6, Act.put]
            refine wpAnyH_ready (rs := [3]) (by kernel_rfl) (by simp) ?_
            refine AllReadyH.cons rfl (fun K hK => ?_) AllReadyH.nil
            simp only [gt3]
            go_simp
            refine HT.out.mono ?_
            rintro q w3 ⟨rfl, hR3, hO3⟩
            have HP3 := hid (HPd.out.go hO3 hR3 HSH.out)
            have HO3 := hid (own_only HOd.out hO3 (Nat.lt_succ_of_lt HPd.out.bm))
            have hbel3 := HP3.out.bel
            have c63 := (seven_cells HP3.out.m).2.2.2.2.2.2
            have c6a : ∀ o : Obj, (w3.alloc o).cell? ⟨M, 6, none⟩ = some (.slice Ai c ci) := fun o => (seven_cells (HP3.out.keep ((Below.refl _ _).alloc HP3.out.lt o)).m).2.2.2.2.2.2
            have hM3 := HP3.out.lt
            clear hR3 hO3
            go_wp2_with fail
            refine hK.out _ _ ?_ (fun hHeld2 => ?_)
            focus
              first | with_reducible assumption | (repeat' (first | with_reducible assumption | with_reducible refine below_drew ?_ | with_reducible refine bel_alloc ?_ _))
            clear hHeld
            have hHeld := hHeld2
            clear hHeld2 hK K
            try simp only [gt6, Act.put]
            refine wpAnyH_ready (rs := [4]) (by kernel_rfl) (by simp) ?_
            refine (AllReadyH.cons rfl (fun K hK => ?_) AllReadyH.nil)
            simp only [gt3]
            go_simp
            refine hK.out _ _ ?_ (fun hHeld2 => ?_)
            focus
              first | with_reducible assumption | (repeat' (first | with_reducible assumption | with_reducible refine below_drew ?_ | with_reducible refine bel_alloc ?_ _))
            clear hHeld
            have hHeld := hHeld2
            clear hHeld2 hK K
            try simp only [gt6, Act.put]
            refine wpAnyH_ready (rs := [5]) (by kernel_rfl) (by simp) ?_
            refine (AllReadyH.cons rfl (fun K hK => ?_) AllReadyH.nil)
            refine step_append_sl rfl (.tmp 58) (.tmp 61) 44 rfl (M + 1) 9 Tryz.underlying44 info_str rfl (by omega) rfl (own_keep HO3.out ((Below.refl _ _).alloc (Nat.le_refl _) _)) rfl (Sl.lit _ _ 1 1 #[.string (str sx)] rfl (by unfold maxLen; omega)) (by simp [Value.oneCell']) (show c + 1 ≤ maxLen by unfold maxLen; omega) (show (c + 1) * 16 ≤ 140737488355328 by omega) (Nat.le_trans hM3 (Below.size ((Below.refl w3.heap.size w3).alloc (Nat.le_refl _) _))) ?_
            intro v5 w5 ho5 hb5 _ _
            have HP5 := hid (HP3.out.keep (((Below.refl _ _).alloc hM3 _).trans hb5))
            obtain ⟨A5, c5, rfl, _⟩ := Sl.of_own ho5
            have HO5 := hid ho5
            have c65 := (seven_cells HP5.out.m).2.2.2.2.2.2
            have f65 := (seven_frz HP5.out.m).2.2.2.2.2.2
            have hbel5 := HP5.out.bel
            have hbel6 := fun v => RowKit.Below.setCell (p := ⟨M, 6, none⟩) HP5.out.bel hMW v
            clear hb5 ho5
            refine hK.out _ _ ?_ (fun hHeld2 => ?_)
            focus
              exact hbel5
            clear hHeld
            have hHeld := hHeld2
            clear hHeld2 hK K
            try simp only [gt6, Act.put]
            refine tkA 6 ?_ rfl ?_ (by assumption) ?_; rotate_left; focus (intro U hU; (try dsimp only at hU); go_simp; try (with_reducible rfl))
            simp only [gt6, Act.put]
            refine wpAnyH_ready (rs := [7]) (by kernel_rfl) (by simp) ?_
            refine (AllReadyH.cons rfl (fun K hK => ?_) AllReadyH.nil)
            simp only [gt3]
            go_simp
            refine hK.out _ _ ?_ (fun hHeld2 => ?_)
            focus
              exact hbel6 _
            clear hHeld
            have hHeld := hHeld2
            clear hHeld2 hK K
            try simp only [gt6, Act.put]
            refine wpAnyH_done (by kernel_rfl) ?_ _
            clear hHeld c6 c63 c6a c65 f65 hbel hbel3 hbel5 hbel6
            go_wp2
            go_roundw
            case rel =>
              refine ⟨c + 1, A5, c5, m ++ [sx], l2, e2, by omega, by go_num, by simp [hmc], HR2.out, HP5.out.set6 _, ?_⟩
              rw [Hid, scells_snoc]
              exact own_setOld HO5.out _ _ (Nat.lt_succ_self M)
            case measure => simp [intOf]; omega
          · skip
            simp only [gt3]
            go_simp
            refine HT.out.mono ?_
            rintro q w3 ⟨rfl, hR3, hO3⟩
            have HP3 := hid (HPd.out.go hO3 hR3 HSH.out)
            have HO3 := hid (own_only HOd.out hO3 (Nat.lt_succ_of_lt HPd.out.bm))
            have hbel3 := HP3.out.bel
            have c63 := (seven_cells HP3.out.m).2.2.2.2.2.2
            have c6a : ∀ o : Obj, (w3.alloc o).cell? ⟨M, 6, none⟩ = some (.slice Ai c ci) := fun o => (seven_cells (HP3.out.keep ((Below.refl _ _).alloc HP3.out.lt o)).m).2.2.2.2.2.2
            have hM3 := HP3.out.lt
            clear hR3 hO3
            go_wp2_with fail
            refine hK.out _ _ ?_ (fun hHeld2 => ?_)
            focus
              first | with_reducible assumption | (repeat' (first | with_reducible assumption | with_reducible refine below_drew ?_ | with_reducible refine bel_alloc ?_ _))
            clear hHeld
            have hHeld := hHeld2
            clear hHeld2 hK K
            try simp only [gt6, Act.put]
            refine wpAnyH_ready (rs := [1, 4]) (by kernel_rfl) (by simp) ?_
            refine (AllReadyH.cons rfl (fun K hK => ?_) (AllReadyH.cons rfl (fun K hK => ?_) AllReadyH.nil))
            · skip
              simp only [gt3]
              go_simp
              refine hK.out _ _ ?_ (fun hHeld2 => ?_)
              focus
                first | with_reducible assumption | (repeat' (first | with_reducible assumption | with_reducible refine below_drew ?_ | with_reducible refine bel_alloc ?_ _))
              clear hHeld
              have hHeld := hHeld2
              clear hHeld2 hK K
              try simp only [gt6, Act.put]
              refine wpAnyH_ready (rs := [4]) (by kernel_rfl) (by simp) ?_
              refine (AllReadyH.cons rfl (fun K hK => ?_) AllReadyH.nil)
              simp only [gt3]
              go_simp
              refine hK.out _ _ ?_ (fun hHeld2 => ?_)
              focus
                first | with_reducible assumption | (repeat' (first | with_reducible assumption | with_reducible refine below_drew ?_ | with_reducible refine bel_alloc ?_ _))
              clear hHeld
              have hHeld := hHeld2
              clear hHeld2 hK K
              try simp only [gt6, Act.put]
              refine wpAnyH_ready (rs := [5]) (by kernel_rfl) (by simp) ?_
              refine (AllReadyH.cons rfl (fun K hK => ?_) AllReadyH.nil)
              refine step_append_sl rfl (.tmp 58) (.tmp 61) 44 rfl (M + 1) 9 Tryz.underlying44 info_str rfl (by omega) rfl (own_keep HO3.out ((Below.refl _ _).alloc (Nat.le_refl _) _)) rfl (Sl.lit _ _ 1 1 #[.string (str sx)] rfl (by unfold maxLen; omega)) (by simp [Value.oneCell']) (show c + 1 ≤ maxLen by unfold maxLen; omega) (show (c + 1) * 16 ≤ 140737488355328 by omega) (Nat.le_trans hM3 (Below.size ((Below.refl w3.heap.size w3).alloc (Nat.le_refl _) _))) ?_
              intro v5 w5 ho5 hb5 _ _
              have HP5 := hid (HP3.out.keep (((Below.refl _ _).alloc hM3 _).trans hb5))
              obtain ⟨A5, c5, rfl, _⟩ := Sl.of_own ho5
              have HO5 := hid ho5
              have c65 := (seven_cells HP5.out.m).2.2.2.2.2.2
              have f65 := (seven_frz HP5.out.m).2.2.2.2.2.2
              have hbel5 := HP5.out.bel
              have hbel6 := fun v => RowKit.Below.setCell (p := ⟨M, 6, none⟩) HP5.out.bel hMW v
              clear hb5 ho5
              refine hK.out _ _ ?_ (fun hHeld2 => ?_)
              focus
                exact hbel5
              clear hHeld
              have hHeld := hHeld2
              clear hHeld2 hK K
              try simp only [gt6, Act.put]
              refine tkA 6 ?_ rfl ?_ (by assumption) ?_; rotate_left; focus (intro U hU; (try dsimp only at hU); go_simp; try (with_reducible rfl))
              simp only [gt6, Act.put]
              refine wpAnyH_ready (rs := [7]) (by kernel_rfl) (by simp) ?_
              refine (AllReadyH.cons rfl (fun K hK => ?_) AllReadyH.nil)
              simp only [gt3]
              go_simp
              refine hK.out _ _ ?_ (fun hHeld2 => ?_)
              focus
                exact hbel6 _
              clear hHeld
              have hHeld := hHeld2
              clear hHeld2 hK K
              try simp only [gt6, Act.put]
              refine wpAnyH_done (by kernel_rfl) ?_ _
              clear hHeld c6 c63 c6a c65 f65 hbel hbel3 hbel5 hbel6
              go_wp2
              go_roundw
              case rel =>
                refine ⟨c + 1, A5, c5, m ++ [sx], l2, e2, by omega, by go_num, by simp [hmc], HR2.out, HP5.out.set6 _, ?_⟩
                rw [Hid, scells_snoc]
                exact own_setOld HO5.out _ _ (Nat.lt_succ_self M)
              case measure => simp [intOf]; omega
            · skip
              simp only [gt3]
              go_simp
              refine hK.out _ _ ?_ (fun hHeld2 => ?_)
              focus
                first | with_reducible assumption | (repeat' (first | with_reducible assumption | with_reducible refine below_drew ?_ | with_reducible refine bel_alloc ?_ _))
              clear hHeld
              have hHeld := hHeld2
              clear hHeld2 hK K
              try simp only [gt6, Act.put]
              refine wpAnyH_ready (rs := [1]) (by kernel_rfl) (by simp) ?_
              refine (AllReadyH.cons rfl (fun K hK => ?_) AllReadyH.nil)
              simp only [gt3]
              go_simp
              refine hK.out _ _ ?_ (fun hHeld2 => ?_)
              focus
                first | with_reducible assumption | (repeat' (first | with_reducible assumption | with_reducible refine below_drew ?_ | with_reducible refine bel_alloc ?_ _))
              clear hHeld
              have hHeld := hHeld2
              clear hHeld2 hK K
              try simp only [gt6, Act.put]
              refine wpAnyH_ready (rs := [5]) (by kernel_rfl) (by simp) ?_
              refine (AllReadyH.cons rfl (fun K hK => ?_) AllReadyH.nil)
              refine step_append_sl rfl (.tmp 58) (.tmp 61) 44 rfl (M + 1) 9 Tryz.underlying44 info_str rfl (by omega) rfl (own_keep HO3.out ((Below.refl _ _).alloc (Nat.le_refl _) _)) rfl (Sl.lit _ _ 1 1 #[.string (str sx)] rfl (by unfold maxLen; omega)) (by simp [Value.oneCell']) (show c + 1 ≤ maxLen by unfold maxLen; omega) (show (c + 1) * 16 ≤ 140737488355328 by omega) (Nat.le_trans hM3 (Below.size ((Below.refl w3.heap.size w3).alloc (Nat.le_refl _) _))) ?_
              intro v5 w5 ho5 hb5 _ _
              have HP5 := hid (HP3.out.keep (((Below.refl _ _).alloc hM3 _).trans hb5))
              obtain ⟨A5, c5, rfl, _⟩ := Sl.of_own ho5
              have HO5 := hid ho5
              have c65 := (seven_cells HP5.out.m).2.2.2.2.2.2
              have f65 := (seven_frz HP5.out.m).2.2.2.2.2.2
              have hbel5 := HP5.out.bel
              have hbel6 := fun v => RowKit.Below.setCell (p := ⟨M, 6, none⟩) HP5.out.bel hMW v
              clear hb5 ho5
              refine hK.out _ _ ?_ (fun hHeld2 => ?_)
              focus
                exact hbel5
              clear hHeld
              have hHeld := hHeld2
              clear hHeld2 hK K
              try simp only [gt6, Act.put]
              refine tkA 6 ?_ rfl ?_ (by assumption) ?_; rotate_left; focus (intro U hU; (try dsimp only at hU); go_simp; try (with_reducible rfl))
              simp only [gt6, Act.put]
              refine wpAnyH_ready (rs := [7]) (by kernel_rfl) (by simp) ?_
              refine (AllReadyH.cons rfl (fun K hK => ?_) AllReadyH.nil)
              simp only [gt3]
              go_simp
              refine hK.out _ _ ?_ (fun hHeld2 => ?_)
              focus
                exact hbel6 _
              clear hHeld
              have hHeld := hHeld2
              clear hHeld2 hK K
              try simp only [gt6, Act.put]
              refine wpAnyH_done (by kernel_rfl) ?_ _
              clear hHeld c6 c63 c6a c65 f65 hbel hbel3 hbel5 hbel6
              go_wp2
              go_roundw
              case rel =>
                refine ⟨c + 1, A5, c5, m ++ [sx], l2, e2, by omega, by go_num, by simp [hmc], HR2.out, HP5.out.set6 _, ?_⟩
                rw [Hid, scells_snoc]
                exact own_setOld HO5.out _ _ (Nat.lt_succ_self M)
              case measure => simp [intOf]; omega
        · obtain rfl : c = n := by omega
          have hge : ¬ (c : Int) < (c : Int) := by omega
          have hxs : xs = m ∧ lx = li ∧ ex = ei := by
            have h1 := hqx.out
            rw [HR.out, Nat.sub_self] at h1
            simpa [rts] using h1
          obtain ⟨rfl, rfl, rfl⟩ := hxs
          have HE := hid (rrEnd_any B lx ex wr HP.out.b)
          rw [← hqk.out] at HE
          have HLS := hid (rts_le c ln en)
          rw [← hqx.out] at HLS
          simp only at HLS
          obtain ⟨p0, p1, p2, p3, p4, p5, p6⟩ := seven_cells HP.out.m
          obtain ⟨g0, g1, g2, g3, g4, g5, g6⟩ := seven_cells HP.out.r
          obtain ⟨h0, h1, h2, h3, h4, h5, h6⟩ := seven_frz HP.out.r
          have hRM : W.heap.size ≠ M := by have := HP.out.rb; have := HP.out.bm; omega
          by_cases he : vk = 0
          · subst he
            rw [if_pos rfl] at HPR
            go_wp2_with (go_at_call 102; refine HE.out.mono ?_; rintro x w' ⟨rfl, rfl⟩)
            obtain ⟨r0, r1, r2, r3, r4, r5, r6⟩ := seven_cells (put7_heap HP.out.r (.int .i64 (k : Nat)) (.int .i64 (j : Nat)) (.int .i64 (t : Nat)) (.int .i64 (wk : Nat)) (.int .i64 (s : Nat)) (.int .i64 (p : Nat)) (.slice Ai c ci))
            simp only [put7] at r0 r1 r2 r3 r4 r5 r6
            rw [HPR.out]
            refine bodyPost_ret (v := .tuple #[.agg #[.int .i64 (k : Nat), .int .i64 (j : Nat), .int .i64 (t : Nat), .int .i64 (wk : Nat), .int .i64 (s : Nat), .int .i64 (p : Nat), .slice Ai c ci], .int .i64 0]) (by simp [results, Tryz.results72, go_sem, r0, r1, r2, r3, r4, r5, r6]) rfl ⟨Ai, ci, by simp only [rcc, hmc], ⟨?_, HLS.out.2⟩, put7_below HP.out.bel (Nat.le_refl _) _ _ _ _ _ _ _⟩
            simp only [hmc]
            exact own_mono (put7_own HO.out (by have := HP.out.rb; have := HP.out.bm; omega) _ _ _ _ _ _ _) (by have := HP.out.rb; have := HP.out.bm; omega)
          · rw [if_neg he] at HPR
            have hne : (vk != 0) = true := by simp [he]
            go_wp2_with (go_at_call 102; refine HE.out.mono ?_; rintro x w' ⟨rfl, rfl⟩)
            obtain ⟨r0, r1, r2, r3, r4, r5, r6⟩ := seven_cells (put7_heap HP.out.r (.int .i64 0) (.int .i64 0) (.int .i64 0) (.int .i64 0) (.int .i64 0) (.int .i64 0) (.slice none 0 0))
            simp only [put7] at r0 r1 r2 r3 r4 r5 r6
            rw [HPR.out]
            refine bodyPost_ret (v := .tuple #[.agg #[.int .i64 0, .int .i64 0, .int .i64 0, .int .i64 0, .int .i64 0, .int .i64 0, .slice none 0 0], .int .i64 vk]) (by simp [results, Tryz.results72, go_sem, r0, r1, r2, r3, r4, r5, r6]) rfl ⟨none, 0, rfl, ⟨World.ownsRow_nil _ _ _ _, by simp⟩, put7_below HP.out.bel (Nat.le_refl _) _ _ _ _ _ _ _⟩
    · skip
      have hd : (((j : Nat) : Int) == 0) = false := by simp [h0]
      rw [if_neg (by omega)] at htj
      rw [htj.out] at hqj
      obtain ⟨rfl, rfl⟩ : lj = lj0 ∧ ej = ej0 := by have := hqj.out; simp at this; exact this
      clear htj hqj h0 HK1
      go_upto_region 8 with (fail)
      refine at_world (fun w => PQ W w B M lj ej k j 0 0 0 0 (.slice none 0 0)) K ?_
      clear p0 p1 p2 p3 p4 p5 p6 f0 f1 f2 f3 f4 f5 f6
      clear K
      rintro zj K
      have HQ0 := hid K
      obtain ⟨p0, p1, p2, p3, p4, p5, p6⟩ := seven_cells K.m
      obtain ⟨f0, f1, f2, f3, f4, f5, f6⟩ := seven_frz K.m
      have HT := hid (rfield_any B 1 k 0 15 _ _ _ K.b K.ll (by omega))
      rw [← hqt.out] at HT
      simp only at HT
      clear K
      go_wp2_with fail
      refine HT.out.mono ?_
      rintro x u8 ⟨rfl, hR, hO⟩
      have HK := hid (HQ0.out.go hO hR HS.out.2.2.1)
      clear HQ0 hR hO HT hqt p0 p1 p2 p3 p4 p5 p6 f0 f1 f2 f3 f4 f5 f6
      obtain ⟨p0, p1, p2, p3, p4, p5, p6⟩ := seven_cells HK.out.m
      obtain ⟨f0, f1, f2, f3, f4, f5, f6⟩ := seven_frz HK.out.m
      go_upto_region 9 with (fail)
      refine at_world (fun w => PQ W w B M lt et k j t 0 0 0 (.slice none 0 0)) (HK.out.set2 _) ?_
      clear HK p0 p1 p2 p3 p4 p5 p6 f0 f1 f2 f3 f4 f5 f6
      rintro z8 K
      have HQ1 := hid K
      obtain ⟨p0, p1, p2, p3, p4, p5, p6⟩ := seven_cells K.m
      obtain ⟨f0, f1, f2, f3, f4, f5, f6⟩ := seven_frz K.m
      have HT := hid (rfield_any B 2 k 0 63 _ _ _ K.b K.ll (by omega))
      rw [← hqw.out] at HT
      simp only at HT
      clear K
      go_wp2_with fail
      refine HT.out.mono ?_
      rintro x u9 ⟨rfl, hR, hO⟩
      have HK := hid (HQ1.out.go hO hR HS.out.2.2.2.1)
      clear HQ1 hR hO HT hqw p0 p1 p2 p3 p4 p5 p6 f0 f1 f2 f3 f4 f5 f6
      obtain ⟨p0, p1, p2, p3, p4, p5, p6⟩ := seven_cells HK.out.m
      obtain ⟨f0, f1, f2, f3, f4, f5, f6⟩ := seven_frz HK.out.m
      go_upto_region 10 with (fail)
      refine at_world (fun w => PQ W w B M lw ew k j t wk 0 0 (.slice none 0 0)) (HK.out.set3 _) ?_
      clear HK p0 p1 p2 p3 p4 p5 p6 f0 f1 f2 f3 f4 f5 f6
      rintro z9 K
      have HQ2 := hid K
      obtain ⟨p0, p1, p2, p3, p4, p5, p6⟩ := seven_cells K.m
      obtain ⟨f0, f1, f2, f3, f4, f5, f6⟩ := seven_frz K.m
      have HT := hid (rfield_any B 3 k 0 7 _ _ _ K.b K.ll (by omega))
      rw [← hqs.out] at HT
      simp only at HT
      clear K
      go_wp2_with fail
      refine HT.out.mono ?_
      rintro x u10 ⟨rfl, hR, hO⟩
      have HK := hid (HQ2.out.go hO hR HS.out.2.2.2.2.1)
      clear HQ2 hR hO HT hqs p0 p1 p2 p3 p4 p5 p6 f0 f1 f2 f3 f4 f5 f6
      obtain ⟨p0, p1, p2, p3, p4, p5, p6⟩ := seven_cells HK.out.m
      obtain ⟨f0, f1, f2, f3, f4, f5, f6⟩ := seven_frz HK.out.m
      go_upto_region 11 with (fail)
      refine at_world (fun w => PQ W w B M ls es k j t wk s 0 (.slice none 0 0)) (HK.out.set4 _) ?_
      clear HK p0 p1 p2 p3 p4 p5 p6 f0 f1 f2 f3 f4 f5 f6
      rintro z10 K
      have HQ3 := hid K
      obtain ⟨p0, p1, p2, p3, p4, p5, p6⟩ := seven_cells K.m
      obtain ⟨f0, f1, f2, f3, f4, f5, f6⟩ := seven_frz K.m
      have HT := hid (rfield_any B 4 k 1 9 _ _ _ K.b K.ll (by omega))
      rw [← hqe.out] at HT
      simp only at HT
      clear K
      go_wp2_with fail
      refine HT.out.mono ?_
      rintro x u11 ⟨rfl, hR, hO⟩
      have HK := hid (HQ3.out.go hO hR HS.out.2.2.2.2.2.1)
      clear HQ3 hR hO HT hqe p0 p1 p2 p3 p4 p5 p6 f0 f1 f2 f3 f4 f5 f6
      obtain ⟨p0, p1, p2, p3, p4, p5, p6⟩ := seven_cells HK.out.m
      obtain ⟨f0, f1, f2, f3, f4, f5, f6⟩ := seven_frz HK.out.m
      go_upto_region 12 with (fail)
      refine at_world (fun w => PQ W w B M le ee k j t wk s p (.slice none 0 0)) (HK.out.set5 _) ?_
      clear HK p0 p1 p2 p3 p4 p5 p6 f0 f1 f2 f3 f4 f5 f6
      rintro z11 K
      have HQ4 := hid K
      obtain ⟨p0, p1, p2, p3, p4, p5, p6⟩ := seven_cells K.m
      obtain ⟨f0, f1, f2, f3, f4, f5, f6⟩ := seven_frz K.m
      have HT := hid (rfield_any B 5 k 1 16 _ _ _ K.b K.ll (by omega))
      rw [← hqn.out] at HT
      simp only at HT
      clear K
      go_wp2_with fail
      refine HT.out.mono ?_
      rintro x u12 ⟨rfl, hR, hO⟩
      have HK := hid (HQ4.out.go hO hR HS.out.2.2.2.2.2.2)
      clear HQ4 hR hO HT hqn p0 p1 p2 p3 p4 p5 p6 f0 f1 f2 f3 f4 f5 f6
      go_wp2_with fail
      go_loopw [7] (fun i wr => ∃ (c : Nat) (Ai : Option Addr) (ci : Nat) (m : List (List UInt8)) (li : List UInt8) (ei : Int), c ≤ n ∧ i = .int .i64 (c : Int) ∧ m.length = c ∧ Hid (rts n ln en = (m ++ (rts (n - c) li ei).1, (rts (n - c) li ei).2)) ∧ Hid (PQ W wr B M li ei k j t wk s p (.slice Ai c ci)) ∧ Hid (wr.ownsRow (M + 1) 9 1 (.slice Ai c ci) c (scells m))) (fun i _ => n - (intOf i).toNat)
      case atStart => exact ⟨0, none, 0, [], ln, en, by omega, rfl, rfl, by rw [Hid]; simp, HK.out, World.ownsRow_nil _ _ _ _⟩
      case round =>
        obtain ⟨c, Ai, ci, m, li, ei, hcn, rfl, hmc, HR, HP, HO⟩ := hrel
        by_cases hlt : c < n
        · have hlt2 : (c : Int) < (n : Int) := by omega
          have HR2 := hid (rts_step hlt HR.out)
          have HLE := hid (rdText_le li ei)
          have HSH := hid (rdText_short 200 li ei)
          have HPd := hid (HP.out.keep (w' := wr.drew) (below_drew (Below.refl _ _)))
          have HOd : Hid (wr.drew.ownsRow (M + 1) 9 1 (.slice Ai c ci) c (scells m)) := hid (own_keep HO.out (below_drew (Below.refl _ _)))
          have HT := hid (rrText_any B li ei 200 wr.drew HPd.out.b HPd.out.ll)
          have c6 := (seven_cells HP.out.m).2.2.2.2.2.2
          have hbel := HP.out.bel
          have hMW : W.heap.size ≤ M := by have := HP.out.rb; have := HP.out.bm; omega
          generalize rdText 200 li ei = r at *
          obtain ⟨sx, l2, e2⟩ := r
          simp only at HT HR2 HLE HSH
          go_upto_region 16 with (fail)
          refine wp_region_held_drew (S := fun U => RowKit.Below W.heap.size W U) (by kernel_rfl) (below_drew hbel) (fun hHeld => ?_)
          refine tkA 0 ?_ rfl ?_ (by assumption) ?_; rotate_left; focus (intro U hU; (try dsimp only at hU); go_simp; try (with_reducible rfl))
          simp only [gt6, Act.put]
          refine tkA 2 ?_ rfl ?_ (by assumption) ?_; rotate_left; focus (intro U hU; (try dsimp only at hU); go_simp; try (with_reducible rfl))
          simp only [gt6, Act.put]
          refine wpAnyH_ready (rs := [1, 3]) (by kernel_rfl) (by simp) ?_
          refine (AllReadyH.cons rfl (fun K hK => ?_) (AllReadyH.cons rfl (fun K hK => ?_) AllReadyH.nil))
          · skip
            simp only [gt3]
            go_simp
            refine hK.out _ _ ?_ (fun hHeld2 => ?_)
            focus
              first | with_reducible assumption | (repeat' (first | with_reducible assumption | with_reducible refine below_drew ?_ | with_reducible refine bel_alloc ?_ _))
            clear hHeld
            have hHeld := hHeld2
            clear hHeld2 hK K
            try simp only [gt6, Act.put]
            refine wpAnyH_ready (rs := [3]) (by kernel_rfl) (by simp) ?_
            refine AllReadyH.cons rfl (fun K hK => ?_) AllReadyH.nil
            simp only [gt3]
            go_simp
            refine HT.out.mono ?_
            rintro q w3 ⟨rfl, hR3, hO3⟩
            have HP3 := hid (HPd.out.go hO3 hR3 HSH.out)
            have HO3 := hid (own_only HOd.out hO3 (Nat.lt_succ_of_lt HPd.out.bm))
            have hbel3 := HP3.out.bel
            have c63 := (seven_cells HP3.out.m).2.2.2.2.2.2
            have c6a : ∀ o : Obj, (w3.alloc o).cell? ⟨M, 6, none⟩ = some (.slice Ai c ci) := fun o => (seven_cells (HP3.out.keep ((Below.refl _ _).alloc HP3.out.lt o)).m).2.2.2.2.2.2
            have hM3 := HP3.out.lt
            clear hR3 hO3
            go_wp2_with fail
            refine hK.out _ _ ?_ (fun hHeld2 => ?_)
            focus
              first | with_reducible assumption | (repeat' (first | with_reducible assumption | with_reducible refine below_drew ?_ | with_reducible refine bel_alloc ?_ _))
            clear hHeld
            have hHeld := hHeld2
            clear hHeld2 hK K
            try simp only [gt6, Act.put]
            refine wpAnyH_ready (rs := [4]) (by kernel_rfl) (by simp) ?_
            refine (AllReadyH.cons rfl (fun K hK => ?_) AllReadyH.nil)
            simp only [gt3]
            go_simp
            refine hK.out _ _ ?_ (fun hHeld2 => ?_)
            focus
              first | with_reducible assumption | (repeat' (first | with_reducible assumption | with_reducible refine below_drew ?_ | with_reducible refine bel_alloc ?_ _))
            clear hHeld
            have hHeld := hHeld2
            clear hHeld2 hK K
            try simp only [gt6, Act.put]
            refine wpAnyH_ready (rs := [5]) (by kernel_rfl) (by simp) ?_
            refine (AllReadyH.cons rfl (fun K hK => ?_) AllReadyH.nil)
            refine step_append_sl rfl (.tmp 58) (.tmp 61) 44 rfl (M + 1) 9 Tryz.underlying44 info_str rfl (by omega) rfl (own_keep HO3.out ((Below.refl _ _).alloc (Nat.le_refl _) _)) rfl (Sl.lit _ _ 1 1 #[.string (str sx)] rfl (by unfold maxLen; omega)) (by simp [Value.oneCell']) (show c + 1 ≤ maxLen by unfold maxLen; omega) (show (c + 1) * 16 ≤ 140737488355328 by omega) (Nat.le_trans hM3 (Below.size ((Below.refl w3.heap.size w3).alloc (Nat.le_refl _) _))) ?_
            intro v5 w5 ho5 hb5 _ _
            have HP5 := hid (HP3.out.keep (((Below.refl _ _).alloc hM3 _).trans hb5))
            obtain ⟨A5, c5, rfl, _⟩ := Sl.of_own ho5
            have HO5 := hid ho5
            have c65 := (seven_cells HP5.out.m).2.2.2.2.2.2
            have f65 := (seven_frz HP5.out.m).2.2.2.2.2.2
            have hbel5 := HP5.out.bel
            have hbel6 := fun v => RowKit.Below.setCell (p := ⟨M, 6, none⟩) HP5.out.bel hMW v
            clear hb5 ho5
            refine hK.out _ _ ?_ (fun hHeld2 => ?_)
            focus
              exact hbel5
            clear hHeld
            have hHeld := hHeld2
            clear hHeld2 hK K
            try simp only [gt6, Act.put]
            refine tkA 6 ?_ rfl ?_ (by assumption) ?_; rotate_left; focus (intro U hU; (try dsimp only at hU); go_simp; try (with_reducible rfl))
            simp only [gt6, Act.put]
            refine wpAnyH_ready (rs := [7]) (by kernel_rfl) (by simp) ?_
            refine (AllReadyH.cons rfl (fun K hK => ?_) AllReadyH.nil)
            simp only [gt3]
            go_simp
            refine hK.out _ _ ?_ (fun hHeld2 => ?_)
            focus
              exact hbel6 _
            clear hHeld
            have hHeld := hHeld2
            clear hHeld2 hK K
            try simp only [gt6, Act.put]
            refine wpAnyH_done (by kernel_rfl) ?_ _
            clear hHeld c6 c63 c6a c65 f65 hbel hbel3 hbel5 hbel6
            go_wp2
            go_roundw
            case rel =>
              refine ⟨c + 1, A5, c5, m ++ [sx], l2, e2, by omega, by go_num, by simp [hmc], HR2.out, HP5.out.set6 _, ?_⟩
              rw [Hid, scells_snoc]
              exact own_setOld HO5.out _ _ (Nat.lt_succ_self M)
            case measure => simp [intOf]; omega
          · skip
            simp only [gt3]
            go_simp
            refine HT.out.mono ?_
            rintro q w3 ⟨rfl, hR3, hO3⟩
            have HP3 := hid (HPd.out.go hO3 hR3 HSH.out)
            have HO3 := hid (own_only HOd.out hO3 (Nat.lt_succ_of_lt HPd.out.bm))
            have hbel3 := HP3.out.bel
            have c63 := (seven_cells HP3.out.m).2.2.2.2.2.2
            have c6a : ∀ o : Obj, (w3.alloc o).cell? ⟨M, 6, none⟩ = some (.slice Ai c ci) := fun o => (seven_cells (HP3.out.keep ((Below.refl _ _).alloc HP3.out.lt o)).m).2.2.2.2.2.2
            have hM3 := HP3.out.lt
            clear hR3 hO3
            go_wp2_with fail
            refine hK.out _ _ ?_ (fun hHeld2 => ?_)
            focus
              first | with_reducible assumption | (repeat' (first | with_reducible assumption | with_reducible refine below_drew ?_ | with_reducible refine bel_alloc ?_ _))
            clear hHeld
            have hHeld := hHeld2
            clear hHeld2 hK K
            try simp only [gt6, Act.put]
            refine wpAnyH_ready (rs := [1, 4]) (by kernel_rfl) (by simp) ?_
            refine (AllReadyH.cons rfl (fun K hK => ?_) (AllReadyH.cons rfl (fun K hK => ?_) AllReadyH.nil))
            · skip
              simp only [gt3]
              go_simp
              refine hK.out _ _ ?_ (fun hHeld2 => ?_)
              focus
                first | with_reducible assumption | (repeat' (first | with_reducible assumption | with_reducible refine below_drew ?_ | with_reducible refine bel_alloc ?_ _))
              clear hHeld
              have hHeld := hHeld2
              clear hHeld2 hK K
              try simp only [gt6, Act.put]
              refine wpAnyH_ready (rs := [4]) (by kernel_rfl) (by simp) ?_
              refine (AllReadyH.cons rfl (fun K hK => ?_) AllReadyH.nil)
              simp only [gt3]
              go_simp
              refine hK.out _ _ ?_ (fun hHeld2 => ?_)
              focus
                first | with_reducible assumption | (repeat' (first | with_reducible assumption | with_reducible refine below_drew ?_ | with_reducible refine bel_alloc ?_ _))
              clear hHeld
              have hHeld := hHeld2
              clear hHeld2 hK K
              try simp only [gt6, Act.put]
              refine wpAnyH_ready (rs := [5]) (by kernel_rfl) (by simp) ?_
              refine (AllReadyH.cons rfl (fun K hK => ?_) AllReadyH.nil)
              refine step_append_sl rfl (.tmp 58) (.tmp 61) 44 rfl (M + 1) 9 Tryz.underlying44 info_str rfl (by omega) rfl (own_keep HO3.out ((Below.refl _ _).alloc (Nat.le_refl _) _)) rfl (Sl.lit _ _ 1 1 #[.string (str sx)] rfl (by unfold maxLen; omega)) (by simp [Value.oneCell']) (show c + 1 ≤ maxLen by unfold maxLen; omega) (show (c + 1) * 16 ≤ 140737488355328 by omega) (Nat.le_trans hM3 (Below.size ((Below.refl w3.heap.size w3).alloc (Nat.le_refl _) _))) ?_
              intro v5 w5 ho5 hb5 _ _
              have HP5 := hid (HP3.out.keep (((Below.refl _ _).alloc hM3 _).trans hb5))
              obtain ⟨A5, c5, rfl, _⟩ := Sl.of_own ho5
              have HO5 := hid ho5
              have c65 := (seven_cells HP5.out.m).2.2.2.2.2.2
              have f65 := (seven_frz HP5.out.m).2.2.2.2.2.2
              have hbel5 := HP5.out.bel
              have hbel6 := fun v => RowKit.Below.setCell (p := ⟨M, 6, none⟩) HP5.out.bel hMW v
              clear hb5 ho5
              refine hK.out _ _ ?_ (fun hHeld2 => ?_)
              focus
                exact hbel5
              clear hHeld
              have hHeld := hHeld2
              clear hHeld2 hK K
              try simp only [gt6, Act.put]
              refine tkA 6 ?_ rfl ?_ (by assumption) ?_; rotate_left; focus (intro U hU; (try dsimp only at hU); go_simp; try (with_reducible rfl))
              simp only [gt6, Act.put]
              refine wpAnyH_ready (rs := [7]) (by kernel_rfl) (by simp) ?_
              refine (AllReadyH.cons rfl (fun K hK => ?_) AllReadyH.nil)
              simp only [gt3]
              go_simp
              refine hK.out _ _ ?_ (fun hHeld2 => ?_)
              focus
                exact hbel6 _
              clear hHeld
              have hHeld := hHeld2
              clear hHeld2 hK K
              try simp only [gt6, Act.put]
              refine wpAnyH_done (by kernel_rfl) ?_ _
              clear hHeld c6 c63 c6a c65 f65 hbel hbel3 hbel5 hbel6
              go_wp2
              go_roundw
              case rel =>
                refine ⟨c + 1, A5, c5, m ++ [sx], l2, e2, by omega, by go_num, by simp [hmc], HR2.out, HP5.out.set6 _, ?_⟩
                rw [Hid, scells_snoc]
                exact own_setOld HO5.out _ _ (Nat.lt_succ_self M)
              case measure => simp [intOf]; omega
            · skip
              simp only [gt3]
              go_simp
              refine hK.out _ _ ?_ (fun hHeld2 => ?_)
              focus
                first | with_reducible assumption | (repeat' (first | with_reducible assumption | with_reducible refine below_drew ?_ | with_reducible refine bel_alloc ?_ _))
              clear hHeld
              have hHeld := hHeld2
              clear hHeld2 hK K
              try simp only [gt6, Act.put]
              refine wpAnyH_ready (rs := [1]) (by kernel_rfl) (by simp) ?_
              refine (AllReadyH.cons rfl (fun K hK => ?_) AllReadyH.nil)
              simp only [gt3]
              go_simp
              refine hK.out _ _ ?_ (fun hHeld2 => ?_)
              focus
                first | with_reducible assumption | (repeat' (first | with_reducible assumption | with_reducible refine below_drew ?_ | with_reducible refine bel_alloc ?_ _))
              clear hHeld
              have hHeld := hHeld2
              clear hHeld2 hK K
              try simp only [gt6, Act.put]
              refine wpAnyH_ready (rs := [5]) (by kernel_rfl) (by simp) ?_
              refine (AllReadyH.cons rfl (fun K hK => ?_) AllReadyH.nil)
              refine step_append_sl rfl (.tmp 58) (.tmp 61) 44 rfl (M + 1) 9 Tryz.underlying44 info_str rfl (by omega) rfl (own_keep HO3.out ((Below.refl _ _).alloc (Nat.le_refl _) _)) rfl (Sl.lit _ _ 1 1 #[.string (str sx)] rfl (by unfold maxLen; omega)) (by simp [Value.oneCell']) (show c + 1 ≤ maxLen by unfold maxLen; omega) (show (c + 1) * 16 ≤ 140737488355328 by omega) (Nat.le_trans hM3 (Below.size ((Below.refl w3.heap.size w3).alloc (Nat.le_refl _) _))) ?_
              intro v5 w5 ho5 hb5 _ _
              have HP5 := hid (HP3.out.keep (((Below.refl _ _).alloc hM3 _).trans hb5))
              obtain ⟨A5, c5, rfl, _⟩ := Sl.of_own ho5
              have HO5 := hid ho5
              have c65 := (seven_cells HP5.out.m).2.2.2.2.2.2
              have f65 := (seven_frz HP5.out.m).2.2.2.2.2.2
              have hbel5 := HP5.out.bel
              have hbel6 := fun v => RowKit.Below.setCell (p := ⟨M, 6, none⟩) HP5.out.bel hMW v
              clear hb5 ho5
              refine hK.out _ _ ?_ (fun hHeld2 => ?_)
              focus
                exact hbel5
              clear hHeld
              have hHeld := hHeld2
              clear hHeld2 hK K
              try simp only [gt6, Act.put]
              refine tkA 6 ?_ rfl ?_ (by assumption) ?_; rotate_left; focus (intro U hU; (try dsimp only at hU); go_simp; try (with_reducible rfl))
              simp only [gt6, Act.put]
              refine wpAnyH_ready (rs := [7]) (by kernel_rfl) (by simp) ?_
              refine (AllReadyH.cons rfl (fun K hK => ?_) AllReadyH.nil)
              simp only [gt3]
              go_simp
              refine hK.out _ _ ?_ (fun hHeld2 => ?_)
              focus
                exact hbel6 _
              clear hHeld
              have hHeld := hHeld2
              clear hHeld2 hK K
              try simp only [gt6, Act.put]
              refine wpAnyH_done (by kernel_rfl) ?_ _
              clear hHeld c6 c63 c6a c65 f65 hbel hbel3 hbel5 hbel6
              go_wp2
              go_roundw
              case rel =>
                refine ⟨c + 1, A5, c5, m ++ [sx], l2, e2, by omega, by go_num, by simp [hmc], HR2.out, HP5.out.set6 _, ?_⟩
                rw [Hid, scells_snoc]
                exact own_setOld HO5.out _ _ (Nat.lt_succ_self M)
              case measure => simp [intOf]; omega
        · obtain rfl : c = n := by omega
          have hge : ¬ (c : Int) < (c : Int) := by omega
          have hxs : xs = m ∧ lx = li ∧ ex = ei := by
            have h1 := hqx.out
            rw [HR.out, Nat.sub_self] at h1
            simpa [rts] using h1
          obtain ⟨rfl, rfl, rfl⟩ := hxs
          have HE := hid (rrEnd_any B lx ex wr HP.out.b)
          rw [← hqk.out] at HE
          have HLS := hid (rts_le c ln en)
          rw [← hqx.out] at HLS
          simp only at HLS
          obtain ⟨p0, p1, p2, p3, p4, p5, p6⟩ := seven_cells HP.out.m
          obtain ⟨g0, g1, g2, g3, g4, g5, g6⟩ := seven_cells HP.out.r
          obtain ⟨h0, h1, h2, h3, h4, h5, h6⟩ := seven_frz HP.out.r
          have hRM : W.heap.size ≠ M := by have := HP.out.rb; have := HP.out.bm; omega
          by_cases he : vk = 0
          · subst he
            rw [if_pos rfl] at HPR
            go_wp2_with (go_at_call 102; refine HE.out.mono ?_; rintro x w' ⟨rfl, rfl⟩)
            obtain ⟨r0, r1, r2, r3, r4, r5, r6⟩ := seven_cells (put7_heap HP.out.r (.int .i64 (k : Nat)) (.int .i64 (j : Nat)) (.int .i64 (t : Nat)) (.int .i64 (wk : Nat)) (.int .i64 (s : Nat)) (.int .i64 (p : Nat)) (.slice Ai c ci))
            simp only [put7] at r0 r1 r2 r3 r4 r5 r6
            rw [HPR.out]
            refine bodyPost_ret (v := .tuple #[.agg #[.int .i64 (k : Nat), .int .i64 (j : Nat), .int .i64 (t : Nat), .int .i64 (wk : Nat), .int .i64 (s : Nat), .int .i64 (p : Nat), .slice Ai c ci], .int .i64 0]) (by simp [results, Tryz.results72, go_sem, r0, r1, r2, r3, r4, r5, r6]) rfl ⟨Ai, ci, by simp only [rcc, hmc], ⟨?_, HLS.out.2⟩, put7_below HP.out.bel (Nat.le_refl _) _ _ _ _ _ _ _⟩
            simp only [hmc]
            exact own_mono (put7_own HO.out (by have := HP.out.rb; have := HP.out.bm; omega) _ _ _ _ _ _ _) (by have := HP.out.rb; have := HP.out.bm; omega)
          · rw [if_neg he] at HPR
            have hne : (vk != 0) = true := by simp [he]
            go_wp2_with (go_at_call 102; refine HE.out.mono ?_; rintro x w' ⟨rfl, rfl⟩)
            obtain ⟨r0, r1, r2, r3, r4, r5, r6⟩ := seven_cells (put7_heap HP.out.r (.int .i64 0) (.int .i64 0) (.int .i64 0) (.int .i64 0) (.int .i64 0) (.int .i64 0) (.slice none 0 0))
            simp only [put7] at r0 r1 r2 r3 r4 r5 r6
            rw [HPR.out]
            refine bodyPost_ret (v := .tuple #[.agg #[.int .i64 0, .int .i64 0, .int .i64 0, .int .i64 0, .int .i64 0, .int .i64 0, .slice none 0 0], .int .i64 vk]) (by simp [results, Tryz.results72, go_sem, r0, r1, r2, r3, r4, r5, r6]) rfl ⟨none, 0, rfl, ⟨World.ownsRow_nil _ _ _ _, by simp⟩, put7_below HP.out.bel (Nat.le_refl _) _ _ _ _ _ _ _⟩
end Go.Proofs.YtkepfkfoblocgaaGreat
