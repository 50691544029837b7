/- Packets: plain. -/
import Derived.Test.YtdphdodjidbngaaGreatMsP
import Derived.Test.YtdphdodjidbngaaGreatCrP
import Derived.Deep.Cut
namespace Go.Proofs.YtdphdodjidbngaaGreat
open Go.RowKit
set_option linter.unusedVariables false
set_option linter.unusedSimpArgs false

/-- Which fields a kind has. -/
def hpP (k : Nat) : Bool := decide (1 ≤ k ∧ k ≤ 3)
def hpS (k : Nat) : Bool := decide (k = 1 ∨ k = 2)
def hpB (k : Nat) : Bool := decide (k = 1 ∨ k = 4)

theorem rdNum_take0 (most : Int) (l : List UInt8) (e : Int) : rdNum most l e = takeS true 0 most l e := by
  rw [takeS, if_pos rfl, if_neg (by omega)]
/-- A body that is read. -/
def takeT (hb : Bool) (l : List UInt8) (e : Int) : List UInt8 × List UInt8 × Int :=
  if hb then (if (rdText 32 l e).1.length = 0 then ((rdText 32 l e).1, (rdText 32 l e).2.1, rdFail 3 (rdText 32 l e).2.2) else rdText 32 l e) else ([], l, e)
def ptT (hb : Bool) (s : List UInt8) : List UInt8 := if hb then numB s.length ++ s else []
def inT (hb : Bool) (s : List UInt8) : Bool := if hb then decide (1 ≤ s.length ∧ s.length ≤ 32) else decide (s.length = 0)
theorem rdText_ok (most : Int) (l : List UInt8) (e : Int) (h : (rdText most l e).2.2 = 0) :
    e = 0 ∧ l = numB (rdText most l e).1.length ++ (rdText most l e).1 ++ (rdText most l e).2.1 ∧ ((rdText most l e).1.length : Int) ≤ max most 0 := by
  have he : e = 0 := by
    rcases Classical.em (e = 0) with he | he
    · exact he
    · rw [rdText, if_neg he] at h; exact h
  subst he
  have hf : (firstN most l).2.2 = 0 := by
    rcases Classical.em ((firstN most l).2.2 = 0) with hf | hf
    · exact hf
    · rw [rdText, if_pos rfl, if_neg hf] at h; simp at h; exact h
  have hs : ¬ l.length - (firstN most l).2.1 < (firstN most l).1 := fun hs => by
    rw [rdText, if_pos rfl, if_pos hf, if_pos hs] at h; simp at h
  obtain ⟨u1, u2, n1, n2⟩ := firstN_used most l hf
  have hn := numB_firstN most l hf
  have e1 : rdText most l 0 = ((l.drop (firstN most l).2.1).take (firstN most l).1, l.drop ((firstN most l).2.1 + (firstN most l).1), (0 : Int)) := by rw [rdText, if_pos rfl, if_pos hf, if_neg hs]
  rw [e1]
  generalize firstN most l = f at *
  obtain ⟨n, u, x⟩ := f
  simp only at *
  have hl : ((l.drop u).take n).length = n := by rw [List.length_take, List.length_drop]; omega
  refine ⟨trivial, ?_, by rw [hl]; exact n2⟩
  rw [hl, hn, List.append_assoc, ← List.drop_drop, List.take_append_drop, List.take_append_drop]
theorem rdText_put (s : List UInt8) (most : Int) (h : s.length ≤ 72057594037927935) (hm : (s.length : Int) ≤ most) (rest : List UInt8) : rdText most (numB s.length ++ s ++ rest) 0 = (s, rest, 0) := by
  rw [List.append_assoc, rdText, if_pos rfl, firstN_numB _ h _ hm _, if_pos rfl, if_neg (by simp)]
  simp
theorem takeT_ok (hb : Bool) (l : List UInt8) (e : Int) (h : (takeT hb l e).2.2 = 0) : e = 0 ∧ l = ptT hb (takeT hb l e).1 ++ (takeT hb l e).2.1 ∧ inT hb (takeT hb l e).1 = true := by
  cases hb with
  | false => exact ⟨h, by simp [takeT, ptT], rfl⟩
  | true =>
    have hR : takeT true l e = if (rdText 32 l e).1.length = 0 then ((rdText 32 l e).1, (rdText 32 l e).2.1, rdFail 3 (rdText 32 l e).2.2) else rdText 32 l e := rfl
    have hlt : ¬ (rdText 32 l e).1.length = 0 := by
      intro hlt
      rw [hR, if_pos hlt] at h
      simp only [rdFail] at h
      split at h
      · omega
      · contradiction
    rw [if_neg hlt] at hR
    rw [hR] at h ⊢
    obtain ⟨h1, h2, h3⟩ := rdText_ok 32 l e h
    refine ⟨h1, by simpa [ptT] using h2, ?_⟩
    simp [inT]; omega
theorem takeT_pt (hb : Bool) (s : List UInt8) (h : inT hb s = true) (rest : List UInt8) : takeT hb (ptT hb s ++ rest) 0 = (s, rest, 0) := by
  cases hb with
  | false =>
    have : s.length = 0 := by simpa [inT] using h
    obtain rfl := List.eq_nil_of_length_eq_zero this
    simp [takeT, ptT]
  | true =>
    have hn : 1 ≤ s.length ∧ s.length ≤ 32 := by simpa [inT] using h
    have e1 : rdText 32 (ptT true s ++ rest) 0 = (s, rest, 0) := by
      simp only [ptT, if_true]
      exact rdText_put s 32 (by omega) (by omega) rest
    rw [takeT, if_pos rfl, e1, if_neg (by simp only; omega)]

/-- What is read of a packet's payload, a field at a time. -/
def qk (l : List UInt8) : Nat × List UInt8 × Int := takeS true 1 4 l 0
def qf (l : List UInt8) : Nat × List UInt8 × Int := rdNum 71 (qk l).2.1 (qk l).2.2
def qt (l : List UInt8) : Nat × List UInt8 × Int := rdNum 71 (qf l).2.1 (qf l).2.2
def qe (l : List UInt8) : Int := if (qf l).1 = (qt l).1 then rdFail 3 (qt l).2.2 else (qt l).2.2
def qi (l : List UInt8) : Nat × List UInt8 × Int := takeS true 1 72057594037927935 (qt l).2.1 (qe l)
def qp (l : List UInt8) : Nat × List UInt8 × Int := takeS (hpP (qk l).1) 1 72057594037927935 (qi l).2.1 (qi l).2.2
def qs (l : List UInt8) : Nat × List UInt8 × Int := takeS (hpS (qk l).1) 1 72057594037927935 (qp l).2.1 (qp l).2.2
def qb (l : List UInt8) : List UInt8 × List UInt8 × Int := takeT (hpB (qk l).1) (qs l).2.1 (qs l).2.2
def qz (l : List UInt8) : Int := rdEnd (qb l).2.1 (qb l).2.2

def okP (k f t i p s : Int) (b : List UInt8) : Bool :=
  decide (1 ≤ k ∧ k ≤ 4) && decide (0 ≤ f ∧ f ≤ 71) && decide (0 ≤ t ∧ t ≤ 71) && decide (f ≠ t) && inS true 1 72057594037927935 i && inS (hpP k.toNat) 1 72057594037927935 p && inS (hpS k.toNat) 1 72057594037927935 s && inT (hpB k.toNat) b
def plB (k f t i p s : Int) (b : List UInt8) : List UInt8 := pt true k ++ pt true f ++ pt true t ++ pt true i ++ pt (hpP k.toNat) p ++ pt (hpS k.toNat) s ++ ptT (hpB k.toNat) b
theorem inS_of {hb : Bool} {most : Int} {n : Nat} (hm : 0 ≤ most) (h1 : ((n : Nat) : Int) ≤ max most 0) (h2 : if hb then (1 : Int) ≤ (n : Nat) else n = 0) : inS hb 1 most n = true := by
  unfold inS
  cases hb with
  | false => simp at h2 ⊢; omega
  | true => simp at h2 ⊢; omega
/-- What is read without an error is as it may be, and was put so. -/
theorem qz_ok (l : List UInt8) (h : qz l = 0) : okP (qk l).1 (qf l).1 (qt l).1 (qi l).1 (qp l).1 (qs l).1 (qb l).1 = true ∧ plB (qk l).1 (qf l).1 (qt l).1 (qi l).1 (qp l).1 (qs l).1 (qb l).1 = l := by
  have hd : (qb l).2.2 = 0 ∧ (qb l).2.1 = [] := by
    unfold qz rdEnd at h
    split at h
    · rename_i h2
      split at h
      · omega
      · rename_i h3
        exact ⟨h2, List.eq_nil_of_length_eq_zero (by omega)⟩
    · contradiction
  obtain ⟨e6, l6, m6⟩ := takeT_ok _ _ _ hd.1
  obtain ⟨e5, l5, m5, f5⟩ := takeS_ok _ _ _ _ _ e6
  obtain ⟨e4, l4, m4, f4⟩ := takeS_ok _ _ _ _ _ e5
  obtain ⟨e3, l3, m3, f3⟩ := takeS_ok _ _ _ _ _ e4
  have hne : (qt l).2.2 = 0 ∧ (qf l).1 ≠ (qt l).1 := by
    unfold qe at e3
    split at e3
    · unfold rdFail at e3
      split at e3
      · omega
      · contradiction
    · exact ⟨e3, by assumption⟩
  have ht : qt l = takeS true 0 71 (qf l).2.1 (qf l).2.2 := rdNum_take0 _ _ _
  have hf : qf l = takeS true 0 71 (qk l).2.1 (qk l).2.2 := rdNum_take0 _ _ _
  have e2' := hne.1
  rw [ht] at e2'
  obtain ⟨e2, l2, m2, f2⟩ := takeS_ok _ _ _ _ _ e2'
  rw [← ht] at l2 m2 f2
  rw [hf] at e2
  obtain ⟨e1, l1, m1, f1⟩ := takeS_ok _ _ _ _ _ e2
  rw [← hf] at l1 m1 f1
  obtain ⟨e0, l0, m0, f0⟩ := takeS_ok _ _ _ _ _ e1
  refine ⟨?_, ?_⟩
  · have g0 : (1 : Int) ≤ ((qk l).1 : Nat) := f0
    have m0' : (((qk l).1 : Nat) : Int) ≤ max 4 0 := m0
    have m1' : (((qf l).1 : Nat) : Int) ≤ max 71 0 := m1
    have m2' : (((qt l).1 : Nat) : Int) ≤ max 71 0 := m2
    have hne2 := hne.2
    unfold okP
    simp only [Int.toNat_natCast, Bool.and_eq_true, decide_eq_true_eq]
    exact ⟨⟨⟨⟨⟨⟨⟨by omega, by omega⟩, by omega⟩, by omega⟩, inS_of (by omega) m3 f3⟩, inS_of (by omega) m4 f4⟩, inS_of (by omega) m5 f5⟩, m6⟩
  · have q0 : l = pt true ((qk l).1 : Nat) ++ (qk l).2.1 := l0
    have q1 : (qk l).2.1 = pt true ((qf l).1 : Nat) ++ (qf l).2.1 := l1
    have q2 : (qf l).2.1 = pt true ((qt l).1 : Nat) ++ (qt l).2.1 := l2
    have q3 : (qt l).2.1 = pt true ((qi l).1 : Nat) ++ (qi l).2.1 := l3
    have q4 : (qi l).2.1 = pt (hpP (qk l).1) ((qp l).1 : Nat) ++ (qp l).2.1 := l4
    have q5 : (qp l).2.1 = pt (hpS (qk l).1) ((qs l).1 : Nat) ++ (qs l).2.1 := l5
    have q6 : (qs l).2.1 = ptT (hpB (qk l).1) (qb l).1 ++ (qb l).2.1 := l6
    rw [hd.2, List.append_nil] at q6
    rw [q6] at q5
    rw [q5] at q4
    rw [q4] at q3
    rw [q3] at q2
    rw [q2] at q1
    have q : l = pt true ((qk l).1 : Nat) ++ (pt true ((qf l).1 : Nat) ++ (pt true ((qt l).1 : Nat) ++ (pt true ((qi l).1 : Nat) ++ (pt (hpP (qk l).1) ((qp l).1 : Nat) ++ (pt (hpS (qk l).1) ((qs l).1 : Nat) ++ ptT (hpB (qk l).1) (qb l).1))))) := by rw [← q1]; exact q0
    rw [plB]
    simp only [Int.toNat_natCast]
    conv => rhs; rw [q]
    simp only [List.append_assoc]
theorem okP_iff {k f t i p s : Int} {b : List UInt8} (h : okP k f t i p s b = true) : (1 ≤ k ∧ k ≤ 4) ∧ (0 ≤ f ∧ f ≤ 71) ∧ (0 ≤ t ∧ t ≤ 71) ∧ f ≠ t ∧ inS true 1 72057594037927935 i = true ∧ inS (hpP k.toNat) 1 72057594037927935 p = true ∧ inS (hpS k.toNat) 1 72057594037927935 s = true ∧ inT (hpB k.toNat) b = true := by
  unfold okP at h
  simp only [Bool.and_eq_true, decide_eq_true_eq] at h
  obtain ⟨⟨⟨⟨⟨⟨⟨h1, h2⟩, h3⟩, h4⟩, h5⟩, h6⟩, h7⟩, h8⟩ := h
  exact ⟨h1, h2, h3, h4, h5, h6, h7, h8⟩
/-- What was put is read. -/
theorem qz_put {k f t i p s : Int} {b : List UInt8} (h : okP k f t i p s b = true) :
    qz (plB k f t i p s b) = 0 ∧ (((qk (plB k f t i p s b)).1 : Nat) : Int) = k ∧ (((qf (plB k f t i p s b)).1 : Nat) : Int) = f ∧ (((qt (plB k f t i p s b)).1 : Nat) : Int) = t ∧ (((qi (plB k f t i p s b)).1 : Nat) : Int) = i ∧ (((qp (plB k f t i p s b)).1 : Nat) : Int) = p ∧ (((qs (plB k f t i p s b)).1 : Nat) : Int) = s ∧ (qb (plB k f t i p s b)).1 = b := by
  obtain ⟨h1, h2, h3, h4, h5, h6, h7, h8⟩ := okP_iff h
  obtain ⟨x, hx⟩ : ∃ x, plB k f t i p s b = x := ⟨_, rfl⟩
  have hx2 : x = pt true k ++ (pt true f ++ (pt true t ++ (pt true i ++ (pt (hpP k.toNat) p ++ (pt (hpS k.toNat) s ++ (ptT (hpB k.toNat) b ++ [])))))) := by
    rw [← hx, plB]; simp only [List.append_assoc, List.append_nil]
  rw [hx]
  obtain ⟨a6, e6⟩ : ∃ a, ptT (hpB k.toNat) b ++ [] = a := ⟨_, rfl⟩
  obtain ⟨a5, e5⟩ : ∃ a, pt (hpS k.toNat) s ++ a6 = a := ⟨_, rfl⟩
  obtain ⟨a4, e4⟩ : ∃ a, pt (hpP k.toNat) p ++ a5 = a := ⟨_, rfl⟩
  obtain ⟨a3, e3⟩ : ∃ a, pt true i ++ a4 = a := ⟨_, rfl⟩
  obtain ⟨a2, e2⟩ : ∃ a, pt true t ++ a3 = a := ⟨_, rfl⟩
  obtain ⟨a1, e1⟩ : ∃ a, pt true f ++ a2 = a := ⟨_, rfl⟩
  rw [e6, e5, e4, e3, e2, e1] at hx2
  have ek : qk x = (k.toNat, a1, 0) := by rw [qk, hx2]; exact takeS_pt true 1 4 k (by omega) (by omega) (by simpa [inS] using h1) _
  have ef : qf x = (f.toNat, a2, 0) := by rw [qf, ek, rdNum_take0, ← e1]; exact takeS_pt true 0 71 f (by omega) (by omega) (by simpa [inS] using h2) _
  have et : qt x = (t.toNat, a3, 0) := by rw [qt, ef, rdNum_take0, ← e2]; exact takeS_pt true 0 71 t (by omega) (by omega) (by simpa [inS] using h3) _
  have ee : qe x = 0 := by rw [qe, ef, et, if_neg (by simp only; omega)]
  have ei : qi x = (i.toNat, a4, 0) := by rw [qi, et, ee, ← e3]; exact takeS_pt true 1 _ i (by omega) (by omega) h5 _
  have ep : qp x = (p.toNat, a5, 0) := by rw [qp, ek, ei, ← e4]; exact takeS_pt _ 1 _ p (by omega) (by omega) h6 _
  have es : qs x = (s.toNat, a6, 0) := by rw [qs, ek, ep, ← e5]; exact takeS_pt _ 1 _ s (by omega) (by omega) h7 _
  have eb : qb x = (b, [], 0) := by rw [qb, ek, es, ← e6]; exact takeT_pt _ b h8 _
  have n5 := inS_nonneg (by omega) h5
  have n6 := inS_nonneg (by omega) h6
  have n7 := inS_nonneg (by omega) h7
  refine ⟨by rw [qz, eb]; rfl, by rw [ek]; simp only; omega, by rw [ef]; simp only; omega, by rw [et]; simp only; omega, by rw [ei]; simp only; omega, by rw [ep]; simp only; omega, by rw [es]; simp only; omega, by rw [eb]⟩
theorem ptT_len {hb : Bool} {b : List UInt8} (h : inT hb b = true) : (ptT hb b).length ≤ 33 := by
  cases hb with
  | false => simp [ptT]
  | true =>
    have hn : 1 ≤ b.length ∧ b.length ≤ 32 := by simpa [inT] using h
    simp only [ptT, if_true, List.length_append]
    rw [numB_one _ (by omega)]
    simp; omega
theorem plB_len {k f t i p s : Int} {b : List UInt8} (h : inT (hpB k.toNat) b = true) : (plB k f t i p s b).length ≤ 81 ∧ 1 ≤ (plB k f t i p s b).length := by
  have := pt_len true k
  have := pt_len true f
  have := pt_len true t
  have := pt_len true i
  have := pt_len (hpP k.toNat) p
  have := pt_len (hpS k.toNat) s
  have := ptT_len h
  have h0 : 1 ≤ (pt true k).length := (numB_length _ (cl_le k)).1
  simp only [plB, List.length_append]
  omega

/-- The frame that is cut is the frame that was put. -/
theorem cut_ok (s : List UInt8) (h : (cutS s).2.2 = 0) : (cutS s).1.length ≤ 4096 ∧ (cutS s).2.1 ≤ s.length ∧ frP (cutS s).1 = s.take (cutS s).2.1 := by
  have hF := firstN_used 4096 (s.take 8)
  have hN := numB_firstN 4096 (s.take 8)
  have h8 : (s.take 8).length ≤ 8 := List.length_take_le _ _
  unfold cutS at *
  generalize firstN 4096 (s.take 8) = f at *
  obtain ⟨m, u, x⟩ := f
  simp only at *
  by_cases hx : x = 0
  · rw [if_pos hx] at h ⊢
    obtain ⟨u1, u2, n1, n2⟩ := hF hx
    have hN := hN hx
    have hsl : (s.take 8).length ≤ s.length := by rw [List.length_take]; omega
    by_cases h5 : s.length < u + m + 4
    · rw [if_pos h5] at h; simp at h
    rw [if_neg h5] at h ⊢
    by_cases h6 : (s.take (u + m + 4)).drop (u + m) = fourL (moreN 0 (s.take (u + m)))
    · rw [if_pos h6]
      simp only
      have hl : ((s.take (u + m)).drop u).length = m := by rw [List.length_drop, List.length_take]; omega
      have hu : numB m = (s.take (u + m)).take u := by
        rw [hN, List.take_take, List.take_take, Nat.min_eq_left (by omega), Nat.min_eq_left (by omega)]
      refine ⟨by rw [hl]; omega, by omega, ?_⟩
      rw [frP, if_neg (by rw [hl]; omega), hl, hu, List.take_append_drop]
      exact (seal_iff s (u + m) (by omega)).1 h6
    · rw [if_neg h6] at h; simp at h
  · rw [if_neg hx] at h
    simp at h
    exact absurd h hx

def opE (s : List UInt8) : Int := if (cutS s).2.2 = 0 then (if (cutS s).2.1 < s.length then 3 else qz (cutS s).1) else (((cutS s).2.2 : Nat) : Int)
/-- WHAT IS OPENED HAS THOSE BYTES. -/
theorem opE_ok (s : List UInt8) (h : opE s = 0) : okP (qk (cutS s).1).1 (qf (cutS s).1).1 (qt (cutS s).1).1 (qi (cutS s).1).1 (qp (cutS s).1).1 (qs (cutS s).1).1 (qb (cutS s).1).1 = true ∧ frP (plB (qk (cutS s).1).1 (qf (cutS s).1).1 (qt (cutS s).1).1 (qi (cutS s).1).1 (qp (cutS s).1).1 (qs (cutS s).1).1 (qb (cutS s).1).1) = s := by
  have hc : (cutS s).2.2 = 0 := by
    unfold opE at h
    split at h
    · assumption
    · simp at h; exact h
  rw [opE, if_pos hc] at h
  have hl : ¬ (cutS s).2.1 < s.length := fun hl => by rw [if_pos hl] at h; omega
  rw [if_neg hl] at h
  obtain ⟨h1, h2⟩ := qz_ok _ h
  obtain ⟨c1, c2, c3⟩ := cut_ok s hc
  refine ⟨h1, ?_⟩
  rw [h2, c3, List.take_of_length_le (by omega)]
theorem cut_put {k f t i p s : Int} {b : List UInt8} (h : okP k f t i p s b = true) : cutS (frP (plB k f t i p s b)) = (plB k f t i p s b, (frP (plB k f t i p s b)).length, 0) := by
  have := plB_len (f := f) (t := t) (i := i) (p := p) (s := s) (okP_iff h).2.2.2.2.2.2.2
  have := cut_frP (plB k f t i p s b) [] (by omega)
  rw [List.append_nil] at this
  exact this
theorem opE_put {k f t i p s : Int} {b : List UInt8} (h : okP k f t i p s b = true) : opE (frP (plB k f t i p s b)) = 0 := by
  have hc := cut_put h
  rw [opE, hc]
  simp only [if_true, Nat.lt_irrefl, if_false]
  exact (qz_put h).1

end Go.Proofs.YtdphdodjidbngaaGreat

namespace Go.Proofs.YtdphdodjidbngaaGreat
open Go.RowKit
set_option linter.unusedVariables false
set_option linter.unusedSimpArgs false

theorem hasPeer_any (k : Nat) (hk : k ≤ 4) (w : World) : Calls Tryz.prog 52 #[.int .i64 k] w fun e w' => e = .returned (.bool (hpP k)) ∧ w = w' := by
  rcases (by omega : k = 0 ∨ k = 1 ∨ k = 2 ∨ k = 3 ∨ k = 4) with rfl | rfl | rfl | rfl | rfl
  all_goals
    clear hk
    go_enter Tryz.func52, Tryz.ntmps52
    go_wp2
    go_ret
    exact ⟨rfl, rfl⟩
theorem hasSeq_any (k : Nat) (hk : k ≤ 4) (w : World) : Calls Tryz.prog 53 #[.int .i64 k] w fun e w' => e = .returned (.bool (hpS k)) ∧ w = w' := by
  rcases (by omega : k = 0 ∨ k = 1 ∨ k = 2 ∨ k = 3 ∨ k = 4) with rfl | rfl | rfl | rfl | rfl
  all_goals
    clear hk
    go_enter Tryz.func53, Tryz.ntmps53
    go_wp2
    go_ret
    exact ⟨rfl, rfl⟩
theorem hasBody_any (k : Nat) (hk : k ≤ 4) (w : World) : Calls Tryz.prog 54 #[.int .i64 k] w fun e w' => e = .returned (.bool (hpB k)) ∧ w = w' := by
  rcases (by omega : k = 0 ∨ k = 1 ∨ k = 2 ∨ k = 3 ∨ k = 4) with rfl | rfl | rfl | rfl | rfl
  all_goals
    clear hk
    go_enter Tryz.func54, Tryz.ntmps54
    go_wp2
    go_ret
    exact ⟨rfl, rfl⟩

theorem from_any (B : Nat) (least most : Int) (l : List UInt8) (e : Int) (W : World) (h : RdrAt W B l e) :
    Calls Tryz.prog 61 #[.pointer (some ⟨B, 0, none⟩), .int .i64 least, .int .i64 most] W fun x w' => x = .returned (.int .i64 ((takeS true least most l e).1 : Nat)) ∧ RdrAt w' B (takeS true least most l e).2.1 (takeS true least most l e).2.2 ∧ Only B W w' := by
  have HR : Hid (takeS true least most l e = if ((rdNum most l e).1 : Int) < least then ((rdNum most l e).1, (rdNum most l e).2.1, rdFail 3 (rdNum most l e).2.2) else rdNum most l e) := hid rfl
  have HN := hid (rdNum_any B l e most W h)
  clear h
  generalize rdNum most l e = t at *
  obtain ⟨n, l2, e2⟩ := t
  simp only at HR HN
  by_cases hlt : (n : Int) < least
  · have hd : decide ((n : Int) < least) = true := decide_eq_true hlt
    rw [if_pos hlt] at HR
    go_enter Tryz.func61, Tryz.ntmps61
    go_wp2_with fail
    refine HN.out.mono ?_
    rintro x w1 ⟨rfl, hR, hO⟩
    have HF := hid (rdFail_any B l2 e2 3 w1 hR)
    have HO := hid hO
    clear hR hO
    go_wp2_with fail
    refine HF.out.mono ?_
    rintro x w2 ⟨⟨v, rfl⟩, hR2, hO2⟩
    have HR2 := hid hR2
    have HO2 := hid hO2
    clear hR2 hO2
    go_wp2
    go_ret
    rw [HR.out]
    exact ⟨rfl, HR2.out, HO.out.trans HO2.out⟩
  · have hd : decide ((n : Int) < least) = false := decide_eq_false hlt
    rw [if_neg hlt] at HR
    have hlt' : least ≤ (n : Int) := by omega
    go_enter Tryz.func61, Tryz.ntmps61
    go_wp2_with fail
    refine HN.out.mono ?_
    rintro x w1 ⟨rfl, hR, hO⟩
    have HRR := hid hR
    have HO := hid hO
    clear hR hO
    go_wp2
    go_ret
    rw [HR.out]
    exact ⟨rfl, HRR.out, HO.out⟩

theorem least_any (B : Nat) (hb : Bool) (most : Int) (l : List UInt8) (e : Int) (W : World) (h : RRdr W B l e) (hl : l.length ≤ 100000) :
    Calls Tryz.prog 70 #[.pointer (some ⟨B, 0, none⟩), .bool hb, .int .i64 most] W fun x w' => x = .returned (.int .i64 ((takeS hb 1 most l e).1 : Nat)) ∧ RRdr w' B (takeS hb 1 most l e).2.1 (takeS hb 1 most l e).2.2 ∧ Only B W w' := by
  cases hb with
  | false =>
    have H := hid h
    clear h
    go_enter Tryz.func70, Tryz.ntmps70
    go_wp2
    go_ret
    exact ⟨rfl, H.out, Only.refl B W⟩
  | true =>
    have HR : Hid (takeS true 1 most l e = if ((rdNum most l e).1 : Int) < 1 then ((rdNum most l e).1, (rdNum most l e).2.1, rdFail 3 (rdNum most l e).2.2) else rdNum most l e) := hid rfl
    have HN := hid (rrNum_any B l e most W h hl)
    clear h
    generalize rdNum most l e = t at *
    obtain ⟨n, l2, e2⟩ := t
    simp only at HR HN
    by_cases hlt : (n : Int) < 1
    · obtain rfl : n = 0 := by omega
      rw [if_pos hlt] at HR
      clear hlt
      go_enter Tryz.func70, Tryz.ntmps70
      go_wp2_with fail
      refine HN.out.mono ?_
      rintro x w1 ⟨rfl, hR, hO⟩
      have HF := hid (rrFail_any B l2 e2 3 w1 hR)
      have HO := hid hO
      clear hR hO
      go_wp2_with fail
      refine HF.out.mono ?_
      rintro x w2 ⟨⟨v, rfl⟩, hR2, hO2⟩
      have HR2 := hid hR2
      have HO2 := hid hO2
      clear hR2 hO2
      go_wp2
      go_ret
      rw [HR.out]
      exact ⟨rfl, HR2.out, HO.out.trans HO2.out⟩
    · have hd : ((n : Int) == 0) = false := by rw [beq_eq_false_iff_ne]; omega
      rw [if_neg hlt] at HR
      clear hlt
      go_enter Tryz.func70, Tryz.ntmps70
      go_wp2_with fail
      refine HN.out.mono ?_
      rintro x w1 ⟨rfl, hR, hO⟩
      have HRR := hid hR
      have HO := hid hO
      clear hR hO
      go_wp2
      go_ret
      rw [HR.out]
      exact ⟨rfl, HRR.out, HO.out⟩

/-- Block M is a packet. -/
def Pc (T : TypeId) (w : World) (M : Nat) (k f t i p s : Int) (b : ByteArray) : Prop := w.heap[M]? = some (.cells #[.int .i64 k, .int .i64 f, .int .i64 t, .int .i64 i, .int .i64 p, .int .i64 s, .string b] T (0, 0))
theorem seven_cells {w : World} {b t : Nat} {x0 x1 x2 x3 x4 x5 x6 : Value} (h : w.heap[b]? = some (.cells #[x0, x1, x2, x3, x4, x5, x6] t (0, 0))) :
    (w.cell? ⟨b, 0, none⟩ = some x0 ∧ w.cell? ⟨b, 1, none⟩ = some x1 ∧ w.cell? ⟨b, 2, none⟩ = some x2 ∧ w.cell? ⟨b, 3, none⟩ = some x3 ∧ w.cell? ⟨b, 4, none⟩ = some x4 ∧ w.cell? ⟨b, 5, none⟩ = some x5 ∧ w.cell? ⟨b, 6, none⟩ = some x6) ∧ (w.frozen? ⟨b, 0, none⟩ = false ∧ w.frozen? ⟨b, 1, none⟩ = false ∧ w.frozen? ⟨b, 2, none⟩ = false ∧ w.frozen? ⟨b, 3, none⟩ = false ∧ w.frozen? ⟨b, 4, none⟩ = false ∧ w.frozen? ⟨b, 5, none⟩ = false ∧ w.frozen? ⟨b, 6, none⟩ = false) :=
  ⟨⟨by rw [cell_of_row w b 0 _ t (0, 0) h]; rfl, by rw [cell_of_row w b 1 _ t (0, 0) h]; rfl, by rw [cell_of_row w b 2 _ t (0, 0) h]; rfl, by rw [cell_of_row w b 3 _ t (0, 0) h]; rfl, by rw [cell_of_row w b 4 _ t (0, 0) h]; rfl, by rw [cell_of_row w b 5 _ t (0, 0) h]; rfl, by rw [cell_of_row w b 6 _ t (0, 0) h]; rfl⟩,
    frozen_of_row w b 0 _ t h, frozen_of_row w b 1 _ t h, frozen_of_row w b 2 _ t h, frozen_of_row w b 3 _ t h, frozen_of_row w b 4 _ t h, frozen_of_row w b 5 _ t h, frozen_of_row w b 6 _ t h⟩
/-- The world in which a packet's cells have been stored. -/
def set7 (w : World) (b : Nat) (x0 x1 x2 x3 x4 x5 x6 : Value) : World := ((((((w.setCell ⟨b, 0, none⟩ x0).setCell ⟨b, 1, none⟩ x1).setCell ⟨b, 2, none⟩ x2).setCell ⟨b, 3, none⟩ x3).setCell ⟨b, 4, none⟩ x4).setCell ⟨b, 5, none⟩ x5).setCell ⟨b, 6, none⟩ x6
theorem set_seven {w : World} {b t : Nat} {x0 x1 x2 x3 x4 x5 x6 : Value} (h : w.heap[b]? = some (.cells #[x0, x1, x2, x3, x4, x5, x6] t (0, 0))) (y0 y1 y2 y3 y4 y5 y6 : Value) :
    (set7 w b y0 y1 y2 y3 y4 y5 y6).heap[b]? = some (.cells #[y0, y1, y2, y3, y4, y5, y6] t (0, 0)) := by
  have h1 := heap_setCell_same w b 0 #[x0, x1, x2, x3, x4, x5, x6] t y0 h
  have h2 := heap_setCell_same _ b 1 _ t y1 h1
  have h3 := heap_setCell_same _ b 2 _ t y2 h2
  have h4 := heap_setCell_same _ b 3 _ t y3 h3
  have h5 := heap_setCell_same _ b 4 _ t y4 h4
  have h6 := heap_setCell_same _ b 5 _ t y5 h5
  have h7 := heap_setCell_same _ b 6 _ t y6 h6
  rw [set7, h7]
  rfl
theorem below_set7 {B : Nat} {W w : World} {b : Nat} (h : Below B W w) (hb : B ≤ b) (y0 y1 y2 y3 y4 y5 y6 : Value) : Below B W (set7 w b y0 y1 y2 y3 y4 y5 y6) :=
  ((((((h.setCell (p := ⟨b, 0, none⟩) hb y0).setCell (p := ⟨b, 1, none⟩) hb y1).setCell (p := ⟨b, 2, none⟩) hb y2).setCell (p := ⟨b, 3, none⟩) hb y3).setCell (p := ⟨b, 4, none⟩) hb y4).setCell (p := ⟨b, 5, none⟩) hb y5).setCell (p := ⟨b, 6, none⟩) hb y6
theorem isBytes_pc {T : TypeId} {w : World} {a : Option Addr} {n cap M : Nat} {l : List UInt8} {k f t i p s : Int} {b : ByteArray} (h : IsBytes w a n cap l) (hM : Pc T w M k f t i p s b) (j : Nat) (v : Value) : IsBytes (w.setCell ⟨M, j, none⟩ v) a n cap l := by
  refine ⟨h.1, h.2.1, h.2.2.1, fun h0 => ?_⟩
  obtain ⟨c, off, rfl, hc⟩ := h.2.2.2 h0
  have hne : c ≠ M := by
    rintro rfl
    have h1 := hc 0 h0
    rw [Nat.add_zero, cell_of_row w c off _ T (0, 0) hM] at h1
    rw [List.getElem?_eq_getElem h0] at h1
    simp only [bcells, List.getElem_map] at h1
    match off, h1 with
    | 0, h1 => simp at h1
    | 1, h1 => simp at h1
    | 2, h1 => simp at h1
    | 3, h1 => simp at h1
    | 4, h1 => simp at h1
    | 5, h1 => simp at h1
    | 6, h1 => simp at h1
    | m + 7, h1 => simp at h1
  refine ⟨c, off, rfl, fun i hi => ?_⟩
  rw [World.cell?_of_block (Below.heap_setCell _ _ _ _ hne), hc i hi]
theorem RdrAt.setPc {T : TypeId} {w : World} {B M : Nat} {l : List UInt8} {e k f t i p s : Int} {b : ByteArray} (h : RdrAt w B l e) (hM : Pc T w M k f t i p s b) (hne : B ≠ M) (j : Nat) (v : Value) : RdrAt (w.setCell ⟨M, j, none⟩ v) B l e := by
  obtain ⟨a, cap, h1, h2⟩ := h
  exact ⟨a, cap, (Below.heap_setCell _ _ _ _ hne).trans h1, isBytes_pc h2 hM j v⟩

/-- What a walk of Open holds: the result's block R, the reader's B, the packet's M. -/
structure QSt (W w : World) (R B M : Nat) (l : List UInt8) (e k f t i p s : Int) (y : ByteArray) : Prop where
  r : Pc 90 w R 0 0 0 0 0 0 ⟨#[]⟩
  b : RdrAt w B l e
  m : Pc 90 w M k f t i p s y
  bel : Below W.heap.size W w
  hR : W.heap.size ≤ R
  hB : W.heap.size ≤ B
  hM : W.heap.size ≤ M
  rb : R ≠ B
  mb : M ≠ B
  rm : R ≠ M
theorem QSt.go {W w w' : World} {R B M : Nat} {l l2 : List UInt8} {e e2 k f t i p s : Int} {y : ByteArray} (h : QSt W w R B M l e k f t i p s y) (ho : Only B w w') (hr : RdrAt w' B l2 e2) : QSt W w' R B M l2 e2 k f t i p s y :=
  ⟨ho.block h.r h.rb, hr, ho.block h.m h.mb, h.bel.trans (ho.below W.heap.size h.hB h.bel.size), h.hR, h.hB, h.hM, h.rb, h.mb, h.rm⟩
theorem QSt.m3 {W w : World} {R B M : Nat} {l : List UInt8} {e k f t i p s : Int} {y : ByteArray} (h : QSt W w R B M l e k f t i p s y) (x : Int) : QSt W (w.setCell ⟨M, 3, none⟩ (.int .i64 x)) R B M l e k f t x p s y :=
  ⟨(Below.heap_setCell _ _ _ _ h.rm).trans h.r, h.b.setPc h.m (fun e => h.mb e.symm) _ _, heap_setCell_same w M 3 _ _ _ h.m, h.bel.setCell h.hM _, h.hR, h.hB, h.hM, h.rb, h.mb, h.rm⟩
theorem QSt.m4 {W w : World} {R B M : Nat} {l : List UInt8} {e k f t i p s : Int} {y : ByteArray} (h : QSt W w R B M l e k f t i p s y) (x : Int) : QSt W (w.setCell ⟨M, 4, none⟩ (.int .i64 x)) R B M l e k f t i x s y :=
  ⟨(Below.heap_setCell _ _ _ _ h.rm).trans h.r, h.b.setPc h.m (fun e => h.mb e.symm) _ _, heap_setCell_same w M 4 _ _ _ h.m, h.bel.setCell h.hM _, h.hR, h.hB, h.hM, h.rb, h.mb, h.rm⟩
theorem QSt.m5 {W w : World} {R B M : Nat} {l : List UInt8} {e k f t i p s : Int} {y : ByteArray} (h : QSt W w R B M l e k f t i p s y) (x : Int) : QSt W (w.setCell ⟨M, 5, none⟩ (.int .i64 x)) R B M l e k f t i p x y :=
  ⟨(Below.heap_setCell _ _ _ _ h.rm).trans h.r, h.b.setPc h.m (fun e => h.mb e.symm) _ _, heap_setCell_same w M 5 _ _ _ h.m, h.bel.setCell h.hM _, h.hR, h.hB, h.hM, h.rb, h.mb, h.rm⟩
theorem QSt.m6 {W w : World} {R B M : Nat} {l : List UInt8} {e k f t i p s : Int} {y : ByteArray} (h : QSt W w R B M l e k f t i p s y) (x : ByteArray) : QSt W (w.setCell ⟨M, 6, none⟩ (.string x)) R B M l e k f t i p s x :=
  ⟨(Below.heap_setCell _ _ _ _ h.rm).trans h.r, h.b.setPc h.m (fun e => h.mb e.symm) _ _, heap_setCell_same w M 6 _ _ _ h.m, h.bel.setCell h.hM _, h.hR, h.hB, h.hM, h.rb, h.mb, h.rm⟩

/-- The document's side of it. -/
structure QRt (W w : World) (R B M : Nat) (l : List UInt8) (e k f t i p s : Int) (y : ByteArray) : Prop where
  r : Pc 30 w R 0 0 0 0 0 0 ⟨#[]⟩
  b : RRdr w B l e
  m : Pc 30 w M k f t i p s y
  bel : Below W.heap.size W w
  hR : W.heap.size ≤ R
  hB : W.heap.size ≤ B
  hM : W.heap.size ≤ M
  rb : R ≠ B
  mb : M ≠ B
  rm : R ≠ M
theorem QRt.go {W w w' : World} {R B M : Nat} {l l2 : List UInt8} {e e2 k f t i p s : Int} {y : ByteArray} (h : QRt W w R B M l e k f t i p s y) (ho : Only B w w') (hr : RRdr w' B l2 e2) : QRt W w' R B M l2 e2 k f t i p s y :=
  ⟨ho.block h.r h.rb, hr, ho.block h.m h.mb, h.bel.trans (ho.below W.heap.size h.hB h.bel.size), h.hR, h.hB, h.hM, h.rb, h.mb, h.rm⟩
theorem QRt.m1 {W w : World} {R B M : Nat} {l : List UInt8} {e k f t i p s : Int} {y : ByteArray} (h : QRt W w R B M l e k f t i p s y) (x : Int) : QRt W (w.setCell ⟨M, 1, none⟩ (.int .i64 x)) R B M l e k x t i p s y :=
  ⟨(Below.heap_setCell _ _ _ _ h.rm).trans h.r, (Below.heap_setCell _ _ _ _ (fun e => h.mb e.symm)).trans h.b, heap_setCell_same w M 1 _ _ _ h.m, h.bel.setCell h.hM _, h.hR, h.hB, h.hM, h.rb, h.mb, h.rm⟩
theorem QRt.m2 {W w : World} {R B M : Nat} {l : List UInt8} {e k f t i p s : Int} {y : ByteArray} (h : QRt W w R B M l e k f t i p s y) (x : Int) : QRt W (w.setCell ⟨M, 2, none⟩ (.int .i64 x)) R B M l e k f x i p s y :=
  ⟨(Below.heap_setCell _ _ _ _ h.rm).trans h.r, (Below.heap_setCell _ _ _ _ (fun e => h.mb e.symm)).trans h.b, heap_setCell_same w M 2 _ _ _ h.m, h.bel.setCell h.hM _, h.hR, h.hB, h.hM, h.rb, h.mb, h.rm⟩
theorem QRt.m3 {W w : World} {R B M : Nat} {l : List UInt8} {e k f t i p s : Int} {y : ByteArray} (h : QRt W w R B M l e k f t i p s y) (x : Int) : QRt W (w.setCell ⟨M, 3, none⟩ (.int .i64 x)) R B M l e k f t x p s y :=
  ⟨(Below.heap_setCell _ _ _ _ h.rm).trans h.r, (Below.heap_setCell _ _ _ _ (fun e => h.mb e.symm)).trans h.b, heap_setCell_same w M 3 _ _ _ h.m, h.bel.setCell h.hM _, h.hR, h.hB, h.hM, h.rb, h.mb, h.rm⟩
theorem QRt.m4 {W w : World} {R B M : Nat} {l : List UInt8} {e k f t i p s : Int} {y : ByteArray} (h : QRt W w R B M l e k f t i p s y) (x : Int) : QRt W (w.setCell ⟨M, 4, none⟩ (.int .i64 x)) R B M l e k f t i x s y :=
  ⟨(Below.heap_setCell _ _ _ _ h.rm).trans h.r, (Below.heap_setCell _ _ _ _ (fun e => h.mb e.symm)).trans h.b, heap_setCell_same w M 4 _ _ _ h.m, h.bel.setCell h.hM _, h.hR, h.hB, h.hM, h.rb, h.mb, h.rm⟩
theorem QRt.m5 {W w : World} {R B M : Nat} {l : List UInt8} {e k f t i p s : Int} {y : ByteArray} (h : QRt W w R B M l e k f t i p s y) (x : Int) : QRt W (w.setCell ⟨M, 5, none⟩ (.int .i64 x)) R B M l e k f t i p x y :=
  ⟨(Below.heap_setCell _ _ _ _ h.rm).trans h.r, (Below.heap_setCell _ _ _ _ (fun e => h.mb e.symm)).trans h.b, heap_setCell_same w M 5 _ _ _ h.m, h.bel.setCell h.hM _, h.hR, h.hB, h.hM, h.rb, h.mb, h.rm⟩
theorem QRt.m6 {W w : World} {R B M : Nat} {l : List UInt8} {e k f t i p s : Int} {y : ByteArray} (h : QRt W w R B M l e k f t i p s y) (x : ByteArray) : QRt W (w.setCell ⟨M, 6, none⟩ (.string x)) R B M l e k f t i p s x :=
  ⟨(Below.heap_setCell _ _ _ _ h.rm).trans h.r, (Below.heap_setCell _ _ _ _ (fun e => h.mb e.symm)).trans h.b, heap_setCell_same w M 6 _ _ _ h.m, h.bel.setCell h.hM _, h.hR, h.hB, h.hM, h.rb, h.mb, h.rm⟩

def pkV (k f t i p s : Int) (b : ByteArray) : Value := .agg #[.int .i64 k, .int .i64 f, .int .i64 t, .int .i64 i, .int .i64 p, .int .i64 s, .string b]
/-- The packet that is opened. -/
def opV (s : List UInt8) : Value := if opE s = 0 then pkV (qk (cutS s).1).1 (qf (cutS s).1).1 (qt (cutS s).1).1 (qi (cutS s).1).1 (qp (cutS s).1).1 (qs (cutS s).1).1 (str (qb (cutS s).1).1) else pkV 0 0 0 0 0 0 ⟨#[]⟩
theorem rdNum_short (most : Int) (l : List UInt8) (e : Int) : (rdNum most l e).2.1.length ≤ l.length := by
  unfold rdNum
  repeat' split
  all_goals simp
end Go.Proofs.YtdphdodjidbngaaGreat

