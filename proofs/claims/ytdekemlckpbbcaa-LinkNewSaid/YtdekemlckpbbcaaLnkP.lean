/- The pair: maths. What is under way, and what the two ends hold. -/
import Derived.Test.YtdekemlckpbbcaaLnkO
namespace Go.Proofs.Ytdekemlckpbbcaa
open Go.RowKit Go.Sort
set_option linter.unusedVariables false
set_option linter.unusedSimpArgs false

def nmT (s : Nat) : List UInt8 := 116 :: numT s
def namesT (q n : Nat) : List (List UInt8) := (List.range' q (n - q)).map nmT
theorem nmT_inj {a b : Nat} (h : nmT a = nmT b) : a = b := numT_inj (List.cons.inj h).2
theorem namesT_nil {q n : Nat} (h : n ≤ q) : namesT q n = [] := by
  unfold namesT
  rw [show n - q = 0 by omega]
  rfl
theorem namesT_cons {q n : Nat} (h : q < n) : namesT q n = nmT q :: namesT (q + 1) n := by
  unfold namesT
  rw [show n - q = (n - (q + 1)) + 1 by omega, List.range'_succ]
  rfl
theorem namesT_len (q n : Nat) : (namesT q n).length = n - q := by simp [namesT]
theorem namesT_snoc {q n : Nat} (h : q ≤ n) : namesT q n ++ [nmT n] = namesT q (n + 1) := by
  unfold namesT
  rw [show n + 1 - q = (n - q) + 1 by omega, List.range'_concat, List.map_append]
  simp [show q + (n - q) = n by omega]
theorem namesT_mem {q n s : Nat} (h : nmT s ∈ namesT q n) : s < n := by
  unfold namesT at h
  obtain ⟨a, ha, he⟩ := List.mem_map.1 h
  have := nmT_inj he
  subst this
  have := List.mem_range'_1.1 ha
  omega
theorem nmT_len (s : Nat) (h : s ≤ 1000000) : 1 ≤ (nmT s).length ∧ (nmT s).length ≤ 32 := by
  unfold nmT numT
  split
  · simp
  · have := decN_short 30 s (by omega)
    rw [List.length_cons]
    omega
/-- The end F to T: c came at it, q of n are answered; its pace. -/
def mkE (F T : Int) (c q n : Nat) (w f : Int) : Ev := ⟨F, T, 1, ⟨1, (q : Int) + 1, namesT q n, w, f⟩, 1, 1, c⟩
/-- The s-th text of F to T, and its answer. -/
def dat (F T : Int) (s : Nat) : Pk := ⟨1, F, T, 1, 1, (s : Int) + 1, nmT s⟩
def ackp (F T : Int) (s : Nat) : Pk := ⟨2, T, F, 1, 1, (s : Int) + 1, []⟩
theorem mkE_put (F T : Int) (c q n : Nat) (w f : Int) (hq : q ≤ n) (hn : n ≤ 1000000) :
    putE (mkE F T c q n w f) 16 (nmT n) = if q + 16 ≤ n then ((mkE F T c q n w f, []), 7) else if q = n then ((mkE F T c q (n + 1) 1 1, [dat F T q]), 0) else ((mkE F T c q (n + 1) w f, []), 0) := by
  have hl := nmT_len n hn
  have hne : nmT n ≠ [] := fun h => by rw [h] at hl; simp at hl
  have hm : nmT n ∉ namesT q n := fun h => by have := namesT_mem h; omega
  unfold putE
  rw [if_neg (by omega)]
  have hv : ∀ l : List (List UInt8), nmT n ∉ l → putV ⟨1, (q : Int) + 1, l, w, f⟩ 16 (nmT n) = if 16 ≤ l.length then (((⟨1, (q : Int) + 1, l, w, f⟩ : Ov), false), (7 : Int)) else match l with
      | [] => (((⟨1, (q : Int) + 1, [nmT n], 1, 1⟩ : Ov), true), (0 : Int))
      | y :: r => (((⟨1, (q : Int) + 1, (y :: r) ++ [nmT n], w, f⟩ : Ov), false), (0 : Int)) := by
    intro l hm
    unfold putV
    rw [if_neg hne, if_neg hm]
    by_cases h : 16 ≤ l.length
    · rw [if_pos h, if_pos (by simp only; omega)]
    · rw [if_neg h, if_neg (by simp only; omega)]
      cases l <;> simp
  rw [show (mkE F T c q n w f).o = ⟨1, (q : Int) + 1, namesT q n, w, f⟩ from rfl, hv _ hm, namesT_len]
  by_cases h16 : q + 16 ≤ n
  · rw [if_pos h16, if_pos (by omega)]
    simp [setO, dataV, mkE]
  · rw [if_neg h16, if_neg (by omega)]
    by_cases h0 : q = n
    · subst h0
      have h1 := namesT_snoc (Nat.le_refl q)
      have h2 := namesT_nil (Nat.le_refl q)
      rw [h2] at h1
      rw [if_pos rfl, h2]
      simp [setO, dataV, dat, mkE, ← h1]
    · rw [if_neg h0]
      have h1 := namesT_snoc hq
      have h2 := namesT_cons (show q < n by omega)
      rw [h2]
      simp only
      rw [← h2, h1]
      simp [setO, dataV, mkE]
theorem mkE_tick (F T : Int) (c q n : Nat) (w f : Int) :
    tikE (mkE F T c q n w f) = if n ≤ q then (mkE F T c q n w f, []) else (mkE F T c q n (tkW w f) (tkL w f), if tkB w f then [dat F T q] else []) := by
  unfold tikE
  by_cases h : n ≤ q
  · rw [if_pos h]
    simp [tikV, mkE, namesT_nil h, setO, dataV]
  · rw [if_neg h]
    have hc := namesT_cons (show q < n by omega)
    unfold mkE
    rw [hc]
    simp [tikV, setO, dataV, dat]
/-- The two nodes. -/
def Nod (F T : Int) : Prop := (F = 0 ∧ T = 8) ∨ (F = 8 ∧ T = 0)
theorem Nod.symm {F T : Int} (h : Nod F T) : Nod T F := by unfold Nod at *; omega
theorem dat_ok {F T : Int} (hN : Nod F T) {s : Nat} (hs : s ≤ 1000000) : chkP (dat F T s) = true := by
  have := nmT_len s hs
  unfold chkP okP
  rcases hN with ⟨rfl, rfl⟩ | ⟨rfl, rfl⟩ <;> · simp [dat, inS, inT, hpP, hpS, hpB]; exact ⟨decide_eq_true (by omega), decide_eq_true (by omega)⟩
theorem ack_ok {F T : Int} (hN : Nod F T) {s : Nat} (hs : s ≤ 1000000) : chkP (ackp F T s) = true := by
  unfold chkP okP
  rcases hN with ⟨rfl, rfl⟩ | ⟨rfl, rfl⟩ <;> · simp [ackp, inS, inT, hpP, hpS, hpB]; first | omega | exact decide_eq_true (by omega)
theorem mkE_data {F T : Int} (hN : Nod F T) (c q n : Nat) (w f : Int) (s : Nat) (hs : s ≤ c) (hs9 : s ≤ 1000000) :
    takV (mkE T F c q n w f) (dat F T s) = ((mkE T F (if s = c then c + 1 else c) q n w f, [ackp F T s]), (if s = c then str (nmT s) else ⟨#[]⟩), decide (s = c)) := by
  have hb : ¬ badT (mkE T F c q n w f) (dat F T s) := by
    unfold badT
    rw [dat_ok hN hs9]
    simp [mkE, dat]
  have hc : clsD (mkE T F c q n w f) (dat F T s) = if s = c then 1 else 2 := by
    unfold clsD
    simp only [mkE, dat, gC, gP, gL, Int.lt_irrefl, if_false, ite_self]
    by_cases h : s = c
    · simp [h]
    · rw [if_neg (by omega), if_pos (by omega), if_neg h]
  have hl : (lrnE (mkE T F c q n w f) 1).2 = [] ∧ (lrnV (mkE T F c q n w f).o 1).1 = (mkE T F c q n w f).o := by
    simp [lrnE, lrnV, mkE, dataV]
  unfold takV
  rw [if_neg hb, if_pos (show (dat F T s).k = 1 from rfl)]
  unfold datE
  have he : dend (mkE T F c q n w f) (dat F T s) = mkE T F (if s = c then c + 1 else c) q n w f := by
    unfold dend
    rw [show (dat F T s).i = 1 from rfl, hl.2]
    have h2 := hc
    unfold clsD at h2
    rw [show (dat F T s).i = 1 from rfl] at h2
    simp only [gN, h2]
    by_cases h : s = c
    · subst h
      simp [mkE, dat, gP, gL]
    · simp [mkE, dat, gP, gL, h]
  rw [he, show (dat F T s).i = 1 from rfl, hl.1]
  unfold ansD
  rw [hc]
  by_cases h : s = c
  · simp [h, mkE, dat, ackp]
  · simp [h, mkE, dat, ackp]
theorem mkE_ack {F T : Int} (hN : Nod F T) (c q n : Nat) (w f : Int) (s : Nat) (hs9 : s ≤ 1000000) :
    takV (mkE F T c q n w f) (ackp F T s) = if s = q ∧ q < n then ((mkE F T c (q + 1) n 1 (if q + 1 < n then 1 else 0), if q + 1 < n then [dat F T (q + 1)] else []), ⟨#[]⟩, false) else ((mkE F T c q n w f, []), ⟨#[]⟩, false) := by
  have hb : ¬ badT (mkE F T c q n w f) (ackp F T s) := by
    unfold badT
    rw [ack_ok hN hs9]
    simp [mkE, ackp]
  have hl : lrnE (mkE F T c q n w f) 1 = (mkE F T c q n w f, []) := by
    simp [lrnE, lrnV, mkE, dataV, gP, gL]
  unfold takV
  rw [if_neg hb, if_neg (show ¬ (ackp F T s).k = 1 by show ¬ (2 : Int) = 1; decide), if_pos (show (ackp F T s).k = 2 from rfl), if_pos (show (ackp F T s).p = (mkE F T c q n w f).i from rfl)]
  unfold ackE
  rw [show (ackp F T s).i = 1 from rfl, hl]
  by_cases h : s = q ∧ q < n
  · obtain ⟨rfl, h2⟩ := h
    rw [if_pos ⟨rfl, h2⟩]
    have hcons := namesT_cons h2
    unfold ackV
    rw [if_neg (by simp [mkE, ackp, hcons])]
    unfold begV
    by_cases h3 : s + 1 < n
    · have hc2 := namesT_cons h3
      simp [mkE, ackp, hcons, hc2, h3, setO, dataV, dat]
    · have hc2 := namesT_nil (show n ≤ s + 1 by omega)
      simp [mkE, ackp, hcons, hc2, h3, setO, dataV]
  · rw [if_neg h]
    unfold ackV
    have : (mkE F T c q n w f).o.l = [] ∨ (1 : Int) ≠ (mkE F T c q n w f).o.p ∨ (ackp F T s).s ≠ (mkE F T c q n w f).o.q := by
      by_cases h2 : n ≤ q
      · exact .inl (namesT_nil h2)
      · refine .inr (.inr ?_)
        simp [mkE, ackp]
        omega
    rw [if_pos this]
    simp [setO, mkE, dataV]
end Go.Proofs.Ytdekemlckpbbcaa
