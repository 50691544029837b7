/- The pair: maths. What stays of the two ends, whatever happens. -/
import Derived.Test.YtdekemlckpbbcaaLnkP
namespace Go.Proofs.Ytdekemlckpbbcaa
open Go.RowKit Go.Sort
set_option linter.unusedVariables false
set_option linter.unusedSimpArgs false

/-- One end: q of its n texts are answered; c came at it; its pace. -/
structure Sd where
  q : Nat
  n : Nat
  c : Nat
  w : Int
  f : Int
def mkP (a b : Sd) (w : List Pk) : Pr := ⟨mkE 0 8 a.c a.q a.n a.w a.f, mkE 8 0 b.c b.q b.n b.w b.f, w, a.n, b.n, b.c, a.c, true⟩
/-- What holds of the texts of one end. -/
structure Dir (s r : Sd) : Prop where
  h1 : s.q ≤ r.c
  h2 : r.c ≤ s.q + 1
  h3 : r.c ≤ s.n
  h4 : s.n ≤ s.q + 16
  h5 : s.q < s.n → pok s.w s.f = true ∧ 1 ≤ s.f
def OnW (F T : Int) (s r : Sd) (p : Pk) : Prop := (∃ k, k ≤ s.q ∧ k < s.n ∧ p = dat F T k) ∨ ∃ k, k < r.c ∧ p = ackp F T k
theorem OnW.mono {F T : Int} {s r s' r' : Sd} {p : Pk} (h : OnW F T s r p) (h1 : s.q ≤ s'.q) (h2 : s.n ≤ s'.n) (h3 : r.c ≤ r'.c) : OnW F T s' r' p := by
  rcases h with ⟨k, h4, h5, h6⟩ | ⟨k, h4, h5⟩
  · exact .inl ⟨k, by omega, by omega, h6⟩
  · exact .inr ⟨k, by omega, h5⟩
def Und (a b : Sd) (p : Pk) : Prop := OnW 0 8 a b p ∨ OnW 8 0 b a p
theorem Und.mono {a b a' b' : Sd} {p : Pk} (h : Und a b p) (h1 : a.q ≤ a'.q) (h2 : a.n ≤ a'.n) (h3 : a.c ≤ a'.c) (h4 : b.q ≤ b'.q) (h5 : b.n ≤ b'.n) (h6 : b.c ≤ b'.c) : Und a' b' p :=
  h.elim (fun h => .inl (h.mono h1 h2 h6)) fun h => .inr (h.mono h4 h5 h3)
structure InvS (N M : Nat) (a b : Sd) (w : List Pk) : Prop where
  ab : Dir a b
  ba : Dir b a
  na : a.n ≤ N
  nb : b.n ≤ N
  wl : w.length ≤ M
  wu : ∀ p ∈ w, Und a b p
def Inv (N M : Nat) (x : Pr) : Prop := ∃ a b w, x = mkP a b w ∧ InvS N M a b w
theorem nod08 : Nod 0 8 := .inl ⟨rfl, rfl⟩
theorem nod80 : Nod 8 0 := .inr ⟨rfl, rfl⟩
theorem pok_11 : pok 1 1 = true := by decide

/-- The end whose text is put. -/
def putS (a : Sd) : Sd := if a.q + 16 ≤ a.n then a else if a.q = a.n then ⟨a.q, a.n + 1, a.c, 1, 1⟩ else ⟨a.q, a.n + 1, a.c, a.w, a.f⟩
def putL (F T : Int) (a : Sd) : List Pk := if a.q = a.n then [dat F T a.q] else []
theorem puts0_mk (a b : Sd) (w : List Pk) (hq : a.q ≤ a.n) (hn : a.n ≤ 1000000) : puts0V (mkP a b w) = mkP (putS a) b (w ++ putL 0 8 a) := by
  unfold puts0V putE0
  have h := mkE_put 0 8 a.c a.q a.n a.w a.f hq hn
  have e1 : (mkP a b w).a = mkE 0 8 a.c a.q a.n a.w a.f := rfl
  have e2 : (116 :: numT (mkP a b w).p0.toNat) = nmT a.n := rfl
  rw [e1, e2, h]
  unfold putS putL
  by_cases h16 : a.q + 16 ≤ a.n
  · rw [if_pos h16, if_pos h16, if_neg (show ¬ a.q = a.n by omega)]
    simp
  · rw [if_neg h16, if_neg h16]
    by_cases h0 : a.q = a.n
    · simp [h0, addW, upP0, setPA, mkP]
    · simp [h0, addW, upP0, setPA, mkP]
theorem puts1_mk (a b : Sd) (w : List Pk) (hq : b.q ≤ b.n) (hn : b.n ≤ 1000000) : puts1V (mkP a b w) = mkP a (putS b) (w ++ putL 8 0 b) := by
  unfold puts1V putE1
  have h := mkE_put 8 0 b.c b.q b.n b.w b.f hq hn
  have e1 : (mkP a b w).b = mkE 8 0 b.c b.q b.n b.w b.f := rfl
  have e2 : (116 :: numT (mkP a b w).p1.toNat) = nmT b.n := rfl
  rw [e1, e2, h]
  unfold putS putL
  by_cases h16 : b.q + 16 ≤ b.n
  · rw [if_pos h16, if_pos h16, if_neg (show ¬ b.q = b.n by omega)]
    simp
  · rw [if_neg h16, if_neg h16]
    by_cases h0 : b.q = b.n
    · simp [h0, addW, upP1, setPB, mkP]
    · simp [h0, addW, upP1, setPB, mkP]
def tikS (a : Sd) : Sd := if a.n ≤ a.q then a else ⟨a.q, a.n, a.c, tkW a.w a.f, tkL a.w a.f⟩
def tikL (F T : Int) (a : Sd) : List Pk := if a.n ≤ a.q then [] else if tkB a.w a.f then [dat F T a.q] else []
theorem ticks0_mk (a b : Sd) (w : List Pk) : ticksV (mkP a b w) 0 = mkP (tikS a) b (w ++ tikL 0 8 a) := by
  unfold ticksV
  rw [if_pos rfl, show (mkP a b w).a = mkE 0 8 a.c a.q a.n a.w a.f from rfl, mkE_tick]
  unfold tikS tikL
  by_cases h : a.n ≤ a.q
  · simp [h, addW, setPA, mkP]
  · simp [h, addW, setPA, mkP]
theorem ticks1_mk (a b : Sd) (w : List Pk) : ticksV (mkP a b w) 1 = mkP a (tikS b) (w ++ tikL 8 0 b) := by
  unfold ticksV
  rw [if_neg (by decide), show (mkP a b w).b = mkE 8 0 b.c b.q b.n b.w b.f from rfl, mkE_tick]
  unfold tikS tikL
  by_cases h : b.n ≤ b.q
  · simp [h, addW, setPB, mkP]
  · simp [h, addW, setPB, mkP]
/-- An end at which the k-th text comes; one that is answered the k-th. -/
def hadS (b : Sd) (k : Nat) : Sd := ⟨b.q, b.n, if k = b.c then b.c + 1 else b.c, b.w, b.f⟩
def ackS (a : Sd) (k : Nat) : Sd := if k = a.q ∧ a.q < a.n then ⟨a.q + 1, a.n, a.c, 1, if a.q + 1 < a.n then 1 else 0⟩ else a
def ackL (F T : Int) (a : Sd) (k : Nat) : List Pk := if (k = a.q ∧ a.q < a.n) ∧ a.q + 1 < a.n then [dat F T (a.q + 1)] else []
theorem come_dat0 (a b : Sd) (w : List Pk) (k : Nat) (hk : k ≤ b.c) (h9 : k ≤ 1000000) : comesV (mkP a b w) (dat 0 8 k) = mkP a (hadS b k) (w ++ [ackp 0 8 k]) := by
  unfold comesV
  rw [if_neg (show ¬ (dat 0 8 k).t = 0 by show ¬ (8 : Int) = 0; decide), show (mkP a b w).b = mkE 8 0 b.c b.q b.n b.w b.f from rfl, mkE_data nod08 b.c b.q b.n b.w b.f k hk h9]
  unfold hadS
  by_cases h : k = b.c
  · simp [h, addW, upC0, setPB, mkP]
  · simp [h, addW, upC0, setPB, mkP]
theorem come_dat1 (a b : Sd) (w : List Pk) (k : Nat) (hk : k ≤ a.c) (h9 : k ≤ 1000000) : comesV (mkP a b w) (dat 8 0 k) = mkP (hadS a k) b (w ++ [ackp 8 0 k]) := by
  unfold comesV
  rw [if_pos (show (dat 8 0 k).t = 0 from rfl), show (mkP a b w).a = mkE 0 8 a.c a.q a.n a.w a.f from rfl, mkE_data nod80 a.c a.q a.n a.w a.f k hk h9]
  unfold hadS
  by_cases h : k = a.c
  · simp [h, addW, upC1, setPA, mkP]
  · simp [h, addW, upC1, setPA, mkP]
theorem come_ack0 (a b : Sd) (w : List Pk) (k : Nat) (h9 : k ≤ 1000000) : comesV (mkP a b w) (ackp 0 8 k) = mkP (ackS a k) b (w ++ ackL 0 8 a k) := by
  unfold comesV
  rw [if_pos (show (ackp 0 8 k).t = 0 from rfl), show (mkP a b w).a = mkE 0 8 a.c a.q a.n a.w a.f from rfl, mkE_ack nod08 a.c a.q a.n a.w a.f k h9]
  unfold ackS ackL
  by_cases h : k = a.q ∧ a.q < a.n
  · by_cases h2 : a.q + 1 < a.n
    · simp [h, h2, addW, setPA, mkP]
    · simp [h, h2, addW, setPA, mkP]
  · rw [if_neg h, if_neg h, if_neg (fun h3 : (k = a.q ∧ a.q < a.n) ∧ a.q + 1 < a.n => h h3.1)]
    simp [addW, setPA, mkP]
theorem come_ack1 (a b : Sd) (w : List Pk) (k : Nat) (h9 : k ≤ 1000000) : comesV (mkP a b w) (ackp 8 0 k) = mkP a (ackS b k) (w ++ ackL 8 0 b k) := by
  unfold comesV
  rw [if_neg (show ¬ (ackp 8 0 k).t = 0 by show ¬ (8 : Int) = 0; decide), show (mkP a b w).b = mkE 8 0 b.c b.q b.n b.w b.f from rfl, mkE_ack nod80 b.c b.q b.n b.w b.f k h9]
  unfold ackS ackL
  by_cases h : k = b.q ∧ b.q < b.n
  · by_cases h2 : b.q + 1 < b.n
    · simp [h, h2, addW, setPB, mkP]
    · simp [h, h2, addW, setPB, mkP]
  · rw [if_neg h, if_neg h, if_neg (fun h3 : (k = b.q ∧ b.q < b.n) ∧ b.q + 1 < b.n => h h3.1)]
    simp [addW, setPB, mkP]

/- What stays of one direction. -/
theorem Dir.put {s r : Sd} (h : Dir s r) : Dir (putS s) r ∧ Dir r (putS s) = Dir r s ∧ (putS s).q = s.q ∧ s.n ≤ (putS s).n ∧ (putS s).n ≤ s.n + 1 ∧ (putS s).c = s.c ∧ (s.q = s.n → (putS s).n = s.n + 1) := by
  obtain ⟨h1, h2, h3, h4, h5⟩ := h
  unfold putS
  split
  · rename_i h6
    exact ⟨⟨h1, h2, h3, h4, h5⟩, rfl, rfl, Nat.le_refl _, by omega, rfl, fun h => by omega⟩
  · split
    · rename_i h6 h7
      refine ⟨⟨h1, h2, by simp only; omega, by simp only; omega, fun _ => ⟨pok_11, by simp⟩⟩, ?_, rfl, by simp, Nat.le_refl _, rfl, fun _ => rfl⟩
      exact propext ⟨fun h => ⟨h.1, h.2, h.3, h.4, h.5⟩, fun h => ⟨h.1, h.2, h.3, h.4, h.5⟩⟩
    · rename_i h6 h7
      refine ⟨⟨h1, h2, by simp only; omega, by simp only; omega, fun _ => h5 (by omega)⟩, ?_, rfl, by simp, Nat.le_refl _, rfl, fun h => absurd h h7⟩
      exact propext ⟨fun h => ⟨h.1, h.2, h.3, h.4, h.5⟩, fun h => ⟨h.1, h.2, h.3, h.4, h.5⟩⟩
theorem tk_ok {w f : Int} (h : pok w f = true) (h1 : 1 ≤ f) : pok (tkW w f) (tkL w f) = true ∧ 1 ≤ tkL w f ∧ (tkB w f = false → tkL w f = f - 1) := by
  have h2 := (pok_iff w f).1 h
  unfold tkW tkL tkB
  by_cases h3 : f = 1
  · subst h3
    simp only [h, if_true, Bool.true_and, beq_self_eq_true]
    refine ⟨?_, ?_, fun h => by simp at h⟩
    all_goals rcases h2.1 with rfl | rfl | rfl | rfl <;> decide
  · have h0 : ¬ f = 0 := by omega
    simp only [h, if_true, h3, if_false, h0]
    exact ⟨(pok_iff _ _).2 ⟨h2.1, by omega, by omega⟩, by omega, fun _ => trivial⟩
theorem Dir.tik {s r : Sd} (h : Dir s r) : Dir (tikS s) r ∧ Dir r (tikS s) = Dir r s ∧ (tikS s).q = s.q ∧ (tikS s).n = s.n ∧ (tikS s).c = s.c := by
  obtain ⟨h1, h2, h3, h4, h5⟩ := h
  unfold tikS
  split
  · exact ⟨⟨h1, h2, h3, h4, h5⟩, rfl, rfl, rfl, rfl⟩
  · rename_i h6
    obtain ⟨h7, h8⟩ := h5 (by omega)
    refine ⟨⟨h1, h2, h3, h4, fun _ => ⟨(tk_ok h7 h8).1, (tk_ok h7 h8).2.1⟩⟩, ?_, rfl, rfl, rfl⟩
    exact propext ⟨fun h => ⟨h.1, h.2, h.3, h.4, h.5⟩, fun h => ⟨h.1, h.2, h.3, h.4, h.5⟩⟩
/-- The k-th text of s comes at r. -/
theorem Dir.had {s r : Sd} (h : Dir s r) {k : Nat} (hk : k ≤ s.q) (hn : k < s.n) : Dir s (hadS r k) ∧ (Dir (hadS r k) s ↔ Dir r s) ∧ r.c ≤ (hadS r k).c ∧ k < (hadS r k).c := by
  obtain ⟨h1, h2, h3, h4, h5⟩ := h
  unfold hadS
  refine ⟨⟨?_, ?_, ?_, h4, h5⟩, ⟨fun h => ⟨h.1, h.2, h.3, h.4, h.5⟩, fun h => ⟨h.1, h.2, h.3, h.4, h.5⟩⟩, ?_, ?_⟩
  all_goals simp only
  all_goals split <;> omega
theorem Dir.ack {s r : Sd} (h : Dir s r) {k : Nat} (hk : k < r.c) : Dir (ackS s k) r ∧ (Dir r (ackS s k) ↔ Dir r s) ∧ s.q ≤ (ackS s k).q ∧ (ackS s k).n = s.n ∧ (ackS s k).c = s.c := by
  obtain ⟨h1, h2, h3, h4, h5⟩ := h
  unfold ackS
  split
  · rename_i h6
    refine ⟨⟨by simp only; omega, by simp only; omega, h3, by simp only; omega, fun h => ?_⟩, ⟨fun h => ⟨h.1, h.2, h.3, h.4, h.5⟩, fun h => ⟨h.1, h.2, h.3, h.4, h.5⟩⟩, by simp, rfl, rfl⟩
    simp only at h ⊢
    rw [if_pos h]
    exact ⟨pok_11, Int.le_refl _⟩
  · exact ⟨⟨h1, h2, h3, h4, h5⟩, Iff.rfl, Nat.le_refl _, rfl, rfl⟩
end Go.Proofs.Ytdekemlckpbbcaa
