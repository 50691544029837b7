/- The pair: maths. What holds behind each act. -/
import Derived.Test.YtdekemlckpbbcaaLnkQ
namespace Go.Proofs.Ytdekemlckpbbcaa
open Go.RowKit Go.Sort
set_option linter.unusedVariables false
set_option linter.unusedSimpArgs false

def setW (x : Pr) (w : List Pk) : Pr := ⟨x.a, x.b, w, x.p0, x.p1, x.c0, x.c1, x.ok⟩
theorem Dir.sd {s r : Sd} (h : Dir s r) {s' r' : Sd} (h1 : s'.q = s.q) (h2 : s'.n = s.n) (h3 : r'.c = r.c) (h4 : s'.w = s.w) (h5 : s'.f = s.f) : Dir s' r' := by
  obtain ⟨a1, a2, a3, a4, a5⟩ := h
  exact ⟨by omega, by omega, by omega, by omega, fun h => by rw [h4, h5]; exact a5 (by omega)⟩
theorem putS_q (a : Sd) : (putS a).q = a.q ∧ (putS a).c = a.c ∧ a.n ≤ (putS a).n ∧ (putS a).n ≤ a.n + 1 := by
  unfold putS
  split
  · exact ⟨rfl, rfl, Nat.le_refl _, Nat.le_succ _⟩
  · split <;> exact ⟨rfl, rfl, Nat.le_succ _, Nat.le_refl _⟩
theorem tikS_q (a : Sd) : (tikS a).q = a.q ∧ (tikS a).c = a.c ∧ (tikS a).n = a.n := by
  unfold tikS
  split <;> exact ⟨rfl, rfl, rfl⟩
theorem ackS_q (a : Sd) (k : Nat) : a.q ≤ (ackS a k).q ∧ (ackS a k).c = a.c ∧ (ackS a k).n = a.n := by
  unfold ackS
  split
  · exact ⟨Nat.le_succ _, rfl, rfl⟩
  · exact ⟨Nat.le_refl _, rfl, rfl⟩
theorem hadS_q (a : Sd) (k : Nat) : (hadS a k).q = a.q ∧ a.c ≤ (hadS a k).c ∧ (hadS a k).n = a.n ∧ (hadS a k).w = a.w ∧ (hadS a k).f = a.f := by
  unfold hadS
  refine ⟨rfl, ?_, rfl, rfl, rfl⟩
  simp only
  split <;> omega
theorem putL_len (F T : Int) (a : Sd) : (putL F T a).length ≤ 1 := by unfold putL; split <;> simp
theorem tikL_len (F T : Int) (a : Sd) : (tikL F T a).length ≤ 1 := by
  unfold tikL
  split
  · simp
  · split <;> simp
theorem ackL_len (F T : Int) (a : Sd) (k : Nat) : (ackL F T a k).length ≤ 1 := by unfold ackL; split <;> simp
theorem und_app {a b : Sd} {w l : List Pk} (h : ∀ p ∈ w, Und a b p) (h2 : ∀ p ∈ l, Und a b p) : ∀ p ∈ w ++ l, Und a b p := fun p hp => (List.mem_append.1 hp).elim (h p) (h2 p)
theorem inv_put0 {N M : Nat} {a b : Sd} {w : List Pk} (h : InvS N M a b w) : InvS (N + 1) (M + 1) (putS a) b (w ++ putL 0 8 a) := by
  obtain ⟨h1, h2, h3, h4, h5, h6⟩ := h
  have hp := h1.put
  have hq := putS_q a
  refine ⟨hp.1, h2.sd rfl rfl hq.2.1 rfl rfl, by omega, by omega, ?_, und_app (fun p hp => (h6 p hp).mono (by omega) hq.2.2.1 (by omega) (Nat.le_refl _) (Nat.le_refl _) (Nat.le_refl _)) fun p hp2 => ?_⟩
  · have := putL_len 0 8 a
    rw [List.length_append]
    omega
  · unfold putL at hp2
    split at hp2
    · rename_i h0
      obtain rfl : p = dat 0 8 a.q := by simpa using hp2
      exact .inl (.inl ⟨a.q, by omega, by have := hp.2.2.2.2.2.2 h0; omega, rfl⟩)
    · cases hp2
theorem inv_put1 {N M : Nat} {a b : Sd} {w : List Pk} (h : InvS N M a b w) : InvS (N + 1) (M + 1) a (putS b) (w ++ putL 8 0 b) := by
  obtain ⟨h1, h2, h3, h4, h5, h6⟩ := h
  have hp := h2.put
  have hq := putS_q b
  refine ⟨h1.sd rfl rfl hq.2.1 rfl rfl, hp.1, by omega, by omega, ?_, und_app (fun p hp => (h6 p hp).mono (Nat.le_refl _) (Nat.le_refl _) (Nat.le_refl _) (by omega) hq.2.2.1 (by omega)) fun p hp2 => ?_⟩
  · have := putL_len 8 0 b
    rw [List.length_append]
    omega
  · unfold putL at hp2
    split at hp2
    · rename_i h0
      obtain rfl : p = dat 8 0 b.q := by simpa using hp2
      exact .inr (.inl ⟨b.q, by omega, by have := hp.2.2.2.2.2.2 h0; omega, rfl⟩)
    · cases hp2
theorem inv_tick0 {N M : Nat} {a b : Sd} {w : List Pk} (h : InvS N M a b w) : InvS N (M + 1) (tikS a) b (w ++ tikL 0 8 a) := by
  obtain ⟨h1, h2, h3, h4, h5, h6⟩ := h
  have hp := h1.tik
  have hq := tikS_q a
  refine ⟨hp.1, h2.sd rfl rfl hq.2.1 rfl rfl, by omega, by omega, ?_, und_app (fun p hp => (h6 p hp).mono (by omega) (by omega) (by omega) (Nat.le_refl _) (Nat.le_refl _) (Nat.le_refl _)) fun p hp2 => ?_⟩
  · have := tikL_len 0 8 a
    rw [List.length_append]
    omega
  · unfold tikL at hp2
    split at hp2
    · cases hp2
    · split at hp2
      · obtain rfl : p = dat 0 8 a.q := by simpa using hp2
        exact .inl (.inl ⟨a.q, by omega, by omega, rfl⟩)
      · cases hp2
theorem inv_tick1 {N M : Nat} {a b : Sd} {w : List Pk} (h : InvS N M a b w) : InvS N (M + 1) a (tikS b) (w ++ tikL 8 0 b) := by
  obtain ⟨h1, h2, h3, h4, h5, h6⟩ := h
  have hp := h2.tik
  have hq := tikS_q b
  refine ⟨h1.sd rfl rfl hq.2.1 rfl rfl, hp.1, by omega, by omega, ?_, und_app (fun p hp => (h6 p hp).mono (Nat.le_refl _) (Nat.le_refl _) (Nat.le_refl _) (by omega) (by omega) (by omega)) fun p hp2 => ?_⟩
  · have := tikL_len 8 0 b
    rw [List.length_append]
    omega
  · unfold tikL at hp2
    split at hp2
    · cases hp2
    · split at hp2
      · obtain rfl : p = dat 8 0 b.q := by simpa using hp2
        exact .inr (.inl ⟨b.q, by omega, by omega, rfl⟩)
      · cases hp2
/-- A packet of those under way comes. -/
theorem inv_come {N M : Nat} {a b : Sd} {w : List Pk} (h : InvS N M a b w) {p : Pk} (hp : Und a b p) (hN : N ≤ 100000) : ∃ a' b' l, comesV (mkP a b w) p = mkP a' b' (w ++ l) ∧ InvS N (M + 1) a' b' (w ++ l) := by
  obtain ⟨h1, h2, h3, h4, h5, h6⟩ := h
  have q1 := h1.h3
  have q2 := h2.h3
  have q3 := h1.h1
  have q4 := h2.h1
  rcases hp with (⟨k, k1, k2, rfl⟩ | ⟨k, k1, rfl⟩) | ⟨k, k1, k2, rfl⟩ | ⟨k, k1, rfl⟩
  · have hd := h1.had k1 k2
    have hq := hadS_q b k
    refine ⟨a, hadS b k, [ackp 0 8 k], come_dat0 a b w k (by omega) (by omega), hd.1, h2.sd hq.1 hq.2.2.1 rfl hq.2.2.2.1 hq.2.2.2.2, h3, by omega, by rw [List.length_append]; simp; omega, und_app (fun p hp => (h6 p hp).mono (Nat.le_refl _) (Nat.le_refl _) (Nat.le_refl _) (by omega) (by omega) hq.2.1) fun p hp => ?_⟩
    obtain rfl : p = ackp 0 8 k := by simpa using hp
    exact .inl (.inr ⟨k, hd.2.2.2, rfl⟩)
  · have hd := h1.ack k1
    have hq := ackS_q a k
    refine ⟨ackS a k, b, ackL 0 8 a k, come_ack0 a b w k (by omega), hd.1, h2.sd rfl rfl hq.2.1 rfl rfl, by omega, h4, by have := ackL_len 0 8 a k; rw [List.length_append]; omega, und_app (fun p hp => (h6 p hp).mono hq.1 (by omega) (by omega) (Nat.le_refl _) (Nat.le_refl _) (Nat.le_refl _)) fun p hp => ?_⟩
    unfold ackL at hp
    split at hp
    · rename_i h0
      obtain rfl : p = dat 0 8 (a.q + 1) := by simpa using hp
      refine .inl (.inl ⟨a.q + 1, ?_, ?_, rfl⟩)
      · unfold ackS; rw [if_pos h0.1]; exact Nat.le_refl _
      · have := h0.2; omega
    · cases hp
  · have hd := h2.had k1 k2
    have hq := hadS_q a k
    refine ⟨hadS a k, b, [ackp 8 0 k], come_dat1 a b w k (by omega) (by omega), h1.sd hq.1 hq.2.2.1 rfl hq.2.2.2.1 hq.2.2.2.2, hd.1, by omega, h4, by rw [List.length_append]; simp; omega, und_app (fun p hp => (h6 p hp).mono (by omega) (by omega) hq.2.1 (Nat.le_refl _) (Nat.le_refl _) (Nat.le_refl _)) fun p hp => ?_⟩
    obtain rfl : p = ackp 8 0 k := by simpa using hp
    exact .inr (.inr ⟨k, hd.2.2.2, rfl⟩)
  · have hd := h2.ack k1
    have hq := ackS_q b k
    refine ⟨a, ackS b k, ackL 8 0 b k, come_ack1 a b w k (by omega), h1.sd rfl rfl hq.2.1 rfl rfl, hd.1, h3, by omega, by have := ackL_len 8 0 b k; rw [List.length_append]; omega, und_app (fun p hp => (h6 p hp).mono (Nat.le_refl _) (Nat.le_refl _) (Nat.le_refl _) hq.1 (by omega) (by omega)) fun p hp => ?_⟩
    unfold ackL at hp
    split at hp
    · rename_i h0
      obtain rfl : p = dat 8 0 (b.q + 1) := by simpa using hp
      refine .inr (.inl ⟨b.q + 1, ?_, ?_, rfl⟩)
      · unfold ackS; rw [if_pos h0.1]; exact Nat.le_refl _
      · have := h0.2; omega
    · cases hp
/-- What the contract of comes asks for. -/
theorem come_pre {N M : Nat} {a b : Sd} {w : List Pk} (h : InvS N M a b w) {p : Pk} (hp : Und a b p) (hN : N ≤ 100000) :
    (-9223372036854775808 ≤ p.s ∧ p.s ≤ 9223372036854775807) ∧ ((p.t = 0 ∧ ((takV (mkP a b w).a p).2.2 = true → (takV (mkP a b w).a p).2.1 = str (116 :: numT (mkP a b w).c1.toNat) ∧ (mkP a b w).c1 < (mkP a b w).p1)) ∨
      (p.t = 8 ∧ ((takV (mkP a b w).b p).2.2 = true → (takV (mkP a b w).b p).2.1 = str (116 :: numT (mkP a b w).c0.toNat) ∧ (mkP a b w).c0 < (mkP a b w).p0))) := by
  obtain ⟨h1, h2, h3, h4, h5, h6⟩ := h
  have q1 := h1.h3
  have q2 := h2.h3
  have q3 := h1.h1
  have q4 := h2.h1
  rcases hp with (⟨k, k1, k2, rfl⟩ | ⟨k, k1, rfl⟩) | ⟨k, k1, k2, rfl⟩ | ⟨k, k1, rfl⟩
  · refine ⟨by simp only [dat]; omega, .inr ⟨rfl, ?_⟩⟩
    rw [show (mkP a b w).b = mkE 8 0 b.c b.q b.n b.w b.f from rfl, mkE_data nod08 b.c b.q b.n b.w b.f k (by omega) (by omega)]
    intro hk
    obtain rfl : k = b.c := of_decide_eq_true hk
    refine ⟨(show (if b.c = b.c then str (nmT b.c) else ⟨#[]⟩) = str (nmT b.c) by rw [if_pos rfl]), ?_⟩
    show ((b.c : Nat) : Int) < (a.n : Int)
    omega
  · refine ⟨by simp only [ackp]; omega, .inl ⟨rfl, ?_⟩⟩
    rw [show (mkP a b w).a = mkE 0 8 a.c a.q a.n a.w a.f from rfl, mkE_ack nod08 a.c a.q a.n a.w a.f k (by omega)]
    split <;> (intro hk; cases hk)
  · refine ⟨by simp only [dat]; omega, .inl ⟨rfl, ?_⟩⟩
    rw [show (mkP a b w).a = mkE 0 8 a.c a.q a.n a.w a.f from rfl, mkE_data nod80 a.c a.q a.n a.w a.f k (by omega) (by omega)]
    intro hk
    obtain rfl : k = a.c := of_decide_eq_true hk
    refine ⟨(show (if a.c = a.c then str (nmT a.c) else ⟨#[]⟩) = str (nmT a.c) by rw [if_pos rfl]), ?_⟩
    show ((a.c : Nat) : Int) < (b.n : Int)
    omega
  · refine ⟨by simp only [ackp]; omega, .inr ⟨rfl, ?_⟩⟩
    rw [show (mkP a b w).b = mkE 8 0 b.c b.q b.n b.w b.f from rfl, mkE_ack nod80 b.c b.q b.n b.w b.f k (by omega)]
    split <;> (intro hk; cases hk)
/-- Packets are lost. -/
theorem inv_sub {N M : Nat} {a b : Sd} {w w' : List Pk} (h : InvS N M a b w) (hw : ∀ p ∈ w', p ∈ w) (hl : w'.length ≤ M) : InvS N M a b w' :=
  ⟨h.1, h.2, h.3, h.4, hl, fun p hp => h.6 p (hw p hp)⟩
theorem InvS.up {N M N' M' : Nat} {a b : Sd} {w : List Pk} (h : InvS N M a b w) (h1 : N ≤ N') (h2 : M ≤ M') : InvS N' M' a b w :=
  ⟨h.1, h.2, Nat.le_trans h.3 h1, Nat.le_trans h.4 h1, Nat.le_trans h.5 h2, h.6⟩
/-- The contract of comes, for a packet under way. -/
theorem comes_any {N M : Nat} {a b : Sd} {w : List Pk} (hI : InvS N M a b w) {p : Pk} (hp : Und a b p) (hN : N ≤ 100000) (hM : M ≤ 100000) (g : Nat) (W u : World) (A : Option Addr) (ca : Nat) (B : Option Addr) (cb : Nat) (D : Option Addr) (cd : Nat) (h : PX W u g (mkP a b w) A ca B cb D cd) :
    Calls Try.prog 33 #[.pointer (some ⟨g, 0, none⟩), .agg (pca p)] u fun e u' => (∃ v, e = .returned v) ∧ ∃ A ca B cb D cd, PX W u' g (comesV (mkP a b w) p) A ca B cb D cd := by
  obtain ⟨⟨s0, s9⟩, hh⟩ := come_pre hI hp hN
  obtain ⟨h1, h2, h3, h4, h5, h6⟩ := hI
  have q1 := h1.h3
  have q2 := h2.h3
  have q3 := h1.h1
  have q4 := h2.h1
  have q5 := h1.h4
  have q6 := h2.h4
  rcases hh with ⟨ht, hg⟩ | ⟨ht, hg⟩
  · exact comes0_any (mkP a b w) p ht g W u A ca B cb D cd h (by show (namesT a.q a.n).length ≤ 1000; rw [namesT_len]; omega) (by show w.length ≤ 100000; omega) (by show (0 : Int) ≤ (a.c : Int); omega) (by show (a.c : Int) ≤ _; omega) s0 s9 (by show (a.q : Int) + 1 < _; omega) (by show _ ≤ (a.q : Int) + 1; omega) rfl (by show (0 : Int) ≤ (a.c : Int); omega) (by show (a.c : Int) ≤ _; omega) hg
  · exact comes1_any (mkP a b w) p ht g W u A ca B cb D cd h (by show (namesT b.q b.n).length ≤ 1000; rw [namesT_len]; omega) (by show w.length ≤ 100000; omega) (by show (0 : Int) ≤ (b.c : Int); omega) (by show (b.c : Int) ≤ _; omega) s0 s9 (by show (b.q : Int) + 1 < _; omega) (by show _ ≤ (b.q : Int) + 1; omega) rfl (by show (0 : Int) ≤ (b.c : Int); omega) (by show (b.c : Int) ≤ _; omega) hg
end Go.Proofs.Ytdekemlckpbbcaa
