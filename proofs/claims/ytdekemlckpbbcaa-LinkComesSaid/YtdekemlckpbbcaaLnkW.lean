/- LinkComes: maths. All that is under way comes; what waits is sent again. -/
import Derived.Test.YtdekemlckpbbcaaLnkR
namespace Go.Proofs.Ytdekemlckpbbcaa
open Go.RowKit Go.Sort
set_option linter.unusedVariables false
set_option linter.unusedSimpArgs false

def wt (p : Pk) : Nat := if p.k = 1 then 2 else 1
def Phi (a b : Sd) (w : List Pk) : Nat := (w.map wt).sum + 2 * ((a.n - a.q) + (b.n - b.q))
theorem wt_dat (F T : Int) (k : Nat) : wt (dat F T k) = 2 := rfl
theorem wt_ack (F T : Int) (k : Nat) : wt (ackp F T k) = 1 := rfl
theorem Phi_cons (a b : Sd) (p : Pk) (r : List Pk) : Phi a b (p :: r) = wt p + Phi a b r := by simp [Phi]; omega
theorem Phi_app (a b : Sd) (r l : List Pk) : Phi a b (r ++ l) = Phi a b r + (l.map wt).sum := by simp [Phi]; omega
theorem wt_pos (p : Pk) : 1 ≤ wt p := by unfold wt; split <;> omega
theorem wt_sum (w : List Pk) : (w.map wt).sum ≤ 2 * w.length := by
  induction w with
  | nil => simp
  | cons p r ih =>
    have : wt p ≤ 2 := by unfold wt; split <;> omega
    simp only [List.map_cons, List.sum_cons, List.length_cons]
    omega
/-- Within m rounds all of an end's texts are answered. -/
def Goa (F T : Int) (s : Sd) (w : List Pk) (m : Nat) : Prop := s.n ≤ s.q ∨ (1 ≤ m ∧ ∃ p ∈ w, p = dat F T s.q ∨ p = ackp F T s.q) ∨ s.f + 1 ≤ m
theorem goa_keep {F T : Int} {s s' : Sd} {p : Pk} {r l : List Pk} {m : Nat} (h : Goa F T s (p :: r) m) (h1 : p ≠ dat F T s.q) (h2 : p ≠ ackp F T s.q) (e1 : s'.q = s.q) (e2 : s'.n = s.n) (e3 : s'.f = s.f) : Goa F T s' (r ++ l) m := by
  unfold Goa
  rw [e1, e2, e3]
  rcases h with h | ⟨hm, x, hx, h⟩ | h
  · exact .inl h
  · rcases List.mem_cons.1 hx with rfl | hx
    · exact absurd h (fun h => h.elim h1 h2)
    · exact .inr (.inl ⟨hm, x, List.mem_append_left _ hx, h⟩)
  · exact .inr (.inr h)
theorem dat_inj {F T : Int} {j k : Nat} (h : dat F T j = dat F T k) : j = k := by
  have := congrArg Pk.s h
  simp only [dat] at this
  omega
theorem ackp_inj {F T : Int} {j k : Nat} (h : ackp F T j = ackp F T k) : j = k := by
  have := congrArg Pk.s h
  simp only [ackp] at this
  omega
theorem dat_ack (F T F' T' : Int) (j k : Nat) : dat F T j ≠ ackp F' T' k := fun h => by
  have := congrArg Pk.k h
  simp [dat, ackp] at this
theorem dat_other {F T F' T' : Int} (hF : F ≠ F') (j k : Nat) : dat F T j ≠ dat F' T' k := fun h => by
  have := congrArg Pk.f h
  exact hF this
theorem ack_other {F T F' T' : Int} (hT : T ≠ T') (j k : Nat) : ackp F T j ≠ ackp F' T' k := fun h => by
  have := congrArg Pk.f h
  exact hT this
theorem goa_dat {F T : Int} {s : Sd} {k : Nat} {r : List Pk} {m : Nat} (h : Goa F T s (dat F T k :: r) m) : Goa F T s (r ++ [ackp F T k]) m := by
  rcases h with h | ⟨hm, x, hx, h⟩ | h
  · exact .inl h
  · refine .inr (.inl ⟨hm, ?_⟩)
    rcases List.mem_cons.1 hx with rfl | hx
    · rcases h with h | h
      · exact ⟨_, List.mem_append_right _ (List.mem_singleton.2 rfl), .inr (by rw [dat_inj h])⟩
      · exact absurd h (dat_ack _ _ _ _ _ _)
    · exact ⟨x, List.mem_append_left _ hx, h⟩
  · exact .inr (.inr h)
theorem ackS_y {s : Sd} {k : Nat} (h : k = s.q ∧ s.q < s.n) : ackS s k = ⟨s.q + 1, s.n, s.c, 1, if s.q + 1 < s.n then 1 else 0⟩ := if_pos h
theorem ackS_n {s : Sd} {k : Nat} (h : ¬ (k = s.q ∧ s.q < s.n)) : ackS s k = s := if_neg h
theorem ackL_y {F T : Int} {s : Sd} {k : Nat} (h : k = s.q ∧ s.q < s.n) (h1 : s.q + 1 < s.n) : ackL F T s k = [dat F T (s.q + 1)] := if_pos ⟨h, h1⟩
theorem ackL_n {F T : Int} {s : Sd} {k : Nat} (h : ¬ ((k = s.q ∧ s.q < s.n) ∧ s.q + 1 < s.n)) : ackL F T s k = [] := if_neg h
theorem ack_phi {F T : Int} {s : Sd} {k : Nat} : ((ackL F T s k).map wt).sum + 2 * ((ackS s k).n - (ackS s k).q) ≤ 2 * (s.n - s.q) := by
  by_cases h0 : k = s.q ∧ s.q < s.n
  · rw [ackS_y h0]
    by_cases h9 : s.q + 1 < s.n
    · rw [ackL_y h0 h9]
      simp only [List.map_cons, List.map_nil, List.sum_cons, List.sum_nil, wt_dat]
      omega
    · rw [ackL_n fun h => h9 h.2]
      simp only [List.map_nil, List.sum_nil]
      omega
  · rw [ackS_n h0, ackL_n fun h => h0 h.1]
    simp
theorem goa_ack {F T : Int} {s : Sd} {k : Nat} {r : List Pk} {m : Nat} (h : Goa F T s (ackp F T k :: r) m) (hf : s.q < s.n → 1 ≤ s.f) : Goa F T (ackS s k) (r ++ ackL F T s k) m := by
  by_cases h0 : k = s.q ∧ s.q < s.n
  · rw [ackS_y h0]
    by_cases h1 : s.q + 1 < s.n
    · rw [ackL_y h0 h1]
      refine .inr (.inl ⟨?_, _, List.mem_append_right _ (List.mem_singleton.2 rfl), .inl rfl⟩)
      rcases h with h | ⟨hm, _⟩ | h
      · omega
      · exact hm
      · have := hf h0.2
        omega
    · exact .inl (by simp only; omega)
  · rw [ackS_n h0, ackL_n fun h => h0 h.1]
    rcases h with h | ⟨hm, x, hx, h⟩ | h
    · exact .inl h
    · by_cases hn : s.n ≤ s.q
      · exact .inl hn
      · refine .inr (.inl ⟨hm, ?_⟩)
        rcases List.mem_cons.1 hx with rfl | hx
        · rcases h with h | h
          · exact absurd h.symm (dat_ack _ _ _ _ _ _)
          · exact absurd ⟨ackp_inj h, by omega⟩ h0
        · exact ⟨x, List.mem_append_left _ hx, h⟩
    · exact .inr (.inr h)
theorem goa_tik {F T : Int} {s : Sd} {w : List Pk} {m : Nat} (h : Goa F T s [] (m + 1)) (hp : s.q < s.n → pok s.w s.f = true ∧ 1 ≤ s.f) : Goa F T (tikS s) (w ++ tikL F T s) m := by
  unfold tikS tikL
  by_cases hn : s.n ≤ s.q
  · rw [if_pos hn]
    exact .inl hn
  · rw [if_neg hn, if_neg hn]
    obtain ⟨h1, h2⟩ := hp (by omega)
    have h3 := tk_ok h1 h2
    rcases h with h | ⟨_, x, hx, _⟩ | h
    · exact absurd h hn
    · cases hx
    · cases hb : tkB s.w s.f with
      | true => exact .inr (.inl ⟨by omega, _, List.mem_append_right _ (List.mem_singleton.2 rfl), .inl rfl⟩)
      | false =>
        have := h3.2.2 hb
        exact .inr (.inr (by simp only; omega))
theorem goa_more {F T : Int} {s : Sd} {w l : List Pk} {m : Nat} (h : Goa F T s w m) : Goa F T s (w ++ l) m := by
  rcases h with h | ⟨hm, x, hx, h⟩ | h
  · exact .inl h
  · exact .inr (.inl ⟨hm, x, List.mem_append_left _ hx, h⟩)
  · exact .inr (.inr h)
theorem goa_0 {F T : Int} {s : Sd} {w : List Pk} (h : Goa F T s w 0) (hf : s.q < s.n → 1 ≤ s.f) : s.n ≤ s.q := by
  rcases h with h | ⟨hm, _⟩ | h
  · exact h
  · omega
  · by_cases hn : s.n ≤ s.q
    · exact hn
    · have := hf (by omega)
      omega
theorem goa_sd {F T : Int} {s s' : Sd} {w : List Pk} {m : Nat} (h : Goa F T s w m) (e1 : s'.q = s.q) (e2 : s'.n = s.n) (e3 : s'.f = s.f) : Goa F T s' w m := by
  unfold Goa at *
  rw [e1, e2, e3]
  exact h
/-- What holds in a round. -/
structure RS (N M m : Nat) (a b : Sd) (w : List Pk) : Prop where
  i : InvS N M a b w
  ga : Goa 0 8 a w m
  gb : Goa 8 0 b w m
/-- The first packet comes. -/
theorem rs_come {N M m : Nat} {a b : Sd} {p : Pk} {r : List Pk} (h : RS N M m a b (p :: r)) (hN : N ≤ 100000) : ∃ a' b' l, comesV (mkP a b r) p = mkP a' b' (r ++ l) ∧ RS N M m a' b' (r ++ l) ∧ Phi a' b' (r ++ l) + 1 ≤ Phi a b (p :: r) ∧ a'.n = a.n ∧ b'.n = b.n := by
  obtain ⟨hI, ga, gb⟩ := h
  have hp := hI.6 p (List.mem_cons_self ..)
  have hr : ∀ x ∈ r, Und a b x := fun x hx => hI.6 x (List.mem_cons_of_mem _ hx)
  have hlen : r.length + 1 ≤ M := by have := hI.5; simpa using this
  obtain ⟨h1, h2, h3, h4, h5, h6⟩ := hI
  have q1 := h1.h3
  have q2 := h2.h3
  have q3 := h1.h1
  have q4 := h2.h1
  rcases hp with (⟨k, k1, k2, rfl⟩ | ⟨k, k1, rfl⟩) | ⟨k, k1, k2, rfl⟩ | ⟨k, k1, rfl⟩
  · have hd := h1.had k1 k2
    have hq := hadS_q b k
    refine ⟨a, hadS b k, [ackp 0 8 k], come_dat0 a b r k (by omega) (by omega), ⟨⟨hd.1, h2.sd hq.1 hq.2.2.1 rfl hq.2.2.2.1 hq.2.2.2.2, h3, by omega, by rw [List.length_append]; simpa using hlen, und_app (fun p hp => (hr p hp).mono (Nat.le_refl _) (Nat.le_refl _) (Nat.le_refl _) (by omega) (by omega) hq.2.1) fun p hp => ?_⟩, goa_dat ga, goa_keep gb (dat_other (by decide) _ _) (dat_ack _ _ _ _ _ _) hq.1 hq.2.2.1 hq.2.2.2.2⟩, ?_, rfl, hq.2.2.1⟩
    · obtain rfl : p = ackp 0 8 k := by simpa using hp
      exact .inl (.inr ⟨k, hd.2.2.2, rfl⟩)
    · rw [Phi_cons, Phi_app, wt_dat]
      simp only [List.map_cons, List.map_nil, List.sum_cons, List.sum_nil, wt_ack]
      unfold Phi
      rw [hq.1, hq.2.2.1]
      omega
  · have hd := h1.ack k1
    have hq := ackS_q a k
    refine ⟨ackS a k, b, ackL 0 8 a k, come_ack0 a b r k (by omega), ⟨⟨hd.1, h2.sd rfl rfl hq.2.1 rfl rfl, by omega, h4, by have := ackL_len 0 8 a k; rw [List.length_append]; omega, und_app (fun p hp => (hr p hp).mono hq.1 (by omega) (by omega) (Nat.le_refl _) (Nat.le_refl _) (Nat.le_refl _)) fun p hp => ?_⟩, goa_ack ga fun h => (h1.h5 h).2, goa_keep gb (dat_ack _ _ _ _ _ _).symm (ack_other (by decide) _ _) rfl rfl rfl⟩, ?_, hq.2.2, rfl⟩
    · unfold ackL at hp
      split at hp
      · rename_i h0
        obtain rfl : p = dat 0 8 (a.q + 1) := by simpa using hp
        refine .inl (.inl ⟨a.q + 1, ?_, ?_, rfl⟩)
        · unfold ackS; rw [if_pos h0.1]; exact Nat.le_refl _
        · have := h0.2; omega
      · cases hp
    · rw [Phi_cons, Phi_app, wt_ack]
      have := ack_phi (F := 0) (T := 8) (s := a) (k := k)
      unfold Phi
      omega
  · have hd := h2.had k1 k2
    have hq := hadS_q a k
    refine ⟨hadS a k, b, [ackp 8 0 k], come_dat1 a b r k (by omega) (by omega), ⟨⟨h1.sd hq.1 hq.2.2.1 rfl hq.2.2.2.1 hq.2.2.2.2, hd.1, by omega, h4, by rw [List.length_append]; simpa using hlen, und_app (fun p hp => (hr p hp).mono (by omega) (by omega) hq.2.1 (Nat.le_refl _) (Nat.le_refl _) (Nat.le_refl _)) fun p hp => ?_⟩, goa_keep ga (dat_other (by decide) _ _) (dat_ack _ _ _ _ _ _) hq.1 hq.2.2.1 hq.2.2.2.2, goa_dat gb⟩, ?_, hq.2.2.1, rfl⟩
    · obtain rfl : p = ackp 8 0 k := by simpa using hp
      exact .inr (.inr ⟨k, hd.2.2.2, rfl⟩)
    · rw [Phi_cons, Phi_app, wt_dat]
      simp only [List.map_cons, List.map_nil, List.sum_cons, List.sum_nil, wt_ack]
      unfold Phi
      rw [hq.1, hq.2.2.1]
      omega
  · have hd := h2.ack k1
    have hq := ackS_q b k
    refine ⟨a, ackS b k, ackL 8 0 b k, come_ack1 a b r k (by omega), ⟨⟨h1.sd rfl rfl hq.2.1 rfl rfl, hd.1, h3, by omega, by have := ackL_len 8 0 b k; rw [List.length_append]; omega, und_app (fun p hp => (hr p hp).mono (Nat.le_refl _) (Nat.le_refl _) (Nat.le_refl _) hq.1 (by omega) (by omega)) fun p hp => ?_⟩, goa_keep ga (dat_ack _ _ _ _ _ _).symm (ack_other (by decide) _ _) rfl rfl rfl, goa_ack gb fun h => (h2.h5 h).2⟩, ?_, rfl, hq.2.2⟩
    · unfold ackL at hp
      split at hp
      · rename_i h0
        obtain rfl : p = dat 8 0 (b.q + 1) := by simpa using hp
        refine .inr (.inl ⟨b.q + 1, ?_, ?_, rfl⟩)
        · unfold ackS; rw [if_pos h0.1]; exact Nat.le_refl _
        · have := h0.2; omega
      · cases hp
    · rw [Phi_cons, Phi_app, wt_ack]
      have := ack_phi (F := 8) (T := 0) (s := b) (k := k)
      unfold Phi
      omega
/-- Both ends tick. -/
theorem rs_tick {N M m : Nat} {a b : Sd} (h : RS N M (m + 1) a b []) (hM : 2 ≤ M) : RS N M m (tikS a) (tikS b) (([] ++ tikL 0 8 a) ++ tikL 8 0 b) := by
  obtain ⟨hI, ga, gb⟩ := h
  have i1 := inv_tick0 (M := 0) (⟨hI.1, hI.2, hI.3, hI.4, Nat.le_refl _, hI.6⟩ : InvS N 0 a b [])
  have i2 := inv_tick1 i1
  refine ⟨i2.up (Nat.le_refl _) hM, goa_more (goa_tik ga fun h => hI.1.h5 h), ?_⟩
  exact goa_tik gb fun h => hI.2.h5 h
theorem rs_0 {N M : Nat} {a b : Sd} {w : List Pk} (h : InvS N M a b w) : RS N M 9 a b w := by
  have key : ∀ (F T : Int) (s r : Sd), Dir s r → Goa F T s w 9 := fun F T s r hd => by
    by_cases hn : s.n ≤ s.q
    · exact .inl hn
    · obtain ⟨h1, h2⟩ := hd.h5 (by omega)
      have := (pok_iff _ _).1 h1
      exact .inr (.inr (by omega))
  exact ⟨h, key 0 8 a b h.1, key 8 0 b a h.2⟩
theorem rs_end {N M : Nat} {a b : Sd} {w : List Pk} (h : RS N M 0 a b w) : b.c = a.n ∧ a.c = b.n ∧ a.n ≤ a.q ∧ b.n ≤ b.q := by
  have h1 := goa_0 h.ga fun h9 => (h.i.1.h5 h9).2
  have h2 := goa_0 h.gb fun h9 => (h.i.2.h5 h9).2
  have := h.i.1.h1
  have := h.i.1.h3
  have := h.i.2.h1
  have := h.i.2.h3
  exact ⟨by omega, by omega, h1, h2⟩
theorem rs_drop {N M m m' : Nat} {a b : Sd} {w : List Pk} (h : RS N M m a b w) (hm : m ≤ m') : RS N M m' a b w := by
  have key : ∀ (F T : Int) (s : Sd), Goa F T s w m → Goa F T s w m' := fun F T s hg => by
    rcases hg with h | ⟨h1, h2⟩ | h
    · exact .inl h
    · exact .inr (.inl ⟨by omega, h2⟩)
    · exact .inr (.inr (by omega))
  exact ⟨h.i, key _ _ _ h.ga, key _ _ _ h.gb⟩
theorem rs_done {N M : Nat} {a b : Sd} {w : List Pk} (h : RS N M 0 a b w) (m : Nat) : RS N M m a b w := rs_drop h (Nat.zero_le _)
theorem phi_le {N M m : Nat} {a b : Sd} {w : List Pk} (h : RS N M m a b w) : Phi a b w ≤ 2 * M + 64 := by
  have := wt_sum w
  have := h.i.5
  have := h.i.1.h4
  have := h.i.2.h4
  unfold Phi
  omega
end Go.Proofs.Ytdekemlckpbbcaa
