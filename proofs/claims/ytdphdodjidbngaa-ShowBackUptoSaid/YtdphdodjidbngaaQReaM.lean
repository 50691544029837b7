/- What a text is as a need: the document's parser, in mathematics. -/
import Derived.Test.YtdphdodjidbngaaLxP
import Derived.Test.YtdphdodjidbngaaNmP
namespace Go.Proofs.Ytdphdodjidbngaa
open Go.RowKit
set_option linter.unusedVariables false

inductive Md where
  | any | all | one | anyL | allL
inductive RdR where
  | ok (ws : List Wd) (o : List (Int × Int))
  | er (k : Nat) (e : Int)

def hdW (ws : List Wd) : List UInt8 := match ws with | [] => [] | w :: _ => w.1
def hereW (E : Nat) (ws : List Wd) : Nat := match ws with | [] => E | w :: _ => w.2
/-- What is behind a node: it is put. -/
def RdR.put (r : RdR) (x : Int × Int) : RdR := match r with | .ok ws o => .ok ws (o ++ [x]) | .er k e => .er k e
/-- What is behind a bracket. -/
def RdR.shut (E : Nat) (r : RdR) : RdR := match r with | .ok ws o => if hdW ws = [41] then .ok ws.tail o else .er (hereW E ws) 3 | .er k e => .er k e
def RdR.bind (r : RdR) (f : List Wd → List (Int × Int) → RdR) : RdR := match r with | .ok ws o => f ws o | .er k e => .er k e

def rp (T : List (List UInt8)) (E : Nat) : Nat → Md → List Wd → List (Int × Int) → RdR
  | 0, _, _, _ => .er 0 0
  | n + 1, .any, ws, o => (rp T E n .all ws o).bind (rp T E n .anyL)
  | n + 1, .all, ws, o => (rp T E n .one ws o).bind (rp T E n .allL)
  | n + 1, .anyL, ws, o => if hdW ws = [124] then ((rp T E n .all ws.tail o).put (5, 0)).bind (rp T E n .anyL) else .ok ws o
  | n + 1, .allL, ws, o => if hdW ws = [38] then ((rp T E n .one ws.tail o).put (4, 0)).bind (rp T E n .allL) else .ok ws o
  | n + 1, .one, ws, o =>
    if hdW ws = [] ∨ hdW ws = [41] ∨ hdW ws = [38] ∨ hdW ws = [124] then .er (hereW E ws) 3
    else if hdW ws = [33] then (rp T E n .one ws.tail o).put (3, 0)
    else if hdW ws = [40] then (rp T E n .any ws.tail o).shut E
    else if hdW ws = [42] then .ok ws.tail (o ++ [(1, 0)])
    else if placeJ T (hdW ws) < 0 ∨ 15 < placeJ T (hdW ws) then .er (hereW E ws) 5
    else .ok ws.tail (o ++ [(2, placeJ T (hdW ws))])

theorem rp_any (T E n ws o) : rp T E (n + 1) .any ws o = (rp T E n .all ws o).bind (rp T E n .anyL) := by rw [rp]
theorem rp_all (T E n ws o) : rp T E (n + 1) .all ws o = (rp T E n .one ws o).bind (rp T E n .allL) := by rw [rp]
theorem rp_anyL (T E n ws o) : rp T E (n + 1) .anyL ws o = if hdW ws = [124] then ((rp T E n .all ws.tail o).put (5, 0)).bind (rp T E n .anyL) else .ok ws o := by rw [rp]
theorem rp_allL (T E n ws o) : rp T E (n + 1) .allL ws o = if hdW ws = [38] then ((rp T E n .one ws.tail o).put (4, 0)).bind (rp T E n .allL) else .ok ws o := by rw [rp]
theorem rp_bad (T E n ws o) (h : hdW ws = [] ∨ hdW ws = [41] ∨ hdW ws = [38] ∨ hdW ws = [124]) : rp T E (n + 1) .one ws o = .er (hereW E ws) 3 := by rw [rp, if_pos h]
theorem rp_not (T E n ws o) (h : hdW ws = [33]) : rp T E (n + 1) .one ws o = (rp T E n .one ws.tail o).put (3, 0) := by rw [rp, if_neg (by rw [h]; decide), if_pos h]
theorem rp_par (T E n ws o) (h : hdW ws = [40]) : rp T E (n + 1) .one ws o = (rp T E n .any ws.tail o).shut E := by rw [rp, if_neg (by rw [h]; decide), if_neg (by rw [h]; decide), if_pos h]
theorem rp_yes (T E n ws o) (h : hdW ws = [42]) : rp T E (n + 1) .one ws o = .ok ws.tail (o ++ [(1, 0)]) := by rw [rp, if_neg (by rw [h]; decide), if_neg (by rw [h]; decide), if_neg (by rw [h]; decide), if_pos h]
/-- A word that is none of the signs. -/
def IsN (t : List UInt8) : Prop := t ≠ [] ∧ t ≠ [41] ∧ t ≠ [38] ∧ t ≠ [124] ∧ t ≠ [33] ∧ t ≠ [40] ∧ t ≠ [42]
theorem rp_name (T E n ws o) (h : IsN (hdW ws)) : rp T E (n + 1) .one ws o = if placeJ T (hdW ws) < 0 ∨ 15 < placeJ T (hdW ws) then .er (hereW E ws) 5 else .ok ws.tail (o ++ [(2, placeJ T (hdW ws))]) := by
  obtain ⟨h1, h2, h3, h4, h5, h6, h7⟩ := h
  rw [rp, if_neg (by simp [h1, h2, h3, h4]), if_neg h5, if_neg h6, if_neg h7]

theorem hd_pos' {ws : List Wd} {t : List UInt8} (h : hdW ws = t) (h0 : t ≠ []) : 0 < ws.length := by
  cases ws with
  | nil => exact absurd h.symm h0
  | cons w ws => simp
theorem bind_ok {r : RdR} {f : List Wd → List (Int × Int) → RdR} {ws : List Wd} {o : List (Int × Int)} (h : r.bind f = .ok ws o) : ∃ ws' o', r = .ok ws' o' ∧ f ws' o' = .ok ws o := by
  cases r with
  | ok ws' o' => exact ⟨ws', o', rfl, h⟩
  | er k e => exact absurd h (by simp [RdR.bind])
theorem put_ok {r : RdR} {x : Int × Int} {ws : List Wd} {o : List (Int × Int)} (h : r.put x = .ok ws o) : ∃ o', r = .ok ws o' ∧ o = o' ++ [x] := by
  cases r with
  | ok ws' o' =>
    simp only [RdR.put, RdR.ok.injEq] at h
    exact ⟨o', by rw [h.1], h.2.symm⟩
  | er k e => exact absurd h (by simp [RdR.put])
theorem shut_ok {E : Nat} {r : RdR} {ws : List Wd} {o : List (Int × Int)} (h : r.shut E = .ok ws o) : ∃ ws', r = .ok ws' o ∧ hdW ws' = [41] ∧ ws = ws'.tail := by
  cases r with
  | ok ws' o' =>
    unfold RdR.shut at h
    simp only at h
    by_cases hh : hdW ws' = [41]
    · rw [if_pos hh] at h
      simp only [RdR.ok.injEq] at h
      exact ⟨ws', by rw [h.2], hh, h.1.symm⟩
    · rw [if_neg hh] at h
      exact absurd h (by simp)
  | er k e => exact absurd h (by simp [RdR.shut])
/-- What is left is shorter. -/
theorem rp_short (T E) : ∀ (n : Nat) (m : Md) (ws : List Wd) (o : List (Int × Int)) (r : List Wd) (p : List (Int × Int)), rp T E n m ws o = .ok r p →
    r.length ≤ ws.length ∧ ((m = .any ∨ m = .all ∨ m = .one) → r.length < ws.length) := by
  intro n
  induction n with
  | zero => intro m ws o r p h; exact absurd h (by simp [rp])
  | succ n ih =>
    intro m ws o r p h
    cases m with
    | any =>
      rw [rp_any] at h
      obtain ⟨ws', o', h1, h2⟩ := bind_ok h
      have k1 := (ih _ _ _ _ _ h1).2 (by simp)
      have k2 := (ih _ _ _ _ _ h2).1
      exact ⟨by omega, fun _ => by omega⟩
    | all =>
      rw [rp_all] at h
      obtain ⟨ws', o', h1, h2⟩ := bind_ok h
      have k1 := (ih _ _ _ _ _ h1).2 (by simp)
      have k2 := (ih _ _ _ _ _ h2).1
      exact ⟨by omega, fun _ => by omega⟩
    | anyL =>
      refine ⟨?_, by simp⟩
      rw [rp_anyL] at h
      split at h
      · obtain ⟨ws', o', h1, h2⟩ := bind_ok h
        obtain ⟨o'', h9, _⟩ := put_ok h1
        have k1 := (ih _ _ _ _ _ h9).1
        have k2 := (ih _ _ _ _ _ h2).1
        simp only [List.length_tail] at k1
        omega
      · simp only [RdR.ok.injEq] at h
        rw [h.1]
        exact Nat.le_refl _
    | allL =>
      refine ⟨?_, by simp⟩
      rw [rp_allL] at h
      split at h
      · obtain ⟨ws', o', h1, h2⟩ := bind_ok h
        obtain ⟨o'', h9, _⟩ := put_ok h1
        have k1 := (ih _ _ _ _ _ h9).1
        have k2 := (ih _ _ _ _ _ h2).1
        simp only [List.length_tail] at k1
        omega
      · simp only [RdR.ok.injEq] at h
        rw [h.1]
        exact Nat.le_refl _
    | one =>
      suffices hs : r.length < ws.length from ⟨by omega, fun _ => hs⟩
      rw [rp] at h
      split at h
      · exact absurd h (by simp)
      rename_i hb
      have h0 : 0 < ws.length := hd_pos' rfl (fun e => hb (.inl e))
      split at h
      · obtain ⟨o'', h9, _⟩ := put_ok h
        have k1 := (ih _ _ _ _ _ h9).1
        simp only [List.length_tail] at k1
        omega
      split at h
      · obtain ⟨ws', h1, _, h2⟩ := shut_ok h
        have k1 := (ih _ _ _ _ _ h1).1
        subst h2
        simp only [List.length_tail] at k1 ⊢
        omega
      split at h
      · simp only [RdR.ok.injEq] at h
        rw [← h.1, List.length_tail]
        omega
      split at h
      · exact absurd h (by simp)
      · simp only [RdR.ok.injEq] at h
        rw [← h.1, List.length_tail]
        omega

/-- No more nodes than words. -/
theorem rp_len (T E) : ∀ (n : Nat) (m : Md) (ws : List Wd) (o : List (Int × Int)) (r : List Wd) (p : List (Int × Int)), rp T E n m ws o = .ok r p → p.length + r.length ≤ o.length + ws.length := by
  intro n
  induction n with
  | zero => intro m ws o r p h; exact absurd h (by simp [rp])
  | succ n ih =>
    intro m ws o r p h
    cases m with
    | any =>
      rw [rp_any] at h
      obtain ⟨ws', o', h1, h2⟩ := bind_ok h
      have k1 := ih _ _ _ _ _ h1
      have k2 := ih _ _ _ _ _ h2
      omega
    | all =>
      rw [rp_all] at h
      obtain ⟨ws', o', h1, h2⟩ := bind_ok h
      have k1 := ih _ _ _ _ _ h1
      have k2 := ih _ _ _ _ _ h2
      omega
    | anyL =>
      rw [rp_anyL] at h
      split at h
      · rename_i hh
        have h0 := hd_pos' hh (by simp)
        obtain ⟨ws', o', h1, h2⟩ := bind_ok h
        obtain ⟨o'', h9, rfl⟩ := put_ok h1
        have k1 := ih _ _ _ _ _ h9
        have k2 := ih _ _ _ _ _ h2
        simp only [List.length_tail, List.length_append, List.length_singleton] at k1 k2
        omega
      · simp only [RdR.ok.injEq] at h
        rw [h.1, h.2]
        omega
    | allL =>
      rw [rp_allL] at h
      split at h
      · rename_i hh
        have h0 := hd_pos' hh (by simp)
        obtain ⟨ws', o', h1, h2⟩ := bind_ok h
        obtain ⟨o'', h9, rfl⟩ := put_ok h1
        have k1 := ih _ _ _ _ _ h9
        have k2 := ih _ _ _ _ _ h2
        simp only [List.length_tail, List.length_append, List.length_singleton] at k1 k2
        omega
      · simp only [RdR.ok.injEq] at h
        rw [h.1, h.2]
        omega
    | one =>
      rw [rp] at h
      split at h
      · exact absurd h (by simp)
      rename_i hb
      have h0 : 0 < ws.length := hd_pos' rfl (fun e => hb (.inl e))
      split at h
      · obtain ⟨o'', h9, rfl⟩ := put_ok h
        have k1 := ih _ _ _ _ _ h9
        simp only [List.length_tail, List.length_append, List.length_singleton] at k1 ⊢
        omega
      split at h
      · obtain ⟨ws', h1, _, h2⟩ := shut_ok h
        have k1 := ih _ _ _ _ _ h1
        subst h2
        simp only [List.length_tail] at k1 ⊢
        omega
      split at h
      · simp only [RdR.ok.injEq] at h
        rw [← h.1, ← h.2]
        simp only [List.length_tail, List.length_append, List.length_singleton]
        omega
      split at h
      · exact absurd h (by simp)
      · simp only [RdR.ok.injEq] at h
        rw [← h.1, ← h.2]
        simp only [List.length_tail, List.length_append, List.length_singleton]
        omega

theorem bind_er {r : RdR} {f : List Wd → List (Int × Int) → RdR} {k : Nat} {e : Int} (h : r.bind f = .er k e) : r = .er k e ∨ ∃ ws o, r = .ok ws o ∧ f ws o = .er k e := by
  cases r with
  | ok ws' o' => exact .inr ⟨ws', o', rfl, h⟩
  | er k' e' => exact .inl h
theorem put_er {r : RdR} {x : Int × Int} {k : Nat} {e : Int} (h : r.put x = .er k e) : r = .er k e := by
  cases r with
  | ok ws' o' => exact absurd h (by simp [RdR.put])
  | er k' e' => exact h
theorem shut_er {E : Nat} {r : RdR} {k : Nat} {e : Int} (h : r.shut E = .er k e) : r = .er k e ∨ e = 3 := by
  cases r with
  | ok ws' o' =>
    unfold RdR.shut at h
    simp only at h
    split at h
    · exact absurd h (by simp)
    · simp only [RdR.er.injEq] at h
      exact .inr h.2.symm
  | er k' e' => exact .inl h
def ndF : Md → Nat → Nat
  | .any, n => 3 * n + 3
  | .all, n => 3 * n + 2
  | _, n => 3 * n + 1
/-- What is wrong has a number. -/
theorem rp_er (T E) : ∀ (n : Nat) (m : Md) (ws : List Wd) (o : List (Int × Int)) (k : Nat) (e : Int), ndF m ws.length ≤ n → rp T E n m ws o = .er k e → e ≠ 0 := by
  intro n
  induction n with
  | zero => intro m ws o k e hn h; cases m <;> simp [ndF] at hn
  | succ n ih =>
    intro m ws o k e hn h
    cases m with
    | any =>
      simp only [ndF] at hn
      rw [rp_any] at h
      rcases bind_er h with h1 | ⟨ws', o', h1, h2⟩
      · exact ih _ _ _ _ _ (by simp only [ndF]; omega) h1
      · have k1 := (rp_short _ _ _ _ _ _ _ _ h1).2 (by simp)
        exact ih _ _ _ _ _ (by simp only [ndF]; omega) h2
    | all =>
      simp only [ndF] at hn
      rw [rp_all] at h
      rcases bind_er h with h1 | ⟨ws', o', h1, h2⟩
      · exact ih _ _ _ _ _ (by simp only [ndF]; omega) h1
      · have k1 := (rp_short _ _ _ _ _ _ _ _ h1).2 (by simp)
        exact ih _ _ _ _ _ (by simp only [ndF]; omega) h2
    | anyL =>
      simp only [ndF] at hn
      rw [rp_anyL] at h
      split at h
      · rename_i hh
        have h0 := hd_pos' hh (by simp)
        rcases bind_er h with h1 | ⟨ws', o', h1, h2⟩
        · exact ih _ _ _ _ _ (by simp only [ndF, List.length_tail]; omega) (put_er h1)
        · obtain ⟨o'', h9, _⟩ := put_ok h1
          have k1 := (rp_short _ _ _ _ _ _ _ _ h9).2 (by simp)
          rw [List.length_tail] at k1
          exact ih _ _ _ _ _ (by simp only [ndF]; omega) h2
      · exact absurd h (by simp)
    | allL =>
      simp only [ndF] at hn
      rw [rp_allL] at h
      split at h
      · rename_i hh
        have h0 := hd_pos' hh (by simp)
        rcases bind_er h with h1 | ⟨ws', o', h1, h2⟩
        · exact ih _ _ _ _ _ (by simp only [ndF, List.length_tail]; omega) (put_er h1)
        · obtain ⟨o'', h9, _⟩ := put_ok h1
          have k1 := (rp_short _ _ _ _ _ _ _ _ h9).2 (by simp)
          rw [List.length_tail] at k1
          exact ih _ _ _ _ _ (by simp only [ndF]; omega) h2
      · exact absurd h (by simp)
    | one =>
      simp only [ndF] at hn
      rw [rp] at h
      split at h
      · simp only [RdR.er.injEq] at h
        rw [← h.2]; decide
      rename_i hb
      have h0 : 0 < ws.length := hd_pos' rfl (fun e => hb (.inl e))
      split at h
      · exact ih _ _ _ _ _ (by simp only [ndF, List.length_tail]; omega) (put_er h)
      split at h
      · rcases shut_er h with h1 | h1
        · exact ih _ _ _ _ _ (by simp only [ndF, List.length_tail]; omega) h1
        · rw [h1]; decide
      split at h
      · exact absurd h (by simp)
      split at h
      · simp only [RdR.er.injEq] at h
        rw [← h.2]; decide
      · exact absurd h (by simp)

/-- The need of a text: the nodes, the place, the error. -/
def rdTop (T : List (List UInt8)) (E : Nat) (ws : List Wd) : RdR :=
  (rp T E (4 * ws.length + 8) .any ws []).bind fun r o => if r.length = 0 then .ok r o else .er (hereW E r) 3
theorem rdTop_ok {T E ws r o} (h : rdTop T E ws = .ok r o) : r = [] ∧ rp T E (4 * ws.length + 8) .any ws [] = .ok [] o := by
  obtain ⟨r', o', h1, h2⟩ := bind_ok h
  split at h2
  · rename_i h0
    simp only [RdR.ok.injEq] at h2
    obtain ⟨rfl, rfl⟩ := h2
    have := List.eq_nil_of_length_eq_zero h0
    subst this
    exact ⟨rfl, h1⟩
  · exact absurd h2 (by simp)

theorem rdTop_er {T E ws k e} (h : rdTop T E ws = .er k e) : e ≠ 0 := by
  rcases bind_er h with h1 | ⟨ws', o', h1, h2⟩
  · exact rp_er T E _ _ _ _ _ _ (by simp only [ndF]; omega) h1
  · split at h2
    · exact absurd h2 (by simp)
    · simp only [RdR.er.injEq] at h2
      rw [← h2.2]; decide
attribute [irreducible] rp
end Go.Proofs.Ytdphdodjidbngaa
