/- Frames one behind the other, torn or turned: plain. -/
import Derived.Test.YtdjcfeglaiihgaaFrmI
namespace Go.Proofs.Ytdjcfeglaiihgaa
open Go.RowKit
set_option linter.unusedVariables false

/-- The frames of payloads, one behind the other. -/
def frsL : List (List UInt8) → List UInt8
  | [] => []
  | p :: l => frP p ++ frsL l
theorem frsL_append (l m : List (List UInt8)) : frsL (l ++ m) = frsL l ++ frsL m := by
  induction l with
  | nil => rfl
  | cons p l ih => simp only [List.cons_append, frsL, ih, List.append_assoc]
theorem frP_eq (p : List UInt8) (h : p.length ≤ 4096) : frP p = (numB p.length ++ p) ++ fourL (moreN 0 (numB p.length ++ p)) := by rw [frP, if_neg (by omega)]; rfl
theorem frP_len (p : List UInt8) (h : p.length ≤ 4096) : (frP p).length = (numB p.length).length + p.length + 4 := by rw [frP_eq p h]; simp [fourL]; omega
theorem numB_one (n : Nat) (h : n < 248) : numB n = [UInt8.ofNat n] := by rw [numB, if_pos h]
theorem frP_len1 (p : List UInt8) (h : p.length ≤ 200) : (frP p).length = p.length + 5 := by
  rw [frP_len p (by omega), numB_one _ (by omega)]
  simp
  omega
theorem cut_frP (p rest : List UInt8) (h : p.length ≤ 4096) : cutS (frP p ++ rest) = (p, (frP p).length, 0) := by
  have hf : firstN 4096 ((frP p ++ rest).take 8) = (p.length, (numB p.length).length, 0) := by
    rw [firstN_take8, frP_eq p h, List.append_assoc, List.append_assoc]
    exact firstN_numB p.length (by omega) 4096 (by omega) _
  have hb := frP_eq p h
  have hl := frP_len p h
  generalize hm : numB p.length ++ p = m at hb
  have hml : m.length = (numB p.length).length + p.length := by rw [← hm]; simp
  have h1 : (frP p ++ rest).take ((numB p.length).length + p.length + 4) = frP p := by rw [← hl]; simp
  have h2 : (frP p ++ rest).take ((numB p.length).length + p.length) = m := by rw [hb, List.append_assoc, ← hml]; simp
  have h3 : (frP p).drop ((numB p.length).length + p.length) = fourL (moreN 0 m) := by rw [hb, ← hml]; simp
  have h4 : m.drop (numB p.length).length = p := by rw [← hm]; simp
  have h5 : (frP p ++ rest).length = (frP p).length + rest.length := List.length_append
  unfold cutS
  rw [hf]
  simp only [if_true]
  rw [if_neg (by omega), h1, h2, if_pos h3, h4, hl]
theorem cut_short (p q t : List UInt8) (h : p.length ≤ 200) (he : q ++ t = frP p) (ht : t ≠ []) : (cutS q).2.2 ≠ 0 := by
  have hl := frP_len1 p h
  have htl : 0 < t.length := List.length_pos_iff.2 ht
  have hql : q.length + t.length = p.length + 5 := by rw [← hl, ← he, List.length_append]
  cases q with
  | nil => exact cutS_nil
  | cons c r =>
    have hc : c = UInt8.ofNat p.length := by
      rw [frP_eq p (by omega), numB_one _ (by omega)] at he
      simp at he
      exact he.1
    have hf : firstN 4096 ((c :: r).take 8) = (p.length, 1, 0) := by
      rw [firstN_take8, firstN_cons, hc]
      have e : (UInt8.ofNat p.length).toNat = p.length := by rw [UInt8.toNat_ofNat']; omega
      rw [e, if_neg (by omega), if_pos (by omega), chkN, if_neg (by omega)]
    have h5 : (c :: r).length < 1 + p.length + 4 := by omega
    unfold cutS
    rw [hf]
    simp only [if_true]
    rw [if_pos h5]
    simp
/-- JUST THOSE ARE TOLD THAT ARE WHOLE. -/
theorem torn : ∀ (l : List (List UInt8)) (k c : Nat), (∀ p ∈ l, p.length ≤ 200) → k ≤ l.length → (frsL (l.take k)).length ≤ c → (k = l.length ∨ c < (frsL (l.take (k + 1))).length) → allS ((frsL l).take c) = (l.take k, (frsL (l.take k)).length)
  | [], k, c, _, hk, _, _ => by
    have : k = 0 := by simpa using hk
    subst this
    simp [frsL, allS_nil]
  | p :: r, 0, c, hp, _, _, h2 => by
    have hc : c < (frP p).length := by
      rcases h2 with h | h
      · simp at h
      · simpa [frsL] using h
    have ht : (frsL (p :: r)).take c = (frP p).take c := by rw [frsL, List.take_append_of_le_length (by omega)]
    have hd : (frP p).drop c ≠ [] := by
      intro h
      have := congrArg List.length h
      simp at this
      omega
    rw [ht, allS_stop _ (cut_short p _ ((frP p).drop c) (hp p (by simp)) (List.take_append_drop c _) hd)]
    simp [frsL]
  | p :: r, k + 1, c, hp, hk, h1, h2 => by
    simp only [List.take_succ_cons, frsL, List.length_append, List.length_cons] at h1 h2 hk ⊢
    have ht : (frP p ++ frsL r).take c = frP p ++ (frsL r).take (c - (frP p).length) := by rw [List.take_append, List.take_of_length_le (by omega)]
    have hcu := cut_frP p ((frsL r).take (c - (frP p).length)) (by have := hp p (by simp); omega)
    have ih := torn r k (c - (frP p).length) (fun q hq => hp q (by simp [hq])) (by omega) (by omega) (by rcases h2 with h | h <;> omega)
    rw [ht, allS_step _ (by rw [hcu]), hcu]
    simp only [List.drop_left, ih]
theorem frsL_take_len (l : List (List UInt8)) (hp : ∀ p ∈ l, p.length ≤ 200) (k : Nat) (hk : k < l.length) : (frsL (l.take (k + 1))).length = (frsL (l.take k)).length + l[k].length + 5 := by
  have h1 : l.take (k + 1) = l.take k ++ [l[k]] := by rw [List.take_add_one, List.getElem?_eq_getElem hk]; rfl
  rw [h1, frsL_append, List.length_append]
  simp only [frsL, List.append_nil]
  rw [frP_len1 _ (hp _ (List.getElem_mem hk))]
  omega
theorem frsL_snoc (l : List (List UInt8)) (k : Nat) (hk : k < l.length) : frsL (l.take (k + 1)) = frsL (l.take k) ++ frP l[k] := by
  have h1 : l.take (k + 1) = l.take k ++ [l[k]] := by rw [List.take_add_one, List.getElem?_eq_getElem hk]; rfl
  rw [h1, frsL_append]
  simp only [frsL, List.append_nil]
theorem frsL_take_le (l : List (List UInt8)) (k : Nat) : (frsL (l.take k)).length ≤ (frsL l).length := by
  have h : frsL l = frsL (l.take k) ++ frsL (l.drop k) := by rw [← frsL_append, List.take_append_drop]
  rw [h, List.length_append]
  omega
theorem frsL_len (l : List (List UInt8)) (hp : ∀ p ∈ l, p.length ≤ 200) : (frsL l).length ≤ 205 * l.length := by
  induction l with
  | nil => simp [frsL]
  | cons p l ih =>
    have h1 := ih fun q hq => hp q (by simp [hq])
    have h2 := frP_len1 p (hp p (by simp))
    have h3 := hp p (by simp)
    simp only [frsL, List.length_append, List.length_cons]
    omega

theorem flipL_mid (x y z : List UInt8) (a : Nat) (h : a / 8 < y.length) : flipL (x ++ y ++ z) (8 * x.length + a) = x ++ flipL y a ++ z := by
  have h1 : (8 * x.length + a) / 8 = x.length + a / 8 := by omega
  have h2 : (8 * x.length + a) % 8 = a % 8 := by omega
  unfold flipL
  rw [h1, h2, List.append_assoc, List.append_assoc]
  have h3 : (x ++ (y ++ z)).getD (x.length + a / 8) 0 = y.getD (a / 8) 0 := by
    simp only [List.getD_eq_getElem?_getD]
    rw [List.getElem?_append_right (by omega), Nat.add_sub_cancel_left, List.getElem?_append_left h]
  rw [h3, List.set_append_right _ _ (by omega), Nat.add_sub_cancel_left, List.set_append_left _ _ h]
theorem flips_mid (x y z : List UInt8) (a t : Nat) : ∀ i, a + i ≤ 8 * y.length → flips (x ++ y ++ z) (8 * x.length + a) t i = x ++ flips y a t i ++ z
  | 0, _ => rfl
  | i + 1, h => by
    have ih := flips_mid x y z a t i (by omega)
    simp only [flips]
    rw [ih]
    split
    · rw [Nat.add_assoc, flipL_mid _ _ _ _ (by rw [flips_length]; omega)]
    · rfl
theorem flips_head (y : List UInt8) (u a t : Nat) : ∀ i, 8 * u ≤ a → (flips y a t i).take u = y.take u
  | 0, _ => rfl
  | i + 1, h => by
    have ih := flips_head y u a t i h
    simp only [flips]
    split
    · unfold flipL
      rw [List.take_set_of_le (by omega), ih]
    · exact ih
/-- A TURNED FRAME IS NOT TOLD. -/
theorem cut_turned (p rest : List UInt8) (a t : Nat) (h : p.length ≤ 200) (ha : a ≤ 8 * p.length) (h1 : t ≠ 0) (h2 : t < 4294967296) : (cutS (flips (frP p) (8 + a) t 32 ++ rest)).2.2 ≠ 0 := by
  have hb := burst (numB p.length ++ p) (8 + a) t h1 h2 (by rw [numB_one _ (by omega)]; simp; omega)
  have hs : frP p = sealL (numB p.length ++ p) := by rw [frP, if_neg (by omega)]
  have hl : (flips (frP p) (8 + a) t 32).length = p.length + 5 := by rw [flips_length, frP_len1 p h]
  have hh := flips_head (frP p) 1 (8 + a) t 32 (by omega)
  rw [← hs] at hb
  have hnl : (numB p.length ++ p).length = p.length + 1 := by rw [numB_one _ (by omega)]; simp
  rw [hnl] at hb
  generalize flips (frP p) (8 + a) t 32 = s at hb hl hh ⊢
  have hf : firstN 4096 ((s ++ rest).take 8) = (p.length, 1, 0) := by
    cases s with
    | nil => simp at hl
    | cons c r =>
      have hc : c = UInt8.ofNat p.length := by
        rw [frP_eq p (by omega), numB_one _ (by omega)] at hh
        simpa using hh
      rw [firstN_take8, List.cons_append, firstN_cons, hc]
      have e : (UInt8.ofNat p.length).toNat = p.length := by rw [UInt8.toNat_ofNat']; omega
      rw [e, if_neg (by omega), if_pos (by omega), chkN, if_neg (by omega)]
  have h5 : ¬ (s ++ rest).length < 1 + p.length + 4 := by rw [List.length_append]; omega
  have h6 : (s ++ rest).take (1 + p.length + 4) = s := by rw [show 1 + p.length + 4 = s.length by omega]; simp
  have h7 : (s ++ rest).take (1 + p.length) = s.take (p.length + 1) := by rw [List.take_append_of_le_length (by omega), Nat.add_comm]
  unfold cutS
  rw [hf]
  simp only [if_true]
  rw [if_neg h5, h6, h7, if_neg (by rw [Nat.add_comm 1]; exact hb)]
  simp
theorem allS_frames : ∀ (l : List (List UInt8)) (r : List UInt8), (∀ p ∈ l, p.length ≤ 200) → (cutS r).2.2 ≠ 0 → allS (frsL l ++ r) = (l, (frsL l).length)
  | [], r, _, h => by simp [frsL, allS_stop r h]
  | p :: l, r, hp, h => by
    have hcu := cut_frP p (frsL l ++ r) (by have := hp p (by simp); omega)
    have ih := allS_frames l r (fun q hq => hp q (by simp [hq])) h
    simp only [frsL, List.append_assoc, List.length_append]
    rw [allS_step _ (by rw [hcu]), hcu]
    simp only [List.drop_left, ih]
/-- The frames ahead of the turned one are told, and no others. -/
theorem turned (l : List (List UInt8)) (k a t : Nat) (hp : ∀ p ∈ l, p.length ≤ 200) (hk : k < l.length) (ha : a ≤ 8 * l[k].length) (h1 : t ≠ 0) (h2 : t < 4294967296) :
    allS (flips (frsL l) (8 * ((frsL (l.take k)).length + 1) + a) t 32) = (l.take k, (frsL (l.take k)).length) := by
  have hl := hp _ (List.getElem_mem hk)
  have e : frsL l = frsL (l.take k) ++ frP l[k] ++ frsL (l.drop (k + 1)) := by
    rw [← frsL_snoc l k hk, ← frsL_append, List.take_append_drop]
  rw [e, show 8 * ((frsL (l.take k)).length + 1) + a = 8 * (frsL (l.take k)).length + (8 + a) by omega, flips_mid _ _ _ _ _ 32 (by rw [frP_len1 _ hl]; omega), List.append_assoc]
  exact allS_frames _ _ (fun q hq => hp q (List.mem_of_mem_take hq)) (cut_turned _ _ a t hl ha h1 h2)
end Go.Proofs.Ytdjcfeglaiihgaa
