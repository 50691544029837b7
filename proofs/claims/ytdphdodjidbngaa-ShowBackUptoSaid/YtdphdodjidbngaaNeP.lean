/- Needs: trees, their lists in postfix order, and how the document finds where a tree begins (maths). -/
import Derived.Test.YtdphdodjidbngaaNmP
import Derived.Test.YtdphdodjidbngaaChecked
import Derived.Test.YtdphdodjidbngaaGaP
import Derived.Deep.Cut
import Derived.Outline
import Derived.Lib.QuietBelow
namespace Go.Proofs.Ytdphdodjidbngaa
set_option linter.unusedVariables false
set_option linter.unusedSimpArgs false

/-- The tree of a need. -/
inductive Nt where
  | yes
  | attr (n : Int)
  | not (t : Nt)
  | pair (op : Int) (a b : Nt)
namespace Nt
def flat : Nt → List (Int × Int)
  | yes => [(1, 0)]
  | attr n => [(2, n)]
  | not t => t.flat ++ [(3, 0)]
  | pair op a b => a.flat ++ (b.flat ++ [(op, 0)])
def depth : Nt → Nat
  | yes => 1
  | attr _ => 1
  | not t => t.depth + 1
  | pair _ a b => max a.depth b.depth + 1
def wf : Nt → Prop
  | yes => True
  | attr n => 0 ≤ n ∧ n < 16
  | not t => t.wf
  | pair op a b => (op = 4 ∨ op = 5) ∧ a.wf ∧ b.wf
def holds (s : Nat) : Nt → Bool
  | yes => true
  | attr n => hasS s n
  | not t => !(t.holds s)
  | pair op a b => if op = 4 then a.holds s && b.holds s else a.holds s || b.holds s
def kids : Nt → List Nt
  | yes => []
  | attr _ => []
  | not t => [t]
  | pair _ a b => [a, b]
def asks : Nt → Nat
  | yes => 0
  | attr n => ofL [n]
  | not t => 0 ||| t.asks
  | pair _ a b => (0 ||| a.asks) ||| b.asks
theorem flat_pos : ∀ t : Nt, 0 < t.flat.length
  | yes => by simp [flat]
  | attr n => by simp [flat]
  | not t => by simp [flat]
  | pair op a b => by simp [flat]; omega
theorem depth_pos : ∀ t : Nt, 0 < t.depth
  | yes => by simp [depth]
  | attr n => by simp [depth]
  | not t => by simp [depth]
  | pair op a b => by simp [depth]
theorem depth_le : ∀ t : Nt, t.depth ≤ t.flat.length
  | yes => by simp [depth, flat]
  | attr n => by simp [depth, flat]
  | not t => by have := depth_le t; simp [depth, flat]; omega
  | pair op a b => by have := depth_le a; have := depth_le b; simp [depth, flat]; omega
end Nt

/-- How many operands a kind of node has. -/
def arN (op : Int) : Nat := if op = 3 then 1 else if op = 4 ∨ op = 5 then 2 else 0
/-- May a node be? -/
def mayN (x : Int × Int) : Bool := if x.1 = 2 then decide (0 ≤ x.2) && decide (x.2 < 16) else (decide (1 ≤ x.1) && decide (x.1 ≤ 5)) && decide (x.2 = 0)
/-- A node is joined to the trees that it follows. -/
def joinT (l : List Nt) (x : Int × Int) : Option (List Nt) :=
  if x.1 = 2 ∧ 0 ≤ x.2 ∧ x.2 < 16 then some (l ++ [.attr x.2])
  else if x.2 ≠ 0 then none
  else if x.1 = 1 then some (l ++ [.yes])
  else if x.1 = 3 ∧ 1 ≤ l.length then some (l.take (l.length - 1) ++ [.not (l.getD (l.length - 1) .yes)])
  else if (x.1 = 4 ∨ x.1 = 5) ∧ 2 ≤ l.length then some (l.take (l.length - 2) ++ [.pair x.1 (l.getD (l.length - 2) .yes) (l.getD (l.length - 1) .yes)])
  else none
def runN : List Nt → List (Int × Int) → Option (List Nt)
  | ts, [] => some ts
  | ts, x :: l => match joinT ts x with
    | some us => runN us l
    | none => none
def flats (ts : List Nt) : List (Int × Int) := (ts.map Nt.flat).flatten
theorem flats_append (a b : List Nt) : flats (a ++ b) = flats a ++ flats b := by simp [flats]
theorem flats_one (t : Nt) : flats [t] = t.flat := by simp [flats]
theorem runN_append (l m : List (Int × Int)) : ∀ ts, runN ts (l ++ m) = match runN ts l with | some us => runN us m | none => none := by
  induction l with
  | nil => intro ts; rfl
  | cons x l ih =>
    intro ts
    simp only [List.cons_append, runN]
    cases joinT ts x with
    | none => rfl
    | some us => exact ih us
theorem last1 {α : Type} (l : List α) (d : α) (h : 1 ≤ l.length) : l = l.take (l.length - 1) ++ [l.getD (l.length - 1) d] := by
  have h1 : l.length - 1 < l.length := by omega
  have h2 := List.take_succ_eq_append_getElem h1
  rw [show l.length - 1 + 1 = l.length by omega, List.take_length] at h2
  rw [List.getD_eq_getElem?_getD, List.getElem?_eq_getElem h1]
  simpa using h2
theorem last2 {α : Type} (l : List α) (d : α) (h : 2 ≤ l.length) : l = l.take (l.length - 2) ++ [l.getD (l.length - 2) d, l.getD (l.length - 1) d] := by
  have h1 : l.length - 2 < l.length := by omega
  have h2 := List.take_succ_eq_append_getElem h1
  have h3 := last1 l d (by omega)
  rw [show l.length - 2 + 1 = l.length - 1 by omega] at h2
  rw [h2] at h3
  have hg : l.getD (l.length - 2) d = l[l.length - 2] := by simp [List.getD_eq_getElem?_getD, List.getElem?_eq_getElem h1]
  rw [hg]
  exact h3.trans (by rw [List.append_assoc]; rfl)
/-- What a list grows into, it is. -/
theorem joinT_sound {ts us : List Nt} {x : Int × Int} (h : joinT ts x = some us) (hw : ∀ t ∈ ts, t.wf) : flats us = flats ts ++ [x] ∧ (∀ t ∈ us, t.wf) ∧ mayN x = true := by
  obtain ⟨op, n⟩ := x
  unfold joinT at h
  simp only at h
  split at h
  · rename_i hc
    obtain ⟨rfl, h0, h1⟩ := hc
    obtain rfl := Option.some.inj h
    refine ⟨by rw [flats_append, flats_one]; rfl, fun t ht => ?_, by simp [mayN, h0, h1]⟩
    rcases List.mem_append.1 ht with ht | ht
    · exact hw t ht
    · obtain rfl := List.mem_singleton.1 ht
      exact ⟨h0, h1⟩
  · rename_i hc1
    split at h
    · exact absurd h (by simp)
    · rename_i hc2
      obtain rfl : n = 0 := by omega
      split at h
      · rename_i hc3
        subst hc3
        obtain rfl := Option.some.inj h
        refine ⟨by rw [flats_append, flats_one]; rfl, fun t ht => ?_, by simp [mayN]⟩
        rcases List.mem_append.1 ht with ht | ht
        · exact hw t ht
        · obtain rfl := List.mem_singleton.1 ht
          exact trivial
      · split at h
        · rename_i hc3 hc4
          obtain ⟨rfl, hl⟩ := hc4
          obtain rfl := Option.some.inj h
          have e := last1 ts .yes hl
          have hm : ts.getD (ts.length - 1) .yes ∈ ts := by rw [e]; simp
          refine ⟨?_, fun t ht => ?_, by simp [mayN]⟩
          · conv => rhs; rw [e]
            rw [flats_append, flats_one, flats_append, flats_one]
            simp [Nt.flat]
          · rcases List.mem_append.1 ht with ht | ht
            · exact hw t (List.mem_of_mem_take ht)
            · obtain rfl := List.mem_singleton.1 ht
              show (ts.getD (ts.length - 1) .yes).wf
              exact hw _ hm
        · split at h
          · rename_i hc3 hc4 hc5
            obtain ⟨ho, hl⟩ := hc5
            obtain rfl := Option.some.inj h
            have e := last2 ts .yes hl
            have hm1 : ts.getD (ts.length - 2) .yes ∈ ts := by rw [e]; simp
            have hm2 : ts.getD (ts.length - 1) .yes ∈ ts := by rw [e]; simp
            refine ⟨?_, fun t ht => ?_, ?_⟩
            · conv => rhs; rw [e]
              rw [flats_append, flats_one, flats_append]
              simp [Nt.flat, flats]
            · rcases List.mem_append.1 ht with ht | ht
              · exact hw t (List.mem_of_mem_take ht)
              · obtain rfl := List.mem_singleton.1 ht
                exact ⟨ho, hw _ hm1, hw _ hm2⟩
            · rcases ho with rfl | rfl <;> simp [mayN]
          · exact absurd h (by simp)
theorem runN_sound : ∀ (l : List (Int × Int)) (ts us : List Nt), runN ts l = some us → (∀ t ∈ ts, t.wf) → flats us = flats ts ++ l ∧ (∀ t ∈ us, t.wf) ∧ ∀ x ∈ l, mayN x = true := by
  intro l
  induction l with
  | nil =>
    intro ts us h hw
    obtain rfl := Option.some.inj h
    exact ⟨by simp, hw, fun x hx => by simp at hx⟩
  | cons x l ih =>
    intro ts us h hw
    simp only [runN] at h
    cases hj : joinT ts x with
    | none => rw [hj] at h; exact absurd h (by simp)
    | some vs =>
      rw [hj] at h
      obtain ⟨h1, h2, h3⟩ := joinT_sound hj hw
      obtain ⟨h4, h5, h6⟩ := ih vs us h h2
      refine ⟨by rw [h4, h1]; simp, h5, fun y hy => ?_⟩
      rcases List.mem_cons.1 hy with rfl | hy
      · exact h3
      · exact h6 y hy
/-- A tree's list grows into the tree. -/
theorem runN_flat : ∀ (t : Nt) (ts : List Nt), t.wf → runN ts t.flat = some (ts ++ [t]) := by
  intro t
  induction t with
  | yes => intro ts _; simp [Nt.flat, runN, joinT]
  | attr n => intro ts h; obtain ⟨h0, h1⟩ := h; simp [Nt.flat, runN, joinT, h0, h1]
  | not t ih =>
    intro ts h
    rw [Nt.flat, runN_append, ih ts h]
    simp [runN, joinT]
  | pair op a b iha ihb =>
    intro ts h
    obtain ⟨ho, ha, hb⟩ := h
    rw [Nt.flat, runN_append, iha ts ha]
    simp only
    rw [runN_append, ihb _ hb]
    have e : ts ++ [a] ++ [b] = ts ++ [a, b] := by simp
    rw [e]
    rcases ho with rfl | rfl <;> simp [runN, joinT]
theorem runN_one {l : List (Int × Int)} {t : Nt} : runN [] l = some [t] ↔ l = t.flat ∧ t.wf := by
  constructor
  · intro h
    obtain ⟨h1, h2, _⟩ := runN_sound l [] [t] h (fun t ht => by simp at ht)
    rw [flats_one] at h1
    exact ⟨by rw [h1]; simp [flats], h2 t (by simp)⟩
  · rintro ⟨rfl, h⟩
    exact runN_flat t [] h

/-- The document's way back: where the tree begins. -/
def bkN (l : List (Int × Int)) : Nat → Nat → Int
  | 0, _ => -1
  | k + 1, lack => if lack - 1 + arN (l.getD k (0, 0)).1 = 0 then (k : Int) else bkN l k (lack - 1 + arN (l.getD k (0, 0)).1)
theorem getD_mid (pre post : List (Int × Int)) (x d : Int × Int) : (pre ++ (x :: post)).getD pre.length d = x := by simp [List.getD_eq_getElem?_getD]
theorem bkN_flat : ∀ (t : Nt) (pre post : List (Int × Int)) (lack : Nat), t.wf → 1 ≤ lack → bkN (pre ++ (t.flat ++ post)) (pre.length + t.flat.length) lack = if lack = 1 then (pre.length : Int) else bkN (pre ++ (t.flat ++ post)) pre.length (lack - 1) := by
  intro t
  induction t with
  | yes =>
    intro pre post lack _ hl
    show bkN (pre ++ ((1, 0) :: post)) (pre.length + 1) lack = if lack = 1 then (pre.length : Int) else bkN (pre ++ ((1, 0) :: post)) pre.length (lack - 1)
    rw [bkN, getD_mid]
    simp only [arN, show ¬ ((1 : Int) = 3) by decide, show ¬ ((1 : Int) = 4 ∨ (1 : Int) = 5) by decide, if_false, Nat.add_zero]
    by_cases h : lack = 1
    · rw [if_pos h, if_pos (by omega)]
    · rw [if_neg h, if_neg (by omega)]
  | attr n =>
    intro pre post lack _ hl
    show bkN (pre ++ ((2, n) :: post)) (pre.length + 1) lack = if lack = 1 then (pre.length : Int) else bkN (pre ++ ((2, n) :: post)) pre.length (lack - 1)
    rw [bkN, getD_mid]
    simp only [arN, show ¬ ((2 : Int) = 3) by decide, show ¬ ((2 : Int) = 4 ∨ (2 : Int) = 5) by decide, if_false, Nat.add_zero]
    by_cases h : lack = 1
    · rw [if_pos h, if_pos (by omega)]
    · rw [if_neg h, if_neg (by omega)]
  | not t ih =>
    intro pre post lack hw hl
    have h1 := ih pre ([(3, 0)] ++ post) lack hw hl
    have e : pre ++ ((Nt.not t).flat ++ post) = pre ++ (t.flat ++ ([(3, 0)] ++ post)) := by simp [Nt.flat]
    have el : pre.length + (Nt.not t).flat.length = (pre.length + t.flat.length) + 1 := by simp [Nt.flat]; omega
    rw [e, el, bkN]
    have g : (pre ++ (t.flat ++ ([(3, 0)] ++ post))).getD (pre.length + t.flat.length) (0, 0) = (3, 0) := by
      simp
    rw [g]
    simp only [arN, if_true]
    rw [show lack - 1 + 1 = lack by omega, if_neg (by omega)]
    exact h1
  | pair op a b iha ihb =>
    intro pre post lack hw hl
    obtain ⟨ho, ha, hb⟩ := hw
    have e : pre ++ ((Nt.pair op a b).flat ++ post) = (pre ++ a.flat) ++ (b.flat ++ ([(op, 0)] ++ post)) := by simp [Nt.flat]
    have e2 : (pre ++ a.flat) ++ (b.flat ++ ([(op, 0)] ++ post)) = pre ++ (a.flat ++ (b.flat ++ ([(op, 0)] ++ post))) := by simp
    have el : pre.length + (Nt.pair op a b).flat.length = ((pre ++ a.flat).length + b.flat.length) + 1 := by simp [Nt.flat]; omega
    have h1 := ihb (pre ++ a.flat) ([(op, 0)] ++ post) (lack + 1) hb (by omega)
    have h2 := iha pre (b.flat ++ ([(op, 0)] ++ post)) lack ha hl
    rw [if_neg (by omega), Nat.add_sub_cancel, List.length_append, e2, h2] at h1
    rw [e, el, bkN]
    have g : ((pre ++ a.flat) ++ (b.flat ++ ([(op, 0)] ++ post))).getD ((pre ++ a.flat).length + b.flat.length) (0, 0) = (op, 0) := by
      simp [Nat.add_assoc]
    rw [g]
    have ha2 : arN op = 2 := by rcases ho with rfl | rfl <;> simp [arN]
    simp only [ha2]
    rw [if_neg (by omega), show lack - 1 + 2 = lack + 1 by omega, List.length_append, e2]
    exact h1
theorem mayN_cases {x : Int × Int} (h : mayN x = true) : x = (1, 0) ∨ (x.1 = 2 ∧ 0 ≤ x.2 ∧ x.2 < 16) ∨ x = (3, 0) ∨ ((x.1 = 4 ∨ x.1 = 5) ∧ x.2 = 0) := by
  obtain ⟨op, n⟩ := x
  unfold mayN at h
  simp only at h
  split at h
  · rename_i hc
    simp only [Bool.and_eq_true, decide_eq_true_eq] at h
    exact .inr (.inl ⟨hc, h.1, h.2⟩)
  · rename_i hc
    simp only [Bool.and_eq_true, decide_eq_true_eq] at h
    obtain ⟨⟨h1, h2⟩, rfl⟩ := h
    have h3 : op = 1 ∨ op = 3 ∨ op = 4 ∨ op = 5 := by omega
    rcases h3 with rfl | rfl | rfl | rfl
    · exact .inl rfl
    · exact .inr (.inr (.inl rfl))
    · exact .inr (.inr (.inr ⟨.inl rfl, rfl⟩))
    · exact .inr (.inr (.inr ⟨.inr rfl, rfl⟩))
/-- Where the way back ends at the list's beginning, the list is a tree's. -/
theorem bkN_back (l : List (Int × Int)) (hm : ∀ x ∈ l, mayN x = true) : ∀ (k lack : Nat), k ≤ l.length → 1 ≤ lack → bkN l k lack = 0 → ∃ ts : List Nt, ts.length = lack ∧ (∀ t ∈ ts, t.wf) ∧ l.take k = flats ts := by
  intro k
  induction k with
  | zero => intro lack _ _ h; simp [bkN] at h
  | succ k ih =>
    intro lack hk hl h
    have hk2 : k < l.length := by omega
    have ht := List.take_succ_eq_append_getElem hk2
    have hd : l.getD k (0, 0) = l[k] := by simp [List.getD_eq_getElem?_getD, List.getElem?_eq_getElem hk2]
    have hmx := hm l[k] (List.getElem_mem hk2)
    rw [bkN, hd] at h
    rw [ht]
    generalize hx : l[k] = x at *
    clear hx hd ht
    by_cases h0 : lack - 1 + arN x.1 = 0
    · rw [if_pos h0] at h
      obtain rfl : k = 0 := by omega
      obtain rfl : lack = 1 := by omega
      have ha : arN x.1 = 0 := by omega
      rcases mayN_cases hmx with rfl | ⟨h1, h2, h3⟩ | rfl | ⟨h1, h2⟩
      · exact ⟨[.yes], rfl, fun t ht => by rw [List.mem_singleton.1 ht]; trivial, by simp [flats, Nt.flat]⟩
      · exact ⟨[.attr x.2], rfl, fun t ht => by rw [List.mem_singleton.1 ht]; exact ⟨h2, h3⟩, by simp [flats, Nt.flat, ← h1]⟩
      · simp [arN] at ha
      · rcases h1 with h1 | h1 <;> simp [arN, h1] at ha
    · rw [if_neg h0] at h
      obtain ⟨ts, hl2, hw, hf⟩ := ih _ (by omega) (by omega) h
      rw [hf]
      rcases mayN_cases hmx with rfl | ⟨h1, h2, h3⟩ | rfl | ⟨h1, h2⟩
      · rw [show arN (1, 0).1 = 0 from rfl] at hl2
        refine ⟨ts ++ [.yes], by simp; omega, fun t ht => ?_, by rw [flats_append, flats_one]; rfl⟩
        rcases List.mem_append.1 ht with ht | ht
        · exact hw t ht
        · rw [List.mem_singleton.1 ht]; trivial
      · have ha : arN x.1 = 0 := by simp [arN, h1]
        rw [ha] at hl2
        refine ⟨ts ++ [.attr x.2], by simp; omega, fun t ht => ?_, by rw [flats_append, flats_one, Nt.flat, ← h1]⟩
        rcases List.mem_append.1 ht with ht | ht
        · exact hw t ht
        · rw [List.mem_singleton.1 ht]; exact ⟨h2, h3⟩
      · rw [show arN (3, 0).1 = 1 from rfl] at hl2
        have e := last1 ts .yes (by omega)
        have hmm : ts.getD (ts.length - 1) .yes ∈ ts := by rw [e]; simp
        refine ⟨ts.take (ts.length - 1) ++ [.not (ts.getD (ts.length - 1) .yes)], by simp; omega, fun t ht => ?_, ?_⟩
        · rcases List.mem_append.1 ht with ht | ht
          · exact hw t (List.mem_of_mem_take ht)
          · rw [List.mem_singleton.1 ht]; show (ts.getD (ts.length - 1) .yes).wf; exact hw _ hmm
        · conv => lhs; rw [e]
          rw [flats_append, flats_one, flats_append, flats_one]
          simp [Nt.flat]
      · have ha : arN x.1 = 2 := by rcases h1 with h1 | h1 <;> simp [arN, h1]
        rw [ha] at hl2
        have e := last2 ts .yes (by omega)
        have hm1 : ts.getD (ts.length - 2) .yes ∈ ts := by rw [e]; simp
        have hm2 : ts.getD (ts.length - 1) .yes ∈ ts := by rw [e]; simp
        refine ⟨ts.take (ts.length - 2) ++ [.pair x.1 (ts.getD (ts.length - 2) .yes) (ts.getD (ts.length - 1) .yes)], by simp; omega, fun t ht => ?_, ?_⟩
        · rcases List.mem_append.1 ht with ht | ht
          · exact hw t (List.mem_of_mem_take ht)
          · rw [List.mem_singleton.1 ht]; exact ⟨h1, hw _ hm1, hw _ hm2⟩
        · conv => lhs; rw [e]
          obtain ⟨op, n⟩ := x
          simp only at h2
          subst h2
          simp [Nt.flat, flats]
/-- Where the tree begins, in the document's words: end, or below 0. -/
def beginN (l : List (Int × Int)) (k : Nat) : Int := bkN l k 1
theorem begin_flat (pre post : List (Int × Int)) (t : Nt) (h : t.wf) : beginN (pre ++ (t.flat ++ post)) (pre.length + t.flat.length) = (pre.length : Int) := by
  unfold beginN; rw [bkN_flat t pre post 1 h (Nat.le_refl _), if_pos rfl]
theorem begin_tree {l : List (Int × Int)} (hm : ∀ x ∈ l, mayN x = true) (h : beginN l l.length = 0) : ∃ t : Nt, t.wf ∧ l = t.flat := by
  obtain ⟨ts, h1, h2, h3⟩ := bkN_back l hm l.length 1 (Nat.le_refl _) (Nat.le_refl _) h
  rw [List.take_length] at h3
  match ts, h1 with
  | [t], _ => exact ⟨t, h2 t (by simp), by rw [h3, flats_one]⟩
/-- Check, in the program's words. -/
def chkN (l : List (Int × Int)) : Int :=
  if 31 < l.length then 4 else match runN [] l with
    | some [t] => if 8 < t.depth then 4 else 0
    | _ => 1
theorem flat_inj {t u : Nt} (h : t.wf) (h' : u.wf) (e : t.flat = u.flat) : t = u := by
  have h1 := runN_flat t [] h
  rw [e, runN_flat u [] h'] at h1
  simpa using h1.symm
theorem flat_may {t : Nt} (h : t.wf) : ∀ x ∈ t.flat, mayN x = true := by
  have := runN_sound t.flat [] _ (runN_flat t [] h) (fun t ht => by simp at ht)
  exact this.2.2
/-- A list is a need, or it is not, in both ways. -/
theorem chkN_tree {t : Nt} (h : t.wf) : chkN t.flat = if 31 < t.flat.length then 4 else if 8 < t.depth then 4 else 0 := by
  unfold chkN; rw [runN_flat t [] h]; rfl
theorem chkN_none {l : List (Int × Int)} (h : ∀ t : Nt, t.wf → l ≠ t.flat) (hl : ¬ 31 < l.length) : chkN l = 1 := by
  unfold chkN
  rw [if_neg hl]
  cases hr : runN [] l with
  | none => rfl
  | some ts =>
    match ts, hr with
    | [], _ => rfl
    | [t], hr => exact absurd (runN_one.1 hr).1 (h t (runN_one.1 hr).2)
    | t :: u :: ts, _ => rfl
theorem chkN_zero {l : List (Int × Int)} (h : chkN l = 0) : ∃ t : Nt, t.wf ∧ l = t.flat ∧ t.depth ≤ 8 ∧ l.length ≤ 31 ∧ runN [] l = some [t] := by
  unfold chkN at h
  split at h
  · simp at h
  · rename_i hl
    split at h
    · rename_i t hr
      obtain ⟨h1, h2⟩ := runN_one.1 hr
      split at h
      · simp at h
      · exact ⟨t, h2, h1, by omega, by omega, hr⟩
    · simp at h
end Go.Proofs.Ytdphdodjidbngaa

namespace Go.Proofs.Ytdphdodjidbngaa
open Go.RowKit
set_option linter.unusedVariables false
set_option linter.unusedSimpArgs false

theorem bit_any (k : Int) (w : World) : Calls Try.prog 162 #[.int .i64 k] w fun e w' => e = .returned (.int .u64 (bitN k : Nat)) ∧ w = w' := by
  by_cases h0 : k < 0
  · have hb : Hid (bitN k = 0) := hid (by unfold bitN; rw [if_neg (by omega)])
    go_enter Try.func162, Try.ntmps162
    go_wp2
    go_ret
    exact ⟨by rw [hb.out]; rfl, rfl⟩
  · by_cases h1 : 64 ≤ k
    · have hb : Hid (bitN k = 0) := hid (by unfold bitN; rw [if_neg (by omega)])
      go_enter Try.func162, Try.ntmps162
      go_wp2
      go_ret
      exact ⟨by rw [hb.out]; rfl, rfl⟩
    · obtain ⟨n, rfl⟩ := Int.eq_ofNat_of_zero_le (show 0 ≤ k by omega)
      have hb : Hid (bitN (n : Int) = 2 ^ n) := hid (by unfold bitN; rw [if_pos (by omega)]; simp)
      have hn : n < 64 := by omega
      go_enter Try.func162, Try.ntmps162
      go_wp2
      go_ret
      exact ⟨by rw [hb.out]; exact ret_u64 (wrap_pow n hn), rfl⟩

theorem with_any (s : Nat) (k : Int) (w : World) (hs : s < 18446744073709551616) : Calls Try.prog 139 #[.int .u64 s, .int .i64 k] w fun e w' => e = .returned (.int .u64 (withS s k : Nat)) ∧ w = w' := by
  have hb := bitN_lt k
  go_enter Try.func139, Try.ntmps139
  go_wp2_with (go_at_call 162; refine (bit_any _ _).mono ?_; rintro e w' ⟨rfl, rfl⟩)
  go_ret
  exact ⟨ret_u64 (u64_or_nat s (bitN k) hs hb), rfl⟩
end Go.Proofs.Ytdphdodjidbngaa

namespace Go.Proofs.Ytdphdodjidbngaa
open Go.RowKit
set_option linter.unusedVariables false
set_option linter.unusedSimpArgs false

end Go.Proofs.Ytdphdodjidbngaa

namespace Go.Proofs.Ytdphdodjidbngaa
open Go.RowKit
set_option linter.unusedVariables false
set_option linter.unusedSimpArgs false

theorem of_any (A : Option Addr) (len cap : Nat) (l : List Int) (w : World) (h : Sl w 1 A len cap (icells .i64 l)) :
    Calls Try.prog 102 #[.slice A len cap] w fun e w' => e = .returned (.int .u64 (ofL l : Nat)) ∧ w = w' := by
  obtain rfl : len = l.length := by have := h.1; rw [icells_length] at this; omega
  have hmx : l.length ≤ 9223372036854775807 := by have h1 := h.2.1; have h2 := h.2.2.1; unfold maxLen at h2; omega
  have HS := hid h
  clear h
  go_enter Try.func102, Try.ntmps102
  go_wp2
  go_loop [3, 8] (fun x i => ∃ k m : Nat, k ≤ l.length ∧ i = .int .i64 (k : Int) ∧ x = .int .u64 (m : Int) ∧ m < 18446744073709551616 ∧ Hid (m = foldS l k)) (fun _ i => l.length - (intOf i).toNat)
  case atStart => exact ⟨0, 0, by omega, rfl, rfl, by omega, rfl⟩
  case round =>
    obtain ⟨k, m, hk, rfl, rfl, hm, HM⟩ := hrel
    by_cases hlt : k < l.length
    · have hlt2 : (k : Int) < (l.length : Int) := by omega
      obtain ⟨b, off, rfl, hc⟩ := Sl.at HS.out k (by rw [icells_length]; exact hlt)
      have e1 : (icells .i64 l)[k]'(by rw [icells_length]; exact hlt) = .int .i64 l[k] := by simp [icells]
      rw [e1] at hc
      have H1 : Hid (withS m l[k] = foldS l (k + 1)) := hid (by rw [HM.out, foldS]; simp [List.getD_eq_getElem?_getD, hlt])
      clear e1 HM
      generalize l[k] = x at hc H1
      have H2 := hid (fun w => with_any m x w hm)
      have hm2 := withS_lt m x hm
      go_wp2_with (go_at_call 139; refine (H2.out _).mono ?_; rintro e w' ⟨rfl, rfl⟩)
      go_round
      case rel => exact ⟨k + 1, withS m x, by omega, by go_num, rfl, hm2, H1.out⟩
      case measure => simp [intOf]; omega
    · have hge : (l.length : Int) ≤ k := by omega
      have H1 : Hid (m = ofL l) := hid (by rw [HM.out, foldS_eq l k hk, List.take_of_length_le (by omega)])
      clear HM
      go_wp2
      go_ret
      exact ⟨ret_u64 (by rw [H1.out]), rfl⟩

end Go.Proofs.Ytdphdodjidbngaa
