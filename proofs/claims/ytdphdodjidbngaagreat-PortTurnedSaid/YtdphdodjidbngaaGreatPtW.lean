/- ports that talk: the protocol where nothing is lost. -/
import Derived.Test.YtdphdodjidbngaaGreatPtU
import Derived.Test.YtdphdodjidbngaaGreatGaP
namespace Go.Proofs.YtdphdodjidbngaaGreat
open Go.RowKit Go.Sort
set_option linter.unusedVariables false
set_option linter.unusedSimpArgs false

theorem opP_pb {x : Pk} (h : chkP x = true) : opE (pbL x) = 0 ∧ opP (pbL x) = x := by
  have hp : pbL x = frP (plB x.k x.f x.t x.i x.p x.s x.b) := by
    rw [pbL, pbS, str_list, if_pos (show okP x.k x.f x.t x.i x.p x.s x.b = true from h)]
    exact str_list _
  rw [hp]
  refine ⟨opE_put h, ?_⟩
  obtain ⟨-, h1, h2, h3, h4, h5, h6, h7⟩ := qz_put h
  obtain ⟨k, f, t, i, p, s, b⟩ := x
  simp only [opP, cut_put h, h1, h2, h3, h4, h5, h6, h7]
theorem pbL_len {x : Pk} (h : chkP x = true) : (pbL x).length ≤ 1000 := by
  have hp : pbL x = frP (plB x.k x.f x.t x.i x.p x.s x.b) := by
    rw [pbL, pbS, str_list, if_pos (show okP x.k x.f x.t x.i x.p x.s x.b = true from h)]
    exact str_list _
  have hl := (plB_len (k := x.k) (f := x.f) (t := x.t) (i := x.i) (p := x.p) (s := x.s) (b := x.b) (okP_iff h).2.2.2.2.2.2.2).1
  rw [hp]
  unfold frP
  split
  · simp
  · rw [seal_len, List.length_append]
    have := (numB_length (plB x.k x.f x.t x.i x.p x.s x.b).length (by omega)).2
    omega
theorem ptakV_pb (nd inc : Int) (L : List Ev) {x : Pk} (h : chkP x = true) : ptakV nd inc L (pbL x) = if x.t ≠ nd then (L, (-1, ⟨#[]⟩), [], 1)
    else (keepL (takV (endP nd inc L x.f) x).1.1 L, (x.f, (takV (endP nd inc L x.f) x).2.1), (takV (endP nd inc L x.f) x).1.2.map pbL, 0) := by
  obtain ⟨h1, h2⟩ := opP_pb h
  rw [ptakV, if_neg (by simp [h1]), h2]

inductive Ph where
  | d1 | h | d (j : Nat) | k (j : Nat) | e
section
variable (ia ib : Int) (T : List (List UInt8))
def eA (p : Int) (j : Nat) : Ev := ⟨0, 8, ia, ⟨p, (j : Int) + 1, T.drop j, 1, if j < T.length then 1 else 0⟩, ia, p, 0⟩
def eB (j : Nat) : Ev := ⟨8, 0, ib, ⟨ia, 1, [], 1, 0⟩, ib, ia, (j : Int)⟩
def dtP (p : Int) (j : Nat) : Pk := ⟨1, 0, 8, ia, p, (j : Int) + 1, T.getD j []⟩
def akP (j : Nat) : Pk := ⟨2, 8, 0, ib, ia, (j : Int), []⟩
def hlP : Pk := ⟨3, 8, 0, ib, ia, 0, []⟩
def phA : Ph → List Ev
  | .d1 => [eA ia T 1 0]
  | .h => [eA ia T 1 0]
  | .d j => [eA ia T ib j]
  | .k j => [eA ia T ib (j - 1)]
  | .e => [eA ia T ib T.length]
def phB : Ph → List Ev
  | .d1 => []
  | .h => [eB ia ib 0]
  | .d j => [eB ia ib j]
  | .k j => [eB ia ib j]
  | .e => [eB ia ib T.length]
def phW : Ph → List Pk
  | .d1 => [dtP ia T 1 0]
  | .h => [hlP ia ib]
  | .d j => [dtP ia T ib j]
  | .k j => [akP ia ib j]
  | .e => []
def phG : Ph → Nat
  | .d1 => 0
  | .h => 0
  | .d j => j
  | .k j => j
  | .e => T.length
def phR : Ph → Nat
  | .d1 => 2 * T.length + 2
  | .h => 2 * T.length + 1
  | .d j => 2 * (T.length - j)
  | .k j => 2 * (T.length - j) + 1
  | .e => 0
def phN : Ph → Ph
  | .d1 => if ib = 1 then .k 1 else .h
  | .h => .d 0
  | .d j => .k (j + 1)
  | .k j => if j < T.length then .d j else .e
  | .e => .e
def phO : Ph → Prop
  | .d1 => True
  | .h => ib ≠ 1
  | .d j => j < T.length
  | .k j => 1 ≤ j ∧ j ≤ T.length
  | .e => True
/-- What is asked of the numbers and the texts. -/
structure TkH : Prop where
  a1 : 1 ≤ ia
  a2 : ia ≤ 256
  b1 : 1 ≤ ib
  b2 : ib ≤ 256
  n1 : 1 ≤ T.length
  n2 : T.length ≤ 16
  tx : ∀ y ∈ T, y ≠ [] ∧ y.length ≤ 32
  nd : T.Nodup
end
variable {ia ib : Int} {T : List (List UInt8)}
theorem TkH.gt (H : TkH ia ib T) (j : Nat) (h : j < T.length) : T.getD j [] ≠ [] ∧ (T.getD j []).length ≤ 32 := by
  rw [List.getD_eq_getElem?_getD, List.getElem?_eq_getElem h]
  exact H.tx _ (List.getElem_mem h)
theorem inS_yes (n : Int) (h1 : 1 ≤ n) (h2 : n ≤ 1000) : inS true 1 72057594037927935 n = true := by
  unfold inS
  rw [if_pos rfl, decide_eq_true_eq]
  omega
theorem okP_of {k f t i p s : Int} {b : List UInt8} (h1 : 1 ≤ k ∧ k ≤ 4) (h2 : 0 ≤ f ∧ f ≤ 71) (h3 : 0 ≤ t ∧ t ≤ 71) (h4 : f ≠ t) (h5 : inS true 1 72057594037927935 i = true) (h6 : inS (hpP k.toNat) 1 72057594037927935 p = true) (h7 : inS (hpS k.toNat) 1 72057594037927935 s = true) (h8 : inT (hpB k.toNat) b = true) : okP k f t i p s b = true := by
  simp only [okP, Bool.and_eq_true, decide_eq_true_eq]
  exact ⟨⟨⟨⟨⟨⟨⟨h1, h2⟩, h3⟩, h4⟩, h5⟩, h6⟩, h7⟩, h8⟩
theorem chk_dt (H : TkH ia ib T) (p : Int) (h1 : 1 ≤ p) (h2 : p ≤ 256) (j : Nat) (h : j < T.length) : chkP (dtP ia T p j) = true := by
  obtain ⟨g1, g2⟩ := H.gt j h
  have hn : 1 ≤ (T.getD j []).length := List.length_pos_iff.2 g1
  have := H.n2
  have := H.a1
  have := H.a2
  show okP 1 0 8 ia p ((j : Int) + 1) (T.getD j []) = true
  refine okP_of (by decide) (by decide) (by decide) (by decide) (inS_yes _ (by omega) (by omega)) (inS_yes p h1 (by omega)) (inS_yes _ (by omega) (by omega)) ?_
  show decide (1 ≤ (T.getD j []).length ∧ (T.getD j []).length ≤ 32) = true
  rw [decide_eq_true_eq]
  exact ⟨hn, g2⟩
theorem chk_ak (H : TkH ia ib T) (j : Nat) (h0 : 1 ≤ j) (h : j ≤ T.length) : chkP (akP ia ib j) = true := by
  have := H.n2
  have := H.a1
  have := H.a2
  have := H.b1
  have := H.b2
  show okP 2 8 0 ib ia (j : Int) [] = true
  exact okP_of (by decide) (by decide) (by decide) (by decide) (inS_yes ib (by omega) (by omega)) (inS_yes ia (by omega) (by omega)) (inS_yes (j : Int) (by omega) (by omega)) rfl
theorem chk_hl (H : TkH ia ib T) : chkP (hlP ia ib) = true := by
  have := H.n2
  have := H.a1
  have := H.a2
  have := H.b1
  have := H.b2
  show okP 3 8 0 ib ia 0 [] = true
  exact okP_of (by decide) (by decide) (by decide) (by decide) (inS_yes ib (by omega) (by omega)) (inS_yes ia (by omega) (by omega)) rfl rfl

/-- A step where the packet goes to the second port. -/
def StB (ia ib : Int) (T : List (List UInt8)) (ph : Ph) (x : Pk) : Prop :=
  x.t = 8 ∧ x.f = 0 ∧ chkP x = true ∧ keepL (takV (endP 8 ib (phB ia ib T ph) 0) x).1.1 (phB ia ib T ph) = phB ia ib T (phN ib T ph) ∧ (takV (endP 8 ib (phB ia ib T ph) 0) x).1.2 = phW ia ib T (phN ib T ph) ∧ phA ia ib T (phN ib T ph) = phA ia ib T ph ∧
  (((takV (endP 8 ib (phB ia ib T ph) 0) x).2.1 = ⟨#[]⟩ ∧ phG T (phN ib T ph) = phG T ph) ∨ (phG T ph < T.length ∧ (takV (endP 8 ib (phB ia ib T ph) 0) x).2.1 = str (T.getD (phG T ph) []) ∧ phG T (phN ib T ph) = phG T ph + 1))
/-- A step where it goes to the first one. -/
def StA (ia ib : Int) (T : List (List UInt8)) (ph : Ph) (x : Pk) : Prop :=
  x.t = 0 ∧ x.f = 8 ∧ chkP x = true ∧ keepL (takV (endP 0 ia (phA ia ib T ph) 8) x).1.1 (phA ia ib T ph) = phA ia ib T (phN ib T ph) ∧ (takV (endP 0 ia (phA ia ib T ph) 8) x).1.2 = phW ia ib T (phN ib T ph) ∧ phB ia ib T (phN ib T ph) = phB ia ib T ph ∧ phG T (phN ib T ph) = phG T ph
theorem endP_one (nd inc : Int) (e : Ev) (k : Int) (h : e.t = k) : endP nd inc [e] k = e := by simp [endP, h]
theorem keep_one (e e' : Ev) (h : e'.t = e.t) : keepL e' [e] = [e'] := by simp [keepL, h]
theorem takV_dt (e : Ev) (x : Pk) (hc : chkP x = true) (h1 : x.f = e.t) (h2 : x.t = e.f) (h3 : e.p ≤ x.i) (hk : x.k = 1) : takV e x = (datE e x, (if clsD e x = 1 then str x.b else ⟨#[]⟩), decide (clsD e x = 1)) := by
  unfold takV
  rw [if_neg, if_pos hk]
  unfold badT
  simp [hc, h1, h2]
  exact h3
theorem step_d (H : TkH ia ib T) (j : Nat) (h : j < T.length) : StB ia ib T (.d j) (dtP ia T ib j) := by
  have hc := chk_dt H ib H.b1 H.b2 j h
  have he : endP 8 ib (phB ia ib T (.d j)) 0 = eB ia ib j := endP_one _ _ _ _ rfl
  have hcl : clsD (eB ia ib j) (dtP ia T ib j) = 1 := by
    simp [clsD, eB, dtP, gC, gP, gL]
  have ht := takV_dt (eB ia ib j) (dtP ia T ib j) hc rfl rfl (Int.le_refl _) rfl
  refine ⟨rfl, rfl, hc, ?_, ?_, rfl, .inr ⟨h, ?_, rfl⟩⟩
  · rw [he, ht]
    show keepL (dend (eB ia ib j) (dtP ia T ib j)) [eB ia ib j] = [eB ia ib (j + 1)]
    refine (keep_one (eB ia ib j) (dend (eB ia ib j) (dtP ia T ib j)) rfl).trans ?_
    simp [dend, eB, dtP, lrnV, gP, gL, gN, gC]
  · rw [he, ht]
    show (lrnE (eB ia ib j) (dtP ia T ib j).i).2 ++ ansD (eB ia ib j) (dtP ia T ib j) = [akP ia ib (j + 1)]
    rw [ansD, if_pos (.inl hcl)]
    simp [lrnE, eB, dtP, lrnV, dataV, akP]
  · rw [he, ht, hcl]
    rfl
theorem step_d1 (H : TkH ia ib T) : StB ia ib T .d1 (dtP ia T 1 0) := by
  have hc := chk_dt H 1 (by omega) (by omega) 0 (by have := H.n1; omega)
  have he : endP 8 ib (phB ia ib T .d1) 0 = newE 8 0 ib := rfl
  have a1 := H.a1
  have ht := takV_dt (newE 8 0 ib) (dtP ia T 1 0) hc rfl rfl a1 rfl
  have hl : lrnV ⟨1, 1, [], 1, 0⟩ ia = (⟨ia, 1, [], 1, 0⟩, false) := by
    unfold lrnV
    split
    · rename_i h9
      have h8 : ia ≤ 1 := h9
      have : ia = 1 := by omega
      subst this
      rfl
    · simp [begV]
  have hp : gP 1 ia = ia := by unfold gP; split <;> omega
  have hq : gL 1 0 ia = 0 := by unfold gL; split <;> rfl
  have hp2 : gP ia ia = ia := by simp [gP]
  have hq2 : gL ia 0 ia = 0 := by simp [gL]
  by_cases hb : ib = 1
  · subst hb
    have hn : phN 1 T .d1 = .k 1 := by simp [phN]
    have hcl : clsD (newE 8 0 1) (dtP ia T 1 0) = 1 := by
      simp [clsD, newE, dtP, gC, hp, hq, hq2]
    refine ⟨rfl, rfl, hc, ?_, ?_, ?_, .inr ⟨by have := H.n1; show 0 < T.length; omega, ?_, ?_⟩⟩
    · rw [he, ht, hn]
      show keepL (dend (newE 8 0 1) (dtP ia T 1 0)) [] = [eB ia 1 1]
      simp only [keepL]
      simp [dend, newE, eB, dtP, hl, gN, gC, hp, hq, hp2, hq2]
    · rw [he, ht, hn]
      show (lrnE (newE 8 0 1) (dtP ia T 1 0).i).2 ++ ansD (newE 8 0 1) (dtP ia T 1 0) = [akP ia 1 1]
      rw [ansD, if_pos (.inl hcl)]
      simp [lrnE, newE, dtP, hl, dataV, akP]
    · rw [hn]
      rfl
    · rw [he, ht, hcl]
      rfl
    · rw [hn]
      rfl
  · have hn : phN ib T .d1 = .h := by simp [phN, hb]
    have b1 := H.b1
    have hcl : clsD (newE 8 0 ib) (dtP ia T 1 0) = 3 := by
      simp [clsD, newE, dtP, gC, hp]
      omega
    refine ⟨rfl, rfl, hc, ?_, ?_, ?_, .inl ⟨?_, ?_⟩⟩
    · rw [he, ht, hn]
      show keepL (dend (newE 8 0 ib) (dtP ia T 1 0)) [] = [eB ia ib 0]
      simp only [keepL]
      have : gN ib ia 0 ia 1 1 = 0 := by simp [gN, gC, hq2]; omega
      simp [dend, newE, eB, dtP, hl, hp, hq, hp2, this]
    · rw [he, ht, hn]
      show (lrnE (newE 8 0 ib) (dtP ia T 1 0).i).2 ++ ansD (newE 8 0 ib) (dtP ia T 1 0) = [hlP ia ib]
      rw [ansD, if_neg (by rw [hcl]; decide), if_pos hcl]
      simp [lrnE, newE, dtP, hl, dataV, hlP]
    · rw [hn]
      rfl
    · rw [he, ht, hcl]
      rfl
    · rw [hn]
      rfl
theorem drop_getD (T : List (List UInt8)) (j : Nat) (h : j < T.length) : T.drop j = T.getD j [] :: T.drop (j + 1) := by
  rw [List.drop_eq_getElem_cons h, List.getD_eq_getElem?_getD, List.getElem?_eq_getElem h]
  rfl
theorem lrnV_yes (o : Ov) (peer : Int) (h : ¬ peer ≤ o.p) (hl : o.l ≠ []) : lrnV o peer = (⟨peer, 1, o.l, 1, 1⟩, true) := by
  unfold lrnV
  rw [if_neg h]
  simp [begV, hl]
theorem lrnV_no (o : Ov) (peer : Int) (h : peer ≤ o.p) : lrnV o peer = (o, false) := by
  unfold lrnV
  rw [if_pos h]
theorem dataV_cons (e : Ev) (y : List UInt8) (ys : List (List UInt8)) (h : e.o.l = y :: ys) : dataV e true = [⟨1, e.f, e.t, e.i, e.o.p, e.o.q, y⟩] := by
  unfold dataV
  simp [h]
theorem step_h (H : TkH ia ib T) (hb : ib ≠ 1) : StA ia ib T .h (hlP ia ib) := by
  have hc := chk_hl H
  have b1 := H.b1
  have n1 := H.n1
  have he : endP 0 ia (phA ia ib T .h) 8 = eA ia T 1 0 := endP_one _ _ _ _ rfl
  have ht : takV (eA ia T 1 0) (hlP ia ib) = (lrnE (eA ia T 1 0) ib, ⟨#[]⟩, false) := by
    unfold takV
    rw [if_neg, if_neg (show ¬ (hlP ia ib).k = 1 from by show ¬ (3 : Int) = 1; decide), if_neg (show ¬ (hlP ia ib).k = 2 from by show ¬ (3 : Int) = 2; decide), if_pos (show (hlP ia ib).k = 3 from rfl), if_pos (show (hlP ia ib).p ≤ (eA ia T 1 0).i from Int.le_refl _)]
    · rfl
    · rintro (h | h | h | h)
      · rw [hc] at h
        cases h
      · exact h rfl
      · exact h rfl
      · have : ib < 1 := h
        omega
  have hl : lrnE (eA ia T 1 0) ib = (eA ia T ib 0, [dtP ia T ib 0]) := by
    have h2 := drop_getD T 0 (by omega)
    have hv : lrnV (eA ia T 1 0).o ib = (⟨ib, 1, T.drop 0, 1, 1⟩, true) := lrnV_yes _ _ (by show ¬ ib ≤ 1; omega) (by show T.drop 0 ≠ []; rw [h2]; simp)
    have h4 : (1 : Int) < ib := by omega
    have h5 : gP 1 ib = ib := by simp [gP]; omega
    have h6 : gL 1 0 ib = 0 := by simp [gL]
    unfold lrnE
    rw [hv]
    show ((⟨0, 8, ia, ⟨ib, 1, T.drop 0, 1, 1⟩, ia, gP 1 ib, gL 1 0 ib⟩ : Ev), dataV ⟨0, 8, ia, ⟨ib, 1, T.drop 0, 1, 1⟩, ia, gP 1 ib, gL 1 0 ib⟩ true) = _
    rw [dataV_cons _ _ _ h2, h5, h6]
    simp only [eA, dtP, if_pos (show 0 < T.length by omega)]
    rfl
  refine ⟨rfl, rfl, hc, ?_, ?_, rfl, rfl⟩
  · rw [he, ht, hl]
    exact keep_one (eA ia T 1 0) (eA ia T ib 0) rfl
  · rw [he, ht, hl]
    rfl
theorem step_k (H : TkH ia ib T) (j : Nat) (h1 : 1 ≤ j) (h2 : j ≤ T.length) : StA ia ib T (.k j) (akP ia ib j) := by
  have hc := chk_ak H j h1 h2
  have he : endP 0 ia (phA ia ib T (.k j)) 8 = eA ia T ib (j - 1) := endP_one _ _ _ _ rfl
  have ht : takV (eA ia T ib (j - 1)) (akP ia ib j) = (ackE (eA ia T ib (j - 1)) (akP ia ib j), ⟨#[]⟩, false) := by
    unfold takV
    rw [if_neg, if_neg (show ¬ (akP ia ib j).k = 1 from by show ¬ (2 : Int) = 1; decide), if_pos (show (akP ia ib j).k = 2 from rfl), if_pos (show (akP ia ib j).p = (eA ia T ib (j - 1)).i from rfl)]
    rintro (h | h | h | h)
    · rw [hc] at h
      cases h
    · exact h rfl
    · exact h rfl
    · have : ib < ib := h
      omega
  have hd := drop_getD T (j - 1) (by omega)
  rw [show j - 1 + 1 = j by omega] at hd
  have hl : lrnE (eA ia T ib (j - 1)) ib = (eA ia T ib (j - 1), []) := by
    have hv : lrnV (eA ia T ib (j - 1)).o ib = ((eA ia T ib (j - 1)).o, false) := lrnV_no _ _ (Int.le_refl _)
    have h5 : gP ib ib = ib := by simp [gP]
    have h6 : gL ib 0 ib = 0 := by simp [gL]
    unfold lrnE
    rw [hv]
    show ((⟨0, 8, ia, (eA ia T ib (j - 1)).o, ia, gP ib ib, gL ib 0 ib⟩ : Ev), ([] : List Pk)) = _
    rw [h5, h6]
    rfl
  have hq : ((j - 1 : Nat) : Int) + 1 = (j : Int) := by omega
  have ha : ackV (eA ia T ib (j - 1)).o ib (j : Int) = begV ⟨ib, (j : Int) + 1, T.drop j, 1, 0⟩ := by
    unfold ackV
    rw [if_neg]
    · show begV ⟨ib, ((j - 1 : Nat) : Int) + 1 + 1, (T.drop (j - 1)).tail, 1, 0⟩ = _
      rw [hd, hq]
      rfl
    · show ¬ (T.drop (j - 1) = [] ∨ ib ≠ ib ∨ (j : Int) ≠ ((j - 1 : Nat) : Int) + 1)
      rw [hd, hq]
      simp
  have hk : ackE (eA ia T ib (j - 1)) (akP ia ib j) = (setO (eA ia T ib (j - 1)) (begV ⟨ib, (j : Int) + 1, T.drop j, 1, 0⟩).1, dataV (setO (eA ia T ib (j - 1)) (begV ⟨ib, (j : Int) + 1, T.drop j, 1, 0⟩).1) (begV ⟨ib, (j : Int) + 1, T.drop j, 1, 0⟩).2) := by
    unfold ackE
    show (setO (lrnE (eA ia T ib (j - 1)) ib).1 (ackV (lrnE (eA ia T ib (j - 1)) ib).1.o ib (j : Int)).1, (lrnE (eA ia T ib (j - 1)) ib).2 ++ dataV (setO (lrnE (eA ia T ib (j - 1)) ib).1 (ackV (lrnE (eA ia T ib (j - 1)) ib).1.o ib (j : Int)).1) (ackV (lrnE (eA ia T ib (j - 1)) ib).1.o ib (j : Int)).2) = _
    rw [hl]
    show (setO (eA ia T ib (j - 1)) (ackV (eA ia T ib (j - 1)).o ib (j : Int)).1, [] ++ dataV (setO (eA ia T ib (j - 1)) (ackV (eA ia T ib (j - 1)).o ib (j : Int)).1) (ackV (eA ia T ib (j - 1)).o ib (j : Int)).2) = _
    rw [ha, List.nil_append]
  by_cases hj : j < T.length
  · have hn : phN ib T (.k j) = .d j := by simp [phN, hj]
    have hd2 := drop_getD T j hj
    have hb : begV ⟨ib, (j : Int) + 1, T.drop j, 1, 0⟩ = (⟨ib, (j : Int) + 1, T.drop j, 1, 1⟩, true) := by
      unfold begV
      rw [if_neg]
      show ¬ (T.drop j).length = 0
      rw [hd2]
      simp
    have hk2 : ackE (eA ia T ib (j - 1)) (akP ia ib j) = (eA ia T ib j, [dtP ia T ib j]) := by
      rw [hk, hb]
      show (setO (eA ia T ib (j - 1)) ⟨ib, (j : Int) + 1, T.drop j, 1, 1⟩, dataV (setO (eA ia T ib (j - 1)) ⟨ib, (j : Int) + 1, T.drop j, 1, 1⟩) true) = _
      rw [dataV_cons _ _ _ hd2]
      simp only [eA, dtP, setO, if_pos hj]
    refine ⟨rfl, rfl, hc, ?_, ?_, ?_, ?_⟩
    · rw [he, ht, hk2, hn]
      exact keep_one (eA ia T ib (j - 1)) (eA ia T ib j) rfl
    · rw [he, ht, hk2, hn]
      rfl
    · rw [hn]
      rfl
    · rw [hn]
      rfl
  · obtain rfl : j = T.length := by omega
    have hn : phN ib T (.k T.length) = .e := by simp [phN]
    have hb : begV ⟨ib, (T.length : Int) + 1, T.drop T.length, 1, 0⟩ = (⟨ib, (T.length : Int) + 1, T.drop T.length, 1, 0⟩, false) := by
      unfold begV
      rw [if_pos]
      show (T.drop T.length).length = 0
      simp
    have hk2 : ackE (eA ia T ib (T.length - 1)) (akP ia ib T.length) = (eA ia T ib T.length, []) := by
      rw [hk, hb]
      simp [eA, setO, dataV]
    refine ⟨rfl, rfl, hc, ?_, ?_, ?_, ?_⟩
    · rw [he, ht, hk2, hn]
      exact keep_one (eA ia T ib (T.length - 1)) (eA ia T ib T.length) rfl
    · rw [he, ht, hk2, hn]
      rfl
    · rw [hn]
      rfl
    · rw [hn]
      rfl
end Go.Proofs.YtdphdodjidbngaaGreat

namespace Go.Proofs.YtdphdodjidbngaaGreat
open Go.RowKit Go.Sort
set_option linter.unusedVariables false
set_option linter.unusedSimpArgs false

variable {ia ib : Int} {T : List (List UInt8)}
theorem ph_step (H : TkH ia ib T) (ph : Ph) (hO : phO ib T ph) : ph = .e ∨ ∃ x, phW ia ib T ph = [x] ∧ (StA ia ib T ph x ∨ StB ia ib T ph x) ∧ phO ib T (phN ib T ph) ∧ phR T (phN ib T ph) < phR T ph := by
  have n1 := H.n1
  cases ph with
  | d1 =>
    refine .inr ⟨_, rfl, .inr (step_d1 H), ?_⟩
    by_cases hb : ib = 1
    · have hn : phN ib T .d1 = .k 1 := by simp [phN, hb]
      rw [hn]
      exact ⟨⟨Nat.le_refl _, n1⟩, by simp only [phR]; omega⟩
    · have hn : phN ib T .d1 = .h := by simp [phN, hb]
      rw [hn]
      exact ⟨hb, by simp only [phR]; omega⟩
  | h => exact .inr ⟨_, rfl, .inl (step_h H hO), by show 0 < T.length; omega, by simp only [phN, phR]; omega⟩
  | d j => exact .inr ⟨_, rfl, .inr (step_d H j hO), ⟨by omega, hO⟩, by have h9 : j < T.length := hO; simp only [phN, phR]; omega⟩
  | k j =>
    refine .inr ⟨_, rfl, .inl (step_k H j hO.1 hO.2), ?_⟩
    by_cases hj : j < T.length
    · have hn : phN ib T (.k j) = .d j := by simp [phN, hj]
      rw [hn]
      exact ⟨hj, by simp only [phR]; omega⟩
    · have hn : phN ib T (.k j) = .e := by simp [phN, hj]
      rw [hn]
      exact ⟨trivial, by simp only [phR]; omega⟩
  | e => exact .inl rfl
theorem ph_rank (H : TkH ia ib T) (ph : Ph) (hO : phO ib T ph) : phR T ph ≤ 34 := by
  have n2 := H.n2
  cases ph with
  | k j =>
    have := hO.1
    simp only [phR]
    omega
  | _ => simp only [phR]; omega
theorem ph_got (H : TkH ia ib T) (ph : Ph) (hO : phO ib T ph) : phG T ph ≤ T.length := by
  cases ph with
  | d j => exact Nat.le_of_lt hO
  | k j => exact hO.2
  | e => exact Nat.le_refl _
  | _ => exact Nat.zero_le _
theorem stA_tak {ph : Ph} {x : Pk} (h : StA ia ib T ph x) : ∃ tx, ptakV 0 ia (phA ia ib T ph) (pbL x) = (phA ia ib T (phN ib T ph), (8, tx), (phW ia ib T (phN ib T ph)).map pbL, 0) := by
  obtain ⟨h1, h2, h3, h4, h5, h6, h7⟩ := h
  refine ⟨(takV (endP 0 ia (phA ia ib T ph) x.f) x).2.1, ?_⟩
  rw [ptakV_pb 0 ia _ h3, if_neg (by simp [h1]), h2, h4, h5]
theorem stB_tak {ph : Ph} {x : Pk} (h : StB ia ib T ph x) : ptakV 0 ia (phA ia ib T ph) (pbL x) = (phA ia ib T ph, (-1, ⟨#[]⟩), [], 1) ∧
    ptakV 8 ib (phB ia ib T ph) (pbL x) = (phB ia ib T (phN ib T ph), (0, (takV (endP 8 ib (phB ia ib T ph) 0) x).2.1), (phW ia ib T (phN ib T ph)).map pbL, 0) := by
  obtain ⟨h1, h2, h3, h4, h5, h6, h7⟩ := h
  refine ⟨?_, ?_⟩
  · rw [ptakV_pb 0 ia _ h3, if_pos (by simp [h1])]
  · rw [ptakV_pb 8 ib _ h3, if_neg (by simp [h1]), h2, h4, h5]
theorem phW_len (ph : Ph) : (phW ia ib T ph).length ≤ 1 := by cases ph <;> simp [phW]
theorem gdE_A (H : TkH ia ib T) (p : Int) (j : Nat) (hj : j ≤ T.length) : GdE (eA ia T p j) := by
  have n2 := H.n2
  refine ⟨?_, Int.le_refl _, by show (0 : Int) ≤ _; omega, by show _ ≤ (j : Int) + 1; omega, by show (j : Int) + 1 < _; omega, ?_⟩
  · show (T.drop j).length ≤ 999
    rw [List.length_drop]
    omega
  · intro y hy
    have := (H.tx y (List.mem_of_mem_drop hy)).2
    omega
theorem gdE_B (H : TkH ia ib T) (j : Nat) (hj : j ≤ T.length) : GdE (eB ia ib j) := by
  have n2 := H.n2
  refine ⟨by simp [eB], ?_, ?_, ?_, ?_, fun y hy => by simp [eB] at hy⟩
  · show (0 : Int) ≤ (j : Int); omega
  · show (j : Int) ≤ _; omega
  · show _ ≤ (1 : Int); omega
  · show (1 : Int) < _; omega
theorem gd_A (H : TkH ia ib T) (ph : Ph) (hO : phO ib T ph) : ∀ e ∈ phA ia ib T ph, GdE e := by
  intro e he
  cases ph with
  | d1 => obtain rfl := List.mem_singleton.1 he; exact gdE_A H 1 0 (Nat.zero_le _)
  | h => obtain rfl := List.mem_singleton.1 he; exact gdE_A H 1 0 (Nat.zero_le _)
  | d j => obtain rfl := List.mem_singleton.1 he; exact gdE_A H ib j (Nat.le_of_lt hO)
  | k j => obtain rfl := List.mem_singleton.1 he; exact gdE_A H ib (j - 1) (by have := hO.2; omega)
  | e => obtain rfl := List.mem_singleton.1 he; exact gdE_A H ib _ (Nat.le_refl _)
theorem gd_B (H : TkH ia ib T) (ph : Ph) (hO : phO ib T ph) : ∀ e ∈ phB ia ib T ph, GdE e := by
  intro e he
  cases ph with
  | d1 => simp [phB] at he
  | h => obtain rfl := List.mem_singleton.1 he; exact gdE_B H 0 (Nat.zero_le _)
  | d j => obtain rfl := List.mem_singleton.1 he; exact gdE_B H j (Nat.le_of_lt hO)
  | k j => obtain rfl := List.mem_singleton.1 he; exact gdE_B H j hO.2
  | e => obtain rfl := List.mem_singleton.1 he; exact gdE_B H _ (Nat.le_refl _)
theorem tick_A : ptickV (phA ia ib T .e) = (phA ia ib T .e, []) := by simp [ptickV, phA, tkF, tkT, tikE, tikV, eA, setO, dataV]
theorem tick_B : ptickV (phB ia ib T .e) = (phB ia ib T .e, []) := by simp [ptickV, phB, tkF, tkT, tikE, tikV, eB, setO, dataV]
theorem wait_A : pwaitV (phA ia ib T .e) 8 = 0 := by
  have h : endP 0 0 (phA ia ib T .e) 8 = eA ia T ib T.length := endP_one _ _ _ _ rfl
  rw [pwaitV, h]
  simp [eA]
theorem wait_B : pwaitV (phB ia ib T .e) 0 = 0 := by
  have h : endP 0 0 (phB ia ib T .e) 0 = eB ia ib T.length := endP_one _ _ _ _ rfl
  rw [pwaitV, h]
  simp [eB]
/-- The first port's end while texts are put. -/
def ptP (ia : Int) (T : List (List UInt8)) (k : Nat) : List Ev := if k = 0 then [] else [⟨0, 8, ia, ⟨1, 1, T.take k, 1, 1⟩, ia, 1, 0⟩]
def ptW (ia ib : Int) (T : List (List UInt8)) (k : Nat) : List (List UInt8) := if k = 0 then [] else [pbL (dtP ia T 1 0)]
theorem put_step (H : TkH ia ib T) (k : Nat) (h : k < T.length) : pputV 0 ia 16 (ptP ia T k) 8 (T.getD k []) = (ptP ia T (k + 1), (if k = 0 then [pbL (dtP ia T 1 0)] else []), 0) := by
  obtain ⟨g1, g2⟩ := H.gt k h
  have n2 := H.n2
  have hg : T.getD k [] = T[k] := by rw [List.getD_eq_getElem?_getD, List.getElem?_eq_getElem h]; rfl
  have htk : T.take (k + 1) = T.take k ++ [T.getD k []] := by rw [List.take_succ_eq_append_getElem h, hg]
  have h1 : ¬ (nodeB 8 = false ∨ (8 : Int) = 0) := by decide
  rw [pputV, if_neg h1]
  by_cases hk : k = 0
  · subst hk
    have he : endP 0 ia (ptP ia T 0) 8 = newE 0 8 ia := rfl
    have hp : putE (newE 0 8 ia) 16 (T.getD 0 []) = ((⟨0, 8, ia, ⟨1, 1, [T.getD 0 []], 1, 1⟩, ia, 1, 0⟩, [⟨1, 0, 8, ia, 1, 1, T.getD 0 []⟩]), 0) := by
      unfold putE
      rw [if_neg (by omega)]
      have hv : putV (newE 0 8 ia).o 16 (T.getD 0 []) = ((⟨1, 1, [T.getD 0 []], 1, 1⟩, true), 0) := by
        unfold putV
        rw [if_neg g1]
        simp [newE]
      rw [hv]
      simp [setO, newE, dataV]
    rw [he, hp, if_pos rfl, if_pos rfl]
    simp only [ptP, if_true, keepL]
    rw [htk]
    simp [dtP]
  · have he : endP 0 ia (ptP ia T k) 8 = ⟨0, 8, ia, ⟨1, 1, T.take k, 1, 1⟩, ia, 1, 0⟩ := by
      rw [ptP, if_neg hk]
      exact endP_one _ _ _ _ rfl
    have hne : T.take k ≠ [] := by
      intro e9
      have h9 := congrArg List.length e9
      rw [List.length_take, List.length_nil] at h9
      omega
    have hmem : T.getD k [] ∉ T.take k := by
      rw [hg]
      intro hm
      obtain ⟨j, hj, hj2⟩ := List.mem_take_iff_getElem.1 hm
      have := (List.nodup_iff_pairwise_ne.1 H.nd)
      have h9 := (List.pairwise_iff_getElem.1 this) j k (by omega) h (by omega)
      exact h9 hj2
    have hp : putE (⟨0, 8, ia, ⟨1, 1, T.take k, 1, 1⟩, ia, 1, 0⟩ : Ev) 16 (T.getD k []) = ((⟨0, 8, ia, ⟨1, 1, T.take (k + 1), 1, 1⟩, ia, 1, 0⟩, []), 0) := by
      unfold putE
      rw [if_neg (by omega)]
      have hv : putV ⟨1, 1, T.take k, 1, 1⟩ 16 (T.getD k []) = ((⟨1, 1, T.take (k + 1), 1, 1⟩, false), 0) := by
        unfold putV
        rw [if_neg g1, if_neg hmem, if_neg (by show ¬ (16 : Int) ≤ ((T.take k).length : Nat); rw [List.length_take]; omega), if_neg hne, htk]
      show ((setO _ (putV ⟨1, 1, T.take k, 1, 1⟩ 16 (T.getD k [])).1.1, dataV (setO _ (putV ⟨1, 1, T.take k, 1, 1⟩ 16 (T.getD k [])).1.1) (putV ⟨1, 1, T.take k, 1, 1⟩ 16 (T.getD k [])).1.2), (putV ⟨1, 1, T.take k, 1, 1⟩ 16 (T.getD k [])).2) = _
      rw [hv]
      simp [setO, dataV]
    rw [he, hp, if_pos rfl, if_neg hk]
    simp only [ptP, if_neg hk, if_neg (Nat.succ_ne_zero k)]
    rw [keep_one (⟨0, 8, ia, ⟨1, 1, T.take k, 1, 1⟩, ia, 1, 0⟩ : Ev) ⟨0, 8, ia, ⟨1, 1, T.take (k + 1), 1, 1⟩, ia, 1, 0⟩ rfl]
    rfl
theorem put_end (H : TkH ia ib T) : ptP ia T T.length = phA ia ib T .d1 := by
  have n1 := H.n1
  rw [ptP, if_neg (by omega), List.take_length]
  simp only [phA, eA, List.drop_zero, if_pos (show 0 < T.length by omega)]
  rfl
theorem gd_P (H : TkH ia ib T) (k : Nat) (h : k ≤ T.length) : ∀ e ∈ ptP ia T k, GdE e := by
  intro e he
  have n2 := H.n2
  unfold ptP at he
  split at he
  · simp at he
  · obtain rfl := List.mem_singleton.1 he
    refine ⟨?_, Int.le_refl _, by show (0 : Int) ≤ _; omega, by show _ ≤ (1 : Int); omega, by show (1 : Int) < _; omega, ?_⟩
    · show (T.take k).length ≤ 999
      rw [List.length_take]
      omega
    · intro y hy
      have := (H.tx y (List.mem_of_mem_take hy)).2
      omega
end Go.Proofs.YtdphdodjidbngaaGreat

namespace Go.Proofs.YtdphdodjidbngaaGreat
open Go.RowKit Go.Sort
set_option linter.unusedVariables false
set_option linter.unusedSimpArgs false

theorem pends_empty {w : World} {g : Nat} (h : w.heap[g]? = some (.map #[] 0)) : PEnds w g [] := by
  refine ⟨List.Pairwise.nil, fun _ h9 => by simp at h9, .map [], ?_, rfl, fun k => rfl, fun _ h9 => by simp at h9⟩
  obtain ⟨es, clock, h1, h2, h3, h4⟩ := nmap_new w
  have h5 : (w.alloc (.map #[] 0)).heap[w.heap.size]? = some (.map #[] 0) := heap_alloc_new _ _
  rw [h5] at h1
  cases h1
  exact ⟨#[], 0, h, h2, Nat.zero_le _, h4⟩
theorem ptNew_any (n inc b : Int) (hn : nodeB n = true) (h1 : 1 ≤ inc) (h2 : inc ≤ 72057594037927935) (h3 : 1 ≤ b) (h4 : b ≤ 16) (W : World) :
    Calls Tryz.prog 5 #[.int .i64 n, .int .i64 inc, .int .i64 b] W fun e w' => ∃ P M, e = .returned (.pointer (some ⟨P, 0, none⟩)) ∧ W.heap.size ≤ P ∧ W.heap.size ≤ M ∧ PortAt w' P M n inc b [] ∧ Below W.heap.size W w' := by
  refine (ptnew_any n inc b hn h1 h2 h3 h4 W).mono ?_
  rintro e w' ⟨gp, gm, rfl, g1, g2, -, g3, g4, g5⟩
  exact ⟨gp, gm, rfl, g1, g2, ⟨g3, pends_empty g4⟩, g5⟩
theorem exH : TkH 1 1 [[120]] := ⟨by decide, by decide, by decide, by decide, by decide, by decide, by decide, by decide⟩
theorem exPut : pputV 0 1 4 [] 8 [120] = ([⟨0, 8, 1, ⟨1, 1, [[120]], 1, 1⟩, 1, 1, 0⟩], [pbL (dtP 1 [[120]] 1 0)], 0) := by rfl
theorem exTake : ∃ L z, ptakV 8 1 [] (pbL (dtP 1 [[120]] 1 0)) = (L, (0, str [120]), [z], 0) := by
  have hs := step_d1 exH
  obtain ⟨-, h2⟩ := stB_tak hs
  refine ⟨phB 1 1 [[120]] (phN 1 [[120]] .d1), pbL (akP 1 1 1), h2.trans ?_⟩
  rcases hs.2.2.2.2.2.2 with ⟨-, h9⟩ | ⟨-, h8, -⟩
  · exact absurd h9 (by decide)
  · rw [h8]
    rfl
set_option maxRecDepth 20000 in
set_option maxHeartbeats 4000000 in
theorem works27_any (W : World) : Calls Tryz.prog 20 #[] W fun e w' => e = .returned (.bool true) ∧ Below W.heap.size W w' := by
  have HN1 := hid (fun w => ptNew_any 0 1 4 (by decide) (by decide) (by decide) (by decide) (by decide) w)
  have HN2 := hid (fun w => ptNew_any 8 1 4 (by decide) (by decide) (by decide) (by decide) (by decide) w)
  have HPU := hid (fun P M w (h : PortAt w P M 0 1 4 []) => pput_any 8 [120] w h (fun e he => by simp at he) (by unfold maxLen; simp))
  rw [exPut] at HPU
  have HTA := hid (fun P M w (h : PortAt w P M 8 1 4 []) => ptake_any (pbL (dtP 1 [[120]] 1 0)) w h (fun e he => by simp at he) (pbL_len (chk_dt exH 1 (by decide) (by decide) 0 (by decide))))
  obtain ⟨L9, z9, hz9⟩ := exTake
  rw [hz9] at HTA
  clear hz9
  generalize pbL (dtP 1 [[120]] 1 0) = s at *
  have hx : str [120] = ⟨#[120]⟩ := rfl
  rw [hx] at HPU HTA
  clear hx
  go_enter Tryz.func20, Tryz.ntmps20
  go_wp2_with fail
  refine (HN1.out _).mono ?_
  rintro e w1 ⟨P, M, rfl, hP, hM, hp1, hb1⟩
  have HP1 := hid (HPU.out P M w1 hp1)
  have HB1 := hid hb1
  have HM1 : Hid (W.heap.size ≤ M) := hid hM
  clear HN1 HPU hp1 hb1 hM hP
  go_wp2_with fail
  refine HP1.out.mono ?_
  rintro e w2 ⟨A, c, rfl, ho2, -, hu2, -⟩
  obtain ⟨b, off, rfl, hc⟩ := (sl_own ho2).at 0 (by rw [scells_length]; exact Nat.zero_lt_one)
  have HB2 : Hid (Below W.heap.size W w2) := hid (HB1.out.trans (hu2.below _ HM1.out HB1.out.size))
  have hc : w2.cell? ⟨b, off, none⟩ = some (.string (str s)) := hc
  have HC := hid hc
  clear HP1 HB1 HM1 ho2 hu2 hc
  simp only [List.length_cons, List.length_nil]
  go_upto_region 4 with (fail)
  have hk0 : Below w2.heap.size w2 w2.drew := below_drew (Below.refl _ _)
  have hS : ∀ U, Below w2.heap.size w2 U → U.cell? ⟨b, off, none⟩ = some (.string (str s)) := fun U hU => (hU.cell (lt_of_cell HC.out)).trans HC.out
  refine wp_region_held_drew (S := fun U => U.cell? ⟨b, off, none⟩ = some (.string (str s))) (by kernel_rfl) (hS _ hk0) (fun hHeld => ?_)
  generalize w2.drew = k0 at *
  refine wpAnyH_take (i := 1) (v := ?_) rfl (by kernel_rfl) (by kernel_rfl) (by kernel_rfl) (fun _ _ _ h => h) (Or.inl ⟨by rfl, ?_⟩) (by assumption) ?_
  rotate_left
  focus
    intro U hU
    try dsimp only at hU
    go_simp
    try (with_reducible rfl)
  simp only [List.getElem_toArray, List.getElem_cons_succ, List.getElem_cons_zero, Act.put, List.setIfInBounds_toArray, List.set_cons_zero, List.set_cons_succ]
  refine wpAnyH_take (i := 2) (v := ?_) rfl (by kernel_rfl) (by kernel_rfl) (by kernel_rfl) (fun _ _ _ h => h) (Or.inl ⟨by rfl, ?_⟩) (by assumption) ?_
  rotate_left
  focus
    intro U hU
    try dsimp only at hU
    go_simp
    try (with_reducible rfl)
  simp only [List.getElem_toArray, List.getElem_cons_succ, List.getElem_cons_zero, Act.put, List.setIfInBounds_toArray, List.set_cons_zero, List.set_cons_succ]
  refine wpAnyH_take (i := 3) (v := ?_) rfl (by kernel_rfl) (by kernel_rfl) (by kernel_rfl) (fun _ _ _ h => h) (Or.inl ⟨by rfl, ?_⟩) (by assumption) ?_
  rotate_left
  focus
    intro U hU
    try dsimp only at hU
    go_simp
    try (with_reducible rfl)
  simp only [List.getElem_toArray, List.getElem_cons_succ, List.getElem_cons_zero, Act.put, List.setIfInBounds_toArray, List.set_cons_zero, List.set_cons_succ]
  refine wpAnyH_ready (rs := [0]) (by kernel_rfl) (by simp) ?_
  refine AllReadyH.cons rfl (fun K hK => ?_) AllReadyH.nil
  simp only [List.getElem_toArray, List.getElem_cons_succ, List.getElem_cons_zero]
  go_simp
  refine (HN2.out k0).mono ?_
  rintro e k1 ⟨P2, M2, rfl, hP2, hM2, hp2, hb2⟩
  have HT := hid (HTA.out P2 M2 k1 hp2)
  have HM2 : Hid (w2.heap.size ≤ M2) := hid (Nat.le_trans hk0.size hM2)
  have hk1 := hk0.trans (hb2.mono hk0.size)
  clear HN2 hp2 hb2 hM2 hP2
  go_wp2_with fail
  refine hK.out _ _ ?_ (fun hHeld2 => ?_)
  focus
    exact hS _ hk1
  clear hHeld
  have hHeld := hHeld2
  clear hHeld2 hK K
  try simp only [List.getElem_toArray, List.getElem_cons_succ, List.getElem_cons_zero, Act.put, List.setIfInBounds_toArray, List.set_cons_zero, List.set_cons_succ]
  refine wpAnyH_ready (rs := [4]) (by kernel_rfl) (by simp) ?_
  refine AllReadyH.cons rfl (fun K hK => ?_) AllReadyH.nil
  simp only [List.getElem_toArray, List.getElem_cons_succ, List.getElem_cons_zero]
  go_simp
  refine HT.out.mono ?_
  rintro e k2 ⟨A3, c3, rfl, ho3, -, hu3, -⟩
  have hk2 := hk1.trans (hu3.below _ HM2.out hk1.size)
  clear HT ho3 hu3 HM2
  go_wp2_with fail
  refine hK.out _ _ ?_ (fun hHeld2 => ?_)
  focus
    exact hS _ hk2
  clear hHeld
  have hHeld := hHeld2
  clear hHeld2 hK K
  try simp only [List.getElem_toArray, List.getElem_cons_succ, List.getElem_cons_zero, Act.put, List.setIfInBounds_toArray, List.set_cons_zero, List.set_cons_succ]
  refine wpAnyH_take (i := 5) (v := ?_) rfl (by kernel_rfl) (by kernel_rfl) (by kernel_rfl) (fun _ _ _ h => h) (Or.inl ⟨by rfl, ?_⟩) (by assumption) ?_
  rotate_left
  focus
    intro U hU
    try dsimp only at hU
    go_simp
    try (with_reducible rfl)
  simp only [List.getElem_toArray, List.getElem_cons_succ, List.getElem_cons_zero, Act.put, List.setIfInBounds_toArray, List.set_cons_zero, List.set_cons_succ]
  refine wpAnyH_take (i := 6) (v := ?_) rfl (by kernel_rfl) (by kernel_rfl) (by kernel_rfl) (fun _ _ _ h => h) (Or.inl ⟨by rfl, ?_⟩) (by assumption) ?_
  rotate_left
  focus
    intro U hU
    try dsimp only at hU
    go_simp
    try (with_reducible rfl)
  simp only [List.getElem_toArray, List.getElem_cons_succ, List.getElem_cons_zero, Act.put, List.setIfInBounds_toArray, List.set_cons_zero, List.set_cons_succ]
  refine wpAnyH_take (i := 7) (v := ?_) rfl (by kernel_rfl) (by kernel_rfl) (by kernel_rfl) (fun _ _ _ h => h) (Or.inl ⟨by rfl, ?_⟩) (by assumption) ?_
  rotate_left
  focus
    intro U hU
    try dsimp only at hU
    go_simp
    try (with_reducible rfl)
  simp only [List.getElem_toArray, List.getElem_cons_succ, List.getElem_cons_zero, Act.put, List.setIfInBounds_toArray, List.set_cons_zero, List.set_cons_succ]
  refine wpAnyH_take (i := 8) (v := ?_) rfl (by kernel_rfl) (by kernel_rfl) (by kernel_rfl) (fun _ _ _ h => h) (Or.inl ⟨by rfl, ?_⟩) (by assumption) ?_
  rotate_left
  focus
    intro U hU
    try dsimp only at hU
    go_simp
    try (with_reducible rfl)
  simp only [List.getElem_toArray, List.getElem_cons_succ, List.getElem_cons_zero, Act.put, List.setIfInBounds_toArray, List.set_cons_zero, List.set_cons_succ]
  refine wpAnyH_take (i := 9) (v := ?_) rfl (by kernel_rfl) (by kernel_rfl) (by kernel_rfl) (fun _ _ _ h => h) (Or.inl ⟨by rfl, ?_⟩) (by assumption) ?_
  rotate_left
  focus
    intro U hU
    try dsimp only at hU
    go_simp
    try (with_reducible rfl)
  simp only [List.getElem_toArray, List.getElem_cons_succ, List.getElem_cons_zero, Act.put, List.setIfInBounds_toArray, List.set_cons_zero, List.set_cons_succ]
  refine wpAnyH_take (i := 10) (v := ?_) rfl (by kernel_rfl) (by kernel_rfl) (by kernel_rfl) (fun _ _ _ h => h) (Or.inl ⟨by rfl, ?_⟩) (by assumption) ?_
  rotate_left
  focus
    intro U hU
    try dsimp only at hU
    go_simp
    try (with_reducible rfl)
  simp only [List.getElem_toArray, List.getElem_cons_succ, List.getElem_cons_zero, Act.put, List.setIfInBounds_toArray, List.set_cons_zero, List.set_cons_succ]
  refine wpAnyH_take (i := 11) (v := ?_) rfl (by kernel_rfl) (by kernel_rfl) (by kernel_rfl) (fun _ _ _ h => h) (Or.inl ⟨by rfl, ?_⟩) (by assumption) ?_
  rotate_left
  focus
    intro U hU
    try dsimp only at hU
    go_simp
    try (with_reducible rfl)
  simp only [List.getElem_toArray, List.getElem_cons_succ, List.getElem_cons_zero, Act.put, List.setIfInBounds_toArray, List.set_cons_zero, List.set_cons_succ]
  refine wpAnyH_take (i := 12) (v := ?_) rfl (by kernel_rfl) (by kernel_rfl) (by kernel_rfl) (fun _ _ _ h => h) (Or.inl ⟨by rfl, ?_⟩) (by assumption) ?_
  rotate_left
  focus
    intro U hU
    try dsimp only at hU
    go_simp
    try (with_reducible rfl)
  simp only [List.getElem_toArray, List.getElem_cons_succ, List.getElem_cons_zero, Act.put, List.setIfInBounds_toArray, List.set_cons_zero, List.set_cons_succ]
  refine wpAnyH_take (i := 13) (v := ?_) rfl (by kernel_rfl) (by kernel_rfl) (by kernel_rfl) (fun _ _ _ h => h) (Or.inl ⟨by rfl, ?_⟩) (by assumption) ?_
  rotate_left
  focus
    intro U hU
    try dsimp only at hU
    go_simp
    try (with_reducible rfl)
  simp only [List.getElem_toArray, List.getElem_cons_succ, List.getElem_cons_zero, Act.put, List.setIfInBounds_toArray, List.set_cons_zero, List.set_cons_succ]
  refine wpAnyH_done (by kernel_rfl) ?_ _
  clear hHeld hS
  have HB9 := hid (HB2.out.trans (hk2.mono HB2.out.size))
  clear hk2 HB2 HC
  try simp only [List.length_cons, List.length_nil]
  go_wp2
  go_ret
  exact ⟨rfl, HB9.out⟩
end Go.Proofs.YtdphdodjidbngaaGreat

namespace Go.Proofs.YtdphdodjidbngaaGreat
open Go.RowKit Go.Sort
set_option linter.unusedVariables false
set_option linter.unusedSimpArgs false

theorem PortAt.but {w w' : World} {S : Nat → Prop} {P M : Nat} {nd inc bd : Int} {L : List Ev} (h : PortAt w P M nd inc bd L) (hk : ∀ g, g < w.heap.size → ¬ S g → w'.heap[g]? = w.heap[g]?) (hP : ¬ S P) (hM : ¬ S M) (hf : ∀ gg, S gg → PFar w M L gg) : PortAt w' P M nd inc bd L := by
  obtain ⟨es, clock, hm⟩ := h.ends.block
  have hMM : w'.heap[M]? = w.heap[M]? := hk M (lt_of_block hm) hM
  refine ⟨(hk P (lt_of_block h.blk) hP).trans h.blk, ?_⟩
  obtain ⟨g1, g2, D, g3, g4, g5, g6⟩ := h.ends
  refine ⟨g1, g2, D, nmap_blk g3 hMM, g4, g5, fun e he => ?_⟩
  obtain ⟨A, c, h7, h8⟩ := g6 e he
  refine ⟨A, c, h7, ?_⟩
  obtain ⟨s1, s2, s3, s4⟩ := h8
  refine ⟨s1, s2, s3, fun h0 => ?_⟩
  obtain ⟨b, off, hA, hc⟩ := s4 h0
  refine ⟨b, off, hA, fun i hi => ?_⟩
  have h9 := hc i hi
  rw [List.getElem?_eq_getElem hi] at h9
  have hb : ¬ S b := by
    intro e1
    obtain ⟨D', f1, f2⟩ := hf b e1
    obtain rfl := nmap_uniq g3 f1
    obtain ⟨A', c', h7', h8'⟩ := f2 e he
    have h10 := (h7 (.held (.bool true))).symm.trans (h7' _)
    have hAA : A = A' := by
      simp only [DataW.held.injEq, Value.agg.injEq, ec] at h10
      simp at h10
      exact h10.1
    rw [scells_length] at h0
    exact h8' h0 b off (hAA ▸ hA) rfl
  rw [World.cell?_of_block (w := w) (a := ⟨b, off + i, none⟩) (hk b (lt_of_cell h9) hb), List.getElem?_eq_getElem hi]
  exact h9
theorem Mid.blk {w : World} {base e size n : Nat} {v : Value} {xs : List Value} (h : Mid w base e size v n xs) (g : Nat) (hg : v.ownBlock = some g) : base ≤ g ∧ g < w.heap.size ∧ ∃ cur : Array Value, w.heap[g]? = some (.cells cur e (0, 0)) := by
  rcases h.2 with ⟨rfl, _⟩ | ⟨b, off, cap, cur, rfl, hb, hh, _⟩
  · simp [Value.ownBlock] at hg
  · have : b = g := by simpa [Value.ownBlock] using hg
    subst this
    exact ⟨hb, lt_of_block hh, cur, hh⟩
theorem Mid.far {w : World} {base n P M : Nat} {v : Value} {xs : List Value} {nd inc bd : Int} {L : List Ev} (h : Mid w base 9 1 v n xs) (hp : PortAt w P M nd inc bd L) : v.ownBlock ≠ some P ∧ v.ownBlock ≠ some M := by
  refine ⟨fun e => ?_, fun e => ?_⟩
  · obtain ⟨_, _, cur, h9⟩ := h.blk P e
    rw [hp.blk] at h9
    injection h9 with h9
    injection h9 with _ ht
    exact absurd ht (by decide)
  · obtain ⟨es, clock, hm⟩ := hp.ends.block
    obtain ⟨_, _, cur, h9⟩ := h.blk M e
    rw [hm] at h9
    cases h9
theorem Mid.onlyM {w w' : World} {base e size n M : Nat} {v : Value} {xs : List Value} {es : Array MapEntry} {clock : Nat} (h : Mid w base e size v n xs) (hm : w.heap[M]? = some (.map es clock)) (ho : Only M w w') : Mid w' base e size v n xs :=
  h.block fun g o _ hg ⟨cs, hc⟩ _ => (ho.keep g (fun e1 => by subst e1; rw [hm] at hg; cases hg; cases hc) (lt_of_block hg)).trans hg

structure TS (W w : World) (Pa Ma Pb Mb : Nat) (ia ib : Int) (La Lb : List Ev) (v8 : Value) (way : List (List UInt8)) (v9 : Value) (got : List (List UInt8)) : Prop where
  a : PortAt w Pa Ma 0 ia 16 La
  b : PortAt w Pb Mb 8 ib 16 Lb
  ne : Ma ≠ Mb
  ma : W.heap.size ≤ Ma
  mb : W.heap.size ≤ Mb
  way : Mid w W.heap.size 9 1 v8 way.length (scells way)
  got : Mid w W.heap.size 9 1 v9 got.length (scells got)
  fa : ∀ gg, v8.ownBlock = some gg ∨ v9.ownBlock = some gg → PFar w Ma La gg
  fb : ∀ gg, v8.ownBlock = some gg ∨ v9.ownBlock = some gg → PFar w Mb Lb gg
  ap : ∀ g, v8.ownBlock = some g → v9.ownBlock ≠ some g
  u : Below W.heap.size W w
variable {W w w' : World} {Pa Ma Pb Mb : Nat} {ia ib : Int} {La Lb La' Lb' : List Ev} {v8 v9 v' : Value} {way got : List (List UInt8)}
theorem TS.lt (h : TS W w Pa Ma Pb Mb ia ib La Lb v8 way v9 got) (gg : Nat) (hg : v8.ownBlock = some gg ∨ v9.ownBlock = some gg) : gg < w.heap.size := by
  rcases hg with hg | hg
  · exact (h.way.blk gg hg).2.1
  · exact (h.got.blk gg hg).2.1
theorem TS.keep (h : TS W w Pa Ma Pb Mb ia ib La Lb v8 way v9 got) (hb : Below w.heap.size w w') : TS W w' Pa Ma Pb Mb ia ib La Lb v8 way v9 got :=
  ⟨h.a.below hb, h.b.below hb, h.ne, h.ma, h.mb, h.way.keep hb, h.got.keep hb, fun gg hg => (h.fa gg hg).blk (hb.block Ma h.a.ends.lt), fun gg hg => (h.fb gg hg).blk (hb.block Mb h.b.ends.lt), h.ap, h.u.trans (hb.mono h.u.size)⟩
theorem TS.callA (h : TS W w Pa Ma Pb Mb ia ib La Lb v8 way v9 got) (hp : PortAt w' Pa Ma 0 ia 16 La') (ho : Only Ma w w') (hf : ∀ gg, gg < w.heap.size → PFar w Ma La gg → PFar w' Ma La' gg) : TS W w' Pa Ma Pb Mb ia ib La' Lb v8 way v9 got := by
  obtain ⟨es, clock, hm⟩ := h.a.ends.block
  exact ⟨hp, h.b.other ho hm h.ne.symm, h.ne, h.ma, h.mb, h.way.onlyM hm ho, h.got.onlyM hm ho, fun gg hg => hf gg (h.lt gg hg) (h.fa gg hg), fun gg hg => (h.fb gg hg).blk (ho.keep Mb h.ne.symm h.b.ends.lt), h.ap, h.u.trans (ho.below _ h.ma h.u.size)⟩
theorem TS.callB (h : TS W w Pa Ma Pb Mb ia ib La Lb v8 way v9 got) (hp : PortAt w' Pb Mb 8 ib 16 Lb') (ho : Only Mb w w') (hf : ∀ gg, gg < w.heap.size → PFar w Mb Lb gg → PFar w' Mb Lb' gg) : TS W w' Pa Ma Pb Mb ia ib La Lb' v8 way v9 got := by
  obtain ⟨es, clock, hm⟩ := h.b.ends.block
  exact ⟨h.a.other ho hm h.ne, hp, h.ne, h.ma, h.mb, h.way.onlyM hm ho, h.got.onlyM hm ho, fun gg hg => (h.fa gg hg).blk (ho.keep Ma h.ne h.a.ends.lt), fun gg hg => hf gg (h.lt gg hg) (h.fb gg hg), h.ap, h.u.trans (ho.below _ h.mb h.u.size)⟩
theorem TS.wayApp (h : TS W w Pa Ma Pb Mb ia ib La Lb v8 way v9 got) {x : List (List UInt8)} (hm : Mid w' W.heap.size 9 1 v' (way ++ x).length (scells (way ++ x))) (hu : Below W.heap.size w w') (hk : ∀ g, g < w.heap.size → v8.ownBlock ≠ some g → w'.heap[g]? = w.heap[g]?) (hb : v'.ownBlock = v8.ownBlock ∨ ∀ g, v'.ownBlock = some g → w.heap.size ≤ g) : TS W w' Pa Ma Pb Mb ia ib La Lb v' (way ++ x) v9 got := by
  have hA : w'.heap[Ma]? = w.heap[Ma]? := hk Ma h.a.ends.lt (h.way.far h.a).2
  have hB : w'.heap[Mb]? = w.heap[Mb]? := hk Mb h.b.ends.lt (h.way.far h.b).2
  refine ⟨h.a.but (S := fun g => v8.ownBlock = some g) hk (h.way.far h.a).1 (h.way.far h.a).2 fun gg hg => h.fa gg (.inl hg), h.b.but (S := fun g => v8.ownBlock = some g) hk (h.way.far h.b).1 (h.way.far h.b).2 fun gg hg => h.fb gg (.inl hg), h.ne, h.ma, h.mb, hm, h.got.block fun g o _ hg _ h9 => (hk g (lt_of_block hg) fun e => h.ap g e h9).trans hg, fun gg hg => ?_, fun gg hg => ?_, fun g hg h9 => ?_, h.u.trans hu⟩
  · rcases hg with hg | hg
    · rcases hb with hb | hb
      · exact (h.fa gg (.inl (hb ▸ hg))).blk hA
      · exact (h.a.ends.far (hb gg hg)).blk hA
    · exact (h.fa gg (.inr hg)).blk hA
  · rcases hg with hg | hg
    · rcases hb with hb | hb
      · exact (h.fb gg (.inl (hb ▸ hg))).blk hB
      · exact (h.b.ends.far (hb gg hg)).blk hB
    · exact (h.fb gg (.inr hg)).blk hB
  · rcases hb with hb | hb
    · exact h.ap g (hb ▸ hg) h9
    · have h1 := hb g hg
      have h2 := (h.got.blk g h9).2.1
      omega
theorem TS.gotApp (h : TS W w Pa Ma Pb Mb ia ib La Lb v8 way v9 got) {x : List (List UInt8)} (hm : Mid w' W.heap.size 9 1 v' (got ++ x).length (scells (got ++ x))) (hu : Below W.heap.size w w') (hk : ∀ g, g < w.heap.size → v9.ownBlock ≠ some g → w'.heap[g]? = w.heap[g]?) (hb : v'.ownBlock = v9.ownBlock ∨ ∀ g, v'.ownBlock = some g → w.heap.size ≤ g) : TS W w' Pa Ma Pb Mb ia ib La Lb v8 way v' (got ++ x) := by
  have hA : w'.heap[Ma]? = w.heap[Ma]? := hk Ma h.a.ends.lt (h.got.far h.a).2
  have hB : w'.heap[Mb]? = w.heap[Mb]? := hk Mb h.b.ends.lt (h.got.far h.b).2
  refine ⟨h.a.but (S := fun g => v9.ownBlock = some g) hk (h.got.far h.a).1 (h.got.far h.a).2 fun gg hg => h.fa gg (.inr hg), h.b.but (S := fun g => v9.ownBlock = some g) hk (h.got.far h.b).1 (h.got.far h.b).2 fun gg hg => h.fb gg (.inr hg), h.ne, h.ma, h.mb, h.way.block fun g o _ hg _ h9 => (hk g (lt_of_block hg) fun e => h.ap g h9 e).trans hg, hm, fun gg hg => ?_, fun gg hg => ?_, fun g hg h9 => ?_, h.u.trans hu⟩
  · rcases hg with hg | hg
    · exact (h.fa gg (.inl hg)).blk hA
    · rcases hb with hb | hb
      · exact (h.fa gg (.inr (hb ▸ hg))).blk hA
      · exact (h.a.ends.far (hb gg hg)).blk hA
  · rcases hg with hg | hg
    · exact (h.fb gg (.inl hg)).blk hB
    · rcases hb with hb | hb
      · exact (h.fb gg (.inr (hb ▸ hg))).blk hB
      · exact (h.b.ends.far (hb gg hg)).blk hB
  · rcases hb with hb | hb
    · exact h.ap g hg (hb ▸ h9)
    · have h1 := hb g h9
      have h2 := (h.way.blk g hg).2.1
      omega
theorem TS.pop {b off c : Nat} {s : List UInt8} (h : TS W w Pa Ma Pb Mb ia ib La Lb (.slice (some ⟨b, off, none⟩) 1 c) [s] v9 got) : TS W w Pa Ma Pb Mb ia ib La Lb (.slice (dropA (some ⟨b, off, none⟩) c 1 1) 0 (c - 1)) [] v9 got := by
  have hb : (Value.slice (dropA (some ⟨b, off, none⟩) c 1 1) 0 (c - 1)).ownBlock = (Value.slice (some ⟨b, off, none⟩) 1 c).ownBlock := dropA_block b off c 1 1 0 1 (c - 1)
  exact ⟨h.a, h.b, h.ne, h.ma, h.mb, h.way.drop 1 (Nat.le_refl _), h.got, fun gg hg => h.fa gg (hb ▸ hg), fun gg hg => h.fb gg (hb ▸ hg), fun g hg => h.ap g (hb ▸ hg), h.u⟩
end Go.Proofs.YtdphdodjidbngaaGreat
