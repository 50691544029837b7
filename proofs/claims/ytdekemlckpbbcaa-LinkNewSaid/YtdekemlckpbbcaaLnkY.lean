/- LinkNew: maths. The phases of an end that was made anew. -/
import Derived.Test.YtdekemlckpbbcaaLnkR
namespace Go.Proofs.Ytdekemlckpbbcaa
open Go.RowKit Go.Sort
set_option linter.unusedVariables false
set_option linter.unusedSimpArgs false

/-- The end made anew with incarnation I, s texts of the other one come. -/
def aN (I : Int) (s : Nat) : Ev := ⟨0, 8, I, ⟨1, 1, [], 1, 0⟩, I, 1, (s : Int)⟩
/-- The other end, ahead of what it learns, and behind it. -/
def bO (q c : Int) (L : List (List UInt8)) (w f : Int) : Ev := ⟨8, 0, 1, ⟨1, q, L, w, f⟩, 1, 1, c⟩
def bN (I : Int) (s : Nat) (L : List (List UInt8)) (w f : Int) : Ev := ⟨8, 0, 1, ⟨I, (s : Int) + 1, L, w, f⟩, 1, I, 0⟩
inductive Ph where
  | old (sent : Bool) (w f : Int)
  | hel (w f : Int)
  | dat (s : Nat)
  | ack (s : Nat)
  | fin
def txt (L : List (List UInt8)) (s : Nat) : List UInt8 := L.getD s []
def phA (I : Int) (L : List (List UInt8)) : Ph → Ev
  | .old _ _ _ => aN I 0
  | .hel _ _ => aN I 0
  | .dat s => aN I s
  | .ack s => aN I (s + 1)
  | .fin => aN I L.length
def phB (I q c : Int) (L : List (List UInt8)) : Ph → Ev
  | .old _ w f => bO q c L w f
  | .hel w f => bO q c L w f
  | .dat s => bN I s (L.drop s) 1 1
  | .ack s => bN I s (L.drop s) 1 1
  | .fin => bN I L.length [] 1 0
def phW (I q : Int) (L : List (List UInt8)) : Ph → List Pk
  | .old sent _ _ => if sent then [⟨1, 8, 0, 1, 1, q, txt L 0⟩] else []
  | .hel _ _ => [⟨3, 0, 8, I, 1, 0, []⟩]
  | .dat s => [⟨1, 8, 0, 1, I, (s : Int) + 1, txt L s⟩]
  | .ack s => [⟨2, 0, 8, I, 1, (s : Int) + 1, []⟩]
  | .fin => []
def phG (L : List (List UInt8)) : Ph → List (List UInt8)
  | .old _ _ _ => []
  | .hel _ _ => []
  | .dat s => L.take s
  | .ack s => L.take (s + 1)
  | .fin => L
def phOk (L : List (List UInt8)) : Ph → Prop
  | .old _ w f => pok w f = true ∧ 1 ≤ f
  | .hel _ _ => True
  | .dat s => s < L.length
  | .ack s => s < L.length
  | .fin => True
/-- How many packets come until none is under way. -/
def phN (L : List (List UInt8)) : Ph → Nat
  | .old sent _ _ => if sent then 2 * L.length + 2 else 0
  | .hel _ _ => 2 * L.length + 1
  | .dat s => 2 * (L.length - s)
  | .ack s => 2 * (L.length - s) - 1
  | .fin => 0
/-- Within m rounds all has come. -/
def phM (m : Nat) : Ph → Prop
  | .old sent _ f => (sent = true ∧ 1 ≤ m) ∨ f + 1 ≤ m
  | .hel _ _ => 1 ≤ m
  | .dat _ => 1 ≤ m
  | .ack _ => 1 ≤ m
  | .fin => True
def phS (L : List (List UInt8)) : Ph → Ph
  | .old true w f => .hel w f
  | .old false w f => .old false w f
  | .hel _ _ => .dat 0
  | .dat s => .ack s
  | .ack s => if s + 1 < L.length then .dat (s + 1) else .fin
  | .fin => .fin
/-- What waits: texts that may be sent. -/
structure LOk (L : List (List UInt8)) : Prop where
  pos : 0 < L.length
  len : L.length ≤ 1000
  txt : ∀ t ∈ L, 1 ≤ t.length ∧ t.length ≤ 32
theorem txt_mem {L : List (List UInt8)} {s : Nat} (h : s < L.length) : txt L s ∈ L := by
  unfold txt
  rw [List.getD_eq_getElem?_getD, List.getElem?_eq_getElem h]
  exact List.getElem_mem h
theorem drop_txt {L : List (List UInt8)} {s : Nat} (h : s < L.length) : L.drop s = txt L s :: L.drop (s + 1) := by
  unfold txt
  rw [List.drop_eq_getElem_cons h, List.getD_eq_getElem?_getD, List.getElem?_eq_getElem h]
  rfl
theorem take_txt {L : List (List UInt8)} {s : Nat} (h : s < L.length) : L.take (s + 1) = L.take s ++ [txt L s] := by
  unfold txt
  rw [List.take_add_one, List.getD_eq_getElem?_getD, List.getElem?_eq_getElem h]
  rfl
theorem aN_data_old {I : Int} (hI : 2 ≤ I) (hI9 : I ≤ 1000) {q : Int} (hq : 1 ≤ q) (hq9 : q ≤ 1000000) {y : List UInt8} (hy : 1 ≤ y.length ∧ y.length ≤ 32) :
    takV (aN I 0) ⟨1, 8, 0, 1, 1, q, y⟩ = ((aN I 0, [⟨3, 0, 8, I, 1, 0, []⟩]), ⟨#[]⟩, false) := by
  have hk : chkP ⟨1, 8, 0, 1, 1, q, y⟩ = true := by
    unfold chkP okP
    simp [inS, inT, hpP, hpS, hpB]
    repeat' apply And.intro
    all_goals first | omega | exact decide_eq_true (by omega)
  have hb : ¬ badT (aN I 0) ⟨1, 8, 0, 1, 1, q, y⟩ := by
    unfold badT
    rw [hk]
    simp [aN]
  have hc : clsD (aN I 0) ⟨1, 8, 0, 1, 1, q, y⟩ = 3 := by
    unfold clsD
    simp only [aN, gC, gP, gL, Int.lt_irrefl, if_false, ite_self]
    rw [if_pos (by omega)]
  unfold takV
  rw [if_neg hb, if_pos rfl]
  unfold datE
  have hl : (lrnE (aN I 0) 1).2 = [] ∧ (lrnV (aN I 0).o 1).1 = (aN I 0).o := by simp [lrnE, lrnV, aN, dataV]
  have he : dend (aN I 0) ⟨1, 8, 0, 1, 1, q, y⟩ = aN I 0 := by
    have h2 := hc
    unfold clsD at h2
    unfold dend
    rw [hl.2]
    simp only [gN, h2]
    simp [aN, gP, gL]
  rw [he, hl.1]
  unfold ansD
  rw [hc]
  simp [aN]
theorem aN_data {I : Int} (hI : 2 ≤ I) (hI9 : I ≤ 1000) {s : Nat} (hs : s ≤ 1000000) {y : List UInt8} (hy : 1 ≤ y.length ∧ y.length ≤ 32) :
    takV (aN I s) ⟨1, 8, 0, 1, I, (s : Int) + 1, y⟩ = ((aN I (s + 1), [⟨2, 0, 8, I, 1, (s : Int) + 1, []⟩]), str y, true) := by
  have hk : chkP ⟨1, 8, 0, 1, I, (s : Int) + 1, y⟩ = true := by
    unfold chkP okP
    simp [inS, inT, hpP, hpS, hpB]
    repeat' apply And.intro
    all_goals first | omega | exact decide_eq_true (by omega)
  have hb : ¬ badT (aN I s) ⟨1, 8, 0, 1, I, (s : Int) + 1, y⟩ := by
    unfold badT
    rw [hk]
    simp [aN]
  have hc : clsD (aN I s) ⟨1, 8, 0, 1, I, (s : Int) + 1, y⟩ = 1 := by
    unfold clsD
    simp [aN, gC, gP, gL]
  unfold takV
  rw [if_neg hb, if_pos rfl]
  unfold datE
  have hl : (lrnE (aN I s) 1).2 = [] ∧ (lrnV (aN I s).o 1).1 = (aN I s).o := by simp [lrnE, lrnV, aN, dataV]
  have he : dend (aN I s) ⟨1, 8, 0, 1, I, (s : Int) + 1, y⟩ = aN I (s + 1) := by
    have h2 := hc
    unfold clsD at h2
    unfold dend
    rw [hl.2]
    simp only [gN, h2]
    simp [aN, gP]
  rw [he, hl.1]
  unfold ansD
  rw [hc]
  simp [aN]
theorem dataV_y (e : Ev) (h : e.o.l ≠ []) : dataV e true = [⟨1, e.f, e.t, e.i, e.o.p, e.o.q, txt e.o.l 0⟩] := by
  obtain ⟨f, t, i, ⟨p, q, l, w, fl⟩, m, gp, gl⟩ := e
  cases l with
  | nil => exact absurd rfl h
  | cons y r => rfl
theorem bO_hello {I : Int} (hI : 2 ≤ I) (hI9 : I ≤ 1000) (q c : Int) {L : List (List UInt8)} (hL : LOk L) (w f : Int) :
    takV (bO q c L w f) ⟨3, 0, 8, I, 1, 0, []⟩ = ((bN I 0 L 1 1, [⟨1, 8, 0, 1, I, 1, txt L 0⟩]), ⟨#[]⟩, false) := by
  have hk : chkP ⟨3, 0, 8, I, 1, 0, []⟩ = true := by
    unfold chkP okP
    simp [inS, inT, hpP, hpS, hpB]
    repeat' apply And.intro
    all_goals first | omega | exact decide_eq_true (by omega)
  have hb : ¬ badT (bO q c L w f) ⟨3, 0, 8, I, 1, 0, []⟩ := by
    unfold badT
    rw [hk]
    simp [bO]
    omega
  unfold takV
  rw [if_neg hb, if_neg (show ¬ (3 : Int) = 1 by decide), if_neg (show ¬ (3 : Int) = 2 by decide), if_pos (show (3 : Int) = 3 from rfl), if_pos (show (1 : Int) ≤ (bO q c L w f).i from Int.le_refl 1)]
  have h0 := hL.pos
  have hd := drop_txt h0
  rw [List.drop_zero] at hd
  have hLn : L ≠ [] := fun h => by rw [h] at h0; simp at h0
  have hv : lrnV (bO q c L w f).o I = (⟨I, 1, L, 1, 1⟩, true) := by
    simp [lrnV, begV, bO, hLn, show ¬ I ≤ 1 by omega]
  have hg : gP 1 I = I ∧ gL 1 c I = 0 := by
    unfold gP gL
    exact ⟨if_pos (by omega), if_pos (by omega)⟩
  have e : lrnE (bO q c L w f) I = (bN I 0 L 1 1, [⟨1, 8, 0, 1, I, 1, txt L 0⟩]) := by
    unfold lrnE
    rw [hv]
    rw [dataV_y _ hLn]
    simp [bO, hg.1, hg.2, bN]
  show (lrnE (bO q c L w f) I, _, false) = _
  rw [e]
theorem bN_ack {I : Int} (hI : 2 ≤ I) (hI9 : I ≤ 1000) {s : Nat} (hs : s ≤ 1000000) (y : List UInt8) (R : List (List UInt8)) :
    takV (bN I s (y :: R) 1 1) ⟨2, 0, 8, I, 1, (s : Int) + 1, []⟩ = ((bN I (s + 1) R 1 (if R = [] then 0 else 1), match R with | [] => [] | z :: _ => [⟨1, 8, 0, 1, I, (s : Int) + 2, z⟩]), ⟨#[]⟩, false) := by
  have hk : chkP ⟨2, 0, 8, I, 1, (s : Int) + 1, []⟩ = true := by
    unfold chkP okP
    simp [inS, inT, hpP, hpS, hpB]
    repeat' apply And.intro
    all_goals first | omega | exact decide_eq_true (by omega)
  have hb : ¬ badT (bN I s (y :: R) 1 1) ⟨2, 0, 8, I, 1, (s : Int) + 1, []⟩ := by
    unfold badT
    rw [hk]
    simp [bN]
  unfold takV
  rw [if_neg hb, if_neg (show ¬ (2 : Int) = 1 by decide), if_pos (show (2 : Int) = 2 from rfl), if_pos (show (1 : Int) = (bN I s (y :: R) 1 1).i from rfl)]
  have hl : lrnE (bN I s (y :: R) 1 1) I = (bN I s (y :: R) 1 1, []) := by simp [lrnE, lrnV, bN, dataV, gP, gL]
  unfold ackE
  rw [hl]
  unfold ackV
  rw [if_neg (by simp [bN])]
  unfold begV
  cases R with
  | nil => simp [bN, setO, dataV]
  | cons z R =>
    simp [bN, setO, dataV]
    omega
/-- A packet of the phase comes at the end to which it goes. -/
theorem ph_come {I q c : Int} {L : List (List UInt8)} (hI : 2 ≤ I) (hI9 : I ≤ 1000) (hq : 1 ≤ q) (hq9 : q ≤ 1000000) (hL : LOk L) {ph : Ph} (hph : phOk L ph) {p : Pk} {r : List Pk} (hp : phW I q L ph = p :: r) :
    r = [] ∧ phOk L (phS L ph) ∧ phN L (phS L ph) + 1 = phN L ph ∧ (∀ m, phM m ph → phM m (phS L ph)) ∧ (-9223372036854775808 ≤ p.s ∧ p.s ≤ 9223372036854775807) ∧
    ((p.t = 0 ∧ phB I q c L (phS L ph) = phB I q c L ph ∧ ∃ tx got, takV (phA I L ph) p = ((phA I L (phS L ph), phW I q L (phS L ph)), tx, got) ∧ (got = false → phG L (phS L ph) = phG L ph) ∧ (got = true → ∃ y, tx = str y ∧ phG L (phS L ph) = phG L ph ++ [y])) ∨
     (p.t = 8 ∧ phA I L (phS L ph) = phA I L ph ∧ phG L (phS L ph) = phG L ph ∧ ∃ tx, takV (phB I q c L ph) p = ((phB I q c L (phS L ph), phW I q L (phS L ph)), tx, false))) := by
  have hlen := hL.len
  have hpos := hL.pos
  cases ph with
  | old sent w f =>
    cases sent with
    | false => cases hp
    | true =>
      obtain ⟨rfl, rfl⟩ : p = ⟨1, 8, 0, 1, 1, q, txt L 0⟩ ∧ r = [] := by
        have := List.cons.inj hp
        exact ⟨this.1.symm, this.2.symm⟩
      refine ⟨rfl, trivial, rfl, fun m h => ?_, by simp only; omega, .inl ⟨rfl, rfl, ⟨#[]⟩, false, aN_data_old hI hI9 hq hq9 (hL.txt _ (txt_mem hpos)), fun _ => rfl, fun h => by cases h⟩⟩
      simp only [phM, phS] at h ⊢
      have := hph.2
      rcases h with h | h <;> omega
  | hel w f =>
    obtain ⟨rfl, rfl⟩ : p = ⟨3, 0, 8, I, 1, 0, []⟩ ∧ r = [] := by
      have := List.cons.inj hp
      exact ⟨this.1.symm, this.2.symm⟩
    refine ⟨rfl, hpos, by simp only [phN, phS]; omega, fun m h => h, by simp only; omega, .inr ⟨rfl, rfl, by simp [phG, phS], ⟨#[]⟩, ?_⟩⟩
    have := bO_hello hI hI9 q c hL w f
    simp only [phB, phS, phW, List.drop_zero]
    simpa using this
  | dat s =>
    obtain ⟨rfl, rfl⟩ : p = ⟨1, 8, 0, 1, I, (s : Int) + 1, txt L s⟩ ∧ r = [] := by
      have := List.cons.inj hp
      exact ⟨this.1.symm, this.2.symm⟩
    have hs : s < L.length := hph
    refine ⟨rfl, hs, by simp only [phN, phS]; omega, fun m h => h, by simp only; omega, .inl ⟨rfl, rfl, str (txt L s), true, aN_data hI hI9 (by omega) (hL.txt _ (txt_mem hs)), (fun h => by cases h), fun _ => ⟨txt L s, rfl, ?_⟩⟩⟩
    exact take_txt hs
  | ack s =>
    obtain ⟨rfl, rfl⟩ : p = ⟨2, 0, 8, I, 1, (s : Int) + 1, []⟩ ∧ r = [] := by
      have := List.cons.inj hp
      exact ⟨this.1.symm, this.2.symm⟩
    have hs : s < L.length := hph
    have hd := drop_txt hs
    have ha := bN_ack hI hI9 (s := s) (by omega) (txt L s) (L.drop (s + 1))
    by_cases h1 : s + 1 < L.length
    · have hd1 := drop_txt h1
      have hne : L.drop (s + 1) ≠ [] := by rw [hd1]; simp
      have hS : phS L (.ack s) = .dat (s + 1) := if_pos h1
      rw [hS]
      refine ⟨rfl, h1, by simp only [phN]; omega, fun m h => h, by simp only; omega, .inr ⟨rfl, rfl, rfl, ⟨#[]⟩, ?_⟩⟩
      simp only [phB, phW]
      rw [hd, ha, if_neg hne]
      rw [hd1]
      simp only [Int.natCast_add]
      have : (s : Int) + 2 = (s : Int) + 1 + 1 := by omega
      rw [this]
      rfl
    · have hd1 : L.drop (s + 1) = [] := List.drop_of_length_le (by omega)
      have hS : phS L (.ack s) = .fin := if_neg h1
      have hl : s + 1 = L.length := by omega
      rw [hS]
      refine ⟨rfl, trivial, by simp only [phN]; omega, fun m h => trivial, by simp only; omega, .inr ⟨rfl, ?_, ?_, ⟨#[]⟩, ?_⟩⟩
      · simp only [phA, hl]
      · simp only [phG]
        rw [List.take_of_length_le (by omega)]
      · simp only [phB, phW]
        rw [hd, ha, hd1, if_pos rfl, hl]
  | fin => cases hp
/-- The end that is up ticks. -/
def phT (L : List (List UInt8)) : Ph → Ph
  | .old _ w f => .old (tkB w f) (tkW w f) (tkL w f)
  | ph => ph
theorem ph_tick {I q c : Int} {L : List (List UInt8)} (hL : LOk L) {ph : Ph} (hph : phOk L ph) (h0 : phW I q L ph = []) {m : Nat} (hm : phM (m + 1) ph) :
    phOk L (phT L ph) ∧ phM m (phT L ph) ∧ tikE (phB I q c L ph) = (phB I q c L (phT L ph), phW I q L (phT L ph)) ∧ phA I L (phT L ph) = phA I L ph ∧ phG L (phT L ph) = phG L ph := by
  have hpos := hL.pos
  cases ph with
  | old sent w f =>
    cases sent with
    | true => cases h0
    | false =>
      have ht := tk_ok hph.1 hph.2
      refine ⟨⟨ht.1, ht.2.1⟩, ?_, ?_, rfl, rfl⟩
      · have h9 : f + 1 ≤ ((m + 1 : Nat) : Int) := hm.elim (fun h => by cases h.1) id
        have := hph.2
        simp only [phT, phM]
        cases hb : tkB w f with
        | true => exact .inl ⟨rfl, by omega⟩
        | false =>
          have := ht.2.2 hb
          exact .inr (by omega)
      · have hd := drop_txt hpos
        rw [List.drop_zero] at hd
        have hne : L ≠ [] := fun h => by rw [h] at hpos; simp at hpos
        have hv : tikV (bO q c L w f).o = (⟨1, q, L, tkW w f, tkL w f⟩, tkB w f) := by
          simp [tikV, bO, hne]
        simp only [phB, phT, phW, tikE]
        rw [hv]
        cases tkB w f with
        | true =>
          rw [dataV_y _ hne]
          simp [setO, bO]
        | false => simp [setO, bO, dataV]
  | hel w f => cases h0
  | dat s => cases h0
  | ack s => cases h0
  | fin =>
    refine ⟨trivial, trivial, ?_, rfl, rfl⟩
    simp [phB, phT, phW, tikE, tikV, bN, setO, dataV]
theorem ph_end {I q : Int} {L : List (List UInt8)} {ph : Ph} (h : phOk L ph) (hm : phM 0 ph) : ph = .fin := by
  cases ph with
  | old sent w f =>
    have := h.2
    rcases hm with ⟨_, h⟩ | h <;> omega
  | hel w f => exact absurd hm (by simp [phM])
  | dat s => exact absurd hm (by simp [phM])
  | ack s => exact absurd hm (by simp [phM])
  | fin => rfl
end Go.Proofs.Ytdekemlckpbbcaa
