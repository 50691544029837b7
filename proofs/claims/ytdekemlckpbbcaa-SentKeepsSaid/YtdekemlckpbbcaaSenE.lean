/- SentKeeps: maths; the steps that came in. -/
import Derived.Test.YtdekemlckpbbcaaSenD
import Derived.Test.YtdekemlckpbbcaaGcel
namespace Go.Proofs.Ytdekemlckpbbcaa
open Go.RowKit Go.Sort
set_option linter.unusedVariables false
set_option linter.unusedSimpArgs false

/-- What holds of an outbox with n ticks since it told to send, behind k steps. -/
def KI (B : Nat) (o : Ov) (n : Int) (k : Nat) : Prop :=
  o.l.length ≤ B ∧ o.l.length ≤ k ∧ o.l.Nodup ∧ 1 ≤ o.q ∧ o.q ≤ (k : Int) + 1 ∧ 0 ≤ n ∧ (o.l = [] → n = 0) ∧ (o.l ≠ [] → pok o.w o.f = true ∧ 1 ≤ o.f ∧ n + o.f ≤ o.w)
/-- The ticks behind a step that told, or not. -/
def qtF (r : Ov × Bool) (n : Int) : Int := if r.2 = true ∨ r.1.l = [] then 0 else n
theorem KI.lt {B : Nat} {o : Ov} {n : Int} {k : Nat} (h : KI B o n k) : n < 8 := by
  obtain ⟨_, _, _, _, _, h6, h7, h8⟩ := h
  by_cases hl : o.l = []
  · have := h7 hl; omega
  · obtain ⟨h9, h10, h11⟩ := h8 hl
    have := (pok_iff _ _).1 h9
    omega
theorem KI.up {B : Nat} {o : Ov} {n : Int} {k : Nat} (h : KI B o n k) : KI B o n (k + 1) := by
  obtain ⟨h1, h2, h3, h4, h5, h6⟩ := h
  exact ⟨h1, by omega, h3, h4, by omega, h6⟩
theorem KI.new (B : Nat) : KI B ⟨1, 1, [], 1, 0⟩ 0 0 := ⟨Nat.zero_le _, Nat.le_refl _, List.nodup_nil, by decide, by decide, by decide, fun _ => rfl, fun h => absurd rfl h⟩
theorem pok11 : pok 1 1 = true := by decide
/-- A step that leaves the ticks as they were, and tells nothing. -/
theorem KI.same {B : Nat} {o : Ov} {n : Int} {k : Nat} (h : KI B o n k) : KI B o (qtF (o, false) n) (k + 1) := by
  obtain ⟨h1, h2, h3, h4, h5, h6, h7, h8⟩ := h
  unfold qtF
  split
  · rename_i hc
    have hl : o.l = [] := by simpa using hc
    exact ⟨h1, by omega, h3, h4, by omega, by omega, fun _ => rfl, fun hn => absurd hl hn⟩
  · exact ⟨h1, by omega, h3, h4, by omega, h6, h7, h8⟩
theorem KI.beg {B : Nat} {p q : Int} {l : List (List UInt8)} {w f n : Int} {k : Nat} (h1 : l.length ≤ B) (h2 : l.length ≤ k) (h3 : l.Nodup) (h4 : 1 ≤ q) (h5 : q ≤ (k : Int) + 1) : KI B (begV ⟨p, q, l, w, f⟩).1 (qtF (begV ⟨p, q, l, w, f⟩) n) k := by
  unfold begV qtF
  by_cases h0 : l.length = 0
  · have hl : l = [] := List.eq_nil_of_length_eq_zero h0
    simp only [h0, if_true]
    rw [if_pos (.inr hl)]
    exact ⟨h1, h2, h3, h4, h5, by omega, fun _ => rfl, fun hn => absurd hl hn⟩
  · simp only [h0, if_false]
    rw [if_pos (.inl trivial)]
    have hl : l ≠ [] := fun h => h0 (by rw [h]; rfl)
    exact ⟨h1, h2, h3, h4, h5, by omega, fun _ => rfl, fun _ => ⟨pok11, by simp only; omega, by simp only; omega⟩⟩
theorem KI.put {B : Nat} {o : Ov} {n : Int} {k : Nat} (h : KI B o n k) (y : List UInt8) : KI B (putV o B y).1.1 (qtF (putV o B y).1 n) (k + 1) ∧ o.l.length ≤ (putV o B y).1.1.l.length := by
  have hs := h.same
  have h9 := h
  obtain ⟨h1, h2, h3, h4, h5, h6, h7, h8⟩ := h
  unfold putV
  split
  · exact ⟨hs, Nat.le_refl _⟩
  · split
    · exact ⟨hs, Nat.le_refl _⟩
    · split
      · exact ⟨hs, Nat.le_refl _⟩
      · rename_i e1 e2 e3
        split
        · rename_i e4
          have := KI.beg (B := B) (p := o.p) (q := o.q) (l := [y]) (w := 1) (f := 1) (n := n) (k := k + 1) (by simp; rw [e4] at e3; simp at e3; omega) (by simp) (by simp) h4 (by omega)
          exact ⟨this, by rw [e4]; simp⟩
        · rename_i e4
          refine ⟨?_, by simp⟩
          unfold qtF
          rw [if_neg (by simp)]
          refine ⟨by simp; omega, by simp; omega, ?_, h4, by simp only; omega, h6, fun h => by simp at h, fun _ => h8 e4⟩
          exact List.nodup_append.2 ⟨h3, by simp, fun a ha b hb => by simp at hb; subst hb; rintro rfl; exact e2 ha⟩
theorem KI.ack {B : Nat} {o : Ov} {n : Int} {k : Nat} (h : KI B o n k) (p s : Int) : KI B (ackV o p s).1 (qtF (ackV o p s) n) (k + 1) ∧ ((ackV o p s).1.l = o.l ∨ (ackV o p s).1.l = o.l.tail) := by
  have hs := h.same
  obtain ⟨h1, h2, h3, h4, h5, h6, h7, h8⟩ := h
  unfold ackV
  split
  · exact ⟨hs, .inl rfl⟩
  · refine ⟨KI.beg (by simp; omega) (by simp; omega) (h3.sublist (List.tail_sublist _)) (by omega) (by omega), .inr (begV_l _)⟩
theorem KI.lrn {B : Nat} {o : Ov} {n : Int} {k : Nat} (h : KI B o n k) (p : Int) : KI B (lrnV o p).1 (qtF (lrnV o p) n) (k + 1) ∧ (lrnV o p).1.l = o.l := by
  have hs := h.same
  obtain ⟨h1, h2, h3, h4, h5, h6, h7, h8⟩ := h
  unfold lrnV
  split
  · exact ⟨hs, rfl⟩
  · refine ⟨KI.beg h1 (by omega) h3 (by omega) (by omega), begV_l _⟩
theorem KI.tik {B : Nat} {o : Ov} {n : Int} {k : Nat} (h : KI B o n k) : KI B (tikV o).1 (qtF (tikV o) (n + 1)) (k + 1) ∧ (tikV o).1.l = o.l := by
  obtain ⟨h1, h2, h3, h4, h5, h6, h7, h8⟩ := h
  unfold tikV
  by_cases hl : o.l = []
  · rw [if_pos hl]
    unfold qtF
    rw [if_pos (.inr hl)]
    exact ⟨⟨h1, by simp only; omega, h3, h4, by simp only; omega, by omega, fun _ => rfl, fun hn => absurd hl hn⟩, rfl⟩
  · rw [if_neg hl]
    obtain ⟨h9, h10, h11⟩ := h8 hl
    have hp := (pok_iff _ _).1 h9
    have hd := dbl_of hp.1
    refine ⟨?_, rfl⟩
    by_cases hf : o.f = 1
    · have e1 : tkW o.w o.f = dbl o.w := by unfold tkW; rw [h9, if_pos rfl, if_pos hf]
      have e2 : tkL o.w o.f = dbl o.w := by unfold tkL; rw [h9, if_pos rfl, if_neg (by omega), if_pos hf]
      have e3 : tkB o.w o.f = true := by unfold tkB; rw [h9, hf]; rfl
      rw [e1, e2, e3]
      unfold qtF
      rw [if_pos (.inl rfl)]
      have hpd : pok (dbl o.w) (dbl o.w) = true := by rw [pok_iff]; omega
      exact ⟨h1, by simp only; omega, h3, h4, by simp only; omega, by omega, fun _ => rfl, fun _ => ⟨hpd, by simp only; omega, by simp only; omega⟩⟩
    · have e1 : tkW o.w o.f = o.w := by unfold tkW; rw [h9, if_pos rfl, if_neg hf]
      have e2 : tkL o.w o.f = o.f - 1 := by unfold tkL; rw [h9, if_pos rfl, if_neg (by omega), if_neg hf]
      have e3 : tkB o.w o.f = false := by unfold tkB; rw [h9]; simpa using hf
      rw [e1, e2, e3]
      unfold qtF
      rw [if_neg (by simp [hl])]
      have hpd : pok o.w (o.f - 1) = true := by rw [pok_iff]; omega
      exact ⟨h1, by simp only; omega, h3, h4, by simp only; omega, by omega, fun h => absurd h hl, fun _ => ⟨hpd, by simp only; omega, by simp only; omega⟩⟩
theorem nodup_place {l : List (List UInt8)} (h : l.Nodup) (k : Nat) (hk : k < l.length) : placeJ l l[k] = (k : Int) :=
  placeJ_yes hk (fun j hj hjk he => by
    have := (List.getElem_inj h (i := j) (j := k) (h₀ := hj) (h₁ := hk)).1 he
    omega) rfl

/-- A step that comes to an outbox. -/
structure Stp where
  d : Int
  p : Int
  s : Int
  t : List UInt8
instance : Inhabited Stp := ⟨⟨0, 0, 0, []⟩⟩
def stc (x : Stp) : List Value := [.int .i64 x.d, .int .i64 x.p, .int .i64 x.s, .string (str x.t)]
theorem stc_len (x : Stp) : (stc x).length = 4 := rfl
theorem str_of (s : ByteArray) : str s.data.toList = s := by simp [str]
set_option maxRecDepth 20000 in
theorem steps_in {w : World} {A : Option Addr} {len cap : Nat} (h : Rd Try.prog w 22 [.slice A len cap]) : ∃ l : List Stp, Sl w 4 A len cap (gcells stc l) ∧ l.length = len ∧ ∀ x ∈ l, x.t.length ≤ maxLen := by
  refine rows_in (α := Stp) (f := stc) (fun x => x.t.length ≤ maxLen) Try.underlying22 (n := 4) (by kernel_rfl) (by omega) (fun _ => rfl) (fun cs hl hr => ?_) h
  have hc1 : Try.prog.cellsOf 3 = 1 := by kernel_rfl
  have hc2 : Try.prog.cellsOf 9 = 1 := by kernel_rfl
  obtain ⟨_, hf⟩ := Rd.struct Try.underlying31 hr
  have f0 : Rd Try.prog w 3 ((cs.drop 0).take (Try.prog.cellsOf 3)) := hf 0 _ rfl
  have f1 : Rd Try.prog w 3 ((cs.drop 1).take (Try.prog.cellsOf 3)) := hf 1 _ rfl
  have f2 : Rd Try.prog w 3 ((cs.drop 2).take (Try.prog.cellsOf 3)) := hf 2 _ rfl
  have f3 : Rd Try.prog w 9 ((cs.drop 3).take (Try.prog.cellsOf 9)) := hf 3 _ rfl
  rw [hc1] at f0 f1 f2
  rw [hc2] at f3
  obtain ⟨a, ea, _⟩ := Rd.int Try.underlying3 f0
  obtain ⟨b, eb, _⟩ := Rd.int Try.underlying3 f1
  obtain ⟨c, ec, _⟩ := Rd.int Try.underlying3 f2
  obtain ⟨s, es, hs⟩ := Rd.string Try.underlying9 f3
  match cs, hl with
  | [x, y, z, u], _ =>
    simp at ea eb ec es
    exact ⟨⟨a, b, c, s.data.toList⟩, by rw [ea, eb, ec, es]; simp [stc, str_of], by simpa using hs⟩
end Go.Proofs.Ytdekemlckpbbcaa
