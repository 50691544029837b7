/- Draws: plain. -/
import Derived.Test.YtadjmgmdnekllaaFlockP
namespace Go.Proofs.Ytadjmgmdnekllaa
open Go.RowKit
set_option linter.unusedVariables false

/-- What m draws tell of a list without what was told, and the draws that are left. -/
def pk : Nat → List Nat → List Int → List Int × List Nat
  | 0, l, _ => ([], l)
  | m + 1, l, e => if e.length = 0 then ([], l) else (e.getD (l.headD 0 % e.length) 0 :: (pk m l.tail (e.eraseIdx (l.headD 0 % e.length))).1, (pk m l.tail (e.eraseIdx (l.headD 0 % e.length))).2)
theorem pk_nil (m : Nat) (l : List Nat) : pk m l [] = ([], l) := by cases m <;> rfl
theorem pk_zero (l : List Nat) (e : List Int) : pk 0 l e = ([], l) := rfl
theorem pk_step (m : Nat) (l : List Nat) (e : List Int) (h : e.length ≠ 0) : pk (m + 1) l e = (e.getD (l.headD 0 % e.length) 0 :: (pk m l.tail (e.eraseIdx (l.headD 0 % e.length))).1, (pk m l.tail (e.eraseIdx (l.headD 0 % e.length))).2) := by rw [pk, if_neg h]
theorem idx_lt (l : List Nat) (e : List Int) (h : e.length ≠ 0) : l.headD 0 % e.length < e.length := Nat.mod_lt _ (by omega)
theorem erase_len (e : List Int) (i : Nat) (h : i < e.length) : (e.eraseIdx i).length = e.length - 1 := by rw [List.length_eraseIdx, if_pos h]
theorem pk_len : ∀ m l e, (pk m l e).1.length = min m e.length
  | 0, _, _ => by simp [pk]
  | m + 1, l, e => by
    by_cases h : e.length = 0
    · rw [pk, if_pos h, h]; simp
    · rw [pk_step m l e h, List.length_cons, pk_len m, erase_len _ _ (idx_lt l e h)]; omega
theorem pk_mem : ∀ m l e x, x ∈ (pk m l e).1 → x ∈ e
  | 0, _, _, x, h => by simp [pk] at h
  | m + 1, l, e, x, h => by
    by_cases h0 : e.length = 0
    · rw [pk, if_pos h0] at h; simp at h
    · have hi := idx_lt l e h0
      rw [pk_step m l e h0, List.mem_cons] at h
      rcases h with rfl | h
      · rw [List.getD_eq_getElem?_getD, List.getElem?_eq_getElem hi]
        exact List.getElem_mem hi
      · exact List.mem_of_mem_eraseIdx (pk_mem m _ _ x h)
theorem not_mem_erase {e : List Int} (hn : e.Nodup) {i : Nat} (hi : i < e.length) : e.getD i 0 ∉ e.eraseIdx i := by
  rw [List.getD_eq_getElem?_getD, List.getElem?_eq_getElem hi, Option.getD_some, List.mem_eraseIdx_iff_getElem]
  rintro ⟨j, hj, hne, h⟩
  exact hne ((List.getElem_inj hn).1 h)
theorem pk_nodup : ∀ m l e, e.Nodup → (pk m l e).1.Nodup
  | 0, _, _, _ => by simp [pk]
  | m + 1, l, e, h => by
    by_cases h0 : e.length = 0
    · rw [pk, if_pos h0]; simp
    · have hi := idx_lt l e h0
      rw [pk_step m l e h0, List.nodup_cons]
      refine ⟨fun hx => ?_, pk_nodup m _ _ (h.sublist (List.eraseIdx_sublist _ _))⟩
      have := pk_mem m _ _ _ hx
      exact not_mem_erase h hi this
theorem elemsU_lt (s : Nat) : ∀ n x, x ∈ elemsU s n → 0 ≤ x ∧ x < n := fun n x h => by have := (mem_elemsU s x n).1 h; exact ⟨this.1, this.2.1⟩
theorem elemsU_nodup (s : Nat) : ∀ n, (elemsU s n).Nodup
  | 0 => by simp [elemsU]
  | n + 1 => by
    cases h : s.testBit n with
    | true =>
      rw [elemsU_yes h, List.nodup_append]
      refine ⟨elemsU_nodup s n, by simp, fun a ha b hb => ?_⟩
      have := elemsU_lt s n a ha
      simp at hb
      omega
    | false => rw [elemsU_no h]; exact elemsU_nodup s n
theorem elems_nodup (s : Nat) : (elems s).Nodup := by rw [elems_def]; exact elemsU_nodup s 64
theorem elemsU_less (s : Nat) (x : Nat) (hs : s < 18446744073709551616) : ∀ n, elemsU (lessS s x) n = (elemsU s n).filter (· != (x : Int))
  | 0 => rfl
  | n + 1 => by
    have ih := elemsU_less s x hs n
    have hb := lessS_bit s x n hs
    cases h : s.testBit n with
    | true =>
      rw [elemsU_yes h, List.filter_append, ← ih]
      by_cases hx : n = x
      · subst hx
        rw [elemsU_no (by rw [hb, h]; simp)]
        simp
      · rw [elemsU_yes (by rw [hb, h]; simp [hx])]
        have : ((n : Int) != (x : Int)) = true := by simp; omega
        simp [this]
    | false =>
      rw [elemsU_no h, elemsU_no (by rw [hb, h]; simp), ih]
theorem filter_erase : ∀ (e : List Int) (i : Nat), e.Nodup → i < e.length → e.filter (· != e.getD i 0) = e.eraseIdx i
  | a :: e, 0, hn, _ => by
    rw [List.nodup_cons] at hn
    simp only [List.getD_cons_zero, List.eraseIdx_zero, List.tail_cons, List.filter_cons, bne_self_eq_false, Bool.false_eq_true, if_false]
    exact List.filter_eq_self.2 fun y hy => by
      simp only [bne_iff_ne, ne_eq]
      rintro rfl
      exact hn.1 hy
  | a :: e, i + 1, hn, hi => by
    rw [List.nodup_cons] at hn
    have hi' : i < e.length := by simpa using hi
    have hm : e.getD i 0 ∈ e := by rw [List.getD_eq_getElem?_getD, List.getElem?_eq_getElem hi']; exact List.getElem_mem hi'
    have hne : (a != e.getD i 0) = true := by
      simp only [bne_iff_ne, ne_eq]
      intro h
      exact hn.1 (h ▸ hm)
    simp only [List.getD_cons_succ, List.eraseIdx_cons_succ, List.filter_cons, hne, if_true]
    rw [filter_erase e i hn.2 hi']
theorem nthS_at (s : Nat) (i : Nat) (h : i < (elems s).length) : nthS s (i : Int) = (elems s).getD i 0 ∧ 0 ≤ nthS s (i : Int) ∧ nthS s (i : Int) < 64 := by
  have e : nthS s (i : Int) = (elems s).getD i 0 := by
    unfold nthS
    rw [if_neg (by omega), Int.toNat_natCast, List.getD_eq_getElem?_getD, List.getD_eq_getElem?_getD, List.getElem?_eq_getElem h]
    rfl
  refine ⟨e, ?_⟩
  rw [e]
  have hm : (elems s).getD i 0 ∈ elems s := by rw [List.getD_eq_getElem?_getD, List.getElem?_eq_getElem h]; exact List.getElem_mem h
  have := (mem_elems s _).1 hm
  exact ⟨this.1, this.2.1⟩
/-- A set without its element of index i. -/
theorem elems_without (s i : Nat) (hs : s < 18446744073709551616) (h : i < (elems s).length) : elems (lessS s (nthS s (i : Int))) = (elems s).eraseIdx i := by
  obtain ⟨e, h0, h1⟩ := nthS_at s i h
  rw [← filter_erase _ i (elems_nodup s) h, ← e]
  generalize nthS s (i : Int) = x at *
  obtain ⟨n, rfl⟩ := Int.eq_ofNat_of_zero_le h0
  rw [elems_def, elems_def]
  exact elemsU_less s n hs 64

/-- What a walk of Some holds at its loop's head: k are told, these draws and elements are left. -/
def PkAt (m : Nat) (l : List Nat) (e : List Int) (k : Nat) (l' : List Nat) (e' acc : List Int) : Prop :=
  acc ++ (pk (m - k) l' e').1 = (pk m l e).1 ∧ (pk (m - k) l' e').2 = (pk m l e).2 ∧ acc.length = k ∧ e'.length + k = e.length
theorem PkAt.start (m : Nat) (l : List Nat) (e : List Int) : PkAt m l e 0 l e [] := ⟨by simp, by simp, rfl, rfl⟩
theorem PkAt.next {m : Nat} {l : List Nat} {e : List Int} {k : Nat} {l' : List Nat} {e' acc : List Int} (h : PkAt m l e k l' e' acc) (hk : k < m) (he : e'.length ≠ 0) :
    PkAt m l e (k + 1) l'.tail (e'.eraseIdx (l'.headD 0 % e'.length)) (acc ++ [e'.getD (l'.headD 0 % e'.length) 0]) := by
  obtain ⟨h1, h2, h3, h4⟩ := h
  have hi := idx_lt l' e' he
  rw [show m - k = (m - (k + 1)) + 1 by omega, pk_step _ _ _ he] at h1 h2
  refine ⟨by rw [← h1]; simp, h2, by simp [h3], by rw [erase_len _ _ hi]; omega⟩
theorem PkAt.stop {m : Nat} {l : List Nat} {e : List Int} {k : Nat} {l' : List Nat} {e' acc : List Int} (h : PkAt m l e k l' e' acc) (hs : m ≤ k ∨ e'.length = 0) : (pk m l e) = (acc, l') := by
  obtain ⟨h1, h2, h3, h4⟩ := h
  have : pk (m - k) l' e' = ([], l') := by
    rcases hs with hs | hs
    · rw [show m - k = 0 by omega]; rfl
    · rw [List.eq_nil_of_length_eq_zero hs, pk_nil]
  rw [this] at h1 h2
  simp only [List.append_nil] at h1 h2
  rw [h1, h2]
attribute [irreducible] pk PkAt
end Go.Proofs.Ytadjmgmdnekllaa
