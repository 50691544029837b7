/- The book, plain: where a job is, why a record is refused, what it makes of the book; that entries grow. -/
import Derived.Test.YtkepfkfoblocgaaGreatRcP
import Derived.Test.YtkepfkfoblocgaaGreatGaP
import Derived.Test.YtkepfkfoblocgaaGreatRdP
import Derived.Lib.MinMax
import Derived.Deep.Cut
import Derived.BigQuiet
import Derived.Lib.QuietBelow
namespace Go.Proofs.YtkepfkfoblocgaaGreat
open Go.RowKit
set_option linter.unusedVariables false

/-- An entry: number, owner, epoch, needs, of each task the worker and one, whether it is done. -/
structure En where
  id : Int
  sc : Int
  ep : Int
  ns : List (List UInt8)
  bd : List Int
  dn : List Bool
/-- Where a job's first entry is. -/
def plB (b : List En) (j : Int) : Option Nat := b.findIdx? (fun e => e.id == j)
theorem plB_some {b : List En} {j : Int} {k : Nat} (h : plB b j = some k) : ∃ hk : k < b.length, b[k].id = j ∧ ∀ i (hi : i < k), (b[i]'(Nat.lt_trans hi hk)).id ≠ j := by
  unfold plB at h
  rw [List.findIdx?_eq_some_iff_getElem] at h
  obtain ⟨hk, h1, h2⟩ := h
  exact ⟨hk, by simpa using h1, fun i hi => by simpa using h2 i hi⟩
theorem plB_of {b : List En} {j : Int} {k : Nat} (hk : k < b.length) (h1 : b[k].id = j) (h2 : ∀ i (hi : i < k), (b[i]'(Nat.lt_trans hi hk)).id ≠ j) : plB b j = some k := by
  unfold plB
  rw [List.findIdx?_eq_some_iff_getElem]
  exact ⟨hk, by simpa using h1, fun i hi => by simpa using h2 i hi⟩
theorem plB_of_none {b : List En} {j : Int} (h : ∀ e ∈ b, e.id ≠ j) : plB b j = none := by
  unfold plB
  rw [List.findIdx?_eq_none_iff]
  exact fun e he => by simpa using h e he
def tkB (e : En) : Nat := min e.ns.length (min e.bd.length e.dn.length)
/-- Why a Bind or a Finish is refused. -/
def whyT (e : En) (x : Rc) : Int :=
  if (tkB e : Int) ≤ x.t then 8
  else if x.k = 2 ∧ x.e ≠ e.ep then 12
  else if x.k = 2 ∧ e.bd.getD x.t.toNat 0 ≠ 0 then 13
  else if x.k = 3 ∧ e.bd.getD x.t.toNat 0 = 0 then 1
  else if x.k = 3 ∧ e.dn.getD x.t.toNat false = true then 9
  else 0
/-- Why a record is refused. -/
def whyB (b : List En) (x : Rc) : Int :=
  if chkR x = false then 1
  else match plB b x.j with
    | none => if x.k = 1 then (if 40 ≤ b.length then 7 else 0) else 8
    | some k => if x.k = 1 then 9 else match b[k]? with
      | none => 0
      | some e => if x.k = 4 then (if x.e - 1 ≠ e.ep then 12 else 0) else whyT e x
def newB (x : Rc) : En := ⟨x.j, x.s, 1, x.ns, List.replicate x.ns.length 0, List.replicate x.ns.length false⟩
def chgB (x : Rc) (e : En) : En :=
  if x.k = 2 then ⟨e.id, e.sc, e.ep, e.ns, e.bd.set x.t.toNat (x.w + 1), e.dn⟩
  else if x.k = 3 then ⟨e.id, e.sc, e.ep, e.ns, e.bd, e.dn.set x.t.toNat true⟩
  else if x.k = 4 then ⟨e.id, x.s, x.e, e.ns, e.bd, e.dn⟩
  else e
/-- The book with a record applied. -/
def appB (b : List En) (x : Rc) : List En :=
  if x.k = 1 then b ++ [newB x]
  else match plB b x.j with
    | none => b
    | some k => b.modify k (chgB x)
/-- What holds of each entry of a book made of records. -/
def OkE (e : En) : Prop := e.bd.length = e.ns.length ∧ e.dn.length = e.ns.length ∧ e.ns.length ≤ 16 ∧ (1 ≤ e.ep ∧ e.ep ≤ 9) ∧ (∀ s ∈ e.ns, s.length ≤ 200) ∧ ∀ t, e.dn.getD t false = true → e.bd.getD t 0 ≠ 0
def OkB (b : List En) : Prop := b.length ≤ 40 ∧ ∀ e ∈ b, OkE e
/-- One step further, by a record. -/
def GrowE (a b : En) (x : Rc) : Prop := a.id = b.id ∧ a.ns = b.ns ∧ (b.ep = a.ep ∨ (b.ep = a.ep + 1 ∧ x.k = 4 ∧ x.j = a.id ∧ x.e = b.ep)) ∧
  (∀ t, a.bd.getD t 0 = b.bd.getD t 0 ∨ (a.bd.getD t 0 = 0 ∧ x.k = 2 ∧ x.j = a.id ∧ x.t = (t : Int) ∧ x.e = a.ep ∧ b.bd.getD t 0 = x.w + 1)) ∧ (∀ t, a.dn.getD t false = true → b.dn.getD t false = true)
theorem GrowE.refl (a : En) (x : Rc) : GrowE a a x := ⟨rfl, rfl, .inl rfl, fun _ => .inl rfl, fun _ h => h⟩
theorem chk_parts2 {x : Rc} (h : chkR x = true) : (x.k = 1 ∨ x.k = 2 ∨ x.k = 3 ∨ x.k = 4) ∧ (x.k = 2 ∨ x.k = 3 ∨ x.k = 1 → 0 ≤ x.t ∧ x.t ≤ 15) ∧ (0 ≤ x.w ∧ x.w ≤ 63) ∧ (x.k = 4 → 1 ≤ x.e ∧ x.e ≤ 9) ∧ (x.k = 1 → 1 ≤ x.ns.length) ∧ (0 ≤ x.t ∧ x.t ≤ 15) := by
  obtain ⟨h1, h2, h3, h4, h5, h6, h7, h8, h9⟩ := chkR_parts h
  have hk : 1 ≤ x.k ∧ x.k ≤ 4 := by simpa [isK] using h1
  have hk2 : x.k = 1 ∨ x.k = 2 ∨ x.k = 3 ∨ x.k = 4 := by omega
  have ht : 0 ≤ x.t ∧ x.t ≤ 15 := by
    unfold inS at h4
    split at h4
    · simpa using h4
    · have : x.t = 0 := by simpa using h4
      omega
  have hw : 0 ≤ x.w ∧ x.w ≤ 63 := by
    unfold inS at h5
    split at h5
    · simpa using h5
    · have : x.w = 0 := by simpa using h5
      omega
  refine ⟨hk2, fun _ => ht, hw, fun h => ?_, fun h => ?_, ht⟩
  · rw [h] at h7
    simpa [inS, hasR] using h7
  · rw [h] at h8
    have : (1 : Int) ≤ (x.ns.length : Int) ∧ (x.ns.length : Int) ≤ 16 := by simpa [inS, hasR] using h8
    omega
theorem getD_set_self {α : Type} (l : List α) (i : Nat) (v d : α) (h : i < l.length) : (l.set i v).getD i d = v := by simp [List.getD, h]
theorem getD_set_ne {α : Type} (l : List α) (i j : Nat) (v d : α) (h : i ≠ j) : (l.set i v).getD j d = l.getD j d := by simp [List.getD, List.getElem?_set_ne h]
theorem newB_ok {x : Rc} (h : chkR x = true) : OkE (newB x) := by
  obtain ⟨h1, h2⟩ := chkR_ns h
  refine ⟨by simp [newB], by simp [newB], h1, ⟨by simp [newB], by simp [newB]⟩, h2, fun t ht => ?_⟩
  exfalso
  simp only [newB, List.getD_eq_getElem?_getD] at ht
  by_cases hh : t < x.ns.length
  · rw [List.getElem?_eq_getElem (by simpa using hh)] at ht
    simp at ht
  · rw [List.getElem?_eq_none (by simpa using hh)] at ht
    simp at ht
theorem chgB_ok {e : En} {x : Rc} (hx : chkR x = true) (he : OkE e) (hj : x.j = e.id) (hk : x.k ≠ 1) (hw : (if x.k = 4 then (if x.e - 1 ≠ e.ep then (12 : Int) else 0) else whyT e x) = 0) : OkE (chgB x e) ∧ GrowE e (chgB x e) x := by
  obtain ⟨c1, c2, c3, c4, c5, c6⟩ := chk_parts2 hx
  obtain ⟨e1, e2, e3, e4, e5, e6⟩ := he
  have htk : tkB e = e.ns.length := by unfold tkB; rw [e1, e2]; simp
  rcases c1 with c1 | c1 | c1 | c1
  · exact absurd c1 hk
  · rw [if_neg (by omega)] at hw
    unfold whyT at hw
    rw [htk] at hw
    split at hw
    · omega
    rename_i h1
    split at hw
    · omega
    rename_i h2
    split at hw
    · omega
    rename_i h3
    have h4 : x.e = e.ep := by
      by_cases h : x.e = e.ep
      · exact h
      · exact absurd ⟨c1, h⟩ h2
    have h5 : e.bd.getD x.t.toNat 0 = 0 := by
      by_cases h : e.bd.getD x.t.toNat 0 = 0
      · exact h
      · exact absurd ⟨c1, h⟩ h3
    have hlt : x.t.toNat < e.bd.length := by omega
    have hc : chgB x e = ⟨e.id, e.sc, e.ep, e.ns, e.bd.set x.t.toNat (x.w + 1), e.dn⟩ := by unfold chgB; rw [if_pos c1]
    rw [hc]
    refine ⟨⟨by simpa using e1, e2, e3, e4, e5, fun t ht => ?_⟩, rfl, rfl, .inl rfl, fun t => ?_, fun t h => h⟩
    · by_cases htt : x.t.toNat = t
      · subst htt
        show (e.bd.set x.t.toNat (x.w + 1)).getD x.t.toNat 0 ≠ 0
        rw [getD_set_self _ _ _ _ hlt]
        omega
      · show (e.bd.set x.t.toNat (x.w + 1)).getD t 0 ≠ 0
        rw [getD_set_ne _ _ _ _ _ htt]
        exact e6 t ht
    · by_cases htt : x.t.toNat = t
      · subst htt
        refine .inr ⟨h5, c1, hj, by omega, h4, ?_⟩
        exact getD_set_self _ _ _ _ hlt
      · refine .inl ?_
        show _ = (e.bd.set x.t.toNat (x.w + 1)).getD t 0
        rw [getD_set_ne _ _ _ _ _ htt]
  · rw [if_neg (by omega)] at hw
    unfold whyT at hw
    rw [htk] at hw
    split at hw
    · omega
    rename_i h1
    rw [if_neg (by omega), if_neg (by omega)] at hw
    split at hw
    · omega
    rename_i h3
    have h5 : e.bd.getD x.t.toNat 0 ≠ 0 := fun h => h3 ⟨c1, h⟩
    have hlt : x.t.toNat < e.dn.length := by omega
    have hc : chgB x e = ⟨e.id, e.sc, e.ep, e.ns, e.bd, e.dn.set x.t.toNat true⟩ := by unfold chgB; rw [if_neg (by omega), if_pos c1]
    rw [hc]
    refine ⟨⟨e1, by simpa using e2, e3, e4, e5, fun t ht => ?_⟩, rfl, rfl, .inl rfl, fun t => .inl rfl, fun t h => ?_⟩
    · by_cases htt : x.t.toNat = t
      · subst htt
        exact h5
      · refine e6 t ?_
        have ht' : (e.dn.set x.t.toNat true).getD t false = true := ht
        rwa [getD_set_ne _ _ _ _ _ htt] at ht'
    · by_cases htt : x.t.toNat = t
      · subst htt
        exact getD_set_self _ _ _ _ hlt
      · show (e.dn.set x.t.toNat true).getD t false = true
        rw [getD_set_ne _ _ _ _ _ htt]
        exact h
  · rw [if_pos c1] at hw
    have h4 : x.e - 1 = e.ep := by
      by_cases h : x.e - 1 = e.ep
      · exact h
      · rw [if_pos h] at hw; omega
    have hc : chgB x e = ⟨e.id, x.s, x.e, e.ns, e.bd, e.dn⟩ := by unfold chgB; rw [if_neg (by omega), if_neg (by omega), if_pos c1]
    rw [hc]
    exact ⟨⟨e1, e2, e3, c4 c1, e5, e6⟩, rfl, rfl, .inr ⟨by show x.e = e.ep + 1; omega, c1, hj, rfl⟩, fun t => .inl rfl, fun t h => h⟩
theorem whyB_chk {b : List En} {x : Rc} (h : whyB b x = 0) : chkR x = true := by
  unfold whyB at h
  split at h
  · omega
  · rename_i h1
    simpa using h1
theorem appB_len {b : List En} {x : Rc} : b.length ≤ (appB b x).length := by
  unfold appB
  split
  · simp
  · split <;> simp
/-- A record that is not refused. -/
theorem step_ok {b : List En} {x : Rc} (hb : OkB b) (h : whyB b x = 0) : OkB (appB b x) ∧ ∀ k (hk : k < b.length), GrowE b[k] ((appB b x)[k]'(Nat.lt_of_lt_of_le hk appB_len)) x := by
  have hx := whyB_chk h
  obtain ⟨c1, _⟩ := chk_parts2 hx
  unfold whyB at h
  rw [if_neg (by rw [hx]; simp)] at h
  cases hp : plB b x.j with
  | none =>
    rw [hp] at h
    simp only at h
    by_cases hk : x.k = 1
    · rw [if_pos hk] at h
      have h40 : b.length < 40 := by
        by_cases h9 : 40 ≤ b.length
        · rw [if_pos h9] at h; omega
        · omega
      have ha : appB b x = b ++ [newB x] := by unfold appB; rw [if_pos hk]
      refine ⟨?_, fun k hk2 => ?_⟩
      · rw [ha]
        refine ⟨by simp; omega, fun e he => ?_⟩
        rcases List.mem_append.1 he with he | he
        · exact hb.2 e he
        · obtain rfl : e = newB x := by simpa using he
          exact newB_ok hx
      · have e9 : (appB b x)[k]'(Nat.lt_of_lt_of_le hk2 appB_len) = b[k] := by
          simp only [ha]
          exact List.getElem_append_left hk2
        rw [e9]
        exact GrowE.refl _ _
    · rw [if_neg hk] at h
      omega
  | some i =>
    rw [hp] at h
    simp only at h
    obtain ⟨hi, hid, _⟩ := plB_some hp
    by_cases hk : x.k = 1
    · rw [if_pos hk] at h
      omega
    · rw [if_neg hk, List.getElem?_eq_getElem hi] at h
      simp only at h
      obtain ⟨g1, g2⟩ := chgB_ok hx (hb.2 _ (List.getElem_mem hi)) hid.symm hk h
      have ha : appB b x = b.modify i (chgB x) := by unfold appB; rw [if_neg hk, hp]
      refine ⟨?_, fun k hk2 => ?_⟩
      · rw [ha]
        refine ⟨by simpa using hb.1, fun e he => ?_⟩
        obtain ⟨j, hj, rfl⟩ := List.getElem_of_mem he
        rw [List.getElem_modify]
        split
        · subst_vars; exact g1
        · exact hb.2 _ (List.getElem_mem _)
      · have e9 : (appB b x)[k]'(Nat.lt_of_lt_of_le hk2 appB_len) = if i = k then chgB x b[k] else b[k] := by
          simp only [ha]
          rw [List.getElem_modify]
        rw [e9]
        split
        · subst_vars; exact g2
        · exact GrowE.refl _ _
theorem okB_nil : OkB [] := ⟨by simp, by simp⟩
end Go.Proofs.YtkepfkfoblocgaaGreat

namespace Go.Proofs.YtkepfkfoblocgaaGreat
open Go.RowKit
set_option linter.unusedVariables false
set_option linter.unusedSimpArgs false

/-- Where an entry's three slices lie. -/
structure Pt where
  A : Option Addr
  ca : Nat
  B : Option Addr
  cb : Nat
  D : Option Addr
  cd : Nat
abbrev Ee := En × Pt
def blcells (l : List Bool) : List Value := l.map .bool
theorem blcells_length (l : List Bool) : (blcells l).length = l.length := by simp [blcells]
theorem blcells_one (l : List Bool) : ∀ u ∈ blcells l, u.oneCell' = true := by
  intro u hu
  simp only [blcells, List.mem_map] at hu
  obtain ⟨c, _, rfl⟩ := hu
  rfl
def ecE (x : Ee) : Array Value := #[.int .i64 x.1.id, .int .i64 x.1.sc, .int .i64 x.1.ep, .slice x.2.A x.1.ns.length x.2.ca, .slice x.2.B x.1.bd.length x.2.cb, .slice x.2.D x.1.dn.length x.2.cd]
def ebl (x : Ee) : List Value := [.int .i64 x.1.id, .int .i64 x.1.sc, .int .i64 x.1.ep, .slice x.2.A x.1.ns.length x.2.ca, .slice x.2.B x.1.bd.length x.2.cb, .slice x.2.D x.1.dn.length x.2.cd]
theorem ebl_len (x : Ee) : (ebl x).length = 6 := rfl
theorem ebl_one (l : List Ee) : ∀ u ∈ gcells ebl l, u.oneCell' = true := by
  intro u hu
  simp only [gcells, List.mem_flatten, List.mem_map] at hu
  obtain ⟨_, ⟨x, _, rfl⟩, hu⟩ := hu
  simp only [ebl, List.mem_cons, List.not_mem_nil, or_false] at hu
  rcases hu with rfl | rfl | rfl | rfl | rfl | rfl <;> rfl
/-- An entry that may be read. -/
def InE (w : World) (x : Ee) : Prop := TxAt w x.2.A x.2.ca x.1.ns ∧ Sl w 1 x.2.B x.1.bd.length x.2.cb (icells .i64 x.1.bd) ∧ Sl w 1 x.2.D x.1.dn.length x.2.cd (blcells x.1.dn)
theorem InE.below {w w' : World} {x : Ee} (h : InE w x) (hb : Below w.heap.size w w') : InE w' x := ⟨h.1.below hb, h.2.1.below hb, h.2.2.below hb⟩
/-- A book that may be read. -/
def InBk (w : World) (A : Option Addr) (c : Nat) (xs : List Ee) : Prop := Sl w 6 A xs.length c (gcells ebl xs) ∧ ∀ x ∈ xs, InE w x
theorem InBk.below {w w' : World} {A : Option Addr} {c : Nat} {xs : List Ee} (h : InBk w A c xs) (hb : Below w.heap.size w w') : InBk w' A c xs := ⟨h.1.below hb, fun x hx => (h.2 x hx).below hb⟩
/-- Texts of the call's own, of whatever length. -/
def OwT (w : World) (b : Nat) (A : Option Addr) (c : Nat) (l : List (List UInt8)) : Prop := w.ownsRow b 9 1 (.slice A l.length c) l.length (scells l) ∧ ∀ s ∈ l, s.length ≤ maxLen
theorem OwT.tx {w : World} {b : Nat} {A : Option Addr} {c : Nat} {l : List (List UInt8)} (h : OwT w b A c l) : TxAt w A c l := ⟨sl_own h.1, h.2⟩
/-- An entry of the call's own. -/
def OwE (w : World) (b : Nat) (x : Ee) : Prop := OwT w b x.2.A x.2.ca x.1.ns ∧ w.ownsRow b 3 1 (.slice x.2.B x.1.bd.length x.2.cb) x.1.bd.length (icells .i64 x.1.bd) ∧ w.ownsRow b 4 1 (.slice x.2.D x.1.dn.length x.2.cd) x.1.dn.length (blcells x.1.dn)
theorem OwE.inE {w : World} {b : Nat} {x : Ee} (h : OwE w b x) : InE w x := ⟨h.1.tx, sl_own h.2.1, sl_own h.2.2⟩
theorem OwE.keep {w w' : World} {b : Nat} {x : Ee} (h : OwE w b x) (hb : Below w.heap.size w w') : OwE w' b x := ⟨⟨own_keep h.1.1 hb, h.1.2⟩, own_keep h.2.1 hb, own_keep h.2.2 hb⟩
theorem OwE.mono {w : World} {b b' : Nat} {x : Ee} (h : OwE w b x) (hb : b' ≤ b) : OwE w b' x := ⟨⟨own_mono h.1.1 hb, h.1.2⟩, own_mono h.2.1 hb, own_mono h.2.2 hb⟩
/-- The block of a slice. -/
def blk (A : Option Addr) : Option Nat := A.map Addr.block
theorem ownBlock_blk (A : Option Addr) (n c : Nat) : (Value.slice A n c).ownBlock = blk A := by cases A <;> rfl
/-- A book of the call's own: no two entries share the rows that are written. -/
def RowBk (w : World) (b : Nat) (v : Value) (xs : List Ee) : Prop :=
  w.ownsRow b 55 6 v xs.length (gcells ebl xs) ∧ (∀ x ∈ xs, OwE w b x) ∧ xs.Pairwise fun x y => (∀ g, blk x.2.B = some g → blk y.2.B ≠ some g) ∧ (∀ g, blk x.2.D = some g → blk y.2.D ≠ some g)
theorem RowBk.nil (w : World) (b : Nat) : RowBk w b (.slice none 0 0) [] := ⟨World.ownsRow_nil _ _ _ _, by simp, List.Pairwise.nil⟩
theorem RowBk.keep {w w' : World} {b : Nat} {v : Value} {xs : List Ee} (h : RowBk w b v xs) (hb : Below w.heap.size w w') : RowBk w' b v xs := ⟨own_keep h.1 hb, fun x hx => (h.2.1 x hx).keep hb, h.2.2⟩
theorem RowBk.mono {w : World} {b b' : Nat} {v : Value} {xs : List Ee} (h : RowBk w b v xs) (hb : b' ≤ b) : RowBk w b' v xs := ⟨own_mono h.1 hb, fun x hx => (h.2.1 x hx).mono hb, h.2.2⟩
theorem RowBk.inBk {w : World} {b : Nat} {A : Option Addr} {c : Nat} {xs : List Ee} (h : RowBk w b (.slice A xs.length c) xs) : InBk w A c xs := ⟨sl_own h.1, fun x hx => (h.2.1 x hx).inE⟩
theorem InBk.len {w : World} {A : Option Addr} {c : Nat} {xs : List Ee} (h : InBk w A c xs) : xs.length ≤ maxLen := Nat.le_trans h.1.2.1 h.1.2.2.1
theorem info_entry : (Tryz.prog.info? 55).map (fun i => (i.zero, i.size, i.bytes)) = some (some (.agg #[.int .i64 0, .int .i64 0, .int .i64 0, .slice none 0 0, .slice none 0 0, .slice none 0 0]), 6, 96) := by kernel_rfl
theorem six_cells {w : World} {b t : Nat} {x0 x1 x2 x3 x4 x5 : Value} (h : w.heap[b]? = some (.cells #[x0, x1, x2, x3, x4, x5] t (0, 0))) :
    (w.cell? ⟨b, 0, none⟩ = some x0 ∧ w.cell? ⟨b, 1, none⟩ = some x1 ∧ w.cell? ⟨b, 2, none⟩ = some x2 ∧ w.cell? ⟨b, 3, none⟩ = some x3 ∧ w.cell? ⟨b, 4, none⟩ = some x4 ∧ w.cell? ⟨b, 5, none⟩ = some x5) ∧ (w.frozen? ⟨b, 0, none⟩ = false ∧ w.frozen? ⟨b, 1, none⟩ = false ∧ w.frozen? ⟨b, 2, none⟩ = false ∧ w.frozen? ⟨b, 3, none⟩ = false ∧ w.frozen? ⟨b, 4, none⟩ = false ∧ w.frozen? ⟨b, 5, none⟩ = false) :=
  ⟨⟨by rw [cell_of_row w b 0 _ _ _ h]; rfl, by rw [cell_of_row w b 1 _ _ _ h]; rfl, by rw [cell_of_row w b 2 _ _ _ h]; rfl, by rw [cell_of_row w b 3 _ _ _ h]; rfl, by rw [cell_of_row w b 4 _ _ _ h]; rfl, by rw [cell_of_row w b 5 _ _ _ h]; rfl⟩, frozen_of_row w b 0 _ t h, frozen_of_row w b 1 _ t h, frozen_of_row w b 2 _ t h, frozen_of_row w b 3 _ t h, frozen_of_row w b 4 _ t h, frozen_of_row w b 5 _ t h⟩
/-- The cells of an entry of a book. -/
theorem InBk.el {w : World} {A : Option Addr} {c : Nat} {xs : List Ee} (h : InBk w A c xs) (k : Nat) (hk : k < xs.length) : ∃ b off, A = some ⟨b, off, none⟩ ∧
    w.cell? ⟨b, off + k * 6, none⟩ = some (.int .i64 xs[k].1.id) ∧ w.cell? ⟨b, off + k * 6 + 1, none⟩ = some (.int .i64 xs[k].1.sc) ∧ w.cell? ⟨b, off + k * 6 + 2, none⟩ = some (.int .i64 xs[k].1.ep) ∧ w.cell? ⟨b, off + k * 6 + 3, none⟩ = some (.slice xs[k].2.A xs[k].1.ns.length xs[k].2.ca) ∧ w.cell? ⟨b, off + k * 6 + 4, none⟩ = some (.slice xs[k].2.B xs[k].1.bd.length xs[k].2.cb) ∧ w.cell? ⟨b, off + k * 6 + 5, none⟩ = some (.slice xs[k].2.D xs[k].1.dn.length xs[k].2.cd) := by
  obtain ⟨b, off, rfl, hc⟩ := Sl.gat (f := ebl) (n := 6) ebl_len h.1 k hk (by omega)
  exact ⟨b, off, rfl, hc 0 _ rfl, hc 1 _ rfl, hc 2 _ rfl, hc 3 _ rfl, hc 4 _ rfl, hc 5 _ rfl⟩
def plI (b : List En) (j : Int) : Int := match plB b j with | some k => (k : Int) | none => -1

set_option maxRecDepth 20000 in
theorem bplace1_any (e : Ee) (B : Nat) (job : Int) (W : World) (hB : W.cell? ⟨B, 0, none⟩ = some (.int .i64 job)) :
    Calls Tryz.prog 83 #[.agg (ecE e), .pointer (some ⟨B, 0, none⟩)] W fun x w' => x = .returned (.bool (e.1.id == job)) ∧ Below W.heap.size W w' := by
  obtain ⟨⟨id, sc, ep, ns, bd, dn⟩, ⟨A, ca, P, cb, D, cd⟩⟩ := e
  simp only [ecE]
  go_enter Tryz.func83, Tryz.ntmps83
  go_upto_region 1 with (fail)
  refine at_world (fun u => u.heap[W.heap.size]? = some (.cells #[.int .i64 id, .int .i64 sc, .int .i64 ep, .slice A ns.length ca, .slice P bd.length cb, .slice D dn.length cd] 55 (0, 0)) ∧ Below W.heap.size W u) ⟨heap_alloc_new _ _, (Below.refl _ _).alloc (Nat.le_refl _) _⟩ ?_
  rintro w1 ⟨hx1, hb1⟩
  obtain ⟨⟨p0, p1, p2, p3, p4, p5⟩, _⟩ := six_cells hx1
  have hB1 := cellb hb1 hB
  have HB := hid hb1
  clear hx1 hb1
  go_wp2
  go_ret
  exact ⟨rfl, HB.out⟩
set_option maxRecDepth 20000 in
set_option maxHeartbeats 1000000 in
theorem bindex_any (A : Option Addr) (c : Nat) (xs : List Ee) (B : Nat) (job : Int) (W : World) (h : InBk W A c xs) (hB : W.cell? ⟨B, 0, none⟩ = some (.int .i64 job)) :
    Calls Tryz.prog 82 #[.slice A xs.length c, .func (.func 83) #[] #[.pointer (some ⟨B, 0, none⟩)]] W fun e w' => e = .returned (.int .i64 (plI (xs.map (·.1)) job)) ∧ Below W.heap.size W w' := by
  have HA := hid h
  have HB := hid hB
  have hm : xs.length ≤ 9223372036854775807 := by have := h.len; unfold maxLen at this; omega
  have HY := hid (fun k (hk : k < xs.length) (h1 : xs[k].1.id = job) (h2 : ∀ j (hj : j < xs.length), j < k → xs[j].1.id ≠ job) => show plI (xs.map (·.1)) job = (k : Int) by
    unfold plI
    rw [plB_of (k := k) (by simpa using hk) (by simpa using h1) (fun i hi => by simpa using h2 i (by omega) hi)])
  have HN := hid (fun (h2 : ∀ j (hj : j < xs.length), xs[j].1.id ≠ job) => show plI (xs.map (·.1)) job = -1 by
    unfold plI
    rw [plB_of_none (fun e he => by
      obtain ⟨x, hx, rfl⟩ := List.mem_map.1 he
      obtain ⟨j, hj, rfl⟩ := List.getElem_of_mem hx
      exact h2 j hj)])
  clear h hB
  go_enter Tryz.func82, Tryz.ntmps82
  go_wp2
  go_loopw [8] (fun i wr => ∃ k : Nat, k ≤ xs.length ∧ i = .int .i64 (k : Int) ∧ Hid (∀ j (hj : j < xs.length), j < k → xs[j].1.id ≠ job) ∧ Hid (Below W.heap.size W wr)) (fun i _ => xs.length - (intOf i).toNat)
  case atStart => exact ⟨0, by omega, rfl, fun j hj h => absurd h (by omega), Below.refl _ _⟩
  case round =>
    obtain ⟨k, hk, rfl, HT, HR⟩ := hrel
    by_cases hlt : k < xs.length
    · have hlt2 : (k : Int) < (xs.length : Int) := by omega
      obtain ⟨b, off, rfl, q0, q1, q2, q3, q4, q5⟩ := (HA.out.below HR.out).el k hlt
      have HC := hid (bplace1_any xs[k] B job wr (cellb HR.out HB.out))
      have HY2 := hid (fun h => HY.out k hlt h HT.out)
      have HXX : Hid (xs[k].1.id = xs[k].1.id) := hid rfl
      generalize hx : xs[k] = x at q0 q1 q2 q3 q4 q5 HC HY2
      have HX := hid hx
      clear hx HXX
      obtain ⟨⟨id, sc, ep, ns, bd, dn⟩, ⟨A1, ca, P, cb, D, cd⟩⟩ := x
      simp only [ecE] at HC
      simp only at q0 q1 q2 q3 q4 q5 HY2
      go_wp2_with fail
      refine HC.out.mono ?_
      rintro e w2 ⟨rfl, hb2⟩
      have HR2 := hid (HR.out.trans (hb2.mono HR.out.size))
      clear hb2 HC q0 q1 q2 q3 q4 q5
      by_cases hxy : id = job
      · have hd : (id == job) = true := by simpa using hxy
        have HE := hid (HY2.out hxy)
        go_wp2
        go_ret
        exact ⟨by rw [HE.out]; rfl, HR2.out⟩
      · have hd : (id == job) = false := by simpa using hxy
        have HT2 : Hid (∀ j (hj : j < xs.length), j < k + 1 → xs[j].1.id ≠ job) := hid (fun j hj hjk => by
          by_cases hjk2 : j < k
          · exact HT.out j hj hjk2
          · obtain rfl : j = k := by omega
            rw [HX.out]; exact hxy)
        clear hxy
        go_wp2
        go_roundw
        case rel => exact ⟨k + 1, by omega, by go_num, HT2.out, HR2.out⟩
        case measure => simp [intOf]; omega
    · have hge : ¬ (k : Int) < (xs.length : Int) := by omega
      have HE := hid (HN.out (fun j hj => HT.out j hj (by omega)))
      go_wp2
      go_ret
      exact ⟨by rw [HE.out]; rfl, HR.out⟩
set_option maxRecDepth 20000 in
theorem bplace_any (A : Option Addr) (c : Nat) (xs : List Ee) (job : Int) (W : World) (h : InBk W A c xs) :
    Calls Tryz.prog 63 #[.slice A xs.length c, .int .i64 job] W fun e w' => e = .returned (.int .i64 (plI (xs.map (·.1)) job)) ∧ Below W.heap.size W w' := by
  have HA := hid h
  clear h
  go_enter Tryz.func63, Tryz.ntmps63
  go_upto_region 1 with (fail)
  refine at_world (fun u => u.heap[W.heap.size]? = some (.cells #[.int .i64 job] 3 (0, 0)) ∧ Below W.heap.size W u) ⟨heap_alloc_new _ _, (Below.refl _ _).alloc (Nat.le_refl _) _⟩ ?_
  rintro w1 ⟨hx1, hb1⟩
  have hc : w1.cell? ⟨W.heap.size, 0, none⟩ = some (.int .i64 job) := by rw [cell_of_row w1 W.heap.size 0 _ _ _ hx1]; rfl
  have HC := hid (bindex_any A c xs W.heap.size job w1 (HA.out.below hb1) hc)
  have HB := hid hb1
  clear hx1 hb1 hc
  go_wp2_with fail
  refine HC.out.mono ?_
  rintro e w2 ⟨rfl, hb2⟩
  have HB2 := hid (HB.out.trans (hb2.mono HB.out.size))
  clear hb2
  go_wp2
  go_ret
  exact ⟨rfl, HB2.out⟩
end Go.Proofs.YtkepfkfoblocgaaGreat

namespace Go.Proofs.YtkepfkfoblocgaaGreat
open Go.RowKit Go.Sort
set_option linter.unusedVariables false
set_option linter.unusedSimpArgs false

theorem Sl.blcell {w : World} {b off len cap : Nat} {l : List Bool} (h : Sl w 1 (some ⟨b, off, none⟩) len cap (blcells l)) (i : Nat) (hi : i < l.length) : w.cell? ⟨b, off + i, none⟩ = some (.bool (l.getD i false)) := by
  obtain ⟨b', off', ha, hc⟩ := Sl.at h i (by simpa [blcells] using hi)
  cases ha
  rw [hc]
  simp [blcells, hi]

set_option maxRecDepth 20000 in
set_option maxHeartbeats 4000000 in
theorem btask_any (e : Ee) (x : Rc) (Ax : Option Addr) (cx : Nat) (W : World) (h : InE W e) (ht : 0 ≤ x.t ∧ x.t ≤ 15) :
    Calls Tryz.prog 67 #[.agg (ecE e), .agg (rcc x Ax cx)] W fun q w' => q = .returned (.int .i64 (whyT e.1 x)) ∧ Below W.heap.size W w' := by
  obtain ⟨⟨id, sc, ep, ns, bd, dn⟩, ⟨A, ca, P, cb, D, cd⟩⟩ := e
  obtain ⟨k, j, t, wk, s, ee, xs⟩ := x
  simp only [ecE, rcc] at *
  have HI := hid h
  have hl1 : ns.length ≤ 9223372036854775807 := by have := h.1.1.2.1; have := h.1.1.2.2.1; unfold maxLen at this; simp only at *; omega
  have hl2 : bd.length ≤ 9223372036854775807 := by have := h.2.1.2.1; have := h.2.1.2.2.1; unfold maxLen at this; simp only at *; omega
  have hl3 : dn.length ≤ 9223372036854775807 := by have := h.2.2.2.1; have := h.2.2.2.2.1; unfold maxLen at this; simp only at *; omega
  clear h
  obtain ⟨tn, rfl⟩ := Int.eq_ofNat_of_zero_le ht.1
  have HV : Hid (whyT ⟨id, sc, ep, ns, bd, dn⟩ ⟨k, j, (tn : Int), wk, s, ee, xs⟩ = (if (min ns.length (min bd.length dn.length)) ≤ tn then 8 else if k = 2 ∧ ee ≠ ep then 12 else if k = 2 ∧ bd.getD tn 0 ≠ 0 then 13 else if k = 3 ∧ bd.getD tn 0 = 0 then 1 else if k = 3 ∧ dn.getD tn false = true then 9 else 0)) := hid (by
    unfold whyT tkB
    simp only [Int.ofNat_le, Int.toNat_natCast])
  generalize whyT ⟨id, sc, ep, ns, bd, dn⟩ ⟨k, j, (tn : Int), wk, s, ee, xs⟩ = rv at *
  obtain ⟨m, hm⟩ : ∃ m, min ns.length (min bd.length dn.length) = m := ⟨_, rfl⟩
  rw [hm] at HV
  have hmin : min (min (ns.length : Int) (bd.length : Int)) (dn.length : Int) = (m : Int) := by omega
  have hmin2 : min (ns.length : Int) (min (bd.length : Int) (dn.length : Int)) = (m : Int) := by omega
  have hmb : m ≤ bd.length := by omega
  have hmd : m ≤ dn.length := by omega
  have HMB := hid hmb
  have HMD := hid hmd
  clear hm ht hmb hmd
  generalize hnl : ns.length = nl at *
  generalize hbl : bd.length = bl at *
  generalize hdl : dn.length = dl at *
  have HBL := hid hbl
  have HDL := hid hdl
  clear hnl hbl hdl
  go_enter Tryz.func67, Tryz.ntmps67
  go_upto_region 1 with (fail)
  refine at_world (fun u => u.heap[W.heap.size]? = some (.cells #[.int .i64 id, .int .i64 sc, .int .i64 ep, .slice A nl ca, .slice P bl cb, .slice D dl cd] 55 (0, 0)) ∧ u.heap[W.heap.size + 1]? = some (.cells #[.int .i64 k, .int .i64 j, .int .i64 (tn : Int), .int .i64 wk, .int .i64 s, .int .i64 ee, .slice Ax xs.length cx] 46 (0, 0)) ∧ Below W.heap.size W u) ⟨heap_first _ _ _, heap_second _ _ _, below2 _ _ _⟩ ?_
  rintro w1 ⟨hx1, hz1, hb1⟩
  obtain ⟨⟨p0, p1, p2, p3, p4, p5⟩, _⟩ := six_cells hx1
  obtain ⟨q0, q1, q2, q3, q4, q5, q6⟩ := seven_cells hz1
  have HB := hid hb1
  clear hx1 hz1
  rcases Nat.lt_or_ge tn m with hlt | hge
  case inr =>
    have i1 : (m : Int) ≤ (tn : Int) := by omega
    have i2 : decide ((m : Int) ≤ (tn : Int)) = true := decide_eq_true i1
    have i3 : decide (m ≤ tn) = true := decide_eq_true hge
    go_wp2
    all_goals go_ret
    all_goals exact ⟨by rw [HV.out, if_pos hge]; rfl, HB.out⟩
  have i1 : ¬ (m : Int) ≤ (tn : Int) := by omega
  have i2 : decide ((m : Int) ≤ (tn : Int)) = false := decide_eq_false i1
  have i3 : decide (m ≤ tn) = false := decide_eq_false (by omega)
  have HV2 := hid (HV.out.trans (if_neg (show ¬ m ≤ tn by omega)))
  have hib : tn < bl := by have := HMB.out; omega
  have hid' : tn < dl := by have := HMD.out; omega
  have hsb := HI.out.2.1.below hb1
  have hsd := HI.out.2.2.below hb1
  obtain ⟨bB, oB, rfl, _⟩ := hsb.2.2.2 (by rw [icells_length, HBL.out]; omega)
  obtain ⟨bD, oD, rfl, _⟩ := hsd.2.2.2 (by rw [blcells_length, HDL.out]; omega)
  have cB := Sl.cell hsb tn (by rw [HBL.out]; omega)
  have cD := Sl.blcell hsd tn (by rw [HDL.out]; omega)
  clear hsb hsd hb1 HV HI
  have j1 : ¬ (tn : Int) < 0 := by omega
  have j2 : (tn : Int) < (bl : Int) := by omega
  have j3 : (tn : Int) < (dl : Int) := by omega
  generalize bd.getD tn 0 = bv at *
  generalize dn.getD tn false = dv at *
  by_cases hk2 : k = 2
  case pos =>
    subst hk2
    by_cases he : ee = ep
    case neg =>
      have be : (ee != ep) = true := by simpa using he
      have HR : Hid (rv = 12) := hid (by rw [HV2.out, if_pos ⟨rfl, he⟩])
      clear he HV2
      go_wp2
      all_goals go_ret
      all_goals exact ⟨by rw [HR.out]; rfl, HB.out⟩
    subst he
    have HV3 := hid (HV2.out.trans (if_neg (by simp)))
    clear HV2
    by_cases hb : bv = 0
    case neg =>
      have be : (bv != 0) = true := by simpa using hb
      have HR : Hid (rv = 13) := hid (by rw [HV3.out, if_pos ⟨rfl, hb⟩])
      clear hb HV3
      go_wp2
      all_goals go_ret
      all_goals exact ⟨by rw [HR.out]; rfl, HB.out⟩
    subst hb
    have HR : Hid (rv = 0) := hid (by rw [HV3.out]; simp)
    clear HV3
    go_wp2
    all_goals go_ret
    all_goals exact ⟨by rw [HR.out]; rfl, HB.out⟩
  by_cases hk3 : k = 3
  case pos =>
    subst hk3
    clear hk2
    by_cases hb : bv = 0
    case pos =>
      subst hb
      have HR : Hid (rv = 1) := hid (by rw [HV2.out]; simp)
      clear HV2
      go_wp2
      all_goals go_ret
      all_goals exact ⟨by rw [HR.out]; rfl, HB.out⟩
    have be : (bv != 0) = true := by simpa using hb
    cases dv
    case true =>
      have HR : Hid (rv = 9) := hid (by rw [HV2.out]; simp [hb])
      clear HV2 hb
      go_wp2
      all_goals go_ret
      all_goals exact ⟨by rw [HR.out]; rfl, HB.out⟩
    have HR : Hid (rv = 0) := hid (by rw [HV2.out]; simp [hb])
    clear HV2 hb
    go_wp2
    all_goals go_ret
    all_goals exact ⟨by rw [HR.out]; rfl, HB.out⟩
  have b2 : (k == 2) = false := by simpa using hk2
  have b3 : (k == 3) = false := by simpa using hk3
  have HR : Hid (rv = 0) := hid (by rw [HV2.out]; simp [hk2, hk3])
  clear HV2
  go_wp2
  all_goals go_ret
  all_goals exact ⟨by rw [HR.out]; rfl, HB.out⟩
end Go.Proofs.YtkepfkfoblocgaaGreat

namespace Go.Proofs.YtkepfkfoblocgaaGreat
open Go.RowKit Go.Sort
set_option linter.unusedVariables false
set_option linter.unusedSimpArgs false

set_option maxRecDepth 20000 in
set_option maxHeartbeats 4000000 in
theorem brefusal_any (A : Option Addr) (c : Nat) (xs : List Ee) (x : Rc) (Ax : Option Addr) (cx : Nat) (W : World) (h : InBk W A c xs) (hx : TxAt W Ax cx x.ns) :
    Calls Tryz.prog 49 #[.slice A xs.length c, .agg (rcc x Ax cx)] W fun q w' => q = .returned (.int .i64 (whyB (xs.map (·.1)) x)) ∧ RowKit.Below W.heap.size W w' := by
  have HA := hid h
  have HCK := hid (fun w (hw : RowKit.Below W.heap.size W w) => rcheck_any x Ax cx w (hx.below hw))
  have HPL := hid (fun w (hw : RowKit.Below W.heap.size W w) => bplace_any A c xs x.j w (h.below hw))
  have HTS := hid (fun e w (hw : InE w e) (ht : 0 ≤ x.t ∧ x.t ≤ 15) => btask_any e x Ax cx w hw ht)
  have HP2 := hid (fun h => chk_parts2 (x := x) h)
  have HV : Hid (whyB (xs.map (·.1)) x = (if chkR x = false then 1 else match plB (xs.map (·.1)) x.j with
    | none => if x.k = 1 then (if 40 ≤ (xs.map (·.1)).length then 7 else 0) else 8
    | some k => if x.k = 1 then 9 else match (xs.map (·.1))[k]? with
      | none => 0
      | some e => if x.k = 4 then (if x.e - 1 ≠ e.ep then 12 else 0) else whyT e x)) := hid rfl
  have hxl : xs.length ≤ 9223372036854775807 := by have := h.len; unfold maxLen at this; omega
  clear h hx
  generalize whyB (xs.map (·.1)) x = rv at *
  obtain ⟨k, j, t, wk, s, ee, ns⟩ := x
  simp only [rcc] at *
  try simp only at HCK HPL HTS HP2 HV
  go_enter Tryz.func49, Tryz.ntmps49
  go_upto_region 1 with (fail)
  refine at_world (fun u => u.heap[W.heap.size]? = some (.cells #[.int .i64 k, .int .i64 j, .int .i64 t, .int .i64 wk, .int .i64 s, .int .i64 ee, .slice Ax ns.length cx] 46 (0, 0)) ∧ RowKit.Below W.heap.size W u) ⟨heap_alloc_new _ _, (RowKit.Below.refl _ _).alloc (Nat.le_refl _) _⟩ ?_
  rintro w1 ⟨hx1, hb1⟩
  obtain ⟨p0, p1, p2, p3, p4, p5, p6⟩ := seven_cells hx1
  have HX1 := hid hx1
  have HB1 := hid hb1
  clear hx1 hb1
  go_wp2_with fail
  refine (HCK.out w1 HB1.out).mono ?_
  rintro e w2 ⟨rfl, hb2⟩
  have HB2 := hid (HB1.out.trans (hb2.mono HB1.out.size))
  have HX2 := hid (keep0 HX1.out hb2)
  clear hb2 HCK HB1 HX1 p0 p1 p2 p3 p4 p5 p6
  obtain ⟨p0, p1, p2, p3, p4, p5, p6⟩ := seven_cells HX2.out
  cases hc : chkR ⟨k, j, t, wk, s, ee, ns⟩ with
  | false =>
    have HR : Hid (rv = 1) := hid (HV.out.trans (if_pos hc))
    go_wp2
    go_ret
    exact ⟨by rw [HR.out]; rfl, HB2.out⟩
  | true =>
    obtain ⟨_, _, _, hk4, _, ht⟩ := HP2.out hc
    have HV2 := hid (HV.out.trans (if_neg (by rw [hc]; simp)))
    clear HV hc HP2
    go_wp2_with fail
    refine (HPL.out w2 HB2.out).mono ?_
    rintro e w3 ⟨rfl, hb3⟩
    have HB3 := hid (HB2.out.trans (hb3.mono HB2.out.size))
    have HX3 := hid (keep0 HX2.out hb3)
    clear hb3 HPL HB2 HX2 p0 p1 p2 p3 p4 p5 p6
    obtain ⟨p0, p1, p2, p3, p4, p5, p6⟩ := seven_cells HX3.out
    unfold plI
    cases hp : plB (xs.map (·.1)) j with
    | none =>
      rw [hp] at HV2
      simp only [List.length_map] at HV2
      simp only
      by_cases hk1 : k = 1
      · subst hk1
        rcases Nat.lt_or_ge xs.length 40 with h40 | h40
        · have i1 : ¬ (40 : Int) ≤ (xs.length : Int) := by omega
          have i2 : decide ((40 : Int) ≤ (xs.length : Int)) = false := decide_eq_false i1
          have i3 : decide (40 ≤ xs.length) = false := decide_eq_false (by omega)
          have HR : Hid (rv = 0) := hid (by rw [HV2.out, if_pos rfl, if_neg (by omega)])
          go_wp2
          go_ret
          exact ⟨by rw [HR.out]; rfl, HB3.out⟩
        · have i1 : (40 : Int) ≤ (xs.length : Int) := by omega
          have i2 : decide ((40 : Int) ≤ (xs.length : Int)) = true := decide_eq_true i1
          have i3 : decide (40 ≤ xs.length) = true := decide_eq_true h40
          have HR : Hid (rv = 7) := hid (by rw [HV2.out, if_pos rfl, if_pos h40])
          go_wp2
          go_ret
          exact ⟨by rw [HR.out]; rfl, HB3.out⟩
      · have b1 : (k == 1) = false := by simpa using hk1
        have HR : Hid (rv = 8) := hid (by rw [HV2.out, if_neg hk1])
        go_wp2
        go_ret
        exact ⟨by rw [HR.out]; rfl, HB3.out⟩
    | some i =>
      rw [hp] at HV2
      simp only at HV2
      simp only
      obtain ⟨hi, hj1, hj2⟩ := plB_some hp
      rw [List.getElem?_eq_getElem hi] at HV2
      simp only [List.getElem_map] at HV2
      have hil : i < xs.length := by simpa using hi
      have i0 : ¬ (i : Int) < 0 := by omega
      have i00 : (0 : Int) ≤ (i : Int) := by omega
      have d0 : decide ((i : Int) < 0) = false := decide_eq_false i0
      have d00 : decide ((0 : Int) ≤ (i : Int)) = true := decide_eq_true i00
      clear hp hj2 hj1
      by_cases hk1 : k = 1
      · subst hk1
        have HR : Hid (rv = 9) := hid (by rw [HV2.out, if_pos rfl])
        go_wp2
        go_ret
        exact ⟨by rw [HR.out]; rfl, HB3.out⟩
      have b1 : (k == 1) = false := by simpa using hk1
      have hi2 : (i : Int) < (xs.length : Int) := by omega
      obtain ⟨b, off, rfl, c0, c1, c2, c3, c4, c5⟩ := (HA.out.below HB3.out).el i hil
      have hE := HA.out.2 xs[i] (List.getElem_mem hil)
      have HV3 := hid (HV2.out.trans (if_neg hk1))
      generalize xs[i] = y at *
      obtain ⟨⟨id, sc, ep, ys, bd, dn⟩, ⟨A1, ca, P, cb, D, cd⟩⟩ := y
      simp only at c0 c1 c2 c3 c4 c5 HV3
      clear HV2 hil hi
      by_cases hk : k = 4
      · subst hk
        have he := hk4 rfl
        have hw : IntKind.i64.wrap (ee - 1) = ee - 1 := by simp [IntKind.wrap, IntKind.bits, IntKind.signed]; omega
        have HV4 := hid (HV3.out.trans (if_pos rfl))
        go_upto_region 13 with (fail)
        replace p5 := cell_regrown p5
        replace c2 := cell_regrown c2
        by_cases hee : ee - 1 = ep
        · have be : (ee - 1 != ep) = false := by simpa using hee
          have HR : Hid (rv = 0) := hid (by rw [HV4.out, if_neg (by simpa using hee)])
          clear HV4 HV3 hee
          refine wp_region_quiet_below (by kernel_rfl) (by kernel_rfl) ?_
          repeat (go_big_quiet_step (fail))
          refine wpQuiet_nil ?_
          intro _ hw'
          obtain ⟨⟨dq, osq⟩, hw''⟩ := hw'
          subst hw''
          go_wp2
          go_ret
          exact ⟨by rw [HR.out]; rfl, HB3.out.trans ((below_regrown w3 dq osq).mono HB3.out.size)⟩
        · have be : (ee - 1 != ep) = true := by simpa using hee
          have HR : Hid (rv = 12) := hid (by rw [HV4.out, if_pos (by simpa using hee)])
          clear HV4 HV3 hee
          refine wp_region_quiet_below (by kernel_rfl) (by kernel_rfl) ?_
          repeat (go_big_quiet_step (fail))
          refine wpQuiet_nil ?_
          intro _ hw'
          obtain ⟨⟨dq, osq⟩, hw''⟩ := hw'
          subst hw''
          go_wp2
          go_ret
          exact ⟨by rw [HR.out]; rfl, HB3.out.trans ((below_regrown w3 dq osq).mono HB3.out.size)⟩
      · have b4 : (k == 4) = false := by simpa using hk
        have HR := hid (HV3.out.trans (if_neg hk))
        have HCT := hid (fun w (hw : RowKit.Below w3.heap.size w3 w) => HTS.out ⟨⟨id, sc, ep, ys, bd, dn⟩, ⟨A1, ca, P, cb, D, cd⟩⟩ w (hE.below (HB3.out.trans (hw.mono HB3.out.size))) ht)
        simp only [ecE] at HCT
        rw [← HR.out] at HCT
        clear hE HV3 HTS HR
        go_upto_region 16 with (fail)
        have cT := reg (w := w3) (fun W' hW => HCT.out W' hW)
        replace p0 := cell_regrown p0
        replace p1 := cell_regrown p1
        replace p2 := cell_regrown p2
        replace p3 := cell_regrown p3
        replace p4 := cell_regrown p4
        replace p5 := cell_regrown p5
        replace p6 := cell_regrown p6
        replace c0 := cell_regrown c0
        replace c1 := cell_regrown c1
        replace c2 := cell_regrown c2
        replace c3 := cell_regrown c3
        replace c4 := cell_regrown c4
        replace c5 := cell_regrown c5
        refine wp_region_quiet_below (by kernel_rfl) (by kernel_rfl) ?_
        repeat (go_big_quiet_step (first | (go_at_call 67; with_reducible exact cT _ _)))
        refine wpQuiet_nil ?_
        intro _ hw'
        obtain ⟨⟨dq, osq⟩, hw''⟩ := hw'
        subst hw''
        go_wp2
        go_ret
        exact ⟨rfl, HB3.out.trans ((below_regrown w3 dq osq).mono HB3.out.size)⟩
end Go.Proofs.YtkepfkfoblocgaaGreat
