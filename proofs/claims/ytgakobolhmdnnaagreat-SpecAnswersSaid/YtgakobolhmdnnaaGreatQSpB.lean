/- Rows of jobs that are read; event.listed, event.acceptable: contracts. -/
import Derived.Test.YtgakobolhmdnnaaGreatQSpA
import Derived.Test.YtgakobolhmdnnaaGreatQJbD
import Derived.BigQuiet
namespace Go.Proofs.YtgakobolhmdnnaaGreat
open Go.RowKit Go.Sort
set_option linter.unusedVariables false
set_option linter.unusedSimpArgs false

/-- A job, and where its texts lie. -/
structure Jo where
  id : Int
  ns : List (List UInt8)
  A : Option Addr
  c : Nat
instance : Inhabited Jo := ⟨⟨0, [], none, 0⟩⟩
def jbl (x : Jo) : List Value := [.int .i64 x.id, .slice x.A x.ns.length x.c]
theorem jbl_len (x : Jo) : (jbl x).length = 2 := rfl
/-- A row of jobs that is read. -/
def InJs (w : World) (A : Option Addr) (c : Nat) (js : List Jo) : Prop := Sl w 2 A js.length c (gcells jbl js) ∧ ∀ x ∈ js, TxJ w x.A x.c x.ns
theorem InJs.below {w w' : World} {A : Option Addr} {c : Nat} {js : List Jo} (h : InJs w A c js) (hb : Below w.heap.size w w') : InJs w' A c js := ⟨h.1.below hb, fun x hx => (h.2 x hx).below hb⟩
theorem InJs.len {w : World} {A : Option Addr} {c : Nat} {js : List Jo} (h : InJs w A c js) : js.length ≤ maxLen := Nat.le_trans h.1.2.1 h.1.2.2.1
theorem InJs.el {w : World} {A : Option Addr} {c : Nat} {js : List Jo} (h : InJs w A c js) (k : Nat) (hk : k < js.length) : ∃ b off, A = some ⟨b, off, none⟩ ∧
    w.cell? ⟨b, off + k * 2, none⟩ = some (.int .i64 js[k].id) ∧ w.cell? ⟨b, off + k * 2 + 1, none⟩ = some (.slice js[k].A js[k].ns.length js[k].c) := by
  obtain ⟨b, off, rfl, hc⟩ := Sl.gat (f := jbl) (n := 2) jbl_len h.1 k hk (by omega)
  exact ⟨b, off, rfl, hc 0 _ rfl, hc 1 _ rfl⟩
/-- Where the first job with that number is. -/
def ljB (js : List Jo) (j : Int) : Option Nat := js.findIdx? (fun x => x.id == j)
theorem ljB_some {b : List Jo} {j : Int} {k : Nat} (h : ljB b j = some k) : ∃ hk : k < b.length, b[k].id = j ∧ ∀ i (hi : i < k), (b[i]'(Nat.lt_trans hi hk)).id ≠ j := by
  unfold ljB at h
  rw [List.findIdx?_eq_some_iff_getElem] at h
  obtain ⟨hk, h1, h2⟩ := h
  exact ⟨hk, by simpa using h1, fun i hi => by simpa using h2 i hi⟩
theorem ljB_none {b : List Jo} {j : Int} (h : ljB b j = none) : ∀ e ∈ b, e.id ≠ j := by
  unfold ljB at h
  rw [List.findIdx?_eq_none_iff] at h
  exact fun e he => by simpa using h e he
theorem ljB_of {b : List Jo} {j : Int} {k : Nat} (hk : k < b.length) (h1 : b[k].id = j) (h2 : ∀ i (hi : i < k), (b[i]'(Nat.lt_trans hi hk)).id ≠ j) : ljB b j = some k := by
  unfold ljB
  rw [List.findIdx?_eq_some_iff_getElem]
  exact ⟨hk, by simpa using h1, fun i hi => by simpa using h2 i hi⟩
theorem ljB_of_none {b : List Jo} {j : Int} (h : ∀ e ∈ b, e.id ≠ j) : ljB b j = none := by
  unfold ljB
  rw [List.findIdx?_eq_none_iff]
  exact fun e he => by simpa using h e he
def ljI (b : List Jo) (j : Int) : Int := match ljB b j with | some k => (k : Int) | none => -1

theorem lay2E (W : World) (C E : Obj) : ((W.alloc C).alloc E).heap[W.heap.size]? = some C ∧ ((W.alloc C).alloc E).heap[W.heap.size + 1]? = some E ∧ Below W.heap.size W ((W.alloc C).alloc E) :=
  ⟨heap_first _ _ _, heap_second _ _ _, bel_alloc (bel_alloc (Below.refl _ _) _) _⟩
theorem four_cellsE {w : World} {b t : Nat} {x y z u : Value} (h : w.heap[b]? = some (.cells #[x, y, z, u] t (0, 0))) :
    w.cell? ⟨b, 0, none⟩ = some x ∧ w.cell? ⟨b, 1, none⟩ = some y ∧ w.cell? ⟨b, 2, none⟩ = some z ∧ w.cell? ⟨b, 3, none⟩ = some u :=
  ⟨by rw [cell_of_row w b 0 _ _ _ h]; rfl, by rw [cell_of_row w b 1 _ _ _ h]; rfl, by rw [cell_of_row w b 2 _ _ _ h]; rfl, by rw [cell_of_row w b 3 _ _ _ h]; rfl⟩
/-- May a job be accepted? -/
def accB (x : Cf) (js : List Jo) (b : List En) (j t w : Int) : Bool :=
  if t ≠ 0 ∨ w ≠ 0 ∨ ljI js j < 0 ∨ 0 ≤ plI b j then false else decide ((chkJ (js.getD (ljI js j).toNat default).id x.T x.ws (js.getD (ljI js j).toNat default).ns).2.2 = 0)
theorem ljI_in {js : List Jo} {j : Int} (h : ¬ ljI js j < 0) : ∃ k : Nat, ljI js j = (k : Int) ∧ ∃ hk : k < js.length, js[k].id = j := by
  unfold ljI at h ⊢
  split
  · rename_i k hk
    obtain ⟨h1, h2, _⟩ := ljB_some hk
    exact ⟨k, rfl, h1, h2⟩
  · rename_i hk
    rw [hk] at h
    simp at h

end Go.Proofs.YtgakobolhmdnnaaGreat
