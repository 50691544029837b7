/- Entries in memory; book.Open, the document Open and Long: contracts (cut from BkP1, BkB, R20B, BtD, BtE). -/
import Derived.Test.YthohedadmfbahaaDoorQJbB
import Derived.Test.YthohedadmfbahaaDoorGaP
import Derived.Lib.MinMax
import Derived.Deep.Cut
import Derived.BigQuiet
namespace Go.Proofs.YthohedadmfbahaaDoor
open Go.RowKit Go.Sort
set_option linter.unusedVariables false
set_option linter.unusedSimpArgs false

abbrev TxAt := TxJ
/-- An entry: number, owner, epoch, needs, of each task the worker and one, whether it is done. -/
structure En where
  id : Int
  sc : Int
  ep : Int
  ns : List (List UInt8)
  bd : List Int
  dn : List Bool
/-- Where an entry's three slices lie. -/
structure Pt where
  A : Option Addr
  ca : Nat
  B : Option Addr
  cb : Nat
  D : Option Addr
  cd : Nat
abbrev Ee := En × Pt
def blcells (l : List Bool) : List Value := l.map .bool
theorem blcells_length (l : List Bool) : (blcells l).length = l.length := by simp [blcells]
def ecE (x : Ee) : Array Value := #[.int .i64 x.1.id, .int .i64 x.1.sc, .int .i64 x.1.ep, .slice x.2.A x.1.ns.length x.2.ca, .slice x.2.B x.1.bd.length x.2.cb, .slice x.2.D x.1.dn.length x.2.cd]
def ebl (x : Ee) : List Value := [.int .i64 x.1.id, .int .i64 x.1.sc, .int .i64 x.1.ep, .slice x.2.A x.1.ns.length x.2.ca, .slice x.2.B x.1.bd.length x.2.cb, .slice x.2.D x.1.dn.length x.2.cd]
theorem ebl_len (x : Ee) : (ebl x).length = 6 := rfl
/-- An entry that may be read. -/
def InE (w : World) (x : Ee) : Prop := TxAt w x.2.A x.2.ca x.1.ns ∧ Sl w 1 x.2.B x.1.bd.length x.2.cb (icells .i64 x.1.bd) ∧ Sl w 1 x.2.D x.1.dn.length x.2.cd (blcells x.1.dn)
theorem InE.below {w w' : World} {x : Ee} (h : InE w x) (hb : Below w.heap.size w w') : InE w' x := ⟨h.1.below hb, h.2.1.below hb, h.2.2.below hb⟩
/-- A book that may be read. -/
def InBk (w : World) (A : Option Addr) (c : Nat) (xs : List Ee) : Prop := Sl w 6 A xs.length c (gcells ebl xs) ∧ ∀ x ∈ xs, InE w x
theorem InBk.below {w w' : World} {A : Option Addr} {c : Nat} {xs : List Ee} (h : InBk w A c xs) (hb : Below w.heap.size w w') : InBk w' A c xs := ⟨h.1.below hb, fun x hx => (h.2 x hx).below hb⟩
theorem InBk.len {w : World} {A : Option Addr} {c : Nat} {xs : List Ee} (h : InBk w A c xs) : xs.length ≤ maxLen := Nat.le_trans h.1.2.1 h.1.2.2.1
theorem six_cells {w : World} {b t : Nat} {x0 x1 x2 x3 x4 x5 : Value} (h : w.heap[b]? = some (.cells #[x0, x1, x2, x3, x4, x5] t (0, 0))) :
    (w.cell? ⟨b, 0, none⟩ = some x0 ∧ w.cell? ⟨b, 1, none⟩ = some x1 ∧ w.cell? ⟨b, 2, none⟩ = some x2 ∧ w.cell? ⟨b, 3, none⟩ = some x3 ∧ w.cell? ⟨b, 4, none⟩ = some x4 ∧ w.cell? ⟨b, 5, none⟩ = some x5) ∧ (w.frozen? ⟨b, 0, none⟩ = false ∧ w.frozen? ⟨b, 1, none⟩ = false ∧ w.frozen? ⟨b, 2, none⟩ = false ∧ w.frozen? ⟨b, 3, none⟩ = false ∧ w.frozen? ⟨b, 4, none⟩ = false ∧ w.frozen? ⟨b, 5, none⟩ = false) :=
  ⟨⟨by rw [cell_of_row w b 0 _ _ _ h]; rfl, by rw [cell_of_row w b 1 _ _ _ h]; rfl, by rw [cell_of_row w b 2 _ _ _ h]; rfl, by rw [cell_of_row w b 3 _ _ _ h]; rfl, by rw [cell_of_row w b 4 _ _ _ h]; rfl, by rw [cell_of_row w b 5 _ _ _ h]; rfl⟩, frozen_of_row w b 0 _ t h, frozen_of_row w b 1 _ t h, frozen_of_row w b 2 _ t h, frozen_of_row w b 3 _ t h, frozen_of_row w b 4 _ t h, frozen_of_row w b 5 _ t h⟩
/-- The cells of an entry of a book. -/
theorem InBk.el {w : World} {A : Option Addr} {c : Nat} {xs : List Ee} (h : InBk w A c xs) (k : Nat) (hk : k < xs.length) : ∃ b off, A = some ⟨b, off, none⟩ ∧
    w.cell? ⟨b, off + k * 6, none⟩ = some (.int .i64 xs[k].1.id) ∧ w.cell? ⟨b, off + k * 6 + 1, none⟩ = some (.int .i64 xs[k].1.sc) ∧ w.cell? ⟨b, off + k * 6 + 2, none⟩ = some (.int .i64 xs[k].1.ep) ∧ w.cell? ⟨b, off + k * 6 + 3, none⟩ = some (.slice xs[k].2.A xs[k].1.ns.length xs[k].2.ca) ∧ w.cell? ⟨b, off + k * 6 + 4, none⟩ = some (.slice xs[k].2.B xs[k].1.bd.length xs[k].2.cb) ∧ w.cell? ⟨b, off + k * 6 + 5, none⟩ = some (.slice xs[k].2.D xs[k].1.dn.length xs[k].2.cd) := by
  obtain ⟨b, off, rfl, hc⟩ := Sl.gat (f := ebl) (n := 6) ebl_len h.1 k hk (by omega)
  exact ⟨b, off, rfl, hc 0 _ rfl, hc 1 _ rfl, hc 2 _ rfl, hc 3 _ rfl, hc 4 _ rfl, hc 5 _ rfl⟩
def tkB (e : En) : Nat := min e.ns.length (min e.bd.length e.dn.length)
theorem Sl.blcell {w : World} {b off len cap : Nat} {l : List Bool} (h : Sl w 1 (some ⟨b, off, none⟩) len cap (blcells l)) (i : Nat) (hi : i < l.length) : w.cell? ⟨b, off + i, none⟩ = some (.bool (l.getD i false)) := by
  obtain ⟨b', off', ha, hc⟩ := Sl.at h i (by simpa [blcells] using hi)
  cases ha
  rw [hc]
  simp [blcells, hi]
theorem sl_len64 {w : World} {z : Nat} {A : Option Addr} {n c : Nat} {l : List Value} (h : Sl w z A n c l) : n ≤ 9223372036854775807 := by
  have h1 := h.2.1
  have h2 := h.2.2.1
  unfold maxLen at h2
  omega
/-- The tasks not bound, up to k. -/
def opk (e : En) (k : Nat) : List Int := ((List.range k).filter fun i => e.bd.getD i 0 == 0).map Int.ofNat
theorem opk_yes {e : En} {k : Nat} (h : e.bd.getD k 0 = 0) : opk e (k + 1) = opk e k ++ [(k : Int)] := by
  have h2 : (e.bd.getD k 0 == 0) = true := by rw [h]; rfl
  unfold opk
  rw [List.range_succ, List.filter_append, List.map_append]
  simp only [List.filter_cons, List.filter_nil, h2, if_true, List.map_cons, List.map_nil]
  rfl
theorem opk_no {e : En} {k : Nat} (h : ¬ e.bd.getD k 0 = 0) : opk e (k + 1) = opk e k := by
  have h2 : (e.bd.getD k 0 == 0) = false := by simpa using h
  unfold opk
  rw [List.range_succ, List.filter_append, List.map_append]
  simp only [List.filter_cons, List.filter_nil, h2, Bool.false_eq_true, if_false, List.map_nil, List.append_nil]
theorem opk_len (e : En) (k : Nat) : (opk e k).length ≤ k := by
  unfold opk
  rw [List.length_map]
  exact Nat.le_trans (List.length_filter_le _ _) (by simp)
def openB (e : En) : List Int := opk e (min e.ns.length e.bd.length)
theorem wrap_succ (n : Nat) (h : n ≤ 100000) : IntKind.i64.wrap ((n : Int) + 1) = (n : Int) + 1 := by
  simp [IntKind.wrap, IntKind.bits, IntKind.signed]
  omega
/-- Is a book longer than is looked at? -/
def longBk (b : List En) : Bool := b.any (fun e => longB e.ns 30 300 || decide (30 < e.bd.length) || decide (30 < e.dn.length)) || decide (60 < b.length)
theorem longBk_yes {b : List En} {k : Nat} (hk : k < b.length) (h : (longB b[k].ns 30 300 || decide (30 < b[k].bd.length) || decide (30 < b[k].dn.length)) = true) : true = longBk b := by
  unfold longBk
  rw [List.any_eq_true.2 ⟨_, List.getElem_mem hk, h⟩]
  rfl
theorem longBk_end {b : List En} (h : ∀ k (hk : k < b.length), (longB b[k].ns 30 300 || decide (30 < b[k].bd.length) || decide (30 < b[k].dn.length)) = false) : decide (60 < b.length) = longBk b := by
  unfold longBk
  have : (b.any fun e => longB e.ns 30 300 || decide (30 < e.bd.length) || decide (30 < e.dn.length)) = false := by
    rw [List.any_eq_false]
    intro x hx
    obtain ⟨k, hk, rfl⟩ := List.getElem_of_mem hx
    rw [h k hk]; simp
  rw [this, Bool.false_or]
theorem longBk_sm {xs : List Ee} (h : longBk (xs.map (·.1)) = false) : xs.length ≤ 60 ∧ ∀ y ∈ xs, y.1.bd.length ≤ 30 ∧ y.1.dn.length ≤ 30 ∧ longB y.1.ns 30 300 = false := by
  unfold longBk at h
  rw [Bool.or_eq_false_iff] at h
  have h1 := of_decide_eq_false h.2
  refine ⟨by simpa using h1, fun y hy => ?_⟩
  have h2 := List.any_eq_false.1 h.1 y.1 (List.mem_map_of_mem hy)
  simp only [Bool.or_eq_true, decide_eq_true_eq, not_or] at h2
  exact ⟨by omega, by omega, by simpa using h2.1.1⟩
theorem ints_inB {w : World} {A : Option Addr} {len cap : Nat} (h : Rd Tryd.prog w 54 [.slice A len cap]) : ∃ l : List Int, Sl w 1 A len cap (icells .i64 l) ∧ l.length = len := by
  obtain ⟨l, h1, h2, _⟩ := rows_in (α := Int) (f := fun x => [.int .i64 x]) (fun _ => True) Tryd.underlying54 (n := 1) (by kernel_rfl) (by omega) (fun _ => rfl) (fun cs hl hr => by
    obtain ⟨x, e, _⟩ := Rd.int Tryd.underlying3 hr
    exact ⟨x, e, trivial⟩) h
  have e : gcells (fun x : Int => [Value.int .i64 x]) l = icells .i64 l := by
    unfold gcells icells
    clear h1 h2
    induction l with
    | nil => rfl
    | cons x l ih => rw [List.map_cons, List.flatten_cons, ih (fun _ _ => trivial), List.map_cons]; rfl
  rw [e] at h1
  exact ⟨l, h1, h2⟩
theorem bools_inB {w : World} {A : Option Addr} {len cap : Nat} (h : Rd Tryd.prog w 55 [.slice A len cap]) : ∃ l : List Bool, Sl w 1 A len cap (blcells l) ∧ l.length = len := by
  obtain ⟨l, h1, h2, _⟩ := rows_in (α := Bool) (f := fun x => [.bool x]) (fun _ => True) Tryd.underlying55 (n := 1) (by kernel_rfl) (by omega) (fun _ => rfl) (fun cs hl hr => by
    obtain ⟨x, e⟩ := Rd.bool Tryd.underlying4 hr
    exact ⟨x, e, trivial⟩) h
  have e : gcells (fun x : Bool => [Value.bool x]) l = blcells l := by
    unfold gcells blcells
    clear h1 h2
    induction l with
    | nil => rfl
    | cons x l ih => rw [List.map_cons, List.flatten_cons, ih (fun _ _ => trivial), List.map_cons]; rfl
  rw [e] at h1
  exact ⟨l, h1, h2⟩
theorem rd_entry {w : World} {a : Array Value} (hn : a.size = 6) (h : Rd Tryd.prog w 57 a.toList) : ∃ x : Ee, a.toList = ebl x ∧ InE w x := by
  have hc : Tryd.prog.cellsOf 3 = 1 := by kernel_rfl
  have hc2 : Tryd.prog.cellsOf 22 = 1 := by kernel_rfl
  have hc3 : Tryd.prog.cellsOf 54 = 1 := by kernel_rfl
  have hc4 : Tryd.prog.cellsOf 55 = 1 := by kernel_rfl
  obtain ⟨_, hf⟩ := Rd.struct Tryd.underlying57 h
  have f0 : Rd Tryd.prog w 3 ((a.toList.drop 0).take (Tryd.prog.cellsOf 3)) := hf 0 _ rfl
  have f1 : Rd Tryd.prog w 3 ((a.toList.drop 1).take (Tryd.prog.cellsOf 3)) := hf 1 _ rfl
  have f2 : Rd Tryd.prog w 3 ((a.toList.drop 2).take (Tryd.prog.cellsOf 3)) := hf 2 _ rfl
  have f3 : Rd Tryd.prog w 22 ((a.toList.drop 3).take (Tryd.prog.cellsOf 22)) := hf 3 _ rfl
  have f4 : Rd Tryd.prog w 54 ((a.toList.drop 4).take (Tryd.prog.cellsOf 54)) := hf 4 _ rfl
  have f5 : Rd Tryd.prog w 55 ((a.toList.drop 5).take (Tryd.prog.cellsOf 55)) := hf 5 _ rfl
  rw [hc] at f0 f1 f2
  rw [hc2] at f3
  rw [hc3] at f4
  rw [hc4] at f5
  obtain ⟨k, e0, _⟩ := Rd.int Tryd.underlying3 f0
  obtain ⟨j, e1, _⟩ := Rd.int Tryd.underlying3 f1
  obtain ⟨t, e2, _⟩ := Rd.int Tryd.underlying3 f2
  have sl : ∀ {i T E : Nat}, Tryd.prog.underlying T = some (.slice E) → Rd Tryd.prog w T ((a.toList.drop i).take 1) → ∃ A len cap, (a.toList.drop i).take 1 = [.slice A len cap] := fun hu hr => by
    rcases Rd.slice hu hr with h1 | ⟨ad, len, cap, _, h1, _⟩
    · exact ⟨_, _, _, h1⟩
    · exact ⟨_, _, _, h1⟩
  obtain ⟨A3, n3, c3, e3⟩ := sl Tryd.underlying22 f3
  obtain ⟨A4, n4, c4, e4⟩ := sl Tryd.underlying54 f4
  obtain ⟨A5, n5, c5, e5⟩ := sl Tryd.underlying55 f5
  rw [e3] at f3
  rw [e4] at f4
  rw [e5] at f5
  obtain ⟨l3, rfl, h3⟩ := rd_textsJ f3
  obtain ⟨l4, h4, rfl⟩ := ints_inB f4
  obtain ⟨l5, h5, rfl⟩ := bools_inB f5
  have one : ∀ {i : Nat} {v : Value}, (a.toList.drop i).take 1 = [v] → a.toList[i]? = some v := fun {i v} h => by
    have h9 : ((a.toList.drop i).take 1)[0]? = some v := by rw [h]; rfl
    rw [List.getElem?_take, if_pos (by omega), List.getElem?_drop, Nat.add_zero] at h9
    exact h9
  have g0 := one e0
  have g1 := one e1
  have g2 := one e2
  have g3 := one e3
  have g4 := one e4
  have g5 := one e5
  refine ⟨(⟨k, j, t, l3, l4, l5⟩, ⟨A3, c3, A4, c4, A5, c5⟩), ?_, h3, h4, h5⟩
  apply List.ext_getElem?
  intro j
  have hl : a.toList.length = 6 := by rw [Array.length_toList]; exact hn
  rcases (by omega : j = 0 ∨ j = 1 ∨ j = 2 ∨ j = 3 ∨ j = 4 ∨ j = 5 ∨ 6 ≤ j) with rfl | rfl | rfl | rfl | rfl | rfl | h9
  · exact g0
  · exact g1
  · exact g2
  · exact g3
  · exact g4
  · exact g5
  · rw [List.getElem?_eq_none (by omega), List.getElem?_eq_none (by simpa [ebl] using h9)]
end Go.Proofs.YthohedadmfbahaaDoor
