/- Lists of lists; the document: Join. -/
import Derived.Test.YthohedadmfbahaaDoorGaP
namespace Go.Proofs.YthohedadmfbahaaDoor
open Go.RowKit
set_option linter.unusedVariables false
set_option linter.unusedSimpArgs false

theorem info_node : (Tryd.prog.info? 128).map (fun i => (i.zero, i.size, i.bytes)) = some (some (.agg #[.int .i64 0, .int .i64 0]), 2, 16) := by kernel_rfl
/-- A list, and where it lies. -/
structure Pl where
  l : List (Int × Int)
  A : Option Addr
  c : Nat
def Pl.cell (p : Pl) : Value := .slice p.A p.l.length p.c
def plc (ys : List Pl) : List Value := ys.map Pl.cell
theorem plc_len (ys : List Pl) : (plc ys).length = ys.length := by simp [plc]
/-- Lists that are read. -/
def LsAt (w : World) (A : Option Addr) (c : Nat) (ys : List Pl) : Prop := Sl w 1 A ys.length c (plc ys) ∧ ∀ y ∈ ys, Sl w 2 y.A y.l.length y.c (pcells y.l)
theorem LsAt.below {w w' : World} {A : Option Addr} {c : Nat} {ys : List Pl} (h : LsAt w A c ys) (hb : Below w.heap.size w w') : LsAt w' A c ys := ⟨h.1.below hb, fun y hy => (h.2 y hy).below hb⟩
theorem LsAt.get {w : World} {A : Option Addr} {c : Nat} {ys : List Pl} (h : LsAt w A c ys) (k : Nat) (hk : k < ys.length) : ∃ b off, A = some ⟨b, off, none⟩ ∧ w.cell? ⟨b, off + k, none⟩ = some (.slice ys[k].A ys[k].l.length ys[k].c) ∧ Sl w 2 ys[k].A ys[k].l.length ys[k].c (pcells ys[k].l) := by
  obtain ⟨b, off, ha, hc⟩ := h.1.2.2.2 (by rw [plc_len]; omega)
  refine ⟨b, off, ha, ?_, h.2 _ (List.getElem_mem hk)⟩
  rw [hc k (by rw [plc_len]; exact hk)]
  simp [plc, List.getElem?_eq_getElem hk, Pl.cell]
theorem info_nodes : (Tryd.prog.info? 88).map (fun i => (i.zero, i.size, i.bytes)) = some (some (.slice none 0 0), 1, 24) := by kernel_rfl
def pls (ys : List Pl) : List (List (Int × Int)) := ys.map Pl.l
/-- Lists of the call's own. -/
def LsOwn (w : World) (B : Nat) (A : Option Addr) (c : Nat) (ys : List Pl) : Prop := w.ownsRow B 88 1 (.slice A ys.length c) ys.length (plc ys) ∧ ∀ y ∈ ys, w.ownsRow B 128 2 (.slice y.A y.l.length y.c) y.l.length (pcells y.l)
theorem LsOwn.at {w : World} {B : Nat} {A : Option Addr} {c : Nat} {ys : List Pl} (h : LsOwn w B A c ys) : LsAt w A c ys := ⟨sl_own h.1, fun y hy => sl_own (h.2 y hy)⟩
theorem LsOwn.keep {w w' : World} {B : Nat} {A : Option Addr} {c : Nat} {ys : List Pl} (h : LsOwn w B A c ys) (hb : Below w.heap.size w w') : LsOwn w' B A c ys := ⟨own_keep h.1 hb, fun y hy => own_keep (h.2 y hy) hb⟩
/-- What lists hold, one behind the other. -/
def joinN (op : Int) (ls : List (List (Int × Int))) : List (Int × Int) := ls.flatten ++ [(op, 0)]
theorem flatten_take {ls : List (List (Int × Int))} {k : Nat} (hk : k < ls.length) : (ls.take (k + 1)).flatten = (ls.take k).flatten ++ ls[k] := by
  rw [List.take_succ_eq_append_getElem hk, List.flatten_append, List.flatten_cons, List.flatten_nil, List.append_nil]
theorem flatten_len {ls : List (List (Int × Int))} {n k : Nat} (h : ∀ l ∈ ls, l.length ≤ n) : (ls.take k).flatten.length ≤ k * n := by
  induction k with
  | zero => simp
  | succ k ih =>
    by_cases hk : k < ls.length
    · rw [flatten_take hk, List.length_append]
      have := h _ (List.getElem_mem hk)
      rw [Nat.succ_mul]
      omega
    · rw [List.take_of_length_le (by omega)]
      rw [List.take_of_length_le (by omega)] at ih
      rw [Nat.succ_mul]
      omega
end Go.Proofs.YthohedadmfbahaaDoor
