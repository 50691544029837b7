/- Needs: lists of lists; Parts, Join, Lists: contracts. -/
import Derived.Test.YtdphdodjidbngaaNeQ
import Derived.Deep.RegionHeld3
import Derived.BigQuiet
import Derived.Lib.QuietBelow
namespace Go.Proofs.Ytdphdodjidbngaa
open Go.RowKit Go.Sort
set_option linter.unusedVariables false
set_option linter.unusedSimpArgs false

theorem own_emptyN (w : World) (e size : Nat) : (w.alloc (.cells #[] e)).ownsRow w.heap.size e size (.slice (some ⟨w.heap.size, 0, none⟩) 0 0) 0 [] :=
  World.ownsRow_lit w #[] 0 (Nat.le_refl _) (Nat.zero_le _) (by simp)
theorem info_node : (Try.prog.info? 77).map (fun i => (i.zero, i.size, i.bytes)) = some (some (.agg #[.int .i64 0, .int .i64 0]), 2, 16) := by kernel_rfl
set_option maxRecDepth 20000 in
theorem clone_node (A : Option Addr) (len cap : Nat) (cs : List Value) (W : World) (h : Sl W 2 A len cap cs) (h1 : ∀ u ∈ cs, u.oneCell' = true) (hlen : len ≤ 100000) :
    Calls Try.prog 104 #[.slice A len cap] W fun e w' => ∃ v, e = .returned v ∧ Below W.heap.size W w' ∧ w'.ownsRow W.heap.size 77 2 v len cs := by
  have hl := h.1
  have HL := hid hlen
  clear hlen
  rcases A with _ | ad
  · have h0 : cs = [] := by
      rcases Nat.eq_zero_or_pos cs.length with h0 | h0
      · exact List.eq_nil_of_length_eq_zero h0
      · obtain ⟨b, off, ha, _⟩ := h.2.2.2 h0
        cases ha
    subst h0
    have hz : len = 0 := by simp at hl; omega
    subst hz
    clear hl h h1
    have he : ∀ w : World, (binOp .eql 23 (.slice none 0 cap) (.slice none 0 0)).run Try.prog w = .ok (.bool true) w := fun _ => rfl
    go_enter Try.func104, Try.ntmps104
    go_wp2
    go_ret
    exact ⟨_, rfl, Below.refl _ _, World.ownsRow_nil _ _ _ _⟩
  · have HS := hid h
    have HE := hid (own_emptyN W 77 2)
    have H1 := hid h1
    clear h h1 hl
    have he : ∀ w : World, (binOp .eql 23 (.slice (some ad) len cap) (.slice none 0 0)).run Try.prog w = .ok (.bool false) w := fun _ => rfl
    go_enter Try.func104, Try.ntmps104
    go_wp2_with (at_builtin; refine wpList_append_sl (W := W) rfl (.tmp 5) (.tmp 6) 23 rfl W.heap.size 77 Try.underlying23 info_node rfl (by omega) rfl HE.out rfl (HS.out.below ((Below.refl _ _).alloc (Nat.le_refl _) _)) H1.out (by have := HL.out; unfold maxLen; omega) (by have := HL.out; omega) (by simp) ((Below.refl _ _).alloc (Nat.le_refl _) _) ?_)
    intro v1 w1 ho1 hb1 _
    go_wp2
    go_ret
    exact ⟨_, rfl, hb1, by simpa using ho1⟩


/-- A list, and where it lies. -/
structure Pl where
  l : List (Int × Int)
  A : Option Addr
  c : Nat
instance : Inhabited Pl := ⟨⟨[], none, 0⟩⟩
def Pl.cell (p : Pl) : Value := .slice p.A p.l.length p.c
def plc (ys : List Pl) : List Value := ys.map Pl.cell
theorem plc_len (ys : List Pl) : (plc ys).length = ys.length := by simp [plc]
/-- Lists that are read. -/
def LsAt (w : World) (A : Option Addr) (c : Nat) (ys : List Pl) : Prop := Sl w 1 A ys.length c (plc ys) ∧ ∀ y ∈ ys, Sl w 2 y.A y.l.length y.c (pcells y.l)
theorem LsAt.below {w w' : World} {A : Option Addr} {c : Nat} {ys : List Pl} (h : LsAt w A c ys) (hb : Below w.heap.size w w') : LsAt w' A c ys := ⟨h.1.below hb, fun y hy => (h.2 y hy).below hb⟩
theorem LsAt.get {w : World} {A : Option Addr} {c : Nat} {ys : List Pl} (h : LsAt w A c ys) (k : Nat) (hk : k < ys.length) : ∃ b off, A = some ⟨b, off, none⟩ ∧ w.cell? ⟨b, off + k, none⟩ = some (.slice ys[k].A ys[k].l.length ys[k].c) ∧ Sl w 2 ys[k].A ys[k].l.length ys[k].c (pcells ys[k].l) := by
  obtain ⟨b, off, ha, hc⟩ := h.1.2.2.2 (by rw [plc_len]; omega)
  refine ⟨b, off, ha, ?_, h.2 _ (List.getElem_mem hk)⟩
  rw [hc k (by rw [plc_len]; exact hk)]
  simp [plc, List.getElem?_eq_getElem hk, Pl.cell]
theorem info_nodes : (Try.prog.info? 23).map (fun i => (i.zero, i.size, i.bytes)) = some (some (.slice none 0 0), 1, 24) := by kernel_rfl
def pls (ys : List Pl) : List (List (Int × Int)) := ys.map Pl.l
/-- Lists of the call's own. -/
def LsOwn (w : World) (B : Nat) (A : Option Addr) (c : Nat) (ys : List Pl) : Prop := w.ownsRow B 23 1 (.slice A ys.length c) ys.length (plc ys) ∧ ∀ y ∈ ys, w.ownsRow B 77 2 (.slice y.A y.l.length y.c) y.l.length (pcells y.l)
theorem LsOwn.at {w : World} {B : Nat} {A : Option Addr} {c : Nat} {ys : List Pl} (h : LsOwn w B A c ys) : LsAt w A c ys := ⟨sl_own h.1, fun y hy => sl_own (h.2 y hy)⟩
theorem LsOwn.keep {w w' : World} {B : Nat} {A : Option Addr} {c : Nat} {ys : List Pl} (h : LsOwn w B A c ys) (hb : Below w.heap.size w w') : LsOwn w' B A c ys := ⟨own_keep h.1 hb, fun y hy => own_keep (h.2 y hy) hb⟩

/-- What lists hold, one behind the other. -/
def joinN (op : Int) (ls : List (List (Int × Int))) : List (Int × Int) := ls.flatten ++ [(op, 0)]
theorem flatten_take {ls : List (List (Int × Int))} {k : Nat} (hk : k < ls.length) : (ls.take (k + 1)).flatten = (ls.take k).flatten ++ ls[k] := by
  rw [List.take_succ_eq_append_getElem hk, List.flatten_append, List.flatten_cons, List.flatten_nil, List.append_nil]
theorem flatten_len {ls : List (List (Int × Int))} {n k : Nat} (h : ∀ l ∈ ls, l.length ≤ n) : (ls.take k).flatten.length ≤ k * n := by
  induction k with
  | zero => simp
  | succ k ih =>
    by_cases hk : k < ls.length
    · rw [flatten_take hk, List.length_append]
      have := h _ (List.getElem_mem hk)
      rw [Nat.succ_mul]
      omega
    · rw [List.take_of_length_le (by omega)]
      rw [List.take_of_length_le (by omega)] at ih
      rw [Nat.succ_mul]
      omega

end Go.Proofs.Ytdphdodjidbngaa
