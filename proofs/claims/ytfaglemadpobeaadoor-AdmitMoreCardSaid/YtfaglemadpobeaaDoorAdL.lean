/- Lists of lists; the document: Join. -/
import Derived.Test.YtfaglemadpobeaaDoorSlice
import Derived.Test.YtfaglemadpobeaaDoorKeep
import Derived.Test.YtfaglemadpobeaaDoorPair
namespace Go.Proofs.YtfaglemadpobeaaDoor
open Go.RowKit
set_option linter.unusedVariables false
set_option linter.unusedSimpArgs false

theorem info_node : (Tryd.prog.info? 37).map (fun i => (i.zero, i.size, i.bytes)) = some (some (.agg #[.int .i64 0, .int .i64 0]), 2, 16) := by kernel_rfl
/-- A list, and where it lies. -/
structure Pl where
  l : List (Int × Int)
  A : Option Addr
  c : Nat
def Pl.cell (p : Pl) : Value := .slice p.A p.l.length p.c
def plc (ys : List Pl) : List Value := ys.map Pl.cell
theorem plc_len (ys : List Pl) : (plc ys).length = ys.length := by simp [plc]
/-- Lists that are read. -/
def LsAt (w : World) (A : Option Addr) (c : Nat) (ys : List Pl) : Prop := Sl w 1 A ys.length c (plc ys) ∧ ∀ y ∈ ys, Sl w 2 y.A y.l.length y.c (pcells y.l)
theorem LsAt.below {w w' : World} {A : Option Addr} {c : Nat} {ys : List Pl} (h : LsAt w A c ys) (hb : Below w.heap.size w w') : LsAt w' A c ys := ⟨h.1.below hb, fun y hy => (h.2 y hy).below hb⟩
theorem LsAt.get {w : World} {A : Option Addr} {c : Nat} {ys : List Pl} (h : LsAt w A c ys) (k : Nat) (hk : k < ys.length) : ∃ b off, A = some ⟨b, off, none⟩ ∧ w.cell? ⟨b, off + k, none⟩ = some (.slice ys[k].A ys[k].l.length ys[k].c) ∧ Sl w 2 ys[k].A ys[k].l.length ys[k].c (pcells ys[k].l) := by
  obtain ⟨b, off, ha, hc⟩ := h.1.2.2.2 (by rw [plc_len]; omega)
  refine ⟨b, off, ha, ?_, h.2 _ (List.getElem_mem hk)⟩
  rw [hc k (by rw [plc_len]; exact hk)]
  simp [plc, List.getElem?_eq_getElem hk, Pl.cell]
theorem info_nodes : (Tryd.prog.info? 22).map (fun i => (i.zero, i.size, i.bytes)) = some (some (.slice none 0 0), 1, 24) := by kernel_rfl
def pls (ys : List Pl) : List (List (Int × Int)) := ys.map Pl.l
/-- Lists of the call's own. -/
def LsOwn (w : World) (B : Nat) (A : Option Addr) (c : Nat) (ys : List Pl) : Prop := w.ownsRow B 22 1 (.slice A ys.length c) ys.length (plc ys) ∧ ∀ y ∈ ys, w.ownsRow B 37 2 (.slice y.A y.l.length y.c) y.l.length (pcells y.l)
theorem LsOwn.at {w : World} {B : Nat} {A : Option Addr} {c : Nat} {ys : List Pl} (h : LsOwn w B A c ys) : LsAt w A c ys := ⟨sl_own h.1, fun y hy => sl_own (h.2 y hy)⟩
theorem LsOwn.keep {w w' : World} {B : Nat} {A : Option Addr} {c : Nat} {ys : List Pl} (h : LsOwn w B A c ys) (hb : Below w.heap.size w w') : LsOwn w' B A c ys := ⟨own_keep h.1 hb, fun y hy => own_keep (h.2 y hy) hb⟩
/-- What lists hold, one behind the other. -/
def joinN (op : Int) (ls : List (List (Int × Int))) : List (Int × Int) := ls.flatten ++ [(op, 0)]
theorem flatten_take {ls : List (List (Int × Int))} {k : Nat} (hk : k < ls.length) : (ls.take (k + 1)).flatten = (ls.take k).flatten ++ ls[k] := by
  rw [List.take_succ_eq_append_getElem hk, List.flatten_append, List.flatten_cons, List.flatten_nil, List.append_nil]
theorem flatten_len {ls : List (List (Int × Int))} {n k : Nat} (h : ∀ l ∈ ls, l.length ≤ n) : (ls.take k).flatten.length ≤ k * n := by
  induction k with
  | zero => simp
  | succ k ih =>
    by_cases hk : k < ls.length
    · rw [flatten_take hk, List.length_append]
      have := h _ (List.getElem_mem hk)
      rw [Nat.succ_mul]
      omega
    · rw [List.take_of_length_le (by omega)]
      rw [List.take_of_length_le (by omega)] at ih
      rw [Nat.succ_mul]
      omega
set_option maxRecDepth 20000 in
set_option maxHeartbeats 4000000 in
theorem rjoin_any (op : Int) (A : Option Addr) (c : Nat) (ys : List Pl) (W : World) (h : LsAt W A c ys) (hl : ys.length ≤ 5) (hm : ∀ y ∈ ys, y.l.length ≤ 100) :
    Calls Tryd.prog 12 #[.int .i64 op, .slice A ys.length c] W fun e w' => ∃ A' c', e = .returned (.slice A' (joinN op (pls ys)).length c') ∧ w'.ownsRow W.heap.size 37 2 (.slice A' (joinN op (pls ys)).length c') (joinN op (pls ys)).length (pcells (joinN op (pls ys))) ∧ Below W.heap.size W w' := by
  have HA := hid (fun w (hb : Below W.heap.size W w) => h.below hb)
  have hpl : (pls ys).length = ys.length := by simp [pls]
  have HFL := hid (fun k => flatten_len (ls := pls ys) (n := 100) (k := k) (fun l hl => by
    obtain ⟨y, hy, rfl⟩ := List.mem_map.1 hl
    exact hm y hy))
  have HFT := hid (fun k (hk : k < ys.length) => (flatten_take (ls := pls ys) (by rw [hpl]; exact hk)).trans (by rw [show (pls ys)[k]'(by rw [hpl]; exact hk) = ys[k].l by simp [pls]]))
  have HJ : Hid (joinN op (pls ys) = ((pls ys).take ys.length).flatten ++ [(op, 0)]) := hid (by rw [← hpl, List.take_length]; rfl)
  have HM := hid hm
  clear h hpl hm
  go_enter Tryd.func12, Tryd.ntmps12
  go_wp2_with fail
  go_loopw [5, 6] ((fun s i wr => ∃ (k : Nat) (B : Option Addr) (d : Nat), k ≤ ys.length ∧ i = .int .i64 (k : Int) ∧ s = .slice B ((pls ys).take k).flatten.length d ∧ Hid (wr.ownsRow W.heap.size 37 2 (.slice B ((pls ys).take k).flatten.length d) ((pls ys).take k).flatten.length (pcells ((pls ys).take k).flatten) ∧ Below W.heap.size W wr))) (fun _ i _ => ys.length - (intOf i).toNat)
  case atStart => exact ⟨0, none, 0, by omega, rfl, rfl, World.ownsRow_nil _ _ _ _, Below.refl _ _⟩
  case round =>
    obtain ⟨k, B, d, hk, rfl, rfl, HR⟩ := hrel
    have hfl := HFL.out k
    have hkb : k * 100 ≤ 500 := by omega
    by_cases hlt : k < ys.length
    · have hlt2 : (k : Int) < (ys.length : Int) := by omega
      obtain ⟨b1, o1, rfl, hc1, hs1⟩ := (HA.out _ HR.out.2).get k hlt
      have hyl := HM.out ys[k] (List.getElem_mem hlt)
      have HT := hid (HFT.out k hlt)
      have HO := hid HR.out.1
      have HBR := hid HR.out.2
      have HS1 := hid hs1
      generalize ys[k] = y at *
      obtain ⟨yl, yA, yc⟩ := y
      simp only at hc1 HT HS1 hyl
      generalize ((pls ys).take k).flatten = us at *
      have hbe := HBR.out.size
      clear hs1 HR
      go_wp2_with (at_builtin; refine wpList_append_sl (W := W) rfl (.tmp 13) (.tmp 17) 22 rfl W.heap.size 37 Tryd.underlying22 info_node rfl (by omega) rfl HO.out rfl HS1.out (pcells_one _) (by unfold maxLen; omega) (by omega) hbe HBR.out ?_)
      intro v' w2 ho2 hb2 hz2
      rw [← pcells_append] at ho2
      obtain ⟨A2, c2, rfl, _⟩ := Sl.of_own ho2
      have HO2 := hid ho2
      have HB2 := hid hb2
      have hlen : us.length + yl.length = ((pls ys).take (k + 1)).flatten.length := by rw [HT.out]; simp
      clear ho2 hb2 hz2 hc1
      go_wp2
      go_roundw
      case rel => exact ⟨k + 1, A2, c2, by omega, by go_num, by rw [← hlen], by
        rw [← hlen, HT.out]
        exact ⟨HO2.out, HB2.out⟩⟩
      case measure => simp [intOf]; omega
    · have hge : ¬ (k : Int) < (ys.length : Int) := by omega
      obtain rfl : k = ys.length := by omega
      have HO := hid HR.out.1
      have HBR := hid HR.out.2
      have hbe := HBR.out.size
      clear HR
      generalize ((pls ys).take ys.length).flatten = us at *
      go_wp2_with (at_builtin; refine wpList_append_1 (W := W) rfl (.tmp 19) (.tmp 22) 22 rfl W.heap.size 37 Tryd.underlying22 info_node rfl (by omega) rfl HO.out rfl rfl (by simp [Value.oneCell']) (by unfold maxLen; omega) (by omega) hbe HBR.out ?_)
      intro v' w2 ho2 hb2 hz2
      obtain ⟨A2, c2, rfl, _⟩ := Sl.of_own ho2
      have HO2 := hid ho2
      have HB2 := hid hb2
      clear ho2 hb2 hz2
      go_wp2
      go_ret
      refine ⟨A2, c2, ?_, ?_, HB2.out⟩
      · rw [HJ.out, List.length_append]; rfl
      · rw [HJ.out, pcells_append, List.length_append]
        exact HO2.out
end Go.Proofs.YtfaglemadpobeaaDoor
