/- Needs: lists of lists; Parts, Join, Lists: contracts. -/
import Derived.Test.YtjhehncpfcgnhaaNeQ
import Derived.Deep.RegionHeld3
import Derived.BigQuiet
import Derived.Lib.QuietBelow
namespace Go.Proofs.Ytjhehncpfcgnhaa
open Go.RowKit Go.Sort
set_option linter.unusedVariables false
set_option linter.unusedSimpArgs false

theorem own_emptyN (w : World) (e size : Nat) : (w.alloc (.cells #[] e)).ownsRow w.heap.size e size (.slice (some ⟨w.heap.size, 0, none⟩) 0 0) 0 [] :=
  World.ownsRow_lit w #[] 0 (Nat.le_refl _) (Nat.zero_le _) (by simp)
theorem info_node : (Try.prog.info? 79).map (fun i => (i.zero, i.size, i.bytes)) = some (some (.agg #[.int .i64 0, .int .i64 0]), 2, 16) := by kernel_rfl
set_option maxRecDepth 20000 in
theorem clone_node (A : Option Addr) (len cap : Nat) (cs : List Value) (W : World) (h : Sl W 2 A len cap cs) (h1 : ∀ u ∈ cs, u.oneCell' = true) (hlen : len ≤ 100000) :
    Calls Try.prog 91 #[.slice A len cap] W fun e w' => ∃ v, e = .returned v ∧ Below W.heap.size W w' ∧ w'.ownsRow W.heap.size 79 2 v len cs := by
  have hl := h.1
  have HL := hid hlen
  clear hlen
  rcases A with _ | ad
  · have h0 : cs = [] := by
      rcases Nat.eq_zero_or_pos cs.length with h0 | h0
      · exact List.eq_nil_of_length_eq_zero h0
      · obtain ⟨b, off, ha, _⟩ := h.2.2.2 h0
        cases ha
    subst h0
    have hz : len = 0 := by simp at hl; omega
    subst hz
    clear hl h h1
    have he : ∀ w : World, (binOp .eql 25 (.slice none 0 cap) (.slice none 0 0)).run Try.prog w = .ok (.bool true) w := fun _ => rfl
    go_enter Try.func91, Try.ntmps91
    go_wp2
    go_ret
    exact ⟨_, rfl, Below.refl _ _, World.ownsRow_nil _ _ _ _⟩
  · have HS := hid h
    have HE := hid (own_emptyN W 79 2)
    have H1 := hid h1
    clear h h1 hl
    have he : ∀ w : World, (binOp .eql 25 (.slice (some ad) len cap) (.slice none 0 0)).run Try.prog w = .ok (.bool false) w := fun _ => rfl
    go_enter Try.func91, Try.ntmps91
    go_wp2_with (at_builtin; refine wpList_append_sl (W := W) rfl (.tmp 5) (.tmp 6) 25 rfl W.heap.size 79 Try.underlying25 info_node rfl (by omega) rfl HE.out rfl (HS.out.below ((Below.refl _ _).alloc (Nat.le_refl _) _)) H1.out (by have := HL.out; unfold maxLen; omega) (by have := HL.out; omega) (by simp) ((Below.refl _ _).alloc (Nat.le_refl _) _) ?_)
    intro v1 w1 ho1 hb1 _
    go_wp2
    go_ret
    exact ⟨_, rfl, hb1, by simpa using ho1⟩


/-- A list, and where it lies. -/
structure Pl where
  l : List (Int × Int)
  A : Option Addr
  c : Nat
instance : Inhabited Pl := ⟨⟨[], none, 0⟩⟩
def Pl.cell (p : Pl) : Value := .slice p.A p.l.length p.c
def plc (ys : List Pl) : List Value := ys.map Pl.cell
theorem plc_len (ys : List Pl) : (plc ys).length = ys.length := by simp [plc]
/-- Lists that are read. -/
def LsAt (w : World) (A : Option Addr) (c : Nat) (ys : List Pl) : Prop := Sl w 1 A ys.length c (plc ys) ∧ ∀ y ∈ ys, Sl w 2 y.A y.l.length y.c (pcells y.l)
theorem LsAt.below {w w' : World} {A : Option Addr} {c : Nat} {ys : List Pl} (h : LsAt w A c ys) (hb : Below w.heap.size w w') : LsAt w' A c ys := ⟨h.1.below hb, fun y hy => (h.2 y hy).below hb⟩
theorem LsAt.get {w : World} {A : Option Addr} {c : Nat} {ys : List Pl} (h : LsAt w A c ys) (k : Nat) (hk : k < ys.length) : ∃ b off, A = some ⟨b, off, none⟩ ∧ w.cell? ⟨b, off + k, none⟩ = some (.slice ys[k].A ys[k].l.length ys[k].c) ∧ Sl w 2 ys[k].A ys[k].l.length ys[k].c (pcells ys[k].l) := by
  obtain ⟨b, off, ha, hc⟩ := h.1.2.2.2 (by rw [plc_len]; omega)
  refine ⟨b, off, ha, ?_, h.2 _ (List.getElem_mem hk)⟩
  rw [hc k (by rw [plc_len]; exact hk)]
  simp [plc, List.getElem?_eq_getElem hk, Pl.cell]
theorem info_nodes : (Try.prog.info? 25).map (fun i => (i.zero, i.size, i.bytes)) = some (some (.slice none 0 0), 1, 24) := by kernel_rfl
def pls (ys : List Pl) : List (List (Int × Int)) := ys.map Pl.l
/-- Lists of the call's own. -/
def LsOwn (w : World) (B : Nat) (A : Option Addr) (c : Nat) (ys : List Pl) : Prop := w.ownsRow B 25 1 (.slice A ys.length c) ys.length (plc ys) ∧ ∀ y ∈ ys, w.ownsRow B 79 2 (.slice y.A y.l.length y.c) y.l.length (pcells y.l)
theorem LsOwn.at {w : World} {B : Nat} {A : Option Addr} {c : Nat} {ys : List Pl} (h : LsOwn w B A c ys) : LsAt w A c ys := ⟨sl_own h.1, fun y hy => sl_own (h.2 y hy)⟩
theorem LsOwn.keep {w w' : World} {B : Nat} {A : Option Addr} {c : Nat} {ys : List Pl} (h : LsOwn w B A c ys) (hb : Below w.heap.size w w') : LsOwn w' B A c ys := ⟨own_keep h.1 hb, fun y hy => own_keep (h.2 y hy) hb⟩

set_option maxRecDepth 20000 in
set_option maxHeartbeats 4000000 in
theorem rlists_any (A B : Option Addr) (c d : Nat) (ys zs : List Pl) (W : World) (hA : LsAt W A c ys) (hB : LsAt W B d zs) :
    Calls Try.prog 55 #[.slice A ys.length c, .slice B zs.length d] W fun e w' => e = .returned (.bool (pls ys == pls zs)) ∧ Below W.heap.size W w' := by
  have hy9 := hA.1.len63
  have hz9 := hB.1.len63
  by_cases hn : ys.length = zs.length
  · have HA := hid (fun w (hb : Below W.heap.size W w) => hA.below hb)
    have HB := hid (fun w (hb : Below W.heap.size W w) => hB.below hb)
    have HE := hid hn
    have HV : Hid (∀ k, (∀ j (hj : j < ys.length) (hj' : j < zs.length), j < k → ys[j].l = zs[j].l) → k = ys.length → (pls ys == pls zs) = true) := hid (fun k hk he => by
      rw [beq_iff_eq]
      unfold pls
      refine List.ext_getElem (by simpa using hn) (fun j h1 h2 => ?_)
      simp only [List.getElem_map]
      exact hk j (by simpa using h1) (by simpa using h2) (by simp at h1; omega))
    have HN : Hid (∀ k (hk : k < ys.length) (hk' : k < zs.length), ys[k].l ≠ zs[k].l → (pls ys == pls zs) = false) := hid (fun k hk hk' he => by
      rw [beq_eq_false_iff_ne]
      intro h9
      apply he
      have := congrArg (fun l => l[k]?) h9
      simpa [pls, hk, hk'] using this)
    generalize (pls ys == pls zs) = r at *
    clear hA hB
    have hzl : Hid (zs.length = ys.length) := hid hn.symm
    go_enter Try.func55, Try.ntmps55
    rw [← hn]
    go_wp2_with fail
    go_loopw [5] (fun i wr => ∃ k : Nat, k ≤ ys.length ∧ i = .int .i64 (k : Int) ∧ Hid ((∀ j (hj : j < ys.length) (hj' : j < zs.length), j < k → ys[j].l = zs[j].l) ∧ Below W.heap.size W wr)) (fun i _ => ys.length - (intOf i).toNat)
    case atStart => exact ⟨0, by omega, rfl, fun j _ _ h => absurd h (by omega), Below.refl _ _⟩
    case round =>
      obtain ⟨k, hk, rfl, HR⟩ := hrel
      by_cases hlt : k < ys.length
      · have hlt2 : (k : Int) < (ys.length : Int) := by omega
        have hlz : k < zs.length := by have := HE.out; omega
        obtain ⟨b1, o1, rfl, hc1, hs1⟩ := (HA.out _ HR.out.2).get k hlt
        obtain ⟨b2, o2, rfl, hc2, hs2⟩ := (HB.out _ HR.out.2).get k hlz
        have HC := hid (fun w (hw : Below wr.heap.size wr w) => rnsame_bel ys[k].A zs[k].A ys[k].c zs[k].c ys[k].l zs[k].l w (hs1.below hw) (hs2.below hw))
        have HNX := hid (HN.out k hlt hlz)
        have HPX : Hid (ys[k].l = zs[k].l → ∀ j (hj : j < ys.length) (hj' : j < zs.length), j < k + 1 → ys[j].l = zs[j].l) := hid (fun he j hj hj' hjk => by
          by_cases hjk2 : j < k
          · exact HR.out.1 j hj hj' hjk2
          · obtain rfl : j = k := by omega
            exact he)
        have HBW := hid HR.out.2
        clear hs1 hs2 HR
        generalize ys[k] = y at *
        generalize zs[k] = z at *
        obtain ⟨yl, yA, yc⟩ := y
        obtain ⟨zl, zA, zc⟩ := z
        simp only at *
        by_cases he : yl = zl
        · have hb : (yl == zl) = true := by simp [he]
          rw [hb] at HC
          have HPY := hid (HPX.out he)
          clear he hb HNX HPX
          generalize yl.length = m1 at *
          generalize zl.length = m2 at *
          have cR := reg (w := wr) HC.out
          replace hc1 := cell_regrown hc1
          replace hc2 := cell_regrown hc2
          go_upto_region 6 with (fail)
          refine wp_region_quiet_below (by kernel_rfl) (by kernel_rfl) ?_
          repeat (go_big_quiet_step (first | (go_at_call 19; with_reducible exact cR _ _)))
          refine wpQuiet_nil ?_
          intro _ hw'
          obtain ⟨⟨dq, osq⟩, hw''⟩ := hw'
          subst hw''
          have HB2 := hid (HBW.out.trans ((below_regrown wr dq osq).mono HBW.out.size))
          clear hc1 hc2 cR HC
          go_wp2
          go_roundw
          case rel => exact ⟨k + 1, by omega, by go_num, HPY.out, HB2.out⟩
          case measure => simp [intOf]; omega
        · have hb : (yl == zl) = false := by simp [he]
          rw [hb] at HC
          have HV2 := hid (HNX.out he)
          clear he hb HNX HPX
          generalize yl.length = m1 at *
          generalize zl.length = m2 at *
          have cR := reg (w := wr) HC.out
          replace hc1 := cell_regrown hc1
          replace hc2 := cell_regrown hc2
          go_upto_region 6 with (fail)
          refine wp_region_quiet_below (by kernel_rfl) (by kernel_rfl) ?_
          repeat (go_big_quiet_step (first | (go_at_call 19; with_reducible exact cR _ _)))
          refine wpQuiet_nil ?_
          intro _ hw'
          obtain ⟨⟨dq, osq⟩, hw''⟩ := hw'
          subst hw''
          have HB2 := hid (HBW.out.trans ((below_regrown wr dq osq).mono HBW.out.size))
          clear hc1 hc2 cR HC
          go_wp2
          go_ret
          exact ⟨by rw [HV2.out]; rfl, HB2.out⟩
      · have hge : ¬ (k : Int) < (ys.length : Int) := by omega
        have HV2 := hid (HV.out k HR.out.1 (by omega))
        have HBW := hid HR.out.2
        clear HR
        go_wp2
        go_ret
        exact ⟨by rw [HV2.out]; rfl, HBW.out⟩
  · have HV : Hid ((pls ys == pls zs) = false) := hid (by
      rw [beq_eq_false_iff_ne]
      intro h9
      apply hn
      simpa [pls] using congrArg List.length h9)
    have hn' : ¬ ((ys.length : Int) = (zs.length : Int)) := by omega
    clear hA hB
    generalize ys.length = m1 at *
    generalize zs.length = m2 at *
    go_enter Try.func55, Try.ntmps55
    go_wp2
    go_ret
    exact ⟨by rw [HV.out]; rfl, Below.refl _ _⟩

/-- What lists hold, one behind the other. -/
def joinN (op : Int) (ls : List (List (Int × Int))) : List (Int × Int) := ls.flatten ++ [(op, 0)]
theorem flatten_take {ls : List (List (Int × Int))} {k : Nat} (hk : k < ls.length) : (ls.take (k + 1)).flatten = (ls.take k).flatten ++ ls[k] := by
  rw [List.take_succ_eq_append_getElem hk, List.flatten_append, List.flatten_cons, List.flatten_nil, List.append_nil]
theorem flatten_len {ls : List (List (Int × Int))} {n k : Nat} (h : ∀ l ∈ ls, l.length ≤ n) : (ls.take k).flatten.length ≤ k * n := by
  induction k with
  | zero => simp
  | succ k ih =>
    by_cases hk : k < ls.length
    · rw [flatten_take hk, List.length_append]
      have := h _ (List.getElem_mem hk)
      rw [Nat.succ_mul]
      omega
    · rw [List.take_of_length_le (by omega)]
      rw [List.take_of_length_le (by omega)] at ih
      rw [Nat.succ_mul]
      omega

set_option maxRecDepth 20000 in
set_option maxHeartbeats 4000000 in
theorem njoin_any (op : Int) (A : Option Addr) (c : Nat) (ys : List Pl) (W : World) (h : LsAt W A c ys) (hl : ys.length ≤ 5) (hm : ∀ y ∈ ys, y.l.length ≤ 100) :
    Calls Try.prog 58 #[.int .i64 op, .slice A ys.length c] W fun e w' => ∃ A' c', e = .returned (.slice A' (joinN op (pls ys)).length c') ∧ w'.ownsRow W.heap.size 79 2 (.slice A' (joinN op (pls ys)).length c') (joinN op (pls ys)).length (pcells (joinN op (pls ys))) ∧ Below W.heap.size W w' := by
  have HA := hid (fun w (hb : Below W.heap.size W w) => h.below hb)
  have hpl : (pls ys).length = ys.length := by simp [pls]
  have HFL := hid (fun k => flatten_len (ls := pls ys) (n := 100) (k := k) (fun l hl => by
    obtain ⟨y, hy, rfl⟩ := List.mem_map.1 hl
    exact hm y hy))
  have HFT := hid (fun k (hk : k < ys.length) => (flatten_take (ls := pls ys) (by rw [hpl]; exact hk)).trans (by rw [show (pls ys)[k]'(by rw [hpl]; exact hk) = ys[k].l by simp [pls]]))
  have HJ : Hid (joinN op (pls ys) = ((pls ys).take ys.length).flatten ++ [(op, 0)]) := hid (by rw [← hpl, List.take_length]; rfl)
  have HM := hid hm
  clear h hpl hm
  go_enter Try.func58, Try.ntmps58
  go_wp2_with fail
  go_loopw [5, 7, 10] ((fun s _ i wr => ∃ (k : Nat) (B : Option Addr) (d : Nat), k ≤ ys.length ∧ i = .int .i64 (k : Int) ∧ s = .slice B ((pls ys).take k).flatten.length d ∧ Hid (wr.ownsRow W.heap.size 79 2 (.slice B ((pls ys).take k).flatten.length d) ((pls ys).take k).flatten.length (pcells ((pls ys).take k).flatten) ∧ Below W.heap.size W wr))) (fun _ _ i _ => ys.length - (intOf i).toNat)
  case atStart => exact ⟨0, none, 0, by omega, rfl, rfl, World.ownsRow_nil _ _ _ _, Below.refl _ _⟩
  case round =>
    obtain ⟨k, B, d, hk, rfl, rfl, HR⟩ := hrel
    have hfl := HFL.out k
    have hkb : k * 100 ≤ 500 := by omega
    by_cases hlt : k < ys.length
    · have hlt2 : (k : Int) < (ys.length : Int) := by omega
      obtain ⟨b1, o1, rfl, hc1, hs1⟩ := (HA.out _ HR.out.2).get k hlt
      have hyl := HM.out ys[k] (List.getElem_mem hlt)
      have HT := hid (HFT.out k hlt)
      have HO := hid HR.out.1
      have HBR := hid HR.out.2
      have HS1 := hid hs1
      generalize ys[k] = y at *
      obtain ⟨yl, yA, yc⟩ := y
      simp only at hc1 HT HS1 hyl
      generalize ((pls ys).take k).flatten = us at *
      have hbe := HBR.out.size
      clear hs1 HR
      go_wp2_with (at_builtin; refine wpList_append_sl (W := W) rfl (.tmp 14) (.tmp 15) 25 rfl W.heap.size 79 Try.underlying25 info_node rfl (by omega) rfl HO.out rfl HS1.out (pcells_one _) (by unfold maxLen; omega) (by omega) hbe HBR.out ?_)
      intro v' w2 ho2 hb2 hz2
      rw [← pcells_append] at ho2
      obtain ⟨A2, c2, rfl, _⟩ := Sl.of_own ho2
      have HO2 := hid ho2
      have HB2 := hid hb2
      have hlen : us.length + yl.length = ((pls ys).take (k + 1)).flatten.length := by rw [HT.out]; simp
      clear ho2 hb2 hz2 hc1
      go_wp2
      go_roundw
      case rel => exact ⟨k + 1, A2, c2, by omega, by go_num, by rw [← hlen], by
        rw [← hlen, HT.out]
        exact ⟨HO2.out, HB2.out⟩⟩
      case measure => simp [intOf]; omega
    · have hge : ¬ (k : Int) < (ys.length : Int) := by omega
      obtain rfl : k = ys.length := by omega
      have HO := hid HR.out.1
      have HBR := hid HR.out.2
      have hbe := HBR.out.size
      clear HR
      generalize ((pls ys).take ys.length).flatten = us at *
      go_wp2_with (at_builtin; refine wpList_append_1 (W := W) rfl (.tmp 18) (.tmp 21) 25 rfl W.heap.size 79 Try.underlying25 info_node rfl (by omega) rfl HO.out rfl rfl (by simp [Value.oneCell']) (by unfold maxLen; omega) (by omega) hbe HBR.out ?_)
      intro v' w2 ho2 hb2 hz2
      obtain ⟨A2, c2, rfl, _⟩ := Sl.of_own ho2
      have HO2 := hid ho2
      have HB2 := hid hb2
      clear ho2 hb2 hz2
      go_wp2
      go_ret
      refine ⟨A2, c2, ?_, ?_, HB2.out⟩
      · rw [HJ.out, List.length_append]; rfl
      · rw [HJ.out, pcells_append, List.length_append]
        exact HO2.out

set_option maxRecDepth 20000 in
set_option maxHeartbeats 4000000 in
theorem rjoin_any (op : Int) (A : Option Addr) (c : Nat) (ys : List Pl) (W : World) (h : LsAt W A c ys) (hl : ys.length ≤ 5) (hm : ∀ y ∈ ys, y.l.length ≤ 100) :
    Calls Try.prog 59 #[.int .i64 op, .slice A ys.length c] W fun e w' => ∃ A' c', e = .returned (.slice A' (joinN op (pls ys)).length c') ∧ w'.ownsRow W.heap.size 79 2 (.slice A' (joinN op (pls ys)).length c') (joinN op (pls ys)).length (pcells (joinN op (pls ys))) ∧ Below W.heap.size W w' := by
  have HA := hid (fun w (hb : Below W.heap.size W w) => h.below hb)
  have hpl : (pls ys).length = ys.length := by simp [pls]
  have HFL := hid (fun k => flatten_len (ls := pls ys) (n := 100) (k := k) (fun l hl => by
    obtain ⟨y, hy, rfl⟩ := List.mem_map.1 hl
    exact hm y hy))
  have HFT := hid (fun k (hk : k < ys.length) => (flatten_take (ls := pls ys) (by rw [hpl]; exact hk)).trans (by rw [show (pls ys)[k]'(by rw [hpl]; exact hk) = ys[k].l by simp [pls]]))
  have HJ : Hid (joinN op (pls ys) = ((pls ys).take ys.length).flatten ++ [(op, 0)]) := hid (by rw [← hpl, List.take_length]; rfl)
  have HM := hid hm
  clear h hpl hm
  go_enter Try.func59, Try.ntmps59
  go_wp2_with fail
  go_loopw [5, 6] ((fun s i wr => ∃ (k : Nat) (B : Option Addr) (d : Nat), k ≤ ys.length ∧ i = .int .i64 (k : Int) ∧ s = .slice B ((pls ys).take k).flatten.length d ∧ Hid (wr.ownsRow W.heap.size 79 2 (.slice B ((pls ys).take k).flatten.length d) ((pls ys).take k).flatten.length (pcells ((pls ys).take k).flatten) ∧ Below W.heap.size W wr))) (fun _ i _ => ys.length - (intOf i).toNat)
  case atStart => exact ⟨0, none, 0, by omega, rfl, rfl, World.ownsRow_nil _ _ _ _, Below.refl _ _⟩
  case round =>
    obtain ⟨k, B, d, hk, rfl, rfl, HR⟩ := hrel
    have hfl := HFL.out k
    have hkb : k * 100 ≤ 500 := by omega
    by_cases hlt : k < ys.length
    · have hlt2 : (k : Int) < (ys.length : Int) := by omega
      obtain ⟨b1, o1, rfl, hc1, hs1⟩ := (HA.out _ HR.out.2).get k hlt
      have hyl := HM.out ys[k] (List.getElem_mem hlt)
      have HT := hid (HFT.out k hlt)
      have HO := hid HR.out.1
      have HBR := hid HR.out.2
      have HS1 := hid hs1
      generalize ys[k] = y at *
      obtain ⟨yl, yA, yc⟩ := y
      simp only at hc1 HT HS1 hyl
      generalize ((pls ys).take k).flatten = us at *
      have hbe := HBR.out.size
      clear hs1 HR
      go_wp2_with (at_builtin; refine wpList_append_sl (W := W) rfl (.tmp 13) (.tmp 17) 25 rfl W.heap.size 79 Try.underlying25 info_node rfl (by omega) rfl HO.out rfl HS1.out (pcells_one _) (by unfold maxLen; omega) (by omega) hbe HBR.out ?_)
      intro v' w2 ho2 hb2 hz2
      rw [← pcells_append] at ho2
      obtain ⟨A2, c2, rfl, _⟩ := Sl.of_own ho2
      have HO2 := hid ho2
      have HB2 := hid hb2
      have hlen : us.length + yl.length = ((pls ys).take (k + 1)).flatten.length := by rw [HT.out]; simp
      clear ho2 hb2 hz2 hc1
      go_wp2
      go_roundw
      case rel => exact ⟨k + 1, A2, c2, by omega, by go_num, by rw [← hlen], by
        rw [← hlen, HT.out]
        exact ⟨HO2.out, HB2.out⟩⟩
      case measure => simp [intOf]; omega
    · have hge : ¬ (k : Int) < (ys.length : Int) := by omega
      obtain rfl : k = ys.length := by omega
      have HO := hid HR.out.1
      have HBR := hid HR.out.2
      have hbe := HBR.out.size
      clear HR
      generalize ((pls ys).take ys.length).flatten = us at *
      go_wp2_with (at_builtin; refine wpList_append_1 (W := W) rfl (.tmp 19) (.tmp 22) 25 rfl W.heap.size 79 Try.underlying25 info_node rfl (by omega) rfl HO.out rfl rfl (by simp [Value.oneCell']) (by unfold maxLen; omega) (by omega) hbe HBR.out ?_)
      intro v' w2 ho2 hb2 hz2
      obtain ⟨A2, c2, rfl, _⟩ := Sl.of_own ho2
      have HO2 := hid ho2
      have HB2 := hid hb2
      clear ho2 hb2 hz2
      go_wp2
      go_ret
      refine ⟨A2, c2, ?_, ?_, HB2.out⟩
      · rw [HJ.out, List.length_append]; rfl
      · rw [HJ.out, pcells_append, List.length_append]
        exact HO2.out
end Go.Proofs.Ytjhehncpfcgnhaa
