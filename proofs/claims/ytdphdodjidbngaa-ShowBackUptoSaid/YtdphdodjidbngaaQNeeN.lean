/- Needs: Parts: contracts. -/
import Derived.Test.YtdphdodjidbngaaQNeeL
namespace Go.Proofs.Ytdphdodjidbngaa
open Go.RowKit Go.Sort
set_option linter.unusedVariables false
set_option linter.unusedSimpArgs false

theorem flat_kids (t : Nt) : t.flat = flats t.kids ++ [lastN t] := by
  cases t <;> simp [Nt.flat, Nt.kids, flats, lastN]
def partsN (l : List (Int × Int)) : List (List (Int × Int)) := if chkN l = 0 then (match runN [] l with | some [t] => t.kids.map Nt.flat | _ => []) else []
theorem partsN_tree {t : Nt} (h : t.wf) (hc : chkN t.flat = 0) : partsN t.flat = t.kids.map Nt.flat := by unfold partsN; rw [if_pos hc, runN_flat t [] h]; rfl
theorem kids_split {ks : List Nt} {k : Nat} (hk : k < ks.length) : flats ks = flats (ks.take k) ++ (ks[k].flat ++ flats (ks.drop (k + 1))) := by
  conv => lhs; rw [← List.take_append_drop k ks, List.drop_eq_getElem_cons hk]
  rw [flats_append]
  congr 1
theorem flats_take {ks : List Nt} {k : Nat} (hk : k < ks.length) : flats (ks.take (k + 1)) = flats (ks.take k) ++ ks[k].flat := by
  rw [List.take_succ_eq_append_getElem hk, flats_append, flats_one]
theorem map_take {ks : List Nt} {k : Nat} (hk : k < ks.length) : (ks.take (k + 1)).map Nt.flat = (ks.take k).map Nt.flat ++ [ks[k].flat] := by
  rw [List.take_succ_eq_append_getElem hk, List.map_append]; rfl
theorem mid_eq {α : Type} (pre x post : List α) : ((pre ++ (x ++ post)).take (pre.length + x.length)).drop pre.length = x := by
  rw [← List.append_assoc, List.take_left' (by simp), List.drop_left' rfl]
theorem Sl.mid2 {w : World} {A : Option Addr} {len cap : Nat} {l : List (Int × Int)} (h : Sl w 2 A len cap (pcells l)) (f n : Nat) (hn : f + n ≤ len) : Sl w 2 (dropA A cap f 2) n (cap - f) (pcells ((l.take (f + n)).drop f)) := by
  have h1 := (h.take (f + n) hn).drop f (by omega)
  rw [pcells_take, pcells_drop, Nat.add_sub_cancel_left] at h1
  exact h1

set_option maxRecDepth 20000 in
set_option maxHeartbeats 4000000 in
theorem nparts_any (A : Option Addr) (cap : Nat) (l : List (Int × Int)) (W : World) (h : Sl W 2 A l.length cap (pcells l)) (hl : l.length ≤ 1000) :
    Calls Try.prog 67 #[.slice A l.length cap] W fun e w' => ∃ A' c' ys, pls ys = partsN l ∧ e = .returned (.slice A' ys.length c') ∧ LsAt w' A' c' ys ∧ Below W.heap.size W w' := by
  have HG := hid (grown_any A cap l W h hl)
  have HS := hid (fun w (hw : Below W.heap.size W w) => h.below hw)
  have hcp := h.2.1
  have hcm := h.2.2.1
  have hl9 : (l.length : Int) ≤ 1000 := by omega
  clear h
  go_enter Try.func67, Try.ntmps67
  go_wp2_with fail
  refine HG.out.mono ?_
  rintro e w1 ⟨hb, ⟨hc, rfl⟩ | ⟨t, g, c, hw, he, hd, hc, rfl, hcell⟩⟩
  · have HB := hid hb
    have HV : Hid (partsN l = []) := hid (by unfold partsN; rw [if_neg hc])
    generalize chkN l = k at *
    clear hb HG HS
    generalize l.length = m at *
    go_wp2
    go_ret
    exact ⟨none, 0, [], HV.out.symm, rfl, ⟨Sl.nil _ _ _ _ (Nat.zero_le _), fun y hy => by simp at hy⟩, HB.out⟩
  · have HB := hid hb
    have HV : Hid (partsN l = t.kids.map Nt.flat) := hid (by rw [he] at hc ⊢; exact partsN_tree hw hc)
    have HFK : Hid (l = flats t.kids ++ [lastN t]) := hid (by rw [he]; exact flat_kids t)
    have HOP := hid (operands_any t w1)
    have hkl := kids_len t
    obtain ⟨T0, v0, ht⟩ := tv_iface t
    rw [ht] at hcell HOP
    clear hb HG ht hc he hw hd
    generalize t.kids = ks at *
    generalize lastN t = z at *
    go_wp2_with fail
    refine HOP.out.mono ?_
    rintro e w2 ⟨A3, c3, rfl, hs3, hb3⟩
    have HS3 := hid (fun w (hw : Below w2.heap.size w2 w) => hs3.below hw)
    have HB3 := hid (HB.out.trans (hb3.mono HB.out.size))
    clear hs3 hb3 hcell HOP HB
    go_wp2_with fail
    go_loopw [5, 6, 8, 9, 22] (fun s f _ _ i wr => ∃ (k : Nat) (ys : List Pl) (B : Option Addr) (d : Nat), k ≤ ks.length ∧ i = .int .i64 (k : Int) ∧ f = .int .i64 ((flats (ks.take k)).length : Int) ∧ s = .slice B ys.length d ∧ Hid (pls ys = (ks.take k).map Nt.flat ∧ LsOwn wr w2.heap.size B d ys ∧ Below w2.heap.size w2 wr)) (fun _ _ _ _ i _ => ks.length - (intOf i).toNat)
    case atStart => exact ⟨0, [], none, 0, by omega, rfl, by simp [flats], rfl, by simp [pls], ⟨World.ownsRow_nil _ _ _ _, fun y hy => by simp at hy⟩, Below.refl _ _⟩
    case round =>
      obtain ⟨k, ys, B, d, hk, rfl, rfl, rfl, HR⟩ := hrel
      have hyl : ys.length ≤ 2 := by have := congrArg List.length HR.out.1; simp [pls] at this; omega
      by_cases hlt : k < ks.length
      · have hlt2 : (k : Int) < (ks.length : Int) := by omega
        obtain ⟨b1, o1, rfl, hc1⟩ := (HS3.out _ HR.out.2.2).tree k hlt
        have HSP := hid (kids_split hlt)
        have HFT := hid (flats_take hlt)
        have HMT := hid (map_take hlt)
        have HL : Hid (pls ys = (ks.take k).map Nt.flat) := hid HR.out.1
        have HO := hid HR.out.2.1
        have HBR := hid HR.out.2.2
        have HND := hid (nodes_any ks[k] wr)
        have hm := fun (F : Nat) => mth_nodes F ks[k]
        have hcf := cf_nodes ks[k]
        rw [tv_eq ks[k]] at hc1
        generalize tyT ks[k] = T at *
        generalize rcv ks[k] = v at *
        generalize fnN ks[k] = fn at *
        generalize (ks[k]).flat = xf at *
        generalize flats (ks.take k) = pre at *
        clear HR
        have hln : pre.length + xf.length ≤ l.length := by rw [HFK.out, HSP.out]; simp only [List.length_append]; omega
        have HX : Hid ((l.take (pre.length + xf.length)).drop pre.length = xf) := hid (by rw [HFK.out, HSP.out, List.append_assoc, List.append_assoc]; exact mid_eq _ _ _)
        have HND2 := hid (HND.out (by omega))
        have HSM := hid (fun w (hw : Below W.heap.size W w) => (HS.out w hw).mid2 pre.length xf.length hln)
        rw [HX.out] at HSM
        have hs3 : ∀ w : World, (Instr.slice 23 (.slice A l.length cap) (some (.int .i64 (pre.length : Int))) (some (.int .i64 ((pre.length : Int) + (xf.length : Int)))) none).run Try.prog w = .ok (.slice (dropA A cap pre.length 2) xf.length (cap - pre.length)) w := fun w => by
          have h9 := run_mid Try.underlying23 info_node A l.length cap pre.length (pre.length + xf.length) (by omega) (by omega) w
          rw [Nat.add_sub_cancel_left, Int.natCast_add] at h9
          exact h9
        have HCL := hid (fun w hw => clone_node (dropA A cap pre.length 2) xf.length (cap - pre.length) (pcells xf) w (HSM.out w hw) (pcells_one _) (by omega))
        have hpl : (pre.length : Int) ≤ 1000 := by omega
        have hxl : (xf.length : Int) ≤ 1000 := by omega
        have hpx : (pre.length : Int) + (xf.length : Int) ≤ 1000 := by omega
        have HXL : Hid ((flats (ks.take (k + 1))).length = pre.length + xf.length) := hid (by rw [HFT.out, List.length_append])
        clear HX HSM HND HSP
        generalize dropA A cap pre.length 2 = dA at *
        generalize cap - pre.length = dc at *
        generalize hxn : xf.length = xn at *
        generalize pre.length = pn at *
        go_wp2_with fail
        refine HND2.out.mono ?_
        rintro e w3 ⟨rfl, hb4⟩
        have HB4 := hid (HBR.out.trans (hb4.mono HBR.out.size))
        have HO4 := hid (HO.out.keep hb4)
        clear hb4 HND2 HBR HO hc1 hm hcf
        go_wp2_with fail
        refine (HCL.out _ (HB3.out.trans (HB4.out.mono HB3.out.size))).mono ?_
        rintro e w4 ⟨vc, rfl, hb5, ho5⟩
        obtain ⟨A5, c5, rfl, _⟩ := Sl.of_own ho5
        have HB5 := hid (HB4.out.trans (hb5.mono HB4.out.size))
        have HO5 := hid (HO4.out.keep hb5)
        have HI5 := hid (own_mono ho5 HB4.out.size)
        clear hb5 ho5 HB4 HO4 HCL
        have hOw := HO5.out.1
        have hbe := HB5.out.size
        go_wp2_with (at_builtin; refine wpList_append_1k (W := w2) rfl (.tmp 30) (.tmp 36) 83 rfl w2.heap.size 23 Try.underlying83 info_nodes rfl (by omega) rfl hOw rfl rfl (by simp; rfl) (by unfold maxLen; omega) (by omega) hbe HB5.out ?_)
        intro v' w6 ho6 hb6 hz6 hk6
        obtain ⟨A6, c6, rfl, _⟩ := Sl.of_own ho6
        have HB6 := hid hb6
        have HO6 : Hid (LsOwn w6 w2.heap.size A6 c6 (ys ++ [⟨xf, A5, c5⟩])) := hid ⟨by
          rw [List.length_append, show plc (ys ++ [⟨xf, A5, c5⟩]) = plc ys ++ [Value.slice A5 xn c5] by simp [plc, Pl.cell, hxn]]
          exact ho6, fun y hy => by
          rcases List.mem_append.1 hy with hy | hy
          · exact own_other (HO5.out.2 y hy) hOw (by decide) hk6
          · obtain rfl := List.mem_singleton.1 hy
            simp only [hxn]
            exact own_other HI5.out hOw (by decide) hk6⟩
        have HL6 : Hid (pls (ys ++ [⟨xf, A5, c5⟩]) = (ks.take (k + 1)).map Nt.flat) := hid (by rw [HMT.out, ← HL.out]; simp [pls])
        clear ho6 hb6 hz6 hk6 hOw HO5 HI5 HB5 hs3 hbe hxn
        go_wp2
        go_roundw
        case rel => exact ⟨k + 1, ys ++ [⟨xf, A5, c5⟩], A6, c6, by omega, by go_num, by rw [HXL.out]; rfl, by rw [List.length_append]; rfl, HL6.out, HO6.out, HB6.out⟩
        case measure => simp [intOf]; omega
      · have hge : ¬ (k : Int) < (ks.length : Int) := by omega
        have HL : Hid (pls ys = partsN l) := hid (by rw [HR.out.1, HV.out, List.take_of_length_le (by omega)])
        have HO := hid HR.out.2.1.at
        have HBW := hid (HB3.out.trans (HR.out.2.2.mono HB3.out.size))
        clear HR
        go_wp2
        go_ret
        exact ⟨B, d, ys, HL.out, rfl, HO.out, HBW.out⟩
end Go.Proofs.Ytdphdodjidbngaa
