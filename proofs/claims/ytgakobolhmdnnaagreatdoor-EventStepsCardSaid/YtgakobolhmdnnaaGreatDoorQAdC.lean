/- Admit: the document's Workers; both Any: contracts. -/
import Derived.Test.YtgakobolhmdnnaaGreatDoorQAdB
namespace Go.Proofs.YtgakobolhmdnnaaGreatDoor
open Go.RowKit Go.Sort
set_option linter.unusedVariables false
set_option linter.unusedSimpArgs false

set_option maxRecDepth 20000 in
set_option maxHeartbeats 4000000 in
theorem rworkers_any (A : Option Addr) (cap : Nat) (l : List (Int × Int)) (B : Option Addr) (cw : Nat) (ws : List Wk) (W : World) (h : Sl W 2 A l.length cap (pcells l)) (hl : l.length ≤ 1000) (hw : Sl W 3 B ws.length cw (gcells wkc ws)) (hws : ∀ x ∈ ws, x.2.2 < 18446744073709551616) (hwl : ws.length ≤ 1000) :
    Calls Tryz.prog 45 #[.slice A l.length cap, .slice B ws.length cw] W fun e w' => e = .returned (.int .u64 (wkS l ws : Nat)) ∧ Below W.heap.size W w' := by
  have HS := hid (fun w (hb : Below W.heap.size W w) => hw.below hb)
  have HY := hid (fun s hs w (hb : Below W.heap.size W w) => rsays09_any A cap l s w (h.below hb) hl hs)
  have HW := hid hws
  have HEND : Hid (ofL (rwU l ws ws.length) = wkS l ws) := hid (wkS_eq l ws)
  have hwl2 : (ws.length : Int) ≤ 1000 := by omega
  generalize wkS l ws = r at *
  clear h hl hw hws
  go_enter Tryz.func45, Tryz.ntmps45
  go_wp2_with fail
  go_loopw [5, 6] (fun s i wr => ∃ (k : Nat) (C : Option Addr) (c : Nat), k ≤ ws.length ∧ i = .int .i64 (k : Int) ∧ s = .slice C (rwU l ws k).length c ∧ Hid (wr.ownsRow W.heap.size 3 1 (.slice C (rwU l ws k).length c) (rwU l ws k).length (icells .i64 (rwU l ws k)) ∧ Below W.heap.size W wr)) (fun _ i _ => ws.length - (intOf i).toNat)
  case atStart => exact ⟨0, none, 0, by omega, rfl, rfl, World.ownsRow_nil _ _ _ _, Below.refl _ _⟩
  case round =>
    obtain ⟨k, C, c, hk, rfl, rfl, HR⟩ := hrel
    have hle := rwU_len l ws k
    by_cases hlt : k < ws.length
    · have hlt2 : (k : Int) < (ws.length : Int) := by omega
      obtain ⟨b, off, rfl, hcl⟩ := Sl.gat (f := wkc) (n := 3) (fun _ => rfl) (HS.out _ HR.out.2) k hlt (by omega)
      have c2 := hcl 2 _ rfl
      have hka := HW.out ws[k] (List.getElem_mem hlt)
      have HAT : Hid (atW ws k = (ws[k]).2.2) := hid (by unfold atW; rw [List.getD_eq_getElem?_getD, List.getElem?_eq_getElem hlt]; rfl)
      have HV : Hid (rwU l ws (k + 1) = rwU l ws k ++ if sayN l (atW ws k) then [(k : Int)] else []) := hid rfl
      rw [HAT.out] at HV
      clear hcl HAT
      generalize ws[k] = x at *
      obtain ⟨x0, x1, x2⟩ := x
      simp only at c2 hka HV
      generalize rwU l ws k = v0 at *
      have HYC := hid (HY.out x2 hka _ HR.out.2)
      have HO := hid HR.out.1
      have HB := hid HR.out.2
      clear HR
      generalize hhs : sayN l x2 = hs at *
      go_wp2_with fail
      refine HYC.out.mono ?_
      rintro e w2 ⟨rfl, hb2⟩
      have HB2 := hid (HB.out.trans (hb2.mono HB.out.size))
      have HO2 := hid (own_keep HO.out hb2)
      have HZ2 := hid (Nat.le_trans HB.out.size hb2.size)
      clear hb2 HYC
      cases hs with
      | true =>
        go_wp2_with (at_builtin; go_loud (refine wpList_append_1 (W := w2) rfl (.tmp 20) (.tmp 22) 42 rfl W.heap.size 3 Tryz.underlying42 info_int rfl (by omega) rfl HO2.out rfl rfl (by simp; rfl) (by unfold maxLen; omega) (by omega) HZ2.out (Below.refl _ _) ?_))
        intro v' w3 ho3 hb3 hz3
        obtain ⟨A3, c3, rfl, _⟩ := Sl.of_own ho3
        have HJ : Hid (w3.ownsRow W.heap.size 3 1 (.slice A3 (v0 ++ [(k : Int)]).length c3) (v0 ++ [(k : Int)]).length (icells .i64 (v0 ++ [(k : Int)]))) := hid (by
          rw [icells_append, List.length_append]
          exact ho3)
        have HB3 := hid (HB2.out.trans hb3)
        clear ho3 hb3 hz3
        go_wp2
        go_roundw
        case rel => exact ⟨k + 1, A3, c3, by omega, by go_num, by rw [HV.out]; simp, by rw [HV.out]; exact ⟨HJ.out, HB3.out⟩⟩
        case measure => simp [intOf]; omega
      | false =>
        go_wp2_with fail
        go_roundw
        case rel => exact ⟨k + 1, C, c, by omega, by go_num, by rw [HV.out]; simp, by rw [HV.out]; simp; exact ⟨HO2.out, HB2.out⟩⟩
        case measure => simp [intOf]; omega
    · have hge : ¬ (k : Int) < (ws.length : Int) := by omega
      obtain rfl : k = ws.length := by omega
      have HOF := hid (rof_any C _ c _ wr (sl_own HR.out.1))
      rw [HEND.out] at HOF
      have HB := hid HR.out.2
      clear HR
      generalize (rwU l ws ws.length).length = q at *
      go_wp2_with fail
      refine HOF.out.mono ?_
      rintro e w2 ⟨rfl, rfl⟩
      go_wp2
      go_ret
      exact ⟨rfl, HB.out⟩

set_option maxRecDepth 20000 in
set_option maxHeartbeats 4000000 in
theorem any_any (A : Option Addr) (c : Nat) (ys : List Pl) (B : Option Addr) (cw : Nat) (ws : List Wk) (W : World) (h : LsAt W A c ys) (hy : ys.length ≤ 10) (hl : ∀ y ∈ ys, y.l.length ≤ 1000) (hw : Sl W 3 B ws.length cw (gcells wkc ws)) (hws : ∀ x ∈ ws, x.2.2 < 18446744073709551616) (hwl : ws.length ≤ 1000) :
    Calls Tryz.prog 97 #[.slice A ys.length c, .slice B ws.length cw] W fun e w' => e = .returned (.int .u64 (anyS (pls ys) ws ys.length : Nat)) ∧ Below W.heap.size W w' := by
  have HA := hid (fun w (hb : Below W.heap.size W w) => h.below hb)
  have HC := hid (fun (y : Pl) (hm : y ∈ ys) w (hb : Below W.heap.size W w) (hs : Sl w 2 y.A y.l.length y.c (pcells y.l)) => workers_any y.A y.c y.l B cw ws w hs (hl y hm) (hw.below hb) hws hwl)
  have hyl : (ys.length : Int) ≤ 10 := by omega
  have HG : Hid (∀ k (hk : k < ys.length), (pls ys).getD k [] = ys[k].l) := hid (fun k hk => by
    rw [List.getD_eq_getElem?_getD]
    simp [pls, List.getElem?_eq_getElem hk])
  generalize hwn : ws.length = wn at *
  clear h hl hw hws
  go_enter Tryz.func97, Tryz.ntmps97
  go_wp2_with fail
  go_loopw [5, 7, 10] (fun s _ i wr => ∃ k : Nat, k ≤ ys.length ∧ i = .int .i64 (k : Int) ∧ s = .int .u64 (anyS (pls ys) ws k : Nat) ∧ Hid (Below W.heap.size W wr)) (fun _ _ i _ => ys.length - (intOf i).toNat)
  case atStart => exact ⟨0, by omega, rfl, rfl, Below.refl _ _⟩
  case round =>
    obtain ⟨k, hk, rfl, rfl, HB⟩ := hrel
    by_cases hlt : k < ys.length
    · have hlt2 : (k : Int) < (ys.length : Int) := by omega
      obtain ⟨b1, o1, rfl, hc1, hs1⟩ := (HA.out _ HB.out).get k hlt
      have HCC := hid (HC.out _ (List.getElem_mem hlt) _ HB.out hs1)
      have HV : Hid (anyS (pls ys) ws (k + 1) = anyS (pls ys) ws k ||| wkS ((pls ys).getD k []) ws) := hid rfl
      rw [HG.out k hlt] at HV
      have ha := anyS_lt (pls ys) ws k
      clear hs1
      generalize ys[k] = y at *
      obtain ⟨yl, yA, yc⟩ := y
      simp only [Pl.cell] at hc1 HCC HV
      have hb := wkS_lt yl ws
      generalize wkS yl ws = x at *
      generalize anyS (pls ys) ws k = v0 at *
      have HOR := hid (u64_or_nat v0 x ha hb)
      clear ha hb
      go_wp2_with fail
      refine HCC.out.mono ?_
      rintro e w2 ⟨rfl, hb2⟩
      have HB2 := hid (HB.out.trans (hb2.mono HB.out.size))
      clear hb2 HCC
      go_wp2
      go_roundw
      case rel => exact ⟨k + 1, by omega, by go_num, by rw [HV.out, HOR.out], HB2.out⟩
      case measure => simp [intOf]; omega
    · have hge : ¬ (k : Int) < (ys.length : Int) := by omega
      obtain rfl : k = ys.length := by omega
      go_wp2
      go_ret
      exact ⟨rfl, HB.out⟩

end Go.Proofs.YtgakobolhmdnnaaGreatDoor
