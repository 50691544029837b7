/- siskin/job.Parse: contract. -/
import Derived.Test.YtgakobolhmdnnaaQJyE
import Derived.Deep.RegionHeld3
namespace Go.Proofs.Ytgakobolhmdnnaa
open Go.RowKit
set_option linter.unusedVariables false
set_option linter.unusedSimpArgs false

set_option maxRecDepth 20000 in
set_option maxHeartbeats 8000000 in
theorem jparse_own (A : Option Addr) (cp : Nat) (l : List UInt8) (W : World) (hby : IsBytes W A l.length cp l) (hl : l.length ≤ 100000) :
    Calls Try.prog 20 #[.slice A l.length cp] W fun x w' => ∃ A' c', x = .returned (.tuple #[.agg #[.int .i64 (jid l), .slice A' (jns l).length c'], .int .i64 (jk l)]) ∧ OwnS w' W.heap.size A' c' (jns l) ∧ RowKit.Below W.heap.size W w' := by
  have HPI : Hid (jid l = if jk l = 0 then ((jn l).1 : Int) else 0) := hid rfl
  have HPN : Hid (jns l = if jk l = 0 then (jx l).1 else []) := hid rfl
  have hqn : Hid (jn l = rdNum 72057594037927935 l 0) := hid rfl
  have hqe : Hid (je l = if (jn l).1 = 0 then rdFail 3 (jn l).2.2 else (jn l).2.2) := hid rfl
  have hqc : Hid (jc l = rdNum 16 (jn l).2.1 (je l)) := hid rfl
  have hqx : Hid (jx l = rts (jc l).1 (jc l).2.1 (jc l).2.2) := hid rfl
  have hqk : Hid (jk l = rdEnd (jx l).2.1 (jx l).2.2) := hid rfl
  have hn16 : (jc l).1 ≤ 16 := by
    have := rdNum_most 16 (by omega) (jn l).2.1 (je l)
    rw [← hqc.out] at this
    omega
  have HN := hid (fun w (hw : IsBytes w A l.length cp l) => bnew_any A l.length cp l w hw hl)
  have HBY := hid hby
  clear hby
  generalize jid l = vi at *
  generalize jns l = vs at *
  generalize jk l = vk at *
  generalize jx l = vx at *
  generalize jc l = vc at *
  generalize je l = ve at *
  generalize jn l = vn at *
  obtain ⟨k, lk, ek⟩ := vn
  obtain ⟨n, ln, en⟩ := vc
  obtain ⟨xs, lx, ex⟩ := vx
  simp only at *
  generalize hll : l.length = ll at *
  clear hll
  go_enter Try.func20, Try.ntmps20
  go_upto_region 1 with (fail)
  refine at_world (fun w => w.heap[W.heap.size]? = some (.cells #[.int .i64 0, .slice none 0 0] 27 (0, 0)) ∧ RowKit.Below W.heap.size W w) ⟨heap_alloc_new _ _, (Below.refl _ _).alloc (Nat.le_refl _) _⟩ ?_
  rintro w1 ⟨hR1, hB1⟩
  have HB1 := hid hB1
  have HR1 := hid hR1
  clear hR1 hB1
  go_wp2_with fail
  refine (HN.out _ (HBY.out.below HB1.out)).mono ?_
  rintro x w3 ⟨B, rfl, hB, hR3, hb3⟩
  have HK3 : Hid (w3.heap[W.heap.size]? = some (.cells #[.int .i64 0, .slice none 0 0] 27 (0, 0)) ∧ RowKit.Below W.heap.size W w3 ∧ W.heap.size < B) := hid ⟨keep0 HR1.out hb3, HB1.out.trans (hb3.mono HB1.out.size), Nat.lt_of_lt_of_le (lt_of_block HR1.out) hB⟩
  have HT := hid (bNum_any B _ _ 72057594037927935 w3 hR3)
  rw [← hqn.out] at HT
  simp only at HT
  clear hb3 hR3 HN HB1 HR1 hqn hB
  go_wp2_with fail
  refine HT.out.mono ?_
  rintro x w4 ⟨rfl, hR4, hO4⟩
  have K4 : Hid (JP W (w4.alloc (.cells #[.int .i64 k, .slice none 0 0] 27)) B w4.heap.size lk ek k (.slice none 0 0)) := by
    have h1 := hO4.block HK3.out.1 (by have := HK3.out.2.2; omega)
    have h2 := HK3.out.2.1.trans (hO4.below W.heap.size (Nat.le_of_lt HK3.out.2.2) HK3.out.2.1.size)
    have h3 : B < w4.heap.size := hR4.lt
    exact hid ⟨(Below.heap_alloc _ _ _ (lt_of_block h1)).trans h1, hR4.below ((Below.refl _ _).alloc (Nat.le_refl _) _), heap_alloc_new _ _, h2.alloc h2.size _, HK3.out.2.2, h3⟩
  clear hR4 hO4 HT HK3
  go_upto_region 3 with (fail)
  have K4' := K4.out
  clear K4
  generalize w4.heap.size = M at K4' ⊢
  refine at_world (fun w => JP W w B M lk ek k (.slice none 0 0)) K4' ?_
  clear K4'
  rintro w5 K
  have HK0 := hid K
  obtain ⟨p0, p1⟩ := two_cellsR K.m
  obtain ⟨f0, f1⟩ := two_frz K.m
  rcases Classical.em (k = 0) with h0 | h0
  · have hd : (((k : Nat) : Int) == 0) = true := by simp [h0]
    rw [if_pos h0] at hqe
    have HF := hid (bFail_any B lk ek 3 _ K.b)
    rw [← hqe.out] at HF
    clear hqe h0 K
    go_wp2_with fail
    refine HF.out.mono ?_
    rintro x y1 ⟨⟨v, rfl⟩, hR, hO⟩
    have K := HK0.out.go hO hR
    clear hR hO HF HK0
    go_upto_region 5 with (fail)
    refine at_world (fun w => JP W w B M lk ve k (.slice none 0 0)) K ?_
    clear K p0 p1 f0 f1
    rintro w6 K
    have HK1 := hid K
    obtain ⟨p0, p1⟩ := two_cellsR K.m
    obtain ⟨f0, f1⟩ := two_frz K.m
    have HT := hid (bNum_any B _ _ 16 _ K.b)
    rw [← hqc.out] at HT
    simp only at HT
    clear K
    go_wp2_with fail
    refine HT.out.mono ?_
    rintro x u9 ⟨rfl, hR, hO⟩
    have HK := hid (HK1.out.go hO hR)
    clear HK1 hR hO HT hqc p0 p1 f0 f1
    go_wp2_with fail
    go_loopw [19] (fun i wr => ∃ (c : Nat) (Ai : Option Addr) (ci : Nat) (m : List (List UInt8)) (li : List UInt8) (ei : Int), c ≤ n ∧ i = .int .i64 (c : Int) ∧ m.length = c ∧ Hid (rts n ln en = (m ++ (rts (n - c) li ei).1, (rts (n - c) li ei).2)) ∧ Hid (JP W wr B M li ei k (.slice Ai c ci)) ∧ Hid (wr.ownsRow (M + 1) 9 1 (.slice Ai c ci) c (scells m))) (fun i _ => n - (intOf i).toNat)
    case atStart => exact ⟨0, none, 0, [], ln, en, by omega, rfl, rfl, by rw [Hid]; simp, HK.out, World.ownsRow_nil _ _ _ _⟩
    case round =>
      obtain ⟨c, Ai, ci, m, li, ei, hcn, rfl, hmc, HR, HP, HO⟩ := hrel
      by_cases hlt : c < n
      · have hlt2 : (c : Int) < (n : Int) := by omega
        have HR2 := hid (rts_step hlt HR.out)
        have HLE := hid (rdText_le li ei)
        have HPd := hid (HP.out.keep (w' := wr.drew) (below_drew (Below.refl _ _)))
        have HOd : Hid (wr.drew.ownsRow (M + 1) 9 1 (.slice Ai c ci) c (scells m)) := hid (own_keep HO.out (below_drew (Below.refl _ _)))
        have HT := hid (bText_any B li ei 200 wr.drew HPd.out.b)
        have c6 := (two_cellsR HP.out.m).2
        have hbel := HP.out.bel
        have hMW : W.heap.size ≤ M := by have := HP.out.rb; have := HP.out.bm; omega
        generalize rdText 200 li ei = r at *
        obtain ⟨sx, l2, e2⟩ := r
        simp only at HT HR2 HLE
        go_upto_region 7 with (fail)
        refine wp_region_held_drew (S := fun U => RowKit.Below W.heap.size W U) (by kernel_rfl) (below_drew hbel) (fun hHeld => ?_)
        refine wpAnyH_take (i := 0) (v := ?_) rfl (by kernel_rfl) (by kernel_rfl) (by kernel_rfl) (fun _ _ _ h => h) (Or.inl ⟨by rfl, ?_⟩) (by assumption) ?_
        rotate_left
        focus
          intro U hU
          try dsimp only at hU
          go_simp
          try (with_reducible rfl)
        simp only [List.getElem_toArray, List.getElem_cons_succ, List.getElem_cons_zero, Act.put, List.setIfInBounds_toArray, List.set_cons_zero, List.set_cons_succ]
        refine wpAnyH_take (i := 2) (v := ?_) rfl (by kernel_rfl) (by kernel_rfl) (by kernel_rfl) (fun _ _ _ h => h) (Or.inl ⟨by rfl, ?_⟩) (by assumption) ?_
        rotate_left
        focus
          intro U hU
          try dsimp only at hU
          go_simp
          try (with_reducible rfl)
        simp only [List.getElem_toArray, List.getElem_cons_succ, List.getElem_cons_zero, Act.put, List.setIfInBounds_toArray, List.set_cons_zero, List.set_cons_succ]
        refine wpAnyH_ready (rs := [1, 3]) (by kernel_rfl) (by simp) ?_
        refine (AllReadyH.cons rfl (fun K hK => ?_) (AllReadyH.cons rfl (fun K hK => ?_) AllReadyH.nil))
        · skip
          simp only [List.getElem_toArray, List.getElem_cons_succ, List.getElem_cons_zero]
          go_simp
          refine hK.out _ _ ?_ (fun hHeld2 => ?_)
          focus
            first | with_reducible assumption | (repeat' (first | with_reducible assumption | with_reducible refine below_drew ?_ | with_reducible refine bel_alloc ?_ _))
          clear hHeld
          have hHeld := hHeld2
          clear hHeld2 hK K
          try simp only [List.getElem_toArray, List.getElem_cons_succ, List.getElem_cons_zero, Act.put, List.setIfInBounds_toArray, List.set_cons_zero, List.set_cons_succ]
          refine wpAnyH_ready (rs := [3]) (by kernel_rfl) (by simp) ?_
          refine AllReadyH.cons rfl (fun K hK => ?_) AllReadyH.nil
          simp only [List.getElem_toArray, List.getElem_cons_succ, List.getElem_cons_zero]
          go_simp
          refine HT.out.mono ?_
          rintro q w3 ⟨rfl, hR3, hO3⟩
          have HP3 := hid (HPd.out.go hO3 hR3)
          have HO3 := hid (own_only HOd.out hO3 (Nat.lt_succ_of_lt HPd.out.bm))
          have hbel3 := HP3.out.bel
          have c63 := (two_cellsR HP3.out.m).2
          have c6a : ∀ o : Obj, (w3.alloc o).cell? ⟨M, 1, none⟩ = some (.slice Ai c ci) := fun o => (two_cellsR (HP3.out.keep ((Below.refl _ _).alloc HP3.out.lt o)).m).2
          have hM3 := HP3.out.lt
          clear hR3 hO3
          go_wp2_with fail
          refine hK.out _ _ ?_ (fun hHeld2 => ?_)
          focus
            first | with_reducible assumption | (repeat' (first | with_reducible assumption | with_reducible refine below_drew ?_ | with_reducible refine bel_alloc ?_ _))
          clear hHeld
          have hHeld := hHeld2
          clear hHeld2 hK K
          try simp only [List.getElem_toArray, List.getElem_cons_succ, List.getElem_cons_zero, Act.put, List.setIfInBounds_toArray, List.set_cons_zero, List.set_cons_succ]
          refine wpAnyH_ready (rs := [4]) (by kernel_rfl) (by simp) ?_
          refine (AllReadyH.cons rfl (fun K hK => ?_) AllReadyH.nil)
          simp only [List.getElem_toArray, List.getElem_cons_succ, List.getElem_cons_zero]
          go_simp
          refine hK.out _ _ ?_ (fun hHeld2 => ?_)
          focus
            first | with_reducible assumption | (repeat' (first | with_reducible assumption | with_reducible refine below_drew ?_ | with_reducible refine bel_alloc ?_ _))
          clear hHeld
          have hHeld := hHeld2
          clear hHeld2 hK K
          try simp only [List.getElem_toArray, List.getElem_cons_succ, List.getElem_cons_zero, Act.put, List.setIfInBounds_toArray, List.set_cons_zero, List.set_cons_succ]
          refine wpAnyH_ready (rs := [5]) (by kernel_rfl) (by simp) ?_
          refine (AllReadyH.cons rfl (fun K hK => ?_) AllReadyH.nil)
          refine step_append_sl rfl (.tmp 22) (.tmp 25) 22 rfl (M + 1) 9 Try.underlying22 info_str rfl (by omega) rfl (own_keep HO3.out ((Below.refl _ _).alloc (Nat.le_refl _) _)) rfl (Sl.lit _ _ 1 1 #[.string (str sx)] rfl (by unfold maxLen; omega)) (by simp [Value.oneCell']) (show c + 1 ≤ maxLen by unfold maxLen; omega) (show (c + 1) * 16 ≤ 140737488355328 by omega) (Nat.le_trans hM3 (Below.size ((Below.refl w3.heap.size w3).alloc (Nat.le_refl _) _))) ?_
          intro v5 w5 ho5 hb5 _ _
          have HP5 := hid (HP3.out.keep (((Below.refl _ _).alloc hM3 _).trans hb5))
          obtain ⟨A5, c5, rfl, _⟩ := Sl.of_own ho5
          have HO5 := hid ho5
          have c65 := (two_cellsR HP5.out.m).2
          have f65 := (two_frz HP5.out.m).2
          have hbel5 := HP5.out.bel
          have hbel6 := fun v => RowKit.Below.setCell (p := ⟨M, 1, none⟩) HP5.out.bel hMW v
          clear hb5 ho5
          refine hK.out _ _ ?_ (fun hHeld2 => ?_)
          focus
            exact hbel5
          clear hHeld
          have hHeld := hHeld2
          clear hHeld2 hK K
          try simp only [List.getElem_toArray, List.getElem_cons_succ, List.getElem_cons_zero, Act.put, List.setIfInBounds_toArray, List.set_cons_zero, List.set_cons_succ]
          refine wpAnyH_take (i := 6) (v := ?_) rfl (by kernel_rfl) (by kernel_rfl) (by kernel_rfl) (fun _ _ _ h => h) (Or.inl ⟨by rfl, ?_⟩) (by assumption) ?_
          rotate_left
          focus
            intro U hU
            try dsimp only at hU
            go_simp
            try (with_reducible rfl)
          simp only [List.getElem_toArray, List.getElem_cons_succ, List.getElem_cons_zero, Act.put, List.setIfInBounds_toArray, List.set_cons_zero, List.set_cons_succ]
          refine wpAnyH_ready (rs := [7]) (by kernel_rfl) (by simp) ?_
          refine (AllReadyH.cons rfl (fun K hK => ?_) AllReadyH.nil)
          simp only [List.getElem_toArray, List.getElem_cons_succ, List.getElem_cons_zero]
          go_simp
          refine hK.out _ _ ?_ (fun hHeld2 => ?_)
          focus
            exact hbel6 _
          clear hHeld
          have hHeld := hHeld2
          clear hHeld2 hK K
          try simp only [List.getElem_toArray, List.getElem_cons_succ, List.getElem_cons_zero, Act.put, List.setIfInBounds_toArray, List.set_cons_zero, List.set_cons_succ]
          refine wpAnyH_done (by kernel_rfl) ?_ _
          clear hHeld c6 c63 c6a c65 f65 hbel hbel3 hbel5 hbel6
          go_wp2
          go_roundw
          case rel =>
            refine ⟨c + 1, A5, c5, m ++ [sx], l2, e2, by omega, by go_num, by simp [hmc], HR2.out, HP5.out.set1 _, ?_⟩
            rw [Hid, scells_snoc]
            exact own_setOld HO5.out _ _ (Nat.lt_succ_self M)
          case measure => simp [intOf]; omega
        · skip
          simp only [List.getElem_toArray, List.getElem_cons_succ, List.getElem_cons_zero]
          go_simp
          refine HT.out.mono ?_
          rintro q w3 ⟨rfl, hR3, hO3⟩
          have HP3 := hid (HPd.out.go hO3 hR3)
          have HO3 := hid (own_only HOd.out hO3 (Nat.lt_succ_of_lt HPd.out.bm))
          have hbel3 := HP3.out.bel
          have c63 := (two_cellsR HP3.out.m).2
          have c6a : ∀ o : Obj, (w3.alloc o).cell? ⟨M, 1, none⟩ = some (.slice Ai c ci) := fun o => (two_cellsR (HP3.out.keep ((Below.refl _ _).alloc HP3.out.lt o)).m).2
          have hM3 := HP3.out.lt
          clear hR3 hO3
          go_wp2_with fail
          refine hK.out _ _ ?_ (fun hHeld2 => ?_)
          focus
            first | with_reducible assumption | (repeat' (first | with_reducible assumption | with_reducible refine below_drew ?_ | with_reducible refine bel_alloc ?_ _))
          clear hHeld
          have hHeld := hHeld2
          clear hHeld2 hK K
          try simp only [List.getElem_toArray, List.getElem_cons_succ, List.getElem_cons_zero, Act.put, List.setIfInBounds_toArray, List.set_cons_zero, List.set_cons_succ]
          refine wpAnyH_ready (rs := [1, 4]) (by kernel_rfl) (by simp) ?_
          refine (AllReadyH.cons rfl (fun K hK => ?_) (AllReadyH.cons rfl (fun K hK => ?_) AllReadyH.nil))
          · skip
            simp only [List.getElem_toArray, List.getElem_cons_succ, List.getElem_cons_zero]
            go_simp
            refine hK.out _ _ ?_ (fun hHeld2 => ?_)
            focus
              first | with_reducible assumption | (repeat' (first | with_reducible assumption | with_reducible refine below_drew ?_ | with_reducible refine bel_alloc ?_ _))
            clear hHeld
            have hHeld := hHeld2
            clear hHeld2 hK K
            try simp only [List.getElem_toArray, List.getElem_cons_succ, List.getElem_cons_zero, Act.put, List.setIfInBounds_toArray, List.set_cons_zero, List.set_cons_succ]
            refine wpAnyH_ready (rs := [4]) (by kernel_rfl) (by simp) ?_
            refine (AllReadyH.cons rfl (fun K hK => ?_) AllReadyH.nil)
            simp only [List.getElem_toArray, List.getElem_cons_succ, List.getElem_cons_zero]
            go_simp
            refine hK.out _ _ ?_ (fun hHeld2 => ?_)
            focus
              first | with_reducible assumption | (repeat' (first | with_reducible assumption | with_reducible refine below_drew ?_ | with_reducible refine bel_alloc ?_ _))
            clear hHeld
            have hHeld := hHeld2
            clear hHeld2 hK K
            try simp only [List.getElem_toArray, List.getElem_cons_succ, List.getElem_cons_zero, Act.put, List.setIfInBounds_toArray, List.set_cons_zero, List.set_cons_succ]
            refine wpAnyH_ready (rs := [5]) (by kernel_rfl) (by simp) ?_
            refine (AllReadyH.cons rfl (fun K hK => ?_) AllReadyH.nil)
            refine step_append_sl rfl (.tmp 22) (.tmp 25) 22 rfl (M + 1) 9 Try.underlying22 info_str rfl (by omega) rfl (own_keep HO3.out ((Below.refl _ _).alloc (Nat.le_refl _) _)) rfl (Sl.lit _ _ 1 1 #[.string (str sx)] rfl (by unfold maxLen; omega)) (by simp [Value.oneCell']) (show c + 1 ≤ maxLen by unfold maxLen; omega) (show (c + 1) * 16 ≤ 140737488355328 by omega) (Nat.le_trans hM3 (Below.size ((Below.refl w3.heap.size w3).alloc (Nat.le_refl _) _))) ?_
            intro v5 w5 ho5 hb5 _ _
            have HP5 := hid (HP3.out.keep (((Below.refl _ _).alloc hM3 _).trans hb5))
            obtain ⟨A5, c5, rfl, _⟩ := Sl.of_own ho5
            have HO5 := hid ho5
            have c65 := (two_cellsR HP5.out.m).2
            have f65 := (two_frz HP5.out.m).2
            have hbel5 := HP5.out.bel
            have hbel6 := fun v => RowKit.Below.setCell (p := ⟨M, 1, none⟩) HP5.out.bel hMW v
            clear hb5 ho5
            refine hK.out _ _ ?_ (fun hHeld2 => ?_)
            focus
              exact hbel5
            clear hHeld
            have hHeld := hHeld2
            clear hHeld2 hK K
            try simp only [List.getElem_toArray, List.getElem_cons_succ, List.getElem_cons_zero, Act.put, List.setIfInBounds_toArray, List.set_cons_zero, List.set_cons_succ]
            refine wpAnyH_take (i := 6) (v := ?_) rfl (by kernel_rfl) (by kernel_rfl) (by kernel_rfl) (fun _ _ _ h => h) (Or.inl ⟨by rfl, ?_⟩) (by assumption) ?_
            rotate_left
            focus
              intro U hU
              try dsimp only at hU
              go_simp
              try (with_reducible rfl)
            simp only [List.getElem_toArray, List.getElem_cons_succ, List.getElem_cons_zero, Act.put, List.setIfInBounds_toArray, List.set_cons_zero, List.set_cons_succ]
            refine wpAnyH_ready (rs := [7]) (by kernel_rfl) (by simp) ?_
            refine (AllReadyH.cons rfl (fun K hK => ?_) AllReadyH.nil)
            simp only [List.getElem_toArray, List.getElem_cons_succ, List.getElem_cons_zero]
            go_simp
            refine hK.out _ _ ?_ (fun hHeld2 => ?_)
            focus
              exact hbel6 _
            clear hHeld
            have hHeld := hHeld2
            clear hHeld2 hK K
            try simp only [List.getElem_toArray, List.getElem_cons_succ, List.getElem_cons_zero, Act.put, List.setIfInBounds_toArray, List.set_cons_zero, List.set_cons_succ]
            refine wpAnyH_done (by kernel_rfl) ?_ _
            clear hHeld c6 c63 c6a c65 f65 hbel hbel3 hbel5 hbel6
            go_wp2
            go_roundw
            case rel =>
              refine ⟨c + 1, A5, c5, m ++ [sx], l2, e2, by omega, by go_num, by simp [hmc], HR2.out, HP5.out.set1 _, ?_⟩
              rw [Hid, scells_snoc]
              exact own_setOld HO5.out _ _ (Nat.lt_succ_self M)
            case measure => simp [intOf]; omega
          · skip
            simp only [List.getElem_toArray, List.getElem_cons_succ, List.getElem_cons_zero]
            go_simp
            refine hK.out _ _ ?_ (fun hHeld2 => ?_)
            focus
              first | with_reducible assumption | (repeat' (first | with_reducible assumption | with_reducible refine below_drew ?_ | with_reducible refine bel_alloc ?_ _))
            clear hHeld
            have hHeld := hHeld2
            clear hHeld2 hK K
            try simp only [List.getElem_toArray, List.getElem_cons_succ, List.getElem_cons_zero, Act.put, List.setIfInBounds_toArray, List.set_cons_zero, List.set_cons_succ]
            refine wpAnyH_ready (rs := [1]) (by kernel_rfl) (by simp) ?_
            refine (AllReadyH.cons rfl (fun K hK => ?_) AllReadyH.nil)
            simp only [List.getElem_toArray, List.getElem_cons_succ, List.getElem_cons_zero]
            go_simp
            refine hK.out _ _ ?_ (fun hHeld2 => ?_)
            focus
              first | with_reducible assumption | (repeat' (first | with_reducible assumption | with_reducible refine below_drew ?_ | with_reducible refine bel_alloc ?_ _))
            clear hHeld
            have hHeld := hHeld2
            clear hHeld2 hK K
            try simp only [List.getElem_toArray, List.getElem_cons_succ, List.getElem_cons_zero, Act.put, List.setIfInBounds_toArray, List.set_cons_zero, List.set_cons_succ]
            refine wpAnyH_ready (rs := [5]) (by kernel_rfl) (by simp) ?_
            refine (AllReadyH.cons rfl (fun K hK => ?_) AllReadyH.nil)
            refine step_append_sl rfl (.tmp 22) (.tmp 25) 22 rfl (M + 1) 9 Try.underlying22 info_str rfl (by omega) rfl (own_keep HO3.out ((Below.refl _ _).alloc (Nat.le_refl _) _)) rfl (Sl.lit _ _ 1 1 #[.string (str sx)] rfl (by unfold maxLen; omega)) (by simp [Value.oneCell']) (show c + 1 ≤ maxLen by unfold maxLen; omega) (show (c + 1) * 16 ≤ 140737488355328 by omega) (Nat.le_trans hM3 (Below.size ((Below.refl w3.heap.size w3).alloc (Nat.le_refl _) _))) ?_
            intro v5 w5 ho5 hb5 _ _
            have HP5 := hid (HP3.out.keep (((Below.refl _ _).alloc hM3 _).trans hb5))
            obtain ⟨A5, c5, rfl, _⟩ := Sl.of_own ho5
            have HO5 := hid ho5
            have c65 := (two_cellsR HP5.out.m).2
            have f65 := (two_frz HP5.out.m).2
            have hbel5 := HP5.out.bel
            have hbel6 := fun v => RowKit.Below.setCell (p := ⟨M, 1, none⟩) HP5.out.bel hMW v
            clear hb5 ho5
            refine hK.out _ _ ?_ (fun hHeld2 => ?_)
            focus
              exact hbel5
            clear hHeld
            have hHeld := hHeld2
            clear hHeld2 hK K
            try simp only [List.getElem_toArray, List.getElem_cons_succ, List.getElem_cons_zero, Act.put, List.setIfInBounds_toArray, List.set_cons_zero, List.set_cons_succ]
            refine wpAnyH_take (i := 6) (v := ?_) rfl (by kernel_rfl) (by kernel_rfl) (by kernel_rfl) (fun _ _ _ h => h) (Or.inl ⟨by rfl, ?_⟩) (by assumption) ?_
            rotate_left
            focus
              intro U hU
              try dsimp only at hU
              go_simp
              try (with_reducible rfl)
            simp only [List.getElem_toArray, List.getElem_cons_succ, List.getElem_cons_zero, Act.put, List.setIfInBounds_toArray, List.set_cons_zero, List.set_cons_succ]
            refine wpAnyH_ready (rs := [7]) (by kernel_rfl) (by simp) ?_
            refine (AllReadyH.cons rfl (fun K hK => ?_) AllReadyH.nil)
            simp only [List.getElem_toArray, List.getElem_cons_succ, List.getElem_cons_zero]
            go_simp
            refine hK.out _ _ ?_ (fun hHeld2 => ?_)
            focus
              exact hbel6 _
            clear hHeld
            have hHeld := hHeld2
            clear hHeld2 hK K
            try simp only [List.getElem_toArray, List.getElem_cons_succ, List.getElem_cons_zero, Act.put, List.setIfInBounds_toArray, List.set_cons_zero, List.set_cons_succ]
            refine wpAnyH_done (by kernel_rfl) ?_ _
            clear hHeld c6 c63 c6a c65 f65 hbel hbel3 hbel5 hbel6
            go_wp2
            go_roundw
            case rel =>
              refine ⟨c + 1, A5, c5, m ++ [sx], l2, e2, by omega, by go_num, by simp [hmc], HR2.out, HP5.out.set1 _, ?_⟩
              rw [Hid, scells_snoc]
              exact own_setOld HO5.out _ _ (Nat.lt_succ_self M)
            case measure => simp [intOf]; omega
      · obtain rfl : c = n := by omega
        have hge : ¬ (c : Int) < (c : Int) := by omega
        have hxs : xs = m ∧ lx = li ∧ ex = ei := by
          have h1 := hqx.out
          rw [HR.out, Nat.sub_self] at h1
          simpa [rts] using h1
        obtain ⟨rfl, rfl, rfl⟩ := hxs
        have HE := hid (bEnd_any B lx ex wr HP.out.b)
        rw [← hqk.out] at HE
        have HLS := hid (rts_le c ln en)
        rw [← hqx.out] at HLS
        simp only at HLS
        obtain ⟨p0, p1⟩ := two_cellsR HP.out.m
        obtain ⟨g0, g1⟩ := two_cellsR HP.out.r
        obtain ⟨h0, h1⟩ := two_frz HP.out.r
        have hRM : W.heap.size ≠ M := by have := HP.out.rb; have := HP.out.bm; omega
        by_cases he : vk = 0
        · subst he
          rw [if_pos rfl] at HPI HPN
          go_wp2_with (go_at_call 61; refine HE.out.mono ?_; rintro x w' ⟨rfl, rfl⟩)
          obtain ⟨r0, r1⟩ := two_cellsR (put2_heap HP.out.r (.int .i64 (k : Nat)) (.slice Ai c ci))
          simp only [put2] at r0 r1
          rw [HPI.out, HPN.out]
          refine bodyPost_ret (v := .tuple #[.agg #[.int .i64 (k : Nat), .slice Ai c ci], .int .i64 0]) (by simp [results, Try.results20, go_sem, r0, r1]) rfl ⟨Ai, ci, by simp only [hmc], ⟨?_, HLS.out.2⟩, put2_below HP.out.bel (Nat.le_refl _) _ _⟩
          simp only [hmc]
          exact own_mono (put2_own HO.out (by have := HP.out.rb; have := HP.out.bm; omega) _ _) (by have := HP.out.rb; have := HP.out.bm; omega)
        · rw [if_neg he] at HPI HPN
          have hne : (vk != 0) = true := by simp [he]
          go_wp2_with (go_at_call 61; refine HE.out.mono ?_; rintro x w' ⟨rfl, rfl⟩)
          obtain ⟨r0, r1⟩ := two_cellsR (put2_heap HP.out.r (.int .i64 0) (.slice none 0 0))
          simp only [put2] at r0 r1
          rw [HPI.out, HPN.out]
          refine bodyPost_ret (v := .tuple #[.agg #[.int .i64 0, .slice none 0 0], .int .i64 vk]) (by simp [results, Try.results20, go_sem, r0, r1]) rfl ⟨none, 0, rfl, ⟨World.ownsRow_nil _ _ _ _, by simp⟩, put2_below HP.out.bel (Nat.le_refl _) _ _⟩
  · have hd : (((k : Nat) : Int) == 0) = false := by simp [h0]
    rw [if_neg h0] at hqe
    obtain rfl := hqe.out
    clear hqe h0 HK0
    go_upto_region 5 with (fail)
    refine at_world (fun w => JP W w B M lk ve k (.slice none 0 0)) K ?_
    clear K p0 p1 f0 f1
    rintro w6 K
    have HK1 := hid K
    obtain ⟨p0, p1⟩ := two_cellsR K.m
    obtain ⟨f0, f1⟩ := two_frz K.m
    have HT := hid (bNum_any B _ _ 16 _ K.b)
    rw [← hqc.out] at HT
    simp only at HT
    clear K
    go_wp2_with fail
    refine HT.out.mono ?_
    rintro x u9 ⟨rfl, hR, hO⟩
    have HK := hid (HK1.out.go hO hR)
    clear HK1 hR hO HT hqc p0 p1 f0 f1
    go_wp2_with fail
    go_loopw [19] (fun i wr => ∃ (c : Nat) (Ai : Option Addr) (ci : Nat) (m : List (List UInt8)) (li : List UInt8) (ei : Int), c ≤ n ∧ i = .int .i64 (c : Int) ∧ m.length = c ∧ Hid (rts n ln en = (m ++ (rts (n - c) li ei).1, (rts (n - c) li ei).2)) ∧ Hid (JP W wr B M li ei k (.slice Ai c ci)) ∧ Hid (wr.ownsRow (M + 1) 9 1 (.slice Ai c ci) c (scells m))) (fun i _ => n - (intOf i).toNat)
    case atStart => exact ⟨0, none, 0, [], ln, en, by omega, rfl, rfl, by rw [Hid]; simp, HK.out, World.ownsRow_nil _ _ _ _⟩
    case round =>
      obtain ⟨c, Ai, ci, m, li, ei, hcn, rfl, hmc, HR, HP, HO⟩ := hrel
      by_cases hlt : c < n
      · have hlt2 : (c : Int) < (n : Int) := by omega
        have HR2 := hid (rts_step hlt HR.out)
        have HLE := hid (rdText_le li ei)
        have HPd := hid (HP.out.keep (w' := wr.drew) (below_drew (Below.refl _ _)))
        have HOd : Hid (wr.drew.ownsRow (M + 1) 9 1 (.slice Ai c ci) c (scells m)) := hid (own_keep HO.out (below_drew (Below.refl _ _)))
        have HT := hid (bText_any B li ei 200 wr.drew HPd.out.b)
        have c6 := (two_cellsR HP.out.m).2
        have hbel := HP.out.bel
        have hMW : W.heap.size ≤ M := by have := HP.out.rb; have := HP.out.bm; omega
        generalize rdText 200 li ei = r at *
        obtain ⟨sx, l2, e2⟩ := r
        simp only at HT HR2 HLE
        go_upto_region 7 with (fail)
        refine wp_region_held_drew (S := fun U => RowKit.Below W.heap.size W U) (by kernel_rfl) (below_drew hbel) (fun hHeld => ?_)
        refine wpAnyH_take (i := 0) (v := ?_) rfl (by kernel_rfl) (by kernel_rfl) (by kernel_rfl) (fun _ _ _ h => h) (Or.inl ⟨by rfl, ?_⟩) (by assumption) ?_
        rotate_left
        focus
          intro U hU
          try dsimp only at hU
          go_simp
          try (with_reducible rfl)
        simp only [List.getElem_toArray, List.getElem_cons_succ, List.getElem_cons_zero, Act.put, List.setIfInBounds_toArray, List.set_cons_zero, List.set_cons_succ]
        refine wpAnyH_take (i := 2) (v := ?_) rfl (by kernel_rfl) (by kernel_rfl) (by kernel_rfl) (fun _ _ _ h => h) (Or.inl ⟨by rfl, ?_⟩) (by assumption) ?_
        rotate_left
        focus
          intro U hU
          try dsimp only at hU
          go_simp
          try (with_reducible rfl)
        simp only [List.getElem_toArray, List.getElem_cons_succ, List.getElem_cons_zero, Act.put, List.setIfInBounds_toArray, List.set_cons_zero, List.set_cons_succ]
        refine wpAnyH_ready (rs := [1, 3]) (by kernel_rfl) (by simp) ?_
        refine (AllReadyH.cons rfl (fun K hK => ?_) (AllReadyH.cons rfl (fun K hK => ?_) AllReadyH.nil))
        · skip
          simp only [List.getElem_toArray, List.getElem_cons_succ, List.getElem_cons_zero]
          go_simp
          refine hK.out _ _ ?_ (fun hHeld2 => ?_)
          focus
            first | with_reducible assumption | (repeat' (first | with_reducible assumption | with_reducible refine below_drew ?_ | with_reducible refine bel_alloc ?_ _))
          clear hHeld
          have hHeld := hHeld2
          clear hHeld2 hK K
          try simp only [List.getElem_toArray, List.getElem_cons_succ, List.getElem_cons_zero, Act.put, List.setIfInBounds_toArray, List.set_cons_zero, List.set_cons_succ]
          refine wpAnyH_ready (rs := [3]) (by kernel_rfl) (by simp) ?_
          refine AllReadyH.cons rfl (fun K hK => ?_) AllReadyH.nil
          simp only [List.getElem_toArray, List.getElem_cons_succ, List.getElem_cons_zero]
          go_simp
          refine HT.out.mono ?_
          rintro q w3 ⟨rfl, hR3, hO3⟩
          have HP3 := hid (HPd.out.go hO3 hR3)
          have HO3 := hid (own_only HOd.out hO3 (Nat.lt_succ_of_lt HPd.out.bm))
          have hbel3 := HP3.out.bel
          have c63 := (two_cellsR HP3.out.m).2
          have c6a : ∀ o : Obj, (w3.alloc o).cell? ⟨M, 1, none⟩ = some (.slice Ai c ci) := fun o => (two_cellsR (HP3.out.keep ((Below.refl _ _).alloc HP3.out.lt o)).m).2
          have hM3 := HP3.out.lt
          clear hR3 hO3
          go_wp2_with fail
          refine hK.out _ _ ?_ (fun hHeld2 => ?_)
          focus
            first | with_reducible assumption | (repeat' (first | with_reducible assumption | with_reducible refine below_drew ?_ | with_reducible refine bel_alloc ?_ _))
          clear hHeld
          have hHeld := hHeld2
          clear hHeld2 hK K
          try simp only [List.getElem_toArray, List.getElem_cons_succ, List.getElem_cons_zero, Act.put, List.setIfInBounds_toArray, List.set_cons_zero, List.set_cons_succ]
          refine wpAnyH_ready (rs := [4]) (by kernel_rfl) (by simp) ?_
          refine (AllReadyH.cons rfl (fun K hK => ?_) AllReadyH.nil)
          simp only [List.getElem_toArray, List.getElem_cons_succ, List.getElem_cons_zero]
          go_simp
          refine hK.out _ _ ?_ (fun hHeld2 => ?_)
          focus
            first | with_reducible assumption | (repeat' (first | with_reducible assumption | with_reducible refine below_drew ?_ | with_reducible refine bel_alloc ?_ _))
          clear hHeld
          have hHeld := hHeld2
          clear hHeld2 hK K
          try simp only [List.getElem_toArray, List.getElem_cons_succ, List.getElem_cons_zero, Act.put, List.setIfInBounds_toArray, List.set_cons_zero, List.set_cons_succ]
          refine wpAnyH_ready (rs := [5]) (by kernel_rfl) (by simp) ?_
          refine (AllReadyH.cons rfl (fun K hK => ?_) AllReadyH.nil)
          refine step_append_sl rfl (.tmp 22) (.tmp 25) 22 rfl (M + 1) 9 Try.underlying22 info_str rfl (by omega) rfl (own_keep HO3.out ((Below.refl _ _).alloc (Nat.le_refl _) _)) rfl (Sl.lit _ _ 1 1 #[.string (str sx)] rfl (by unfold maxLen; omega)) (by simp [Value.oneCell']) (show c + 1 ≤ maxLen by unfold maxLen; omega) (show (c + 1) * 16 ≤ 140737488355328 by omega) (Nat.le_trans hM3 (Below.size ((Below.refl w3.heap.size w3).alloc (Nat.le_refl _) _))) ?_
          intro v5 w5 ho5 hb5 _ _
          have HP5 := hid (HP3.out.keep (((Below.refl _ _).alloc hM3 _).trans hb5))
          obtain ⟨A5, c5, rfl, _⟩ := Sl.of_own ho5
          have HO5 := hid ho5
          have c65 := (two_cellsR HP5.out.m).2
          have f65 := (two_frz HP5.out.m).2
          have hbel5 := HP5.out.bel
          have hbel6 := fun v => RowKit.Below.setCell (p := ⟨M, 1, none⟩) HP5.out.bel hMW v
          clear hb5 ho5
          refine hK.out _ _ ?_ (fun hHeld2 => ?_)
          focus
            exact hbel5
          clear hHeld
          have hHeld := hHeld2
          clear hHeld2 hK K
          try simp only [List.getElem_toArray, List.getElem_cons_succ, List.getElem_cons_zero, Act.put, List.setIfInBounds_toArray, List.set_cons_zero, List.set_cons_succ]
          refine wpAnyH_take (i := 6) (v := ?_) rfl (by kernel_rfl) (by kernel_rfl) (by kernel_rfl) (fun _ _ _ h => h) (Or.inl ⟨by rfl, ?_⟩) (by assumption) ?_
          rotate_left
          focus
            intro U hU
            try dsimp only at hU
            go_simp
            try (with_reducible rfl)
          simp only [List.getElem_toArray, List.getElem_cons_succ, List.getElem_cons_zero, Act.put, List.setIfInBounds_toArray, List.set_cons_zero, List.set_cons_succ]
          refine wpAnyH_ready (rs := [7]) (by kernel_rfl) (by simp) ?_
          refine (AllReadyH.cons rfl (fun K hK => ?_) AllReadyH.nil)
          simp only [List.getElem_toArray, List.getElem_cons_succ, List.getElem_cons_zero]
          go_simp
          refine hK.out _ _ ?_ (fun hHeld2 => ?_)
          focus
            exact hbel6 _
          clear hHeld
          have hHeld := hHeld2
          clear hHeld2 hK K
          try simp only [List.getElem_toArray, List.getElem_cons_succ, List.getElem_cons_zero, Act.put, List.setIfInBounds_toArray, List.set_cons_zero, List.set_cons_succ]
          refine wpAnyH_done (by kernel_rfl) ?_ _
          clear hHeld c6 c63 c6a c65 f65 hbel hbel3 hbel5 hbel6
          go_wp2
          go_roundw
          case rel =>
            refine ⟨c + 1, A5, c5, m ++ [sx], l2, e2, by omega, by go_num, by simp [hmc], HR2.out, HP5.out.set1 _, ?_⟩
            rw [Hid, scells_snoc]
            exact own_setOld HO5.out _ _ (Nat.lt_succ_self M)
          case measure => simp [intOf]; omega
        · skip
          simp only [List.getElem_toArray, List.getElem_cons_succ, List.getElem_cons_zero]
          go_simp
          refine HT.out.mono ?_
          rintro q w3 ⟨rfl, hR3, hO3⟩
          have HP3 := hid (HPd.out.go hO3 hR3)
          have HO3 := hid (own_only HOd.out hO3 (Nat.lt_succ_of_lt HPd.out.bm))
          have hbel3 := HP3.out.bel
          have c63 := (two_cellsR HP3.out.m).2
          have c6a : ∀ o : Obj, (w3.alloc o).cell? ⟨M, 1, none⟩ = some (.slice Ai c ci) := fun o => (two_cellsR (HP3.out.keep ((Below.refl _ _).alloc HP3.out.lt o)).m).2
          have hM3 := HP3.out.lt
          clear hR3 hO3
          go_wp2_with fail
          refine hK.out _ _ ?_ (fun hHeld2 => ?_)
          focus
            first | with_reducible assumption | (repeat' (first | with_reducible assumption | with_reducible refine below_drew ?_ | with_reducible refine bel_alloc ?_ _))
          clear hHeld
          have hHeld := hHeld2
          clear hHeld2 hK K
          try simp only [List.getElem_toArray, List.getElem_cons_succ, List.getElem_cons_zero, Act.put, List.setIfInBounds_toArray, List.set_cons_zero, List.set_cons_succ]
          refine wpAnyH_ready (rs := [1, 4]) (by kernel_rfl) (by simp) ?_
          refine (AllReadyH.cons rfl (fun K hK => ?_) (AllReadyH.cons rfl (fun K hK => ?_) AllReadyH.nil))
          · skip
            simp only [List.getElem_toArray, List.getElem_cons_succ, List.getElem_cons_zero]
            go_simp
            refine hK.out _ _ ?_ (fun hHeld2 => ?_)
            focus
              first | with_reducible assumption | (repeat' (first | with_reducible assumption | with_reducible refine below_drew ?_ | with_reducible refine bel_alloc ?_ _))
            clear hHeld
            have hHeld := hHeld2
            clear hHeld2 hK K
            try simp only [List.getElem_toArray, List.getElem_cons_succ, List.getElem_cons_zero, Act.put, List.setIfInBounds_toArray, List.set_cons_zero, List.set_cons_succ]
            refine wpAnyH_ready (rs := [4]) (by kernel_rfl) (by simp) ?_
            refine (AllReadyH.cons rfl (fun K hK => ?_) AllReadyH.nil)
            simp only [List.getElem_toArray, List.getElem_cons_succ, List.getElem_cons_zero]
            go_simp
            refine hK.out _ _ ?_ (fun hHeld2 => ?_)
            focus
              first | with_reducible assumption | (repeat' (first | with_reducible assumption | with_reducible refine below_drew ?_ | with_reducible refine bel_alloc ?_ _))
            clear hHeld
            have hHeld := hHeld2
            clear hHeld2 hK K
            try simp only [List.getElem_toArray, List.getElem_cons_succ, List.getElem_cons_zero, Act.put, List.setIfInBounds_toArray, List.set_cons_zero, List.set_cons_succ]
            refine wpAnyH_ready (rs := [5]) (by kernel_rfl) (by simp) ?_
            refine (AllReadyH.cons rfl (fun K hK => ?_) AllReadyH.nil)
            refine step_append_sl rfl (.tmp 22) (.tmp 25) 22 rfl (M + 1) 9 Try.underlying22 info_str rfl (by omega) rfl (own_keep HO3.out ((Below.refl _ _).alloc (Nat.le_refl _) _)) rfl (Sl.lit _ _ 1 1 #[.string (str sx)] rfl (by unfold maxLen; omega)) (by simp [Value.oneCell']) (show c + 1 ≤ maxLen by unfold maxLen; omega) (show (c + 1) * 16 ≤ 140737488355328 by omega) (Nat.le_trans hM3 (Below.size ((Below.refl w3.heap.size w3).alloc (Nat.le_refl _) _))) ?_
            intro v5 w5 ho5 hb5 _ _
            have HP5 := hid (HP3.out.keep (((Below.refl _ _).alloc hM3 _).trans hb5))
            obtain ⟨A5, c5, rfl, _⟩ := Sl.of_own ho5
            have HO5 := hid ho5
            have c65 := (two_cellsR HP5.out.m).2
            have f65 := (two_frz HP5.out.m).2
            have hbel5 := HP5.out.bel
            have hbel6 := fun v => RowKit.Below.setCell (p := ⟨M, 1, none⟩) HP5.out.bel hMW v
            clear hb5 ho5
            refine hK.out _ _ ?_ (fun hHeld2 => ?_)
            focus
              exact hbel5
            clear hHeld
            have hHeld := hHeld2
            clear hHeld2 hK K
            try simp only [List.getElem_toArray, List.getElem_cons_succ, List.getElem_cons_zero, Act.put, List.setIfInBounds_toArray, List.set_cons_zero, List.set_cons_succ]
            refine wpAnyH_take (i := 6) (v := ?_) rfl (by kernel_rfl) (by kernel_rfl) (by kernel_rfl) (fun _ _ _ h => h) (Or.inl ⟨by rfl, ?_⟩) (by assumption) ?_
            rotate_left
            focus
              intro U hU
              try dsimp only at hU
              go_simp
              try (with_reducible rfl)
            simp only [List.getElem_toArray, List.getElem_cons_succ, List.getElem_cons_zero, Act.put, List.setIfInBounds_toArray, List.set_cons_zero, List.set_cons_succ]
            refine wpAnyH_ready (rs := [7]) (by kernel_rfl) (by simp) ?_
            refine (AllReadyH.cons rfl (fun K hK => ?_) AllReadyH.nil)
            simp only [List.getElem_toArray, List.getElem_cons_succ, List.getElem_cons_zero]
            go_simp
            refine hK.out _ _ ?_ (fun hHeld2 => ?_)
            focus
              exact hbel6 _
            clear hHeld
            have hHeld := hHeld2
            clear hHeld2 hK K
            try simp only [List.getElem_toArray, List.getElem_cons_succ, List.getElem_cons_zero, Act.put, List.setIfInBounds_toArray, List.set_cons_zero, List.set_cons_succ]
            refine wpAnyH_done (by kernel_rfl) ?_ _
            clear hHeld c6 c63 c6a c65 f65 hbel hbel3 hbel5 hbel6
            go_wp2
            go_roundw
            case rel =>
              refine ⟨c + 1, A5, c5, m ++ [sx], l2, e2, by omega, by go_num, by simp [hmc], HR2.out, HP5.out.set1 _, ?_⟩
              rw [Hid, scells_snoc]
              exact own_setOld HO5.out _ _ (Nat.lt_succ_self M)
            case measure => simp [intOf]; omega
          · skip
            simp only [List.getElem_toArray, List.getElem_cons_succ, List.getElem_cons_zero]
            go_simp
            refine hK.out _ _ ?_ (fun hHeld2 => ?_)
            focus
              first | with_reducible assumption | (repeat' (first | with_reducible assumption | with_reducible refine below_drew ?_ | with_reducible refine bel_alloc ?_ _))
            clear hHeld
            have hHeld := hHeld2
            clear hHeld2 hK K
            try simp only [List.getElem_toArray, List.getElem_cons_succ, List.getElem_cons_zero, Act.put, List.setIfInBounds_toArray, List.set_cons_zero, List.set_cons_succ]
            refine wpAnyH_ready (rs := [1]) (by kernel_rfl) (by simp) ?_
            refine (AllReadyH.cons rfl (fun K hK => ?_) AllReadyH.nil)
            simp only [List.getElem_toArray, List.getElem_cons_succ, List.getElem_cons_zero]
            go_simp
            refine hK.out _ _ ?_ (fun hHeld2 => ?_)
            focus
              first | with_reducible assumption | (repeat' (first | with_reducible assumption | with_reducible refine below_drew ?_ | with_reducible refine bel_alloc ?_ _))
            clear hHeld
            have hHeld := hHeld2
            clear hHeld2 hK K
            try simp only [List.getElem_toArray, List.getElem_cons_succ, List.getElem_cons_zero, Act.put, List.setIfInBounds_toArray, List.set_cons_zero, List.set_cons_succ]
            refine wpAnyH_ready (rs := [5]) (by kernel_rfl) (by simp) ?_
            refine (AllReadyH.cons rfl (fun K hK => ?_) AllReadyH.nil)
            refine step_append_sl rfl (.tmp 22) (.tmp 25) 22 rfl (M + 1) 9 Try.underlying22 info_str rfl (by omega) rfl (own_keep HO3.out ((Below.refl _ _).alloc (Nat.le_refl _) _)) rfl (Sl.lit _ _ 1 1 #[.string (str sx)] rfl (by unfold maxLen; omega)) (by simp [Value.oneCell']) (show c + 1 ≤ maxLen by unfold maxLen; omega) (show (c + 1) * 16 ≤ 140737488355328 by omega) (Nat.le_trans hM3 (Below.size ((Below.refl w3.heap.size w3).alloc (Nat.le_refl _) _))) ?_
            intro v5 w5 ho5 hb5 _ _
            have HP5 := hid (HP3.out.keep (((Below.refl _ _).alloc hM3 _).trans hb5))
            obtain ⟨A5, c5, rfl, _⟩ := Sl.of_own ho5
            have HO5 := hid ho5
            have c65 := (two_cellsR HP5.out.m).2
            have f65 := (two_frz HP5.out.m).2
            have hbel5 := HP5.out.bel
            have hbel6 := fun v => RowKit.Below.setCell (p := ⟨M, 1, none⟩) HP5.out.bel hMW v
            clear hb5 ho5
            refine hK.out _ _ ?_ (fun hHeld2 => ?_)
            focus
              exact hbel5
            clear hHeld
            have hHeld := hHeld2
            clear hHeld2 hK K
            try simp only [List.getElem_toArray, List.getElem_cons_succ, List.getElem_cons_zero, Act.put, List.setIfInBounds_toArray, List.set_cons_zero, List.set_cons_succ]
            refine wpAnyH_take (i := 6) (v := ?_) rfl (by kernel_rfl) (by kernel_rfl) (by kernel_rfl) (fun _ _ _ h => h) (Or.inl ⟨by rfl, ?_⟩) (by assumption) ?_
            rotate_left
            focus
              intro U hU
              try dsimp only at hU
              go_simp
              try (with_reducible rfl)
            simp only [List.getElem_toArray, List.getElem_cons_succ, List.getElem_cons_zero, Act.put, List.setIfInBounds_toArray, List.set_cons_zero, List.set_cons_succ]
            refine wpAnyH_ready (rs := [7]) (by kernel_rfl) (by simp) ?_
            refine (AllReadyH.cons rfl (fun K hK => ?_) AllReadyH.nil)
            simp only [List.getElem_toArray, List.getElem_cons_succ, List.getElem_cons_zero]
            go_simp
            refine hK.out _ _ ?_ (fun hHeld2 => ?_)
            focus
              exact hbel6 _
            clear hHeld
            have hHeld := hHeld2
            clear hHeld2 hK K
            try simp only [List.getElem_toArray, List.getElem_cons_succ, List.getElem_cons_zero, Act.put, List.setIfInBounds_toArray, List.set_cons_zero, List.set_cons_succ]
            refine wpAnyH_done (by kernel_rfl) ?_ _
            clear hHeld c6 c63 c6a c65 f65 hbel hbel3 hbel5 hbel6
            go_wp2
            go_roundw
            case rel =>
              refine ⟨c + 1, A5, c5, m ++ [sx], l2, e2, by omega, by go_num, by simp [hmc], HR2.out, HP5.out.set1 _, ?_⟩
              rw [Hid, scells_snoc]
              exact own_setOld HO5.out _ _ (Nat.lt_succ_self M)
            case measure => simp [intOf]; omega
      · obtain rfl : c = n := by omega
        have hge : ¬ (c : Int) < (c : Int) := by omega
        have hxs : xs = m ∧ lx = li ∧ ex = ei := by
          have h1 := hqx.out
          rw [HR.out, Nat.sub_self] at h1
          simpa [rts] using h1
        obtain ⟨rfl, rfl, rfl⟩ := hxs
        have HE := hid (bEnd_any B lx ex wr HP.out.b)
        rw [← hqk.out] at HE
        have HLS := hid (rts_le c ln en)
        rw [← hqx.out] at HLS
        simp only at HLS
        obtain ⟨p0, p1⟩ := two_cellsR HP.out.m
        obtain ⟨g0, g1⟩ := two_cellsR HP.out.r
        obtain ⟨h0, h1⟩ := two_frz HP.out.r
        have hRM : W.heap.size ≠ M := by have := HP.out.rb; have := HP.out.bm; omega
        by_cases he : vk = 0
        · subst he
          rw [if_pos rfl] at HPI HPN
          go_wp2_with (go_at_call 61; refine HE.out.mono ?_; rintro x w' ⟨rfl, rfl⟩)
          obtain ⟨r0, r1⟩ := two_cellsR (put2_heap HP.out.r (.int .i64 (k : Nat)) (.slice Ai c ci))
          simp only [put2] at r0 r1
          rw [HPI.out, HPN.out]
          refine bodyPost_ret (v := .tuple #[.agg #[.int .i64 (k : Nat), .slice Ai c ci], .int .i64 0]) (by simp [results, Try.results20, go_sem, r0, r1]) rfl ⟨Ai, ci, by simp only [hmc], ⟨?_, HLS.out.2⟩, put2_below HP.out.bel (Nat.le_refl _) _ _⟩
          simp only [hmc]
          exact own_mono (put2_own HO.out (by have := HP.out.rb; have := HP.out.bm; omega) _ _) (by have := HP.out.rb; have := HP.out.bm; omega)
        · rw [if_neg he] at HPI HPN
          have hne : (vk != 0) = true := by simp [he]
          go_wp2_with (go_at_call 61; refine HE.out.mono ?_; rintro x w' ⟨rfl, rfl⟩)
          obtain ⟨r0, r1⟩ := two_cellsR (put2_heap HP.out.r (.int .i64 0) (.slice none 0 0))
          simp only [put2] at r0 r1
          rw [HPI.out, HPN.out]
          refine bodyPost_ret (v := .tuple #[.agg #[.int .i64 0, .slice none 0 0], .int .i64 vk]) (by simp [results, Try.results20, go_sem, r0, r1]) rfl ⟨none, 0, rfl, ⟨World.ownsRow_nil _ _ _ _, by simp⟩, put2_below HP.out.bel (Nat.le_refl _) _ _⟩
end Go.Proofs.Ytgakobolhmdnnaa
