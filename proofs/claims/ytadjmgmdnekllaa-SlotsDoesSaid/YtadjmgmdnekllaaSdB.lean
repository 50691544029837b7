/- The document's slots: Free, Ask: contracts. -/
import Derived.Test.YtadjmgmdnekllaaSdA
import Derived.Deep.CutRange
import Derived.Deep.RegionHeld3
namespace Go.Proofs.Ytadjmgmdnekllaa
open Go.RowKit Go.Sort
set_option linter.unusedVariables false
set_option linter.unusedSimpArgs false

theorem own_put4 {w : World} {B e s n Z : Nat} {v x0 x1 x2 x3 : Value} {xs : List Value} (h : w.ownsRow B e s v n xs) (hZ : Z < B) : (put4 w Z x0 x1 x2 x3).ownsRow B e s v n xs := by
  unfold put4
  exact own_setOld (own_setOld (own_setOld (own_setOld h _ _ hZ) _ _ hZ) _ _ hZ) _ _ hZ
def NonNeg (s : Sv) : Prop := 0 ≤ s.n
set_option maxRecDepth 20000 in
set_option maxHeartbeats 2000000 in
theorem rfree_any (s : Sv) (A O R : Option Addr) (ca co cr : Nat) (W : World) (hk : OkV s) (hn : NonNeg s) :
    Calls Try.prog 82 #[.agg (svv s A O R ca co cr)] W fun e w' => e = .returned (.int .i64 (freeV s)) ∧ Below W.heap.size W w' := by
  obtain ⟨h1, h2, _, h4⟩ := hk
  obtain ⟨n, a, o, r⟩ := s
  simp only [svv, NonNeg] at *
  have hla : (a.length : Int) ≤ 1000 := by omega
  have hlr : (r.length : Int) ≤ 1000 := by omega
  have HF : Hid (freeV ⟨n, a, o, r⟩ = if n ≤ ((a.length + r.length : Nat) : Int) then 0 else n - ((a.length + r.length : Nat) : Int)) := hid rfl
  generalize freeV ⟨n, a, o, r⟩ = f at *
  generalize a.length = la at *
  generalize o.length = lo at *
  generalize r.length = lr at *
  clear a o r
  go_enter Try.func82, Try.ntmps82
  go_upto_region 1 with (fail)
  refine at_world (fun u => u.heap[W.heap.size]? = some (.cells #[.int .i64 n, .slice A la ca, .slice O lo co, .slice R lr cr] 113 (0, 0)) ∧ Below W.heap.size W u) ⟨heap_alloc_new _ _, (Below.refl _ _).alloc (Nat.le_refl _) _⟩ ?_
  rintro w1 ⟨hx1, hb1⟩
  obtain ⟨⟨p0, p1, p2, p3⟩, _⟩ := four_cells hx1
  have HB1 := hid hb1
  clear hx1 hb1
  go_wp2
  go_loopw [3, 4] (fun m i wr => ∃ k : Nat, k ≤ la + lr ∧ (k : Int) ≤ n ∧ i = .int .i64 (k : Int) ∧ m = .int .i64 (n - (k : Int)) ∧ wr = w1) (fun _ i _ => la + lr - (intOf i).toNat)
  case atStart => exact ⟨0, by omega, by omega, rfl, by simp⟩
  case round =>
    obtain ⟨k, hk, hkn, rfl, rfl, rfl⟩ := hrel
    by_cases hlt : k < la + lr
    · have hlt2 : (k : Int) < (la : Int) + (lr : Int) := by omega
      by_cases hpos : 0 < n - (k : Int)
      · go_wp2
        go_roundw
        case rel => exact ⟨k + 1, by omega, by omega, by go_num, by first | go_num | (congr 1; omega)⟩
        case measure => simp [intOf]; omega
      · have HV : Hid (f = 0) := hid (by rw [HF.out, if_pos (by omega)])
        have hz : n - (k : Int) = 0 := by omega
        have hz2 : ¬ n - (k : Int) < 0 := by omega
        clear HF
        go_wp2
        go_ret
        exact ⟨by rw [HV.out]; simp [hz], HB1.out⟩
    · have hge : ¬ (k : Int) < (la : Int) + (lr : Int) := by omega
      have HV : Hid (f = n - (k : Int)) := hid (by
        rw [HF.out]
        split <;> omega)
      have hz2 : ¬ n - (k : Int) < 0 := by omega
      clear HF
      go_wp2
      go_ret
      exact ⟨by rw [HV.out]; simp, HB1.out⟩

set_option maxRecDepth 20000 in
set_option maxHeartbeats 4000000 in
theorem rask_any (s : Sv) (j x : Int) (A O R : Option Addr) (ca co cr : Nat) (W : World) (h : InV W s A O R ca co cr) (hk : OkV s) (hn : NonNeg s) :
    Calls Try.prog 79 #[.agg (svv s A O R ca co cr), .agg #[.int .i64 j, .int .i64 x]] W fun e w' => ∃ A' O' R' ca' co' cr', e = .returned (.tuple #[.agg (svv (askV s j x).1 A' O' R' ca' co' cr'), .bool (askV s j x).2]) ∧ InV w' (askV s j x).1 A' O' R' ca' co' cr' ∧ Below W.heap.size W w' := by
  have HFR := hid (fun w => rfree_any s A O R ca co cr w hk hn)
  have HIN := hid (fun w (hw : Below W.heap.size W w) => h.below hw)
  have HSA := hid (fun w (hw : Below W.heap.size W w) => h.1.below hw)
  have HAS := hid (fun w (hw : Below W.heap.size W w) => rqhas_any A s.a.length ca s.a j w (h.1.below hw))
  have hla := hk.2.1
  have HV : Hid (askV s j x = if freeV s = 0 ∨ hasJ s.a j = true then (s, false) else (⟨s.n, s.a ++ [(j, x)], s.o, s.r⟩, true)) := hid rfl
  clear h hk hn
  generalize askV s j x = av at *
  generalize freeV s = f at *
  generalize hasJ s.a j = hj at *
  obtain ⟨n, a, o, r⟩ := s
  simp only [svv] at *
  go_enter Try.func79, Try.ntmps79
  go_upto_region 1 with (fail)
  refine at_world (fun u => u.heap[W.heap.size]? = some (.cells #[.int .i64 n, .slice A a.length ca, .slice O o.length co, .slice R r.length cr] 113 (0, 0)) ∧ u.heap[W.heap.size + 1]? = some (.cells #[.int .i64 j, .int .i64 x] 87 (0, 0)) ∧ u.heap[W.heap.size + 2]? = some (.cells #[.int .i64 0, .slice none 0 0, .slice none 0 0, .slice none 0 0] 113 (0, 0)) ∧ Below W.heap.size W u) (heap3 _ _ _ _) ?_
  rintro w1 ⟨hx1, hy1, hz1, hb1⟩
  obtain ⟨⟨p0, p1, p2, p3⟩, f0, f1, f2, f3⟩ := four_cells hx1
  have HX1 := hid hx1
  have HY1 := hid hy1
  have HZ1 := hid hz1
  have HB1 := hid hb1
  clear hx1 hy1 hz1 hb1
  go_wp2_with fail
  refine (HFR.out _).mono ?_
  rintro e w3 ⟨rfl, hb4⟩
  have hn3 := keep0 HX1.out hb4
  have hy3 := keep0 HY1.out hb4
  have hz3 := keep0 HZ1.out hb4
  have HB3 := hid (HB1.out.trans (hb4.mono HB1.out.size))
  clear hb4 HFR p0 p1 p2 p3 f0 f1 f2 f3 HX1 HY1 HZ1 HB1
  obtain ⟨⟨p0, p1, p2, p3⟩, _⟩ := four_cells hn3
  obtain ⟨y0, y1, _, _⟩ := two_cells hy3
  by_cases hf : f = 0
  · subst hf
    have hd : ((0 : Int) == 0) = true := rfl
    have HVV : Hid (av = (⟨n, a, o, r⟩, false)) := hid (by rw [HV.out, if_pos (.inl rfl)])
    obtain ⟨_, g0, g1, g2, g3⟩ := four_cells hz3
    obtain ⟨⟨r0, r1, r2, r3⟩, _⟩ := four_cells (put4_heap hz3 (.int .i64 n) (.slice A a.length ca) (.slice O o.length co) (.slice R r.length cr))
    simp only [put4] at r0 r1 r2 r3
    go_wp2
    have hr := put4_below HB3.out (show W.heap.size ≤ W.heap.size + 2 by omega) (.int .i64 n) (.slice A a.length ca) (.slice O o.length co) (.slice R r.length cr)
    exact bodyPost_ret (v := .tuple #[.agg #[.int .i64 n, .slice A a.length ca, .slice O o.length co, .slice R r.length cr], .bool false]) (by simp [results, Try.results79, go_sem, r0, r1, r2, r3]) rfl ⟨A, O, R, ca, co, cr, by rw [HVV.out] <;> (first | rfl | simp), by rw [HVV.out]; exact HIN.out _ hr, hr⟩
  · have hd : (f == 0) = false := by simpa using hf
    have HC := hid (HAS.out w3 HB3.out)
    clear HAS
    go_wp2_with fail
    refine HC.out.mono ?_
    rintro e w5 ⟨rfl, rfl⟩
    clear HC
    cases hj
    case true =>
      have HVV : Hid (av = (⟨n, a, o, r⟩, false)) := hid (by rw [HV.out, if_pos (.inr rfl)])
      obtain ⟨_, g0, g1, g2, g3⟩ := four_cells hz3
      obtain ⟨⟨r0, r1, r2, r3⟩, _⟩ := four_cells (put4_heap hz3 (.int .i64 n) (.slice A a.length ca) (.slice O o.length co) (.slice R r.length cr))
      simp only [put4] at r0 r1 r2 r3
      go_wp2
      have hr := put4_below HB3.out (show W.heap.size ≤ W.heap.size + 2 by omega) (.int .i64 n) (.slice A a.length ca) (.slice O o.length co) (.slice R r.length cr)
      exact bodyPost_ret (v := .tuple #[.agg #[.int .i64 n, .slice A a.length ca, .slice O o.length co, .slice R r.length cr], .bool false]) (by simp [results, Try.results79, go_sem, r0, r1, r2, r3]) rfl ⟨A, O, R, ca, co, cr, by rw [HVV.out] <;> (first | rfl | simp), by rw [HVV.out]; exact HIN.out _ hr, hr⟩
    case false =>
      have HVV : Hid (av = (⟨n, a ++ [(j, x)], o, r⟩, true)) := hid (by rw [HV.out, if_neg (by simp [hf])])
      go_upto_region 3 with (fail)
      go_cut [16] from 17 to 24 (fun _ wx => ∃ A6 c6, wx.heap[W.heap.size]? = some (.cells #[.int .i64 n, .slice A6 (a.length + 1) c6, .slice O o.length co, .slice R r.length cr] 113 (0, 0)) ∧ wx.heap[W.heap.size + 2]? = some (.cells #[.int .i64 0, .slice none 0 0, .slice none 0 0, .slice none 0 0] 113 (0, 0)) ∧ wx.ownsRow w3.heap.size 87 2 (.slice A6 (a.length + 1) c6) (a.length + 1) (pcells a ++ [.int .i64 j, .int .i64 x]) ∧ Below W.heap.size W wx)
      case rest =>
        obtain ⟨A6, c6, hx, hz, ho, hb⟩ := hcut
        have hzl := lt_of_block hz3
        clear p0 p1 p2 p3 y0 y1
        obtain ⟨⟨p0, p1, p2, p3⟩, _⟩ := four_cells hx
        obtain ⟨_, g0, g1, g2, g3⟩ := four_cells hz
        obtain ⟨⟨r0, r1, r2, r3⟩, _⟩ := four_cells (put4_heap hz (.int .i64 n) (.slice A6 (a.length + 1) c6) (.slice O o.length co) (.slice R r.length cr))
        simp only [put4] at r0 r1 r2 r3
        have hr := put4_below hb (show W.heap.size ≤ W.heap.size + 2 by omega) (.int .i64 n) (.slice A6 (a.length + 1) c6) (.slice O o.length co) (.slice R r.length cr)
        have hrow := sl_own (own_put4 (x0 := .int .i64 n) (x1 := .slice A6 (a.length + 1) c6) (x2 := .slice O o.length co) (x3 := .slice R r.length cr) ho hzl)
        have HR := hid (And.intro hr hrow)
        clear hr hrow ho hb hx hz hn3 hy3 hz3
        go_wp2
        exact bodyPost_ret (v := .tuple #[.agg #[.int .i64 n, .slice A6 (a.length + 1) c6, .slice O o.length co, .slice R r.length cr], .bool true]) (by simp [results, Try.results79, go_sem, r0, r1, r2, r3]) rfl ⟨A6, O, R, c6, co, cr, by rw [HVV.out] <;> (first | rfl | simp [svv]), by rw [HVV.out]; exact ⟨by rw [List.length_append, pcells_append]; exact HR.out.2, (HIN.out _ HR.out.1).2⟩, HR.out.1⟩
      clear p0 p1 p2 p3 y0 y1 HIN HV HVV
      have hS : ∀ U, Below w3.heap.size w3 U → (fun U => (U.cell? ⟨(W.heap.size + 1), 0, none⟩ = some (.int .i64 j) ∧ U.cell? ⟨(W.heap.size + 1), 1, none⟩ = some (.int .i64 x)) ∧ Below W.heap.size W U) U := fun U hU => ⟨⟨(two_cells (keep0 hy3 hU)).1, (two_cells (keep0 hy3 hU)).2.1⟩, HB3.out.trans (hU.mono HB3.out.size)⟩
      have hk : Below w3.heap.size w3 w3.drew := below_drew (Below.refl _ _)
      refine wp_region_held_drew (S := (fun U => (U.cell? ⟨(W.heap.size + 1), 0, none⟩ = some (.int .i64 j) ∧ U.cell? ⟨(W.heap.size + 1), 1, none⟩ = some (.int .i64 x)) ∧ Below W.heap.size W U)) (by kernel_rfl) (hS _ hk) (fun hHeld => ?_)
      generalize w3.drew = k0 at *
      refine wpAnyH_take (i := 1) (v := ?_) rfl (by kernel_rfl) (by kernel_rfl) (by kernel_rfl) (fun _ _ _ h => h) (Or.inl ⟨by rfl, ?_⟩) (by exact hS _ hk) ?_
      rotate_left
      focus
        intro U hU
        try dsimp only at hU
        go_simp
        try (with_reducible rfl)
      simp only [List.getElem_toArray, List.getElem_cons_succ, List.getElem_cons_zero, Act.put, List.setIfInBounds_toArray, List.set_cons_zero, List.set_cons_succ]
      refine wpAnyH_take (i := 4) (v := ?_) rfl (by kernel_rfl) (by kernel_rfl) (by kernel_rfl) (fun _ _ _ h => h) (Or.inl ⟨by rfl, ?_⟩) (by exact hS _ hk) ?_
      rotate_left
      focus
        intro U hU
        try dsimp only at hU
        go_simp
        try (with_reducible rfl)
      simp only [List.getElem_toArray, List.getElem_cons_succ, List.getElem_cons_zero, Act.put, List.setIfInBounds_toArray, List.set_cons_zero, List.set_cons_succ]
      refine wpAnyH_ready (rs := [0, 2, 5]) (by kernel_rfl) (by simp) ?_
      refine (AllReadyH.cons rfl (fun K hK => ?_) (AllReadyH.cons rfl (fun K hK => ?_) (AllReadyH.cons rfl (fun K hK => ?_) AllReadyH.nil)))
      · skip
        have hbs : Below (World.heap k0).size k0 (World.alloc k0 (.cells #[] 87)) := (Below.refl _ _).alloc (Nat.le_refl _) _
        have HE := hid (own_mono (own_empty k0 87 2) hk.size)
        replace hk := hk.trans (hbs.mono hk.size)
        clear hbs
        simp only [List.getElem_toArray, List.getElem_cons_succ, List.getElem_cons_zero]
        go_simp
        refine hK.out _ _ ?_ (fun hHeld2 => ?_)
        focus
          exact hS _ hk
        clear hHeld
        have hHeld := hHeld2
        clear hHeld2 hK K
        try simp only [List.getElem_toArray, List.getElem_cons_succ, List.getElem_cons_zero, Act.put, List.setIfInBounds_toArray, List.set_cons_zero, List.set_cons_succ]
        generalize (World.alloc k0 (.cells #[] 87)) = k1 at *
        generalize (World.heap k0).size = XE at *
        refine wpAnyH_ready (rs := [2, 5]) (by kernel_rfl) (by simp) ?_
        refine (AllReadyH.cons rfl (fun K hK => ?_) (AllReadyH.cons rfl (fun K hK => ?_) AllReadyH.nil))
        · skip
          obtain ⟨⟨p0, p1, p2, p3⟩, _⟩ := four_cells (keep0 hn3 hk)
          simp only [List.getElem_toArray, List.getElem_cons_succ, List.getElem_cons_zero]
          go_simp
          refine hK.out _ _ ?_ (fun hHeld2 => ?_)
          focus
            exact hS _ hk
          clear hHeld
          have hHeld := hHeld2
          clear hHeld2 hK K
          try simp only [List.getElem_toArray, List.getElem_cons_succ, List.getElem_cons_zero, Act.put, List.setIfInBounds_toArray, List.set_cons_zero, List.set_cons_succ]
          clear p0 p1 p2 p3
          refine wpAnyH_ready (rs := [3, 5]) (by kernel_rfl) (by simp) ?_
          refine (AllReadyH.cons rfl (fun K hK => ?_) (AllReadyH.cons rfl (fun K hK => ?_) AllReadyH.nil))
          · skip
            refine step_append_sl rfl (.tmp 17) (.tmp 19) 82 rfl w3.heap.size 87 Try.underlying82 info_rplace rfl (by omega) rfl HE.out rfl (HSA.out _ (HB3.out.trans (hk.mono HB3.out.size))) (pcells_one _) (by unfold maxLen; omega) (by omega) hk.size ?_
            intro vk2 k2 ho5 hb5 hsz5 hk5
            simp only [Nat.zero_add, List.nil_append] at ho5
            obtain ⟨A5, c5, rfl, _⟩ := Sl.of_own ho5
            clear HE
            have HE := hid ho5
            replace hk := hk.trans hb5
            clear hb5 hsz5 hk5 ho5
            simp only [List.getElem_toArray, List.getElem_cons_succ, List.getElem_cons_zero]
            refine hK.out _ _ ?_ (fun hHeld2 => ?_)
            focus
              exact hS _ hk
            clear hHeld
            have hHeld := hHeld2
            clear hHeld2 hK K
            try simp only [List.getElem_toArray, List.getElem_cons_succ, List.getElem_cons_zero, Act.put, List.setIfInBounds_toArray, List.set_cons_zero, List.set_cons_succ]
            refine wpAnyH_ready (rs := [5]) (by kernel_rfl) (by simp) ?_
            refine (AllReadyH.cons rfl (fun K hK => ?_) AllReadyH.nil)
            have hbs : Below (World.heap k2).size k2 (World.alloc k2 (.cells #[.int .i64 j, .int .i64 x] 87)) := (Below.refl _ _).alloc (Nat.le_refl _) _
            have HL : Hid ((World.alloc k2 (.cells #[.int .i64 j, .int .i64 x] 87)).heap[(World.heap k2).size]? = some (.cells #[.int .i64 j, .int .i64 x] 87 (0, 0))) := hid (heap_alloc_new _ _)
            have HXL : Hid (w3.heap.size ≤ (World.heap k2).size) := hid hk.size
            replace HE := hid (own_keep HE.out hbs)
            replace hk := hk.trans (hbs.mono hk.size)
            clear hbs
            simp only [List.getElem_toArray, List.getElem_cons_succ, List.getElem_cons_zero]
            go_simp
            refine hK.out _ _ ?_ (fun hHeld2 => ?_)
            focus
              exact hS _ hk
            clear hHeld
            have hHeld := hHeld2
            clear hHeld2 hK K
            try simp only [List.getElem_toArray, List.getElem_cons_succ, List.getElem_cons_zero, Act.put, List.setIfInBounds_toArray, List.set_cons_zero, List.set_cons_succ]
            generalize (World.alloc k2 (.cells #[.int .i64 j, .int .i64 x] 87)) = k3 at *
            generalize (World.heap k2).size = XL at *
            refine wpAnyH_ready (rs := [6]) (by kernel_rfl) (by simp) ?_
            refine AllReadyH.cons rfl (fun K hK => ?_) AllReadyH.nil
            refine step_append_sl rfl (.tmp 20) (.tmp 22) 82 rfl w3.heap.size 87 Try.underlying82 info_rplace rfl (by omega) rfl HE.out rfl (by exact sl_heap HL.out) (by simp; exact ⟨rfl, rfl⟩) (by unfold maxLen; omega) (by omega) hk.size ?_
            intro v6 w6 ho6 hb6 hsz6 hk6
            obtain ⟨A6, c6, rfl, _⟩ := Sl.of_own ho6
            replace hk := hk.trans hb6
            have HO6 := hid ho6
            clear hb6 hsz6 hk6 ho6 HE HL
            simp only [List.getElem_toArray, List.getElem_cons_succ, List.getElem_cons_zero]
            refine hK.out _ _ ?_ (fun hHeld2 => ?_)
            focus
              exact hS _ hk
            clear hHeld
            have hHeld := hHeld2
            clear hHeld2 hK K
            try simp only [List.getElem_toArray, List.getElem_cons_succ, List.getElem_cons_zero, Act.put, List.setIfInBounds_toArray, List.set_cons_zero, List.set_cons_succ]
            refine wpAnyH_take (i := 7) (v := ?_) rfl (by kernel_rfl) (by kernel_rfl) (by kernel_rfl) (fun _ _ _ h => h) (Or.inl ⟨by rfl, ?_⟩) (by exact hS _ hk) ?_
            rotate_left
            focus
              intro U hU
              try dsimp only at hU
              go_simp
              try (with_reducible rfl)
            simp only [List.getElem_toArray, List.getElem_cons_succ, List.getElem_cons_zero, Act.put, List.setIfInBounds_toArray, List.set_cons_zero, List.set_cons_succ]
            refine wpAnyH_ready (rs := [8]) (by kernel_rfl) (by simp) ?_
            refine AllReadyH.cons rfl (fun K hK => ?_) AllReadyH.nil
            obtain ⟨_, f0, f1, f2, f3⟩ := four_cells (keep0 hn3 hk)
            simp only [List.getElem_toArray, List.getElem_cons_succ, List.getElem_cons_zero]
            go_simp
            refine hK.out _ _ ?_ (fun hHeld2 => ?_)
            focus
              exact ⟨⟨(two_cells ((Below.heap_setCell _ _ _ _ (show W.heap.size + 1 ≠ W.heap.size by omega)).trans (keep0 hy3 hk))).1, (two_cells ((Below.heap_setCell _ _ _ _ (show W.heap.size + 1 ≠ W.heap.size by omega)).trans (keep0 hy3 hk))).2.1⟩, (HB3.out.trans (hk.mono HB3.out.size)).setCell (p := ⟨W.heap.size, 1, none⟩) (Nat.le_refl _) _⟩
            clear hHeld
            have hHeld := hHeld2
            clear hHeld2 hK K
            try simp only [List.getElem_toArray, List.getElem_cons_succ, List.getElem_cons_zero, Act.put, List.setIfInBounds_toArray, List.set_cons_zero, List.set_cons_succ]
            refine wpAnyH_done (by kernel_rfl) ?_ _
            clear hHeld f0 f1 f2 f3
            go_wp2_with fail
            go_meet
            refine ⟨A6, c6, ?_, (Below.heap_setCell _ _ _ _ (show W.heap.size + 2 ≠ W.heap.size by omega)).trans (keep0 hz3 hk), own_setOld HO6.out _ _ (lt_of_block hn3), (HB3.out.trans (hk.mono HB3.out.size)).setCell (p := ⟨W.heap.size, 1, none⟩) (Nat.le_refl _) _⟩
            rw [heap_setCell_same _ _ _ _ _ _ (keep0 hn3 hk)]
            simp
          · skip
            have hbs : Below (World.heap k1).size k1 (World.alloc k1 (.cells #[.int .i64 j, .int .i64 x] 87)) := (Below.refl _ _).alloc (Nat.le_refl _) _
            have HL : Hid ((World.alloc k1 (.cells #[.int .i64 j, .int .i64 x] 87)).heap[(World.heap k1).size]? = some (.cells #[.int .i64 j, .int .i64 x] 87 (0, 0))) := hid (heap_alloc_new _ _)
            have HXL : Hid (w3.heap.size ≤ (World.heap k1).size) := hid hk.size
            have HNE : Hid ((World.heap k1).size ≠ XE) := hid (Nat.ne_of_gt (own_blk_lt HE.out rfl).1)
            replace HE := hid (own_keep HE.out hbs)
            replace hk := hk.trans (hbs.mono hk.size)
            clear hbs
            simp only [List.getElem_toArray, List.getElem_cons_succ, List.getElem_cons_zero]
            go_simp
            refine hK.out _ _ ?_ (fun hHeld2 => ?_)
            focus
              exact hS _ hk
            clear hHeld
            have hHeld := hHeld2
            clear hHeld2 hK K
            try simp only [List.getElem_toArray, List.getElem_cons_succ, List.getElem_cons_zero, Act.put, List.setIfInBounds_toArray, List.set_cons_zero, List.set_cons_succ]
            generalize (World.alloc k1 (.cells #[.int .i64 j, .int .i64 x] 87)) = k4 at *
            generalize (World.heap k1).size = XL at *
            refine wpAnyH_ready (rs := [3]) (by kernel_rfl) (by simp) ?_
            refine (AllReadyH.cons rfl (fun K hK => ?_) AllReadyH.nil)
            refine step_append_sl rfl (.tmp 17) (.tmp 19) 82 rfl w3.heap.size 87 Try.underlying82 info_rplace rfl (by omega) rfl HE.out rfl (HSA.out _ (HB3.out.trans (hk.mono HB3.out.size))) (pcells_one _) (by unfold maxLen; omega) (by omega) hk.size ?_
            intro vk5 k5 ho5 hb5 hsz5 hk5
            simp only [Nat.zero_add, List.nil_append] at ho5
            obtain ⟨A5, c5, rfl, _⟩ := Sl.of_own ho5
            replace HL := hid ((hk5 XL HXL.out (lt_of_block HL.out) (fun e => HNE.out (Option.some.inj e).symm)).trans HL.out)
            clear HE
            have HE := hid ho5
            replace hk := hk.trans hb5
            clear hb5 hsz5 hk5 ho5
            simp only [List.getElem_toArray, List.getElem_cons_succ, List.getElem_cons_zero]
            refine hK.out _ _ ?_ (fun hHeld2 => ?_)
            focus
              exact hS _ hk
            clear hHeld
            have hHeld := hHeld2
            clear hHeld2 hK K
            try simp only [List.getElem_toArray, List.getElem_cons_succ, List.getElem_cons_zero, Act.put, List.setIfInBounds_toArray, List.set_cons_zero, List.set_cons_succ]
            refine wpAnyH_ready (rs := [6]) (by kernel_rfl) (by simp) ?_
            refine AllReadyH.cons rfl (fun K hK => ?_) AllReadyH.nil
            refine step_append_sl rfl (.tmp 20) (.tmp 22) 82 rfl w3.heap.size 87 Try.underlying82 info_rplace rfl (by omega) rfl HE.out rfl (by exact sl_heap HL.out) (by simp; exact ⟨rfl, rfl⟩) (by unfold maxLen; omega) (by omega) hk.size ?_
            intro v6 w6 ho6 hb6 hsz6 hk6
            obtain ⟨A6, c6, rfl, _⟩ := Sl.of_own ho6
            replace hk := hk.trans hb6
            have HO6 := hid ho6
            clear hb6 hsz6 hk6 ho6 HE HL
            simp only [List.getElem_toArray, List.getElem_cons_succ, List.getElem_cons_zero]
            refine hK.out _ _ ?_ (fun hHeld2 => ?_)
            focus
              exact hS _ hk
            clear hHeld
            have hHeld := hHeld2
            clear hHeld2 hK K
            try simp only [List.getElem_toArray, List.getElem_cons_succ, List.getElem_cons_zero, Act.put, List.setIfInBounds_toArray, List.set_cons_zero, List.set_cons_succ]
            refine wpAnyH_take (i := 7) (v := ?_) rfl (by kernel_rfl) (by kernel_rfl) (by kernel_rfl) (fun _ _ _ h => h) (Or.inl ⟨by rfl, ?_⟩) (by exact hS _ hk) ?_
            rotate_left
            focus
              intro U hU
              try dsimp only at hU
              go_simp
              try (with_reducible rfl)
            simp only [List.getElem_toArray, List.getElem_cons_succ, List.getElem_cons_zero, Act.put, List.setIfInBounds_toArray, List.set_cons_zero, List.set_cons_succ]
            refine wpAnyH_ready (rs := [8]) (by kernel_rfl) (by simp) ?_
            refine AllReadyH.cons rfl (fun K hK => ?_) AllReadyH.nil
            obtain ⟨_, f0, f1, f2, f3⟩ := four_cells (keep0 hn3 hk)
            simp only [List.getElem_toArray, List.getElem_cons_succ, List.getElem_cons_zero]
            go_simp
            refine hK.out _ _ ?_ (fun hHeld2 => ?_)
            focus
              exact ⟨⟨(two_cells ((Below.heap_setCell _ _ _ _ (show W.heap.size + 1 ≠ W.heap.size by omega)).trans (keep0 hy3 hk))).1, (two_cells ((Below.heap_setCell _ _ _ _ (show W.heap.size + 1 ≠ W.heap.size by omega)).trans (keep0 hy3 hk))).2.1⟩, (HB3.out.trans (hk.mono HB3.out.size)).setCell (p := ⟨W.heap.size, 1, none⟩) (Nat.le_refl _) _⟩
            clear hHeld
            have hHeld := hHeld2
            clear hHeld2 hK K
            try simp only [List.getElem_toArray, List.getElem_cons_succ, List.getElem_cons_zero, Act.put, List.setIfInBounds_toArray, List.set_cons_zero, List.set_cons_succ]
            refine wpAnyH_done (by kernel_rfl) ?_ _
            clear hHeld f0 f1 f2 f3
            go_wp2_with fail
            go_meet
            refine ⟨A6, c6, ?_, (Below.heap_setCell _ _ _ _ (show W.heap.size + 2 ≠ W.heap.size by omega)).trans (keep0 hz3 hk), own_setOld HO6.out _ _ (lt_of_block hn3), (HB3.out.trans (hk.mono HB3.out.size)).setCell (p := ⟨W.heap.size, 1, none⟩) (Nat.le_refl _) _⟩
            rw [heap_setCell_same _ _ _ _ _ _ (keep0 hn3 hk)]
            simp
        · skip
          have hbs : Below (World.heap k1).size k1 (World.alloc k1 (.cells #[.int .i64 j, .int .i64 x] 87)) := (Below.refl _ _).alloc (Nat.le_refl _) _
          have HL : Hid ((World.alloc k1 (.cells #[.int .i64 j, .int .i64 x] 87)).heap[(World.heap k1).size]? = some (.cells #[.int .i64 j, .int .i64 x] 87 (0, 0))) := hid (heap_alloc_new _ _)
          have HXL : Hid (w3.heap.size ≤ (World.heap k1).size) := hid hk.size
          have HNE : Hid ((World.heap k1).size ≠ XE) := hid (Nat.ne_of_gt (own_blk_lt HE.out rfl).1)
          replace HE := hid (own_keep HE.out hbs)
          replace hk := hk.trans (hbs.mono hk.size)
          clear hbs
          simp only [List.getElem_toArray, List.getElem_cons_succ, List.getElem_cons_zero]
          go_simp
          refine hK.out _ _ ?_ (fun hHeld2 => ?_)
          focus
            exact hS _ hk
          clear hHeld
          have hHeld := hHeld2
          clear hHeld2 hK K
          try simp only [List.getElem_toArray, List.getElem_cons_succ, List.getElem_cons_zero, Act.put, List.setIfInBounds_toArray, List.set_cons_zero, List.set_cons_succ]
          generalize (World.alloc k1 (.cells #[.int .i64 j, .int .i64 x] 87)) = k6 at *
          generalize (World.heap k1).size = XL at *
          refine wpAnyH_ready (rs := [2]) (by kernel_rfl) (by simp) ?_
          refine (AllReadyH.cons rfl (fun K hK => ?_) AllReadyH.nil)
          obtain ⟨⟨p0, p1, p2, p3⟩, _⟩ := four_cells (keep0 hn3 hk)
          simp only [List.getElem_toArray, List.getElem_cons_succ, List.getElem_cons_zero]
          go_simp
          refine hK.out _ _ ?_ (fun hHeld2 => ?_)
          focus
            exact hS _ hk
          clear hHeld
          have hHeld := hHeld2
          clear hHeld2 hK K
          try simp only [List.getElem_toArray, List.getElem_cons_succ, List.getElem_cons_zero, Act.put, List.setIfInBounds_toArray, List.set_cons_zero, List.set_cons_succ]
          clear p0 p1 p2 p3
          refine wpAnyH_ready (rs := [3]) (by kernel_rfl) (by simp) ?_
          refine (AllReadyH.cons rfl (fun K hK => ?_) AllReadyH.nil)
          refine step_append_sl rfl (.tmp 17) (.tmp 19) 82 rfl w3.heap.size 87 Try.underlying82 info_rplace rfl (by omega) rfl HE.out rfl (HSA.out _ (HB3.out.trans (hk.mono HB3.out.size))) (pcells_one _) (by unfold maxLen; omega) (by omega) hk.size ?_
          intro vk7 k7 ho5 hb5 hsz5 hk5
          simp only [Nat.zero_add, List.nil_append] at ho5
          obtain ⟨A5, c5, rfl, _⟩ := Sl.of_own ho5
          replace HL := hid ((hk5 XL HXL.out (lt_of_block HL.out) (fun e => HNE.out (Option.some.inj e).symm)).trans HL.out)
          clear HE
          have HE := hid ho5
          replace hk := hk.trans hb5
          clear hb5 hsz5 hk5 ho5
          simp only [List.getElem_toArray, List.getElem_cons_succ, List.getElem_cons_zero]
          refine hK.out _ _ ?_ (fun hHeld2 => ?_)
          focus
            exact hS _ hk
          clear hHeld
          have hHeld := hHeld2
          clear hHeld2 hK K
          try simp only [List.getElem_toArray, List.getElem_cons_succ, List.getElem_cons_zero, Act.put, List.setIfInBounds_toArray, List.set_cons_zero, List.set_cons_succ]
          refine wpAnyH_ready (rs := [6]) (by kernel_rfl) (by simp) ?_
          refine AllReadyH.cons rfl (fun K hK => ?_) AllReadyH.nil
          refine step_append_sl rfl (.tmp 20) (.tmp 22) 82 rfl w3.heap.size 87 Try.underlying82 info_rplace rfl (by omega) rfl HE.out rfl (by exact sl_heap HL.out) (by simp; exact ⟨rfl, rfl⟩) (by unfold maxLen; omega) (by omega) hk.size ?_
          intro v6 w6 ho6 hb6 hsz6 hk6
          obtain ⟨A6, c6, rfl, _⟩ := Sl.of_own ho6
          replace hk := hk.trans hb6
          have HO6 := hid ho6
          clear hb6 hsz6 hk6 ho6 HE HL
          simp only [List.getElem_toArray, List.getElem_cons_succ, List.getElem_cons_zero]
          refine hK.out _ _ ?_ (fun hHeld2 => ?_)
          focus
            exact hS _ hk
          clear hHeld
          have hHeld := hHeld2
          clear hHeld2 hK K
          try simp only [List.getElem_toArray, List.getElem_cons_succ, List.getElem_cons_zero, Act.put, List.setIfInBounds_toArray, List.set_cons_zero, List.set_cons_succ]
          refine wpAnyH_take (i := 7) (v := ?_) rfl (by kernel_rfl) (by kernel_rfl) (by kernel_rfl) (fun _ _ _ h => h) (Or.inl ⟨by rfl, ?_⟩) (by exact hS _ hk) ?_
          rotate_left
          focus
            intro U hU
            try dsimp only at hU
            go_simp
            try (with_reducible rfl)
          simp only [List.getElem_toArray, List.getElem_cons_succ, List.getElem_cons_zero, Act.put, List.setIfInBounds_toArray, List.set_cons_zero, List.set_cons_succ]
          refine wpAnyH_ready (rs := [8]) (by kernel_rfl) (by simp) ?_
          refine AllReadyH.cons rfl (fun K hK => ?_) AllReadyH.nil
          obtain ⟨_, f0, f1, f2, f3⟩ := four_cells (keep0 hn3 hk)
          simp only [List.getElem_toArray, List.getElem_cons_succ, List.getElem_cons_zero]
          go_simp
          refine hK.out _ _ ?_ (fun hHeld2 => ?_)
          focus
            exact ⟨⟨(two_cells ((Below.heap_setCell _ _ _ _ (show W.heap.size + 1 ≠ W.heap.size by omega)).trans (keep0 hy3 hk))).1, (two_cells ((Below.heap_setCell _ _ _ _ (show W.heap.size + 1 ≠ W.heap.size by omega)).trans (keep0 hy3 hk))).2.1⟩, (HB3.out.trans (hk.mono HB3.out.size)).setCell (p := ⟨W.heap.size, 1, none⟩) (Nat.le_refl _) _⟩
          clear hHeld
          have hHeld := hHeld2
          clear hHeld2 hK K
          try simp only [List.getElem_toArray, List.getElem_cons_succ, List.getElem_cons_zero, Act.put, List.setIfInBounds_toArray, List.set_cons_zero, List.set_cons_succ]
          refine wpAnyH_done (by kernel_rfl) ?_ _
          clear hHeld f0 f1 f2 f3
          go_wp2_with fail
          go_meet
          refine ⟨A6, c6, ?_, (Below.heap_setCell _ _ _ _ (show W.heap.size + 2 ≠ W.heap.size by omega)).trans (keep0 hz3 hk), own_setOld HO6.out _ _ (lt_of_block hn3), (HB3.out.trans (hk.mono HB3.out.size)).setCell (p := ⟨W.heap.size, 1, none⟩) (Nat.le_refl _) _⟩
          rw [heap_setCell_same _ _ _ _ _ _ (keep0 hn3 hk)]
          simp
      · skip
        obtain ⟨⟨p0, p1, p2, p3⟩, _⟩ := four_cells (keep0 hn3 hk)
        simp only [List.getElem_toArray, List.getElem_cons_succ, List.getElem_cons_zero]
        go_simp
        refine hK.out _ _ ?_ (fun hHeld2 => ?_)
        focus
          exact hS _ hk
        clear hHeld
        have hHeld := hHeld2
        clear hHeld2 hK K
        try simp only [List.getElem_toArray, List.getElem_cons_succ, List.getElem_cons_zero, Act.put, List.setIfInBounds_toArray, List.set_cons_zero, List.set_cons_succ]
        clear p0 p1 p2 p3
        refine wpAnyH_ready (rs := [0, 5]) (by kernel_rfl) (by simp) ?_
        refine (AllReadyH.cons rfl (fun K hK => ?_) (AllReadyH.cons rfl (fun K hK => ?_) AllReadyH.nil))
        · skip
          have hbs : Below (World.heap k0).size k0 (World.alloc k0 (.cells #[] 87)) := (Below.refl _ _).alloc (Nat.le_refl _) _
          have HE := hid (own_mono (own_empty k0 87 2) hk.size)
          replace hk := hk.trans (hbs.mono hk.size)
          clear hbs
          simp only [List.getElem_toArray, List.getElem_cons_succ, List.getElem_cons_zero]
          go_simp
          refine hK.out _ _ ?_ (fun hHeld2 => ?_)
          focus
            exact hS _ hk
          clear hHeld
          have hHeld := hHeld2
          clear hHeld2 hK K
          try simp only [List.getElem_toArray, List.getElem_cons_succ, List.getElem_cons_zero, Act.put, List.setIfInBounds_toArray, List.set_cons_zero, List.set_cons_succ]
          generalize (World.alloc k0 (.cells #[] 87)) = k8 at *
          generalize (World.heap k0).size = XE at *
          refine wpAnyH_ready (rs := [3, 5]) (by kernel_rfl) (by simp) ?_
          refine (AllReadyH.cons rfl (fun K hK => ?_) (AllReadyH.cons rfl (fun K hK => ?_) AllReadyH.nil))
          · skip
            refine step_append_sl rfl (.tmp 17) (.tmp 19) 82 rfl w3.heap.size 87 Try.underlying82 info_rplace rfl (by omega) rfl HE.out rfl (HSA.out _ (HB3.out.trans (hk.mono HB3.out.size))) (pcells_one _) (by unfold maxLen; omega) (by omega) hk.size ?_
            intro vk9 k9 ho5 hb5 hsz5 hk5
            simp only [Nat.zero_add, List.nil_append] at ho5
            obtain ⟨A5, c5, rfl, _⟩ := Sl.of_own ho5
            clear HE
            have HE := hid ho5
            replace hk := hk.trans hb5
            clear hb5 hsz5 hk5 ho5
            simp only [List.getElem_toArray, List.getElem_cons_succ, List.getElem_cons_zero]
            refine hK.out _ _ ?_ (fun hHeld2 => ?_)
            focus
              exact hS _ hk
            clear hHeld
            have hHeld := hHeld2
            clear hHeld2 hK K
            try simp only [List.getElem_toArray, List.getElem_cons_succ, List.getElem_cons_zero, Act.put, List.setIfInBounds_toArray, List.set_cons_zero, List.set_cons_succ]
            refine wpAnyH_ready (rs := [5]) (by kernel_rfl) (by simp) ?_
            refine (AllReadyH.cons rfl (fun K hK => ?_) AllReadyH.nil)
            have hbs : Below (World.heap k9).size k9 (World.alloc k9 (.cells #[.int .i64 j, .int .i64 x] 87)) := (Below.refl _ _).alloc (Nat.le_refl _) _
            have HL : Hid ((World.alloc k9 (.cells #[.int .i64 j, .int .i64 x] 87)).heap[(World.heap k9).size]? = some (.cells #[.int .i64 j, .int .i64 x] 87 (0, 0))) := hid (heap_alloc_new _ _)
            have HXL : Hid (w3.heap.size ≤ (World.heap k9).size) := hid hk.size
            replace HE := hid (own_keep HE.out hbs)
            replace hk := hk.trans (hbs.mono hk.size)
            clear hbs
            simp only [List.getElem_toArray, List.getElem_cons_succ, List.getElem_cons_zero]
            go_simp
            refine hK.out _ _ ?_ (fun hHeld2 => ?_)
            focus
              exact hS _ hk
            clear hHeld
            have hHeld := hHeld2
            clear hHeld2 hK K
            try simp only [List.getElem_toArray, List.getElem_cons_succ, List.getElem_cons_zero, Act.put, List.setIfInBounds_toArray, List.set_cons_zero, List.set_cons_succ]
            generalize (World.alloc k9 (.cells #[.int .i64 j, .int .i64 x] 87)) = k10 at *
            generalize (World.heap k9).size = XL at *
            refine wpAnyH_ready (rs := [6]) (by kernel_rfl) (by simp) ?_
            refine AllReadyH.cons rfl (fun K hK => ?_) AllReadyH.nil
            refine step_append_sl rfl (.tmp 20) (.tmp 22) 82 rfl w3.heap.size 87 Try.underlying82 info_rplace rfl (by omega) rfl HE.out rfl (by exact sl_heap HL.out) (by simp; exact ⟨rfl, rfl⟩) (by unfold maxLen; omega) (by omega) hk.size ?_
            intro v6 w6 ho6 hb6 hsz6 hk6
            obtain ⟨A6, c6, rfl, _⟩ := Sl.of_own ho6
            replace hk := hk.trans hb6
            have HO6 := hid ho6
            clear hb6 hsz6 hk6 ho6 HE HL
            simp only [List.getElem_toArray, List.getElem_cons_succ, List.getElem_cons_zero]
            refine hK.out _ _ ?_ (fun hHeld2 => ?_)
            focus
              exact hS _ hk
            clear hHeld
            have hHeld := hHeld2
            clear hHeld2 hK K
            try simp only [List.getElem_toArray, List.getElem_cons_succ, List.getElem_cons_zero, Act.put, List.setIfInBounds_toArray, List.set_cons_zero, List.set_cons_succ]
            refine wpAnyH_take (i := 7) (v := ?_) rfl (by kernel_rfl) (by kernel_rfl) (by kernel_rfl) (fun _ _ _ h => h) (Or.inl ⟨by rfl, ?_⟩) (by exact hS _ hk) ?_
            rotate_left
            focus
              intro U hU
              try dsimp only at hU
              go_simp
              try (with_reducible rfl)
            simp only [List.getElem_toArray, List.getElem_cons_succ, List.getElem_cons_zero, Act.put, List.setIfInBounds_toArray, List.set_cons_zero, List.set_cons_succ]
            refine wpAnyH_ready (rs := [8]) (by kernel_rfl) (by simp) ?_
            refine AllReadyH.cons rfl (fun K hK => ?_) AllReadyH.nil
            obtain ⟨_, f0, f1, f2, f3⟩ := four_cells (keep0 hn3 hk)
            simp only [List.getElem_toArray, List.getElem_cons_succ, List.getElem_cons_zero]
            go_simp
            refine hK.out _ _ ?_ (fun hHeld2 => ?_)
            focus
              exact ⟨⟨(two_cells ((Below.heap_setCell _ _ _ _ (show W.heap.size + 1 ≠ W.heap.size by omega)).trans (keep0 hy3 hk))).1, (two_cells ((Below.heap_setCell _ _ _ _ (show W.heap.size + 1 ≠ W.heap.size by omega)).trans (keep0 hy3 hk))).2.1⟩, (HB3.out.trans (hk.mono HB3.out.size)).setCell (p := ⟨W.heap.size, 1, none⟩) (Nat.le_refl _) _⟩
            clear hHeld
            have hHeld := hHeld2
            clear hHeld2 hK K
            try simp only [List.getElem_toArray, List.getElem_cons_succ, List.getElem_cons_zero, Act.put, List.setIfInBounds_toArray, List.set_cons_zero, List.set_cons_succ]
            refine wpAnyH_done (by kernel_rfl) ?_ _
            clear hHeld f0 f1 f2 f3
            go_wp2_with fail
            go_meet
            refine ⟨A6, c6, ?_, (Below.heap_setCell _ _ _ _ (show W.heap.size + 2 ≠ W.heap.size by omega)).trans (keep0 hz3 hk), own_setOld HO6.out _ _ (lt_of_block hn3), (HB3.out.trans (hk.mono HB3.out.size)).setCell (p := ⟨W.heap.size, 1, none⟩) (Nat.le_refl _) _⟩
            rw [heap_setCell_same _ _ _ _ _ _ (keep0 hn3 hk)]
            simp
          · skip
            have hbs : Below (World.heap k8).size k8 (World.alloc k8 (.cells #[.int .i64 j, .int .i64 x] 87)) := (Below.refl _ _).alloc (Nat.le_refl _) _
            have HL : Hid ((World.alloc k8 (.cells #[.int .i64 j, .int .i64 x] 87)).heap[(World.heap k8).size]? = some (.cells #[.int .i64 j, .int .i64 x] 87 (0, 0))) := hid (heap_alloc_new _ _)
            have HXL : Hid (w3.heap.size ≤ (World.heap k8).size) := hid hk.size
            have HNE : Hid ((World.heap k8).size ≠ XE) := hid (Nat.ne_of_gt (own_blk_lt HE.out rfl).1)
            replace HE := hid (own_keep HE.out hbs)
            replace hk := hk.trans (hbs.mono hk.size)
            clear hbs
            simp only [List.getElem_toArray, List.getElem_cons_succ, List.getElem_cons_zero]
            go_simp
            refine hK.out _ _ ?_ (fun hHeld2 => ?_)
            focus
              exact hS _ hk
            clear hHeld
            have hHeld := hHeld2
            clear hHeld2 hK K
            try simp only [List.getElem_toArray, List.getElem_cons_succ, List.getElem_cons_zero, Act.put, List.setIfInBounds_toArray, List.set_cons_zero, List.set_cons_succ]
            generalize (World.alloc k8 (.cells #[.int .i64 j, .int .i64 x] 87)) = k11 at *
            generalize (World.heap k8).size = XL at *
            refine wpAnyH_ready (rs := [3]) (by kernel_rfl) (by simp) ?_
            refine (AllReadyH.cons rfl (fun K hK => ?_) AllReadyH.nil)
            refine step_append_sl rfl (.tmp 17) (.tmp 19) 82 rfl w3.heap.size 87 Try.underlying82 info_rplace rfl (by omega) rfl HE.out rfl (HSA.out _ (HB3.out.trans (hk.mono HB3.out.size))) (pcells_one _) (by unfold maxLen; omega) (by omega) hk.size ?_
            intro vk12 k12 ho5 hb5 hsz5 hk5
            simp only [Nat.zero_add, List.nil_append] at ho5
            obtain ⟨A5, c5, rfl, _⟩ := Sl.of_own ho5
            replace HL := hid ((hk5 XL HXL.out (lt_of_block HL.out) (fun e => HNE.out (Option.some.inj e).symm)).trans HL.out)
            clear HE
            have HE := hid ho5
            replace hk := hk.trans hb5
            clear hb5 hsz5 hk5 ho5
            simp only [List.getElem_toArray, List.getElem_cons_succ, List.getElem_cons_zero]
            refine hK.out _ _ ?_ (fun hHeld2 => ?_)
            focus
              exact hS _ hk
            clear hHeld
            have hHeld := hHeld2
            clear hHeld2 hK K
            try simp only [List.getElem_toArray, List.getElem_cons_succ, List.getElem_cons_zero, Act.put, List.setIfInBounds_toArray, List.set_cons_zero, List.set_cons_succ]
            refine wpAnyH_ready (rs := [6]) (by kernel_rfl) (by simp) ?_
            refine AllReadyH.cons rfl (fun K hK => ?_) AllReadyH.nil
            refine step_append_sl rfl (.tmp 20) (.tmp 22) 82 rfl w3.heap.size 87 Try.underlying82 info_rplace rfl (by omega) rfl HE.out rfl (by exact sl_heap HL.out) (by simp; exact ⟨rfl, rfl⟩) (by unfold maxLen; omega) (by omega) hk.size ?_
            intro v6 w6 ho6 hb6 hsz6 hk6
            obtain ⟨A6, c6, rfl, _⟩ := Sl.of_own ho6
            replace hk := hk.trans hb6
            have HO6 := hid ho6
            clear hb6 hsz6 hk6 ho6 HE HL
            simp only [List.getElem_toArray, List.getElem_cons_succ, List.getElem_cons_zero]
            refine hK.out _ _ ?_ (fun hHeld2 => ?_)
            focus
              exact hS _ hk
            clear hHeld
            have hHeld := hHeld2
            clear hHeld2 hK K
            try simp only [List.getElem_toArray, List.getElem_cons_succ, List.getElem_cons_zero, Act.put, List.setIfInBounds_toArray, List.set_cons_zero, List.set_cons_succ]
            refine wpAnyH_take (i := 7) (v := ?_) rfl (by kernel_rfl) (by kernel_rfl) (by kernel_rfl) (fun _ _ _ h => h) (Or.inl ⟨by rfl, ?_⟩) (by exact hS _ hk) ?_
            rotate_left
            focus
              intro U hU
              try dsimp only at hU
              go_simp
              try (with_reducible rfl)
            simp only [List.getElem_toArray, List.getElem_cons_succ, List.getElem_cons_zero, Act.put, List.setIfInBounds_toArray, List.set_cons_zero, List.set_cons_succ]
            refine wpAnyH_ready (rs := [8]) (by kernel_rfl) (by simp) ?_
            refine AllReadyH.cons rfl (fun K hK => ?_) AllReadyH.nil
            obtain ⟨_, f0, f1, f2, f3⟩ := four_cells (keep0 hn3 hk)
            simp only [List.getElem_toArray, List.getElem_cons_succ, List.getElem_cons_zero]
            go_simp
            refine hK.out _ _ ?_ (fun hHeld2 => ?_)
            focus
              exact ⟨⟨(two_cells ((Below.heap_setCell _ _ _ _ (show W.heap.size + 1 ≠ W.heap.size by omega)).trans (keep0 hy3 hk))).1, (two_cells ((Below.heap_setCell _ _ _ _ (show W.heap.size + 1 ≠ W.heap.size by omega)).trans (keep0 hy3 hk))).2.1⟩, (HB3.out.trans (hk.mono HB3.out.size)).setCell (p := ⟨W.heap.size, 1, none⟩) (Nat.le_refl _) _⟩
            clear hHeld
            have hHeld := hHeld2
            clear hHeld2 hK K
            try simp only [List.getElem_toArray, List.getElem_cons_succ, List.getElem_cons_zero, Act.put, List.setIfInBounds_toArray, List.set_cons_zero, List.set_cons_succ]
            refine wpAnyH_done (by kernel_rfl) ?_ _
            clear hHeld f0 f1 f2 f3
            go_wp2_with fail
            go_meet
            refine ⟨A6, c6, ?_, (Below.heap_setCell _ _ _ _ (show W.heap.size + 2 ≠ W.heap.size by omega)).trans (keep0 hz3 hk), own_setOld HO6.out _ _ (lt_of_block hn3), (HB3.out.trans (hk.mono HB3.out.size)).setCell (p := ⟨W.heap.size, 1, none⟩) (Nat.le_refl _) _⟩
            rw [heap_setCell_same _ _ _ _ _ _ (keep0 hn3 hk)]
            simp
        · skip
          have hbs : Below (World.heap k0).size k0 (World.alloc k0 (.cells #[.int .i64 j, .int .i64 x] 87)) := (Below.refl _ _).alloc (Nat.le_refl _) _
          have HL : Hid ((World.alloc k0 (.cells #[.int .i64 j, .int .i64 x] 87)).heap[(World.heap k0).size]? = some (.cells #[.int .i64 j, .int .i64 x] 87 (0, 0))) := hid (heap_alloc_new _ _)
          have HXL : Hid (w3.heap.size ≤ (World.heap k0).size) := hid hk.size
          replace hk := hk.trans (hbs.mono hk.size)
          clear hbs
          simp only [List.getElem_toArray, List.getElem_cons_succ, List.getElem_cons_zero]
          go_simp
          refine hK.out _ _ ?_ (fun hHeld2 => ?_)
          focus
            exact hS _ hk
          clear hHeld
          have hHeld := hHeld2
          clear hHeld2 hK K
          try simp only [List.getElem_toArray, List.getElem_cons_succ, List.getElem_cons_zero, Act.put, List.setIfInBounds_toArray, List.set_cons_zero, List.set_cons_succ]
          generalize (World.alloc k0 (.cells #[.int .i64 j, .int .i64 x] 87)) = k13 at *
          generalize (World.heap k0).size = XL at *
          refine wpAnyH_ready (rs := [0]) (by kernel_rfl) (by simp) ?_
          refine (AllReadyH.cons rfl (fun K hK => ?_) AllReadyH.nil)
          have hbs : Below (World.heap k13).size k13 (World.alloc k13 (.cells #[] 87)) := (Below.refl _ _).alloc (Nat.le_refl _) _
          have HE := hid (own_mono (own_empty k13 87 2) hk.size)
          have HNE : Hid (XL ≠ (World.heap k13).size) := hid (Nat.ne_of_lt (lt_of_block HL.out))
          replace HL := hid (keep0 HL.out hbs)
          replace hk := hk.trans (hbs.mono hk.size)
          clear hbs
          simp only [List.getElem_toArray, List.getElem_cons_succ, List.getElem_cons_zero]
          go_simp
          refine hK.out _ _ ?_ (fun hHeld2 => ?_)
          focus
            exact hS _ hk
          clear hHeld
          have hHeld := hHeld2
          clear hHeld2 hK K
          try simp only [List.getElem_toArray, List.getElem_cons_succ, List.getElem_cons_zero, Act.put, List.setIfInBounds_toArray, List.set_cons_zero, List.set_cons_succ]
          generalize (World.alloc k13 (.cells #[] 87)) = k14 at *
          generalize (World.heap k13).size = XE at *
          refine wpAnyH_ready (rs := [3]) (by kernel_rfl) (by simp) ?_
          refine (AllReadyH.cons rfl (fun K hK => ?_) AllReadyH.nil)
          refine step_append_sl rfl (.tmp 17) (.tmp 19) 82 rfl w3.heap.size 87 Try.underlying82 info_rplace rfl (by omega) rfl HE.out rfl (HSA.out _ (HB3.out.trans (hk.mono HB3.out.size))) (pcells_one _) (by unfold maxLen; omega) (by omega) hk.size ?_
          intro vk15 k15 ho5 hb5 hsz5 hk5
          simp only [Nat.zero_add, List.nil_append] at ho5
          obtain ⟨A5, c5, rfl, _⟩ := Sl.of_own ho5
          replace HL := hid ((hk5 XL HXL.out (lt_of_block HL.out) (fun e => HNE.out (Option.some.inj e).symm)).trans HL.out)
          clear HE
          have HE := hid ho5
          replace hk := hk.trans hb5
          clear hb5 hsz5 hk5 ho5
          simp only [List.getElem_toArray, List.getElem_cons_succ, List.getElem_cons_zero]
          refine hK.out _ _ ?_ (fun hHeld2 => ?_)
          focus
            exact hS _ hk
          clear hHeld
          have hHeld := hHeld2
          clear hHeld2 hK K
          try simp only [List.getElem_toArray, List.getElem_cons_succ, List.getElem_cons_zero, Act.put, List.setIfInBounds_toArray, List.set_cons_zero, List.set_cons_succ]
          refine wpAnyH_ready (rs := [6]) (by kernel_rfl) (by simp) ?_
          refine AllReadyH.cons rfl (fun K hK => ?_) AllReadyH.nil
          refine step_append_sl rfl (.tmp 20) (.tmp 22) 82 rfl w3.heap.size 87 Try.underlying82 info_rplace rfl (by omega) rfl HE.out rfl (by exact sl_heap HL.out) (by simp; exact ⟨rfl, rfl⟩) (by unfold maxLen; omega) (by omega) hk.size ?_
          intro v6 w6 ho6 hb6 hsz6 hk6
          obtain ⟨A6, c6, rfl, _⟩ := Sl.of_own ho6
          replace hk := hk.trans hb6
          have HO6 := hid ho6
          clear hb6 hsz6 hk6 ho6 HE HL
          simp only [List.getElem_toArray, List.getElem_cons_succ, List.getElem_cons_zero]
          refine hK.out _ _ ?_ (fun hHeld2 => ?_)
          focus
            exact hS _ hk
          clear hHeld
          have hHeld := hHeld2
          clear hHeld2 hK K
          try simp only [List.getElem_toArray, List.getElem_cons_succ, List.getElem_cons_zero, Act.put, List.setIfInBounds_toArray, List.set_cons_zero, List.set_cons_succ]
          refine wpAnyH_take (i := 7) (v := ?_) rfl (by kernel_rfl) (by kernel_rfl) (by kernel_rfl) (fun _ _ _ h => h) (Or.inl ⟨by rfl, ?_⟩) (by exact hS _ hk) ?_
          rotate_left
          focus
            intro U hU
            try dsimp only at hU
            go_simp
            try (with_reducible rfl)
          simp only [List.getElem_toArray, List.getElem_cons_succ, List.getElem_cons_zero, Act.put, List.setIfInBounds_toArray, List.set_cons_zero, List.set_cons_succ]
          refine wpAnyH_ready (rs := [8]) (by kernel_rfl) (by simp) ?_
          refine AllReadyH.cons rfl (fun K hK => ?_) AllReadyH.nil
          obtain ⟨_, f0, f1, f2, f3⟩ := four_cells (keep0 hn3 hk)
          simp only [List.getElem_toArray, List.getElem_cons_succ, List.getElem_cons_zero]
          go_simp
          refine hK.out _ _ ?_ (fun hHeld2 => ?_)
          focus
            exact ⟨⟨(two_cells ((Below.heap_setCell _ _ _ _ (show W.heap.size + 1 ≠ W.heap.size by omega)).trans (keep0 hy3 hk))).1, (two_cells ((Below.heap_setCell _ _ _ _ (show W.heap.size + 1 ≠ W.heap.size by omega)).trans (keep0 hy3 hk))).2.1⟩, (HB3.out.trans (hk.mono HB3.out.size)).setCell (p := ⟨W.heap.size, 1, none⟩) (Nat.le_refl _) _⟩
          clear hHeld
          have hHeld := hHeld2
          clear hHeld2 hK K
          try simp only [List.getElem_toArray, List.getElem_cons_succ, List.getElem_cons_zero, Act.put, List.setIfInBounds_toArray, List.set_cons_zero, List.set_cons_succ]
          refine wpAnyH_done (by kernel_rfl) ?_ _
          clear hHeld f0 f1 f2 f3
          go_wp2_with fail
          go_meet
          refine ⟨A6, c6, ?_, (Below.heap_setCell _ _ _ _ (show W.heap.size + 2 ≠ W.heap.size by omega)).trans (keep0 hz3 hk), own_setOld HO6.out _ _ (lt_of_block hn3), (HB3.out.trans (hk.mono HB3.out.size)).setCell (p := ⟨W.heap.size, 1, none⟩) (Nat.le_refl _) _⟩
          rw [heap_setCell_same _ _ _ _ _ _ (keep0 hn3 hk)]
          simp
      · skip
        have hbs : Below (World.heap k0).size k0 (World.alloc k0 (.cells #[.int .i64 j, .int .i64 x] 87)) := (Below.refl _ _).alloc (Nat.le_refl _) _
        have HL : Hid ((World.alloc k0 (.cells #[.int .i64 j, .int .i64 x] 87)).heap[(World.heap k0).size]? = some (.cells #[.int .i64 j, .int .i64 x] 87 (0, 0))) := hid (heap_alloc_new _ _)
        have HXL : Hid (w3.heap.size ≤ (World.heap k0).size) := hid hk.size
        replace hk := hk.trans (hbs.mono hk.size)
        clear hbs
        simp only [List.getElem_toArray, List.getElem_cons_succ, List.getElem_cons_zero]
        go_simp
        refine hK.out _ _ ?_ (fun hHeld2 => ?_)
        focus
          exact hS _ hk
        clear hHeld
        have hHeld := hHeld2
        clear hHeld2 hK K
        try simp only [List.getElem_toArray, List.getElem_cons_succ, List.getElem_cons_zero, Act.put, List.setIfInBounds_toArray, List.set_cons_zero, List.set_cons_succ]
        generalize (World.alloc k0 (.cells #[.int .i64 j, .int .i64 x] 87)) = k16 at *
        generalize (World.heap k0).size = XL at *
        refine wpAnyH_ready (rs := [0, 2]) (by kernel_rfl) (by simp) ?_
        refine (AllReadyH.cons rfl (fun K hK => ?_) (AllReadyH.cons rfl (fun K hK => ?_) AllReadyH.nil))
        · skip
          have hbs : Below (World.heap k16).size k16 (World.alloc k16 (.cells #[] 87)) := (Below.refl _ _).alloc (Nat.le_refl _) _
          have HE := hid (own_mono (own_empty k16 87 2) hk.size)
          have HNE : Hid (XL ≠ (World.heap k16).size) := hid (Nat.ne_of_lt (lt_of_block HL.out))
          replace HL := hid (keep0 HL.out hbs)
          replace hk := hk.trans (hbs.mono hk.size)
          clear hbs
          simp only [List.getElem_toArray, List.getElem_cons_succ, List.getElem_cons_zero]
          go_simp
          refine hK.out _ _ ?_ (fun hHeld2 => ?_)
          focus
            exact hS _ hk
          clear hHeld
          have hHeld := hHeld2
          clear hHeld2 hK K
          try simp only [List.getElem_toArray, List.getElem_cons_succ, List.getElem_cons_zero, Act.put, List.setIfInBounds_toArray, List.set_cons_zero, List.set_cons_succ]
          generalize (World.alloc k16 (.cells #[] 87)) = k17 at *
          generalize (World.heap k16).size = XE at *
          refine wpAnyH_ready (rs := [2]) (by kernel_rfl) (by simp) ?_
          refine (AllReadyH.cons rfl (fun K hK => ?_) AllReadyH.nil)
          obtain ⟨⟨p0, p1, p2, p3⟩, _⟩ := four_cells (keep0 hn3 hk)
          simp only [List.getElem_toArray, List.getElem_cons_succ, List.getElem_cons_zero]
          go_simp
          refine hK.out _ _ ?_ (fun hHeld2 => ?_)
          focus
            exact hS _ hk
          clear hHeld
          have hHeld := hHeld2
          clear hHeld2 hK K
          try simp only [List.getElem_toArray, List.getElem_cons_succ, List.getElem_cons_zero, Act.put, List.setIfInBounds_toArray, List.set_cons_zero, List.set_cons_succ]
          clear p0 p1 p2 p3
          refine wpAnyH_ready (rs := [3]) (by kernel_rfl) (by simp) ?_
          refine (AllReadyH.cons rfl (fun K hK => ?_) AllReadyH.nil)
          refine step_append_sl rfl (.tmp 17) (.tmp 19) 82 rfl w3.heap.size 87 Try.underlying82 info_rplace rfl (by omega) rfl HE.out rfl (HSA.out _ (HB3.out.trans (hk.mono HB3.out.size))) (pcells_one _) (by unfold maxLen; omega) (by omega) hk.size ?_
          intro vk18 k18 ho5 hb5 hsz5 hk5
          simp only [Nat.zero_add, List.nil_append] at ho5
          obtain ⟨A5, c5, rfl, _⟩ := Sl.of_own ho5
          replace HL := hid ((hk5 XL HXL.out (lt_of_block HL.out) (fun e => HNE.out (Option.some.inj e).symm)).trans HL.out)
          clear HE
          have HE := hid ho5
          replace hk := hk.trans hb5
          clear hb5 hsz5 hk5 ho5
          simp only [List.getElem_toArray, List.getElem_cons_succ, List.getElem_cons_zero]
          refine hK.out _ _ ?_ (fun hHeld2 => ?_)
          focus
            exact hS _ hk
          clear hHeld
          have hHeld := hHeld2
          clear hHeld2 hK K
          try simp only [List.getElem_toArray, List.getElem_cons_succ, List.getElem_cons_zero, Act.put, List.setIfInBounds_toArray, List.set_cons_zero, List.set_cons_succ]
          refine wpAnyH_ready (rs := [6]) (by kernel_rfl) (by simp) ?_
          refine AllReadyH.cons rfl (fun K hK => ?_) AllReadyH.nil
          refine step_append_sl rfl (.tmp 20) (.tmp 22) 82 rfl w3.heap.size 87 Try.underlying82 info_rplace rfl (by omega) rfl HE.out rfl (by exact sl_heap HL.out) (by simp; exact ⟨rfl, rfl⟩) (by unfold maxLen; omega) (by omega) hk.size ?_
          intro v6 w6 ho6 hb6 hsz6 hk6
          obtain ⟨A6, c6, rfl, _⟩ := Sl.of_own ho6
          replace hk := hk.trans hb6
          have HO6 := hid ho6
          clear hb6 hsz6 hk6 ho6 HE HL
          simp only [List.getElem_toArray, List.getElem_cons_succ, List.getElem_cons_zero]
          refine hK.out _ _ ?_ (fun hHeld2 => ?_)
          focus
            exact hS _ hk
          clear hHeld
          have hHeld := hHeld2
          clear hHeld2 hK K
          try simp only [List.getElem_toArray, List.getElem_cons_succ, List.getElem_cons_zero, Act.put, List.setIfInBounds_toArray, List.set_cons_zero, List.set_cons_succ]
          refine wpAnyH_take (i := 7) (v := ?_) rfl (by kernel_rfl) (by kernel_rfl) (by kernel_rfl) (fun _ _ _ h => h) (Or.inl ⟨by rfl, ?_⟩) (by exact hS _ hk) ?_
          rotate_left
          focus
            intro U hU
            try dsimp only at hU
            go_simp
            try (with_reducible rfl)
          simp only [List.getElem_toArray, List.getElem_cons_succ, List.getElem_cons_zero, Act.put, List.setIfInBounds_toArray, List.set_cons_zero, List.set_cons_succ]
          refine wpAnyH_ready (rs := [8]) (by kernel_rfl) (by simp) ?_
          refine AllReadyH.cons rfl (fun K hK => ?_) AllReadyH.nil
          obtain ⟨_, f0, f1, f2, f3⟩ := four_cells (keep0 hn3 hk)
          simp only [List.getElem_toArray, List.getElem_cons_succ, List.getElem_cons_zero]
          go_simp
          refine hK.out _ _ ?_ (fun hHeld2 => ?_)
          focus
            exact ⟨⟨(two_cells ((Below.heap_setCell _ _ _ _ (show W.heap.size + 1 ≠ W.heap.size by omega)).trans (keep0 hy3 hk))).1, (two_cells ((Below.heap_setCell _ _ _ _ (show W.heap.size + 1 ≠ W.heap.size by omega)).trans (keep0 hy3 hk))).2.1⟩, (HB3.out.trans (hk.mono HB3.out.size)).setCell (p := ⟨W.heap.size, 1, none⟩) (Nat.le_refl _) _⟩
          clear hHeld
          have hHeld := hHeld2
          clear hHeld2 hK K
          try simp only [List.getElem_toArray, List.getElem_cons_succ, List.getElem_cons_zero, Act.put, List.setIfInBounds_toArray, List.set_cons_zero, List.set_cons_succ]
          refine wpAnyH_done (by kernel_rfl) ?_ _
          clear hHeld f0 f1 f2 f3
          go_wp2_with fail
          go_meet
          refine ⟨A6, c6, ?_, (Below.heap_setCell _ _ _ _ (show W.heap.size + 2 ≠ W.heap.size by omega)).trans (keep0 hz3 hk), own_setOld HO6.out _ _ (lt_of_block hn3), (HB3.out.trans (hk.mono HB3.out.size)).setCell (p := ⟨W.heap.size, 1, none⟩) (Nat.le_refl _) _⟩
          rw [heap_setCell_same _ _ _ _ _ _ (keep0 hn3 hk)]
          simp
        · skip
          obtain ⟨⟨p0, p1, p2, p3⟩, _⟩ := four_cells (keep0 hn3 hk)
          simp only [List.getElem_toArray, List.getElem_cons_succ, List.getElem_cons_zero]
          go_simp
          refine hK.out _ _ ?_ (fun hHeld2 => ?_)
          focus
            exact hS _ hk
          clear hHeld
          have hHeld := hHeld2
          clear hHeld2 hK K
          try simp only [List.getElem_toArray, List.getElem_cons_succ, List.getElem_cons_zero, Act.put, List.setIfInBounds_toArray, List.set_cons_zero, List.set_cons_succ]
          clear p0 p1 p2 p3
          refine wpAnyH_ready (rs := [0]) (by kernel_rfl) (by simp) ?_
          refine (AllReadyH.cons rfl (fun K hK => ?_) AllReadyH.nil)
          have hbs : Below (World.heap k16).size k16 (World.alloc k16 (.cells #[] 87)) := (Below.refl _ _).alloc (Nat.le_refl _) _
          have HE := hid (own_mono (own_empty k16 87 2) hk.size)
          have HNE : Hid (XL ≠ (World.heap k16).size) := hid (Nat.ne_of_lt (lt_of_block HL.out))
          replace HL := hid (keep0 HL.out hbs)
          replace hk := hk.trans (hbs.mono hk.size)
          clear hbs
          simp only [List.getElem_toArray, List.getElem_cons_succ, List.getElem_cons_zero]
          go_simp
          refine hK.out _ _ ?_ (fun hHeld2 => ?_)
          focus
            exact hS _ hk
          clear hHeld
          have hHeld := hHeld2
          clear hHeld2 hK K
          try simp only [List.getElem_toArray, List.getElem_cons_succ, List.getElem_cons_zero, Act.put, List.setIfInBounds_toArray, List.set_cons_zero, List.set_cons_succ]
          generalize (World.alloc k16 (.cells #[] 87)) = k19 at *
          generalize (World.heap k16).size = XE at *
          refine wpAnyH_ready (rs := [3]) (by kernel_rfl) (by simp) ?_
          refine (AllReadyH.cons rfl (fun K hK => ?_) AllReadyH.nil)
          refine step_append_sl rfl (.tmp 17) (.tmp 19) 82 rfl w3.heap.size 87 Try.underlying82 info_rplace rfl (by omega) rfl HE.out rfl (HSA.out _ (HB3.out.trans (hk.mono HB3.out.size))) (pcells_one _) (by unfold maxLen; omega) (by omega) hk.size ?_
          intro vk20 k20 ho5 hb5 hsz5 hk5
          simp only [Nat.zero_add, List.nil_append] at ho5
          obtain ⟨A5, c5, rfl, _⟩ := Sl.of_own ho5
          replace HL := hid ((hk5 XL HXL.out (lt_of_block HL.out) (fun e => HNE.out (Option.some.inj e).symm)).trans HL.out)
          clear HE
          have HE := hid ho5
          replace hk := hk.trans hb5
          clear hb5 hsz5 hk5 ho5
          simp only [List.getElem_toArray, List.getElem_cons_succ, List.getElem_cons_zero]
          refine hK.out _ _ ?_ (fun hHeld2 => ?_)
          focus
            exact hS _ hk
          clear hHeld
          have hHeld := hHeld2
          clear hHeld2 hK K
          try simp only [List.getElem_toArray, List.getElem_cons_succ, List.getElem_cons_zero, Act.put, List.setIfInBounds_toArray, List.set_cons_zero, List.set_cons_succ]
          refine wpAnyH_ready (rs := [6]) (by kernel_rfl) (by simp) ?_
          refine AllReadyH.cons rfl (fun K hK => ?_) AllReadyH.nil
          refine step_append_sl rfl (.tmp 20) (.tmp 22) 82 rfl w3.heap.size 87 Try.underlying82 info_rplace rfl (by omega) rfl HE.out rfl (by exact sl_heap HL.out) (by simp; exact ⟨rfl, rfl⟩) (by unfold maxLen; omega) (by omega) hk.size ?_
          intro v6 w6 ho6 hb6 hsz6 hk6
          obtain ⟨A6, c6, rfl, _⟩ := Sl.of_own ho6
          replace hk := hk.trans hb6
          have HO6 := hid ho6
          clear hb6 hsz6 hk6 ho6 HE HL
          simp only [List.getElem_toArray, List.getElem_cons_succ, List.getElem_cons_zero]
          refine hK.out _ _ ?_ (fun hHeld2 => ?_)
          focus
            exact hS _ hk
          clear hHeld
          have hHeld := hHeld2
          clear hHeld2 hK K
          try simp only [List.getElem_toArray, List.getElem_cons_succ, List.getElem_cons_zero, Act.put, List.setIfInBounds_toArray, List.set_cons_zero, List.set_cons_succ]
          refine wpAnyH_take (i := 7) (v := ?_) rfl (by kernel_rfl) (by kernel_rfl) (by kernel_rfl) (fun _ _ _ h => h) (Or.inl ⟨by rfl, ?_⟩) (by exact hS _ hk) ?_
          rotate_left
          focus
            intro U hU
            try dsimp only at hU
            go_simp
            try (with_reducible rfl)
          simp only [List.getElem_toArray, List.getElem_cons_succ, List.getElem_cons_zero, Act.put, List.setIfInBounds_toArray, List.set_cons_zero, List.set_cons_succ]
          refine wpAnyH_ready (rs := [8]) (by kernel_rfl) (by simp) ?_
          refine AllReadyH.cons rfl (fun K hK => ?_) AllReadyH.nil
          obtain ⟨_, f0, f1, f2, f3⟩ := four_cells (keep0 hn3 hk)
          simp only [List.getElem_toArray, List.getElem_cons_succ, List.getElem_cons_zero]
          go_simp
          refine hK.out _ _ ?_ (fun hHeld2 => ?_)
          focus
            exact ⟨⟨(two_cells ((Below.heap_setCell _ _ _ _ (show W.heap.size + 1 ≠ W.heap.size by omega)).trans (keep0 hy3 hk))).1, (two_cells ((Below.heap_setCell _ _ _ _ (show W.heap.size + 1 ≠ W.heap.size by omega)).trans (keep0 hy3 hk))).2.1⟩, (HB3.out.trans (hk.mono HB3.out.size)).setCell (p := ⟨W.heap.size, 1, none⟩) (Nat.le_refl _) _⟩
          clear hHeld
          have hHeld := hHeld2
          clear hHeld2 hK K
          try simp only [List.getElem_toArray, List.getElem_cons_succ, List.getElem_cons_zero, Act.put, List.setIfInBounds_toArray, List.set_cons_zero, List.set_cons_succ]
          refine wpAnyH_done (by kernel_rfl) ?_ _
          clear hHeld f0 f1 f2 f3
          go_wp2_with fail
          go_meet
          refine ⟨A6, c6, ?_, (Below.heap_setCell _ _ _ _ (show W.heap.size + 2 ≠ W.heap.size by omega)).trans (keep0 hz3 hk), own_setOld HO6.out _ _ (lt_of_block hn3), (HB3.out.trans (hk.mono HB3.out.size)).setCell (p := ⟨W.heap.size, 1, none⟩) (Nat.le_refl _) _⟩
          rw [heap_setCell_same _ _ _ _ _ _ (keep0 hn3 hk)]
          simp
end Go.Proofs.Ytadjmgmdnekllaa
