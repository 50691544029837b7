/- The document's slots: Next: contract. -/
import Derived.Test.YtadjmgmdnekllaaSdC
namespace Go.Proofs.Ytadjmgmdnekllaa
open Go.RowKit Go.Sort
set_option linter.unusedVariables false
set_option linter.unusedSimpArgs false

/-- Slots and a task stored into two of the call's variables, in either order. -/
theorem ret7 {W u : World} {Z Y : Nat} {x0 x1 x2 x3 y0 y1 : Value} (hz : u.heap[Z]? = some (.cells #[x0, x1, x2, x3] 113 (0, 0))) (hy : u.heap[Y]? = some (.cells #[y0, y1] 119 (0, 0))) (hne : Y ≠ Z) (hb : Below W.heap.size W u) (hZ : W.heap.size ≤ Z) (hY : W.heap.size ≤ Y) (z0 z1 z2 z3 v0 v1 : Value) (u' : World)
    (he : u' = ((put4 u Z z0 z1 z2 z3).setCell ⟨Y, 0, none⟩ v0).setCell ⟨Y, 1, none⟩ v1) : u'.heap[Z]? = some (.cells #[z0, z1, z2, z3] 113 (0, 0)) ∧ u'.heap[Y]? = some (.cells #[v0, v1] 119 (0, 0)) ∧ Below W.heap.size W u' ∧ ∀ {B e s n : Nat} {v : Value} {xs : List Value}, Z < B → Y < B → u.ownsRow B e s v n xs → u'.ownsRow B e s v n xs := by
  subst he
  have h1 := (put4_other (w := u) (b := Z) hne z0 z1 z2 z3).trans hy
  refine ⟨((Below.heap_setCell _ _ _ _ hne.symm).trans (Below.heap_setCell _ _ _ _ hne.symm)).trans (put4_heap hz z0 z1 z2 z3), set_two h1 v0 v1, ((put4_below hb hZ _ _ _ _).setCell (p := ⟨Y, 0, none⟩) hY _).setCell (p := ⟨Y, 1, none⟩) hY _, fun h2 h3 h4 => own_setOld (own_setOld (own_put4 h4 h2) _ _ h3) _ _ h3⟩
theorem ret7' {W u : World} {Z Y : Nat} {x0 x1 x2 x3 y0 y1 : Value} (hz : u.heap[Z]? = some (.cells #[x0, x1, x2, x3] 113 (0, 0))) (hy : u.heap[Y]? = some (.cells #[y0, y1] 119 (0, 0))) (hne : Y ≠ Z) (hb : Below W.heap.size W u) (hZ : W.heap.size ≤ Z) (hY : W.heap.size ≤ Y) (z0 z1 z2 z3 v0 v1 : Value) (u' : World)
    (he : u' = put4 ((u.setCell ⟨Y, 0, none⟩ v0).setCell ⟨Y, 1, none⟩ v1) Z z0 z1 z2 z3) : u'.heap[Z]? = some (.cells #[z0, z1, z2, z3] 113 (0, 0)) ∧ u'.heap[Y]? = some (.cells #[v0, v1] 119 (0, 0)) ∧ Below W.heap.size W u' ∧ ∀ {B e s n : Nat} {v : Value} {xs : List Value}, Z < B → Y < B → u.ownsRow B e s v n xs → u'.ownsRow B e s v n xs := by
  subst he
  have h1 := ((Below.heap_setCell (u.setCell ⟨Y, 0, none⟩ v0) ⟨Y, 1, none⟩ v1 _ hne.symm).trans (Below.heap_setCell u ⟨Y, 0, none⟩ v0 _ hne.symm)).trans hz
  refine ⟨put4_heap h1 z0 z1 z2 z3, (put4_other hne _ _ _ _).trans (set_two hy v0 v1), put4_below ((hb.setCell (p := ⟨Y, 0, none⟩) hY _).setCell (p := ⟨Y, 1, none⟩) hY _) hZ _ _ _ _, fun h2 h3 h4 => own_put4 (own_setOld (own_setOld h4 _ _ h3) _ _ h3) h2⟩

set_option maxRecDepth 20000 in
set_option maxHeartbeats 8000000 in
theorem rnext_any (s : Sv) (A O R : Option Addr) (ca co cr : Nat) (W : World) (h : InV W s A O R ca co cr) (hk : OkV s) (hnn : NonNeg s) :
    Calls Try.prog 90 #[.agg (svv s A O R ca co cr)] W fun e w' => ∃ A' O' R' ca' co' cr', e = .returned (.tuple #[.agg (svv (nextV s).1 A' O' R' ca' co' cr'), .agg #[.int .i64 (nextV s).2.1.1, .int .i64 (nextV s).2.1.2], .bool (nextV s).2.2]) ∧ InV w' (nextV s).1 A' O' R' ca' co' cr' ∧ Below W.heap.size W w' := by
  have HIN := hid (fun w (hw : Below W.heap.size W w) => h.below hw)
  have HSO := hid (fun w (hw : Below W.heap.size W w) => h.2.1.below hw)
  have HSR := hid (fun w (hw : Below W.heap.size W w) => h.2.2.below hw)
  have HFR := hid (fun w => rfree_any s A O R ca co cr w hk hnn)
  have HV : Hid (nextV s = if s.o.length = 0 ∨ freeV s = 0 then (s, (0, 0), false) else (⟨s.n, s.a, s.o.eraseIdx 0, s.r ++ [s.o.headD (0, 0)]⟩, s.o.headD (0, 0), true)) := hid rfl
  have hlo := hk.2.2.1
  have hlr := hk.2.2.2
  clear h hk hnn
  generalize nextV s = av at *
  generalize freeV s = f at *
  obtain ⟨n, a, o, r⟩ := s
  simp only [svv] at *
  generalize hL : o.length = lo at *
  have HLO := hid hL
  clear hL
  go_enter Try.func90, Try.ntmps90
  go_upto_region 1 with (fail)
  refine at_world (fun u => u.heap[W.heap.size]? = some (.cells #[.int .i64 n, .slice A a.length ca, .slice O lo co, .slice R r.length cr] 113 (0, 0)) ∧ u.heap[W.heap.size + 1]? = some (.cells #[.int .i64 0, .slice none 0 0, .slice none 0 0, .slice none 0 0] 113 (0, 0)) ∧ u.heap[W.heap.size + 2]? = some (.cells #[.int .i64 0, .int .i64 0] 119 (0, 0)) ∧ Below W.heap.size W u) (heap3 _ _ _ _) ?_
  rintro w1 ⟨hx1, hz1, hy1, hb1⟩
  obtain ⟨⟨p0, p1, p2, p3⟩, f0, f1, f2, f3⟩ := four_cells hx1
  have HX1 := hid hx1
  have HZ1 := hid hz1
  have HY1 := hid hy1
  have HB1 := hid hb1
  clear hx1 hy1 hz1 hb1
  by_cases ho0 : lo = 0
  · have hd : ((lo : Int) == 0) = true := by simp [ho0]
    have HVV : Hid (av = (⟨n, a, o, r⟩, (0, 0), false)) := hid (by rw [HV.out, if_pos (.inl ho0)])
    clear HFR ho0
    obtain ⟨_, g0, g1, g2, g3⟩ := four_cells HZ1.out
    obtain ⟨_, _, y2, y3⟩ := two_cells HY1.out
    go_wp2
    obtain ⟨hz9, hy9, hb9, _⟩ := ret7 (Z := W.heap.size + 1) (Y := W.heap.size + 2) HZ1.out HY1.out (by omega) HB1.out (by omega) (by omega) (.int .i64 n) (.slice A a.length ca) (.slice O lo co) (.slice R r.length cr) (.int .i64 0) (.int .i64 0) _ rfl
    simp only [put4] at hz9 hy9 hb9
    obtain ⟨⟨r0, r1, r2, r3⟩, _⟩ := four_cells hz9
    obtain ⟨t0, t1, _, _⟩ := two_cells hy9
    exact bodyPost_ret (v := .tuple #[.agg #[.int .i64 n, .slice A a.length ca, .slice O lo co, .slice R r.length cr], .agg #[.int .i64 0, .int .i64 0], .bool false]) (by simp [results, Try.results90, go_sem, r0, r1, r2, r3, t0, t1]) rfl ⟨A, O, R, ca, co, cr, by rw [HVV.out] <;> simp [svv, HLO.out], by rw [HVV.out]; exact HIN.out _ hb9, hb9⟩
  · have hd : ((lo : Int) == 0) = false := by simpa using ho0
    go_wp2_with fail
    refine (HFR.out _).mono ?_
    rintro e w2 ⟨rfl, hb2⟩
    have HX2 := hid (keep0 HX1.out hb2)
    have HZ2 := hid (keep0 HZ1.out hb2)
    have HY2 := hid (keep0 HY1.out hb2)
    have HB2 := hid (HB1.out.trans (hb2.mono HB1.out.size))
    clear hb2 HFR p0 p1 p2 p3 f0 f1 f2 f3 HX1 HZ1 HY1 HB1
    obtain ⟨⟨p0, p1, p2, p3⟩, f0, f1, f2, f3⟩ := four_cells HX2.out
    by_cases hf : f = 0
    · subst hf
      have hd2 : ((0 : Int) == 0) = true := rfl
      have HVV : Hid (av = (⟨n, a, o, r⟩, (0, 0), false)) := hid (by rw [HV.out, if_pos (.inr rfl)])
      clear ho0
      obtain ⟨_, g0, g1, g2, g3⟩ := four_cells HZ2.out
      obtain ⟨_, _, y2, y3⟩ := two_cells HY2.out
      go_wp2
      obtain ⟨hz9, hy9, hb9, _⟩ := ret7 (Z := W.heap.size + 1) (Y := W.heap.size + 2) HZ2.out HY2.out (by omega) HB2.out (by omega) (by omega) (.int .i64 n) (.slice A a.length ca) (.slice O lo co) (.slice R r.length cr) (.int .i64 0) (.int .i64 0) _ rfl
      simp only [put4] at hz9 hy9 hb9
      obtain ⟨⟨r0, r1, r2, r3⟩, _⟩ := four_cells hz9
      obtain ⟨t0, t1, _, _⟩ := two_cells hy9
      exact bodyPost_ret (v := .tuple #[.agg #[.int .i64 n, .slice A a.length ca, .slice O lo co, .slice R r.length cr], .agg #[.int .i64 0, .int .i64 0], .bool false]) (by simp [results, Try.results90, go_sem, r0, r1, r2, r3, t0, t1]) rfl ⟨A, O, R, ca, co, cr, by rw [HVV.out] <;> simp [svv, HLO.out], by rw [HVV.out]; exact HIN.out _ hb9, hb9⟩
    · have hd2 : (f == 0) = false := by simpa using hf
      obtain ⟨⟨x, y⟩, o, rfl⟩ : ∃ p o', o = p :: o' := by
        cases o with
        | nil => exact absurd HLO.out.symm (by simpa using ho0)
        | cons p o => exact ⟨p, o, rfl⟩
      have hl1 : lo = o.length + 1 := by have := HLO.out; simp at this; omega
      have HVV : Hid (av = (⟨n, a, o, r ++ [(x, y)]⟩, (x, y), true)) := hid (by rw [HV.out, if_neg (fun h => h.elim ho0 hf)]; rfl)
      have HSO2 := hid (HSO.out _ HB2.out)
      obtain ⟨b, off, hA⟩ := HSO2.out.addr (by rw [pcells_cons]; simp)
      subst hA
      have HP := hid (HSO2.out.pair 0 (by simp))
      simp only [Nat.zero_mul, Nat.add_zero, List.getElem_cons_zero] at HP
      obtain ⟨c0, c1⟩ := HP.out
      have HD := hid (fun w (hw : Below W.heap.size W w) => (by
        have hD := (HSO.out w hw).drop 1 (by omega)
        have hpd : (pcells ((x, y) :: o)).drop (1 * 2) = pcells o := by rw [pcells_cons]; rfl
        rw [hpd, hl1, Nat.add_sub_cancel] at hD
        exact hD : Sl w 2 (dropA (some ⟨b, off, none⟩) co 1 2) o.length (co - 1) (pcells o)))
      have hrun : ∀ w : World, (Instr.slice 111 (.slice (some ⟨b, off, none⟩) lo co) (some (.int .i64 1)) none none).run Try.prog w = .ok (.slice (dropA (some ⟨b, off, none⟩) co 1 2) o.length (co - 1)) w := fun w => by
        have := run_from Try.underlying111 info_task (some ⟨b, off, none⟩) lo co 1 (by omega) w
        rw [hl1, Nat.add_sub_cancel] at this
        rw [hl1]
        simpa using this
      have hl4 : (1 : Int) ≤ (lo : Int) := by omega
      have hl5 : (0 : Int) < (lo : Int) := by omega
      have hl6 : 0 < lo := by omega
      have hol : o.length ≤ 1000 := by omega
      have hal : Below w2.heap.size w2 (w2.alloc (.cells #[.int .i64 x, .int .i64 y] 119)) := (Below.refl _ _).alloc (Nat.le_refl _) _
      have HN0 := hid (And.intro (keep0 HX2.out hal) (And.intro (heap_alloc_new w2 (.cells #[.int .i64 x, .int .i64 y] 119)) (And.intro (keep0 HZ2.out hal) (And.intro (keep0 HY2.out hal) (HB2.out.trans (hal.mono HB2.out.size))))))
      have HYL := hid (And.intro (lt_of_block HX2.out) (And.intro (lt_of_block HZ2.out) (lt_of_block HY2.out)))
      clear hal p0 p1 p2 p3 f0 f1 f2 f3 HP hl1 ho0 hlo
      obtain ⟨⟨p0, p1, p2, p3⟩, f0, f1, f2, f3⟩ := four_cells HX2.out
      go_upto_region 4 with (fail)
      refine at_world (fun u => u.heap[W.heap.size]? = some (.cells #[.int .i64 n, .slice A a.length ca, .slice (some ⟨b, off, none⟩) lo co, .slice R r.length cr] 113 (0, 0)) ∧ u.heap[w2.heap.size]? = some (.cells #[.int .i64 x, .int .i64 y] 119 (0, 0)) ∧ u.heap[W.heap.size + 1]? = some (.cells #[.int .i64 0, .slice none 0 0, .slice none 0 0, .slice none 0 0] 113 (0, 0)) ∧ u.heap[W.heap.size + 2]? = some (.cells #[.int .i64 0, .int .i64 0] 119 (0, 0)) ∧ Below W.heap.size W u) HN0.out ?_
      clear p0 p1 p2 p3 f0 f1 f2 f3 HN0 c0 c1
      generalize w2.heap.size = Y at *
      rintro w4 ⟨hx4, hy4, hz4, hv4, hb4⟩
      have HN3 := hid (And.intro (rset2 (.slice (dropA (some ⟨b, off, none⟩) co 1 2) o.length (co - 1)) hx4) (And.intro ((Below.heap_setCell w4 ⟨W.heap.size, 2, none⟩ (.slice (dropA (some ⟨b, off, none⟩) co 1 2) o.length (co - 1)) _ (Nat.ne_of_gt HYL.out.1)).trans hy4) (And.intro ((Below.heap_setCell w4 ⟨W.heap.size, 2, none⟩ (.slice (dropA (some ⟨b, off, none⟩) co 1 2) o.length (co - 1)) _ (show W.heap.size + 1 ≠ W.heap.size by omega)).trans hz4) (And.intro ((Below.heap_setCell w4 ⟨W.heap.size, 2, none⟩ (.slice (dropA (some ⟨b, off, none⟩) co 1 2) o.length (co - 1)) _ (show W.heap.size + 2 ≠ W.heap.size by omega)).trans hv4) (hb4.setCell (p := ⟨W.heap.size, 2, none⟩) (Nat.le_refl _) (.slice (dropA (some ⟨b, off, none⟩) co 1 2) o.length (co - 1)))))))
      obtain ⟨⟨p0, p1, p2, p3⟩, f0, f1, f2, f3⟩ := four_cells hx4
      go_upto_region 5 with (fail)
      refine at_world (fun u => u.heap[W.heap.size]? = some (.cells #[.int .i64 n, .slice A a.length ca, .slice (dropA (some ⟨b, off, none⟩) co 1 2) o.length (co - 1), .slice R r.length cr] 113 (0, 0)) ∧ u.heap[Y]? = some (.cells #[.int .i64 x, .int .i64 y] 119 (0, 0)) ∧ u.heap[W.heap.size + 1]? = some (.cells #[.int .i64 0, .slice none 0 0, .slice none 0 0, .slice none 0 0] 113 (0, 0)) ∧ u.heap[W.heap.size + 2]? = some (.cells #[.int .i64 0, .int .i64 0] 119 (0, 0)) ∧ Below W.heap.size W u) HN3.out ?_
      clear p0 p1 p2 p3 f0 f1 f2 f3 HN3 hrun hx4 hy4 hz4 hv4 hb4
      obtain ⟨yx, yz, yy⟩ := HYL.out
      rintro w3 ⟨hn3, hy3, hz3, hv3, hb3⟩
      have HB3 := hid hb3
      clear hb3
      go_cut [24] from 25 to 32 (fun _ wx => ∃ A6 c6, wx.heap[W.heap.size]? = some (.cells #[.int .i64 n, .slice A a.length ca, .slice (dropA (some ⟨b, off, none⟩) co 1 2) o.length (co - 1), .slice A6 (r.length + 1) c6] 113 (0, 0)) ∧ wx.heap[W.heap.size + 1]? = some (.cells #[.int .i64 0, .slice none 0 0, .slice none 0 0, .slice none 0 0] 113 (0, 0)) ∧ (wx.ownsRow w3.heap.size 119 2 (.slice A6 (r.length + 1) c6) (r.length + 1) (pcells r ++ [.int .i64 x, .int .i64 y]) ∧ wx.heap[Y]? = some (.cells #[.int .i64 x, .int .i64 y] 119 (0, 0)) ∧ wx.heap[W.heap.size + 2]? = some (.cells #[.int .i64 0, .int .i64 0] 119 (0, 0))) ∧ Below W.heap.size W wx)
      case rest =>
        obtain ⟨A6, c6, hx, hz, ⟨ho, hy, hv⟩, hb⟩ := hcut
        have HO := hid ho
        have HZL := hid (lt_of_block hz3)
        have HVL := hid (lt_of_block hv3)
        have HZ := hid hz
        have HVV2 := hid hv
        have HB := hid hb
        clear hn3 hy3 hz3 hv3 ho
        obtain ⟨_, g0, g1, g2, g3⟩ := four_cells hz
        obtain ⟨_, _, y2, y3⟩ := two_cells hv
        go_upto_region 6 with (fail)
        have hS6 : ∀ U : World, U.heap[W.heap.size]? = some (.cells #[.int .i64 n, .slice A a.length ca, .slice (dropA (some ⟨b, off, none⟩) co 1 2) o.length (co - 1), .slice A6 (r.length + 1) c6] 113 (0, 0)) → U.heap[Y]? = some (.cells #[.int .i64 x, .int .i64 y] 119 (0, 0)) → ((U.cell? ⟨W.heap.size, 0, none⟩ = some (.int .i64 n) ∧ U.cell? ⟨W.heap.size, 1, none⟩ = some (.slice A a.length ca) ∧ U.cell? ⟨W.heap.size, 2, none⟩ = some (.slice (dropA (some ⟨b, off, none⟩) co 1 2) o.length (co - 1)) ∧ U.cell? ⟨W.heap.size, 3, none⟩ = some (.slice A6 (r.length + 1) c6)) ∧ (U.cell? ⟨Y, 0, none⟩ = some (.int .i64 x) ∧ U.cell? ⟨Y, 1, none⟩ = some (.int .i64 y))) := fun U h1 h2 => ⟨(four_cells h1).1, (two_cells h2).1, (two_cells h2).2.1⟩
        refine wp_region_held_drew (S := fun U => ((U.cell? ⟨W.heap.size, 0, none⟩ = some (.int .i64 n) ∧ U.cell? ⟨W.heap.size, 1, none⟩ = some (.slice A a.length ca) ∧ U.cell? ⟨W.heap.size, 2, none⟩ = some (.slice (dropA (some ⟨b, off, none⟩) co 1 2) o.length (co - 1)) ∧ U.cell? ⟨W.heap.size, 3, none⟩ = some (.slice A6 (r.length + 1) c6)) ∧ (U.cell? ⟨Y, 0, none⟩ = some (.int .i64 x) ∧ U.cell? ⟨Y, 1, none⟩ = some (.int .i64 y)))) (by kernel_rfl) (hS6 _ hx hy) (fun hHeld => ?_)
        replace hx : wc.drew.heap[W.heap.size]? = some (.cells #[.int .i64 n, .slice A a.length ca, .slice (dropA (some ⟨b, off, none⟩) co 1 2) o.length (co - 1), .slice A6 (r.length + 1) c6] 113 (0, 0)) := hx
        replace hy : wc.drew.heap[Y]? = some (.cells #[.int .i64 x, .int .i64 y] 119 (0, 0)) := hy
        replace hz : wc.drew.heap[W.heap.size + 1]? = some (.cells #[.int .i64 0, .slice none 0 0, .slice none 0 0, .slice none 0 0] 113 (0, 0)) := hz
        replace hv : wc.drew.heap[W.heap.size + 2]? = some (.cells #[.int .i64 0, .int .i64 0] 119 (0, 0)) := hv
        replace hb : Below W.heap.size W wc.drew := below_drew hb
        replace HO := hid (show wc.drew.ownsRow w3.heap.size 119 2 (.slice A6 (r.length + 1) c6) (r.length + 1) (pcells r ++ [.int .i64 x, .int .i64 y]) from HO.out)
        generalize wc.drew = k0 at *
        clear g0 g1 g2 g3 y2 y3 HZ HVV2
        obtain ⟨_, g0, g1, g2, g3⟩ := four_cells hz
        obtain ⟨_, _, y2, y3⟩ := two_cells hv
        refine wpAnyH_take (i := 0) (v := ?_) rfl (by kernel_rfl) (by kernel_rfl) (by kernel_rfl) (fun _ _ _ h => h) (Or.inl ⟨by rfl, ?_⟩) (by exact hS6 _ hx hy) ?_
        rotate_left
        focus
          intro U hU
          try dsimp only at hU
          go_simp
          try (with_reducible rfl)
        simp only [List.getElem_toArray, List.getElem_cons_succ, List.getElem_cons_zero, Act.put, List.setIfInBounds_toArray, List.set_cons_zero, List.set_cons_succ]
        refine wpAnyH_take (i := 1) (v := ?_) rfl (by kernel_rfl) (by kernel_rfl) (by kernel_rfl) (fun _ _ _ h => h) (Or.inl ⟨by rfl, ?_⟩) (by exact hS6 _ hx hy) ?_
        rotate_left
        focus
          intro U hU
          try dsimp only at hU
          go_simp
          try (with_reducible rfl)
        simp only [List.getElem_toArray, List.getElem_cons_succ, List.getElem_cons_zero, Act.put, List.setIfInBounds_toArray, List.set_cons_zero, List.set_cons_succ]
        refine wpAnyH_ready (rs := [2]) (by kernel_rfl) (by simp) ?_
        refine AllReadyH.cons rfl (fun K hK => ?_) AllReadyH.nil
        simp only [List.getElem_toArray, List.getElem_cons_succ, List.getElem_cons_zero]
        go_simp
        refine hK.out _ _ ?_ (fun hHeld2 => ?_)
        focus
          exact hS6 _ ((put4_other (show W.heap.size ≠ W.heap.size + 1 by omega) _ _ _ _).trans hx) ((put4_other (show Y ≠ W.heap.size + 1 by omega) _ _ _ _).trans hy)
        clear hHeld
        have hHeld := hHeld2
        clear hHeld2 hK K
        try simp only [List.getElem_toArray, List.getElem_cons_succ, List.getElem_cons_zero, Act.put, List.setIfInBounds_toArray, List.set_cons_zero, List.set_cons_succ]
        refine wpAnyH_ready (rs := [3]) (by kernel_rfl) (by simp) ?_
        refine AllReadyH.cons rfl (fun K hK => ?_) AllReadyH.nil
        simp only [List.getElem_toArray, List.getElem_cons_succ, List.getElem_cons_zero]
        go_simp
        refine hK.out _ _ ?_ (fun hHeld2 => ?_)
        focus
          exact hS6 _ (((Below.heap_setCell _ _ _ _ (show W.heap.size ≠ W.heap.size + 2 by omega)).trans (Below.heap_setCell _ _ _ _ (show W.heap.size ≠ W.heap.size + 2 by omega))).trans ((put4_other (show W.heap.size ≠ W.heap.size + 1 by omega) _ _ _ _).trans hx)) (((Below.heap_setCell _ _ _ _ (show Y ≠ W.heap.size + 2 by omega)).trans (Below.heap_setCell _ _ _ _ (show Y ≠ W.heap.size + 2 by omega))).trans ((put4_other (show Y ≠ W.heap.size + 1 by omega) _ _ _ _).trans hy))
        clear hHeld
        have hHeld := hHeld2
        clear hHeld2 hK K
        try simp only [List.getElem_toArray, List.getElem_cons_succ, List.getElem_cons_zero, Act.put, List.setIfInBounds_toArray, List.set_cons_zero, List.set_cons_succ]
        refine wpAnyH_take (i := 4) (v := ?_) rfl (by kernel_rfl) (by kernel_rfl) (by kernel_rfl) (fun _ _ _ h => h) (Or.inl ⟨by rfl, ?_⟩) (by exact hS6 _ (((Below.heap_setCell _ _ _ _ (show W.heap.size ≠ W.heap.size + 2 by omega)).trans (Below.heap_setCell _ _ _ _ (show W.heap.size ≠ W.heap.size + 2 by omega))).trans ((put4_other (show W.heap.size ≠ W.heap.size + 1 by omega) _ _ _ _).trans hx)) (((Below.heap_setCell _ _ _ _ (show Y ≠ W.heap.size + 2 by omega)).trans (Below.heap_setCell _ _ _ _ (show Y ≠ W.heap.size + 2 by omega))).trans ((put4_other (show Y ≠ W.heap.size + 1 by omega) _ _ _ _).trans hy))) ?_
        rotate_left
        focus
          intro U hU
          try dsimp only at hU
          go_simp
          try (with_reducible rfl)
        simp only [List.getElem_toArray, List.getElem_cons_succ, List.getElem_cons_zero, Act.put, List.setIfInBounds_toArray, List.set_cons_zero, List.set_cons_succ]
        refine wpAnyH_done (by kernel_rfl) ?_ _
        clear hHeld hS6
        obtain ⟨hz9, hy9, hb9, hown⟩ := ret7 (Z := W.heap.size + 1) (Y := W.heap.size + 2) hz hv (by omega) hb (by omega) (by omega) (.int .i64 n) (.slice A a.length ca) (.slice (dropA (some ⟨b, off, none⟩) co 1 2) o.length (co - 1)) (.slice A6 (r.length + 1) c6) (.int .i64 x) (.int .i64 y) _ rfl
        have HO9 := hid (sl_own (hown HZL.out HVL.out HO.out))
        simp only [put4] at hz9 hy9 hb9 HO9
        obtain ⟨⟨r0, r1, r2, r3⟩, _⟩ := four_cells hz9
        obtain ⟨t0, t1, _, _⟩ := two_cells hy9
        have HB9 := hid hb9
        clear hz9 hy9 hb9 hown g0 g1 g2 g3 y2 y3 hx hy hz hv hb
        go_wp2
        exact bodyPost_ret (v := .tuple #[.agg #[.int .i64 n, .slice A a.length ca, .slice (dropA (some ⟨b, off, none⟩) co 1 2) o.length (co - 1), .slice A6 (r.length + 1) c6], .agg #[.int .i64 x, .int .i64 y], .bool true]) (by simp [results, Try.results90, go_sem, r0, r1, r2, r3, t0, t1]) rfl ⟨A, (dropA (some ⟨b, off, none⟩) co 1 2), A6, ca, co - 1, c6, by rw [HVV.out] <;> simp [svv], by rw [HVV.out]; exact ⟨(HIN.out _ HB9.out).1, HD.out _ HB9.out, by rw [List.length_append, pcells_append]; exact HO9.out⟩, HB9.out⟩
      clear HIN HV HVV HSO HD
      have hS : ∀ U, Below w3.heap.size w3 U → (fun U => (U.cell? ⟨Y, 0, none⟩ = some (.int .i64 x) ∧ U.cell? ⟨Y, 1, none⟩ = some (.int .i64 y)) ∧ Below W.heap.size W U) U := fun U hU => ⟨⟨(two_cells (keep0 hy3 hU)).1, (two_cells (keep0 hy3 hU)).2.1⟩, HB3.out.trans (hU.mono HB3.out.size)⟩
      have hk : Below w3.heap.size w3 w3.drew := below_drew (Below.refl _ _)
      refine wp_region_held_drew (S := (fun U => (U.cell? ⟨Y, 0, none⟩ = some (.int .i64 x) ∧ U.cell? ⟨Y, 1, none⟩ = some (.int .i64 y)) ∧ Below W.heap.size W U)) (by kernel_rfl) (hS _ hk) (fun hHeld => ?_)
      generalize w3.drew = k0 at *
      refine wpAnyH_take (i := 1) (v := ?_) rfl (by kernel_rfl) (by kernel_rfl) (by kernel_rfl) (fun _ _ _ h => h) (Or.inl ⟨by rfl, ?_⟩) (by exact hS _ hk) ?_
      rotate_left
      focus
        intro U hU
        try dsimp only at hU
        go_simp
        try (with_reducible rfl)
      simp only [List.getElem_toArray, List.getElem_cons_succ, List.getElem_cons_zero, Act.put, List.setIfInBounds_toArray, List.set_cons_zero, List.set_cons_succ]
      refine wpAnyH_take (i := 4) (v := ?_) rfl (by kernel_rfl) (by kernel_rfl) (by kernel_rfl) (fun _ _ _ h => h) (Or.inl ⟨by rfl, ?_⟩) (by exact hS _ hk) ?_
      rotate_left
      focus
        intro U hU
        try dsimp only at hU
        go_simp
        try (with_reducible rfl)
      simp only [List.getElem_toArray, List.getElem_cons_succ, List.getElem_cons_zero, Act.put, List.setIfInBounds_toArray, List.set_cons_zero, List.set_cons_succ]
      refine wpAnyH_ready (rs := [0, 2, 5]) (by kernel_rfl) (by simp) ?_
      refine (AllReadyH.cons rfl (fun K hK => ?_) (AllReadyH.cons rfl (fun K hK => ?_) (AllReadyH.cons rfl (fun K hK => ?_) AllReadyH.nil)))
      · skip
        have hbs : Below (World.heap k0).size k0 (World.alloc k0 (.cells #[] 119)) := (Below.refl _ _).alloc (Nat.le_refl _) _
        have HE := hid (own_mono (own_empty k0 119 2) hk.size)
        replace hk := hk.trans (hbs.mono hk.size)
        clear hbs
        simp only [List.getElem_toArray, List.getElem_cons_succ, List.getElem_cons_zero]
        go_simp
        refine hK.out _ _ ?_ (fun hHeld2 => ?_)
        focus
          exact hS _ hk
        clear hHeld
        have hHeld := hHeld2
        clear hHeld2 hK K
        try simp only [List.getElem_toArray, List.getElem_cons_succ, List.getElem_cons_zero, Act.put, List.setIfInBounds_toArray, List.set_cons_zero, List.set_cons_succ]
        generalize (World.alloc k0 (.cells #[] 119)) = k1 at *
        generalize (World.heap k0).size = XE at *
        refine wpAnyH_ready (rs := [2, 5]) (by kernel_rfl) (by simp) ?_
        refine (AllReadyH.cons rfl (fun K hK => ?_) (AllReadyH.cons rfl (fun K hK => ?_) AllReadyH.nil))
        · skip
          obtain ⟨⟨p0, p1, p2, p3⟩, _⟩ := four_cells (keep0 hn3 hk)
          simp only [List.getElem_toArray, List.getElem_cons_succ, List.getElem_cons_zero]
          go_simp
          refine hK.out _ _ ?_ (fun hHeld2 => ?_)
          focus
            exact hS _ hk
          clear hHeld
          have hHeld := hHeld2
          clear hHeld2 hK K
          try simp only [List.getElem_toArray, List.getElem_cons_succ, List.getElem_cons_zero, Act.put, List.setIfInBounds_toArray, List.set_cons_zero, List.set_cons_succ]
          clear p0 p1 p2 p3
          refine wpAnyH_ready (rs := [3, 5]) (by kernel_rfl) (by simp) ?_
          refine (AllReadyH.cons rfl (fun K hK => ?_) (AllReadyH.cons rfl (fun K hK => ?_) AllReadyH.nil))
          · skip
            refine step_append_sl rfl (.tmp 25) (.tmp 27) 111 rfl w3.heap.size 119 Try.underlying111 info_task rfl (by omega) rfl HE.out rfl (HSR.out _ (HB3.out.trans (hk.mono HB3.out.size))) (pcells_one _) (by unfold maxLen; omega) (by omega) hk.size ?_
            intro vk2 k2 ho5 hb5 hsz5 hk5
            simp only [Nat.zero_add, List.nil_append] at ho5
            obtain ⟨A5, c5, rfl, _⟩ := Sl.of_own ho5
            clear HE
            have HE := hid ho5
            replace hk := hk.trans hb5
            clear hb5 hsz5 hk5 ho5
            simp only [List.getElem_toArray, List.getElem_cons_succ, List.getElem_cons_zero]
            refine hK.out _ _ ?_ (fun hHeld2 => ?_)
            focus
              exact hS _ hk
            clear hHeld
            have hHeld := hHeld2
            clear hHeld2 hK K
            try simp only [List.getElem_toArray, List.getElem_cons_succ, List.getElem_cons_zero, Act.put, List.setIfInBounds_toArray, List.set_cons_zero, List.set_cons_succ]
            refine wpAnyH_ready (rs := [5]) (by kernel_rfl) (by simp) ?_
            refine (AllReadyH.cons rfl (fun K hK => ?_) AllReadyH.nil)
            have hbs : Below (World.heap k2).size k2 (World.alloc k2 (.cells #[.int .i64 x, .int .i64 y] 119)) := (Below.refl _ _).alloc (Nat.le_refl _) _
            have HL : Hid ((World.alloc k2 (.cells #[.int .i64 x, .int .i64 y] 119)).heap[(World.heap k2).size]? = some (.cells #[.int .i64 x, .int .i64 y] 119 (0, 0))) := hid (heap_alloc_new _ _)
            have HXL : Hid (w3.heap.size ≤ (World.heap k2).size) := hid hk.size
            replace HE := hid (own_keep HE.out hbs)
            replace hk := hk.trans (hbs.mono hk.size)
            clear hbs
            simp only [List.getElem_toArray, List.getElem_cons_succ, List.getElem_cons_zero]
            go_simp
            refine hK.out _ _ ?_ (fun hHeld2 => ?_)
            focus
              exact hS _ hk
            clear hHeld
            have hHeld := hHeld2
            clear hHeld2 hK K
            try simp only [List.getElem_toArray, List.getElem_cons_succ, List.getElem_cons_zero, Act.put, List.setIfInBounds_toArray, List.set_cons_zero, List.set_cons_succ]
            generalize (World.alloc k2 (.cells #[.int .i64 x, .int .i64 y] 119)) = k3 at *
            generalize (World.heap k2).size = XL at *
            refine wpAnyH_ready (rs := [6]) (by kernel_rfl) (by simp) ?_
            refine AllReadyH.cons rfl (fun K hK => ?_) AllReadyH.nil
            refine step_append_sl rfl (.tmp 28) (.tmp 30) 111 rfl w3.heap.size 119 Try.underlying111 info_task rfl (by omega) rfl HE.out rfl (by exact sl_heap HL.out) (by simp; exact ⟨rfl, rfl⟩) (by unfold maxLen; omega) (by omega) hk.size ?_
            intro v6 w6 ho6 hb6 hsz6 hk6
            obtain ⟨A6, c6, rfl, _⟩ := Sl.of_own ho6
            replace hk := hk.trans hb6
            have HO6 := hid ho6
            clear hb6 hsz6 hk6 ho6 HE HL
            simp only [List.getElem_toArray, List.getElem_cons_succ, List.getElem_cons_zero]
            refine hK.out _ _ ?_ (fun hHeld2 => ?_)
            focus
              exact hS _ hk
            clear hHeld
            have hHeld := hHeld2
            clear hHeld2 hK K
            try simp only [List.getElem_toArray, List.getElem_cons_succ, List.getElem_cons_zero, Act.put, List.setIfInBounds_toArray, List.set_cons_zero, List.set_cons_succ]
            refine wpAnyH_take (i := 7) (v := ?_) rfl (by kernel_rfl) (by kernel_rfl) (by kernel_rfl) (fun _ _ _ h => h) (Or.inl ⟨by rfl, ?_⟩) (by exact hS _ hk) ?_
            rotate_left
            focus
              intro U hU
              try dsimp only at hU
              go_simp
              try (with_reducible rfl)
            simp only [List.getElem_toArray, List.getElem_cons_succ, List.getElem_cons_zero, Act.put, List.setIfInBounds_toArray, List.set_cons_zero, List.set_cons_succ]
            refine wpAnyH_ready (rs := [8]) (by kernel_rfl) (by simp) ?_
            refine AllReadyH.cons rfl (fun K hK => ?_) AllReadyH.nil
            obtain ⟨_, f0, f1, f2, f3⟩ := four_cells (keep0 hn3 hk)
            simp only [List.getElem_toArray, List.getElem_cons_succ, List.getElem_cons_zero]
            go_simp
            refine hK.out _ _ ?_ (fun hHeld2 => ?_)
            focus
              exact ⟨⟨(two_cells ((Below.heap_setCell _ _ _ _ (Nat.ne_of_gt yx)).trans (keep0 hy3 hk))).1, (two_cells ((Below.heap_setCell _ _ _ _ (Nat.ne_of_gt yx)).trans (keep0 hy3 hk))).2.1⟩, (HB3.out.trans (hk.mono HB3.out.size)).setCell (p := ⟨W.heap.size, 3, none⟩) (Nat.le_refl _) _⟩
            clear hHeld
            have hHeld := hHeld2
            clear hHeld2 hK K
            try simp only [List.getElem_toArray, List.getElem_cons_succ, List.getElem_cons_zero, Act.put, List.setIfInBounds_toArray, List.set_cons_zero, List.set_cons_succ]
            refine wpAnyH_done (by kernel_rfl) ?_ _
            clear hHeld f0 f1 f2 f3
            go_wp2_with fail
            go_meet
            refine ⟨A6, c6, ?_, (Below.heap_setCell _ _ _ _ (show W.heap.size + 1 ≠ W.heap.size by omega)).trans (keep0 hz3 hk), ⟨own_setOld HO6.out _ _ (lt_of_block hn3), (Below.heap_setCell _ _ _ _ (Nat.ne_of_gt yx)).trans (keep0 hy3 hk), (Below.heap_setCell _ _ _ _ (show W.heap.size + 2 ≠ W.heap.size by omega)).trans (keep0 hv3 hk)⟩, (HB3.out.trans (hk.mono HB3.out.size)).setCell (p := ⟨W.heap.size, 3, none⟩) (Nat.le_refl _) _⟩
            rw [heap_setCell_same _ _ _ _ _ _ (keep0 hn3 hk)]
            simp
          · skip
            have hbs : Below (World.heap k1).size k1 (World.alloc k1 (.cells #[.int .i64 x, .int .i64 y] 119)) := (Below.refl _ _).alloc (Nat.le_refl _) _
            have HL : Hid ((World.alloc k1 (.cells #[.int .i64 x, .int .i64 y] 119)).heap[(World.heap k1).size]? = some (.cells #[.int .i64 x, .int .i64 y] 119 (0, 0))) := hid (heap_alloc_new _ _)
            have HXL : Hid (w3.heap.size ≤ (World.heap k1).size) := hid hk.size
            have HNE : Hid ((World.heap k1).size ≠ XE) := hid (Nat.ne_of_gt (own_blk_lt HE.out rfl).1)
            replace HE := hid (own_keep HE.out hbs)
            replace hk := hk.trans (hbs.mono hk.size)
            clear hbs
            simp only [List.getElem_toArray, List.getElem_cons_succ, List.getElem_cons_zero]
            go_simp
            refine hK.out _ _ ?_ (fun hHeld2 => ?_)
            focus
              exact hS _ hk
            clear hHeld
            have hHeld := hHeld2
            clear hHeld2 hK K
            try simp only [List.getElem_toArray, List.getElem_cons_succ, List.getElem_cons_zero, Act.put, List.setIfInBounds_toArray, List.set_cons_zero, List.set_cons_succ]
            generalize (World.alloc k1 (.cells #[.int .i64 x, .int .i64 y] 119)) = k4 at *
            generalize (World.heap k1).size = XL at *
            refine wpAnyH_ready (rs := [3]) (by kernel_rfl) (by simp) ?_
            refine (AllReadyH.cons rfl (fun K hK => ?_) AllReadyH.nil)
            refine step_append_sl rfl (.tmp 25) (.tmp 27) 111 rfl w3.heap.size 119 Try.underlying111 info_task rfl (by omega) rfl HE.out rfl (HSR.out _ (HB3.out.trans (hk.mono HB3.out.size))) (pcells_one _) (by unfold maxLen; omega) (by omega) hk.size ?_
            intro vk5 k5 ho5 hb5 hsz5 hk5
            simp only [Nat.zero_add, List.nil_append] at ho5
            obtain ⟨A5, c5, rfl, _⟩ := Sl.of_own ho5
            replace HL := hid ((hk5 XL HXL.out (lt_of_block HL.out) (fun e => HNE.out (Option.some.inj e).symm)).trans HL.out)
            clear HE
            have HE := hid ho5
            replace hk := hk.trans hb5
            clear hb5 hsz5 hk5 ho5
            simp only [List.getElem_toArray, List.getElem_cons_succ, List.getElem_cons_zero]
            refine hK.out _ _ ?_ (fun hHeld2 => ?_)
            focus
              exact hS _ hk
            clear hHeld
            have hHeld := hHeld2
            clear hHeld2 hK K
            try simp only [List.getElem_toArray, List.getElem_cons_succ, List.getElem_cons_zero, Act.put, List.setIfInBounds_toArray, List.set_cons_zero, List.set_cons_succ]
            refine wpAnyH_ready (rs := [6]) (by kernel_rfl) (by simp) ?_
            refine AllReadyH.cons rfl (fun K hK => ?_) AllReadyH.nil
            refine step_append_sl rfl (.tmp 28) (.tmp 30) 111 rfl w3.heap.size 119 Try.underlying111 info_task rfl (by omega) rfl HE.out rfl (by exact sl_heap HL.out) (by simp; exact ⟨rfl, rfl⟩) (by unfold maxLen; omega) (by omega) hk.size ?_
            intro v6 w6 ho6 hb6 hsz6 hk6
            obtain ⟨A6, c6, rfl, _⟩ := Sl.of_own ho6
            replace hk := hk.trans hb6
            have HO6 := hid ho6
            clear hb6 hsz6 hk6 ho6 HE HL
            simp only [List.getElem_toArray, List.getElem_cons_succ, List.getElem_cons_zero]
            refine hK.out _ _ ?_ (fun hHeld2 => ?_)
            focus
              exact hS _ hk
            clear hHeld
            have hHeld := hHeld2
            clear hHeld2 hK K
            try simp only [List.getElem_toArray, List.getElem_cons_succ, List.getElem_cons_zero, Act.put, List.setIfInBounds_toArray, List.set_cons_zero, List.set_cons_succ]
            refine wpAnyH_take (i := 7) (v := ?_) rfl (by kernel_rfl) (by kernel_rfl) (by kernel_rfl) (fun _ _ _ h => h) (Or.inl ⟨by rfl, ?_⟩) (by exact hS _ hk) ?_
            rotate_left
            focus
              intro U hU
              try dsimp only at hU
              go_simp
              try (with_reducible rfl)
            simp only [List.getElem_toArray, List.getElem_cons_succ, List.getElem_cons_zero, Act.put, List.setIfInBounds_toArray, List.set_cons_zero, List.set_cons_succ]
            refine wpAnyH_ready (rs := [8]) (by kernel_rfl) (by simp) ?_
            refine AllReadyH.cons rfl (fun K hK => ?_) AllReadyH.nil
            obtain ⟨_, f0, f1, f2, f3⟩ := four_cells (keep0 hn3 hk)
            simp only [List.getElem_toArray, List.getElem_cons_succ, List.getElem_cons_zero]
            go_simp
            refine hK.out _ _ ?_ (fun hHeld2 => ?_)
            focus
              exact ⟨⟨(two_cells ((Below.heap_setCell _ _ _ _ (Nat.ne_of_gt yx)).trans (keep0 hy3 hk))).1, (two_cells ((Below.heap_setCell _ _ _ _ (Nat.ne_of_gt yx)).trans (keep0 hy3 hk))).2.1⟩, (HB3.out.trans (hk.mono HB3.out.size)).setCell (p := ⟨W.heap.size, 3, none⟩) (Nat.le_refl _) _⟩
            clear hHeld
            have hHeld := hHeld2
            clear hHeld2 hK K
            try simp only [List.getElem_toArray, List.getElem_cons_succ, List.getElem_cons_zero, Act.put, List.setIfInBounds_toArray, List.set_cons_zero, List.set_cons_succ]
            refine wpAnyH_done (by kernel_rfl) ?_ _
            clear hHeld f0 f1 f2 f3
            go_wp2_with fail
            go_meet
            refine ⟨A6, c6, ?_, (Below.heap_setCell _ _ _ _ (show W.heap.size + 1 ≠ W.heap.size by omega)).trans (keep0 hz3 hk), ⟨own_setOld HO6.out _ _ (lt_of_block hn3), (Below.heap_setCell _ _ _ _ (Nat.ne_of_gt yx)).trans (keep0 hy3 hk), (Below.heap_setCell _ _ _ _ (show W.heap.size + 2 ≠ W.heap.size by omega)).trans (keep0 hv3 hk)⟩, (HB3.out.trans (hk.mono HB3.out.size)).setCell (p := ⟨W.heap.size, 3, none⟩) (Nat.le_refl _) _⟩
            rw [heap_setCell_same _ _ _ _ _ _ (keep0 hn3 hk)]
            simp
        · skip
          have hbs : Below (World.heap k1).size k1 (World.alloc k1 (.cells #[.int .i64 x, .int .i64 y] 119)) := (Below.refl _ _).alloc (Nat.le_refl _) _
          have HL : Hid ((World.alloc k1 (.cells #[.int .i64 x, .int .i64 y] 119)).heap[(World.heap k1).size]? = some (.cells #[.int .i64 x, .int .i64 y] 119 (0, 0))) := hid (heap_alloc_new _ _)
          have HXL : Hid (w3.heap.size ≤ (World.heap k1).size) := hid hk.size
          have HNE : Hid ((World.heap k1).size ≠ XE) := hid (Nat.ne_of_gt (own_blk_lt HE.out rfl).1)
          replace HE := hid (own_keep HE.out hbs)
          replace hk := hk.trans (hbs.mono hk.size)
          clear hbs
          simp only [List.getElem_toArray, List.getElem_cons_succ, List.getElem_cons_zero]
          go_simp
          refine hK.out _ _ ?_ (fun hHeld2 => ?_)
          focus
            exact hS _ hk
          clear hHeld
          have hHeld := hHeld2
          clear hHeld2 hK K
          try simp only [List.getElem_toArray, List.getElem_cons_succ, List.getElem_cons_zero, Act.put, List.setIfInBounds_toArray, List.set_cons_zero, List.set_cons_succ]
          generalize (World.alloc k1 (.cells #[.int .i64 x, .int .i64 y] 119)) = k6 at *
          generalize (World.heap k1).size = XL at *
          refine wpAnyH_ready (rs := [2]) (by kernel_rfl) (by simp) ?_
          refine (AllReadyH.cons rfl (fun K hK => ?_) AllReadyH.nil)
          obtain ⟨⟨p0, p1, p2, p3⟩, _⟩ := four_cells (keep0 hn3 hk)
          simp only [List.getElem_toArray, List.getElem_cons_succ, List.getElem_cons_zero]
          go_simp
          refine hK.out _ _ ?_ (fun hHeld2 => ?_)
          focus
            exact hS _ hk
          clear hHeld
          have hHeld := hHeld2
          clear hHeld2 hK K
          try simp only [List.getElem_toArray, List.getElem_cons_succ, List.getElem_cons_zero, Act.put, List.setIfInBounds_toArray, List.set_cons_zero, List.set_cons_succ]
          clear p0 p1 p2 p3
          refine wpAnyH_ready (rs := [3]) (by kernel_rfl) (by simp) ?_
          refine (AllReadyH.cons rfl (fun K hK => ?_) AllReadyH.nil)
          refine step_append_sl rfl (.tmp 25) (.tmp 27) 111 rfl w3.heap.size 119 Try.underlying111 info_task rfl (by omega) rfl HE.out rfl (HSR.out _ (HB3.out.trans (hk.mono HB3.out.size))) (pcells_one _) (by unfold maxLen; omega) (by omega) hk.size ?_
          intro vk7 k7 ho5 hb5 hsz5 hk5
          simp only [Nat.zero_add, List.nil_append] at ho5
          obtain ⟨A5, c5, rfl, _⟩ := Sl.of_own ho5
          replace HL := hid ((hk5 XL HXL.out (lt_of_block HL.out) (fun e => HNE.out (Option.some.inj e).symm)).trans HL.out)
          clear HE
          have HE := hid ho5
          replace hk := hk.trans hb5
          clear hb5 hsz5 hk5 ho5
          simp only [List.getElem_toArray, List.getElem_cons_succ, List.getElem_cons_zero]
          refine hK.out _ _ ?_ (fun hHeld2 => ?_)
          focus
            exact hS _ hk
          clear hHeld
          have hHeld := hHeld2
          clear hHeld2 hK K
          try simp only [List.getElem_toArray, List.getElem_cons_succ, List.getElem_cons_zero, Act.put, List.setIfInBounds_toArray, List.set_cons_zero, List.set_cons_succ]
          refine wpAnyH_ready (rs := [6]) (by kernel_rfl) (by simp) ?_
          refine AllReadyH.cons rfl (fun K hK => ?_) AllReadyH.nil
          refine step_append_sl rfl (.tmp 28) (.tmp 30) 111 rfl w3.heap.size 119 Try.underlying111 info_task rfl (by omega) rfl HE.out rfl (by exact sl_heap HL.out) (by simp; exact ⟨rfl, rfl⟩) (by unfold maxLen; omega) (by omega) hk.size ?_
          intro v6 w6 ho6 hb6 hsz6 hk6
          obtain ⟨A6, c6, rfl, _⟩ := Sl.of_own ho6
          replace hk := hk.trans hb6
          have HO6 := hid ho6
          clear hb6 hsz6 hk6 ho6 HE HL
          simp only [List.getElem_toArray, List.getElem_cons_succ, List.getElem_cons_zero]
          refine hK.out _ _ ?_ (fun hHeld2 => ?_)
          focus
            exact hS _ hk
          clear hHeld
          have hHeld := hHeld2
          clear hHeld2 hK K
          try simp only [List.getElem_toArray, List.getElem_cons_succ, List.getElem_cons_zero, Act.put, List.setIfInBounds_toArray, List.set_cons_zero, List.set_cons_succ]
          refine wpAnyH_take (i := 7) (v := ?_) rfl (by kernel_rfl) (by kernel_rfl) (by kernel_rfl) (fun _ _ _ h => h) (Or.inl ⟨by rfl, ?_⟩) (by exact hS _ hk) ?_
          rotate_left
          focus
            intro U hU
            try dsimp only at hU
            go_simp
            try (with_reducible rfl)
          simp only [List.getElem_toArray, List.getElem_cons_succ, List.getElem_cons_zero, Act.put, List.setIfInBounds_toArray, List.set_cons_zero, List.set_cons_succ]
          refine wpAnyH_ready (rs := [8]) (by kernel_rfl) (by simp) ?_
          refine AllReadyH.cons rfl (fun K hK => ?_) AllReadyH.nil
          obtain ⟨_, f0, f1, f2, f3⟩ := four_cells (keep0 hn3 hk)
          simp only [List.getElem_toArray, List.getElem_cons_succ, List.getElem_cons_zero]
          go_simp
          refine hK.out _ _ ?_ (fun hHeld2 => ?_)
          focus
            exact ⟨⟨(two_cells ((Below.heap_setCell _ _ _ _ (Nat.ne_of_gt yx)).trans (keep0 hy3 hk))).1, (two_cells ((Below.heap_setCell _ _ _ _ (Nat.ne_of_gt yx)).trans (keep0 hy3 hk))).2.1⟩, (HB3.out.trans (hk.mono HB3.out.size)).setCell (p := ⟨W.heap.size, 3, none⟩) (Nat.le_refl _) _⟩
          clear hHeld
          have hHeld := hHeld2
          clear hHeld2 hK K
          try simp only [List.getElem_toArray, List.getElem_cons_succ, List.getElem_cons_zero, Act.put, List.setIfInBounds_toArray, List.set_cons_zero, List.set_cons_succ]
          refine wpAnyH_done (by kernel_rfl) ?_ _
          clear hHeld f0 f1 f2 f3
          go_wp2_with fail
          go_meet
          refine ⟨A6, c6, ?_, (Below.heap_setCell _ _ _ _ (show W.heap.size + 1 ≠ W.heap.size by omega)).trans (keep0 hz3 hk), ⟨own_setOld HO6.out _ _ (lt_of_block hn3), (Below.heap_setCell _ _ _ _ (Nat.ne_of_gt yx)).trans (keep0 hy3 hk), (Below.heap_setCell _ _ _ _ (show W.heap.size + 2 ≠ W.heap.size by omega)).trans (keep0 hv3 hk)⟩, (HB3.out.trans (hk.mono HB3.out.size)).setCell (p := ⟨W.heap.size, 3, none⟩) (Nat.le_refl _) _⟩
          rw [heap_setCell_same _ _ _ _ _ _ (keep0 hn3 hk)]
          simp
      · skip
        obtain ⟨⟨p0, p1, p2, p3⟩, _⟩ := four_cells (keep0 hn3 hk)
        simp only [List.getElem_toArray, List.getElem_cons_succ, List.getElem_cons_zero]
        go_simp
        refine hK.out _ _ ?_ (fun hHeld2 => ?_)
        focus
          exact hS _ hk
        clear hHeld
        have hHeld := hHeld2
        clear hHeld2 hK K
        try simp only [List.getElem_toArray, List.getElem_cons_succ, List.getElem_cons_zero, Act.put, List.setIfInBounds_toArray, List.set_cons_zero, List.set_cons_succ]
        clear p0 p1 p2 p3
        refine wpAnyH_ready (rs := [0, 5]) (by kernel_rfl) (by simp) ?_
        refine (AllReadyH.cons rfl (fun K hK => ?_) (AllReadyH.cons rfl (fun K hK => ?_) AllReadyH.nil))
        · skip
          have hbs : Below (World.heap k0).size k0 (World.alloc k0 (.cells #[] 119)) := (Below.refl _ _).alloc (Nat.le_refl _) _
          have HE := hid (own_mono (own_empty k0 119 2) hk.size)
          replace hk := hk.trans (hbs.mono hk.size)
          clear hbs
          simp only [List.getElem_toArray, List.getElem_cons_succ, List.getElem_cons_zero]
          go_simp
          refine hK.out _ _ ?_ (fun hHeld2 => ?_)
          focus
            exact hS _ hk
          clear hHeld
          have hHeld := hHeld2
          clear hHeld2 hK K
          try simp only [List.getElem_toArray, List.getElem_cons_succ, List.getElem_cons_zero, Act.put, List.setIfInBounds_toArray, List.set_cons_zero, List.set_cons_succ]
          generalize (World.alloc k0 (.cells #[] 119)) = k8 at *
          generalize (World.heap k0).size = XE at *
          refine wpAnyH_ready (rs := [3, 5]) (by kernel_rfl) (by simp) ?_
          refine (AllReadyH.cons rfl (fun K hK => ?_) (AllReadyH.cons rfl (fun K hK => ?_) AllReadyH.nil))
          · skip
            refine step_append_sl rfl (.tmp 25) (.tmp 27) 111 rfl w3.heap.size 119 Try.underlying111 info_task rfl (by omega) rfl HE.out rfl (HSR.out _ (HB3.out.trans (hk.mono HB3.out.size))) (pcells_one _) (by unfold maxLen; omega) (by omega) hk.size ?_
            intro vk9 k9 ho5 hb5 hsz5 hk5
            simp only [Nat.zero_add, List.nil_append] at ho5
            obtain ⟨A5, c5, rfl, _⟩ := Sl.of_own ho5
            clear HE
            have HE := hid ho5
            replace hk := hk.trans hb5
            clear hb5 hsz5 hk5 ho5
            simp only [List.getElem_toArray, List.getElem_cons_succ, List.getElem_cons_zero]
            refine hK.out _ _ ?_ (fun hHeld2 => ?_)
            focus
              exact hS _ hk
            clear hHeld
            have hHeld := hHeld2
            clear hHeld2 hK K
            try simp only [List.getElem_toArray, List.getElem_cons_succ, List.getElem_cons_zero, Act.put, List.setIfInBounds_toArray, List.set_cons_zero, List.set_cons_succ]
            refine wpAnyH_ready (rs := [5]) (by kernel_rfl) (by simp) ?_
            refine (AllReadyH.cons rfl (fun K hK => ?_) AllReadyH.nil)
            have hbs : Below (World.heap k9).size k9 (World.alloc k9 (.cells #[.int .i64 x, .int .i64 y] 119)) := (Below.refl _ _).alloc (Nat.le_refl _) _
            have HL : Hid ((World.alloc k9 (.cells #[.int .i64 x, .int .i64 y] 119)).heap[(World.heap k9).size]? = some (.cells #[.int .i64 x, .int .i64 y] 119 (0, 0))) := hid (heap_alloc_new _ _)
            have HXL : Hid (w3.heap.size ≤ (World.heap k9).size) := hid hk.size
            replace HE := hid (own_keep HE.out hbs)
            replace hk := hk.trans (hbs.mono hk.size)
            clear hbs
            simp only [List.getElem_toArray, List.getElem_cons_succ, List.getElem_cons_zero]
            go_simp
            refine hK.out _ _ ?_ (fun hHeld2 => ?_)
            focus
              exact hS _ hk
            clear hHeld
            have hHeld := hHeld2
            clear hHeld2 hK K
            try simp only [List.getElem_toArray, List.getElem_cons_succ, List.getElem_cons_zero, Act.put, List.setIfInBounds_toArray, List.set_cons_zero, List.set_cons_succ]
            generalize (World.alloc k9 (.cells #[.int .i64 x, .int .i64 y] 119)) = k10 at *
            generalize (World.heap k9).size = XL at *
            refine wpAnyH_ready (rs := [6]) (by kernel_rfl) (by simp) ?_
            refine AllReadyH.cons rfl (fun K hK => ?_) AllReadyH.nil
            refine step_append_sl rfl (.tmp 28) (.tmp 30) 111 rfl w3.heap.size 119 Try.underlying111 info_task rfl (by omega) rfl HE.out rfl (by exact sl_heap HL.out) (by simp; exact ⟨rfl, rfl⟩) (by unfold maxLen; omega) (by omega) hk.size ?_
            intro v6 w6 ho6 hb6 hsz6 hk6
            obtain ⟨A6, c6, rfl, _⟩ := Sl.of_own ho6
            replace hk := hk.trans hb6
            have HO6 := hid ho6
            clear hb6 hsz6 hk6 ho6 HE HL
            simp only [List.getElem_toArray, List.getElem_cons_succ, List.getElem_cons_zero]
            refine hK.out _ _ ?_ (fun hHeld2 => ?_)
            focus
              exact hS _ hk
            clear hHeld
            have hHeld := hHeld2
            clear hHeld2 hK K
            try simp only [List.getElem_toArray, List.getElem_cons_succ, List.getElem_cons_zero, Act.put, List.setIfInBounds_toArray, List.set_cons_zero, List.set_cons_succ]
            refine wpAnyH_take (i := 7) (v := ?_) rfl (by kernel_rfl) (by kernel_rfl) (by kernel_rfl) (fun _ _ _ h => h) (Or.inl ⟨by rfl, ?_⟩) (by exact hS _ hk) ?_
            rotate_left
            focus
              intro U hU
              try dsimp only at hU
              go_simp
              try (with_reducible rfl)
            simp only [List.getElem_toArray, List.getElem_cons_succ, List.getElem_cons_zero, Act.put, List.setIfInBounds_toArray, List.set_cons_zero, List.set_cons_succ]
            refine wpAnyH_ready (rs := [8]) (by kernel_rfl) (by simp) ?_
            refine AllReadyH.cons rfl (fun K hK => ?_) AllReadyH.nil
            obtain ⟨_, f0, f1, f2, f3⟩ := four_cells (keep0 hn3 hk)
            simp only [List.getElem_toArray, List.getElem_cons_succ, List.getElem_cons_zero]
            go_simp
            refine hK.out _ _ ?_ (fun hHeld2 => ?_)
            focus
              exact ⟨⟨(two_cells ((Below.heap_setCell _ _ _ _ (Nat.ne_of_gt yx)).trans (keep0 hy3 hk))).1, (two_cells ((Below.heap_setCell _ _ _ _ (Nat.ne_of_gt yx)).trans (keep0 hy3 hk))).2.1⟩, (HB3.out.trans (hk.mono HB3.out.size)).setCell (p := ⟨W.heap.size, 3, none⟩) (Nat.le_refl _) _⟩
            clear hHeld
            have hHeld := hHeld2
            clear hHeld2 hK K
            try simp only [List.getElem_toArray, List.getElem_cons_succ, List.getElem_cons_zero, Act.put, List.setIfInBounds_toArray, List.set_cons_zero, List.set_cons_succ]
            refine wpAnyH_done (by kernel_rfl) ?_ _
            clear hHeld f0 f1 f2 f3
            go_wp2_with fail
            go_meet
            refine ⟨A6, c6, ?_, (Below.heap_setCell _ _ _ _ (show W.heap.size + 1 ≠ W.heap.size by omega)).trans (keep0 hz3 hk), ⟨own_setOld HO6.out _ _ (lt_of_block hn3), (Below.heap_setCell _ _ _ _ (Nat.ne_of_gt yx)).trans (keep0 hy3 hk), (Below.heap_setCell _ _ _ _ (show W.heap.size + 2 ≠ W.heap.size by omega)).trans (keep0 hv3 hk)⟩, (HB3.out.trans (hk.mono HB3.out.size)).setCell (p := ⟨W.heap.size, 3, none⟩) (Nat.le_refl _) _⟩
            rw [heap_setCell_same _ _ _ _ _ _ (keep0 hn3 hk)]
            simp
          · skip
            have hbs : Below (World.heap k8).size k8 (World.alloc k8 (.cells #[.int .i64 x, .int .i64 y] 119)) := (Below.refl _ _).alloc (Nat.le_refl _) _
            have HL : Hid ((World.alloc k8 (.cells #[.int .i64 x, .int .i64 y] 119)).heap[(World.heap k8).size]? = some (.cells #[.int .i64 x, .int .i64 y] 119 (0, 0))) := hid (heap_alloc_new _ _)
            have HXL : Hid (w3.heap.size ≤ (World.heap k8).size) := hid hk.size
            have HNE : Hid ((World.heap k8).size ≠ XE) := hid (Nat.ne_of_gt (own_blk_lt HE.out rfl).1)
            replace HE := hid (own_keep HE.out hbs)
            replace hk := hk.trans (hbs.mono hk.size)
            clear hbs
            simp only [List.getElem_toArray, List.getElem_cons_succ, List.getElem_cons_zero]
            go_simp
            refine hK.out _ _ ?_ (fun hHeld2 => ?_)
            focus
              exact hS _ hk
            clear hHeld
            have hHeld := hHeld2
            clear hHeld2 hK K
            try simp only [List.getElem_toArray, List.getElem_cons_succ, List.getElem_cons_zero, Act.put, List.setIfInBounds_toArray, List.set_cons_zero, List.set_cons_succ]
            generalize (World.alloc k8 (.cells #[.int .i64 x, .int .i64 y] 119)) = k11 at *
            generalize (World.heap k8).size = XL at *
            refine wpAnyH_ready (rs := [3]) (by kernel_rfl) (by simp) ?_
            refine (AllReadyH.cons rfl (fun K hK => ?_) AllReadyH.nil)
            refine step_append_sl rfl (.tmp 25) (.tmp 27) 111 rfl w3.heap.size 119 Try.underlying111 info_task rfl (by omega) rfl HE.out rfl (HSR.out _ (HB3.out.trans (hk.mono HB3.out.size))) (pcells_one _) (by unfold maxLen; omega) (by omega) hk.size ?_
            intro vk12 k12 ho5 hb5 hsz5 hk5
            simp only [Nat.zero_add, List.nil_append] at ho5
            obtain ⟨A5, c5, rfl, _⟩ := Sl.of_own ho5
            replace HL := hid ((hk5 XL HXL.out (lt_of_block HL.out) (fun e => HNE.out (Option.some.inj e).symm)).trans HL.out)
            clear HE
            have HE := hid ho5
            replace hk := hk.trans hb5
            clear hb5 hsz5 hk5 ho5
            simp only [List.getElem_toArray, List.getElem_cons_succ, List.getElem_cons_zero]
            refine hK.out _ _ ?_ (fun hHeld2 => ?_)
            focus
              exact hS _ hk
            clear hHeld
            have hHeld := hHeld2
            clear hHeld2 hK K
            try simp only [List.getElem_toArray, List.getElem_cons_succ, List.getElem_cons_zero, Act.put, List.setIfInBounds_toArray, List.set_cons_zero, List.set_cons_succ]
            refine wpAnyH_ready (rs := [6]) (by kernel_rfl) (by simp) ?_
            refine AllReadyH.cons rfl (fun K hK => ?_) AllReadyH.nil
            refine step_append_sl rfl (.tmp 28) (.tmp 30) 111 rfl w3.heap.size 119 Try.underlying111 info_task rfl (by omega) rfl HE.out rfl (by exact sl_heap HL.out) (by simp; exact ⟨rfl, rfl⟩) (by unfold maxLen; omega) (by omega) hk.size ?_
            intro v6 w6 ho6 hb6 hsz6 hk6
            obtain ⟨A6, c6, rfl, _⟩ := Sl.of_own ho6
            replace hk := hk.trans hb6
            have HO6 := hid ho6
            clear hb6 hsz6 hk6 ho6 HE HL
            simp only [List.getElem_toArray, List.getElem_cons_succ, List.getElem_cons_zero]
            refine hK.out _ _ ?_ (fun hHeld2 => ?_)
            focus
              exact hS _ hk
            clear hHeld
            have hHeld := hHeld2
            clear hHeld2 hK K
            try simp only [List.getElem_toArray, List.getElem_cons_succ, List.getElem_cons_zero, Act.put, List.setIfInBounds_toArray, List.set_cons_zero, List.set_cons_succ]
            refine wpAnyH_take (i := 7) (v := ?_) rfl (by kernel_rfl) (by kernel_rfl) (by kernel_rfl) (fun _ _ _ h => h) (Or.inl ⟨by rfl, ?_⟩) (by exact hS _ hk) ?_
            rotate_left
            focus
              intro U hU
              try dsimp only at hU
              go_simp
              try (with_reducible rfl)
            simp only [List.getElem_toArray, List.getElem_cons_succ, List.getElem_cons_zero, Act.put, List.setIfInBounds_toArray, List.set_cons_zero, List.set_cons_succ]
            refine wpAnyH_ready (rs := [8]) (by kernel_rfl) (by simp) ?_
            refine AllReadyH.cons rfl (fun K hK => ?_) AllReadyH.nil
            obtain ⟨_, f0, f1, f2, f3⟩ := four_cells (keep0 hn3 hk)
            simp only [List.getElem_toArray, List.getElem_cons_succ, List.getElem_cons_zero]
            go_simp
            refine hK.out _ _ ?_ (fun hHeld2 => ?_)
            focus
              exact ⟨⟨(two_cells ((Below.heap_setCell _ _ _ _ (Nat.ne_of_gt yx)).trans (keep0 hy3 hk))).1, (two_cells ((Below.heap_setCell _ _ _ _ (Nat.ne_of_gt yx)).trans (keep0 hy3 hk))).2.1⟩, (HB3.out.trans (hk.mono HB3.out.size)).setCell (p := ⟨W.heap.size, 3, none⟩) (Nat.le_refl _) _⟩
            clear hHeld
            have hHeld := hHeld2
            clear hHeld2 hK K
            try simp only [List.getElem_toArray, List.getElem_cons_succ, List.getElem_cons_zero, Act.put, List.setIfInBounds_toArray, List.set_cons_zero, List.set_cons_succ]
            refine wpAnyH_done (by kernel_rfl) ?_ _
            clear hHeld f0 f1 f2 f3
            go_wp2_with fail
            go_meet
            refine ⟨A6, c6, ?_, (Below.heap_setCell _ _ _ _ (show W.heap.size + 1 ≠ W.heap.size by omega)).trans (keep0 hz3 hk), ⟨own_setOld HO6.out _ _ (lt_of_block hn3), (Below.heap_setCell _ _ _ _ (Nat.ne_of_gt yx)).trans (keep0 hy3 hk), (Below.heap_setCell _ _ _ _ (show W.heap.size + 2 ≠ W.heap.size by omega)).trans (keep0 hv3 hk)⟩, (HB3.out.trans (hk.mono HB3.out.size)).setCell (p := ⟨W.heap.size, 3, none⟩) (Nat.le_refl _) _⟩
            rw [heap_setCell_same _ _ _ _ _ _ (keep0 hn3 hk)]
            simp
        · skip
          have hbs : Below (World.heap k0).size k0 (World.alloc k0 (.cells #[.int .i64 x, .int .i64 y] 119)) := (Below.refl _ _).alloc (Nat.le_refl _) _
          have HL : Hid ((World.alloc k0 (.cells #[.int .i64 x, .int .i64 y] 119)).heap[(World.heap k0).size]? = some (.cells #[.int .i64 x, .int .i64 y] 119 (0, 0))) := hid (heap_alloc_new _ _)
          have HXL : Hid (w3.heap.size ≤ (World.heap k0).size) := hid hk.size
          replace hk := hk.trans (hbs.mono hk.size)
          clear hbs
          simp only [List.getElem_toArray, List.getElem_cons_succ, List.getElem_cons_zero]
          go_simp
          refine hK.out _ _ ?_ (fun hHeld2 => ?_)
          focus
            exact hS _ hk
          clear hHeld
          have hHeld := hHeld2
          clear hHeld2 hK K
          try simp only [List.getElem_toArray, List.getElem_cons_succ, List.getElem_cons_zero, Act.put, List.setIfInBounds_toArray, List.set_cons_zero, List.set_cons_succ]
          generalize (World.alloc k0 (.cells #[.int .i64 x, .int .i64 y] 119)) = k13 at *
          generalize (World.heap k0).size = XL at *
          refine wpAnyH_ready (rs := [0]) (by kernel_rfl) (by simp) ?_
          refine (AllReadyH.cons rfl (fun K hK => ?_) AllReadyH.nil)
          have hbs : Below (World.heap k13).size k13 (World.alloc k13 (.cells #[] 119)) := (Below.refl _ _).alloc (Nat.le_refl _) _
          have HE := hid (own_mono (own_empty k13 119 2) hk.size)
          have HNE : Hid (XL ≠ (World.heap k13).size) := hid (Nat.ne_of_lt (lt_of_block HL.out))
          replace HL := hid (keep0 HL.out hbs)
          replace hk := hk.trans (hbs.mono hk.size)
          clear hbs
          simp only [List.getElem_toArray, List.getElem_cons_succ, List.getElem_cons_zero]
          go_simp
          refine hK.out _ _ ?_ (fun hHeld2 => ?_)
          focus
            exact hS _ hk
          clear hHeld
          have hHeld := hHeld2
          clear hHeld2 hK K
          try simp only [List.getElem_toArray, List.getElem_cons_succ, List.getElem_cons_zero, Act.put, List.setIfInBounds_toArray, List.set_cons_zero, List.set_cons_succ]
          generalize (World.alloc k13 (.cells #[] 119)) = k14 at *
          generalize (World.heap k13).size = XE at *
          refine wpAnyH_ready (rs := [3]) (by kernel_rfl) (by simp) ?_
          refine (AllReadyH.cons rfl (fun K hK => ?_) AllReadyH.nil)
          refine step_append_sl rfl (.tmp 25) (.tmp 27) 111 rfl w3.heap.size 119 Try.underlying111 info_task rfl (by omega) rfl HE.out rfl (HSR.out _ (HB3.out.trans (hk.mono HB3.out.size))) (pcells_one _) (by unfold maxLen; omega) (by omega) hk.size ?_
          intro vk15 k15 ho5 hb5 hsz5 hk5
          simp only [Nat.zero_add, List.nil_append] at ho5
          obtain ⟨A5, c5, rfl, _⟩ := Sl.of_own ho5
          replace HL := hid ((hk5 XL HXL.out (lt_of_block HL.out) (fun e => HNE.out (Option.some.inj e).symm)).trans HL.out)
          clear HE
          have HE := hid ho5
          replace hk := hk.trans hb5
          clear hb5 hsz5 hk5 ho5
          simp only [List.getElem_toArray, List.getElem_cons_succ, List.getElem_cons_zero]
          refine hK.out _ _ ?_ (fun hHeld2 => ?_)
          focus
            exact hS _ hk
          clear hHeld
          have hHeld := hHeld2
          clear hHeld2 hK K
          try simp only [List.getElem_toArray, List.getElem_cons_succ, List.getElem_cons_zero, Act.put, List.setIfInBounds_toArray, List.set_cons_zero, List.set_cons_succ]
          refine wpAnyH_ready (rs := [6]) (by kernel_rfl) (by simp) ?_
          refine AllReadyH.cons rfl (fun K hK => ?_) AllReadyH.nil
          refine step_append_sl rfl (.tmp 28) (.tmp 30) 111 rfl w3.heap.size 119 Try.underlying111 info_task rfl (by omega) rfl HE.out rfl (by exact sl_heap HL.out) (by simp; exact ⟨rfl, rfl⟩) (by unfold maxLen; omega) (by omega) hk.size ?_
          intro v6 w6 ho6 hb6 hsz6 hk6
          obtain ⟨A6, c6, rfl, _⟩ := Sl.of_own ho6
          replace hk := hk.trans hb6
          have HO6 := hid ho6
          clear hb6 hsz6 hk6 ho6 HE HL
          simp only [List.getElem_toArray, List.getElem_cons_succ, List.getElem_cons_zero]
          refine hK.out _ _ ?_ (fun hHeld2 => ?_)
          focus
            exact hS _ hk
          clear hHeld
          have hHeld := hHeld2
          clear hHeld2 hK K
          try simp only [List.getElem_toArray, List.getElem_cons_succ, List.getElem_cons_zero, Act.put, List.setIfInBounds_toArray, List.set_cons_zero, List.set_cons_succ]
          refine wpAnyH_take (i := 7) (v := ?_) rfl (by kernel_rfl) (by kernel_rfl) (by kernel_rfl) (fun _ _ _ h => h) (Or.inl ⟨by rfl, ?_⟩) (by exact hS _ hk) ?_
          rotate_left
          focus
            intro U hU
            try dsimp only at hU
            go_simp
            try (with_reducible rfl)
          simp only [List.getElem_toArray, List.getElem_cons_succ, List.getElem_cons_zero, Act.put, List.setIfInBounds_toArray, List.set_cons_zero, List.set_cons_succ]
          refine wpAnyH_ready (rs := [8]) (by kernel_rfl) (by simp) ?_
          refine AllReadyH.cons rfl (fun K hK => ?_) AllReadyH.nil
          obtain ⟨_, f0, f1, f2, f3⟩ := four_cells (keep0 hn3 hk)
          simp only [List.getElem_toArray, List.getElem_cons_succ, List.getElem_cons_zero]
          go_simp
          refine hK.out _ _ ?_ (fun hHeld2 => ?_)
          focus
            exact ⟨⟨(two_cells ((Below.heap_setCell _ _ _ _ (Nat.ne_of_gt yx)).trans (keep0 hy3 hk))).1, (two_cells ((Below.heap_setCell _ _ _ _ (Nat.ne_of_gt yx)).trans (keep0 hy3 hk))).2.1⟩, (HB3.out.trans (hk.mono HB3.out.size)).setCell (p := ⟨W.heap.size, 3, none⟩) (Nat.le_refl _) _⟩
          clear hHeld
          have hHeld := hHeld2
          clear hHeld2 hK K
          try simp only [List.getElem_toArray, List.getElem_cons_succ, List.getElem_cons_zero, Act.put, List.setIfInBounds_toArray, List.set_cons_zero, List.set_cons_succ]
          refine wpAnyH_done (by kernel_rfl) ?_ _
          clear hHeld f0 f1 f2 f3
          go_wp2_with fail
          go_meet
          refine ⟨A6, c6, ?_, (Below.heap_setCell _ _ _ _ (show W.heap.size + 1 ≠ W.heap.size by omega)).trans (keep0 hz3 hk), ⟨own_setOld HO6.out _ _ (lt_of_block hn3), (Below.heap_setCell _ _ _ _ (Nat.ne_of_gt yx)).trans (keep0 hy3 hk), (Below.heap_setCell _ _ _ _ (show W.heap.size + 2 ≠ W.heap.size by omega)).trans (keep0 hv3 hk)⟩, (HB3.out.trans (hk.mono HB3.out.size)).setCell (p := ⟨W.heap.size, 3, none⟩) (Nat.le_refl _) _⟩
          rw [heap_setCell_same _ _ _ _ _ _ (keep0 hn3 hk)]
          simp
      · skip
        have hbs : Below (World.heap k0).size k0 (World.alloc k0 (.cells #[.int .i64 x, .int .i64 y] 119)) := (Below.refl _ _).alloc (Nat.le_refl _) _
        have HL : Hid ((World.alloc k0 (.cells #[.int .i64 x, .int .i64 y] 119)).heap[(World.heap k0).size]? = some (.cells #[.int .i64 x, .int .i64 y] 119 (0, 0))) := hid (heap_alloc_new _ _)
        have HXL : Hid (w3.heap.size ≤ (World.heap k0).size) := hid hk.size
        replace hk := hk.trans (hbs.mono hk.size)
        clear hbs
        simp only [List.getElem_toArray, List.getElem_cons_succ, List.getElem_cons_zero]
        go_simp
        refine hK.out _ _ ?_ (fun hHeld2 => ?_)
        focus
          exact hS _ hk
        clear hHeld
        have hHeld := hHeld2
        clear hHeld2 hK K
        try simp only [List.getElem_toArray, List.getElem_cons_succ, List.getElem_cons_zero, Act.put, List.setIfInBounds_toArray, List.set_cons_zero, List.set_cons_succ]
        generalize (World.alloc k0 (.cells #[.int .i64 x, .int .i64 y] 119)) = k16 at *
        generalize (World.heap k0).size = XL at *
        refine wpAnyH_ready (rs := [0, 2]) (by kernel_rfl) (by simp) ?_
        refine (AllReadyH.cons rfl (fun K hK => ?_) (AllReadyH.cons rfl (fun K hK => ?_) AllReadyH.nil))
        · skip
          have hbs : Below (World.heap k16).size k16 (World.alloc k16 (.cells #[] 119)) := (Below.refl _ _).alloc (Nat.le_refl _) _
          have HE := hid (own_mono (own_empty k16 119 2) hk.size)
          have HNE : Hid (XL ≠ (World.heap k16).size) := hid (Nat.ne_of_lt (lt_of_block HL.out))
          replace HL := hid (keep0 HL.out hbs)
          replace hk := hk.trans (hbs.mono hk.size)
          clear hbs
          simp only [List.getElem_toArray, List.getElem_cons_succ, List.getElem_cons_zero]
          go_simp
          refine hK.out _ _ ?_ (fun hHeld2 => ?_)
          focus
            exact hS _ hk
          clear hHeld
          have hHeld := hHeld2
          clear hHeld2 hK K
          try simp only [List.getElem_toArray, List.getElem_cons_succ, List.getElem_cons_zero, Act.put, List.setIfInBounds_toArray, List.set_cons_zero, List.set_cons_succ]
          generalize (World.alloc k16 (.cells #[] 119)) = k17 at *
          generalize (World.heap k16).size = XE at *
          refine wpAnyH_ready (rs := [2]) (by kernel_rfl) (by simp) ?_
          refine (AllReadyH.cons rfl (fun K hK => ?_) AllReadyH.nil)
          obtain ⟨⟨p0, p1, p2, p3⟩, _⟩ := four_cells (keep0 hn3 hk)
          simp only [List.getElem_toArray, List.getElem_cons_succ, List.getElem_cons_zero]
          go_simp
          refine hK.out _ _ ?_ (fun hHeld2 => ?_)
          focus
            exact hS _ hk
          clear hHeld
          have hHeld := hHeld2
          clear hHeld2 hK K
          try simp only [List.getElem_toArray, List.getElem_cons_succ, List.getElem_cons_zero, Act.put, List.setIfInBounds_toArray, List.set_cons_zero, List.set_cons_succ]
          clear p0 p1 p2 p3
          refine wpAnyH_ready (rs := [3]) (by kernel_rfl) (by simp) ?_
          refine (AllReadyH.cons rfl (fun K hK => ?_) AllReadyH.nil)
          refine step_append_sl rfl (.tmp 25) (.tmp 27) 111 rfl w3.heap.size 119 Try.underlying111 info_task rfl (by omega) rfl HE.out rfl (HSR.out _ (HB3.out.trans (hk.mono HB3.out.size))) (pcells_one _) (by unfold maxLen; omega) (by omega) hk.size ?_
          intro vk18 k18 ho5 hb5 hsz5 hk5
          simp only [Nat.zero_add, List.nil_append] at ho5
          obtain ⟨A5, c5, rfl, _⟩ := Sl.of_own ho5
          replace HL := hid ((hk5 XL HXL.out (lt_of_block HL.out) (fun e => HNE.out (Option.some.inj e).symm)).trans HL.out)
          clear HE
          have HE := hid ho5
          replace hk := hk.trans hb5
          clear hb5 hsz5 hk5 ho5
          simp only [List.getElem_toArray, List.getElem_cons_succ, List.getElem_cons_zero]
          refine hK.out _ _ ?_ (fun hHeld2 => ?_)
          focus
            exact hS _ hk
          clear hHeld
          have hHeld := hHeld2
          clear hHeld2 hK K
          try simp only [List.getElem_toArray, List.getElem_cons_succ, List.getElem_cons_zero, Act.put, List.setIfInBounds_toArray, List.set_cons_zero, List.set_cons_succ]
          refine wpAnyH_ready (rs := [6]) (by kernel_rfl) (by simp) ?_
          refine AllReadyH.cons rfl (fun K hK => ?_) AllReadyH.nil
          refine step_append_sl rfl (.tmp 28) (.tmp 30) 111 rfl w3.heap.size 119 Try.underlying111 info_task rfl (by omega) rfl HE.out rfl (by exact sl_heap HL.out) (by simp; exact ⟨rfl, rfl⟩) (by unfold maxLen; omega) (by omega) hk.size ?_
          intro v6 w6 ho6 hb6 hsz6 hk6
          obtain ⟨A6, c6, rfl, _⟩ := Sl.of_own ho6
          replace hk := hk.trans hb6
          have HO6 := hid ho6
          clear hb6 hsz6 hk6 ho6 HE HL
          simp only [List.getElem_toArray, List.getElem_cons_succ, List.getElem_cons_zero]
          refine hK.out _ _ ?_ (fun hHeld2 => ?_)
          focus
            exact hS _ hk
          clear hHeld
          have hHeld := hHeld2
          clear hHeld2 hK K
          try simp only [List.getElem_toArray, List.getElem_cons_succ, List.getElem_cons_zero, Act.put, List.setIfInBounds_toArray, List.set_cons_zero, List.set_cons_succ]
          refine wpAnyH_take (i := 7) (v := ?_) rfl (by kernel_rfl) (by kernel_rfl) (by kernel_rfl) (fun _ _ _ h => h) (Or.inl ⟨by rfl, ?_⟩) (by exact hS _ hk) ?_
          rotate_left
          focus
            intro U hU
            try dsimp only at hU
            go_simp
            try (with_reducible rfl)
          simp only [List.getElem_toArray, List.getElem_cons_succ, List.getElem_cons_zero, Act.put, List.setIfInBounds_toArray, List.set_cons_zero, List.set_cons_succ]
          refine wpAnyH_ready (rs := [8]) (by kernel_rfl) (by simp) ?_
          refine AllReadyH.cons rfl (fun K hK => ?_) AllReadyH.nil
          obtain ⟨_, f0, f1, f2, f3⟩ := four_cells (keep0 hn3 hk)
          simp only [List.getElem_toArray, List.getElem_cons_succ, List.getElem_cons_zero]
          go_simp
          refine hK.out _ _ ?_ (fun hHeld2 => ?_)
          focus
            exact ⟨⟨(two_cells ((Below.heap_setCell _ _ _ _ (Nat.ne_of_gt yx)).trans (keep0 hy3 hk))).1, (two_cells ((Below.heap_setCell _ _ _ _ (Nat.ne_of_gt yx)).trans (keep0 hy3 hk))).2.1⟩, (HB3.out.trans (hk.mono HB3.out.size)).setCell (p := ⟨W.heap.size, 3, none⟩) (Nat.le_refl _) _⟩
          clear hHeld
          have hHeld := hHeld2
          clear hHeld2 hK K
          try simp only [List.getElem_toArray, List.getElem_cons_succ, List.getElem_cons_zero, Act.put, List.setIfInBounds_toArray, List.set_cons_zero, List.set_cons_succ]
          refine wpAnyH_done (by kernel_rfl) ?_ _
          clear hHeld f0 f1 f2 f3
          go_wp2_with fail
          go_meet
          refine ⟨A6, c6, ?_, (Below.heap_setCell _ _ _ _ (show W.heap.size + 1 ≠ W.heap.size by omega)).trans (keep0 hz3 hk), ⟨own_setOld HO6.out _ _ (lt_of_block hn3), (Below.heap_setCell _ _ _ _ (Nat.ne_of_gt yx)).trans (keep0 hy3 hk), (Below.heap_setCell _ _ _ _ (show W.heap.size + 2 ≠ W.heap.size by omega)).trans (keep0 hv3 hk)⟩, (HB3.out.trans (hk.mono HB3.out.size)).setCell (p := ⟨W.heap.size, 3, none⟩) (Nat.le_refl _) _⟩
          rw [heap_setCell_same _ _ _ _ _ _ (keep0 hn3 hk)]
          simp
        · skip
          obtain ⟨⟨p0, p1, p2, p3⟩, _⟩ := four_cells (keep0 hn3 hk)
          simp only [List.getElem_toArray, List.getElem_cons_succ, List.getElem_cons_zero]
          go_simp
          refine hK.out _ _ ?_ (fun hHeld2 => ?_)
          focus
            exact hS _ hk
          clear hHeld
          have hHeld := hHeld2
          clear hHeld2 hK K
          try simp only [List.getElem_toArray, List.getElem_cons_succ, List.getElem_cons_zero, Act.put, List.setIfInBounds_toArray, List.set_cons_zero, List.set_cons_succ]
          clear p0 p1 p2 p3
          refine wpAnyH_ready (rs := [0]) (by kernel_rfl) (by simp) ?_
          refine (AllReadyH.cons rfl (fun K hK => ?_) AllReadyH.nil)
          have hbs : Below (World.heap k16).size k16 (World.alloc k16 (.cells #[] 119)) := (Below.refl _ _).alloc (Nat.le_refl _) _
          have HE := hid (own_mono (own_empty k16 119 2) hk.size)
          have HNE : Hid (XL ≠ (World.heap k16).size) := hid (Nat.ne_of_lt (lt_of_block HL.out))
          replace HL := hid (keep0 HL.out hbs)
          replace hk := hk.trans (hbs.mono hk.size)
          clear hbs
          simp only [List.getElem_toArray, List.getElem_cons_succ, List.getElem_cons_zero]
          go_simp
          refine hK.out _ _ ?_ (fun hHeld2 => ?_)
          focus
            exact hS _ hk
          clear hHeld
          have hHeld := hHeld2
          clear hHeld2 hK K
          try simp only [List.getElem_toArray, List.getElem_cons_succ, List.getElem_cons_zero, Act.put, List.setIfInBounds_toArray, List.set_cons_zero, List.set_cons_succ]
          generalize (World.alloc k16 (.cells #[] 119)) = k19 at *
          generalize (World.heap k16).size = XE at *
          refine wpAnyH_ready (rs := [3]) (by kernel_rfl) (by simp) ?_
          refine (AllReadyH.cons rfl (fun K hK => ?_) AllReadyH.nil)
          refine step_append_sl rfl (.tmp 25) (.tmp 27) 111 rfl w3.heap.size 119 Try.underlying111 info_task rfl (by omega) rfl HE.out rfl (HSR.out _ (HB3.out.trans (hk.mono HB3.out.size))) (pcells_one _) (by unfold maxLen; omega) (by omega) hk.size ?_
          intro vk20 k20 ho5 hb5 hsz5 hk5
          simp only [Nat.zero_add, List.nil_append] at ho5
          obtain ⟨A5, c5, rfl, _⟩ := Sl.of_own ho5
          replace HL := hid ((hk5 XL HXL.out (lt_of_block HL.out) (fun e => HNE.out (Option.some.inj e).symm)).trans HL.out)
          clear HE
          have HE := hid ho5
          replace hk := hk.trans hb5
          clear hb5 hsz5 hk5 ho5
          simp only [List.getElem_toArray, List.getElem_cons_succ, List.getElem_cons_zero]
          refine hK.out _ _ ?_ (fun hHeld2 => ?_)
          focus
            exact hS _ hk
          clear hHeld
          have hHeld := hHeld2
          clear hHeld2 hK K
          try simp only [List.getElem_toArray, List.getElem_cons_succ, List.getElem_cons_zero, Act.put, List.setIfInBounds_toArray, List.set_cons_zero, List.set_cons_succ]
          refine wpAnyH_ready (rs := [6]) (by kernel_rfl) (by simp) ?_
          refine AllReadyH.cons rfl (fun K hK => ?_) AllReadyH.nil
          refine step_append_sl rfl (.tmp 28) (.tmp 30) 111 rfl w3.heap.size 119 Try.underlying111 info_task rfl (by omega) rfl HE.out rfl (by exact sl_heap HL.out) (by simp; exact ⟨rfl, rfl⟩) (by unfold maxLen; omega) (by omega) hk.size ?_
          intro v6 w6 ho6 hb6 hsz6 hk6
          obtain ⟨A6, c6, rfl, _⟩ := Sl.of_own ho6
          replace hk := hk.trans hb6
          have HO6 := hid ho6
          clear hb6 hsz6 hk6 ho6 HE HL
          simp only [List.getElem_toArray, List.getElem_cons_succ, List.getElem_cons_zero]
          refine hK.out _ _ ?_ (fun hHeld2 => ?_)
          focus
            exact hS _ hk
          clear hHeld
          have hHeld := hHeld2
          clear hHeld2 hK K
          try simp only [List.getElem_toArray, List.getElem_cons_succ, List.getElem_cons_zero, Act.put, List.setIfInBounds_toArray, List.set_cons_zero, List.set_cons_succ]
          refine wpAnyH_take (i := 7) (v := ?_) rfl (by kernel_rfl) (by kernel_rfl) (by kernel_rfl) (fun _ _ _ h => h) (Or.inl ⟨by rfl, ?_⟩) (by exact hS _ hk) ?_
          rotate_left
          focus
            intro U hU
            try dsimp only at hU
            go_simp
            try (with_reducible rfl)
          simp only [List.getElem_toArray, List.getElem_cons_succ, List.getElem_cons_zero, Act.put, List.setIfInBounds_toArray, List.set_cons_zero, List.set_cons_succ]
          refine wpAnyH_ready (rs := [8]) (by kernel_rfl) (by simp) ?_
          refine AllReadyH.cons rfl (fun K hK => ?_) AllReadyH.nil
          obtain ⟨_, f0, f1, f2, f3⟩ := four_cells (keep0 hn3 hk)
          simp only [List.getElem_toArray, List.getElem_cons_succ, List.getElem_cons_zero]
          go_simp
          refine hK.out _ _ ?_ (fun hHeld2 => ?_)
          focus
            exact ⟨⟨(two_cells ((Below.heap_setCell _ _ _ _ (Nat.ne_of_gt yx)).trans (keep0 hy3 hk))).1, (two_cells ((Below.heap_setCell _ _ _ _ (Nat.ne_of_gt yx)).trans (keep0 hy3 hk))).2.1⟩, (HB3.out.trans (hk.mono HB3.out.size)).setCell (p := ⟨W.heap.size, 3, none⟩) (Nat.le_refl _) _⟩
          clear hHeld
          have hHeld := hHeld2
          clear hHeld2 hK K
          try simp only [List.getElem_toArray, List.getElem_cons_succ, List.getElem_cons_zero, Act.put, List.setIfInBounds_toArray, List.set_cons_zero, List.set_cons_succ]
          refine wpAnyH_done (by kernel_rfl) ?_ _
          clear hHeld f0 f1 f2 f3
          go_wp2_with fail
          go_meet
          refine ⟨A6, c6, ?_, (Below.heap_setCell _ _ _ _ (show W.heap.size + 1 ≠ W.heap.size by omega)).trans (keep0 hz3 hk), ⟨own_setOld HO6.out _ _ (lt_of_block hn3), (Below.heap_setCell _ _ _ _ (Nat.ne_of_gt yx)).trans (keep0 hy3 hk), (Below.heap_setCell _ _ _ _ (show W.heap.size + 2 ≠ W.heap.size by omega)).trans (keep0 hv3 hk)⟩, (HB3.out.trans (hk.mono HB3.out.size)).setCell (p := ⟨W.heap.size, 3, none⟩) (Nat.le_refl _) _⟩
          rw [heap_setCell_same _ _ _ _ _ _ (keep0 hn3 hk)]
          simp
end Go.Proofs.Ytadjmgmdnekllaa
