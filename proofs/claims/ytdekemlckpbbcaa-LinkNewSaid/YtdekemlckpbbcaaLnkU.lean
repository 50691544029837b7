/- does, with a packet that goes: contract. -/
import Derived.Test.YtdekemlckpbbcaaLnkT
import Derived.BigQuiet
namespace Go.Proofs.Ytdekemlckpbbcaa
open Go.RowKit Go.Sort
set_option linter.unusedVariables false
set_option linter.unusedSimpArgs false
theorem blk_ne {w : World} {g h t s : Nat} {cs ds : Array Value} (hg : w.heap[g]? = some (.cells cs t (0, 0))) (hh : w.heap[h]? = some (.cells ds s (0, 0))) (hts : t ≠ s) : h ≠ g := by
  rintro rfl
  rw [hg] at hh
  injection hh with hh
  injection hh with _ e
  exact hts e

set_option maxRecDepth 20000 in
set_option maxHeartbeats 8000000 in
theorem does4_any {N M : Nat} {a b : Sd} {w : List Pk} (hI : InvS N M a b w) (hN : N ≤ 1000) (hM : M ≤ 10000) (d n : Int)  (g : Nat) (W u : World) (A : Option Addr) (ca : Nat) (B : Option Addr) (cb : Nat) (D : Option Addr) (cd : Nat) (h : PX W u g (mkP a b w) A ca B cb D cd) :
    Calls Try.prog 32 #[.pointer (some ⟨g, 0, none⟩), .agg #[.int .i64 4, .int .i64 n]] u (DoR N (M + 1) W g) := by
  have HI := hid hI
  have HNM := hid (And.intro hN hM)
  have hk := h.keep ((Below.refl _ _).alloc (Nat.le_refl _) (.cells #[.int .i64 4, .int .i64 n] 84))
  have hal := heap_alloc_new u (.cells #[.int .i64 4, .int .i64 n] 84)
  have HX := hid hk
  have HA := hid hal
  have hg := hk.1
  simp only [prc] at hg
  have hg22 := (pair_cells hg).1.2.2.2.2.2.2.2.2.2.2.2.2.2.2.2.2.2.2.2.2.2.2.1
  have hwl : (mkP a b w).w.length ≤ 100000 := by
    have := hI.wl
    show w.length ≤ 100000
    omega
  have HWX := hid (show (mkP a b w).w.length ≤ 10000 by have := hI.wl; show w.length ≤ 10000; omega)
  generalize hXX : mkP a b w = x at *
  have HXX := hid hXX
  clear hk h hal hg hI hN hM hXX

  go_enter Try.func32, Try.ntmps32
  rcases Nat.eq_zero_or_pos x.w.length with h0 | h0
  case inl =>
    rw [h0] at hg22
    clear h0
    go_wp2
    refine bodyPost_ret (results_none rfl _ _ _) rfl ?_
    exact ⟨⟨_, rfl⟩, a, b, w, A, ca, B, cb, D, cd, by rw [HXX.out]; exact HX.out, HI.out.up (Nat.le_refl _) (Nat.le_succ _)⟩
  have e0 : ((x.w.length : Int) == 0) = false := beq_eq_false_iff_ne.2 (by omega)
  go_upto_region 6 with (fail)
  go_quiet (fail)
  go_upto_region 7 with (fail)
  obtain ⟨k, hkl, hke⟩ := idx_any n x.w.length h0 hwl
  rw [hke]
  have HKL := hid hkl
  clear hke h0 e0 hg22 hwl hkl
  refine at_world (fun v => v.heap[u.heap.size]? = some (.cells #[.int .i64 4, .int .i64 n] 84 (0, 0)) ∧ PX W v g x A ca B cb D cd) ⟨HA.out, HX.out.keep ⟨rfl, rfl, rfl, Nat.le_refl _, fun _ _ => rfl⟩⟩ ?_
  clear HA HX
  generalize u.heap.size = Bx at *
  rintro u1 ⟨ha1, hx1⟩
  have hg1 := hx1.1
  simp only [prc] at hg1
  have hg22 := (pair_cells hg1).1.2.2.2.2.2.2.2.2.2.2.2.2.2.2.2.2.2.2.2.2.2.2.1
  have HX1 := hid hx1
  have HA1 := hid ha1
  obtain ⟨bD, oD, rfl, hcD⟩ := Sl.gat pkc_len (Mid.sl hx1.2.2.2.2.1) k HKL.out (by decide)
  have c0 := hcD 0 _ rfl
  rw [Nat.add_zero] at c0
  have c1 := hcD 1 _ rfl
  have c2 := hcD 2 _ rfl
  have c3 := hcD 3 _ rfl
  have c4 := hcD 4 _ rfl
  have c5 := hcD 5 _ rfl
  have c6 := hcD 6 _ rfl
  have hki : ¬ ((k : Int) < 0) := by omega
  have hkj : (k : Int) < (x.w.length : Int) := by have := HKL.out; omega
  have hkn : k < x.w.length := HKL.out
  clear ha1 hx1 hg1 hcD
  go_upto_region 8 with (fail)
  refine at_world (fun v => v.heap[Bx]? = some (.cells #[.int .i64 4, .int .i64 n] 84 (0, 0)) ∧ v.heap[u1.heap.size]? = some (.cells (pca x.w[k]) 71 (0, 0)) ∧ PX W v g x A ca B cb (some ⟨bD, oD, none⟩) cd) ⟨(Below.heap_alloc _ _ _ (lt_of_block HA1.out)).trans HA1.out, heap_alloc_new _ _, HX1.out.keep ((Below.refl _ _).alloc (Nat.le_refl _) _)⟩ ?_
  clear HA1 HX1 hg22 c0 c1 c2 c3 c4 c5 c6 hki hkj
  generalize u1.heap.size = Pb at *
  rintro u2 ⟨ha2, hp2, hx2⟩
  have hac := act_cells ha2
  obtain ⟨ac0, ac1⟩ := hac
  have hcr := (Mid.sl hx2.2.2.2.2.1).2.1
  have hTk : ∀ w, Below u2.heap.size u2 w → Sl w 7 (some ⟨bD, oD, none⟩) k cd (gcells pkc (x.w.take k)) := fun w hw => by
    have h9 := (Sl.below (Mid.sl hx2.2.2.2.2.1) hw).take k (by have := HKL.out; omega)
    rwa [gcells_take] at h9
  have hTd : ∀ w, Below u2.heap.size u2 w → Sl w 7 (dropA (some ⟨bD, oD, none⟩) cd (k + 1) 7) (x.w.length - (k + 1)) (cd - (k + 1)) (gcells pkc (x.w.drop (k + 1))) := fun w hw => by
    have h9 := (Sl.below (Mid.sl hx2.2.2.2.2.1) hw).drop (k + 1) (by have := HKL.out; omega)
    rwa [gcells_drop] at h9
  have HTK := hid hTk
  have HTD := hid hTd
  have hwm : x.w.length ≤ 10000 := HWX.out
  have hkl := HKL.out
  have hnn : k + (x.w.length - (k + 1)) = (x.w.take k ++ x.w.drop (k + 1)).length := by
    rw [List.length_append, List.length_take, List.length_drop]
    omega
  have HNN := hid hnn
  have hrun1 : ∀ w : World, (Instr.slice 56 (.slice (some ⟨bD, oD, none⟩) x.w.length cd) none (some (.int .i64 (k : Int))) none).run Try.prog w = .ok (.slice (some ⟨bD, oD, none⟩) k cd) w := fun w => run_to Try.underlying56 info_pkt (some ⟨bD, oD, none⟩) x.w.length cd k (by omega) w
  have hrun2 : ∀ w : World, (Instr.slice 56 (.slice (some ⟨bD, oD, none⟩) x.w.length cd) (some (.int .i64 ((k : Int) + 1))) none none).run Try.prog w = .ok (.slice (dropA (some ⟨bD, oD, none⟩) cd (k + 1) 7) (x.w.length - (k + 1)) (cd - (k + 1))) w := fun w => run_from Try.underlying56 info_pkt (some ⟨bD, oD, none⟩) x.w.length cd (k + 1) (by omega) w
  have hw : IntKind.i64.wrap ((k : Int) + 1) = (k : Int) + 1 := IntWalk.i64_in _ (by omega)
  have HX2 := hid hx2
  have HP2 := hid hp2
  have HA2 := hid ha2
  clear hTk hTd hcr hx2 hp2 ha2 hnn
  go_upto_if 62 with (fail)
  go_cut [] from 63 to 79 (fun v => v.heap[Bx]? = some (.cells #[.int .i64 4, .int .i64 n] 84 (0, 0)) ∧ v.heap[Pb]? = some (.cells (pca x.w[k]) 71 (0, 0)) ∧ ∃ A6 c6, PX W v g (setW x (x.w.take k ++ x.w.drop (k + 1))) A ca B cb A6 c6)
  case rest =>
    clear hrun1 hrun2 hw HTK HTD HX2 HP2 HA2 ac0 ac1
    obtain ⟨ha2, hp2, A6, c6, hx2⟩ := hcut
    obtain ⟨ac0, ac1⟩ := act_cells ha2
    have hUn : Und a b x.w[k] := by
      obtain rfl := HXX.out
      exact HI.out.wu _ (List.getElem_mem hkn)
    have hIv : InvS N M a b (x.w.take k ++ x.w.drop (k + 1)) := by
      obtain rfl := HXX.out
      have h1 := HNN.out
      have h2 := HI.out.wl
      refine inv_sub HI.out (fun p hp => ?_) ?_
      · exact (List.mem_append.1 hp).elim (fun h => List.mem_of_mem_take h) fun h => List.mem_of_mem_drop h
      · rw [← h1]
        show k + (w.length - (k + 1)) ≤ M
        have : k < w.length := HKL.out
        omega
    have HEQ : Hid (mkP a b (x.w.take k ++ x.w.drop (k + 1)) = setW x (x.w.take k ++ x.w.drop (k + 1))) := hid (by obtain rfl := HXX.out; rfl)
    generalize setW x (x.w.take k ++ x.w.drop (k + 1)) = y at *
    generalize x.w[k] = p at *
    have hg2 := hx2.1
    simp only [prc] at hg2
    have hg22 := (pair_cells hg2).1.2.2.2.2.2.2.2.2.2.2.2.2.2.2.2.2.2.2.2.2.2.2.1
    obtain ⟨⟨y0, y1, y2, y3, y4, y5, y6⟩, _⟩ := seven_cells hp2
    have HX2 := hid hx2
    have HAC := hid ha2
    clear hg2 hx2 hp2 ha2
    have HCM := hid (fun u (D : Option Addr) (cd : Nat) (h : PX W u g y A ca B cb D cd) => comes_any hIv hUn (by have := HNM.out; omega) (by have := HNM.out; omega) g W u A ca B cb D cd (by rw [HEQ.out]; exact h))
    simp only [pca] at HCM
    have HCV := hid (inv_come hIv hUn (by have := HNM.out; omega))
    have HIV := hid hIv
    clear hIv hUn
    by_cases hl4 : (y.w.length : Int) < 400
    case neg =>
      have hl5 : decide ((y.w.length : Int) < 400) = false := decide_eq_false hl4
      clear hl4
      go_wp2
      refine bodyPost_ret (results_none rfl _ _ _) rfl ?_
      exact ⟨⟨_, rfl⟩, a, b, _, A, ca, B, cb, _, _, by rw [HEQ.out]; exact HX2.out, HIV.out.up (Nat.le_refl _) (Nat.le_succ _)⟩
    have hl5 : decide ((y.w.length : Int) < 400) = true := decide_eq_true hl4
    clear hl4
    go_wp2_with fail
    refine (HCM.out _ _ _ HX2.out).mono ?_
    rintro e u4 ⟨⟨v, rfl⟩, A', ca', B', cb', D', cd', hx4⟩
    obtain ⟨a', b', l', hv', hi'⟩ := HCV.out
    rw [hv'] at hx4
    have HX4 := hid hx4
    have HI4 := hid hi'
    clear hx4 hi' hv'
    go_wp2
    refine bodyPost_ret (results_none rfl _ _ _) rfl ?_
    exact ⟨⟨_, rfl⟩, a', b', _, A', ca', B', cb', D', cd', HX4.out, HI4.out⟩

  clear ac0 ac1
  go_upto_region 9 with (fail)
  have hk0 : Below u2.heap.size u2 u2.drew := below_drew (Below.refl _ _)
  have hS9 : ∀ U, Below u2.heap.size u2 U → Below W.heap.size W U := fun U hU => HX2.out.2.2.2.2.2.trans (hU.mono HX2.out.2.2.2.2.2.size)
  refine wp_region_held_drew (S := fun U => Below W.heap.size W U) (by kernel_rfl) (hS9 _ hk0) (fun hHeld => ?_)
  generalize u2.drew = q0 at *
  refine wpAnyH_take (i := 0) (v := ?_) rfl (by kernel_rfl) (by kernel_rfl) (by kernel_rfl) (fun _ _ _ h => h) (Or.inl ⟨by rfl, ?_⟩) (by exact hS9 _ hk0) ?_
  rotate_left
  focus
    intro U hU
    try dsimp only at hU
    go_simp
    try (with_reducible rfl)
  simp only [List.getElem_toArray, List.getElem_cons_succ, List.getElem_cons_zero, Act.put, List.setIfInBounds_toArray, List.set_cons_zero, List.set_cons_succ]
  refine wpAnyH_take (i := 2) (v := ?_) rfl (by kernel_rfl) (by kernel_rfl) (by kernel_rfl) (fun _ _ _ h => h) (Or.inl ⟨by rfl, ?_⟩) (by exact hS9 _ hk0) ?_
  rotate_left
  focus
    intro U hU
    try dsimp only at hU
    go_simp
    try (with_reducible rfl)
  simp only [List.getElem_toArray, List.getElem_cons_succ, List.getElem_cons_zero, Act.put, List.setIfInBounds_toArray, List.set_cons_zero, List.set_cons_succ]
  refine wpAnyH_take (i := 3) (v := ?_) rfl (by kernel_rfl) (by kernel_rfl) (by kernel_rfl) (fun _ _ _ h => h) (Or.inl ⟨by rfl, ?_⟩) (by exact hS9 _ hk0) ?_
  rotate_left
  focus
    intro U hU
    try dsimp only at hU
    go_simp
    try (with_reducible rfl)
  simp only [List.getElem_toArray, List.getElem_cons_succ, List.getElem_cons_zero, Act.put, List.setIfInBounds_toArray, List.set_cons_zero, List.set_cons_succ]
  refine wpAnyH_take (i := 4) (v := ?_) rfl (by kernel_rfl) (by kernel_rfl) (by kernel_rfl) (fun _ _ _ h => h) (Or.inl ⟨by rfl, ?_⟩) (by exact hS9 _ hk0) ?_
  rotate_left
  focus
    intro U hU
    try dsimp only at hU
    go_simp
    try (with_reducible rfl)
  simp only [List.getElem_toArray, List.getElem_cons_succ, List.getElem_cons_zero, Act.put, List.setIfInBounds_toArray, List.set_cons_zero, List.set_cons_succ]
  refine wpAnyH_take (i := 6) (v := ?_) rfl (by kernel_rfl) (by kernel_rfl) (by kernel_rfl) (fun _ _ _ h => h) (Or.inl ⟨by rfl, ?_⟩) (by exact hS9 _ hk0) ?_
  rotate_left
  focus
    intro U hU
    try dsimp only at hU
    go_simp
    try (with_reducible rfl)
  simp only [List.getElem_toArray, List.getElem_cons_succ, List.getElem_cons_zero, Act.put, List.setIfInBounds_toArray, List.set_cons_zero, List.set_cons_succ]
  refine wpAnyH_take (i := 9) (v := ?_) rfl (by kernel_rfl) (by kernel_rfl) (by kernel_rfl) (fun _ _ _ h => h) (Or.inl ⟨by rfl, ?_⟩) (by exact hS9 _ hk0) ?_
  rotate_left
  focus
    intro U hU
    try dsimp only at hU
    go_simp
    try (with_reducible rfl)
  simp only [List.getElem_toArray, List.getElem_cons_succ, List.getElem_cons_zero, Act.put, List.setIfInBounds_toArray, List.set_cons_zero, List.set_cons_succ]
  refine wpAnyH_take (i := 10) (v := ?_) rfl (by kernel_rfl) (by kernel_rfl) (by kernel_rfl) (fun _ _ _ h => h) (Or.inl ⟨by rfl, ?_⟩) (by exact hS9 _ hk0) ?_
  rotate_left
  focus
    intro U hU
    try dsimp only at hU
    go_simp
    try (with_reducible rfl)
  simp only [List.getElem_toArray, List.getElem_cons_succ, List.getElem_cons_zero, Act.put, List.setIfInBounds_toArray, List.set_cons_zero, List.set_cons_succ]
  refine wpAnyH_take (i := 11) (v := ?_) rfl (by kernel_rfl) (by kernel_rfl) (by kernel_rfl) (fun _ _ _ h => h) (Or.inl ⟨by rfl, ?_⟩) (by exact hS9 _ hk0) ?_
  rotate_left
  focus
    intro U hU
    try dsimp only at hU
    go_simp
    try (with_reducible rfl)
  simp only [List.getElem_toArray, List.getElem_cons_succ, List.getElem_cons_zero, Act.put, List.setIfInBounds_toArray, List.set_cons_zero, List.set_cons_succ]
  refine wpAnyH_take (i := 13) (v := ?_) rfl (by kernel_rfl) (by kernel_rfl) (by kernel_rfl) (fun _ _ _ h => h) (Or.inl ⟨by rfl, ?_⟩) (by exact hS9 _ hk0) ?_
  rotate_left
  focus
    intro U hU
    try dsimp only at hU
    go_simp
    try (with_reducible rfl)
  simp only [List.getElem_toArray, List.getElem_cons_succ, List.getElem_cons_zero, Act.put, List.setIfInBounds_toArray, List.set_cons_zero, List.set_cons_succ]
  refine wpAnyH_take (i := 14) (v := ?_) rfl (by kernel_rfl) (by kernel_rfl) (by kernel_rfl) (fun _ _ _ h => h) (Or.inl ⟨by rfl, ?_⟩) (by exact hS9 _ hk0) ?_
  rotate_left
  focus
    intro U hU
    try dsimp only at hU
    go_simp
    try (with_reducible rfl)
  simp only [List.getElem_toArray, List.getElem_cons_succ, List.getElem_cons_zero, Act.put, List.setIfInBounds_toArray, List.set_cons_zero, List.set_cons_succ]
  refine wpAnyH_ready (rs := [1, 5, 12]) (by kernel_rfl) (by simp) ?_
  refine (AllReadyH.cons rfl (fun K hK => ?_) (AllReadyH.cons rfl (fun K hK => ?_) (AllReadyH.cons rfl (fun K hK => ?_) AllReadyH.nil)))
  · skip
    have hbs : Below (World.heap q0).size q0 (World.alloc q0 (.cells #[] 71)) := (Below.refl _ _).alloc (Nat.le_refl _) _
    have HE := hid (own_mono (own_empty q0 71 7) hk0.size)
    replace hk0 := hk0.trans (hbs.mono hk0.size)
    clear hbs
    simp only [List.getElem_toArray, List.getElem_cons_succ, List.getElem_cons_zero]
    go_simp
    refine hK.out _ _ ?_ (fun hHeld2 => ?_)
    focus
      exact hS9 _ hk0
    clear hHeld
    have hHeld := hHeld2
    clear hHeld2 hK K
    try simp only [List.getElem_toArray, List.getElem_cons_succ, List.getElem_cons_zero, Act.put, List.setIfInBounds_toArray, List.set_cons_zero, List.set_cons_succ]
    generalize (World.alloc q0 (.cells #[] 71)) = v1 at *
    generalize (World.heap q0).size = XE at *
    refine wpAnyH_ready (rs := [5, 12]) (by kernel_rfl) (by simp) ?_
    refine (AllReadyH.cons rfl (fun K hK => ?_) (AllReadyH.cons rfl (fun K hK => ?_) AllReadyH.nil))
    · skip
      have hc22 : v1.cell? ⟨g, 22, none⟩ = some (.slice (some ⟨bD, oD, none⟩) x.w.length cd) := by
        have h9 := (HX2.out.keep hk0).1
        simp only [prc] at h9
        exact (pair_cells h9).1.2.2.2.2.2.2.2.2.2.2.2.2.2.2.2.2.2.2.2.2.2.2.1
      simp only [List.getElem_toArray, List.getElem_cons_succ, List.getElem_cons_zero]
      go_simp
      clear hc22
      refine hK.out _ _ ?_ (fun hHeld2 => ?_)
      focus
        exact hS9 _ hk0
      clear hHeld
      have hHeld := hHeld2
      clear hHeld2 hK K
      try simp only [List.getElem_toArray, List.getElem_cons_succ, List.getElem_cons_zero, Act.put, List.setIfInBounds_toArray, List.set_cons_zero, List.set_cons_succ]
      refine wpAnyH_take (i := 7) (v := ?_) rfl (by kernel_rfl) (by kernel_rfl) (by kernel_rfl) (fun _ _ _ h => h) (Or.inl ⟨by rfl, ?_⟩) (by exact hS9 _ hk0) ?_
      rotate_left
      focus
        intro U hU
        try dsimp only at hU
        go_simp
        try (with_reducible rfl)
      simp only [List.getElem_toArray, List.getElem_cons_succ, List.getElem_cons_zero, Act.put, List.setIfInBounds_toArray, List.set_cons_zero, List.set_cons_succ]
      refine wpAnyH_ready (rs := [8, 12]) (by kernel_rfl) (by simp) ?_
      refine (AllReadyH.cons rfl (fun K hK => ?_) (AllReadyH.cons rfl (fun K hK => ?_) AllReadyH.nil))
      · skip
        refine step_append_sl rfl (.tmp 64) (.tmp 70) 56 rfl u2.heap.size 71 Try.underlying56 info_pkt rfl (by omega) rfl HE.out rfl (HTK.out _ hk0) (pkc_one _) (by unfold maxLen; omega) (by omega) hk0.size ?_
        intro vv5 v2 ho5 hb5 hsz5 hk5
        simp only [Nat.zero_add, List.nil_append] at ho5
        obtain ⟨A5, c5, rfl, _⟩ := Sl.of_own ho5
        clear HE
        have HE := hid ho5
        replace hk0 := hk0.trans hb5
        clear hb5 hsz5 hk5 ho5
        simp only [List.getElem_toArray, List.getElem_cons_succ, List.getElem_cons_zero]
        refine hK.out _ _ ?_ (fun hHeld2 => ?_)
        focus
          exact hS9 _ hk0
        clear hHeld
        have hHeld := hHeld2
        clear hHeld2 hK K
        try simp only [List.getElem_toArray, List.getElem_cons_succ, List.getElem_cons_zero, Act.put, List.setIfInBounds_toArray, List.set_cons_zero, List.set_cons_succ]
        refine wpAnyH_ready (rs := [12]) (by kernel_rfl) (by simp) ?_
        refine (AllReadyH.cons rfl (fun K hK => ?_) AllReadyH.nil)
        have hc22 : v2.cell? ⟨g, 22, none⟩ = some (.slice (some ⟨bD, oD, none⟩) x.w.length cd) := by
          have h9 := (HX2.out.keep hk0).1
          simp only [prc] at h9
          exact (pair_cells h9).1.2.2.2.2.2.2.2.2.2.2.2.2.2.2.2.2.2.2.2.2.2.2.1
        simp only [List.getElem_toArray, List.getElem_cons_succ, List.getElem_cons_zero]
        go_simp
        clear hc22
        refine hK.out _ _ ?_ (fun hHeld2 => ?_)
        focus
          exact hS9 _ hk0
        clear hHeld
        have hHeld := hHeld2
        clear hHeld2 hK K
        try simp only [List.getElem_toArray, List.getElem_cons_succ, List.getElem_cons_zero, Act.put, List.setIfInBounds_toArray, List.set_cons_zero, List.set_cons_succ]
        refine wpAnyH_take (i := 15) (v := ?_) rfl (by kernel_rfl) (by kernel_rfl) (by kernel_rfl) (fun _ _ _ h => h) (Or.inl ⟨by rfl, ?_⟩) (by exact hS9 _ hk0) ?_
        rotate_left
        focus
          intro U hU
          try dsimp only at hU
          go_simp
          try (with_reducible rfl)
        simp only [List.getElem_toArray, List.getElem_cons_succ, List.getElem_cons_zero, Act.put, List.setIfInBounds_toArray, List.set_cons_zero, List.set_cons_succ]
        refine wpAnyH_ready (rs := [16]) (by kernel_rfl) (by simp) ?_
        refine (AllReadyH.cons rfl (fun K hK => ?_) AllReadyH.nil)
        refine step_append_sl rfl (.tmp 71) (.tmp 78) 56 rfl u2.heap.size 71 Try.underlying56 info_pkt rfl (by omega) rfl HE.out rfl (HTD.out _ hk0) (pkc_one _) (by unfold maxLen; omega) (by omega) hk0.size ?_
        intro vv6 v3 ho6 hb6 hsz6 hk6
        rw [← gcells_append] at ho6
        obtain ⟨A6, c6, rfl, _⟩ := Sl.of_own ho6
        clear HE
        have HE := hid ho6
        replace hk0 := hk0.trans hb6
        clear hb6 hsz6 hk6 ho6
        simp only [List.getElem_toArray, List.getElem_cons_succ, List.getElem_cons_zero]
        refine hK.out _ _ ?_ (fun hHeld2 => ?_)
        focus
          exact hS9 _ hk0
        clear hHeld
        have hHeld := hHeld2
        clear hHeld2 hK K
        try simp only [List.getElem_toArray, List.getElem_cons_succ, List.getElem_cons_zero, Act.put, List.setIfInBounds_toArray, List.set_cons_zero, List.set_cons_succ]
        refine wpAnyH_take (i := 17) (v := ?_) rfl (by kernel_rfl) (by kernel_rfl) (by kernel_rfl) (fun _ _ _ h => h) (Or.inl ⟨by rfl, ?_⟩) (by exact hS9 _ hk0) ?_
        rotate_left
        focus
          intro U hU
          try dsimp only at hU
          go_simp
          try (with_reducible rfl)
        simp only [List.getElem_toArray, List.getElem_cons_succ, List.getElem_cons_zero, Act.put, List.setIfInBounds_toArray, List.set_cons_zero, List.set_cons_succ]
        refine wpAnyH_take (i := 18) (v := ?_) rfl (by kernel_rfl) (by kernel_rfl) (by kernel_rfl) (fun _ _ _ h => h) (Or.inl ⟨by rfl, ?_⟩) (by exact hS9 _ hk0) ?_
        rotate_left
        focus
          intro U hU
          try dsimp only at hU
          go_simp
          try (with_reducible rfl)
        simp only [List.getElem_toArray, List.getElem_cons_succ, List.getElem_cons_zero, Act.put, List.setIfInBounds_toArray, List.set_cons_zero, List.set_cons_succ]
        have hc22 : v3.cell? ⟨g, 22, none⟩ = some (.slice (some ⟨bD, oD, none⟩) x.w.length cd) := by
          have h9 := (HX2.out.keep hk0).1
          simp only [prc] at h9
          exact (pair_cells h9).1.2.2.2.2.2.2.2.2.2.2.2.2.2.2.2.2.2.2.2.2.2.2.1
        have hF6 : v3.frozen? ⟨g, 22, none⟩ = false := frozen_of_row _ g 22 _ _ (HX2.out.keep hk0).1
        refine wpAnyH_ready (rs := [19]) (by kernel_rfl) (by simp) ?_
        refine (AllReadyH.cons rfl (fun K hK => ?_) AllReadyH.nil)
        simp only [List.getElem_toArray, List.getElem_cons_succ, List.getElem_cons_zero]
        go_simp
        refine hK.out _ _ ?_ (fun hHeld2 => ?_)
        focus
          exact (hS9 _ hk0).setCell (p := ⟨g, 22, none⟩) HX2.out.2.1 _
        clear hHeld
        have hHeld := hHeld2
        clear hHeld2 hK K
        try simp only [List.getElem_toArray, List.getElem_cons_succ, List.getElem_cons_zero, Act.put, List.setIfInBounds_toArray, List.set_cons_zero, List.set_cons_succ]
        refine wpAnyH_done (by kernel_rfl) ?_ _
        clear hHeld hS9 hrun1 hrun2 hw
        have hx9 := (HX2.out.keep hk0).setWay (l := x.w.take k ++ x.w.drop (k + 1)) HNN.out (Mid.of_own (own_mono HE.out HX2.out.2.2.2.2.2.size))
        have hp9 := (Below.heap_setCell v3 ⟨g, 22, none⟩ (.slice A6 (k + (x.w.length - (k + 1))) c6) Pb (blk_ne HX2.out.1 HP2.out (by decide))).trans (keep0 HP2.out hk0)
        have ha9 := (Below.heap_setCell v3 ⟨g, 22, none⟩ (.slice A6 (k + (x.w.length - (k + 1))) c6) Bx (blk_ne HX2.out.1 HA2.out (by decide))).trans (keep0 HA2.out hk0)
        clear hk0 HE HX2 HP2 HA2 HTK HTD hF6 hc22
        go_wp2_with fail
        go_meet
        exact ⟨ha9, hp9, A6, c6, hx9⟩
      · skip
        have hc22 : v1.cell? ⟨g, 22, none⟩ = some (.slice (some ⟨bD, oD, none⟩) x.w.length cd) := by
          have h9 := (HX2.out.keep hk0).1
          simp only [prc] at h9
          exact (pair_cells h9).1.2.2.2.2.2.2.2.2.2.2.2.2.2.2.2.2.2.2.2.2.2.2.1
        simp only [List.getElem_toArray, List.getElem_cons_succ, List.getElem_cons_zero]
        go_simp
        clear hc22
        refine hK.out _ _ ?_ (fun hHeld2 => ?_)
        focus
          exact hS9 _ hk0
        clear hHeld
        have hHeld := hHeld2
        clear hHeld2 hK K
        try simp only [List.getElem_toArray, List.getElem_cons_succ, List.getElem_cons_zero, Act.put, List.setIfInBounds_toArray, List.set_cons_zero, List.set_cons_succ]
        refine wpAnyH_take (i := 15) (v := ?_) rfl (by kernel_rfl) (by kernel_rfl) (by kernel_rfl) (fun _ _ _ h => h) (Or.inl ⟨by rfl, ?_⟩) (by exact hS9 _ hk0) ?_
        rotate_left
        focus
          intro U hU
          try dsimp only at hU
          go_simp
          try (with_reducible rfl)
        simp only [List.getElem_toArray, List.getElem_cons_succ, List.getElem_cons_zero, Act.put, List.setIfInBounds_toArray, List.set_cons_zero, List.set_cons_succ]
        refine wpAnyH_ready (rs := [8]) (by kernel_rfl) (by simp) ?_
        refine (AllReadyH.cons rfl (fun K hK => ?_) AllReadyH.nil)
        refine step_append_sl rfl (.tmp 64) (.tmp 70) 56 rfl u2.heap.size 71 Try.underlying56 info_pkt rfl (by omega) rfl HE.out rfl (HTK.out _ hk0) (pkc_one _) (by unfold maxLen; omega) (by omega) hk0.size ?_
        intro vv5 v4 ho5 hb5 hsz5 hk5
        simp only [Nat.zero_add, List.nil_append] at ho5
        obtain ⟨A5, c5, rfl, _⟩ := Sl.of_own ho5
        clear HE
        have HE := hid ho5
        replace hk0 := hk0.trans hb5
        clear hb5 hsz5 hk5 ho5
        simp only [List.getElem_toArray, List.getElem_cons_succ, List.getElem_cons_zero]
        refine hK.out _ _ ?_ (fun hHeld2 => ?_)
        focus
          exact hS9 _ hk0
        clear hHeld
        have hHeld := hHeld2
        clear hHeld2 hK K
        try simp only [List.getElem_toArray, List.getElem_cons_succ, List.getElem_cons_zero, Act.put, List.setIfInBounds_toArray, List.set_cons_zero, List.set_cons_succ]
        refine wpAnyH_ready (rs := [16]) (by kernel_rfl) (by simp) ?_
        refine (AllReadyH.cons rfl (fun K hK => ?_) AllReadyH.nil)
        refine step_append_sl rfl (.tmp 71) (.tmp 78) 56 rfl u2.heap.size 71 Try.underlying56 info_pkt rfl (by omega) rfl HE.out rfl (HTD.out _ hk0) (pkc_one _) (by unfold maxLen; omega) (by omega) hk0.size ?_
        intro vv6 v5 ho6 hb6 hsz6 hk6
        rw [← gcells_append] at ho6
        obtain ⟨A6, c6, rfl, _⟩ := Sl.of_own ho6
        clear HE
        have HE := hid ho6
        replace hk0 := hk0.trans hb6
        clear hb6 hsz6 hk6 ho6
        simp only [List.getElem_toArray, List.getElem_cons_succ, List.getElem_cons_zero]
        refine hK.out _ _ ?_ (fun hHeld2 => ?_)
        focus
          exact hS9 _ hk0
        clear hHeld
        have hHeld := hHeld2
        clear hHeld2 hK K
        try simp only [List.getElem_toArray, List.getElem_cons_succ, List.getElem_cons_zero, Act.put, List.setIfInBounds_toArray, List.set_cons_zero, List.set_cons_succ]
        refine wpAnyH_take (i := 17) (v := ?_) rfl (by kernel_rfl) (by kernel_rfl) (by kernel_rfl) (fun _ _ _ h => h) (Or.inl ⟨by rfl, ?_⟩) (by exact hS9 _ hk0) ?_
        rotate_left
        focus
          intro U hU
          try dsimp only at hU
          go_simp
          try (with_reducible rfl)
        simp only [List.getElem_toArray, List.getElem_cons_succ, List.getElem_cons_zero, Act.put, List.setIfInBounds_toArray, List.set_cons_zero, List.set_cons_succ]
        refine wpAnyH_take (i := 18) (v := ?_) rfl (by kernel_rfl) (by kernel_rfl) (by kernel_rfl) (fun _ _ _ h => h) (Or.inl ⟨by rfl, ?_⟩) (by exact hS9 _ hk0) ?_
        rotate_left
        focus
          intro U hU
          try dsimp only at hU
          go_simp
          try (with_reducible rfl)
        simp only [List.getElem_toArray, List.getElem_cons_succ, List.getElem_cons_zero, Act.put, List.setIfInBounds_toArray, List.set_cons_zero, List.set_cons_succ]
        have hc22 : v5.cell? ⟨g, 22, none⟩ = some (.slice (some ⟨bD, oD, none⟩) x.w.length cd) := by
          have h9 := (HX2.out.keep hk0).1
          simp only [prc] at h9
          exact (pair_cells h9).1.2.2.2.2.2.2.2.2.2.2.2.2.2.2.2.2.2.2.2.2.2.2.1
        have hF6 : v5.frozen? ⟨g, 22, none⟩ = false := frozen_of_row _ g 22 _ _ (HX2.out.keep hk0).1
        refine wpAnyH_ready (rs := [19]) (by kernel_rfl) (by simp) ?_
        refine (AllReadyH.cons rfl (fun K hK => ?_) AllReadyH.nil)
        simp only [List.getElem_toArray, List.getElem_cons_succ, List.getElem_cons_zero]
        go_simp
        refine hK.out _ _ ?_ (fun hHeld2 => ?_)
        focus
          exact (hS9 _ hk0).setCell (p := ⟨g, 22, none⟩) HX2.out.2.1 _
        clear hHeld
        have hHeld := hHeld2
        clear hHeld2 hK K
        try simp only [List.getElem_toArray, List.getElem_cons_succ, List.getElem_cons_zero, Act.put, List.setIfInBounds_toArray, List.set_cons_zero, List.set_cons_succ]
        refine wpAnyH_done (by kernel_rfl) ?_ _
        clear hHeld hS9 hrun1 hrun2 hw
        have hx9 := (HX2.out.keep hk0).setWay (l := x.w.take k ++ x.w.drop (k + 1)) HNN.out (Mid.of_own (own_mono HE.out HX2.out.2.2.2.2.2.size))
        have hp9 := (Below.heap_setCell v5 ⟨g, 22, none⟩ (.slice A6 (k + (x.w.length - (k + 1))) c6) Pb (blk_ne HX2.out.1 HP2.out (by decide))).trans (keep0 HP2.out hk0)
        have ha9 := (Below.heap_setCell v5 ⟨g, 22, none⟩ (.slice A6 (k + (x.w.length - (k + 1))) c6) Bx (blk_ne HX2.out.1 HA2.out (by decide))).trans (keep0 HA2.out hk0)
        clear hk0 HE HX2 HP2 HA2 HTK HTD hF6 hc22
        go_wp2_with fail
        go_meet
        exact ⟨ha9, hp9, A6, c6, hx9⟩
    · skip
      have hc22 : v1.cell? ⟨g, 22, none⟩ = some (.slice (some ⟨bD, oD, none⟩) x.w.length cd) := by
        have h9 := (HX2.out.keep hk0).1
        simp only [prc] at h9
        exact (pair_cells h9).1.2.2.2.2.2.2.2.2.2.2.2.2.2.2.2.2.2.2.2.2.2.2.1
      simp only [List.getElem_toArray, List.getElem_cons_succ, List.getElem_cons_zero]
      go_simp
      clear hc22
      refine hK.out _ _ ?_ (fun hHeld2 => ?_)
      focus
        exact hS9 _ hk0
      clear hHeld
      have hHeld := hHeld2
      clear hHeld2 hK K
      try simp only [List.getElem_toArray, List.getElem_cons_succ, List.getElem_cons_zero, Act.put, List.setIfInBounds_toArray, List.set_cons_zero, List.set_cons_succ]
      refine wpAnyH_take (i := 15) (v := ?_) rfl (by kernel_rfl) (by kernel_rfl) (by kernel_rfl) (fun _ _ _ h => h) (Or.inl ⟨by rfl, ?_⟩) (by exact hS9 _ hk0) ?_
      rotate_left
      focus
        intro U hU
        try dsimp only at hU
        go_simp
        try (with_reducible rfl)
      simp only [List.getElem_toArray, List.getElem_cons_succ, List.getElem_cons_zero, Act.put, List.setIfInBounds_toArray, List.set_cons_zero, List.set_cons_succ]
      refine wpAnyH_ready (rs := [5]) (by kernel_rfl) (by simp) ?_
      refine (AllReadyH.cons rfl (fun K hK => ?_) AllReadyH.nil)
      have hc22 : v1.cell? ⟨g, 22, none⟩ = some (.slice (some ⟨bD, oD, none⟩) x.w.length cd) := by
        have h9 := (HX2.out.keep hk0).1
        simp only [prc] at h9
        exact (pair_cells h9).1.2.2.2.2.2.2.2.2.2.2.2.2.2.2.2.2.2.2.2.2.2.2.1
      simp only [List.getElem_toArray, List.getElem_cons_succ, List.getElem_cons_zero]
      go_simp
      clear hc22
      refine hK.out _ _ ?_ (fun hHeld2 => ?_)
      focus
        exact hS9 _ hk0
      clear hHeld
      have hHeld := hHeld2
      clear hHeld2 hK K
      try simp only [List.getElem_toArray, List.getElem_cons_succ, List.getElem_cons_zero, Act.put, List.setIfInBounds_toArray, List.set_cons_zero, List.set_cons_succ]
      refine wpAnyH_take (i := 7) (v := ?_) rfl (by kernel_rfl) (by kernel_rfl) (by kernel_rfl) (fun _ _ _ h => h) (Or.inl ⟨by rfl, ?_⟩) (by exact hS9 _ hk0) ?_
      rotate_left
      focus
        intro U hU
        try dsimp only at hU
        go_simp
        try (with_reducible rfl)
      simp only [List.getElem_toArray, List.getElem_cons_succ, List.getElem_cons_zero, Act.put, List.setIfInBounds_toArray, List.set_cons_zero, List.set_cons_succ]
      refine wpAnyH_ready (rs := [8]) (by kernel_rfl) (by simp) ?_
      refine (AllReadyH.cons rfl (fun K hK => ?_) AllReadyH.nil)
      refine step_append_sl rfl (.tmp 64) (.tmp 70) 56 rfl u2.heap.size 71 Try.underlying56 info_pkt rfl (by omega) rfl HE.out rfl (HTK.out _ hk0) (pkc_one _) (by unfold maxLen; omega) (by omega) hk0.size ?_
      intro vv5 v6 ho5 hb5 hsz5 hk5
      simp only [Nat.zero_add, List.nil_append] at ho5
      obtain ⟨A5, c5, rfl, _⟩ := Sl.of_own ho5
      clear HE
      have HE := hid ho5
      replace hk0 := hk0.trans hb5
      clear hb5 hsz5 hk5 ho5
      simp only [List.getElem_toArray, List.getElem_cons_succ, List.getElem_cons_zero]
      refine hK.out _ _ ?_ (fun hHeld2 => ?_)
      focus
        exact hS9 _ hk0
      clear hHeld
      have hHeld := hHeld2
      clear hHeld2 hK K
      try simp only [List.getElem_toArray, List.getElem_cons_succ, List.getElem_cons_zero, Act.put, List.setIfInBounds_toArray, List.set_cons_zero, List.set_cons_succ]
      refine wpAnyH_ready (rs := [16]) (by kernel_rfl) (by simp) ?_
      refine (AllReadyH.cons rfl (fun K hK => ?_) AllReadyH.nil)
      refine step_append_sl rfl (.tmp 71) (.tmp 78) 56 rfl u2.heap.size 71 Try.underlying56 info_pkt rfl (by omega) rfl HE.out rfl (HTD.out _ hk0) (pkc_one _) (by unfold maxLen; omega) (by omega) hk0.size ?_
      intro vv6 v7 ho6 hb6 hsz6 hk6
      rw [← gcells_append] at ho6
      obtain ⟨A6, c6, rfl, _⟩ := Sl.of_own ho6
      clear HE
      have HE := hid ho6
      replace hk0 := hk0.trans hb6
      clear hb6 hsz6 hk6 ho6
      simp only [List.getElem_toArray, List.getElem_cons_succ, List.getElem_cons_zero]
      refine hK.out _ _ ?_ (fun hHeld2 => ?_)
      focus
        exact hS9 _ hk0
      clear hHeld
      have hHeld := hHeld2
      clear hHeld2 hK K
      try simp only [List.getElem_toArray, List.getElem_cons_succ, List.getElem_cons_zero, Act.put, List.setIfInBounds_toArray, List.set_cons_zero, List.set_cons_succ]
      refine wpAnyH_take (i := 17) (v := ?_) rfl (by kernel_rfl) (by kernel_rfl) (by kernel_rfl) (fun _ _ _ h => h) (Or.inl ⟨by rfl, ?_⟩) (by exact hS9 _ hk0) ?_
      rotate_left
      focus
        intro U hU
        try dsimp only at hU
        go_simp
        try (with_reducible rfl)
      simp only [List.getElem_toArray, List.getElem_cons_succ, List.getElem_cons_zero, Act.put, List.setIfInBounds_toArray, List.set_cons_zero, List.set_cons_succ]
      refine wpAnyH_take (i := 18) (v := ?_) rfl (by kernel_rfl) (by kernel_rfl) (by kernel_rfl) (fun _ _ _ h => h) (Or.inl ⟨by rfl, ?_⟩) (by exact hS9 _ hk0) ?_
      rotate_left
      focus
        intro U hU
        try dsimp only at hU
        go_simp
        try (with_reducible rfl)
      simp only [List.getElem_toArray, List.getElem_cons_succ, List.getElem_cons_zero, Act.put, List.setIfInBounds_toArray, List.set_cons_zero, List.set_cons_succ]
      have hc22 : v7.cell? ⟨g, 22, none⟩ = some (.slice (some ⟨bD, oD, none⟩) x.w.length cd) := by
        have h9 := (HX2.out.keep hk0).1
        simp only [prc] at h9
        exact (pair_cells h9).1.2.2.2.2.2.2.2.2.2.2.2.2.2.2.2.2.2.2.2.2.2.2.1
      have hF6 : v7.frozen? ⟨g, 22, none⟩ = false := frozen_of_row _ g 22 _ _ (HX2.out.keep hk0).1
      refine wpAnyH_ready (rs := [19]) (by kernel_rfl) (by simp) ?_
      refine (AllReadyH.cons rfl (fun K hK => ?_) AllReadyH.nil)
      simp only [List.getElem_toArray, List.getElem_cons_succ, List.getElem_cons_zero]
      go_simp
      refine hK.out _ _ ?_ (fun hHeld2 => ?_)
      focus
        exact (hS9 _ hk0).setCell (p := ⟨g, 22, none⟩) HX2.out.2.1 _
      clear hHeld
      have hHeld := hHeld2
      clear hHeld2 hK K
      try simp only [List.getElem_toArray, List.getElem_cons_succ, List.getElem_cons_zero, Act.put, List.setIfInBounds_toArray, List.set_cons_zero, List.set_cons_succ]
      refine wpAnyH_done (by kernel_rfl) ?_ _
      clear hHeld hS9 hrun1 hrun2 hw
      have hx9 := (HX2.out.keep hk0).setWay (l := x.w.take k ++ x.w.drop (k + 1)) HNN.out (Mid.of_own (own_mono HE.out HX2.out.2.2.2.2.2.size))
      have hp9 := (Below.heap_setCell v7 ⟨g, 22, none⟩ (.slice A6 (k + (x.w.length - (k + 1))) c6) Pb (blk_ne HX2.out.1 HP2.out (by decide))).trans (keep0 HP2.out hk0)
      have ha9 := (Below.heap_setCell v7 ⟨g, 22, none⟩ (.slice A6 (k + (x.w.length - (k + 1))) c6) Bx (blk_ne HX2.out.1 HA2.out (by decide))).trans (keep0 HA2.out hk0)
      clear hk0 HE HX2 HP2 HA2 HTK HTD hF6 hc22
      go_wp2_with fail
      go_meet
      exact ⟨ha9, hp9, A6, c6, hx9⟩
  · skip
    have hc22 : q0.cell? ⟨g, 22, none⟩ = some (.slice (some ⟨bD, oD, none⟩) x.w.length cd) := by
      have h9 := (HX2.out.keep hk0).1
      simp only [prc] at h9
      exact (pair_cells h9).1.2.2.2.2.2.2.2.2.2.2.2.2.2.2.2.2.2.2.2.2.2.2.1
    simp only [List.getElem_toArray, List.getElem_cons_succ, List.getElem_cons_zero]
    go_simp
    clear hc22
    refine hK.out _ _ ?_ (fun hHeld2 => ?_)
    focus
      exact hS9 _ hk0
    clear hHeld
    have hHeld := hHeld2
    clear hHeld2 hK K
    try simp only [List.getElem_toArray, List.getElem_cons_succ, List.getElem_cons_zero, Act.put, List.setIfInBounds_toArray, List.set_cons_zero, List.set_cons_succ]
    refine wpAnyH_take (i := 7) (v := ?_) rfl (by kernel_rfl) (by kernel_rfl) (by kernel_rfl) (fun _ _ _ h => h) (Or.inl ⟨by rfl, ?_⟩) (by exact hS9 _ hk0) ?_
    rotate_left
    focus
      intro U hU
      try dsimp only at hU
      go_simp
      try (with_reducible rfl)
    simp only [List.getElem_toArray, List.getElem_cons_succ, List.getElem_cons_zero, Act.put, List.setIfInBounds_toArray, List.set_cons_zero, List.set_cons_succ]
    refine wpAnyH_ready (rs := [1, 12]) (by kernel_rfl) (by simp) ?_
    refine (AllReadyH.cons rfl (fun K hK => ?_) (AllReadyH.cons rfl (fun K hK => ?_) AllReadyH.nil))
    · skip
      have hbs : Below (World.heap q0).size q0 (World.alloc q0 (.cells #[] 71)) := (Below.refl _ _).alloc (Nat.le_refl _) _
      have HE := hid (own_mono (own_empty q0 71 7) hk0.size)
      replace hk0 := hk0.trans (hbs.mono hk0.size)
      clear hbs
      simp only [List.getElem_toArray, List.getElem_cons_succ, List.getElem_cons_zero]
      go_simp
      refine hK.out _ _ ?_ (fun hHeld2 => ?_)
      focus
        exact hS9 _ hk0
      clear hHeld
      have hHeld := hHeld2
      clear hHeld2 hK K
      try simp only [List.getElem_toArray, List.getElem_cons_succ, List.getElem_cons_zero, Act.put, List.setIfInBounds_toArray, List.set_cons_zero, List.set_cons_succ]
      generalize (World.alloc q0 (.cells #[] 71)) = v8 at *
      generalize (World.heap q0).size = XE at *
      refine wpAnyH_ready (rs := [8, 12]) (by kernel_rfl) (by simp) ?_
      refine (AllReadyH.cons rfl (fun K hK => ?_) (AllReadyH.cons rfl (fun K hK => ?_) AllReadyH.nil))
      · skip
        refine step_append_sl rfl (.tmp 64) (.tmp 70) 56 rfl u2.heap.size 71 Try.underlying56 info_pkt rfl (by omega) rfl HE.out rfl (HTK.out _ hk0) (pkc_one _) (by unfold maxLen; omega) (by omega) hk0.size ?_
        intro vv5 v9 ho5 hb5 hsz5 hk5
        simp only [Nat.zero_add, List.nil_append] at ho5
        obtain ⟨A5, c5, rfl, _⟩ := Sl.of_own ho5
        clear HE
        have HE := hid ho5
        replace hk0 := hk0.trans hb5
        clear hb5 hsz5 hk5 ho5
        simp only [List.getElem_toArray, List.getElem_cons_succ, List.getElem_cons_zero]
        refine hK.out _ _ ?_ (fun hHeld2 => ?_)
        focus
          exact hS9 _ hk0
        clear hHeld
        have hHeld := hHeld2
        clear hHeld2 hK K
        try simp only [List.getElem_toArray, List.getElem_cons_succ, List.getElem_cons_zero, Act.put, List.setIfInBounds_toArray, List.set_cons_zero, List.set_cons_succ]
        refine wpAnyH_ready (rs := [12]) (by kernel_rfl) (by simp) ?_
        refine (AllReadyH.cons rfl (fun K hK => ?_) AllReadyH.nil)
        have hc22 : v9.cell? ⟨g, 22, none⟩ = some (.slice (some ⟨bD, oD, none⟩) x.w.length cd) := by
          have h9 := (HX2.out.keep hk0).1
          simp only [prc] at h9
          exact (pair_cells h9).1.2.2.2.2.2.2.2.2.2.2.2.2.2.2.2.2.2.2.2.2.2.2.1
        simp only [List.getElem_toArray, List.getElem_cons_succ, List.getElem_cons_zero]
        go_simp
        clear hc22
        refine hK.out _ _ ?_ (fun hHeld2 => ?_)
        focus
          exact hS9 _ hk0
        clear hHeld
        have hHeld := hHeld2
        clear hHeld2 hK K
        try simp only [List.getElem_toArray, List.getElem_cons_succ, List.getElem_cons_zero, Act.put, List.setIfInBounds_toArray, List.set_cons_zero, List.set_cons_succ]
        refine wpAnyH_take (i := 15) (v := ?_) rfl (by kernel_rfl) (by kernel_rfl) (by kernel_rfl) (fun _ _ _ h => h) (Or.inl ⟨by rfl, ?_⟩) (by exact hS9 _ hk0) ?_
        rotate_left
        focus
          intro U hU
          try dsimp only at hU
          go_simp
          try (with_reducible rfl)
        simp only [List.getElem_toArray, List.getElem_cons_succ, List.getElem_cons_zero, Act.put, List.setIfInBounds_toArray, List.set_cons_zero, List.set_cons_succ]
        refine wpAnyH_ready (rs := [16]) (by kernel_rfl) (by simp) ?_
        refine (AllReadyH.cons rfl (fun K hK => ?_) AllReadyH.nil)
        refine step_append_sl rfl (.tmp 71) (.tmp 78) 56 rfl u2.heap.size 71 Try.underlying56 info_pkt rfl (by omega) rfl HE.out rfl (HTD.out _ hk0) (pkc_one _) (by unfold maxLen; omega) (by omega) hk0.size ?_
        intro vv6 v10 ho6 hb6 hsz6 hk6
        rw [← gcells_append] at ho6
        obtain ⟨A6, c6, rfl, _⟩ := Sl.of_own ho6
        clear HE
        have HE := hid ho6
        replace hk0 := hk0.trans hb6
        clear hb6 hsz6 hk6 ho6
        simp only [List.getElem_toArray, List.getElem_cons_succ, List.getElem_cons_zero]
        refine hK.out _ _ ?_ (fun hHeld2 => ?_)
        focus
          exact hS9 _ hk0
        clear hHeld
        have hHeld := hHeld2
        clear hHeld2 hK K
        try simp only [List.getElem_toArray, List.getElem_cons_succ, List.getElem_cons_zero, Act.put, List.setIfInBounds_toArray, List.set_cons_zero, List.set_cons_succ]
        refine wpAnyH_take (i := 17) (v := ?_) rfl (by kernel_rfl) (by kernel_rfl) (by kernel_rfl) (fun _ _ _ h => h) (Or.inl ⟨by rfl, ?_⟩) (by exact hS9 _ hk0) ?_
        rotate_left
        focus
          intro U hU
          try dsimp only at hU
          go_simp
          try (with_reducible rfl)
        simp only [List.getElem_toArray, List.getElem_cons_succ, List.getElem_cons_zero, Act.put, List.setIfInBounds_toArray, List.set_cons_zero, List.set_cons_succ]
        refine wpAnyH_take (i := 18) (v := ?_) rfl (by kernel_rfl) (by kernel_rfl) (by kernel_rfl) (fun _ _ _ h => h) (Or.inl ⟨by rfl, ?_⟩) (by exact hS9 _ hk0) ?_
        rotate_left
        focus
          intro U hU
          try dsimp only at hU
          go_simp
          try (with_reducible rfl)
        simp only [List.getElem_toArray, List.getElem_cons_succ, List.getElem_cons_zero, Act.put, List.setIfInBounds_toArray, List.set_cons_zero, List.set_cons_succ]
        have hc22 : v10.cell? ⟨g, 22, none⟩ = some (.slice (some ⟨bD, oD, none⟩) x.w.length cd) := by
          have h9 := (HX2.out.keep hk0).1
          simp only [prc] at h9
          exact (pair_cells h9).1.2.2.2.2.2.2.2.2.2.2.2.2.2.2.2.2.2.2.2.2.2.2.1
        have hF6 : v10.frozen? ⟨g, 22, none⟩ = false := frozen_of_row _ g 22 _ _ (HX2.out.keep hk0).1
        refine wpAnyH_ready (rs := [19]) (by kernel_rfl) (by simp) ?_
        refine (AllReadyH.cons rfl (fun K hK => ?_) AllReadyH.nil)
        simp only [List.getElem_toArray, List.getElem_cons_succ, List.getElem_cons_zero]
        go_simp
        refine hK.out _ _ ?_ (fun hHeld2 => ?_)
        focus
          exact (hS9 _ hk0).setCell (p := ⟨g, 22, none⟩) HX2.out.2.1 _
        clear hHeld
        have hHeld := hHeld2
        clear hHeld2 hK K
        try simp only [List.getElem_toArray, List.getElem_cons_succ, List.getElem_cons_zero, Act.put, List.setIfInBounds_toArray, List.set_cons_zero, List.set_cons_succ]
        refine wpAnyH_done (by kernel_rfl) ?_ _
        clear hHeld hS9 hrun1 hrun2 hw
        have hx9 := (HX2.out.keep hk0).setWay (l := x.w.take k ++ x.w.drop (k + 1)) HNN.out (Mid.of_own (own_mono HE.out HX2.out.2.2.2.2.2.size))
        have hp9 := (Below.heap_setCell v10 ⟨g, 22, none⟩ (.slice A6 (k + (x.w.length - (k + 1))) c6) Pb (blk_ne HX2.out.1 HP2.out (by decide))).trans (keep0 HP2.out hk0)
        have ha9 := (Below.heap_setCell v10 ⟨g, 22, none⟩ (.slice A6 (k + (x.w.length - (k + 1))) c6) Bx (blk_ne HX2.out.1 HA2.out (by decide))).trans (keep0 HA2.out hk0)
        clear hk0 HE HX2 HP2 HA2 HTK HTD hF6 hc22
        go_wp2_with fail
        go_meet
        exact ⟨ha9, hp9, A6, c6, hx9⟩
      · skip
        have hc22 : v8.cell? ⟨g, 22, none⟩ = some (.slice (some ⟨bD, oD, none⟩) x.w.length cd) := by
          have h9 := (HX2.out.keep hk0).1
          simp only [prc] at h9
          exact (pair_cells h9).1.2.2.2.2.2.2.2.2.2.2.2.2.2.2.2.2.2.2.2.2.2.2.1
        simp only [List.getElem_toArray, List.getElem_cons_succ, List.getElem_cons_zero]
        go_simp
        clear hc22
        refine hK.out _ _ ?_ (fun hHeld2 => ?_)
        focus
          exact hS9 _ hk0
        clear hHeld
        have hHeld := hHeld2
        clear hHeld2 hK K
        try simp only [List.getElem_toArray, List.getElem_cons_succ, List.getElem_cons_zero, Act.put, List.setIfInBounds_toArray, List.set_cons_zero, List.set_cons_succ]
        refine wpAnyH_take (i := 15) (v := ?_) rfl (by kernel_rfl) (by kernel_rfl) (by kernel_rfl) (fun _ _ _ h => h) (Or.inl ⟨by rfl, ?_⟩) (by exact hS9 _ hk0) ?_
        rotate_left
        focus
          intro U hU
          try dsimp only at hU
          go_simp
          try (with_reducible rfl)
        simp only [List.getElem_toArray, List.getElem_cons_succ, List.getElem_cons_zero, Act.put, List.setIfInBounds_toArray, List.set_cons_zero, List.set_cons_succ]
        refine wpAnyH_ready (rs := [8]) (by kernel_rfl) (by simp) ?_
        refine (AllReadyH.cons rfl (fun K hK => ?_) AllReadyH.nil)
        refine step_append_sl rfl (.tmp 64) (.tmp 70) 56 rfl u2.heap.size 71 Try.underlying56 info_pkt rfl (by omega) rfl HE.out rfl (HTK.out _ hk0) (pkc_one _) (by unfold maxLen; omega) (by omega) hk0.size ?_
        intro vv5 v11 ho5 hb5 hsz5 hk5
        simp only [Nat.zero_add, List.nil_append] at ho5
        obtain ⟨A5, c5, rfl, _⟩ := Sl.of_own ho5
        clear HE
        have HE := hid ho5
        replace hk0 := hk0.trans hb5
        clear hb5 hsz5 hk5 ho5
        simp only [List.getElem_toArray, List.getElem_cons_succ, List.getElem_cons_zero]
        refine hK.out _ _ ?_ (fun hHeld2 => ?_)
        focus
          exact hS9 _ hk0
        clear hHeld
        have hHeld := hHeld2
        clear hHeld2 hK K
        try simp only [List.getElem_toArray, List.getElem_cons_succ, List.getElem_cons_zero, Act.put, List.setIfInBounds_toArray, List.set_cons_zero, List.set_cons_succ]
        refine wpAnyH_ready (rs := [16]) (by kernel_rfl) (by simp) ?_
        refine (AllReadyH.cons rfl (fun K hK => ?_) AllReadyH.nil)
        refine step_append_sl rfl (.tmp 71) (.tmp 78) 56 rfl u2.heap.size 71 Try.underlying56 info_pkt rfl (by omega) rfl HE.out rfl (HTD.out _ hk0) (pkc_one _) (by unfold maxLen; omega) (by omega) hk0.size ?_
        intro vv6 v12 ho6 hb6 hsz6 hk6
        rw [← gcells_append] at ho6
        obtain ⟨A6, c6, rfl, _⟩ := Sl.of_own ho6
        clear HE
        have HE := hid ho6
        replace hk0 := hk0.trans hb6
        clear hb6 hsz6 hk6 ho6
        simp only [List.getElem_toArray, List.getElem_cons_succ, List.getElem_cons_zero]
        refine hK.out _ _ ?_ (fun hHeld2 => ?_)
        focus
          exact hS9 _ hk0
        clear hHeld
        have hHeld := hHeld2
        clear hHeld2 hK K
        try simp only [List.getElem_toArray, List.getElem_cons_succ, List.getElem_cons_zero, Act.put, List.setIfInBounds_toArray, List.set_cons_zero, List.set_cons_succ]
        refine wpAnyH_take (i := 17) (v := ?_) rfl (by kernel_rfl) (by kernel_rfl) (by kernel_rfl) (fun _ _ _ h => h) (Or.inl ⟨by rfl, ?_⟩) (by exact hS9 _ hk0) ?_
        rotate_left
        focus
          intro U hU
          try dsimp only at hU
          go_simp
          try (with_reducible rfl)
        simp only [List.getElem_toArray, List.getElem_cons_succ, List.getElem_cons_zero, Act.put, List.setIfInBounds_toArray, List.set_cons_zero, List.set_cons_succ]
        refine wpAnyH_take (i := 18) (v := ?_) rfl (by kernel_rfl) (by kernel_rfl) (by kernel_rfl) (fun _ _ _ h => h) (Or.inl ⟨by rfl, ?_⟩) (by exact hS9 _ hk0) ?_
        rotate_left
        focus
          intro U hU
          try dsimp only at hU
          go_simp
          try (with_reducible rfl)
        simp only [List.getElem_toArray, List.getElem_cons_succ, List.getElem_cons_zero, Act.put, List.setIfInBounds_toArray, List.set_cons_zero, List.set_cons_succ]
        have hc22 : v12.cell? ⟨g, 22, none⟩ = some (.slice (some ⟨bD, oD, none⟩) x.w.length cd) := by
          have h9 := (HX2.out.keep hk0).1
          simp only [prc] at h9
          exact (pair_cells h9).1.2.2.2.2.2.2.2.2.2.2.2.2.2.2.2.2.2.2.2.2.2.2.1
        have hF6 : v12.frozen? ⟨g, 22, none⟩ = false := frozen_of_row _ g 22 _ _ (HX2.out.keep hk0).1
        refine wpAnyH_ready (rs := [19]) (by kernel_rfl) (by simp) ?_
        refine (AllReadyH.cons rfl (fun K hK => ?_) AllReadyH.nil)
        simp only [List.getElem_toArray, List.getElem_cons_succ, List.getElem_cons_zero]
        go_simp
        refine hK.out _ _ ?_ (fun hHeld2 => ?_)
        focus
          exact (hS9 _ hk0).setCell (p := ⟨g, 22, none⟩) HX2.out.2.1 _
        clear hHeld
        have hHeld := hHeld2
        clear hHeld2 hK K
        try simp only [List.getElem_toArray, List.getElem_cons_succ, List.getElem_cons_zero, Act.put, List.setIfInBounds_toArray, List.set_cons_zero, List.set_cons_succ]
        refine wpAnyH_done (by kernel_rfl) ?_ _
        clear hHeld hS9 hrun1 hrun2 hw
        have hx9 := (HX2.out.keep hk0).setWay (l := x.w.take k ++ x.w.drop (k + 1)) HNN.out (Mid.of_own (own_mono HE.out HX2.out.2.2.2.2.2.size))
        have hp9 := (Below.heap_setCell v12 ⟨g, 22, none⟩ (.slice A6 (k + (x.w.length - (k + 1))) c6) Pb (blk_ne HX2.out.1 HP2.out (by decide))).trans (keep0 HP2.out hk0)
        have ha9 := (Below.heap_setCell v12 ⟨g, 22, none⟩ (.slice A6 (k + (x.w.length - (k + 1))) c6) Bx (blk_ne HX2.out.1 HA2.out (by decide))).trans (keep0 HA2.out hk0)
        clear hk0 HE HX2 HP2 HA2 HTK HTD hF6 hc22
        go_wp2_with fail
        go_meet
        exact ⟨ha9, hp9, A6, c6, hx9⟩
    · skip
      have hc22 : q0.cell? ⟨g, 22, none⟩ = some (.slice (some ⟨bD, oD, none⟩) x.w.length cd) := by
        have h9 := (HX2.out.keep hk0).1
        simp only [prc] at h9
        exact (pair_cells h9).1.2.2.2.2.2.2.2.2.2.2.2.2.2.2.2.2.2.2.2.2.2.2.1
      simp only [List.getElem_toArray, List.getElem_cons_succ, List.getElem_cons_zero]
      go_simp
      clear hc22
      refine hK.out _ _ ?_ (fun hHeld2 => ?_)
      focus
        exact hS9 _ hk0
      clear hHeld
      have hHeld := hHeld2
      clear hHeld2 hK K
      try simp only [List.getElem_toArray, List.getElem_cons_succ, List.getElem_cons_zero, Act.put, List.setIfInBounds_toArray, List.set_cons_zero, List.set_cons_succ]
      refine wpAnyH_take (i := 15) (v := ?_) rfl (by kernel_rfl) (by kernel_rfl) (by kernel_rfl) (fun _ _ _ h => h) (Or.inl ⟨by rfl, ?_⟩) (by exact hS9 _ hk0) ?_
      rotate_left
      focus
        intro U hU
        try dsimp only at hU
        go_simp
        try (with_reducible rfl)
      simp only [List.getElem_toArray, List.getElem_cons_succ, List.getElem_cons_zero, Act.put, List.setIfInBounds_toArray, List.set_cons_zero, List.set_cons_succ]
      refine wpAnyH_ready (rs := [1]) (by kernel_rfl) (by simp) ?_
      refine (AllReadyH.cons rfl (fun K hK => ?_) AllReadyH.nil)
      have hbs : Below (World.heap q0).size q0 (World.alloc q0 (.cells #[] 71)) := (Below.refl _ _).alloc (Nat.le_refl _) _
      have HE := hid (own_mono (own_empty q0 71 7) hk0.size)
      replace hk0 := hk0.trans (hbs.mono hk0.size)
      clear hbs
      simp only [List.getElem_toArray, List.getElem_cons_succ, List.getElem_cons_zero]
      go_simp
      refine hK.out _ _ ?_ (fun hHeld2 => ?_)
      focus
        exact hS9 _ hk0
      clear hHeld
      have hHeld := hHeld2
      clear hHeld2 hK K
      try simp only [List.getElem_toArray, List.getElem_cons_succ, List.getElem_cons_zero, Act.put, List.setIfInBounds_toArray, List.set_cons_zero, List.set_cons_succ]
      generalize (World.alloc q0 (.cells #[] 71)) = v13 at *
      generalize (World.heap q0).size = XE at *
      refine wpAnyH_ready (rs := [8]) (by kernel_rfl) (by simp) ?_
      refine (AllReadyH.cons rfl (fun K hK => ?_) AllReadyH.nil)
      refine step_append_sl rfl (.tmp 64) (.tmp 70) 56 rfl u2.heap.size 71 Try.underlying56 info_pkt rfl (by omega) rfl HE.out rfl (HTK.out _ hk0) (pkc_one _) (by unfold maxLen; omega) (by omega) hk0.size ?_
      intro vv5 v14 ho5 hb5 hsz5 hk5
      simp only [Nat.zero_add, List.nil_append] at ho5
      obtain ⟨A5, c5, rfl, _⟩ := Sl.of_own ho5
      clear HE
      have HE := hid ho5
      replace hk0 := hk0.trans hb5
      clear hb5 hsz5 hk5 ho5
      simp only [List.getElem_toArray, List.getElem_cons_succ, List.getElem_cons_zero]
      refine hK.out _ _ ?_ (fun hHeld2 => ?_)
      focus
        exact hS9 _ hk0
      clear hHeld
      have hHeld := hHeld2
      clear hHeld2 hK K
      try simp only [List.getElem_toArray, List.getElem_cons_succ, List.getElem_cons_zero, Act.put, List.setIfInBounds_toArray, List.set_cons_zero, List.set_cons_succ]
      refine wpAnyH_ready (rs := [16]) (by kernel_rfl) (by simp) ?_
      refine (AllReadyH.cons rfl (fun K hK => ?_) AllReadyH.nil)
      refine step_append_sl rfl (.tmp 71) (.tmp 78) 56 rfl u2.heap.size 71 Try.underlying56 info_pkt rfl (by omega) rfl HE.out rfl (HTD.out _ hk0) (pkc_one _) (by unfold maxLen; omega) (by omega) hk0.size ?_
      intro vv6 v15 ho6 hb6 hsz6 hk6
      rw [← gcells_append] at ho6
      obtain ⟨A6, c6, rfl, _⟩ := Sl.of_own ho6
      clear HE
      have HE := hid ho6
      replace hk0 := hk0.trans hb6
      clear hb6 hsz6 hk6 ho6
      simp only [List.getElem_toArray, List.getElem_cons_succ, List.getElem_cons_zero]
      refine hK.out _ _ ?_ (fun hHeld2 => ?_)
      focus
        exact hS9 _ hk0
      clear hHeld
      have hHeld := hHeld2
      clear hHeld2 hK K
      try simp only [List.getElem_toArray, List.getElem_cons_succ, List.getElem_cons_zero, Act.put, List.setIfInBounds_toArray, List.set_cons_zero, List.set_cons_succ]
      refine wpAnyH_take (i := 17) (v := ?_) rfl (by kernel_rfl) (by kernel_rfl) (by kernel_rfl) (fun _ _ _ h => h) (Or.inl ⟨by rfl, ?_⟩) (by exact hS9 _ hk0) ?_
      rotate_left
      focus
        intro U hU
        try dsimp only at hU
        go_simp
        try (with_reducible rfl)
      simp only [List.getElem_toArray, List.getElem_cons_succ, List.getElem_cons_zero, Act.put, List.setIfInBounds_toArray, List.set_cons_zero, List.set_cons_succ]
      refine wpAnyH_take (i := 18) (v := ?_) rfl (by kernel_rfl) (by kernel_rfl) (by kernel_rfl) (fun _ _ _ h => h) (Or.inl ⟨by rfl, ?_⟩) (by exact hS9 _ hk0) ?_
      rotate_left
      focus
        intro U hU
        try dsimp only at hU
        go_simp
        try (with_reducible rfl)
      simp only [List.getElem_toArray, List.getElem_cons_succ, List.getElem_cons_zero, Act.put, List.setIfInBounds_toArray, List.set_cons_zero, List.set_cons_succ]
      have hc22 : v15.cell? ⟨g, 22, none⟩ = some (.slice (some ⟨bD, oD, none⟩) x.w.length cd) := by
        have h9 := (HX2.out.keep hk0).1
        simp only [prc] at h9
        exact (pair_cells h9).1.2.2.2.2.2.2.2.2.2.2.2.2.2.2.2.2.2.2.2.2.2.2.1
      have hF6 : v15.frozen? ⟨g, 22, none⟩ = false := frozen_of_row _ g 22 _ _ (HX2.out.keep hk0).1
      refine wpAnyH_ready (rs := [19]) (by kernel_rfl) (by simp) ?_
      refine (AllReadyH.cons rfl (fun K hK => ?_) AllReadyH.nil)
      simp only [List.getElem_toArray, List.getElem_cons_succ, List.getElem_cons_zero]
      go_simp
      refine hK.out _ _ ?_ (fun hHeld2 => ?_)
      focus
        exact (hS9 _ hk0).setCell (p := ⟨g, 22, none⟩) HX2.out.2.1 _
      clear hHeld
      have hHeld := hHeld2
      clear hHeld2 hK K
      try simp only [List.getElem_toArray, List.getElem_cons_succ, List.getElem_cons_zero, Act.put, List.setIfInBounds_toArray, List.set_cons_zero, List.set_cons_succ]
      refine wpAnyH_done (by kernel_rfl) ?_ _
      clear hHeld hS9 hrun1 hrun2 hw
      have hx9 := (HX2.out.keep hk0).setWay (l := x.w.take k ++ x.w.drop (k + 1)) HNN.out (Mid.of_own (own_mono HE.out HX2.out.2.2.2.2.2.size))
      have hp9 := (Below.heap_setCell v15 ⟨g, 22, none⟩ (.slice A6 (k + (x.w.length - (k + 1))) c6) Pb (blk_ne HX2.out.1 HP2.out (by decide))).trans (keep0 HP2.out hk0)
      have ha9 := (Below.heap_setCell v15 ⟨g, 22, none⟩ (.slice A6 (k + (x.w.length - (k + 1))) c6) Bx (blk_ne HX2.out.1 HA2.out (by decide))).trans (keep0 HA2.out hk0)
      clear hk0 HE HX2 HP2 HA2 HTK HTD hF6 hc22
      go_wp2_with fail
      go_meet
      exact ⟨ha9, hp9, A6, c6, hx9⟩
  · skip
    have hc22 : q0.cell? ⟨g, 22, none⟩ = some (.slice (some ⟨bD, oD, none⟩) x.w.length cd) := by
      have h9 := (HX2.out.keep hk0).1
      simp only [prc] at h9
      exact (pair_cells h9).1.2.2.2.2.2.2.2.2.2.2.2.2.2.2.2.2.2.2.2.2.2.2.1
    simp only [List.getElem_toArray, List.getElem_cons_succ, List.getElem_cons_zero]
    go_simp
    clear hc22
    refine hK.out _ _ ?_ (fun hHeld2 => ?_)
    focus
      exact hS9 _ hk0
    clear hHeld
    have hHeld := hHeld2
    clear hHeld2 hK K
    try simp only [List.getElem_toArray, List.getElem_cons_succ, List.getElem_cons_zero, Act.put, List.setIfInBounds_toArray, List.set_cons_zero, List.set_cons_succ]
    refine wpAnyH_take (i := 15) (v := ?_) rfl (by kernel_rfl) (by kernel_rfl) (by kernel_rfl) (fun _ _ _ h => h) (Or.inl ⟨by rfl, ?_⟩) (by exact hS9 _ hk0) ?_
    rotate_left
    focus
      intro U hU
      try dsimp only at hU
      go_simp
      try (with_reducible rfl)
    simp only [List.getElem_toArray, List.getElem_cons_succ, List.getElem_cons_zero, Act.put, List.setIfInBounds_toArray, List.set_cons_zero, List.set_cons_succ]
    refine wpAnyH_ready (rs := [1, 5]) (by kernel_rfl) (by simp) ?_
    refine (AllReadyH.cons rfl (fun K hK => ?_) (AllReadyH.cons rfl (fun K hK => ?_) AllReadyH.nil))
    · skip
      have hbs : Below (World.heap q0).size q0 (World.alloc q0 (.cells #[] 71)) := (Below.refl _ _).alloc (Nat.le_refl _) _
      have HE := hid (own_mono (own_empty q0 71 7) hk0.size)
      replace hk0 := hk0.trans (hbs.mono hk0.size)
      clear hbs
      simp only [List.getElem_toArray, List.getElem_cons_succ, List.getElem_cons_zero]
      go_simp
      refine hK.out _ _ ?_ (fun hHeld2 => ?_)
      focus
        exact hS9 _ hk0
      clear hHeld
      have hHeld := hHeld2
      clear hHeld2 hK K
      try simp only [List.getElem_toArray, List.getElem_cons_succ, List.getElem_cons_zero, Act.put, List.setIfInBounds_toArray, List.set_cons_zero, List.set_cons_succ]
      generalize (World.alloc q0 (.cells #[] 71)) = v16 at *
      generalize (World.heap q0).size = XE at *
      refine wpAnyH_ready (rs := [5]) (by kernel_rfl) (by simp) ?_
      refine (AllReadyH.cons rfl (fun K hK => ?_) AllReadyH.nil)
      have hc22 : v16.cell? ⟨g, 22, none⟩ = some (.slice (some ⟨bD, oD, none⟩) x.w.length cd) := by
        have h9 := (HX2.out.keep hk0).1
        simp only [prc] at h9
        exact (pair_cells h9).1.2.2.2.2.2.2.2.2.2.2.2.2.2.2.2.2.2.2.2.2.2.2.1
      simp only [List.getElem_toArray, List.getElem_cons_succ, List.getElem_cons_zero]
      go_simp
      clear hc22
      refine hK.out _ _ ?_ (fun hHeld2 => ?_)
      focus
        exact hS9 _ hk0
      clear hHeld
      have hHeld := hHeld2
      clear hHeld2 hK K
      try simp only [List.getElem_toArray, List.getElem_cons_succ, List.getElem_cons_zero, Act.put, List.setIfInBounds_toArray, List.set_cons_zero, List.set_cons_succ]
      refine wpAnyH_take (i := 7) (v := ?_) rfl (by kernel_rfl) (by kernel_rfl) (by kernel_rfl) (fun _ _ _ h => h) (Or.inl ⟨by rfl, ?_⟩) (by exact hS9 _ hk0) ?_
      rotate_left
      focus
        intro U hU
        try dsimp only at hU
        go_simp
        try (with_reducible rfl)
      simp only [List.getElem_toArray, List.getElem_cons_succ, List.getElem_cons_zero, Act.put, List.setIfInBounds_toArray, List.set_cons_zero, List.set_cons_succ]
      refine wpAnyH_ready (rs := [8]) (by kernel_rfl) (by simp) ?_
      refine (AllReadyH.cons rfl (fun K hK => ?_) AllReadyH.nil)
      refine step_append_sl rfl (.tmp 64) (.tmp 70) 56 rfl u2.heap.size 71 Try.underlying56 info_pkt rfl (by omega) rfl HE.out rfl (HTK.out _ hk0) (pkc_one _) (by unfold maxLen; omega) (by omega) hk0.size ?_
      intro vv5 v17 ho5 hb5 hsz5 hk5
      simp only [Nat.zero_add, List.nil_append] at ho5
      obtain ⟨A5, c5, rfl, _⟩ := Sl.of_own ho5
      clear HE
      have HE := hid ho5
      replace hk0 := hk0.trans hb5
      clear hb5 hsz5 hk5 ho5
      simp only [List.getElem_toArray, List.getElem_cons_succ, List.getElem_cons_zero]
      refine hK.out _ _ ?_ (fun hHeld2 => ?_)
      focus
        exact hS9 _ hk0
      clear hHeld
      have hHeld := hHeld2
      clear hHeld2 hK K
      try simp only [List.getElem_toArray, List.getElem_cons_succ, List.getElem_cons_zero, Act.put, List.setIfInBounds_toArray, List.set_cons_zero, List.set_cons_succ]
      refine wpAnyH_ready (rs := [16]) (by kernel_rfl) (by simp) ?_
      refine (AllReadyH.cons rfl (fun K hK => ?_) AllReadyH.nil)
      refine step_append_sl rfl (.tmp 71) (.tmp 78) 56 rfl u2.heap.size 71 Try.underlying56 info_pkt rfl (by omega) rfl HE.out rfl (HTD.out _ hk0) (pkc_one _) (by unfold maxLen; omega) (by omega) hk0.size ?_
      intro vv6 v18 ho6 hb6 hsz6 hk6
      rw [← gcells_append] at ho6
      obtain ⟨A6, c6, rfl, _⟩ := Sl.of_own ho6
      clear HE
      have HE := hid ho6
      replace hk0 := hk0.trans hb6
      clear hb6 hsz6 hk6 ho6
      simp only [List.getElem_toArray, List.getElem_cons_succ, List.getElem_cons_zero]
      refine hK.out _ _ ?_ (fun hHeld2 => ?_)
      focus
        exact hS9 _ hk0
      clear hHeld
      have hHeld := hHeld2
      clear hHeld2 hK K
      try simp only [List.getElem_toArray, List.getElem_cons_succ, List.getElem_cons_zero, Act.put, List.setIfInBounds_toArray, List.set_cons_zero, List.set_cons_succ]
      refine wpAnyH_take (i := 17) (v := ?_) rfl (by kernel_rfl) (by kernel_rfl) (by kernel_rfl) (fun _ _ _ h => h) (Or.inl ⟨by rfl, ?_⟩) (by exact hS9 _ hk0) ?_
      rotate_left
      focus
        intro U hU
        try dsimp only at hU
        go_simp
        try (with_reducible rfl)
      simp only [List.getElem_toArray, List.getElem_cons_succ, List.getElem_cons_zero, Act.put, List.setIfInBounds_toArray, List.set_cons_zero, List.set_cons_succ]
      refine wpAnyH_take (i := 18) (v := ?_) rfl (by kernel_rfl) (by kernel_rfl) (by kernel_rfl) (fun _ _ _ h => h) (Or.inl ⟨by rfl, ?_⟩) (by exact hS9 _ hk0) ?_
      rotate_left
      focus
        intro U hU
        try dsimp only at hU
        go_simp
        try (with_reducible rfl)
      simp only [List.getElem_toArray, List.getElem_cons_succ, List.getElem_cons_zero, Act.put, List.setIfInBounds_toArray, List.set_cons_zero, List.set_cons_succ]
      have hc22 : v18.cell? ⟨g, 22, none⟩ = some (.slice (some ⟨bD, oD, none⟩) x.w.length cd) := by
        have h9 := (HX2.out.keep hk0).1
        simp only [prc] at h9
        exact (pair_cells h9).1.2.2.2.2.2.2.2.2.2.2.2.2.2.2.2.2.2.2.2.2.2.2.1
      have hF6 : v18.frozen? ⟨g, 22, none⟩ = false := frozen_of_row _ g 22 _ _ (HX2.out.keep hk0).1
      refine wpAnyH_ready (rs := [19]) (by kernel_rfl) (by simp) ?_
      refine (AllReadyH.cons rfl (fun K hK => ?_) AllReadyH.nil)
      simp only [List.getElem_toArray, List.getElem_cons_succ, List.getElem_cons_zero]
      go_simp
      refine hK.out _ _ ?_ (fun hHeld2 => ?_)
      focus
        exact (hS9 _ hk0).setCell (p := ⟨g, 22, none⟩) HX2.out.2.1 _
      clear hHeld
      have hHeld := hHeld2
      clear hHeld2 hK K
      try simp only [List.getElem_toArray, List.getElem_cons_succ, List.getElem_cons_zero, Act.put, List.setIfInBounds_toArray, List.set_cons_zero, List.set_cons_succ]
      refine wpAnyH_done (by kernel_rfl) ?_ _
      clear hHeld hS9 hrun1 hrun2 hw
      have hx9 := (HX2.out.keep hk0).setWay (l := x.w.take k ++ x.w.drop (k + 1)) HNN.out (Mid.of_own (own_mono HE.out HX2.out.2.2.2.2.2.size))
      have hp9 := (Below.heap_setCell v18 ⟨g, 22, none⟩ (.slice A6 (k + (x.w.length - (k + 1))) c6) Pb (blk_ne HX2.out.1 HP2.out (by decide))).trans (keep0 HP2.out hk0)
      have ha9 := (Below.heap_setCell v18 ⟨g, 22, none⟩ (.slice A6 (k + (x.w.length - (k + 1))) c6) Bx (blk_ne HX2.out.1 HA2.out (by decide))).trans (keep0 HA2.out hk0)
      clear hk0 HE HX2 HP2 HA2 HTK HTD hF6 hc22
      go_wp2_with fail
      go_meet
      exact ⟨ha9, hp9, A6, c6, hx9⟩
    · skip
      have hc22 : q0.cell? ⟨g, 22, none⟩ = some (.slice (some ⟨bD, oD, none⟩) x.w.length cd) := by
        have h9 := (HX2.out.keep hk0).1
        simp only [prc] at h9
        exact (pair_cells h9).1.2.2.2.2.2.2.2.2.2.2.2.2.2.2.2.2.2.2.2.2.2.2.1
      simp only [List.getElem_toArray, List.getElem_cons_succ, List.getElem_cons_zero]
      go_simp
      clear hc22
      refine hK.out _ _ ?_ (fun hHeld2 => ?_)
      focus
        exact hS9 _ hk0
      clear hHeld
      have hHeld := hHeld2
      clear hHeld2 hK K
      try simp only [List.getElem_toArray, List.getElem_cons_succ, List.getElem_cons_zero, Act.put, List.setIfInBounds_toArray, List.set_cons_zero, List.set_cons_succ]
      refine wpAnyH_take (i := 7) (v := ?_) rfl (by kernel_rfl) (by kernel_rfl) (by kernel_rfl) (fun _ _ _ h => h) (Or.inl ⟨by rfl, ?_⟩) (by exact hS9 _ hk0) ?_
      rotate_left
      focus
        intro U hU
        try dsimp only at hU
        go_simp
        try (with_reducible rfl)
      simp only [List.getElem_toArray, List.getElem_cons_succ, List.getElem_cons_zero, Act.put, List.setIfInBounds_toArray, List.set_cons_zero, List.set_cons_succ]
      refine wpAnyH_ready (rs := [1]) (by kernel_rfl) (by simp) ?_
      refine (AllReadyH.cons rfl (fun K hK => ?_) AllReadyH.nil)
      have hbs : Below (World.heap q0).size q0 (World.alloc q0 (.cells #[] 71)) := (Below.refl _ _).alloc (Nat.le_refl _) _
      have HE := hid (own_mono (own_empty q0 71 7) hk0.size)
      replace hk0 := hk0.trans (hbs.mono hk0.size)
      clear hbs
      simp only [List.getElem_toArray, List.getElem_cons_succ, List.getElem_cons_zero]
      go_simp
      refine hK.out _ _ ?_ (fun hHeld2 => ?_)
      focus
        exact hS9 _ hk0
      clear hHeld
      have hHeld := hHeld2
      clear hHeld2 hK K
      try simp only [List.getElem_toArray, List.getElem_cons_succ, List.getElem_cons_zero, Act.put, List.setIfInBounds_toArray, List.set_cons_zero, List.set_cons_succ]
      generalize (World.alloc q0 (.cells #[] 71)) = v19 at *
      generalize (World.heap q0).size = XE at *
      refine wpAnyH_ready (rs := [8]) (by kernel_rfl) (by simp) ?_
      refine (AllReadyH.cons rfl (fun K hK => ?_) AllReadyH.nil)
      refine step_append_sl rfl (.tmp 64) (.tmp 70) 56 rfl u2.heap.size 71 Try.underlying56 info_pkt rfl (by omega) rfl HE.out rfl (HTK.out _ hk0) (pkc_one _) (by unfold maxLen; omega) (by omega) hk0.size ?_
      intro vv5 v20 ho5 hb5 hsz5 hk5
      simp only [Nat.zero_add, List.nil_append] at ho5
      obtain ⟨A5, c5, rfl, _⟩ := Sl.of_own ho5
      clear HE
      have HE := hid ho5
      replace hk0 := hk0.trans hb5
      clear hb5 hsz5 hk5 ho5
      simp only [List.getElem_toArray, List.getElem_cons_succ, List.getElem_cons_zero]
      refine hK.out _ _ ?_ (fun hHeld2 => ?_)
      focus
        exact hS9 _ hk0
      clear hHeld
      have hHeld := hHeld2
      clear hHeld2 hK K
      try simp only [List.getElem_toArray, List.getElem_cons_succ, List.getElem_cons_zero, Act.put, List.setIfInBounds_toArray, List.set_cons_zero, List.set_cons_succ]
      refine wpAnyH_ready (rs := [16]) (by kernel_rfl) (by simp) ?_
      refine (AllReadyH.cons rfl (fun K hK => ?_) AllReadyH.nil)
      refine step_append_sl rfl (.tmp 71) (.tmp 78) 56 rfl u2.heap.size 71 Try.underlying56 info_pkt rfl (by omega) rfl HE.out rfl (HTD.out _ hk0) (pkc_one _) (by unfold maxLen; omega) (by omega) hk0.size ?_
      intro vv6 v21 ho6 hb6 hsz6 hk6
      rw [← gcells_append] at ho6
      obtain ⟨A6, c6, rfl, _⟩ := Sl.of_own ho6
      clear HE
      have HE := hid ho6
      replace hk0 := hk0.trans hb6
      clear hb6 hsz6 hk6 ho6
      simp only [List.getElem_toArray, List.getElem_cons_succ, List.getElem_cons_zero]
      refine hK.out _ _ ?_ (fun hHeld2 => ?_)
      focus
        exact hS9 _ hk0
      clear hHeld
      have hHeld := hHeld2
      clear hHeld2 hK K
      try simp only [List.getElem_toArray, List.getElem_cons_succ, List.getElem_cons_zero, Act.put, List.setIfInBounds_toArray, List.set_cons_zero, List.set_cons_succ]
      refine wpAnyH_take (i := 17) (v := ?_) rfl (by kernel_rfl) (by kernel_rfl) (by kernel_rfl) (fun _ _ _ h => h) (Or.inl ⟨by rfl, ?_⟩) (by exact hS9 _ hk0) ?_
      rotate_left
      focus
        intro U hU
        try dsimp only at hU
        go_simp
        try (with_reducible rfl)
      simp only [List.getElem_toArray, List.getElem_cons_succ, List.getElem_cons_zero, Act.put, List.setIfInBounds_toArray, List.set_cons_zero, List.set_cons_succ]
      refine wpAnyH_take (i := 18) (v := ?_) rfl (by kernel_rfl) (by kernel_rfl) (by kernel_rfl) (fun _ _ _ h => h) (Or.inl ⟨by rfl, ?_⟩) (by exact hS9 _ hk0) ?_
      rotate_left
      focus
        intro U hU
        try dsimp only at hU
        go_simp
        try (with_reducible rfl)
      simp only [List.getElem_toArray, List.getElem_cons_succ, List.getElem_cons_zero, Act.put, List.setIfInBounds_toArray, List.set_cons_zero, List.set_cons_succ]
      have hc22 : v21.cell? ⟨g, 22, none⟩ = some (.slice (some ⟨bD, oD, none⟩) x.w.length cd) := by
        have h9 := (HX2.out.keep hk0).1
        simp only [prc] at h9
        exact (pair_cells h9).1.2.2.2.2.2.2.2.2.2.2.2.2.2.2.2.2.2.2.2.2.2.2.1
      have hF6 : v21.frozen? ⟨g, 22, none⟩ = false := frozen_of_row _ g 22 _ _ (HX2.out.keep hk0).1
      refine wpAnyH_ready (rs := [19]) (by kernel_rfl) (by simp) ?_
      refine (AllReadyH.cons rfl (fun K hK => ?_) AllReadyH.nil)
      simp only [List.getElem_toArray, List.getElem_cons_succ, List.getElem_cons_zero]
      go_simp
      refine hK.out _ _ ?_ (fun hHeld2 => ?_)
      focus
        exact (hS9 _ hk0).setCell (p := ⟨g, 22, none⟩) HX2.out.2.1 _
      clear hHeld
      have hHeld := hHeld2
      clear hHeld2 hK K
      try simp only [List.getElem_toArray, List.getElem_cons_succ, List.getElem_cons_zero, Act.put, List.setIfInBounds_toArray, List.set_cons_zero, List.set_cons_succ]
      refine wpAnyH_done (by kernel_rfl) ?_ _
      clear hHeld hS9 hrun1 hrun2 hw
      have hx9 := (HX2.out.keep hk0).setWay (l := x.w.take k ++ x.w.drop (k + 1)) HNN.out (Mid.of_own (own_mono HE.out HX2.out.2.2.2.2.2.size))
      have hp9 := (Below.heap_setCell v21 ⟨g, 22, none⟩ (.slice A6 (k + (x.w.length - (k + 1))) c6) Pb (blk_ne HX2.out.1 HP2.out (by decide))).trans (keep0 HP2.out hk0)
      have ha9 := (Below.heap_setCell v21 ⟨g, 22, none⟩ (.slice A6 (k + (x.w.length - (k + 1))) c6) Bx (blk_ne HX2.out.1 HA2.out (by decide))).trans (keep0 HA2.out hk0)
      clear hk0 HE HX2 HP2 HA2 HTK HTD hF6 hc22
      go_wp2_with fail
      go_meet
      exact ⟨ha9, hp9, A6, c6, hx9⟩

set_option maxRecDepth 20000 in
set_option maxHeartbeats 8000000 in
theorem does5_any {N M : Nat} {a b : Sd} {w : List Pk} (hI : InvS N M a b w) (hN : N ≤ 1000) (hM : M ≤ 10000) (d n : Int)  (g : Nat) (W u : World) (A : Option Addr) (ca : Nat) (B : Option Addr) (cb : Nat) (D : Option Addr) (cd : Nat) (h : PX W u g (mkP a b w) A ca B cb D cd) :
    Calls Try.prog 32 #[.pointer (some ⟨g, 0, none⟩), .agg #[.int .i64 5, .int .i64 n]] u (DoR N (M + 1) W g) := by
  have HI := hid hI
  have HNM := hid (And.intro hN hM)
  have hk := h.keep ((Below.refl _ _).alloc (Nat.le_refl _) (.cells #[.int .i64 5, .int .i64 n] 84))
  have hal := heap_alloc_new u (.cells #[.int .i64 5, .int .i64 n] 84)
  have HX := hid hk
  have HA := hid hal
  have hg := hk.1
  simp only [prc] at hg
  have hg22 := (pair_cells hg).1.2.2.2.2.2.2.2.2.2.2.2.2.2.2.2.2.2.2.2.2.2.2.1
  have hwl : (mkP a b w).w.length ≤ 100000 := by
    have := hI.wl
    show w.length ≤ 100000
    omega
  have HWX := hid (show (mkP a b w).w.length ≤ 10000 by have := hI.wl; show w.length ≤ 10000; omega)
  generalize hXX : mkP a b w = x at *
  have HXX := hid hXX
  clear hk h hal hg hI hN hM hXX

  go_enter Try.func32, Try.ntmps32
  rcases Nat.eq_zero_or_pos x.w.length with h0 | h0
  case inl =>
    rw [h0] at hg22
    clear h0
    go_wp2
    refine bodyPost_ret (results_none rfl _ _ _) rfl ?_
    exact ⟨⟨_, rfl⟩, a, b, w, A, ca, B, cb, D, cd, by rw [HXX.out]; exact HX.out, HI.out.up (Nat.le_refl _) (Nat.le_succ _)⟩
  have e0 : ((x.w.length : Int) == 0) = false := beq_eq_false_iff_ne.2 (by omega)
  go_upto_region 6 with (fail)
  go_quiet (fail)
  go_upto_region 7 with (fail)
  obtain ⟨k, hkl, hke⟩ := idx_any n x.w.length h0 hwl
  rw [hke]
  have HKL := hid hkl
  clear hke h0 e0 hg22 hwl hkl
  refine at_world (fun v => v.heap[u.heap.size]? = some (.cells #[.int .i64 5, .int .i64 n] 84 (0, 0)) ∧ PX W v g x A ca B cb D cd) ⟨HA.out, HX.out.keep ⟨rfl, rfl, rfl, Nat.le_refl _, fun _ _ => rfl⟩⟩ ?_
  clear HA HX
  generalize u.heap.size = Bx at *
  rintro u1 ⟨ha1, hx1⟩
  have hg1 := hx1.1
  simp only [prc] at hg1
  have hg22 := (pair_cells hg1).1.2.2.2.2.2.2.2.2.2.2.2.2.2.2.2.2.2.2.2.2.2.2.1
  have HX1 := hid hx1
  have HA1 := hid ha1
  obtain ⟨bD, oD, rfl, hcD⟩ := Sl.gat pkc_len (Mid.sl hx1.2.2.2.2.1) k HKL.out (by decide)
  have c0 := hcD 0 _ rfl
  rw [Nat.add_zero] at c0
  have c1 := hcD 1 _ rfl
  have c2 := hcD 2 _ rfl
  have c3 := hcD 3 _ rfl
  have c4 := hcD 4 _ rfl
  have c5 := hcD 5 _ rfl
  have c6 := hcD 6 _ rfl
  have hki : ¬ ((k : Int) < 0) := by omega
  have hkj : (k : Int) < (x.w.length : Int) := by have := HKL.out; omega
  have hkn : k < x.w.length := HKL.out
  clear ha1 hx1 hg1 hcD
  go_upto_region 8 with (fail)
  refine at_world (fun v => v.heap[Bx]? = some (.cells #[.int .i64 5, .int .i64 n] 84 (0, 0)) ∧ v.heap[u1.heap.size]? = some (.cells (pca x.w[k]) 71 (0, 0)) ∧ PX W v g x A ca B cb (some ⟨bD, oD, none⟩) cd) ⟨(Below.heap_alloc _ _ _ (lt_of_block HA1.out)).trans HA1.out, heap_alloc_new _ _, HX1.out.keep ((Below.refl _ _).alloc (Nat.le_refl _) _)⟩ ?_
  clear HA1 HX1 hg22 c0 c1 c2 c3 c4 c5 c6 hki hkj
  generalize u1.heap.size = Pb at *
  rintro u2 ⟨ha2, hp2, hx2⟩
  have hac := act_cells ha2
  obtain ⟨ac0, ac1⟩ := hac
  have hcr := (Mid.sl hx2.2.2.2.2.1).2.1
  have hTk : ∀ w, Below u2.heap.size u2 w → Sl w 7 (some ⟨bD, oD, none⟩) k cd (gcells pkc (x.w.take k)) := fun w hw => by
    have h9 := (Sl.below (Mid.sl hx2.2.2.2.2.1) hw).take k (by have := HKL.out; omega)
    rwa [gcells_take] at h9
  have hTd : ∀ w, Below u2.heap.size u2 w → Sl w 7 (dropA (some ⟨bD, oD, none⟩) cd (k + 1) 7) (x.w.length - (k + 1)) (cd - (k + 1)) (gcells pkc (x.w.drop (k + 1))) := fun w hw => by
    have h9 := (Sl.below (Mid.sl hx2.2.2.2.2.1) hw).drop (k + 1) (by have := HKL.out; omega)
    rwa [gcells_drop] at h9
  have HTK := hid hTk
  have HTD := hid hTd
  have hwm : x.w.length ≤ 10000 := HWX.out
  have hkl := HKL.out
  have hnn : k + (x.w.length - (k + 1)) = (x.w.take k ++ x.w.drop (k + 1)).length := by
    rw [List.length_append, List.length_take, List.length_drop]
    omega
  have HNN := hid hnn
  have hrun1 : ∀ w : World, (Instr.slice 56 (.slice (some ⟨bD, oD, none⟩) x.w.length cd) none (some (.int .i64 (k : Int))) none).run Try.prog w = .ok (.slice (some ⟨bD, oD, none⟩) k cd) w := fun w => run_to Try.underlying56 info_pkt (some ⟨bD, oD, none⟩) x.w.length cd k (by omega) w
  have hrun2 : ∀ w : World, (Instr.slice 56 (.slice (some ⟨bD, oD, none⟩) x.w.length cd) (some (.int .i64 ((k : Int) + 1))) none none).run Try.prog w = .ok (.slice (dropA (some ⟨bD, oD, none⟩) cd (k + 1) 7) (x.w.length - (k + 1)) (cd - (k + 1))) w := fun w => run_from Try.underlying56 info_pkt (some ⟨bD, oD, none⟩) x.w.length cd (k + 1) (by omega) w
  have hw : IntKind.i64.wrap ((k : Int) + 1) = (k : Int) + 1 := IntWalk.i64_in _ (by omega)
  have HX2 := hid hx2
  have HP2 := hid hp2
  have HA2 := hid ha2
  clear hTk hTd hcr hx2 hp2 ha2 hnn
  go_upto_if 62 with (fail)
  go_cut [] from 63 to 79 (fun v => v.heap[Bx]? = some (.cells #[.int .i64 5, .int .i64 n] 84 (0, 0)) ∧ v.heap[Pb]? = some (.cells (pca x.w[k]) 71 (0, 0)) ∧ ∃ A6 c6, PX W v g (setW x (x.w.take k ++ x.w.drop (k + 1))) A ca B cb A6 c6)
  case rest =>
    clear hrun1 hrun2 hw HTK HTD HX2 HP2 HA2 ac0 ac1
    obtain ⟨ha2, hp2, A6, c6, hx2⟩ := hcut
    obtain ⟨ac0, ac1⟩ := act_cells ha2
    have hUn : Und a b x.w[k] := by
      obtain rfl := HXX.out
      exact HI.out.wu _ (List.getElem_mem hkn)
    have hIv : InvS N M a b (x.w.take k ++ x.w.drop (k + 1)) := by
      obtain rfl := HXX.out
      have h1 := HNN.out
      have h2 := HI.out.wl
      refine inv_sub HI.out (fun p hp => ?_) ?_
      · exact (List.mem_append.1 hp).elim (fun h => List.mem_of_mem_take h) fun h => List.mem_of_mem_drop h
      · rw [← h1]
        show k + (w.length - (k + 1)) ≤ M
        have : k < w.length := HKL.out
        omega
    have HEQ : Hid (mkP a b (x.w.take k ++ x.w.drop (k + 1)) = setW x (x.w.take k ++ x.w.drop (k + 1))) := hid (by obtain rfl := HXX.out; rfl)
    generalize setW x (x.w.take k ++ x.w.drop (k + 1)) = y at *
    generalize x.w[k] = p at *
    have HX2 := hid hx2
    have HIV := hid hIv
    clear hx2 hIv hUn hp2 ha2
    go_wp2
    refine bodyPost_ret (results_none rfl _ _ _) rfl ?_
    exact ⟨⟨_, rfl⟩, a, b, _, A, ca, B, cb, _, _, by rw [HEQ.out]; exact HX2.out, HIV.out.up (Nat.le_refl _) (Nat.le_succ _)⟩

  clear ac0 ac1
  go_upto_region 9 with (fail)
  have hk0 : Below u2.heap.size u2 u2.drew := below_drew (Below.refl _ _)
  have hS9 : ∀ U, Below u2.heap.size u2 U → Below W.heap.size W U := fun U hU => HX2.out.2.2.2.2.2.trans (hU.mono HX2.out.2.2.2.2.2.size)
  refine wp_region_held_drew (S := fun U => Below W.heap.size W U) (by kernel_rfl) (hS9 _ hk0) (fun hHeld => ?_)
  generalize u2.drew = q0 at *
  refine wpAnyH_take (i := 0) (v := ?_) rfl (by kernel_rfl) (by kernel_rfl) (by kernel_rfl) (fun _ _ _ h => h) (Or.inl ⟨by rfl, ?_⟩) (by exact hS9 _ hk0) ?_
  rotate_left
  focus
    intro U hU
    try dsimp only at hU
    go_simp
    try (with_reducible rfl)
  simp only [List.getElem_toArray, List.getElem_cons_succ, List.getElem_cons_zero, Act.put, List.setIfInBounds_toArray, List.set_cons_zero, List.set_cons_succ]
  refine wpAnyH_take (i := 2) (v := ?_) rfl (by kernel_rfl) (by kernel_rfl) (by kernel_rfl) (fun _ _ _ h => h) (Or.inl ⟨by rfl, ?_⟩) (by exact hS9 _ hk0) ?_
  rotate_left
  focus
    intro U hU
    try dsimp only at hU
    go_simp
    try (with_reducible rfl)
  simp only [List.getElem_toArray, List.getElem_cons_succ, List.getElem_cons_zero, Act.put, List.setIfInBounds_toArray, List.set_cons_zero, List.set_cons_succ]
  refine wpAnyH_take (i := 3) (v := ?_) rfl (by kernel_rfl) (by kernel_rfl) (by kernel_rfl) (fun _ _ _ h => h) (Or.inl ⟨by rfl, ?_⟩) (by exact hS9 _ hk0) ?_
  rotate_left
  focus
    intro U hU
    try dsimp only at hU
    go_simp
    try (with_reducible rfl)
  simp only [List.getElem_toArray, List.getElem_cons_succ, List.getElem_cons_zero, Act.put, List.setIfInBounds_toArray, List.set_cons_zero, List.set_cons_succ]
  refine wpAnyH_take (i := 4) (v := ?_) rfl (by kernel_rfl) (by kernel_rfl) (by kernel_rfl) (fun _ _ _ h => h) (Or.inl ⟨by rfl, ?_⟩) (by exact hS9 _ hk0) ?_
  rotate_left
  focus
    intro U hU
    try dsimp only at hU
    go_simp
    try (with_reducible rfl)
  simp only [List.getElem_toArray, List.getElem_cons_succ, List.getElem_cons_zero, Act.put, List.setIfInBounds_toArray, List.set_cons_zero, List.set_cons_succ]
  refine wpAnyH_take (i := 6) (v := ?_) rfl (by kernel_rfl) (by kernel_rfl) (by kernel_rfl) (fun _ _ _ h => h) (Or.inl ⟨by rfl, ?_⟩) (by exact hS9 _ hk0) ?_
  rotate_left
  focus
    intro U hU
    try dsimp only at hU
    go_simp
    try (with_reducible rfl)
  simp only [List.getElem_toArray, List.getElem_cons_succ, List.getElem_cons_zero, Act.put, List.setIfInBounds_toArray, List.set_cons_zero, List.set_cons_succ]
  refine wpAnyH_take (i := 9) (v := ?_) rfl (by kernel_rfl) (by kernel_rfl) (by kernel_rfl) (fun _ _ _ h => h) (Or.inl ⟨by rfl, ?_⟩) (by exact hS9 _ hk0) ?_
  rotate_left
  focus
    intro U hU
    try dsimp only at hU
    go_simp
    try (with_reducible rfl)
  simp only [List.getElem_toArray, List.getElem_cons_succ, List.getElem_cons_zero, Act.put, List.setIfInBounds_toArray, List.set_cons_zero, List.set_cons_succ]
  refine wpAnyH_take (i := 10) (v := ?_) rfl (by kernel_rfl) (by kernel_rfl) (by kernel_rfl) (fun _ _ _ h => h) (Or.inl ⟨by rfl, ?_⟩) (by exact hS9 _ hk0) ?_
  rotate_left
  focus
    intro U hU
    try dsimp only at hU
    go_simp
    try (with_reducible rfl)
  simp only [List.getElem_toArray, List.getElem_cons_succ, List.getElem_cons_zero, Act.put, List.setIfInBounds_toArray, List.set_cons_zero, List.set_cons_succ]
  refine wpAnyH_take (i := 11) (v := ?_) rfl (by kernel_rfl) (by kernel_rfl) (by kernel_rfl) (fun _ _ _ h => h) (Or.inl ⟨by rfl, ?_⟩) (by exact hS9 _ hk0) ?_
  rotate_left
  focus
    intro U hU
    try dsimp only at hU
    go_simp
    try (with_reducible rfl)
  simp only [List.getElem_toArray, List.getElem_cons_succ, List.getElem_cons_zero, Act.put, List.setIfInBounds_toArray, List.set_cons_zero, List.set_cons_succ]
  refine wpAnyH_take (i := 13) (v := ?_) rfl (by kernel_rfl) (by kernel_rfl) (by kernel_rfl) (fun _ _ _ h => h) (Or.inl ⟨by rfl, ?_⟩) (by exact hS9 _ hk0) ?_
  rotate_left
  focus
    intro U hU
    try dsimp only at hU
    go_simp
    try (with_reducible rfl)
  simp only [List.getElem_toArray, List.getElem_cons_succ, List.getElem_cons_zero, Act.put, List.setIfInBounds_toArray, List.set_cons_zero, List.set_cons_succ]
  refine wpAnyH_take (i := 14) (v := ?_) rfl (by kernel_rfl) (by kernel_rfl) (by kernel_rfl) (fun _ _ _ h => h) (Or.inl ⟨by rfl, ?_⟩) (by exact hS9 _ hk0) ?_
  rotate_left
  focus
    intro U hU
    try dsimp only at hU
    go_simp
    try (with_reducible rfl)
  simp only [List.getElem_toArray, List.getElem_cons_succ, List.getElem_cons_zero, Act.put, List.setIfInBounds_toArray, List.set_cons_zero, List.set_cons_succ]
  refine wpAnyH_ready (rs := [1, 5, 12]) (by kernel_rfl) (by simp) ?_
  refine (AllReadyH.cons rfl (fun K hK => ?_) (AllReadyH.cons rfl (fun K hK => ?_) (AllReadyH.cons rfl (fun K hK => ?_) AllReadyH.nil)))
  · skip
    have hbs : Below (World.heap q0).size q0 (World.alloc q0 (.cells #[] 71)) := (Below.refl _ _).alloc (Nat.le_refl _) _
    have HE := hid (own_mono (own_empty q0 71 7) hk0.size)
    replace hk0 := hk0.trans (hbs.mono hk0.size)
    clear hbs
    simp only [List.getElem_toArray, List.getElem_cons_succ, List.getElem_cons_zero]
    go_simp
    refine hK.out _ _ ?_ (fun hHeld2 => ?_)
    focus
      exact hS9 _ hk0
    clear hHeld
    have hHeld := hHeld2
    clear hHeld2 hK K
    try simp only [List.getElem_toArray, List.getElem_cons_succ, List.getElem_cons_zero, Act.put, List.setIfInBounds_toArray, List.set_cons_zero, List.set_cons_succ]
    generalize (World.alloc q0 (.cells #[] 71)) = v1 at *
    generalize (World.heap q0).size = XE at *
    refine wpAnyH_ready (rs := [5, 12]) (by kernel_rfl) (by simp) ?_
    refine (AllReadyH.cons rfl (fun K hK => ?_) (AllReadyH.cons rfl (fun K hK => ?_) AllReadyH.nil))
    · skip
      have hc22 : v1.cell? ⟨g, 22, none⟩ = some (.slice (some ⟨bD, oD, none⟩) x.w.length cd) := by
        have h9 := (HX2.out.keep hk0).1
        simp only [prc] at h9
        exact (pair_cells h9).1.2.2.2.2.2.2.2.2.2.2.2.2.2.2.2.2.2.2.2.2.2.2.1
      simp only [List.getElem_toArray, List.getElem_cons_succ, List.getElem_cons_zero]
      go_simp
      clear hc22
      refine hK.out _ _ ?_ (fun hHeld2 => ?_)
      focus
        exact hS9 _ hk0
      clear hHeld
      have hHeld := hHeld2
      clear hHeld2 hK K
      try simp only [List.getElem_toArray, List.getElem_cons_succ, List.getElem_cons_zero, Act.put, List.setIfInBounds_toArray, List.set_cons_zero, List.set_cons_succ]
      refine wpAnyH_take (i := 7) (v := ?_) rfl (by kernel_rfl) (by kernel_rfl) (by kernel_rfl) (fun _ _ _ h => h) (Or.inl ⟨by rfl, ?_⟩) (by exact hS9 _ hk0) ?_
      rotate_left
      focus
        intro U hU
        try dsimp only at hU
        go_simp
        try (with_reducible rfl)
      simp only [List.getElem_toArray, List.getElem_cons_succ, List.getElem_cons_zero, Act.put, List.setIfInBounds_toArray, List.set_cons_zero, List.set_cons_succ]
      refine wpAnyH_ready (rs := [8, 12]) (by kernel_rfl) (by simp) ?_
      refine (AllReadyH.cons rfl (fun K hK => ?_) (AllReadyH.cons rfl (fun K hK => ?_) AllReadyH.nil))
      · skip
        refine step_append_sl rfl (.tmp 64) (.tmp 70) 56 rfl u2.heap.size 71 Try.underlying56 info_pkt rfl (by omega) rfl HE.out rfl (HTK.out _ hk0) (pkc_one _) (by unfold maxLen; omega) (by omega) hk0.size ?_
        intro vv5 v2 ho5 hb5 hsz5 hk5
        simp only [Nat.zero_add, List.nil_append] at ho5
        obtain ⟨A5, c5, rfl, _⟩ := Sl.of_own ho5
        clear HE
        have HE := hid ho5
        replace hk0 := hk0.trans hb5
        clear hb5 hsz5 hk5 ho5
        simp only [List.getElem_toArray, List.getElem_cons_succ, List.getElem_cons_zero]
        refine hK.out _ _ ?_ (fun hHeld2 => ?_)
        focus
          exact hS9 _ hk0
        clear hHeld
        have hHeld := hHeld2
        clear hHeld2 hK K
        try simp only [List.getElem_toArray, List.getElem_cons_succ, List.getElem_cons_zero, Act.put, List.setIfInBounds_toArray, List.set_cons_zero, List.set_cons_succ]
        refine wpAnyH_ready (rs := [12]) (by kernel_rfl) (by simp) ?_
        refine (AllReadyH.cons rfl (fun K hK => ?_) AllReadyH.nil)
        have hc22 : v2.cell? ⟨g, 22, none⟩ = some (.slice (some ⟨bD, oD, none⟩) x.w.length cd) := by
          have h9 := (HX2.out.keep hk0).1
          simp only [prc] at h9
          exact (pair_cells h9).1.2.2.2.2.2.2.2.2.2.2.2.2.2.2.2.2.2.2.2.2.2.2.1
        simp only [List.getElem_toArray, List.getElem_cons_succ, List.getElem_cons_zero]
        go_simp
        clear hc22
        refine hK.out _ _ ?_ (fun hHeld2 => ?_)
        focus
          exact hS9 _ hk0
        clear hHeld
        have hHeld := hHeld2
        clear hHeld2 hK K
        try simp only [List.getElem_toArray, List.getElem_cons_succ, List.getElem_cons_zero, Act.put, List.setIfInBounds_toArray, List.set_cons_zero, List.set_cons_succ]
        refine wpAnyH_take (i := 15) (v := ?_) rfl (by kernel_rfl) (by kernel_rfl) (by kernel_rfl) (fun _ _ _ h => h) (Or.inl ⟨by rfl, ?_⟩) (by exact hS9 _ hk0) ?_
        rotate_left
        focus
          intro U hU
          try dsimp only at hU
          go_simp
          try (with_reducible rfl)
        simp only [List.getElem_toArray, List.getElem_cons_succ, List.getElem_cons_zero, Act.put, List.setIfInBounds_toArray, List.set_cons_zero, List.set_cons_succ]
        refine wpAnyH_ready (rs := [16]) (by kernel_rfl) (by simp) ?_
        refine (AllReadyH.cons rfl (fun K hK => ?_) AllReadyH.nil)
        refine step_append_sl rfl (.tmp 71) (.tmp 78) 56 rfl u2.heap.size 71 Try.underlying56 info_pkt rfl (by omega) rfl HE.out rfl (HTD.out _ hk0) (pkc_one _) (by unfold maxLen; omega) (by omega) hk0.size ?_
        intro vv6 v3 ho6 hb6 hsz6 hk6
        rw [← gcells_append] at ho6
        obtain ⟨A6, c6, rfl, _⟩ := Sl.of_own ho6
        clear HE
        have HE := hid ho6
        replace hk0 := hk0.trans hb6
        clear hb6 hsz6 hk6 ho6
        simp only [List.getElem_toArray, List.getElem_cons_succ, List.getElem_cons_zero]
        refine hK.out _ _ ?_ (fun hHeld2 => ?_)
        focus
          exact hS9 _ hk0
        clear hHeld
        have hHeld := hHeld2
        clear hHeld2 hK K
        try simp only [List.getElem_toArray, List.getElem_cons_succ, List.getElem_cons_zero, Act.put, List.setIfInBounds_toArray, List.set_cons_zero, List.set_cons_succ]
        refine wpAnyH_take (i := 17) (v := ?_) rfl (by kernel_rfl) (by kernel_rfl) (by kernel_rfl) (fun _ _ _ h => h) (Or.inl ⟨by rfl, ?_⟩) (by exact hS9 _ hk0) ?_
        rotate_left
        focus
          intro U hU
          try dsimp only at hU
          go_simp
          try (with_reducible rfl)
        simp only [List.getElem_toArray, List.getElem_cons_succ, List.getElem_cons_zero, Act.put, List.setIfInBounds_toArray, List.set_cons_zero, List.set_cons_succ]
        refine wpAnyH_take (i := 18) (v := ?_) rfl (by kernel_rfl) (by kernel_rfl) (by kernel_rfl) (fun _ _ _ h => h) (Or.inl ⟨by rfl, ?_⟩) (by exact hS9 _ hk0) ?_
        rotate_left
        focus
          intro U hU
          try dsimp only at hU
          go_simp
          try (with_reducible rfl)
        simp only [List.getElem_toArray, List.getElem_cons_succ, List.getElem_cons_zero, Act.put, List.setIfInBounds_toArray, List.set_cons_zero, List.set_cons_succ]
        have hc22 : v3.cell? ⟨g, 22, none⟩ = some (.slice (some ⟨bD, oD, none⟩) x.w.length cd) := by
          have h9 := (HX2.out.keep hk0).1
          simp only [prc] at h9
          exact (pair_cells h9).1.2.2.2.2.2.2.2.2.2.2.2.2.2.2.2.2.2.2.2.2.2.2.1
        have hF6 : v3.frozen? ⟨g, 22, none⟩ = false := frozen_of_row _ g 22 _ _ (HX2.out.keep hk0).1
        refine wpAnyH_ready (rs := [19]) (by kernel_rfl) (by simp) ?_
        refine (AllReadyH.cons rfl (fun K hK => ?_) AllReadyH.nil)
        simp only [List.getElem_toArray, List.getElem_cons_succ, List.getElem_cons_zero]
        go_simp
        refine hK.out _ _ ?_ (fun hHeld2 => ?_)
        focus
          exact (hS9 _ hk0).setCell (p := ⟨g, 22, none⟩) HX2.out.2.1 _
        clear hHeld
        have hHeld := hHeld2
        clear hHeld2 hK K
        try simp only [List.getElem_toArray, List.getElem_cons_succ, List.getElem_cons_zero, Act.put, List.setIfInBounds_toArray, List.set_cons_zero, List.set_cons_succ]
        refine wpAnyH_done (by kernel_rfl) ?_ _
        clear hHeld hS9 hrun1 hrun2 hw
        have hx9 := (HX2.out.keep hk0).setWay (l := x.w.take k ++ x.w.drop (k + 1)) HNN.out (Mid.of_own (own_mono HE.out HX2.out.2.2.2.2.2.size))
        have hp9 := (Below.heap_setCell v3 ⟨g, 22, none⟩ (.slice A6 (k + (x.w.length - (k + 1))) c6) Pb (blk_ne HX2.out.1 HP2.out (by decide))).trans (keep0 HP2.out hk0)
        have ha9 := (Below.heap_setCell v3 ⟨g, 22, none⟩ (.slice A6 (k + (x.w.length - (k + 1))) c6) Bx (blk_ne HX2.out.1 HA2.out (by decide))).trans (keep0 HA2.out hk0)
        clear hk0 HE HX2 HP2 HA2 HTK HTD hF6 hc22
        go_wp2_with fail
        go_meet
        exact ⟨ha9, hp9, A6, c6, hx9⟩
      · skip
        have hc22 : v1.cell? ⟨g, 22, none⟩ = some (.slice (some ⟨bD, oD, none⟩) x.w.length cd) := by
          have h9 := (HX2.out.keep hk0).1
          simp only [prc] at h9
          exact (pair_cells h9).1.2.2.2.2.2.2.2.2.2.2.2.2.2.2.2.2.2.2.2.2.2.2.1
        simp only [List.getElem_toArray, List.getElem_cons_succ, List.getElem_cons_zero]
        go_simp
        clear hc22
        refine hK.out _ _ ?_ (fun hHeld2 => ?_)
        focus
          exact hS9 _ hk0
        clear hHeld
        have hHeld := hHeld2
        clear hHeld2 hK K
        try simp only [List.getElem_toArray, List.getElem_cons_succ, List.getElem_cons_zero, Act.put, List.setIfInBounds_toArray, List.set_cons_zero, List.set_cons_succ]
        refine wpAnyH_take (i := 15) (v := ?_) rfl (by kernel_rfl) (by kernel_rfl) (by kernel_rfl) (fun _ _ _ h => h) (Or.inl ⟨by rfl, ?_⟩) (by exact hS9 _ hk0) ?_
        rotate_left
        focus
          intro U hU
          try dsimp only at hU
          go_simp
          try (with_reducible rfl)
        simp only [List.getElem_toArray, List.getElem_cons_succ, List.getElem_cons_zero, Act.put, List.setIfInBounds_toArray, List.set_cons_zero, List.set_cons_succ]
        refine wpAnyH_ready (rs := [8]) (by kernel_rfl) (by simp) ?_
        refine (AllReadyH.cons rfl (fun K hK => ?_) AllReadyH.nil)
        refine step_append_sl rfl (.tmp 64) (.tmp 70) 56 rfl u2.heap.size 71 Try.underlying56 info_pkt rfl (by omega) rfl HE.out rfl (HTK.out _ hk0) (pkc_one _) (by unfold maxLen; omega) (by omega) hk0.size ?_
        intro vv5 v4 ho5 hb5 hsz5 hk5
        simp only [Nat.zero_add, List.nil_append] at ho5
        obtain ⟨A5, c5, rfl, _⟩ := Sl.of_own ho5
        clear HE
        have HE := hid ho5
        replace hk0 := hk0.trans hb5
        clear hb5 hsz5 hk5 ho5
        simp only [List.getElem_toArray, List.getElem_cons_succ, List.getElem_cons_zero]
        refine hK.out _ _ ?_ (fun hHeld2 => ?_)
        focus
          exact hS9 _ hk0
        clear hHeld
        have hHeld := hHeld2
        clear hHeld2 hK K
        try simp only [List.getElem_toArray, List.getElem_cons_succ, List.getElem_cons_zero, Act.put, List.setIfInBounds_toArray, List.set_cons_zero, List.set_cons_succ]
        refine wpAnyH_ready (rs := [16]) (by kernel_rfl) (by simp) ?_
        refine (AllReadyH.cons rfl (fun K hK => ?_) AllReadyH.nil)
        refine step_append_sl rfl (.tmp 71) (.tmp 78) 56 rfl u2.heap.size 71 Try.underlying56 info_pkt rfl (by omega) rfl HE.out rfl (HTD.out _ hk0) (pkc_one _) (by unfold maxLen; omega) (by omega) hk0.size ?_
        intro vv6 v5 ho6 hb6 hsz6 hk6
        rw [← gcells_append] at ho6
        obtain ⟨A6, c6, rfl, _⟩ := Sl.of_own ho6
        clear HE
        have HE := hid ho6
        replace hk0 := hk0.trans hb6
        clear hb6 hsz6 hk6 ho6
        simp only [List.getElem_toArray, List.getElem_cons_succ, List.getElem_cons_zero]
        refine hK.out _ _ ?_ (fun hHeld2 => ?_)
        focus
          exact hS9 _ hk0
        clear hHeld
        have hHeld := hHeld2
        clear hHeld2 hK K
        try simp only [List.getElem_toArray, List.getElem_cons_succ, List.getElem_cons_zero, Act.put, List.setIfInBounds_toArray, List.set_cons_zero, List.set_cons_succ]
        refine wpAnyH_take (i := 17) (v := ?_) rfl (by kernel_rfl) (by kernel_rfl) (by kernel_rfl) (fun _ _ _ h => h) (Or.inl ⟨by rfl, ?_⟩) (by exact hS9 _ hk0) ?_
        rotate_left
        focus
          intro U hU
          try dsimp only at hU
          go_simp
          try (with_reducible rfl)
        simp only [List.getElem_toArray, List.getElem_cons_succ, List.getElem_cons_zero, Act.put, List.setIfInBounds_toArray, List.set_cons_zero, List.set_cons_succ]
        refine wpAnyH_take (i := 18) (v := ?_) rfl (by kernel_rfl) (by kernel_rfl) (by kernel_rfl) (fun _ _ _ h => h) (Or.inl ⟨by rfl, ?_⟩) (by exact hS9 _ hk0) ?_
        rotate_left
        focus
          intro U hU
          try dsimp only at hU
          go_simp
          try (with_reducible rfl)
        simp only [List.getElem_toArray, List.getElem_cons_succ, List.getElem_cons_zero, Act.put, List.setIfInBounds_toArray, List.set_cons_zero, List.set_cons_succ]
        have hc22 : v5.cell? ⟨g, 22, none⟩ = some (.slice (some ⟨bD, oD, none⟩) x.w.length cd) := by
          have h9 := (HX2.out.keep hk0).1
          simp only [prc] at h9
          exact (pair_cells h9).1.2.2.2.2.2.2.2.2.2.2.2.2.2.2.2.2.2.2.2.2.2.2.1
        have hF6 : v5.frozen? ⟨g, 22, none⟩ = false := frozen_of_row _ g 22 _ _ (HX2.out.keep hk0).1
        refine wpAnyH_ready (rs := [19]) (by kernel_rfl) (by simp) ?_
        refine (AllReadyH.cons rfl (fun K hK => ?_) AllReadyH.nil)
        simp only [List.getElem_toArray, List.getElem_cons_succ, List.getElem_cons_zero]
        go_simp
        refine hK.out _ _ ?_ (fun hHeld2 => ?_)
        focus
          exact (hS9 _ hk0).setCell (p := ⟨g, 22, none⟩) HX2.out.2.1 _
        clear hHeld
        have hHeld := hHeld2
        clear hHeld2 hK K
        try simp only [List.getElem_toArray, List.getElem_cons_succ, List.getElem_cons_zero, Act.put, List.setIfInBounds_toArray, List.set_cons_zero, List.set_cons_succ]
        refine wpAnyH_done (by kernel_rfl) ?_ _
        clear hHeld hS9 hrun1 hrun2 hw
        have hx9 := (HX2.out.keep hk0).setWay (l := x.w.take k ++ x.w.drop (k + 1)) HNN.out (Mid.of_own (own_mono HE.out HX2.out.2.2.2.2.2.size))
        have hp9 := (Below.heap_setCell v5 ⟨g, 22, none⟩ (.slice A6 (k + (x.w.length - (k + 1))) c6) Pb (blk_ne HX2.out.1 HP2.out (by decide))).trans (keep0 HP2.out hk0)
        have ha9 := (Below.heap_setCell v5 ⟨g, 22, none⟩ (.slice A6 (k + (x.w.length - (k + 1))) c6) Bx (blk_ne HX2.out.1 HA2.out (by decide))).trans (keep0 HA2.out hk0)
        clear hk0 HE HX2 HP2 HA2 HTK HTD hF6 hc22
        go_wp2_with fail
        go_meet
        exact ⟨ha9, hp9, A6, c6, hx9⟩
    · skip
      have hc22 : v1.cell? ⟨g, 22, none⟩ = some (.slice (some ⟨bD, oD, none⟩) x.w.length cd) := by
        have h9 := (HX2.out.keep hk0).1
        simp only [prc] at h9
        exact (pair_cells h9).1.2.2.2.2.2.2.2.2.2.2.2.2.2.2.2.2.2.2.2.2.2.2.1
      simp only [List.getElem_toArray, List.getElem_cons_succ, List.getElem_cons_zero]
      go_simp
      clear hc22
      refine hK.out _ _ ?_ (fun hHeld2 => ?_)
      focus
        exact hS9 _ hk0
      clear hHeld
      have hHeld := hHeld2
      clear hHeld2 hK K
      try simp only [List.getElem_toArray, List.getElem_cons_succ, List.getElem_cons_zero, Act.put, List.setIfInBounds_toArray, List.set_cons_zero, List.set_cons_succ]
      refine wpAnyH_take (i := 15) (v := ?_) rfl (by kernel_rfl) (by kernel_rfl) (by kernel_rfl) (fun _ _ _ h => h) (Or.inl ⟨by rfl, ?_⟩) (by exact hS9 _ hk0) ?_
      rotate_left
      focus
        intro U hU
        try dsimp only at hU
        go_simp
        try (with_reducible rfl)
      simp only [List.getElem_toArray, List.getElem_cons_succ, List.getElem_cons_zero, Act.put, List.setIfInBounds_toArray, List.set_cons_zero, List.set_cons_succ]
      refine wpAnyH_ready (rs := [5]) (by kernel_rfl) (by simp) ?_
      refine (AllReadyH.cons rfl (fun K hK => ?_) AllReadyH.nil)
      have hc22 : v1.cell? ⟨g, 22, none⟩ = some (.slice (some ⟨bD, oD, none⟩) x.w.length cd) := by
        have h9 := (HX2.out.keep hk0).1
        simp only [prc] at h9
        exact (pair_cells h9).1.2.2.2.2.2.2.2.2.2.2.2.2.2.2.2.2.2.2.2.2.2.2.1
      simp only [List.getElem_toArray, List.getElem_cons_succ, List.getElem_cons_zero]
      go_simp
      clear hc22
      refine hK.out _ _ ?_ (fun hHeld2 => ?_)
      focus
        exact hS9 _ hk0
      clear hHeld
      have hHeld := hHeld2
      clear hHeld2 hK K
      try simp only [List.getElem_toArray, List.getElem_cons_succ, List.getElem_cons_zero, Act.put, List.setIfInBounds_toArray, List.set_cons_zero, List.set_cons_succ]
      refine wpAnyH_take (i := 7) (v := ?_) rfl (by kernel_rfl) (by kernel_rfl) (by kernel_rfl) (fun _ _ _ h => h) (Or.inl ⟨by rfl, ?_⟩) (by exact hS9 _ hk0) ?_
      rotate_left
      focus
        intro U hU
        try dsimp only at hU
        go_simp
        try (with_reducible rfl)
      simp only [List.getElem_toArray, List.getElem_cons_succ, List.getElem_cons_zero, Act.put, List.setIfInBounds_toArray, List.set_cons_zero, List.set_cons_succ]
      refine wpAnyH_ready (rs := [8]) (by kernel_rfl) (by simp) ?_
      refine (AllReadyH.cons rfl (fun K hK => ?_) AllReadyH.nil)
      refine step_append_sl rfl (.tmp 64) (.tmp 70) 56 rfl u2.heap.size 71 Try.underlying56 info_pkt rfl (by omega) rfl HE.out rfl (HTK.out _ hk0) (pkc_one _) (by unfold maxLen; omega) (by omega) hk0.size ?_
      intro vv5 v6 ho5 hb5 hsz5 hk5
      simp only [Nat.zero_add, List.nil_append] at ho5
      obtain ⟨A5, c5, rfl, _⟩ := Sl.of_own ho5
      clear HE
      have HE := hid ho5
      replace hk0 := hk0.trans hb5
      clear hb5 hsz5 hk5 ho5
      simp only [List.getElem_toArray, List.getElem_cons_succ, List.getElem_cons_zero]
      refine hK.out _ _ ?_ (fun hHeld2 => ?_)
      focus
        exact hS9 _ hk0
      clear hHeld
      have hHeld := hHeld2
      clear hHeld2 hK K
      try simp only [List.getElem_toArray, List.getElem_cons_succ, List.getElem_cons_zero, Act.put, List.setIfInBounds_toArray, List.set_cons_zero, List.set_cons_succ]
      refine wpAnyH_ready (rs := [16]) (by kernel_rfl) (by simp) ?_
      refine (AllReadyH.cons rfl (fun K hK => ?_) AllReadyH.nil)
      refine step_append_sl rfl (.tmp 71) (.tmp 78) 56 rfl u2.heap.size 71 Try.underlying56 info_pkt rfl (by omega) rfl HE.out rfl (HTD.out _ hk0) (pkc_one _) (by unfold maxLen; omega) (by omega) hk0.size ?_
      intro vv6 v7 ho6 hb6 hsz6 hk6
      rw [← gcells_append] at ho6
      obtain ⟨A6, c6, rfl, _⟩ := Sl.of_own ho6
      clear HE
      have HE := hid ho6
      replace hk0 := hk0.trans hb6
      clear hb6 hsz6 hk6 ho6
      simp only [List.getElem_toArray, List.getElem_cons_succ, List.getElem_cons_zero]
      refine hK.out _ _ ?_ (fun hHeld2 => ?_)
      focus
        exact hS9 _ hk0
      clear hHeld
      have hHeld := hHeld2
      clear hHeld2 hK K
      try simp only [List.getElem_toArray, List.getElem_cons_succ, List.getElem_cons_zero, Act.put, List.setIfInBounds_toArray, List.set_cons_zero, List.set_cons_succ]
      refine wpAnyH_take (i := 17) (v := ?_) rfl (by kernel_rfl) (by kernel_rfl) (by kernel_rfl) (fun _ _ _ h => h) (Or.inl ⟨by rfl, ?_⟩) (by exact hS9 _ hk0) ?_
      rotate_left
      focus
        intro U hU
        try dsimp only at hU
        go_simp
        try (with_reducible rfl)
      simp only [List.getElem_toArray, List.getElem_cons_succ, List.getElem_cons_zero, Act.put, List.setIfInBounds_toArray, List.set_cons_zero, List.set_cons_succ]
      refine wpAnyH_take (i := 18) (v := ?_) rfl (by kernel_rfl) (by kernel_rfl) (by kernel_rfl) (fun _ _ _ h => h) (Or.inl ⟨by rfl, ?_⟩) (by exact hS9 _ hk0) ?_
      rotate_left
      focus
        intro U hU
        try dsimp only at hU
        go_simp
        try (with_reducible rfl)
      simp only [List.getElem_toArray, List.getElem_cons_succ, List.getElem_cons_zero, Act.put, List.setIfInBounds_toArray, List.set_cons_zero, List.set_cons_succ]
      have hc22 : v7.cell? ⟨g, 22, none⟩ = some (.slice (some ⟨bD, oD, none⟩) x.w.length cd) := by
        have h9 := (HX2.out.keep hk0).1
        simp only [prc] at h9
        exact (pair_cells h9).1.2.2.2.2.2.2.2.2.2.2.2.2.2.2.2.2.2.2.2.2.2.2.1
      have hF6 : v7.frozen? ⟨g, 22, none⟩ = false := frozen_of_row _ g 22 _ _ (HX2.out.keep hk0).1
      refine wpAnyH_ready (rs := [19]) (by kernel_rfl) (by simp) ?_
      refine (AllReadyH.cons rfl (fun K hK => ?_) AllReadyH.nil)
      simp only [List.getElem_toArray, List.getElem_cons_succ, List.getElem_cons_zero]
      go_simp
      refine hK.out _ _ ?_ (fun hHeld2 => ?_)
      focus
        exact (hS9 _ hk0).setCell (p := ⟨g, 22, none⟩) HX2.out.2.1 _
      clear hHeld
      have hHeld := hHeld2
      clear hHeld2 hK K
      try simp only [List.getElem_toArray, List.getElem_cons_succ, List.getElem_cons_zero, Act.put, List.setIfInBounds_toArray, List.set_cons_zero, List.set_cons_succ]
      refine wpAnyH_done (by kernel_rfl) ?_ _
      clear hHeld hS9 hrun1 hrun2 hw
      have hx9 := (HX2.out.keep hk0).setWay (l := x.w.take k ++ x.w.drop (k + 1)) HNN.out (Mid.of_own (own_mono HE.out HX2.out.2.2.2.2.2.size))
      have hp9 := (Below.heap_setCell v7 ⟨g, 22, none⟩ (.slice A6 (k + (x.w.length - (k + 1))) c6) Pb (blk_ne HX2.out.1 HP2.out (by decide))).trans (keep0 HP2.out hk0)
      have ha9 := (Below.heap_setCell v7 ⟨g, 22, none⟩ (.slice A6 (k + (x.w.length - (k + 1))) c6) Bx (blk_ne HX2.out.1 HA2.out (by decide))).trans (keep0 HA2.out hk0)
      clear hk0 HE HX2 HP2 HA2 HTK HTD hF6 hc22
      go_wp2_with fail
      go_meet
      exact ⟨ha9, hp9, A6, c6, hx9⟩
  · skip
    have hc22 : q0.cell? ⟨g, 22, none⟩ = some (.slice (some ⟨bD, oD, none⟩) x.w.length cd) := by
      have h9 := (HX2.out.keep hk0).1
      simp only [prc] at h9
      exact (pair_cells h9).1.2.2.2.2.2.2.2.2.2.2.2.2.2.2.2.2.2.2.2.2.2.2.1
    simp only [List.getElem_toArray, List.getElem_cons_succ, List.getElem_cons_zero]
    go_simp
    clear hc22
    refine hK.out _ _ ?_ (fun hHeld2 => ?_)
    focus
      exact hS9 _ hk0
    clear hHeld
    have hHeld := hHeld2
    clear hHeld2 hK K
    try simp only [List.getElem_toArray, List.getElem_cons_succ, List.getElem_cons_zero, Act.put, List.setIfInBounds_toArray, List.set_cons_zero, List.set_cons_succ]
    refine wpAnyH_take (i := 7) (v := ?_) rfl (by kernel_rfl) (by kernel_rfl) (by kernel_rfl) (fun _ _ _ h => h) (Or.inl ⟨by rfl, ?_⟩) (by exact hS9 _ hk0) ?_
    rotate_left
    focus
      intro U hU
      try dsimp only at hU
      go_simp
      try (with_reducible rfl)
    simp only [List.getElem_toArray, List.getElem_cons_succ, List.getElem_cons_zero, Act.put, List.setIfInBounds_toArray, List.set_cons_zero, List.set_cons_succ]
    refine wpAnyH_ready (rs := [1, 12]) (by kernel_rfl) (by simp) ?_
    refine (AllReadyH.cons rfl (fun K hK => ?_) (AllReadyH.cons rfl (fun K hK => ?_) AllReadyH.nil))
    · skip
      have hbs : Below (World.heap q0).size q0 (World.alloc q0 (.cells #[] 71)) := (Below.refl _ _).alloc (Nat.le_refl _) _
      have HE := hid (own_mono (own_empty q0 71 7) hk0.size)
      replace hk0 := hk0.trans (hbs.mono hk0.size)
      clear hbs
      simp only [List.getElem_toArray, List.getElem_cons_succ, List.getElem_cons_zero]
      go_simp
      refine hK.out _ _ ?_ (fun hHeld2 => ?_)
      focus
        exact hS9 _ hk0
      clear hHeld
      have hHeld := hHeld2
      clear hHeld2 hK K
      try simp only [List.getElem_toArray, List.getElem_cons_succ, List.getElem_cons_zero, Act.put, List.setIfInBounds_toArray, List.set_cons_zero, List.set_cons_succ]
      generalize (World.alloc q0 (.cells #[] 71)) = v8 at *
      generalize (World.heap q0).size = XE at *
      refine wpAnyH_ready (rs := [8, 12]) (by kernel_rfl) (by simp) ?_
      refine (AllReadyH.cons rfl (fun K hK => ?_) (AllReadyH.cons rfl (fun K hK => ?_) AllReadyH.nil))
      · skip
        refine step_append_sl rfl (.tmp 64) (.tmp 70) 56 rfl u2.heap.size 71 Try.underlying56 info_pkt rfl (by omega) rfl HE.out rfl (HTK.out _ hk0) (pkc_one _) (by unfold maxLen; omega) (by omega) hk0.size ?_
        intro vv5 v9 ho5 hb5 hsz5 hk5
        simp only [Nat.zero_add, List.nil_append] at ho5
        obtain ⟨A5, c5, rfl, _⟩ := Sl.of_own ho5
        clear HE
        have HE := hid ho5
        replace hk0 := hk0.trans hb5
        clear hb5 hsz5 hk5 ho5
        simp only [List.getElem_toArray, List.getElem_cons_succ, List.getElem_cons_zero]
        refine hK.out _ _ ?_ (fun hHeld2 => ?_)
        focus
          exact hS9 _ hk0
        clear hHeld
        have hHeld := hHeld2
        clear hHeld2 hK K
        try simp only [List.getElem_toArray, List.getElem_cons_succ, List.getElem_cons_zero, Act.put, List.setIfInBounds_toArray, List.set_cons_zero, List.set_cons_succ]
        refine wpAnyH_ready (rs := [12]) (by kernel_rfl) (by simp) ?_
        refine (AllReadyH.cons rfl (fun K hK => ?_) AllReadyH.nil)
        have hc22 : v9.cell? ⟨g, 22, none⟩ = some (.slice (some ⟨bD, oD, none⟩) x.w.length cd) := by
          have h9 := (HX2.out.keep hk0).1
          simp only [prc] at h9
          exact (pair_cells h9).1.2.2.2.2.2.2.2.2.2.2.2.2.2.2.2.2.2.2.2.2.2.2.1
        simp only [List.getElem_toArray, List.getElem_cons_succ, List.getElem_cons_zero]
        go_simp
        clear hc22
        refine hK.out _ _ ?_ (fun hHeld2 => ?_)
        focus
          exact hS9 _ hk0
        clear hHeld
        have hHeld := hHeld2
        clear hHeld2 hK K
        try simp only [List.getElem_toArray, List.getElem_cons_succ, List.getElem_cons_zero, Act.put, List.setIfInBounds_toArray, List.set_cons_zero, List.set_cons_succ]
        refine wpAnyH_take (i := 15) (v := ?_) rfl (by kernel_rfl) (by kernel_rfl) (by kernel_rfl) (fun _ _ _ h => h) (Or.inl ⟨by rfl, ?_⟩) (by exact hS9 _ hk0) ?_
        rotate_left
        focus
          intro U hU
          try dsimp only at hU
          go_simp
          try (with_reducible rfl)
        simp only [List.getElem_toArray, List.getElem_cons_succ, List.getElem_cons_zero, Act.put, List.setIfInBounds_toArray, List.set_cons_zero, List.set_cons_succ]
        refine wpAnyH_ready (rs := [16]) (by kernel_rfl) (by simp) ?_
        refine (AllReadyH.cons rfl (fun K hK => ?_) AllReadyH.nil)
        refine step_append_sl rfl (.tmp 71) (.tmp 78) 56 rfl u2.heap.size 71 Try.underlying56 info_pkt rfl (by omega) rfl HE.out rfl (HTD.out _ hk0) (pkc_one _) (by unfold maxLen; omega) (by omega) hk0.size ?_
        intro vv6 v10 ho6 hb6 hsz6 hk6
        rw [← gcells_append] at ho6
        obtain ⟨A6, c6, rfl, _⟩ := Sl.of_own ho6
        clear HE
        have HE := hid ho6
        replace hk0 := hk0.trans hb6
        clear hb6 hsz6 hk6 ho6
        simp only [List.getElem_toArray, List.getElem_cons_succ, List.getElem_cons_zero]
        refine hK.out _ _ ?_ (fun hHeld2 => ?_)
        focus
          exact hS9 _ hk0
        clear hHeld
        have hHeld := hHeld2
        clear hHeld2 hK K
        try simp only [List.getElem_toArray, List.getElem_cons_succ, List.getElem_cons_zero, Act.put, List.setIfInBounds_toArray, List.set_cons_zero, List.set_cons_succ]
        refine wpAnyH_take (i := 17) (v := ?_) rfl (by kernel_rfl) (by kernel_rfl) (by kernel_rfl) (fun _ _ _ h => h) (Or.inl ⟨by rfl, ?_⟩) (by exact hS9 _ hk0) ?_
        rotate_left
        focus
          intro U hU
          try dsimp only at hU
          go_simp
          try (with_reducible rfl)
        simp only [List.getElem_toArray, List.getElem_cons_succ, List.getElem_cons_zero, Act.put, List.setIfInBounds_toArray, List.set_cons_zero, List.set_cons_succ]
        refine wpAnyH_take (i := 18) (v := ?_) rfl (by kernel_rfl) (by kernel_rfl) (by kernel_rfl) (fun _ _ _ h => h) (Or.inl ⟨by rfl, ?_⟩) (by exact hS9 _ hk0) ?_
        rotate_left
        focus
          intro U hU
          try dsimp only at hU
          go_simp
          try (with_reducible rfl)
        simp only [List.getElem_toArray, List.getElem_cons_succ, List.getElem_cons_zero, Act.put, List.setIfInBounds_toArray, List.set_cons_zero, List.set_cons_succ]
        have hc22 : v10.cell? ⟨g, 22, none⟩ = some (.slice (some ⟨bD, oD, none⟩) x.w.length cd) := by
          have h9 := (HX2.out.keep hk0).1
          simp only [prc] at h9
          exact (pair_cells h9).1.2.2.2.2.2.2.2.2.2.2.2.2.2.2.2.2.2.2.2.2.2.2.1
        have hF6 : v10.frozen? ⟨g, 22, none⟩ = false := frozen_of_row _ g 22 _ _ (HX2.out.keep hk0).1
        refine wpAnyH_ready (rs := [19]) (by kernel_rfl) (by simp) ?_
        refine (AllReadyH.cons rfl (fun K hK => ?_) AllReadyH.nil)
        simp only [List.getElem_toArray, List.getElem_cons_succ, List.getElem_cons_zero]
        go_simp
        refine hK.out _ _ ?_ (fun hHeld2 => ?_)
        focus
          exact (hS9 _ hk0).setCell (p := ⟨g, 22, none⟩) HX2.out.2.1 _
        clear hHeld
        have hHeld := hHeld2
        clear hHeld2 hK K
        try simp only [List.getElem_toArray, List.getElem_cons_succ, List.getElem_cons_zero, Act.put, List.setIfInBounds_toArray, List.set_cons_zero, List.set_cons_succ]
        refine wpAnyH_done (by kernel_rfl) ?_ _
        clear hHeld hS9 hrun1 hrun2 hw
        have hx9 := (HX2.out.keep hk0).setWay (l := x.w.take k ++ x.w.drop (k + 1)) HNN.out (Mid.of_own (own_mono HE.out HX2.out.2.2.2.2.2.size))
        have hp9 := (Below.heap_setCell v10 ⟨g, 22, none⟩ (.slice A6 (k + (x.w.length - (k + 1))) c6) Pb (blk_ne HX2.out.1 HP2.out (by decide))).trans (keep0 HP2.out hk0)
        have ha9 := (Below.heap_setCell v10 ⟨g, 22, none⟩ (.slice A6 (k + (x.w.length - (k + 1))) c6) Bx (blk_ne HX2.out.1 HA2.out (by decide))).trans (keep0 HA2.out hk0)
        clear hk0 HE HX2 HP2 HA2 HTK HTD hF6 hc22
        go_wp2_with fail
        go_meet
        exact ⟨ha9, hp9, A6, c6, hx9⟩
      · skip
        have hc22 : v8.cell? ⟨g, 22, none⟩ = some (.slice (some ⟨bD, oD, none⟩) x.w.length cd) := by
          have h9 := (HX2.out.keep hk0).1
          simp only [prc] at h9
          exact (pair_cells h9).1.2.2.2.2.2.2.2.2.2.2.2.2.2.2.2.2.2.2.2.2.2.2.1
        simp only [List.getElem_toArray, List.getElem_cons_succ, List.getElem_cons_zero]
        go_simp
        clear hc22
        refine hK.out _ _ ?_ (fun hHeld2 => ?_)
        focus
          exact hS9 _ hk0
        clear hHeld
        have hHeld := hHeld2
        clear hHeld2 hK K
        try simp only [List.getElem_toArray, List.getElem_cons_succ, List.getElem_cons_zero, Act.put, List.setIfInBounds_toArray, List.set_cons_zero, List.set_cons_succ]
        refine wpAnyH_take (i := 15) (v := ?_) rfl (by kernel_rfl) (by kernel_rfl) (by kernel_rfl) (fun _ _ _ h => h) (Or.inl ⟨by rfl, ?_⟩) (by exact hS9 _ hk0) ?_
        rotate_left
        focus
          intro U hU
          try dsimp only at hU
          go_simp
          try (with_reducible rfl)
        simp only [List.getElem_toArray, List.getElem_cons_succ, List.getElem_cons_zero, Act.put, List.setIfInBounds_toArray, List.set_cons_zero, List.set_cons_succ]
        refine wpAnyH_ready (rs := [8]) (by kernel_rfl) (by simp) ?_
        refine (AllReadyH.cons rfl (fun K hK => ?_) AllReadyH.nil)
        refine step_append_sl rfl (.tmp 64) (.tmp 70) 56 rfl u2.heap.size 71 Try.underlying56 info_pkt rfl (by omega) rfl HE.out rfl (HTK.out _ hk0) (pkc_one _) (by unfold maxLen; omega) (by omega) hk0.size ?_
        intro vv5 v11 ho5 hb5 hsz5 hk5
        simp only [Nat.zero_add, List.nil_append] at ho5
        obtain ⟨A5, c5, rfl, _⟩ := Sl.of_own ho5
        clear HE
        have HE := hid ho5
        replace hk0 := hk0.trans hb5
        clear hb5 hsz5 hk5 ho5
        simp only [List.getElem_toArray, List.getElem_cons_succ, List.getElem_cons_zero]
        refine hK.out _ _ ?_ (fun hHeld2 => ?_)
        focus
          exact hS9 _ hk0
        clear hHeld
        have hHeld := hHeld2
        clear hHeld2 hK K
        try simp only [List.getElem_toArray, List.getElem_cons_succ, List.getElem_cons_zero, Act.put, List.setIfInBounds_toArray, List.set_cons_zero, List.set_cons_succ]
        refine wpAnyH_ready (rs := [16]) (by kernel_rfl) (by simp) ?_
        refine (AllReadyH.cons rfl (fun K hK => ?_) AllReadyH.nil)
        refine step_append_sl rfl (.tmp 71) (.tmp 78) 56 rfl u2.heap.size 71 Try.underlying56 info_pkt rfl (by omega) rfl HE.out rfl (HTD.out _ hk0) (pkc_one _) (by unfold maxLen; omega) (by omega) hk0.size ?_
        intro vv6 v12 ho6 hb6 hsz6 hk6
        rw [← gcells_append] at ho6
        obtain ⟨A6, c6, rfl, _⟩ := Sl.of_own ho6
        clear HE
        have HE := hid ho6
        replace hk0 := hk0.trans hb6
        clear hb6 hsz6 hk6 ho6
        simp only [List.getElem_toArray, List.getElem_cons_succ, List.getElem_cons_zero]
        refine hK.out _ _ ?_ (fun hHeld2 => ?_)
        focus
          exact hS9 _ hk0
        clear hHeld
        have hHeld := hHeld2
        clear hHeld2 hK K
        try simp only [List.getElem_toArray, List.getElem_cons_succ, List.getElem_cons_zero, Act.put, List.setIfInBounds_toArray, List.set_cons_zero, List.set_cons_succ]
        refine wpAnyH_take (i := 17) (v := ?_) rfl (by kernel_rfl) (by kernel_rfl) (by kernel_rfl) (fun _ _ _ h => h) (Or.inl ⟨by rfl, ?_⟩) (by exact hS9 _ hk0) ?_
        rotate_left
        focus
          intro U hU
          try dsimp only at hU
          go_simp
          try (with_reducible rfl)
        simp only [List.getElem_toArray, List.getElem_cons_succ, List.getElem_cons_zero, Act.put, List.setIfInBounds_toArray, List.set_cons_zero, List.set_cons_succ]
        refine wpAnyH_take (i := 18) (v := ?_) rfl (by kernel_rfl) (by kernel_rfl) (by kernel_rfl) (fun _ _ _ h => h) (Or.inl ⟨by rfl, ?_⟩) (by exact hS9 _ hk0) ?_
        rotate_left
        focus
          intro U hU
          try dsimp only at hU
          go_simp
          try (with_reducible rfl)
        simp only [List.getElem_toArray, List.getElem_cons_succ, List.getElem_cons_zero, Act.put, List.setIfInBounds_toArray, List.set_cons_zero, List.set_cons_succ]
        have hc22 : v12.cell? ⟨g, 22, none⟩ = some (.slice (some ⟨bD, oD, none⟩) x.w.length cd) := by
          have h9 := (HX2.out.keep hk0).1
          simp only [prc] at h9
          exact (pair_cells h9).1.2.2.2.2.2.2.2.2.2.2.2.2.2.2.2.2.2.2.2.2.2.2.1
        have hF6 : v12.frozen? ⟨g, 22, none⟩ = false := frozen_of_row _ g 22 _ _ (HX2.out.keep hk0).1
        refine wpAnyH_ready (rs := [19]) (by kernel_rfl) (by simp) ?_
        refine (AllReadyH.cons rfl (fun K hK => ?_) AllReadyH.nil)
        simp only [List.getElem_toArray, List.getElem_cons_succ, List.getElem_cons_zero]
        go_simp
        refine hK.out _ _ ?_ (fun hHeld2 => ?_)
        focus
          exact (hS9 _ hk0).setCell (p := ⟨g, 22, none⟩) HX2.out.2.1 _
        clear hHeld
        have hHeld := hHeld2
        clear hHeld2 hK K
        try simp only [List.getElem_toArray, List.getElem_cons_succ, List.getElem_cons_zero, Act.put, List.setIfInBounds_toArray, List.set_cons_zero, List.set_cons_succ]
        refine wpAnyH_done (by kernel_rfl) ?_ _
        clear hHeld hS9 hrun1 hrun2 hw
        have hx9 := (HX2.out.keep hk0).setWay (l := x.w.take k ++ x.w.drop (k + 1)) HNN.out (Mid.of_own (own_mono HE.out HX2.out.2.2.2.2.2.size))
        have hp9 := (Below.heap_setCell v12 ⟨g, 22, none⟩ (.slice A6 (k + (x.w.length - (k + 1))) c6) Pb (blk_ne HX2.out.1 HP2.out (by decide))).trans (keep0 HP2.out hk0)
        have ha9 := (Below.heap_setCell v12 ⟨g, 22, none⟩ (.slice A6 (k + (x.w.length - (k + 1))) c6) Bx (blk_ne HX2.out.1 HA2.out (by decide))).trans (keep0 HA2.out hk0)
        clear hk0 HE HX2 HP2 HA2 HTK HTD hF6 hc22
        go_wp2_with fail
        go_meet
        exact ⟨ha9, hp9, A6, c6, hx9⟩
    · skip
      have hc22 : q0.cell? ⟨g, 22, none⟩ = some (.slice (some ⟨bD, oD, none⟩) x.w.length cd) := by
        have h9 := (HX2.out.keep hk0).1
        simp only [prc] at h9
        exact (pair_cells h9).1.2.2.2.2.2.2.2.2.2.2.2.2.2.2.2.2.2.2.2.2.2.2.1
      simp only [List.getElem_toArray, List.getElem_cons_succ, List.getElem_cons_zero]
      go_simp
      clear hc22
      refine hK.out _ _ ?_ (fun hHeld2 => ?_)
      focus
        exact hS9 _ hk0
      clear hHeld
      have hHeld := hHeld2
      clear hHeld2 hK K
      try simp only [List.getElem_toArray, List.getElem_cons_succ, List.getElem_cons_zero, Act.put, List.setIfInBounds_toArray, List.set_cons_zero, List.set_cons_succ]
      refine wpAnyH_take (i := 15) (v := ?_) rfl (by kernel_rfl) (by kernel_rfl) (by kernel_rfl) (fun _ _ _ h => h) (Or.inl ⟨by rfl, ?_⟩) (by exact hS9 _ hk0) ?_
      rotate_left
      focus
        intro U hU
        try dsimp only at hU
        go_simp
        try (with_reducible rfl)
      simp only [List.getElem_toArray, List.getElem_cons_succ, List.getElem_cons_zero, Act.put, List.setIfInBounds_toArray, List.set_cons_zero, List.set_cons_succ]
      refine wpAnyH_ready (rs := [1]) (by kernel_rfl) (by simp) ?_
      refine (AllReadyH.cons rfl (fun K hK => ?_) AllReadyH.nil)
      have hbs : Below (World.heap q0).size q0 (World.alloc q0 (.cells #[] 71)) := (Below.refl _ _).alloc (Nat.le_refl _) _
      have HE := hid (own_mono (own_empty q0 71 7) hk0.size)
      replace hk0 := hk0.trans (hbs.mono hk0.size)
      clear hbs
      simp only [List.getElem_toArray, List.getElem_cons_succ, List.getElem_cons_zero]
      go_simp
      refine hK.out _ _ ?_ (fun hHeld2 => ?_)
      focus
        exact hS9 _ hk0
      clear hHeld
      have hHeld := hHeld2
      clear hHeld2 hK K
      try simp only [List.getElem_toArray, List.getElem_cons_succ, List.getElem_cons_zero, Act.put, List.setIfInBounds_toArray, List.set_cons_zero, List.set_cons_succ]
      generalize (World.alloc q0 (.cells #[] 71)) = v13 at *
      generalize (World.heap q0).size = XE at *
      refine wpAnyH_ready (rs := [8]) (by kernel_rfl) (by simp) ?_
      refine (AllReadyH.cons rfl (fun K hK => ?_) AllReadyH.nil)
      refine step_append_sl rfl (.tmp 64) (.tmp 70) 56 rfl u2.heap.size 71 Try.underlying56 info_pkt rfl (by omega) rfl HE.out rfl (HTK.out _ hk0) (pkc_one _) (by unfold maxLen; omega) (by omega) hk0.size ?_
      intro vv5 v14 ho5 hb5 hsz5 hk5
      simp only [Nat.zero_add, List.nil_append] at ho5
      obtain ⟨A5, c5, rfl, _⟩ := Sl.of_own ho5
      clear HE
      have HE := hid ho5
      replace hk0 := hk0.trans hb5
      clear hb5 hsz5 hk5 ho5
      simp only [List.getElem_toArray, List.getElem_cons_succ, List.getElem_cons_zero]
      refine hK.out _ _ ?_ (fun hHeld2 => ?_)
      focus
        exact hS9 _ hk0
      clear hHeld
      have hHeld := hHeld2
      clear hHeld2 hK K
      try simp only [List.getElem_toArray, List.getElem_cons_succ, List.getElem_cons_zero, Act.put, List.setIfInBounds_toArray, List.set_cons_zero, List.set_cons_succ]
      refine wpAnyH_ready (rs := [16]) (by kernel_rfl) (by simp) ?_
      refine (AllReadyH.cons rfl (fun K hK => ?_) AllReadyH.nil)
      refine step_append_sl rfl (.tmp 71) (.tmp 78) 56 rfl u2.heap.size 71 Try.underlying56 info_pkt rfl (by omega) rfl HE.out rfl (HTD.out _ hk0) (pkc_one _) (by unfold maxLen; omega) (by omega) hk0.size ?_
      intro vv6 v15 ho6 hb6 hsz6 hk6
      rw [← gcells_append] at ho6
      obtain ⟨A6, c6, rfl, _⟩ := Sl.of_own ho6
      clear HE
      have HE := hid ho6
      replace hk0 := hk0.trans hb6
      clear hb6 hsz6 hk6 ho6
      simp only [List.getElem_toArray, List.getElem_cons_succ, List.getElem_cons_zero]
      refine hK.out _ _ ?_ (fun hHeld2 => ?_)
      focus
        exact hS9 _ hk0
      clear hHeld
      have hHeld := hHeld2
      clear hHeld2 hK K
      try simp only [List.getElem_toArray, List.getElem_cons_succ, List.getElem_cons_zero, Act.put, List.setIfInBounds_toArray, List.set_cons_zero, List.set_cons_succ]
      refine wpAnyH_take (i := 17) (v := ?_) rfl (by kernel_rfl) (by kernel_rfl) (by kernel_rfl) (fun _ _ _ h => h) (Or.inl ⟨by rfl, ?_⟩) (by exact hS9 _ hk0) ?_
      rotate_left
      focus
        intro U hU
        try dsimp only at hU
        go_simp
        try (with_reducible rfl)
      simp only [List.getElem_toArray, List.getElem_cons_succ, List.getElem_cons_zero, Act.put, List.setIfInBounds_toArray, List.set_cons_zero, List.set_cons_succ]
      refine wpAnyH_take (i := 18) (v := ?_) rfl (by kernel_rfl) (by kernel_rfl) (by kernel_rfl) (fun _ _ _ h => h) (Or.inl ⟨by rfl, ?_⟩) (by exact hS9 _ hk0) ?_
      rotate_left
      focus
        intro U hU
        try dsimp only at hU
        go_simp
        try (with_reducible rfl)
      simp only [List.getElem_toArray, List.getElem_cons_succ, List.getElem_cons_zero, Act.put, List.setIfInBounds_toArray, List.set_cons_zero, List.set_cons_succ]
      have hc22 : v15.cell? ⟨g, 22, none⟩ = some (.slice (some ⟨bD, oD, none⟩) x.w.length cd) := by
        have h9 := (HX2.out.keep hk0).1
        simp only [prc] at h9
        exact (pair_cells h9).1.2.2.2.2.2.2.2.2.2.2.2.2.2.2.2.2.2.2.2.2.2.2.1
      have hF6 : v15.frozen? ⟨g, 22, none⟩ = false := frozen_of_row _ g 22 _ _ (HX2.out.keep hk0).1
      refine wpAnyH_ready (rs := [19]) (by kernel_rfl) (by simp) ?_
      refine (AllReadyH.cons rfl (fun K hK => ?_) AllReadyH.nil)
      simp only [List.getElem_toArray, List.getElem_cons_succ, List.getElem_cons_zero]
      go_simp
      refine hK.out _ _ ?_ (fun hHeld2 => ?_)
      focus
        exact (hS9 _ hk0).setCell (p := ⟨g, 22, none⟩) HX2.out.2.1 _
      clear hHeld
      have hHeld := hHeld2
      clear hHeld2 hK K
      try simp only [List.getElem_toArray, List.getElem_cons_succ, List.getElem_cons_zero, Act.put, List.setIfInBounds_toArray, List.set_cons_zero, List.set_cons_succ]
      refine wpAnyH_done (by kernel_rfl) ?_ _
      clear hHeld hS9 hrun1 hrun2 hw
      have hx9 := (HX2.out.keep hk0).setWay (l := x.w.take k ++ x.w.drop (k + 1)) HNN.out (Mid.of_own (own_mono HE.out HX2.out.2.2.2.2.2.size))
      have hp9 := (Below.heap_setCell v15 ⟨g, 22, none⟩ (.slice A6 (k + (x.w.length - (k + 1))) c6) Pb (blk_ne HX2.out.1 HP2.out (by decide))).trans (keep0 HP2.out hk0)
      have ha9 := (Below.heap_setCell v15 ⟨g, 22, none⟩ (.slice A6 (k + (x.w.length - (k + 1))) c6) Bx (blk_ne HX2.out.1 HA2.out (by decide))).trans (keep0 HA2.out hk0)
      clear hk0 HE HX2 HP2 HA2 HTK HTD hF6 hc22
      go_wp2_with fail
      go_meet
      exact ⟨ha9, hp9, A6, c6, hx9⟩
  · skip
    have hc22 : q0.cell? ⟨g, 22, none⟩ = some (.slice (some ⟨bD, oD, none⟩) x.w.length cd) := by
      have h9 := (HX2.out.keep hk0).1
      simp only [prc] at h9
      exact (pair_cells h9).1.2.2.2.2.2.2.2.2.2.2.2.2.2.2.2.2.2.2.2.2.2.2.1
    simp only [List.getElem_toArray, List.getElem_cons_succ, List.getElem_cons_zero]
    go_simp
    clear hc22
    refine hK.out _ _ ?_ (fun hHeld2 => ?_)
    focus
      exact hS9 _ hk0
    clear hHeld
    have hHeld := hHeld2
    clear hHeld2 hK K
    try simp only [List.getElem_toArray, List.getElem_cons_succ, List.getElem_cons_zero, Act.put, List.setIfInBounds_toArray, List.set_cons_zero, List.set_cons_succ]
    refine wpAnyH_take (i := 15) (v := ?_) rfl (by kernel_rfl) (by kernel_rfl) (by kernel_rfl) (fun _ _ _ h => h) (Or.inl ⟨by rfl, ?_⟩) (by exact hS9 _ hk0) ?_
    rotate_left
    focus
      intro U hU
      try dsimp only at hU
      go_simp
      try (with_reducible rfl)
    simp only [List.getElem_toArray, List.getElem_cons_succ, List.getElem_cons_zero, Act.put, List.setIfInBounds_toArray, List.set_cons_zero, List.set_cons_succ]
    refine wpAnyH_ready (rs := [1, 5]) (by kernel_rfl) (by simp) ?_
    refine (AllReadyH.cons rfl (fun K hK => ?_) (AllReadyH.cons rfl (fun K hK => ?_) AllReadyH.nil))
    · skip
      have hbs : Below (World.heap q0).size q0 (World.alloc q0 (.cells #[] 71)) := (Below.refl _ _).alloc (Nat.le_refl _) _
      have HE := hid (own_mono (own_empty q0 71 7) hk0.size)
      replace hk0 := hk0.trans (hbs.mono hk0.size)
      clear hbs
      simp only [List.getElem_toArray, List.getElem_cons_succ, List.getElem_cons_zero]
      go_simp
      refine hK.out _ _ ?_ (fun hHeld2 => ?_)
      focus
        exact hS9 _ hk0
      clear hHeld
      have hHeld := hHeld2
      clear hHeld2 hK K
      try simp only [List.getElem_toArray, List.getElem_cons_succ, List.getElem_cons_zero, Act.put, List.setIfInBounds_toArray, List.set_cons_zero, List.set_cons_succ]
      generalize (World.alloc q0 (.cells #[] 71)) = v16 at *
      generalize (World.heap q0).size = XE at *
      refine wpAnyH_ready (rs := [5]) (by kernel_rfl) (by simp) ?_
      refine (AllReadyH.cons rfl (fun K hK => ?_) AllReadyH.nil)
      have hc22 : v16.cell? ⟨g, 22, none⟩ = some (.slice (some ⟨bD, oD, none⟩) x.w.length cd) := by
        have h9 := (HX2.out.keep hk0).1
        simp only [prc] at h9
        exact (pair_cells h9).1.2.2.2.2.2.2.2.2.2.2.2.2.2.2.2.2.2.2.2.2.2.2.1
      simp only [List.getElem_toArray, List.getElem_cons_succ, List.getElem_cons_zero]
      go_simp
      clear hc22
      refine hK.out _ _ ?_ (fun hHeld2 => ?_)
      focus
        exact hS9 _ hk0
      clear hHeld
      have hHeld := hHeld2
      clear hHeld2 hK K
      try simp only [List.getElem_toArray, List.getElem_cons_succ, List.getElem_cons_zero, Act.put, List.setIfInBounds_toArray, List.set_cons_zero, List.set_cons_succ]
      refine wpAnyH_take (i := 7) (v := ?_) rfl (by kernel_rfl) (by kernel_rfl) (by kernel_rfl) (fun _ _ _ h => h) (Or.inl ⟨by rfl, ?_⟩) (by exact hS9 _ hk0) ?_
      rotate_left
      focus
        intro U hU
        try dsimp only at hU
        go_simp
        try (with_reducible rfl)
      simp only [List.getElem_toArray, List.getElem_cons_succ, List.getElem_cons_zero, Act.put, List.setIfInBounds_toArray, List.set_cons_zero, List.set_cons_succ]
      refine wpAnyH_ready (rs := [8]) (by kernel_rfl) (by simp) ?_
      refine (AllReadyH.cons rfl (fun K hK => ?_) AllReadyH.nil)
      refine step_append_sl rfl (.tmp 64) (.tmp 70) 56 rfl u2.heap.size 71 Try.underlying56 info_pkt rfl (by omega) rfl HE.out rfl (HTK.out _ hk0) (pkc_one _) (by unfold maxLen; omega) (by omega) hk0.size ?_
      intro vv5 v17 ho5 hb5 hsz5 hk5
      simp only [Nat.zero_add, List.nil_append] at ho5
      obtain ⟨A5, c5, rfl, _⟩ := Sl.of_own ho5
      clear HE
      have HE := hid ho5
      replace hk0 := hk0.trans hb5
      clear hb5 hsz5 hk5 ho5
      simp only [List.getElem_toArray, List.getElem_cons_succ, List.getElem_cons_zero]
      refine hK.out _ _ ?_ (fun hHeld2 => ?_)
      focus
        exact hS9 _ hk0
      clear hHeld
      have hHeld := hHeld2
      clear hHeld2 hK K
      try simp only [List.getElem_toArray, List.getElem_cons_succ, List.getElem_cons_zero, Act.put, List.setIfInBounds_toArray, List.set_cons_zero, List.set_cons_succ]
      refine wpAnyH_ready (rs := [16]) (by kernel_rfl) (by simp) ?_
      refine (AllReadyH.cons rfl (fun K hK => ?_) AllReadyH.nil)
      refine step_append_sl rfl (.tmp 71) (.tmp 78) 56 rfl u2.heap.size 71 Try.underlying56 info_pkt rfl (by omega) rfl HE.out rfl (HTD.out _ hk0) (pkc_one _) (by unfold maxLen; omega) (by omega) hk0.size ?_
      intro vv6 v18 ho6 hb6 hsz6 hk6
      rw [← gcells_append] at ho6
      obtain ⟨A6, c6, rfl, _⟩ := Sl.of_own ho6
      clear HE
      have HE := hid ho6
      replace hk0 := hk0.trans hb6
      clear hb6 hsz6 hk6 ho6
      simp only [List.getElem_toArray, List.getElem_cons_succ, List.getElem_cons_zero]
      refine hK.out _ _ ?_ (fun hHeld2 => ?_)
      focus
        exact hS9 _ hk0
      clear hHeld
      have hHeld := hHeld2
      clear hHeld2 hK K
      try simp only [List.getElem_toArray, List.getElem_cons_succ, List.getElem_cons_zero, Act.put, List.setIfInBounds_toArray, List.set_cons_zero, List.set_cons_succ]
      refine wpAnyH_take (i := 17) (v := ?_) rfl (by kernel_rfl) (by kernel_rfl) (by kernel_rfl) (fun _ _ _ h => h) (Or.inl ⟨by rfl, ?_⟩) (by exact hS9 _ hk0) ?_
      rotate_left
      focus
        intro U hU
        try dsimp only at hU
        go_simp
        try (with_reducible rfl)
      simp only [List.getElem_toArray, List.getElem_cons_succ, List.getElem_cons_zero, Act.put, List.setIfInBounds_toArray, List.set_cons_zero, List.set_cons_succ]
      refine wpAnyH_take (i := 18) (v := ?_) rfl (by kernel_rfl) (by kernel_rfl) (by kernel_rfl) (fun _ _ _ h => h) (Or.inl ⟨by rfl, ?_⟩) (by exact hS9 _ hk0) ?_
      rotate_left
      focus
        intro U hU
        try dsimp only at hU
        go_simp
        try (with_reducible rfl)
      simp only [List.getElem_toArray, List.getElem_cons_succ, List.getElem_cons_zero, Act.put, List.setIfInBounds_toArray, List.set_cons_zero, List.set_cons_succ]
      have hc22 : v18.cell? ⟨g, 22, none⟩ = some (.slice (some ⟨bD, oD, none⟩) x.w.length cd) := by
        have h9 := (HX2.out.keep hk0).1
        simp only [prc] at h9
        exact (pair_cells h9).1.2.2.2.2.2.2.2.2.2.2.2.2.2.2.2.2.2.2.2.2.2.2.1
      have hF6 : v18.frozen? ⟨g, 22, none⟩ = false := frozen_of_row _ g 22 _ _ (HX2.out.keep hk0).1
      refine wpAnyH_ready (rs := [19]) (by kernel_rfl) (by simp) ?_
      refine (AllReadyH.cons rfl (fun K hK => ?_) AllReadyH.nil)
      simp only [List.getElem_toArray, List.getElem_cons_succ, List.getElem_cons_zero]
      go_simp
      refine hK.out _ _ ?_ (fun hHeld2 => ?_)
      focus
        exact (hS9 _ hk0).setCell (p := ⟨g, 22, none⟩) HX2.out.2.1 _
      clear hHeld
      have hHeld := hHeld2
      clear hHeld2 hK K
      try simp only [List.getElem_toArray, List.getElem_cons_succ, List.getElem_cons_zero, Act.put, List.setIfInBounds_toArray, List.set_cons_zero, List.set_cons_succ]
      refine wpAnyH_done (by kernel_rfl) ?_ _
      clear hHeld hS9 hrun1 hrun2 hw
      have hx9 := (HX2.out.keep hk0).setWay (l := x.w.take k ++ x.w.drop (k + 1)) HNN.out (Mid.of_own (own_mono HE.out HX2.out.2.2.2.2.2.size))
      have hp9 := (Below.heap_setCell v18 ⟨g, 22, none⟩ (.slice A6 (k + (x.w.length - (k + 1))) c6) Pb (blk_ne HX2.out.1 HP2.out (by decide))).trans (keep0 HP2.out hk0)
      have ha9 := (Below.heap_setCell v18 ⟨g, 22, none⟩ (.slice A6 (k + (x.w.length - (k + 1))) c6) Bx (blk_ne HX2.out.1 HA2.out (by decide))).trans (keep0 HA2.out hk0)
      clear hk0 HE HX2 HP2 HA2 HTK HTD hF6 hc22
      go_wp2_with fail
      go_meet
      exact ⟨ha9, hp9, A6, c6, hx9⟩
    · skip
      have hc22 : q0.cell? ⟨g, 22, none⟩ = some (.slice (some ⟨bD, oD, none⟩) x.w.length cd) := by
        have h9 := (HX2.out.keep hk0).1
        simp only [prc] at h9
        exact (pair_cells h9).1.2.2.2.2.2.2.2.2.2.2.2.2.2.2.2.2.2.2.2.2.2.2.1
      simp only [List.getElem_toArray, List.getElem_cons_succ, List.getElem_cons_zero]
      go_simp
      clear hc22
      refine hK.out _ _ ?_ (fun hHeld2 => ?_)
      focus
        exact hS9 _ hk0
      clear hHeld
      have hHeld := hHeld2
      clear hHeld2 hK K
      try simp only [List.getElem_toArray, List.getElem_cons_succ, List.getElem_cons_zero, Act.put, List.setIfInBounds_toArray, List.set_cons_zero, List.set_cons_succ]
      refine wpAnyH_take (i := 7) (v := ?_) rfl (by kernel_rfl) (by kernel_rfl) (by kernel_rfl) (fun _ _ _ h => h) (Or.inl ⟨by rfl, ?_⟩) (by exact hS9 _ hk0) ?_
      rotate_left
      focus
        intro U hU
        try dsimp only at hU
        go_simp
        try (with_reducible rfl)
      simp only [List.getElem_toArray, List.getElem_cons_succ, List.getElem_cons_zero, Act.put, List.setIfInBounds_toArray, List.set_cons_zero, List.set_cons_succ]
      refine wpAnyH_ready (rs := [1]) (by kernel_rfl) (by simp) ?_
      refine (AllReadyH.cons rfl (fun K hK => ?_) AllReadyH.nil)
      have hbs : Below (World.heap q0).size q0 (World.alloc q0 (.cells #[] 71)) := (Below.refl _ _).alloc (Nat.le_refl _) _
      have HE := hid (own_mono (own_empty q0 71 7) hk0.size)
      replace hk0 := hk0.trans (hbs.mono hk0.size)
      clear hbs
      simp only [List.getElem_toArray, List.getElem_cons_succ, List.getElem_cons_zero]
      go_simp
      refine hK.out _ _ ?_ (fun hHeld2 => ?_)
      focus
        exact hS9 _ hk0
      clear hHeld
      have hHeld := hHeld2
      clear hHeld2 hK K
      try simp only [List.getElem_toArray, List.getElem_cons_succ, List.getElem_cons_zero, Act.put, List.setIfInBounds_toArray, List.set_cons_zero, List.set_cons_succ]
      generalize (World.alloc q0 (.cells #[] 71)) = v19 at *
      generalize (World.heap q0).size = XE at *
      refine wpAnyH_ready (rs := [8]) (by kernel_rfl) (by simp) ?_
      refine (AllReadyH.cons rfl (fun K hK => ?_) AllReadyH.nil)
      refine step_append_sl rfl (.tmp 64) (.tmp 70) 56 rfl u2.heap.size 71 Try.underlying56 info_pkt rfl (by omega) rfl HE.out rfl (HTK.out _ hk0) (pkc_one _) (by unfold maxLen; omega) (by omega) hk0.size ?_
      intro vv5 v20 ho5 hb5 hsz5 hk5
      simp only [Nat.zero_add, List.nil_append] at ho5
      obtain ⟨A5, c5, rfl, _⟩ := Sl.of_own ho5
      clear HE
      have HE := hid ho5
      replace hk0 := hk0.trans hb5
      clear hb5 hsz5 hk5 ho5
      simp only [List.getElem_toArray, List.getElem_cons_succ, List.getElem_cons_zero]
      refine hK.out _ _ ?_ (fun hHeld2 => ?_)
      focus
        exact hS9 _ hk0
      clear hHeld
      have hHeld := hHeld2
      clear hHeld2 hK K
      try simp only [List.getElem_toArray, List.getElem_cons_succ, List.getElem_cons_zero, Act.put, List.setIfInBounds_toArray, List.set_cons_zero, List.set_cons_succ]
      refine wpAnyH_ready (rs := [16]) (by kernel_rfl) (by simp) ?_
      refine (AllReadyH.cons rfl (fun K hK => ?_) AllReadyH.nil)
      refine step_append_sl rfl (.tmp 71) (.tmp 78) 56 rfl u2.heap.size 71 Try.underlying56 info_pkt rfl (by omega) rfl HE.out rfl (HTD.out _ hk0) (pkc_one _) (by unfold maxLen; omega) (by omega) hk0.size ?_
      intro vv6 v21 ho6 hb6 hsz6 hk6
      rw [← gcells_append] at ho6
      obtain ⟨A6, c6, rfl, _⟩ := Sl.of_own ho6
      clear HE
      have HE := hid ho6
      replace hk0 := hk0.trans hb6
      clear hb6 hsz6 hk6 ho6
      simp only [List.getElem_toArray, List.getElem_cons_succ, List.getElem_cons_zero]
      refine hK.out _ _ ?_ (fun hHeld2 => ?_)
      focus
        exact hS9 _ hk0
      clear hHeld
      have hHeld := hHeld2
      clear hHeld2 hK K
      try simp only [List.getElem_toArray, List.getElem_cons_succ, List.getElem_cons_zero, Act.put, List.setIfInBounds_toArray, List.set_cons_zero, List.set_cons_succ]
      refine wpAnyH_take (i := 17) (v := ?_) rfl (by kernel_rfl) (by kernel_rfl) (by kernel_rfl) (fun _ _ _ h => h) (Or.inl ⟨by rfl, ?_⟩) (by exact hS9 _ hk0) ?_
      rotate_left
      focus
        intro U hU
        try dsimp only at hU
        go_simp
        try (with_reducible rfl)
      simp only [List.getElem_toArray, List.getElem_cons_succ, List.getElem_cons_zero, Act.put, List.setIfInBounds_toArray, List.set_cons_zero, List.set_cons_succ]
      refine wpAnyH_take (i := 18) (v := ?_) rfl (by kernel_rfl) (by kernel_rfl) (by kernel_rfl) (fun _ _ _ h => h) (Or.inl ⟨by rfl, ?_⟩) (by exact hS9 _ hk0) ?_
      rotate_left
      focus
        intro U hU
        try dsimp only at hU
        go_simp
        try (with_reducible rfl)
      simp only [List.getElem_toArray, List.getElem_cons_succ, List.getElem_cons_zero, Act.put, List.setIfInBounds_toArray, List.set_cons_zero, List.set_cons_succ]
      have hc22 : v21.cell? ⟨g, 22, none⟩ = some (.slice (some ⟨bD, oD, none⟩) x.w.length cd) := by
        have h9 := (HX2.out.keep hk0).1
        simp only [prc] at h9
        exact (pair_cells h9).1.2.2.2.2.2.2.2.2.2.2.2.2.2.2.2.2.2.2.2.2.2.2.1
      have hF6 : v21.frozen? ⟨g, 22, none⟩ = false := frozen_of_row _ g 22 _ _ (HX2.out.keep hk0).1
      refine wpAnyH_ready (rs := [19]) (by kernel_rfl) (by simp) ?_
      refine (AllReadyH.cons rfl (fun K hK => ?_) AllReadyH.nil)
      simp only [List.getElem_toArray, List.getElem_cons_succ, List.getElem_cons_zero]
      go_simp
      refine hK.out _ _ ?_ (fun hHeld2 => ?_)
      focus
        exact (hS9 _ hk0).setCell (p := ⟨g, 22, none⟩) HX2.out.2.1 _
      clear hHeld
      have hHeld := hHeld2
      clear hHeld2 hK K
      try simp only [List.getElem_toArray, List.getElem_cons_succ, List.getElem_cons_zero, Act.put, List.setIfInBounds_toArray, List.set_cons_zero, List.set_cons_succ]
      refine wpAnyH_done (by kernel_rfl) ?_ _
      clear hHeld hS9 hrun1 hrun2 hw
      have hx9 := (HX2.out.keep hk0).setWay (l := x.w.take k ++ x.w.drop (k + 1)) HNN.out (Mid.of_own (own_mono HE.out HX2.out.2.2.2.2.2.size))
      have hp9 := (Below.heap_setCell v21 ⟨g, 22, none⟩ (.slice A6 (k + (x.w.length - (k + 1))) c6) Pb (blk_ne HX2.out.1 HP2.out (by decide))).trans (keep0 HP2.out hk0)
      have ha9 := (Below.heap_setCell v21 ⟨g, 22, none⟩ (.slice A6 (k + (x.w.length - (k + 1))) c6) Bx (blk_ne HX2.out.1 HA2.out (by decide))).trans (keep0 HA2.out hk0)
      clear hk0 HE HX2 HP2 HA2 HTK HTD hF6 hc22
      go_wp2_with fail
      go_meet
      exact ⟨ha9, hp9, A6, c6, hx9⟩
end Go.Proofs.Ytdekemlckpbbcaa
