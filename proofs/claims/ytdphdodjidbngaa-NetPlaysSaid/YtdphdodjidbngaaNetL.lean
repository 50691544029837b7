/- The document's net: Twice, Take, Turn. -/
import Derived.Test.YtdphdodjidbngaaNetK
import Derived.Test.YtdphdodjidbngaaNetJ
import Derived.Test.YtdphdodjidbngaaNetE
namespace Go.Proofs.Ytdphdodjidbngaa
open Go.RowKit
set_option linter.unusedVariables false
set_option linter.unusedSimpArgs false

/-- A thing of the document's net, wherever only its block is touched. -/
theorem RnAt.el {B c : Nat} {m : Int} {l : List Tg} {w : World} (h : RnAt B c m l w) (k : Nat) (hk : k < l.length) : ∃ g cap, w.heap[c]? = some (.cells #[.slice (some ⟨g, 0, none⟩) l.length cap, .int .i64 m] 53 (0, 0)) ∧ l.length ≤ cap ∧ (∀ U, Below w.heap.size w U → Sl U 4 (some ⟨g, 0, none⟩) l.length cap (tcells l)) ∧ ∀ U, Tch (fun g => g = c) w U → U.cell? ⟨g, k * 4, none⟩ = some (.int .i64 l[k].from') ∧ U.cell? ⟨g, k * 4 + 1, none⟩ = some (.int .i64 l[k].to') ∧ U.cell? ⟨g, k * 4 + 2, none⟩ = some (.string (str l[k].s)) ∧ U.cell? ⟨g, k * 4 + 3, none⟩ = some (.bool l[k].t) := by
  obtain ⟨h0, A, cap, h1, h2⟩ := h
  obtain ⟨g, cap', hA, _, hn, _⟩ := own_open h2 (by omega) (by omega)
  cases hA
  refine ⟨g, cap, h1, hn, fun U hU => (sl_own h2).below hU, fun U hU => ?_⟩
  have h3 := hU.own h2 (fun g' hg => own_apart_blk h2 h1 (by decide) g' hg)
  obtain ⟨g2, c2, hA, _, _, _, hcl, _⟩ := own_open h3 (by omega) (by omega)
  cases hA
  have hx := tcells_get l k hk
  have y0 := (hcl (k * 4) (by rw [tcells_length]; omega)).1
  have y1 := (hcl (k * 4 + 1) (by rw [tcells_length]; omega)).1
  have y2 := (hcl (k * 4 + 2) (by rw [tcells_length]; omega)).1
  have y3 := (hcl (k * 4 + 3) (by rw [tcells_length]; omega)).1
  rw [List.getElem?_eq_getElem (by rw [tcells_length]; omega), List.getElem?_eq_getElem (by rw [tcells_length]; omega), List.getElem?_eq_getElem (by rw [tcells_length]; omega), List.getElem?_eq_getElem (by rw [tcells_length]; omega)] at hx
  obtain ⟨e0, e1, e2, e3⟩ := hx
  rw [Option.some.inj e0] at y0
  rw [Option.some.inj e1] at y1
  rw [Option.some.inj e2] at y2
  rw [Option.some.inj e3] at y3
  exact ⟨y0, y1, y2, y3⟩
theorem rtwice_out (B c : Nat) (m : Int) (l : List Tg) (k : Int) (W : World) (h : RnAt B c m l W) (hk : k < 0 ∨ (l.length : Int) ≤ k) : Calls Try.prog 31 #[.pointer (some ⟨c, 0, none⟩), .int .i64 k] W fun e w' => e = .returned (.int .i64 6) ∧ W = w' := by
  obtain ⟨h0, A, cap, h1, h2⟩ := h
  obtain ⟨n0, n1, nf0, nf1⟩ := two_cells h1
  clear h0 h1 h2
  by_cases hk0 : k < 0
  · go_enter Try.func31, Try.ntmps31
    go_wp2
    go_ret
    exact ⟨rfl, rfl⟩
  · have hk1 : k ≥ (l.length : Int) := by omega
    go_enter Try.func31, Try.ntmps31
    go_wp2
    go_ret
    exact ⟨rfl, rfl⟩
set_option maxRecDepth 20000 in
set_option maxHeartbeats 4000000 in
theorem rtwice_any (B c : Nat) (m : Int) (l : List Tg) (k : Nat) (W : World) (h : RnAt B c m l W) (hB : B ≤ W.heap.size) (hl : l.length ≤ 100000) (hk : k < l.length) : Calls Try.prog 31 #[.pointer (some ⟨c, 0, none⟩), .int .i64 (k : Int)] W fun e w' => e = .returned (.int .i64 0) ∧ RnAt B c m (if (l.length : Int) < m then l ++ [l[k]] else l) w' ∧ Tch (fun g => g = c) W w' := by
  have HN := hid h
  have HCB := hid h.1
  obtain ⟨g, cap, h1, hcap, hsl, hel⟩ := h.el k hk
  have HSL0 := hid hsl
  have HEL := hid hel
  have HC0 := hid h1
  obtain ⟨n0, n1, nf0, nf1⟩ := two_cells h1
  have hk2 : (k : Int) < (l.length : Int) := by omega
  have hk0 : ¬ (k : Int) < 0 := by omega
  obtain ⟨x, hx⟩ : ∃ x, l[k] = x := ⟨_, rfl⟩
  rw [hx] at HEL ⊢
  clear h h1 hsl hel hx
  obtain ⟨f, t, s, tb⟩ := x
  simp only at HEL
  obtain ⟨LL, hLL⟩ : ∃ LL, (if (l.length : Int) < m then l ++ [Tg.mk f t s tb] else l) = LL := ⟨_, rfl⟩
  rw [hLL]
  have HLL := hid hLL
  clear hLL
  go_enter Try.func31, Try.ntmps31
  go_upto_region 3 with (fail)
  by_cases hm : (l.length : Int) < m
  · have HV : Hid (LL = l ++ [Tg.mk f t s tb]) := hid (by rw [← HLL.out, if_pos hm])
    go_upto_region 4 with (first | fail | go_quiet (fail))
    have hb1 := below_drewN1 W nq
    have hu1 : Below W.heap.size W (W.drewN nq).drew := below_drew hb1
    have HC := hid (keep0 HC0.out hu1)
    have HSL : Hid (∀ U, Below (W.drewN nq).drew.heap.size (W.drewN nq).drew U → Sl U 4 (some ⟨g, 0, none⟩) l.length cap (tcells l)) := hid (fun U hU => HSL0.out U (hu1.trans hU))
    have HSB := hid (show B ≤ (W.drewN nq).drew.heap.size from hB)
    have HT4 : Hid (Tch (fun g => g = c) W (W.drewN nq).drew) := hid (Tch.of_below hu1)
    clear n0 n1 nf0 nf1 hb1
    have hS : ∀ U, Tch (fun g => g = c) (W.drewN nq).drew U → ((U.cell? ⟨g, k * 4, none⟩ = some (.int .i64 f) ∧ U.cell? ⟨g, k * 4 + 1, none⟩ = some (.int .i64 t) ∧ U.cell? ⟨g, k * 4 + 2, none⟩ = some (.string (str s)) ∧ U.cell? ⟨g, k * 4 + 3, none⟩ = some (.bool tb)) ∧ Tch (fun g => g = c) (W.drewN nq).drew U) := fun U hU => ⟨HEL.out U ((Tch.of_below hu1).trans hU (fun g hg _ => hg)), hU⟩
    refine wp_region_held_drew (S := fun U => (U.cell? ⟨g, k * 4, none⟩ = some (.int .i64 f) ∧ U.cell? ⟨g, k * 4 + 1, none⟩ = some (.int .i64 t) ∧ U.cell? ⟨g, k * 4 + 2, none⟩ = some (.string (str s)) ∧ U.cell? ⟨g, k * 4 + 3, none⟩ = some (.bool tb)) ∧ Tch (fun g => g = c) (W.drewN nq).drew U) (by kernel_rfl) (hS _ (Tch.refl _ _)) (fun hHeld => ?_)
    clear hu1
    generalize (W.drewN nq).drew = w0 at *
    have hk : Below w0.heap.size w0 w0 := Below.refl _ _
    obtain ⟨bs, hbs9⟩ : ∃ n, n = w0.heap.size := ⟨_, rfl⟩
    have HBS := hid hbs9
    clear hbs9
    refine wpAnyH_take (i := 0) (v := ?_) rfl (by kernel_rfl) (by kernel_rfl) (by kernel_rfl) (fun _ _ _ h => h) (Or.inl ⟨by rfl, ?_⟩) (by assumption) ?_
    rotate_left
    focus
      intro U hU
      try dsimp only at hU
      go_simp
      try (with_reducible rfl)
    simp only [List.getElem_toArray, List.getElem_cons_succ, List.getElem_cons_zero, Act.put, List.setIfInBounds_toArray, List.set_cons_zero, List.set_cons_succ]
    refine wpAnyH_take (i := 2) (v := ?_) rfl (by kernel_rfl) (by kernel_rfl) (by kernel_rfl) (fun _ _ _ h => h) (Or.inl ⟨by rfl, ?_⟩) (by assumption) ?_
    rotate_left
    focus
      intro U hU
      try dsimp only at hU
      go_simp
      try (with_reducible rfl)
    simp only [List.getElem_toArray, List.getElem_cons_succ, List.getElem_cons_zero, Act.put, List.setIfInBounds_toArray, List.set_cons_zero, List.set_cons_succ]
    refine wpAnyH_take (i := 3) (v := ?_) rfl (by kernel_rfl) (by kernel_rfl) (by kernel_rfl) (fun _ _ _ h => h) (Or.inl ⟨by rfl, ?_⟩) (by assumption) ?_
    rotate_left
    focus
      intro U hU
      try dsimp only at hU
      go_simp
      try (with_reducible rfl)
    simp only [List.getElem_toArray, List.getElem_cons_succ, List.getElem_cons_zero, Act.put, List.setIfInBounds_toArray, List.set_cons_zero, List.set_cons_succ]
    refine wpAnyH_take (i := 4) (v := ?_) rfl (by kernel_rfl) (by kernel_rfl) (by kernel_rfl) (fun _ _ _ h => h) (Or.inl ⟨by rfl, ?_⟩) (by assumption) ?_
    rotate_left
    focus
      intro U hU
      try dsimp only at hU
      go_simp
      try (with_reducible rfl)
    simp only [List.getElem_toArray, List.getElem_cons_succ, List.getElem_cons_zero, Act.put, List.setIfInBounds_toArray, List.set_cons_zero, List.set_cons_succ]
    refine wpAnyH_take (i := 7) (v := ?_) rfl (by kernel_rfl) (by kernel_rfl) (by kernel_rfl) (fun _ _ _ h => h) (Or.inl ⟨by rfl, ?_⟩) (by assumption) ?_
    rotate_left
    focus
      intro U hU
      try dsimp only at hU
      go_simp
      try (with_reducible rfl)
    simp only [List.getElem_toArray, List.getElem_cons_succ, List.getElem_cons_zero, Act.put, List.setIfInBounds_toArray, List.set_cons_zero, List.set_cons_succ]
    refine wpAnyH_take (i := 8) (v := ?_) rfl (by kernel_rfl) (by kernel_rfl) (by kernel_rfl) (fun _ _ _ h => h) (Or.inl ⟨by rfl, ?_⟩) (by assumption) ?_
    rotate_left
    focus
      intro U hU
      try dsimp only at hU
      go_simp
      try (with_reducible rfl)
    simp only [List.getElem_toArray, List.getElem_cons_succ, List.getElem_cons_zero, Act.put, List.setIfInBounds_toArray, List.set_cons_zero, List.set_cons_succ]
    refine wpAnyH_take (i := 9) (v := ?_) rfl (by kernel_rfl) (by kernel_rfl) (by kernel_rfl) (fun _ _ _ h => h) (Or.inl ⟨by rfl, ?_⟩) (by assumption) ?_
    rotate_left
    focus
      intro U hU
      try dsimp only at hU
      go_simp
      try (with_reducible rfl)
    simp only [List.getElem_toArray, List.getElem_cons_succ, List.getElem_cons_zero, Act.put, List.setIfInBounds_toArray, List.set_cons_zero, List.set_cons_succ]
    refine wpAnyH_take (i := 11) (v := ?_) rfl (by kernel_rfl) (by kernel_rfl) (by kernel_rfl) (fun _ _ _ h => h) (Or.inl ⟨by rfl, ?_⟩) (by assumption) ?_
    rotate_left
    focus
      intro U hU
      try dsimp only at hU
      go_simp
      try (with_reducible rfl)
    simp only [List.getElem_toArray, List.getElem_cons_succ, List.getElem_cons_zero, Act.put, List.setIfInBounds_toArray, List.set_cons_zero, List.set_cons_succ]
    refine wpAnyH_ready (rs := [1, 5, 10]) (by kernel_rfl) (by simp) ?_
    refine (AllReadyH.cons rfl (fun K hK => ?_) (AllReadyH.cons rfl (fun K hK => ?_) (AllReadyH.cons rfl (fun K hK => ?_) AllReadyH.nil)))
    · skip
      have hbs : Below (World.heap w0).size w0 (World.alloc w0 (.cells #[] 64)) := (Below.refl _ _).alloc (Nat.le_refl _) _
      have HE := hid (own_mono (own_empty w0 64 4) (show bs ≤ _ from by rw [HBS.out]; exact hk.size))
      have hk9 := hk.trans (hbs.mono hk.size)
      clear hbs
      simp only [List.getElem_toArray, List.getElem_cons_succ, List.getElem_cons_zero]
      go_simp
      refine hK.out _ _ ?_ (fun hHeld2 => ?_)
      focus
        exact hS _ (Tch.of_below hk9)
      clear hHeld
      have hHeld := hHeld2
      clear hHeld2 hK K
      try simp only [List.getElem_toArray, List.getElem_cons_succ, List.getElem_cons_zero, Act.put, List.setIfInBounds_toArray, List.set_cons_zero, List.set_cons_succ]
      replace hk := hk9
      clear hk9
      generalize (World.alloc w0 (.cells #[] 64)) = k1 at *
      generalize hxx : (World.heap w0).size = XE at HE ⊢
      clear hxx
      refine wpAnyH_ready (rs := [5, 10]) (by kernel_rfl) (by simp) ?_
      refine (AllReadyH.cons rfl (fun K hK => ?_) (AllReadyH.cons rfl (fun K hK => ?_) AllReadyH.nil))
      · skip
        obtain ⟨n0, n1, _, _⟩ := two_cells (keep0 HC.out hk)
        simp only [List.getElem_toArray, List.getElem_cons_succ, List.getElem_cons_zero]
        go_simp
        refine hK.out _ _ ?_ (fun hHeld2 => ?_)
        focus
          exact hS _ (Tch.of_below hk)
        clear hHeld
        have hHeld := hHeld2
        clear hHeld2 hK K
        try simp only [List.getElem_toArray, List.getElem_cons_succ, List.getElem_cons_zero, Act.put, List.setIfInBounds_toArray, List.set_cons_zero, List.set_cons_succ]
        clear n0 n1
        refine wpAnyH_ready (rs := [6, 10]) (by kernel_rfl) (by simp) ?_
        refine (AllReadyH.cons rfl (fun K hK => ?_) (AllReadyH.cons rfl (fun K hK => ?_) AllReadyH.nil))
        · skip
          refine step_append_slw rfl (.tmp 27) (.tmp 31) 51 rfl bs 64 Try.underlying51 info_rthing rfl (by omega) rfl HE.out rfl (HSL.out _ hk) (tcells_one _) ?c1 ?c2 (by rw [HBS.out]; exact hk.size) ?_
          case c1 => unfold maxLen; omega
          case c2 => omega
          intro vP k2 hP htP _
          have hkP := hk.trans (HBS.out ▸ htP.below bs (fun g hg _ => (own_lt HE.out g hg).1) (by rw [HBS.out]; exact hk.size))
          replace HE := hid hP
          clear hP htP
          refine hK.out _ _ ?_ (fun hHeld2 => ?_)
          focus
            exact hS _ (Tch.of_below hkP)
          clear hHeld
          have hHeld := hHeld2
          clear hHeld2 hK K
          try simp only [List.getElem_toArray, List.getElem_cons_succ, List.getElem_cons_zero, Act.put, List.setIfInBounds_toArray, List.set_cons_zero, List.set_cons_succ]
          replace hk := hkP
          clear hkP
          refine wpAnyH_ready (rs := [10]) (by kernel_rfl) (by simp) ?_
          refine (AllReadyH.cons rfl (fun K hK => ?_) AllReadyH.nil)
          obtain ⟨n0, n1, _, _⟩ := two_cells (keep0 HC.out hk)
          simp only [List.getElem_toArray, List.getElem_cons_succ, List.getElem_cons_zero]
          go_simp
          refine hK.out _ _ ?_ (fun hHeld2 => ?_)
          focus
            exact hS _ (Tch.of_below hk)
          clear hHeld
          have hHeld := hHeld2
          clear hHeld2 hK K
          try simp only [List.getElem_toArray, List.getElem_cons_succ, List.getElem_cons_zero, Act.put, List.setIfInBounds_toArray, List.set_cons_zero, List.set_cons_succ]
          clear n0 n1
          refine wpAnyH_take (i := 12) (v := ?_) rfl (by kernel_rfl) (by kernel_rfl) (by kernel_rfl) (fun _ _ _ h => h) (Or.inl ⟨by rfl, ?_⟩) (by assumption) ?_
          rotate_left
          focus
            intro U hU
            try dsimp only at hU
            go_simp
            try (with_reducible rfl)
          simp only [List.getElem_toArray, List.getElem_cons_succ, List.getElem_cons_zero, Act.put, List.setIfInBounds_toArray, List.set_cons_zero, List.set_cons_succ]
          refine wpAnyH_take (i := 13) (v := ?_) rfl (by kernel_rfl) (by kernel_rfl) (by kernel_rfl) (fun _ _ _ h => h) (Or.inl ⟨by rfl, ?_⟩) (by assumption) ?_
          rotate_left
          focus
            intro U hU
            try dsimp only at hU
            go_simp
            try (with_reducible rfl)
          simp only [List.getElem_toArray, List.getElem_cons_succ, List.getElem_cons_zero, Act.put, List.setIfInBounds_toArray, List.set_cons_zero, List.set_cons_succ]
          refine wpAnyH_ready (rs := [14]) (by kernel_rfl) (by simp) ?_
          refine (AllReadyH.cons rfl (fun K hK => ?_) AllReadyH.nil)
          have hbs : Below (World.heap k2).size k2 (World.alloc k2 (.cells #[.int .i64 f, .int .i64 t, .string (str s), .bool tb] 64)) := (Below.refl _ _).alloc (Nat.le_refl _) _
          have HL : Hid ((World.alloc k2 (.cells #[.int .i64 f, .int .i64 t, .string (str s), .bool tb] 64)).heap[(World.heap k2).size]? = some (.cells #[.int .i64 f, .int .i64 t, .string (str s), .bool tb] 64 (0, 0))) := hid (heap_alloc_new _ _)
          replace HE := hid (own_keep HE.out hbs)
          have hk9 := hk.trans (hbs.mono hk.size)
          clear hbs
          simp only [List.getElem_toArray, List.getElem_cons_succ, List.getElem_cons_zero]
          go_simp
          refine hK.out _ _ ?_ (fun hHeld2 => ?_)
          focus
            exact hS _ (Tch.of_below hk9)
          clear hHeld
          have hHeld := hHeld2
          clear hHeld2 hK K
          try simp only [List.getElem_toArray, List.getElem_cons_succ, List.getElem_cons_zero, Act.put, List.setIfInBounds_toArray, List.set_cons_zero, List.set_cons_succ]
          replace hk := hk9
          clear hk9
          generalize (World.alloc k2 (.cells #[.int .i64 f, .int .i64 t, .string (str s), .bool tb] 64)) = k3 at *
          generalize hxx : (World.heap k2).size = XL at HL ⊢
          clear hxx
          refine wpAnyH_ready (rs := [15]) (by kernel_rfl) (by simp) ?_
          refine (AllReadyH.cons rfl (fun K hK => ?_) AllReadyH.nil)
          refine step_append_slw rfl (.tmp 32) (.tmp 40) 51 rfl bs 64 Try.underlying51 info_rthing rfl (by omega) rfl HE.out rfl (sl_blk4 HL.out) (by simp [Value.oneCell']) ?c1 ?c2 (by rw [HBS.out]; exact hk.size) ?_
          case c1 => unfold maxLen; omega
          case c2 => omega
          intro vQ k4 hQ htQ _
          have hkQ := hk.trans (HBS.out ▸ htQ.below bs (fun g hg _ => (own_lt HE.out g hg).1) (by rw [HBS.out]; exact hk.size))
          obtain ⟨LQ, hlq⟩ : ∃ n, n = (l ++ [Tg.mk f t s tb]).length := ⟨_, rfl⟩
          have hQ9 : k4.ownsRow bs 64 4 vQ LQ (tcells (l ++ [Tg.mk f t s tb])) := by
            rw [hlq, List.length_append, tcells_append]
            simpa [tcells, tc] using hQ
          have HLQ := hid hlq
          clear hQ hlq
          obtain ⟨A6, c6, rfl, h99⟩ := Sl.of_own hQ9
          clear h99
          have hQ := hQ9
          clear hQ9
          clear HE htQ
          refine hK.out _ _ ?_ (fun hHeld2 => ?_)
          focus
            exact hS _ (Tch.of_below hkQ)
          clear hHeld
          have hHeld := hHeld2
          clear hHeld2 hK K
          try simp only [List.getElem_toArray, List.getElem_cons_succ, List.getElem_cons_zero, Act.put, List.setIfInBounds_toArray, List.set_cons_zero, List.set_cons_succ]
          replace hk := hkQ
          clear hkQ
          refine wpAnyH_take (i := 16) (v := ?_) rfl (by kernel_rfl) (by kernel_rfl) (by kernel_rfl) (fun _ _ _ h => h) (Or.inl ⟨by rfl, ?_⟩) (by assumption) ?_
          rotate_left
          focus
            intro U hU
            try dsimp only at hU
            go_simp
            try (with_reducible rfl)
          simp only [List.getElem_toArray, List.getElem_cons_succ, List.getElem_cons_zero, Act.put, List.setIfInBounds_toArray, List.set_cons_zero, List.set_cons_succ]
          refine wpAnyH_take (i := 17) (v := ?_) rfl (by kernel_rfl) (by kernel_rfl) (by kernel_rfl) (fun _ _ _ h => h) (Or.inl ⟨by rfl, ?_⟩) (by assumption) ?_
          rotate_left
          focus
            intro U hU
            try dsimp only at hU
            go_simp
            try (with_reducible rfl)
          simp only [List.getElem_toArray, List.getElem_cons_succ, List.getElem_cons_zero, Act.put, List.setIfInBounds_toArray, List.set_cons_zero, List.set_cons_succ]
          refine wpAnyH_ready (rs := [18]) (by kernel_rfl) (by simp) ?_
          refine (AllReadyH.cons rfl (fun K hK => ?_) AllReadyH.nil)
          obtain ⟨n0, n1, nf0, nf1⟩ := two_cells (keep0 HC.out hk)
          have hst := (Tch.of_below (S := fun g => g = c) hk).set c 0 (.slice A6 LQ c6) (fun _ => rfl)
          have HFIN := hid (rnAt_set (keep0 HC.out hk) hQ (by rw [HBS.out]; exact HSB.out) HCB.out HLQ.out rfl)
          have HFIN2 := hid (rnAt_set0 (keep0 HC.out hk) hQ HLQ.out rfl)
          simp only [List.getElem_toArray, List.getElem_cons_succ, List.getElem_cons_zero]
          go_simp
          refine hK.out _ _ ?_ (fun hHeld2 => ?_)
          focus
            exact hS _ hst
          clear hHeld
          have hHeld := hHeld2
          clear hHeld2 hK K
          try simp only [List.getElem_toArray, List.getElem_cons_succ, List.getElem_cons_zero, Act.put, List.setIfInBounds_toArray, List.set_cons_zero, List.set_cons_succ]
          clear n0 n1 nf0 nf1 hQ
          refine wpAnyH_done (by kernel_rfl) ?_ _
          clear hHeld hS hk
          have HT5 := hid (HT4.out.trans hst (fun g hg _ => hg))
          clear hst HT4 HC HSL
          generalize World.setCell _ _ _ = w9 at *
          go_wp2
          go_ret
          exact ⟨rfl, by rw [HV.out]; exact HFIN.out, HT5.out⟩
        · skip
          obtain ⟨n0, n1, _, _⟩ := two_cells (keep0 HC.out hk)
          simp only [List.getElem_toArray, List.getElem_cons_succ, List.getElem_cons_zero]
          go_simp
          refine hK.out _ _ ?_ (fun hHeld2 => ?_)
          focus
            exact hS _ (Tch.of_below hk)
          clear hHeld
          have hHeld := hHeld2
          clear hHeld2 hK K
          try simp only [List.getElem_toArray, List.getElem_cons_succ, List.getElem_cons_zero, Act.put, List.setIfInBounds_toArray, List.set_cons_zero, List.set_cons_succ]
          clear n0 n1
          refine wpAnyH_take (i := 12) (v := ?_) rfl (by kernel_rfl) (by kernel_rfl) (by kernel_rfl) (fun _ _ _ h => h) (Or.inl ⟨by rfl, ?_⟩) (by assumption) ?_
          rotate_left
          focus
            intro U hU
            try dsimp only at hU
            go_simp
            try (with_reducible rfl)
          simp only [List.getElem_toArray, List.getElem_cons_succ, List.getElem_cons_zero, Act.put, List.setIfInBounds_toArray, List.set_cons_zero, List.set_cons_succ]
          refine wpAnyH_take (i := 13) (v := ?_) rfl (by kernel_rfl) (by kernel_rfl) (by kernel_rfl) (fun _ _ _ h => h) (Or.inl ⟨by rfl, ?_⟩) (by assumption) ?_
          rotate_left
          focus
            intro U hU
            try dsimp only at hU
            go_simp
            try (with_reducible rfl)
          simp only [List.getElem_toArray, List.getElem_cons_succ, List.getElem_cons_zero, Act.put, List.setIfInBounds_toArray, List.set_cons_zero, List.set_cons_succ]
          refine wpAnyH_ready (rs := [6, 14]) (by kernel_rfl) (by simp) ?_
          refine (AllReadyH.cons rfl (fun K hK => ?_) (AllReadyH.cons rfl (fun K hK => ?_) AllReadyH.nil))
          · skip
            refine step_append_slw rfl (.tmp 27) (.tmp 31) 51 rfl bs 64 Try.underlying51 info_rthing rfl (by omega) rfl HE.out rfl (HSL.out _ hk) (tcells_one _) ?c1 ?c2 (by rw [HBS.out]; exact hk.size) ?_
            case c1 => unfold maxLen; omega
            case c2 => omega
            intro vP k5 hP htP _
            have hkP := hk.trans (HBS.out ▸ htP.below bs (fun g hg _ => (own_lt HE.out g hg).1) (by rw [HBS.out]; exact hk.size))
            replace HE := hid hP
            clear hP htP
            refine hK.out _ _ ?_ (fun hHeld2 => ?_)
            focus
              exact hS _ (Tch.of_below hkP)
            clear hHeld
            have hHeld := hHeld2
            clear hHeld2 hK K
            try simp only [List.getElem_toArray, List.getElem_cons_succ, List.getElem_cons_zero, Act.put, List.setIfInBounds_toArray, List.set_cons_zero, List.set_cons_succ]
            replace hk := hkP
            clear hkP
            refine wpAnyH_ready (rs := [14]) (by kernel_rfl) (by simp) ?_
            refine (AllReadyH.cons rfl (fun K hK => ?_) AllReadyH.nil)
            have hbs : Below (World.heap k5).size k5 (World.alloc k5 (.cells #[.int .i64 f, .int .i64 t, .string (str s), .bool tb] 64)) := (Below.refl _ _).alloc (Nat.le_refl _) _
            have HL : Hid ((World.alloc k5 (.cells #[.int .i64 f, .int .i64 t, .string (str s), .bool tb] 64)).heap[(World.heap k5).size]? = some (.cells #[.int .i64 f, .int .i64 t, .string (str s), .bool tb] 64 (0, 0))) := hid (heap_alloc_new _ _)
            replace HE := hid (own_keep HE.out hbs)
            have hk9 := hk.trans (hbs.mono hk.size)
            clear hbs
            simp only [List.getElem_toArray, List.getElem_cons_succ, List.getElem_cons_zero]
            go_simp
            refine hK.out _ _ ?_ (fun hHeld2 => ?_)
            focus
              exact hS _ (Tch.of_below hk9)
            clear hHeld
            have hHeld := hHeld2
            clear hHeld2 hK K
            try simp only [List.getElem_toArray, List.getElem_cons_succ, List.getElem_cons_zero, Act.put, List.setIfInBounds_toArray, List.set_cons_zero, List.set_cons_succ]
            replace hk := hk9
            clear hk9
            generalize (World.alloc k5 (.cells #[.int .i64 f, .int .i64 t, .string (str s), .bool tb] 64)) = k6 at *
            generalize hxx : (World.heap k5).size = XL at HL ⊢
            clear hxx
            refine wpAnyH_ready (rs := [15]) (by kernel_rfl) (by simp) ?_
            refine (AllReadyH.cons rfl (fun K hK => ?_) AllReadyH.nil)
            refine step_append_slw rfl (.tmp 32) (.tmp 40) 51 rfl bs 64 Try.underlying51 info_rthing rfl (by omega) rfl HE.out rfl (sl_blk4 HL.out) (by simp [Value.oneCell']) ?c1 ?c2 (by rw [HBS.out]; exact hk.size) ?_
            case c1 => unfold maxLen; omega
            case c2 => omega
            intro vQ k7 hQ htQ _
            have hkQ := hk.trans (HBS.out ▸ htQ.below bs (fun g hg _ => (own_lt HE.out g hg).1) (by rw [HBS.out]; exact hk.size))
            obtain ⟨LQ, hlq⟩ : ∃ n, n = (l ++ [Tg.mk f t s tb]).length := ⟨_, rfl⟩
            have hQ9 : k7.ownsRow bs 64 4 vQ LQ (tcells (l ++ [Tg.mk f t s tb])) := by
              rw [hlq, List.length_append, tcells_append]
              simpa [tcells, tc] using hQ
            have HLQ := hid hlq
            clear hQ hlq
            obtain ⟨A6, c6, rfl, h99⟩ := Sl.of_own hQ9
            clear h99
            have hQ := hQ9
            clear hQ9
            clear HE htQ
            refine hK.out _ _ ?_ (fun hHeld2 => ?_)
            focus
              exact hS _ (Tch.of_below hkQ)
            clear hHeld
            have hHeld := hHeld2
            clear hHeld2 hK K
            try simp only [List.getElem_toArray, List.getElem_cons_succ, List.getElem_cons_zero, Act.put, List.setIfInBounds_toArray, List.set_cons_zero, List.set_cons_succ]
            replace hk := hkQ
            clear hkQ
            refine wpAnyH_take (i := 16) (v := ?_) rfl (by kernel_rfl) (by kernel_rfl) (by kernel_rfl) (fun _ _ _ h => h) (Or.inl ⟨by rfl, ?_⟩) (by assumption) ?_
            rotate_left
            focus
              intro U hU
              try dsimp only at hU
              go_simp
              try (with_reducible rfl)
            simp only [List.getElem_toArray, List.getElem_cons_succ, List.getElem_cons_zero, Act.put, List.setIfInBounds_toArray, List.set_cons_zero, List.set_cons_succ]
            refine wpAnyH_take (i := 17) (v := ?_) rfl (by kernel_rfl) (by kernel_rfl) (by kernel_rfl) (fun _ _ _ h => h) (Or.inl ⟨by rfl, ?_⟩) (by assumption) ?_
            rotate_left
            focus
              intro U hU
              try dsimp only at hU
              go_simp
              try (with_reducible rfl)
            simp only [List.getElem_toArray, List.getElem_cons_succ, List.getElem_cons_zero, Act.put, List.setIfInBounds_toArray, List.set_cons_zero, List.set_cons_succ]
            refine wpAnyH_ready (rs := [18]) (by kernel_rfl) (by simp) ?_
            refine (AllReadyH.cons rfl (fun K hK => ?_) AllReadyH.nil)
            obtain ⟨n0, n1, nf0, nf1⟩ := two_cells (keep0 HC.out hk)
            have hst := (Tch.of_below (S := fun g => g = c) hk).set c 0 (.slice A6 LQ c6) (fun _ => rfl)
            have HFIN := hid (rnAt_set (keep0 HC.out hk) hQ (by rw [HBS.out]; exact HSB.out) HCB.out HLQ.out rfl)
            have HFIN2 := hid (rnAt_set0 (keep0 HC.out hk) hQ HLQ.out rfl)
            simp only [List.getElem_toArray, List.getElem_cons_succ, List.getElem_cons_zero]
            go_simp
            refine hK.out _ _ ?_ (fun hHeld2 => ?_)
            focus
              exact hS _ hst
            clear hHeld
            have hHeld := hHeld2
            clear hHeld2 hK K
            try simp only [List.getElem_toArray, List.getElem_cons_succ, List.getElem_cons_zero, Act.put, List.setIfInBounds_toArray, List.set_cons_zero, List.set_cons_succ]
            clear n0 n1 nf0 nf1 hQ
            refine wpAnyH_done (by kernel_rfl) ?_ _
            clear hHeld hS hk
            have HT5 := hid (HT4.out.trans hst (fun g hg _ => hg))
            clear hst HT4 HC HSL
            generalize World.setCell _ _ _ = w9 at *
            go_wp2
            go_ret
            exact ⟨rfl, by rw [HV.out]; exact HFIN.out, HT5.out⟩
          · skip
            have hbs : Below (World.heap k1).size k1 (World.alloc k1 (.cells #[.int .i64 f, .int .i64 t, .string (str s), .bool tb] 64)) := (Below.refl _ _).alloc (Nat.le_refl _) _
            have HL : Hid ((World.alloc k1 (.cells #[.int .i64 f, .int .i64 t, .string (str s), .bool tb] 64)).heap[(World.heap k1).size]? = some (.cells #[.int .i64 f, .int .i64 t, .string (str s), .bool tb] 64 (0, 0))) := hid (heap_alloc_new _ _)
            have HNE : Hid ((World.heap k1).size ≠ XE) := hid (Nat.ne_of_gt (own_lt HE.out _ rfl).2.1)
            replace HE := hid (own_keep HE.out hbs)
            have hk9 := hk.trans (hbs.mono hk.size)
            clear hbs
            simp only [List.getElem_toArray, List.getElem_cons_succ, List.getElem_cons_zero]
            go_simp
            refine hK.out _ _ ?_ (fun hHeld2 => ?_)
            focus
              exact hS _ (Tch.of_below hk9)
            clear hHeld
            have hHeld := hHeld2
            clear hHeld2 hK K
            try simp only [List.getElem_toArray, List.getElem_cons_succ, List.getElem_cons_zero, Act.put, List.setIfInBounds_toArray, List.set_cons_zero, List.set_cons_succ]
            replace hk := hk9
            clear hk9
            generalize (World.alloc k1 (.cells #[.int .i64 f, .int .i64 t, .string (str s), .bool tb] 64)) = k8 at *
            generalize hxx : (World.heap k1).size = XL at HL HNE ⊢
            clear hxx
            refine wpAnyH_ready (rs := [6]) (by kernel_rfl) (by simp) ?_
            refine (AllReadyH.cons rfl (fun K hK => ?_) AllReadyH.nil)
            refine step_append_slw rfl (.tmp 27) (.tmp 31) 51 rfl bs 64 Try.underlying51 info_rthing rfl (by omega) rfl HE.out rfl (HSL.out _ hk) (tcells_one _) ?c1 ?c2 (by rw [HBS.out]; exact hk.size) ?_
            case c1 => unfold maxLen; omega
            case c2 => omega
            intro vP k9 hP htP _
            have hkP := hk.trans (HBS.out ▸ htP.below bs (fun g hg _ => (own_lt HE.out g hg).1) (by rw [HBS.out]; exact hk.size))
            replace HL := hid (htP.block HL.out (fun h => HNE.out (by simpa using (Option.some.inj h).symm)))
            clear HNE
            replace HE := hid hP
            clear hP htP
            refine hK.out _ _ ?_ (fun hHeld2 => ?_)
            focus
              exact hS _ (Tch.of_below hkP)
            clear hHeld
            have hHeld := hHeld2
            clear hHeld2 hK K
            try simp only [List.getElem_toArray, List.getElem_cons_succ, List.getElem_cons_zero, Act.put, List.setIfInBounds_toArray, List.set_cons_zero, List.set_cons_succ]
            replace hk := hkP
            clear hkP
            refine wpAnyH_ready (rs := [15]) (by kernel_rfl) (by simp) ?_
            refine (AllReadyH.cons rfl (fun K hK => ?_) AllReadyH.nil)
            refine step_append_slw rfl (.tmp 32) (.tmp 40) 51 rfl bs 64 Try.underlying51 info_rthing rfl (by omega) rfl HE.out rfl (sl_blk4 HL.out) (by simp [Value.oneCell']) ?c1 ?c2 (by rw [HBS.out]; exact hk.size) ?_
            case c1 => unfold maxLen; omega
            case c2 => omega
            intro vQ k10 hQ htQ _
            have hkQ := hk.trans (HBS.out ▸ htQ.below bs (fun g hg _ => (own_lt HE.out g hg).1) (by rw [HBS.out]; exact hk.size))
            obtain ⟨LQ, hlq⟩ : ∃ n, n = (l ++ [Tg.mk f t s tb]).length := ⟨_, rfl⟩
            have hQ9 : k10.ownsRow bs 64 4 vQ LQ (tcells (l ++ [Tg.mk f t s tb])) := by
              rw [hlq, List.length_append, tcells_append]
              simpa [tcells, tc] using hQ
            have HLQ := hid hlq
            clear hQ hlq
            obtain ⟨A6, c6, rfl, h99⟩ := Sl.of_own hQ9
            clear h99
            have hQ := hQ9
            clear hQ9
            clear HE htQ
            refine hK.out _ _ ?_ (fun hHeld2 => ?_)
            focus
              exact hS _ (Tch.of_below hkQ)
            clear hHeld
            have hHeld := hHeld2
            clear hHeld2 hK K
            try simp only [List.getElem_toArray, List.getElem_cons_succ, List.getElem_cons_zero, Act.put, List.setIfInBounds_toArray, List.set_cons_zero, List.set_cons_succ]
            replace hk := hkQ
            clear hkQ
            refine wpAnyH_take (i := 16) (v := ?_) rfl (by kernel_rfl) (by kernel_rfl) (by kernel_rfl) (fun _ _ _ h => h) (Or.inl ⟨by rfl, ?_⟩) (by assumption) ?_
            rotate_left
            focus
              intro U hU
              try dsimp only at hU
              go_simp
              try (with_reducible rfl)
            simp only [List.getElem_toArray, List.getElem_cons_succ, List.getElem_cons_zero, Act.put, List.setIfInBounds_toArray, List.set_cons_zero, List.set_cons_succ]
            refine wpAnyH_take (i := 17) (v := ?_) rfl (by kernel_rfl) (by kernel_rfl) (by kernel_rfl) (fun _ _ _ h => h) (Or.inl ⟨by rfl, ?_⟩) (by assumption) ?_
            rotate_left
            focus
              intro U hU
              try dsimp only at hU
              go_simp
              try (with_reducible rfl)
            simp only [List.getElem_toArray, List.getElem_cons_succ, List.getElem_cons_zero, Act.put, List.setIfInBounds_toArray, List.set_cons_zero, List.set_cons_succ]
            refine wpAnyH_ready (rs := [18]) (by kernel_rfl) (by simp) ?_
            refine (AllReadyH.cons rfl (fun K hK => ?_) AllReadyH.nil)
            obtain ⟨n0, n1, nf0, nf1⟩ := two_cells (keep0 HC.out hk)
            have hst := (Tch.of_below (S := fun g => g = c) hk).set c 0 (.slice A6 LQ c6) (fun _ => rfl)
            have HFIN := hid (rnAt_set (keep0 HC.out hk) hQ (by rw [HBS.out]; exact HSB.out) HCB.out HLQ.out rfl)
            have HFIN2 := hid (rnAt_set0 (keep0 HC.out hk) hQ HLQ.out rfl)
            simp only [List.getElem_toArray, List.getElem_cons_succ, List.getElem_cons_zero]
            go_simp
            refine hK.out _ _ ?_ (fun hHeld2 => ?_)
            focus
              exact hS _ hst
            clear hHeld
            have hHeld := hHeld2
            clear hHeld2 hK K
            try simp only [List.getElem_toArray, List.getElem_cons_succ, List.getElem_cons_zero, Act.put, List.setIfInBounds_toArray, List.set_cons_zero, List.set_cons_succ]
            clear n0 n1 nf0 nf1 hQ
            refine wpAnyH_done (by kernel_rfl) ?_ _
            clear hHeld hS hk
            have HT5 := hid (HT4.out.trans hst (fun g hg _ => hg))
            clear hst HT4 HC HSL
            generalize World.setCell _ _ _ = w9 at *
            go_wp2
            go_ret
            exact ⟨rfl, by rw [HV.out]; exact HFIN.out, HT5.out⟩
      · skip
        obtain ⟨n0, n1, _, _⟩ := two_cells (keep0 HC.out hk)
        simp only [List.getElem_toArray, List.getElem_cons_succ, List.getElem_cons_zero]
        go_simp
        refine hK.out _ _ ?_ (fun hHeld2 => ?_)
        focus
          exact hS _ (Tch.of_below hk)
        clear hHeld
        have hHeld := hHeld2
        clear hHeld2 hK K
        try simp only [List.getElem_toArray, List.getElem_cons_succ, List.getElem_cons_zero, Act.put, List.setIfInBounds_toArray, List.set_cons_zero, List.set_cons_succ]
        clear n0 n1
        refine wpAnyH_take (i := 12) (v := ?_) rfl (by kernel_rfl) (by kernel_rfl) (by kernel_rfl) (fun _ _ _ h => h) (Or.inl ⟨by rfl, ?_⟩) (by assumption) ?_
        rotate_left
        focus
          intro U hU
          try dsimp only at hU
          go_simp
          try (with_reducible rfl)
        simp only [List.getElem_toArray, List.getElem_cons_succ, List.getElem_cons_zero, Act.put, List.setIfInBounds_toArray, List.set_cons_zero, List.set_cons_succ]
        refine wpAnyH_take (i := 13) (v := ?_) rfl (by kernel_rfl) (by kernel_rfl) (by kernel_rfl) (fun _ _ _ h => h) (Or.inl ⟨by rfl, ?_⟩) (by assumption) ?_
        rotate_left
        focus
          intro U hU
          try dsimp only at hU
          go_simp
          try (with_reducible rfl)
        simp only [List.getElem_toArray, List.getElem_cons_succ, List.getElem_cons_zero, Act.put, List.setIfInBounds_toArray, List.set_cons_zero, List.set_cons_succ]
        refine wpAnyH_ready (rs := [5, 14]) (by kernel_rfl) (by simp) ?_
        refine (AllReadyH.cons rfl (fun K hK => ?_) (AllReadyH.cons rfl (fun K hK => ?_) AllReadyH.nil))
        · skip
          obtain ⟨n0, n1, _, _⟩ := two_cells (keep0 HC.out hk)
          simp only [List.getElem_toArray, List.getElem_cons_succ, List.getElem_cons_zero]
          go_simp
          refine hK.out _ _ ?_ (fun hHeld2 => ?_)
          focus
            exact hS _ (Tch.of_below hk)
          clear hHeld
          have hHeld := hHeld2
          clear hHeld2 hK K
          try simp only [List.getElem_toArray, List.getElem_cons_succ, List.getElem_cons_zero, Act.put, List.setIfInBounds_toArray, List.set_cons_zero, List.set_cons_succ]
          clear n0 n1
          refine wpAnyH_ready (rs := [6, 14]) (by kernel_rfl) (by simp) ?_
          refine (AllReadyH.cons rfl (fun K hK => ?_) (AllReadyH.cons rfl (fun K hK => ?_) AllReadyH.nil))
          · skip
            refine step_append_slw rfl (.tmp 27) (.tmp 31) 51 rfl bs 64 Try.underlying51 info_rthing rfl (by omega) rfl HE.out rfl (HSL.out _ hk) (tcells_one _) ?c1 ?c2 (by rw [HBS.out]; exact hk.size) ?_
            case c1 => unfold maxLen; omega
            case c2 => omega
            intro vP k11 hP htP _
            have hkP := hk.trans (HBS.out ▸ htP.below bs (fun g hg _ => (own_lt HE.out g hg).1) (by rw [HBS.out]; exact hk.size))
            replace HE := hid hP
            clear hP htP
            refine hK.out _ _ ?_ (fun hHeld2 => ?_)
            focus
              exact hS _ (Tch.of_below hkP)
            clear hHeld
            have hHeld := hHeld2
            clear hHeld2 hK K
            try simp only [List.getElem_toArray, List.getElem_cons_succ, List.getElem_cons_zero, Act.put, List.setIfInBounds_toArray, List.set_cons_zero, List.set_cons_succ]
            replace hk := hkP
            clear hkP
            refine wpAnyH_ready (rs := [14]) (by kernel_rfl) (by simp) ?_
            refine (AllReadyH.cons rfl (fun K hK => ?_) AllReadyH.nil)
            have hbs : Below (World.heap k11).size k11 (World.alloc k11 (.cells #[.int .i64 f, .int .i64 t, .string (str s), .bool tb] 64)) := (Below.refl _ _).alloc (Nat.le_refl _) _
            have HL : Hid ((World.alloc k11 (.cells #[.int .i64 f, .int .i64 t, .string (str s), .bool tb] 64)).heap[(World.heap k11).size]? = some (.cells #[.int .i64 f, .int .i64 t, .string (str s), .bool tb] 64 (0, 0))) := hid (heap_alloc_new _ _)
            replace HE := hid (own_keep HE.out hbs)
            have hk9 := hk.trans (hbs.mono hk.size)
            clear hbs
            simp only [List.getElem_toArray, List.getElem_cons_succ, List.getElem_cons_zero]
            go_simp
            refine hK.out _ _ ?_ (fun hHeld2 => ?_)
            focus
              exact hS _ (Tch.of_below hk9)
            clear hHeld
            have hHeld := hHeld2
            clear hHeld2 hK K
            try simp only [List.getElem_toArray, List.getElem_cons_succ, List.getElem_cons_zero, Act.put, List.setIfInBounds_toArray, List.set_cons_zero, List.set_cons_succ]
            replace hk := hk9
            clear hk9
            generalize (World.alloc k11 (.cells #[.int .i64 f, .int .i64 t, .string (str s), .bool tb] 64)) = k12 at *
            generalize hxx : (World.heap k11).size = XL at HL ⊢
            clear hxx
            refine wpAnyH_ready (rs := [15]) (by kernel_rfl) (by simp) ?_
            refine (AllReadyH.cons rfl (fun K hK => ?_) AllReadyH.nil)
            refine step_append_slw rfl (.tmp 32) (.tmp 40) 51 rfl bs 64 Try.underlying51 info_rthing rfl (by omega) rfl HE.out rfl (sl_blk4 HL.out) (by simp [Value.oneCell']) ?c1 ?c2 (by rw [HBS.out]; exact hk.size) ?_
            case c1 => unfold maxLen; omega
            case c2 => omega
            intro vQ k13 hQ htQ _
            have hkQ := hk.trans (HBS.out ▸ htQ.below bs (fun g hg _ => (own_lt HE.out g hg).1) (by rw [HBS.out]; exact hk.size))
            obtain ⟨LQ, hlq⟩ : ∃ n, n = (l ++ [Tg.mk f t s tb]).length := ⟨_, rfl⟩
            have hQ9 : k13.ownsRow bs 64 4 vQ LQ (tcells (l ++ [Tg.mk f t s tb])) := by
              rw [hlq, List.length_append, tcells_append]
              simpa [tcells, tc] using hQ
            have HLQ := hid hlq
            clear hQ hlq
            obtain ⟨A6, c6, rfl, h99⟩ := Sl.of_own hQ9
            clear h99
            have hQ := hQ9
            clear hQ9
            clear HE htQ
            refine hK.out _ _ ?_ (fun hHeld2 => ?_)
            focus
              exact hS _ (Tch.of_below hkQ)
            clear hHeld
            have hHeld := hHeld2
            clear hHeld2 hK K
            try simp only [List.getElem_toArray, List.getElem_cons_succ, List.getElem_cons_zero, Act.put, List.setIfInBounds_toArray, List.set_cons_zero, List.set_cons_succ]
            replace hk := hkQ
            clear hkQ
            refine wpAnyH_take (i := 16) (v := ?_) rfl (by kernel_rfl) (by kernel_rfl) (by kernel_rfl) (fun _ _ _ h => h) (Or.inl ⟨by rfl, ?_⟩) (by assumption) ?_
            rotate_left
            focus
              intro U hU
              try dsimp only at hU
              go_simp
              try (with_reducible rfl)
            simp only [List.getElem_toArray, List.getElem_cons_succ, List.getElem_cons_zero, Act.put, List.setIfInBounds_toArray, List.set_cons_zero, List.set_cons_succ]
            refine wpAnyH_take (i := 17) (v := ?_) rfl (by kernel_rfl) (by kernel_rfl) (by kernel_rfl) (fun _ _ _ h => h) (Or.inl ⟨by rfl, ?_⟩) (by assumption) ?_
            rotate_left
            focus
              intro U hU
              try dsimp only at hU
              go_simp
              try (with_reducible rfl)
            simp only [List.getElem_toArray, List.getElem_cons_succ, List.getElem_cons_zero, Act.put, List.setIfInBounds_toArray, List.set_cons_zero, List.set_cons_succ]
            refine wpAnyH_ready (rs := [18]) (by kernel_rfl) (by simp) ?_
            refine (AllReadyH.cons rfl (fun K hK => ?_) AllReadyH.nil)
            obtain ⟨n0, n1, nf0, nf1⟩ := two_cells (keep0 HC.out hk)
            have hst := (Tch.of_below (S := fun g => g = c) hk).set c 0 (.slice A6 LQ c6) (fun _ => rfl)
            have HFIN := hid (rnAt_set (keep0 HC.out hk) hQ (by rw [HBS.out]; exact HSB.out) HCB.out HLQ.out rfl)
            have HFIN2 := hid (rnAt_set0 (keep0 HC.out hk) hQ HLQ.out rfl)
            simp only [List.getElem_toArray, List.getElem_cons_succ, List.getElem_cons_zero]
            go_simp
            refine hK.out _ _ ?_ (fun hHeld2 => ?_)
            focus
              exact hS _ hst
            clear hHeld
            have hHeld := hHeld2
            clear hHeld2 hK K
            try simp only [List.getElem_toArray, List.getElem_cons_succ, List.getElem_cons_zero, Act.put, List.setIfInBounds_toArray, List.set_cons_zero, List.set_cons_succ]
            clear n0 n1 nf0 nf1 hQ
            refine wpAnyH_done (by kernel_rfl) ?_ _
            clear hHeld hS hk
            have HT5 := hid (HT4.out.trans hst (fun g hg _ => hg))
            clear hst HT4 HC HSL
            generalize World.setCell _ _ _ = w9 at *
            go_wp2
            go_ret
            exact ⟨rfl, by rw [HV.out]; exact HFIN.out, HT5.out⟩
          · skip
            have hbs : Below (World.heap k1).size k1 (World.alloc k1 (.cells #[.int .i64 f, .int .i64 t, .string (str s), .bool tb] 64)) := (Below.refl _ _).alloc (Nat.le_refl _) _
            have HL : Hid ((World.alloc k1 (.cells #[.int .i64 f, .int .i64 t, .string (str s), .bool tb] 64)).heap[(World.heap k1).size]? = some (.cells #[.int .i64 f, .int .i64 t, .string (str s), .bool tb] 64 (0, 0))) := hid (heap_alloc_new _ _)
            have HNE : Hid ((World.heap k1).size ≠ XE) := hid (Nat.ne_of_gt (own_lt HE.out _ rfl).2.1)
            replace HE := hid (own_keep HE.out hbs)
            have hk9 := hk.trans (hbs.mono hk.size)
            clear hbs
            simp only [List.getElem_toArray, List.getElem_cons_succ, List.getElem_cons_zero]
            go_simp
            refine hK.out _ _ ?_ (fun hHeld2 => ?_)
            focus
              exact hS _ (Tch.of_below hk9)
            clear hHeld
            have hHeld := hHeld2
            clear hHeld2 hK K
            try simp only [List.getElem_toArray, List.getElem_cons_succ, List.getElem_cons_zero, Act.put, List.setIfInBounds_toArray, List.set_cons_zero, List.set_cons_succ]
            replace hk := hk9
            clear hk9
            generalize (World.alloc k1 (.cells #[.int .i64 f, .int .i64 t, .string (str s), .bool tb] 64)) = k14 at *
            generalize hxx : (World.heap k1).size = XL at HL HNE ⊢
            clear hxx
            refine wpAnyH_ready (rs := [6]) (by kernel_rfl) (by simp) ?_
            refine (AllReadyH.cons rfl (fun K hK => ?_) AllReadyH.nil)
            refine step_append_slw rfl (.tmp 27) (.tmp 31) 51 rfl bs 64 Try.underlying51 info_rthing rfl (by omega) rfl HE.out rfl (HSL.out _ hk) (tcells_one _) ?c1 ?c2 (by rw [HBS.out]; exact hk.size) ?_
            case c1 => unfold maxLen; omega
            case c2 => omega
            intro vP k15 hP htP _
            have hkP := hk.trans (HBS.out ▸ htP.below bs (fun g hg _ => (own_lt HE.out g hg).1) (by rw [HBS.out]; exact hk.size))
            replace HL := hid (htP.block HL.out (fun h => HNE.out (by simpa using (Option.some.inj h).symm)))
            clear HNE
            replace HE := hid hP
            clear hP htP
            refine hK.out _ _ ?_ (fun hHeld2 => ?_)
            focus
              exact hS _ (Tch.of_below hkP)
            clear hHeld
            have hHeld := hHeld2
            clear hHeld2 hK K
            try simp only [List.getElem_toArray, List.getElem_cons_succ, List.getElem_cons_zero, Act.put, List.setIfInBounds_toArray, List.set_cons_zero, List.set_cons_succ]
            replace hk := hkP
            clear hkP
            refine wpAnyH_ready (rs := [15]) (by kernel_rfl) (by simp) ?_
            refine (AllReadyH.cons rfl (fun K hK => ?_) AllReadyH.nil)
            refine step_append_slw rfl (.tmp 32) (.tmp 40) 51 rfl bs 64 Try.underlying51 info_rthing rfl (by omega) rfl HE.out rfl (sl_blk4 HL.out) (by simp [Value.oneCell']) ?c1 ?c2 (by rw [HBS.out]; exact hk.size) ?_
            case c1 => unfold maxLen; omega
            case c2 => omega
            intro vQ k16 hQ htQ _
            have hkQ := hk.trans (HBS.out ▸ htQ.below bs (fun g hg _ => (own_lt HE.out g hg).1) (by rw [HBS.out]; exact hk.size))
            obtain ⟨LQ, hlq⟩ : ∃ n, n = (l ++ [Tg.mk f t s tb]).length := ⟨_, rfl⟩
            have hQ9 : k16.ownsRow bs 64 4 vQ LQ (tcells (l ++ [Tg.mk f t s tb])) := by
              rw [hlq, List.length_append, tcells_append]
              simpa [tcells, tc] using hQ
            have HLQ := hid hlq
            clear hQ hlq
            obtain ⟨A6, c6, rfl, h99⟩ := Sl.of_own hQ9
            clear h99
            have hQ := hQ9
            clear hQ9
            clear HE htQ
            refine hK.out _ _ ?_ (fun hHeld2 => ?_)
            focus
              exact hS _ (Tch.of_below hkQ)
            clear hHeld
            have hHeld := hHeld2
            clear hHeld2 hK K
            try simp only [List.getElem_toArray, List.getElem_cons_succ, List.getElem_cons_zero, Act.put, List.setIfInBounds_toArray, List.set_cons_zero, List.set_cons_succ]
            replace hk := hkQ
            clear hkQ
            refine wpAnyH_take (i := 16) (v := ?_) rfl (by kernel_rfl) (by kernel_rfl) (by kernel_rfl) (fun _ _ _ h => h) (Or.inl ⟨by rfl, ?_⟩) (by assumption) ?_
            rotate_left
            focus
              intro U hU
              try dsimp only at hU
              go_simp
              try (with_reducible rfl)
            simp only [List.getElem_toArray, List.getElem_cons_succ, List.getElem_cons_zero, Act.put, List.setIfInBounds_toArray, List.set_cons_zero, List.set_cons_succ]
            refine wpAnyH_take (i := 17) (v := ?_) rfl (by kernel_rfl) (by kernel_rfl) (by kernel_rfl) (fun _ _ _ h => h) (Or.inl ⟨by rfl, ?_⟩) (by assumption) ?_
            rotate_left
            focus
              intro U hU
              try dsimp only at hU
              go_simp
              try (with_reducible rfl)
            simp only [List.getElem_toArray, List.getElem_cons_succ, List.getElem_cons_zero, Act.put, List.setIfInBounds_toArray, List.set_cons_zero, List.set_cons_succ]
            refine wpAnyH_ready (rs := [18]) (by kernel_rfl) (by simp) ?_
            refine (AllReadyH.cons rfl (fun K hK => ?_) AllReadyH.nil)
            obtain ⟨n0, n1, nf0, nf1⟩ := two_cells (keep0 HC.out hk)
            have hst := (Tch.of_below (S := fun g => g = c) hk).set c 0 (.slice A6 LQ c6) (fun _ => rfl)
            have HFIN := hid (rnAt_set (keep0 HC.out hk) hQ (by rw [HBS.out]; exact HSB.out) HCB.out HLQ.out rfl)
            have HFIN2 := hid (rnAt_set0 (keep0 HC.out hk) hQ HLQ.out rfl)
            simp only [List.getElem_toArray, List.getElem_cons_succ, List.getElem_cons_zero]
            go_simp
            refine hK.out _ _ ?_ (fun hHeld2 => ?_)
            focus
              exact hS _ hst
            clear hHeld
            have hHeld := hHeld2
            clear hHeld2 hK K
            try simp only [List.getElem_toArray, List.getElem_cons_succ, List.getElem_cons_zero, Act.put, List.setIfInBounds_toArray, List.set_cons_zero, List.set_cons_succ]
            clear n0 n1 nf0 nf1 hQ
            refine wpAnyH_done (by kernel_rfl) ?_ _
            clear hHeld hS hk
            have HT5 := hid (HT4.out.trans hst (fun g hg _ => hg))
            clear hst HT4 HC HSL
            generalize World.setCell _ _ _ = w9 at *
            go_wp2
            go_ret
            exact ⟨rfl, by rw [HV.out]; exact HFIN.out, HT5.out⟩
        · skip
          have hbs : Below (World.heap k1).size k1 (World.alloc k1 (.cells #[.int .i64 f, .int .i64 t, .string (str s), .bool tb] 64)) := (Below.refl _ _).alloc (Nat.le_refl _) _
          have HL : Hid ((World.alloc k1 (.cells #[.int .i64 f, .int .i64 t, .string (str s), .bool tb] 64)).heap[(World.heap k1).size]? = some (.cells #[.int .i64 f, .int .i64 t, .string (str s), .bool tb] 64 (0, 0))) := hid (heap_alloc_new _ _)
          have HNE : Hid ((World.heap k1).size ≠ XE) := hid (Nat.ne_of_gt (own_lt HE.out _ rfl).2.1)
          replace HE := hid (own_keep HE.out hbs)
          have hk9 := hk.trans (hbs.mono hk.size)
          clear hbs
          simp only [List.getElem_toArray, List.getElem_cons_succ, List.getElem_cons_zero]
          go_simp
          refine hK.out _ _ ?_ (fun hHeld2 => ?_)
          focus
            exact hS _ (Tch.of_below hk9)
          clear hHeld
          have hHeld := hHeld2
          clear hHeld2 hK K
          try simp only [List.getElem_toArray, List.getElem_cons_succ, List.getElem_cons_zero, Act.put, List.setIfInBounds_toArray, List.set_cons_zero, List.set_cons_succ]
          replace hk := hk9
          clear hk9
          generalize (World.alloc k1 (.cells #[.int .i64 f, .int .i64 t, .string (str s), .bool tb] 64)) = k17 at *
          generalize hxx : (World.heap k1).size = XL at HL HNE ⊢
          clear hxx
          refine wpAnyH_ready (rs := [5]) (by kernel_rfl) (by simp) ?_
          refine (AllReadyH.cons rfl (fun K hK => ?_) AllReadyH.nil)
          obtain ⟨n0, n1, _, _⟩ := two_cells (keep0 HC.out hk)
          simp only [List.getElem_toArray, List.getElem_cons_succ, List.getElem_cons_zero]
          go_simp
          refine hK.out _ _ ?_ (fun hHeld2 => ?_)
          focus
            exact hS _ (Tch.of_below hk)
          clear hHeld
          have hHeld := hHeld2
          clear hHeld2 hK K
          try simp only [List.getElem_toArray, List.getElem_cons_succ, List.getElem_cons_zero, Act.put, List.setIfInBounds_toArray, List.set_cons_zero, List.set_cons_succ]
          clear n0 n1
          refine wpAnyH_ready (rs := [6]) (by kernel_rfl) (by simp) ?_
          refine (AllReadyH.cons rfl (fun K hK => ?_) AllReadyH.nil)
          refine step_append_slw rfl (.tmp 27) (.tmp 31) 51 rfl bs 64 Try.underlying51 info_rthing rfl (by omega) rfl HE.out rfl (HSL.out _ hk) (tcells_one _) ?c1 ?c2 (by rw [HBS.out]; exact hk.size) ?_
          case c1 => unfold maxLen; omega
          case c2 => omega
          intro vP k18 hP htP _
          have hkP := hk.trans (HBS.out ▸ htP.below bs (fun g hg _ => (own_lt HE.out g hg).1) (by rw [HBS.out]; exact hk.size))
          replace HL := hid (htP.block HL.out (fun h => HNE.out (by simpa using (Option.some.inj h).symm)))
          clear HNE
          replace HE := hid hP
          clear hP htP
          refine hK.out _ _ ?_ (fun hHeld2 => ?_)
          focus
            exact hS _ (Tch.of_below hkP)
          clear hHeld
          have hHeld := hHeld2
          clear hHeld2 hK K
          try simp only [List.getElem_toArray, List.getElem_cons_succ, List.getElem_cons_zero, Act.put, List.setIfInBounds_toArray, List.set_cons_zero, List.set_cons_succ]
          replace hk := hkP
          clear hkP
          refine wpAnyH_ready (rs := [15]) (by kernel_rfl) (by simp) ?_
          refine (AllReadyH.cons rfl (fun K hK => ?_) AllReadyH.nil)
          refine step_append_slw rfl (.tmp 32) (.tmp 40) 51 rfl bs 64 Try.underlying51 info_rthing rfl (by omega) rfl HE.out rfl (sl_blk4 HL.out) (by simp [Value.oneCell']) ?c1 ?c2 (by rw [HBS.out]; exact hk.size) ?_
          case c1 => unfold maxLen; omega
          case c2 => omega
          intro vQ k19 hQ htQ _
          have hkQ := hk.trans (HBS.out ▸ htQ.below bs (fun g hg _ => (own_lt HE.out g hg).1) (by rw [HBS.out]; exact hk.size))
          obtain ⟨LQ, hlq⟩ : ∃ n, n = (l ++ [Tg.mk f t s tb]).length := ⟨_, rfl⟩
          have hQ9 : k19.ownsRow bs 64 4 vQ LQ (tcells (l ++ [Tg.mk f t s tb])) := by
            rw [hlq, List.length_append, tcells_append]
            simpa [tcells, tc] using hQ
          have HLQ := hid hlq
          clear hQ hlq
          obtain ⟨A6, c6, rfl, h99⟩ := Sl.of_own hQ9
          clear h99
          have hQ := hQ9
          clear hQ9
          clear HE htQ
          refine hK.out _ _ ?_ (fun hHeld2 => ?_)
          focus
            exact hS _ (Tch.of_below hkQ)
          clear hHeld
          have hHeld := hHeld2
          clear hHeld2 hK K
          try simp only [List.getElem_toArray, List.getElem_cons_succ, List.getElem_cons_zero, Act.put, List.setIfInBounds_toArray, List.set_cons_zero, List.set_cons_succ]
          replace hk := hkQ
          clear hkQ
          refine wpAnyH_take (i := 16) (v := ?_) rfl (by kernel_rfl) (by kernel_rfl) (by kernel_rfl) (fun _ _ _ h => h) (Or.inl ⟨by rfl, ?_⟩) (by assumption) ?_
          rotate_left
          focus
            intro U hU
            try dsimp only at hU
            go_simp
            try (with_reducible rfl)
          simp only [List.getElem_toArray, List.getElem_cons_succ, List.getElem_cons_zero, Act.put, List.setIfInBounds_toArray, List.set_cons_zero, List.set_cons_succ]
          refine wpAnyH_take (i := 17) (v := ?_) rfl (by kernel_rfl) (by kernel_rfl) (by kernel_rfl) (fun _ _ _ h => h) (Or.inl ⟨by rfl, ?_⟩) (by assumption) ?_
          rotate_left
          focus
            intro U hU
            try dsimp only at hU
            go_simp
            try (with_reducible rfl)
          simp only [List.getElem_toArray, List.getElem_cons_succ, List.getElem_cons_zero, Act.put, List.setIfInBounds_toArray, List.set_cons_zero, List.set_cons_succ]
          refine wpAnyH_ready (rs := [18]) (by kernel_rfl) (by simp) ?_
          refine (AllReadyH.cons rfl (fun K hK => ?_) AllReadyH.nil)
          obtain ⟨n0, n1, nf0, nf1⟩ := two_cells (keep0 HC.out hk)
          have hst := (Tch.of_below (S := fun g => g = c) hk).set c 0 (.slice A6 LQ c6) (fun _ => rfl)
          have HFIN := hid (rnAt_set (keep0 HC.out hk) hQ (by rw [HBS.out]; exact HSB.out) HCB.out HLQ.out rfl)
          have HFIN2 := hid (rnAt_set0 (keep0 HC.out hk) hQ HLQ.out rfl)
          simp only [List.getElem_toArray, List.getElem_cons_succ, List.getElem_cons_zero]
          go_simp
          refine hK.out _ _ ?_ (fun hHeld2 => ?_)
          focus
            exact hS _ hst
          clear hHeld
          have hHeld := hHeld2
          clear hHeld2 hK K
          try simp only [List.getElem_toArray, List.getElem_cons_succ, List.getElem_cons_zero, Act.put, List.setIfInBounds_toArray, List.set_cons_zero, List.set_cons_succ]
          clear n0 n1 nf0 nf1 hQ
          refine wpAnyH_done (by kernel_rfl) ?_ _
          clear hHeld hS hk
          have HT5 := hid (HT4.out.trans hst (fun g hg _ => hg))
          clear hst HT4 HC HSL
          generalize World.setCell _ _ _ = w9 at *
          go_wp2
          go_ret
          exact ⟨rfl, by rw [HV.out]; exact HFIN.out, HT5.out⟩
    · skip
      obtain ⟨n0, n1, _, _⟩ := two_cells (keep0 HC.out hk)
      simp only [List.getElem_toArray, List.getElem_cons_succ, List.getElem_cons_zero]
      go_simp
      refine hK.out _ _ ?_ (fun hHeld2 => ?_)
      focus
        exact hS _ (Tch.of_below hk)
      clear hHeld
      have hHeld := hHeld2
      clear hHeld2 hK K
      try simp only [List.getElem_toArray, List.getElem_cons_succ, List.getElem_cons_zero, Act.put, List.setIfInBounds_toArray, List.set_cons_zero, List.set_cons_succ]
      clear n0 n1
      refine wpAnyH_ready (rs := [1, 10]) (by kernel_rfl) (by simp) ?_
      refine (AllReadyH.cons rfl (fun K hK => ?_) (AllReadyH.cons rfl (fun K hK => ?_) AllReadyH.nil))
      · skip
        have hbs : Below (World.heap w0).size w0 (World.alloc w0 (.cells #[] 64)) := (Below.refl _ _).alloc (Nat.le_refl _) _
        have HE := hid (own_mono (own_empty w0 64 4) (show bs ≤ _ from by rw [HBS.out]; exact hk.size))
        have hk9 := hk.trans (hbs.mono hk.size)
        clear hbs
        simp only [List.getElem_toArray, List.getElem_cons_succ, List.getElem_cons_zero]
        go_simp
        refine hK.out _ _ ?_ (fun hHeld2 => ?_)
        focus
          exact hS _ (Tch.of_below hk9)
        clear hHeld
        have hHeld := hHeld2
        clear hHeld2 hK K
        try simp only [List.getElem_toArray, List.getElem_cons_succ, List.getElem_cons_zero, Act.put, List.setIfInBounds_toArray, List.set_cons_zero, List.set_cons_succ]
        replace hk := hk9
        clear hk9
        generalize (World.alloc w0 (.cells #[] 64)) = k20 at *
        generalize hxx : (World.heap w0).size = XE at HE ⊢
        clear hxx
        refine wpAnyH_ready (rs := [6, 10]) (by kernel_rfl) (by simp) ?_
        refine (AllReadyH.cons rfl (fun K hK => ?_) (AllReadyH.cons rfl (fun K hK => ?_) AllReadyH.nil))
        · skip
          refine step_append_slw rfl (.tmp 27) (.tmp 31) 51 rfl bs 64 Try.underlying51 info_rthing rfl (by omega) rfl HE.out rfl (HSL.out _ hk) (tcells_one _) ?c1 ?c2 (by rw [HBS.out]; exact hk.size) ?_
          case c1 => unfold maxLen; omega
          case c2 => omega
          intro vP k21 hP htP _
          have hkP := hk.trans (HBS.out ▸ htP.below bs (fun g hg _ => (own_lt HE.out g hg).1) (by rw [HBS.out]; exact hk.size))
          replace HE := hid hP
          clear hP htP
          refine hK.out _ _ ?_ (fun hHeld2 => ?_)
          focus
            exact hS _ (Tch.of_below hkP)
          clear hHeld
          have hHeld := hHeld2
          clear hHeld2 hK K
          try simp only [List.getElem_toArray, List.getElem_cons_succ, List.getElem_cons_zero, Act.put, List.setIfInBounds_toArray, List.set_cons_zero, List.set_cons_succ]
          replace hk := hkP
          clear hkP
          refine wpAnyH_ready (rs := [10]) (by kernel_rfl) (by simp) ?_
          refine (AllReadyH.cons rfl (fun K hK => ?_) AllReadyH.nil)
          obtain ⟨n0, n1, _, _⟩ := two_cells (keep0 HC.out hk)
          simp only [List.getElem_toArray, List.getElem_cons_succ, List.getElem_cons_zero]
          go_simp
          refine hK.out _ _ ?_ (fun hHeld2 => ?_)
          focus
            exact hS _ (Tch.of_below hk)
          clear hHeld
          have hHeld := hHeld2
          clear hHeld2 hK K
          try simp only [List.getElem_toArray, List.getElem_cons_succ, List.getElem_cons_zero, Act.put, List.setIfInBounds_toArray, List.set_cons_zero, List.set_cons_succ]
          clear n0 n1
          refine wpAnyH_take (i := 12) (v := ?_) rfl (by kernel_rfl) (by kernel_rfl) (by kernel_rfl) (fun _ _ _ h => h) (Or.inl ⟨by rfl, ?_⟩) (by assumption) ?_
          rotate_left
          focus
            intro U hU
            try dsimp only at hU
            go_simp
            try (with_reducible rfl)
          simp only [List.getElem_toArray, List.getElem_cons_succ, List.getElem_cons_zero, Act.put, List.setIfInBounds_toArray, List.set_cons_zero, List.set_cons_succ]
          refine wpAnyH_take (i := 13) (v := ?_) rfl (by kernel_rfl) (by kernel_rfl) (by kernel_rfl) (fun _ _ _ h => h) (Or.inl ⟨by rfl, ?_⟩) (by assumption) ?_
          rotate_left
          focus
            intro U hU
            try dsimp only at hU
            go_simp
            try (with_reducible rfl)
          simp only [List.getElem_toArray, List.getElem_cons_succ, List.getElem_cons_zero, Act.put, List.setIfInBounds_toArray, List.set_cons_zero, List.set_cons_succ]
          refine wpAnyH_ready (rs := [14]) (by kernel_rfl) (by simp) ?_
          refine (AllReadyH.cons rfl (fun K hK => ?_) AllReadyH.nil)
          have hbs : Below (World.heap k21).size k21 (World.alloc k21 (.cells #[.int .i64 f, .int .i64 t, .string (str s), .bool tb] 64)) := (Below.refl _ _).alloc (Nat.le_refl _) _
          have HL : Hid ((World.alloc k21 (.cells #[.int .i64 f, .int .i64 t, .string (str s), .bool tb] 64)).heap[(World.heap k21).size]? = some (.cells #[.int .i64 f, .int .i64 t, .string (str s), .bool tb] 64 (0, 0))) := hid (heap_alloc_new _ _)
          replace HE := hid (own_keep HE.out hbs)
          have hk9 := hk.trans (hbs.mono hk.size)
          clear hbs
          simp only [List.getElem_toArray, List.getElem_cons_succ, List.getElem_cons_zero]
          go_simp
          refine hK.out _ _ ?_ (fun hHeld2 => ?_)
          focus
            exact hS _ (Tch.of_below hk9)
          clear hHeld
          have hHeld := hHeld2
          clear hHeld2 hK K
          try simp only [List.getElem_toArray, List.getElem_cons_succ, List.getElem_cons_zero, Act.put, List.setIfInBounds_toArray, List.set_cons_zero, List.set_cons_succ]
          replace hk := hk9
          clear hk9
          generalize (World.alloc k21 (.cells #[.int .i64 f, .int .i64 t, .string (str s), .bool tb] 64)) = k22 at *
          generalize hxx : (World.heap k21).size = XL at HL ⊢
          clear hxx
          refine wpAnyH_ready (rs := [15]) (by kernel_rfl) (by simp) ?_
          refine (AllReadyH.cons rfl (fun K hK => ?_) AllReadyH.nil)
          refine step_append_slw rfl (.tmp 32) (.tmp 40) 51 rfl bs 64 Try.underlying51 info_rthing rfl (by omega) rfl HE.out rfl (sl_blk4 HL.out) (by simp [Value.oneCell']) ?c1 ?c2 (by rw [HBS.out]; exact hk.size) ?_
          case c1 => unfold maxLen; omega
          case c2 => omega
          intro vQ k23 hQ htQ _
          have hkQ := hk.trans (HBS.out ▸ htQ.below bs (fun g hg _ => (own_lt HE.out g hg).1) (by rw [HBS.out]; exact hk.size))
          obtain ⟨LQ, hlq⟩ : ∃ n, n = (l ++ [Tg.mk f t s tb]).length := ⟨_, rfl⟩
          have hQ9 : k23.ownsRow bs 64 4 vQ LQ (tcells (l ++ [Tg.mk f t s tb])) := by
            rw [hlq, List.length_append, tcells_append]
            simpa [tcells, tc] using hQ
          have HLQ := hid hlq
          clear hQ hlq
          obtain ⟨A6, c6, rfl, h99⟩ := Sl.of_own hQ9
          clear h99
          have hQ := hQ9
          clear hQ9
          clear HE htQ
          refine hK.out _ _ ?_ (fun hHeld2 => ?_)
          focus
            exact hS _ (Tch.of_below hkQ)
          clear hHeld
          have hHeld := hHeld2
          clear hHeld2 hK K
          try simp only [List.getElem_toArray, List.getElem_cons_succ, List.getElem_cons_zero, Act.put, List.setIfInBounds_toArray, List.set_cons_zero, List.set_cons_succ]
          replace hk := hkQ
          clear hkQ
          refine wpAnyH_take (i := 16) (v := ?_) rfl (by kernel_rfl) (by kernel_rfl) (by kernel_rfl) (fun _ _ _ h => h) (Or.inl ⟨by rfl, ?_⟩) (by assumption) ?_
          rotate_left
          focus
            intro U hU
            try dsimp only at hU
            go_simp
            try (with_reducible rfl)
          simp only [List.getElem_toArray, List.getElem_cons_succ, List.getElem_cons_zero, Act.put, List.setIfInBounds_toArray, List.set_cons_zero, List.set_cons_succ]
          refine wpAnyH_take (i := 17) (v := ?_) rfl (by kernel_rfl) (by kernel_rfl) (by kernel_rfl) (fun _ _ _ h => h) (Or.inl ⟨by rfl, ?_⟩) (by assumption) ?_
          rotate_left
          focus
            intro U hU
            try dsimp only at hU
            go_simp
            try (with_reducible rfl)
          simp only [List.getElem_toArray, List.getElem_cons_succ, List.getElem_cons_zero, Act.put, List.setIfInBounds_toArray, List.set_cons_zero, List.set_cons_succ]
          refine wpAnyH_ready (rs := [18]) (by kernel_rfl) (by simp) ?_
          refine (AllReadyH.cons rfl (fun K hK => ?_) AllReadyH.nil)
          obtain ⟨n0, n1, nf0, nf1⟩ := two_cells (keep0 HC.out hk)
          have hst := (Tch.of_below (S := fun g => g = c) hk).set c 0 (.slice A6 LQ c6) (fun _ => rfl)
          have HFIN := hid (rnAt_set (keep0 HC.out hk) hQ (by rw [HBS.out]; exact HSB.out) HCB.out HLQ.out rfl)
          have HFIN2 := hid (rnAt_set0 (keep0 HC.out hk) hQ HLQ.out rfl)
          simp only [List.getElem_toArray, List.getElem_cons_succ, List.getElem_cons_zero]
          go_simp
          refine hK.out _ _ ?_ (fun hHeld2 => ?_)
          focus
            exact hS _ hst
          clear hHeld
          have hHeld := hHeld2
          clear hHeld2 hK K
          try simp only [List.getElem_toArray, List.getElem_cons_succ, List.getElem_cons_zero, Act.put, List.setIfInBounds_toArray, List.set_cons_zero, List.set_cons_succ]
          clear n0 n1 nf0 nf1 hQ
          refine wpAnyH_done (by kernel_rfl) ?_ _
          clear hHeld hS hk
          have HT5 := hid (HT4.out.trans hst (fun g hg _ => hg))
          clear hst HT4 HC HSL
          generalize World.setCell _ _ _ = w9 at *
          go_wp2
          go_ret
          exact ⟨rfl, by rw [HV.out]; exact HFIN.out, HT5.out⟩
        · skip
          obtain ⟨n0, n1, _, _⟩ := two_cells (keep0 HC.out hk)
          simp only [List.getElem_toArray, List.getElem_cons_succ, List.getElem_cons_zero]
          go_simp
          refine hK.out _ _ ?_ (fun hHeld2 => ?_)
          focus
            exact hS _ (Tch.of_below hk)
          clear hHeld
          have hHeld := hHeld2
          clear hHeld2 hK K
          try simp only [List.getElem_toArray, List.getElem_cons_succ, List.getElem_cons_zero, Act.put, List.setIfInBounds_toArray, List.set_cons_zero, List.set_cons_succ]
          clear n0 n1
          refine wpAnyH_take (i := 12) (v := ?_) rfl (by kernel_rfl) (by kernel_rfl) (by kernel_rfl) (fun _ _ _ h => h) (Or.inl ⟨by rfl, ?_⟩) (by assumption) ?_
          rotate_left
          focus
            intro U hU
            try dsimp only at hU
            go_simp
            try (with_reducible rfl)
          simp only [List.getElem_toArray, List.getElem_cons_succ, List.getElem_cons_zero, Act.put, List.setIfInBounds_toArray, List.set_cons_zero, List.set_cons_succ]
          refine wpAnyH_take (i := 13) (v := ?_) rfl (by kernel_rfl) (by kernel_rfl) (by kernel_rfl) (fun _ _ _ h => h) (Or.inl ⟨by rfl, ?_⟩) (by assumption) ?_
          rotate_left
          focus
            intro U hU
            try dsimp only at hU
            go_simp
            try (with_reducible rfl)
          simp only [List.getElem_toArray, List.getElem_cons_succ, List.getElem_cons_zero, Act.put, List.setIfInBounds_toArray, List.set_cons_zero, List.set_cons_succ]
          refine wpAnyH_ready (rs := [6, 14]) (by kernel_rfl) (by simp) ?_
          refine (AllReadyH.cons rfl (fun K hK => ?_) (AllReadyH.cons rfl (fun K hK => ?_) AllReadyH.nil))
          · skip
            refine step_append_slw rfl (.tmp 27) (.tmp 31) 51 rfl bs 64 Try.underlying51 info_rthing rfl (by omega) rfl HE.out rfl (HSL.out _ hk) (tcells_one _) ?c1 ?c2 (by rw [HBS.out]; exact hk.size) ?_
            case c1 => unfold maxLen; omega
            case c2 => omega
            intro vP k24 hP htP _
            have hkP := hk.trans (HBS.out ▸ htP.below bs (fun g hg _ => (own_lt HE.out g hg).1) (by rw [HBS.out]; exact hk.size))
            replace HE := hid hP
            clear hP htP
            refine hK.out _ _ ?_ (fun hHeld2 => ?_)
            focus
              exact hS _ (Tch.of_below hkP)
            clear hHeld
            have hHeld := hHeld2
            clear hHeld2 hK K
            try simp only [List.getElem_toArray, List.getElem_cons_succ, List.getElem_cons_zero, Act.put, List.setIfInBounds_toArray, List.set_cons_zero, List.set_cons_succ]
            replace hk := hkP
            clear hkP
            refine wpAnyH_ready (rs := [14]) (by kernel_rfl) (by simp) ?_
            refine (AllReadyH.cons rfl (fun K hK => ?_) AllReadyH.nil)
            have hbs : Below (World.heap k24).size k24 (World.alloc k24 (.cells #[.int .i64 f, .int .i64 t, .string (str s), .bool tb] 64)) := (Below.refl _ _).alloc (Nat.le_refl _) _
            have HL : Hid ((World.alloc k24 (.cells #[.int .i64 f, .int .i64 t, .string (str s), .bool tb] 64)).heap[(World.heap k24).size]? = some (.cells #[.int .i64 f, .int .i64 t, .string (str s), .bool tb] 64 (0, 0))) := hid (heap_alloc_new _ _)
            replace HE := hid (own_keep HE.out hbs)
            have hk9 := hk.trans (hbs.mono hk.size)
            clear hbs
            simp only [List.getElem_toArray, List.getElem_cons_succ, List.getElem_cons_zero]
            go_simp
            refine hK.out _ _ ?_ (fun hHeld2 => ?_)
            focus
              exact hS _ (Tch.of_below hk9)
            clear hHeld
            have hHeld := hHeld2
            clear hHeld2 hK K
            try simp only [List.getElem_toArray, List.getElem_cons_succ, List.getElem_cons_zero, Act.put, List.setIfInBounds_toArray, List.set_cons_zero, List.set_cons_succ]
            replace hk := hk9
            clear hk9
            generalize (World.alloc k24 (.cells #[.int .i64 f, .int .i64 t, .string (str s), .bool tb] 64)) = k25 at *
            generalize hxx : (World.heap k24).size = XL at HL ⊢
            clear hxx
            refine wpAnyH_ready (rs := [15]) (by kernel_rfl) (by simp) ?_
            refine (AllReadyH.cons rfl (fun K hK => ?_) AllReadyH.nil)
            refine step_append_slw rfl (.tmp 32) (.tmp 40) 51 rfl bs 64 Try.underlying51 info_rthing rfl (by omega) rfl HE.out rfl (sl_blk4 HL.out) (by simp [Value.oneCell']) ?c1 ?c2 (by rw [HBS.out]; exact hk.size) ?_
            case c1 => unfold maxLen; omega
            case c2 => omega
            intro vQ k26 hQ htQ _
            have hkQ := hk.trans (HBS.out ▸ htQ.below bs (fun g hg _ => (own_lt HE.out g hg).1) (by rw [HBS.out]; exact hk.size))
            obtain ⟨LQ, hlq⟩ : ∃ n, n = (l ++ [Tg.mk f t s tb]).length := ⟨_, rfl⟩
            have hQ9 : k26.ownsRow bs 64 4 vQ LQ (tcells (l ++ [Tg.mk f t s tb])) := by
              rw [hlq, List.length_append, tcells_append]
              simpa [tcells, tc] using hQ
            have HLQ := hid hlq
            clear hQ hlq
            obtain ⟨A6, c6, rfl, h99⟩ := Sl.of_own hQ9
            clear h99
            have hQ := hQ9
            clear hQ9
            clear HE htQ
            refine hK.out _ _ ?_ (fun hHeld2 => ?_)
            focus
              exact hS _ (Tch.of_below hkQ)
            clear hHeld
            have hHeld := hHeld2
            clear hHeld2 hK K
            try simp only [List.getElem_toArray, List.getElem_cons_succ, List.getElem_cons_zero, Act.put, List.setIfInBounds_toArray, List.set_cons_zero, List.set_cons_succ]
            replace hk := hkQ
            clear hkQ
            refine wpAnyH_take (i := 16) (v := ?_) rfl (by kernel_rfl) (by kernel_rfl) (by kernel_rfl) (fun _ _ _ h => h) (Or.inl ⟨by rfl, ?_⟩) (by assumption) ?_
            rotate_left
            focus
              intro U hU
              try dsimp only at hU
              go_simp
              try (with_reducible rfl)
            simp only [List.getElem_toArray, List.getElem_cons_succ, List.getElem_cons_zero, Act.put, List.setIfInBounds_toArray, List.set_cons_zero, List.set_cons_succ]
            refine wpAnyH_take (i := 17) (v := ?_) rfl (by kernel_rfl) (by kernel_rfl) (by kernel_rfl) (fun _ _ _ h => h) (Or.inl ⟨by rfl, ?_⟩) (by assumption) ?_
            rotate_left
            focus
              intro U hU
              try dsimp only at hU
              go_simp
              try (with_reducible rfl)
            simp only [List.getElem_toArray, List.getElem_cons_succ, List.getElem_cons_zero, Act.put, List.setIfInBounds_toArray, List.set_cons_zero, List.set_cons_succ]
            refine wpAnyH_ready (rs := [18]) (by kernel_rfl) (by simp) ?_
            refine (AllReadyH.cons rfl (fun K hK => ?_) AllReadyH.nil)
            obtain ⟨n0, n1, nf0, nf1⟩ := two_cells (keep0 HC.out hk)
            have hst := (Tch.of_below (S := fun g => g = c) hk).set c 0 (.slice A6 LQ c6) (fun _ => rfl)
            have HFIN := hid (rnAt_set (keep0 HC.out hk) hQ (by rw [HBS.out]; exact HSB.out) HCB.out HLQ.out rfl)
            have HFIN2 := hid (rnAt_set0 (keep0 HC.out hk) hQ HLQ.out rfl)
            simp only [List.getElem_toArray, List.getElem_cons_succ, List.getElem_cons_zero]
            go_simp
            refine hK.out _ _ ?_ (fun hHeld2 => ?_)
            focus
              exact hS _ hst
            clear hHeld
            have hHeld := hHeld2
            clear hHeld2 hK K
            try simp only [List.getElem_toArray, List.getElem_cons_succ, List.getElem_cons_zero, Act.put, List.setIfInBounds_toArray, List.set_cons_zero, List.set_cons_succ]
            clear n0 n1 nf0 nf1 hQ
            refine wpAnyH_done (by kernel_rfl) ?_ _
            clear hHeld hS hk
            have HT5 := hid (HT4.out.trans hst (fun g hg _ => hg))
            clear hst HT4 HC HSL
            generalize World.setCell _ _ _ = w9 at *
            go_wp2
            go_ret
            exact ⟨rfl, by rw [HV.out]; exact HFIN.out, HT5.out⟩
          · skip
            have hbs : Below (World.heap k20).size k20 (World.alloc k20 (.cells #[.int .i64 f, .int .i64 t, .string (str s), .bool tb] 64)) := (Below.refl _ _).alloc (Nat.le_refl _) _
            have HL : Hid ((World.alloc k20 (.cells #[.int .i64 f, .int .i64 t, .string (str s), .bool tb] 64)).heap[(World.heap k20).size]? = some (.cells #[.int .i64 f, .int .i64 t, .string (str s), .bool tb] 64 (0, 0))) := hid (heap_alloc_new _ _)
            have HNE : Hid ((World.heap k20).size ≠ XE) := hid (Nat.ne_of_gt (own_lt HE.out _ rfl).2.1)
            replace HE := hid (own_keep HE.out hbs)
            have hk9 := hk.trans (hbs.mono hk.size)
            clear hbs
            simp only [List.getElem_toArray, List.getElem_cons_succ, List.getElem_cons_zero]
            go_simp
            refine hK.out _ _ ?_ (fun hHeld2 => ?_)
            focus
              exact hS _ (Tch.of_below hk9)
            clear hHeld
            have hHeld := hHeld2
            clear hHeld2 hK K
            try simp only [List.getElem_toArray, List.getElem_cons_succ, List.getElem_cons_zero, Act.put, List.setIfInBounds_toArray, List.set_cons_zero, List.set_cons_succ]
            replace hk := hk9
            clear hk9
            generalize (World.alloc k20 (.cells #[.int .i64 f, .int .i64 t, .string (str s), .bool tb] 64)) = k27 at *
            generalize hxx : (World.heap k20).size = XL at HL HNE ⊢
            clear hxx
            refine wpAnyH_ready (rs := [6]) (by kernel_rfl) (by simp) ?_
            refine (AllReadyH.cons rfl (fun K hK => ?_) AllReadyH.nil)
            refine step_append_slw rfl (.tmp 27) (.tmp 31) 51 rfl bs 64 Try.underlying51 info_rthing rfl (by omega) rfl HE.out rfl (HSL.out _ hk) (tcells_one _) ?c1 ?c2 (by rw [HBS.out]; exact hk.size) ?_
            case c1 => unfold maxLen; omega
            case c2 => omega
            intro vP k28 hP htP _
            have hkP := hk.trans (HBS.out ▸ htP.below bs (fun g hg _ => (own_lt HE.out g hg).1) (by rw [HBS.out]; exact hk.size))
            replace HL := hid (htP.block HL.out (fun h => HNE.out (by simpa using (Option.some.inj h).symm)))
            clear HNE
            replace HE := hid hP
            clear hP htP
            refine hK.out _ _ ?_ (fun hHeld2 => ?_)
            focus
              exact hS _ (Tch.of_below hkP)
            clear hHeld
            have hHeld := hHeld2
            clear hHeld2 hK K
            try simp only [List.getElem_toArray, List.getElem_cons_succ, List.getElem_cons_zero, Act.put, List.setIfInBounds_toArray, List.set_cons_zero, List.set_cons_succ]
            replace hk := hkP
            clear hkP
            refine wpAnyH_ready (rs := [15]) (by kernel_rfl) (by simp) ?_
            refine (AllReadyH.cons rfl (fun K hK => ?_) AllReadyH.nil)
            refine step_append_slw rfl (.tmp 32) (.tmp 40) 51 rfl bs 64 Try.underlying51 info_rthing rfl (by omega) rfl HE.out rfl (sl_blk4 HL.out) (by simp [Value.oneCell']) ?c1 ?c2 (by rw [HBS.out]; exact hk.size) ?_
            case c1 => unfold maxLen; omega
            case c2 => omega
            intro vQ k29 hQ htQ _
            have hkQ := hk.trans (HBS.out ▸ htQ.below bs (fun g hg _ => (own_lt HE.out g hg).1) (by rw [HBS.out]; exact hk.size))
            obtain ⟨LQ, hlq⟩ : ∃ n, n = (l ++ [Tg.mk f t s tb]).length := ⟨_, rfl⟩
            have hQ9 : k29.ownsRow bs 64 4 vQ LQ (tcells (l ++ [Tg.mk f t s tb])) := by
              rw [hlq, List.length_append, tcells_append]
              simpa [tcells, tc] using hQ
            have HLQ := hid hlq
            clear hQ hlq
            obtain ⟨A6, c6, rfl, h99⟩ := Sl.of_own hQ9
            clear h99
            have hQ := hQ9
            clear hQ9
            clear HE htQ
            refine hK.out _ _ ?_ (fun hHeld2 => ?_)
            focus
              exact hS _ (Tch.of_below hkQ)
            clear hHeld
            have hHeld := hHeld2
            clear hHeld2 hK K
            try simp only [List.getElem_toArray, List.getElem_cons_succ, List.getElem_cons_zero, Act.put, List.setIfInBounds_toArray, List.set_cons_zero, List.set_cons_succ]
            replace hk := hkQ
            clear hkQ
            refine wpAnyH_take (i := 16) (v := ?_) rfl (by kernel_rfl) (by kernel_rfl) (by kernel_rfl) (fun _ _ _ h => h) (Or.inl ⟨by rfl, ?_⟩) (by assumption) ?_
            rotate_left
            focus
              intro U hU
              try dsimp only at hU
              go_simp
              try (with_reducible rfl)
            simp only [List.getElem_toArray, List.getElem_cons_succ, List.getElem_cons_zero, Act.put, List.setIfInBounds_toArray, List.set_cons_zero, List.set_cons_succ]
            refine wpAnyH_take (i := 17) (v := ?_) rfl (by kernel_rfl) (by kernel_rfl) (by kernel_rfl) (fun _ _ _ h => h) (Or.inl ⟨by rfl, ?_⟩) (by assumption) ?_
            rotate_left
            focus
              intro U hU
              try dsimp only at hU
              go_simp
              try (with_reducible rfl)
            simp only [List.getElem_toArray, List.getElem_cons_succ, List.getElem_cons_zero, Act.put, List.setIfInBounds_toArray, List.set_cons_zero, List.set_cons_succ]
            refine wpAnyH_ready (rs := [18]) (by kernel_rfl) (by simp) ?_
            refine (AllReadyH.cons rfl (fun K hK => ?_) AllReadyH.nil)
            obtain ⟨n0, n1, nf0, nf1⟩ := two_cells (keep0 HC.out hk)
            have hst := (Tch.of_below (S := fun g => g = c) hk).set c 0 (.slice A6 LQ c6) (fun _ => rfl)
            have HFIN := hid (rnAt_set (keep0 HC.out hk) hQ (by rw [HBS.out]; exact HSB.out) HCB.out HLQ.out rfl)
            have HFIN2 := hid (rnAt_set0 (keep0 HC.out hk) hQ HLQ.out rfl)
            simp only [List.getElem_toArray, List.getElem_cons_succ, List.getElem_cons_zero]
            go_simp
            refine hK.out _ _ ?_ (fun hHeld2 => ?_)
            focus
              exact hS _ hst
            clear hHeld
            have hHeld := hHeld2
            clear hHeld2 hK K
            try simp only [List.getElem_toArray, List.getElem_cons_succ, List.getElem_cons_zero, Act.put, List.setIfInBounds_toArray, List.set_cons_zero, List.set_cons_succ]
            clear n0 n1 nf0 nf1 hQ
            refine wpAnyH_done (by kernel_rfl) ?_ _
            clear hHeld hS hk
            have HT5 := hid (HT4.out.trans hst (fun g hg _ => hg))
            clear hst HT4 HC HSL
            generalize World.setCell _ _ _ = w9 at *
            go_wp2
            go_ret
            exact ⟨rfl, by rw [HV.out]; exact HFIN.out, HT5.out⟩
      · skip
        obtain ⟨n0, n1, _, _⟩ := two_cells (keep0 HC.out hk)
        simp only [List.getElem_toArray, List.getElem_cons_succ, List.getElem_cons_zero]
        go_simp
        refine hK.out _ _ ?_ (fun hHeld2 => ?_)
        focus
          exact hS _ (Tch.of_below hk)
        clear hHeld
        have hHeld := hHeld2
        clear hHeld2 hK K
        try simp only [List.getElem_toArray, List.getElem_cons_succ, List.getElem_cons_zero, Act.put, List.setIfInBounds_toArray, List.set_cons_zero, List.set_cons_succ]
        clear n0 n1
        refine wpAnyH_take (i := 12) (v := ?_) rfl (by kernel_rfl) (by kernel_rfl) (by kernel_rfl) (fun _ _ _ h => h) (Or.inl ⟨by rfl, ?_⟩) (by assumption) ?_
        rotate_left
        focus
          intro U hU
          try dsimp only at hU
          go_simp
          try (with_reducible rfl)
        simp only [List.getElem_toArray, List.getElem_cons_succ, List.getElem_cons_zero, Act.put, List.setIfInBounds_toArray, List.set_cons_zero, List.set_cons_succ]
        refine wpAnyH_take (i := 13) (v := ?_) rfl (by kernel_rfl) (by kernel_rfl) (by kernel_rfl) (fun _ _ _ h => h) (Or.inl ⟨by rfl, ?_⟩) (by assumption) ?_
        rotate_left
        focus
          intro U hU
          try dsimp only at hU
          go_simp
          try (with_reducible rfl)
        simp only [List.getElem_toArray, List.getElem_cons_succ, List.getElem_cons_zero, Act.put, List.setIfInBounds_toArray, List.set_cons_zero, List.set_cons_succ]
        refine wpAnyH_ready (rs := [1, 14]) (by kernel_rfl) (by simp) ?_
        refine (AllReadyH.cons rfl (fun K hK => ?_) (AllReadyH.cons rfl (fun K hK => ?_) AllReadyH.nil))
        · skip
          have hbs : Below (World.heap w0).size w0 (World.alloc w0 (.cells #[] 64)) := (Below.refl _ _).alloc (Nat.le_refl _) _
          have HE := hid (own_mono (own_empty w0 64 4) (show bs ≤ _ from by rw [HBS.out]; exact hk.size))
          have hk9 := hk.trans (hbs.mono hk.size)
          clear hbs
          simp only [List.getElem_toArray, List.getElem_cons_succ, List.getElem_cons_zero]
          go_simp
          refine hK.out _ _ ?_ (fun hHeld2 => ?_)
          focus
            exact hS _ (Tch.of_below hk9)
          clear hHeld
          have hHeld := hHeld2
          clear hHeld2 hK K
          try simp only [List.getElem_toArray, List.getElem_cons_succ, List.getElem_cons_zero, Act.put, List.setIfInBounds_toArray, List.set_cons_zero, List.set_cons_succ]
          replace hk := hk9
          clear hk9
          generalize (World.alloc w0 (.cells #[] 64)) = k30 at *
          generalize hxx : (World.heap w0).size = XE at HE ⊢
          clear hxx
          refine wpAnyH_ready (rs := [6, 14]) (by kernel_rfl) (by simp) ?_
          refine (AllReadyH.cons rfl (fun K hK => ?_) (AllReadyH.cons rfl (fun K hK => ?_) AllReadyH.nil))
          · skip
            refine step_append_slw rfl (.tmp 27) (.tmp 31) 51 rfl bs 64 Try.underlying51 info_rthing rfl (by omega) rfl HE.out rfl (HSL.out _ hk) (tcells_one _) ?c1 ?c2 (by rw [HBS.out]; exact hk.size) ?_
            case c1 => unfold maxLen; omega
            case c2 => omega
            intro vP k31 hP htP _
            have hkP := hk.trans (HBS.out ▸ htP.below bs (fun g hg _ => (own_lt HE.out g hg).1) (by rw [HBS.out]; exact hk.size))
            replace HE := hid hP
            clear hP htP
            refine hK.out _ _ ?_ (fun hHeld2 => ?_)
            focus
              exact hS _ (Tch.of_below hkP)
            clear hHeld
            have hHeld := hHeld2
            clear hHeld2 hK K
            try simp only [List.getElem_toArray, List.getElem_cons_succ, List.getElem_cons_zero, Act.put, List.setIfInBounds_toArray, List.set_cons_zero, List.set_cons_succ]
            replace hk := hkP
            clear hkP
            refine wpAnyH_ready (rs := [14]) (by kernel_rfl) (by simp) ?_
            refine (AllReadyH.cons rfl (fun K hK => ?_) AllReadyH.nil)
            have hbs : Below (World.heap k31).size k31 (World.alloc k31 (.cells #[.int .i64 f, .int .i64 t, .string (str s), .bool tb] 64)) := (Below.refl _ _).alloc (Nat.le_refl _) _
            have HL : Hid ((World.alloc k31 (.cells #[.int .i64 f, .int .i64 t, .string (str s), .bool tb] 64)).heap[(World.heap k31).size]? = some (.cells #[.int .i64 f, .int .i64 t, .string (str s), .bool tb] 64 (0, 0))) := hid (heap_alloc_new _ _)
            replace HE := hid (own_keep HE.out hbs)
            have hk9 := hk.trans (hbs.mono hk.size)
            clear hbs
            simp only [List.getElem_toArray, List.getElem_cons_succ, List.getElem_cons_zero]
            go_simp
            refine hK.out _ _ ?_ (fun hHeld2 => ?_)
            focus
              exact hS _ (Tch.of_below hk9)
            clear hHeld
            have hHeld := hHeld2
            clear hHeld2 hK K
            try simp only [List.getElem_toArray, List.getElem_cons_succ, List.getElem_cons_zero, Act.put, List.setIfInBounds_toArray, List.set_cons_zero, List.set_cons_succ]
            replace hk := hk9
            clear hk9
            generalize (World.alloc k31 (.cells #[.int .i64 f, .int .i64 t, .string (str s), .bool tb] 64)) = k32 at *
            generalize hxx : (World.heap k31).size = XL at HL ⊢
            clear hxx
            refine wpAnyH_ready (rs := [15]) (by kernel_rfl) (by simp) ?_
            refine (AllReadyH.cons rfl (fun K hK => ?_) AllReadyH.nil)
            refine step_append_slw rfl (.tmp 32) (.tmp 40) 51 rfl bs 64 Try.underlying51 info_rthing rfl (by omega) rfl HE.out rfl (sl_blk4 HL.out) (by simp [Value.oneCell']) ?c1 ?c2 (by rw [HBS.out]; exact hk.size) ?_
            case c1 => unfold maxLen; omega
            case c2 => omega
            intro vQ k33 hQ htQ _
            have hkQ := hk.trans (HBS.out ▸ htQ.below bs (fun g hg _ => (own_lt HE.out g hg).1) (by rw [HBS.out]; exact hk.size))
            obtain ⟨LQ, hlq⟩ : ∃ n, n = (l ++ [Tg.mk f t s tb]).length := ⟨_, rfl⟩
            have hQ9 : k33.ownsRow bs 64 4 vQ LQ (tcells (l ++ [Tg.mk f t s tb])) := by
              rw [hlq, List.length_append, tcells_append]
              simpa [tcells, tc] using hQ
            have HLQ := hid hlq
            clear hQ hlq
            obtain ⟨A6, c6, rfl, h99⟩ := Sl.of_own hQ9
            clear h99
            have hQ := hQ9
            clear hQ9
            clear HE htQ
            refine hK.out _ _ ?_ (fun hHeld2 => ?_)
            focus
              exact hS _ (Tch.of_below hkQ)
            clear hHeld
            have hHeld := hHeld2
            clear hHeld2 hK K
            try simp only [List.getElem_toArray, List.getElem_cons_succ, List.getElem_cons_zero, Act.put, List.setIfInBounds_toArray, List.set_cons_zero, List.set_cons_succ]
            replace hk := hkQ
            clear hkQ
            refine wpAnyH_take (i := 16) (v := ?_) rfl (by kernel_rfl) (by kernel_rfl) (by kernel_rfl) (fun _ _ _ h => h) (Or.inl ⟨by rfl, ?_⟩) (by assumption) ?_
            rotate_left
            focus
              intro U hU
              try dsimp only at hU
              go_simp
              try (with_reducible rfl)
            simp only [List.getElem_toArray, List.getElem_cons_succ, List.getElem_cons_zero, Act.put, List.setIfInBounds_toArray, List.set_cons_zero, List.set_cons_succ]
            refine wpAnyH_take (i := 17) (v := ?_) rfl (by kernel_rfl) (by kernel_rfl) (by kernel_rfl) (fun _ _ _ h => h) (Or.inl ⟨by rfl, ?_⟩) (by assumption) ?_
            rotate_left
            focus
              intro U hU
              try dsimp only at hU
              go_simp
              try (with_reducible rfl)
            simp only [List.getElem_toArray, List.getElem_cons_succ, List.getElem_cons_zero, Act.put, List.setIfInBounds_toArray, List.set_cons_zero, List.set_cons_succ]
            refine wpAnyH_ready (rs := [18]) (by kernel_rfl) (by simp) ?_
            refine (AllReadyH.cons rfl (fun K hK => ?_) AllReadyH.nil)
            obtain ⟨n0, n1, nf0, nf1⟩ := two_cells (keep0 HC.out hk)
            have hst := (Tch.of_below (S := fun g => g = c) hk).set c 0 (.slice A6 LQ c6) (fun _ => rfl)
            have HFIN := hid (rnAt_set (keep0 HC.out hk) hQ (by rw [HBS.out]; exact HSB.out) HCB.out HLQ.out rfl)
            have HFIN2 := hid (rnAt_set0 (keep0 HC.out hk) hQ HLQ.out rfl)
            simp only [List.getElem_toArray, List.getElem_cons_succ, List.getElem_cons_zero]
            go_simp
            refine hK.out _ _ ?_ (fun hHeld2 => ?_)
            focus
              exact hS _ hst
            clear hHeld
            have hHeld := hHeld2
            clear hHeld2 hK K
            try simp only [List.getElem_toArray, List.getElem_cons_succ, List.getElem_cons_zero, Act.put, List.setIfInBounds_toArray, List.set_cons_zero, List.set_cons_succ]
            clear n0 n1 nf0 nf1 hQ
            refine wpAnyH_done (by kernel_rfl) ?_ _
            clear hHeld hS hk
            have HT5 := hid (HT4.out.trans hst (fun g hg _ => hg))
            clear hst HT4 HC HSL
            generalize World.setCell _ _ _ = w9 at *
            go_wp2
            go_ret
            exact ⟨rfl, by rw [HV.out]; exact HFIN.out, HT5.out⟩
          · skip
            have hbs : Below (World.heap k30).size k30 (World.alloc k30 (.cells #[.int .i64 f, .int .i64 t, .string (str s), .bool tb] 64)) := (Below.refl _ _).alloc (Nat.le_refl _) _
            have HL : Hid ((World.alloc k30 (.cells #[.int .i64 f, .int .i64 t, .string (str s), .bool tb] 64)).heap[(World.heap k30).size]? = some (.cells #[.int .i64 f, .int .i64 t, .string (str s), .bool tb] 64 (0, 0))) := hid (heap_alloc_new _ _)
            have HNE : Hid ((World.heap k30).size ≠ XE) := hid (Nat.ne_of_gt (own_lt HE.out _ rfl).2.1)
            replace HE := hid (own_keep HE.out hbs)
            have hk9 := hk.trans (hbs.mono hk.size)
            clear hbs
            simp only [List.getElem_toArray, List.getElem_cons_succ, List.getElem_cons_zero]
            go_simp
            refine hK.out _ _ ?_ (fun hHeld2 => ?_)
            focus
              exact hS _ (Tch.of_below hk9)
            clear hHeld
            have hHeld := hHeld2
            clear hHeld2 hK K
            try simp only [List.getElem_toArray, List.getElem_cons_succ, List.getElem_cons_zero, Act.put, List.setIfInBounds_toArray, List.set_cons_zero, List.set_cons_succ]
            replace hk := hk9
            clear hk9
            generalize (World.alloc k30 (.cells #[.int .i64 f, .int .i64 t, .string (str s), .bool tb] 64)) = k34 at *
            generalize hxx : (World.heap k30).size = XL at HL HNE ⊢
            clear hxx
            refine wpAnyH_ready (rs := [6]) (by kernel_rfl) (by simp) ?_
            refine (AllReadyH.cons rfl (fun K hK => ?_) AllReadyH.nil)
            refine step_append_slw rfl (.tmp 27) (.tmp 31) 51 rfl bs 64 Try.underlying51 info_rthing rfl (by omega) rfl HE.out rfl (HSL.out _ hk) (tcells_one _) ?c1 ?c2 (by rw [HBS.out]; exact hk.size) ?_
            case c1 => unfold maxLen; omega
            case c2 => omega
            intro vP k35 hP htP _
            have hkP := hk.trans (HBS.out ▸ htP.below bs (fun g hg _ => (own_lt HE.out g hg).1) (by rw [HBS.out]; exact hk.size))
            replace HL := hid (htP.block HL.out (fun h => HNE.out (by simpa using (Option.some.inj h).symm)))
            clear HNE
            replace HE := hid hP
            clear hP htP
            refine hK.out _ _ ?_ (fun hHeld2 => ?_)
            focus
              exact hS _ (Tch.of_below hkP)
            clear hHeld
            have hHeld := hHeld2
            clear hHeld2 hK K
            try simp only [List.getElem_toArray, List.getElem_cons_succ, List.getElem_cons_zero, Act.put, List.setIfInBounds_toArray, List.set_cons_zero, List.set_cons_succ]
            replace hk := hkP
            clear hkP
            refine wpAnyH_ready (rs := [15]) (by kernel_rfl) (by simp) ?_
            refine (AllReadyH.cons rfl (fun K hK => ?_) AllReadyH.nil)
            refine step_append_slw rfl (.tmp 32) (.tmp 40) 51 rfl bs 64 Try.underlying51 info_rthing rfl (by omega) rfl HE.out rfl (sl_blk4 HL.out) (by simp [Value.oneCell']) ?c1 ?c2 (by rw [HBS.out]; exact hk.size) ?_
            case c1 => unfold maxLen; omega
            case c2 => omega
            intro vQ k36 hQ htQ _
            have hkQ := hk.trans (HBS.out ▸ htQ.below bs (fun g hg _ => (own_lt HE.out g hg).1) (by rw [HBS.out]; exact hk.size))
            obtain ⟨LQ, hlq⟩ : ∃ n, n = (l ++ [Tg.mk f t s tb]).length := ⟨_, rfl⟩
            have hQ9 : k36.ownsRow bs 64 4 vQ LQ (tcells (l ++ [Tg.mk f t s tb])) := by
              rw [hlq, List.length_append, tcells_append]
              simpa [tcells, tc] using hQ
            have HLQ := hid hlq
            clear hQ hlq
            obtain ⟨A6, c6, rfl, h99⟩ := Sl.of_own hQ9
            clear h99
            have hQ := hQ9
            clear hQ9
            clear HE htQ
            refine hK.out _ _ ?_ (fun hHeld2 => ?_)
            focus
              exact hS _ (Tch.of_below hkQ)
            clear hHeld
            have hHeld := hHeld2
            clear hHeld2 hK K
            try simp only [List.getElem_toArray, List.getElem_cons_succ, List.getElem_cons_zero, Act.put, List.setIfInBounds_toArray, List.set_cons_zero, List.set_cons_succ]
            replace hk := hkQ
            clear hkQ
            refine wpAnyH_take (i := 16) (v := ?_) rfl (by kernel_rfl) (by kernel_rfl) (by kernel_rfl) (fun _ _ _ h => h) (Or.inl ⟨by rfl, ?_⟩) (by assumption) ?_
            rotate_left
            focus
              intro U hU
              try dsimp only at hU
              go_simp
              try (with_reducible rfl)
            simp only [List.getElem_toArray, List.getElem_cons_succ, List.getElem_cons_zero, Act.put, List.setIfInBounds_toArray, List.set_cons_zero, List.set_cons_succ]
            refine wpAnyH_take (i := 17) (v := ?_) rfl (by kernel_rfl) (by kernel_rfl) (by kernel_rfl) (fun _ _ _ h => h) (Or.inl ⟨by rfl, ?_⟩) (by assumption) ?_
            rotate_left
            focus
              intro U hU
              try dsimp only at hU
              go_simp
              try (with_reducible rfl)
            simp only [List.getElem_toArray, List.getElem_cons_succ, List.getElem_cons_zero, Act.put, List.setIfInBounds_toArray, List.set_cons_zero, List.set_cons_succ]
            refine wpAnyH_ready (rs := [18]) (by kernel_rfl) (by simp) ?_
            refine (AllReadyH.cons rfl (fun K hK => ?_) AllReadyH.nil)
            obtain ⟨n0, n1, nf0, nf1⟩ := two_cells (keep0 HC.out hk)
            have hst := (Tch.of_below (S := fun g => g = c) hk).set c 0 (.slice A6 LQ c6) (fun _ => rfl)
            have HFIN := hid (rnAt_set (keep0 HC.out hk) hQ (by rw [HBS.out]; exact HSB.out) HCB.out HLQ.out rfl)
            have HFIN2 := hid (rnAt_set0 (keep0 HC.out hk) hQ HLQ.out rfl)
            simp only [List.getElem_toArray, List.getElem_cons_succ, List.getElem_cons_zero]
            go_simp
            refine hK.out _ _ ?_ (fun hHeld2 => ?_)
            focus
              exact hS _ hst
            clear hHeld
            have hHeld := hHeld2
            clear hHeld2 hK K
            try simp only [List.getElem_toArray, List.getElem_cons_succ, List.getElem_cons_zero, Act.put, List.setIfInBounds_toArray, List.set_cons_zero, List.set_cons_succ]
            clear n0 n1 nf0 nf1 hQ
            refine wpAnyH_done (by kernel_rfl) ?_ _
            clear hHeld hS hk
            have HT5 := hid (HT4.out.trans hst (fun g hg _ => hg))
            clear hst HT4 HC HSL
            generalize World.setCell _ _ _ = w9 at *
            go_wp2
            go_ret
            exact ⟨rfl, by rw [HV.out]; exact HFIN.out, HT5.out⟩
        · skip
          have hbs : Below (World.heap w0).size w0 (World.alloc w0 (.cells #[.int .i64 f, .int .i64 t, .string (str s), .bool tb] 64)) := (Below.refl _ _).alloc (Nat.le_refl _) _
          have HL : Hid ((World.alloc w0 (.cells #[.int .i64 f, .int .i64 t, .string (str s), .bool tb] 64)).heap[(World.heap w0).size]? = some (.cells #[.int .i64 f, .int .i64 t, .string (str s), .bool tb] 64 (0, 0))) := hid (heap_alloc_new _ _)
          have hk9 := hk.trans (hbs.mono hk.size)
          clear hbs
          simp only [List.getElem_toArray, List.getElem_cons_succ, List.getElem_cons_zero]
          go_simp
          refine hK.out _ _ ?_ (fun hHeld2 => ?_)
          focus
            exact hS _ (Tch.of_below hk9)
          clear hHeld
          have hHeld := hHeld2
          clear hHeld2 hK K
          try simp only [List.getElem_toArray, List.getElem_cons_succ, List.getElem_cons_zero, Act.put, List.setIfInBounds_toArray, List.set_cons_zero, List.set_cons_succ]
          replace hk := hk9
          clear hk9
          generalize (World.alloc w0 (.cells #[.int .i64 f, .int .i64 t, .string (str s), .bool tb] 64)) = k37 at *
          generalize hxx : (World.heap w0).size = XL at HL ⊢
          clear hxx
          refine wpAnyH_ready (rs := [1]) (by kernel_rfl) (by simp) ?_
          refine (AllReadyH.cons rfl (fun K hK => ?_) AllReadyH.nil)
          have hbs : Below (World.heap k37).size k37 (World.alloc k37 (.cells #[] 64)) := (Below.refl _ _).alloc (Nat.le_refl _) _
          have HE := hid (own_mono (own_empty k37 64 4) (show bs ≤ _ from by rw [HBS.out]; exact hk.size))
          have HNE : Hid (XL ≠ (World.heap k37).size) := hid (Nat.ne_of_lt (lt_of_block HL.out))
          replace HL := hid (keep0 HL.out hbs)
          have hk9 := hk.trans (hbs.mono hk.size)
          clear hbs
          simp only [List.getElem_toArray, List.getElem_cons_succ, List.getElem_cons_zero]
          go_simp
          refine hK.out _ _ ?_ (fun hHeld2 => ?_)
          focus
            exact hS _ (Tch.of_below hk9)
          clear hHeld
          have hHeld := hHeld2
          clear hHeld2 hK K
          try simp only [List.getElem_toArray, List.getElem_cons_succ, List.getElem_cons_zero, Act.put, List.setIfInBounds_toArray, List.set_cons_zero, List.set_cons_succ]
          replace hk := hk9
          clear hk9
          generalize (World.alloc k37 (.cells #[] 64)) = k38 at *
          generalize hxx : (World.heap k37).size = XE at HE HNE ⊢
          clear hxx
          refine wpAnyH_ready (rs := [6]) (by kernel_rfl) (by simp) ?_
          refine (AllReadyH.cons rfl (fun K hK => ?_) AllReadyH.nil)
          refine step_append_slw rfl (.tmp 27) (.tmp 31) 51 rfl bs 64 Try.underlying51 info_rthing rfl (by omega) rfl HE.out rfl (HSL.out _ hk) (tcells_one _) ?c1 ?c2 (by rw [HBS.out]; exact hk.size) ?_
          case c1 => unfold maxLen; omega
          case c2 => omega
          intro vP k39 hP htP _
          have hkP := hk.trans (HBS.out ▸ htP.below bs (fun g hg _ => (own_lt HE.out g hg).1) (by rw [HBS.out]; exact hk.size))
          replace HL := hid (htP.block HL.out (fun h => HNE.out (by simpa using (Option.some.inj h).symm)))
          clear HNE
          replace HE := hid hP
          clear hP htP
          refine hK.out _ _ ?_ (fun hHeld2 => ?_)
          focus
            exact hS _ (Tch.of_below hkP)
          clear hHeld
          have hHeld := hHeld2
          clear hHeld2 hK K
          try simp only [List.getElem_toArray, List.getElem_cons_succ, List.getElem_cons_zero, Act.put, List.setIfInBounds_toArray, List.set_cons_zero, List.set_cons_succ]
          replace hk := hkP
          clear hkP
          refine wpAnyH_ready (rs := [15]) (by kernel_rfl) (by simp) ?_
          refine (AllReadyH.cons rfl (fun K hK => ?_) AllReadyH.nil)
          refine step_append_slw rfl (.tmp 32) (.tmp 40) 51 rfl bs 64 Try.underlying51 info_rthing rfl (by omega) rfl HE.out rfl (sl_blk4 HL.out) (by simp [Value.oneCell']) ?c1 ?c2 (by rw [HBS.out]; exact hk.size) ?_
          case c1 => unfold maxLen; omega
          case c2 => omega
          intro vQ k40 hQ htQ _
          have hkQ := hk.trans (HBS.out ▸ htQ.below bs (fun g hg _ => (own_lt HE.out g hg).1) (by rw [HBS.out]; exact hk.size))
          obtain ⟨LQ, hlq⟩ : ∃ n, n = (l ++ [Tg.mk f t s tb]).length := ⟨_, rfl⟩
          have hQ9 : k40.ownsRow bs 64 4 vQ LQ (tcells (l ++ [Tg.mk f t s tb])) := by
            rw [hlq, List.length_append, tcells_append]
            simpa [tcells, tc] using hQ
          have HLQ := hid hlq
          clear hQ hlq
          obtain ⟨A6, c6, rfl, h99⟩ := Sl.of_own hQ9
          clear h99
          have hQ := hQ9
          clear hQ9
          clear HE htQ
          refine hK.out _ _ ?_ (fun hHeld2 => ?_)
          focus
            exact hS _ (Tch.of_below hkQ)
          clear hHeld
          have hHeld := hHeld2
          clear hHeld2 hK K
          try simp only [List.getElem_toArray, List.getElem_cons_succ, List.getElem_cons_zero, Act.put, List.setIfInBounds_toArray, List.set_cons_zero, List.set_cons_succ]
          replace hk := hkQ
          clear hkQ
          refine wpAnyH_take (i := 16) (v := ?_) rfl (by kernel_rfl) (by kernel_rfl) (by kernel_rfl) (fun _ _ _ h => h) (Or.inl ⟨by rfl, ?_⟩) (by assumption) ?_
          rotate_left
          focus
            intro U hU
            try dsimp only at hU
            go_simp
            try (with_reducible rfl)
          simp only [List.getElem_toArray, List.getElem_cons_succ, List.getElem_cons_zero, Act.put, List.setIfInBounds_toArray, List.set_cons_zero, List.set_cons_succ]
          refine wpAnyH_take (i := 17) (v := ?_) rfl (by kernel_rfl) (by kernel_rfl) (by kernel_rfl) (fun _ _ _ h => h) (Or.inl ⟨by rfl, ?_⟩) (by assumption) ?_
          rotate_left
          focus
            intro U hU
            try dsimp only at hU
            go_simp
            try (with_reducible rfl)
          simp only [List.getElem_toArray, List.getElem_cons_succ, List.getElem_cons_zero, Act.put, List.setIfInBounds_toArray, List.set_cons_zero, List.set_cons_succ]
          refine wpAnyH_ready (rs := [18]) (by kernel_rfl) (by simp) ?_
          refine (AllReadyH.cons rfl (fun K hK => ?_) AllReadyH.nil)
          obtain ⟨n0, n1, nf0, nf1⟩ := two_cells (keep0 HC.out hk)
          have hst := (Tch.of_below (S := fun g => g = c) hk).set c 0 (.slice A6 LQ c6) (fun _ => rfl)
          have HFIN := hid (rnAt_set (keep0 HC.out hk) hQ (by rw [HBS.out]; exact HSB.out) HCB.out HLQ.out rfl)
          have HFIN2 := hid (rnAt_set0 (keep0 HC.out hk) hQ HLQ.out rfl)
          simp only [List.getElem_toArray, List.getElem_cons_succ, List.getElem_cons_zero]
          go_simp
          refine hK.out _ _ ?_ (fun hHeld2 => ?_)
          focus
            exact hS _ hst
          clear hHeld
          have hHeld := hHeld2
          clear hHeld2 hK K
          try simp only [List.getElem_toArray, List.getElem_cons_succ, List.getElem_cons_zero, Act.put, List.setIfInBounds_toArray, List.set_cons_zero, List.set_cons_succ]
          clear n0 n1 nf0 nf1 hQ
          refine wpAnyH_done (by kernel_rfl) ?_ _
          clear hHeld hS hk
          have HT5 := hid (HT4.out.trans hst (fun g hg _ => hg))
          clear hst HT4 HC HSL
          generalize World.setCell _ _ _ = w9 at *
          go_wp2
          go_ret
          exact ⟨rfl, by rw [HV.out]; exact HFIN.out, HT5.out⟩
    · skip
      obtain ⟨n0, n1, _, _⟩ := two_cells (keep0 HC.out hk)
      simp only [List.getElem_toArray, List.getElem_cons_succ, List.getElem_cons_zero]
      go_simp
      refine hK.out _ _ ?_ (fun hHeld2 => ?_)
      focus
        exact hS _ (Tch.of_below hk)
      clear hHeld
      have hHeld := hHeld2
      clear hHeld2 hK K
      try simp only [List.getElem_toArray, List.getElem_cons_succ, List.getElem_cons_zero, Act.put, List.setIfInBounds_toArray, List.set_cons_zero, List.set_cons_succ]
      clear n0 n1
      refine wpAnyH_take (i := 12) (v := ?_) rfl (by kernel_rfl) (by kernel_rfl) (by kernel_rfl) (fun _ _ _ h => h) (Or.inl ⟨by rfl, ?_⟩) (by assumption) ?_
      rotate_left
      focus
        intro U hU
        try dsimp only at hU
        go_simp
        try (with_reducible rfl)
      simp only [List.getElem_toArray, List.getElem_cons_succ, List.getElem_cons_zero, Act.put, List.setIfInBounds_toArray, List.set_cons_zero, List.set_cons_succ]
      refine wpAnyH_take (i := 13) (v := ?_) rfl (by kernel_rfl) (by kernel_rfl) (by kernel_rfl) (fun _ _ _ h => h) (Or.inl ⟨by rfl, ?_⟩) (by assumption) ?_
      rotate_left
      focus
        intro U hU
        try dsimp only at hU
        go_simp
        try (with_reducible rfl)
      simp only [List.getElem_toArray, List.getElem_cons_succ, List.getElem_cons_zero, Act.put, List.setIfInBounds_toArray, List.set_cons_zero, List.set_cons_succ]
      refine wpAnyH_ready (rs := [1, 5, 14]) (by kernel_rfl) (by simp) ?_
      refine (AllReadyH.cons rfl (fun K hK => ?_) (AllReadyH.cons rfl (fun K hK => ?_) (AllReadyH.cons rfl (fun K hK => ?_) AllReadyH.nil)))
      · skip
        have hbs : Below (World.heap w0).size w0 (World.alloc w0 (.cells #[] 64)) := (Below.refl _ _).alloc (Nat.le_refl _) _
        have HE := hid (own_mono (own_empty w0 64 4) (show bs ≤ _ from by rw [HBS.out]; exact hk.size))
        have hk9 := hk.trans (hbs.mono hk.size)
        clear hbs
        simp only [List.getElem_toArray, List.getElem_cons_succ, List.getElem_cons_zero]
        go_simp
        refine hK.out _ _ ?_ (fun hHeld2 => ?_)
        focus
          exact hS _ (Tch.of_below hk9)
        clear hHeld
        have hHeld := hHeld2
        clear hHeld2 hK K
        try simp only [List.getElem_toArray, List.getElem_cons_succ, List.getElem_cons_zero, Act.put, List.setIfInBounds_toArray, List.set_cons_zero, List.set_cons_succ]
        replace hk := hk9
        clear hk9
        generalize (World.alloc w0 (.cells #[] 64)) = k41 at *
        generalize hxx : (World.heap w0).size = XE at HE ⊢
        clear hxx
        refine wpAnyH_ready (rs := [5, 14]) (by kernel_rfl) (by simp) ?_
        refine (AllReadyH.cons rfl (fun K hK => ?_) (AllReadyH.cons rfl (fun K hK => ?_) AllReadyH.nil))
        · skip
          obtain ⟨n0, n1, _, _⟩ := two_cells (keep0 HC.out hk)
          simp only [List.getElem_toArray, List.getElem_cons_succ, List.getElem_cons_zero]
          go_simp
          refine hK.out _ _ ?_ (fun hHeld2 => ?_)
          focus
            exact hS _ (Tch.of_below hk)
          clear hHeld
          have hHeld := hHeld2
          clear hHeld2 hK K
          try simp only [List.getElem_toArray, List.getElem_cons_succ, List.getElem_cons_zero, Act.put, List.setIfInBounds_toArray, List.set_cons_zero, List.set_cons_succ]
          clear n0 n1
          refine wpAnyH_ready (rs := [6, 14]) (by kernel_rfl) (by simp) ?_
          refine (AllReadyH.cons rfl (fun K hK => ?_) (AllReadyH.cons rfl (fun K hK => ?_) AllReadyH.nil))
          · skip
            refine step_append_slw rfl (.tmp 27) (.tmp 31) 51 rfl bs 64 Try.underlying51 info_rthing rfl (by omega) rfl HE.out rfl (HSL.out _ hk) (tcells_one _) ?c1 ?c2 (by rw [HBS.out]; exact hk.size) ?_
            case c1 => unfold maxLen; omega
            case c2 => omega
            intro vP k42 hP htP _
            have hkP := hk.trans (HBS.out ▸ htP.below bs (fun g hg _ => (own_lt HE.out g hg).1) (by rw [HBS.out]; exact hk.size))
            replace HE := hid hP
            clear hP htP
            refine hK.out _ _ ?_ (fun hHeld2 => ?_)
            focus
              exact hS _ (Tch.of_below hkP)
            clear hHeld
            have hHeld := hHeld2
            clear hHeld2 hK K
            try simp only [List.getElem_toArray, List.getElem_cons_succ, List.getElem_cons_zero, Act.put, List.setIfInBounds_toArray, List.set_cons_zero, List.set_cons_succ]
            replace hk := hkP
            clear hkP
            refine wpAnyH_ready (rs := [14]) (by kernel_rfl) (by simp) ?_
            refine (AllReadyH.cons rfl (fun K hK => ?_) AllReadyH.nil)
            have hbs : Below (World.heap k42).size k42 (World.alloc k42 (.cells #[.int .i64 f, .int .i64 t, .string (str s), .bool tb] 64)) := (Below.refl _ _).alloc (Nat.le_refl _) _
            have HL : Hid ((World.alloc k42 (.cells #[.int .i64 f, .int .i64 t, .string (str s), .bool tb] 64)).heap[(World.heap k42).size]? = some (.cells #[.int .i64 f, .int .i64 t, .string (str s), .bool tb] 64 (0, 0))) := hid (heap_alloc_new _ _)
            replace HE := hid (own_keep HE.out hbs)
            have hk9 := hk.trans (hbs.mono hk.size)
            clear hbs
            simp only [List.getElem_toArray, List.getElem_cons_succ, List.getElem_cons_zero]
            go_simp
            refine hK.out _ _ ?_ (fun hHeld2 => ?_)
            focus
              exact hS _ (Tch.of_below hk9)
            clear hHeld
            have hHeld := hHeld2
            clear hHeld2 hK K
            try simp only [List.getElem_toArray, List.getElem_cons_succ, List.getElem_cons_zero, Act.put, List.setIfInBounds_toArray, List.set_cons_zero, List.set_cons_succ]
            replace hk := hk9
            clear hk9
            generalize (World.alloc k42 (.cells #[.int .i64 f, .int .i64 t, .string (str s), .bool tb] 64)) = k43 at *
            generalize hxx : (World.heap k42).size = XL at HL ⊢
            clear hxx
            refine wpAnyH_ready (rs := [15]) (by kernel_rfl) (by simp) ?_
            refine (AllReadyH.cons rfl (fun K hK => ?_) AllReadyH.nil)
            refine step_append_slw rfl (.tmp 32) (.tmp 40) 51 rfl bs 64 Try.underlying51 info_rthing rfl (by omega) rfl HE.out rfl (sl_blk4 HL.out) (by simp [Value.oneCell']) ?c1 ?c2 (by rw [HBS.out]; exact hk.size) ?_
            case c1 => unfold maxLen; omega
            case c2 => omega
            intro vQ k44 hQ htQ _
            have hkQ := hk.trans (HBS.out ▸ htQ.below bs (fun g hg _ => (own_lt HE.out g hg).1) (by rw [HBS.out]; exact hk.size))
            obtain ⟨LQ, hlq⟩ : ∃ n, n = (l ++ [Tg.mk f t s tb]).length := ⟨_, rfl⟩
            have hQ9 : k44.ownsRow bs 64 4 vQ LQ (tcells (l ++ [Tg.mk f t s tb])) := by
              rw [hlq, List.length_append, tcells_append]
              simpa [tcells, tc] using hQ
            have HLQ := hid hlq
            clear hQ hlq
            obtain ⟨A6, c6, rfl, h99⟩ := Sl.of_own hQ9
            clear h99
            have hQ := hQ9
            clear hQ9
            clear HE htQ
            refine hK.out _ _ ?_ (fun hHeld2 => ?_)
            focus
              exact hS _ (Tch.of_below hkQ)
            clear hHeld
            have hHeld := hHeld2
            clear hHeld2 hK K
            try simp only [List.getElem_toArray, List.getElem_cons_succ, List.getElem_cons_zero, Act.put, List.setIfInBounds_toArray, List.set_cons_zero, List.set_cons_succ]
            replace hk := hkQ
            clear hkQ
            refine wpAnyH_take (i := 16) (v := ?_) rfl (by kernel_rfl) (by kernel_rfl) (by kernel_rfl) (fun _ _ _ h => h) (Or.inl ⟨by rfl, ?_⟩) (by assumption) ?_
            rotate_left
            focus
              intro U hU
              try dsimp only at hU
              go_simp
              try (with_reducible rfl)
            simp only [List.getElem_toArray, List.getElem_cons_succ, List.getElem_cons_zero, Act.put, List.setIfInBounds_toArray, List.set_cons_zero, List.set_cons_succ]
            refine wpAnyH_take (i := 17) (v := ?_) rfl (by kernel_rfl) (by kernel_rfl) (by kernel_rfl) (fun _ _ _ h => h) (Or.inl ⟨by rfl, ?_⟩) (by assumption) ?_
            rotate_left
            focus
              intro U hU
              try dsimp only at hU
              go_simp
              try (with_reducible rfl)
            simp only [List.getElem_toArray, List.getElem_cons_succ, List.getElem_cons_zero, Act.put, List.setIfInBounds_toArray, List.set_cons_zero, List.set_cons_succ]
            refine wpAnyH_ready (rs := [18]) (by kernel_rfl) (by simp) ?_
            refine (AllReadyH.cons rfl (fun K hK => ?_) AllReadyH.nil)
            obtain ⟨n0, n1, nf0, nf1⟩ := two_cells (keep0 HC.out hk)
            have hst := (Tch.of_below (S := fun g => g = c) hk).set c 0 (.slice A6 LQ c6) (fun _ => rfl)
            have HFIN := hid (rnAt_set (keep0 HC.out hk) hQ (by rw [HBS.out]; exact HSB.out) HCB.out HLQ.out rfl)
            have HFIN2 := hid (rnAt_set0 (keep0 HC.out hk) hQ HLQ.out rfl)
            simp only [List.getElem_toArray, List.getElem_cons_succ, List.getElem_cons_zero]
            go_simp
            refine hK.out _ _ ?_ (fun hHeld2 => ?_)
            focus
              exact hS _ hst
            clear hHeld
            have hHeld := hHeld2
            clear hHeld2 hK K
            try simp only [List.getElem_toArray, List.getElem_cons_succ, List.getElem_cons_zero, Act.put, List.setIfInBounds_toArray, List.set_cons_zero, List.set_cons_succ]
            clear n0 n1 nf0 nf1 hQ
            refine wpAnyH_done (by kernel_rfl) ?_ _
            clear hHeld hS hk
            have HT5 := hid (HT4.out.trans hst (fun g hg _ => hg))
            clear hst HT4 HC HSL
            generalize World.setCell _ _ _ = w9 at *
            go_wp2
            go_ret
            exact ⟨rfl, by rw [HV.out]; exact HFIN.out, HT5.out⟩
          · skip
            have hbs : Below (World.heap k41).size k41 (World.alloc k41 (.cells #[.int .i64 f, .int .i64 t, .string (str s), .bool tb] 64)) := (Below.refl _ _).alloc (Nat.le_refl _) _
            have HL : Hid ((World.alloc k41 (.cells #[.int .i64 f, .int .i64 t, .string (str s), .bool tb] 64)).heap[(World.heap k41).size]? = some (.cells #[.int .i64 f, .int .i64 t, .string (str s), .bool tb] 64 (0, 0))) := hid (heap_alloc_new _ _)
            have HNE : Hid ((World.heap k41).size ≠ XE) := hid (Nat.ne_of_gt (own_lt HE.out _ rfl).2.1)
            replace HE := hid (own_keep HE.out hbs)
            have hk9 := hk.trans (hbs.mono hk.size)
            clear hbs
            simp only [List.getElem_toArray, List.getElem_cons_succ, List.getElem_cons_zero]
            go_simp
            refine hK.out _ _ ?_ (fun hHeld2 => ?_)
            focus
              exact hS _ (Tch.of_below hk9)
            clear hHeld
            have hHeld := hHeld2
            clear hHeld2 hK K
            try simp only [List.getElem_toArray, List.getElem_cons_succ, List.getElem_cons_zero, Act.put, List.setIfInBounds_toArray, List.set_cons_zero, List.set_cons_succ]
            replace hk := hk9
            clear hk9
            generalize (World.alloc k41 (.cells #[.int .i64 f, .int .i64 t, .string (str s), .bool tb] 64)) = k45 at *
            generalize hxx : (World.heap k41).size = XL at HL HNE ⊢
            clear hxx
            refine wpAnyH_ready (rs := [6]) (by kernel_rfl) (by simp) ?_
            refine (AllReadyH.cons rfl (fun K hK => ?_) AllReadyH.nil)
            refine step_append_slw rfl (.tmp 27) (.tmp 31) 51 rfl bs 64 Try.underlying51 info_rthing rfl (by omega) rfl HE.out rfl (HSL.out _ hk) (tcells_one _) ?c1 ?c2 (by rw [HBS.out]; exact hk.size) ?_
            case c1 => unfold maxLen; omega
            case c2 => omega
            intro vP k46 hP htP _
            have hkP := hk.trans (HBS.out ▸ htP.below bs (fun g hg _ => (own_lt HE.out g hg).1) (by rw [HBS.out]; exact hk.size))
            replace HL := hid (htP.block HL.out (fun h => HNE.out (by simpa using (Option.some.inj h).symm)))
            clear HNE
            replace HE := hid hP
            clear hP htP
            refine hK.out _ _ ?_ (fun hHeld2 => ?_)
            focus
              exact hS _ (Tch.of_below hkP)
            clear hHeld
            have hHeld := hHeld2
            clear hHeld2 hK K
            try simp only [List.getElem_toArray, List.getElem_cons_succ, List.getElem_cons_zero, Act.put, List.setIfInBounds_toArray, List.set_cons_zero, List.set_cons_succ]
            replace hk := hkP
            clear hkP
            refine wpAnyH_ready (rs := [15]) (by kernel_rfl) (by simp) ?_
            refine (AllReadyH.cons rfl (fun K hK => ?_) AllReadyH.nil)
            refine step_append_slw rfl (.tmp 32) (.tmp 40) 51 rfl bs 64 Try.underlying51 info_rthing rfl (by omega) rfl HE.out rfl (sl_blk4 HL.out) (by simp [Value.oneCell']) ?c1 ?c2 (by rw [HBS.out]; exact hk.size) ?_
            case c1 => unfold maxLen; omega
            case c2 => omega
            intro vQ k47 hQ htQ _
            have hkQ := hk.trans (HBS.out ▸ htQ.below bs (fun g hg _ => (own_lt HE.out g hg).1) (by rw [HBS.out]; exact hk.size))
            obtain ⟨LQ, hlq⟩ : ∃ n, n = (l ++ [Tg.mk f t s tb]).length := ⟨_, rfl⟩
            have hQ9 : k47.ownsRow bs 64 4 vQ LQ (tcells (l ++ [Tg.mk f t s tb])) := by
              rw [hlq, List.length_append, tcells_append]
              simpa [tcells, tc] using hQ
            have HLQ := hid hlq
            clear hQ hlq
            obtain ⟨A6, c6, rfl, h99⟩ := Sl.of_own hQ9
            clear h99
            have hQ := hQ9
            clear hQ9
            clear HE htQ
            refine hK.out _ _ ?_ (fun hHeld2 => ?_)
            focus
              exact hS _ (Tch.of_below hkQ)
            clear hHeld
            have hHeld := hHeld2
            clear hHeld2 hK K
            try simp only [List.getElem_toArray, List.getElem_cons_succ, List.getElem_cons_zero, Act.put, List.setIfInBounds_toArray, List.set_cons_zero, List.set_cons_succ]
            replace hk := hkQ
            clear hkQ
            refine wpAnyH_take (i := 16) (v := ?_) rfl (by kernel_rfl) (by kernel_rfl) (by kernel_rfl) (fun _ _ _ h => h) (Or.inl ⟨by rfl, ?_⟩) (by assumption) ?_
            rotate_left
            focus
              intro U hU
              try dsimp only at hU
              go_simp
              try (with_reducible rfl)
            simp only [List.getElem_toArray, List.getElem_cons_succ, List.getElem_cons_zero, Act.put, List.setIfInBounds_toArray, List.set_cons_zero, List.set_cons_succ]
            refine wpAnyH_take (i := 17) (v := ?_) rfl (by kernel_rfl) (by kernel_rfl) (by kernel_rfl) (fun _ _ _ h => h) (Or.inl ⟨by rfl, ?_⟩) (by assumption) ?_
            rotate_left
            focus
              intro U hU
              try dsimp only at hU
              go_simp
              try (with_reducible rfl)
            simp only [List.getElem_toArray, List.getElem_cons_succ, List.getElem_cons_zero, Act.put, List.setIfInBounds_toArray, List.set_cons_zero, List.set_cons_succ]
            refine wpAnyH_ready (rs := [18]) (by kernel_rfl) (by simp) ?_
            refine (AllReadyH.cons rfl (fun K hK => ?_) AllReadyH.nil)
            obtain ⟨n0, n1, nf0, nf1⟩ := two_cells (keep0 HC.out hk)
            have hst := (Tch.of_below (S := fun g => g = c) hk).set c 0 (.slice A6 LQ c6) (fun _ => rfl)
            have HFIN := hid (rnAt_set (keep0 HC.out hk) hQ (by rw [HBS.out]; exact HSB.out) HCB.out HLQ.out rfl)
            have HFIN2 := hid (rnAt_set0 (keep0 HC.out hk) hQ HLQ.out rfl)
            simp only [List.getElem_toArray, List.getElem_cons_succ, List.getElem_cons_zero]
            go_simp
            refine hK.out _ _ ?_ (fun hHeld2 => ?_)
            focus
              exact hS _ hst
            clear hHeld
            have hHeld := hHeld2
            clear hHeld2 hK K
            try simp only [List.getElem_toArray, List.getElem_cons_succ, List.getElem_cons_zero, Act.put, List.setIfInBounds_toArray, List.set_cons_zero, List.set_cons_succ]
            clear n0 n1 nf0 nf1 hQ
            refine wpAnyH_done (by kernel_rfl) ?_ _
            clear hHeld hS hk
            have HT5 := hid (HT4.out.trans hst (fun g hg _ => hg))
            clear hst HT4 HC HSL
            generalize World.setCell _ _ _ = w9 at *
            go_wp2
            go_ret
            exact ⟨rfl, by rw [HV.out]; exact HFIN.out, HT5.out⟩
        · skip
          have hbs : Below (World.heap k41).size k41 (World.alloc k41 (.cells #[.int .i64 f, .int .i64 t, .string (str s), .bool tb] 64)) := (Below.refl _ _).alloc (Nat.le_refl _) _
          have HL : Hid ((World.alloc k41 (.cells #[.int .i64 f, .int .i64 t, .string (str s), .bool tb] 64)).heap[(World.heap k41).size]? = some (.cells #[.int .i64 f, .int .i64 t, .string (str s), .bool tb] 64 (0, 0))) := hid (heap_alloc_new _ _)
          have HNE : Hid ((World.heap k41).size ≠ XE) := hid (Nat.ne_of_gt (own_lt HE.out _ rfl).2.1)
          replace HE := hid (own_keep HE.out hbs)
          have hk9 := hk.trans (hbs.mono hk.size)
          clear hbs
          simp only [List.getElem_toArray, List.getElem_cons_succ, List.getElem_cons_zero]
          go_simp
          refine hK.out _ _ ?_ (fun hHeld2 => ?_)
          focus
            exact hS _ (Tch.of_below hk9)
          clear hHeld
          have hHeld := hHeld2
          clear hHeld2 hK K
          try simp only [List.getElem_toArray, List.getElem_cons_succ, List.getElem_cons_zero, Act.put, List.setIfInBounds_toArray, List.set_cons_zero, List.set_cons_succ]
          replace hk := hk9
          clear hk9
          generalize (World.alloc k41 (.cells #[.int .i64 f, .int .i64 t, .string (str s), .bool tb] 64)) = k48 at *
          generalize hxx : (World.heap k41).size = XL at HL HNE ⊢
          clear hxx
          refine wpAnyH_ready (rs := [5]) (by kernel_rfl) (by simp) ?_
          refine (AllReadyH.cons rfl (fun K hK => ?_) AllReadyH.nil)
          obtain ⟨n0, n1, _, _⟩ := two_cells (keep0 HC.out hk)
          simp only [List.getElem_toArray, List.getElem_cons_succ, List.getElem_cons_zero]
          go_simp
          refine hK.out _ _ ?_ (fun hHeld2 => ?_)
          focus
            exact hS _ (Tch.of_below hk)
          clear hHeld
          have hHeld := hHeld2
          clear hHeld2 hK K
          try simp only [List.getElem_toArray, List.getElem_cons_succ, List.getElem_cons_zero, Act.put, List.setIfInBounds_toArray, List.set_cons_zero, List.set_cons_succ]
          clear n0 n1
          refine wpAnyH_ready (rs := [6]) (by kernel_rfl) (by simp) ?_
          refine (AllReadyH.cons rfl (fun K hK => ?_) AllReadyH.nil)
          refine step_append_slw rfl (.tmp 27) (.tmp 31) 51 rfl bs 64 Try.underlying51 info_rthing rfl (by omega) rfl HE.out rfl (HSL.out _ hk) (tcells_one _) ?c1 ?c2 (by rw [HBS.out]; exact hk.size) ?_
          case c1 => unfold maxLen; omega
          case c2 => omega
          intro vP k49 hP htP _
          have hkP := hk.trans (HBS.out ▸ htP.below bs (fun g hg _ => (own_lt HE.out g hg).1) (by rw [HBS.out]; exact hk.size))
          replace HL := hid (htP.block HL.out (fun h => HNE.out (by simpa using (Option.some.inj h).symm)))
          clear HNE
          replace HE := hid hP
          clear hP htP
          refine hK.out _ _ ?_ (fun hHeld2 => ?_)
          focus
            exact hS _ (Tch.of_below hkP)
          clear hHeld
          have hHeld := hHeld2
          clear hHeld2 hK K
          try simp only [List.getElem_toArray, List.getElem_cons_succ, List.getElem_cons_zero, Act.put, List.setIfInBounds_toArray, List.set_cons_zero, List.set_cons_succ]
          replace hk := hkP
          clear hkP
          refine wpAnyH_ready (rs := [15]) (by kernel_rfl) (by simp) ?_
          refine (AllReadyH.cons rfl (fun K hK => ?_) AllReadyH.nil)
          refine step_append_slw rfl (.tmp 32) (.tmp 40) 51 rfl bs 64 Try.underlying51 info_rthing rfl (by omega) rfl HE.out rfl (sl_blk4 HL.out) (by simp [Value.oneCell']) ?c1 ?c2 (by rw [HBS.out]; exact hk.size) ?_
          case c1 => unfold maxLen; omega
          case c2 => omega
          intro vQ k50 hQ htQ _
          have hkQ := hk.trans (HBS.out ▸ htQ.below bs (fun g hg _ => (own_lt HE.out g hg).1) (by rw [HBS.out]; exact hk.size))
          obtain ⟨LQ, hlq⟩ : ∃ n, n = (l ++ [Tg.mk f t s tb]).length := ⟨_, rfl⟩
          have hQ9 : k50.ownsRow bs 64 4 vQ LQ (tcells (l ++ [Tg.mk f t s tb])) := by
            rw [hlq, List.length_append, tcells_append]
            simpa [tcells, tc] using hQ
          have HLQ := hid hlq
          clear hQ hlq
          obtain ⟨A6, c6, rfl, h99⟩ := Sl.of_own hQ9
          clear h99
          have hQ := hQ9
          clear hQ9
          clear HE htQ
          refine hK.out _ _ ?_ (fun hHeld2 => ?_)
          focus
            exact hS _ (Tch.of_below hkQ)
          clear hHeld
          have hHeld := hHeld2
          clear hHeld2 hK K
          try simp only [List.getElem_toArray, List.getElem_cons_succ, List.getElem_cons_zero, Act.put, List.setIfInBounds_toArray, List.set_cons_zero, List.set_cons_succ]
          replace hk := hkQ
          clear hkQ
          refine wpAnyH_take (i := 16) (v := ?_) rfl (by kernel_rfl) (by kernel_rfl) (by kernel_rfl) (fun _ _ _ h => h) (Or.inl ⟨by rfl, ?_⟩) (by assumption) ?_
          rotate_left
          focus
            intro U hU
            try dsimp only at hU
            go_simp
            try (with_reducible rfl)
          simp only [List.getElem_toArray, List.getElem_cons_succ, List.getElem_cons_zero, Act.put, List.setIfInBounds_toArray, List.set_cons_zero, List.set_cons_succ]
          refine wpAnyH_take (i := 17) (v := ?_) rfl (by kernel_rfl) (by kernel_rfl) (by kernel_rfl) (fun _ _ _ h => h) (Or.inl ⟨by rfl, ?_⟩) (by assumption) ?_
          rotate_left
          focus
            intro U hU
            try dsimp only at hU
            go_simp
            try (with_reducible rfl)
          simp only [List.getElem_toArray, List.getElem_cons_succ, List.getElem_cons_zero, Act.put, List.setIfInBounds_toArray, List.set_cons_zero, List.set_cons_succ]
          refine wpAnyH_ready (rs := [18]) (by kernel_rfl) (by simp) ?_
          refine (AllReadyH.cons rfl (fun K hK => ?_) AllReadyH.nil)
          obtain ⟨n0, n1, nf0, nf1⟩ := two_cells (keep0 HC.out hk)
          have hst := (Tch.of_below (S := fun g => g = c) hk).set c 0 (.slice A6 LQ c6) (fun _ => rfl)
          have HFIN := hid (rnAt_set (keep0 HC.out hk) hQ (by rw [HBS.out]; exact HSB.out) HCB.out HLQ.out rfl)
          have HFIN2 := hid (rnAt_set0 (keep0 HC.out hk) hQ HLQ.out rfl)
          simp only [List.getElem_toArray, List.getElem_cons_succ, List.getElem_cons_zero]
          go_simp
          refine hK.out _ _ ?_ (fun hHeld2 => ?_)
          focus
            exact hS _ hst
          clear hHeld
          have hHeld := hHeld2
          clear hHeld2 hK K
          try simp only [List.getElem_toArray, List.getElem_cons_succ, List.getElem_cons_zero, Act.put, List.setIfInBounds_toArray, List.set_cons_zero, List.set_cons_succ]
          clear n0 n1 nf0 nf1 hQ
          refine wpAnyH_done (by kernel_rfl) ?_ _
          clear hHeld hS hk
          have HT5 := hid (HT4.out.trans hst (fun g hg _ => hg))
          clear hst HT4 HC HSL
          generalize World.setCell _ _ _ = w9 at *
          go_wp2
          go_ret
          exact ⟨rfl, by rw [HV.out]; exact HFIN.out, HT5.out⟩
      · skip
        obtain ⟨n0, n1, _, _⟩ := two_cells (keep0 HC.out hk)
        simp only [List.getElem_toArray, List.getElem_cons_succ, List.getElem_cons_zero]
        go_simp
        refine hK.out _ _ ?_ (fun hHeld2 => ?_)
        focus
          exact hS _ (Tch.of_below hk)
        clear hHeld
        have hHeld := hHeld2
        clear hHeld2 hK K
        try simp only [List.getElem_toArray, List.getElem_cons_succ, List.getElem_cons_zero, Act.put, List.setIfInBounds_toArray, List.set_cons_zero, List.set_cons_succ]
        clear n0 n1
        refine wpAnyH_ready (rs := [1, 14]) (by kernel_rfl) (by simp) ?_
        refine (AllReadyH.cons rfl (fun K hK => ?_) (AllReadyH.cons rfl (fun K hK => ?_) AllReadyH.nil))
        · skip
          have hbs : Below (World.heap w0).size w0 (World.alloc w0 (.cells #[] 64)) := (Below.refl _ _).alloc (Nat.le_refl _) _
          have HE := hid (own_mono (own_empty w0 64 4) (show bs ≤ _ from by rw [HBS.out]; exact hk.size))
          have hk9 := hk.trans (hbs.mono hk.size)
          clear hbs
          simp only [List.getElem_toArray, List.getElem_cons_succ, List.getElem_cons_zero]
          go_simp
          refine hK.out _ _ ?_ (fun hHeld2 => ?_)
          focus
            exact hS _ (Tch.of_below hk9)
          clear hHeld
          have hHeld := hHeld2
          clear hHeld2 hK K
          try simp only [List.getElem_toArray, List.getElem_cons_succ, List.getElem_cons_zero, Act.put, List.setIfInBounds_toArray, List.set_cons_zero, List.set_cons_succ]
          replace hk := hk9
          clear hk9
          generalize (World.alloc w0 (.cells #[] 64)) = k51 at *
          generalize hxx : (World.heap w0).size = XE at HE ⊢
          clear hxx
          refine wpAnyH_ready (rs := [6, 14]) (by kernel_rfl) (by simp) ?_
          refine (AllReadyH.cons rfl (fun K hK => ?_) (AllReadyH.cons rfl (fun K hK => ?_) AllReadyH.nil))
          · skip
            refine step_append_slw rfl (.tmp 27) (.tmp 31) 51 rfl bs 64 Try.underlying51 info_rthing rfl (by omega) rfl HE.out rfl (HSL.out _ hk) (tcells_one _) ?c1 ?c2 (by rw [HBS.out]; exact hk.size) ?_
            case c1 => unfold maxLen; omega
            case c2 => omega
            intro vP k52 hP htP _
            have hkP := hk.trans (HBS.out ▸ htP.below bs (fun g hg _ => (own_lt HE.out g hg).1) (by rw [HBS.out]; exact hk.size))
            replace HE := hid hP
            clear hP htP
            refine hK.out _ _ ?_ (fun hHeld2 => ?_)
            focus
              exact hS _ (Tch.of_below hkP)
            clear hHeld
            have hHeld := hHeld2
            clear hHeld2 hK K
            try simp only [List.getElem_toArray, List.getElem_cons_succ, List.getElem_cons_zero, Act.put, List.setIfInBounds_toArray, List.set_cons_zero, List.set_cons_succ]
            replace hk := hkP
            clear hkP
            refine wpAnyH_ready (rs := [14]) (by kernel_rfl) (by simp) ?_
            refine (AllReadyH.cons rfl (fun K hK => ?_) AllReadyH.nil)
            have hbs : Below (World.heap k52).size k52 (World.alloc k52 (.cells #[.int .i64 f, .int .i64 t, .string (str s), .bool tb] 64)) := (Below.refl _ _).alloc (Nat.le_refl _) _
            have HL : Hid ((World.alloc k52 (.cells #[.int .i64 f, .int .i64 t, .string (str s), .bool tb] 64)).heap[(World.heap k52).size]? = some (.cells #[.int .i64 f, .int .i64 t, .string (str s), .bool tb] 64 (0, 0))) := hid (heap_alloc_new _ _)
            replace HE := hid (own_keep HE.out hbs)
            have hk9 := hk.trans (hbs.mono hk.size)
            clear hbs
            simp only [List.getElem_toArray, List.getElem_cons_succ, List.getElem_cons_zero]
            go_simp
            refine hK.out _ _ ?_ (fun hHeld2 => ?_)
            focus
              exact hS _ (Tch.of_below hk9)
            clear hHeld
            have hHeld := hHeld2
            clear hHeld2 hK K
            try simp only [List.getElem_toArray, List.getElem_cons_succ, List.getElem_cons_zero, Act.put, List.setIfInBounds_toArray, List.set_cons_zero, List.set_cons_succ]
            replace hk := hk9
            clear hk9
            generalize (World.alloc k52 (.cells #[.int .i64 f, .int .i64 t, .string (str s), .bool tb] 64)) = k53 at *
            generalize hxx : (World.heap k52).size = XL at HL ⊢
            clear hxx
            refine wpAnyH_ready (rs := [15]) (by kernel_rfl) (by simp) ?_
            refine (AllReadyH.cons rfl (fun K hK => ?_) AllReadyH.nil)
            refine step_append_slw rfl (.tmp 32) (.tmp 40) 51 rfl bs 64 Try.underlying51 info_rthing rfl (by omega) rfl HE.out rfl (sl_blk4 HL.out) (by simp [Value.oneCell']) ?c1 ?c2 (by rw [HBS.out]; exact hk.size) ?_
            case c1 => unfold maxLen; omega
            case c2 => omega
            intro vQ k54 hQ htQ _
            have hkQ := hk.trans (HBS.out ▸ htQ.below bs (fun g hg _ => (own_lt HE.out g hg).1) (by rw [HBS.out]; exact hk.size))
            obtain ⟨LQ, hlq⟩ : ∃ n, n = (l ++ [Tg.mk f t s tb]).length := ⟨_, rfl⟩
            have hQ9 : k54.ownsRow bs 64 4 vQ LQ (tcells (l ++ [Tg.mk f t s tb])) := by
              rw [hlq, List.length_append, tcells_append]
              simpa [tcells, tc] using hQ
            have HLQ := hid hlq
            clear hQ hlq
            obtain ⟨A6, c6, rfl, h99⟩ := Sl.of_own hQ9
            clear h99
            have hQ := hQ9
            clear hQ9
            clear HE htQ
            refine hK.out _ _ ?_ (fun hHeld2 => ?_)
            focus
              exact hS _ (Tch.of_below hkQ)
            clear hHeld
            have hHeld := hHeld2
            clear hHeld2 hK K
            try simp only [List.getElem_toArray, List.getElem_cons_succ, List.getElem_cons_zero, Act.put, List.setIfInBounds_toArray, List.set_cons_zero, List.set_cons_succ]
            replace hk := hkQ
            clear hkQ
            refine wpAnyH_take (i := 16) (v := ?_) rfl (by kernel_rfl) (by kernel_rfl) (by kernel_rfl) (fun _ _ _ h => h) (Or.inl ⟨by rfl, ?_⟩) (by assumption) ?_
            rotate_left
            focus
              intro U hU
              try dsimp only at hU
              go_simp
              try (with_reducible rfl)
            simp only [List.getElem_toArray, List.getElem_cons_succ, List.getElem_cons_zero, Act.put, List.setIfInBounds_toArray, List.set_cons_zero, List.set_cons_succ]
            refine wpAnyH_take (i := 17) (v := ?_) rfl (by kernel_rfl) (by kernel_rfl) (by kernel_rfl) (fun _ _ _ h => h) (Or.inl ⟨by rfl, ?_⟩) (by assumption) ?_
            rotate_left
            focus
              intro U hU
              try dsimp only at hU
              go_simp
              try (with_reducible rfl)
            simp only [List.getElem_toArray, List.getElem_cons_succ, List.getElem_cons_zero, Act.put, List.setIfInBounds_toArray, List.set_cons_zero, List.set_cons_succ]
            refine wpAnyH_ready (rs := [18]) (by kernel_rfl) (by simp) ?_
            refine (AllReadyH.cons rfl (fun K hK => ?_) AllReadyH.nil)
            obtain ⟨n0, n1, nf0, nf1⟩ := two_cells (keep0 HC.out hk)
            have hst := (Tch.of_below (S := fun g => g = c) hk).set c 0 (.slice A6 LQ c6) (fun _ => rfl)
            have HFIN := hid (rnAt_set (keep0 HC.out hk) hQ (by rw [HBS.out]; exact HSB.out) HCB.out HLQ.out rfl)
            have HFIN2 := hid (rnAt_set0 (keep0 HC.out hk) hQ HLQ.out rfl)
            simp only [List.getElem_toArray, List.getElem_cons_succ, List.getElem_cons_zero]
            go_simp
            refine hK.out _ _ ?_ (fun hHeld2 => ?_)
            focus
              exact hS _ hst
            clear hHeld
            have hHeld := hHeld2
            clear hHeld2 hK K
            try simp only [List.getElem_toArray, List.getElem_cons_succ, List.getElem_cons_zero, Act.put, List.setIfInBounds_toArray, List.set_cons_zero, List.set_cons_succ]
            clear n0 n1 nf0 nf1 hQ
            refine wpAnyH_done (by kernel_rfl) ?_ _
            clear hHeld hS hk
            have HT5 := hid (HT4.out.trans hst (fun g hg _ => hg))
            clear hst HT4 HC HSL
            generalize World.setCell _ _ _ = w9 at *
            go_wp2
            go_ret
            exact ⟨rfl, by rw [HV.out]; exact HFIN.out, HT5.out⟩
          · skip
            have hbs : Below (World.heap k51).size k51 (World.alloc k51 (.cells #[.int .i64 f, .int .i64 t, .string (str s), .bool tb] 64)) := (Below.refl _ _).alloc (Nat.le_refl _) _
            have HL : Hid ((World.alloc k51 (.cells #[.int .i64 f, .int .i64 t, .string (str s), .bool tb] 64)).heap[(World.heap k51).size]? = some (.cells #[.int .i64 f, .int .i64 t, .string (str s), .bool tb] 64 (0, 0))) := hid (heap_alloc_new _ _)
            have HNE : Hid ((World.heap k51).size ≠ XE) := hid (Nat.ne_of_gt (own_lt HE.out _ rfl).2.1)
            replace HE := hid (own_keep HE.out hbs)
            have hk9 := hk.trans (hbs.mono hk.size)
            clear hbs
            simp only [List.getElem_toArray, List.getElem_cons_succ, List.getElem_cons_zero]
            go_simp
            refine hK.out _ _ ?_ (fun hHeld2 => ?_)
            focus
              exact hS _ (Tch.of_below hk9)
            clear hHeld
            have hHeld := hHeld2
            clear hHeld2 hK K
            try simp only [List.getElem_toArray, List.getElem_cons_succ, List.getElem_cons_zero, Act.put, List.setIfInBounds_toArray, List.set_cons_zero, List.set_cons_succ]
            replace hk := hk9
            clear hk9
            generalize (World.alloc k51 (.cells #[.int .i64 f, .int .i64 t, .string (str s), .bool tb] 64)) = k55 at *
            generalize hxx : (World.heap k51).size = XL at HL HNE ⊢
            clear hxx
            refine wpAnyH_ready (rs := [6]) (by kernel_rfl) (by simp) ?_
            refine (AllReadyH.cons rfl (fun K hK => ?_) AllReadyH.nil)
            refine step_append_slw rfl (.tmp 27) (.tmp 31) 51 rfl bs 64 Try.underlying51 info_rthing rfl (by omega) rfl HE.out rfl (HSL.out _ hk) (tcells_one _) ?c1 ?c2 (by rw [HBS.out]; exact hk.size) ?_
            case c1 => unfold maxLen; omega
            case c2 => omega
            intro vP k56 hP htP _
            have hkP := hk.trans (HBS.out ▸ htP.below bs (fun g hg _ => (own_lt HE.out g hg).1) (by rw [HBS.out]; exact hk.size))
            replace HL := hid (htP.block HL.out (fun h => HNE.out (by simpa using (Option.some.inj h).symm)))
            clear HNE
            replace HE := hid hP
            clear hP htP
            refine hK.out _ _ ?_ (fun hHeld2 => ?_)
            focus
              exact hS _ (Tch.of_below hkP)
            clear hHeld
            have hHeld := hHeld2
            clear hHeld2 hK K
            try simp only [List.getElem_toArray, List.getElem_cons_succ, List.getElem_cons_zero, Act.put, List.setIfInBounds_toArray, List.set_cons_zero, List.set_cons_succ]
            replace hk := hkP
            clear hkP
            refine wpAnyH_ready (rs := [15]) (by kernel_rfl) (by simp) ?_
            refine (AllReadyH.cons rfl (fun K hK => ?_) AllReadyH.nil)
            refine step_append_slw rfl (.tmp 32) (.tmp 40) 51 rfl bs 64 Try.underlying51 info_rthing rfl (by omega) rfl HE.out rfl (sl_blk4 HL.out) (by simp [Value.oneCell']) ?c1 ?c2 (by rw [HBS.out]; exact hk.size) ?_
            case c1 => unfold maxLen; omega
            case c2 => omega
            intro vQ k57 hQ htQ _
            have hkQ := hk.trans (HBS.out ▸ htQ.below bs (fun g hg _ => (own_lt HE.out g hg).1) (by rw [HBS.out]; exact hk.size))
            obtain ⟨LQ, hlq⟩ : ∃ n, n = (l ++ [Tg.mk f t s tb]).length := ⟨_, rfl⟩
            have hQ9 : k57.ownsRow bs 64 4 vQ LQ (tcells (l ++ [Tg.mk f t s tb])) := by
              rw [hlq, List.length_append, tcells_append]
              simpa [tcells, tc] using hQ
            have HLQ := hid hlq
            clear hQ hlq
            obtain ⟨A6, c6, rfl, h99⟩ := Sl.of_own hQ9
            clear h99
            have hQ := hQ9
            clear hQ9
            clear HE htQ
            refine hK.out _ _ ?_ (fun hHeld2 => ?_)
            focus
              exact hS _ (Tch.of_below hkQ)
            clear hHeld
            have hHeld := hHeld2
            clear hHeld2 hK K
            try simp only [List.getElem_toArray, List.getElem_cons_succ, List.getElem_cons_zero, Act.put, List.setIfInBounds_toArray, List.set_cons_zero, List.set_cons_succ]
            replace hk := hkQ
            clear hkQ
            refine wpAnyH_take (i := 16) (v := ?_) rfl (by kernel_rfl) (by kernel_rfl) (by kernel_rfl) (fun _ _ _ h => h) (Or.inl ⟨by rfl, ?_⟩) (by assumption) ?_
            rotate_left
            focus
              intro U hU
              try dsimp only at hU
              go_simp
              try (with_reducible rfl)
            simp only [List.getElem_toArray, List.getElem_cons_succ, List.getElem_cons_zero, Act.put, List.setIfInBounds_toArray, List.set_cons_zero, List.set_cons_succ]
            refine wpAnyH_take (i := 17) (v := ?_) rfl (by kernel_rfl) (by kernel_rfl) (by kernel_rfl) (fun _ _ _ h => h) (Or.inl ⟨by rfl, ?_⟩) (by assumption) ?_
            rotate_left
            focus
              intro U hU
              try dsimp only at hU
              go_simp
              try (with_reducible rfl)
            simp only [List.getElem_toArray, List.getElem_cons_succ, List.getElem_cons_zero, Act.put, List.setIfInBounds_toArray, List.set_cons_zero, List.set_cons_succ]
            refine wpAnyH_ready (rs := [18]) (by kernel_rfl) (by simp) ?_
            refine (AllReadyH.cons rfl (fun K hK => ?_) AllReadyH.nil)
            obtain ⟨n0, n1, nf0, nf1⟩ := two_cells (keep0 HC.out hk)
            have hst := (Tch.of_below (S := fun g => g = c) hk).set c 0 (.slice A6 LQ c6) (fun _ => rfl)
            have HFIN := hid (rnAt_set (keep0 HC.out hk) hQ (by rw [HBS.out]; exact HSB.out) HCB.out HLQ.out rfl)
            have HFIN2 := hid (rnAt_set0 (keep0 HC.out hk) hQ HLQ.out rfl)
            simp only [List.getElem_toArray, List.getElem_cons_succ, List.getElem_cons_zero]
            go_simp
            refine hK.out _ _ ?_ (fun hHeld2 => ?_)
            focus
              exact hS _ hst
            clear hHeld
            have hHeld := hHeld2
            clear hHeld2 hK K
            try simp only [List.getElem_toArray, List.getElem_cons_succ, List.getElem_cons_zero, Act.put, List.setIfInBounds_toArray, List.set_cons_zero, List.set_cons_succ]
            clear n0 n1 nf0 nf1 hQ
            refine wpAnyH_done (by kernel_rfl) ?_ _
            clear hHeld hS hk
            have HT5 := hid (HT4.out.trans hst (fun g hg _ => hg))
            clear hst HT4 HC HSL
            generalize World.setCell _ _ _ = w9 at *
            go_wp2
            go_ret
            exact ⟨rfl, by rw [HV.out]; exact HFIN.out, HT5.out⟩
        · skip
          have hbs : Below (World.heap w0).size w0 (World.alloc w0 (.cells #[.int .i64 f, .int .i64 t, .string (str s), .bool tb] 64)) := (Below.refl _ _).alloc (Nat.le_refl _) _
          have HL : Hid ((World.alloc w0 (.cells #[.int .i64 f, .int .i64 t, .string (str s), .bool tb] 64)).heap[(World.heap w0).size]? = some (.cells #[.int .i64 f, .int .i64 t, .string (str s), .bool tb] 64 (0, 0))) := hid (heap_alloc_new _ _)
          have hk9 := hk.trans (hbs.mono hk.size)
          clear hbs
          simp only [List.getElem_toArray, List.getElem_cons_succ, List.getElem_cons_zero]
          go_simp
          refine hK.out _ _ ?_ (fun hHeld2 => ?_)
          focus
            exact hS _ (Tch.of_below hk9)
          clear hHeld
          have hHeld := hHeld2
          clear hHeld2 hK K
          try simp only [List.getElem_toArray, List.getElem_cons_succ, List.getElem_cons_zero, Act.put, List.setIfInBounds_toArray, List.set_cons_zero, List.set_cons_succ]
          replace hk := hk9
          clear hk9
          generalize (World.alloc w0 (.cells #[.int .i64 f, .int .i64 t, .string (str s), .bool tb] 64)) = k58 at *
          generalize hxx : (World.heap w0).size = XL at HL ⊢
          clear hxx
          refine wpAnyH_ready (rs := [1]) (by kernel_rfl) (by simp) ?_
          refine (AllReadyH.cons rfl (fun K hK => ?_) AllReadyH.nil)
          have hbs : Below (World.heap k58).size k58 (World.alloc k58 (.cells #[] 64)) := (Below.refl _ _).alloc (Nat.le_refl _) _
          have HE := hid (own_mono (own_empty k58 64 4) (show bs ≤ _ from by rw [HBS.out]; exact hk.size))
          have HNE : Hid (XL ≠ (World.heap k58).size) := hid (Nat.ne_of_lt (lt_of_block HL.out))
          replace HL := hid (keep0 HL.out hbs)
          have hk9 := hk.trans (hbs.mono hk.size)
          clear hbs
          simp only [List.getElem_toArray, List.getElem_cons_succ, List.getElem_cons_zero]
          go_simp
          refine hK.out _ _ ?_ (fun hHeld2 => ?_)
          focus
            exact hS _ (Tch.of_below hk9)
          clear hHeld
          have hHeld := hHeld2
          clear hHeld2 hK K
          try simp only [List.getElem_toArray, List.getElem_cons_succ, List.getElem_cons_zero, Act.put, List.setIfInBounds_toArray, List.set_cons_zero, List.set_cons_succ]
          replace hk := hk9
          clear hk9
          generalize (World.alloc k58 (.cells #[] 64)) = k59 at *
          generalize hxx : (World.heap k58).size = XE at HE HNE ⊢
          clear hxx
          refine wpAnyH_ready (rs := [6]) (by kernel_rfl) (by simp) ?_
          refine (AllReadyH.cons rfl (fun K hK => ?_) AllReadyH.nil)
          refine step_append_slw rfl (.tmp 27) (.tmp 31) 51 rfl bs 64 Try.underlying51 info_rthing rfl (by omega) rfl HE.out rfl (HSL.out _ hk) (tcells_one _) ?c1 ?c2 (by rw [HBS.out]; exact hk.size) ?_
          case c1 => unfold maxLen; omega
          case c2 => omega
          intro vP k60 hP htP _
          have hkP := hk.trans (HBS.out ▸ htP.below bs (fun g hg _ => (own_lt HE.out g hg).1) (by rw [HBS.out]; exact hk.size))
          replace HL := hid (htP.block HL.out (fun h => HNE.out (by simpa using (Option.some.inj h).symm)))
          clear HNE
          replace HE := hid hP
          clear hP htP
          refine hK.out _ _ ?_ (fun hHeld2 => ?_)
          focus
            exact hS _ (Tch.of_below hkP)
          clear hHeld
          have hHeld := hHeld2
          clear hHeld2 hK K
          try simp only [List.getElem_toArray, List.getElem_cons_succ, List.getElem_cons_zero, Act.put, List.setIfInBounds_toArray, List.set_cons_zero, List.set_cons_succ]
          replace hk := hkP
          clear hkP
          refine wpAnyH_ready (rs := [15]) (by kernel_rfl) (by simp) ?_
          refine (AllReadyH.cons rfl (fun K hK => ?_) AllReadyH.nil)
          refine step_append_slw rfl (.tmp 32) (.tmp 40) 51 rfl bs 64 Try.underlying51 info_rthing rfl (by omega) rfl HE.out rfl (sl_blk4 HL.out) (by simp [Value.oneCell']) ?c1 ?c2 (by rw [HBS.out]; exact hk.size) ?_
          case c1 => unfold maxLen; omega
          case c2 => omega
          intro vQ k61 hQ htQ _
          have hkQ := hk.trans (HBS.out ▸ htQ.below bs (fun g hg _ => (own_lt HE.out g hg).1) (by rw [HBS.out]; exact hk.size))
          obtain ⟨LQ, hlq⟩ : ∃ n, n = (l ++ [Tg.mk f t s tb]).length := ⟨_, rfl⟩
          have hQ9 : k61.ownsRow bs 64 4 vQ LQ (tcells (l ++ [Tg.mk f t s tb])) := by
            rw [hlq, List.length_append, tcells_append]
            simpa [tcells, tc] using hQ
          have HLQ := hid hlq
          clear hQ hlq
          obtain ⟨A6, c6, rfl, h99⟩ := Sl.of_own hQ9
          clear h99
          have hQ := hQ9
          clear hQ9
          clear HE htQ
          refine hK.out _ _ ?_ (fun hHeld2 => ?_)
          focus
            exact hS _ (Tch.of_below hkQ)
          clear hHeld
          have hHeld := hHeld2
          clear hHeld2 hK K
          try simp only [List.getElem_toArray, List.getElem_cons_succ, List.getElem_cons_zero, Act.put, List.setIfInBounds_toArray, List.set_cons_zero, List.set_cons_succ]
          replace hk := hkQ
          clear hkQ
          refine wpAnyH_take (i := 16) (v := ?_) rfl (by kernel_rfl) (by kernel_rfl) (by kernel_rfl) (fun _ _ _ h => h) (Or.inl ⟨by rfl, ?_⟩) (by assumption) ?_
          rotate_left
          focus
            intro U hU
            try dsimp only at hU
            go_simp
            try (with_reducible rfl)
          simp only [List.getElem_toArray, List.getElem_cons_succ, List.getElem_cons_zero, Act.put, List.setIfInBounds_toArray, List.set_cons_zero, List.set_cons_succ]
          refine wpAnyH_take (i := 17) (v := ?_) rfl (by kernel_rfl) (by kernel_rfl) (by kernel_rfl) (fun _ _ _ h => h) (Or.inl ⟨by rfl, ?_⟩) (by assumption) ?_
          rotate_left
          focus
            intro U hU
            try dsimp only at hU
            go_simp
            try (with_reducible rfl)
          simp only [List.getElem_toArray, List.getElem_cons_succ, List.getElem_cons_zero, Act.put, List.setIfInBounds_toArray, List.set_cons_zero, List.set_cons_succ]
          refine wpAnyH_ready (rs := [18]) (by kernel_rfl) (by simp) ?_
          refine (AllReadyH.cons rfl (fun K hK => ?_) AllReadyH.nil)
          obtain ⟨n0, n1, nf0, nf1⟩ := two_cells (keep0 HC.out hk)
          have hst := (Tch.of_below (S := fun g => g = c) hk).set c 0 (.slice A6 LQ c6) (fun _ => rfl)
          have HFIN := hid (rnAt_set (keep0 HC.out hk) hQ (by rw [HBS.out]; exact HSB.out) HCB.out HLQ.out rfl)
          have HFIN2 := hid (rnAt_set0 (keep0 HC.out hk) hQ HLQ.out rfl)
          simp only [List.getElem_toArray, List.getElem_cons_succ, List.getElem_cons_zero]
          go_simp
          refine hK.out _ _ ?_ (fun hHeld2 => ?_)
          focus
            exact hS _ hst
          clear hHeld
          have hHeld := hHeld2
          clear hHeld2 hK K
          try simp only [List.getElem_toArray, List.getElem_cons_succ, List.getElem_cons_zero, Act.put, List.setIfInBounds_toArray, List.set_cons_zero, List.set_cons_succ]
          clear n0 n1 nf0 nf1 hQ
          refine wpAnyH_done (by kernel_rfl) ?_ _
          clear hHeld hS hk
          have HT5 := hid (HT4.out.trans hst (fun g hg _ => hg))
          clear hst HT4 HC HSL
          generalize World.setCell _ _ _ = w9 at *
          go_wp2
          go_ret
          exact ⟨rfl, by rw [HV.out]; exact HFIN.out, HT5.out⟩
      · skip
        have hbs : Below (World.heap w0).size w0 (World.alloc w0 (.cells #[.int .i64 f, .int .i64 t, .string (str s), .bool tb] 64)) := (Below.refl _ _).alloc (Nat.le_refl _) _
        have HL : Hid ((World.alloc w0 (.cells #[.int .i64 f, .int .i64 t, .string (str s), .bool tb] 64)).heap[(World.heap w0).size]? = some (.cells #[.int .i64 f, .int .i64 t, .string (str s), .bool tb] 64 (0, 0))) := hid (heap_alloc_new _ _)
        have hk9 := hk.trans (hbs.mono hk.size)
        clear hbs
        simp only [List.getElem_toArray, List.getElem_cons_succ, List.getElem_cons_zero]
        go_simp
        refine hK.out _ _ ?_ (fun hHeld2 => ?_)
        focus
          exact hS _ (Tch.of_below hk9)
        clear hHeld
        have hHeld := hHeld2
        clear hHeld2 hK K
        try simp only [List.getElem_toArray, List.getElem_cons_succ, List.getElem_cons_zero, Act.put, List.setIfInBounds_toArray, List.set_cons_zero, List.set_cons_succ]
        replace hk := hk9
        clear hk9
        generalize (World.alloc w0 (.cells #[.int .i64 f, .int .i64 t, .string (str s), .bool tb] 64)) = k62 at *
        generalize hxx : (World.heap w0).size = XL at HL ⊢
        clear hxx
        refine wpAnyH_ready (rs := [1, 5]) (by kernel_rfl) (by simp) ?_
        refine (AllReadyH.cons rfl (fun K hK => ?_) (AllReadyH.cons rfl (fun K hK => ?_) AllReadyH.nil))
        · skip
          have hbs : Below (World.heap k62).size k62 (World.alloc k62 (.cells #[] 64)) := (Below.refl _ _).alloc (Nat.le_refl _) _
          have HE := hid (own_mono (own_empty k62 64 4) (show bs ≤ _ from by rw [HBS.out]; exact hk.size))
          have HNE : Hid (XL ≠ (World.heap k62).size) := hid (Nat.ne_of_lt (lt_of_block HL.out))
          replace HL := hid (keep0 HL.out hbs)
          have hk9 := hk.trans (hbs.mono hk.size)
          clear hbs
          simp only [List.getElem_toArray, List.getElem_cons_succ, List.getElem_cons_zero]
          go_simp
          refine hK.out _ _ ?_ (fun hHeld2 => ?_)
          focus
            exact hS _ (Tch.of_below hk9)
          clear hHeld
          have hHeld := hHeld2
          clear hHeld2 hK K
          try simp only [List.getElem_toArray, List.getElem_cons_succ, List.getElem_cons_zero, Act.put, List.setIfInBounds_toArray, List.set_cons_zero, List.set_cons_succ]
          replace hk := hk9
          clear hk9
          generalize (World.alloc k62 (.cells #[] 64)) = k63 at *
          generalize hxx : (World.heap k62).size = XE at HE HNE ⊢
          clear hxx
          refine wpAnyH_ready (rs := [5]) (by kernel_rfl) (by simp) ?_
          refine (AllReadyH.cons rfl (fun K hK => ?_) AllReadyH.nil)
          obtain ⟨n0, n1, _, _⟩ := two_cells (keep0 HC.out hk)
          simp only [List.getElem_toArray, List.getElem_cons_succ, List.getElem_cons_zero]
          go_simp
          refine hK.out _ _ ?_ (fun hHeld2 => ?_)
          focus
            exact hS _ (Tch.of_below hk)
          clear hHeld
          have hHeld := hHeld2
          clear hHeld2 hK K
          try simp only [List.getElem_toArray, List.getElem_cons_succ, List.getElem_cons_zero, Act.put, List.setIfInBounds_toArray, List.set_cons_zero, List.set_cons_succ]
          clear n0 n1
          refine wpAnyH_ready (rs := [6]) (by kernel_rfl) (by simp) ?_
          refine (AllReadyH.cons rfl (fun K hK => ?_) AllReadyH.nil)
          refine step_append_slw rfl (.tmp 27) (.tmp 31) 51 rfl bs 64 Try.underlying51 info_rthing rfl (by omega) rfl HE.out rfl (HSL.out _ hk) (tcells_one _) ?c1 ?c2 (by rw [HBS.out]; exact hk.size) ?_
          case c1 => unfold maxLen; omega
          case c2 => omega
          intro vP k64 hP htP _
          have hkP := hk.trans (HBS.out ▸ htP.below bs (fun g hg _ => (own_lt HE.out g hg).1) (by rw [HBS.out]; exact hk.size))
          replace HL := hid (htP.block HL.out (fun h => HNE.out (by simpa using (Option.some.inj h).symm)))
          clear HNE
          replace HE := hid hP
          clear hP htP
          refine hK.out _ _ ?_ (fun hHeld2 => ?_)
          focus
            exact hS _ (Tch.of_below hkP)
          clear hHeld
          have hHeld := hHeld2
          clear hHeld2 hK K
          try simp only [List.getElem_toArray, List.getElem_cons_succ, List.getElem_cons_zero, Act.put, List.setIfInBounds_toArray, List.set_cons_zero, List.set_cons_succ]
          replace hk := hkP
          clear hkP
          refine wpAnyH_ready (rs := [15]) (by kernel_rfl) (by simp) ?_
          refine (AllReadyH.cons rfl (fun K hK => ?_) AllReadyH.nil)
          refine step_append_slw rfl (.tmp 32) (.tmp 40) 51 rfl bs 64 Try.underlying51 info_rthing rfl (by omega) rfl HE.out rfl (sl_blk4 HL.out) (by simp [Value.oneCell']) ?c1 ?c2 (by rw [HBS.out]; exact hk.size) ?_
          case c1 => unfold maxLen; omega
          case c2 => omega
          intro vQ k65 hQ htQ _
          have hkQ := hk.trans (HBS.out ▸ htQ.below bs (fun g hg _ => (own_lt HE.out g hg).1) (by rw [HBS.out]; exact hk.size))
          obtain ⟨LQ, hlq⟩ : ∃ n, n = (l ++ [Tg.mk f t s tb]).length := ⟨_, rfl⟩
          have hQ9 : k65.ownsRow bs 64 4 vQ LQ (tcells (l ++ [Tg.mk f t s tb])) := by
            rw [hlq, List.length_append, tcells_append]
            simpa [tcells, tc] using hQ
          have HLQ := hid hlq
          clear hQ hlq
          obtain ⟨A6, c6, rfl, h99⟩ := Sl.of_own hQ9
          clear h99
          have hQ := hQ9
          clear hQ9
          clear HE htQ
          refine hK.out _ _ ?_ (fun hHeld2 => ?_)
          focus
            exact hS _ (Tch.of_below hkQ)
          clear hHeld
          have hHeld := hHeld2
          clear hHeld2 hK K
          try simp only [List.getElem_toArray, List.getElem_cons_succ, List.getElem_cons_zero, Act.put, List.setIfInBounds_toArray, List.set_cons_zero, List.set_cons_succ]
          replace hk := hkQ
          clear hkQ
          refine wpAnyH_take (i := 16) (v := ?_) rfl (by kernel_rfl) (by kernel_rfl) (by kernel_rfl) (fun _ _ _ h => h) (Or.inl ⟨by rfl, ?_⟩) (by assumption) ?_
          rotate_left
          focus
            intro U hU
            try dsimp only at hU
            go_simp
            try (with_reducible rfl)
          simp only [List.getElem_toArray, List.getElem_cons_succ, List.getElem_cons_zero, Act.put, List.setIfInBounds_toArray, List.set_cons_zero, List.set_cons_succ]
          refine wpAnyH_take (i := 17) (v := ?_) rfl (by kernel_rfl) (by kernel_rfl) (by kernel_rfl) (fun _ _ _ h => h) (Or.inl ⟨by rfl, ?_⟩) (by assumption) ?_
          rotate_left
          focus
            intro U hU
            try dsimp only at hU
            go_simp
            try (with_reducible rfl)
          simp only [List.getElem_toArray, List.getElem_cons_succ, List.getElem_cons_zero, Act.put, List.setIfInBounds_toArray, List.set_cons_zero, List.set_cons_succ]
          refine wpAnyH_ready (rs := [18]) (by kernel_rfl) (by simp) ?_
          refine (AllReadyH.cons rfl (fun K hK => ?_) AllReadyH.nil)
          obtain ⟨n0, n1, nf0, nf1⟩ := two_cells (keep0 HC.out hk)
          have hst := (Tch.of_below (S := fun g => g = c) hk).set c 0 (.slice A6 LQ c6) (fun _ => rfl)
          have HFIN := hid (rnAt_set (keep0 HC.out hk) hQ (by rw [HBS.out]; exact HSB.out) HCB.out HLQ.out rfl)
          have HFIN2 := hid (rnAt_set0 (keep0 HC.out hk) hQ HLQ.out rfl)
          simp only [List.getElem_toArray, List.getElem_cons_succ, List.getElem_cons_zero]
          go_simp
          refine hK.out _ _ ?_ (fun hHeld2 => ?_)
          focus
            exact hS _ hst
          clear hHeld
          have hHeld := hHeld2
          clear hHeld2 hK K
          try simp only [List.getElem_toArray, List.getElem_cons_succ, List.getElem_cons_zero, Act.put, List.setIfInBounds_toArray, List.set_cons_zero, List.set_cons_succ]
          clear n0 n1 nf0 nf1 hQ
          refine wpAnyH_done (by kernel_rfl) ?_ _
          clear hHeld hS hk
          have HT5 := hid (HT4.out.trans hst (fun g hg _ => hg))
          clear hst HT4 HC HSL
          generalize World.setCell _ _ _ = w9 at *
          go_wp2
          go_ret
          exact ⟨rfl, by rw [HV.out]; exact HFIN.out, HT5.out⟩
        · skip
          obtain ⟨n0, n1, _, _⟩ := two_cells (keep0 HC.out hk)
          simp only [List.getElem_toArray, List.getElem_cons_succ, List.getElem_cons_zero]
          go_simp
          refine hK.out _ _ ?_ (fun hHeld2 => ?_)
          focus
            exact hS _ (Tch.of_below hk)
          clear hHeld
          have hHeld := hHeld2
          clear hHeld2 hK K
          try simp only [List.getElem_toArray, List.getElem_cons_succ, List.getElem_cons_zero, Act.put, List.setIfInBounds_toArray, List.set_cons_zero, List.set_cons_succ]
          clear n0 n1
          refine wpAnyH_ready (rs := [1]) (by kernel_rfl) (by simp) ?_
          refine (AllReadyH.cons rfl (fun K hK => ?_) AllReadyH.nil)
          have hbs : Below (World.heap k62).size k62 (World.alloc k62 (.cells #[] 64)) := (Below.refl _ _).alloc (Nat.le_refl _) _
          have HE := hid (own_mono (own_empty k62 64 4) (show bs ≤ _ from by rw [HBS.out]; exact hk.size))
          have HNE : Hid (XL ≠ (World.heap k62).size) := hid (Nat.ne_of_lt (lt_of_block HL.out))
          replace HL := hid (keep0 HL.out hbs)
          have hk9 := hk.trans (hbs.mono hk.size)
          clear hbs
          simp only [List.getElem_toArray, List.getElem_cons_succ, List.getElem_cons_zero]
          go_simp
          refine hK.out _ _ ?_ (fun hHeld2 => ?_)
          focus
            exact hS _ (Tch.of_below hk9)
          clear hHeld
          have hHeld := hHeld2
          clear hHeld2 hK K
          try simp only [List.getElem_toArray, List.getElem_cons_succ, List.getElem_cons_zero, Act.put, List.setIfInBounds_toArray, List.set_cons_zero, List.set_cons_succ]
          replace hk := hk9
          clear hk9
          generalize (World.alloc k62 (.cells #[] 64)) = k66 at *
          generalize hxx : (World.heap k62).size = XE at HE HNE ⊢
          clear hxx
          refine wpAnyH_ready (rs := [6]) (by kernel_rfl) (by simp) ?_
          refine (AllReadyH.cons rfl (fun K hK => ?_) AllReadyH.nil)
          refine step_append_slw rfl (.tmp 27) (.tmp 31) 51 rfl bs 64 Try.underlying51 info_rthing rfl (by omega) rfl HE.out rfl (HSL.out _ hk) (tcells_one _) ?c1 ?c2 (by rw [HBS.out]; exact hk.size) ?_
          case c1 => unfold maxLen; omega
          case c2 => omega
          intro vP k67 hP htP _
          have hkP := hk.trans (HBS.out ▸ htP.below bs (fun g hg _ => (own_lt HE.out g hg).1) (by rw [HBS.out]; exact hk.size))
          replace HL := hid (htP.block HL.out (fun h => HNE.out (by simpa using (Option.some.inj h).symm)))
          clear HNE
          replace HE := hid hP
          clear hP htP
          refine hK.out _ _ ?_ (fun hHeld2 => ?_)
          focus
            exact hS _ (Tch.of_below hkP)
          clear hHeld
          have hHeld := hHeld2
          clear hHeld2 hK K
          try simp only [List.getElem_toArray, List.getElem_cons_succ, List.getElem_cons_zero, Act.put, List.setIfInBounds_toArray, List.set_cons_zero, List.set_cons_succ]
          replace hk := hkP
          clear hkP
          refine wpAnyH_ready (rs := [15]) (by kernel_rfl) (by simp) ?_
          refine (AllReadyH.cons rfl (fun K hK => ?_) AllReadyH.nil)
          refine step_append_slw rfl (.tmp 32) (.tmp 40) 51 rfl bs 64 Try.underlying51 info_rthing rfl (by omega) rfl HE.out rfl (sl_blk4 HL.out) (by simp [Value.oneCell']) ?c1 ?c2 (by rw [HBS.out]; exact hk.size) ?_
          case c1 => unfold maxLen; omega
          case c2 => omega
          intro vQ k68 hQ htQ _
          have hkQ := hk.trans (HBS.out ▸ htQ.below bs (fun g hg _ => (own_lt HE.out g hg).1) (by rw [HBS.out]; exact hk.size))
          obtain ⟨LQ, hlq⟩ : ∃ n, n = (l ++ [Tg.mk f t s tb]).length := ⟨_, rfl⟩
          have hQ9 : k68.ownsRow bs 64 4 vQ LQ (tcells (l ++ [Tg.mk f t s tb])) := by
            rw [hlq, List.length_append, tcells_append]
            simpa [tcells, tc] using hQ
          have HLQ := hid hlq
          clear hQ hlq
          obtain ⟨A6, c6, rfl, h99⟩ := Sl.of_own hQ9
          clear h99
          have hQ := hQ9
          clear hQ9
          clear HE htQ
          refine hK.out _ _ ?_ (fun hHeld2 => ?_)
          focus
            exact hS _ (Tch.of_below hkQ)
          clear hHeld
          have hHeld := hHeld2
          clear hHeld2 hK K
          try simp only [List.getElem_toArray, List.getElem_cons_succ, List.getElem_cons_zero, Act.put, List.setIfInBounds_toArray, List.set_cons_zero, List.set_cons_succ]
          replace hk := hkQ
          clear hkQ
          refine wpAnyH_take (i := 16) (v := ?_) rfl (by kernel_rfl) (by kernel_rfl) (by kernel_rfl) (fun _ _ _ h => h) (Or.inl ⟨by rfl, ?_⟩) (by assumption) ?_
          rotate_left
          focus
            intro U hU
            try dsimp only at hU
            go_simp
            try (with_reducible rfl)
          simp only [List.getElem_toArray, List.getElem_cons_succ, List.getElem_cons_zero, Act.put, List.setIfInBounds_toArray, List.set_cons_zero, List.set_cons_succ]
          refine wpAnyH_take (i := 17) (v := ?_) rfl (by kernel_rfl) (by kernel_rfl) (by kernel_rfl) (fun _ _ _ h => h) (Or.inl ⟨by rfl, ?_⟩) (by assumption) ?_
          rotate_left
          focus
            intro U hU
            try dsimp only at hU
            go_simp
            try (with_reducible rfl)
          simp only [List.getElem_toArray, List.getElem_cons_succ, List.getElem_cons_zero, Act.put, List.setIfInBounds_toArray, List.set_cons_zero, List.set_cons_succ]
          refine wpAnyH_ready (rs := [18]) (by kernel_rfl) (by simp) ?_
          refine (AllReadyH.cons rfl (fun K hK => ?_) AllReadyH.nil)
          obtain ⟨n0, n1, nf0, nf1⟩ := two_cells (keep0 HC.out hk)
          have hst := (Tch.of_below (S := fun g => g = c) hk).set c 0 (.slice A6 LQ c6) (fun _ => rfl)
          have HFIN := hid (rnAt_set (keep0 HC.out hk) hQ (by rw [HBS.out]; exact HSB.out) HCB.out HLQ.out rfl)
          have HFIN2 := hid (rnAt_set0 (keep0 HC.out hk) hQ HLQ.out rfl)
          simp only [List.getElem_toArray, List.getElem_cons_succ, List.getElem_cons_zero]
          go_simp
          refine hK.out _ _ ?_ (fun hHeld2 => ?_)
          focus
            exact hS _ hst
          clear hHeld
          have hHeld := hHeld2
          clear hHeld2 hK K
          try simp only [List.getElem_toArray, List.getElem_cons_succ, List.getElem_cons_zero, Act.put, List.setIfInBounds_toArray, List.set_cons_zero, List.set_cons_succ]
          clear n0 n1 nf0 nf1 hQ
          refine wpAnyH_done (by kernel_rfl) ?_ _
          clear hHeld hS hk
          have HT5 := hid (HT4.out.trans hst (fun g hg _ => hg))
          clear hst HT4 HC HSL
          generalize World.setCell _ _ _ = w9 at *
          go_wp2
          go_ret
          exact ⟨rfl, by rw [HV.out]; exact HFIN.out, HT5.out⟩
  · have HV : Hid (LL = l) := hid (by rw [← HLL.out, if_neg hm])
    clear HEL HSL0
    go_quiet (fail)
    go_wp2
    go_ret
    exact ⟨rfl, by rw [HV.out]; exact HN.out.below (below_drewN1 W _), Tch.of_below (below_drewN1 W _)⟩
set_option maxRecDepth 20000 in
set_option maxHeartbeats 4000000 in
theorem rtake_out (B c : Nat) (m : Int) (l : List Tg) (k : Int) (W : World) (h : RnAt B c m l W) (hk : k < 0 ∨ (l.length : Int) ≤ k) : Calls Try.prog 28 #[.pointer (some ⟨c, 0, none⟩), .int .i64 k] W fun e w' => e = .returned (.tuple #[.agg #[.int .i64 0, .int .i64 0, .string ⟨#[]⟩, .bool false], .int .i64 6]) ∧ Below W.heap.size W w' := by
  obtain ⟨h0, A, cap, h1, h2⟩ := h
  have HC := hid h1
  clear h0 h1 h2
  go_enter Try.func28, Try.ntmps28
  go_upto_region 1 with (fail)
  have hb0 : Below W.heap.size W (W.alloc (.cells #[.int .i64 0, .int .i64 0, .string ⟨#[]⟩, .bool false] 64)) := bel_alloc (Below.refl _ _) _
  refine at_world (fun u => u.heap[W.heap.size]? = some (.cells #[.int .i64 0, .int .i64 0, .string ⟨#[]⟩, .bool false] 64 (0, 0)) ∧ Below W.heap.size W u) ⟨heap_alloc_new _ _, hb0⟩ ?_
  clear hb0
  rintro w1 ⟨hr, hb⟩
  obtain ⟨n0, n1, nf0, nf1⟩ := two_cells (keep0 HC.out hb)
  obtain ⟨⟨q0, q1, q2, q3⟩, fz0, fz1, fz2, fz3⟩ := four_cells hr
  have HR := hid hr
  have HB := hid hb
  clear hr hb
  have HZ := hid (set_four HR.out (.int .i64 0) (.int .i64 0) (.string ⟨#[]⟩) (.bool false))
  by_cases hk0 : k < 0
  · go_wp2
    clear q0 q1 q2 q3
    obtain ⟨⟨r0, r1, r2, r3⟩, _⟩ := four_cells HZ.out.1
    exact bodyPost_ret (v := .tuple #[.agg #[.int .i64 0, .int .i64 0, .string ⟨#[]⟩, .bool false], .int .i64 6]) (by simp [results, Try.results28, go_sem, r0, r1, r2, r3]) rfl ⟨rfl, (((HB.out.setCell (Nat.le_refl _) _).setCell (Nat.le_refl _) _).setCell (Nat.le_refl _) _).setCell (Nat.le_refl _) _⟩
  · have hk1 : k ≥ (l.length : Int) := by omega
    go_wp2
    clear q0 q1 q2 q3
    obtain ⟨⟨r0, r1, r2, r3⟩, _⟩ := four_cells HZ.out.1
    exact bodyPost_ret (v := .tuple #[.agg #[.int .i64 0, .int .i64 0, .string ⟨#[]⟩, .bool false], .int .i64 6]) (by simp [results, Try.results28, go_sem, r0, r1, r2, r3]) rfl ⟨rfl, (((HB.out.setCell (Nat.le_refl _) _).setCell (Nat.le_refl _) _).setCell (Nat.le_refl _) _).setCell (Nat.le_refl _) _⟩
end Go.Proofs.Ytdphdodjidbngaa
