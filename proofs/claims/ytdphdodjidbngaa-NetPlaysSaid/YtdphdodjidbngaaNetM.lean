/- The document's net: Take. -/
import Derived.Test.YtdphdodjidbngaaNetL
namespace Go.Proofs.Ytdphdodjidbngaa
open Go.RowKit
set_option linter.unusedVariables false
set_option linter.unusedSimpArgs false

/-- Four cells of a block that neither is the net's nor holds its things, written over. -/
theorem rnAt_put {B b2 c b : Nat} {m : Int} {l : List Tg} {w : World} {x y z u x' y' z' u' : Value} (h0 : B ≤ c) (h : ∃ A cap, w.heap[c]? = some (.cells #[.slice A l.length cap, .int .i64 m] 53 (0, 0)) ∧ w.ownsRow b2 64 4 (.slice A l.length cap) l.length (tcells l)) (hb : w.heap[b]? = some (.cells #[x, y, z, u] 64 (0, 0))) (hbc : b ≠ c) (hA : b < b2) (hB : B ≤ b2) : RnAt B c m l ((((w.setCell ⟨b, 0, none⟩ x').setCell ⟨b, 1, none⟩ y').setCell ⟨b, 2, none⟩ z').setCell ⟨b, 3, none⟩ u') := by
  obtain ⟨A, cap, h1, h2⟩ := h
  have hs := (set_four hb x' y' z' u').2
  refine ⟨h0, A, cap, (hs c (fun h => hbc h.symm)).trans h1, own_mono (own_other2 h2 fun g hg => hs g fun he => ?_) hB⟩
  subst he
  have := (own_lt h2 g hg).1
  omega
theorem tch_new {c b : Nat} {w w' : World} (h : Tch (fun g => g = c) w w') (hb : w.heap.size ≤ b) {x y z u : Value} : Tch (fun g => g = c) w ((((w'.setCell ⟨b, 0, none⟩ x).setCell ⟨b, 1, none⟩ y).setCell ⟨b, 2, none⟩ z).setCell ⟨b, 3, none⟩ u) :=
  (((h.set b 0 x (fun h => absurd h (by omega))).set b 1 y (fun h => absurd h (by omega))).set b 2 z (fun h => absurd h (by omega))).set b 3 u (fun h => absurd h (by omega))
theorem Sl.taken {w : World} {size : Nat} {a : Option Addr} {len cap : Nat} {xs : List Value} (h : Sl w size a len cap xs) (g : Nat) (hg : g ≤ len) : Sl w size a g cap (xs.take (g * size)) := by
  obtain ⟨h1, h2, h3, h4⟩ := h
  have hm : g * size ≤ len * size := Nat.mul_le_mul_right _ hg
  refine ⟨by rw [List.length_take, h1]; omega, by omega, h3, fun h0 => ?_⟩
  rw [List.length_take] at h0
  obtain ⟨b, off, ha, hc⟩ := h4 (by omega)
  refine ⟨b, off, ha, fun i hi => ?_⟩
  rw [List.length_take] at hi
  rw [hc i (by omega), List.getElem?_take, if_pos (by omega)]
set_option maxRecDepth 20000 in
set_option maxHeartbeats 4000000 in
theorem rtake_any (B c : Nat) (m : Int) (l : List Tg) (k : Nat) (W : World) (h : RnAt B c m l W) (hB : B ≤ W.heap.size) (hl : l.length ≤ 100000) (hk : k < l.length) : Calls Try.prog 28 #[.pointer (some ⟨c, 0, none⟩), .int .i64 (k : Int)] W fun e w' => e = .returned (.tuple #[.agg (tc l[k]), .int .i64 0]) ∧ RnAt B c m (l.eraseIdx k) w' ∧ Tch (fun g => g = c) W w' := by
  have HCB := hid h.1
  obtain ⟨g, cap, h1, hcap, hsl, hel⟩ := h.el k hk
  have HSL0 := hid hsl
  have HEL := hid hel
  have HC0 := hid h1
  have hk2 : (k : Int) < (l.length : Int) := by omega
  have hk0 : ¬ (k : Int) < 0 := by omega
  have hkw : IntKind.i64.wrap ((k : Int) + 1) = ((k + 1 : Nat) : Int) := by simp [IntKind.wrap, IntKind.bits, IntKind.signed]; omega
  have HER : Hid (tcells (l.take k) ++ tcells (l.drop (k + 1)) = tcells (l.eraseIdx k)) := hid (by rw [← tcells_append, List.eraseIdx_eq_take_drop_succ])
  have HEN : Hid ((l.eraseIdx k).length = k + (l.length - (k + 1))) := hid (by rw [List.length_eraseIdx, if_pos hk]; omega)
  obtain ⟨x, hx⟩ : ∃ x, l[k] = x := ⟨_, rfl⟩
  rw [hx] at HEL ⊢
  have HCL := hid h.lt
  clear h h1 hsl hel hx
  obtain ⟨f, t, s, tb⟩ := x
  simp only at HEL
  simp only [tc]
  obtain ⟨EL, hEL⟩ : ∃ EL, l.eraseIdx k = EL := ⟨_, rfl⟩
  rw [hEL] at HER HEN ⊢
  clear hEL
  go_enter Try.func28, Try.ntmps28
  go_upto_region 1 with (fail)
  have hb0 : Below W.heap.size W (W.alloc (.cells #[.int .i64 0, .int .i64 0, .string ⟨#[]⟩, .bool false] 64)) := bel_alloc (Below.refl _ _) _
  refine at_world (fun u => u.heap[W.heap.size]? = some (.cells #[.int .i64 0, .int .i64 0, .string ⟨#[]⟩, .bool false] 64 (0, 0)) ∧ Below W.heap.size W u) ⟨heap_alloc_new _ _, hb0⟩ ?_
  clear hb0
  rintro w1 ⟨hr, hb⟩
  have HR1 := hid hr
  have HB1 := hid hb
  have HRC : Hid (W.heap.size ≠ c) := hid (fun h => by have := HCL.out; omega)
  obtain ⟨n0, n1, nf0, nf1⟩ := two_cells (keep0 HC0.out hb)
  obtain ⟨y0, y1, y2, y3⟩ := HEL.out w1 (Tch.of_below hb)
  clear hr hb
  go_upto_region 4 with (fail)
  have hb1 : Below w1.heap.size w1 (w1.alloc (.cells #[.int .i64 f, .int .i64 t, .string (str s), .bool tb] 64)) := bel_alloc (Below.refl _ _) _
  refine at_world (fun u => u.heap[w1.heap.size]? = some (.cells #[.int .i64 f, .int .i64 t, .string (str s), .bool tb] 64 (0, 0)) ∧ Below w1.heap.size w1 u) ⟨heap_alloc_new _ _, hb1⟩ ?_
  clear hb1 n0 n1 nf0 nf1 y0 y1 y2 y3
  rintro w2 ⟨hx, hb⟩
  have HX2 := hid hx
  have HR2 := hid (keep0 HR1.out hb)
  have HB2 := hid (HB1.out.trans (hb.mono HB1.out.size))
  have HXR : Hid (w1.heap.size ≠ W.heap.size) := hid (Nat.ne_of_gt (lt_of_block HR1.out))
  have HXC : Hid (w1.heap.size ≠ c) := hid (fun h => by have h1 := HCL.out; have h2 := HB1.out.size; omega)
  clear hx hb HR1 HB1
  generalize hXb : w1.heap.size = Xb at HX2 HXR HXC ⊢
  generalize hRb : W.heap.size = Rb at HR2 HXR HRC ⊢
  have HRBE := hid hRb
  clear hXb hRb
  have hu1 : Below W.heap.size W w2.drew := below_drew HB2.out
  have HC := hid (keep0 HC0.out hu1)
  have HSL : Hid (∀ U, Below w2.drew.heap.size w2.drew U → Sl U 4 (some ⟨g, 0, none⟩) l.length cap (tcells l)) := hid (fun U hU => HSL0.out U (hu1.trans (hU.mono hu1.size)))
  have HSB := hid (show B ≤ w2.drew.heap.size from Nat.le_trans hB HB2.out.size)
  have HT4 : Hid (Tch (fun g => g = c) W w2.drew) := hid (Tch.of_below hu1)
  have HX4 : Hid (w2.drew.heap[Xb]? = some (.cells #[.int .i64 f, .int .i64 t, .string (str s), .bool tb] 64 (0, 0))) := hid HX2.out
  have HR4 : Hid (w2.drew.heap[Rb]? = some (.cells #[.int .i64 0, .int .i64 0, .string ⟨#[]⟩, .bool false] 64 (0, 0))) := hid HR2.out
  have hs1 : ∀ w : World, (Instr.slice 51 (.slice (some ⟨g, 0, none⟩) l.length cap) none (some (.int .i64 (k : Int))) none).run Try.prog w = .ok (.slice (some ⟨g, 0, none⟩) k cap) w := fun w => run_to Try.underlying51 info_rthing _ _ _ k (by omega) w
  have hs2 : ∀ w : World, (Instr.slice 51 (.slice (some ⟨g, 0, none⟩) l.length cap) (some (.int .i64 ((k : Int) + 1))) none none).run Try.prog w = .ok (.slice (dropA (some ⟨g, 0, none⟩) cap (k + 1) 4) (l.length - (k + 1)) (cap - (k + 1))) w := run_from Try.underlying51 info_rthing _ _ _ (k + 1) (by omega)
  have hS : ∀ U, Tch (fun g => g = c) w2.drew U → (True ∧ Tch (fun g => g = c) w2.drew U) := fun U hU => ⟨trivial, hU⟩
  refine wp_region_held_drew (S := fun U => True ∧ Tch (fun g => g = c) w2.drew U) (by kernel_rfl) (hS _ (Tch.refl _ _)) (fun hHeld => ?_)
  clear hu1
  have hlk : l.length - (k + 1) ≤ 100000 := by omega
  generalize w2.drew = w0 at *
  have hk' : k ≤ 100000 := by omega
  have hk : Below w0.heap.size w0 w0 := Below.refl _ _
  obtain ⟨bs, hbs9⟩ : ∃ n, n = w0.heap.size := ⟨_, rfl⟩
  have HBS := hid hbs9
  clear hbs9
  refine wpAnyH_take (i := 0) (v := ?_) rfl (by kernel_rfl) (by kernel_rfl) (by kernel_rfl) (fun _ _ _ h => h) (Or.inl ⟨by rfl, ?_⟩) (by assumption) ?_
  rotate_left
  focus
    intro U hU
    try dsimp only at hU
    go_simp
    try (with_reducible rfl)
  simp only [List.getElem_toArray, List.getElem_cons_succ, List.getElem_cons_zero, Act.put, List.setIfInBounds_toArray, List.set_cons_zero, List.set_cons_succ]
  refine wpAnyH_take (i := 2) (v := ?_) rfl (by kernel_rfl) (by kernel_rfl) (by kernel_rfl) (fun _ _ _ h => h) (Or.inl ⟨by rfl, ?_⟩) (by assumption) ?_
  rotate_left
  focus
    intro U hU
    try dsimp only at hU
    go_simp
    try (with_reducible rfl)
  simp only [List.getElem_toArray, List.getElem_cons_succ, List.getElem_cons_zero, Act.put, List.setIfInBounds_toArray, List.set_cons_zero, List.set_cons_succ]
  refine wpAnyH_take (i := 3) (v := ?_) rfl (by kernel_rfl) (by kernel_rfl) (by kernel_rfl) (fun _ _ _ h => h) (Or.inl ⟨by rfl, ?_⟩) (by assumption) ?_
  rotate_left
  focus
    intro U hU
    try dsimp only at hU
    go_simp
    try (with_reducible rfl)
  simp only [List.getElem_toArray, List.getElem_cons_succ, List.getElem_cons_zero, Act.put, List.setIfInBounds_toArray, List.set_cons_zero, List.set_cons_succ]
  refine wpAnyH_take (i := 4) (v := ?_) rfl (by kernel_rfl) (by kernel_rfl) (by kernel_rfl) (fun _ _ _ h => h) (Or.inl ⟨by rfl, ?_⟩) (by assumption) ?_
  rotate_left
  focus
    intro U hU
    try dsimp only at hU
    go_simp
    try (with_reducible rfl)
  simp only [List.getElem_toArray, List.getElem_cons_succ, List.getElem_cons_zero, Act.put, List.setIfInBounds_toArray, List.set_cons_zero, List.set_cons_succ]
  refine wpAnyH_take (i := 6) (v := ?_) rfl (by kernel_rfl) (by kernel_rfl) (by kernel_rfl) (fun _ _ _ h => h) (Or.inl ⟨by rfl, ?_⟩) (by assumption) ?_
  rotate_left
  focus
    intro U hU
    try dsimp only at hU
    go_simp
    try (with_reducible rfl)
  simp only [List.getElem_toArray, List.getElem_cons_succ, List.getElem_cons_zero, Act.put, List.setIfInBounds_toArray, List.set_cons_zero, List.set_cons_succ]
  refine wpAnyH_take (i := 9) (v := ?_) rfl (by kernel_rfl) (by kernel_rfl) (by kernel_rfl) (fun _ _ _ h => h) (Or.inl ⟨by rfl, ?_⟩) (by assumption) ?_
  rotate_left
  focus
    intro U hU
    try dsimp only at hU
    go_simp
    try (with_reducible rfl)
  simp only [List.getElem_toArray, List.getElem_cons_succ, List.getElem_cons_zero, Act.put, List.setIfInBounds_toArray, List.set_cons_zero, List.set_cons_succ]
  refine wpAnyH_take (i := 10) (v := ?_) rfl (by kernel_rfl) (by kernel_rfl) (by kernel_rfl) (fun _ _ _ h => h) (Or.inl ⟨by rfl, ?_⟩) (by assumption) ?_
  rotate_left
  focus
    intro U hU
    try dsimp only at hU
    go_simp
    try (with_reducible rfl)
  simp only [List.getElem_toArray, List.getElem_cons_succ, List.getElem_cons_zero, Act.put, List.setIfInBounds_toArray, List.set_cons_zero, List.set_cons_succ]
  refine wpAnyH_take (i := 11) (v := ?_) rfl (by kernel_rfl) (by kernel_rfl) (by kernel_rfl) (fun _ _ _ h => h) (Or.inl ⟨by rfl, ?_⟩) (by assumption) ?_
  rotate_left
  focus
    intro U hU
    try dsimp only at hU
    go_simp
    try (with_reducible rfl)
  simp only [List.getElem_toArray, List.getElem_cons_succ, List.getElem_cons_zero, Act.put, List.setIfInBounds_toArray, List.set_cons_zero, List.set_cons_succ]
  refine wpAnyH_take (i := 13) (v := ?_) rfl (by kernel_rfl) (by kernel_rfl) (by kernel_rfl) (fun _ _ _ h => h) (Or.inl ⟨by rfl, ?_⟩) (by assumption) ?_
  rotate_left
  focus
    intro U hU
    try dsimp only at hU
    go_simp
    try (with_reducible rfl)
  simp only [List.getElem_toArray, List.getElem_cons_succ, List.getElem_cons_zero, Act.put, List.setIfInBounds_toArray, List.set_cons_zero, List.set_cons_succ]
  refine wpAnyH_take (i := 14) (v := ?_) rfl (by kernel_rfl) (by kernel_rfl) (by kernel_rfl) (fun _ _ _ h => h) (Or.inl ⟨by rfl, ?_⟩) (by assumption) ?_
  rotate_left
  focus
    intro U hU
    try dsimp only at hU
    go_simp
    try (with_reducible rfl)
  simp only [List.getElem_toArray, List.getElem_cons_succ, List.getElem_cons_zero, Act.put, List.setIfInBounds_toArray, List.set_cons_zero, List.set_cons_succ]
  refine wpAnyH_ready (rs := [1, 5, 12]) (by kernel_rfl) (by simp) ?_
  refine (AllReadyH.cons rfl (fun K hK => ?_) (AllReadyH.cons rfl (fun K hK => ?_) (AllReadyH.cons rfl (fun K hK => ?_) AllReadyH.nil)))
  · skip
    have hbs : Below (World.heap w0).size w0 (World.alloc w0 (.cells #[] 64)) := (Below.refl _ _).alloc (Nat.le_refl _) _
    have HE := hid (own_mono (own_empty w0 64 4) (show bs ≤ _ from by rw [HBS.out]; exact hk.size))
    have hk9 := hk.trans (hbs.mono hk.size)
    clear hbs
    simp only [List.getElem_toArray, List.getElem_cons_succ, List.getElem_cons_zero]
    go_simp
    refine hK.out _ _ ?_ (fun hHeld2 => ?_)
    focus
      exact hS _ (Tch.of_below hk9)
    clear hHeld
    have hHeld := hHeld2
    clear hHeld2 hK K
    try simp only [List.getElem_toArray, List.getElem_cons_succ, List.getElem_cons_zero, Act.put, List.setIfInBounds_toArray, List.set_cons_zero, List.set_cons_succ]
    replace hk := hk9
    clear hk9
    generalize (World.alloc w0 (.cells #[] 64)) = k1 at *
    generalize hxx : (World.heap w0).size = XE at HE ⊢
    clear hxx
    refine wpAnyH_ready (rs := [5, 12]) (by kernel_rfl) (by simp) ?_
    refine (AllReadyH.cons rfl (fun K hK => ?_) (AllReadyH.cons rfl (fun K hK => ?_) AllReadyH.nil))
    · skip
      obtain ⟨n0, n1, _, _⟩ := two_cells (keep0 HC.out hk)
      simp only [List.getElem_toArray, List.getElem_cons_succ, List.getElem_cons_zero]
      go_simp
      refine hK.out _ _ ?_ (fun hHeld2 => ?_)
      focus
        exact hS _ (Tch.of_below hk)
      clear hHeld
      have hHeld := hHeld2
      clear hHeld2 hK K
      try simp only [List.getElem_toArray, List.getElem_cons_succ, List.getElem_cons_zero, Act.put, List.setIfInBounds_toArray, List.set_cons_zero, List.set_cons_succ]
      clear n0 n1
      refine wpAnyH_take (i := 7) (v := ?_) rfl (by kernel_rfl) (by kernel_rfl) (by kernel_rfl) (fun _ _ _ h => h) (Or.inl ⟨by rfl, ?_⟩) (by assumption) ?_
      rotate_left
      focus
        intro U hU
        try dsimp only at hU
        go_simp
        try (with_reducible rfl)
      simp only [List.getElem_toArray, List.getElem_cons_succ, List.getElem_cons_zero, Act.put, List.setIfInBounds_toArray, List.set_cons_zero, List.set_cons_succ]
      refine wpAnyH_ready (rs := [8, 12]) (by kernel_rfl) (by simp) ?_
      refine (AllReadyH.cons rfl (fun K hK => ?_) (AllReadyH.cons rfl (fun K hK => ?_) AllReadyH.nil))
      · skip
        refine step_append_slw rfl (.tmp 27) (.tmp 33) 51 rfl bs 64 Try.underlying51 info_rthing rfl (by omega) rfl HE.out rfl ((HSL.out _ hk).taken k (by omega)) (fun u hu => tcells_one l u (List.mem_of_mem_take hu)) ?c1 ?c2 (by rw [HBS.out]; exact hk.size) ?_
        case c1 => unfold maxLen; omega
        case c2 => omega
        intro vP k2 hP htP _
        have hkP := hk.trans (HBS.out ▸ htP.below bs (fun g hg _ => (own_lt HE.out g hg).1) (by rw [HBS.out]; exact hk.size))
        replace HE := hid hP
        clear hP htP
        refine hK.out _ _ ?_ (fun hHeld2 => ?_)
        focus
          exact hS _ (Tch.of_below hkP)
        clear hHeld
        have hHeld := hHeld2
        clear hHeld2 hK K
        try simp only [List.getElem_toArray, List.getElem_cons_succ, List.getElem_cons_zero, Act.put, List.setIfInBounds_toArray, List.set_cons_zero, List.set_cons_succ]
        replace hk := hkP
        clear hkP
        refine wpAnyH_ready (rs := [12]) (by kernel_rfl) (by simp) ?_
        refine (AllReadyH.cons rfl (fun K hK => ?_) AllReadyH.nil)
        obtain ⟨n0, n1, _, _⟩ := two_cells (keep0 HC.out hk)
        simp only [List.getElem_toArray, List.getElem_cons_succ, List.getElem_cons_zero]
        go_simp
        refine hK.out _ _ ?_ (fun hHeld2 => ?_)
        focus
          exact hS _ (Tch.of_below hk)
        clear hHeld
        have hHeld := hHeld2
        clear hHeld2 hK K
        try simp only [List.getElem_toArray, List.getElem_cons_succ, List.getElem_cons_zero, Act.put, List.setIfInBounds_toArray, List.set_cons_zero, List.set_cons_succ]
        clear n0 n1
        refine wpAnyH_take (i := 15) (v := ?_) rfl (by kernel_rfl) (by kernel_rfl) (by kernel_rfl) (fun _ _ _ h => h) (Or.inl ⟨by rfl, ?_⟩) (by assumption) ?_
        rotate_left
        focus
          intro U hU
          try dsimp only at hU
          go_simp
          try (with_reducible rfl)
        simp only [List.getElem_toArray, List.getElem_cons_succ, List.getElem_cons_zero, Act.put, List.setIfInBounds_toArray, List.set_cons_zero, List.set_cons_succ]
        refine wpAnyH_ready (rs := [16]) (by kernel_rfl) (by simp) ?_
        refine (AllReadyH.cons rfl (fun K hK => ?_) AllReadyH.nil)
        refine step_append_slw rfl (.tmp 34) (.tmp 41) 51 rfl bs 64 Try.underlying51 info_rthing rfl (by omega) rfl HE.out rfl ((HSL.out _ hk).drop (k + 1) (by omega)) (fun u hu => tcells_one l u (List.mem_of_mem_drop hu)) ?c1 ?c2 (by rw [HBS.out]; exact hk.size) ?_
        case c1 => unfold maxLen; omega
        case c2 => omega
        intro vQ k3 hQ htQ _
        have hkQ := hk.trans (HBS.out ▸ htQ.below bs (fun g hg _ => (own_lt HE.out g hg).1) (by rw [HBS.out]; exact hk.size))
        obtain ⟨LQ, hlq⟩ : ∃ n, n = (EL).length := ⟨_, rfl⟩
        have hQ9 : k3.ownsRow bs 64 4 vQ LQ (tcells (EL)) := by
          rw [hlq, HEN.out, ← HER.out]
          simpa [tcells_take, tcells_drop] using hQ
        have HLQ := hid hlq
        clear hQ hlq
        obtain ⟨A6, c6, rfl, h99⟩ := Sl.of_own hQ9
        clear h99
        have hQ := hQ9
        clear hQ9
        have HAP : Hid (Rb < bs) := hid (by rw [HBS.out]; exact lt_of_block HR4.out)
        clear HE htQ
        refine hK.out _ _ ?_ (fun hHeld2 => ?_)
        focus
          exact hS _ (Tch.of_below hkQ)
        clear hHeld
        have hHeld := hHeld2
        clear hHeld2 hK K
        try simp only [List.getElem_toArray, List.getElem_cons_succ, List.getElem_cons_zero, Act.put, List.setIfInBounds_toArray, List.set_cons_zero, List.set_cons_succ]
        replace hk := hkQ
        clear hkQ
        refine wpAnyH_take (i := 17) (v := ?_) rfl (by kernel_rfl) (by kernel_rfl) (by kernel_rfl) (fun _ _ _ h => h) (Or.inl ⟨by rfl, ?_⟩) (by assumption) ?_
        rotate_left
        focus
          intro U hU
          try dsimp only at hU
          go_simp
          try (with_reducible rfl)
        simp only [List.getElem_toArray, List.getElem_cons_succ, List.getElem_cons_zero, Act.put, List.setIfInBounds_toArray, List.set_cons_zero, List.set_cons_succ]
        refine wpAnyH_take (i := 18) (v := ?_) rfl (by kernel_rfl) (by kernel_rfl) (by kernel_rfl) (fun _ _ _ h => h) (Or.inl ⟨by rfl, ?_⟩) (by assumption) ?_
        rotate_left
        focus
          intro U hU
          try dsimp only at hU
          go_simp
          try (with_reducible rfl)
        simp only [List.getElem_toArray, List.getElem_cons_succ, List.getElem_cons_zero, Act.put, List.setIfInBounds_toArray, List.set_cons_zero, List.set_cons_succ]
        refine wpAnyH_ready (rs := [19]) (by kernel_rfl) (by simp) ?_
        refine (AllReadyH.cons rfl (fun K hK => ?_) AllReadyH.nil)
        obtain ⟨n0, n1, nf0, nf1⟩ := two_cells (keep0 HC.out hk)
        have hst := (Tch.of_below (S := fun g => g = c) hk).set c 0 (.slice A6 LQ c6) (fun _ => rfl)
        have HFIN := hid (rnAt_set (keep0 HC.out hk) hQ (by rw [HBS.out]; exact HSB.out) HCB.out HLQ.out rfl)
        have HFIN2 := hid (rnAt_set0 (keep0 HC.out hk) hQ HLQ.out rfl)
        simp only [List.getElem_toArray, List.getElem_cons_succ, List.getElem_cons_zero]
        go_simp
        refine hK.out _ _ ?_ (fun hHeld2 => ?_)
        focus
          exact hS _ hst
        clear hHeld
        have hHeld := hHeld2
        clear hHeld2 hK K
        try simp only [List.getElem_toArray, List.getElem_cons_succ, List.getElem_cons_zero, Act.put, List.setIfInBounds_toArray, List.set_cons_zero, List.set_cons_succ]
        clear n0 n1 nf0 nf1 hQ
        refine wpAnyH_done (by kernel_rfl) ?_ _
        clear hHeld hS hk hs1 hs2
        have HT5 := hid (HT4.out.trans hst (fun g hg _ => hg))
        have HX9 := hid (hst.block HX4.out HXC.out)
        have HR9 := hid (hst.block HR4.out HRC.out)
        clear hst HT4 HC HSL HX4 HR4
        generalize World.setCell _ _ _ = w9 at *
        obtain ⟨⟨x0, x1, x2, x3⟩, xf⟩ := four_cells HX9.out
        obtain ⟨⟨q0, q1, q2, q3⟩, fz0, fz1, fz2, fz3⟩ := four_cells HR9.out
        clear xf
        have HZ := hid (set_four HR9.out (.int .i64 f) (.int .i64 t) (.string (str s)) (.bool tb))
        go_wp2
        clear q0 q1 q2 q3 x0 x1 x2 x3
        obtain ⟨⟨r0, r1, r2, r3⟩, _⟩ := four_cells HZ.out.1
        refine bodyPost_ret (v := .tuple #[.agg #[.int .i64 f, .int .i64 t, .string (str s), .bool tb], .int .i64 0]) (by simp [results, Try.results28, go_sem, r0, r1, r2, r3]) rfl ⟨rfl, ?_, ?_⟩
        · exact rnAt_put HCB.out HFIN2.out HR9.out HRC.out HAP.out (by rw [HBS.out]; exact HSB.out)
        · exact tch_new HT5.out (Nat.le_of_eq HRBE.out)
      · skip
        obtain ⟨n0, n1, _, _⟩ := two_cells (keep0 HC.out hk)
        simp only [List.getElem_toArray, List.getElem_cons_succ, List.getElem_cons_zero]
        go_simp
        refine hK.out _ _ ?_ (fun hHeld2 => ?_)
        focus
          exact hS _ (Tch.of_below hk)
        clear hHeld
        have hHeld := hHeld2
        clear hHeld2 hK K
        try simp only [List.getElem_toArray, List.getElem_cons_succ, List.getElem_cons_zero, Act.put, List.setIfInBounds_toArray, List.set_cons_zero, List.set_cons_succ]
        clear n0 n1
        refine wpAnyH_take (i := 15) (v := ?_) rfl (by kernel_rfl) (by kernel_rfl) (by kernel_rfl) (fun _ _ _ h => h) (Or.inl ⟨by rfl, ?_⟩) (by assumption) ?_
        rotate_left
        focus
          intro U hU
          try dsimp only at hU
          go_simp
          try (with_reducible rfl)
        simp only [List.getElem_toArray, List.getElem_cons_succ, List.getElem_cons_zero, Act.put, List.setIfInBounds_toArray, List.set_cons_zero, List.set_cons_succ]
        refine wpAnyH_ready (rs := [8]) (by kernel_rfl) (by simp) ?_
        refine (AllReadyH.cons rfl (fun K hK => ?_) AllReadyH.nil)
        refine step_append_slw rfl (.tmp 27) (.tmp 33) 51 rfl bs 64 Try.underlying51 info_rthing rfl (by omega) rfl HE.out rfl ((HSL.out _ hk).taken k (by omega)) (fun u hu => tcells_one l u (List.mem_of_mem_take hu)) ?c1 ?c2 (by rw [HBS.out]; exact hk.size) ?_
        case c1 => unfold maxLen; omega
        case c2 => omega
        intro vP k4 hP htP _
        have hkP := hk.trans (HBS.out ▸ htP.below bs (fun g hg _ => (own_lt HE.out g hg).1) (by rw [HBS.out]; exact hk.size))
        replace HE := hid hP
        clear hP htP
        refine hK.out _ _ ?_ (fun hHeld2 => ?_)
        focus
          exact hS _ (Tch.of_below hkP)
        clear hHeld
        have hHeld := hHeld2
        clear hHeld2 hK K
        try simp only [List.getElem_toArray, List.getElem_cons_succ, List.getElem_cons_zero, Act.put, List.setIfInBounds_toArray, List.set_cons_zero, List.set_cons_succ]
        replace hk := hkP
        clear hkP
        refine wpAnyH_ready (rs := [16]) (by kernel_rfl) (by simp) ?_
        refine (AllReadyH.cons rfl (fun K hK => ?_) AllReadyH.nil)
        refine step_append_slw rfl (.tmp 34) (.tmp 41) 51 rfl bs 64 Try.underlying51 info_rthing rfl (by omega) rfl HE.out rfl ((HSL.out _ hk).drop (k + 1) (by omega)) (fun u hu => tcells_one l u (List.mem_of_mem_drop hu)) ?c1 ?c2 (by rw [HBS.out]; exact hk.size) ?_
        case c1 => unfold maxLen; omega
        case c2 => omega
        intro vQ k5 hQ htQ _
        have hkQ := hk.trans (HBS.out ▸ htQ.below bs (fun g hg _ => (own_lt HE.out g hg).1) (by rw [HBS.out]; exact hk.size))
        obtain ⟨LQ, hlq⟩ : ∃ n, n = (EL).length := ⟨_, rfl⟩
        have hQ9 : k5.ownsRow bs 64 4 vQ LQ (tcells (EL)) := by
          rw [hlq, HEN.out, ← HER.out]
          simpa [tcells_take, tcells_drop] using hQ
        have HLQ := hid hlq
        clear hQ hlq
        obtain ⟨A6, c6, rfl, h99⟩ := Sl.of_own hQ9
        clear h99
        have hQ := hQ9
        clear hQ9
        have HAP : Hid (Rb < bs) := hid (by rw [HBS.out]; exact lt_of_block HR4.out)
        clear HE htQ
        refine hK.out _ _ ?_ (fun hHeld2 => ?_)
        focus
          exact hS _ (Tch.of_below hkQ)
        clear hHeld
        have hHeld := hHeld2
        clear hHeld2 hK K
        try simp only [List.getElem_toArray, List.getElem_cons_succ, List.getElem_cons_zero, Act.put, List.setIfInBounds_toArray, List.set_cons_zero, List.set_cons_succ]
        replace hk := hkQ
        clear hkQ
        refine wpAnyH_take (i := 17) (v := ?_) rfl (by kernel_rfl) (by kernel_rfl) (by kernel_rfl) (fun _ _ _ h => h) (Or.inl ⟨by rfl, ?_⟩) (by assumption) ?_
        rotate_left
        focus
          intro U hU
          try dsimp only at hU
          go_simp
          try (with_reducible rfl)
        simp only [List.getElem_toArray, List.getElem_cons_succ, List.getElem_cons_zero, Act.put, List.setIfInBounds_toArray, List.set_cons_zero, List.set_cons_succ]
        refine wpAnyH_take (i := 18) (v := ?_) rfl (by kernel_rfl) (by kernel_rfl) (by kernel_rfl) (fun _ _ _ h => h) (Or.inl ⟨by rfl, ?_⟩) (by assumption) ?_
        rotate_left
        focus
          intro U hU
          try dsimp only at hU
          go_simp
          try (with_reducible rfl)
        simp only [List.getElem_toArray, List.getElem_cons_succ, List.getElem_cons_zero, Act.put, List.setIfInBounds_toArray, List.set_cons_zero, List.set_cons_succ]
        refine wpAnyH_ready (rs := [19]) (by kernel_rfl) (by simp) ?_
        refine (AllReadyH.cons rfl (fun K hK => ?_) AllReadyH.nil)
        obtain ⟨n0, n1, nf0, nf1⟩ := two_cells (keep0 HC.out hk)
        have hst := (Tch.of_below (S := fun g => g = c) hk).set c 0 (.slice A6 LQ c6) (fun _ => rfl)
        have HFIN := hid (rnAt_set (keep0 HC.out hk) hQ (by rw [HBS.out]; exact HSB.out) HCB.out HLQ.out rfl)
        have HFIN2 := hid (rnAt_set0 (keep0 HC.out hk) hQ HLQ.out rfl)
        simp only [List.getElem_toArray, List.getElem_cons_succ, List.getElem_cons_zero]
        go_simp
        refine hK.out _ _ ?_ (fun hHeld2 => ?_)
        focus
          exact hS _ hst
        clear hHeld
        have hHeld := hHeld2
        clear hHeld2 hK K
        try simp only [List.getElem_toArray, List.getElem_cons_succ, List.getElem_cons_zero, Act.put, List.setIfInBounds_toArray, List.set_cons_zero, List.set_cons_succ]
        clear n0 n1 nf0 nf1 hQ
        refine wpAnyH_done (by kernel_rfl) ?_ _
        clear hHeld hS hk hs1 hs2
        have HT5 := hid (HT4.out.trans hst (fun g hg _ => hg))
        have HX9 := hid (hst.block HX4.out HXC.out)
        have HR9 := hid (hst.block HR4.out HRC.out)
        clear hst HT4 HC HSL HX4 HR4
        generalize World.setCell _ _ _ = w9 at *
        obtain ⟨⟨x0, x1, x2, x3⟩, xf⟩ := four_cells HX9.out
        obtain ⟨⟨q0, q1, q2, q3⟩, fz0, fz1, fz2, fz3⟩ := four_cells HR9.out
        clear xf
        have HZ := hid (set_four HR9.out (.int .i64 f) (.int .i64 t) (.string (str s)) (.bool tb))
        go_wp2
        clear q0 q1 q2 q3 x0 x1 x2 x3
        obtain ⟨⟨r0, r1, r2, r3⟩, _⟩ := four_cells HZ.out.1
        refine bodyPost_ret (v := .tuple #[.agg #[.int .i64 f, .int .i64 t, .string (str s), .bool tb], .int .i64 0]) (by simp [results, Try.results28, go_sem, r0, r1, r2, r3]) rfl ⟨rfl, ?_, ?_⟩
        · exact rnAt_put HCB.out HFIN2.out HR9.out HRC.out HAP.out (by rw [HBS.out]; exact HSB.out)
        · exact tch_new HT5.out (Nat.le_of_eq HRBE.out)
    · skip
      obtain ⟨n0, n1, _, _⟩ := two_cells (keep0 HC.out hk)
      simp only [List.getElem_toArray, List.getElem_cons_succ, List.getElem_cons_zero]
      go_simp
      refine hK.out _ _ ?_ (fun hHeld2 => ?_)
      focus
        exact hS _ (Tch.of_below hk)
      clear hHeld
      have hHeld := hHeld2
      clear hHeld2 hK K
      try simp only [List.getElem_toArray, List.getElem_cons_succ, List.getElem_cons_zero, Act.put, List.setIfInBounds_toArray, List.set_cons_zero, List.set_cons_succ]
      clear n0 n1
      refine wpAnyH_take (i := 15) (v := ?_) rfl (by kernel_rfl) (by kernel_rfl) (by kernel_rfl) (fun _ _ _ h => h) (Or.inl ⟨by rfl, ?_⟩) (by assumption) ?_
      rotate_left
      focus
        intro U hU
        try dsimp only at hU
        go_simp
        try (with_reducible rfl)
      simp only [List.getElem_toArray, List.getElem_cons_succ, List.getElem_cons_zero, Act.put, List.setIfInBounds_toArray, List.set_cons_zero, List.set_cons_succ]
      refine wpAnyH_ready (rs := [5]) (by kernel_rfl) (by simp) ?_
      refine (AllReadyH.cons rfl (fun K hK => ?_) AllReadyH.nil)
      obtain ⟨n0, n1, _, _⟩ := two_cells (keep0 HC.out hk)
      simp only [List.getElem_toArray, List.getElem_cons_succ, List.getElem_cons_zero]
      go_simp
      refine hK.out _ _ ?_ (fun hHeld2 => ?_)
      focus
        exact hS _ (Tch.of_below hk)
      clear hHeld
      have hHeld := hHeld2
      clear hHeld2 hK K
      try simp only [List.getElem_toArray, List.getElem_cons_succ, List.getElem_cons_zero, Act.put, List.setIfInBounds_toArray, List.set_cons_zero, List.set_cons_succ]
      clear n0 n1
      refine wpAnyH_take (i := 7) (v := ?_) rfl (by kernel_rfl) (by kernel_rfl) (by kernel_rfl) (fun _ _ _ h => h) (Or.inl ⟨by rfl, ?_⟩) (by assumption) ?_
      rotate_left
      focus
        intro U hU
        try dsimp only at hU
        go_simp
        try (with_reducible rfl)
      simp only [List.getElem_toArray, List.getElem_cons_succ, List.getElem_cons_zero, Act.put, List.setIfInBounds_toArray, List.set_cons_zero, List.set_cons_succ]
      refine wpAnyH_ready (rs := [8]) (by kernel_rfl) (by simp) ?_
      refine (AllReadyH.cons rfl (fun K hK => ?_) AllReadyH.nil)
      refine step_append_slw rfl (.tmp 27) (.tmp 33) 51 rfl bs 64 Try.underlying51 info_rthing rfl (by omega) rfl HE.out rfl ((HSL.out _ hk).taken k (by omega)) (fun u hu => tcells_one l u (List.mem_of_mem_take hu)) ?c1 ?c2 (by rw [HBS.out]; exact hk.size) ?_
      case c1 => unfold maxLen; omega
      case c2 => omega
      intro vP k6 hP htP _
      have hkP := hk.trans (HBS.out ▸ htP.below bs (fun g hg _ => (own_lt HE.out g hg).1) (by rw [HBS.out]; exact hk.size))
      replace HE := hid hP
      clear hP htP
      refine hK.out _ _ ?_ (fun hHeld2 => ?_)
      focus
        exact hS _ (Tch.of_below hkP)
      clear hHeld
      have hHeld := hHeld2
      clear hHeld2 hK K
      try simp only [List.getElem_toArray, List.getElem_cons_succ, List.getElem_cons_zero, Act.put, List.setIfInBounds_toArray, List.set_cons_zero, List.set_cons_succ]
      replace hk := hkP
      clear hkP
      refine wpAnyH_ready (rs := [16]) (by kernel_rfl) (by simp) ?_
      refine (AllReadyH.cons rfl (fun K hK => ?_) AllReadyH.nil)
      refine step_append_slw rfl (.tmp 34) (.tmp 41) 51 rfl bs 64 Try.underlying51 info_rthing rfl (by omega) rfl HE.out rfl ((HSL.out _ hk).drop (k + 1) (by omega)) (fun u hu => tcells_one l u (List.mem_of_mem_drop hu)) ?c1 ?c2 (by rw [HBS.out]; exact hk.size) ?_
      case c1 => unfold maxLen; omega
      case c2 => omega
      intro vQ k7 hQ htQ _
      have hkQ := hk.trans (HBS.out ▸ htQ.below bs (fun g hg _ => (own_lt HE.out g hg).1) (by rw [HBS.out]; exact hk.size))
      obtain ⟨LQ, hlq⟩ : ∃ n, n = (EL).length := ⟨_, rfl⟩
      have hQ9 : k7.ownsRow bs 64 4 vQ LQ (tcells (EL)) := by
        rw [hlq, HEN.out, ← HER.out]
        simpa [tcells_take, tcells_drop] using hQ
      have HLQ := hid hlq
      clear hQ hlq
      obtain ⟨A6, c6, rfl, h99⟩ := Sl.of_own hQ9
      clear h99
      have hQ := hQ9
      clear hQ9
      have HAP : Hid (Rb < bs) := hid (by rw [HBS.out]; exact lt_of_block HR4.out)
      clear HE htQ
      refine hK.out _ _ ?_ (fun hHeld2 => ?_)
      focus
        exact hS _ (Tch.of_below hkQ)
      clear hHeld
      have hHeld := hHeld2
      clear hHeld2 hK K
      try simp only [List.getElem_toArray, List.getElem_cons_succ, List.getElem_cons_zero, Act.put, List.setIfInBounds_toArray, List.set_cons_zero, List.set_cons_succ]
      replace hk := hkQ
      clear hkQ
      refine wpAnyH_take (i := 17) (v := ?_) rfl (by kernel_rfl) (by kernel_rfl) (by kernel_rfl) (fun _ _ _ h => h) (Or.inl ⟨by rfl, ?_⟩) (by assumption) ?_
      rotate_left
      focus
        intro U hU
        try dsimp only at hU
        go_simp
        try (with_reducible rfl)
      simp only [List.getElem_toArray, List.getElem_cons_succ, List.getElem_cons_zero, Act.put, List.setIfInBounds_toArray, List.set_cons_zero, List.set_cons_succ]
      refine wpAnyH_take (i := 18) (v := ?_) rfl (by kernel_rfl) (by kernel_rfl) (by kernel_rfl) (fun _ _ _ h => h) (Or.inl ⟨by rfl, ?_⟩) (by assumption) ?_
      rotate_left
      focus
        intro U hU
        try dsimp only at hU
        go_simp
        try (with_reducible rfl)
      simp only [List.getElem_toArray, List.getElem_cons_succ, List.getElem_cons_zero, Act.put, List.setIfInBounds_toArray, List.set_cons_zero, List.set_cons_succ]
      refine wpAnyH_ready (rs := [19]) (by kernel_rfl) (by simp) ?_
      refine (AllReadyH.cons rfl (fun K hK => ?_) AllReadyH.nil)
      obtain ⟨n0, n1, nf0, nf1⟩ := two_cells (keep0 HC.out hk)
      have hst := (Tch.of_below (S := fun g => g = c) hk).set c 0 (.slice A6 LQ c6) (fun _ => rfl)
      have HFIN := hid (rnAt_set (keep0 HC.out hk) hQ (by rw [HBS.out]; exact HSB.out) HCB.out HLQ.out rfl)
      have HFIN2 := hid (rnAt_set0 (keep0 HC.out hk) hQ HLQ.out rfl)
      simp only [List.getElem_toArray, List.getElem_cons_succ, List.getElem_cons_zero]
      go_simp
      refine hK.out _ _ ?_ (fun hHeld2 => ?_)
      focus
        exact hS _ hst
      clear hHeld
      have hHeld := hHeld2
      clear hHeld2 hK K
      try simp only [List.getElem_toArray, List.getElem_cons_succ, List.getElem_cons_zero, Act.put, List.setIfInBounds_toArray, List.set_cons_zero, List.set_cons_succ]
      clear n0 n1 nf0 nf1 hQ
      refine wpAnyH_done (by kernel_rfl) ?_ _
      clear hHeld hS hk hs1 hs2
      have HT5 := hid (HT4.out.trans hst (fun g hg _ => hg))
      have HX9 := hid (hst.block HX4.out HXC.out)
      have HR9 := hid (hst.block HR4.out HRC.out)
      clear hst HT4 HC HSL HX4 HR4
      generalize World.setCell _ _ _ = w9 at *
      obtain ⟨⟨x0, x1, x2, x3⟩, xf⟩ := four_cells HX9.out
      obtain ⟨⟨q0, q1, q2, q3⟩, fz0, fz1, fz2, fz3⟩ := four_cells HR9.out
      clear xf
      have HZ := hid (set_four HR9.out (.int .i64 f) (.int .i64 t) (.string (str s)) (.bool tb))
      go_wp2
      clear q0 q1 q2 q3 x0 x1 x2 x3
      obtain ⟨⟨r0, r1, r2, r3⟩, _⟩ := four_cells HZ.out.1
      refine bodyPost_ret (v := .tuple #[.agg #[.int .i64 f, .int .i64 t, .string (str s), .bool tb], .int .i64 0]) (by simp [results, Try.results28, go_sem, r0, r1, r2, r3]) rfl ⟨rfl, ?_, ?_⟩
      · exact rnAt_put HCB.out HFIN2.out HR9.out HRC.out HAP.out (by rw [HBS.out]; exact HSB.out)
      · exact tch_new HT5.out (Nat.le_of_eq HRBE.out)
  · skip
    obtain ⟨n0, n1, _, _⟩ := two_cells (keep0 HC.out hk)
    simp only [List.getElem_toArray, List.getElem_cons_succ, List.getElem_cons_zero]
    go_simp
    refine hK.out _ _ ?_ (fun hHeld2 => ?_)
    focus
      exact hS _ (Tch.of_below hk)
    clear hHeld
    have hHeld := hHeld2
    clear hHeld2 hK K
    try simp only [List.getElem_toArray, List.getElem_cons_succ, List.getElem_cons_zero, Act.put, List.setIfInBounds_toArray, List.set_cons_zero, List.set_cons_succ]
    clear n0 n1
    refine wpAnyH_take (i := 7) (v := ?_) rfl (by kernel_rfl) (by kernel_rfl) (by kernel_rfl) (fun _ _ _ h => h) (Or.inl ⟨by rfl, ?_⟩) (by assumption) ?_
    rotate_left
    focus
      intro U hU
      try dsimp only at hU
      go_simp
      try (with_reducible rfl)
    simp only [List.getElem_toArray, List.getElem_cons_succ, List.getElem_cons_zero, Act.put, List.setIfInBounds_toArray, List.set_cons_zero, List.set_cons_succ]
    refine wpAnyH_ready (rs := [1, 12]) (by kernel_rfl) (by simp) ?_
    refine (AllReadyH.cons rfl (fun K hK => ?_) (AllReadyH.cons rfl (fun K hK => ?_) AllReadyH.nil))
    · skip
      have hbs : Below (World.heap w0).size w0 (World.alloc w0 (.cells #[] 64)) := (Below.refl _ _).alloc (Nat.le_refl _) _
      have HE := hid (own_mono (own_empty w0 64 4) (show bs ≤ _ from by rw [HBS.out]; exact hk.size))
      have hk9 := hk.trans (hbs.mono hk.size)
      clear hbs
      simp only [List.getElem_toArray, List.getElem_cons_succ, List.getElem_cons_zero]
      go_simp
      refine hK.out _ _ ?_ (fun hHeld2 => ?_)
      focus
        exact hS _ (Tch.of_below hk9)
      clear hHeld
      have hHeld := hHeld2
      clear hHeld2 hK K
      try simp only [List.getElem_toArray, List.getElem_cons_succ, List.getElem_cons_zero, Act.put, List.setIfInBounds_toArray, List.set_cons_zero, List.set_cons_succ]
      replace hk := hk9
      clear hk9
      generalize (World.alloc w0 (.cells #[] 64)) = k8 at *
      generalize hxx : (World.heap w0).size = XE at HE ⊢
      clear hxx
      refine wpAnyH_ready (rs := [8, 12]) (by kernel_rfl) (by simp) ?_
      refine (AllReadyH.cons rfl (fun K hK => ?_) (AllReadyH.cons rfl (fun K hK => ?_) AllReadyH.nil))
      · skip
        refine step_append_slw rfl (.tmp 27) (.tmp 33) 51 rfl bs 64 Try.underlying51 info_rthing rfl (by omega) rfl HE.out rfl ((HSL.out _ hk).taken k (by omega)) (fun u hu => tcells_one l u (List.mem_of_mem_take hu)) ?c1 ?c2 (by rw [HBS.out]; exact hk.size) ?_
        case c1 => unfold maxLen; omega
        case c2 => omega
        intro vP k9 hP htP _
        have hkP := hk.trans (HBS.out ▸ htP.below bs (fun g hg _ => (own_lt HE.out g hg).1) (by rw [HBS.out]; exact hk.size))
        replace HE := hid hP
        clear hP htP
        refine hK.out _ _ ?_ (fun hHeld2 => ?_)
        focus
          exact hS _ (Tch.of_below hkP)
        clear hHeld
        have hHeld := hHeld2
        clear hHeld2 hK K
        try simp only [List.getElem_toArray, List.getElem_cons_succ, List.getElem_cons_zero, Act.put, List.setIfInBounds_toArray, List.set_cons_zero, List.set_cons_succ]
        replace hk := hkP
        clear hkP
        refine wpAnyH_ready (rs := [12]) (by kernel_rfl) (by simp) ?_
        refine (AllReadyH.cons rfl (fun K hK => ?_) AllReadyH.nil)
        obtain ⟨n0, n1, _, _⟩ := two_cells (keep0 HC.out hk)
        simp only [List.getElem_toArray, List.getElem_cons_succ, List.getElem_cons_zero]
        go_simp
        refine hK.out _ _ ?_ (fun hHeld2 => ?_)
        focus
          exact hS _ (Tch.of_below hk)
        clear hHeld
        have hHeld := hHeld2
        clear hHeld2 hK K
        try simp only [List.getElem_toArray, List.getElem_cons_succ, List.getElem_cons_zero, Act.put, List.setIfInBounds_toArray, List.set_cons_zero, List.set_cons_succ]
        clear n0 n1
        refine wpAnyH_take (i := 15) (v := ?_) rfl (by kernel_rfl) (by kernel_rfl) (by kernel_rfl) (fun _ _ _ h => h) (Or.inl ⟨by rfl, ?_⟩) (by assumption) ?_
        rotate_left
        focus
          intro U hU
          try dsimp only at hU
          go_simp
          try (with_reducible rfl)
        simp only [List.getElem_toArray, List.getElem_cons_succ, List.getElem_cons_zero, Act.put, List.setIfInBounds_toArray, List.set_cons_zero, List.set_cons_succ]
        refine wpAnyH_ready (rs := [16]) (by kernel_rfl) (by simp) ?_
        refine (AllReadyH.cons rfl (fun K hK => ?_) AllReadyH.nil)
        refine step_append_slw rfl (.tmp 34) (.tmp 41) 51 rfl bs 64 Try.underlying51 info_rthing rfl (by omega) rfl HE.out rfl ((HSL.out _ hk).drop (k + 1) (by omega)) (fun u hu => tcells_one l u (List.mem_of_mem_drop hu)) ?c1 ?c2 (by rw [HBS.out]; exact hk.size) ?_
        case c1 => unfold maxLen; omega
        case c2 => omega
        intro vQ k10 hQ htQ _
        have hkQ := hk.trans (HBS.out ▸ htQ.below bs (fun g hg _ => (own_lt HE.out g hg).1) (by rw [HBS.out]; exact hk.size))
        obtain ⟨LQ, hlq⟩ : ∃ n, n = (EL).length := ⟨_, rfl⟩
        have hQ9 : k10.ownsRow bs 64 4 vQ LQ (tcells (EL)) := by
          rw [hlq, HEN.out, ← HER.out]
          simpa [tcells_take, tcells_drop] using hQ
        have HLQ := hid hlq
        clear hQ hlq
        obtain ⟨A6, c6, rfl, h99⟩ := Sl.of_own hQ9
        clear h99
        have hQ := hQ9
        clear hQ9
        have HAP : Hid (Rb < bs) := hid (by rw [HBS.out]; exact lt_of_block HR4.out)
        clear HE htQ
        refine hK.out _ _ ?_ (fun hHeld2 => ?_)
        focus
          exact hS _ (Tch.of_below hkQ)
        clear hHeld
        have hHeld := hHeld2
        clear hHeld2 hK K
        try simp only [List.getElem_toArray, List.getElem_cons_succ, List.getElem_cons_zero, Act.put, List.setIfInBounds_toArray, List.set_cons_zero, List.set_cons_succ]
        replace hk := hkQ
        clear hkQ
        refine wpAnyH_take (i := 17) (v := ?_) rfl (by kernel_rfl) (by kernel_rfl) (by kernel_rfl) (fun _ _ _ h => h) (Or.inl ⟨by rfl, ?_⟩) (by assumption) ?_
        rotate_left
        focus
          intro U hU
          try dsimp only at hU
          go_simp
          try (with_reducible rfl)
        simp only [List.getElem_toArray, List.getElem_cons_succ, List.getElem_cons_zero, Act.put, List.setIfInBounds_toArray, List.set_cons_zero, List.set_cons_succ]
        refine wpAnyH_take (i := 18) (v := ?_) rfl (by kernel_rfl) (by kernel_rfl) (by kernel_rfl) (fun _ _ _ h => h) (Or.inl ⟨by rfl, ?_⟩) (by assumption) ?_
        rotate_left
        focus
          intro U hU
          try dsimp only at hU
          go_simp
          try (with_reducible rfl)
        simp only [List.getElem_toArray, List.getElem_cons_succ, List.getElem_cons_zero, Act.put, List.setIfInBounds_toArray, List.set_cons_zero, List.set_cons_succ]
        refine wpAnyH_ready (rs := [19]) (by kernel_rfl) (by simp) ?_
        refine (AllReadyH.cons rfl (fun K hK => ?_) AllReadyH.nil)
        obtain ⟨n0, n1, nf0, nf1⟩ := two_cells (keep0 HC.out hk)
        have hst := (Tch.of_below (S := fun g => g = c) hk).set c 0 (.slice A6 LQ c6) (fun _ => rfl)
        have HFIN := hid (rnAt_set (keep0 HC.out hk) hQ (by rw [HBS.out]; exact HSB.out) HCB.out HLQ.out rfl)
        have HFIN2 := hid (rnAt_set0 (keep0 HC.out hk) hQ HLQ.out rfl)
        simp only [List.getElem_toArray, List.getElem_cons_succ, List.getElem_cons_zero]
        go_simp
        refine hK.out _ _ ?_ (fun hHeld2 => ?_)
        focus
          exact hS _ hst
        clear hHeld
        have hHeld := hHeld2
        clear hHeld2 hK K
        try simp only [List.getElem_toArray, List.getElem_cons_succ, List.getElem_cons_zero, Act.put, List.setIfInBounds_toArray, List.set_cons_zero, List.set_cons_succ]
        clear n0 n1 nf0 nf1 hQ
        refine wpAnyH_done (by kernel_rfl) ?_ _
        clear hHeld hS hk hs1 hs2
        have HT5 := hid (HT4.out.trans hst (fun g hg _ => hg))
        have HX9 := hid (hst.block HX4.out HXC.out)
        have HR9 := hid (hst.block HR4.out HRC.out)
        clear hst HT4 HC HSL HX4 HR4
        generalize World.setCell _ _ _ = w9 at *
        obtain ⟨⟨x0, x1, x2, x3⟩, xf⟩ := four_cells HX9.out
        obtain ⟨⟨q0, q1, q2, q3⟩, fz0, fz1, fz2, fz3⟩ := four_cells HR9.out
        clear xf
        have HZ := hid (set_four HR9.out (.int .i64 f) (.int .i64 t) (.string (str s)) (.bool tb))
        go_wp2
        clear q0 q1 q2 q3 x0 x1 x2 x3
        obtain ⟨⟨r0, r1, r2, r3⟩, _⟩ := four_cells HZ.out.1
        refine bodyPost_ret (v := .tuple #[.agg #[.int .i64 f, .int .i64 t, .string (str s), .bool tb], .int .i64 0]) (by simp [results, Try.results28, go_sem, r0, r1, r2, r3]) rfl ⟨rfl, ?_, ?_⟩
        · exact rnAt_put HCB.out HFIN2.out HR9.out HRC.out HAP.out (by rw [HBS.out]; exact HSB.out)
        · exact tch_new HT5.out (Nat.le_of_eq HRBE.out)
      · skip
        obtain ⟨n0, n1, _, _⟩ := two_cells (keep0 HC.out hk)
        simp only [List.getElem_toArray, List.getElem_cons_succ, List.getElem_cons_zero]
        go_simp
        refine hK.out _ _ ?_ (fun hHeld2 => ?_)
        focus
          exact hS _ (Tch.of_below hk)
        clear hHeld
        have hHeld := hHeld2
        clear hHeld2 hK K
        try simp only [List.getElem_toArray, List.getElem_cons_succ, List.getElem_cons_zero, Act.put, List.setIfInBounds_toArray, List.set_cons_zero, List.set_cons_succ]
        clear n0 n1
        refine wpAnyH_take (i := 15) (v := ?_) rfl (by kernel_rfl) (by kernel_rfl) (by kernel_rfl) (fun _ _ _ h => h) (Or.inl ⟨by rfl, ?_⟩) (by assumption) ?_
        rotate_left
        focus
          intro U hU
          try dsimp only at hU
          go_simp
          try (with_reducible rfl)
        simp only [List.getElem_toArray, List.getElem_cons_succ, List.getElem_cons_zero, Act.put, List.setIfInBounds_toArray, List.set_cons_zero, List.set_cons_succ]
        refine wpAnyH_ready (rs := [8]) (by kernel_rfl) (by simp) ?_
        refine (AllReadyH.cons rfl (fun K hK => ?_) AllReadyH.nil)
        refine step_append_slw rfl (.tmp 27) (.tmp 33) 51 rfl bs 64 Try.underlying51 info_rthing rfl (by omega) rfl HE.out rfl ((HSL.out _ hk).taken k (by omega)) (fun u hu => tcells_one l u (List.mem_of_mem_take hu)) ?c1 ?c2 (by rw [HBS.out]; exact hk.size) ?_
        case c1 => unfold maxLen; omega
        case c2 => omega
        intro vP k11 hP htP _
        have hkP := hk.trans (HBS.out ▸ htP.below bs (fun g hg _ => (own_lt HE.out g hg).1) (by rw [HBS.out]; exact hk.size))
        replace HE := hid hP
        clear hP htP
        refine hK.out _ _ ?_ (fun hHeld2 => ?_)
        focus
          exact hS _ (Tch.of_below hkP)
        clear hHeld
        have hHeld := hHeld2
        clear hHeld2 hK K
        try simp only [List.getElem_toArray, List.getElem_cons_succ, List.getElem_cons_zero, Act.put, List.setIfInBounds_toArray, List.set_cons_zero, List.set_cons_succ]
        replace hk := hkP
        clear hkP
        refine wpAnyH_ready (rs := [16]) (by kernel_rfl) (by simp) ?_
        refine (AllReadyH.cons rfl (fun K hK => ?_) AllReadyH.nil)
        refine step_append_slw rfl (.tmp 34) (.tmp 41) 51 rfl bs 64 Try.underlying51 info_rthing rfl (by omega) rfl HE.out rfl ((HSL.out _ hk).drop (k + 1) (by omega)) (fun u hu => tcells_one l u (List.mem_of_mem_drop hu)) ?c1 ?c2 (by rw [HBS.out]; exact hk.size) ?_
        case c1 => unfold maxLen; omega
        case c2 => omega
        intro vQ k12 hQ htQ _
        have hkQ := hk.trans (HBS.out ▸ htQ.below bs (fun g hg _ => (own_lt HE.out g hg).1) (by rw [HBS.out]; exact hk.size))
        obtain ⟨LQ, hlq⟩ : ∃ n, n = (EL).length := ⟨_, rfl⟩
        have hQ9 : k12.ownsRow bs 64 4 vQ LQ (tcells (EL)) := by
          rw [hlq, HEN.out, ← HER.out]
          simpa [tcells_take, tcells_drop] using hQ
        have HLQ := hid hlq
        clear hQ hlq
        obtain ⟨A6, c6, rfl, h99⟩ := Sl.of_own hQ9
        clear h99
        have hQ := hQ9
        clear hQ9
        have HAP : Hid (Rb < bs) := hid (by rw [HBS.out]; exact lt_of_block HR4.out)
        clear HE htQ
        refine hK.out _ _ ?_ (fun hHeld2 => ?_)
        focus
          exact hS _ (Tch.of_below hkQ)
        clear hHeld
        have hHeld := hHeld2
        clear hHeld2 hK K
        try simp only [List.getElem_toArray, List.getElem_cons_succ, List.getElem_cons_zero, Act.put, List.setIfInBounds_toArray, List.set_cons_zero, List.set_cons_succ]
        replace hk := hkQ
        clear hkQ
        refine wpAnyH_take (i := 17) (v := ?_) rfl (by kernel_rfl) (by kernel_rfl) (by kernel_rfl) (fun _ _ _ h => h) (Or.inl ⟨by rfl, ?_⟩) (by assumption) ?_
        rotate_left
        focus
          intro U hU
          try dsimp only at hU
          go_simp
          try (with_reducible rfl)
        simp only [List.getElem_toArray, List.getElem_cons_succ, List.getElem_cons_zero, Act.put, List.setIfInBounds_toArray, List.set_cons_zero, List.set_cons_succ]
        refine wpAnyH_take (i := 18) (v := ?_) rfl (by kernel_rfl) (by kernel_rfl) (by kernel_rfl) (fun _ _ _ h => h) (Or.inl ⟨by rfl, ?_⟩) (by assumption) ?_
        rotate_left
        focus
          intro U hU
          try dsimp only at hU
          go_simp
          try (with_reducible rfl)
        simp only [List.getElem_toArray, List.getElem_cons_succ, List.getElem_cons_zero, Act.put, List.setIfInBounds_toArray, List.set_cons_zero, List.set_cons_succ]
        refine wpAnyH_ready (rs := [19]) (by kernel_rfl) (by simp) ?_
        refine (AllReadyH.cons rfl (fun K hK => ?_) AllReadyH.nil)
        obtain ⟨n0, n1, nf0, nf1⟩ := two_cells (keep0 HC.out hk)
        have hst := (Tch.of_below (S := fun g => g = c) hk).set c 0 (.slice A6 LQ c6) (fun _ => rfl)
        have HFIN := hid (rnAt_set (keep0 HC.out hk) hQ (by rw [HBS.out]; exact HSB.out) HCB.out HLQ.out rfl)
        have HFIN2 := hid (rnAt_set0 (keep0 HC.out hk) hQ HLQ.out rfl)
        simp only [List.getElem_toArray, List.getElem_cons_succ, List.getElem_cons_zero]
        go_simp
        refine hK.out _ _ ?_ (fun hHeld2 => ?_)
        focus
          exact hS _ hst
        clear hHeld
        have hHeld := hHeld2
        clear hHeld2 hK K
        try simp only [List.getElem_toArray, List.getElem_cons_succ, List.getElem_cons_zero, Act.put, List.setIfInBounds_toArray, List.set_cons_zero, List.set_cons_succ]
        clear n0 n1 nf0 nf1 hQ
        refine wpAnyH_done (by kernel_rfl) ?_ _
        clear hHeld hS hk hs1 hs2
        have HT5 := hid (HT4.out.trans hst (fun g hg _ => hg))
        have HX9 := hid (hst.block HX4.out HXC.out)
        have HR9 := hid (hst.block HR4.out HRC.out)
        clear hst HT4 HC HSL HX4 HR4
        generalize World.setCell _ _ _ = w9 at *
        obtain ⟨⟨x0, x1, x2, x3⟩, xf⟩ := four_cells HX9.out
        obtain ⟨⟨q0, q1, q2, q3⟩, fz0, fz1, fz2, fz3⟩ := four_cells HR9.out
        clear xf
        have HZ := hid (set_four HR9.out (.int .i64 f) (.int .i64 t) (.string (str s)) (.bool tb))
        go_wp2
        clear q0 q1 q2 q3 x0 x1 x2 x3
        obtain ⟨⟨r0, r1, r2, r3⟩, _⟩ := four_cells HZ.out.1
        refine bodyPost_ret (v := .tuple #[.agg #[.int .i64 f, .int .i64 t, .string (str s), .bool tb], .int .i64 0]) (by simp [results, Try.results28, go_sem, r0, r1, r2, r3]) rfl ⟨rfl, ?_, ?_⟩
        · exact rnAt_put HCB.out HFIN2.out HR9.out HRC.out HAP.out (by rw [HBS.out]; exact HSB.out)
        · exact tch_new HT5.out (Nat.le_of_eq HRBE.out)
    · skip
      obtain ⟨n0, n1, _, _⟩ := two_cells (keep0 HC.out hk)
      simp only [List.getElem_toArray, List.getElem_cons_succ, List.getElem_cons_zero]
      go_simp
      refine hK.out _ _ ?_ (fun hHeld2 => ?_)
      focus
        exact hS _ (Tch.of_below hk)
      clear hHeld
      have hHeld := hHeld2
      clear hHeld2 hK K
      try simp only [List.getElem_toArray, List.getElem_cons_succ, List.getElem_cons_zero, Act.put, List.setIfInBounds_toArray, List.set_cons_zero, List.set_cons_succ]
      clear n0 n1
      refine wpAnyH_take (i := 15) (v := ?_) rfl (by kernel_rfl) (by kernel_rfl) (by kernel_rfl) (fun _ _ _ h => h) (Or.inl ⟨by rfl, ?_⟩) (by assumption) ?_
      rotate_left
      focus
        intro U hU
        try dsimp only at hU
        go_simp
        try (with_reducible rfl)
      simp only [List.getElem_toArray, List.getElem_cons_succ, List.getElem_cons_zero, Act.put, List.setIfInBounds_toArray, List.set_cons_zero, List.set_cons_succ]
      refine wpAnyH_ready (rs := [1]) (by kernel_rfl) (by simp) ?_
      refine (AllReadyH.cons rfl (fun K hK => ?_) AllReadyH.nil)
      have hbs : Below (World.heap w0).size w0 (World.alloc w0 (.cells #[] 64)) := (Below.refl _ _).alloc (Nat.le_refl _) _
      have HE := hid (own_mono (own_empty w0 64 4) (show bs ≤ _ from by rw [HBS.out]; exact hk.size))
      have hk9 := hk.trans (hbs.mono hk.size)
      clear hbs
      simp only [List.getElem_toArray, List.getElem_cons_succ, List.getElem_cons_zero]
      go_simp
      refine hK.out _ _ ?_ (fun hHeld2 => ?_)
      focus
        exact hS _ (Tch.of_below hk9)
      clear hHeld
      have hHeld := hHeld2
      clear hHeld2 hK K
      try simp only [List.getElem_toArray, List.getElem_cons_succ, List.getElem_cons_zero, Act.put, List.setIfInBounds_toArray, List.set_cons_zero, List.set_cons_succ]
      replace hk := hk9
      clear hk9
      generalize (World.alloc w0 (.cells #[] 64)) = k13 at *
      generalize hxx : (World.heap w0).size = XE at HE ⊢
      clear hxx
      refine wpAnyH_ready (rs := [8]) (by kernel_rfl) (by simp) ?_
      refine (AllReadyH.cons rfl (fun K hK => ?_) AllReadyH.nil)
      refine step_append_slw rfl (.tmp 27) (.tmp 33) 51 rfl bs 64 Try.underlying51 info_rthing rfl (by omega) rfl HE.out rfl ((HSL.out _ hk).taken k (by omega)) (fun u hu => tcells_one l u (List.mem_of_mem_take hu)) ?c1 ?c2 (by rw [HBS.out]; exact hk.size) ?_
      case c1 => unfold maxLen; omega
      case c2 => omega
      intro vP k14 hP htP _
      have hkP := hk.trans (HBS.out ▸ htP.below bs (fun g hg _ => (own_lt HE.out g hg).1) (by rw [HBS.out]; exact hk.size))
      replace HE := hid hP
      clear hP htP
      refine hK.out _ _ ?_ (fun hHeld2 => ?_)
      focus
        exact hS _ (Tch.of_below hkP)
      clear hHeld
      have hHeld := hHeld2
      clear hHeld2 hK K
      try simp only [List.getElem_toArray, List.getElem_cons_succ, List.getElem_cons_zero, Act.put, List.setIfInBounds_toArray, List.set_cons_zero, List.set_cons_succ]
      replace hk := hkP
      clear hkP
      refine wpAnyH_ready (rs := [16]) (by kernel_rfl) (by simp) ?_
      refine (AllReadyH.cons rfl (fun K hK => ?_) AllReadyH.nil)
      refine step_append_slw rfl (.tmp 34) (.tmp 41) 51 rfl bs 64 Try.underlying51 info_rthing rfl (by omega) rfl HE.out rfl ((HSL.out _ hk).drop (k + 1) (by omega)) (fun u hu => tcells_one l u (List.mem_of_mem_drop hu)) ?c1 ?c2 (by rw [HBS.out]; exact hk.size) ?_
      case c1 => unfold maxLen; omega
      case c2 => omega
      intro vQ k15 hQ htQ _
      have hkQ := hk.trans (HBS.out ▸ htQ.below bs (fun g hg _ => (own_lt HE.out g hg).1) (by rw [HBS.out]; exact hk.size))
      obtain ⟨LQ, hlq⟩ : ∃ n, n = (EL).length := ⟨_, rfl⟩
      have hQ9 : k15.ownsRow bs 64 4 vQ LQ (tcells (EL)) := by
        rw [hlq, HEN.out, ← HER.out]
        simpa [tcells_take, tcells_drop] using hQ
      have HLQ := hid hlq
      clear hQ hlq
      obtain ⟨A6, c6, rfl, h99⟩ := Sl.of_own hQ9
      clear h99
      have hQ := hQ9
      clear hQ9
      have HAP : Hid (Rb < bs) := hid (by rw [HBS.out]; exact lt_of_block HR4.out)
      clear HE htQ
      refine hK.out _ _ ?_ (fun hHeld2 => ?_)
      focus
        exact hS _ (Tch.of_below hkQ)
      clear hHeld
      have hHeld := hHeld2
      clear hHeld2 hK K
      try simp only [List.getElem_toArray, List.getElem_cons_succ, List.getElem_cons_zero, Act.put, List.setIfInBounds_toArray, List.set_cons_zero, List.set_cons_succ]
      replace hk := hkQ
      clear hkQ
      refine wpAnyH_take (i := 17) (v := ?_) rfl (by kernel_rfl) (by kernel_rfl) (by kernel_rfl) (fun _ _ _ h => h) (Or.inl ⟨by rfl, ?_⟩) (by assumption) ?_
      rotate_left
      focus
        intro U hU
        try dsimp only at hU
        go_simp
        try (with_reducible rfl)
      simp only [List.getElem_toArray, List.getElem_cons_succ, List.getElem_cons_zero, Act.put, List.setIfInBounds_toArray, List.set_cons_zero, List.set_cons_succ]
      refine wpAnyH_take (i := 18) (v := ?_) rfl (by kernel_rfl) (by kernel_rfl) (by kernel_rfl) (fun _ _ _ h => h) (Or.inl ⟨by rfl, ?_⟩) (by assumption) ?_
      rotate_left
      focus
        intro U hU
        try dsimp only at hU
        go_simp
        try (with_reducible rfl)
      simp only [List.getElem_toArray, List.getElem_cons_succ, List.getElem_cons_zero, Act.put, List.setIfInBounds_toArray, List.set_cons_zero, List.set_cons_succ]
      refine wpAnyH_ready (rs := [19]) (by kernel_rfl) (by simp) ?_
      refine (AllReadyH.cons rfl (fun K hK => ?_) AllReadyH.nil)
      obtain ⟨n0, n1, nf0, nf1⟩ := two_cells (keep0 HC.out hk)
      have hst := (Tch.of_below (S := fun g => g = c) hk).set c 0 (.slice A6 LQ c6) (fun _ => rfl)
      have HFIN := hid (rnAt_set (keep0 HC.out hk) hQ (by rw [HBS.out]; exact HSB.out) HCB.out HLQ.out rfl)
      have HFIN2 := hid (rnAt_set0 (keep0 HC.out hk) hQ HLQ.out rfl)
      simp only [List.getElem_toArray, List.getElem_cons_succ, List.getElem_cons_zero]
      go_simp
      refine hK.out _ _ ?_ (fun hHeld2 => ?_)
      focus
        exact hS _ hst
      clear hHeld
      have hHeld := hHeld2
      clear hHeld2 hK K
      try simp only [List.getElem_toArray, List.getElem_cons_succ, List.getElem_cons_zero, Act.put, List.setIfInBounds_toArray, List.set_cons_zero, List.set_cons_succ]
      clear n0 n1 nf0 nf1 hQ
      refine wpAnyH_done (by kernel_rfl) ?_ _
      clear hHeld hS hk hs1 hs2
      have HT5 := hid (HT4.out.trans hst (fun g hg _ => hg))
      have HX9 := hid (hst.block HX4.out HXC.out)
      have HR9 := hid (hst.block HR4.out HRC.out)
      clear hst HT4 HC HSL HX4 HR4
      generalize World.setCell _ _ _ = w9 at *
      obtain ⟨⟨x0, x1, x2, x3⟩, xf⟩ := four_cells HX9.out
      obtain ⟨⟨q0, q1, q2, q3⟩, fz0, fz1, fz2, fz3⟩ := four_cells HR9.out
      clear xf
      have HZ := hid (set_four HR9.out (.int .i64 f) (.int .i64 t) (.string (str s)) (.bool tb))
      go_wp2
      clear q0 q1 q2 q3 x0 x1 x2 x3
      obtain ⟨⟨r0, r1, r2, r3⟩, _⟩ := four_cells HZ.out.1
      refine bodyPost_ret (v := .tuple #[.agg #[.int .i64 f, .int .i64 t, .string (str s), .bool tb], .int .i64 0]) (by simp [results, Try.results28, go_sem, r0, r1, r2, r3]) rfl ⟨rfl, ?_, ?_⟩
      · exact rnAt_put HCB.out HFIN2.out HR9.out HRC.out HAP.out (by rw [HBS.out]; exact HSB.out)
      · exact tch_new HT5.out (Nat.le_of_eq HRBE.out)
  · skip
    obtain ⟨n0, n1, _, _⟩ := two_cells (keep0 HC.out hk)
    simp only [List.getElem_toArray, List.getElem_cons_succ, List.getElem_cons_zero]
    go_simp
    refine hK.out _ _ ?_ (fun hHeld2 => ?_)
    focus
      exact hS _ (Tch.of_below hk)
    clear hHeld
    have hHeld := hHeld2
    clear hHeld2 hK K
    try simp only [List.getElem_toArray, List.getElem_cons_succ, List.getElem_cons_zero, Act.put, List.setIfInBounds_toArray, List.set_cons_zero, List.set_cons_succ]
    clear n0 n1
    refine wpAnyH_take (i := 15) (v := ?_) rfl (by kernel_rfl) (by kernel_rfl) (by kernel_rfl) (fun _ _ _ h => h) (Or.inl ⟨by rfl, ?_⟩) (by assumption) ?_
    rotate_left
    focus
      intro U hU
      try dsimp only at hU
      go_simp
      try (with_reducible rfl)
    simp only [List.getElem_toArray, List.getElem_cons_succ, List.getElem_cons_zero, Act.put, List.setIfInBounds_toArray, List.set_cons_zero, List.set_cons_succ]
    refine wpAnyH_ready (rs := [1, 5]) (by kernel_rfl) (by simp) ?_
    refine (AllReadyH.cons rfl (fun K hK => ?_) (AllReadyH.cons rfl (fun K hK => ?_) AllReadyH.nil))
    · skip
      have hbs : Below (World.heap w0).size w0 (World.alloc w0 (.cells #[] 64)) := (Below.refl _ _).alloc (Nat.le_refl _) _
      have HE := hid (own_mono (own_empty w0 64 4) (show bs ≤ _ from by rw [HBS.out]; exact hk.size))
      have hk9 := hk.trans (hbs.mono hk.size)
      clear hbs
      simp only [List.getElem_toArray, List.getElem_cons_succ, List.getElem_cons_zero]
      go_simp
      refine hK.out _ _ ?_ (fun hHeld2 => ?_)
      focus
        exact hS _ (Tch.of_below hk9)
      clear hHeld
      have hHeld := hHeld2
      clear hHeld2 hK K
      try simp only [List.getElem_toArray, List.getElem_cons_succ, List.getElem_cons_zero, Act.put, List.setIfInBounds_toArray, List.set_cons_zero, List.set_cons_succ]
      replace hk := hk9
      clear hk9
      generalize (World.alloc w0 (.cells #[] 64)) = k16 at *
      generalize hxx : (World.heap w0).size = XE at HE ⊢
      clear hxx
      refine wpAnyH_ready (rs := [5]) (by kernel_rfl) (by simp) ?_
      refine (AllReadyH.cons rfl (fun K hK => ?_) AllReadyH.nil)
      obtain ⟨n0, n1, _, _⟩ := two_cells (keep0 HC.out hk)
      simp only [List.getElem_toArray, List.getElem_cons_succ, List.getElem_cons_zero]
      go_simp
      refine hK.out _ _ ?_ (fun hHeld2 => ?_)
      focus
        exact hS _ (Tch.of_below hk)
      clear hHeld
      have hHeld := hHeld2
      clear hHeld2 hK K
      try simp only [List.getElem_toArray, List.getElem_cons_succ, List.getElem_cons_zero, Act.put, List.setIfInBounds_toArray, List.set_cons_zero, List.set_cons_succ]
      clear n0 n1
      refine wpAnyH_take (i := 7) (v := ?_) rfl (by kernel_rfl) (by kernel_rfl) (by kernel_rfl) (fun _ _ _ h => h) (Or.inl ⟨by rfl, ?_⟩) (by assumption) ?_
      rotate_left
      focus
        intro U hU
        try dsimp only at hU
        go_simp
        try (with_reducible rfl)
      simp only [List.getElem_toArray, List.getElem_cons_succ, List.getElem_cons_zero, Act.put, List.setIfInBounds_toArray, List.set_cons_zero, List.set_cons_succ]
      refine wpAnyH_ready (rs := [8]) (by kernel_rfl) (by simp) ?_
      refine (AllReadyH.cons rfl (fun K hK => ?_) AllReadyH.nil)
      refine step_append_slw rfl (.tmp 27) (.tmp 33) 51 rfl bs 64 Try.underlying51 info_rthing rfl (by omega) rfl HE.out rfl ((HSL.out _ hk).taken k (by omega)) (fun u hu => tcells_one l u (List.mem_of_mem_take hu)) ?c1 ?c2 (by rw [HBS.out]; exact hk.size) ?_
      case c1 => unfold maxLen; omega
      case c2 => omega
      intro vP k17 hP htP _
      have hkP := hk.trans (HBS.out ▸ htP.below bs (fun g hg _ => (own_lt HE.out g hg).1) (by rw [HBS.out]; exact hk.size))
      replace HE := hid hP
      clear hP htP
      refine hK.out _ _ ?_ (fun hHeld2 => ?_)
      focus
        exact hS _ (Tch.of_below hkP)
      clear hHeld
      have hHeld := hHeld2
      clear hHeld2 hK K
      try simp only [List.getElem_toArray, List.getElem_cons_succ, List.getElem_cons_zero, Act.put, List.setIfInBounds_toArray, List.set_cons_zero, List.set_cons_succ]
      replace hk := hkP
      clear hkP
      refine wpAnyH_ready (rs := [16]) (by kernel_rfl) (by simp) ?_
      refine (AllReadyH.cons rfl (fun K hK => ?_) AllReadyH.nil)
      refine step_append_slw rfl (.tmp 34) (.tmp 41) 51 rfl bs 64 Try.underlying51 info_rthing rfl (by omega) rfl HE.out rfl ((HSL.out _ hk).drop (k + 1) (by omega)) (fun u hu => tcells_one l u (List.mem_of_mem_drop hu)) ?c1 ?c2 (by rw [HBS.out]; exact hk.size) ?_
      case c1 => unfold maxLen; omega
      case c2 => omega
      intro vQ k18 hQ htQ _
      have hkQ := hk.trans (HBS.out ▸ htQ.below bs (fun g hg _ => (own_lt HE.out g hg).1) (by rw [HBS.out]; exact hk.size))
      obtain ⟨LQ, hlq⟩ : ∃ n, n = (EL).length := ⟨_, rfl⟩
      have hQ9 : k18.ownsRow bs 64 4 vQ LQ (tcells (EL)) := by
        rw [hlq, HEN.out, ← HER.out]
        simpa [tcells_take, tcells_drop] using hQ
      have HLQ := hid hlq
      clear hQ hlq
      obtain ⟨A6, c6, rfl, h99⟩ := Sl.of_own hQ9
      clear h99
      have hQ := hQ9
      clear hQ9
      have HAP : Hid (Rb < bs) := hid (by rw [HBS.out]; exact lt_of_block HR4.out)
      clear HE htQ
      refine hK.out _ _ ?_ (fun hHeld2 => ?_)
      focus
        exact hS _ (Tch.of_below hkQ)
      clear hHeld
      have hHeld := hHeld2
      clear hHeld2 hK K
      try simp only [List.getElem_toArray, List.getElem_cons_succ, List.getElem_cons_zero, Act.put, List.setIfInBounds_toArray, List.set_cons_zero, List.set_cons_succ]
      replace hk := hkQ
      clear hkQ
      refine wpAnyH_take (i := 17) (v := ?_) rfl (by kernel_rfl) (by kernel_rfl) (by kernel_rfl) (fun _ _ _ h => h) (Or.inl ⟨by rfl, ?_⟩) (by assumption) ?_
      rotate_left
      focus
        intro U hU
        try dsimp only at hU
        go_simp
        try (with_reducible rfl)
      simp only [List.getElem_toArray, List.getElem_cons_succ, List.getElem_cons_zero, Act.put, List.setIfInBounds_toArray, List.set_cons_zero, List.set_cons_succ]
      refine wpAnyH_take (i := 18) (v := ?_) rfl (by kernel_rfl) (by kernel_rfl) (by kernel_rfl) (fun _ _ _ h => h) (Or.inl ⟨by rfl, ?_⟩) (by assumption) ?_
      rotate_left
      focus
        intro U hU
        try dsimp only at hU
        go_simp
        try (with_reducible rfl)
      simp only [List.getElem_toArray, List.getElem_cons_succ, List.getElem_cons_zero, Act.put, List.setIfInBounds_toArray, List.set_cons_zero, List.set_cons_succ]
      refine wpAnyH_ready (rs := [19]) (by kernel_rfl) (by simp) ?_
      refine (AllReadyH.cons rfl (fun K hK => ?_) AllReadyH.nil)
      obtain ⟨n0, n1, nf0, nf1⟩ := two_cells (keep0 HC.out hk)
      have hst := (Tch.of_below (S := fun g => g = c) hk).set c 0 (.slice A6 LQ c6) (fun _ => rfl)
      have HFIN := hid (rnAt_set (keep0 HC.out hk) hQ (by rw [HBS.out]; exact HSB.out) HCB.out HLQ.out rfl)
      have HFIN2 := hid (rnAt_set0 (keep0 HC.out hk) hQ HLQ.out rfl)
      simp only [List.getElem_toArray, List.getElem_cons_succ, List.getElem_cons_zero]
      go_simp
      refine hK.out _ _ ?_ (fun hHeld2 => ?_)
      focus
        exact hS _ hst
      clear hHeld
      have hHeld := hHeld2
      clear hHeld2 hK K
      try simp only [List.getElem_toArray, List.getElem_cons_succ, List.getElem_cons_zero, Act.put, List.setIfInBounds_toArray, List.set_cons_zero, List.set_cons_succ]
      clear n0 n1 nf0 nf1 hQ
      refine wpAnyH_done (by kernel_rfl) ?_ _
      clear hHeld hS hk hs1 hs2
      have HT5 := hid (HT4.out.trans hst (fun g hg _ => hg))
      have HX9 := hid (hst.block HX4.out HXC.out)
      have HR9 := hid (hst.block HR4.out HRC.out)
      clear hst HT4 HC HSL HX4 HR4
      generalize World.setCell _ _ _ = w9 at *
      obtain ⟨⟨x0, x1, x2, x3⟩, xf⟩ := four_cells HX9.out
      obtain ⟨⟨q0, q1, q2, q3⟩, fz0, fz1, fz2, fz3⟩ := four_cells HR9.out
      clear xf
      have HZ := hid (set_four HR9.out (.int .i64 f) (.int .i64 t) (.string (str s)) (.bool tb))
      go_wp2
      clear q0 q1 q2 q3 x0 x1 x2 x3
      obtain ⟨⟨r0, r1, r2, r3⟩, _⟩ := four_cells HZ.out.1
      refine bodyPost_ret (v := .tuple #[.agg #[.int .i64 f, .int .i64 t, .string (str s), .bool tb], .int .i64 0]) (by simp [results, Try.results28, go_sem, r0, r1, r2, r3]) rfl ⟨rfl, ?_, ?_⟩
      · exact rnAt_put HCB.out HFIN2.out HR9.out HRC.out HAP.out (by rw [HBS.out]; exact HSB.out)
      · exact tch_new HT5.out (Nat.le_of_eq HRBE.out)
    · skip
      obtain ⟨n0, n1, _, _⟩ := two_cells (keep0 HC.out hk)
      simp only [List.getElem_toArray, List.getElem_cons_succ, List.getElem_cons_zero]
      go_simp
      refine hK.out _ _ ?_ (fun hHeld2 => ?_)
      focus
        exact hS _ (Tch.of_below hk)
      clear hHeld
      have hHeld := hHeld2
      clear hHeld2 hK K
      try simp only [List.getElem_toArray, List.getElem_cons_succ, List.getElem_cons_zero, Act.put, List.setIfInBounds_toArray, List.set_cons_zero, List.set_cons_succ]
      clear n0 n1
      refine wpAnyH_take (i := 7) (v := ?_) rfl (by kernel_rfl) (by kernel_rfl) (by kernel_rfl) (fun _ _ _ h => h) (Or.inl ⟨by rfl, ?_⟩) (by assumption) ?_
      rotate_left
      focus
        intro U hU
        try dsimp only at hU
        go_simp
        try (with_reducible rfl)
      simp only [List.getElem_toArray, List.getElem_cons_succ, List.getElem_cons_zero, Act.put, List.setIfInBounds_toArray, List.set_cons_zero, List.set_cons_succ]
      refine wpAnyH_ready (rs := [1]) (by kernel_rfl) (by simp) ?_
      refine (AllReadyH.cons rfl (fun K hK => ?_) AllReadyH.nil)
      have hbs : Below (World.heap w0).size w0 (World.alloc w0 (.cells #[] 64)) := (Below.refl _ _).alloc (Nat.le_refl _) _
      have HE := hid (own_mono (own_empty w0 64 4) (show bs ≤ _ from by rw [HBS.out]; exact hk.size))
      have hk9 := hk.trans (hbs.mono hk.size)
      clear hbs
      simp only [List.getElem_toArray, List.getElem_cons_succ, List.getElem_cons_zero]
      go_simp
      refine hK.out _ _ ?_ (fun hHeld2 => ?_)
      focus
        exact hS _ (Tch.of_below hk9)
      clear hHeld
      have hHeld := hHeld2
      clear hHeld2 hK K
      try simp only [List.getElem_toArray, List.getElem_cons_succ, List.getElem_cons_zero, Act.put, List.setIfInBounds_toArray, List.set_cons_zero, List.set_cons_succ]
      replace hk := hk9
      clear hk9
      generalize (World.alloc w0 (.cells #[] 64)) = k19 at *
      generalize hxx : (World.heap w0).size = XE at HE ⊢
      clear hxx
      refine wpAnyH_ready (rs := [8]) (by kernel_rfl) (by simp) ?_
      refine (AllReadyH.cons rfl (fun K hK => ?_) AllReadyH.nil)
      refine step_append_slw rfl (.tmp 27) (.tmp 33) 51 rfl bs 64 Try.underlying51 info_rthing rfl (by omega) rfl HE.out rfl ((HSL.out _ hk).taken k (by omega)) (fun u hu => tcells_one l u (List.mem_of_mem_take hu)) ?c1 ?c2 (by rw [HBS.out]; exact hk.size) ?_
      case c1 => unfold maxLen; omega
      case c2 => omega
      intro vP k20 hP htP _
      have hkP := hk.trans (HBS.out ▸ htP.below bs (fun g hg _ => (own_lt HE.out g hg).1) (by rw [HBS.out]; exact hk.size))
      replace HE := hid hP
      clear hP htP
      refine hK.out _ _ ?_ (fun hHeld2 => ?_)
      focus
        exact hS _ (Tch.of_below hkP)
      clear hHeld
      have hHeld := hHeld2
      clear hHeld2 hK K
      try simp only [List.getElem_toArray, List.getElem_cons_succ, List.getElem_cons_zero, Act.put, List.setIfInBounds_toArray, List.set_cons_zero, List.set_cons_succ]
      replace hk := hkP
      clear hkP
      refine wpAnyH_ready (rs := [16]) (by kernel_rfl) (by simp) ?_
      refine (AllReadyH.cons rfl (fun K hK => ?_) AllReadyH.nil)
      refine step_append_slw rfl (.tmp 34) (.tmp 41) 51 rfl bs 64 Try.underlying51 info_rthing rfl (by omega) rfl HE.out rfl ((HSL.out _ hk).drop (k + 1) (by omega)) (fun u hu => tcells_one l u (List.mem_of_mem_drop hu)) ?c1 ?c2 (by rw [HBS.out]; exact hk.size) ?_
      case c1 => unfold maxLen; omega
      case c2 => omega
      intro vQ k21 hQ htQ _
      have hkQ := hk.trans (HBS.out ▸ htQ.below bs (fun g hg _ => (own_lt HE.out g hg).1) (by rw [HBS.out]; exact hk.size))
      obtain ⟨LQ, hlq⟩ : ∃ n, n = (EL).length := ⟨_, rfl⟩
      have hQ9 : k21.ownsRow bs 64 4 vQ LQ (tcells (EL)) := by
        rw [hlq, HEN.out, ← HER.out]
        simpa [tcells_take, tcells_drop] using hQ
      have HLQ := hid hlq
      clear hQ hlq
      obtain ⟨A6, c6, rfl, h99⟩ := Sl.of_own hQ9
      clear h99
      have hQ := hQ9
      clear hQ9
      have HAP : Hid (Rb < bs) := hid (by rw [HBS.out]; exact lt_of_block HR4.out)
      clear HE htQ
      refine hK.out _ _ ?_ (fun hHeld2 => ?_)
      focus
        exact hS _ (Tch.of_below hkQ)
      clear hHeld
      have hHeld := hHeld2
      clear hHeld2 hK K
      try simp only [List.getElem_toArray, List.getElem_cons_succ, List.getElem_cons_zero, Act.put, List.setIfInBounds_toArray, List.set_cons_zero, List.set_cons_succ]
      replace hk := hkQ
      clear hkQ
      refine wpAnyH_take (i := 17) (v := ?_) rfl (by kernel_rfl) (by kernel_rfl) (by kernel_rfl) (fun _ _ _ h => h) (Or.inl ⟨by rfl, ?_⟩) (by assumption) ?_
      rotate_left
      focus
        intro U hU
        try dsimp only at hU
        go_simp
        try (with_reducible rfl)
      simp only [List.getElem_toArray, List.getElem_cons_succ, List.getElem_cons_zero, Act.put, List.setIfInBounds_toArray, List.set_cons_zero, List.set_cons_succ]
      refine wpAnyH_take (i := 18) (v := ?_) rfl (by kernel_rfl) (by kernel_rfl) (by kernel_rfl) (fun _ _ _ h => h) (Or.inl ⟨by rfl, ?_⟩) (by assumption) ?_
      rotate_left
      focus
        intro U hU
        try dsimp only at hU
        go_simp
        try (with_reducible rfl)
      simp only [List.getElem_toArray, List.getElem_cons_succ, List.getElem_cons_zero, Act.put, List.setIfInBounds_toArray, List.set_cons_zero, List.set_cons_succ]
      refine wpAnyH_ready (rs := [19]) (by kernel_rfl) (by simp) ?_
      refine (AllReadyH.cons rfl (fun K hK => ?_) AllReadyH.nil)
      obtain ⟨n0, n1, nf0, nf1⟩ := two_cells (keep0 HC.out hk)
      have hst := (Tch.of_below (S := fun g => g = c) hk).set c 0 (.slice A6 LQ c6) (fun _ => rfl)
      have HFIN := hid (rnAt_set (keep0 HC.out hk) hQ (by rw [HBS.out]; exact HSB.out) HCB.out HLQ.out rfl)
      have HFIN2 := hid (rnAt_set0 (keep0 HC.out hk) hQ HLQ.out rfl)
      simp only [List.getElem_toArray, List.getElem_cons_succ, List.getElem_cons_zero]
      go_simp
      refine hK.out _ _ ?_ (fun hHeld2 => ?_)
      focus
        exact hS _ hst
      clear hHeld
      have hHeld := hHeld2
      clear hHeld2 hK K
      try simp only [List.getElem_toArray, List.getElem_cons_succ, List.getElem_cons_zero, Act.put, List.setIfInBounds_toArray, List.set_cons_zero, List.set_cons_succ]
      clear n0 n1 nf0 nf1 hQ
      refine wpAnyH_done (by kernel_rfl) ?_ _
      clear hHeld hS hk hs1 hs2
      have HT5 := hid (HT4.out.trans hst (fun g hg _ => hg))
      have HX9 := hid (hst.block HX4.out HXC.out)
      have HR9 := hid (hst.block HR4.out HRC.out)
      clear hst HT4 HC HSL HX4 HR4
      generalize World.setCell _ _ _ = w9 at *
      obtain ⟨⟨x0, x1, x2, x3⟩, xf⟩ := four_cells HX9.out
      obtain ⟨⟨q0, q1, q2, q3⟩, fz0, fz1, fz2, fz3⟩ := four_cells HR9.out
      clear xf
      have HZ := hid (set_four HR9.out (.int .i64 f) (.int .i64 t) (.string (str s)) (.bool tb))
      go_wp2
      clear q0 q1 q2 q3 x0 x1 x2 x3
      obtain ⟨⟨r0, r1, r2, r3⟩, _⟩ := four_cells HZ.out.1
      refine bodyPost_ret (v := .tuple #[.agg #[.int .i64 f, .int .i64 t, .string (str s), .bool tb], .int .i64 0]) (by simp [results, Try.results28, go_sem, r0, r1, r2, r3]) rfl ⟨rfl, ?_, ?_⟩
      · exact rnAt_put HCB.out HFIN2.out HR9.out HRC.out HAP.out (by rw [HBS.out]; exact HSB.out)
      · exact tch_new HT5.out (Nat.le_of_eq HRBE.out)
end Go.Proofs.Ytdphdodjidbngaa
