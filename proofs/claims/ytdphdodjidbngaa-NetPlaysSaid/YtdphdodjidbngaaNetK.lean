/- The document's net: what it is; Send, Twice. -/
import Derived.Test.YtdphdodjidbngaaNetH
import Derived.Test.YtdphdodjidbngaaIcell
import Derived.Test.YtdphdodjidbngaaTch
import Derived.Test.YtdphdodjidbngaaStrL
namespace Go.Proofs.Ytdphdodjidbngaa
open Go.RowKit
set_option linter.unusedVariables false
set_option linter.unusedSimpArgs false

theorem info_rthing : (Try.prog.info? 64).map (fun i => (i.zero, i.size, i.bytes)) = some (some (.agg #[.int .i64 0, .int .i64 0, .string ⟨#[]⟩, .bool false]), 4, 40) := by kernel_rfl
/-- Block c is the document's net. -/
def RnAt (B c : Nat) (m : Int) (l : List Tg) (w : World) : Prop :=
  B ≤ c ∧ ∃ A cap, w.heap[c]? = some (.cells #[.slice A l.length cap, .int .i64 m] 53 (0, 0)) ∧ w.ownsRow B 64 4 (.slice A l.length cap) l.length (tcells l)
theorem RnAt.lt {B c : Nat} {m : Int} {l : List Tg} {w : World} (h : RnAt B c m l w) : c < w.heap.size := by
  obtain ⟨_, _, _, h, _⟩ := h
  exact lt_of_block h
theorem RnAt.below {B c : Nat} {m : Int} {l : List Tg} {w w' : World} (h : RnAt B c m l w) (hb : Below w.heap.size w w') : RnAt B c m l w' := by
  obtain ⟨h0, A, cap, h1, h2⟩ := h
  exact ⟨h0, A, cap, keep0 h1 hb, own_keep h2 hb⟩
theorem sl_blk4 {w : World} {N t : Nat} {x0 x1 x2 x3 : Value} (h : w.heap[N]? = some (.cells #[x0, x1, x2, x3] t (0, 0))) : Sl w 4 (some ⟨N, 0, none⟩) 1 1 [x0, x1, x2, x3] :=
  ⟨rfl, Nat.le_refl _, by unfold maxLen; omega, fun _ => ⟨N, 0, rfl, fun i hi => by rw [Nat.zero_add, cell_of_row w N i _ t (0, 0) h]; simp⟩⟩
theorem rnAt_set0 {w : World} {b2 c : Nat} {m : Int} {l : List Tg} {v v0 : Value} {n : Nat} {xs : List Value} (hc : w.heap[c]? = some (.cells #[v0, .int .i64 m] 53 (0, 0))) (ho : w.ownsRow b2 64 4 v n xs) (hn : n = l.length) (hx : xs = tcells l) : ∃ A cap, (w.setCell ⟨c, 0, none⟩ v).heap[c]? = some (.cells #[.slice A l.length cap, .int .i64 m] 53 (0, 0)) ∧ (w.setCell ⟨c, 0, none⟩ v).ownsRow b2 64 4 (.slice A l.length cap) l.length (tcells l) := by
  subst hn hx
  obtain ⟨A, cap, rfl, _⟩ := Sl.of_own ho
  refine ⟨A, cap, ?_, own_setT ho hc (by decide)⟩
  simp [World.setCell, Array.getElem?_modify, hc]
theorem rnAt_set {w : World} {B b2 c : Nat} {m : Int} {l : List Tg} {v v0 : Value} {n : Nat} {xs : List Value} (hc : w.heap[c]? = some (.cells #[v0, .int .i64 m] 53 (0, 0))) (ho : w.ownsRow b2 64 4 v n xs) (hB : B ≤ b2) (hBc : B ≤ c) (hn : n = l.length := by first | rfl | assumption) (hx : xs = tcells l := by first | rfl | assumption) : RnAt B c m l (w.setCell ⟨c, 0, none⟩ v) := by
  subst hn hx
  obtain ⟨A, cap, rfl, _⟩ := Sl.of_own ho
  refine ⟨hBc, A, cap, ?_, own_mono (own_setT ho hc (by decide)) hB⟩
  simp [World.setCell, Array.getElem?_modify, hc]

set_option maxRecDepth 20000 in
set_option maxHeartbeats 4000000 in
theorem rsend_any (B c : Nat) (m f t : Int) (l : List Tg) (A : Option Addr) (cap : Nat) (ss : List (List UInt8)) (W : World) (h : RnAt B c m l W) (hAo : ∀ w, Tch (fun g => g = c) W w → Sl w 1 A ss.length cap (scells ss)) (hB : B ≤ W.heap.size) (hl : l.length ≤ 50000) (hs : ss.length ≤ 50000) :
    Calls Try.prog 26 #[.pointer (some ⟨c, 0, none⟩), .int .i64 f, .int .i64 t, .slice A ss.length cap] W fun e w' => e = .returned (.int .i64 (((sendL m f t l ss).length : Int) - (l.length : Int))) ∧ RnAt B c m (sendL m f t l ss) w' ∧ Tch (fun g => g = c) W w' := by
  have HN := hid h
  have HA := hid hAo
  have HCB := hid h.1
  clear h hAo
  go_enter Try.func26, Try.ntmps26
  go_wp2
  go_loopw [9, 10] (fun v i wr => ∃ k : Nat, k ≤ ss.length ∧ i = .int .i64 (k : Int) ∧ v = .int .i64 (((sendL m f t l (ss.take k)).length : Int) - (l.length : Int)) ∧ Hid (RnAt B c m (sendL m f t l (ss.take k)) wr) ∧ Hid (Tch (fun g => g = c) W wr)) (fun _ i _ => ss.length - (intOf i).toNat)
  case atStart => exact ⟨0, by omega, rfl, by simp [sendL], HN.out, Tch.refl _ _⟩
  case round =>
    obtain ⟨k, hk, rfl, rfl, HN2, HT2⟩ := hrel
    have HLE := hid (sendL_len m f t l (ss.take k))
    have HTL : Hid ((ss.take k).length ≤ k) := hid (by rw [List.length_take]; omega)
    by_cases hlt : k < ss.length
    · have hlt2 : (k : Int) < (ss.length : Int) := by omega
      have hk0 : ¬ (k : Int) < 0 := by omega
      have HSN := hid (sendL_snoc m f t l (ss.take k) ss[k])
      rw [← List.take_succ_eq_append_getElem hlt] at HSN
      have HEL : Hid (∀ U, Tch (fun g => g = c) wr U → ∃ b off, A = some ⟨b, off, none⟩ ∧ U.cell? ⟨b, off + k, none⟩ = some (.string (str ss[k]))) := hid (fun U hU => by
        obtain ⟨b', off, hA, hc⟩ := Sl.at (HA.out U (HT2.out.trans hU (fun g hg _ => hg))) k (by rw [scells_length]; exact hlt)
        have e1 : (scells ss)[k]'(by rw [scells_length]; exact hlt) = .string (str (ss[k]'hlt)) := by simp [scells]
        rw [e1] at hc
        exact ⟨b', off, hA, hc⟩)
      generalize ss[k]'hlt = s at HEL HSN
      generalize hX : sendL m f t l (ss.take k) = X at *
      clear hX
      have hxl : X.length ≤ 100000 := by have h1 := HLE.out; have h2 := HTL.out; omega
      have hxl2 : l.length ≤ X.length := HLE.out.1
      obtain ⟨b, off, hA, _⟩ := HEL.out wr (Tch.refl _ _)
      subst hA
      obtain ⟨hBc, A9, cap9, h1, h2⟩ := HN2.out
      obtain ⟨n0, n1, nf0, nf1⟩ := two_cells h1
      by_cases hm : (X.length : Int) < m
      · have HV : Hid (sendL m f t l (ss.take (k + 1)) = X ++ [Tg.mk f t s false]) := hid (by rw [HSN.out, if_pos hm])
        go_upto_region 6 with (first | fail | go_quiet (fail))
        have hb1 := below_drewN1 wr nq
        have HC := hid (keep0 h1 hb1)
        have HSL := hid (fun U (hU : Below (wr.drewN nq).heap.size (wr.drewN nq) U) => (sl_own (own_keep h2 hb1)).below hU)
        have HSB := hid (show B ≤ (wr.drewN nq).heap.size from Nat.le_trans hB HT2.out.size)
        have HT3 := hid (HT2.out.grow hb1)
        have HEL3 := hid (fun U (hU : Tch (fun g => g = c) (wr.drewN nq) U) => HEL.out U ((Tch.of_below hb1).trans hU (fun g hg _ => hg)))
        clear h1 h2 hb1 n0 n1 nf0 nf1 HN2 HEL HT2 HA
        generalize wr.drewN nq = w1 at *
        have hS : ∀ U, Tch (fun g => g = c) w1.drew U → (U.cell? ⟨b, off + k, none⟩ = some (.string (str s)) ∧ Tch (fun g => g = c) w1.drew U) := fun U hU => by
          obtain ⟨b7, o7, h7, hc⟩ := HEL3.out U ((Tch.of_below (below_drew (Below.refl _ _))).trans hU (fun g hg _ => hg))
          cases h7
          exact ⟨hc, hU⟩
        refine wp_region_held_drew (S := fun U => U.cell? ⟨b, off + k, none⟩ = some (.string (str s)) ∧ Tch (fun g => g = c) w1.drew U) (by kernel_rfl) (hS _ (Tch.refl _ _)) (fun hHeld => ?_)
        have hk : Below w1.drew.heap.size w1.drew w1.drew := Below.refl _ _
        have hl9 := hxl
        have HT4 : Hid (Tch (fun g => g = c) W w1.drew) := hid (HT3.out.grow (below_drew (Below.refl _ _)))
        have HC4 : Hid (w1.drew.heap[c]? = some (.cells #[.slice A9 X.length cap9, .int .i64 m] 53 (0, 0))) := hid HC.out
        have HSL4 : Hid (∀ U, Below w1.drew.heap.size w1.drew U → Sl U 4 A9 X.length cap9 (tcells X)) := hid (fun U hU => HSL.out U ((below_drew (Below.refl _ _)).trans hU))
        have HSB4 : Hid (B ≤ w1.drew.heap.size) := HSB
        clear HC HSL HSB HEL3 HT3
        replace HC := HC4
        replace HSL := HSL4
        replace HSB := HSB4
        clear HC4 HSL4 HSB4
        generalize w1.drew = w0 at *
        obtain ⟨bs, hbs9⟩ : ∃ n, n = w0.heap.size := ⟨_, rfl⟩
        have HBS := hid hbs9
        clear hbs9
        refine wpAnyH_take (i := 0) (v := ?_) rfl (by kernel_rfl) (by kernel_rfl) (by kernel_rfl) (fun _ _ _ h => h) (Or.inl ⟨by rfl, ?_⟩) (by assumption) ?_
        rotate_left
        focus
          intro U hU
          try dsimp only at hU
          go_simp
          try (with_reducible rfl)
        simp only [List.getElem_toArray, List.getElem_cons_succ, List.getElem_cons_zero, Act.put, List.setIfInBounds_toArray, List.set_cons_zero, List.set_cons_succ]
        refine wpAnyH_take (i := 2) (v := ?_) rfl (by kernel_rfl) (by kernel_rfl) (by kernel_rfl) (fun _ _ _ h => h) (Or.inl ⟨by rfl, ?_⟩) (by assumption) ?_
        rotate_left
        focus
          intro U hU
          try dsimp only at hU
          go_simp
          try (with_reducible rfl)
        simp only [List.getElem_toArray, List.getElem_cons_succ, List.getElem_cons_zero, Act.put, List.setIfInBounds_toArray, List.set_cons_zero, List.set_cons_succ]
        refine wpAnyH_take (i := 3) (v := ?_) rfl (by kernel_rfl) (by kernel_rfl) (by kernel_rfl) (fun _ _ _ h => h) (Or.inl ⟨by rfl, ?_⟩) (by assumption) ?_
        rotate_left
        focus
          intro U hU
          try dsimp only at hU
          go_simp
          try (with_reducible rfl)
        simp only [List.getElem_toArray, List.getElem_cons_succ, List.getElem_cons_zero, Act.put, List.setIfInBounds_toArray, List.set_cons_zero, List.set_cons_succ]
        refine wpAnyH_take (i := 4) (v := ?_) rfl (by kernel_rfl) (by kernel_rfl) (by kernel_rfl) (fun _ _ _ h => h) (Or.inl ⟨by rfl, ?_⟩) (by assumption) ?_
        rotate_left
        focus
          intro U hU
          try dsimp only at hU
          go_simp
          try (with_reducible rfl)
        simp only [List.getElem_toArray, List.getElem_cons_succ, List.getElem_cons_zero, Act.put, List.setIfInBounds_toArray, List.set_cons_zero, List.set_cons_succ]
        refine wpAnyH_take (i := 7) (v := ?_) rfl (by kernel_rfl) (by kernel_rfl) (by kernel_rfl) (fun _ _ _ h => h) (Or.inl ⟨by rfl, ?_⟩) (by assumption) ?_
        rotate_left
        focus
          intro U hU
          try dsimp only at hU
          go_simp
          try (with_reducible rfl)
        simp only [List.getElem_toArray, List.getElem_cons_succ, List.getElem_cons_zero, Act.put, List.setIfInBounds_toArray, List.set_cons_zero, List.set_cons_succ]
        refine wpAnyH_take (i := 8) (v := ?_) rfl (by kernel_rfl) (by kernel_rfl) (by kernel_rfl) (fun _ _ _ h => h) (Or.inl ⟨by rfl, ?_⟩) (by assumption) ?_
        rotate_left
        focus
          intro U hU
          try dsimp only at hU
          go_simp
          try (with_reducible rfl)
        simp only [List.getElem_toArray, List.getElem_cons_succ, List.getElem_cons_zero, Act.put, List.setIfInBounds_toArray, List.set_cons_zero, List.set_cons_succ]
        refine wpAnyH_take (i := 9) (v := ?_) rfl (by kernel_rfl) (by kernel_rfl) (by kernel_rfl) (fun _ _ _ h => h) (Or.inl ⟨by rfl, ?_⟩) (by assumption) ?_
        rotate_left
        focus
          intro U hU
          try dsimp only at hU
          go_simp
          try (with_reducible rfl)
        simp only [List.getElem_toArray, List.getElem_cons_succ, List.getElem_cons_zero, Act.put, List.setIfInBounds_toArray, List.set_cons_zero, List.set_cons_succ]
        refine wpAnyH_take (i := 10) (v := ?_) rfl (by kernel_rfl) (by kernel_rfl) (by kernel_rfl) (fun _ _ _ h => h) (Or.inl ⟨by rfl, ?_⟩) (by assumption) ?_
        rotate_left
        focus
          intro U hU
          try dsimp only at hU
          go_simp
          try (with_reducible rfl)
        simp only [List.getElem_toArray, List.getElem_cons_succ, List.getElem_cons_zero, Act.put, List.setIfInBounds_toArray, List.set_cons_zero, List.set_cons_succ]
        refine wpAnyH_take (i := 11) (v := ?_) rfl (by kernel_rfl) (by kernel_rfl) (by kernel_rfl) (fun _ _ _ h => h) (Or.inl ⟨by rfl, ?_⟩) (by assumption) ?_
        rotate_left
        focus
          intro U hU
          try dsimp only at hU
          go_simp
          try (with_reducible rfl)
        simp only [List.getElem_toArray, List.getElem_cons_succ, List.getElem_cons_zero, Act.put, List.setIfInBounds_toArray, List.set_cons_zero, List.set_cons_succ]
        refine wpAnyH_take (i := 12) (v := ?_) rfl (by kernel_rfl) (by kernel_rfl) (by kernel_rfl) (fun _ _ _ h => h) (Or.inl ⟨by rfl, ?_⟩) (by assumption) ?_
        rotate_left
        focus
          intro U hU
          try dsimp only at hU
          go_simp
          try (with_reducible rfl)
        simp only [List.getElem_toArray, List.getElem_cons_succ, List.getElem_cons_zero, Act.put, List.setIfInBounds_toArray, List.set_cons_zero, List.set_cons_succ]
        refine wpAnyH_take (i := 13) (v := ?_) rfl (by kernel_rfl) (by kernel_rfl) (by kernel_rfl) (fun _ _ _ h => h) (Or.inl ⟨by rfl, ?_⟩) (by assumption) ?_
        rotate_left
        focus
          intro U hU
          try dsimp only at hU
          go_simp
          try (with_reducible rfl)
        simp only [List.getElem_toArray, List.getElem_cons_succ, List.getElem_cons_zero, Act.put, List.setIfInBounds_toArray, List.set_cons_zero, List.set_cons_succ]
        refine wpAnyH_ready (rs := [1, 5, 14]) (by kernel_rfl) (by simp) ?_
        refine (AllReadyH.cons rfl (fun K hK => ?_) (AllReadyH.cons rfl (fun K hK => ?_) (AllReadyH.cons rfl (fun K hK => ?_) AllReadyH.nil)))
        · skip
          have hbs : Below (World.heap w0).size w0 (World.alloc w0 (.cells #[] 64)) := (Below.refl _ _).alloc (Nat.le_refl _) _
          have HE := hid (own_mono (own_empty w0 64 4) (show bs ≤ _ from by rw [HBS.out]; exact hk.size))
          have hk9 := hk.trans (hbs.mono hk.size)
          clear hbs
          simp only [List.getElem_toArray, List.getElem_cons_succ, List.getElem_cons_zero]
          go_simp
          refine hK.out _ _ ?_ (fun hHeld2 => ?_)
          focus
            exact hS _ (Tch.of_below hk9)
          clear hHeld
          have hHeld := hHeld2
          clear hHeld2 hK K
          try simp only [List.getElem_toArray, List.getElem_cons_succ, List.getElem_cons_zero, Act.put, List.setIfInBounds_toArray, List.set_cons_zero, List.set_cons_succ]
          replace hk := hk9
          clear hk9
          generalize (World.alloc w0 (.cells #[] 64)) = k1 at *
          generalize hxx : (World.heap w0).size = XE at HE ⊢
          clear hxx
          refine wpAnyH_ready (rs := [5, 14]) (by kernel_rfl) (by simp) ?_
          refine (AllReadyH.cons rfl (fun K hK => ?_) (AllReadyH.cons rfl (fun K hK => ?_) AllReadyH.nil))
          · skip
            obtain ⟨n0, n1, _, _⟩ := two_cells (keep0 HC.out hk)
            simp only [List.getElem_toArray, List.getElem_cons_succ, List.getElem_cons_zero]
            go_simp
            refine hK.out _ _ ?_ (fun hHeld2 => ?_)
            focus
              exact hS _ (Tch.of_below hk)
            clear hHeld
            have hHeld := hHeld2
            clear hHeld2 hK K
            try simp only [List.getElem_toArray, List.getElem_cons_succ, List.getElem_cons_zero, Act.put, List.setIfInBounds_toArray, List.set_cons_zero, List.set_cons_succ]
            clear n0 n1
            refine wpAnyH_ready (rs := [6, 14]) (by kernel_rfl) (by simp) ?_
            refine (AllReadyH.cons rfl (fun K hK => ?_) (AllReadyH.cons rfl (fun K hK => ?_) AllReadyH.nil))
            · skip
              refine step_append_slw rfl (.tmp 28) (.tmp 32) 51 rfl bs 64 Try.underlying51 info_rthing rfl (by omega) rfl HE.out rfl (HSL.out _ hk) (tcells_one _) ?c1 ?c2 (by rw [HBS.out]; exact hk.size) ?_
              case c1 => unfold maxLen; omega
              case c2 => omega
              intro vP k2 hP htP _
              have hkP := hk.trans (HBS.out ▸ htP.below bs (fun g hg _ => (own_lt HE.out g hg).1) (by rw [HBS.out]; exact hk.size))
              replace HE := hid hP
              clear hP htP
              refine hK.out _ _ ?_ (fun hHeld2 => ?_)
              focus
                exact hS _ (Tch.of_below hkP)
              clear hHeld
              have hHeld := hHeld2
              clear hHeld2 hK K
              try simp only [List.getElem_toArray, List.getElem_cons_succ, List.getElem_cons_zero, Act.put, List.setIfInBounds_toArray, List.set_cons_zero, List.set_cons_succ]
              replace hk := hkP
              clear hkP
              refine wpAnyH_ready (rs := [14]) (by kernel_rfl) (by simp) ?_
              refine (AllReadyH.cons rfl (fun K hK => ?_) AllReadyH.nil)
              have hbs : Below (World.heap k2).size k2 (World.alloc k2 (.cells #[.int .i64 f, .int .i64 t, .string (str s), .bool false] 64)) := (Below.refl _ _).alloc (Nat.le_refl _) _
              have HL : Hid ((World.alloc k2 (.cells #[.int .i64 f, .int .i64 t, .string (str s), .bool false] 64)).heap[(World.heap k2).size]? = some (.cells #[.int .i64 f, .int .i64 t, .string (str s), .bool false] 64 (0, 0))) := hid (heap_alloc_new _ _)
              replace HE := hid (own_keep HE.out hbs)
              have hk9 := hk.trans (hbs.mono hk.size)
              clear hbs
              simp only [List.getElem_toArray, List.getElem_cons_succ, List.getElem_cons_zero]
              go_simp
              refine hK.out _ _ ?_ (fun hHeld2 => ?_)
              focus
                exact hS _ (Tch.of_below hk9)
              clear hHeld
              have hHeld := hHeld2
              clear hHeld2 hK K
              try simp only [List.getElem_toArray, List.getElem_cons_succ, List.getElem_cons_zero, Act.put, List.setIfInBounds_toArray, List.set_cons_zero, List.set_cons_succ]
              replace hk := hk9
              clear hk9
              generalize (World.alloc k2 (.cells #[.int .i64 f, .int .i64 t, .string (str s), .bool false] 64)) = k3 at *
              generalize hxx : (World.heap k2).size = XL at HL ⊢
              clear hxx
              refine wpAnyH_ready (rs := [15]) (by kernel_rfl) (by simp) ?_
              refine (AllReadyH.cons rfl (fun K hK => ?_) AllReadyH.nil)
              refine step_append_slw rfl (.tmp 33) (.tmp 41) 51 rfl bs 64 Try.underlying51 info_rthing rfl (by omega) rfl HE.out rfl (sl_blk4 HL.out) (by simp [Value.oneCell']) ?c1 ?c2 (by rw [HBS.out]; exact hk.size) ?_
              case c1 => unfold maxLen; omega
              case c2 => omega
              intro vQ k4 hQ htQ _
              have hkQ := hk.trans (HBS.out ▸ htQ.below bs (fun g hg _ => (own_lt HE.out g hg).1) (by rw [HBS.out]; exact hk.size))
              obtain ⟨LQ, hlq⟩ : ∃ n, n = (X ++ [Tg.mk f t s false]).length := ⟨_, rfl⟩
              have hQ9 : k4.ownsRow bs 64 4 vQ LQ (tcells (X ++ [Tg.mk f t s false])) := by
                rw [hlq, List.length_append, tcells_append]
                simpa [tcells, tc] using hQ
              have HLQ := hid hlq
              clear hQ hlq
              obtain ⟨A6, c6, rfl, h99⟩ := Sl.of_own hQ9
              clear h99
              have hQ := hQ9
              clear hQ9
              clear HE htQ
              refine hK.out _ _ ?_ (fun hHeld2 => ?_)
              focus
                exact hS _ (Tch.of_below hkQ)
              clear hHeld
              have hHeld := hHeld2
              clear hHeld2 hK K
              try simp only [List.getElem_toArray, List.getElem_cons_succ, List.getElem_cons_zero, Act.put, List.setIfInBounds_toArray, List.set_cons_zero, List.set_cons_succ]
              replace hk := hkQ
              clear hkQ
              refine wpAnyH_take (i := 16) (v := ?_) rfl (by kernel_rfl) (by kernel_rfl) (by kernel_rfl) (fun _ _ _ h => h) (Or.inl ⟨by rfl, ?_⟩) (by assumption) ?_
              rotate_left
              focus
                intro U hU
                try dsimp only at hU
                go_simp
                try (with_reducible rfl)
              simp only [List.getElem_toArray, List.getElem_cons_succ, List.getElem_cons_zero, Act.put, List.setIfInBounds_toArray, List.set_cons_zero, List.set_cons_succ]
              refine wpAnyH_take (i := 17) (v := ?_) rfl (by kernel_rfl) (by kernel_rfl) (by kernel_rfl) (fun _ _ _ h => h) (Or.inl ⟨by rfl, ?_⟩) (by assumption) ?_
              rotate_left
              focus
                intro U hU
                try dsimp only at hU
                go_simp
                try (with_reducible rfl)
              simp only [List.getElem_toArray, List.getElem_cons_succ, List.getElem_cons_zero, Act.put, List.setIfInBounds_toArray, List.set_cons_zero, List.set_cons_succ]
              refine wpAnyH_ready (rs := [18]) (by kernel_rfl) (by simp) ?_
              refine (AllReadyH.cons rfl (fun K hK => ?_) AllReadyH.nil)
              obtain ⟨n0, n1, nf0, nf1⟩ := two_cells (keep0 HC.out hk)
              have hst := (Tch.of_below (S := fun g => g = c) hk).set c 0 (.slice A6 LQ c6) (fun _ => rfl)
              have HFIN := hid (rnAt_set (keep0 HC.out hk) hQ (by rw [HBS.out]; exact HSB.out) HCB.out HLQ.out rfl)
              have HFIN2 := hid (rnAt_set0 (keep0 HC.out hk) hQ HLQ.out rfl)
              simp only [List.getElem_toArray, List.getElem_cons_succ, List.getElem_cons_zero]
              go_simp
              refine hK.out _ _ ?_ (fun hHeld2 => ?_)
              focus
                exact hS _ hst
              clear hHeld
              have hHeld := hHeld2
              clear hHeld2 hK K
              try simp only [List.getElem_toArray, List.getElem_cons_succ, List.getElem_cons_zero, Act.put, List.setIfInBounds_toArray, List.set_cons_zero, List.set_cons_succ]
              clear n0 n1 nf0 nf1 hQ
              refine wpAnyH_done (by kernel_rfl) ?_ _
              clear hHeld hS hk
              have HT5 := hid (HT4.out.trans hst (fun g hg _ => hg))
              clear hst HT4 HC HSL HL
              generalize World.setCell _ _ _ = w9 at *
              go_wp2
              go_roundw
              case rel => exact ⟨k + 1, by omega, by go_num, by rw [HV.out, List.length_append, List.length_singleton]; go_num, by rw [HV.out]; exact HFIN.out, HT5⟩
              case measure => simp [intOf]; omega
            · skip
              have hbs : Below (World.heap k1).size k1 (World.alloc k1 (.cells #[.int .i64 f, .int .i64 t, .string (str s), .bool false] 64)) := (Below.refl _ _).alloc (Nat.le_refl _) _
              have HL : Hid ((World.alloc k1 (.cells #[.int .i64 f, .int .i64 t, .string (str s), .bool false] 64)).heap[(World.heap k1).size]? = some (.cells #[.int .i64 f, .int .i64 t, .string (str s), .bool false] 64 (0, 0))) := hid (heap_alloc_new _ _)
              have HNE : Hid ((World.heap k1).size ≠ XE) := hid (Nat.ne_of_gt (own_lt HE.out _ rfl).2.1)
              replace HE := hid (own_keep HE.out hbs)
              have hk9 := hk.trans (hbs.mono hk.size)
              clear hbs
              simp only [List.getElem_toArray, List.getElem_cons_succ, List.getElem_cons_zero]
              go_simp
              refine hK.out _ _ ?_ (fun hHeld2 => ?_)
              focus
                exact hS _ (Tch.of_below hk9)
              clear hHeld
              have hHeld := hHeld2
              clear hHeld2 hK K
              try simp only [List.getElem_toArray, List.getElem_cons_succ, List.getElem_cons_zero, Act.put, List.setIfInBounds_toArray, List.set_cons_zero, List.set_cons_succ]
              replace hk := hk9
              clear hk9
              generalize (World.alloc k1 (.cells #[.int .i64 f, .int .i64 t, .string (str s), .bool false] 64)) = k5 at *
              generalize hxx : (World.heap k1).size = XL at HL HNE ⊢
              clear hxx
              refine wpAnyH_ready (rs := [6]) (by kernel_rfl) (by simp) ?_
              refine (AllReadyH.cons rfl (fun K hK => ?_) AllReadyH.nil)
              refine step_append_slw rfl (.tmp 28) (.tmp 32) 51 rfl bs 64 Try.underlying51 info_rthing rfl (by omega) rfl HE.out rfl (HSL.out _ hk) (tcells_one _) ?c1 ?c2 (by rw [HBS.out]; exact hk.size) ?_
              case c1 => unfold maxLen; omega
              case c2 => omega
              intro vP k6 hP htP _
              have hkP := hk.trans (HBS.out ▸ htP.below bs (fun g hg _ => (own_lt HE.out g hg).1) (by rw [HBS.out]; exact hk.size))
              replace HL := hid (htP.block HL.out (fun h => HNE.out (by simpa using (Option.some.inj h).symm)))
              clear HNE
              replace HE := hid hP
              clear hP htP
              refine hK.out _ _ ?_ (fun hHeld2 => ?_)
              focus
                exact hS _ (Tch.of_below hkP)
              clear hHeld
              have hHeld := hHeld2
              clear hHeld2 hK K
              try simp only [List.getElem_toArray, List.getElem_cons_succ, List.getElem_cons_zero, Act.put, List.setIfInBounds_toArray, List.set_cons_zero, List.set_cons_succ]
              replace hk := hkP
              clear hkP
              refine wpAnyH_ready (rs := [15]) (by kernel_rfl) (by simp) ?_
              refine (AllReadyH.cons rfl (fun K hK => ?_) AllReadyH.nil)
              refine step_append_slw rfl (.tmp 33) (.tmp 41) 51 rfl bs 64 Try.underlying51 info_rthing rfl (by omega) rfl HE.out rfl (sl_blk4 HL.out) (by simp [Value.oneCell']) ?c1 ?c2 (by rw [HBS.out]; exact hk.size) ?_
              case c1 => unfold maxLen; omega
              case c2 => omega
              intro vQ k7 hQ htQ _
              have hkQ := hk.trans (HBS.out ▸ htQ.below bs (fun g hg _ => (own_lt HE.out g hg).1) (by rw [HBS.out]; exact hk.size))
              obtain ⟨LQ, hlq⟩ : ∃ n, n = (X ++ [Tg.mk f t s false]).length := ⟨_, rfl⟩
              have hQ9 : k7.ownsRow bs 64 4 vQ LQ (tcells (X ++ [Tg.mk f t s false])) := by
                rw [hlq, List.length_append, tcells_append]
                simpa [tcells, tc] using hQ
              have HLQ := hid hlq
              clear hQ hlq
              obtain ⟨A6, c6, rfl, h99⟩ := Sl.of_own hQ9
              clear h99
              have hQ := hQ9
              clear hQ9
              clear HE htQ
              refine hK.out _ _ ?_ (fun hHeld2 => ?_)
              focus
                exact hS _ (Tch.of_below hkQ)
              clear hHeld
              have hHeld := hHeld2
              clear hHeld2 hK K
              try simp only [List.getElem_toArray, List.getElem_cons_succ, List.getElem_cons_zero, Act.put, List.setIfInBounds_toArray, List.set_cons_zero, List.set_cons_succ]
              replace hk := hkQ
              clear hkQ
              refine wpAnyH_take (i := 16) (v := ?_) rfl (by kernel_rfl) (by kernel_rfl) (by kernel_rfl) (fun _ _ _ h => h) (Or.inl ⟨by rfl, ?_⟩) (by assumption) ?_
              rotate_left
              focus
                intro U hU
                try dsimp only at hU
                go_simp
                try (with_reducible rfl)
              simp only [List.getElem_toArray, List.getElem_cons_succ, List.getElem_cons_zero, Act.put, List.setIfInBounds_toArray, List.set_cons_zero, List.set_cons_succ]
              refine wpAnyH_take (i := 17) (v := ?_) rfl (by kernel_rfl) (by kernel_rfl) (by kernel_rfl) (fun _ _ _ h => h) (Or.inl ⟨by rfl, ?_⟩) (by assumption) ?_
              rotate_left
              focus
                intro U hU
                try dsimp only at hU
                go_simp
                try (with_reducible rfl)
              simp only [List.getElem_toArray, List.getElem_cons_succ, List.getElem_cons_zero, Act.put, List.setIfInBounds_toArray, List.set_cons_zero, List.set_cons_succ]
              refine wpAnyH_ready (rs := [18]) (by kernel_rfl) (by simp) ?_
              refine (AllReadyH.cons rfl (fun K hK => ?_) AllReadyH.nil)
              obtain ⟨n0, n1, nf0, nf1⟩ := two_cells (keep0 HC.out hk)
              have hst := (Tch.of_below (S := fun g => g = c) hk).set c 0 (.slice A6 LQ c6) (fun _ => rfl)
              have HFIN := hid (rnAt_set (keep0 HC.out hk) hQ (by rw [HBS.out]; exact HSB.out) HCB.out HLQ.out rfl)
              have HFIN2 := hid (rnAt_set0 (keep0 HC.out hk) hQ HLQ.out rfl)
              simp only [List.getElem_toArray, List.getElem_cons_succ, List.getElem_cons_zero]
              go_simp
              refine hK.out _ _ ?_ (fun hHeld2 => ?_)
              focus
                exact hS _ hst
              clear hHeld
              have hHeld := hHeld2
              clear hHeld2 hK K
              try simp only [List.getElem_toArray, List.getElem_cons_succ, List.getElem_cons_zero, Act.put, List.setIfInBounds_toArray, List.set_cons_zero, List.set_cons_succ]
              clear n0 n1 nf0 nf1 hQ
              refine wpAnyH_done (by kernel_rfl) ?_ _
              clear hHeld hS hk
              have HT5 := hid (HT4.out.trans hst (fun g hg _ => hg))
              clear hst HT4 HC HSL HL
              generalize World.setCell _ _ _ = w9 at *
              go_wp2
              go_roundw
              case rel => exact ⟨k + 1, by omega, by go_num, by rw [HV.out, List.length_append, List.length_singleton]; go_num, by rw [HV.out]; exact HFIN.out, HT5⟩
              case measure => simp [intOf]; omega
          · skip
            have hbs : Below (World.heap k1).size k1 (World.alloc k1 (.cells #[.int .i64 f, .int .i64 t, .string (str s), .bool false] 64)) := (Below.refl _ _).alloc (Nat.le_refl _) _
            have HL : Hid ((World.alloc k1 (.cells #[.int .i64 f, .int .i64 t, .string (str s), .bool false] 64)).heap[(World.heap k1).size]? = some (.cells #[.int .i64 f, .int .i64 t, .string (str s), .bool false] 64 (0, 0))) := hid (heap_alloc_new _ _)
            have HNE : Hid ((World.heap k1).size ≠ XE) := hid (Nat.ne_of_gt (own_lt HE.out _ rfl).2.1)
            replace HE := hid (own_keep HE.out hbs)
            have hk9 := hk.trans (hbs.mono hk.size)
            clear hbs
            simp only [List.getElem_toArray, List.getElem_cons_succ, List.getElem_cons_zero]
            go_simp
            refine hK.out _ _ ?_ (fun hHeld2 => ?_)
            focus
              exact hS _ (Tch.of_below hk9)
            clear hHeld
            have hHeld := hHeld2
            clear hHeld2 hK K
            try simp only [List.getElem_toArray, List.getElem_cons_succ, List.getElem_cons_zero, Act.put, List.setIfInBounds_toArray, List.set_cons_zero, List.set_cons_succ]
            replace hk := hk9
            clear hk9
            generalize (World.alloc k1 (.cells #[.int .i64 f, .int .i64 t, .string (str s), .bool false] 64)) = k8 at *
            generalize hxx : (World.heap k1).size = XL at HL HNE ⊢
            clear hxx
            refine wpAnyH_ready (rs := [5]) (by kernel_rfl) (by simp) ?_
            refine (AllReadyH.cons rfl (fun K hK => ?_) AllReadyH.nil)
            obtain ⟨n0, n1, _, _⟩ := two_cells (keep0 HC.out hk)
            simp only [List.getElem_toArray, List.getElem_cons_succ, List.getElem_cons_zero]
            go_simp
            refine hK.out _ _ ?_ (fun hHeld2 => ?_)
            focus
              exact hS _ (Tch.of_below hk)
            clear hHeld
            have hHeld := hHeld2
            clear hHeld2 hK K
            try simp only [List.getElem_toArray, List.getElem_cons_succ, List.getElem_cons_zero, Act.put, List.setIfInBounds_toArray, List.set_cons_zero, List.set_cons_succ]
            clear n0 n1
            refine wpAnyH_ready (rs := [6]) (by kernel_rfl) (by simp) ?_
            refine (AllReadyH.cons rfl (fun K hK => ?_) AllReadyH.nil)
            refine step_append_slw rfl (.tmp 28) (.tmp 32) 51 rfl bs 64 Try.underlying51 info_rthing rfl (by omega) rfl HE.out rfl (HSL.out _ hk) (tcells_one _) ?c1 ?c2 (by rw [HBS.out]; exact hk.size) ?_
            case c1 => unfold maxLen; omega
            case c2 => omega
            intro vP k9 hP htP _
            have hkP := hk.trans (HBS.out ▸ htP.below bs (fun g hg _ => (own_lt HE.out g hg).1) (by rw [HBS.out]; exact hk.size))
            replace HL := hid (htP.block HL.out (fun h => HNE.out (by simpa using (Option.some.inj h).symm)))
            clear HNE
            replace HE := hid hP
            clear hP htP
            refine hK.out _ _ ?_ (fun hHeld2 => ?_)
            focus
              exact hS _ (Tch.of_below hkP)
            clear hHeld
            have hHeld := hHeld2
            clear hHeld2 hK K
            try simp only [List.getElem_toArray, List.getElem_cons_succ, List.getElem_cons_zero, Act.put, List.setIfInBounds_toArray, List.set_cons_zero, List.set_cons_succ]
            replace hk := hkP
            clear hkP
            refine wpAnyH_ready (rs := [15]) (by kernel_rfl) (by simp) ?_
            refine (AllReadyH.cons rfl (fun K hK => ?_) AllReadyH.nil)
            refine step_append_slw rfl (.tmp 33) (.tmp 41) 51 rfl bs 64 Try.underlying51 info_rthing rfl (by omega) rfl HE.out rfl (sl_blk4 HL.out) (by simp [Value.oneCell']) ?c1 ?c2 (by rw [HBS.out]; exact hk.size) ?_
            case c1 => unfold maxLen; omega
            case c2 => omega
            intro vQ k10 hQ htQ _
            have hkQ := hk.trans (HBS.out ▸ htQ.below bs (fun g hg _ => (own_lt HE.out g hg).1) (by rw [HBS.out]; exact hk.size))
            obtain ⟨LQ, hlq⟩ : ∃ n, n = (X ++ [Tg.mk f t s false]).length := ⟨_, rfl⟩
            have hQ9 : k10.ownsRow bs 64 4 vQ LQ (tcells (X ++ [Tg.mk f t s false])) := by
              rw [hlq, List.length_append, tcells_append]
              simpa [tcells, tc] using hQ
            have HLQ := hid hlq
            clear hQ hlq
            obtain ⟨A6, c6, rfl, h99⟩ := Sl.of_own hQ9
            clear h99
            have hQ := hQ9
            clear hQ9
            clear HE htQ
            refine hK.out _ _ ?_ (fun hHeld2 => ?_)
            focus
              exact hS _ (Tch.of_below hkQ)
            clear hHeld
            have hHeld := hHeld2
            clear hHeld2 hK K
            try simp only [List.getElem_toArray, List.getElem_cons_succ, List.getElem_cons_zero, Act.put, List.setIfInBounds_toArray, List.set_cons_zero, List.set_cons_succ]
            replace hk := hkQ
            clear hkQ
            refine wpAnyH_take (i := 16) (v := ?_) rfl (by kernel_rfl) (by kernel_rfl) (by kernel_rfl) (fun _ _ _ h => h) (Or.inl ⟨by rfl, ?_⟩) (by assumption) ?_
            rotate_left
            focus
              intro U hU
              try dsimp only at hU
              go_simp
              try (with_reducible rfl)
            simp only [List.getElem_toArray, List.getElem_cons_succ, List.getElem_cons_zero, Act.put, List.setIfInBounds_toArray, List.set_cons_zero, List.set_cons_succ]
            refine wpAnyH_take (i := 17) (v := ?_) rfl (by kernel_rfl) (by kernel_rfl) (by kernel_rfl) (fun _ _ _ h => h) (Or.inl ⟨by rfl, ?_⟩) (by assumption) ?_
            rotate_left
            focus
              intro U hU
              try dsimp only at hU
              go_simp
              try (with_reducible rfl)
            simp only [List.getElem_toArray, List.getElem_cons_succ, List.getElem_cons_zero, Act.put, List.setIfInBounds_toArray, List.set_cons_zero, List.set_cons_succ]
            refine wpAnyH_ready (rs := [18]) (by kernel_rfl) (by simp) ?_
            refine (AllReadyH.cons rfl (fun K hK => ?_) AllReadyH.nil)
            obtain ⟨n0, n1, nf0, nf1⟩ := two_cells (keep0 HC.out hk)
            have hst := (Tch.of_below (S := fun g => g = c) hk).set c 0 (.slice A6 LQ c6) (fun _ => rfl)
            have HFIN := hid (rnAt_set (keep0 HC.out hk) hQ (by rw [HBS.out]; exact HSB.out) HCB.out HLQ.out rfl)
            have HFIN2 := hid (rnAt_set0 (keep0 HC.out hk) hQ HLQ.out rfl)
            simp only [List.getElem_toArray, List.getElem_cons_succ, List.getElem_cons_zero]
            go_simp
            refine hK.out _ _ ?_ (fun hHeld2 => ?_)
            focus
              exact hS _ hst
            clear hHeld
            have hHeld := hHeld2
            clear hHeld2 hK K
            try simp only [List.getElem_toArray, List.getElem_cons_succ, List.getElem_cons_zero, Act.put, List.setIfInBounds_toArray, List.set_cons_zero, List.set_cons_succ]
            clear n0 n1 nf0 nf1 hQ
            refine wpAnyH_done (by kernel_rfl) ?_ _
            clear hHeld hS hk
            have HT5 := hid (HT4.out.trans hst (fun g hg _ => hg))
            clear hst HT4 HC HSL HL
            generalize World.setCell _ _ _ = w9 at *
            go_wp2
            go_roundw
            case rel => exact ⟨k + 1, by omega, by go_num, by rw [HV.out, List.length_append, List.length_singleton]; go_num, by rw [HV.out]; exact HFIN.out, HT5⟩
            case measure => simp [intOf]; omega
        · skip
          obtain ⟨n0, n1, _, _⟩ := two_cells (keep0 HC.out hk)
          simp only [List.getElem_toArray, List.getElem_cons_succ, List.getElem_cons_zero]
          go_simp
          refine hK.out _ _ ?_ (fun hHeld2 => ?_)
          focus
            exact hS _ (Tch.of_below hk)
          clear hHeld
          have hHeld := hHeld2
          clear hHeld2 hK K
          try simp only [List.getElem_toArray, List.getElem_cons_succ, List.getElem_cons_zero, Act.put, List.setIfInBounds_toArray, List.set_cons_zero, List.set_cons_succ]
          clear n0 n1
          refine wpAnyH_ready (rs := [1, 14]) (by kernel_rfl) (by simp) ?_
          refine (AllReadyH.cons rfl (fun K hK => ?_) (AllReadyH.cons rfl (fun K hK => ?_) AllReadyH.nil))
          · skip
            have hbs : Below (World.heap w0).size w0 (World.alloc w0 (.cells #[] 64)) := (Below.refl _ _).alloc (Nat.le_refl _) _
            have HE := hid (own_mono (own_empty w0 64 4) (show bs ≤ _ from by rw [HBS.out]; exact hk.size))
            have hk9 := hk.trans (hbs.mono hk.size)
            clear hbs
            simp only [List.getElem_toArray, List.getElem_cons_succ, List.getElem_cons_zero]
            go_simp
            refine hK.out _ _ ?_ (fun hHeld2 => ?_)
            focus
              exact hS _ (Tch.of_below hk9)
            clear hHeld
            have hHeld := hHeld2
            clear hHeld2 hK K
            try simp only [List.getElem_toArray, List.getElem_cons_succ, List.getElem_cons_zero, Act.put, List.setIfInBounds_toArray, List.set_cons_zero, List.set_cons_succ]
            replace hk := hk9
            clear hk9
            generalize (World.alloc w0 (.cells #[] 64)) = k11 at *
            generalize hxx : (World.heap w0).size = XE at HE ⊢
            clear hxx
            refine wpAnyH_ready (rs := [6, 14]) (by kernel_rfl) (by simp) ?_
            refine (AllReadyH.cons rfl (fun K hK => ?_) (AllReadyH.cons rfl (fun K hK => ?_) AllReadyH.nil))
            · skip
              refine step_append_slw rfl (.tmp 28) (.tmp 32) 51 rfl bs 64 Try.underlying51 info_rthing rfl (by omega) rfl HE.out rfl (HSL.out _ hk) (tcells_one _) ?c1 ?c2 (by rw [HBS.out]; exact hk.size) ?_
              case c1 => unfold maxLen; omega
              case c2 => omega
              intro vP k12 hP htP _
              have hkP := hk.trans (HBS.out ▸ htP.below bs (fun g hg _ => (own_lt HE.out g hg).1) (by rw [HBS.out]; exact hk.size))
              replace HE := hid hP
              clear hP htP
              refine hK.out _ _ ?_ (fun hHeld2 => ?_)
              focus
                exact hS _ (Tch.of_below hkP)
              clear hHeld
              have hHeld := hHeld2
              clear hHeld2 hK K
              try simp only [List.getElem_toArray, List.getElem_cons_succ, List.getElem_cons_zero, Act.put, List.setIfInBounds_toArray, List.set_cons_zero, List.set_cons_succ]
              replace hk := hkP
              clear hkP
              refine wpAnyH_ready (rs := [14]) (by kernel_rfl) (by simp) ?_
              refine (AllReadyH.cons rfl (fun K hK => ?_) AllReadyH.nil)
              have hbs : Below (World.heap k12).size k12 (World.alloc k12 (.cells #[.int .i64 f, .int .i64 t, .string (str s), .bool false] 64)) := (Below.refl _ _).alloc (Nat.le_refl _) _
              have HL : Hid ((World.alloc k12 (.cells #[.int .i64 f, .int .i64 t, .string (str s), .bool false] 64)).heap[(World.heap k12).size]? = some (.cells #[.int .i64 f, .int .i64 t, .string (str s), .bool false] 64 (0, 0))) := hid (heap_alloc_new _ _)
              replace HE := hid (own_keep HE.out hbs)
              have hk9 := hk.trans (hbs.mono hk.size)
              clear hbs
              simp only [List.getElem_toArray, List.getElem_cons_succ, List.getElem_cons_zero]
              go_simp
              refine hK.out _ _ ?_ (fun hHeld2 => ?_)
              focus
                exact hS _ (Tch.of_below hk9)
              clear hHeld
              have hHeld := hHeld2
              clear hHeld2 hK K
              try simp only [List.getElem_toArray, List.getElem_cons_succ, List.getElem_cons_zero, Act.put, List.setIfInBounds_toArray, List.set_cons_zero, List.set_cons_succ]
              replace hk := hk9
              clear hk9
              generalize (World.alloc k12 (.cells #[.int .i64 f, .int .i64 t, .string (str s), .bool false] 64)) = k13 at *
              generalize hxx : (World.heap k12).size = XL at HL ⊢
              clear hxx
              refine wpAnyH_ready (rs := [15]) (by kernel_rfl) (by simp) ?_
              refine (AllReadyH.cons rfl (fun K hK => ?_) AllReadyH.nil)
              refine step_append_slw rfl (.tmp 33) (.tmp 41) 51 rfl bs 64 Try.underlying51 info_rthing rfl (by omega) rfl HE.out rfl (sl_blk4 HL.out) (by simp [Value.oneCell']) ?c1 ?c2 (by rw [HBS.out]; exact hk.size) ?_
              case c1 => unfold maxLen; omega
              case c2 => omega
              intro vQ k14 hQ htQ _
              have hkQ := hk.trans (HBS.out ▸ htQ.below bs (fun g hg _ => (own_lt HE.out g hg).1) (by rw [HBS.out]; exact hk.size))
              obtain ⟨LQ, hlq⟩ : ∃ n, n = (X ++ [Tg.mk f t s false]).length := ⟨_, rfl⟩
              have hQ9 : k14.ownsRow bs 64 4 vQ LQ (tcells (X ++ [Tg.mk f t s false])) := by
                rw [hlq, List.length_append, tcells_append]
                simpa [tcells, tc] using hQ
              have HLQ := hid hlq
              clear hQ hlq
              obtain ⟨A6, c6, rfl, h99⟩ := Sl.of_own hQ9
              clear h99
              have hQ := hQ9
              clear hQ9
              clear HE htQ
              refine hK.out _ _ ?_ (fun hHeld2 => ?_)
              focus
                exact hS _ (Tch.of_below hkQ)
              clear hHeld
              have hHeld := hHeld2
              clear hHeld2 hK K
              try simp only [List.getElem_toArray, List.getElem_cons_succ, List.getElem_cons_zero, Act.put, List.setIfInBounds_toArray, List.set_cons_zero, List.set_cons_succ]
              replace hk := hkQ
              clear hkQ
              refine wpAnyH_take (i := 16) (v := ?_) rfl (by kernel_rfl) (by kernel_rfl) (by kernel_rfl) (fun _ _ _ h => h) (Or.inl ⟨by rfl, ?_⟩) (by assumption) ?_
              rotate_left
              focus
                intro U hU
                try dsimp only at hU
                go_simp
                try (with_reducible rfl)
              simp only [List.getElem_toArray, List.getElem_cons_succ, List.getElem_cons_zero, Act.put, List.setIfInBounds_toArray, List.set_cons_zero, List.set_cons_succ]
              refine wpAnyH_take (i := 17) (v := ?_) rfl (by kernel_rfl) (by kernel_rfl) (by kernel_rfl) (fun _ _ _ h => h) (Or.inl ⟨by rfl, ?_⟩) (by assumption) ?_
              rotate_left
              focus
                intro U hU
                try dsimp only at hU
                go_simp
                try (with_reducible rfl)
              simp only [List.getElem_toArray, List.getElem_cons_succ, List.getElem_cons_zero, Act.put, List.setIfInBounds_toArray, List.set_cons_zero, List.set_cons_succ]
              refine wpAnyH_ready (rs := [18]) (by kernel_rfl) (by simp) ?_
              refine (AllReadyH.cons rfl (fun K hK => ?_) AllReadyH.nil)
              obtain ⟨n0, n1, nf0, nf1⟩ := two_cells (keep0 HC.out hk)
              have hst := (Tch.of_below (S := fun g => g = c) hk).set c 0 (.slice A6 LQ c6) (fun _ => rfl)
              have HFIN := hid (rnAt_set (keep0 HC.out hk) hQ (by rw [HBS.out]; exact HSB.out) HCB.out HLQ.out rfl)
              have HFIN2 := hid (rnAt_set0 (keep0 HC.out hk) hQ HLQ.out rfl)
              simp only [List.getElem_toArray, List.getElem_cons_succ, List.getElem_cons_zero]
              go_simp
              refine hK.out _ _ ?_ (fun hHeld2 => ?_)
              focus
                exact hS _ hst
              clear hHeld
              have hHeld := hHeld2
              clear hHeld2 hK K
              try simp only [List.getElem_toArray, List.getElem_cons_succ, List.getElem_cons_zero, Act.put, List.setIfInBounds_toArray, List.set_cons_zero, List.set_cons_succ]
              clear n0 n1 nf0 nf1 hQ
              refine wpAnyH_done (by kernel_rfl) ?_ _
              clear hHeld hS hk
              have HT5 := hid (HT4.out.trans hst (fun g hg _ => hg))
              clear hst HT4 HC HSL HL
              generalize World.setCell _ _ _ = w9 at *
              go_wp2
              go_roundw
              case rel => exact ⟨k + 1, by omega, by go_num, by rw [HV.out, List.length_append, List.length_singleton]; go_num, by rw [HV.out]; exact HFIN.out, HT5⟩
              case measure => simp [intOf]; omega
            · skip
              have hbs : Below (World.heap k11).size k11 (World.alloc k11 (.cells #[.int .i64 f, .int .i64 t, .string (str s), .bool false] 64)) := (Below.refl _ _).alloc (Nat.le_refl _) _
              have HL : Hid ((World.alloc k11 (.cells #[.int .i64 f, .int .i64 t, .string (str s), .bool false] 64)).heap[(World.heap k11).size]? = some (.cells #[.int .i64 f, .int .i64 t, .string (str s), .bool false] 64 (0, 0))) := hid (heap_alloc_new _ _)
              have HNE : Hid ((World.heap k11).size ≠ XE) := hid (Nat.ne_of_gt (own_lt HE.out _ rfl).2.1)
              replace HE := hid (own_keep HE.out hbs)
              have hk9 := hk.trans (hbs.mono hk.size)
              clear hbs
              simp only [List.getElem_toArray, List.getElem_cons_succ, List.getElem_cons_zero]
              go_simp
              refine hK.out _ _ ?_ (fun hHeld2 => ?_)
              focus
                exact hS _ (Tch.of_below hk9)
              clear hHeld
              have hHeld := hHeld2
              clear hHeld2 hK K
              try simp only [List.getElem_toArray, List.getElem_cons_succ, List.getElem_cons_zero, Act.put, List.setIfInBounds_toArray, List.set_cons_zero, List.set_cons_succ]
              replace hk := hk9
              clear hk9
              generalize (World.alloc k11 (.cells #[.int .i64 f, .int .i64 t, .string (str s), .bool false] 64)) = k15 at *
              generalize hxx : (World.heap k11).size = XL at HL HNE ⊢
              clear hxx
              refine wpAnyH_ready (rs := [6]) (by kernel_rfl) (by simp) ?_
              refine (AllReadyH.cons rfl (fun K hK => ?_) AllReadyH.nil)
              refine step_append_slw rfl (.tmp 28) (.tmp 32) 51 rfl bs 64 Try.underlying51 info_rthing rfl (by omega) rfl HE.out rfl (HSL.out _ hk) (tcells_one _) ?c1 ?c2 (by rw [HBS.out]; exact hk.size) ?_
              case c1 => unfold maxLen; omega
              case c2 => omega
              intro vP k16 hP htP _
              have hkP := hk.trans (HBS.out ▸ htP.below bs (fun g hg _ => (own_lt HE.out g hg).1) (by rw [HBS.out]; exact hk.size))
              replace HL := hid (htP.block HL.out (fun h => HNE.out (by simpa using (Option.some.inj h).symm)))
              clear HNE
              replace HE := hid hP
              clear hP htP
              refine hK.out _ _ ?_ (fun hHeld2 => ?_)
              focus
                exact hS _ (Tch.of_below hkP)
              clear hHeld
              have hHeld := hHeld2
              clear hHeld2 hK K
              try simp only [List.getElem_toArray, List.getElem_cons_succ, List.getElem_cons_zero, Act.put, List.setIfInBounds_toArray, List.set_cons_zero, List.set_cons_succ]
              replace hk := hkP
              clear hkP
              refine wpAnyH_ready (rs := [15]) (by kernel_rfl) (by simp) ?_
              refine (AllReadyH.cons rfl (fun K hK => ?_) AllReadyH.nil)
              refine step_append_slw rfl (.tmp 33) (.tmp 41) 51 rfl bs 64 Try.underlying51 info_rthing rfl (by omega) rfl HE.out rfl (sl_blk4 HL.out) (by simp [Value.oneCell']) ?c1 ?c2 (by rw [HBS.out]; exact hk.size) ?_
              case c1 => unfold maxLen; omega
              case c2 => omega
              intro vQ k17 hQ htQ _
              have hkQ := hk.trans (HBS.out ▸ htQ.below bs (fun g hg _ => (own_lt HE.out g hg).1) (by rw [HBS.out]; exact hk.size))
              obtain ⟨LQ, hlq⟩ : ∃ n, n = (X ++ [Tg.mk f t s false]).length := ⟨_, rfl⟩
              have hQ9 : k17.ownsRow bs 64 4 vQ LQ (tcells (X ++ [Tg.mk f t s false])) := by
                rw [hlq, List.length_append, tcells_append]
                simpa [tcells, tc] using hQ
              have HLQ := hid hlq
              clear hQ hlq
              obtain ⟨A6, c6, rfl, h99⟩ := Sl.of_own hQ9
              clear h99
              have hQ := hQ9
              clear hQ9
              clear HE htQ
              refine hK.out _ _ ?_ (fun hHeld2 => ?_)
              focus
                exact hS _ (Tch.of_below hkQ)
              clear hHeld
              have hHeld := hHeld2
              clear hHeld2 hK K
              try simp only [List.getElem_toArray, List.getElem_cons_succ, List.getElem_cons_zero, Act.put, List.setIfInBounds_toArray, List.set_cons_zero, List.set_cons_succ]
              replace hk := hkQ
              clear hkQ
              refine wpAnyH_take (i := 16) (v := ?_) rfl (by kernel_rfl) (by kernel_rfl) (by kernel_rfl) (fun _ _ _ h => h) (Or.inl ⟨by rfl, ?_⟩) (by assumption) ?_
              rotate_left
              focus
                intro U hU
                try dsimp only at hU
                go_simp
                try (with_reducible rfl)
              simp only [List.getElem_toArray, List.getElem_cons_succ, List.getElem_cons_zero, Act.put, List.setIfInBounds_toArray, List.set_cons_zero, List.set_cons_succ]
              refine wpAnyH_take (i := 17) (v := ?_) rfl (by kernel_rfl) (by kernel_rfl) (by kernel_rfl) (fun _ _ _ h => h) (Or.inl ⟨by rfl, ?_⟩) (by assumption) ?_
              rotate_left
              focus
                intro U hU
                try dsimp only at hU
                go_simp
                try (with_reducible rfl)
              simp only [List.getElem_toArray, List.getElem_cons_succ, List.getElem_cons_zero, Act.put, List.setIfInBounds_toArray, List.set_cons_zero, List.set_cons_succ]
              refine wpAnyH_ready (rs := [18]) (by kernel_rfl) (by simp) ?_
              refine (AllReadyH.cons rfl (fun K hK => ?_) AllReadyH.nil)
              obtain ⟨n0, n1, nf0, nf1⟩ := two_cells (keep0 HC.out hk)
              have hst := (Tch.of_below (S := fun g => g = c) hk).set c 0 (.slice A6 LQ c6) (fun _ => rfl)
              have HFIN := hid (rnAt_set (keep0 HC.out hk) hQ (by rw [HBS.out]; exact HSB.out) HCB.out HLQ.out rfl)
              have HFIN2 := hid (rnAt_set0 (keep0 HC.out hk) hQ HLQ.out rfl)
              simp only [List.getElem_toArray, List.getElem_cons_succ, List.getElem_cons_zero]
              go_simp
              refine hK.out _ _ ?_ (fun hHeld2 => ?_)
              focus
                exact hS _ hst
              clear hHeld
              have hHeld := hHeld2
              clear hHeld2 hK K
              try simp only [List.getElem_toArray, List.getElem_cons_succ, List.getElem_cons_zero, Act.put, List.setIfInBounds_toArray, List.set_cons_zero, List.set_cons_succ]
              clear n0 n1 nf0 nf1 hQ
              refine wpAnyH_done (by kernel_rfl) ?_ _
              clear hHeld hS hk
              have HT5 := hid (HT4.out.trans hst (fun g hg _ => hg))
              clear hst HT4 HC HSL HL
              generalize World.setCell _ _ _ = w9 at *
              go_wp2
              go_roundw
              case rel => exact ⟨k + 1, by omega, by go_num, by rw [HV.out, List.length_append, List.length_singleton]; go_num, by rw [HV.out]; exact HFIN.out, HT5⟩
              case measure => simp [intOf]; omega
          · skip
            have hbs : Below (World.heap w0).size w0 (World.alloc w0 (.cells #[.int .i64 f, .int .i64 t, .string (str s), .bool false] 64)) := (Below.refl _ _).alloc (Nat.le_refl _) _
            have HL : Hid ((World.alloc w0 (.cells #[.int .i64 f, .int .i64 t, .string (str s), .bool false] 64)).heap[(World.heap w0).size]? = some (.cells #[.int .i64 f, .int .i64 t, .string (str s), .bool false] 64 (0, 0))) := hid (heap_alloc_new _ _)
            have hk9 := hk.trans (hbs.mono hk.size)
            clear hbs
            simp only [List.getElem_toArray, List.getElem_cons_succ, List.getElem_cons_zero]
            go_simp
            refine hK.out _ _ ?_ (fun hHeld2 => ?_)
            focus
              exact hS _ (Tch.of_below hk9)
            clear hHeld
            have hHeld := hHeld2
            clear hHeld2 hK K
            try simp only [List.getElem_toArray, List.getElem_cons_succ, List.getElem_cons_zero, Act.put, List.setIfInBounds_toArray, List.set_cons_zero, List.set_cons_succ]
            replace hk := hk9
            clear hk9
            generalize (World.alloc w0 (.cells #[.int .i64 f, .int .i64 t, .string (str s), .bool false] 64)) = k18 at *
            generalize hxx : (World.heap w0).size = XL at HL ⊢
            clear hxx
            refine wpAnyH_ready (rs := [1]) (by kernel_rfl) (by simp) ?_
            refine (AllReadyH.cons rfl (fun K hK => ?_) AllReadyH.nil)
            have hbs : Below (World.heap k18).size k18 (World.alloc k18 (.cells #[] 64)) := (Below.refl _ _).alloc (Nat.le_refl _) _
            have HE := hid (own_mono (own_empty k18 64 4) (show bs ≤ _ from by rw [HBS.out]; exact hk.size))
            have HNE : Hid (XL ≠ (World.heap k18).size) := hid (Nat.ne_of_lt (lt_of_block HL.out))
            replace HL := hid (keep0 HL.out hbs)
            have hk9 := hk.trans (hbs.mono hk.size)
            clear hbs
            simp only [List.getElem_toArray, List.getElem_cons_succ, List.getElem_cons_zero]
            go_simp
            refine hK.out _ _ ?_ (fun hHeld2 => ?_)
            focus
              exact hS _ (Tch.of_below hk9)
            clear hHeld
            have hHeld := hHeld2
            clear hHeld2 hK K
            try simp only [List.getElem_toArray, List.getElem_cons_succ, List.getElem_cons_zero, Act.put, List.setIfInBounds_toArray, List.set_cons_zero, List.set_cons_succ]
            replace hk := hk9
            clear hk9
            generalize (World.alloc k18 (.cells #[] 64)) = k19 at *
            generalize hxx : (World.heap k18).size = XE at HE HNE ⊢
            clear hxx
            refine wpAnyH_ready (rs := [6]) (by kernel_rfl) (by simp) ?_
            refine (AllReadyH.cons rfl (fun K hK => ?_) AllReadyH.nil)
            refine step_append_slw rfl (.tmp 28) (.tmp 32) 51 rfl bs 64 Try.underlying51 info_rthing rfl (by omega) rfl HE.out rfl (HSL.out _ hk) (tcells_one _) ?c1 ?c2 (by rw [HBS.out]; exact hk.size) ?_
            case c1 => unfold maxLen; omega
            case c2 => omega
            intro vP k20 hP htP _
            have hkP := hk.trans (HBS.out ▸ htP.below bs (fun g hg _ => (own_lt HE.out g hg).1) (by rw [HBS.out]; exact hk.size))
            replace HL := hid (htP.block HL.out (fun h => HNE.out (by simpa using (Option.some.inj h).symm)))
            clear HNE
            replace HE := hid hP
            clear hP htP
            refine hK.out _ _ ?_ (fun hHeld2 => ?_)
            focus
              exact hS _ (Tch.of_below hkP)
            clear hHeld
            have hHeld := hHeld2
            clear hHeld2 hK K
            try simp only [List.getElem_toArray, List.getElem_cons_succ, List.getElem_cons_zero, Act.put, List.setIfInBounds_toArray, List.set_cons_zero, List.set_cons_succ]
            replace hk := hkP
            clear hkP
            refine wpAnyH_ready (rs := [15]) (by kernel_rfl) (by simp) ?_
            refine (AllReadyH.cons rfl (fun K hK => ?_) AllReadyH.nil)
            refine step_append_slw rfl (.tmp 33) (.tmp 41) 51 rfl bs 64 Try.underlying51 info_rthing rfl (by omega) rfl HE.out rfl (sl_blk4 HL.out) (by simp [Value.oneCell']) ?c1 ?c2 (by rw [HBS.out]; exact hk.size) ?_
            case c1 => unfold maxLen; omega
            case c2 => omega
            intro vQ k21 hQ htQ _
            have hkQ := hk.trans (HBS.out ▸ htQ.below bs (fun g hg _ => (own_lt HE.out g hg).1) (by rw [HBS.out]; exact hk.size))
            obtain ⟨LQ, hlq⟩ : ∃ n, n = (X ++ [Tg.mk f t s false]).length := ⟨_, rfl⟩
            have hQ9 : k21.ownsRow bs 64 4 vQ LQ (tcells (X ++ [Tg.mk f t s false])) := by
              rw [hlq, List.length_append, tcells_append]
              simpa [tcells, tc] using hQ
            have HLQ := hid hlq
            clear hQ hlq
            obtain ⟨A6, c6, rfl, h99⟩ := Sl.of_own hQ9
            clear h99
            have hQ := hQ9
            clear hQ9
            clear HE htQ
            refine hK.out _ _ ?_ (fun hHeld2 => ?_)
            focus
              exact hS _ (Tch.of_below hkQ)
            clear hHeld
            have hHeld := hHeld2
            clear hHeld2 hK K
            try simp only [List.getElem_toArray, List.getElem_cons_succ, List.getElem_cons_zero, Act.put, List.setIfInBounds_toArray, List.set_cons_zero, List.set_cons_succ]
            replace hk := hkQ
            clear hkQ
            refine wpAnyH_take (i := 16) (v := ?_) rfl (by kernel_rfl) (by kernel_rfl) (by kernel_rfl) (fun _ _ _ h => h) (Or.inl ⟨by rfl, ?_⟩) (by assumption) ?_
            rotate_left
            focus
              intro U hU
              try dsimp only at hU
              go_simp
              try (with_reducible rfl)
            simp only [List.getElem_toArray, List.getElem_cons_succ, List.getElem_cons_zero, Act.put, List.setIfInBounds_toArray, List.set_cons_zero, List.set_cons_succ]
            refine wpAnyH_take (i := 17) (v := ?_) rfl (by kernel_rfl) (by kernel_rfl) (by kernel_rfl) (fun _ _ _ h => h) (Or.inl ⟨by rfl, ?_⟩) (by assumption) ?_
            rotate_left
            focus
              intro U hU
              try dsimp only at hU
              go_simp
              try (with_reducible rfl)
            simp only [List.getElem_toArray, List.getElem_cons_succ, List.getElem_cons_zero, Act.put, List.setIfInBounds_toArray, List.set_cons_zero, List.set_cons_succ]
            refine wpAnyH_ready (rs := [18]) (by kernel_rfl) (by simp) ?_
            refine (AllReadyH.cons rfl (fun K hK => ?_) AllReadyH.nil)
            obtain ⟨n0, n1, nf0, nf1⟩ := two_cells (keep0 HC.out hk)
            have hst := (Tch.of_below (S := fun g => g = c) hk).set c 0 (.slice A6 LQ c6) (fun _ => rfl)
            have HFIN := hid (rnAt_set (keep0 HC.out hk) hQ (by rw [HBS.out]; exact HSB.out) HCB.out HLQ.out rfl)
            have HFIN2 := hid (rnAt_set0 (keep0 HC.out hk) hQ HLQ.out rfl)
            simp only [List.getElem_toArray, List.getElem_cons_succ, List.getElem_cons_zero]
            go_simp
            refine hK.out _ _ ?_ (fun hHeld2 => ?_)
            focus
              exact hS _ hst
            clear hHeld
            have hHeld := hHeld2
            clear hHeld2 hK K
            try simp only [List.getElem_toArray, List.getElem_cons_succ, List.getElem_cons_zero, Act.put, List.setIfInBounds_toArray, List.set_cons_zero, List.set_cons_succ]
            clear n0 n1 nf0 nf1 hQ
            refine wpAnyH_done (by kernel_rfl) ?_ _
            clear hHeld hS hk
            have HT5 := hid (HT4.out.trans hst (fun g hg _ => hg))
            clear hst HT4 HC HSL HL
            generalize World.setCell _ _ _ = w9 at *
            go_wp2
            go_roundw
            case rel => exact ⟨k + 1, by omega, by go_num, by rw [HV.out, List.length_append, List.length_singleton]; go_num, by rw [HV.out]; exact HFIN.out, HT5⟩
            case measure => simp [intOf]; omega
        · skip
          have hbs : Below (World.heap w0).size w0 (World.alloc w0 (.cells #[.int .i64 f, .int .i64 t, .string (str s), .bool false] 64)) := (Below.refl _ _).alloc (Nat.le_refl _) _
          have HL : Hid ((World.alloc w0 (.cells #[.int .i64 f, .int .i64 t, .string (str s), .bool false] 64)).heap[(World.heap w0).size]? = some (.cells #[.int .i64 f, .int .i64 t, .string (str s), .bool false] 64 (0, 0))) := hid (heap_alloc_new _ _)
          have hk9 := hk.trans (hbs.mono hk.size)
          clear hbs
          simp only [List.getElem_toArray, List.getElem_cons_succ, List.getElem_cons_zero]
          go_simp
          refine hK.out _ _ ?_ (fun hHeld2 => ?_)
          focus
            exact hS _ (Tch.of_below hk9)
          clear hHeld
          have hHeld := hHeld2
          clear hHeld2 hK K
          try simp only [List.getElem_toArray, List.getElem_cons_succ, List.getElem_cons_zero, Act.put, List.setIfInBounds_toArray, List.set_cons_zero, List.set_cons_succ]
          replace hk := hk9
          clear hk9
          generalize (World.alloc w0 (.cells #[.int .i64 f, .int .i64 t, .string (str s), .bool false] 64)) = k22 at *
          generalize hxx : (World.heap w0).size = XL at HL ⊢
          clear hxx
          refine wpAnyH_ready (rs := [1, 5]) (by kernel_rfl) (by simp) ?_
          refine (AllReadyH.cons rfl (fun K hK => ?_) (AllReadyH.cons rfl (fun K hK => ?_) AllReadyH.nil))
          · skip
            have hbs : Below (World.heap k22).size k22 (World.alloc k22 (.cells #[] 64)) := (Below.refl _ _).alloc (Nat.le_refl _) _
            have HE := hid (own_mono (own_empty k22 64 4) (show bs ≤ _ from by rw [HBS.out]; exact hk.size))
            have HNE : Hid (XL ≠ (World.heap k22).size) := hid (Nat.ne_of_lt (lt_of_block HL.out))
            replace HL := hid (keep0 HL.out hbs)
            have hk9 := hk.trans (hbs.mono hk.size)
            clear hbs
            simp only [List.getElem_toArray, List.getElem_cons_succ, List.getElem_cons_zero]
            go_simp
            refine hK.out _ _ ?_ (fun hHeld2 => ?_)
            focus
              exact hS _ (Tch.of_below hk9)
            clear hHeld
            have hHeld := hHeld2
            clear hHeld2 hK K
            try simp only [List.getElem_toArray, List.getElem_cons_succ, List.getElem_cons_zero, Act.put, List.setIfInBounds_toArray, List.set_cons_zero, List.set_cons_succ]
            replace hk := hk9
            clear hk9
            generalize (World.alloc k22 (.cells #[] 64)) = k23 at *
            generalize hxx : (World.heap k22).size = XE at HE HNE ⊢
            clear hxx
            refine wpAnyH_ready (rs := [5]) (by kernel_rfl) (by simp) ?_
            refine (AllReadyH.cons rfl (fun K hK => ?_) AllReadyH.nil)
            obtain ⟨n0, n1, _, _⟩ := two_cells (keep0 HC.out hk)
            simp only [List.getElem_toArray, List.getElem_cons_succ, List.getElem_cons_zero]
            go_simp
            refine hK.out _ _ ?_ (fun hHeld2 => ?_)
            focus
              exact hS _ (Tch.of_below hk)
            clear hHeld
            have hHeld := hHeld2
            clear hHeld2 hK K
            try simp only [List.getElem_toArray, List.getElem_cons_succ, List.getElem_cons_zero, Act.put, List.setIfInBounds_toArray, List.set_cons_zero, List.set_cons_succ]
            clear n0 n1
            refine wpAnyH_ready (rs := [6]) (by kernel_rfl) (by simp) ?_
            refine (AllReadyH.cons rfl (fun K hK => ?_) AllReadyH.nil)
            refine step_append_slw rfl (.tmp 28) (.tmp 32) 51 rfl bs 64 Try.underlying51 info_rthing rfl (by omega) rfl HE.out rfl (HSL.out _ hk) (tcells_one _) ?c1 ?c2 (by rw [HBS.out]; exact hk.size) ?_
            case c1 => unfold maxLen; omega
            case c2 => omega
            intro vP k24 hP htP _
            have hkP := hk.trans (HBS.out ▸ htP.below bs (fun g hg _ => (own_lt HE.out g hg).1) (by rw [HBS.out]; exact hk.size))
            replace HL := hid (htP.block HL.out (fun h => HNE.out (by simpa using (Option.some.inj h).symm)))
            clear HNE
            replace HE := hid hP
            clear hP htP
            refine hK.out _ _ ?_ (fun hHeld2 => ?_)
            focus
              exact hS _ (Tch.of_below hkP)
            clear hHeld
            have hHeld := hHeld2
            clear hHeld2 hK K
            try simp only [List.getElem_toArray, List.getElem_cons_succ, List.getElem_cons_zero, Act.put, List.setIfInBounds_toArray, List.set_cons_zero, List.set_cons_succ]
            replace hk := hkP
            clear hkP
            refine wpAnyH_ready (rs := [15]) (by kernel_rfl) (by simp) ?_
            refine (AllReadyH.cons rfl (fun K hK => ?_) AllReadyH.nil)
            refine step_append_slw rfl (.tmp 33) (.tmp 41) 51 rfl bs 64 Try.underlying51 info_rthing rfl (by omega) rfl HE.out rfl (sl_blk4 HL.out) (by simp [Value.oneCell']) ?c1 ?c2 (by rw [HBS.out]; exact hk.size) ?_
            case c1 => unfold maxLen; omega
            case c2 => omega
            intro vQ k25 hQ htQ _
            have hkQ := hk.trans (HBS.out ▸ htQ.below bs (fun g hg _ => (own_lt HE.out g hg).1) (by rw [HBS.out]; exact hk.size))
            obtain ⟨LQ, hlq⟩ : ∃ n, n = (X ++ [Tg.mk f t s false]).length := ⟨_, rfl⟩
            have hQ9 : k25.ownsRow bs 64 4 vQ LQ (tcells (X ++ [Tg.mk f t s false])) := by
              rw [hlq, List.length_append, tcells_append]
              simpa [tcells, tc] using hQ
            have HLQ := hid hlq
            clear hQ hlq
            obtain ⟨A6, c6, rfl, h99⟩ := Sl.of_own hQ9
            clear h99
            have hQ := hQ9
            clear hQ9
            clear HE htQ
            refine hK.out _ _ ?_ (fun hHeld2 => ?_)
            focus
              exact hS _ (Tch.of_below hkQ)
            clear hHeld
            have hHeld := hHeld2
            clear hHeld2 hK K
            try simp only [List.getElem_toArray, List.getElem_cons_succ, List.getElem_cons_zero, Act.put, List.setIfInBounds_toArray, List.set_cons_zero, List.set_cons_succ]
            replace hk := hkQ
            clear hkQ
            refine wpAnyH_take (i := 16) (v := ?_) rfl (by kernel_rfl) (by kernel_rfl) (by kernel_rfl) (fun _ _ _ h => h) (Or.inl ⟨by rfl, ?_⟩) (by assumption) ?_
            rotate_left
            focus
              intro U hU
              try dsimp only at hU
              go_simp
              try (with_reducible rfl)
            simp only [List.getElem_toArray, List.getElem_cons_succ, List.getElem_cons_zero, Act.put, List.setIfInBounds_toArray, List.set_cons_zero, List.set_cons_succ]
            refine wpAnyH_take (i := 17) (v := ?_) rfl (by kernel_rfl) (by kernel_rfl) (by kernel_rfl) (fun _ _ _ h => h) (Or.inl ⟨by rfl, ?_⟩) (by assumption) ?_
            rotate_left
            focus
              intro U hU
              try dsimp only at hU
              go_simp
              try (with_reducible rfl)
            simp only [List.getElem_toArray, List.getElem_cons_succ, List.getElem_cons_zero, Act.put, List.setIfInBounds_toArray, List.set_cons_zero, List.set_cons_succ]
            refine wpAnyH_ready (rs := [18]) (by kernel_rfl) (by simp) ?_
            refine (AllReadyH.cons rfl (fun K hK => ?_) AllReadyH.nil)
            obtain ⟨n0, n1, nf0, nf1⟩ := two_cells (keep0 HC.out hk)
            have hst := (Tch.of_below (S := fun g => g = c) hk).set c 0 (.slice A6 LQ c6) (fun _ => rfl)
            have HFIN := hid (rnAt_set (keep0 HC.out hk) hQ (by rw [HBS.out]; exact HSB.out) HCB.out HLQ.out rfl)
            have HFIN2 := hid (rnAt_set0 (keep0 HC.out hk) hQ HLQ.out rfl)
            simp only [List.getElem_toArray, List.getElem_cons_succ, List.getElem_cons_zero]
            go_simp
            refine hK.out _ _ ?_ (fun hHeld2 => ?_)
            focus
              exact hS _ hst
            clear hHeld
            have hHeld := hHeld2
            clear hHeld2 hK K
            try simp only [List.getElem_toArray, List.getElem_cons_succ, List.getElem_cons_zero, Act.put, List.setIfInBounds_toArray, List.set_cons_zero, List.set_cons_succ]
            clear n0 n1 nf0 nf1 hQ
            refine wpAnyH_done (by kernel_rfl) ?_ _
            clear hHeld hS hk
            have HT5 := hid (HT4.out.trans hst (fun g hg _ => hg))
            clear hst HT4 HC HSL HL
            generalize World.setCell _ _ _ = w9 at *
            go_wp2
            go_roundw
            case rel => exact ⟨k + 1, by omega, by go_num, by rw [HV.out, List.length_append, List.length_singleton]; go_num, by rw [HV.out]; exact HFIN.out, HT5⟩
            case measure => simp [intOf]; omega
          · skip
            obtain ⟨n0, n1, _, _⟩ := two_cells (keep0 HC.out hk)
            simp only [List.getElem_toArray, List.getElem_cons_succ, List.getElem_cons_zero]
            go_simp
            refine hK.out _ _ ?_ (fun hHeld2 => ?_)
            focus
              exact hS _ (Tch.of_below hk)
            clear hHeld
            have hHeld := hHeld2
            clear hHeld2 hK K
            try simp only [List.getElem_toArray, List.getElem_cons_succ, List.getElem_cons_zero, Act.put, List.setIfInBounds_toArray, List.set_cons_zero, List.set_cons_succ]
            clear n0 n1
            refine wpAnyH_ready (rs := [1]) (by kernel_rfl) (by simp) ?_
            refine (AllReadyH.cons rfl (fun K hK => ?_) AllReadyH.nil)
            have hbs : Below (World.heap k22).size k22 (World.alloc k22 (.cells #[] 64)) := (Below.refl _ _).alloc (Nat.le_refl _) _
            have HE := hid (own_mono (own_empty k22 64 4) (show bs ≤ _ from by rw [HBS.out]; exact hk.size))
            have HNE : Hid (XL ≠ (World.heap k22).size) := hid (Nat.ne_of_lt (lt_of_block HL.out))
            replace HL := hid (keep0 HL.out hbs)
            have hk9 := hk.trans (hbs.mono hk.size)
            clear hbs
            simp only [List.getElem_toArray, List.getElem_cons_succ, List.getElem_cons_zero]
            go_simp
            refine hK.out _ _ ?_ (fun hHeld2 => ?_)
            focus
              exact hS _ (Tch.of_below hk9)
            clear hHeld
            have hHeld := hHeld2
            clear hHeld2 hK K
            try simp only [List.getElem_toArray, List.getElem_cons_succ, List.getElem_cons_zero, Act.put, List.setIfInBounds_toArray, List.set_cons_zero, List.set_cons_succ]
            replace hk := hk9
            clear hk9
            generalize (World.alloc k22 (.cells #[] 64)) = k26 at *
            generalize hxx : (World.heap k22).size = XE at HE HNE ⊢
            clear hxx
            refine wpAnyH_ready (rs := [6]) (by kernel_rfl) (by simp) ?_
            refine (AllReadyH.cons rfl (fun K hK => ?_) AllReadyH.nil)
            refine step_append_slw rfl (.tmp 28) (.tmp 32) 51 rfl bs 64 Try.underlying51 info_rthing rfl (by omega) rfl HE.out rfl (HSL.out _ hk) (tcells_one _) ?c1 ?c2 (by rw [HBS.out]; exact hk.size) ?_
            case c1 => unfold maxLen; omega
            case c2 => omega
            intro vP k27 hP htP _
            have hkP := hk.trans (HBS.out ▸ htP.below bs (fun g hg _ => (own_lt HE.out g hg).1) (by rw [HBS.out]; exact hk.size))
            replace HL := hid (htP.block HL.out (fun h => HNE.out (by simpa using (Option.some.inj h).symm)))
            clear HNE
            replace HE := hid hP
            clear hP htP
            refine hK.out _ _ ?_ (fun hHeld2 => ?_)
            focus
              exact hS _ (Tch.of_below hkP)
            clear hHeld
            have hHeld := hHeld2
            clear hHeld2 hK K
            try simp only [List.getElem_toArray, List.getElem_cons_succ, List.getElem_cons_zero, Act.put, List.setIfInBounds_toArray, List.set_cons_zero, List.set_cons_succ]
            replace hk := hkP
            clear hkP
            refine wpAnyH_ready (rs := [15]) (by kernel_rfl) (by simp) ?_
            refine (AllReadyH.cons rfl (fun K hK => ?_) AllReadyH.nil)
            refine step_append_slw rfl (.tmp 33) (.tmp 41) 51 rfl bs 64 Try.underlying51 info_rthing rfl (by omega) rfl HE.out rfl (sl_blk4 HL.out) (by simp [Value.oneCell']) ?c1 ?c2 (by rw [HBS.out]; exact hk.size) ?_
            case c1 => unfold maxLen; omega
            case c2 => omega
            intro vQ k28 hQ htQ _
            have hkQ := hk.trans (HBS.out ▸ htQ.below bs (fun g hg _ => (own_lt HE.out g hg).1) (by rw [HBS.out]; exact hk.size))
            obtain ⟨LQ, hlq⟩ : ∃ n, n = (X ++ [Tg.mk f t s false]).length := ⟨_, rfl⟩
            have hQ9 : k28.ownsRow bs 64 4 vQ LQ (tcells (X ++ [Tg.mk f t s false])) := by
              rw [hlq, List.length_append, tcells_append]
              simpa [tcells, tc] using hQ
            have HLQ := hid hlq
            clear hQ hlq
            obtain ⟨A6, c6, rfl, h99⟩ := Sl.of_own hQ9
            clear h99
            have hQ := hQ9
            clear hQ9
            clear HE htQ
            refine hK.out _ _ ?_ (fun hHeld2 => ?_)
            focus
              exact hS _ (Tch.of_below hkQ)
            clear hHeld
            have hHeld := hHeld2
            clear hHeld2 hK K
            try simp only [List.getElem_toArray, List.getElem_cons_succ, List.getElem_cons_zero, Act.put, List.setIfInBounds_toArray, List.set_cons_zero, List.set_cons_succ]
            replace hk := hkQ
            clear hkQ
            refine wpAnyH_take (i := 16) (v := ?_) rfl (by kernel_rfl) (by kernel_rfl) (by kernel_rfl) (fun _ _ _ h => h) (Or.inl ⟨by rfl, ?_⟩) (by assumption) ?_
            rotate_left
            focus
              intro U hU
              try dsimp only at hU
              go_simp
              try (with_reducible rfl)
            simp only [List.getElem_toArray, List.getElem_cons_succ, List.getElem_cons_zero, Act.put, List.setIfInBounds_toArray, List.set_cons_zero, List.set_cons_succ]
            refine wpAnyH_take (i := 17) (v := ?_) rfl (by kernel_rfl) (by kernel_rfl) (by kernel_rfl) (fun _ _ _ h => h) (Or.inl ⟨by rfl, ?_⟩) (by assumption) ?_
            rotate_left
            focus
              intro U hU
              try dsimp only at hU
              go_simp
              try (with_reducible rfl)
            simp only [List.getElem_toArray, List.getElem_cons_succ, List.getElem_cons_zero, Act.put, List.setIfInBounds_toArray, List.set_cons_zero, List.set_cons_succ]
            refine wpAnyH_ready (rs := [18]) (by kernel_rfl) (by simp) ?_
            refine (AllReadyH.cons rfl (fun K hK => ?_) AllReadyH.nil)
            obtain ⟨n0, n1, nf0, nf1⟩ := two_cells (keep0 HC.out hk)
            have hst := (Tch.of_below (S := fun g => g = c) hk).set c 0 (.slice A6 LQ c6) (fun _ => rfl)
            have HFIN := hid (rnAt_set (keep0 HC.out hk) hQ (by rw [HBS.out]; exact HSB.out) HCB.out HLQ.out rfl)
            have HFIN2 := hid (rnAt_set0 (keep0 HC.out hk) hQ HLQ.out rfl)
            simp only [List.getElem_toArray, List.getElem_cons_succ, List.getElem_cons_zero]
            go_simp
            refine hK.out _ _ ?_ (fun hHeld2 => ?_)
            focus
              exact hS _ hst
            clear hHeld
            have hHeld := hHeld2
            clear hHeld2 hK K
            try simp only [List.getElem_toArray, List.getElem_cons_succ, List.getElem_cons_zero, Act.put, List.setIfInBounds_toArray, List.set_cons_zero, List.set_cons_succ]
            clear n0 n1 nf0 nf1 hQ
            refine wpAnyH_done (by kernel_rfl) ?_ _
            clear hHeld hS hk
            have HT5 := hid (HT4.out.trans hst (fun g hg _ => hg))
            clear hst HT4 HC HSL HL
            generalize World.setCell _ _ _ = w9 at *
            go_wp2
            go_roundw
            case rel => exact ⟨k + 1, by omega, by go_num, by rw [HV.out, List.length_append, List.length_singleton]; go_num, by rw [HV.out]; exact HFIN.out, HT5⟩
            case measure => simp [intOf]; omega
      · have HV : Hid (sendL m f t l (ss.take (k + 1)) = X) := hid (by rw [HSN.out, if_neg hm])
        go_upto_region 5 with (fail)
        go_quiet (fail)
        go_wp2
        go_roundw
        case rel => exact ⟨k + 1, by omega, by go_num, by rw [HV.out], by rw [HV.out]; exact HN2.out.below (below_drewN1 wr _), hid (HT2.out.grow (below_drewN1 wr _))⟩
        case measure => simp [intOf]; omega
    · obtain rfl : k = ss.length := by omega
      have hge : ¬ ((ss.length : Nat) : Int) < ((ss.length : Nat) : Int) := by omega
      have HT := hid (List.take_length (l := ss))
      rw [Hid, HT.out] at HN2
      clear hlt hk
      go_wp2
      go_ret
      exact ⟨by simp, HN2, HT2.out⟩
end Go.Proofs.Ytdphdodjidbngaa
