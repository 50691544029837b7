/- The document's Check of jobs: contract. -/
import Derived.Test.YtgakobolhmdnnaaGreatDoorQJbD
namespace Go.Proofs.YtgakobolhmdnnaaGreatDoor
open Go.RowKit Go.Sort
set_option linter.unusedVariables false
set_option linter.unusedSimpArgs false

def put3J (w : World) (b : Nat) (x y z : Value) : World := ((w.setCell ⟨b, 0, none⟩ x).setCell ⟨b, 1, none⟩ y).setCell ⟨b, 2, none⟩ z
theorem put3J_heap {w : World} {b t : Nat} {x0 x1 x2 : Value} (h : w.heap[b]? = some (.cells #[x0, x1, x2] t (0, 0))) (x y z : Value) : (put3J w b x y z).heap[b]? = some (.cells #[x, y, z] t (0, 0)) := by
  have h1 := heap_setCell_same w b 0 _ t x h
  have h2 := heap_setCell_same _ b 1 _ t y h1
  exact heap_setCell_same _ b 2 _ t z h2
theorem put3J_below {n : Nat} {W w : World} {b : Nat} (h : Below n W w) (hb : n ≤ b) (x y z : Value) : Below n W (put3J w b x y z) := ((h.setCell (p := ⟨b, 0, none⟩) hb x).setCell (p := ⟨b, 1, none⟩) hb y).setCell (p := ⟨b, 2, none⟩) hb z

set_option maxRecDepth 20000 in
set_option maxHeartbeats 4000000 in
theorem rjcheck_any (x : Cf) (N : Option Addr) (nc : Nat) (K : Option Addr) (kc : Nat) (id : Int) (A : Option Addr) (c : Nat) (xs : List (List UInt8)) (W : World) (hC : CfAt W x N nc K kc) (hX : TxJ W A c xs) (hs : ∀ s ∈ xs, s.length ≤ 1000) (hw : x.ws.length ≤ 1000) :
    Calls Tryz.prog 42 #[.agg (cfc x N nc K kc), .agg #[.int .i64 id, .slice A xs.length c]] W fun e w' => e = .returned (.agg #[.int .i64 (chkJ id x.T x.ws xs).1, .int .i64 ((chkJ id x.T x.ws xs).2.1 : Nat), .int .i64 (chkJ id x.T x.ws xs).2.2]) ∧ Below W.heap.size W w' := by
  have HSE := hid (fun u (hu : Below W.heap.size W u) (l : List UInt8) (hl : l.length ≤ 1000) => rjset_any x N nc K kc l u (hC.below hu) hl hw)
  obtain ⟨sc, le, ag, ro, ou, T, ws⟩ := x
  simp only [cfc] at HSE ⊢
  have HX := hid hX
  have HS := hid hs
  have hn63 := len63J hX
  have HND := hid (fun u (hu : Below W.heap.size W u) (l : List UInt8) (hl : l.length ≤ 1000) => rneed_any N nc T l u ((hC.below hu).1.1) hl)
  clear hC hX hs hw
  obtain ⟨R, hR⟩ : ∃ R, chkJ id T ws xs = R := ⟨_, rfl⟩
  show Calls _ _ _ _ fun e w' => e = .returned (.agg #[.int .i64 (chkJ id T ws xs).1, .int .i64 ((chkJ id T ws xs).2.1 : Nat), .int .i64 (chkJ id T ws xs).2.2]) ∧ Below W.heap.size W w'
  rw [hR]
  have HR := hid hR
  clear hR
  generalize hn : xs.length = n at *
  have HN := hid hn
  clear hn
  go_enter Tryz.func42, Tryz.ntmps42
  go_upto_region 1 with (fail)
  refine at_world (fun u => u.heap[W.heap.size]? = some (.cells #[.int .i64 sc, .int .i64 le, .int .i64 ag, .int .i64 ro, .int .i64 ou, .slice N T.length nc, .slice K ws.length kc] 25 (0, 0)) ∧ u.heap[W.heap.size + 1]? = some (.cells #[.int .i64 id, .slice A n c] 54 (0, 0)) ∧ u.heap[W.heap.size + 1 + 1]? = some (.cells #[.int .i64 0, .int .i64 0, .int .i64 0] 73 (0, 0)) ∧ Below W.heap.size W u) ⟨(Below.heap_alloc _ _ _ (by simp; omega)).trans ((Below.heap_alloc _ _ _ (by simp)).trans (heap_alloc_new _ _)), (Below.heap_alloc _ _ _ (by simp)).trans (by have := heap_alloc_new (W.alloc (.cells #[.int .i64 sc, .int .i64 le, .int .i64 ag, .int .i64 ro, .int .i64 ou, .slice N T.length nc, .slice K ws.length kc] 25)) (.cells #[.int .i64 id, .slice A n c] 54); simpa using this), by have := heap_alloc_new ((W.alloc (.cells #[.int .i64 sc, .int .i64 le, .int .i64 ag, .int .i64 ro, .int .i64 ou, .slice N T.length nc, .slice K ws.length kc] 25)).alloc (.cells #[.int .i64 id, .slice A n c] 54)) (.cells #[.int .i64 0, .int .i64 0, .int .i64 0] 73); simpa using this, bel_alloc (bel_alloc (bel_alloc (Below.refl _ _) _) _) _⟩ ?_
  rintro w1 ⟨hq, hj, hr, hb⟩
  have HQ := hid hq
  have HJ := hid hj
  have HRB := hid hr
  have HB := hid hb
  obtain ⟨j0, j1⟩ := two_cellsR hj
  have HRL := hid (show W.heap.size ≤ W.heap.size + 1 + 1 by omega)
  clear hq hb hj hr
  generalize W.heap.size + 1 + 1 = Rb at *
  generalize W.heap.size + 1 = J at *
  generalize hQ : W.heap.size = Q at HQ
  clear hQ
  by_cases hidd : 1 ≤ id ∧ id ≤ 72057594037927935
  · have i1 : ¬ id < 1 := by omega
    have i2 : ¬ (72057594037927935 : Int) < id := by omega
    by_cases h0 : n = 0
    · have hRe := HR.out
      rw [chkJ_empty hidd (HN.out.trans h0)] at hRe
      subst hRe
      subst h0
      clear hidd HR HN
      have hp := put3J_heap HRB.out (.int .i64 (-1)) (.int .i64 0) (.int .i64 10)
      obtain ⟨⟨z0, z1, z2⟩, -⟩ := three_cells hp
      have HF := hid (put3J_below HB.out HRL.out (.int .i64 (-1)) (.int .i64 0) (.int .i64 10))
      obtain ⟨⟨x0, x1, x2⟩, y0, y1, y2⟩ := three_cells HRB.out
      unfold put3J at z0 z1 z2 HF
      clear hp
      go_wp2
      refine bodyPost_ret (v := .agg #[.int .i64 (-1), .int .i64 0, .int .i64 10]) (by simp [results, Tryz.results42, go_sem, z0, z1, z2]) rfl ⟨rfl, HF.out⟩
    · by_cases h16 : 16 < n
      · have hRe := HR.out
        rw [chkJ_long hidd (by rw [HN.out]; exact h0) (by rw [HN.out]; exact h16)] at hRe
        subst hRe
        clear hidd HR
        have z8 : ((n : Int) == 0) = false := by simpa using h0
        have z9 : (16 : Int) < (n : Int) := by omega
        have hp := put3J_heap HRB.out (.int .i64 (-1)) (.int .i64 0) (.int .i64 4)
        obtain ⟨⟨z0, z1, z2⟩, -⟩ := three_cells hp
        have HF := hid (put3J_below HB.out HRL.out (.int .i64 (-1)) (.int .i64 0) (.int .i64 4))
        obtain ⟨⟨x0, x1, x2⟩, y0, y1, y2⟩ := three_cells HRB.out
        unfold put3J at z0 z1 z2 HF
        clear hp
        go_wp2
        refine bodyPost_ret (v := .agg #[.int .i64 (-1), .int .i64 0, .int .i64 4]) (by simp [results, Tryz.results42, go_sem, z0, z1, z2]) rfl ⟨rfl, HF.out⟩
      · have hRe := HR.out
        rw [chkJ_in hidd (by rw [HN.out]; exact h0) (by rw [HN.out]; exact h16)] at hRe
        have HR := hid hRe
        clear hidd hRe
        have z8 : ((n : Int) == 0) = false := by simpa using h0
        have z9 : ¬ (16 : Int) < (n : Int) := by omega
        have hn16 : n ≤ 16 := by omega
        go_wp2
        clear j0 j1 z8 z9 i1 i2
        go_loopw [5] (fun i wr => ∃ k : Nat, k ≤ n ∧ i = .int .i64 (k : Int) ∧ Hid (chkF T ws k (xs.drop k) = R) ∧ Hid (Below W.heap.size W wr) ∧ Hid (wr.heap[Q]? = some (.cells #[.int .i64 sc, .int .i64 le, .int .i64 ag, .int .i64 ro, .int .i64 ou, .slice N T.length nc, .slice K ws.length kc] 25 (0, 0))) ∧ Hid (wr.heap[J]? = some (.cells #[.int .i64 id, .slice A n c] 54 (0, 0))) ∧ Hid (wr.heap[Rb]? = some (.cells #[.int .i64 0, .int .i64 0, .int .i64 0] 73 (0, 0)))) (fun i _ => n - (intOf i).toNat)
        case atStart => exact ⟨0, by omega, rfl, HR, HB, HQ, HJ, HRB⟩
        case round =>
          clear HB HQ HR HJ HRB
          obtain ⟨k, hk, rfl, HR, HB, HQ, HJ, HRB⟩ := hrel
          obtain ⟨j0, j1⟩ := two_cellsR HJ.out
          by_cases hlt : k < n
          · have hlt2 : (k : Int) < (n : Int) := by omega
            have i0 : ¬ (k : Int) < 0 := by omega
            have hkx : k < xs.length := by rw [HN.out]; exact hlt
            obtain ⟨b, off, ha, ct⟩ := text_at (HX.out.below HB.out) k hkx
            subst ha
            have hRk := HR.out
            rw [chkF_drop hkx] at hRk
            have HNN := hid (fun u hu => HND.out u hu xs[k] (HS.out _ (List.getElem_mem hkx)))
            unfold NdAns at HNN
            have HSJ := hid (fun u hu => HSE.out u hu xs[k] (HS.out _ (List.getElem_mem hkx)))
            have HNL := hid (ndT_len T xs[k])
            generalize xs[k] = l at *
            generalize str l = st at *
            generalize setJ T ws l = sj at *
            generalize ndT T l = F at *
            obtain ⟨nd, k0, e0⟩ := F
            simp only at HNN HNL hRk
            have HRK := hid hRk
            clear hRk hkx HR
            have hSV : ∀ U, Below wr.heap.size wr U → (U.cell? ⟨Q, 5, none⟩ = some (.slice N T.length nc) ∧ U.cell? ⟨J, 1, none⟩ = some (.slice (some ⟨b, off, none⟩) n c) ∧ U.cell? ⟨b, off + k, none⟩ = some (.string st)) := fun U hU => ⟨(seven_cellsJ (keep0 HQ.out hU)).2.2.2.2.2.1, (two_cellsR (keep0 HJ.out hU)).2, cellb hU ct⟩
            have hSW : ∀ U, Below wr.heap.size wr U → ((U.cell? ⟨Q, 0, none⟩ = some (.int .i64 sc) ∧ U.cell? ⟨Q, 1, none⟩ = some (.int .i64 le) ∧ U.cell? ⟨Q, 2, none⟩ = some (.int .i64 ag) ∧ U.cell? ⟨Q, 3, none⟩ = some (.int .i64 ro) ∧ U.cell? ⟨Q, 4, none⟩ = some (.int .i64 ou) ∧ U.cell? ⟨Q, 5, none⟩ = some (.slice N T.length nc) ∧ U.cell? ⟨Q, 6, none⟩ = some (.slice K ws.length kc)) ∧ U.cell? ⟨J, 1, none⟩ = some (.slice (some ⟨b, off, none⟩) n c) ∧ U.cell? ⟨b, off + k, none⟩ = some (.string st)) := fun U hU => ⟨seven_cellsJ (keep0 HQ.out hU), (two_cellsR (keep0 HJ.out hU)).2, cellb hU ct⟩
            go_upto_region 10 with (fail)
            have hk0 : Below wr.heap.size wr wr.drew := below_drew (Below.refl _ _)
            refine wp_region_held_drew (S := fun U => U.cell? ⟨Q, 5, none⟩ = some (.slice N T.length nc) ∧ U.cell? ⟨J, 1, none⟩ = some (.slice (some ⟨b, off, none⟩) n c) ∧ U.cell? ⟨b, off + k, none⟩ = some (.string st)) (by kernel_rfl) (hSV _ hk0) (fun hHeld => ?_)
            generalize wr.drew = m0 at *
            refine wpAnyH_take (i := 0) (v := ?_) rfl (by kernel_rfl) (by kernel_rfl) (by kernel_rfl) (fun _ _ _ h => h) (Or.inl ⟨by rfl, ?_⟩) (by assumption) ?_
            rotate_left
            focus
              intro U hU
              try dsimp only at hU
              go_simp
              try (with_reducible rfl)
            simp only [List.getElem_toArray, List.getElem_cons_succ, List.getElem_cons_zero, Act.put, List.setIfInBounds_toArray, List.set_cons_zero, List.set_cons_succ]
            refine wpAnyH_take (i := 1) (v := ?_) rfl (by kernel_rfl) (by kernel_rfl) (by kernel_rfl) (fun _ _ _ h => h) (Or.inl ⟨by rfl, ?_⟩) (by assumption) ?_
            rotate_left
            focus
              intro U hU
              try dsimp only at hU
              go_simp
              try (with_reducible rfl)
            simp only [List.getElem_toArray, List.getElem_cons_succ, List.getElem_cons_zero, Act.put, List.setIfInBounds_toArray, List.set_cons_zero, List.set_cons_succ]
            refine wpAnyH_take (i := 2) (v := ?_) rfl (by kernel_rfl) (by kernel_rfl) (by kernel_rfl) (fun _ _ _ h => h) (Or.inl ⟨by rfl, ?_⟩) (by assumption) ?_
            rotate_left
            focus
              intro U hU
              try dsimp only at hU
              go_simp
              try (with_reducible rfl)
            simp only [List.getElem_toArray, List.getElem_cons_succ, List.getElem_cons_zero, Act.put, List.setIfInBounds_toArray, List.set_cons_zero, List.set_cons_succ]
            refine wpAnyH_take (i := 3) (v := ?_) rfl (by kernel_rfl) (by kernel_rfl) (by kernel_rfl) (fun _ _ _ h => h) (Or.inl ⟨by rfl, ?_⟩) (by assumption) ?_
            rotate_left
            focus
              intro U hU
              try dsimp only at hU
              go_simp
              try (with_reducible rfl)
            simp only [List.getElem_toArray, List.getElem_cons_succ, List.getElem_cons_zero, Act.put, List.setIfInBounds_toArray, List.set_cons_zero, List.set_cons_succ]
            refine wpAnyH_take (i := 4) (v := ?_) rfl (by kernel_rfl) (by kernel_rfl) (by kernel_rfl) (fun _ _ _ h => h) (Or.inl ⟨by rfl, ?_⟩) (by assumption) ?_
            rotate_left
            focus
              intro U hU
              try dsimp only at hU
              go_simp
              try (with_reducible rfl)
            simp only [List.getElem_toArray, List.getElem_cons_succ, List.getElem_cons_zero, Act.put, List.setIfInBounds_toArray, List.set_cons_zero, List.set_cons_succ]
            refine wpAnyH_take (i := 5) (v := ?_) rfl (by kernel_rfl) (by kernel_rfl) (by kernel_rfl) (fun _ _ _ h => h) (Or.inl ⟨by rfl, ?_⟩) (by assumption) ?_
            rotate_left
            focus
              intro U hU
              try dsimp only at hU
              go_simp
              try (with_reducible rfl)
            simp only [List.getElem_toArray, List.getElem_cons_succ, List.getElem_cons_zero, Act.put, List.setIfInBounds_toArray, List.set_cons_zero, List.set_cons_succ]
            refine wpAnyH_take (i := 6) (v := ?_) rfl (by kernel_rfl) (by kernel_rfl) (by kernel_rfl) (fun _ _ _ h => h) (Or.inl ⟨by rfl, ?_⟩) (by assumption) ?_
            rotate_left
            focus
              intro U hU
              try dsimp only at hU
              go_simp
              try (with_reducible rfl)
            simp only [List.getElem_toArray, List.getElem_cons_succ, List.getElem_cons_zero, Act.put, List.setIfInBounds_toArray, List.set_cons_zero, List.set_cons_succ]
            refine wpAnyH_ready (rs := [7]) (by kernel_rfl) (by simp) ?_
            refine AllReadyH.cons rfl (fun K hK => ?_) AllReadyH.nil
            simp only [List.getElem_toArray, List.getElem_cons_succ, List.getElem_cons_zero]
            go_simp
            refine (HNN.out m0 (HB.out.trans (hk0.mono HB.out.size))).mono ?_
            rintro q m1 ⟨A2, c2, rfl, -, hb1⟩
            have hk1 := hk0.trans (hb1.mono hk0.size)
            clear hb1
            go_wp2_with fail
            refine hK.out _ _ ?_ (fun hHeld2 => ?_)
            focus
              exact hSV _ hk1
            clear hHeld
            have hHeld := hHeld2
            clear hHeld2 hK K
            try simp only [List.getElem_toArray, List.getElem_cons_succ, List.getElem_cons_zero, Act.put, List.setIfInBounds_toArray, List.set_cons_zero, List.set_cons_succ]
            refine wpAnyH_take (i := 8) (v := ?_) rfl (by kernel_rfl) (by kernel_rfl) (by kernel_rfl) (fun _ _ _ h => h) (Or.inl ⟨by rfl, ?_⟩) (by assumption) ?_
            rotate_left
            focus
              intro U hU
              try dsimp only at hU
              go_simp
              try (with_reducible rfl)
            simp only [List.getElem_toArray, List.getElem_cons_succ, List.getElem_cons_zero, Act.put, List.setIfInBounds_toArray, List.set_cons_zero, List.set_cons_succ]
            refine wpAnyH_take (i := 9) (v := ?_) rfl (by kernel_rfl) (by kernel_rfl) (by kernel_rfl) (fun _ _ _ h => h) (Or.inl ⟨by rfl, ?_⟩) (by assumption) ?_
            rotate_left
            focus
              intro U hU
              try dsimp only at hU
              go_simp
              try (with_reducible rfl)
            simp only [List.getElem_toArray, List.getElem_cons_succ, List.getElem_cons_zero, Act.put, List.setIfInBounds_toArray, List.set_cons_zero, List.set_cons_succ]
            refine wpAnyH_take (i := 10) (v := ?_) rfl (by kernel_rfl) (by kernel_rfl) (by kernel_rfl) (fun _ _ _ h => h) (Or.inl ⟨by rfl, ?_⟩) (by assumption) ?_
            rotate_left
            focus
              intro U hU
              try dsimp only at hU
              go_simp
              try (with_reducible rfl)
            simp only [List.getElem_toArray, List.getElem_cons_succ, List.getElem_cons_zero, Act.put, List.setIfInBounds_toArray, List.set_cons_zero, List.set_cons_succ]
            refine wpAnyH_take (i := 11) (v := ?_) rfl (by kernel_rfl) (by kernel_rfl) (by kernel_rfl) (fun _ _ _ h => h) (Or.inl ⟨by rfl, ?_⟩) (by assumption) ?_
            rotate_left
            focus
              intro U hU
              try dsimp only at hU
              go_simp
              try (with_reducible rfl)
            simp only [List.getElem_toArray, List.getElem_cons_succ, List.getElem_cons_zero, Act.put, List.setIfInBounds_toArray, List.set_cons_zero, List.set_cons_succ]
            refine wpAnyH_take (i := 12) (v := ?_) rfl (by kernel_rfl) (by kernel_rfl) (by kernel_rfl) (fun _ _ _ h => h) (Or.inl ⟨by rfl, ?_⟩) (by assumption) ?_
            rotate_left
            focus
              intro U hU
              try dsimp only at hU
              go_simp
              try (with_reducible rfl)
            simp only [List.getElem_toArray, List.getElem_cons_succ, List.getElem_cons_zero, Act.put, List.setIfInBounds_toArray, List.set_cons_zero, List.set_cons_succ]
            refine wpAnyH_take (i := 13) (v := ?_) rfl (by kernel_rfl) (by kernel_rfl) (by kernel_rfl) (fun _ _ _ h => h) (Or.inl ⟨by rfl, ?_⟩) (by assumption) ?_
            rotate_left
            focus
              intro U hU
              try dsimp only at hU
              go_simp
              try (with_reducible rfl)
            simp only [List.getElem_toArray, List.getElem_cons_succ, List.getElem_cons_zero, Act.put, List.setIfInBounds_toArray, List.set_cons_zero, List.set_cons_succ]
            refine wpAnyH_take (i := 14) (v := ?_) rfl (by kernel_rfl) (by kernel_rfl) (by kernel_rfl) (fun _ _ _ h => h) (Or.inl ⟨by rfl, ?_⟩) (by assumption) ?_
            rotate_left
            focus
              intro U hU
              try dsimp only at hU
              go_simp
              try (with_reducible rfl)
            simp only [List.getElem_toArray, List.getElem_cons_succ, List.getElem_cons_zero, Act.put, List.setIfInBounds_toArray, List.set_cons_zero, List.set_cons_succ]
            refine wpAnyH_done (by kernel_rfl) ?_ _
            have HB3 := hid (HB.out.trans (hk1.mono HB.out.size))
            have HQ3 := hid (keep0 HQ.out hk1)
            have HJ3 := hid (keep0 HJ.out hk1)
            have HRB3 := hid (keep0 HRB.out hk1)
            clear hHeld hSV hk0 HNN HB HQ HJ HRB j0 j1
            by_cases he : e0 = 0
            · have hRk := HRK.out
              rw [if_pos he] at hRk
              subst he
              have hSX : ∀ U, Below m1.heap.size m1 U → ((U.cell? ⟨Q, 0, none⟩ = some (.int .i64 sc) ∧ U.cell? ⟨Q, 1, none⟩ = some (.int .i64 le) ∧ U.cell? ⟨Q, 2, none⟩ = some (.int .i64 ag) ∧ U.cell? ⟨Q, 3, none⟩ = some (.int .i64 ro) ∧ U.cell? ⟨Q, 4, none⟩ = some (.int .i64 ou) ∧ U.cell? ⟨Q, 5, none⟩ = some (.slice N T.length nc) ∧ U.cell? ⟨Q, 6, none⟩ = some (.slice K ws.length kc)) ∧ U.cell? ⟨J, 1, none⟩ = some (.slice (some ⟨b, off, none⟩) n c) ∧ U.cell? ⟨b, off + k, none⟩ = some (.string st)) := fun U hU => hSW U (hk1.trans (hU.mono hk1.size))
              go_upto_region 13 with (fail)
              have hh0 : Below m1.heap.size m1 m1.drew := below_drew (Below.refl _ _)
              refine wp_region_held_drew (S := fun U => (U.cell? ⟨Q, 0, none⟩ = some (.int .i64 sc) ∧ U.cell? ⟨Q, 1, none⟩ = some (.int .i64 le) ∧ U.cell? ⟨Q, 2, none⟩ = some (.int .i64 ag) ∧ U.cell? ⟨Q, 3, none⟩ = some (.int .i64 ro) ∧ U.cell? ⟨Q, 4, none⟩ = some (.int .i64 ou) ∧ U.cell? ⟨Q, 5, none⟩ = some (.slice N T.length nc) ∧ U.cell? ⟨Q, 6, none⟩ = some (.slice K ws.length kc)) ∧ U.cell? ⟨J, 1, none⟩ = some (.slice (some ⟨b, off, none⟩) n c) ∧ U.cell? ⟨b, off + k, none⟩ = some (.string st)) (by kernel_rfl) (hSX _ hh0) (fun hHeld => ?_)
              generalize m1.drew = p0 at *
              refine wpAnyH_take (i := 0) (v := ?_) rfl (by kernel_rfl) (by kernel_rfl) (by kernel_rfl) (fun _ _ _ h => h) (Or.inl ⟨by rfl, ?_⟩) (by assumption) ?_
              rotate_left
              focus
                intro U hU
                try dsimp only at hU
                go_simp
                try (with_reducible rfl)
              simp only [List.getElem_toArray, List.getElem_cons_succ, List.getElem_cons_zero, Act.put, List.setIfInBounds_toArray, List.set_cons_zero, List.set_cons_succ]
              refine wpAnyH_take (i := 1) (v := ?_) rfl (by kernel_rfl) (by kernel_rfl) (by kernel_rfl) (fun _ _ _ h => h) (Or.inl ⟨by rfl, ?_⟩) (by assumption) ?_
              rotate_left
              focus
                intro U hU
                try dsimp only at hU
                go_simp
                try (with_reducible rfl)
              simp only [List.getElem_toArray, List.getElem_cons_succ, List.getElem_cons_zero, Act.put, List.setIfInBounds_toArray, List.set_cons_zero, List.set_cons_succ]
              refine wpAnyH_take (i := 2) (v := ?_) rfl (by kernel_rfl) (by kernel_rfl) (by kernel_rfl) (fun _ _ _ h => h) (Or.inl ⟨by rfl, ?_⟩) (by assumption) ?_
              rotate_left
              focus
                intro U hU
                try dsimp only at hU
                go_simp
                try (with_reducible rfl)
              simp only [List.getElem_toArray, List.getElem_cons_succ, List.getElem_cons_zero, Act.put, List.setIfInBounds_toArray, List.set_cons_zero, List.set_cons_succ]
              refine wpAnyH_take (i := 3) (v := ?_) rfl (by kernel_rfl) (by kernel_rfl) (by kernel_rfl) (fun _ _ _ h => h) (Or.inl ⟨by rfl, ?_⟩) (by assumption) ?_
              rotate_left
              focus
                intro U hU
                try dsimp only at hU
                go_simp
                try (with_reducible rfl)
              simp only [List.getElem_toArray, List.getElem_cons_succ, List.getElem_cons_zero, Act.put, List.setIfInBounds_toArray, List.set_cons_zero, List.set_cons_succ]
              refine wpAnyH_take (i := 4) (v := ?_) rfl (by kernel_rfl) (by kernel_rfl) (by kernel_rfl) (fun _ _ _ h => h) (Or.inl ⟨by rfl, ?_⟩) (by assumption) ?_
              rotate_left
              focus
                intro U hU
                try dsimp only at hU
                go_simp
                try (with_reducible rfl)
              simp only [List.getElem_toArray, List.getElem_cons_succ, List.getElem_cons_zero, Act.put, List.setIfInBounds_toArray, List.set_cons_zero, List.set_cons_succ]
              refine wpAnyH_take (i := 5) (v := ?_) rfl (by kernel_rfl) (by kernel_rfl) (by kernel_rfl) (fun _ _ _ h => h) (Or.inl ⟨by rfl, ?_⟩) (by assumption) ?_
              rotate_left
              focus
                intro U hU
                try dsimp only at hU
                go_simp
                try (with_reducible rfl)
              simp only [List.getElem_toArray, List.getElem_cons_succ, List.getElem_cons_zero, Act.put, List.setIfInBounds_toArray, List.set_cons_zero, List.set_cons_succ]
              refine wpAnyH_ready (rs := [6]) (by kernel_rfl) (by simp) ?_
              refine AllReadyH.cons rfl (fun K hK => ?_) AllReadyH.nil
              simp only [List.getElem_toArray, List.getElem_cons_succ, List.getElem_cons_zero]
              go_simp
              refine (HSJ.out p0 (HB3.out.trans (hh0.mono HB3.out.size))).mono ?_
              rintro q p1 ⟨rfl, hb1⟩
              have hh1 := hh0.trans (hb1.mono hh0.size)
              clear hb1
              go_wp2_with fail
              refine hK.out _ _ ?_ (fun hHeld2 => ?_)
              focus
                exact hSX _ hh1
              clear hHeld
              have hHeld := hHeld2
              clear hHeld2 hK K
              try simp only [List.getElem_toArray, List.getElem_cons_succ, List.getElem_cons_zero, Act.put, List.setIfInBounds_toArray, List.set_cons_zero, List.set_cons_succ]
              refine wpAnyH_take (i := 7) (v := ?_) rfl (by kernel_rfl) (by kernel_rfl) (by kernel_rfl) (fun _ _ _ h => h) (Or.inl ⟨by rfl, ?_⟩) (by assumption) ?_
              rotate_left
              focus
                intro U hU
                try dsimp only at hU
                go_simp
                try (with_reducible rfl)
              simp only [List.getElem_toArray, List.getElem_cons_succ, List.getElem_cons_zero, Act.put, List.setIfInBounds_toArray, List.set_cons_zero, List.set_cons_succ]
              refine wpAnyH_done (by kernel_rfl) ?_ _
              have HB4 := hid (HB3.out.trans (hh1.mono HB3.out.size))
              have HQ4 := hid (keep0 HQ3.out hh1)
              have HJ4 := hid (keep0 HJ3.out hh1)
              have HRB4 := hid (keep0 HRB3.out hh1)
              clear hHeld hSX hSW hh0 hh1 HSJ HB3 HQ3 HJ3 HRB3 hk1
              by_cases hz : sj = 0
              · rw [if_pos hz] at hRk
                subst hRk
                subst hz
                have hp := put3J_heap HRB4.out (.int .i64 (k : Int)) (.int .i64 0) (.int .i64 11)
                obtain ⟨⟨z0, z1, z2⟩, -⟩ := three_cells hp
                have HF := hid (put3J_below HB4.out HRL.out (.int .i64 (k : Int)) (.int .i64 0) (.int .i64 11))
                obtain ⟨⟨x0, x1, x2⟩, y0, y1, y2⟩ := three_cells HRB4.out
                unfold put3J at z0 z1 z2 HF
                clear hp
                go_wp2
                refine bodyPost_ret (v := .agg #[.int .i64 (k : Int), .int .i64 0, .int .i64 11]) (by simp [results, Tryz.results42, go_sem, z0, z1, z2]) rfl ⟨rfl, HF.out⟩
              · rw [if_neg hz] at hRk
                have HR := hid hRk
                have hz2 : ((sj : Int) == 0) = false := by simpa using hz
                clear hRk
                go_wp2
                go_roundw
                case rel => exact ⟨k + 1, by omega, by go_num, HR, HB4, HQ4, HJ4, HRB4⟩
                case measure => simp [intOf]; omega
            · have he2 : (e0 != 0) = true := bne_iff_ne.mpr he
              have hRk := HRK.out
              rw [if_neg he] at hRk
              subst hRk
              clear HRK
              have hp := put3J_heap HRB3.out (.int .i64 (k : Int)) (.int .i64 (k0 : Nat)) (.int .i64 e0)
              obtain ⟨⟨z0, z1, z2⟩, -⟩ := three_cells hp
              have HF := hid (put3J_below HB3.out HRL.out (.int .i64 (k : Int)) (.int .i64 (k0 : Nat)) (.int .i64 e0))
              obtain ⟨⟨x0, x1, x2⟩, y0, y1, y2⟩ := three_cells HRB3.out
              unfold put3J at z0 z1 z2 HF
              clear hp
              go_wp2
              refine bodyPost_ret (v := .agg #[.int .i64 (k : Int), .int .i64 (k0 : Nat), .int .i64 e0]) (by simp [results, Tryz.results42, go_sem, z0, z1, z2]) rfl ⟨rfl, HF.out⟩
          · have hge : ¬ (k : Int) < (n : Int) := by omega
            have hRk := HR.out
            rw [chkF_end (by rw [HN.out]; omega)] at hRk
            subst hRk
            have hp := put3J_heap HRB.out (.int .i64 (-1)) (.int .i64 0) (.int .i64 0)
            obtain ⟨⟨z0, z1, z2⟩, -⟩ := three_cells hp
            have HF := hid (put3J_below HB.out HRL.out (.int .i64 (-1)) (.int .i64 0) (.int .i64 0))
            obtain ⟨⟨x0, x1, x2⟩, y0, y1, y2⟩ := three_cells HRB.out
            unfold put3J at z0 z1 z2 HF
            clear hp
            go_wp2
            refine bodyPost_ret (v := .agg #[.int .i64 (-1), .int .i64 0, .int .i64 0]) (by simp [results, Tryz.results42, go_sem, z0, z1, z2]) rfl ⟨rfl, HF.out⟩
  · have hRe := HR.out
    rw [chkJ_no hidd] at hRe
    subst hRe
    clear HR
    by_cases i1 : id < 1
    · clear hidd
      have hp := put3J_heap HRB.out (.int .i64 (-1)) (.int .i64 0) (.int .i64 1)
      obtain ⟨⟨z0, z1, z2⟩, -⟩ := three_cells hp
      have HF := hid (put3J_below HB.out HRL.out (.int .i64 (-1)) (.int .i64 0) (.int .i64 1))
      obtain ⟨⟨x0, x1, x2⟩, y0, y1, y2⟩ := three_cells HRB.out
      unfold put3J at z0 z1 z2 HF
      clear hp
      go_wp2
      refine bodyPost_ret (v := .agg #[.int .i64 (-1), .int .i64 0, .int .i64 1]) (by simp [results, Tryz.results42, go_sem, z0, z1, z2]) rfl ⟨rfl, HF.out⟩
    · have i2 : (72057594037927935 : Int) < id := by omega
      clear hidd
      have hp := put3J_heap HRB.out (.int .i64 (-1)) (.int .i64 0) (.int .i64 1)
      obtain ⟨⟨z0, z1, z2⟩, -⟩ := three_cells hp
      have HF := hid (put3J_below HB.out HRL.out (.int .i64 (-1)) (.int .i64 0) (.int .i64 1))
      obtain ⟨⟨x0, x1, x2⟩, y0, y1, y2⟩ := three_cells HRB.out
      unfold put3J at z0 z1 z2 HF
      clear hp
      go_wp2
      refine bodyPost_ret (v := .agg #[.int .i64 (-1), .int .i64 0, .int .i64 1]) (by simp [results, Tryz.results42, go_sem, z0, z1, z2]) rfl ⟨rfl, HF.out⟩
end Go.Proofs.YtgakobolhmdnnaaGreatDoor
