/- HandPicks: the document's All, Outs; the law. -/
import Derived.Test.YtgakobolhmdnnaaQHdD
import Derived.Test.YtgakobolhmdnnaaQHdE
import Derived.Test.YtgakobolhmdnnaaQHdF
import Derived.Test.YtgakobolhmdnnaaQSame06
import Derived.Deep.RegionHeld3
import Derived.BigQuiet
namespace Go.Proofs.Ytgakobolhmdnnaa
open Go.RowKit Go.Sort
set_option linter.unusedVariables false
set_option linter.unusedSimpArgs false

theorem ocl_one (x : Ou) : ∀ u ∈ ocl x, u.oneCell' = true := by
  intro u hu
  simp only [ocl, List.mem_cons, List.not_mem_nil, or_false] at hu
  rcases hu with rfl | rfl | rfl | rfl | rfl <;> rfl
theorem fk_map {α : Type} {p : Nat → Bool} {f : Int → α} {k : Nat} (h : p k = true) : (fk p (k + 1)).map f = (fk p k).map f ++ [f (k : Int)] := by rw [fk_yes h, List.map_append]; rfl
set_option maxRecDepth 20000 in
set_option maxHeartbeats 4000000 in
theorem rall_any (e : Ee) (H : Option Addr) (hc : Nat) (h : List Bool) (W : World) (hE : InE W e) (hh : HadAt W H hc h) (hbd : BdOk e.1) (hl : e.1.ns.length ≤ 100000 ∧ e.1.bd.length ≤ 100000 ∧ e.1.dn.length ≤ 100000) :
    Calls Try.prog 46 #[.agg (ecE e), .slice H h.length hc] W fun x w' => ∃ A' c', x = .returned (.slice A' (allL e.1 h).length c') ∧ Sl w' 5 A' (allL e.1 h).length c' (gcells ocl (allL e.1 h)) ∧ RowKit.Below W.heap.size W w' := by
  have HTK := hid (fun u => r20tasks_any e u (by omega) (by omega) (by omega))
  have HLF := hid (fun u (hu : RowKit.Below W.heap.size W u) i (h1 : i < e.1.bd.length) (h2 : i < e.1.dn.length) => rleft_any e H hc h i u (hE.below hu) (Sl.below hh hu) h1 h2)
  have hv : allL e.1 h = (fk (pndB e.1 h) (min e.1.ns.length (min e.1.bd.length e.1.dn.length))).map (tellO e.1) := rfl
  rw [hv]
  have HBD := hid hbd
  have HPP := hid hE.2.1
  have HTO : Hid (∀ i : Nat, tellO e.1 (i : Int) = ⟨7 + e.1.bd.getD i 0, 4, e.1.id, (i : Int), e.1.ep⟩) := hid fun i => rfl
  obtain ⟨⟨id, sc, ee, ms, bd, dn⟩, ⟨A1, ca, P, cb, D, cd⟩⟩ := e
  obtain ⟨l1, l2, l3⟩ := hl
  simp only [tkB] at HTK HLF HBD HPP HTO l1 l2 l3 ⊢
  clear hE hh hbd hv
  simp only [ecE] at *
  obtain ⟨m, hm⟩ : ∃ m, min ms.length (min bd.length dn.length) = m := ⟨_, rfl⟩
  rw [hm] at HTK ⊢
  have m1 : m ≤ ms.length := by omega
  have m2 : m ≤ bd.length := by omega
  have m3 : m ≤ dn.length := by omega
  clear hm
  generalize tellO ⟨id, sc, ee, ms, bd, dn⟩ = tF at *
  generalize pndB ⟨id, sc, ee, ms, bd, dn⟩ h = pB at *
  have HY := hid (fun k (h9 : pB k = true) => fk_map (f := tF) h9)
  have HN := hid (fun k (h9 : pB k = false) => show (fk pB (k + 1)).map tF = (fk pB k).map tF by rw [fk_no h9])
  have HFL := hid (fun k => show ((fk pB k).map tF).length ≤ k by rw [List.length_map]; exact fk_len _ _)
  generalize h.length = hn at *
  go_enter Try.func46, Try.ntmps46
  go_upto_region 1 with (fail)
  refine at_world (fun u => u.heap[W.heap.size]? = some (.cells #[.int .i64 id, .int .i64 sc, .int .i64 ee, .slice A1 ms.length ca, .slice P bd.length cb, .slice D dn.length cd] 55 (0, 0)) ∧ RowKit.Below W.heap.size W u) ⟨heap_alloc_new _ _, (RowKit.Below.refl _ _).alloc (Nat.le_refl _) _⟩ ?_
  rintro w1 ⟨hx1, hb1⟩
  have HX1 := hid hx1
  have HB1 := hid hb1
  have hWl := lt_of_block hx1
  obtain ⟨⟨p0, p1, p2, p3, p4, p5⟩, _⟩ := six_cells hx1
  clear hx1 hb1
  go_wp2
  clear p0 p1 p2 p3 p4 p5
  go_loopw [5, 6] (fun v i wr => ∃ (n : Nat) (A' : Option Addr) (c' : Nat) (L : List Ou), n ≤ m ∧ i = .int .i64 (n : Int) ∧ v = .slice A' L.length c' ∧ Hid (L = (fk pB n).map tF ∧ wr.ownsRow w1.heap.size 84 5 (.slice A' L.length c') L.length (gcells ocl L)) ∧ Hid (RowKit.Below w1.heap.size w1 wr)) (fun _ i _ => m - (intOf i).toNat)
  case atStart => exact ⟨0, none, 0, [], by omega, rfl, rfl, ⟨rfl, World.ownsRow_nil _ _ _ _⟩, RowKit.Below.refl _ _⟩
  case round =>
    obtain ⟨n, A', c', L, hn9, rfl, rfl, HO, HB⟩ := hrel
    have hLn : L.length ≤ n := by rw [HO.out.1]; exact HFL.out n
    have HX2 := hid (keep0 HX1.out HB.out)
    obtain ⟨⟨p0, p1, p2, p3, p4, p5⟩, _⟩ := six_cells HX2.out
    go_wp2_with fail
    refine (HTK.out wr).mono ?_
    rintro e w2 ⟨rfl, hb⟩
    have HB3 := hid (HB.out.trans (hb.mono HB.out.size))
    have HX3 := hid (keep0 HX2.out hb)
    have HO3 := hid (And.intro HO.out.1 (own_keep HO.out.2 hb))
    clear hb HB HX2 HO p0 p1 p2 p3 p4 p5
    obtain ⟨⟨p0, p1, p2, p3, p4, p5⟩, _⟩ := six_cells HX3.out
    by_cases hlt : n < m
    · have hlt2 : (n : Int) < (m : Int) := by omega
      have hlt4 : (n : Int) < (bd.length : Int) := by omega
      have i0 : ¬ (n : Int) < 0 := by omega
      have hwn := wrap_succ n (by omega)
      have HLL := hid (HLF.out w2 (HB1.out.trans (HB3.out.mono HB1.out.size)) n (by omega) (by omega))
      have hr := HBD.out n
      simp only at hr
      have sP := (HPP.out.below HB1.out).below HB3.out
      obtain ⟨bP, oP, hP9, _⟩ := sP.2.2.2 (by rw [icells_length]; omega)
      rw [hP9] at sP
      have HP9 := hid hP9
      have HcP := hid (Sl.cell sP n (by omega))
      clear sP hP9
      have HYY := hid (fun (h9 : pB n = true) => show L ++ [tF (n : Int)] = (fk pB (n + 1)).map tF by rw [HO3.out.1, HY.out n h9])
      have HNN := hid (fun (h9 : pB n = false) => show L = (fk pB (n + 1)).map tF by rw [HO3.out.1, HN.out n h9])
      rw [HTO.out n] at HYY
      have HOW := hid HO3.out.2
      clear HO3
      generalize hzz : bd.getD n 0 = z at *
      have hzz := hid hzz
      generalize pB n = b at *
      go_wp2_with fail
      refine HLL.out.mono ?_
      rintro e w3 ⟨rfl, hb⟩
      have HB4 := hid (HB3.out.trans (hb.mono HB3.out.size))
      have HX4 := hid (keep0 HX3.out hb)
      have HOW4 := hid (own_keep HOW.out hb)
      have cP := cellb hb HcP.out
      clear hb HB3 HX3 HOW HcP p0 p1 p2 p3 p4 p5 HLL
      cases b with
      | false =>
        have HE := hid (HNN.out rfl)
        clear HYY HNN hr cP HP9
        go_wp2
        go_roundw
        case rel => exact ⟨n + 1, A', c', L, by omega, by go_num, rfl, hid ⟨HE.out, HOW4.out⟩, HB4⟩
        case measure => simp [intOf]; omega
      | true =>
        have HE := hid (HYY.out rfl)
        have hw : IntKind.i64.wrap (7 + z) = 7 + z := by
          simp [IntKind.wrap, IntKind.bits, IntKind.signed]
          omega
        clear hr HYY HNN
        go_upto_region 6 with (fail)
        have hSU : ∀ U, RowKit.Below w3.heap.size w3 U → ((U.cell? ⟨W.heap.size, 0, none⟩ = some (.int .i64 id) ∧ U.cell? ⟨W.heap.size, 1, none⟩ = some (.int .i64 sc) ∧ U.cell? ⟨W.heap.size, 2, none⟩ = some (.int .i64 ee) ∧ U.cell? ⟨W.heap.size, 3, none⟩ = some (.slice A1 ms.length ca) ∧ U.cell? ⟨W.heap.size, 4, none⟩ = some (.slice (some ⟨bP, oP, none⟩) bd.length cb) ∧ U.cell? ⟨W.heap.size, 5, none⟩ = some (.slice D dn.length cd)) ∧ U.cell? ⟨bP, oP + n, none⟩ = some (.int .i64 z)) := fun U hU => ⟨by
          have h9 := (six_cells (keep0 HX4.out hU)).1
          rw [HP9.out] at h9
          exact h9, cellb hU cP⟩
        have hk0 : RowKit.Below w3.heap.size w3 w3.drew := below_drew (RowKit.Below.refl _ _)
        refine wp_region_held_drew (S := fun U => (U.cell? ⟨W.heap.size, 0, none⟩ = some (.int .i64 id) ∧ U.cell? ⟨W.heap.size, 1, none⟩ = some (.int .i64 sc) ∧ U.cell? ⟨W.heap.size, 2, none⟩ = some (.int .i64 ee) ∧ U.cell? ⟨W.heap.size, 3, none⟩ = some (.slice A1 ms.length ca) ∧ U.cell? ⟨W.heap.size, 4, none⟩ = some (.slice (some ⟨bP, oP, none⟩) bd.length cb) ∧ U.cell? ⟨W.heap.size, 5, none⟩ = some (.slice D dn.length cd)) ∧ U.cell? ⟨bP, oP + n, none⟩ = some (.int .i64 z)) (by kernel_rfl) (hSU _ hk0) (fun hHeld => ?_)
        generalize w3.drew = k0 at *
        have hk1 : RowKit.Below w3.heap.size w3 (k0.alloc (.cells #[.int .i64 (7 + z), .int .i64 4, .int .i64 id, .int .i64 (n : Int), .int .i64 ee] 84)) := hk0.trans ((bel_alloc (RowKit.Below.refl _ _) _ : RowKit.Below k0.heap.size k0 _).mono hk0.size)
        have HZ5 := hid (fun u (h8 : Sl u 1 (some ⟨bP, oP, none⟩) bd.length cb (icells .i64 bd)) => show u.cell? ⟨bP, oP + n, none⟩ = some (.int .i64 z) from by have h7 := Sl.cell h8 n (by omega); rw [hzz.out] at h7; exact h7)
        refine wpAnyH_take (i := 0) (v := ?_) rfl (by kernel_rfl) (by kernel_rfl) (by kernel_rfl) (fun _ _ _ h => h) (Or.inl ⟨by rfl, ?_⟩) (by assumption) ?_
        rotate_left
        focus
          intro U hU
          try dsimp only at hU
          go_simp
          try (with_reducible rfl)
        simp only [List.getElem_toArray, List.getElem_cons_succ, List.getElem_cons_zero, Act.put, List.setIfInBounds_toArray, List.set_cons_zero, List.set_cons_succ]
        refine wpAnyH_take (i := 1) (v := ?_) rfl (by kernel_rfl) (by kernel_rfl) (by kernel_rfl) (fun _ _ _ h => h) (Or.inl ⟨by rfl, ?_⟩) (by assumption) ?_
        rotate_left
        focus
          intro U hU
          try dsimp only at hU
          go_simp
          try (with_reducible rfl)
        simp only [List.getElem_toArray, List.getElem_cons_succ, List.getElem_cons_zero, Act.put, List.setIfInBounds_toArray, List.set_cons_zero, List.set_cons_succ]
        refine wpAnyH_take (i := 2) (v := ?_) rfl (by kernel_rfl) (by kernel_rfl) (by kernel_rfl) (fun _ _ _ h => h) (Or.inl ⟨by rfl, ?_⟩) (by assumption) ?_
        rotate_left
        focus
          intro U hU
          try dsimp only at hU
          go_simp
          try (with_reducible rfl)
        simp only [List.getElem_toArray, List.getElem_cons_succ, List.getElem_cons_zero, Act.put, List.setIfInBounds_toArray, List.set_cons_zero, List.set_cons_succ]
        refine wpAnyH_take (i := 3) (v := ?_) rfl (by kernel_rfl) (by kernel_rfl) (by kernel_rfl) (fun _ _ _ h => h) (Or.inl ⟨by rfl, ?_⟩) (by assumption) ?_
        rotate_left
        focus
          intro U hU
          try dsimp only at hU
          go_simp
          try (with_reducible rfl)
        simp only [List.getElem_toArray, List.getElem_cons_succ, List.getElem_cons_zero, Act.put, List.setIfInBounds_toArray, List.set_cons_zero, List.set_cons_succ]
        refine wpAnyH_take (i := 4) (v := ?_) rfl (by kernel_rfl) (by kernel_rfl) (by kernel_rfl) (fun _ _ _ h => h) (Or.inl ⟨by rfl, ?_⟩) (by assumption) ?_
        rotate_left
        focus
          intro U hU
          try dsimp only at hU
          go_simp
          try (with_reducible rfl)
        simp only [List.getElem_toArray, List.getElem_cons_succ, List.getElem_cons_zero, Act.put, List.setIfInBounds_toArray, List.set_cons_zero, List.set_cons_succ]
        refine wpAnyH_take (i := 5) (v := ?_) rfl (by kernel_rfl) (by kernel_rfl) (by kernel_rfl) (fun _ _ _ h => h) (Or.inl ⟨by rfl, ?_⟩) (by assumption) ?_
        rotate_left
        focus
          intro U hU
          try dsimp only at hU
          go_simp
          try (with_reducible rfl)
        simp only [List.getElem_toArray, List.getElem_cons_succ, List.getElem_cons_zero, Act.put, List.setIfInBounds_toArray, List.set_cons_zero, List.set_cons_succ]
        refine wpAnyH_take (i := 6) (v := ?_) rfl (by kernel_rfl) (by kernel_rfl) (by kernel_rfl) (fun _ _ _ h => h) (Or.inl ⟨by rfl, ?_⟩) (by assumption) ?_
        rotate_left
        focus
          intro U hU
          try dsimp only at hU
          go_simp
          try (with_reducible rfl)
        simp only [List.getElem_toArray, List.getElem_cons_succ, List.getElem_cons_zero, Act.put, List.setIfInBounds_toArray, List.set_cons_zero, List.set_cons_succ]
        refine wpAnyH_take (i := 7) (v := ?_) rfl (by kernel_rfl) (by kernel_rfl) (by kernel_rfl) (fun _ _ _ h => h) (Or.inl ⟨by rfl, ?_⟩) (by assumption) ?_
        rotate_left
        focus
          intro U hU
          try dsimp only at hU
          go_simp
          try (with_reducible rfl)
        simp only [List.getElem_toArray, List.getElem_cons_succ, List.getElem_cons_zero, Act.put, List.setIfInBounds_toArray, List.set_cons_zero, List.set_cons_succ]
        refine wpAnyH_take (i := 8) (v := ?_) rfl (by kernel_rfl) (by kernel_rfl) (by kernel_rfl) (fun _ _ _ h => h) (Or.inl ⟨by rfl, ?_⟩) (by assumption) ?_
        rotate_left
        focus
          intro U hU
          try dsimp only at hU
          go_simp
          try (with_reducible rfl)
        simp only [List.getElem_toArray, List.getElem_cons_succ, List.getElem_cons_zero, Act.put, List.setIfInBounds_toArray, List.set_cons_zero, List.set_cons_succ]
        refine wpAnyH_take (i := 9) (v := ?_) rfl (by kernel_rfl) (by kernel_rfl) (by kernel_rfl) (fun _ _ _ h => h) (Or.inl ⟨by rfl, ?_⟩) (by assumption) ?_
        rotate_left
        focus
          intro U hU
          try dsimp only at hU
          go_simp
          try (with_reducible rfl)
        simp only [List.getElem_toArray, List.getElem_cons_succ, List.getElem_cons_zero, Act.put, List.setIfInBounds_toArray, List.set_cons_zero, List.set_cons_succ]
        refine wpAnyH_take (i := 10) (v := ?_) rfl (by kernel_rfl) (by kernel_rfl) (by kernel_rfl) (fun _ _ _ h => h) (Or.inl ⟨by rfl, ?_⟩) (by assumption) ?_
        rotate_left
        focus
          intro U hU
          try dsimp only at hU
          go_simp
          try (with_reducible rfl)
        simp only [List.getElem_toArray, List.getElem_cons_succ, List.getElem_cons_zero, Act.put, List.setIfInBounds_toArray, List.set_cons_zero, List.set_cons_succ]
        refine wpAnyH_take (i := 11) (v := ?_) rfl (by kernel_rfl) (by kernel_rfl) (by kernel_rfl) (fun _ _ _ h => h) (Or.inl ⟨by rfl, ?_⟩) (by assumption) ?_
        rotate_left
        focus
          intro U hU
          try dsimp only at hU
          go_simp
          try (with_reducible rfl)
        simp only [List.getElem_toArray, List.getElem_cons_succ, List.getElem_cons_zero, Act.put, List.setIfInBounds_toArray, List.set_cons_zero, List.set_cons_succ]
        refine wpAnyH_take (i := 12) (v := ?_) rfl (by kernel_rfl) (by kernel_rfl) (by kernel_rfl) (fun _ _ _ h => h) (Or.inl ⟨by rfl, ?_⟩) (by assumption) ?_
        rotate_left
        focus
          intro U hU
          try dsimp only at hU
          go_simp
          try (with_reducible rfl)
        simp only [List.getElem_toArray, List.getElem_cons_succ, List.getElem_cons_zero, Act.put, List.setIfInBounds_toArray, List.set_cons_zero, List.set_cons_succ]
        refine wpAnyH_take (i := 13) (v := ?_) rfl (by kernel_rfl) (by kernel_rfl) (by kernel_rfl) (fun _ _ _ h => h) (Or.inl ⟨by rfl, ?_⟩) (by assumption) ?_
        rotate_left
        focus
          intro U hU
          try dsimp only at hU
          go_simp
          try (with_reducible rfl)
        simp only [List.getElem_toArray, List.getElem_cons_succ, List.getElem_cons_zero, Act.put, List.setIfInBounds_toArray, List.set_cons_zero, List.set_cons_succ]
        refine wpAnyH_ready (rs := [14]) (by kernel_rfl) (by simp) ?_
        refine AllReadyH.cons rfl (fun K hK => ?_) AllReadyH.nil
        simp only [List.getElem_toArray, List.getElem_cons_succ, List.getElem_cons_zero]
        go_simp
        refine hK.out _ _ ?_ (fun hHeld2 => ?_)
        focus
          exact hSU _ hk1
        clear hHeld
        have hHeld := hHeld2
        clear hHeld2 hK K
        try simp only [List.getElem_toArray, List.getElem_cons_succ, List.getElem_cons_zero, Act.put, List.setIfInBounds_toArray, List.set_cons_zero, List.set_cons_succ]
        refine wpAnyH_ready (rs := [15]) (by kernel_rfl) (by simp) ?_
        refine (AllReadyH.cons rfl (fun K hK => ?_) AllReadyH.nil)
        refine step_append_sl rfl (.tmp 17) (.tmp 31) 78 rfl w1.heap.size 84 Try.underlying78 info_out rfl (by omega) rfl (own_keep HOW4.out hk1) rfl (Sl.lit k0 84 5 1 #[.int .i64 (7 + z), .int .i64 4, .int .i64 id, .int .i64 (n : Int), .int .i64 ee] rfl (by unfold maxLen; omega)) (ocl_one ⟨7 + z, 4, id, (n : Int), ee⟩) (show _ ≤ maxLen by unfold maxLen; omega) (show _ * 40 ≤ 140737488355328 by omega) (Nat.le_trans HB4.out.size hk1.size) ?_
        intro v5 w5 ho5 hb5 hsz5 hk5
        have HO5 := hid ho5
        have HB5 := hid ((HB4.out.trans (hk1.mono HB4.out.size)).trans hb5)
        have HX5 := hid (keep0 HX1.out HB5.out)
        have hS5 : (fun U => (U.cell? ⟨W.heap.size, 0, none⟩ = some (.int .i64 id) ∧ U.cell? ⟨W.heap.size, 1, none⟩ = some (.int .i64 sc) ∧ U.cell? ⟨W.heap.size, 2, none⟩ = some (.int .i64 ee) ∧ U.cell? ⟨W.heap.size, 3, none⟩ = some (.slice A1 ms.length ca) ∧ U.cell? ⟨W.heap.size, 4, none⟩ = some (.slice (some ⟨bP, oP, none⟩) bd.length cb) ∧ U.cell? ⟨W.heap.size, 5, none⟩ = some (.slice D dn.length cd)) ∧ U.cell? ⟨bP, oP + n, none⟩ = some (.int .i64 z)) w5 := ⟨by
          have h9 := (six_cells HX5.out).1
          rw [HP9.out] at h9
          exact h9, by
          have h8 := HPP.out.below (HB1.out.trans (HB5.out.mono HB1.out.size))
          rw [HP9.out] at h8
          exact (HZ5.out _ h8)⟩
        clear ho5 hb5 hsz5 hk5
        refine hK.out _ _ ?_ (fun hHeld2 => ?_)
        focus
          exact hS5
        clear hHeld
        have hHeld := hHeld2
        clear hHeld2 hK K
        try simp only [List.getElem_toArray, List.getElem_cons_succ, List.getElem_cons_zero, Act.put, List.setIfInBounds_toArray, List.set_cons_zero, List.set_cons_succ]
        refine wpAnyH_take (i := 16) (v := ?_) rfl (by kernel_rfl) (by kernel_rfl) (by kernel_rfl) (fun _ _ _ h => h) (Or.inl ⟨by rfl, ?_⟩) (by assumption) ?_
        rotate_left
        focus
          intro U hU
          try dsimp only at hU
          go_simp
          try (with_reducible rfl)
        simp only [List.getElem_toArray, List.getElem_cons_succ, List.getElem_cons_zero, Act.put, List.setIfInBounds_toArray, List.set_cons_zero, List.set_cons_succ]
        refine wpAnyH_done (by kernel_rfl) ?_ _
        clear hHeld hS5 hSU hk0 hk1 HOW4 HB4 HX4 HX5 HP9 cP HZ5
        obtain ⟨A6, c6, rfl, _⟩ := Sl.of_own HO5.out
        go_wp2
        go_roundw
        case rel => exact ⟨n + 1, A6, c6, L ++ [(⟨7 + z, 4, id, (n : Int), ee⟩ : Ou)], by omega, by go_num, by rw [List.length_append]; rfl, hid ⟨HE.out, by rw [List.length_append, gcells_snoc]; exact HO5.out⟩, HB5⟩
        case measure => simp [intOf]; omega
    · have hge : ¬ (n : Int) < (m : Int) := by omega
      obtain rfl : n = m := by omega
      go_wp2
      go_ret
      obtain ⟨rfl, hO⟩ := HO3.out
      exact ⟨A', c', rfl, sl_own hO, HB1.out.trans (HB3.out.mono HB1.out.size)⟩

set_option maxRecDepth 20000 in
set_option maxHeartbeats 4000000 in
theorem outs_any (A B : Option Addr) (c c2 : Nat) (l : List Ou) (W : World) (hA : Sl W 5 A l.length c (gcells ocl l)) (hB : Sl W 5 B l.length c2 (gcells ocl l)) :
    Calls Try.prog 44 #[.slice A l.length c, .slice B l.length c2] W fun e w' => e = .returned (.bool true) ∧ RowKit.Below W.heap.size W w' := by
  have HA := hid hA
  have HB := hid hB
  have hl := sl_len64 hA
  clear hA hB
  generalize hm : l.length = m at *
  have HM := hid hm
  clear hm
  go_enter Try.func44, Try.ntmps44
  go_wp2
  go_loopw [5] (fun i wr => ∃ k : Nat, k ≤ m ∧ i = .int .i64 (k : Int) ∧ Hid (RowKit.Below W.heap.size W wr)) (fun i _ => m - (intOf i).toNat)
  case atStart => exact ⟨0, by omega, rfl, RowKit.Below.refl _ _⟩
  case round =>
    obtain ⟨k, hk, rfl, HW⟩ := hrel
    by_cases hlt : k < m
    · have hlt2 : (k : Int) < (m : Int) := by omega
      have i0 : ¬ (k : Int) < 0 := by omega
      have hkl : k < l.length := by rw [HM.out]; exact hlt
      obtain ⟨b, off, hA9, hc⟩ := Sl.gat (f := ocl) (n := 5) ocl_len (HA.out.below HW.out) k hkl (by omega)
      obtain ⟨b2, off2, hB9, hc2⟩ := Sl.gat (f := ocl) (n := 5) ocl_len (HB.out.below HW.out) k hkl (by omega)
      subst hA9
      subst hB9
      generalize l[k] = y at *
      have a0 := hc 0 _ rfl
      have a1 := hc 1 _ rfl
      have a2 := hc 2 _ rfl
      have a3 := hc 3 _ rfl
      have a4 := hc 4 _ rfl
      have d0 := hc2 0 _ rfl
      have d1 := hc2 1 _ rfl
      have d2 := hc2 2 _ rfl
      have d3 := hc2 3 _ rfl
      have d4 := hc2 4 _ rfl
      rw [Nat.add_zero] at a0 d0
      obtain ⟨y0, y1, y2, y3, y4⟩ := y
      simp only at a0 a1 a2 a3 a4 d0 d1 d2 d3 d4
      clear hc hc2 hkl
      go_wp2
      go_quiet (fail)
      go_wp2
      go_roundw
      case rel => exact ⟨k + 1, by omega, by go_num, hid (below_drewNH HW.out _)⟩
      case measure => simp [intOf]; omega
    · have hge : ¬ (k : Int) < (m : Int) := by omega
      go_wp2
      go_ret
      exact ⟨rfl, HW.out⟩

set_option maxRecDepth 20000 in
set_option maxHeartbeats 16000000 in
theorem handPicks_law (x : Cf) (N : Option Addr) (nc : Nat) (K : Option Addr) (kc : Nat) (e : Ee) (wk : Int) (H : Option Addr) (hc : Nat) (h : List Bool) (W : World) (hC : CfAt W x N nc K kc) (hE : InE W e) (hh : HadAt W H hc h) :
    Calls Try.prog 7 #[.agg (cfc x N nc K kc), .agg (ecE e), .agg #[.int .i64 wk, .slice H h.length hc]] W fun q w' => q = .returned (.bool true) ∧ RowKit.Below W.heap.size W w' := by
  have HW := hid works34_any
  have HLC := hid (fun u (hu : RowKit.Below W.heap.size W u) => r14long_any x N nc K kc u (hC.below hu))
  have HOB := hid (fun u (hu : RowKit.Below W.heap.size W u) => bound34_any e u (hE.below hu))
  have HPK := hid (fun (hb : okb e.1 = true) (hl : longCf x = false) u (hu : RowKit.Below W.heap.size W u) => And.intro (pick_any x N nc K kc e wk H hc h u (hC.below hu) (hE.below hu) (Sl.below hh hu) (okb_bd hb) (by have := okb_len hb; omega) (okb_len hb).2.2.2 (by have := (longCf_no hl).2; omega)) (rpick_any x N nc K kc e wk H hc h u (hC.below hu) (hE.below hu) (Sl.below hh hu) (okb_bd hb) (by have := okb_len hb; omega) (okb_len hb).2.2.2 (by have := (longCf_no hl).2; omega)))
  have HMY := hid (fun (hb : okb e.1 = true) (hl : longCf x = false) u (hu : RowKit.Below W.heap.size W u) (i : Int) => And.intro (hmay_any x N nc K kc e wk i u (hC.below hu) (hE.below hu) (by have := okb_len hb; omega) (okb_len hb).2.2.2 (by have := (longCf_no hl).2; omega)) (rmay_any x N nc K kc e wk i u (hC.below hu) (hE.below hu) (by have := okb_len hb; omega) (okb_len hb).2.2.2 (by have := (longCf_no hl).2; omega)))
  have HPW := hid (fun (hb : okb e.1 = true) u (hu : RowKit.Below W.heap.size W u) => And.intro (pendw_any e wk H hc h u (hE.below hu) (Sl.below hh hu) (okb_bd hb) (by have := okb_len hb; omega)) (rpendw_any e wk H hc h u (hE.below hu) (Sl.below hh hu) (okb_bd hb) (by have := okb_len hb; omega)))
  have HAL := hid (fun (hb : okb e.1 = true) u (hu : RowKit.Below W.heap.size W u) => And.intro (hall_any e H hc h u (hE.below hu) (Sl.below hh hu) (okb_bd hb) (by have := okb_len hb; omega)) (rall_any e H hc h u (hE.below hu) (Sl.below hh hu) (okb_bd hb) (by have := okb_len hb; omega)))
  have HLN := hid (fun (hb : okb e.1 = true) => (okb_len hb).1)
  have HCA := hid (pick_cases e.1 x.T x.ws wk h)
  obtain ⟨⟨id, scE, ee, ms, bd, dn⟩, ⟨A1, ca, P, cb, D, cd⟩⟩ := e
  obtain ⟨sc, le, ag, ro, ou, T, ws⟩ := x
  simp only at HPK HMY HPW HAL HLN HCA
  clear hC hE hh
  simp only [ecE, cfc] at *
  generalize pickB ⟨id, scE, ee, ms, bd, dn⟩ T ws wk h = R at *
  have HR3 : Hid (R.2.2 = decide (0 ≤ R.1)) := hid (by
    rcases HCA.out with h9 | ⟨j, h9, _⟩ | ⟨j, h9, _⟩ <;> rw [h9] <;> simp)
  clear HCA
  generalize pndW ⟨id, scE, ee, ms, bd, dn⟩ h wk = PL at *
  generalize mayB ⟨id, scE, ee, ms, bd, dn⟩ T ws wk = mB at *
  generalize allL ⟨id, scE, ee, ms, bd, dn⟩ h = AL at *
  generalize longCf ⟨sc, le, ag, ro, ou, T, ws⟩ = lc at *
  generalize hob : okb ⟨id, scE, ee, ms, bd, dn⟩ = ob at *
  clear hob
  obtain ⟨r1, r2, r3⟩ := R
  simp only at HPK HR3
  have hr3 : r3 = decide (0 ≤ r1) := HR3.out
  clear HR3
  subst hr3
  generalize hhn : h.length = hn at *
  clear hhn
  go_enter Try.func7, Try.ntmps7
  go_upto_region 1 with (fail)
  refine at_world (fun u => u.heap[W.heap.size]? = some (.cells #[.int .i64 sc, .int .i64 le, .int .i64 ag, .int .i64 ro, .int .i64 ou, .slice N T.length nc, .slice K ws.length kc] 25 (0, 0)) ∧ u.heap[W.heap.size + 1]? = some (.cells #[.int .i64 id, .int .i64 scE, .int .i64 ee, .slice A1 ms.length ca, .slice P bd.length cb, .slice D dn.length cd] 55 (0, 0)) ∧ u.heap[W.heap.size + 1 + 1]? = some (.cells #[.int .i64 wk, .slice H hn hc] 68 (0, 0)) ∧ RowKit.Below W.heap.size W u) (lay3 W _ _ _) ?_
  rintro w1 ⟨hq, hj, ho, hb⟩
  have HB0 := hid hb
  have HQ0 := hid hq
  have HJ0 := hid hj
  have HO0 := hid ho
  clear hq hj ho hb
  generalize W.heap.size + 1 + 1 = O at *
  generalize W.heap.size + 1 = J at *
  generalize hQ : W.heap.size = Q at HQ0
  clear hQ
  have hSU : ∀ U, RowKit.Below w1.heap.size w1 U → (U.cell? ⟨O, 0, none⟩ = some (.int .i64 wk) ∧ U.cell? ⟨O, 1, none⟩ = some (.slice H hn hc)) := fun U hU => two_cellsR (keep0 HO0.out hU)
  have hk0 : RowKit.Below w1.heap.size w1 w1.drew := below_drew (RowKit.Below.refl _ _)
  refine wp_region_held_drew (S := fun U => U.cell? ⟨O, 0, none⟩ = some (.int .i64 wk) ∧ U.cell? ⟨O, 1, none⟩ = some (.slice H hn hc)) (by kernel_rfl) (hSU _ hk0) (fun hHeld => ?_)
  have HB := hid (HB0.out.trans (hk0.mono HB0.out.size))
  have HQ := hid (keep0 HQ0.out hk0)
  have HJ := hid (keep0 HJ0.out hk0)
  clear hk0 HB0 HQ0 HJ0
  generalize w1.drew = k0 at *
  refine wpAnyH_take (i := 0) (v := ?_) rfl (by kernel_rfl) (by kernel_rfl) (by kernel_rfl) (fun _ _ _ h => h) (Or.inl ⟨by rfl, ?_⟩) (by assumption) ?_
  rotate_left
  focus
    intro U hU
    try dsimp only at hU
    go_simp
    try (with_reducible rfl)
  simp only [List.getElem_toArray, List.getElem_cons_succ, List.getElem_cons_zero, Act.put, List.setIfInBounds_toArray, List.set_cons_zero, List.set_cons_succ]
  refine wpAnyH_take (i := 1) (v := ?_) rfl (by kernel_rfl) (by kernel_rfl) (by kernel_rfl) (fun _ _ _ h => h) (Or.inl ⟨by rfl, ?_⟩) (by assumption) ?_
  rotate_left
  focus
    intro U hU
    try dsimp only at hU
    go_simp
    try (with_reducible rfl)
  simp only [List.getElem_toArray, List.getElem_cons_succ, List.getElem_cons_zero, Act.put, List.setIfInBounds_toArray, List.set_cons_zero, List.set_cons_succ]
  refine wpAnyH_take (i := 2) (v := ?_) rfl (by kernel_rfl) (by kernel_rfl) (by kernel_rfl) (fun _ _ _ h => h) (Or.inl ⟨by rfl, ?_⟩) (by assumption) ?_
  rotate_left
  focus
    intro U hU
    try dsimp only at hU
    go_simp
    try (with_reducible rfl)
  simp only [List.getElem_toArray, List.getElem_cons_succ, List.getElem_cons_zero, Act.put, List.setIfInBounds_toArray, List.set_cons_zero, List.set_cons_succ]
  refine wpAnyH_take (i := 3) (v := ?_) rfl (by kernel_rfl) (by kernel_rfl) (by kernel_rfl) (fun _ _ _ h => h) (Or.inl ⟨by rfl, ?_⟩) (by assumption) ?_
  rotate_left
  focus
    intro U hU
    try dsimp only at hU
    go_simp
    try (with_reducible rfl)
  simp only [List.getElem_toArray, List.getElem_cons_succ, List.getElem_cons_zero, Act.put, List.setIfInBounds_toArray, List.set_cons_zero, List.set_cons_succ]
  refine wpAnyH_take (i := 4) (v := ?_) rfl (by kernel_rfl) (by kernel_rfl) (by kernel_rfl) (fun _ _ _ h => h) (Or.inl ⟨by rfl, ?_⟩) (by assumption) ?_
  rotate_left
  focus
    intro U hU
    try dsimp only at hU
    go_simp
    try (with_reducible rfl)
  simp only [List.getElem_toArray, List.getElem_cons_succ, List.getElem_cons_zero, Act.put, List.setIfInBounds_toArray, List.set_cons_zero, List.set_cons_succ]
  refine wpAnyH_take (i := 5) (v := ?_) rfl (by kernel_rfl) (by kernel_rfl) (by kernel_rfl) (fun _ _ _ h => h) (Or.inl ⟨by rfl, ?_⟩) (by assumption) ?_
  rotate_left
  focus
    intro U hU
    try dsimp only at hU
    go_simp
    try (with_reducible rfl)
  simp only [List.getElem_toArray, List.getElem_cons_succ, List.getElem_cons_zero, Act.put, List.setIfInBounds_toArray, List.set_cons_zero, List.set_cons_succ]
  refine wpAnyH_done (by kernel_rfl) ?_ _
  clear hHeld hSU HO0
  obtain ⟨⟨p0, p1, p2, p3, p4, p5⟩, _⟩ := six_cells HJ.out
  obtain ⟨q0, q1, q2, q3, q4, q5, q6⟩ := seven_cellsJ HQ.out
  go_wp2_with fail
  refine (HLC.out _ HB.out).mono ?_
  rintro e w2 ⟨rfl, hb⟩
  have HB2 := hid (HB.out.trans (hb.mono HB.out.size))
  have HQ2 := hid (keep0 HQ.out hb)
  have HJ2 := hid (keep0 HJ.out hb)
  clear hb p0 p1 p2 p3 p4 p5 q0 q1 q2 q3 q4 q5 q6 HB HQ HJ HLC
  cases lc with
  | true =>
    go_wp2_with fail
    refine (HW.out _).mono ?_
    rintro e w3 ⟨rfl, hb⟩
    have HB3 := hid (HB2.out.trans (hb.mono HB2.out.size))
    clear hb
    go_wp2
    go_ret
    exact ⟨rfl, HB3.out⟩
  | false =>
    obtain ⟨⟨p0, p1, p2, p3, p4, p5⟩, _⟩ := six_cells HJ2.out
    go_wp2_with fail
    refine (HOB.out _ HB2.out).mono ?_
    rintro e w3 ⟨rfl, hb⟩
    have HB3 := hid (HB2.out.trans (hb.mono HB2.out.size))
    have HQ3 := hid (keep0 HQ2.out hb)
    have HJ3 := hid (keep0 HJ2.out hb)
    clear hb p0 p1 p2 p3 p4 p5 HB2 HQ2 HJ2 HOB
    cases ob with
    | false =>
      go_wp2_with fail
      refine (HW.out _).mono ?_
      rintro e w4 ⟨rfl, hb⟩
      have HB4 := hid (HB3.out.trans (hb.mono HB3.out.size))
      clear hb
      go_wp2
      go_ret
      exact ⟨rfl, HB4.out⟩
    | true =>
      have HPK2 := hid (HPK.out rfl trivial)
      have HPW2 := hid (HPW.out rfl)
      have HMY2 := hid (HMY.out rfl trivial)
      have HAL2 := hid (HAL.out rfl)
      have hln := HLN.out rfl
      clear HPK HPW HMY HAL HLN
      obtain ⟨⟨p0, p1, p2, p3, p4, p5⟩, _⟩ := six_cells HJ3.out
      obtain ⟨q0, q1, q2, q3, q4, q5, q6⟩ := seven_cellsJ HQ3.out
      go_wp2_with fail
      refine (HPK2.out _ HB3.out).1.mono ?_
      rintro e w4 ⟨rfl, hb⟩
      have HB4 := hid (HB3.out.trans (hb.mono HB3.out.size))
      have HQ4 := hid (keep0 HQ3.out hb)
      have HJ4 := hid (keep0 HJ3.out hb)
      clear hb p0 p1 p2 p3 p4 p5 q0 q1 q2 q3 q4 q5 q6 HB3 HQ3 HJ3
      obtain ⟨⟨p0, p1, p2, p3, p4, p5⟩, _⟩ := six_cells HJ4.out
      obtain ⟨q0, q1, q2, q3, q4, q5, q6⟩ := seven_cellsJ HQ4.out
      go_wp2_with fail
      refine (HPK2.out _ HB4.out).2.mono ?_
      rintro e w5 ⟨rfl, hb⟩
      have HB5 := hid (HB4.out.trans (hb.mono HB4.out.size))
      have HQ5 := hid (keep0 HQ4.out hb)
      have HJ5 := hid (keep0 HJ4.out hb)
      clear hb p0 p1 p2 p3 p4 p5 q0 q1 q2 q3 q4 q5 q6 HB4 HQ4 HJ4 HPK2
      go_wp2
      go_loopw [14] (fun i wr => ∃ n : Nat, n ≤ ms.length + 2 ∧ i = .int .i64 ((n : Int) - 1) ∧ Hid (RowKit.Below w5.heap.size w5 wr)) (fun i _ => ms.length + 2 - (intOf i + 1).toNat)
      case atStart => exact ⟨0, by omega, by rfl, RowKit.Below.refl _ _⟩
      case round =>
        obtain ⟨n, hn9, rfl, HR⟩ := hrel
        have HB6 := hid (HB5.out.trans (HR.out.mono HB5.out.size))
        have HQ6 := hid (keep0 HQ5.out HR.out)
        have HJ6 := hid (keep0 HJ5.out HR.out)
        obtain ⟨⟨p0, p1, p2, p3, p4, p5⟩, _⟩ := six_cells HJ6.out
        have hSU : ∀ U, RowKit.Below wr.heap.size wr U → ((U.cell? ⟨Q, 0, none⟩ = some (.int .i64 sc) ∧ U.cell? ⟨Q, 1, none⟩ = some (.int .i64 le) ∧ U.cell? ⟨Q, 2, none⟩ = some (.int .i64 ag) ∧ U.cell? ⟨Q, 3, none⟩ = some (.int .i64 ro) ∧ U.cell? ⟨Q, 4, none⟩ = some (.int .i64 ou) ∧ U.cell? ⟨Q, 5, none⟩ = some (.slice N T.length nc) ∧ U.cell? ⟨Q, 6, none⟩ = some (.slice K ws.length kc)) ∧ (U.cell? ⟨J, 0, none⟩ = some (.int .i64 id) ∧ U.cell? ⟨J, 1, none⟩ = some (.int .i64 scE) ∧ U.cell? ⟨J, 2, none⟩ = some (.int .i64 ee) ∧ U.cell? ⟨J, 3, none⟩ = some (.slice A1 ms.length ca) ∧ U.cell? ⟨J, 4, none⟩ = some (.slice P bd.length cb) ∧ U.cell? ⟨J, 5, none⟩ = some (.slice D dn.length cd))) := fun U hU => ⟨seven_cellsJ (keep0 HQ6.out hU), (six_cells (keep0 HJ6.out hU)).1⟩
        have hk0 : RowKit.Below wr.heap.size wr wr.drew := below_drew (RowKit.Below.refl _ _)
        by_cases hlt : n ≤ ms.length + 1
        · have hlt2 : (n : Int) - 1 ≤ (ms.length : Int) := by omega
          have hwn : IntKind.i64.wrap ((n : Int) - 1 + 1) = (n : Int) := by
            simp [IntKind.wrap, IntKind.bits, IntKind.signed]
            omega
          have HMM := hid (fun U hU => HMY2.out U hU ((n : Int) - 1))
          generalize mB ((n : Int) - 1) = b at *
          generalize hii : (n : Int) - 1 = ii at *
          have HII := hid hii
          clear hii
          go_upto_region 9 with (fail)
          clear p0 p1 p2 p3 p4 p5
          refine wp_region_held_drew (S := fun U => (U.cell? ⟨Q, 0, none⟩ = some (.int .i64 sc) ∧ U.cell? ⟨Q, 1, none⟩ = some (.int .i64 le) ∧ U.cell? ⟨Q, 2, none⟩ = some (.int .i64 ag) ∧ U.cell? ⟨Q, 3, none⟩ = some (.int .i64 ro) ∧ U.cell? ⟨Q, 4, none⟩ = some (.int .i64 ou) ∧ U.cell? ⟨Q, 5, none⟩ = some (.slice N T.length nc) ∧ U.cell? ⟨Q, 6, none⟩ = some (.slice K ws.length kc)) ∧ (U.cell? ⟨J, 0, none⟩ = some (.int .i64 id) ∧ U.cell? ⟨J, 1, none⟩ = some (.int .i64 scE) ∧ U.cell? ⟨J, 2, none⟩ = some (.int .i64 ee) ∧ U.cell? ⟨J, 3, none⟩ = some (.slice A1 ms.length ca) ∧ U.cell? ⟨J, 4, none⟩ = some (.slice P bd.length cb) ∧ U.cell? ⟨J, 5, none⟩ = some (.slice D dn.length cd))) (by kernel_rfl) (hSU _ hk0) (fun hHeld => ?_)
          generalize wr.drew = k0 at *
          refine wpAnyH_take (i := 0) (v := ?_) rfl (by kernel_rfl) (by kernel_rfl) (by kernel_rfl) (fun _ _ _ h => h) (Or.inl ⟨by rfl, ?_⟩) (by assumption) ?_
          rotate_left
          focus
            intro U hU
            try dsimp only at hU
            go_simp
            try (with_reducible rfl)
          simp only [List.getElem_toArray, List.getElem_cons_succ, List.getElem_cons_zero, Act.put, List.setIfInBounds_toArray, List.set_cons_zero, List.set_cons_succ]
          refine wpAnyH_take (i := 1) (v := ?_) rfl (by kernel_rfl) (by kernel_rfl) (by kernel_rfl) (fun _ _ _ h => h) (Or.inl ⟨by rfl, ?_⟩) (by assumption) ?_
          rotate_left
          focus
            intro U hU
            try dsimp only at hU
            go_simp
            try (with_reducible rfl)
          simp only [List.getElem_toArray, List.getElem_cons_succ, List.getElem_cons_zero, Act.put, List.setIfInBounds_toArray, List.set_cons_zero, List.set_cons_succ]
          refine wpAnyH_take (i := 2) (v := ?_) rfl (by kernel_rfl) (by kernel_rfl) (by kernel_rfl) (fun _ _ _ h => h) (Or.inl ⟨by rfl, ?_⟩) (by assumption) ?_
          rotate_left
          focus
            intro U hU
            try dsimp only at hU
            go_simp
            try (with_reducible rfl)
          simp only [List.getElem_toArray, List.getElem_cons_succ, List.getElem_cons_zero, Act.put, List.setIfInBounds_toArray, List.set_cons_zero, List.set_cons_succ]
          refine wpAnyH_take (i := 3) (v := ?_) rfl (by kernel_rfl) (by kernel_rfl) (by kernel_rfl) (fun _ _ _ h => h) (Or.inl ⟨by rfl, ?_⟩) (by assumption) ?_
          rotate_left
          focus
            intro U hU
            try dsimp only at hU
            go_simp
            try (with_reducible rfl)
          simp only [List.getElem_toArray, List.getElem_cons_succ, List.getElem_cons_zero, Act.put, List.setIfInBounds_toArray, List.set_cons_zero, List.set_cons_succ]
          refine wpAnyH_take (i := 5) (v := ?_) rfl (by kernel_rfl) (by kernel_rfl) (by kernel_rfl) (fun _ _ _ h => h) (Or.inl ⟨by rfl, ?_⟩) (by assumption) ?_
          rotate_left
          focus
            intro U hU
            try dsimp only at hU
            go_simp
            try (with_reducible rfl)
          simp only [List.getElem_toArray, List.getElem_cons_succ, List.getElem_cons_zero, Act.put, List.setIfInBounds_toArray, List.set_cons_zero, List.set_cons_succ]
          refine wpAnyH_take (i := 6) (v := ?_) rfl (by kernel_rfl) (by kernel_rfl) (by kernel_rfl) (fun _ _ _ h => h) (Or.inl ⟨by rfl, ?_⟩) (by assumption) ?_
          rotate_left
          focus
            intro U hU
            try dsimp only at hU
            go_simp
            try (with_reducible rfl)
          simp only [List.getElem_toArray, List.getElem_cons_succ, List.getElem_cons_zero, Act.put, List.setIfInBounds_toArray, List.set_cons_zero, List.set_cons_succ]
          refine wpAnyH_take (i := 7) (v := ?_) rfl (by kernel_rfl) (by kernel_rfl) (by kernel_rfl) (fun _ _ _ h => h) (Or.inl ⟨by rfl, ?_⟩) (by assumption) ?_
          rotate_left
          focus
            intro U hU
            try dsimp only at hU
            go_simp
            try (with_reducible rfl)
          simp only [List.getElem_toArray, List.getElem_cons_succ, List.getElem_cons_zero, Act.put, List.setIfInBounds_toArray, List.set_cons_zero, List.set_cons_succ]
          refine wpAnyH_take (i := 8) (v := ?_) rfl (by kernel_rfl) (by kernel_rfl) (by kernel_rfl) (fun _ _ _ h => h) (Or.inl ⟨by rfl, ?_⟩) (by assumption) ?_
          rotate_left
          focus
            intro U hU
            try dsimp only at hU
            go_simp
            try (with_reducible rfl)
          simp only [List.getElem_toArray, List.getElem_cons_succ, List.getElem_cons_zero, Act.put, List.setIfInBounds_toArray, List.set_cons_zero, List.set_cons_succ]
          refine wpAnyH_ready (rs := [4]) (by kernel_rfl) (by simp) ?_
          refine (AllReadyH.cons rfl (fun K hK => ?_) AllReadyH.nil)
          simp only [List.getElem_toArray, List.getElem_cons_succ, List.getElem_cons_zero]
          go_simp
          refine (HMM.out k0 (HB6.out.trans (hk0.mono HB6.out.size))).1.mono ?_
          rintro q k1 ⟨rfl, hb1⟩
          have hk1 := hk0.trans (hb1.mono hk0.size)
          clear hb1
          go_wp2_with fail
          refine hK.out _ _ ?_ (fun hHeld2 => ?_)
          focus
            exact hSU _ hk1
          clear hHeld
          have hHeld := hHeld2
          clear hHeld2 hK K
          try simp only [List.getElem_toArray, List.getElem_cons_succ, List.getElem_cons_zero, Act.put, List.setIfInBounds_toArray, List.set_cons_zero, List.set_cons_succ]
          refine wpAnyH_ready (rs := [9]) (by kernel_rfl) (by simp) ?_
          refine AllReadyH.cons rfl (fun K hK => ?_) AllReadyH.nil
          simp only [List.getElem_toArray, List.getElem_cons_succ, List.getElem_cons_zero]
          go_simp
          refine (HMM.out k1 (HB6.out.trans (hk1.mono HB6.out.size))).2.mono ?_
          rintro q k2 ⟨rfl, hb1⟩
          have hk2 := hk1.trans (hb1.mono hk1.size)
          clear hb1
          go_wp2_with fail
          refine hK.out _ _ ?_ (fun hHeld2 => ?_)
          focus
            exact hSU _ hk2
          clear hHeld
          have hHeld := hHeld2
          clear hHeld2 hK K
          try simp only [List.getElem_toArray, List.getElem_cons_succ, List.getElem_cons_zero, Act.put, List.setIfInBounds_toArray, List.set_cons_zero, List.set_cons_succ]
          refine wpAnyH_take (i := 10) (v := ?_) rfl (by kernel_rfl) (by kernel_rfl) (by kernel_rfl) (fun _ _ _ h => h) (Or.inl ⟨by rfl, ?_⟩) (by assumption) ?_
          rotate_left
          focus
            intro U hU
            try dsimp only at hU
            go_simp
            try (with_reducible rfl)
          simp only [List.getElem_toArray, List.getElem_cons_succ, List.getElem_cons_zero, Act.put, List.setIfInBounds_toArray, List.set_cons_zero, List.set_cons_succ]
          refine wpAnyH_done (by kernel_rfl) ?_ _
          have HR2 := hid (HR.out.trans (hk2.mono HR.out.size))
          clear hHeld hSU hk0 hk1 hk2 HMM HB6 HQ6 HJ6
          go_wp2
          go_roundw
          case rel => exact ⟨n + 1, by omega, congrArg _ (by omega), HR2⟩
          case measure => have := HII.out; simp [intOf]; omega
        · have hge : ¬ (n : Int) - 1 ≤ (ms.length : Int) := by omega
          go_upto_region 11 with (fail)
          clear p0 p1 p2 p3 p4 p5
          refine wp_region_held_drew (S := fun U => (U.cell? ⟨Q, 0, none⟩ = some (.int .i64 sc) ∧ U.cell? ⟨Q, 1, none⟩ = some (.int .i64 le) ∧ U.cell? ⟨Q, 2, none⟩ = some (.int .i64 ag) ∧ U.cell? ⟨Q, 3, none⟩ = some (.int .i64 ro) ∧ U.cell? ⟨Q, 4, none⟩ = some (.int .i64 ou) ∧ U.cell? ⟨Q, 5, none⟩ = some (.slice N T.length nc) ∧ U.cell? ⟨Q, 6, none⟩ = some (.slice K ws.length kc)) ∧ (U.cell? ⟨J, 0, none⟩ = some (.int .i64 id) ∧ U.cell? ⟨J, 1, none⟩ = some (.int .i64 scE) ∧ U.cell? ⟨J, 2, none⟩ = some (.int .i64 ee) ∧ U.cell? ⟨J, 3, none⟩ = some (.slice A1 ms.length ca) ∧ U.cell? ⟨J, 4, none⟩ = some (.slice P bd.length cb) ∧ U.cell? ⟨J, 5, none⟩ = some (.slice D dn.length cd))) (by kernel_rfl) (hSU _ hk0) (fun hHeld => ?_)
          generalize wr.drew = k0 at *
          refine wpAnyH_take (i := 0) (v := ?_) rfl (by kernel_rfl) (by kernel_rfl) (by kernel_rfl) (fun _ _ _ h => h) (Or.inl ⟨by rfl, ?_⟩) (by assumption) ?_
          rotate_left
          focus
            intro U hU
            try dsimp only at hU
            go_simp
            try (with_reducible rfl)
          simp only [List.getElem_toArray, List.getElem_cons_succ, List.getElem_cons_zero, Act.put, List.setIfInBounds_toArray, List.set_cons_zero, List.set_cons_succ]
          refine wpAnyH_take (i := 1) (v := ?_) rfl (by kernel_rfl) (by kernel_rfl) (by kernel_rfl) (fun _ _ _ h => h) (Or.inl ⟨by rfl, ?_⟩) (by assumption) ?_
          rotate_left
          focus
            intro U hU
            try dsimp only at hU
            go_simp
            try (with_reducible rfl)
          simp only [List.getElem_toArray, List.getElem_cons_succ, List.getElem_cons_zero, Act.put, List.setIfInBounds_toArray, List.set_cons_zero, List.set_cons_succ]
          refine wpAnyH_take (i := 2) (v := ?_) rfl (by kernel_rfl) (by kernel_rfl) (by kernel_rfl) (fun _ _ _ h => h) (Or.inl ⟨by rfl, ?_⟩) (by assumption) ?_
          rotate_left
          focus
            intro U hU
            try dsimp only at hU
            go_simp
            try (with_reducible rfl)
          simp only [List.getElem_toArray, List.getElem_cons_succ, List.getElem_cons_zero, Act.put, List.setIfInBounds_toArray, List.set_cons_zero, List.set_cons_succ]
          refine wpAnyH_take (i := 3) (v := ?_) rfl (by kernel_rfl) (by kernel_rfl) (by kernel_rfl) (fun _ _ _ h => h) (Or.inl ⟨by rfl, ?_⟩) (by assumption) ?_
          rotate_left
          focus
            intro U hU
            try dsimp only at hU
            go_simp
            try (with_reducible rfl)
          simp only [List.getElem_toArray, List.getElem_cons_succ, List.getElem_cons_zero, Act.put, List.setIfInBounds_toArray, List.set_cons_zero, List.set_cons_succ]
          refine wpAnyH_take (i := 4) (v := ?_) rfl (by kernel_rfl) (by kernel_rfl) (by kernel_rfl) (fun _ _ _ h => h) (Or.inl ⟨by rfl, ?_⟩) (by assumption) ?_
          rotate_left
          focus
            intro U hU
            try dsimp only at hU
            go_simp
            try (with_reducible rfl)
          simp only [List.getElem_toArray, List.getElem_cons_succ, List.getElem_cons_zero, Act.put, List.setIfInBounds_toArray, List.set_cons_zero, List.set_cons_succ]
          refine wpAnyH_take (i := 5) (v := ?_) rfl (by kernel_rfl) (by kernel_rfl) (by kernel_rfl) (fun _ _ _ h => h) (Or.inl ⟨by rfl, ?_⟩) (by assumption) ?_
          rotate_left
          focus
            intro U hU
            try dsimp only at hU
            go_simp
            try (with_reducible rfl)
          simp only [List.getElem_toArray, List.getElem_cons_succ, List.getElem_cons_zero, Act.put, List.setIfInBounds_toArray, List.set_cons_zero, List.set_cons_succ]
          refine wpAnyH_take (i := 6) (v := ?_) rfl (by kernel_rfl) (by kernel_rfl) (by kernel_rfl) (fun _ _ _ h => h) (Or.inl ⟨by rfl, ?_⟩) (by assumption) ?_
          rotate_left
          focus
            intro U hU
            try dsimp only at hU
            go_simp
            try (with_reducible rfl)
          simp only [List.getElem_toArray, List.getElem_cons_succ, List.getElem_cons_zero, Act.put, List.setIfInBounds_toArray, List.set_cons_zero, List.set_cons_succ]
          refine wpAnyH_take (i := 7) (v := ?_) rfl (by kernel_rfl) (by kernel_rfl) (by kernel_rfl) (fun _ _ _ h => h) (Or.inl ⟨by rfl, ?_⟩) (by assumption) ?_
          rotate_left
          focus
            intro U hU
            try dsimp only at hU
            go_simp
            try (with_reducible rfl)
          simp only [List.getElem_toArray, List.getElem_cons_succ, List.getElem_cons_zero, Act.put, List.setIfInBounds_toArray, List.set_cons_zero, List.set_cons_succ]
          refine wpAnyH_take (i := 8) (v := ?_) rfl (by kernel_rfl) (by kernel_rfl) (by kernel_rfl) (fun _ _ _ h => h) (Or.inl ⟨by rfl, ?_⟩) (by assumption) ?_
          rotate_left
          focus
            intro U hU
            try dsimp only at hU
            go_simp
            try (with_reducible rfl)
          simp only [List.getElem_toArray, List.getElem_cons_succ, List.getElem_cons_zero, Act.put, List.setIfInBounds_toArray, List.set_cons_zero, List.set_cons_succ]
          refine wpAnyH_take (i := 9) (v := ?_) rfl (by kernel_rfl) (by kernel_rfl) (by kernel_rfl) (fun _ _ _ h => h) (Or.inl ⟨by rfl, ?_⟩) (by assumption) ?_
          rotate_left
          focus
            intro U hU
            try dsimp only at hU
            go_simp
            try (with_reducible rfl)
          simp only [List.getElem_toArray, List.getElem_cons_succ, List.getElem_cons_zero, Act.put, List.setIfInBounds_toArray, List.set_cons_zero, List.set_cons_succ]
          refine wpAnyH_take (i := 10) (v := ?_) rfl (by kernel_rfl) (by kernel_rfl) (by kernel_rfl) (fun _ _ _ h => h) (Or.inl ⟨by rfl, ?_⟩) (by assumption) ?_
          rotate_left
          focus
            intro U hU
            try dsimp only at hU
            go_simp
            try (with_reducible rfl)
          simp only [List.getElem_toArray, List.getElem_cons_succ, List.getElem_cons_zero, Act.put, List.setIfInBounds_toArray, List.set_cons_zero, List.set_cons_succ]
          refine wpAnyH_take (i := 11) (v := ?_) rfl (by kernel_rfl) (by kernel_rfl) (by kernel_rfl) (fun _ _ _ h => h) (Or.inl ⟨by rfl, ?_⟩) (by assumption) ?_
          rotate_left
          focus
            intro U hU
            try dsimp only at hU
            go_simp
            try (with_reducible rfl)
          simp only [List.getElem_toArray, List.getElem_cons_succ, List.getElem_cons_zero, Act.put, List.setIfInBounds_toArray, List.set_cons_zero, List.set_cons_succ]
          refine wpAnyH_take (i := 12) (v := ?_) rfl (by kernel_rfl) (by kernel_rfl) (by kernel_rfl) (fun _ _ _ h => h) (Or.inl ⟨by rfl, ?_⟩) (by assumption) ?_
          rotate_left
          focus
            intro U hU
            try dsimp only at hU
            go_simp
            try (with_reducible rfl)
          simp only [List.getElem_toArray, List.getElem_cons_succ, List.getElem_cons_zero, Act.put, List.setIfInBounds_toArray, List.set_cons_zero, List.set_cons_succ]
          refine wpAnyH_take (i := 13) (v := ?_) rfl (by kernel_rfl) (by kernel_rfl) (by kernel_rfl) (fun _ _ _ h => h) (Or.inl ⟨by rfl, ?_⟩) (by assumption) ?_
          rotate_left
          focus
            intro U hU
            try dsimp only at hU
            go_simp
            try (with_reducible rfl)
          simp only [List.getElem_toArray, List.getElem_cons_succ, List.getElem_cons_zero, Act.put, List.setIfInBounds_toArray, List.set_cons_zero, List.set_cons_succ]
          refine wpAnyH_take (i := 14) (v := ?_) rfl (by kernel_rfl) (by kernel_rfl) (by kernel_rfl) (fun _ _ _ h => h) (Or.inl ⟨by rfl, ?_⟩) (by assumption) ?_
          rotate_left
          focus
            intro U hU
            try dsimp only at hU
            go_simp
            try (with_reducible rfl)
          simp only [List.getElem_toArray, List.getElem_cons_succ, List.getElem_cons_zero, Act.put, List.setIfInBounds_toArray, List.set_cons_zero, List.set_cons_succ]
          refine wpAnyH_take (i := 15) (v := ?_) rfl (by kernel_rfl) (by kernel_rfl) (by kernel_rfl) (fun _ _ _ h => h) (Or.inl ⟨by rfl, ?_⟩) (by assumption) ?_
          rotate_left
          focus
            intro U hU
            try dsimp only at hU
            go_simp
            try (with_reducible rfl)
          simp only [List.getElem_toArray, List.getElem_cons_succ, List.getElem_cons_zero, Act.put, List.setIfInBounds_toArray, List.set_cons_zero, List.set_cons_succ]
          refine wpAnyH_take (i := 16) (v := ?_) rfl (by kernel_rfl) (by kernel_rfl) (by kernel_rfl) (fun _ _ _ h => h) (Or.inl ⟨by rfl, ?_⟩) (by assumption) ?_
          rotate_left
          focus
            intro U hU
            try dsimp only at hU
            go_simp
            try (with_reducible rfl)
          simp only [List.getElem_toArray, List.getElem_cons_succ, List.getElem_cons_zero, Act.put, List.setIfInBounds_toArray, List.set_cons_zero, List.set_cons_succ]
          refine wpAnyH_take (i := 17) (v := ?_) rfl (by kernel_rfl) (by kernel_rfl) (by kernel_rfl) (fun _ _ _ h => h) (Or.inl ⟨by rfl, ?_⟩) (by assumption) ?_
          rotate_left
          focus
            intro U hU
            try dsimp only at hU
            go_simp
            try (with_reducible rfl)
          simp only [List.getElem_toArray, List.getElem_cons_succ, List.getElem_cons_zero, Act.put, List.setIfInBounds_toArray, List.set_cons_zero, List.set_cons_succ]
          refine wpAnyH_take (i := 19) (v := ?_) rfl (by kernel_rfl) (by kernel_rfl) (by kernel_rfl) (fun _ _ _ h => h) (Or.inl ⟨by rfl, ?_⟩) (by assumption) ?_
          rotate_left
          focus
            intro U hU
            try dsimp only at hU
            go_simp
            try (with_reducible rfl)
          simp only [List.getElem_toArray, List.getElem_cons_succ, List.getElem_cons_zero, Act.put, List.setIfInBounds_toArray, List.set_cons_zero, List.set_cons_succ]
          refine wpAnyH_take (i := 20) (v := ?_) rfl (by kernel_rfl) (by kernel_rfl) (by kernel_rfl) (fun _ _ _ h => h) (Or.inl ⟨by rfl, ?_⟩) (by assumption) ?_
          rotate_left
          focus
            intro U hU
            try dsimp only at hU
            go_simp
            try (with_reducible rfl)
          simp only [List.getElem_toArray, List.getElem_cons_succ, List.getElem_cons_zero, Act.put, List.setIfInBounds_toArray, List.set_cons_zero, List.set_cons_succ]
          refine wpAnyH_take (i := 21) (v := ?_) rfl (by kernel_rfl) (by kernel_rfl) (by kernel_rfl) (fun _ _ _ h => h) (Or.inl ⟨by rfl, ?_⟩) (by assumption) ?_
          rotate_left
          focus
            intro U hU
            try dsimp only at hU
            go_simp
            try (with_reducible rfl)
          simp only [List.getElem_toArray, List.getElem_cons_succ, List.getElem_cons_zero, Act.put, List.setIfInBounds_toArray, List.set_cons_zero, List.set_cons_succ]
          refine wpAnyH_ready (rs := [18]) (by kernel_rfl) (by simp) ?_
          refine (AllReadyH.cons rfl (fun K hK => ?_) AllReadyH.nil)
          simp only [List.getElem_toArray, List.getElem_cons_succ, List.getElem_cons_zero]
          go_simp
          refine (HPW2.out k0 (HB6.out.trans (hk0.mono HB6.out.size))).1.mono ?_
          rintro q k1 ⟨A2, c2, rfl, hs2, hb1⟩
          have hk1 := hk0.trans (hb1.mono hk0.size)
          clear hb1
          go_wp2_with fail
          refine hK.out _ _ ?_ (fun hHeld2 => ?_)
          focus
            exact hSU _ hk1
          clear hHeld
          have hHeld := hHeld2
          clear hHeld2 hK K
          try simp only [List.getElem_toArray, List.getElem_cons_succ, List.getElem_cons_zero, Act.put, List.setIfInBounds_toArray, List.set_cons_zero, List.set_cons_succ]
          refine wpAnyH_ready (rs := [22]) (by kernel_rfl) (by simp) ?_
          refine AllReadyH.cons rfl (fun K hK => ?_) AllReadyH.nil
          simp only [List.getElem_toArray, List.getElem_cons_succ, List.getElem_cons_zero]
          go_simp
          refine (HPW2.out k1 (HB6.out.trans (hk1.mono HB6.out.size))).2.mono ?_
          rintro q k2 ⟨A3, c3, rfl, hs3, hb1⟩
          have hk2 := hk1.trans (hb1.mono hk1.size)
          have HSM := hid (same06 _ _ _ _ _ _ PL PL k2 (hs2.below hb1) hs3 (sl_len64 hs2) (sl_len64 hs3))
          rw [show (PL == PL) = true by simp] at HSM
          clear hb1
          go_wp2_with fail
          refine hK.out _ _ ?_ (fun hHeld2 => ?_)
          focus
            exact hSU _ hk2
          clear hHeld
          have hHeld := hHeld2
          clear hHeld2 hK K
          try simp only [List.getElem_toArray, List.getElem_cons_succ, List.getElem_cons_zero, Act.put, List.setIfInBounds_toArray, List.set_cons_zero, List.set_cons_succ]
          refine wpAnyH_ready (rs := [23]) (by kernel_rfl) (by simp) ?_
          refine AllReadyH.cons rfl (fun K hK => ?_) AllReadyH.nil
          simp only [List.getElem_toArray, List.getElem_cons_succ, List.getElem_cons_zero]
          go_simp
          refine HSM.out.mono ?_
          rintro q k3 ⟨rfl, qq, rfl⟩
          have hk3 : RowKit.Below wr.heap.size wr (k2.drewN qq) := below_drewNH hk2 qq
          generalize k2.drewN qq = k3 at *
          go_wp2_with fail
          refine hK.out _ _ ?_ (fun hHeld2 => ?_)
          focus
            exact hSU _ hk3
          clear hHeld
          have hHeld := hHeld2
          clear hHeld2 hK K
          try simp only [List.getElem_toArray, List.getElem_cons_succ, List.getElem_cons_zero, Act.put, List.setIfInBounds_toArray, List.set_cons_zero, List.set_cons_succ]
          refine wpAnyH_take (i := 24) (v := ?_) rfl (by kernel_rfl) (by kernel_rfl) (by kernel_rfl) (fun _ _ _ h => h) (Or.inl ⟨by rfl, ?_⟩) (by assumption) ?_
          rotate_left
          focus
            intro U hU
            try dsimp only at hU
            go_simp
            try (with_reducible rfl)
          simp only [List.getElem_toArray, List.getElem_cons_succ, List.getElem_cons_zero, Act.put, List.setIfInBounds_toArray, List.set_cons_zero, List.set_cons_succ]
          refine wpAnyH_take (i := 25) (v := ?_) rfl (by kernel_rfl) (by kernel_rfl) (by kernel_rfl) (fun _ _ _ h => h) (Or.inl ⟨by rfl, ?_⟩) (by assumption) ?_
          rotate_left
          focus
            intro U hU
            try dsimp only at hU
            go_simp
            try (with_reducible rfl)
          simp only [List.getElem_toArray, List.getElem_cons_succ, List.getElem_cons_zero, Act.put, List.setIfInBounds_toArray, List.set_cons_zero, List.set_cons_succ]
          refine wpAnyH_take (i := 26) (v := ?_) rfl (by kernel_rfl) (by kernel_rfl) (by kernel_rfl) (fun _ _ _ h => h) (Or.inl ⟨by rfl, ?_⟩) (by assumption) ?_
          rotate_left
          focus
            intro U hU
            try dsimp only at hU
            go_simp
            try (with_reducible rfl)
          simp only [List.getElem_toArray, List.getElem_cons_succ, List.getElem_cons_zero, Act.put, List.setIfInBounds_toArray, List.set_cons_zero, List.set_cons_succ]
          refine wpAnyH_take (i := 27) (v := ?_) rfl (by kernel_rfl) (by kernel_rfl) (by kernel_rfl) (fun _ _ _ h => h) (Or.inl ⟨by rfl, ?_⟩) (by assumption) ?_
          rotate_left
          focus
            intro U hU
            try dsimp only at hU
            go_simp
            try (with_reducible rfl)
          simp only [List.getElem_toArray, List.getElem_cons_succ, List.getElem_cons_zero, Act.put, List.setIfInBounds_toArray, List.set_cons_zero, List.set_cons_succ]
          refine wpAnyH_take (i := 29) (v := ?_) rfl (by kernel_rfl) (by kernel_rfl) (by kernel_rfl) (fun _ _ _ h => h) (Or.inl ⟨by rfl, ?_⟩) (by assumption) ?_
          rotate_left
          focus
            intro U hU
            try dsimp only at hU
            go_simp
            try (with_reducible rfl)
          simp only [List.getElem_toArray, List.getElem_cons_succ, List.getElem_cons_zero, Act.put, List.setIfInBounds_toArray, List.set_cons_zero, List.set_cons_succ]
          refine wpAnyH_take (i := 30) (v := ?_) rfl (by kernel_rfl) (by kernel_rfl) (by kernel_rfl) (fun _ _ _ h => h) (Or.inl ⟨by rfl, ?_⟩) (by assumption) ?_
          rotate_left
          focus
            intro U hU
            try dsimp only at hU
            go_simp
            try (with_reducible rfl)
          simp only [List.getElem_toArray, List.getElem_cons_succ, List.getElem_cons_zero, Act.put, List.setIfInBounds_toArray, List.set_cons_zero, List.set_cons_succ]
          refine wpAnyH_ready (rs := [28]) (by kernel_rfl) (by simp) ?_
          refine (AllReadyH.cons rfl (fun K hK => ?_) AllReadyH.nil)
          simp only [List.getElem_toArray, List.getElem_cons_succ, List.getElem_cons_zero]
          go_simp
          refine (HAL2.out k3 (HB6.out.trans (hk3.mono HB6.out.size))).1.mono ?_
          rintro q k4 ⟨A4, c4, rfl, hs4, hb1⟩
          have hk4 := hk3.trans (hb1.mono hk3.size)
          clear hb1
          go_wp2_with fail
          refine hK.out _ _ ?_ (fun hHeld2 => ?_)
          focus
            exact hSU _ hk4
          clear hHeld
          have hHeld := hHeld2
          clear hHeld2 hK K
          try simp only [List.getElem_toArray, List.getElem_cons_succ, List.getElem_cons_zero, Act.put, List.setIfInBounds_toArray, List.set_cons_zero, List.set_cons_succ]
          refine wpAnyH_ready (rs := [31]) (by kernel_rfl) (by simp) ?_
          refine AllReadyH.cons rfl (fun K hK => ?_) AllReadyH.nil
          simp only [List.getElem_toArray, List.getElem_cons_succ, List.getElem_cons_zero]
          go_simp
          refine (HAL2.out k4 (HB6.out.trans (hk4.mono HB6.out.size))).2.mono ?_
          rintro q k5 ⟨A5, c5, rfl, hs5, hb1⟩
          have hk5 := hk4.trans (hb1.mono hk4.size)
          have HOU := hid (outs_any _ _ _ _ AL k5 (hs4.below hb1) hs5)
          clear hb1
          go_wp2_with fail
          refine hK.out _ _ ?_ (fun hHeld2 => ?_)
          focus
            exact hSU _ hk5
          clear hHeld
          have hHeld := hHeld2
          clear hHeld2 hK K
          try simp only [List.getElem_toArray, List.getElem_cons_succ, List.getElem_cons_zero, Act.put, List.setIfInBounds_toArray, List.set_cons_zero, List.set_cons_succ]
          refine wpAnyH_ready (rs := [32]) (by kernel_rfl) (by simp) ?_
          refine AllReadyH.cons rfl (fun K hK => ?_) AllReadyH.nil
          simp only [List.getElem_toArray, List.getElem_cons_succ, List.getElem_cons_zero]
          go_simp
          refine HOU.out.mono ?_
          rintro q k6 ⟨rfl, hb1⟩
          have hk6 := hk5.trans (hb1.mono hk5.size)
          clear hb1
          go_wp2_with fail
          refine hK.out _ _ ?_ (fun hHeld2 => ?_)
          focus
            exact hSU _ hk6
          clear hHeld
          have hHeld := hHeld2
          clear hHeld2 hK K
          try simp only [List.getElem_toArray, List.getElem_cons_succ, List.getElem_cons_zero, Act.put, List.setIfInBounds_toArray, List.set_cons_zero, List.set_cons_succ]
          refine wpAnyH_take (i := 33) (v := ?_) rfl (by kernel_rfl) (by kernel_rfl) (by kernel_rfl) (fun _ _ _ h => h) (Or.inl ⟨by rfl, ?_⟩) (by assumption) ?_
          rotate_left
          focus
            intro U hU
            try dsimp only at hU
            go_simp
            try (with_reducible rfl)
          simp only [List.getElem_toArray, List.getElem_cons_succ, List.getElem_cons_zero, Act.put, List.setIfInBounds_toArray, List.set_cons_zero, List.set_cons_succ]
          refine wpAnyH_take (i := 34) (v := ?_) rfl (by kernel_rfl) (by kernel_rfl) (by kernel_rfl) (fun _ _ _ h => h) (Or.inl ⟨by rfl, ?_⟩) (by assumption) ?_
          rotate_left
          focus
            intro U hU
            try dsimp only at hU
            go_simp
            try (with_reducible rfl)
          simp only [List.getElem_toArray, List.getElem_cons_succ, List.getElem_cons_zero, Act.put, List.setIfInBounds_toArray, List.set_cons_zero, List.set_cons_succ]
          refine wpAnyH_ready (rs := [35]) (by kernel_rfl) (by simp) ?_
          refine AllReadyH.cons rfl (fun K hK => ?_) AllReadyH.nil
          simp only [List.getElem_toArray, List.getElem_cons_succ, List.getElem_cons_zero]
          go_simp
          refine (HW.out k6).mono ?_
          rintro q k7 ⟨rfl, hb1⟩
          have hk7 := hk6.trans (hb1.mono hk6.size)
          clear hb1
          go_wp2_with fail
          refine hK.out _ _ ?_ (fun hHeld2 => ?_)
          focus
            exact hSU _ hk7
          clear hHeld
          have hHeld := hHeld2
          clear hHeld2 hK K
          try simp only [List.getElem_toArray, List.getElem_cons_succ, List.getElem_cons_zero, Act.put, List.setIfInBounds_toArray, List.set_cons_zero, List.set_cons_succ]
          refine wpAnyH_take (i := 36) (v := ?_) rfl (by kernel_rfl) (by kernel_rfl) (by kernel_rfl) (fun _ _ _ h => h) (Or.inl ⟨by rfl, ?_⟩) (by assumption) ?_
          rotate_left
          focus
            intro U hU
            try dsimp only at hU
            go_simp
            try (with_reducible rfl)
          simp only [List.getElem_toArray, List.getElem_cons_succ, List.getElem_cons_zero, Act.put, List.setIfInBounds_toArray, List.set_cons_zero, List.set_cons_succ]
          refine wpAnyH_take (i := 37) (v := ?_) rfl (by kernel_rfl) (by kernel_rfl) (by kernel_rfl) (fun _ _ _ h => h) (Or.inl ⟨by rfl, ?_⟩) (by assumption) ?_
          rotate_left
          focus
            intro U hU
            try dsimp only at hU
            go_simp
            try (with_reducible rfl)
          simp only [List.getElem_toArray, List.getElem_cons_succ, List.getElem_cons_zero, Act.put, List.setIfInBounds_toArray, List.set_cons_zero, List.set_cons_succ]
          refine wpAnyH_done (by kernel_rfl) ?_ _
          have HFIN := hid (HB6.out.trans (hk7.mono HB6.out.size))
          clear hHeld hSU
          go_wp2
          go_ret
          exact ⟨rfl, HFIN.out⟩
end Go.Proofs.Ytgakobolhmdnnaa
