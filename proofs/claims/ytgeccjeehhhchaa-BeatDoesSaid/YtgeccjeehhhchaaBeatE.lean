/- BeatDoes, as a walk. -/
import Derived.Test.YtgeccjeehhhchaaBeatF
namespace Go.Proofs.Ytgeccjeehhhchaa
open Go.RowKit Go.Sort
set_option linter.unusedVariables false
set_option linter.unusedSimpArgs false

set_option maxRecDepth 20000 in
set_option maxHeartbeats 4000000 in
theorem beatDoes_small (s t x y z : Int) (A : Option Addr) (cap : Nat) (l : List Int) (W : World) (h : Sl W 1 A l.length cap (icells .i64 l)) (hlen : l.length ≤ 100) (ht : t ≤ 9223372036854775807) (hl : ∀ a ∈ l, -9223372036854775808 ≤ a) :
    Calls Try.prog 3 #[.agg #[.int .i64 s, .int .i64 t, .slice A l.length cap], .agg #[.int .i64 x, .int .i64 y, .int .i64 z]] W fun e w' => e = .returned (.bool true) ∧ Below W.heap.size W w' := by
  have HS := hid h
  have HT := hid ht
  have HL := hid hl
  have h100 : (l.length : Int) ≤ 100 := by omega
  clear h ht hl
  go_enter Try.func3, Try.ntmps3
  go_upto_region 3 with (fail)
  refine at_world (fun w => w.heap[W.heap.size]? = some (.cells #[.int .i64 s, .int .i64 t, .slice A l.length cap] 24 (0, 0)) ∧ w.heap[W.heap.size + 1]? = some (.cells #[.int .i64 x, .int .i64 y, .int .i64 z] 25 (0, 0)) ∧ Below W.heap.size W w) ⟨heap_first _ _ _, heap_second _ _ _, below2 _ _ _⟩ ?_
  rintro w2 ⟨k0, k1, hb0⟩
  have K0 := hid (And.intro k0 (And.intro k1 hb0))
  have HA := hid (HS.out.below hb0)
  obtain ⟨⟨p0, p1, p2⟩, f0, f1, f2⟩ := three_cells k0
  clear k0 k1 hb0
  go_cut [5] from 13 to 21 (fun p wx => ∃ Z, p = .pointer (some ⟨Z, 0, none⟩) ∧ w2.heap.size ≤ Z ∧ EarAt wx Z s t l.length l ∧ Below w2.heap.size w2 wx)
  case first =>
    have hS : ∀ U, Below w2.heap.size w2 U → ((U.cell? ⟨W.heap.size, 0, none⟩ = some (.int .i64 s) ∧ U.cell? ⟨W.heap.size, 1, none⟩ = some (.int .i64 t) ∧ U.cell? ⟨W.heap.size, 2, none⟩ = some (.slice A l.length cap)) ∧ Below w2.heap.size w2 U) := fun U h => ⟨⟨cellb h p0, cellb h p1, cellb h p2⟩, h⟩
    go_region_held3 (fun w' => (w'.cell? ⟨W.heap.size, 0, none⟩ = some (.int .i64 s) ∧ w'.cell? ⟨W.heap.size, 1, none⟩ = some (.int .i64 t) ∧ w'.cell? ⟨W.heap.size, 2, none⟩ = some (.slice A l.length cap)) ∧ Below w2.heap.size w2 w')
      (exact hS _ (by repeat' (first | with_reducible exact Below.refl _ _ | with_reducible exact And.right (by assumption) | with_reducible assumption | with_reducible refine below_drew ?_ | with_reducible refine bel_alloc ?_ _ | with_reducible refine Below.setCell ?_ (by first | (simp; done) | (simp; omega)) _)))
      (first
        | (refine step_append_sl rfl (.tmp 17) (.tmp 19) 22 rfl w2.heap.size 3 Try.underlying22 info_int rfl (by omega) rfl (by first | exact own_mono (own_empty _ _ _) (by simp) | exact own_mono ((own_empty _ _ _).alloc _) (by simp) | exact own_emptyH _ _ _ _ _ (by simp) (by omega)) rfl (HA.out.below (And.right (by assumption))) (icells_one _ _) (by unfold maxLen; omega) (by omega) (show Below w2.heap.size w2 _ from And.right (by assumption)).size ?_
           intro v5 w5 ho5 hb5 hsz5 hk5
           simp only [Nat.zero_add, List.nil_append] at ho5
           obtain ⟨A5, c5, rfl, hs5⟩ := Sl.of_own ho5
           have hb5' : Below w2.heap.size w2 w5 := (show Below w2.heap.size w2 _ from And.right (by assumption)).trans hb5
           have n5 := hb5'.size
           simp at hsz5
           clear hb5
           first
           | (have y0 : w5.heap[w2.heap.size + 1]? = some (.cells #[.int .i64 0, .int .i64 0, .slice none 0 0] 28 (0, 0)) := (hk5 (w2.heap.size + 1) (by omega) (lt2 _ _ _) (fun e => absurd (Option.some.inj (show some (w2.heap.size) = some (w2.heap.size + 1) from e)) (by omega))).trans (heap_second w2 _ _)
              clear hk5
              obtain ⟨⟨y1, y2, y3⟩, y4, y5, y6⟩ := three_cells y0)
           | (have y0 : w5.heap[w2.heap.size]? = some (.cells #[.int .i64 0, .int .i64 0, .slice none 0 0] 28 (0, 0)) := (hk5 (w2.heap.size) (by omega) (lt1 _ _ _) (fun e => absurd (Option.some.inj (show some (w2.heap.size + 1) = some (w2.heap.size) from e)) (by omega))).trans (heap_first w2 _ _)
              clear hk5
              obtain ⟨⟨y1, y2, y3⟩, y4, y5, y6⟩ := three_cells y0)
           | clear hk5))
    · go_wp2_with fail
      go_meet
      exact ⟨_, rfl, n5, ⟨A5, c5, heap_alloc_new _ _, hs5.below ((Below.refl _ _).alloc (Nat.le_refl _) _)⟩, hb5'.alloc n5 _⟩
    · go_wp2_with fail
      go_meet
      exact ⟨_, rfl, by omega, earAt_set ho5 y0 s t, (by repeat' (first | with_reducible exact hb5' | with_reducible refine Below.setCell ?_ (by simp) _))⟩
    · go_wp2_with fail
      go_meet
      exact ⟨_, rfl, by omega, earAt_set ho5 y0 s t, (by repeat' (first | with_reducible exact hb5' | with_reducible refine Below.setCell ?_ (by simp) _))⟩
  case rest =>
    obtain ⟨Z, rfl, hZ, ⟨A3, c3, k3, hs3⟩, hb3⟩ := hcut
    obtain ⟨⟨p0, p1, p2⟩, f0, f1, f2⟩ := three_cells k3
    have hb02 := K0.out.2.2
    have K1 := hid (And.intro (keep0 K0.out.1 hb3) (keep0 K0.out.2.1 hb3))
    obtain ⟨⟨n0, n1, n2⟩, _⟩ := three_cells K1.out.2
    have hbc := hid (hb02.trans (hb3.mono hb02.size))
    clear hb02
    go_upto_region 4 with (fail)
    go_cut [6, 7] from 22 to 27 (fun p q wx => ∃ Z6 Z7, p = .pointer (some ⟨Z6, 0, none⟩) ∧ q = .pointer (some ⟨Z7, 0, none⟩) ∧ EarAt wx Z6 s t l.length (tk t l) ∧ EarAt wx Z7 s t l.length (hr x l) ∧ Below wc.heap.size wc wx)
    case first =>
      have hS : ∀ U, Below wc.heap.size wc U → (((U.cell? ⟨Z, 0, none⟩ = some (.int .i64 s) ∧ U.cell? ⟨Z, 1, none⟩ = some (.int .i64 t) ∧ U.cell? ⟨Z, 2, none⟩ = some (.slice A3 l.length c3)) ∧ U.cell? ⟨W.heap.size + 1, 0, none⟩ = some (.int .i64 x)) ∧ Below wc.heap.size wc U) := fun U h => ⟨⟨⟨cellb h p0, cellb h p1, cellb h p2⟩, cellb h n0⟩, h⟩
      go_region_held3 (fun w' => ((w'.cell? ⟨Z, 0, none⟩ = some (.int .i64 s) ∧ w'.cell? ⟨Z, 1, none⟩ = some (.int .i64 t) ∧ w'.cell? ⟨Z, 2, none⟩ = some (.slice A3 l.length c3)) ∧ w'.cell? ⟨W.heap.size + 1, 0, none⟩ = some (.int .i64 x)) ∧ Below wc.heap.size wc w')
        (exact hS _ (by repeat' (first | with_reducible exact Below.refl _ _ | with_reducible exact And.right (by assumption) | with_reducible assumption | with_reducible refine below_drew ?_ | with_reducible refine bel_alloc ?_ _ | with_reducible refine Below.setCell ?_ (by first | (simp; done) | (simp; omega)) _)))
        (first
          | (go_at_call 16
             refine (btick_any s t A3 l.length c3 l _ (hs3.below (And.right (by assumption))) (by omega) HT.out HL.out).mono ?_
             rintro e w6 ⟨v6, rfl, hb6, ho6⟩
             obtain ⟨A6, c6, rfl, _⟩ := Sl.of_own ho6
             have hb6' : Below wc.heap.size wc w6 := bel_trans (And.right (by assumption)) hb6
             have n6 := hb6'.size
             first
             | (have y0 := zd2 hb6
                obtain ⟨y1, y2⟩ := y0)
             | (have y1 := zd1 hb6)
             | skip)
          | (go_at_call 17
             refine (bhear_any s t A3 l.length c3 l x _ (hs3.below (And.right (by assumption))) (by omega)).mono ?_
             rintro e w7 ⟨v7, rfl, hb7, ho7⟩
             obtain ⟨A7, c7, rfl, _⟩ := Sl.of_own ho7
             have hb7' : Below wc.heap.size wc w7 := bel_trans (And.right (by assumption)) hb7
             have n7 := hb7'.size
             first
             | (have q0 := zu2 hb7
                obtain ⟨q1, y3, y4⟩ := q0)
             | (have q0 := zu1 hb7
                obtain ⟨q1, y3⟩ := q0)
             | (have q1 := hb7)
             have ho6' := own_keep ho6 q1
             first
             | (have r1 := keep0 y1 q1
                have r2 := keep0 y2 q1
                clear y1 y2
                obtain ⟨⟨a1, a2, a3⟩, a4, a5, a6⟩ := three_cells r1
                obtain ⟨⟨b1, b2, b3⟩, b4, b5, b6⟩ := three_cells r2)
             | (have r1 := keep0 y1 q1
                have l3 : wc.heap.size < w6.heap.size := lt_of_block y1
                have r2 := y3
                clear y1
                have l4 : w6.heap.size ≠ wc.heap.size := by omega
                have l5 : wc.heap.size ≠ w6.heap.size := by omega
                have l1 := lt_of_block r1
                have l2 := lt_of_block r2
                obtain ⟨⟨a1, a2, a3⟩, a4, a5, a6⟩ := three_cells r1
                obtain ⟨⟨b1, b2, b3⟩, b4, b5, b6⟩ := three_cells r2)
             | (have r1 := keep0 y1 q1
                clear y1
                have l1 := lt_of_block r1
                obtain ⟨⟨a1, a2, a3⟩, a4, a5, a6⟩ := three_cells r1)
             | (have r1 := y3
                have r2 := y4
                clear y3 y4
                obtain ⟨⟨a1, a2, a3⟩, a4, a5, a6⟩ := three_cells r1
                obtain ⟨⟨b1, b2, b3⟩, b4, b5, b6⟩ := three_cells r2)
             | (have r1 := y3
                have l1 := lt_of_block r1
                obtain ⟨⟨a1, a2, a3⟩, a4, a5, a6⟩ := three_cells r1)
             | skip))
      · go_wp2_with fail
        go_meet
        have ee := endA (s := s) (t := t) ho6' ho7
        exact ⟨_, _, rfl, rfl, ee.1, ee.2, (by repeat' (first | with_reducible exact hb7' | with_reducible refine bel_alloc ?_ _ | with_reducible refine Below.setCell ?_ (by first | exact Nat.le_refl _ | exact n6 | exact n7 | exact Nat.le_succ _ | exact Nat.le_succ_of_le n6) _))⟩
      · go_wp2_with fail
        go_meet
        have ee := endA (s := s) (t := t) ho7 ho6'
        exact ⟨_, _, rfl, rfl, ee.2, ee.1, (by repeat' (first | with_reducible exact hb7' | with_reducible refine bel_alloc ?_ _ | with_reducible refine Below.setCell ?_ (by first | exact Nat.le_refl _ | exact n6 | exact n7 | exact Nat.le_succ _ | exact Nat.le_succ_of_le n6) _))⟩
      · go_wp2_with fail
        go_meet
        have ee := endB (s := s) (t := t) ho6' ho7 r1
        exact ⟨_, _, rfl, rfl, ee.1, ee.2, (by repeat' (first | with_reducible exact hb7' | with_reducible refine bel_alloc ?_ _ | with_reducible refine Below.setCell ?_ (by first | exact Nat.le_refl _ | exact n6 | exact n7 | exact Nat.le_succ _ | exact Nat.le_succ_of_le n6) _))⟩
      · go_wp2_with fail
        go_meet
        have ee := endC (s := s) (t := t) ho6' ho7 r1 r2 (by omega)
        exact ⟨_, _, rfl, rfl, ee.1, ee.2, (by repeat' (first | with_reducible exact hb7' | with_reducible refine bel_alloc ?_ _ | with_reducible refine Below.setCell ?_ (by first | exact Nat.le_refl _ | exact n6 | exact n7 | exact Nat.le_succ _ | exact Nat.le_succ_of_le n6) _))⟩
      · go_wp2_with fail
        go_meet
        have ee := endB (s := s) (t := t) ho7 ho6' r1
        exact ⟨_, _, rfl, rfl, ee.2, ee.1, (by repeat' (first | with_reducible exact hb7' | with_reducible refine bel_alloc ?_ _ | with_reducible refine Below.setCell ?_ (by first | exact Nat.le_refl _ | exact n6 | exact n7 | exact Nat.le_succ _ | exact Nat.le_succ_of_le n6) _))⟩
      · go_wp2_with fail
        go_meet
        have ee := endC (s := s) (t := t) ho6' ho7 r2 r1 (by omega)
        exact ⟨_, _, rfl, rfl, ee.1, ee.2, (by repeat' (first | with_reducible exact hb7' | with_reducible refine bel_alloc ?_ _ | with_reducible refine Below.setCell ?_ (by first | exact Nat.le_refl _ | exact n6 | exact n7 | exact Nat.le_succ _ | exact Nat.le_succ_of_le n6) _))⟩
      · go_wp2_with fail
        go_meet
        have ee := endB (s := s) (t := t) ho6' ho7 r1
        exact ⟨_, _, rfl, rfl, ee.1, ee.2, (by repeat' (first | with_reducible exact hb7' | with_reducible refine bel_alloc ?_ _ | with_reducible refine Below.setCell ?_ (by first | exact Nat.le_refl _ | exact n6 | exact n7 | exact Nat.le_succ _ | exact Nat.le_succ_of_le n6) _))⟩
      · go_wp2_with fail
        go_meet
        have ee := endC (s := s) (t := t) ho6' ho7 r1 r2 (by omega)
        exact ⟨_, _, rfl, rfl, ee.1, ee.2, (by repeat' (first | with_reducible exact hb7' | with_reducible refine bel_alloc ?_ _ | with_reducible refine Below.setCell ?_ (by first | exact Nat.le_refl _ | exact n6 | exact n7 | exact Nat.le_succ _ | exact Nat.le_succ_of_le n6) _))⟩
      · go_wp2_with fail
        go_meet
        have ee := endC (s := s) (t := t) ho6' ho7 r1 r2 (by omega)
        exact ⟨_, _, rfl, rfl, ee.1, ee.2, (by repeat' (first | with_reducible exact hb7' | with_reducible refine bel_alloc ?_ _ | with_reducible refine Below.setCell ?_ (by first | exact Nat.le_refl _ | exact n6 | exact n7 | exact Nat.le_succ _ | exact Nat.le_succ_of_le n6) _))⟩
      · go_wp2_with fail
        go_meet
        have ee := endB (s := s) (t := t) ho7 ho6' r1
        exact ⟨_, _, rfl, rfl, ee.2, ee.1, (by repeat' (first | with_reducible exact hb7' | with_reducible refine bel_alloc ?_ _ | with_reducible refine Below.setCell ?_ (by first | exact Nat.le_refl _ | exact n6 | exact n7 | exact Nat.le_succ _ | exact Nat.le_succ_of_le n6) _))⟩
      · go_wp2_with fail
        go_meet
        have ee := endC (s := s) (t := t) ho6' ho7 r2 r1 (by omega)
        exact ⟨_, _, rfl, rfl, ee.1, ee.2, (by repeat' (first | with_reducible exact hb7' | with_reducible refine bel_alloc ?_ _ | with_reducible refine Below.setCell ?_ (by first | exact Nat.le_refl _ | exact n6 | exact n7 | exact Nat.le_succ _ | exact Nat.le_succ_of_le n6) _))⟩
      · go_wp2_with fail
        go_meet
        have ee := endC (s := s) (t := t) ho6' ho7 r2 r1 (by omega)
        exact ⟨_, _, rfl, rfl, ee.1, ee.2, (by repeat' (first | with_reducible exact hb7' | with_reducible refine bel_alloc ?_ _ | with_reducible refine Below.setCell ?_ (by first | exact Nat.le_refl _ | exact n6 | exact n7 | exact Nat.le_succ _ | exact Nat.le_succ_of_le n6) _))⟩
    case rest =>
      obtain ⟨Z6, Z7, rfl, rfl, ⟨A6, c6, k6, hs6⟩, ⟨A7, c7, k7, hs7⟩, hb4⟩ := hcut
      have K4 := hid (And.intro (keep0 K1.out.1 hb4) (And.intro (keep0 K1.out.2 hb4) (And.intro (keep0 k3 hb4) (And.intro k6 k7))))
      have HA4 := hid ((HA.out.below hb3).below hb4)
      have hs34 := hid (hs3.below hb4)
      have hbd := hid (hbc.out.trans (hb4.mono hbc.out.size))
      clear p0 p1 p2 f0 f1 f2 n0 n1 n2 k3 k6 k7 hs3 hb3 hb4 HA K1 hbc
      obtain ⟨⟨b0, b1, b2⟩, _⟩ := three_cells K4.out.1
      obtain ⟨⟨n0, n1, n2⟩, _⟩ := three_cells K4.out.2.1
      obtain ⟨⟨d0, d1, d2⟩, _⟩ := three_cells K4.out.2.2.2.1
      obtain ⟨⟨e0, e1, e2⟩, _⟩ := three_cells K4.out.2.2.2.2
      have t1 : ((s == s) && (t == t) && (tk t l == tk t l)) = true := by simp
      have t2 : ((s == s) && (t == t) && (hr x l == hr x l)) = true := by simp
      have t3 : ((y == y) && (z == z) && (List.replicate (nw x) (0 : Int) == List.replicate (nw x) 0)) = true := by simp
      have H8 : nw x ≤ 1000 := by unfold nw; omega
      go_upto_region 5 with (fail)
      go_cut [59] from 28 to 58 (fun r wx => r = .bool false ∧ Below wc.heap.size wc wx)
      case first =>
        have hS : ∀ w', Below wc.heap.size wc w' → (((w'.cell? ⟨Z6, 0, none⟩ = some (.int .i64 s) ∧ w'.cell? ⟨Z6, 1, none⟩ = some (.int .i64 t) ∧ w'.cell? ⟨Z6, 2, none⟩ = some (.slice A6 l.length c6)) ∧ (w'.cell? ⟨Z7, 0, none⟩ = some (.int .i64 s) ∧ w'.cell? ⟨Z7, 1, none⟩ = some (.int .i64 t) ∧ w'.cell? ⟨Z7, 2, none⟩ = some (.slice A7 l.length c7)) ∧ (w'.cell? ⟨W.heap.size, 0, none⟩ = some (.int .i64 s) ∧ w'.cell? ⟨W.heap.size, 1, none⟩ = some (.int .i64 t) ∧ w'.cell? ⟨W.heap.size, 2, none⟩ = some (.slice A l.length cap)) ∧ (w'.cell? ⟨W.heap.size + 1, 0, none⟩ = some (.int .i64 x) ∧ w'.cell? ⟨W.heap.size + 1, 1, none⟩ = some (.int .i64 y) ∧ w'.cell? ⟨W.heap.size + 1, 2, none⟩ = some (.int .i64 z))) ∧ Below wc.heap.size wc w') := fun w' h => ⟨⟨⟨cellb h d0, cellb h d1, cellb h d2⟩, ⟨cellb h e0, cellb h e1, cellb h e2⟩, ⟨cellb h b0, cellb h b1, cellb h b2⟩, cellb h n0, cellb h n1, cellb h n2⟩, h⟩
        go_region_held3 (fun w' => ((w'.cell? ⟨Z6, 0, none⟩ = some (.int .i64 s) ∧ w'.cell? ⟨Z6, 1, none⟩ = some (.int .i64 t) ∧ w'.cell? ⟨Z6, 2, none⟩ = some (.slice A6 l.length c6)) ∧ (w'.cell? ⟨Z7, 0, none⟩ = some (.int .i64 s) ∧ w'.cell? ⟨Z7, 1, none⟩ = some (.int .i64 t) ∧ w'.cell? ⟨Z7, 2, none⟩ = some (.slice A7 l.length c7)) ∧ (w'.cell? ⟨W.heap.size, 0, none⟩ = some (.int .i64 s) ∧ w'.cell? ⟨W.heap.size, 1, none⟩ = some (.int .i64 t) ∧ w'.cell? ⟨W.heap.size, 2, none⟩ = some (.slice A l.length cap)) ∧ (w'.cell? ⟨W.heap.size + 1, 0, none⟩ = some (.int .i64 x) ∧ w'.cell? ⟨W.heap.size + 1, 1, none⟩ = some (.int .i64 y) ∧ w'.cell? ⟨W.heap.size + 1, 2, none⟩ = some (.int .i64 z))) ∧ Below wc.heap.size wc w')
          (exact hS _ (by repeat' (first | with_reducible exact Below.refl _ _ | with_reducible exact And.right (by assumption) | with_reducible assumption | with_reducible refine below_drew ?_)))
          (first
            | (go_at_call 19
               refine (rtick37 s t A l.length cap l _ (HA4.out.below (And.right (by assumption))) (by omega) HT.out HL.out).mono ?_
               rintro e u1 ⟨v1, rfl, g1, o1⟩
               obtain ⟨A30, c30, rfl, s30⟩ := Sl.of_own o1
               have g1' : Below wc.heap.size wc u1 := bel_trans (And.right (by assumption)) g1)
            | (go_at_call 20
               refine (rhear37 s t x A l.length cap l _ (HA4.out.below (And.right (by assumption))) (by omega) HT.out HL.out).mono ?_
               rintro e u3 ⟨v3, rfl, g3, o3⟩
               obtain ⟨A38, c38, rfl, s38⟩ := Sl.of_own o3
               have g3' : Below wc.heap.size wc u3 := bel_trans (And.right (by assumption)) g3)
            | (go_at_call 21
               refine (bnew_any x y z _).mono ?_
               rintro e u5 ⟨v5, rfl, g5, o5⟩
               obtain ⟨A49, c49, rfl, s49⟩ := Sl.of_own o5
               have g5' : Below wc.heap.size wc u5 := bel_trans (And.right (by assumption)) g5)
            | (go_at_call 22
               refine (rnew37_any x y z _).mono ?_
               rintro e u6 ⟨v6, rfl, g6, o6⟩
               obtain ⟨A56, c56, rfl, s56⟩ := Sl.of_own o6
               have s49' := s49.below g6
               have g6' : Below wc.heap.size wc u6 := bel_trans (And.right (by assumption)) g6)
            | (go_at_call 18
               refine (is37_any y z y z A49 A56 (nw x) c49 (nw x) c56 _ _ _ s49' s56 H8 H8).mono ?_
               rintro e u7 ⟨rfl, g7⟩
               rw [t3]
               have g7' : Below wc.heap.size wc u7 := bel_trans (And.right (by assumption)) g7)
            | (go_at_call 18
               refine (is37_any s t s t A7 A38 l.length c7 l.length c38 (hr x l) (hr x l) _ (hs7.below (And.right (by assumption))) s38 (by omega) (by omega)).mono ?_
               rintro e u4 ⟨rfl, g4⟩
               rw [t2]
               have g4' : Below wc.heap.size wc u4 := bel_trans (And.right (by assumption)) g4)
            | (go_at_call 18
               refine (is37_any s t s t A6 A30 l.length c6 l.length c30 (tk t l) (tk t l) _ (hs6.below (And.right (by assumption))) s30 (by omega) (by omega)).mono ?_
               rintro e u2 ⟨rfl, g2⟩
               rw [t1]
               have g2' : Below wc.heap.size wc u2 := bel_trans (And.right (by assumption)) g2))
        all_goals
          go_wp2_with fail
          go_meet
          exact ⟨rfl, And.right (by assumption)⟩
      case rest =>
        obtain ⟨rfl, hb5⟩ := hcut
        have K5 := hid (And.intro (keep0 K4.out.1 hb5) (And.intro (keep0 K4.out.2.1 hb5) (And.intro (keep0 K4.out.2.2.1 hb5) (keep0 K4.out.2.2.2.1 hb5))))
        have HA5 := hid (HA4.out.below hb5)
        have hs35 := hid (hs34.out.below hb5)
        have hs65 := hid (hs6.below hb5)
        have hbe := hid (hbd.out.trans (hb5.mono hbd.out.size))
        clear b0 b1 b2 n0 n1 n2 d0 d1 d2 e0 e1 e2 K4 HA4 hs34 hs6 hs7 hbd hb5 t1 t2 t3 H8
        obtain ⟨⟨b0, b1, b2⟩, _⟩ := three_cells K5.out.1
        obtain ⟨⟨n0, n1, n2⟩, _⟩ := three_cells K5.out.2.1
        obtain ⟨⟨e0, e1, e2⟩, _⟩ := three_cells K5.out.2.2.1
        obtain ⟨⟨d0, d1, d2⟩, _⟩ := three_cells K5.out.2.2.2
        have C1 := hid (fun U (hU : Below wc.heap.size wc U) => silent_any s t A3 l.length c3 l x U (hs35.out.below hU))
        have C2 := hid (fun U (hU : Below wc.heap.size wc U) => rsilent37_any s t A l.length cap l x U (HA5.out.below hU))
        have C3 := hid (fun U (hU : Below wc.heap.size wc U) => is37_any s t s t A3 A l.length c3 l.length cap l l U (hs35.out.below hU) (HA5.out.below hU) (by omega) (by omega))
        have C4 := hid (fun U (hU : Below wc.heap.size wc U) => bsame_any s t s t A3 A3 l.length c3 l.length c3 l l U (hs35.out.below hU) (hs35.out.below hU) (by omega) (by omega))
        have C5 := hid (fun U (hU : Below wc.heap.size wc U) => bsame_any s t s t A3 A6 l.length c3 l.length c6 l (tk t l) U (hs35.out.below hU) (hs65.out.below hU) (by omega) (by omega))
        have C6 := hid (fun U (hU : Below wc.heap.size wc U) => rtick37 s t A l.length cap l U (HA5.out.below hU) (by omega) HT.out HL.out)
        have C7 := hid (fun A30 c30 U (hU : Below wc.heap.size wc U) (h30 : Sl U 1 A30 l.length c30 (icells .i64 (tk t l))) => same06 A A30 l.length cap l.length c30 l (tk t l) U (HA5.out.below hU) h30 (by omega) (by omega))
        rw [show ((s == s) && (t == t) && (l == l)) = true by simp] at C3 C4
        rw [show ((s == s) && (t == t) && (l == tk t l)) = (l == tk t l) by simp] at C5
        generalize sil s t x l = q1 at C1 C2
        generalize (l == tk t l) = q2 at C5 C7
        have hF : ∀ (A' : Option Addr) (c' : Nat) (w : World), (Instr.field 24 (Value.agg #[.int .i64 s, .int .i64 t, .slice A' l.length c']) 2).run Try.prog w = .ok (.slice A' l.length c') w := fun _ _ _ => by kernel_rfl
        have t1 : (q1 == q1) = true := by simp
        have t2 : (q2 == q2) = true := by simp
        go_upto_region 7 with (fail)
        have hS : ∀ w', Below wc.heap.size wc w' → (((w'.cell? ⟨Z, 0, none⟩ = some (.int .i64 s) ∧ w'.cell? ⟨Z, 1, none⟩ = some (.int .i64 t) ∧ w'.cell? ⟨Z, 2, none⟩ = some (.slice A3 l.length c3)) ∧ (w'.cell? ⟨Z6, 0, none⟩ = some (.int .i64 s) ∧ w'.cell? ⟨Z6, 1, none⟩ = some (.int .i64 t) ∧ w'.cell? ⟨Z6, 2, none⟩ = some (.slice A6 l.length c6)) ∧ (w'.cell? ⟨W.heap.size, 0, none⟩ = some (.int .i64 s) ∧ w'.cell? ⟨W.heap.size, 1, none⟩ = some (.int .i64 t) ∧ w'.cell? ⟨W.heap.size, 2, none⟩ = some (.slice A l.length cap)) ∧ w'.cell? ⟨W.heap.size + 1, 0, none⟩ = some (.int .i64 x)) ∧ Below wc.heap.size wc w') := fun w' h => ⟨⟨⟨cellb h e0, cellb h e1, cellb h e2⟩, ⟨cellb h d0, cellb h d1, cellb h d2⟩, ⟨cellb h b0, cellb h b1, cellb h b2⟩, cellb h n0⟩, h⟩
        go_region_held3 (fun w' => ((w'.cell? ⟨Z, 0, none⟩ = some (.int .i64 s) ∧ w'.cell? ⟨Z, 1, none⟩ = some (.int .i64 t) ∧ w'.cell? ⟨Z, 2, none⟩ = some (.slice A3 l.length c3)) ∧ (w'.cell? ⟨Z6, 0, none⟩ = some (.int .i64 s) ∧ w'.cell? ⟨Z6, 1, none⟩ = some (.int .i64 t) ∧ w'.cell? ⟨Z6, 2, none⟩ = some (.slice A6 l.length c6)) ∧ (w'.cell? ⟨W.heap.size, 0, none⟩ = some (.int .i64 s) ∧ w'.cell? ⟨W.heap.size, 1, none⟩ = some (.int .i64 t) ∧ w'.cell? ⟨W.heap.size, 2, none⟩ = some (.slice A l.length cap)) ∧ w'.cell? ⟨W.heap.size + 1, 0, none⟩ = some (.int .i64 x)) ∧ Below wc.heap.size wc w')
          (exact hS _ (by repeat' (first | with_reducible exact Below.refl _ _ | with_reducible exact And.right (by assumption) | with_reducible assumption | with_reducible refine below_drew ?_)))
          (first
            | (go_at_call 23
               refine ((C1.out _ (And.right (by assumption)))).mono ?_
               rintro e u1 ⟨rfl, g1⟩
               have g1' : Below wc.heap.size wc u1 := bel_trans (And.right (by assumption)) g1)
            | (go_at_call 24
               refine ((C2.out _ (And.right (by assumption)))).mono ?_
               rintro e u2 ⟨rfl, g2⟩
               have g2' : Below wc.heap.size wc u2 := bel_trans (And.right (by assumption)) g2)
            | (go_at_call 18
               refine ((C3.out _ (And.right (by assumption)))).mono ?_
               rintro e u3 ⟨rfl, g3⟩
               have g3' : Below wc.heap.size wc u3 := bel_trans (And.right (by assumption)) g3)
            | (go_at_call 25
               (with_reducible refine ((C4.out _ (And.right (by assumption)))).mono ?_)
               rintro e u4 ⟨rfl, g4⟩
               have g4' : Below wc.heap.size wc u4 := bel_trans (And.right (by assumption)) g4)
            | (go_at_call 25
               (with_reducible refine ((C5.out _ (And.right (by assumption)))).mono ?_)
               rintro e u5 ⟨rfl, g5⟩
               have g5' : Below wc.heap.size wc u5 := bel_trans (And.right (by assumption)) g5)
            | (go_at_call 19
               refine ((C6.out _ (And.right (by assumption)))).mono ?_
               rintro e u6 ⟨v6, rfl, g6, o6⟩
               obtain ⟨A30, c30, rfl, s30⟩ := Sl.of_own o6
               have g6' : Below wc.heap.size wc u6 := bel_trans (And.right (by assumption)) g6)
            | (go_at_call 26
               refine ((C7.out _ _ _ (And.right (by assumption)) s30)).mono ?_
               rintro e u7 ⟨rfl, q7, rfl⟩
               have g7' := below_drewN (show Below wc.heap.size wc _ from And.right (by assumption)) q7)
            | (go_at_call 15
               refine (works37_any _).mono ?_
               rintro e u8 ⟨rfl, g8⟩
               have g8' : Below wc.heap.size wc u8 := bel_trans (And.right (by assumption)) g8))
        all_goals
          go_wp2
          go_ret
          exact ⟨rfl, hbe.out.trans ((show Below wc.heap.size wc _ from And.right (by assumption)).mono hbe.out.size)⟩
end Go.Proofs.Ytgeccjeehhhchaa
