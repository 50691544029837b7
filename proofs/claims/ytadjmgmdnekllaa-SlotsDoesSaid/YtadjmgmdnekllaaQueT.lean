/- The document's Push, as a contract. -/
import Derived.Test.YtadjmgmdnekllaaQueS
import Derived.Deep.RegionHeld3
namespace Go.Proofs.Ytadjmgmdnekllaa
open Go.RowKit Go.Sort
set_option linter.unusedVariables false
set_option linter.unusedSimpArgs false

theorem own_emptyP (w : World) (e size H b : Nat) (hH : w.heap.size = H) (hb : b ≤ H) : (w.alloc (.cells #[] e)).drew.ownsRow b e size (.slice (some ⟨H, 0, none⟩) 0 0) 0 [] := by
  subst hH
  exact own_mono (own_empty w e size) hb
theorem ltp2 (w : World) (o o' : Obj) : w.heap.size + 1 < ((w.alloc o).alloc o').drew.heap.size := by simp
theorem ltp1 (w : World) (o o' : Obj) : w.heap.size < ((w.alloc o).alloc o').drew.heap.size := by simp; omega
theorem sl_heap {w : World} {g e : Nat} {x y : Value} (h : w.heap[g]? = some (.cells #[x, y] e (0, 0))) : Sl w 2 (some ⟨g, 0, none⟩) 1 1 [x, y] :=
  ⟨rfl, Nat.le_refl _, by unfold maxLen; omega, fun _ => ⟨g, 0, rfl, fun i hi => by
    rw [cell_of_row w g (0 + i) #[x, y] e (0, 0) h, Nat.zero_add]
    simp⟩⟩

set_option maxRecDepth 20000 in
set_option maxHeartbeats 2000000 in
theorem rpush_any (A : Option Addr) (len cap : Nat) (l : List (Int × Int)) (limit x y : Int) (W : World) (h : Sl W 2 A len cap (pcells l)) (hl : len ≤ 10000) :
    Calls Try.prog 64 #[.slice A len cap, .int .i64 limit, .agg #[.int .i64 x, .int .i64 y]] W fun e w' => ∃ A' c', e = .returned (.tuple #[.slice A' (pushJ l limit (x, y)).length c', .int .i64 (pushE l limit (x, y))]) ∧ Sl w' 2 A' (pushJ l limit (x, y)).length c' (pcells (pushJ l limit (x, y))) ∧ Below W.heap.size W w' := by
  obtain rfl := h.plen
  have HSL := hid h
  have HC := hid (fun w (hb : Below W.heap.size W w) => rqhas_any A l.length cap l x w (h.below hb))
  have hl2 : (l.length : Int) ≤ 10000 := by omega
  obtain ⟨q, hq⟩ : ∃ q, hasJ l x = q := ⟨_, rfl⟩
  rw [hq] at HC
  have HQ := hid hq
  clear h hq
  go_enter Try.func64, Try.ntmps64
  go_upto_region 1 with (fail)
  refine at_world (fun w => w.heap[W.heap.size]? = some (.cells #[.int .i64 x, .int .i64 y] 87 (0, 0)) ∧ Below W.heap.size W w ∧ W.heap.size < w.heap.size) ⟨heap_alloc_new _ _, (Below.refl _ _).alloc (Nat.le_refl _) _, by simp⟩ ?_
  rintro w0 ⟨k0, hb0, hz0⟩
  obtain ⟨p0, p1, q0, q1⟩ := two_cells k0
  have HB0 := hid hb0
  have HC0 := hid (HC.out w0 hb0)
  clear k0 hb0 HC
  go_wp2_with fail
  refine HC0.out.mono ?_
  rintro e w1 ⟨rfl, rfl⟩
  clear HC0
  cases q with
  | true =>
    have e1 : pushJ l limit (x, y) = l := by rw [pushJ, if_pos HQ.out]
    have e2 : pushE l limit (x, y) = 9 := by rw [pushE, if_pos HQ.out]
    have E1 := hid e1
    have E2 := hid e2
    clear e1 e2
    go_wp2
    go_ret2
    rw [E1.out, E2.out]
    exact ⟨_, _, rfl, HSL.out.below HB0.out, HB0.out⟩
  | false =>
    have hn : ¬ hasJ l x = true := by rw [HQ.out]; simp
    by_cases hlim : limit ≤ (l.length : Int)
    · have e1 : pushJ l limit (x, y) = l := by rw [pushJ, if_neg hn, if_pos hlim]
      have e2 : pushE l limit (x, y) = 7 := by rw [pushE, if_neg hn, if_pos hlim]
      have E1 := hid e1
      have E2 := hid e2
      clear e1 e2 hn
      go_wp2
      go_ret2
      rw [E1.out, E2.out]
      exact ⟨_, _, rfl, HSL.out.below HB0.out, HB0.out⟩
    · have e1 : pushJ l limit (x, y) = l ++ [(x, y)] := by rw [pushJ, if_neg hn, if_neg hlim]
      have e2 : pushE l limit (x, y) = 0 := by rw [pushE, if_neg hn, if_neg hlim]
      have E1 := hid e1
      have E2 := hid e2
      have HSW := hid (HSL.out.below HB0.out)
      clear e1 e2 hn
      have hS : ∀ U, Below w0.heap.size w0 U → ((U.cell? ⟨W.heap.size, 0, none⟩ = some (.int .i64 x) ∧ U.cell? ⟨W.heap.size, 1, none⟩ = some (.int .i64 y)) ∧ Below w0.heap.size w0 U) := fun U hU => ⟨⟨cellb hU p0, cellb hU p1⟩, hU⟩
      go_upto_region 5 with (fail)
      go_region_held3 (fun U => (U.cell? ⟨W.heap.size, 0, none⟩ = some (.int .i64 x) ∧ U.cell? ⟨W.heap.size, 1, none⟩ = some (.int .i64 y)) ∧ Below w0.heap.size w0 U)
        (exact hS _ (by repeat' (first | with_reducible exact Below.refl _ _ | with_reducible exact And.right (by assumption) | with_reducible assumption | with_reducible refine below_drew ?_ | with_reducible refine bel_alloc ?_ _)))
        (first
          | (refine step_append_sl rfl (.tmp 18) (.tmp 19) 82 rfl w0.heap.size 87 Try.underlying82 info_rplace rfl (by omega) rfl (by first | exact own_mono (own_empty _ _ _) (by simp) | exact own_mono ((own_empty _ _ _).alloc _) (by simp) | exact own_emptyP _ _ _ _ _ (by simp) (by omega)) rfl (HSW.out.below (And.right (by assumption))) (pcells_one _) (by unfold maxLen; omega) (by omega) (show Below w0.heap.size w0 _ from And.right (by assumption)).size ?_
             intro v5 w5 ho5 hb5 hsz5 hk5
             simp only [Nat.zero_add, List.nil_append] at ho5
             obtain ⟨A5, c5, rfl, hs5⟩ := Sl.of_own ho5
             have hb5' : Below w0.heap.size w0 w5 := (show Below w0.heap.size w0 _ from And.right (by assumption)).trans hb5
             simp at hsz5
             first
             | (have y0 : w5.heap[w0.heap.size + 1]? = some (.cells #[.int .i64 x, .int .i64 y] 87 (0, 0)) := (hk5 (w0.heap.size + 1) (by omega) (ltp2 _ _ _) (fun e => absurd (Option.some.inj (show some (w0.heap.size) = some (w0.heap.size + 1) from e)) (by omega))).trans (heap_second w0 _ _)
                clear hk5)
             | (have y0 : w5.heap[w0.heap.size]? = some (.cells #[.int .i64 x, .int .i64 y] 87 (0, 0)) := (hk5 (w0.heap.size) (by omega) (ltp1 _ _ _) (fun e => absurd (Option.some.inj (show some (w0.heap.size + 1) = some (w0.heap.size) from e)) (by omega))).trans (heap_first w0 _ _)
                clear hk5)
             | clear hk5)
          | (refine step_append_sl rfl (.tmp 20) (.tmp 22) 82 rfl w0.heap.size 87 Try.underlying82 info_rplace rfl (by omega) rfl (own_keep ho5 (by repeat' (first | with_reducible exact Below.refl _ _ | with_reducible refine below_drew ?_ | with_reducible refine bel_alloc ?_ _))) rfl (by first | exact Sl.lit _ _ 2 1 #[.int .i64 x, .int .i64 y] rfl (by unfold maxLen; omega) | exact Sl.below (Sl.lit _ _ 2 1 #[.int .i64 x, .int .i64 y] rfl (by unfold maxLen; omega)) (below_drew (Below.refl _ _)) | exact Sl.below (sl_heap y0) (by repeat' (first | with_reducible exact Below.refl _ _ | with_reducible refine below_drew ?_))) (by simp; exact ⟨rfl, rfl⟩) (by unfold maxLen; omega) (by omega) (show Below w0.heap.size w0 _ from And.right (by assumption)).size ?_
             intro v6 w6 ho6 hb6 hsz6 hk6
             have hb6' : Below w0.heap.size w0 w6 := (show Below w0.heap.size w0 _ from And.right (by assumption)).trans hb6))
      all_goals
        have hO6 := own_mono ho6 HB0.out.size
        have HB6 := hid (HB0.out.trans (hb6'.mono HB0.out.size))
        obtain ⟨A6, c6, rfl, hs6⟩ := Sl.of_own hO6
        have HS6 := hid hs6
        rename_i hHeld
        clear hk6 hb6 hsz6 ho6 hO6 hs6 hb6' hHeld
        go_wp2
        go_ret2
        rw [E1.out, E2.out]
        refine ⟨A6, c6, ?_, ?_, HB6.out⟩
        · rw [List.length_append]; rfl
        · rw [List.length_append, pcells_snoc]; exact HS6.out
end Go.Proofs.Ytadjmgmdnekllaa
