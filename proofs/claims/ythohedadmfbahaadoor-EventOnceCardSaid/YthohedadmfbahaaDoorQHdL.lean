/- Long of the cluster (cut from JbF). -/
import Derived.Test.YthohedadmfbahaaDoorQJbB
import Derived.Test.YthohedadmfbahaaDoorGaP
import Derived.Deep.Cut
namespace Go.Proofs.YthohedadmfbahaaDoor
open Go.RowKit
set_option linter.unusedVariables false
set_option linter.unusedSimpArgs false

def longCf (x : Cf) : Bool := longB x.T 40 100 || decide (80 < x.ws.length)
theorem longCf_no {x : Cf} (h : longCf x = false) : longB x.T 40 100 = false ∧ x.ws.length ≤ 80 := by
  unfold longCf at h
  rw [Bool.or_eq_false_iff, decide_eq_false_iff_not] at h
  exact ⟨h.1, by omega⟩
set_option maxRecDepth 20000 in
theorem r14long_any (x : Cf) (N : Option Addr) (nc : Nat) (K : Option Addr) (kc : Nat) (W : World) (hC : CfAt W x N nc K kc) :
    Calls Tryd.prog 4 #[.agg (cfc x N nc K kc)] W fun e w' => e = .returned (.bool (longCf x)) ∧ Below W.heap.size W w' := by
  have HL := hid (fun u (hu : Below W.heap.size W u) => long_any N x.T.length nc x.T 40 100 u (hC.below hu).1.1 hC.1.2)
  have hwn : x.ws.length ≤ 9223372036854775807 := by have h1 := hC.2.1.2.1; have h2 := hC.2.1.2.2.1; unfold maxLen at h2; omega
  obtain ⟨sc, le, ag, ro, ou, T, ws⟩ := x
  simp only [cfc] at HL ⊢
  simp only at hwn
  clear hC
  cases hb : longB T 40 100 with
  | true =>
    have hr : longCf ⟨sc, le, ag, ro, ou, T, ws⟩ = true := by unfold longCf; simp only [hb, Bool.true_or]
    rw [hr]
    rw [hb] at HL
    clear hr hb
    generalize ws.length = m at *
    generalize T.length = tn at *
    go_enter Tryd.func4, Tryd.ntmps4
    go_upto_region 1 with (fail)
    refine at_world (fun u => u.heap[W.heap.size]? = some (.cells #[.int .i64 sc, .int .i64 le, .int .i64 ag, .int .i64 ro, .int .i64 ou, .slice N tn nc, .slice K m kc] 25 (0, 0)) ∧ Below W.heap.size W u) ⟨heap_alloc_new _ _, (Below.refl _ _).alloc (Nat.le_refl _) _⟩ ?_
    rintro w1 ⟨hq, hb⟩
    obtain ⟨q0, q1, q2, q3, q4, q5, q6⟩ := seven_cellsJ hq
    have HB := hid hb
    clear hq hb
    go_wp2_with fail
    refine (HL.out _ HB.out).mono ?_
    rintro e w2 ⟨rfl, rfl⟩
    go_wp2
    go_ret
    exact ⟨rfl, HB.out⟩
  | false =>
    rw [hb] at HL
    have hr : longCf ⟨sc, le, ag, ro, ou, T, ws⟩ = decide ((80 : Int) < (ws.length : Int)) := by
      unfold longCf
      simp only [hb, Bool.false_or]
      by_cases h : 80 < ws.length
      · rw [decide_eq_true h, decide_eq_true (by omega)]
      · rw [decide_eq_false h, decide_eq_false (by omega)]
    rw [hr]
    clear hr hb
    generalize ws.length = m at *
    generalize T.length = tn at *
    go_enter Tryd.func4, Tryd.ntmps4
    go_upto_region 1 with (fail)
    refine at_world (fun u => u.heap[W.heap.size]? = some (.cells #[.int .i64 sc, .int .i64 le, .int .i64 ag, .int .i64 ro, .int .i64 ou, .slice N tn nc, .slice K m kc] 25 (0, 0)) ∧ Below W.heap.size W u) ⟨heap_alloc_new _ _, (Below.refl _ _).alloc (Nat.le_refl _) _⟩ ?_
    rintro w1 ⟨hq, hb⟩
    obtain ⟨q0, q1, q2, q3, q4, q5, q6⟩ := seven_cellsJ hq
    have HB := hid hb
    clear hq hb
    go_wp2_with fail
    refine (HL.out _ HB.out).mono ?_
    rintro e w2 ⟨rfl, rfl⟩
    go_wp2
    go_ret
    exact ⟨by simp, HB.out⟩
end Go.Proofs.YthohedadmfbahaaDoor
