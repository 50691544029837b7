/- Jobs as values: whole, Plain, Same: contracts. -/
import Derived.Test.YtgakobolhmdnnaaQJbD
import Derived.Test.YtgakobolhmdnnaaGaP
namespace Go.Proofs.Ytgakobolhmdnnaa
open Go.RowKit Go.Sort
set_option linter.unusedVariables false
set_option linter.unusedSimpArgs false

def plainJ (id : Int) (xs : List (List UInt8)) : Bool := decide (1 ≤ id ∧ id ≤ 72057594037927935) && !longB xs 16 200
theorem longB_most {l : List (List UInt8)} {most each : Int} (h : most < (l.length : Int)) : longB l most each = true := by
  unfold longB
  rw [Bool.or_eq_true]
  exact .inr (decide_eq_true h)
set_option maxRecDepth 20000 in
set_option maxHeartbeats 1000000 in
theorem whole_any (id : Int) (A : Option Addr) (c : Nat) (xs : List (List UInt8)) (W : World) (hX : TxJ W A c xs) :
    Calls Try.prog 66 #[.agg #[.int .i64 id, .slice A xs.length c]] W fun e w' => e = .returned (.bool (plainJ id xs)) ∧ Below W.heap.size W w' := by
  have HNB := hid (fun u => numbered_any id u)
  have HX := hid hX
  have hl := len63J hX
  have HV := hid (show plainJ id xs = (decide (1 ≤ id ∧ id ≤ 72057594037927935) && !longB xs 16 200) from rfl)
  have HY := hid (fun k (hk : k < xs.length) (h : (200 : Int) < (xs[k].length : Int)) => longB_yes (most := 16) hk h)
  have HE := hid (fun (h : ∀ k (hk : k < xs.length), (xs[k].length : Int) ≤ 200) => longB_end (most := 16) h)
  have HM := hid (fun (h : (16 : Int) < (xs.length : Int)) => longB_most (each := 200) h)
  clear hX
  generalize plainJ id xs = R at *
  generalize longB xs 16 200 = lb at *
  generalize decide (1 ≤ id ∧ id ≤ 72057594037927935) = nb at *
  go_enter Try.func66, Try.ntmps66
  go_upto_region 1 with (fail)
  refine at_world (fun u => u.heap[W.heap.size]? = some (.cells #[.int .i64 id, .slice A xs.length c] 27 (0, 0)) ∧ Below W.heap.size W u) ⟨heap_alloc_new _ _, bel_alloc (Below.refl _ _) _⟩ ?_
  rintro w1 ⟨hj, hb⟩
  have HB := hid hb
  obtain ⟨j0, j1⟩ := two_cellsR hj
  clear hj hb
  go_wp2_with fail
  refine (HNB.out w1).mono ?_
  rintro e w2 ⟨rfl, rfl⟩
  clear HNB
  cases nb with
  | false =>
    obtain rfl : R = false := by rw [HV.out]; rfl
    clear HV
    go_wp2
    go_ret
    exact ⟨rfl, HB.out⟩
  | true =>
    by_cases h16 : 16 < xs.length
    · have h16b : (16 : Int) < (xs.length : Int) := by omega
      obtain rfl : R = false := by rw [HV.out, HM.out h16b]; rfl
      clear HV
      go_wp2
      go_ret
      exact ⟨rfl, HB.out⟩
    · have h16b : ¬ (16 : Int) < (xs.length : Int) := by omega
      go_wp2
      go_loopw [4, 18] (fun _ i wr => ∃ k : Nat, k ≤ xs.length ∧ i = .int .i64 (k : Int) ∧ Hid (∀ j (hj : j < xs.length), j < k → (xs[j].length : Int) ≤ 200) ∧ Hid (wr = w1)) (fun _ i _ => xs.length - (intOf i).toNat)
      case atStart => exact ⟨0, by omega, rfl, fun j hj h => absurd h (by omega), rfl⟩
      case round =>
        obtain ⟨k, hk, rfl, HT, HW⟩ := hrel
        obtain rfl := HW.out
        by_cases hlt : k < xs.length
        · have hlt2 : (k : Int) < (xs.length : Int) := by omega
          have i0 : ¬ (k : Int) < 0 := by omega
          obtain ⟨b, off, ha, ct⟩ := text_at (HX.out.below HB.out) k hlt
          subst ha
          have HY2 := hid (HY.out k hlt)
          have HT2 := hid (fun (h9 : (xs[k].length : Int) ≤ 200) => show ∀ j (hj : j < xs.length), j < k + 1 → (xs[j].length : Int) ≤ 200 from fun j hj hjk => by
            by_cases hjk2 : j < k
            · exact HT.out j hj hjk2
            · obtain rfl : j = k := by omega
              exact h9)
          have hsz : (str xs[k]).size = xs[k].length := str_size _
          generalize xs[k] = l at *
          generalize str l = s at *
          by_cases h200 : 200 < l.length
          · have h200b : (200 : Int) < (s.size : Int) := by omega
            obtain rfl : R = false := by rw [HV.out, HY2.out (by omega)]; rfl
            clear HV HY2 HT2
            go_wp2
            go_ret
            exact ⟨rfl, HB.out⟩
          · have h200b : ¬ (200 : Int) < (s.size : Int) := by omega
            have HT3 := hid (HT2.out (by omega))
            clear HT2 HY2
            go_wp2
            go_roundw
            case rel => exact ⟨k + 1, by omega, by go_num, HT3, hid (by trivial)⟩
            case measure => simp [intOf]; omega
        · have hge : ¬ (k : Int) < (xs.length : Int) := by omega
          obtain rfl : R = true := by rw [HV.out, HE.out (fun j hj => HT.out j hj (by omega)), decide_eq_false (show ¬ (16 : Int) < (xs.length : Int) by omega)]; rfl
          clear HV HE HT
          go_wp2
          go_ret
          exact ⟨rfl, HB.out⟩
set_option maxRecDepth 20000 in
theorem plain15_any (id : Int) (A : Option Addr) (c : Nat) (xs : List (List UInt8)) (W : World) (hX : TxJ W A c xs) :
    Calls Try.prog 26 #[.agg #[.int .i64 id, .slice A xs.length c]] W fun e w' => e = .returned (.bool (plainJ id xs)) ∧ Below W.heap.size W w' := by
  have HL := hid (fun u (hu : Below W.heap.size W u) => long_any A xs.length c xs 16 200 u (hX.below hu).1 hX.2)
  have HV := hid (show plainJ id xs = (decide (1 ≤ id ∧ id ≤ 72057594037927935) && !longB xs 16 200) from rfl)
  clear hX
  generalize plainJ id xs = R at *
  generalize longB xs 16 200 = lb at *
  generalize xs.length = n at *
  go_enter Try.func26, Try.ntmps26
  go_upto_region 1 with (fail)
  refine at_world (fun u => u.heap[W.heap.size]? = some (.cells #[.int .i64 id, .slice A n c] 27 (0, 0)) ∧ Below W.heap.size W u) ⟨heap_alloc_new _ _, bel_alloc (Below.refl _ _) _⟩ ?_
  rintro w1 ⟨hj, hb⟩
  have HB := hid hb
  obtain ⟨j0, j1⟩ := two_cellsR hj
  clear hj hb
  by_cases h1 : 1 ≤ id
  · by_cases h2 : id ≤ 72057594037927935
    · obtain rfl : R = !lb := by rw [HV.out, decide_eq_true ⟨h1, h2⟩]; rfl
      clear HV
      go_wp2_with fail
      refine (HL.out w1 HB.out).mono ?_
      rintro e w2 ⟨rfl, rfl⟩
      clear HL
      go_wp2
      go_ret
      exact ⟨by simp, HB.out⟩
    · obtain rfl : R = false := by rw [HV.out, decide_eq_false (fun h => h2 h.2)]; rfl
      clear HV HL
      go_wp2
      go_ret
      exact ⟨rfl, HB.out⟩
  · obtain rfl : R = false := by rw [HV.out, decide_eq_false (fun h => h1 h.1)]; rfl
    clear HV HL
    go_wp2
    go_ret
    exact ⟨rfl, HB.out⟩
end Go.Proofs.Ytgakobolhmdnnaa
