/- The document's Running, Accept of layer 39: contracts. -/
import Derived.Test.YtgakobolhmdnnaaGreatDoorEvP
import Derived.Test.YtgakobolhmdnnaaGreatDoorQJbE
import Derived.Deep.RegionHeld3
import Derived.ChangeKeysEq
namespace Go.Proofs.YtgakobolhmdnnaaGreatDoor
open Go.RowKit Go.Sort
set_option linter.unusedVariables false
set_option linter.unusedSimpArgs false

set_option maxRecDepth 20000 in
set_option maxHeartbeats 1000000 in
theorem r20place_any (A : Option Addr) (c : Nat) (xs : List Ee) (job : Int) (W : World) (h : InBk W A c xs) :
    Calls Tryz.prog 24 #[.slice A xs.length c, .int .i64 job] W fun e w' => e = .returned (.int .i64 (plI (xs.map (·.1)) job)) ∧ W = w' := by
  have HA := hid h
  have hm : xs.length ≤ 9223372036854775807 := by have := h.len; unfold maxLen at this; omega
  have HY := hid (fun k (hk : k < xs.length) (h1 : xs[k].1.id = job) (h2 : ∀ j (hj : j < xs.length), j < k → xs[j].1.id ≠ job) => show plI (xs.map (·.1)) job = (k : Int) by
    unfold plI
    rw [plB_of (k := k) (by simpa using hk) (by simpa using h1) (fun i hi => by simpa using h2 i (by omega) hi)])
  have HN := hid (fun (h2 : ∀ j (hj : j < xs.length), xs[j].1.id ≠ job) => show plI (xs.map (·.1)) job = -1 by
    unfold plI
    rw [plB_of_none (fun e he => by
      obtain ⟨x, hx, rfl⟩ := List.mem_map.1 he
      obtain ⟨j, hj, rfl⟩ := List.getElem_of_mem hx
      exact h2 j hj)])
  clear h
  generalize plI (xs.map (·.1)) job = R at *
  go_enter Tryz.func24, Tryz.ntmps24
  go_wp2
  go_loopw [5] (fun i wr => ∃ k : Nat, k ≤ xs.length ∧ i = .int .i64 (k : Int) ∧ Hid (∀ j (hj : j < xs.length), j < k → xs[j].1.id ≠ job) ∧ W = wr) (fun i _ => xs.length - (intOf i).toNat)
  case atStart => exact ⟨0, by omega, rfl, fun j hj h => absurd h (by omega), rfl⟩
  case round =>
    obtain ⟨k, hk, rfl, HT, rfl⟩ := hrel
    by_cases hlt : k < xs.length
    · have hlt2 : (k : Int) < (xs.length : Int) := by omega
      have k0 : ¬ (k : Int) < 0 := by omega
      obtain ⟨b, off, rfl, q0, q1, q2, q3, q4, q5⟩ := HA.out.el k hlt
      have HY2 := hid (fun h => HY.out k hlt h HT.out)
      have HT3 := hid (fun (hne : ¬ xs[k].1.id = job) => show ∀ j (hj : j < xs.length), j < k + 1 → xs[j].1.id ≠ job from fun j hj hjk => by
        by_cases hjk2 : j < k
        · exact HT.out j hj hjk2
        · obtain rfl : j = k := by omega
          exact hne)
      generalize xs[k].1.id = id at *
      clear q1 q2 q3 q4 q5
      by_cases hxy : id = job
      · have hd : (id == job) = true := by simpa using hxy
        have HE := hid (HY2.out hxy)
        go_wp2
        go_ret
        exact ⟨by obtain rfl := HE.out; rfl, rfl⟩
      · have hd : (id == job) = false := by simpa using hxy
        have HT2 := hid (HT3.out hxy)
        clear HT3 HY2
        go_wp2
        go_roundw
        case rel => exact ⟨k + 1, by omega, by go_num, HT2, by trivial⟩
        case measure => simp [intOf]; omega
    · have hge : ¬ (k : Int) < (xs.length : Int) := by omega
      have HE := hid (HN.out (fun j hj => HT.out j hj (by omega)))
      go_wp2
      go_ret
      exact ⟨by obtain rfl := HE.out; rfl, rfl⟩

theorem idx3e (a b c : Int) (w : World) : (Instr.index 73 (.agg #[.int .i64 a, .int .i64 b, .int .i64 c]) (.int .i64 2)).run Tryz.prog w = .ok (.int .i64 c) w := by
  have hpk : Tryz.prog.plainKey 3 = true := by kernel_rfl
  have hc1 : Tryz.prog.cellsOf 3 = 1 := by kernel_rfl
  obtain ⟨i, hi⟩ : ∃ i, Tryz.prog.info? 3 = some i := by
    have : (Tryz.prog.info? 3).isSome = true := by kernel_rfl
    exact Option.isSome_iff_exists.1 this
  have hs : i.size = 1 := by
    have h9 : (Tryz.prog.info? 3).map (·.size) = some 1 := by kernel_rfl
    rw [hi] at h9
    simpa using h9
  have p2 := run_part_plain (P := Tryz.prog) w hpk (xs := #[.int .i64 a, .int .i64 b, .int .i64 c]) (off := 2) (v := .int .i64 c) rfl
  simp [Instr.index, asIntOf, run_underlying Tryz.underlying73, sizeOf, hi, hs, p2, go_sem]
  first | rfl | kernel_rfl

set_option maxRecDepth 20000 in
set_option maxHeartbeats 4000000 in
theorem rrunning_any (A : Option Addr) (c : Nat) (xs : List Ee) (w : Int) (W : World) (h : InBk W A c xs) (hn : xs.length ≤ 100) (hk : ∀ x ∈ xs, x.1.ns.length ≤ 1000 ∧ x.1.bd.length ≤ 1000 ∧ x.1.dn.length ≤ 1000) :
    Calls Tryz.prog 14 #[.slice A xs.length c, .int .i64 w] W fun e w' => e = .returned (.int .i64 (runS w (xs.map (·.1)) : Nat)) ∧ RowKit.Below W.heap.size W w' := by
  have HX := hid h
  have HK := hid hk
  clear h hk
  go_enter Tryz.func14, Tryz.ntmps14
  go_wp2
  go_loopw [5, 6, 7] (fun v i _ wr => ∃ (n m : Nat), n ≤ xs.length ∧ i = .int .i64 (n : Int) ∧ v = .int .i64 (m : Int) ∧ Hid (m = runS w ((xs.take n).map (·.1))) ∧ m ≤ 1000 * n ∧ Hid (RowKit.Below W.heap.size W wr)) (fun _ i _ _ => xs.length - (intOf i).toNat)
  case atStart => exact ⟨0, 0, by omega, rfl, rfl, by simp [Hid, runS], by omega, RowKit.Below.refl _ _⟩
  case round =>
    obtain ⟨n, m, hn9, rfl, rfl, HM, hm9, HB⟩ := hrel
    by_cases hlt : n < xs.length
    · have hlt2 : (n : Int) < (xs.length : Int) := by omega
      have hn0 : ¬ (n : Int) < 0 := by omega
      have HEL := hid (fun u (hu : RowKit.Below W.heap.size W u) => (HX.out.below hu).el n hlt)
      have HE := hid (fun u (hu : RowKit.Below W.heap.size W u) => (HX.out.below hu).2 _ (List.getElem_mem hlt))
      have hkk := HK.out _ (List.getElem_mem hlt)
      have HSN := hid (fun mm (h : mm = m + runE xs[n].1 w (tkB xs[n].1)) => show mm = runS w ((xs.take (n + 1)).map (·.1)) by rw [List.take_succ_eq_append_getElem hlt, List.map_append, List.map_singleton, runS_snoc, ← HM.out, h])
      obtain ⟨b, off, hA, _⟩ := HEL.out wr HB.out
      subst hA
      generalize hx : xs[n] = x at HE hkk HSN HEL
      clear hx HM
      have HTK := hid (fun u => r20tasks_any x u (by omega) (by omega) (by omega))
      have htk : tkB x.1 ≤ 1000 ∧ tkB x.1 ≤ x.1.bd.length ∧ tkB x.1 ≤ x.1.dn.length := by unfold tkB; omega
      have HR0 : Hid (runE x.1 w 0 = 0) := hid rfl
      have HR1 := hid (fun i => show runE x.1 w (i + 1) = runE x.1 w i + (if (decide (0 < x.1.bd.getD i 0) && ((IntKind.i64.wrap (x.1.bd.getD i 0 - 1) == w) && !(x.1.dn.getD i false))) = true then 1 else 0) from rfl)
      have HRL := hid (runE_le x.1 w)
      obtain ⟨⟨id, sc, ee, ms, bd, dn⟩, ⟨A1, ca, P, cb, D, cd⟩⟩ := x
      simp only [ecE] at HTK HSN HR0 HR1 HRL htk HEL HE
      clear hkk
      generalize tkB ⟨id, sc, ee, ms, bd, dn⟩ = tk at *
      generalize runE ⟨id, sc, ee, ms, bd, dn⟩ w = rE at *
      generalize ms.length = n1 at *
      go_wp2
      go_loopw [5, 7] (fun v i wr => ∃ (k q : Nat), k ≤ tk ∧ i = .int .i64 (k : Int) ∧ v = .int .i64 (q : Int) ∧ Hid (q = m + rE k) ∧ Hid (RowKit.Below W.heap.size W wr)) (fun _ i _ => tk - (intOf i).toNat)
      case atStart => exact ⟨0, m, by omega, rfl, rfl, by rw [Hid, HR0.out]; rfl, HB.out⟩
      case round =>
        clear HB
        obtain ⟨k, q, hk9, rfl, rfl, HQ9, HBk⟩ := hrel
        have hqb : q ≤ 1000 * n + 1000 := by have h1 := HQ9.out; have h2 := HRL.out k; omega
        obtain ⟨b2, off2, hA2, q0, q1, q2, q3, q4, q5⟩ := HEL.out wr HBk.out
        cases hA2
        go_wp2_with fail
        refine (HTK.out wr).mono ?_
        rintro e w3 ⟨rfl, hb⟩
        have HB3 := hid (HBk.out.trans (hb.mono HBk.out.size))
        clear hb q0 q1 q2 q3 q4 q5 HBk
        by_cases hlk : k < tk
        · have hlk2 : (k : Int) < (tk : Int) := by omega
          have hkb : k < bd.length := by omega
          have hkd : k < dn.length := by omega
          have k0 : ¬ (k : Int) < 0 := by omega
          have kb : (k : Int) < (bd.length : Int) := by omega
          have kd : (k : Int) < (dn.length : Int) := by omega
          obtain ⟨b2, off2, hA2, q0, q1, q2, q3, q4, q5⟩ := HEL.out w3 HB3.out
          cases hA2
          have hP := (HE.out w3 HB3.out).2.1
          have hD := (HE.out w3 HB3.out).2.2
          simp only at hP hD
          obtain ⟨bp, op, hPA, _⟩ := hP.2.2.2 (by rw [icells_length]; omega)
          obtain ⟨bq, oq, hDA, _⟩ := hD.2.2.2 (by rw [blcells_length]; omega)
          subst hPA
          subst hDA
          have cP := Sl.cell hP k hkb
          have cD := hD.blcell k hkd
          have hr1 := HR1.out k
          have hrl := HRL.out k
          clear hP hD q0 q1 q2 q3
          generalize bd.getD k 0 = z at *
          generalize dn.getD k false = d at *
          have HR8 := hid hr1
          clear hr1
          generalize hzw : IntKind.i64.wrap (z - 1) = zw at *
          have hzero : ∀ bb : Bool, (decide (0 < z) && ((zw == w) && !d)) = bb → rE (k + 1) = rE k + (if bb = true then 1 else 0) := fun bb h => by rw [HR8.out, h]
          have HZ := hid hzero
          clear hzero HR8
          by_cases hz : 0 < z
          case neg =>
            have hz2 : ¬ z > 0 := hz
            have hr1 := HZ.out false (by rw [decide_eq_false hz]; rfl)
            simp only [Bool.false_eq_true, if_false] at hr1
            have HR8 := hid hr1
            clear HZ hr1
            go_wp2
            go_roundw
            case rel => exact ⟨k + 1, q, by omega, by go_num, rfl, hid (by have := HQ9.out; have := HR8.out; omega), HB3.out⟩
            case measure => simp [intOf]; omega
          have hz2 : z > 0 := hz
          by_cases hw : zw = w
          case neg =>
            have hw2 : (zw == w) = false := by simpa using hw
            have hr1 := HZ.out false (by rw [hw2]; simp)
            simp only [Bool.false_eq_true, if_false] at hr1
            have HR8 := hid hr1
            clear HZ hr1
            go_wp2
            go_roundw
            case rel => exact ⟨k + 1, q, by omega, by go_num, rfl, hid (by have := HQ9.out; have := HR8.out; omega), HB3.out⟩
            case measure => simp [intOf]; omega
          have hw2 : (zw == w) = true := by simpa using hw
          cases d with
          | true =>
            have hr1 := HZ.out false (by simp)
            simp only [Bool.false_eq_true, if_false] at hr1
            have HR8 := hid hr1
            clear HZ hr1
            go_wp2
            go_roundw
            case rel => exact ⟨k + 1, q, by omega, by go_num, rfl, hid (by have := HQ9.out; have := HR8.out; omega), HB3.out⟩
            case measure => simp [intOf]; omega
          | false =>
            have hr1 := HZ.out true (by rw [decide_eq_true hz, hw2]; rfl)
            simp only [if_true] at hr1
            have HR8 := hid hr1
            have hwq : IntKind.i64.wrap ((q : Int) + 1) = ((q + 1 : Nat) : Int) := by simp [IntKind.wrap, IntKind.bits, IntKind.signed]; omega
            clear HZ hr1
            go_wp2
            go_roundw
            case rel => exact ⟨k + 1, q + 1, by omega, by go_num, by first | rfl | (simp only [hwq]), hid (by have := HQ9.out; have := HR8.out; omega), HB3.out⟩
            case measure => simp [intOf]; omega
        · obtain rfl : k = tk := by omega
          have hge : ¬ (k : Int) < (k : Int) := by omega
          have hrl := HRL.out k
          go_wp2
          go_roundw
          case rel => exact ⟨n + 1, q, by omega, by go_num, rfl, HSN.out q HQ9.out, by have := HQ9.out; omega, HB3.out⟩
          case measure => simp [intOf]; omega
    · obtain rfl : n = xs.length := by omega
      have hge : ¬ (xs.length : Int) < (xs.length : Int) := by omega
      rw [List.take_length] at HM
      go_wp2
      go_ret
      exact ⟨by rw [← HM.out]; rfl, HB.out⟩
end Go.Proofs.YtgakobolhmdnnaaGreatDoor
