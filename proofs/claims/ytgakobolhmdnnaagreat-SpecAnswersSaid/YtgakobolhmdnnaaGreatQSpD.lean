/- event.Step at Accepted; spec.Kept, spec.Answer: contracts. -/
import Derived.Test.YtgakobolhmdnnaaGreatQSpC
import Derived.Test.YtgakobolhmdnnaaGreatRcP
namespace Go.Proofs.YtgakobolhmdnnaaGreat
open Go.RowKit Go.Sort
set_option linter.unusedVariables false
set_option linter.unusedSimpArgs false

set_option maxRecDepth 20000 in
theorem ans1_any (e : Ee) (B : Nat) (job : Int) (W : World) (hB : W.cell? ⟨B, 0, none⟩ = some (.int .i64 job)) :
    Calls Tryz.prog 38 #[.agg (ecE e), .pointer (some ⟨B, 0, none⟩)] W fun x w' => x = .returned (.bool (e.1.id == job)) ∧ Below W.heap.size W w' := by
  obtain ⟨⟨id, sc, ep, ns, bd, dn⟩, ⟨A, ca, P, cb, D, cd⟩⟩ := e
  simp only [ecE]
  go_enter Tryz.func38, Tryz.ntmps38
  go_upto_region 1 with (fail)
  refine at_world (fun u => u.heap[W.heap.size]? = some (.cells #[.int .i64 id, .int .i64 sc, .int .i64 ep, .slice A ns.length ca, .slice P bd.length cb, .slice D dn.length cd] 29 (0, 0)) ∧ Below W.heap.size W u) ⟨heap_alloc_new _ _, (Below.refl _ _).alloc (Nat.le_refl _) _⟩ ?_
  rintro w1 ⟨hx1, hb1⟩
  obtain ⟨⟨p0, p1, p2, p3, p4, p5⟩, _⟩ := six_cells hx1
  have hB1 := cellb hb1 hB
  have HB := hid hb1
  clear hx1 hb1
  go_wp2
  go_ret
  exact ⟨rfl, HB.out⟩
set_option maxRecDepth 20000 in
set_option maxHeartbeats 1000000 in
theorem aindex_any (A : Option Addr) (c : Nat) (xs : List Ee) (B : Nat) (job : Int) (W : World) (h : InBk W A c xs) (hB : W.cell? ⟨B, 0, none⟩ = some (.int .i64 job)) :
    Calls Tryz.prog 56 #[.slice A xs.length c, .func (.func 38) #[] #[.pointer (some ⟨B, 0, none⟩)]] W fun e w' => e = .returned (.int .i64 (plI (xs.map (·.1)) job)) ∧ Below W.heap.size W w' := by
  have HA := hid h
  have HB := hid hB
  have hm : xs.length ≤ 9223372036854775807 := by have := h.len; unfold maxLen at this; omega
  have HY := hid (fun k (hk : k < xs.length) (h1 : xs[k].1.id = job) (h2 : ∀ j (hj : j < xs.length), j < k → xs[j].1.id ≠ job) => show plI (xs.map (·.1)) job = (k : Int) by
    unfold plI
    rw [plB_of (k := k) (by simpa using hk) (by simpa using h1) (fun i hi => by simpa using h2 i (by omega) hi)])
  have HN := hid (fun (h2 : ∀ j (hj : j < xs.length), xs[j].1.id ≠ job) => show plI (xs.map (·.1)) job = -1 by
    unfold plI
    rw [plB_of_none (fun e he => by
      obtain ⟨x, hx, rfl⟩ := List.mem_map.1 he
      obtain ⟨j, hj, rfl⟩ := List.getElem_of_mem hx
      exact h2 j hj)])
  clear h hB
  go_enter Tryz.func56, Tryz.ntmps56
  go_wp2
  go_loopw [8] (fun i wr => ∃ k : Nat, k ≤ xs.length ∧ i = .int .i64 (k : Int) ∧ Hid (∀ j (hj : j < xs.length), j < k → xs[j].1.id ≠ job) ∧ Hid (Below W.heap.size W wr)) (fun i _ => xs.length - (intOf i).toNat)
  case atStart => exact ⟨0, by omega, rfl, fun j hj h => absurd h (by omega), Below.refl _ _⟩
  case round =>
    obtain ⟨k, hk, rfl, HT, HR⟩ := hrel
    by_cases hlt : k < xs.length
    · have hlt2 : (k : Int) < (xs.length : Int) := by omega
      obtain ⟨b, off, rfl, q0, q1, q2, q3, q4, q5⟩ := (HA.out.below HR.out).el k hlt
      have HC := hid (ans1_any xs[k] B job wr (cellb HR.out HB.out))
      have HY2 := hid (fun h => HY.out k hlt h HT.out)
      have HXX : Hid (xs[k].1.id = xs[k].1.id) := hid rfl
      generalize hx : xs[k] = x at q0 q1 q2 q3 q4 q5 HC HY2
      have HX := hid hx
      clear hx HXX
      obtain ⟨⟨id, sc, ep, ns, bd, dn⟩, ⟨A1, ca, P, cb, D, cd⟩⟩ := x
      simp only [ecE] at HC
      simp only at q0 q1 q2 q3 q4 q5 HY2
      go_wp2_with fail
      refine HC.out.mono ?_
      rintro e w2 ⟨rfl, hb2⟩
      have HR2 := hid (HR.out.trans (hb2.mono HR.out.size))
      clear hb2 HC q0 q1 q2 q3 q4 q5
      by_cases hxy : id = job
      · have hd : (id == job) = true := by simpa using hxy
        have HE := hid (HY2.out hxy)
        go_wp2
        go_ret
        exact ⟨by rw [HE.out]; rfl, HR2.out⟩
      · have hd : (id == job) = false := by simpa using hxy
        have HT2 : Hid (∀ j (hj : j < xs.length), j < k + 1 → xs[j].1.id ≠ job) := hid (fun j hj hjk => by
          by_cases hjk2 : j < k
          · exact HT.out j hj hjk2
          · obtain rfl : j = k := by omega
            rw [HX.out]; exact hxy)
        clear hxy
        go_wp2
        go_roundw
        case rel => exact ⟨k + 1, by omega, by go_num, HT2.out, HR2.out⟩
        case measure => simp [intOf]; omega
    · have hge : ¬ (k : Int) < (xs.length : Int) := by omega
      have HE := hid (HN.out (fun j hj => HT.out j hj (by omega)))
      go_wp2
      go_ret
      exact ⟨by rw [HE.out]; rfl, HR.out⟩

theorem chkN0 {x : Rc} (h : ¬ sizeR x = 0) : x.ns.length ≤ 16 := (chkR_ns (size_chk h)).1
theorem most_le (j s : Int) (ns : List (List UInt8)) : mostR j s ns ≤ 5000 := by
  unfold mostR
  split
  · omega
  · rename_i h
    have h1 := chkN0 h
    have h2 := size_le ⟨1, j, 0, 0, s, 0, ns⟩
    have h3 := (numB_length _ (cl_le j)).2
    have h4 : ns.length * ((numB (cl j)).length + 9 + (numB (cl j)).length + 7) ≤ 16 * 32 := Nat.mul_le_mul h1 (by omega)
    omega
/-- The space that entries have reserved. -/
def keptB (b : List En) : Nat := (b.map fun e => mostR e.id 0 e.ns).sum
theorem keptB_le (b : List En) : keptB b ≤ 5000 * b.length := by
  induction b with
  | nil => simp [keptB]
  | cons e b ih =>
    have h := most_le e.id 0 e.ns
    have e2 : keptB (e :: b) = mostR e.id 0 e.ns + keptB b := by simp [keptB]
    rw [e2, List.length_cons]
    omega
theorem keptB_snoc (b : List En) (e : En) : keptB (b ++ [e]) = keptB b + mostR e.id 0 e.ns := by simp [keptB]

set_option maxRecDepth 20000 in
set_option maxHeartbeats 2000000 in
theorem kept_any (A : Option Addr) (c : Nat) (xs : List Ee) (W : World) (h : InBk W A c xs) (hn : xs.length ≤ 100000) :
    Calls Tryz.prog 24 #[.slice A xs.length c] W fun e w' => e = .returned (.int .i64 (keptB (xs.map (·.1)) : Nat)) ∧ RowKit.Below W.heap.size W w' := by
  have HX := hid h
  clear h
  go_enter Tryz.func24, Tryz.ntmps24
  go_wp2
  go_loopw [3, 5, 8] (fun v _ i wr => ∃ (n m : Nat), n ≤ xs.length ∧ i = .int .i64 (n : Int) ∧ v = .int .i64 (m : Int) ∧ Hid (m = keptB ((xs.take n).map (·.1))) ∧ Hid (RowKit.Below W.heap.size W wr)) (fun _ _ i _ => xs.length - (intOf i).toNat)
  case atStart => exact ⟨0, 0, by omega, rfl, rfl, by simp [Hid, keptB], RowKit.Below.refl _ _⟩
  case round =>
    obtain ⟨n, m, hn9, rfl, rfl, HM, HB⟩ := hrel
    by_cases hlt : n < xs.length
    · have hlt2 : (n : Int) < (xs.length : Int) := by omega
      have hn0 : ¬ (n : Int) < 0 := by omega
      obtain ⟨b, off, hA, q0, q1, q2, q3, q4, q5⟩ := (HX.out.below HB.out).el n hlt
      subst hA
      have HTX := hid (fun u (hu : RowKit.Below W.heap.size W u) => recmost_any xs[n].1.id 0 xs[n].1.ns xs[n].2.A xs[n].2.ca u ((HX.out.below hu).2 _ (List.getElem_mem hlt)).1)
      have hkl := keptB_le ((xs.take n).map (·.1))
      rw [List.length_map, List.length_take, ← HM.out] at hkl
      have hml := most_le xs[n].1.id 0 xs[n].1.ns
      have HSN : Hid (m + mostR xs[n].1.id 0 xs[n].1.ns = keptB ((xs.take (n + 1)).map (·.1))) := hid (by rw [List.take_succ_eq_append_getElem hlt, List.map_append, List.map_singleton, keptB_snoc, ← HM.out])
      have hm9 : m + mostR xs[n].1.id 0 xs[n].1.ns ≤ 9223372036854775807 := by
        have : min n xs.length ≤ n := Nat.min_le_left _ _
        omega
      generalize mostR xs[n].1.id 0 xs[n].1.ns = mo at *
      generalize xs[n] = x at q0 q1 q2 q3 q4 q5 HTX
      obtain ⟨⟨id, sc, ep, ns, bd, dn⟩, ⟨A1, ca, P, cb, D, cd⟩⟩ := x
      simp only at q0 q1 q2 q3 q4 q5 HTX
      clear hkl hml HM
      have hwr : IntKind.i64.wrap ((m : Int) + (mo : Int)) = ((m + mo : Nat) : Int) := by simp [IntKind.wrap, IntKind.bits, IntKind.signed]; omega
      generalize ns.length = nl at *
      generalize bd.length = bl at *
      generalize dn.length = dl at *
      go_upto_region 5 with (fail)
      have hal : RowKit.Below wr.heap.size wr (wr.alloc (.cells #[.int .i64 id, .int .i64 sc, .int .i64 ep, .slice A1 nl ca, .slice P bl cb, .slice D dl cd] 29)) := bel_alloc (RowKit.Below.refl _ _) _
      refine at_world (fun u => u.heap[wr.heap.size]? = some (.cells #[.int .i64 id, .int .i64 sc, .int .i64 ep, .slice A1 nl ca, .slice P bl cb, .slice D dl cd] 29 (0, 0)) ∧ RowKit.Below W.heap.size W u) ⟨heap_alloc_new _ _, HB.out.trans (hal.mono HB.out.size)⟩ ?_
      clear hal q0 q1 q2 q3 q4 q5 HB
      rintro w2 ⟨hx, hb⟩
      have HB2 := hid hb
      obtain ⟨⟨p0, p1, p2, p3, p4, p5⟩, _⟩ := six_cells hx
      clear hb hx
      go_wp2_with fail
      refine (HTX.out w2 HB2.out).mono ?_
      rintro e w3 ⟨rfl, hb⟩
      have HB3 := hid (HB2.out.trans (hb.mono HB2.out.size))
      clear hb p0 p1 p2 p3 p4 p5 HTX
      go_wp2
      go_roundw
      case rel => exact ⟨n + 1, m + mo, by omega, by go_num, by first | rfl | (simp only [hwr]), HSN.out, HB3.out⟩
      case measure => simp [intOf]; omega
    · obtain rfl : n = xs.length := by omega
      have hge : ¬ (xs.length : Int) < (xs.length : Int) := by omega
      rw [List.take_length] at HM
      go_wp2
      go_ret
      exact ⟨by rw [← HM.out]; rfl, HB.out⟩

/-- What a submission is answered. -/
def ansB (x : Cf) (b : List En) (id : Int) (ns : List (List UInt8)) : Int :=
  if (chkJ id x.T x.ws ns).2.2 ≠ 0 then (chkJ id x.T x.ws ns).2.2 else if 0 ≤ plI b id then 9 else if 40 ≤ b.length ∨ x.ro < ((keptB b + mostR id 0 ns : Nat) : Int) then 7 else 0
set_option maxRecDepth 20000 in
theorem acont_any (A : Option Addr) (c : Nat) (xs : List Ee) (B : Nat) (job : Int) (W : World) (h : InBk W A c xs) (hB : W.cell? ⟨B, 0, none⟩ = some (.int .i64 job)) :
    Calls Tryz.prog 37 #[.slice A xs.length c, .func (.func 38) #[] #[.pointer (some ⟨B, 0, none⟩)]] W fun e w' => e = .returned (.bool (decide (0 ≤ plI (xs.map (·.1)) job))) ∧ Below W.heap.size W w' := by
  have HC := hid (aindex_any A c xs B job W h hB)
  clear h hB
  generalize plI (xs.map (·.1)) job = pl at *
  obtain ⟨dv, hdv⟩ : ∃ dv, decide (0 ≤ pl) = dv := ⟨_, rfl⟩
  rw [hdv]
  have HDV := hid hdv
  clear hdv
  go_enter Tryz.func37, Tryz.ntmps37
  go_wp2_with fail
  refine HC.out.mono ?_
  rintro e w2 ⟨rfl, hb⟩
  have HB := hid hb
  clear hb
  go_wp2
  go_ret
  exact ⟨by rw [← HDV.out]; rfl, HB.out⟩

set_option maxRecDepth 20000 in
set_option maxHeartbeats 4000000 in
theorem answer_any (x : Cf) (N : Option Addr) (nc : Nat) (K : Option Addr) (kc : Nat) (S : Option Addr) (sc : Nat) (xs : List Ee) (id : Int) (A : Option Addr) (c : Nat) (ns : List (List UInt8)) (W : World) (hC : CfAt W x N nc K kc) (hS : InBk W S sc xs) (hX : TxJ W A c ns) (hn : xs.length ≤ 100000) (hs : ∀ s ∈ ns, s.length ≤ 1000) (hw : x.ws.length ≤ 1000) :
    Calls Tryz.prog 22 #[.agg (cfc x N nc K kc), .slice S xs.length sc, .agg #[.int .i64 id, .slice A ns.length c]] W fun e w' => e = .returned (.int .i64 (ansB x (xs.map (·.1)) id ns)) ∧ Below W.heap.size W w' := by
  have HCK := hid (fun u (hu : Below W.heap.size W u) => jcheck_any x N nc K kc id A c ns u (hC.below hu) (hX.below hu) hs hw)
  have HCT := hid (fun u (hu : Below W.heap.size W u) B (hB : u.cell? ⟨B, 0, none⟩ = some (.int .i64 id)) => acont_any S sc xs B id u (hS.below hu) hB)
  have HKP := hid (fun u (hu : Below W.heap.size W u) => kept_any S sc xs u (hS.below hu) hn)
  have HMO := hid (fun u (hu : Below W.heap.size W u) => recmost_any id 0 ns A c u (hX.below hu))
  have hkm : keptB (xs.map (·.1)) + mostR id 0 ns ≤ 9223372036854775807 := by
    have h1 := keptB_le (xs.map (·.1))
    have h2 := most_le id 0 ns
    rw [List.length_map] at h1
    omega
  have HR : Hid (ansB x (xs.map (·.1)) id ns = if (chkJ id x.T x.ws ns).2.2 ≠ 0 then (chkJ id x.T x.ws ns).2.2 else if 0 ≤ plI (xs.map (·.1)) id then 9 else if 40 ≤ xs.length ∨ x.ro < ((keptB (xs.map (·.1)) + mostR id 0 ns : Nat) : Int) then 7 else 0) := hid (by unfold ansB; rw [List.length_map])
  clear hC hS hX hs hw
  generalize ansB x (xs.map (·.1)) id ns = R at *
  generalize chkJ id x.T x.ws ns = ck at *
  generalize keptB (xs.map (·.1)) = kp at *
  generalize mostR id 0 ns = mo at *
  generalize plI (xs.map (·.1)) id = pl at *
  obtain ⟨c0, le, ag, ro, ou, T, ws⟩ := x
  simp only [cfc] at *
  obtain ⟨ck1, ck2, ck3⟩ := ck
  simp only [Ck] at *
  generalize hxn : xs.length = xn at *
  clear hxn
  generalize ns.length = nn at *
  generalize T.length = tn at *
  generalize ws.length = wn at *
  go_enter Tryz.func22, Tryz.ntmps22
  go_upto_region 1 with (fail)
  refine at_world (fun u => u.heap[W.heap.size]? = some (.cells #[.int .i64 c0, .int .i64 le, .int .i64 ag, .int .i64 ro, .int .i64 ou, .slice N tn nc, .slice K wn kc] 25 (0, 0)) ∧ u.heap[W.heap.size + 1]? = some (.cells #[.int .i64 id, .slice A nn c] 53 (0, 0)) ∧ Below W.heap.size W u) (lay2E W _ _) ?_
  rintro w1 ⟨hq, hj, hb⟩
  have HB := hid hb
  have HQ := hid hq
  have HJ := hid hj
  clear hq hj hb
  generalize W.heap.size + 1 = J at *
  generalize hQ : W.heap.size = Q at HQ
  clear hQ
  obtain ⟨p0, p1⟩ := two_cellsR HJ.out
  obtain ⟨q0, q1, q2, q3, q4, q5, q6⟩ := seven_cellsJ HQ.out
  go_wp2_with fail
  refine (HCK.out _ HB.out).mono ?_
  rintro e w2 ⟨rfl, hb⟩
  have HB2 := hid (HB.out.trans (hb.mono HB.out.size))
  have HQ2 := hid (keep0 HQ.out hb)
  have HJ2 := hid (keep0 HJ.out hb)
  clear hb p0 p1 q0 q1 q2 q3 q4 q5 q6 HB HQ HJ HCK
  by_cases hc : ck3 = 0
  case neg =>
    have hd : (ck3 != 0) = true := by simpa using hc
    obtain rfl : R = ck3 := by rw [HR.out, if_pos hc]
    clear HR
    go_wp2
    go_ret
    exact ⟨rfl, HB2.out⟩
  subst hc
  obtain ⟨p0, p1⟩ := two_cellsR HJ2.out
  go_wp2_with fail
  refine (HCT.out _ HB2.out J p0).mono ?_
  rintro e w3 ⟨rfl, hb⟩
  have HB3 := hid (HB2.out.trans (hb.mono HB2.out.size))
  have HQ3 := hid (keep0 HQ2.out hb)
  have HJ3 := hid (keep0 HJ2.out hb)
  clear hb p0 p1 HB2 HQ2 HJ2 HCT
  by_cases hpl : 0 ≤ pl
  · rw [decide_eq_true hpl]
    obtain rfl : R = 9 := by rw [HR.out, if_neg (by simp), if_pos hpl]
    clear HR
    go_wp2
    go_ret
    exact ⟨rfl, HB3.out⟩
  rw [decide_eq_false hpl]
  obtain ⟨p0, p1⟩ := two_cellsR HJ3.out
  obtain ⟨q0, q1, q2, q3, q4, q5, q6⟩ := seven_cellsJ HQ3.out
  by_cases h40 : 40 ≤ xn
  · have hd : decide ((xn : Int) ≥ 40) = true := by simp; omega
    have hd2 : (xn : Int) ≥ 40 := by omega
    obtain rfl : R = 7 := by rw [HR.out, if_neg (by simp), if_neg hpl, if_pos (.inl h40)]
    clear HR
    go_upto_region 6 with (fail)
    refine wp_region_quiet_below (by kernel_rfl) (by kernel_rfl) ?_
    repeat (go_big_quiet_step (fail))
    refine wpQuiet_nil ?_
    intro _ hw'
    obtain ⟨⟨dq, osq⟩, hw''⟩ := hw'
    subst hw''
    have hbR := below_regrown w3 dq osq
    refine at_world (fun u => Below W.heap.size W u) (HB3.out.trans (hbR.mono HB3.out.size)) ?_
    clear hbR p0 p1 q0 q1 q2 q3 q4 q5 q6
    rintro w4 hb4
    have HB4 := hid hb4
    clear hb4
    go_wp2
    go_ret
    exact ⟨rfl, HB4.out⟩
  have hd : decide ((xn : Int) ≥ 40) = false := by simp; omega
  have hd2 : ¬ (xn : Int) ≥ 40 := by omega
  have hwr : IntKind.i64.wrap ((kp : Int) + (mo : Int)) = ((kp + mo : Nat) : Int) := by simp [IntKind.wrap, IntKind.bits, IntKind.signed]; omega
  have hgo : ∀ (bb : Bool), decide (((kp : Int) + (mo : Int)) > ro) = bb → R = (if bb then 7 else 0) := fun bb hbb => by
    rw [HR.out, if_neg (by simp), if_neg hpl]
    subst hbb
    by_cases h9 : ro < ((kp + mo : Nat) : Int)
    · rw [if_pos (.inr h9), decide_eq_true (show ((kp : Int) + (mo : Int)) > ro by omega)]
      rfl
    · rw [if_neg (by omega), decide_eq_false (show ¬ ((kp : Int) + (mo : Int)) > ro by omega)]
      rfl
  have HGO := hid hgo
  clear hgo HR
  go_upto_region 6 with (fail)
  replace p0 := cell_regrown p0
  replace p1 := cell_regrown p1
  replace q3 := cell_regrown q3
  have ck := reg (w := w3) (fun W' hW' => HKP.out W' (HB3.out.trans (hW'.mono HB3.out.size)))
  have cm := reg (w := w3) (fun W' hW' => HMO.out W' (HB3.out.trans (hW'.mono HB3.out.size)))
  by_cases hgt : ((kp : Int) + (mo : Int)) > ro
  · have hgt2 : (kp : Int) + (mo : Int) > ro := hgt
    obtain rfl : R = 7 := HGO.out true (decide_eq_true hgt)
    refine wp_region_quiet_below (by kernel_rfl) (by kernel_rfl) ?_
    repeat (go_big_quiet_step (first | (go_at_call 24; with_reducible exact ck _ _) | (go_at_call 39; with_reducible exact cm _ _)))
    refine wpQuiet_nil ?_
    intro _ hw'
    obtain ⟨⟨dq, osq⟩, hw''⟩ := hw'
    subst hw''
    have hbR := below_regrown w3 dq osq
    refine at_world (fun u => Below W.heap.size W u) (HB3.out.trans (hbR.mono HB3.out.size)) ?_
    clear hbR p0 p1 q0 q1 q2 q3 q4 q5 q6 ck cm
    rintro w4 hb4
    have HB4 := hid hb4
    clear hb4
    go_wp2
    go_ret
    exact ⟨rfl, HB4.out⟩
  · have hgt2 : ¬ (kp : Int) + (mo : Int) > ro := hgt
    obtain rfl : R = 0 := HGO.out false (decide_eq_false hgt)
    refine wp_region_quiet_below (by kernel_rfl) (by kernel_rfl) ?_
    repeat (go_big_quiet_step (first | (go_at_call 24; with_reducible exact ck _ _) | (go_at_call 39; with_reducible exact cm _ _)))
    refine wpQuiet_nil ?_
    intro _ hw'
    obtain ⟨⟨dq, osq⟩, hw''⟩ := hw'
    subst hw''
    have hbR := below_regrown w3 dq osq
    refine at_world (fun u => Below W.heap.size W u) (HB3.out.trans (hbR.mono HB3.out.size)) ?_
    clear hbR p0 p1 q0 q1 q2 q3 q4 q5 q6 ck cm
    rintro w4 hb4
    have HB4 := hid hb4
    clear hb4
    go_wp2
    go_ret
    exact ⟨rfl, HB4.out⟩

end Go.Proofs.YtgakobolhmdnnaaGreat
