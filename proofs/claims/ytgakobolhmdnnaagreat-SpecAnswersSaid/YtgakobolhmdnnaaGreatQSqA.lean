/- The document's Place, Kept, Answer of layer 40; spec.Free: contracts. -/
import Derived.Test.YtgakobolhmdnnaaGreatQSpD
import Derived.Test.YtgakobolhmdnnaaGreatQJbE
import Derived.Deep.RegionHeld3
import Derived.BigQuiet
import Derived.ChangeKeysEq
namespace Go.Proofs.YtgakobolhmdnnaaGreat
open Go.RowKit Go.Sort
set_option linter.unusedVariables false
set_option linter.unusedSimpArgs false

set_option maxRecDepth 20000 in
set_option maxHeartbeats 1000000 in
theorem r20place_any (A : Option Addr) (c : Nat) (xs : List Ee) (job : Int) (W : World) (h : InBk W A c xs) :
    Calls Tryz.prog 41 #[.slice A xs.length c, .int .i64 job] W fun e w' => e = .returned (.int .i64 (plI (xs.map (·.1)) job)) ∧ W = w' := by
  have HA := hid h
  have hm : xs.length ≤ 9223372036854775807 := by have := h.len; unfold maxLen at this; omega
  have HY := hid (fun k (hk : k < xs.length) (h1 : xs[k].1.id = job) (h2 : ∀ j (hj : j < xs.length), j < k → xs[j].1.id ≠ job) => show plI (xs.map (·.1)) job = (k : Int) by
    unfold plI
    rw [plB_of (k := k) (by simpa using hk) (by simpa using h1) (fun i hi => by simpa using h2 i (by omega) hi)])
  have HN := hid (fun (h2 : ∀ j (hj : j < xs.length), xs[j].1.id ≠ job) => show plI (xs.map (·.1)) job = -1 by
    unfold plI
    rw [plB_of_none (fun e he => by
      obtain ⟨x, hx, rfl⟩ := List.mem_map.1 he
      obtain ⟨j, hj, rfl⟩ := List.getElem_of_mem hx
      exact h2 j hj)])
  clear h
  generalize plI (xs.map (·.1)) job = R at *
  go_enter Tryz.func41, Tryz.ntmps41
  go_wp2
  go_loopw [5] (fun i wr => ∃ k : Nat, k ≤ xs.length ∧ i = .int .i64 (k : Int) ∧ Hid (∀ j (hj : j < xs.length), j < k → xs[j].1.id ≠ job) ∧ W = wr) (fun i _ => xs.length - (intOf i).toNat)
  case atStart => exact ⟨0, by omega, rfl, fun j hj h => absurd h (by omega), rfl⟩
  case round =>
    obtain ⟨k, hk, rfl, HT, rfl⟩ := hrel
    by_cases hlt : k < xs.length
    · have hlt2 : (k : Int) < (xs.length : Int) := by omega
      have k0 : ¬ (k : Int) < 0 := by omega
      obtain ⟨b, off, rfl, q0, q1, q2, q3, q4, q5⟩ := HA.out.el k hlt
      have HY2 := hid (fun h => HY.out k hlt h HT.out)
      have HT3 := hid (fun (hne : ¬ xs[k].1.id = job) => show ∀ j (hj : j < xs.length), j < k + 1 → xs[j].1.id ≠ job from fun j hj hjk => by
        by_cases hjk2 : j < k
        · exact HT.out j hj hjk2
        · obtain rfl : j = k := by omega
          exact hne)
      generalize xs[k].1.id = id at *
      clear q1 q2 q3 q4 q5
      by_cases hxy : id = job
      · have hd : (id == job) = true := by simpa using hxy
        have HE := hid (HY2.out hxy)
        go_wp2
        go_ret
        exact ⟨by obtain rfl := HE.out; rfl, rfl⟩
      · have hd : (id == job) = false := by simpa using hxy
        have HT2 := hid (HT3.out hxy)
        clear HT3 HY2
        go_wp2
        go_roundw
        case rel => exact ⟨k + 1, by omega, by go_num, HT2, by trivial⟩
        case measure => simp [intOf]; omega
    · have hge : ¬ (k : Int) < (xs.length : Int) := by omega
      have HE := hid (HN.out (fun j hj => HT.out j hj (by omega)))
      go_wp2
      go_ret
      exact ⟨by obtain rfl := HE.out; rfl, rfl⟩


set_option maxRecDepth 20000 in
set_option maxHeartbeats 2000000 in
theorem rkept_any (A : Option Addr) (c : Nat) (xs : List Ee) (W : World) (h : InBk W A c xs) (hn : xs.length ≤ 100000) :
    Calls Tryz.prog 25 #[.slice A xs.length c] W fun e w' => e = .returned (.int .i64 (keptB (xs.map (·.1)) : Nat)) ∧ RowKit.Below W.heap.size W w' := by
  have HX := hid h
  clear h
  go_enter Tryz.func25, Tryz.ntmps25
  go_wp2
  go_loopw [3, 4] (fun v i wr => ∃ (n m : Nat), n ≤ xs.length ∧ i = .int .i64 (n : Int) ∧ v = .int .i64 (m : Int) ∧ Hid (m = keptB ((xs.take n).map (·.1))) ∧ Hid (RowKit.Below W.heap.size W wr)) (fun _ i _ => xs.length - (intOf i).toNat)
  case atStart => exact ⟨0, 0, by omega, rfl, rfl, by simp [Hid, keptB], RowKit.Below.refl _ _⟩
  case round =>
    obtain ⟨n, m, hn9, rfl, rfl, HM, HB⟩ := hrel
    by_cases hlt : n < xs.length
    · have hlt2 : (n : Int) < (xs.length : Int) := by omega
      have hn0 : ¬ (n : Int) < 0 := by omega
      obtain ⟨b, off, hA, q0, q1, q2, q3, q4, q5⟩ := (HX.out.below HB.out).el n hlt
      subst hA
      have HTX := hid (fun u (hu : RowKit.Below W.heap.size W u) => r17most_any xs[n].1.id 0 xs[n].1.ns xs[n].2.A xs[n].2.ca u ((HX.out.below hu).2 _ (List.getElem_mem hlt)).1)
      have hkl := keptB_le ((xs.take n).map (·.1))
      rw [List.length_map, List.length_take, ← HM.out] at hkl
      have hml := most_le xs[n].1.id 0 xs[n].1.ns
      have HSN : Hid (m + mostR xs[n].1.id 0 xs[n].1.ns = keptB ((xs.take (n + 1)).map (·.1))) := hid (by rw [List.take_succ_eq_append_getElem hlt, List.map_append, List.map_singleton, keptB_snoc, ← HM.out])
      have hm9 : m + mostR xs[n].1.id 0 xs[n].1.ns ≤ 9223372036854775807 := by
        have : min n xs.length ≤ n := Nat.min_le_left _ _
        omega
      generalize mostR xs[n].1.id 0 xs[n].1.ns = mo at *
      generalize xs[n] = x at q0 q1 q2 q3 q4 q5 HTX
      obtain ⟨⟨id, sc, ep, ns, bd, dn⟩, ⟨A1, ca, P, cb, D, cd⟩⟩ := x
      simp only at q0 q1 q2 q3 q4 q5 HTX
      clear hkl hml HM q1 q2 q4 q5
      have hwr : IntKind.i64.wrap ((m : Int) + (mo : Int)) = ((m + mo : Nat) : Int) := by simp [IntKind.wrap, IntKind.bits, IntKind.signed]; omega
      generalize ns.length = nl at *
      go_upto_region 5 with (fail)
      replace q0 := cell_regrown q0
      replace q3 := cell_regrown q3
      have ck := reg (w := wr) (fun W' hW' => HTX.out W' (HB.out.trans (hW'.mono HB.out.size)))
      refine wp_region_quiet_below (by kernel_rfl) (by kernel_rfl) ?_
      repeat (go_big_quiet_step ((go_at_call 42; with_reducible exact ck _ _)))
      refine wpQuiet_nil ?_
      intro _ hw'
      obtain ⟨⟨dq, osq⟩, hw''⟩ := hw'
      subst hw''
      have hbR := below_regrown wr dq osq
      refine at_world (fun u => RowKit.Below W.heap.size W u) (HB.out.trans (hbR.mono HB.out.size)) ?_
      clear hbR q0 q3 ck
      rintro w3 hb
      have HB3 := hid hb
      clear hb HTX
      go_wp2
      go_roundw
      case rel => exact ⟨n + 1, m + mo, by omega, by go_num, by first | rfl | (simp only [hwr]), HSN.out, HB3.out⟩
      case measure => simp [intOf]; omega
    · obtain rfl : n = xs.length := by omega
      have hge : ¬ (xs.length : Int) < (xs.length : Int) := by omega
      rw [List.take_length] at HM
      go_wp2
      go_ret
      exact ⟨by rw [← HM.out]; rfl, HB.out⟩
/-- What room is free. -/
def freeB (ro : Int) (b : List En) : Int := if ro ≤ (keptB b : Int) then 0 else ro - keptB b
set_option maxRecDepth 20000 in
theorem free_any (x : Cf) (N : Option Addr) (nc : Nat) (K : Option Addr) (kc : Nat) (A : Option Addr) (c : Nat) (xs : List Ee) (W : World) (h : InBk W A c xs) (hn : xs.length ≤ 100000) (hro : x.ro ≤ 9223372036854775807) :
    Calls Tryz.prog 26 #[.agg (cfc x N nc K kc), .slice A xs.length c] W fun e w' => e = .returned (.int .i64 (freeB x.ro (xs.map (·.1)))) ∧ RowKit.Below W.heap.size W w' := by
  have HK := hid (fun u (hu : Below W.heap.size W u) => kept_any A c xs u (h.below hu) hn)
  have hkl := keptB_le (xs.map (·.1))
  rw [List.length_map] at hkl
  have HV : Hid (freeB x.ro (xs.map (·.1)) = if x.ro ≤ (keptB (xs.map (·.1)) : Int) then 0 else x.ro - keptB (xs.map (·.1))) := hid rfl
  clear h
  generalize freeB x.ro (xs.map (·.1)) = R at *
  generalize keptB (xs.map (·.1)) = kp at *
  obtain ⟨c0, le, ag, ro, ou, T, ws⟩ := x
  simp only [cfc] at *
  generalize xs.length = xn at *
  generalize T.length = tn at *
  generalize ws.length = wn at *
  go_enter Tryz.func26, Tryz.ntmps26
  go_upto_region 1 with (fail)
  refine at_world (fun u => u.heap[W.heap.size]? = some (.cells #[.int .i64 c0, .int .i64 le, .int .i64 ag, .int .i64 ro, .int .i64 ou, .slice N tn nc, .slice K wn kc] 25 (0, 0)) ∧ Below W.heap.size W u) ⟨heap_alloc_new _ _, bel_alloc (Below.refl _ _) _⟩ ?_
  rintro w1 ⟨hq, hb⟩
  have HB := hid hb
  have HQ := hid hq
  clear hq hb
  generalize hQ : W.heap.size = Q at HQ
  clear hQ
  go_wp2_with fail
  refine (HK.out _ HB.out).mono ?_
  rintro e w2 ⟨rfl, hb⟩
  have HB2 := hid (HB.out.trans (hb.mono HB.out.size))
  have HQ2 := hid (keep0 HQ.out hb)
  clear hb HB HQ HK
  obtain ⟨q0, q1, q2, q3, q4, q5, q6⟩ := seven_cellsJ HQ2.out
  by_cases hl : ro ≤ (kp : Int)
  · obtain rfl : R = 0 := by rw [HV.out, if_pos hl]
    clear HV
    go_wp2
    go_ret
    exact ⟨rfl, HB2.out⟩
  · have hwr : IntKind.i64.wrap (ro - (kp : Int)) = ro - (kp : Int) := by simp [IntKind.wrap, IntKind.bits, IntKind.signed]; omega
    obtain rfl : R = ro - (kp : Int) := by rw [HV.out, if_neg hl]
    clear HV
    go_wp2
    go_ret
    exact ⟨by first | rfl | (rw [← hwr]; rfl) | (simp only [hwr]; rfl), HB2.out⟩

theorem step_append_slg {P : Program} {w : World} {ops : Array Oper} {o : Oper} {a : Act} {K : Act → World → Prop} {Q : Exit → Act → World → Prop} {E : Prop} (hw : Region.wanted o (yielded ops a.tmps) = true) (s x : Operand) (t : TypeId) (ho : o.op = .call { callee := .builtin .append, args := #[s, x], argTypes := #[t, t] })
    (base : Nat) (e : TypeId) {z : Value} {size bytes : Nat} (ht : P.underlying t = some (.slice e)) (hinf : (P.info? e).map (fun i => (i.zero, i.size, i.bytes)) = some (some z, size, bytes)) (hzs : z.cells.size = size) (hsz : 0 < size)
    {v : Value} {n : Nat} {xs : List Value} (hs : a.eval s = v) (hown : w.ownsRow base e size v n xs)
    {A : Option Addr} {m c : Nat} {news : List Value} (hx : a.eval x = .slice A m c) (hsl : Sl w size A m c news) (h1 : ∀ u ∈ news, u.oneCell' = true)
    (h63 : n + m ≤ maxLen) (hbytes : (n + m) * bytes ≤ 140737488355328) (hbase : base ≤ w.heap.size)
    (h : ∀ v' w', w'.ownsRow base e size v' (n + m) (xs ++ news) → Below base w w' → w.heap.size ≤ w'.heap.size → (∀ g, base ≤ g → g < w.heap.size → v.ownBlock ≠ some g → w'.heap[g]? = w.heap[g]?) → K (a.put o.dst v') w') :
    if Region.wanted o (yielded ops a.tmps) = true then Oper.wp P o a w K Q else E := by
  rw [if_pos hw]
  exact wp_append_sl s x t ho base e ht hinf hzs hsz hs hown hx hsl h1 h63 hbytes hbase h
theorem idx3 (a b c : Int) (w : World) : (Instr.index 82 (.agg #[.int .i64 a, .int .i64 b, .int .i64 c]) (.int .i64 2)).run Tryz.prog w = .ok (.int .i64 c) w := by
  have hpk : Tryz.prog.plainKey 3 = true := by kernel_rfl
  have hc1 : Tryz.prog.cellsOf 3 = 1 := by kernel_rfl
  obtain ⟨i, hi⟩ : ∃ i, Tryz.prog.info? 3 = some i := by
    have : (Tryz.prog.info? 3).isSome = true := by kernel_rfl
    exact Option.isSome_iff_exists.1 this
  have hs : i.size = 1 := by
    have h9 : (Tryz.prog.info? 3).map (·.size) = some 1 := by kernel_rfl
    rw [hi] at h9
    simpa using h9
  have p2 := run_part_plain (P := Tryz.prog) w hpk (xs := #[.int .i64 a, .int .i64 b, .int .i64 c]) (off := 2) (v := .int .i64 c) rfl
  simp [Instr.index, asIntOf, run_underlying Tryz.underlying82, sizeOf, hi, hs, p2, go_sem]
  first | rfl | kernel_rfl

set_option maxRecDepth 20000 in
set_option maxHeartbeats 4000000 in
theorem ranswer_any (x : Cf) (N : Option Addr) (nc : Nat) (K : Option Addr) (kc : Nat) (S : Option Addr) (sc : Nat) (xs : List Ee) (id : Int) (A : Option Addr) (c : Nat) (ns : List (List UInt8)) (W : World) (hC : CfAt W x N nc K kc) (hS : InBk W S sc xs) (hX : TxJ W A c ns) (hn : xs.length ≤ 60) (hs : ∀ s ∈ ns, s.length ≤ 1000) (hw : x.ws.length ≤ 1000) :
    Calls Tryz.prog 23 #[.agg (cfc x N nc K kc), .slice S xs.length sc, .agg #[.int .i64 id, .slice A ns.length c]] W fun e w' => e = .returned (.int .i64 (ansB x (xs.map (·.1)) id ns)) ∧ Below W.heap.size W w' := by
  have HCK := hid (fun u (hu : Below W.heap.size W u) => rjcheck_any x N nc K kc id A c ns u (hC.below hu) (hX.below hu) hs hw)
  have HPL := hid (fun u (hu : Below W.heap.size W u) => r20place_any S sc xs id u (hS.below hu))
  have HXS := hid (fun u (hu : Below W.heap.size W u) => (hS.below hu).1)
  have HKP := hid (fun u (hu : Below W.heap.size W u) (B : Option Addr) (bc : Nat) (hB : Sl u 6 B (xs.length + 1) bc (gcells ebl xs ++ [.int .i64 id, .int .i64 0, .int .i64 0, .slice A ns.length c, .slice none 0 0, .slice none 0 0])) => show Calls Tryz.prog 25 #[.slice B (xs.length + 1) bc] u fun e w' => e = .returned (.int .i64 ((keptB (xs.map (·.1)) + mostR id 0 ns : Nat) : Int)) ∧ Below u.heap.size u w' by
    have h9 := rkept_any B bc (xs ++ [((⟨id, 0, 0, ns, [], []⟩ : En), (⟨A, c, none, 0, none, 0⟩ : Pt))]) u ⟨by rw [List.length_append, gcells_append]; exact hB, fun y hy => by
      rcases List.mem_append.1 hy with h8 | h8
      · exact (hS.below hu).2 y h8
      · obtain rfl := List.mem_singleton.1 h8
        exact ⟨hX.below hu, Sl.nil _ _ _ _ (Nat.zero_le _), Sl.nil _ _ _ _ (Nat.zero_le _)⟩⟩ (by simp; omega)
    rw [List.length_append, List.length_singleton, List.map_append, List.map_singleton, keptB_snoc] at h9
    exact h9)
  have HR : Hid (ansB x (xs.map (·.1)) id ns = if (chkJ id x.T x.ws ns).2.2 ≠ 0 then (chkJ id x.T x.ws ns).2.2 else if 0 ≤ plI (xs.map (·.1)) id then 9 else if 40 ≤ xs.length ∨ x.ro < ((keptB (xs.map (·.1)) + mostR id 0 ns : Nat) : Int) then 7 else 0) := hid (by unfold ansB; rw [List.length_map])
  clear hC hS hX hs hw
  generalize ansB x (xs.map (·.1)) id ns = R at *
  generalize chkJ id x.T x.ws ns = ck at *
  generalize keptB (xs.map (·.1)) + mostR id 0 ns = kp at *
  generalize plI (xs.map (·.1)) id = pl at *
  have hgl := gcells_length (f := ebl) (n := 6) ebl_len xs
  have hone : ∀ u ∈ gcells ebl xs, u.oneCell' = true := ebl_one xs
  generalize gcells ebl xs = gx at *
  obtain ⟨c0, le, ag, ro, ou, T, ws⟩ := x
  simp only [cfc] at *
  obtain ⟨ck1, ck2, ck3⟩ := ck
  simp only at *
  generalize hxn : xs.length = xn at *
  clear hxn
  generalize ns.length = nn at *
  generalize T.length = tn at *
  generalize ws.length = wn at *
  have hidx := idx3
  go_enter Tryz.func23, Tryz.ntmps23
  go_upto_region 1 with (fail)
  refine at_world (fun u => u.heap[W.heap.size]? = some (.cells #[.int .i64 c0, .int .i64 le, .int .i64 ag, .int .i64 ro, .int .i64 ou, .slice N tn nc, .slice K wn kc] 25 (0, 0)) ∧ u.heap[W.heap.size + 1]? = some (.cells #[.int .i64 id, .slice A nn c] 53 (0, 0)) ∧ Below W.heap.size W u) (lay2E W _ _) ?_
  rintro w1 ⟨hq, hj, hb⟩
  have HB := hid hb
  have HQ := hid hq
  have HJ := hid hj
  clear hq hj hb
  generalize W.heap.size + 1 = J at *
  generalize hQ : W.heap.size = Q at HQ
  clear hQ
  obtain ⟨p0, p1⟩ := two_cellsR HJ.out
  obtain ⟨q0, q1, q2, q3, q4, q5, q6⟩ := seven_cellsJ HQ.out
  go_wp2_with fail
  refine (HCK.out _ HB.out).mono ?_
  rintro e w2 ⟨rfl, hb⟩
  have HB2 := hid (HB.out.trans (hb.mono HB.out.size))
  have HQ2 := hid (keep0 HQ.out hb)
  have HJ2 := hid (keep0 HJ.out hb)
  clear hb p0 p1 q0 q1 q2 q3 q4 q5 q6 HB HQ HJ HCK
  by_cases hc : ck3 = 0
  case neg =>
    have hd : (ck3 != 0) = true := by simpa using hc
    obtain rfl : R = ck3 := by rw [HR.out, if_pos hc]
    clear HR
    go_wp2
    go_ret
    exact ⟨rfl, HB2.out⟩
  subst hc
  obtain ⟨p0, p1⟩ := two_cellsR HJ2.out
  go_wp2_with fail
  refine (HPL.out _ HB2.out).mono ?_
  rintro e w3 ⟨rfl, rfl⟩
  clear HPL
  by_cases hpl : 0 ≤ pl
  · have hpl2 : pl ≥ 0 := hpl
    obtain rfl : R = 9 := by rw [HR.out, if_neg (by simp), if_pos hpl]
    clear HR
    go_wp2
    go_ret
    exact ⟨rfl, HB2.out⟩
  have hpl2 : ¬ pl ≥ 0 := hpl
  obtain ⟨q0, q1, q2, q3, q4, q5, q6⟩ := seven_cellsJ HQ2.out
  have hS : ∀ U, Below w2.heap.size w2 U → ((U.cell? ⟨Q, 3, none⟩ = some (.int .i64 ro) ∧ U.cell? ⟨J, 0, none⟩ = some (.int .i64 id) ∧ U.cell? ⟨J, 1, none⟩ = some (.slice A nn c)) ∧ Below w2.heap.size w2 U) := fun U hU => ⟨⟨(seven_cellsJ (keep0 HQ2.out hU)).2.2.2.1, (two_cellsR (keep0 HJ2.out hU)).1, (two_cellsR (keep0 HJ2.out hU)).2⟩, hU⟩
  have hu0 : Below w2.heap.size w2 w2.drew := below_drew (Below.refl _ _)
  have HU := hid (fun U (h : Below w2.heap.size w2 U) => HB2.out.trans (h.mono HB2.out.size))
  by_cases h40 : 40 ≤ xn
  · have hd : decide ((xn : Int) ≥ 40) = true := by simp; omega
    have hd2 : (xn : Int) ≥ 40 := by omega
    obtain rfl : R = 7 := by rw [HR.out, if_neg (by simp), if_neg hpl, if_pos (.inl h40)]
    clear HR p0 p1 q0 q1 q2 q3 q4 q5 q6
    go_upto_region 6 with (fail)
    refine wp_region_held_drew (S := (fun U => (U.cell? ⟨Q, 3, none⟩ = some (.int .i64 ro) ∧ U.cell? ⟨J, 0, none⟩ = some (.int .i64 id) ∧ U.cell? ⟨J, 1, none⟩ = some (.slice A nn c)) ∧ Below w2.heap.size w2 U)) (by kernel_rfl) (hS _ hu0) (fun hHeld => ?_)
    refine wpAnyH_take (i := 0) (v := ?_) rfl (by kernel_rfl) (by kernel_rfl) (by kernel_rfl) (fun _ _ _ h => h) (Or.inl ⟨by rfl, ?_⟩) (by assumption) ?_
    rotate_left
    focus
      intro U hU
      try dsimp only at hU
      go_simp
      try (with_reducible rfl)
    simp only [List.getElem_toArray, List.getElem_cons_succ, List.getElem_cons_zero, Act.put, List.setIfInBounds_toArray, List.set_cons_zero, List.set_cons_succ]
    refine wpAnyH_take (i := 1) (v := ?_) rfl (by kernel_rfl) (by kernel_rfl) (by kernel_rfl) (fun _ _ _ h => h) (Or.inl ⟨by rfl, ?_⟩) (by assumption) ?_
    rotate_left
    focus
      intro U hU
      try dsimp only at hU
      go_simp
      try (with_reducible rfl)
    simp only [List.getElem_toArray, List.getElem_cons_succ, List.getElem_cons_zero, Act.put, List.setIfInBounds_toArray, List.set_cons_zero, List.set_cons_succ]
    refine wpAnyH_take (i := 2) (v := ?_) rfl (by kernel_rfl) (by kernel_rfl) (by kernel_rfl) (fun _ _ _ h => h) (Or.inl ⟨by rfl, ?_⟩) (by assumption) ?_
    rotate_left
    focus
      intro U hU
      try dsimp only at hU
      go_simp
      try (with_reducible rfl)
    simp only [List.getElem_toArray, List.getElem_cons_succ, List.getElem_cons_zero, Act.put, List.setIfInBounds_toArray, List.set_cons_zero, List.set_cons_succ]
    refine wpAnyH_take (i := 3) (v := ?_) rfl (by kernel_rfl) (by kernel_rfl) (by kernel_rfl) (fun _ _ _ h => h) (Or.inl ⟨by rfl, ?_⟩) (by assumption) ?_
    rotate_left
    focus
      intro U hU
      try dsimp only at hU
      go_simp
      try (with_reducible rfl)
    simp only [List.getElem_toArray, List.getElem_cons_succ, List.getElem_cons_zero, Act.put, List.setIfInBounds_toArray, List.set_cons_zero, List.set_cons_succ]
    refine wpAnyH_take (i := 4) (v := undef) rfl (by kernel_rfl) (by kernel_rfl) (by kernel_rfl) (fun _ _ _ h => h) (Or.inr ⟨by rfl, rfl⟩) (by assumption) ?_
    simp only [List.getElem_toArray, List.getElem_cons_succ, List.getElem_cons_zero, Act.put, List.setIfInBounds_toArray, List.set_cons_zero, List.set_cons_succ]
    refine wpAnyH_take (i := 5) (v := undef) rfl (by kernel_rfl) (by kernel_rfl) (by kernel_rfl) (fun _ _ _ h => h) (Or.inr ⟨by rfl, rfl⟩) (by assumption) ?_
    simp only [List.getElem_toArray, List.getElem_cons_succ, List.getElem_cons_zero, Act.put, List.setIfInBounds_toArray, List.set_cons_zero, List.set_cons_succ]
    refine wpAnyH_take (i := 6) (v := undef) rfl (by kernel_rfl) (by kernel_rfl) (by kernel_rfl) (fun _ _ _ h => h) (Or.inr ⟨by rfl, rfl⟩) (by assumption) ?_
    simp only [List.getElem_toArray, List.getElem_cons_succ, List.getElem_cons_zero, Act.put, List.setIfInBounds_toArray, List.set_cons_zero, List.set_cons_succ]
    refine wpAnyH_take (i := 7) (v := undef) rfl (by kernel_rfl) (by kernel_rfl) (by kernel_rfl) (fun _ _ _ h => h) (Or.inr ⟨by rfl, rfl⟩) (by assumption) ?_
    simp only [List.getElem_toArray, List.getElem_cons_succ, List.getElem_cons_zero, Act.put, List.setIfInBounds_toArray, List.set_cons_zero, List.set_cons_succ]
    refine wpAnyH_take (i := 8) (v := undef) rfl (by kernel_rfl) (by kernel_rfl) (by kernel_rfl) (fun _ _ _ h => h) (Or.inr ⟨by rfl, rfl⟩) (by assumption) ?_
    simp only [List.getElem_toArray, List.getElem_cons_succ, List.getElem_cons_zero, Act.put, List.setIfInBounds_toArray, List.set_cons_zero, List.set_cons_succ]
    refine wpAnyH_take (i := 9) (v := undef) rfl (by kernel_rfl) (by kernel_rfl) (by kernel_rfl) (fun _ _ _ h => h) (Or.inr ⟨by rfl, rfl⟩) (by assumption) ?_
    simp only [List.getElem_toArray, List.getElem_cons_succ, List.getElem_cons_zero, Act.put, List.setIfInBounds_toArray, List.set_cons_zero, List.set_cons_succ]
    refine wpAnyH_take (i := 10) (v := undef) rfl (by kernel_rfl) (by kernel_rfl) (by kernel_rfl) (fun _ _ _ h => h) (Or.inr ⟨by rfl, rfl⟩) (by assumption) ?_
    simp only [List.getElem_toArray, List.getElem_cons_succ, List.getElem_cons_zero, Act.put, List.setIfInBounds_toArray, List.set_cons_zero, List.set_cons_succ]
    refine wpAnyH_take (i := 11) (v := undef) rfl (by kernel_rfl) (by kernel_rfl) (by kernel_rfl) (fun _ _ _ h => h) (Or.inr ⟨by rfl, rfl⟩) (by assumption) ?_
    simp only [List.getElem_toArray, List.getElem_cons_succ, List.getElem_cons_zero, Act.put, List.setIfInBounds_toArray, List.set_cons_zero, List.set_cons_succ]
    refine wpAnyH_take (i := 12) (v := undef) rfl (by kernel_rfl) (by kernel_rfl) (by kernel_rfl) (fun _ _ _ h => h) (Or.inr ⟨by rfl, rfl⟩) (by assumption) ?_
    simp only [List.getElem_toArray, List.getElem_cons_succ, List.getElem_cons_zero, Act.put, List.setIfInBounds_toArray, List.set_cons_zero, List.set_cons_succ]
    refine wpAnyH_take (i := 13) (v := undef) rfl (by kernel_rfl) (by kernel_rfl) (by kernel_rfl) (fun _ _ _ h => h) (Or.inr ⟨by rfl, rfl⟩) (by assumption) ?_
    simp only [List.getElem_toArray, List.getElem_cons_succ, List.getElem_cons_zero, Act.put, List.setIfInBounds_toArray, List.set_cons_zero, List.set_cons_succ]
    refine wpAnyH_take (i := 14) (v := undef) rfl (by kernel_rfl) (by kernel_rfl) (by kernel_rfl) (fun _ _ _ h => h) (Or.inr ⟨by rfl, rfl⟩) (by assumption) ?_
    simp only [List.getElem_toArray, List.getElem_cons_succ, List.getElem_cons_zero, Act.put, List.setIfInBounds_toArray, List.set_cons_zero, List.set_cons_succ]
    refine wpAnyH_take (i := 15) (v := undef) rfl (by kernel_rfl) (by kernel_rfl) (by kernel_rfl) (fun _ _ _ h => h) (Or.inr ⟨by rfl, rfl⟩) (by assumption) ?_
    simp only [List.getElem_toArray, List.getElem_cons_succ, List.getElem_cons_zero, Act.put, List.setIfInBounds_toArray, List.set_cons_zero, List.set_cons_succ]
    refine wpAnyH_take (i := 16) (v := undef) rfl (by kernel_rfl) (by kernel_rfl) (by kernel_rfl) (fun _ _ _ h => h) (Or.inr ⟨by rfl, rfl⟩) (by assumption) ?_
    simp only [List.getElem_toArray, List.getElem_cons_succ, List.getElem_cons_zero, Act.put, List.setIfInBounds_toArray, List.set_cons_zero, List.set_cons_succ]
    refine wpAnyH_take (i := 17) (v := undef) rfl (by kernel_rfl) (by kernel_rfl) (by kernel_rfl) (fun _ _ _ h => h) (Or.inr ⟨by rfl, rfl⟩) (by assumption) ?_
    simp only [List.getElem_toArray, List.getElem_cons_succ, List.getElem_cons_zero, Act.put, List.setIfInBounds_toArray, List.set_cons_zero, List.set_cons_succ]
    refine wpAnyH_take (i := 18) (v := ?_) rfl (by kernel_rfl) (by kernel_rfl) (by kernel_rfl) (fun _ _ _ h => h) (Or.inl ⟨by rfl, ?_⟩) (by assumption) ?_
    rotate_left
    focus
      intro U hU
      try dsimp only at hU
      go_simp
      try (with_reducible rfl)
    simp only [List.getElem_toArray, List.getElem_cons_succ, List.getElem_cons_zero, Act.put, List.setIfInBounds_toArray, List.set_cons_zero, List.set_cons_succ]
    refine wpAnyH_done (by kernel_rfl) ?_ _
    clear hHeld hS
    go_wp2
    go_ret
    exact ⟨rfl, HU.out _ hu0⟩
  have hd : decide ((xn : Int) ≥ 40) = false := by simp; omega
  have hd2 : ¬ (xn : Int) ≥ 40 := by omega
  have hgo : ∀ (bb : Bool), decide ((kp : Int) > ro) = bb → R = (if bb then 7 else 0) := fun bb hbb => by
    rw [HR.out, if_neg (by simp), if_neg hpl]
    subst hbb
    by_cases h9 : ro < (kp : Int)
    · rw [if_pos (.inr h9), decide_eq_true (show (kp : Int) > ro by omega)]
      rfl
    · rw [if_neg (by omega), decide_eq_false (show ¬ (kp : Int) > ro by omega)]
      rfl
  obtain ⟨gt, hgt⟩ : ∃ gt, decide ((kp : Int) > ro) = gt := ⟨_, rfl⟩
  have HR7 := hgo gt hgt
  clear hgo HR p0 p1 q0 q1 q2 q3 q4 q5 q6
  subst HR7
  go_upto_region 6 with (fail)
  refine wp_region_held_drew (S := (fun U => (U.cell? ⟨Q, 3, none⟩ = some (.int .i64 ro) ∧ U.cell? ⟨J, 0, none⟩ = some (.int .i64 id) ∧ U.cell? ⟨J, 1, none⟩ = some (.slice A nn c)) ∧ Below w2.heap.size w2 U)) (by kernel_rfl) (hS _ hu0) (fun hHeld => ?_)
  generalize w2.drew = u0 at *
  refine wpAnyH_take (i := 0) (v := ?_) rfl (by kernel_rfl) (by kernel_rfl) (by kernel_rfl) (fun _ _ _ h => h) (Or.inl ⟨by rfl, ?_⟩) (by assumption) ?_
  rotate_left
  focus
    intro U hU
    try dsimp only at hU
    go_simp
    try (with_reducible rfl)
  simp only [List.getElem_toArray, List.getElem_cons_succ, List.getElem_cons_zero, Act.put, List.setIfInBounds_toArray, List.set_cons_zero, List.set_cons_succ]
  refine wpAnyH_take (i := 1) (v := ?_) rfl (by kernel_rfl) (by kernel_rfl) (by kernel_rfl) (fun _ _ _ h => h) (Or.inl ⟨by rfl, ?_⟩) (by assumption) ?_
  rotate_left
  focus
    intro U hU
    try dsimp only at hU
    go_simp
    try (with_reducible rfl)
  simp only [List.getElem_toArray, List.getElem_cons_succ, List.getElem_cons_zero, Act.put, List.setIfInBounds_toArray, List.set_cons_zero, List.set_cons_succ]
  refine wpAnyH_take (i := 2) (v := ?_) rfl (by kernel_rfl) (by kernel_rfl) (by kernel_rfl) (fun _ _ _ h => h) (Or.inl ⟨by rfl, ?_⟩) (by assumption) ?_
  rotate_left
  focus
    intro U hU
    try dsimp only at hU
    go_simp
    try (with_reducible rfl)
  simp only [List.getElem_toArray, List.getElem_cons_succ, List.getElem_cons_zero, Act.put, List.setIfInBounds_toArray, List.set_cons_zero, List.set_cons_succ]
  refine wpAnyH_take (i := 3) (v := ?_) rfl (by kernel_rfl) (by kernel_rfl) (by kernel_rfl) (fun _ _ _ h => h) (Or.inl ⟨by rfl, ?_⟩) (by assumption) ?_
  rotate_left
  focus
    intro U hU
    try dsimp only at hU
    go_simp
    try (with_reducible rfl)
  simp only [List.getElem_toArray, List.getElem_cons_succ, List.getElem_cons_zero, Act.put, List.setIfInBounds_toArray, List.set_cons_zero, List.set_cons_succ]
  refine wpAnyH_take (i := 5) (v := ?_) rfl (by kernel_rfl) (by kernel_rfl) (by kernel_rfl) (fun _ _ _ h => h) (Or.inl ⟨by rfl, ?_⟩) (by assumption) ?_
  rotate_left
  focus
    intro U hU
    try dsimp only at hU
    go_simp
    try (with_reducible rfl)
  simp only [List.getElem_toArray, List.getElem_cons_succ, List.getElem_cons_zero, Act.put, List.setIfInBounds_toArray, List.set_cons_zero, List.set_cons_succ]
  refine wpAnyH_take (i := 7) (v := ?_) rfl (by kernel_rfl) (by kernel_rfl) (by kernel_rfl) (fun _ _ _ h => h) (Or.inl ⟨by rfl, ?_⟩) (by assumption) ?_
  rotate_left
  focus
    intro U hU
    try dsimp only at hU
    go_simp
    try (with_reducible rfl)
  simp only [List.getElem_toArray, List.getElem_cons_succ, List.getElem_cons_zero, Act.put, List.setIfInBounds_toArray, List.set_cons_zero, List.set_cons_succ]
  refine wpAnyH_take (i := 8) (v := ?_) rfl (by kernel_rfl) (by kernel_rfl) (by kernel_rfl) (fun _ _ _ h => h) (Or.inl ⟨by rfl, ?_⟩) (by assumption) ?_
  rotate_left
  focus
    intro U hU
    try dsimp only at hU
    go_simp
    try (with_reducible rfl)
  simp only [List.getElem_toArray, List.getElem_cons_succ, List.getElem_cons_zero, Act.put, List.setIfInBounds_toArray, List.set_cons_zero, List.set_cons_succ]
  refine wpAnyH_take (i := 9) (v := ?_) rfl (by kernel_rfl) (by kernel_rfl) (by kernel_rfl) (fun _ _ _ h => h) (Or.inl ⟨by rfl, ?_⟩) (by assumption) ?_
  rotate_left
  focus
    intro U hU
    try dsimp only at hU
    go_simp
    try (with_reducible rfl)
  simp only [List.getElem_toArray, List.getElem_cons_succ, List.getElem_cons_zero, Act.put, List.setIfInBounds_toArray, List.set_cons_zero, List.set_cons_succ]
  refine wpAnyH_take (i := 10) (v := ?_) rfl (by kernel_rfl) (by kernel_rfl) (by kernel_rfl) (fun _ _ _ h => h) (Or.inl ⟨by rfl, ?_⟩) (by assumption) ?_
  rotate_left
  focus
    intro U hU
    try dsimp only at hU
    go_simp
    try (with_reducible rfl)
  simp only [List.getElem_toArray, List.getElem_cons_succ, List.getElem_cons_zero, Act.put, List.setIfInBounds_toArray, List.set_cons_zero, List.set_cons_succ]
  refine wpAnyH_take (i := 11) (v := ?_) rfl (by kernel_rfl) (by kernel_rfl) (by kernel_rfl) (fun _ _ _ h => h) (Or.inl ⟨by rfl, ?_⟩) (by assumption) ?_
  rotate_left
  focus
    intro U hU
    try dsimp only at hU
    go_simp
    try (with_reducible rfl)
  simp only [List.getElem_toArray, List.getElem_cons_succ, List.getElem_cons_zero, Act.put, List.setIfInBounds_toArray, List.set_cons_zero, List.set_cons_succ]
  refine wpAnyH_take (i := 15) (v := ?_) rfl (by kernel_rfl) (by kernel_rfl) (by kernel_rfl) (fun _ _ _ h => h) (Or.inl ⟨by rfl, ?_⟩) (by assumption) ?_
  rotate_left
  focus
    intro U hU
    try dsimp only at hU
    go_simp
    try (with_reducible rfl)
  simp only [List.getElem_toArray, List.getElem_cons_succ, List.getElem_cons_zero, Act.put, List.setIfInBounds_toArray, List.set_cons_zero, List.set_cons_succ]
  refine wpAnyH_take (i := 16) (v := ?_) rfl (by kernel_rfl) (by kernel_rfl) (by kernel_rfl) (fun _ _ _ h => h) (Or.inl ⟨by rfl, ?_⟩) (by assumption) ?_
  rotate_left
  focus
    intro U hU
    try dsimp only at hU
    go_simp
    try (with_reducible rfl)
  simp only [List.getElem_toArray, List.getElem_cons_succ, List.getElem_cons_zero, Act.put, List.setIfInBounds_toArray, List.set_cons_zero, List.set_cons_succ]
  refine wpAnyH_ready (rs := [4, 12]) (by kernel_rfl) (by simp) ?_
  refine (AllReadyH.cons rfl (fun K hK => ?_) (AllReadyH.cons rfl (fun K hK => ?_) AllReadyH.nil))
  · skip
    simp only [List.getElem_toArray, List.getElem_cons_succ, List.getElem_cons_zero]
    go_simp
    refine hK.out _ _ ?_ (fun hHeld2 => ?_)
    focus
      exact hS _ (hu0.alloc hu0.size _)
    clear hHeld
    have hHeld := hHeld2
    clear hHeld2 hK K
    try simp only [List.getElem_toArray, List.getElem_cons_succ, List.getElem_cons_zero, Act.put, List.setIfInBounds_toArray, List.set_cons_zero, List.set_cons_succ]
    have gg : Below (World.heap u0).size u0 (World.alloc u0 (.cells #[] 29 (0, 0))) := (Below.refl _ _).alloc (Nat.le_refl _) _
    have hu1 := hu0.trans (gg.mono hu0.size)
    have hE : (World.alloc u0 (.cells #[] 29 (0, 0))).ownsRow w2.heap.size 29 6 (.slice (some ⟨(World.heap u0).size, 0, none⟩) 0 0) 0 [] := own_mono (own_empty u0 29 6) hu0.size
    clear gg
    generalize World.alloc u0 (.cells #[] 29 (0, 0)) = u1 at *
    generalize (World.heap u0).size = M1 at *
    refine wpAnyH_ready (rs := [6, 12]) (by kernel_rfl) (by simp) ?_
    refine (AllReadyH.cons rfl (fun K hK => ?_) (AllReadyH.cons rfl (fun K hK => ?_) AllReadyH.nil))
    · skip
      refine step_append_slg (by rfl) (.tmp 24) (.tmp 25) 33 rfl w2.heap.size 29 Tryz.underlying33 info_entry rfl (by omega) rfl hE rfl (HXS.out _ (HU.out _ hu1)) hone ?d1a ?d1b hu1.size ?_
      case d1a => unfold maxLen; omega
      case d1b => omega
      intro v9 u2 ho9 hb9 _ hk9
      have hu2 := hu1.trans hb9
      have hP : (u2).ownsRow w2.heap.size 29 6 v9 xn gx := by simpa using ho9
      obtain ⟨A9, c9, rfl, _⟩ := Sl.of_own hP
      clear hb9 ho9 hk9
      refine hK.out _ _ ?_ (fun hHeld2 => ?_)
      focus
        exact hS _ hu2
      clear hHeld
      have hHeld := hHeld2
      clear hHeld2 hK K
      try simp only [List.getElem_toArray, List.getElem_cons_succ, List.getElem_cons_zero, Act.put, List.setIfInBounds_toArray, List.set_cons_zero, List.set_cons_succ]
      refine wpAnyH_ready (rs := [12]) (by kernel_rfl) (by simp) ?_
      refine (AllReadyH.cons rfl (fun K hK => ?_) AllReadyH.nil)
      simp only [List.getElem_toArray, List.getElem_cons_succ, List.getElem_cons_zero]
      go_simp
      refine hK.out _ _ ?_ (fun hHeld2 => ?_)
      focus
        exact hS _ (hu2.alloc hu2.size _)
      clear hHeld
      have hHeld := hHeld2
      clear hHeld2 hK K
      try simp only [List.getElem_toArray, List.getElem_cons_succ, List.getElem_cons_zero, Act.put, List.setIfInBounds_toArray, List.set_cons_zero, List.set_cons_succ]
      have gg : Below (World.heap u2).size u2 (World.alloc u2 (.cells #[.int .i64 id, .int .i64 0, .int .i64 0, .slice A nn c, .slice none 0 0, .slice none 0 0] 29 (0, 0))) := (Below.refl _ _).alloc (Nat.le_refl _) _
      have hu3 := hu2.trans (gg.mono hu2.size)
      have hm2 : w2.heap.size ≤ (World.heap u2).size := hu2.size
      have hF : (World.alloc u2 (.cells #[.int .i64 id, .int .i64 0, .int .i64 0, .slice A nn c, .slice none 0 0, .slice none 0 0] 29 (0, 0))).heap[(World.heap u2).size]? = some (.cells #[.int .i64 id, .int .i64 0, .int .i64 0, .slice A nn c, .slice none 0 0, .slice none 0 0] 29 (0, 0)) := heap_alloc_new u2 (.cells #[.int .i64 id, .int .i64 0, .int .i64 0, .slice A nn c, .slice none 0 0, .slice none 0 0] 29)
      replace hP := own_keep hP gg
      clear gg
      generalize World.alloc u2 (.cells #[.int .i64 id, .int .i64 0, .int .i64 0, .slice A nn c, .slice none 0 0, .slice none 0 0] 29 (0, 0)) = u3 at *
      generalize (World.heap u2).size = M2 at *
      refine wpAnyH_ready (rs := [13]) (by kernel_rfl) (by simp) ?_
      refine (AllReadyH.cons rfl (fun K hK => ?_) AllReadyH.nil)
      refine step_append_slg (by rfl) (.tmp 26) (.tmp 32) 33 rfl w2.heap.size 29 Tryz.underlying33 info_entry rfl (by omega) rfl hP rfl (sl_blk6 hF) (by simp [Value.oneCell']) ?d2a ?d2b hu3.size ?_
      case d2a => unfold maxLen; omega
      case d2b => omega
      intro v9 u4 ho9 hb9 _ _
      have hu4 := hu3.trans hb9
      obtain ⟨A8, c8, rfl, hs8⟩ := Sl.of_own ho9
      clear hb9 ho9 hP hF hE
      refine hK.out _ _ ?_ (fun hHeld2 => ?_)
      focus
        exact hS _ hu4
      clear hHeld
      have hHeld := hHeld2
      clear hHeld2 hK K
      try simp only [List.getElem_toArray, List.getElem_cons_succ, List.getElem_cons_zero, Act.put, List.setIfInBounds_toArray, List.set_cons_zero, List.set_cons_succ]
      refine wpAnyH_ready (rs := [14]) (by kernel_rfl) (by simp) ?_
      refine (AllReadyH.cons rfl (fun K hK => ?_) AllReadyH.nil)
      simp only [List.getElem_toArray, List.getElem_cons_succ, List.getElem_cons_zero]
      go_simp
      refine (HKP.out _ (HU.out _ hu4) _ _ hs8).mono ?_
      rintro q u5 ⟨rfl, hb9⟩
      have hu5 : Below w2.heap.size w2 u5 := hu4.trans (hb9.mono hu4.size)
      clear hb9 hs8
      go_wp2_with fail
      refine hK.out _ _ ?_ (fun hHeld2 => ?_)
      focus
        exact hS _ hu5
      clear hHeld
      have hHeld := hHeld2
      clear hHeld2 hK K
      try simp only [List.getElem_toArray, List.getElem_cons_succ, List.getElem_cons_zero, Act.put, List.setIfInBounds_toArray, List.set_cons_zero, List.set_cons_succ]
      refine wpAnyH_take (i := 17) (v := ?_) rfl (by kernel_rfl) (by kernel_rfl) (by kernel_rfl) (fun _ _ _ h => h) (Or.inl ⟨by rfl, ?_⟩) (by assumption) ?_
      rotate_left
      focus
        intro U hU
        try dsimp only at hU
        go_simp
        try (with_reducible rfl)
      simp only [List.getElem_toArray, List.getElem_cons_succ, List.getElem_cons_zero, Act.put, List.setIfInBounds_toArray, List.set_cons_zero, List.set_cons_succ]
      refine wpAnyH_take (i := 18) (v := ?_) rfl (by kernel_rfl) (by kernel_rfl) (by kernel_rfl) (fun _ _ _ h => h) (Or.inl ⟨by rfl, ?_⟩) (by assumption) ?_
      rotate_left
      focus
        intro U hU
        try dsimp only at hU
        go_simp
        try (with_reducible rfl)
      simp only [List.getElem_toArray, List.getElem_cons_succ, List.getElem_cons_zero, Act.put, List.setIfInBounds_toArray, List.set_cons_zero, List.set_cons_succ]
      refine wpAnyH_done (by kernel_rfl) ?_ _
      clear hHeld hS
      cases gt
      all_goals
        go_wp2
        go_ret
        exact ⟨rfl, HU.out _ hu5⟩
    · skip
      simp only [List.getElem_toArray, List.getElem_cons_succ, List.getElem_cons_zero]
      go_simp
      refine hK.out _ _ ?_ (fun hHeld2 => ?_)
      focus
        exact hS _ (hu1.alloc hu1.size _)
      clear hHeld
      have hHeld := hHeld2
      clear hHeld2 hK K
      try simp only [List.getElem_toArray, List.getElem_cons_succ, List.getElem_cons_zero, Act.put, List.setIfInBounds_toArray, List.set_cons_zero, List.set_cons_succ]
      have gg : Below (World.heap u1).size u1 (World.alloc u1 (.cells #[.int .i64 id, .int .i64 0, .int .i64 0, .slice A nn c, .slice none 0 0, .slice none 0 0] 29 (0, 0))) := (Below.refl _ _).alloc (Nat.le_refl _) _
      have hu2 := hu1.trans (gg.mono hu1.size)
      have hm2 : w2.heap.size ≤ (World.heap u1).size := hu1.size
      have hne : M1 ≠ (World.heap u1).size := Nat.ne_of_lt (own_lt hE M1 rfl).2.1
      have hF : (World.alloc u1 (.cells #[.int .i64 id, .int .i64 0, .int .i64 0, .slice A nn c, .slice none 0 0, .slice none 0 0] 29 (0, 0))).heap[(World.heap u1).size]? = some (.cells #[.int .i64 id, .int .i64 0, .int .i64 0, .slice A nn c, .slice none 0 0, .slice none 0 0] 29 (0, 0)) := heap_alloc_new u1 (.cells #[.int .i64 id, .int .i64 0, .int .i64 0, .slice A nn c, .slice none 0 0, .slice none 0 0] 29)
      replace hE := own_keep hE gg
      clear gg
      generalize World.alloc u1 (.cells #[.int .i64 id, .int .i64 0, .int .i64 0, .slice A nn c, .slice none 0 0, .slice none 0 0] 29 (0, 0)) = u2 at *
      generalize (World.heap u1).size = M2 at *
      refine wpAnyH_ready (rs := [6]) (by kernel_rfl) (by simp) ?_
      refine (AllReadyH.cons rfl (fun K hK => ?_) AllReadyH.nil)
      refine step_append_slg (by rfl) (.tmp 24) (.tmp 25) 33 rfl w2.heap.size 29 Tryz.underlying33 info_entry rfl (by omega) rfl hE rfl (HXS.out _ (HU.out _ hu2)) hone ?d3a ?d3b hu2.size ?_
      case d3a => unfold maxLen; omega
      case d3b => omega
      intro v9 u3 ho9 hb9 _ hk9
      have hu3 := hu2.trans hb9
      have hP : (u3).ownsRow w2.heap.size 29 6 v9 xn gx := by simpa using ho9
      obtain ⟨A9, c9, rfl, _⟩ := Sl.of_own hP
      replace hF := (hk9 M2 hm2 (lt_of_block hF) (fun h9 => hne (Option.some.inj h9))).trans hF
      clear hb9 ho9 hk9
      refine hK.out _ _ ?_ (fun hHeld2 => ?_)
      focus
        exact hS _ hu3
      clear hHeld
      have hHeld := hHeld2
      clear hHeld2 hK K
      try simp only [List.getElem_toArray, List.getElem_cons_succ, List.getElem_cons_zero, Act.put, List.setIfInBounds_toArray, List.set_cons_zero, List.set_cons_succ]
      refine wpAnyH_ready (rs := [13]) (by kernel_rfl) (by simp) ?_
      refine (AllReadyH.cons rfl (fun K hK => ?_) AllReadyH.nil)
      refine step_append_slg (by rfl) (.tmp 26) (.tmp 32) 33 rfl w2.heap.size 29 Tryz.underlying33 info_entry rfl (by omega) rfl hP rfl (sl_blk6 hF) (by simp [Value.oneCell']) ?d4a ?d4b hu3.size ?_
      case d4a => unfold maxLen; omega
      case d4b => omega
      intro v9 u4 ho9 hb9 _ _
      have hu4 := hu3.trans hb9
      obtain ⟨A8, c8, rfl, hs8⟩ := Sl.of_own ho9
      clear hb9 ho9 hP hF hE
      refine hK.out _ _ ?_ (fun hHeld2 => ?_)
      focus
        exact hS _ hu4
      clear hHeld
      have hHeld := hHeld2
      clear hHeld2 hK K
      try simp only [List.getElem_toArray, List.getElem_cons_succ, List.getElem_cons_zero, Act.put, List.setIfInBounds_toArray, List.set_cons_zero, List.set_cons_succ]
      refine wpAnyH_ready (rs := [14]) (by kernel_rfl) (by simp) ?_
      refine (AllReadyH.cons rfl (fun K hK => ?_) AllReadyH.nil)
      simp only [List.getElem_toArray, List.getElem_cons_succ, List.getElem_cons_zero]
      go_simp
      refine (HKP.out _ (HU.out _ hu4) _ _ hs8).mono ?_
      rintro q u5 ⟨rfl, hb9⟩
      have hu5 : Below w2.heap.size w2 u5 := hu4.trans (hb9.mono hu4.size)
      clear hb9 hs8
      go_wp2_with fail
      refine hK.out _ _ ?_ (fun hHeld2 => ?_)
      focus
        exact hS _ hu5
      clear hHeld
      have hHeld := hHeld2
      clear hHeld2 hK K
      try simp only [List.getElem_toArray, List.getElem_cons_succ, List.getElem_cons_zero, Act.put, List.setIfInBounds_toArray, List.set_cons_zero, List.set_cons_succ]
      refine wpAnyH_take (i := 17) (v := ?_) rfl (by kernel_rfl) (by kernel_rfl) (by kernel_rfl) (fun _ _ _ h => h) (Or.inl ⟨by rfl, ?_⟩) (by assumption) ?_
      rotate_left
      focus
        intro U hU
        try dsimp only at hU
        go_simp
        try (with_reducible rfl)
      simp only [List.getElem_toArray, List.getElem_cons_succ, List.getElem_cons_zero, Act.put, List.setIfInBounds_toArray, List.set_cons_zero, List.set_cons_succ]
      refine wpAnyH_take (i := 18) (v := ?_) rfl (by kernel_rfl) (by kernel_rfl) (by kernel_rfl) (fun _ _ _ h => h) (Or.inl ⟨by rfl, ?_⟩) (by assumption) ?_
      rotate_left
      focus
        intro U hU
        try dsimp only at hU
        go_simp
        try (with_reducible rfl)
      simp only [List.getElem_toArray, List.getElem_cons_succ, List.getElem_cons_zero, Act.put, List.setIfInBounds_toArray, List.set_cons_zero, List.set_cons_succ]
      refine wpAnyH_done (by kernel_rfl) ?_ _
      clear hHeld hS
      cases gt
      all_goals
        go_wp2
        go_ret
        exact ⟨rfl, HU.out _ hu5⟩
  · skip
    simp only [List.getElem_toArray, List.getElem_cons_succ, List.getElem_cons_zero]
    go_simp
    refine hK.out _ _ ?_ (fun hHeld2 => ?_)
    focus
      exact hS _ (hu0.alloc hu0.size _)
    clear hHeld
    have hHeld := hHeld2
    clear hHeld2 hK K
    try simp only [List.getElem_toArray, List.getElem_cons_succ, List.getElem_cons_zero, Act.put, List.setIfInBounds_toArray, List.set_cons_zero, List.set_cons_succ]
    have gg : Below (World.heap u0).size u0 (World.alloc u0 (.cells #[.int .i64 id, .int .i64 0, .int .i64 0, .slice A nn c, .slice none 0 0, .slice none 0 0] 29 (0, 0))) := (Below.refl _ _).alloc (Nat.le_refl _) _
    have hu1 := hu0.trans (gg.mono hu0.size)
    have hm2 : w2.heap.size ≤ (World.heap u0).size := hu0.size
    have hF : (World.alloc u0 (.cells #[.int .i64 id, .int .i64 0, .int .i64 0, .slice A nn c, .slice none 0 0, .slice none 0 0] 29 (0, 0))).heap[(World.heap u0).size]? = some (.cells #[.int .i64 id, .int .i64 0, .int .i64 0, .slice A nn c, .slice none 0 0, .slice none 0 0] 29 (0, 0)) := heap_alloc_new u0 (.cells #[.int .i64 id, .int .i64 0, .int .i64 0, .slice A nn c, .slice none 0 0, .slice none 0 0] 29)
    clear gg
    generalize World.alloc u0 (.cells #[.int .i64 id, .int .i64 0, .int .i64 0, .slice A nn c, .slice none 0 0, .slice none 0 0] 29 (0, 0)) = u1 at *
    generalize (World.heap u0).size = M2 at *
    refine wpAnyH_ready (rs := [4]) (by kernel_rfl) (by simp) ?_
    refine (AllReadyH.cons rfl (fun K hK => ?_) AllReadyH.nil)
    simp only [List.getElem_toArray, List.getElem_cons_succ, List.getElem_cons_zero]
    go_simp
    refine hK.out _ _ ?_ (fun hHeld2 => ?_)
    focus
      exact hS _ (hu1.alloc hu1.size _)
    clear hHeld
    have hHeld := hHeld2
    clear hHeld2 hK K
    try simp only [List.getElem_toArray, List.getElem_cons_succ, List.getElem_cons_zero, Act.put, List.setIfInBounds_toArray, List.set_cons_zero, List.set_cons_succ]
    have gg : Below (World.heap u1).size u1 (World.alloc u1 (.cells #[] 29 (0, 0))) := (Below.refl _ _).alloc (Nat.le_refl _) _
    have hu2 := hu1.trans (gg.mono hu1.size)
    have hne : (World.heap u1).size ≠ M2 := Nat.ne_of_gt (lt_of_block hF)
    have hE : (World.alloc u1 (.cells #[] 29 (0, 0))).ownsRow w2.heap.size 29 6 (.slice (some ⟨(World.heap u1).size, 0, none⟩) 0 0) 0 [] := own_mono (own_empty u1 29 6) hu1.size
    replace hF := keep0 hF gg
    clear gg
    generalize World.alloc u1 (.cells #[] 29 (0, 0)) = u2 at *
    generalize (World.heap u1).size = M1 at *
    refine wpAnyH_ready (rs := [6]) (by kernel_rfl) (by simp) ?_
    refine (AllReadyH.cons rfl (fun K hK => ?_) AllReadyH.nil)
    refine step_append_slg (by rfl) (.tmp 24) (.tmp 25) 33 rfl w2.heap.size 29 Tryz.underlying33 info_entry rfl (by omega) rfl hE rfl (HXS.out _ (HU.out _ hu2)) hone ?d5a ?d5b hu2.size ?_
    case d5a => unfold maxLen; omega
    case d5b => omega
    intro v9 u3 ho9 hb9 _ hk9
    have hu3 := hu2.trans hb9
    have hP : (u3).ownsRow w2.heap.size 29 6 v9 xn gx := by simpa using ho9
    obtain ⟨A9, c9, rfl, _⟩ := Sl.of_own hP
    replace hF := (hk9 M2 hm2 (lt_of_block hF) (fun h9 => hne (Option.some.inj h9))).trans hF
    clear hb9 ho9 hk9
    refine hK.out _ _ ?_ (fun hHeld2 => ?_)
    focus
      exact hS _ hu3
    clear hHeld
    have hHeld := hHeld2
    clear hHeld2 hK K
    try simp only [List.getElem_toArray, List.getElem_cons_succ, List.getElem_cons_zero, Act.put, List.setIfInBounds_toArray, List.set_cons_zero, List.set_cons_succ]
    refine wpAnyH_ready (rs := [13]) (by kernel_rfl) (by simp) ?_
    refine (AllReadyH.cons rfl (fun K hK => ?_) AllReadyH.nil)
    refine step_append_slg (by rfl) (.tmp 26) (.tmp 32) 33 rfl w2.heap.size 29 Tryz.underlying33 info_entry rfl (by omega) rfl hP rfl (sl_blk6 hF) (by simp [Value.oneCell']) ?d6a ?d6b hu3.size ?_
    case d6a => unfold maxLen; omega
    case d6b => omega
    intro v9 u4 ho9 hb9 _ _
    have hu4 := hu3.trans hb9
    obtain ⟨A8, c8, rfl, hs8⟩ := Sl.of_own ho9
    clear hb9 ho9 hP hF hE
    refine hK.out _ _ ?_ (fun hHeld2 => ?_)
    focus
      exact hS _ hu4
    clear hHeld
    have hHeld := hHeld2
    clear hHeld2 hK K
    try simp only [List.getElem_toArray, List.getElem_cons_succ, List.getElem_cons_zero, Act.put, List.setIfInBounds_toArray, List.set_cons_zero, List.set_cons_succ]
    refine wpAnyH_ready (rs := [14]) (by kernel_rfl) (by simp) ?_
    refine (AllReadyH.cons rfl (fun K hK => ?_) AllReadyH.nil)
    simp only [List.getElem_toArray, List.getElem_cons_succ, List.getElem_cons_zero]
    go_simp
    refine (HKP.out _ (HU.out _ hu4) _ _ hs8).mono ?_
    rintro q u5 ⟨rfl, hb9⟩
    have hu5 : Below w2.heap.size w2 u5 := hu4.trans (hb9.mono hu4.size)
    clear hb9 hs8
    go_wp2_with fail
    refine hK.out _ _ ?_ (fun hHeld2 => ?_)
    focus
      exact hS _ hu5
    clear hHeld
    have hHeld := hHeld2
    clear hHeld2 hK K
    try simp only [List.getElem_toArray, List.getElem_cons_succ, List.getElem_cons_zero, Act.put, List.setIfInBounds_toArray, List.set_cons_zero, List.set_cons_succ]
    refine wpAnyH_take (i := 17) (v := ?_) rfl (by kernel_rfl) (by kernel_rfl) (by kernel_rfl) (fun _ _ _ h => h) (Or.inl ⟨by rfl, ?_⟩) (by assumption) ?_
    rotate_left
    focus
      intro U hU
      try dsimp only at hU
      go_simp
      try (with_reducible rfl)
    simp only [List.getElem_toArray, List.getElem_cons_succ, List.getElem_cons_zero, Act.put, List.setIfInBounds_toArray, List.set_cons_zero, List.set_cons_succ]
    refine wpAnyH_take (i := 18) (v := ?_) rfl (by kernel_rfl) (by kernel_rfl) (by kernel_rfl) (fun _ _ _ h => h) (Or.inl ⟨by rfl, ?_⟩) (by assumption) ?_
    rotate_left
    focus
      intro U hU
      try dsimp only at hU
      go_simp
      try (with_reducible rfl)
    simp only [List.getElem_toArray, List.getElem_cons_succ, List.getElem_cons_zero, Act.put, List.setIfInBounds_toArray, List.set_cons_zero, List.set_cons_succ]
    refine wpAnyH_done (by kernel_rfl) ?_ _
    clear hHeld hS
    cases gt
    all_goals
      go_wp2
      go_ret
      exact ⟨rfl, HU.out _ hu5⟩
end Go.Proofs.YtgakobolhmdnnaaGreat
