/- event.tasks, event.runs, event.Running; the document's Running: contracts. -/
import Derived.Test.YthohedadmfbahaaDoorQSpC
import Derived.Lib.MinMax
import Derived.BigQuiet
namespace Go.Proofs.YthohedadmfbahaaDoor
open Go.RowKit Go.Sort
set_option linter.unusedVariables false
set_option linter.unusedSimpArgs false

/-- Does a task of an entry run on a worker? -/
def runB (e : En) (i : Nat) (w : Int) : Bool := decide (0 < e.bd.getD i 0) && ((IntKind.i64.wrap (e.bd.getD i 0 - 1) == w) && !(e.dn.getD i false))
def runE (e : En) (w : Int) : Nat → Nat
  | 0 => 0
  | k + 1 => runE e w k + (if runB e k w then 1 else 0)
def runS (w : Int) : List En → Nat
  | [] => 0
  | e :: b => runE e w (tkB e) + runS w b
theorem runE_le (e : En) (w : Int) : ∀ k, runE e w k ≤ k
  | 0 => Nat.le_refl _
  | k + 1 => by
    have h := runE_le e w k
    rw [runE]
    split <;> omega
theorem runS_snoc (w : Int) (e : En) : ∀ b : List En, runS w (b ++ [e]) = runS w b + runE e w (tkB e)
  | [] => by simp [runS]
  | a :: b => by
    have h := runS_snoc w e b
    rw [List.cons_append, runS, h, runS]
    omega
theorem runS_le (w : Int) (m : Nat) : ∀ b : List En, (∀ e ∈ b, tkB e ≤ m) → runS w b ≤ m * b.length
  | [], _ => by simp [runS]
  | e :: b, h => by
    have h1 := runS_le w m b (fun x hx => h x (List.mem_cons_of_mem _ hx))
    have h2 := runE_le e w (tkB e)
    have h3 := h e (List.mem_cons_self ..)
    rw [runS, List.length_cons, Nat.mul_succ]
    omega

set_option maxRecDepth 20000 in
theorem etasks_any (e : Ee) (W : World) (h1 : e.1.ns.length ≤ 9223372036854775807) (h2 : e.1.bd.length ≤ 9223372036854775807) (h3 : e.1.dn.length ≤ 9223372036854775807) :
    Calls Tryd.prog 22 #[.agg (ecE e)] W fun x w' => x = .returned (.int .i64 (tkB e.1 : Int)) ∧ RowKit.Below W.heap.size W w' := by
  obtain ⟨⟨id, sc, ee, ms, bd, dn⟩, ⟨A1, ca, P, cb, D, cd⟩⟩ := e
  simp only at h1 h2 h3
  simp only [ecE]
  generalize hv : tkB ⟨id, sc, ee, ms, bd, dn⟩ = v
  have HV : v = min ms.length (min bd.length dn.length) := by rw [← hv]; rfl
  clear hv
  generalize ms.length = n1 at *
  generalize bd.length = n2 at *
  generalize dn.length = n3 at *
  have HV := hid HV
  go_enter Tryd.func22, Tryd.ntmps22
  go_upto_region 1 with (fail)
  refine at_world (fun u => u.heap[W.heap.size]? = some (.cells #[.int .i64 id, .int .i64 sc, .int .i64 ee, .slice A1 n1 ca, .slice P n2 cb, .slice D n3 cd] 57 (0, 0)) ∧ RowKit.Below W.heap.size W u) ⟨heap_alloc_new _ _, (RowKit.Below.refl _ _).alloc (Nat.le_refl _) _⟩ ?_
  rintro w1 ⟨hx1, hb1⟩
  obtain ⟨⟨p0, p1, p2, p3, p4, p5⟩, _⟩ := six_cells hx1
  have HB := hid hb1
  clear hx1 hb1
  go_wp2
  all_goals go_ret
  all_goals refine ⟨?_, HB.out⟩
  all_goals have hv := HV.out
  all_goals show Ending.returned (Value.int .i64 _) = Ending.returned (Value.int .i64 _)
  all_goals congr 2
  all_goals omega

set_option maxRecDepth 20000 in
set_option maxHeartbeats 1000000 in
theorem eruns_any (e : Ee) (i : Nat) (w : Int) (W : World) (hE : InE W e) (h2 : i < e.1.bd.length) (h3 : i < e.1.dn.length) :
    Calls Tryd.prog 23 #[.agg (ecE e), .int .i64 (i : Int), .int .i64 w] W fun x w' => x = .returned (.bool (runB e.1 i w)) ∧ RowKit.Below W.heap.size W w' := by
  obtain ⟨⟨id, sc, ee, ms, bd, dn⟩, ⟨A1, ca, P, cb, D, cd⟩⟩ := e
  have hP := hE.2.1
  have hD := hE.2.2
  simp only at h2 h3 hP hD
  have hbl := sl_len64 hP
  have hdl := sl_len64 hD
  obtain ⟨bp, op, rfl, _⟩ := hP.2.2.2 (by rw [icells_length]; omega)
  obtain ⟨bq, oq, rfl, _⟩ := hD.2.2.2 (by rw [blcells_length]; omega)
  have cP := Sl.cell hP i h2
  have cD := hD.blcell i h3
  have HV : Hid (runB ⟨id, sc, ee, ms, bd, dn⟩ i w = (decide (0 < bd.getD i 0) && ((IntKind.i64.wrap (bd.getD i 0 - 1) == w) && !(dn.getD i false)))) := hid rfl
  have i0 : ¬ (i : Int) < 0 := by omega
  have ib : (i : Int) < (bd.length : Int) := by omega
  have id9 : (i : Int) < (dn.length : Int) := by omega
  clear hE hP hD h2 h3
  simp only [ecE] at *
  generalize runB ⟨id, sc, ee, ms, bd, dn⟩ i w = R at *
  generalize bd.getD i 0 = z at *
  generalize dn.getD i false = d at *
  generalize ms.length = n1 at *
  generalize bd.length = n2 at *
  generalize dn.length = n3 at *
  go_enter Tryd.func23, Tryd.ntmps23
  go_upto_region 1 with (fail)
  refine at_world (fun u => u.heap[W.heap.size]? = some (.cells #[.int .i64 id, .int .i64 sc, .int .i64 ee, .slice A1 n1 ca, .slice (some ⟨bp, op, none⟩) n2 cb, .slice (some ⟨bq, oq, none⟩) n3 cd] 57 (0, 0)) ∧ RowKit.Below W.heap.size W u) ⟨heap_alloc_new _ _, (RowKit.Below.refl _ _).alloc (Nat.le_refl _) _⟩ ?_
  rintro w1 ⟨hx1, hb1⟩
  obtain ⟨⟨p0, p1, p2, p3, p4, p5⟩, _⟩ := six_cells hx1
  have cP1 := cellb hb1 cP
  have cD1 := cellb hb1 cD
  have HB := hid hb1
  clear hx1 hb1 cP cD
  by_cases hz : 0 < z
  case neg =>
    have hz2 : ¬ z > 0 := hz
    obtain rfl : R = false := by rw [HV.out, decide_eq_false hz]; rfl
    clear HV
    go_wp2
    go_ret
    exact ⟨rfl, HB.out⟩
  have hz2 : z > 0 := hz
  rw [decide_eq_true hz, Bool.true_and] at HV
  generalize hzw : IntKind.i64.wrap (z - 1) = zw at *
  by_cases hw : zw = w
  case neg =>
    have hw2 : (zw == w) = false := by simpa using hw
    obtain rfl : R = false := by rw [HV.out, hw2]; rfl
    clear HV
    go_wp2
    go_ret
    exact ⟨rfl, HB.out⟩
  have hw2 : (zw == w) = true := by simpa using hw
  rw [hw2, Bool.true_and] at HV
  obtain rfl : R = !d := HV.out
  clear HV
  go_wp2
  go_ret
  exact ⟨rfl, HB.out⟩

set_option maxRecDepth 20000 in
set_option maxHeartbeats 2000000 in
theorem running_any (A : Option Addr) (c : Nat) (xs : List Ee) (w : Int) (W : World) (h : InBk W A c xs) (hn : xs.length ≤ 100) (hk : ∀ x ∈ xs, x.1.ns.length ≤ 1000 ∧ x.1.bd.length ≤ 1000 ∧ x.1.dn.length ≤ 1000) :
    Calls Tryd.prog 35 #[.slice A xs.length c, .int .i64 w] W fun e w' => e = .returned (.int .i64 (runS w (xs.map (·.1)) : Nat)) ∧ RowKit.Below W.heap.size W w' := by
  have HX := hid h
  have HK := hid hk
  clear h hk
  go_enter Tryd.func35, Tryd.ntmps35
  go_wp2
  go_loopw [5, 7, 8, 11, 17] (fun v _ _ i _ wr => ∃ (n m : Nat), n ≤ xs.length ∧ i = .int .i64 (n : Int) ∧ v = .int .i64 (m : Int) ∧ Hid (m = runS w ((xs.take n).map (·.1))) ∧ m ≤ 1000 * n ∧ Hid (RowKit.Below W.heap.size W wr)) (fun _ _ _ i _ _ => xs.length - (intOf i).toNat)
  case atStart => exact ⟨0, 0, by omega, rfl, rfl, by simp [Hid, runS], by omega, RowKit.Below.refl _ _⟩
  case round =>
    obtain ⟨n, m, hn9, rfl, rfl, HM, hm9, HB⟩ := hrel
    by_cases hlt : n < xs.length
    · have hlt2 : (n : Int) < (xs.length : Int) := by omega
      have hn0 : ¬ (n : Int) < 0 := by omega
      obtain ⟨b, off, hA, q0, q1, q2, q3, q4, q5⟩ := (HX.out.below HB.out).el n hlt
      subst hA
      have HE := hid (fun u (hu : RowKit.Below W.heap.size W u) => (HX.out.below hu).2 _ (List.getElem_mem hlt))
      have hkk := HK.out _ (List.getElem_mem hlt)
      have HSN := hid (fun mm (h : mm = m + runE xs[n].1 w (tkB xs[n].1)) => show mm = runS w ((xs.take (n + 1)).map (·.1)) by rw [List.take_succ_eq_append_getElem hlt, List.map_append, List.map_singleton, runS_snoc, ← HM.out, h])
      generalize hx : xs[n] = x at q0 q1 q2 q3 q4 q5 HE hkk HSN
      clear hx HM
      have HTK := hid (fun u => etasks_any x u (by omega) (by omega) (by omega))
      have htk : tkB x.1 ≤ 1000 ∧ tkB x.1 ≤ x.1.bd.length ∧ tkB x.1 ≤ x.1.dn.length := by unfold tkB; omega
      have HRU := hid (fun u (hu : RowKit.Below W.heap.size W u) (i : Nat) (hi : i < tkB x.1) => eruns_any x i w u (HE.out u hu) (by omega) (by omega))
      have HR0 : Hid (runE x.1 w 0 = 0) := hid rfl
      have HR1 := hid (fun i => show runE x.1 w (i + 1) = runE x.1 w i + (if runB x.1 i w then 1 else 0) from rfl)
      have HRL := hid (runE_le x.1 w)
      obtain ⟨⟨id, sc, ee, ms, bd, dn⟩, ⟨A1, ca, P, cb, D, cd⟩⟩ := x
      simp only [ecE] at q0 q1 q2 q3 q4 q5 HTK HRU HSN HR0 HR1 HRL htk
      clear HE hkk
      generalize tkB ⟨id, sc, ee, ms, bd, dn⟩ = tk at *
      generalize runE ⟨id, sc, ee, ms, bd, dn⟩ w = rE at *
      generalize runB ⟨id, sc, ee, ms, bd, dn⟩ = rB at *
      generalize ms.length = n1 at *
      generalize bd.length = n2 at *
      generalize dn.length = n3 at *
      go_upto_region 5 with (fail)
      have hal : RowKit.Below wr.heap.size wr (wr.alloc (.cells #[.int .i64 id, .int .i64 sc, .int .i64 ee, .slice A1 n1 ca, .slice P n2 cb, .slice D n3 cd] 57)) := bel_alloc (RowKit.Below.refl _ _) _
      refine at_world (fun u => u.heap[wr.heap.size]? = some (.cells #[.int .i64 id, .int .i64 sc, .int .i64 ee, .slice A1 n1 ca, .slice P n2 cb, .slice D n3 cd] 57 (0, 0)) ∧ RowKit.Below W.heap.size W u) ⟨heap_alloc_new _ _, HB.out.trans (hal.mono HB.out.size)⟩ ?_
      clear hal q0 q1 q2 q3 q4 q5 HB
      generalize wr.heap.size = Bx
      rintro w2 ⟨hx, hb⟩
      have HB2 := hid hb
      have HX2 := hid hx
      obtain ⟨⟨p0, p1, p2, p3, p4, p5⟩, _⟩ := six_cells hx
      clear hb hx
      go_wp2_with fail
      refine (HTK.out w2).mono ?_
      rintro e w3 ⟨rfl, hb⟩
      have HB3 := hid (HB2.out.trans (hb.mono HB2.out.size))
      have HX3 := hid (keep0 HX2.out hb)
      clear hb p0 p1 p2 p3 p4 p5 HTK HB2 HX2
      go_wp2
      go_loopw [5, 8, 17] (fun v _ i wr => ∃ (k q : Nat), k ≤ tk ∧ i = .int .i64 (k : Int) ∧ v = .int .i64 (q : Int) ∧ Hid (q = m + rE k) ∧ Hid (wr.heap[Bx]? = some (.cells #[.int .i64 id, .int .i64 sc, .int .i64 ee, .slice A1 n1 ca, .slice P n2 cb, .slice D n3 cd] 57 (0, 0))) ∧ Hid (RowKit.Below W.heap.size W wr)) (fun _ _ i _ => tk - (intOf i).toNat)
      case atStart => exact ⟨0, m, by omega, rfl, rfl, by rw [Hid, HR0.out]; rfl, HX3.out, HB3.out⟩
      case round =>
        clear HB3 HX3
        obtain ⟨k, q, hk9, rfl, rfl, HQ9, HXk, HBk⟩ := hrel
        have hqb : q ≤ 1000 * n + 1000 := by have h1 := HQ9.out; have h2 := HRL.out k; omega
        by_cases hlk : k < tk
        · have hlk2 : (k : Int) < (tk : Int) := by omega
          obtain ⟨⟨p0, p1, p2, p3, p4, p5⟩, _⟩ := six_cells HXk.out
          have HRK := hid (fun u hu => HRU.out u hu k hlk)
          have hr1 := HR1.out k
          have hrl := HRL.out k
          go_wp2_with fail
          refine (HRK.out _ HBk.out).mono ?_
          rintro e w4 ⟨rfl, hb⟩
          have HB4 := hid (HBk.out.trans (hb.mono HBk.out.size))
          have HX4 := hid (keep0 HXk.out hb)
          clear hb p0 p1 p2 p3 p4 p5 HRK HBk HXk
          cases hrb : rB k w with
          | false =>
            rw [hrb] at hr1
            simp only [Bool.false_eq_true, if_false] at hr1
            clear hrb
            go_wp2
            go_roundw
            case rel => exact ⟨k + 1, q, by omega, by go_num, rfl, hid (by have := HQ9.out; omega), HX4.out, HB4.out⟩
            case measure => simp [intOf]; omega
          | true =>
            rw [hrb] at hr1
            simp only [if_true] at hr1
            clear hrb
            have hwq : IntKind.i64.wrap ((q : Int) + 1) = ((q + 1 : Nat) : Int) := by simp [IntKind.wrap, IntKind.bits, IntKind.signed]; omega
            go_wp2
            go_roundw
            case rel => exact ⟨k + 1, q + 1, by omega, by go_num, by first | rfl | (simp only [hwq]), hid (by have := HQ9.out; omega), HX4.out, HB4.out⟩
            case measure => simp [intOf]; omega
        · obtain rfl : k = tk := by omega
          have hge : ¬ (k : Int) < (k : Int) := by omega
          have hrl := HRL.out k
          go_wp2
          go_roundw
          case rel => exact ⟨n + 1, q, by omega, by go_num, rfl, HSN.out q HQ9.out, by have := HQ9.out; omega, HBk.out⟩
          case measure => simp [intOf]; omega
    · obtain rfl : n = xs.length := by omega
      have hge : ¬ (xs.length : Int) < (xs.length : Int) := by omega
      rw [List.take_length] at HM
      go_wp2
      go_ret
      exact ⟨by rw [← HM.out]; rfl, HB.out⟩
end Go.Proofs.YthohedadmfbahaaDoor

namespace Go.Proofs.YthohedadmfbahaaDoor
open Go.RowKit Go.Sort
set_option linter.unusedVariables false
set_option linter.unusedSimpArgs false

theorem below_bit {n i : Nat} (h : (belowS (n : Int)).testBit i = true) : i < n := by
  unfold belowS at h
  split at h
  · simp at h
  · split at h
    · rename_i h1 h2
      have e : (18446744073709551615 : Nat) = 2 ^ 64 - 1 := by decide
      rw [e, Nat.testBit_two_pow_sub_one] at h
      simp at h
      omega
    · rw [Nat.testBit_two_pow_sub_one] at h
      simpa using h
/-- A worker that meets a need is one of the cluster's. -/
theorem set_in {T : List (List UInt8)} {ws : List Wk} {l : List UInt8} {w : Int} (h : hasS (setJ T ws l) w = true) : 0 ≤ w ∧ w < (ws.length : Int) ∧ w < 64 := by
  unfold hasS at h
  rw [Bool.and_eq_true, decide_eq_true_eq] at h
  obtain ⟨⟨h1, h2⟩, h3⟩ := h
  by_cases h4 : (ndT T l).2.2 = 0
  · rw [setJ_ok h4] at h3
    unfold wkS at h3
    rw [Nat.testBit_and, Bool.and_eq_true] at h3
    have h5 := below_bit h3.2
    rw [List.length_take] at h5
    omega
  · rw [setJ_no h4] at h3
    simp at h3
/-- The entry of a job. -/
def atE (b : List En) (j : Int) : En := b.getD (plI b j).toNat ⟨0, 0, 0, [], [], []⟩
def lauB (x : Cf) (b : List En) (j t w : Int) : Bool :=
  if plI b j < 0 ∨ t < 0 ∨ (tkB (atE b j) : Int) ≤ t ∨ (atE b j).bd.getD t.toNat 0 ≠ 0 then false
  else if hasS (setJ x.T x.ws ((atE b j).ns.getD t.toNat [])) w = true then decide ((runS w b : Int) < (x.ws.getD w.toNat (0, 0, 0)).1) else false
theorem plI_in {b : List En} {j : Int} (h : ¬ plI b j < 0) : ∃ k : Nat, plI b j = (k : Int) ∧ ∃ hk : k < b.length, b[k].id = j := by
  unfold plI at h ⊢
  split
  · rename_i k hk
    obtain ⟨h1, h2, _⟩ := plB_some hk
    exact ⟨k, rfl, h1, h2⟩
  · rename_i hk
    rw [hk] at h
    simp at h
theorem atE_at {xs : List Ee} {j : Int} {k : Nat} (h : plI (xs.map (·.1)) j = (k : Int)) (hk : k < xs.length) : atE (xs.map (·.1)) j = xs[k].1 := by
  unfold atE
  rw [h]
  simp [List.getD, hk]
theorem Sl.wk0 {w : World} {b off n c : Nat} {ws : List Wk} (h : Sl w 3 (some ⟨b, off, none⟩) n c (gcells wkc ws)) (k : Nat) (hk : k < ws.length) : w.cell? ⟨b, off + k * 3, none⟩ = some (.int .i64 (ws.getD k (0, 0, 0)).1) := by
  obtain ⟨b', off', hA, hc⟩ := Sl.gat (f := wkc) (n := 3) (fun _ => rfl) h k hk (by omega)
  cases hA
  have e2 : ws.getD k (0, 0, 0) = ws[k] := by simp [List.getD, hk]
  rw [e2]
  exact hc 0 _ rfl

set_option maxRecDepth 20000 in
set_option maxHeartbeats 8000000 in
theorem launch_any (x : Cf) (N : Option Addr) (nc : Nat) (K : Option Addr) (kc : Nat) (S : Option Addr) (sc : Nat) (xs : List Ee) (kd j t w : Int) (W : World) (hC : CfAt W x N nc K kc) (hS : InBk W S sc xs) (hn : xs.length ≤ 100) (hk : ∀ x ∈ xs, (x.1.ns.length ≤ 1000 ∧ x.1.bd.length ≤ 1000 ∧ x.1.dn.length ≤ 1000) ∧ ∀ s ∈ x.1.ns, s.length ≤ 1000) (hw : x.ws.length ≤ 1000) :
    Calls Tryd.prog 20 #[.agg (cfc x N nc K kc), .slice S xs.length sc, .agg #[.int .i64 kd, .int .i64 j, .int .i64 t, .int .i64 w]] W fun e w' => e = .returned (.bool (lauB x (xs.map (·.1)) j t w)) ∧ RowKit.Below W.heap.size W w' := by
  have HPL := hid (fun u (hu : RowKit.Below W.heap.size W u) => eplace_any S sc xs j u (hS.below hu))
  have HRN := hid (fun u (hu : RowKit.Below W.heap.size W u) => running_any S sc xs w u (hS.below hu) hn (fun x hx => (hk x hx).1))
  have HST := hid (fun u (hu : RowKit.Below W.heap.size W u) (l : List UInt8) (hl : l.length ≤ 1000) => jset_any x N nc K kc l u (hC.below hu) hl hw)
  have HXS := hid (fun u (hu : RowKit.Below W.heap.size W u) => hS.below hu)
  have HWS := hid (fun u (hu : RowKit.Below W.heap.size W u) => (hC.below hu).2.1)
  have HK := hid hk
  have HV : Hid (lauB x (xs.map (·.1)) j t w = if plI (xs.map (·.1)) j < 0 ∨ t < 0 ∨ (tkB (atE (xs.map (·.1)) j) : Int) ≤ t ∨ (atE (xs.map (·.1)) j).bd.getD t.toNat 0 ≠ 0 then false else if hasS (setJ x.T x.ws ((atE (xs.map (·.1)) j).ns.getD t.toNat [])) w = true then decide ((runS w (xs.map (·.1)) : Int) < (x.ws.getD w.toNat (0, 0, 0)).1) else false) := hid rfl
  have HIN := hid (fun (h : ¬ plI (xs.map (·.1)) j < 0) => plI_in h)
  have HAT := hid (fun k h hk => atE_at (xs := xs) (j := j) (k := k) h hk)
  have hxl : xs.length ≤ 9223372036854775807 := by omega
  clear hC hS hk
  generalize lauB x (xs.map (·.1)) j t w = R at *
  generalize runS w (xs.map (·.1)) = rs at *
  obtain ⟨pl, hpl⟩ : ∃ pl, plI (xs.map (·.1)) j = pl := ⟨_, rfl⟩
  rw [hpl] at HPL
  have HV1 := HV.out
  rw [hpl] at HV1
  replace HV := hid HV1
  clear HV1
  have HIN2 := hid (fun h => HIN.out (by rw [hpl]; exact h))
  have HPE := hid hpl
  obtain ⟨c0, le, ag, ro, ou, T, ws⟩ := x
  simp only [cfc] at *
  clear hpl HIN hw
  go_enter Tryd.func20, Tryd.ntmps20
  go_upto_region 1 with (fail)
  refine at_world (fun u => u.heap[W.heap.size]? = some (.cells #[.int .i64 c0, .int .i64 le, .int .i64 ag, .int .i64 ro, .int .i64 ou, .slice N T.length nc, .slice K ws.length kc] 25 (0, 0)) ∧ u.heap[W.heap.size + 1]? = some (.cells #[.int .i64 kd, .int .i64 j, .int .i64 t, .int .i64 w] 37 (0, 0)) ∧ RowKit.Below W.heap.size W u) (lay2E W _ _) ?_
  rintro w1 ⟨hq, hj, hb⟩
  have HB := hid hb
  have HQ := hid hq
  have HJ := hid hj
  clear hq hj hb
  generalize W.heap.size + 1 = Ev at *
  generalize hQ : W.heap.size = Q at HQ
  clear hQ
  obtain ⟨p0, p1, p2, p3⟩ := four_cellsE HJ.out
  go_wp2_with fail
  refine (HPL.out _ HB.out).mono ?_
  rintro e w2 ⟨rfl, hb⟩
  have HB2 := hid (HB.out.trans (hb.mono HB.out.size))
  have HQ2 := hid (keep0 HQ.out hb)
  have HJ2 := hid (keep0 HJ.out hb)
  clear hb p0 p1 p2 p3 HB HQ HJ HPL
  obtain ⟨p0, p1, p2, p3⟩ := four_cellsE HJ2.out
  by_cases hp : pl < 0
  · have HR9 : Hid (R = false) := hid (by rw [HV.out, if_pos (.inl hp)])
    clear HV
    go_upto_region 2 with (fail)
    replace p2 := cell_regrown p2
    refine wp_region_quiet_below (by kernel_rfl) (by kernel_rfl) ?_
    repeat (go_big_quiet_step (fail))
    refine wpQuiet_nil ?_
    intro _ hw'
    obtain ⟨⟨dq, osq⟩, hw''⟩ := hw'
    subst hw''
    have hbR := below_regrown w2 dq osq
    refine at_world (fun u => RowKit.Below w2.heap.size w2 u) hbR ?_
    clear hbR p0 p1 p2 p3
    rintro w3 hbR
    have HB9 := hid (HB2.out.trans (hbR.mono HB2.out.size))
    clear hbR
    go_wp2
    go_ret
    exact ⟨by rw [HR9.out]; rfl, HB9.out⟩
  have hd0 : decide (pl < 0) = false := decide_eq_false hp
  obtain ⟨k, hk9, hkl, _⟩ := HIN2.out (by first | exact hp | omega)
  have hkl : k < xs.length := by simpa using hkl
  have hae := HAT.out k hk9 hkl
  obtain rfl : pl = (k : Int) := by rw [← HPE.out]; exact hk9
  have hk0 : ¬ (k : Int) < 0 := by omega
  have hkx : (k : Int) < (xs.length : Int) := by omega
  have HV1 := HV.out
  rw [hae] at HV1
  replace HV := hid HV1
  clear HV1
  obtain ⟨b, off, hA, q0, q1, q2, q3, q4, q5⟩ := (HXS.out w2 HB2.out).el k hkl
  subst hA
  have HE := hid (fun u (hu : RowKit.Below W.heap.size W u) => (HXS.out u hu).2 _ (List.getElem_mem hkl))
  have HEL := hid (fun u (hu : RowKit.Below W.heap.size W u) => (HXS.out u hu).el k hkl)
  have hkk := HK.out _ (List.getElem_mem hkl)
  generalize hx : xs[k] = x at q0 q1 q2 q3 q4 q5 HE hkk HV HEL
  clear hx hae HAT HPE hk9 HIN2 HK
  by_cases ht : t < 0
  · have HR9 : Hid (R = false) := hid (by rw [HV.out, if_pos (.inr (.inl ht))])
    clear HV
    go_upto_region 2 with (fail)
    replace p2 := cell_regrown p2
    refine wp_region_quiet_below (by kernel_rfl) (by kernel_rfl) ?_
    repeat (go_big_quiet_step (fail))
    refine wpQuiet_nil ?_
    intro _ hw'
    obtain ⟨⟨dq, osq⟩, hw''⟩ := hw'
    subst hw''
    have hbR := below_regrown w2 dq osq
    refine at_world (fun u => RowKit.Below w2.heap.size w2 u) hbR ?_
    clear hbR p0 p1 p2 p3 q0 q1 q2 q3 q4 q5
    rintro w3 hbR
    have HB9 := hid (HB2.out.trans (hbR.mono HB2.out.size))
    clear hbR
    go_wp2
    go_ret
    exact ⟨by rw [HR9.out]; rfl, HB9.out⟩
  have hd1 : decide (t < 0) = false := decide_eq_false ht
  obtain ⟨tn, rfl⟩ := Int.eq_ofNat_of_zero_le (show 0 ≤ t by omega)
  have HTK := hid (fun u => etasks_any x u (by omega) (by omega) (by omega))
  have htk : tkB x.1 ≤ x.1.ns.length ∧ tkB x.1 ≤ x.1.bd.length ∧ tkB x.1 ≤ x.1.dn.length := by unfold tkB; omega
  obtain ⟨⟨id, sE, ee, ms, bd, dn⟩, ⟨A1, ca, P, cb, D, cd⟩⟩ := x
  simp only at q0 q1 q2 q3 q4 q5 HE hkk HV HEL HTK htk
  simp only [ecE] at HTK
  have HV1 := HV.out
  rw [Int.toNat_natCast] at HV1
  replace HV := hid HV1
  clear HV1
  generalize tkB ⟨id, sE, ee, ms, bd, dn⟩ = tk at *
  have ck := reg (w := w2) (fun W' hW' => HTK.out W')
  by_cases htt : tk ≤ tn
  · have hge : (tn : Int) ≥ (tk : Int) := by omega
    have HR9 : Hid (R = false) := hid (by rw [HV.out, if_pos (.inr (.inr (.inl (by omega))))])
    clear HV HE HEL
    generalize ms.length = n1 at *
    generalize bd.length = n2 at *
    generalize dn.length = n3 at *
    go_upto_region 2 with (fail)
    replace p2 := cell_regrown p2
    replace q0 := cell_regrown q0
    replace q1 := cell_regrown q1
    replace q2 := cell_regrown q2
    replace q3 := cell_regrown q3
    replace q4 := cell_regrown q4
    replace q5 := cell_regrown q5
    refine wp_region_quiet_below (by kernel_rfl) (by kernel_rfl) ?_
    repeat (go_big_quiet_step (first | (go_at_call 22; with_reducible exact ck _ _)))
    refine wpQuiet_nil ?_
    intro _ hw'
    obtain ⟨⟨dq, osq⟩, hw''⟩ := hw'
    subst hw''
    have hbR := below_regrown w2 dq osq
    refine at_world (fun u => RowKit.Below w2.heap.size w2 u) hbR ?_
    clear hbR p0 p1 p2 p3 q0 q1 q2 q3 q4 q5 ck
    rintro w3 hbR
    have HB9 := hid (HB2.out.trans (hbR.mono HB2.out.size))
    clear hbR
    go_wp2
    go_ret
    exact ⟨by rw [HR9.out]; rfl, HB9.out⟩
  have hge : ¬ (tn : Int) ≥ (tk : Int) := by omega
  have hd2 : decide ((tn : Int) ≥ (tk : Int)) = false := decide_eq_false hge
  have hP := (HE.out w2 HB2.out).2.1
  obtain ⟨bp, op, hPA, _⟩ := hP.2.2.2 (by rw [icells_length]; simp only; omega)
  simp only at hPA
  subst hPA
  have cP := Sl.cell hP tn (by simp only; omega)
  simp only at cP
  have t0 : ¬ (tn : Int) < 0 := by omega
  have tb : (tn : Int) < (bd.length : Int) := by omega
  have tm : (tn : Int) < (ms.length : Int) := by omega
  clear hP
  generalize bd.getD tn 0 = z at *
  by_cases hz : z = 0
  case neg =>
    have hzd : (z != 0) = true := by simpa using hz
    have HR9 : Hid (R = false) := hid (by rw [HV.out, if_pos (.inr (.inr (.inr hz)))])
    clear HV HE HEL
    generalize ms.length = n1 at *
    generalize bd.length = n2 at *
    generalize dn.length = n3 at *
    go_upto_region 2 with (fail)
    replace p2 := cell_regrown p2
    replace q0 := cell_regrown q0
    replace q1 := cell_regrown q1
    replace q2 := cell_regrown q2
    replace q3 := cell_regrown q3
    replace q4 := cell_regrown q4
    replace q5 := cell_regrown q5
    replace cP := cell_regrown cP
    refine wp_region_quiet_below (by kernel_rfl) (by kernel_rfl) ?_
    repeat (go_big_quiet_step (first | (go_at_call 22; with_reducible exact ck _ _)))
    refine wpQuiet_nil ?_
    intro _ hw'
    obtain ⟨⟨dq, osq⟩, hw''⟩ := hw'
    subst hw''
    have hbR := below_regrown w2 dq osq
    refine at_world (fun u => RowKit.Below w2.heap.size w2 u) hbR ?_
    clear hbR p0 p1 p2 p3 q0 q1 q2 q3 q4 q5 cP ck
    rintro w3 hbR
    have HB9 := hid (HB2.out.trans (hbR.mono HB2.out.size))
    clear hbR
    go_wp2
    go_ret
    exact ⟨by rw [HR9.out]; rfl, HB9.out⟩
  subst hz
  have HV1 := HV.out
  rw [if_neg (show ¬ ((k : Int) < 0 ∨ (tn : Int) < 0 ∨ (tk : Int) ≤ (tn : Int) ∨ (0 : Int) ≠ 0) by omega)] at HV1
  replace HV := hid HV1
  clear HV1
  have HTX := hid (fun u (hu : RowKit.Below W.heap.size W u) => text_at (HE.out u hu).1 tn (by simp only; omega))
  have hsl := hkk.2 (ms.getD tn []) (by have h9 : tn < ms.length := by omega
                                        have e9 : ms.getD tn [] = ms[tn] := by simp [List.getD, h9]
                                        rw [e9]; exact List.getElem_mem h9)
  have hst : ∀ h9 : tn < ms.length, ms[tn] = ms.getD tn [] := fun h9 => by simp [List.getD, h9]
  have HTY := hid (fun u (hu : RowKit.Below W.heap.size W u) => show ∃ bT oT, A1 = some ⟨bT, oT, none⟩ ∧ u.cell? ⟨bT, oT + tn, none⟩ = some (.string (str (ms.getD tn []))) by
    obtain ⟨bT, oT, h1, h2⟩ := HTX.out u hu
    simp only at h1 h2
    rw [hst (by omega)] at h2
    exact ⟨bT, oT, h1, h2⟩)
  have HSL := hid hsl
  have hsj := setJ_lt T ws (ms.getD tn [])
  have HSI := hid (fun h => set_in (T := T) (ws := ws) (l := ms.getD tn []) (w := w) h)
  have HS9 := hid (fun u hu => HST.out u hu (ms.getD tn []) HSL.out)
  have HHA := hid (fun u => same_below (has_any (setJ T ws (ms.getD tn [])) w u hsj))
  clear HTX hsl hst HE hkk hsj HST HSL
  generalize ms.getD tn [] = tx at *
  generalize setJ T ws tx = sj at *
  go_upto_region 2 with (fail)
  replace p2 := cell_regrown p2
  replace q0 := cell_regrown q0
  replace q1 := cell_regrown q1
  replace q2 := cell_regrown q2
  replace q3 := cell_regrown q3
  replace q4 := cell_regrown q4
  replace q5 := cell_regrown q5
  replace cP := cell_regrown cP
  refine wp_region_quiet_below (by kernel_rfl) (by kernel_rfl) ?_
  repeat (go_big_quiet_step (first | (go_at_call 22; with_reducible exact ck _ _)))
  refine wpQuiet_nil ?_
  intro _ hw'
  obtain ⟨⟨dq, osq⟩, hw''⟩ := hw'
  subst hw''
  have hbR := below_regrown w2 dq osq
  refine at_world (fun u => RowKit.Below w2.heap.size w2 u) hbR ?_
  clear hbR p0 p1 p2 p3 q0 q1 q2 q3 q4 q5 cP ck
  rintro w3 hbR
  have HB3 := hid (HB2.out.trans (hbR.mono HB2.out.size))
  have HQ3 := hid (keep0 HQ2.out hbR)
  have HJ3 := hid (keep0 HJ2.out hbR)
  clear hbR HB2 HQ2 HJ2 HTK
  obtain ⟨p0, p1, p2, p3⟩ := four_cellsE HJ3.out
  obtain ⟨g0, g1, g2, g3, g4, g5, g6⟩ := seven_cellsJ HQ3.out
  obtain ⟨b2, off2, hA2, q0, q1, q2, q3, q4, q5⟩ := HEL.out w3 HB3.out
  cases hA2
  obtain ⟨bT, oT, hAT, ct⟩ := HTY.out w3 HB3.out
  subst hAT
  clear HEL HTY q0 q1 q2 q4 q5
  generalize str tx = stx at *
  have cs := reg (w := w3) (fun W' hW' => HS9.out W' (HB3.out.trans (hW'.mono HB3.out.size)))
  have ch := reg (w := w3) (fun W' hW' => HHA.out W')
  by_cases hh : hasS sj w = true
  case neg =>
    have hh2 : hasS sj w = false := by simpa using hh
    have HR9 : Hid (R = false) := hid (by rw [HV.out, if_neg hh])
    rw [hh2] at ch
    clear HV HSI
    go_upto_region 4 with (fail)
    replace p2 := cell_regrown p2
    replace p3 := cell_regrown p3
    replace g0 := cell_regrown g0
    replace g1 := cell_regrown g1
    replace g2 := cell_regrown g2
    replace g3 := cell_regrown g3
    replace g4 := cell_regrown g4
    replace g5 := cell_regrown g5
    replace g6 := cell_regrown g6
    replace q3 := cell_regrown q3
    replace ct := cell_regrown ct
    refine wp_region_quiet_below (by kernel_rfl) (by kernel_rfl) ?_
    repeat (go_big_quiet_step (first | (go_at_call 34; with_reducible exact cs _ _) | (go_at_call 33; with_reducible exact ch _ _)))
    refine wpQuiet_nil ?_
    intro _ hw'
    obtain ⟨⟨dq, osq⟩, hw''⟩ := hw'
    subst hw''
    have hbR := below_regrown w3 dq osq
    refine at_world (fun u => RowKit.Below w3.heap.size w3 u) hbR ?_
    clear hbR p0 p1 p2 p3 g0 g1 g2 g3 g4 g5 g6 q3 ct cs ch
    rintro w4 hbR
    have HB9 := hid (HB3.out.trans (hbR.mono HB3.out.size))
    clear hbR
    go_wp2
    go_ret
    exact ⟨by rw [HR9.out]; rfl, HB9.out⟩
  rw [hh] at ch
  have HV1 := HV.out
  rw [if_pos hh] at HV1
  replace HV := hid HV1
  clear HV1
  obtain ⟨hw0, hwl, hw64⟩ := HSI.out hh
  obtain ⟨wn, rfl⟩ := Int.eq_ofNat_of_zero_le hw0
  have w0 : ¬ (wn : Int) < 0 := by omega
  go_upto_region 4 with (fail)
  replace p2 := cell_regrown p2
  replace p3 := cell_regrown p3
  replace g0 := cell_regrown g0
  replace g1 := cell_regrown g1
  replace g2 := cell_regrown g2
  replace g3 := cell_regrown g3
  replace g4 := cell_regrown g4
  replace g5 := cell_regrown g5
  replace g6 := cell_regrown g6
  replace q3 := cell_regrown q3
  replace ct := cell_regrown ct
  refine wp_region_quiet_below (by kernel_rfl) (by kernel_rfl) ?_
  repeat (go_big_quiet_step (first | (go_at_call 34; with_reducible exact cs _ _) | (go_at_call 33; with_reducible exact ch _ _)))
  refine wpQuiet_nil ?_
  intro _ hw'
  obtain ⟨⟨dq, osq⟩, hw''⟩ := hw'
  subst hw''
  have hbR := below_regrown w3 dq osq
  refine at_world (fun u => RowKit.Below w3.heap.size w3 u) hbR ?_
  clear hbR p0 p1 p2 p3 g0 g1 g2 g3 g4 g5 g6 q3 ct cs ch
  rintro w4 hbR
  have HB4 := hid (HB3.out.trans (hbR.mono HB3.out.size))
  have HQ4 := hid (keep0 HQ3.out hbR)
  have HJ4 := hid (keep0 HJ3.out hbR)
  clear hbR HB3 HQ3 HJ3 HSI HS9 HHA
  obtain ⟨p0, p1, p2, p3⟩ := four_cellsE HJ4.out
  obtain ⟨g0, g1, g2, g3, g4, g5, g6⟩ := seven_cellsJ HQ4.out
  have hWk := HWS.out w4 HB4.out
  obtain ⟨bw, ow, hKA, _⟩ := hWk.2.2.2 (by rw [gcells_length (f := wkc) (n := 3) (fun _ => rfl)]; omega)
  subst hKA
  have cw := hWk.wk0 wn (by omega)
  have HV1 := HV.out
  rw [Int.toNat_natCast] at HV1
  replace HV := hid HV1
  clear HV1
  clear hWk HWS
  generalize (ws.getD wn (0, 0, 0)).1 = sl at *
  have cr := reg (w := w4) (fun W' hW' => HRN.out W' (HB4.out.trans (hW'.mono HB4.out.size)))
  obtain ⟨dd, hdd⟩ : ∃ dd, decide ((rs : Int) < sl) = dd := ⟨_, rfl⟩
  have HRD : Hid (R = dd) := hid (by rw [HV.out]; exact hdd)
  have HDD := hid hdd
  clear HV hdd
  go_upto_region 6 with (fail)
  replace p3 := cell_regrown p3
  replace g6 := cell_regrown g6
  replace cw := cell_regrown cw
  refine wp_region_quiet_below (by kernel_rfl) (by kernel_rfl) ?_
  repeat (go_big_quiet_step (first | (go_at_call 35; with_reducible exact cr _ _)))
  refine wpQuiet_nil ?_
  intro _ hw'
  obtain ⟨⟨dq, osq⟩, hw''⟩ := hw'
  subst hw''
  have hbR := below_regrown w4 dq osq
  refine at_world (fun u => RowKit.Below w4.heap.size w4 u) hbR ?_
  clear hbR p0 p1 p2 p3 g0 g1 g2 g3 g4 g5 g6 cw cr
  rintro w5 hbR
  have HB9 := hid (HB4.out.trans (hbR.mono HB4.out.size))
  clear hbR
  go_wp2
  go_ret
  exact ⟨by rw [HRD.out, ← HDD.out]; rfl, HB9.out⟩
end Go.Proofs.YthohedadmfbahaaDoor

namespace Go.Proofs.YthohedadmfbahaaDoor
open Go.RowKit Go.Sort
set_option linter.unusedVariables false
set_option linter.unusedSimpArgs false

theorem set_map_snd (xs : List Ee) (i : Nat) (hi : i < xs.length) (y : Ee) (hp : y.2 = xs[i].2) : (xs.set i y).map (·.2) = xs.map (·.2) := by
  apply List.ext_getElem (by simp)
  intro j h1 h2
  simp only [List.getElem_map, List.getElem_set]
  split
  · subst_vars; exact hp
  · rfl
theorem RowBk.sep {w : World} {b : Nat} {v : Value} {xs : List Ee} (h : RowBk w b v xs) (i j : Nat) (hi : i < xs.length) (hj : j < xs.length) (hne : i ≠ j) : (∀ g, blk xs[i].2.B = some g → blk xs[j].2.B ≠ some g) ∧ (∀ g, blk xs[i].2.D = some g → blk xs[j].2.D ≠ some g) := by
  have hp := List.pairwise_iff_getElem.1 h.2.2
  rcases Nat.lt_or_ge i j with h1 | h1
  · exact hp i j hi hj h1
  · have h2 := hp j i hj hi (by omega)
    exact ⟨fun g a c => h2.1 g c a, fun g a c => h2.2 g c a⟩
theorem RowBk.upd {w w' : World} {b : Nat} {v : Value} {xs : List Ee} (h : RowBk w b v xs) (i : Nat) (hi : i < xs.length) (y : Ee) (hp : y.2 = xs[i].2) (hrow : w'.ownsRow b 57 6 v xs.length (gcells ebl (xs.set i y))) (hyi : OwE w' b y) (hoth : ∀ j (hj : j < xs.length), j ≠ i → OwE w' b xs[j]) : RowBk w' b v (xs.set i y) := by
  refine ⟨by rw [List.length_set]; exact hrow, fun z hz => ?_, ?_⟩
  · obtain ⟨j, hj, rfl⟩ := List.getElem_of_mem hz
    rw [List.getElem_set]
    split
    · exact hyi
    · rename_i hne
      exact hoth j (by simpa using hj) (fun e => hne e.symm)
  · have h1 := h.2.2
    have e1 : ∀ l : List Ee, (l.Pairwise fun x y => (∀ g, blk x.2.B = some g → blk y.2.B ≠ some g) ∧ (∀ g, blk x.2.D = some g → blk y.2.D ≠ some g)) ↔ (l.map (·.2)).Pairwise fun p q => (∀ g, blk p.B = some g → blk q.B ≠ some g) ∧ (∀ g, blk p.D = some g → blk q.D ≠ some g) := fun l => by rw [List.pairwise_map]
    rw [e1] at h1 ⊢
    rw [set_map_snd xs i hi y hp]
    exact h1
theorem gcells_set_same (xs : List Ee) (i : Nat) (hi : i < xs.length) (y : Ee) (he : ebl y = ebl xs[i]) : gcells ebl (xs.set i y) = gcells ebl xs := by
  unfold gcells
  congr 1
  apply List.ext_getElem (by simp)
  intro j h1 h2
  simp only [List.getElem_map, List.getElem_set]
  split
  · subst_vars; exact he
  · rfl
/-- A row of numbers of an entry is written. -/
theorem RowBk.wrB {w w' : World} {b g : Nat} {v : Value} {xs : List Ee} (h : RowBk w b v xs) (i : Nat) (hi : i < xs.length) (l : List Int) (hl : l.length = xs[i].1.bd.length) (hg : blk xs[i].2.B = some g) (ht : Tch (fun q => q = g) w w')
    (ho : w'.ownsRow b 3 1 (.slice xs[i].2.B xs[i].1.bd.length xs[i].2.cb) xs[i].1.bd.length (icells .i64 l)) : RowBk w' b v (xs.set i (⟨xs[i].1.id, xs[i].1.sc, xs[i].1.ep, xs[i].1.ns, l, xs[i].1.dn⟩, xs[i].2)) := by
  have hxi := h.2.1 xs[i] (List.getElem_mem hi)
  have hgi : (Value.slice xs[i].2.B xs[i].1.bd.length xs[i].2.cb).ownBlock = some g := by rw [ownBlock_blk]; exact hg
  have stay : ∀ {e s n : Nat} {u : Value} {zs : List Value}, w.ownsRow b e s u n zs → e ≠ 3 → w'.ownsRow b e s u n zs := fun hu hne => ht.own hu fun q hq hq2 => own_apart hu hxi.2.1 hne q hq (by rw [hq2]; exact hgi)
  refine h.upd i hi _ rfl ?_ ?_ fun j hj hne => ?_
  · rw [gcells_set_same xs i hi _ (by simp [ebl, hl])]
    exact stay h.1 (by decide)
  · exact ⟨⟨stay hxi.1.1 (by decide), hxi.1.2⟩, by show w'.ownsRow b _ 1 (.slice xs[i].2.B l.length xs[i].2.cb) l.length (icells .i64 l); rw [hl]; exact ho, stay hxi.2.2 (by decide)⟩
  · have hj2 := h.2.1 xs[j] (List.getElem_mem hj)
    exact ⟨⟨stay hj2.1.1 (by decide), hj2.1.2⟩, ht.own hj2.2.1 fun q hq hq2 => (h.sep i j hi hj (fun e => hne e.symm)).1 g hg (by rw [ownBlock_blk, hq2] at hq; exact hq), stay hj2.2.2 (by decide)⟩
/-- A row of yes and no of an entry is written. -/
theorem RowBk.wrD {w w' : World} {b g : Nat} {v : Value} {xs : List Ee} (h : RowBk w b v xs) (i : Nat) (hi : i < xs.length) (l : List Bool) (hl : l.length = xs[i].1.dn.length) (hg : blk xs[i].2.D = some g) (ht : Tch (fun q => q = g) w w')
    (ho : w'.ownsRow b 4 1 (.slice xs[i].2.D xs[i].1.dn.length xs[i].2.cd) xs[i].1.dn.length (blcells l)) : RowBk w' b v (xs.set i (⟨xs[i].1.id, xs[i].1.sc, xs[i].1.ep, xs[i].1.ns, xs[i].1.bd, l⟩, xs[i].2)) := by
  have hxi := h.2.1 xs[i] (List.getElem_mem hi)
  have hgi : (Value.slice xs[i].2.D xs[i].1.dn.length xs[i].2.cd).ownBlock = some g := by rw [ownBlock_blk]; exact hg
  have stay : ∀ {e s n : Nat} {u : Value} {zs : List Value}, w.ownsRow b e s u n zs → e ≠ 4 → w'.ownsRow b e s u n zs := fun hu hne => ht.own hu fun q hq hq2 => own_apart hu hxi.2.2 hne q hq (by rw [hq2]; exact hgi)
  refine h.upd i hi _ rfl ?_ ?_ fun j hj hne => ?_
  · rw [gcells_set_same xs i hi _ (by simp [ebl, hl])]
    exact stay h.1 (by decide)
  · exact ⟨⟨stay hxi.1.1 (by decide), hxi.1.2⟩, stay hxi.2.1 (by decide), by show w'.ownsRow b _ 1 (.slice xs[i].2.D l.length xs[i].2.cd) l.length (blcells l); rw [hl]; exact ho⟩
  · have hj2 := h.2.1 xs[j] (List.getElem_mem hj)
    exact ⟨⟨stay hj2.1.1 (by decide), hj2.1.2⟩, stay hj2.2.1 (by decide), ht.own hj2.2.2 fun q hq hq2 => (h.sep i j hi hj (fun e => hne e.symm)).2 g hg (by rw [ownBlock_blk, hq2] at hq; exact hq)⟩
theorem icells_set (l : List Int) (i : Nat) (v : Int) : icells .i64 (l.set i v) = (icells .i64 l).set i (.int .i64 v) := by simp [icells, List.map_set]
theorem blcells_set (l : List Bool) (i : Nat) (v : Bool) : blcells (l.set i v) = (blcells l).set i (.bool v) := by simp [blcells, List.map_set]

theorem tch_setB (w : World) (b i : Nat) (v : Value) : Tch (fun g => g = b) w (w.setCell ⟨b, i, none⟩ v) := (Tch.refl _ _).set b i v fun _ => rfl

def finB (b : List En) (j t w : Int) : Bool := if plI b j < 0 ∨ t < 0 ∨ (tkB (atE b j) : Int) ≤ t then false else runB (atE b j) t.toNat w
/-- Is an event possible? -/
def posB (x : Cf) (js : List Jo) (b : List En) (kd j t w : Int) : Bool := if kd = 1 then accB x js b j t w else if kd = 2 then lauB x b j t w else if kd = 3 then finB b j t w else false
def aftE (kd t w : Int) (e : En) : En := if kd = 2 then ⟨e.id, e.sc, e.ep, e.ns, e.bd.set t.toNat (w + 1), e.dn⟩ else ⟨e.id, e.sc, e.ep, e.ns, e.bd, e.dn.set t.toNat true⟩
/-- The state after an event. -/
def aftB (js : List Jo) (b : List En) (kd j t w : Int) : List En := if kd = 1 then b ++ [newE j (js.getD (ljI js j).toNat default).ns] else b.set (plI b j).toNat (aftE kd t w (atE b j))
def smE (e : En) : Prop := (e.ns.length ≤ 1000 ∧ e.bd.length ≤ 1000 ∧ e.dn.length ≤ 1000) ∧ ∀ s ∈ e.ns, s.length ≤ 1000
def SmJ (js : List Jo) : Prop := ∀ y ∈ js, y.ns.length ≤ 1000 ∧ ∀ s ∈ y.ns, s.length ≤ 1000
theorem pos_acc {x js b kd j t w} (h : posB x js b kd j t w = true) (hk : kd = 1) : accB x js b j t w = true := by rw [posB, if_pos hk] at h; exact h
theorem acc_in {x : Cf} {js : List Jo} {b : List En} {j t w : Int} (h : accB x js b j t w = true) : ∃ k : Nat, ljI js j = (k : Int) ∧ k < js.length := by
  unfold accB at h
  split at h
  · simp at h
  · obtain ⟨k, h1, h2, _⟩ := ljI_in (js := js) (j := j) (by omega)
    exact ⟨k, h1, h2⟩
/-- What a launch, or an end, speaks of. -/
theorem pos_in {x : Cf} {js : List Jo} {b : List En} {kd j t w : Int} (h : posB x js b kd j t w = true) (hk : kd ≠ 1) : (kd = 2 ∨ kd = 3) ∧ ∃ k : Nat, plI b j = (k : Int) ∧ k < b.length ∧ ∃ n : Nat, t = (n : Int) ∧ n < tkB (atE b j) ∧ (kd = 2 → 0 ≤ w ∧ w < 64) := by
  unfold posB at h
  rw [if_neg hk] at h
  split at h
  · rename_i h2
    unfold lauB at h
    split at h
    · simp at h
    · rename_i h3
      obtain ⟨k, h4, h5, _⟩ := plI_in (b := b) (j := j) (by omega)
      obtain ⟨n, rfl⟩ := Int.eq_ofNat_of_zero_le (show 0 ≤ t by omega)
      split at h
      · rename_i h6
        obtain ⟨g1, g2, g3⟩ := set_in h6
        exact ⟨.inl h2, k, h4, h5, n, rfl, by omega, fun _ => ⟨g1, g3⟩⟩
      · simp at h
  · split at h
    · rename_i h2 h3
      unfold finB at h
      split at h
      · simp at h
      · rename_i h4
        obtain ⟨k, h5, h6, _⟩ := plI_in (b := b) (j := j) (by omega)
        obtain ⟨n, rfl⟩ := Int.eq_ofNat_of_zero_le (show 0 ≤ t by omega)
        exact ⟨.inr h3, k, h5, h6, n, rfl, by omega, fun h => absurd h h2⟩
    · simp at h

set_option maxRecDepth 20000 in
set_option maxHeartbeats 4000000 in
theorem possible_any (x : Cf) (N : Option Addr) (nc : Nat) (K : Option Addr) (kc : Nat) (J : Option Addr) (jc : Nat) (js : List Jo) (S : Option Addr) (sc : Nat) (xs : List Ee) (kd j t w : Int) (W : World) (hC : CfAt W x N nc K kc) (hJ : InJs W J jc js) (hS : InBk W S sc xs) (hs : SmJ js) (hn : xs.length ≤ 100) (hk : ∀ x ∈ xs, smE x.1) (hw : x.ws.length ≤ 1000) :
    Calls Tryd.prog 13 #[.agg (cfc x N nc K kc), .slice J js.length jc, .slice S xs.length sc, .agg #[.int .i64 kd, .int .i64 j, .int .i64 t, .int .i64 w]] W fun e w' => e = .returned (.bool (posB x js (xs.map (·.1)) kd j t w)) ∧ RowKit.Below W.heap.size W w' := by
  by_cases h1 : kd = 1
  · subst h1
    rw [posB, if_pos rfl]
    exact possible1_any x N nc K kc J jc js S sc xs j t w W hC hJ hS (fun y hy => (hs y hy).2) hw
  have HLA := hid (fun u (hu : RowKit.Below W.heap.size W u) => launch_any x N nc K kc S sc xs kd j t w u (hC.below hu) (hS.below hu) hn hk hw)
  have HPL := hid (fun u (hu : RowKit.Below W.heap.size W u) => eplace_any S sc xs j u (hS.below hu))
  have HXS := hid (fun u (hu : RowKit.Below W.heap.size W u) => hS.below hu)
  have HK := hid hk
  have HV : Hid (posB x js (xs.map (·.1)) kd j t w = if kd = 2 then lauB x (xs.map (·.1)) j t w else if kd = 3 then (if plI (xs.map (·.1)) j < 0 ∨ t < 0 ∨ (tkB (atE (xs.map (·.1)) j) : Int) ≤ t then false else runB (atE (xs.map (·.1)) j) t.toNat w) else false) := hid (by rw [posB, if_neg h1]; rfl)
  have HIN := hid (fun (h : ¬ plI (xs.map (·.1)) j < 0) => plI_in h)
  have HAT := hid (fun k h hk => atE_at (xs := xs) (j := j) (k := k) h hk)
  have hxl : xs.length ≤ 9223372036854775807 := by omega
  clear hC hJ hS hk hs hw hn
  generalize posB x js (xs.map (·.1)) kd j t w = R at *
  generalize lauB x (xs.map (·.1)) j t w = la at *
  obtain ⟨pl, hpl⟩ : ∃ pl, plI (xs.map (·.1)) j = pl := ⟨_, rfl⟩
  rw [hpl] at HPL
  have HV1 := HV.out
  rw [hpl] at HV1
  replace HV := hid HV1
  clear HV1
  have HIN2 := hid (fun h => HIN.out (by rw [hpl]; exact h))
  have HPE := hid hpl
  obtain ⟨c0, le, ag, ro, ou, T, ws⟩ := x
  simp only [cfc] at *
  clear hpl HIN
  generalize js.length = jn at *
  go_enter Tryd.func13, Tryd.ntmps13
  go_upto_region 1 with (fail)
  refine at_world (fun u => u.heap[W.heap.size]? = some (.cells #[.int .i64 c0, .int .i64 le, .int .i64 ag, .int .i64 ro, .int .i64 ou, .slice N T.length nc, .slice K ws.length kc] 25 (0, 0)) ∧ u.heap[W.heap.size + 1]? = some (.cells #[.int .i64 kd, .int .i64 j, .int .i64 t, .int .i64 w] 37 (0, 0)) ∧ RowKit.Below W.heap.size W u) (lay2E W _ _) ?_
  rintro w1 ⟨hq, hj, hb⟩
  have HB := hid hb
  have HQ := hid hq
  have HJ := hid hj
  clear hq hj hb
  generalize W.heap.size + 1 = Ev at *
  generalize hQ : W.heap.size = Q at HQ
  clear hQ
  obtain ⟨p0, p1, p2, p3⟩ := four_cellsE HJ.out
  obtain ⟨g0, g1, g2, g3, g4, g5, g6⟩ := seven_cellsJ HQ.out
  have hk1 : (kd == 1) = false := by simpa using h1
  by_cases h2 : kd = 2
  · subst h2
    have HR9 : Hid (R = la) := hid (by rw [HV.out, if_pos rfl])
    clear HV HIN2 HAT HPE HK HXS HPL
    go_wp2_with fail
    refine (HLA.out _ HB.out).mono ?_
    rintro e w2 ⟨rfl, hb⟩
    have HB2 := hid (HB.out.trans (hb.mono HB.out.size))
    clear hb p0 p1 p2 p3 g0 g1 g2 g3 g4 g5 g6
    go_wp2
    go_ret
    exact ⟨by rw [HR9.out]; rfl, HB2.out⟩
  have hk2 : (kd == 2) = false := by simpa using h2
  by_cases h3 : kd = 3
  case neg =>
    have hk3 : (kd == 3) = false := by simpa using h3
    have HR9 : Hid (R = false) := hid (by rw [HV.out, if_neg h2, if_neg h3])
    clear HV HIN2 HAT HPE HK HXS HPL HLA
    go_wp2
    go_ret
    exact ⟨by rw [HR9.out]; rfl, HB.out⟩
  subst h3
  have HV1 := HV.out
  rw [if_neg h2, if_pos rfl] at HV1
  replace HV := hid HV1
  clear HV1 h1 h2 hk1 hk2 HLA la g0 g1 g2 g3 g4 g5 g6
  go_wp2_with fail
  refine (HPL.out _ HB.out).mono ?_
  rintro e w2 ⟨rfl, hb⟩
  have HB2 := hid (HB.out.trans (hb.mono HB.out.size))
  have HJ2 := hid (keep0 HJ.out hb)
  clear hb p0 p1 p2 p3 HB HQ HJ HPL
  obtain ⟨p0, p1, p2, p3⟩ := four_cellsE HJ2.out
  go_upto_region 8 with (fail)
  by_cases hp : pl < 0
  · have hd : ¬ pl ≥ 0 := by omega
    have HR9 : Hid (R = false) := hid (by rw [HV.out, if_pos (.inl hp)])
    clear HV
    replace p2 := cell_regrown p2
    refine wp_region_quiet_below (by kernel_rfl) (by kernel_rfl) ?_
    repeat (go_big_quiet_step (fail))
    refine wpQuiet_nil ?_
    intro _ hw'
    obtain ⟨⟨dq, osq⟩, hw''⟩ := hw'
    subst hw''
    have hbR := below_regrown w2 dq osq
    refine at_world (fun u => RowKit.Below w2.heap.size w2 u) hbR ?_
    clear hbR p0 p1 p2 p3
    rintro w3 hbR
    have HB9 := hid (HB2.out.trans (hbR.mono HB2.out.size))
    clear hbR
    go_wp2
    go_ret
    exact ⟨by rw [HR9.out]; rfl, HB9.out⟩
  have hd0 : pl ≥ 0 := by omega
  obtain ⟨k, hk9, hkl, _⟩ := HIN2.out (by first | exact hp | omega)
  have hkl : k < xs.length := by simpa using hkl
  have hae := HAT.out k hk9 hkl
  obtain rfl : pl = (k : Int) := by rw [← HPE.out]; exact hk9
  have hk0 : ¬ (k : Int) < 0 := by omega
  have hkg : (k : Int) ≥ 0 := by omega
  have hkx : (k : Int) < (xs.length : Int) := by omega
  have HV1 := HV.out
  rw [hae] at HV1
  replace HV := hid HV1
  clear HV1
  obtain ⟨b, off, hA, q0, q1, q2, q3, q4, q5⟩ := (HXS.out w2 HB2.out).el k hkl
  subst hA
  have HE := hid (fun u (hu : RowKit.Below W.heap.size W u) => (HXS.out u hu).2 _ (List.getElem_mem hkl))
  have hkk := HK.out _ (List.getElem_mem hkl)
  unfold smE at hkk
  generalize hx : xs[k] = x at q0 q1 q2 q3 q4 q5 HE hkk HV
  clear hx hae HAT HPE hk9 HIN2 HK hd0
  by_cases ht : t < 0
  · have hd : ¬ t ≥ 0 := by omega
    have HR9 : Hid (R = false) := hid (by rw [HV.out, if_pos (.inr (.inl ht))])
    clear HV
    replace p2 := cell_regrown p2
    refine wp_region_quiet_below (by kernel_rfl) (by kernel_rfl) ?_
    repeat (go_big_quiet_step (fail))
    refine wpQuiet_nil ?_
    intro _ hw'
    obtain ⟨⟨dq, osq⟩, hw''⟩ := hw'
    subst hw''
    have hbR := below_regrown w2 dq osq
    refine at_world (fun u => RowKit.Below w2.heap.size w2 u) hbR ?_
    clear hbR p0 p1 p2 p3 q0 q1 q2 q3 q4 q5
    rintro w3 hbR
    have HB9 := hid (HB2.out.trans (hbR.mono HB2.out.size))
    clear hbR
    go_wp2
    go_ret
    exact ⟨by rw [HR9.out]; rfl, HB9.out⟩
  have hd1 : t ≥ 0 := by omega
  obtain ⟨tn, rfl⟩ := Int.eq_ofNat_of_zero_le (show 0 ≤ t by omega)
  have HTK := hid (fun u => etasks_any x u (by omega) (by omega) (by omega))
  have htk : tkB x.1 ≤ x.1.ns.length ∧ tkB x.1 ≤ x.1.bd.length ∧ tkB x.1 ≤ x.1.dn.length := by unfold tkB; omega
  have HRU := hid (fun u (hu : RowKit.Below W.heap.size W u) (hi : tn < tkB x.1) => eruns_any x tn w u (HE.out u hu) (by omega) (by omega))
  have HV1 := HV.out
  rw [Int.toNat_natCast] at HV1
  replace HV := hid HV1
  clear HV1
  obtain ⟨⟨id, sE, ee, ms, bd, dn⟩, ⟨A1, ca, P, cb, D, cd⟩⟩ := x
  simp only at q0 q1 q2 q3 q4 q5 HV HTK HRU htk
  simp only [ecE] at HTK HRU
  clear HE hkk htk
  generalize tkB ⟨id, sE, ee, ms, bd, dn⟩ = tk at *
  generalize runB ⟨id, sE, ee, ms, bd, dn⟩ tn w = rb at *
  generalize ms.length = n1 at *
  generalize bd.length = n2 at *
  generalize dn.length = n3 at *
  have ck := reg (w := w2) (fun W' hW' => HTK.out W')
  by_cases htt : tk ≤ tn
  · have hge : ¬ (tn : Int) < (tk : Int) := by omega
    have HR9 : Hid (R = false) := hid (by rw [HV.out, if_pos (.inr (.inr (by omega)))])
    clear HV
    replace p2 := cell_regrown p2
    replace q0 := cell_regrown q0
    replace q1 := cell_regrown q1
    replace q2 := cell_regrown q2
    replace q3 := cell_regrown q3
    replace q4 := cell_regrown q4
    replace q5 := cell_regrown q5
    refine wp_region_quiet_below (by kernel_rfl) (by kernel_rfl) ?_
    repeat (go_big_quiet_step (first | (go_at_call 22; with_reducible exact ck _ _)))
    refine wpQuiet_nil ?_
    intro _ hw'
    obtain ⟨⟨dq, osq⟩, hw''⟩ := hw'
    subst hw''
    have hbR := below_regrown w2 dq osq
    refine at_world (fun u => RowKit.Below w2.heap.size w2 u) hbR ?_
    clear hbR p0 p1 p2 p3 q0 q1 q2 q3 q4 q5 ck
    rintro w3 hbR
    have HB9 := hid (HB2.out.trans (hbR.mono HB2.out.size))
    clear hbR
    go_wp2
    go_ret
    exact ⟨by rw [HR9.out]; rfl, HB9.out⟩
  have hlt : (tn : Int) < (tk : Int) := by omega
  have HR9 : Hid (R = rb) := hid (by rw [HV.out, if_neg (by omega)])
  have cr := reg (w := w2) (fun W' hW' => HRU.out W' (HB2.out.trans (hW'.mono HB2.out.size)) (by omega))
  clear HV HRU HTK
  replace p2 := cell_regrown p2
  replace p3 := cell_regrown p3
  replace q0 := cell_regrown q0
  replace q1 := cell_regrown q1
  replace q2 := cell_regrown q2
  replace q3 := cell_regrown q3
  replace q4 := cell_regrown q4
  replace q5 := cell_regrown q5
  refine wp_region_quiet_below (by kernel_rfl) (by kernel_rfl) ?_
  repeat (go_big_quiet_step (first | (go_at_call 22; with_reducible exact ck _ _) | (go_at_call 23; with_reducible exact cr _ _)))
  refine wpQuiet_nil ?_
  intro _ hw'
  obtain ⟨⟨dq, osq⟩, hw''⟩ := hw'
  subst hw''
  have hbR := below_regrown w2 dq osq
  refine at_world (fun u => RowKit.Below w2.heap.size w2 u) hbR ?_
  clear hbR p0 p1 p2 p3 q0 q1 q2 q3 q4 q5 ck cr
  rintro w3 hbR
  have HB9 := hid (HB2.out.trans (hbR.mono HB2.out.size))
  clear hbR
  go_wp2
  go_ret
  exact ⟨by rw [HR9.out]; rfl, HB9.out⟩
set_option maxRecDepth 20000 in
set_option maxHeartbeats 4000000 in
theorem after2_any (J : Option Addr) (jc : Nat) (js : List Jo) (A : Option Addr) (c : Nat) (xs : List Ee) (kd j t w : Int) (b : Nat) (i tn : Nat) (W : World) (h : RowBk W b (.slice A xs.length c) xs) (hb : b ≤ W.heap.size) (hk : kd = 2 ∨ kd = 3) (hp : plI (xs.map (·.1)) j = (i : Int)) (hi : i < xs.length) (ht : t = (tn : Int)) (htk : tn < tkB (atE (xs.map (·.1)) j)) (hw : kd = 2 → 0 ≤ w ∧ w < 64) (hxl : xs.length ≤ 9223372036854775807) :
    Calls Tryd.prog 14 #[.slice J js.length jc, .slice A xs.length c, .agg #[.int .i64 kd, .int .i64 j, .int .i64 t, .int .i64 w]] W fun e w' => ∃ A' c' xs', e = .returned (.slice A' xs'.length c') ∧ xs'.map (·.1) = aftB js (xs.map (·.1)) kd j t w ∧ RowBk w' b (.slice A' xs'.length c') xs' ∧ RowKit.Below b W w' := by
  subst ht
  have HAP : Hid (aftB js (xs.map (·.1)) kd j (tn : Int) w = (xs.map (·.1)).set i (aftE kd (tn : Int) w xs[i].1)) := hid (by
    unfold aftB
    rw [if_neg (by omega), hp, atE_at hp hi, Int.toNat_natCast])
  rw [atE_at hp hi] at htk
  have HPL := hid (fun u (hu : RowKit.Below W.heap.size W u) => eplace_any A c xs j u (h.inBk.below hu))
  rw [hp] at HPL
  have HR := hid h
  clear h hp
  generalize js.length = jn at *
  go_enter Tryd.func14, Tryd.ntmps14
  go_upto_region 1 with (fail)
  refine at_world (fun u => u.heap[W.heap.size]? = some (.cells #[.int .i64 kd, .int .i64 j, .int .i64 (tn : Int), .int .i64 w] 37 (0, 0)) ∧ RowKit.Below W.heap.size W u) ⟨heap_alloc_new _ _, (RowKit.Below.refl _ _).alloc (Nat.le_refl _) _⟩ ?_
  rintro w1 ⟨hx1, hb1⟩
  obtain ⟨p0, p1, p2, p3⟩ := four_cellsE hx1
  have HX1 := hid hx1
  have HB1 := hid hb1
  clear hx1 hb1
  go_wp2_with fail
  refine (HPL.out w1 HB1.out).mono ?_
  rintro e w2 ⟨rfl, hb2⟩
  have HB2 := hid (HB1.out.trans (hb2.mono HB1.out.size))
  have HX2 := hid (keep0 HX1.out hb2)
  have HR2 := hid (HR.out.keep HB2.out)
  have hbs : b ≤ w2.heap.size := Nat.le_trans hb HB2.out.size
  clear hb2 HB1 HX1 HR HPL p0 p1 p2 p3
  obtain ⟨p0, p1, p2, p3⟩ := four_cellsE HX2.out
  obtain ⟨g, off, rfl, c0, c1, c2, c3, c4, c5⟩ := HR2.out.inBk.el i hi
  obtain ⟨g9, cap9, hg9, _⟩ := own_open HR2.out.1 (by omega) (by omega)
  cases hg9
  simp only [Nat.zero_add] at c0 c1 c2 c3 c4 c5
  have hi2 : (i : Int) < (xs.length : Int) := by omega
  have i0 : ¬ (i : Int) < 0 := by omega
  have hOE := HR2.out.2.1 xs[i] (List.getElem_mem hi)
  have htb : tn < xs[i].1.bd.length := by unfold tkB at htk; omega
  have htd : tn < xs[i].1.dn.length := by unfold tkB at htk; omega
  clear htk
  rcases hk with rfl | rfl
  · obtain ⟨hw0, hw1⟩ := hw rfl
    obtain ⟨q, capq, hq, hbq, _, _, hcell, hset, _⟩ := own_open hOE.2.1 (by omega) (by omega)
    obtain ⟨cq, fq⟩ := hcell tn (by rw [icells_length]; exact htb)
    have hQ : xs[i].2.B = some ⟨q, 0, none⟩ := by injection hq
    have hST := hset tn (.int .i64 (w + 1))
    have hwr : IntKind.i64.wrap (w + 1) = w + 1 := by simp [IntKind.wrap, IntKind.bits, IntKind.signed]; omega
    have hdr : RowKit.Below (w2.setCell ⟨q, tn, none⟩ (.int .i64 (w + 1))).heap.size (w2.setCell ⟨q, tn, none⟩ (.int .i64 (w + 1))) (w2.setCell ⟨q, tn, none⟩ (.int .i64 (w + 1))).drew := below_drew (RowKit.Below.refl _ _)
    rw [← icells_set] at hST
    have HN := hid (HR2.out.wrB i hi (xs[i].1.bd.set tn (w + 1)) (by simp) (show blk xs[i].2.B = some q by rw [hQ]; rfl) ((tch_setB w2 q tn (.int .i64 (w + 1))).grow hdr) (own_keep hST hdr))
    have HBF := hid ((HB2.out.mono hb).trans (below_drew ((RowKit.Below.refl b w2).setCell (p := ⟨q, tn, none⟩) hbq (.int .i64 (w + 1)))))
    rw [hQ] at c4
    have hbt2 : (tn : Int) < (xs[i].1.bd.length : Int) := by omega
    have t0 : ¬ (tn : Int) < 0 := by omega
    clear hcell hset htd hOE hST hdr hq hbq hw
    go_upto_region 7 with (fail)
    go_region
    all_goals go_wp2
    all_goals go_ret
    all_goals exact ⟨some ⟨g, 0, none⟩, c, xs.set i (⟨xs[i].1.id, xs[i].1.sc, xs[i].1.ep, xs[i].1.ns, xs[i].1.bd.set tn (w + 1), xs[i].1.dn⟩, xs[i].2), by rw [List.length_set]; rfl, by rw [HAP.out, List.map_set]; rfl, by rw [List.length_set]; exact HN.out, HBF.out⟩
  · obtain ⟨q, capq, hq, hbq, _, _, hcell, hset, _⟩ := own_open hOE.2.2 (by omega) (by omega)
    obtain ⟨cq, fq⟩ := hcell tn (by rw [blcells_length]; exact htd)
    have hQ : xs[i].2.D = some ⟨q, 0, none⟩ := by injection hq
    have hST := hset tn (.bool true)
    have hdr : RowKit.Below (w2.setCell ⟨q, tn, none⟩ (.bool true)).heap.size (w2.setCell ⟨q, tn, none⟩ (.bool true)) (w2.setCell ⟨q, tn, none⟩ (.bool true)).drew := below_drew (RowKit.Below.refl _ _)
    rw [← blcells_set] at hST
    have HN := hid (HR2.out.wrD i hi (xs[i].1.dn.set tn true) (by simp) (show blk xs[i].2.D = some q by rw [hQ]; rfl) ((tch_setB w2 q tn (.bool true)).grow hdr) (own_keep hST hdr))
    have HBF := hid ((HB2.out.mono hb).trans (below_drew ((RowKit.Below.refl b w2).setCell (p := ⟨q, tn, none⟩) hbq (.bool true))))
    rw [hQ] at c5
    have hbt2 : (tn : Int) < (xs[i].1.dn.length : Int) := by omega
    have t0 : ¬ (tn : Int) < 0 := by omega
    clear hcell hset htb hOE hST hdr hq hbq hw
    go_upto_region 9 with (fail)
    go_region
    all_goals go_wp2
    all_goals go_ret
    all_goals exact ⟨some ⟨g, 0, none⟩, c, xs.set i (⟨xs[i].1.id, xs[i].1.sc, xs[i].1.ep, xs[i].1.ns, xs[i].1.bd, xs[i].1.dn.set tn true⟩, xs[i].2), by rw [List.length_set]; rfl, by rw [HAP.out, List.map_set]; rfl, by rw [List.length_set]; exact HN.out, HBF.out⟩
theorem after_any (x : Cf) (J : Option Addr) (jc : Nat) (js : List Jo) (A : Option Addr) (c : Nat) (xs : List Ee) (kd j t w : Int) (b : Nat) (W : World) (h : RowBk W b (.slice A xs.length c) xs) (hb : b ≤ W.heap.size) (hJ : InJs W J jc js) (hn : xs.length ≤ 100000) (hs : SmJ js) (hpos : posB x js (xs.map (·.1)) kd j t w = true) :
    Calls Tryd.prog 14 #[.slice J js.length jc, .slice A xs.length c, .agg #[.int .i64 kd, .int .i64 j, .int .i64 t, .int .i64 w]] W fun e w' => ∃ A' c' xs', e = .returned (.slice A' xs'.length c') ∧ xs'.map (·.1) = aftB js (xs.map (·.1)) kd j t w ∧ RowBk w' b (.slice A' xs'.length c') xs' ∧ RowKit.Below b W w' := by
  by_cases h1 : kd = 1
  · subst h1
    obtain ⟨k, hlk, hk⟩ := acc_in (pos_acc hpos rfl)
    have h9 := after1_any J jc js A c xs j t w b k W h hb hJ hn hlk hk (hs _ (List.getElem_mem hk)).1 (hs _ (List.getElem_mem hk)).2
    have e9 : aftB js (xs.map (·.1)) 1 j t w = xs.map (·.1) ++ [newE j js[k].ns] := by
      unfold aftB
      rw [if_pos rfl, hlk]
      simp [List.getD, hk]
    rw [e9]
    exact h9
  · obtain ⟨hk2, k, hp, hk, n, ht, htk, hw⟩ := pos_in hpos h1
    exact after2_any J jc js A c xs kd j t w b k n W h hb hk2 hp (by simpa using hk) ht htk hw (by omega)
end Go.Proofs.YthohedadmfbahaaDoor

namespace Go.Proofs.YthohedadmfbahaaDoor
open Go.RowKit Go.Sort
set_option linter.unusedVariables false
set_option linter.unusedSimpArgs false

set_option maxRecDepth 20000 in
set_option maxHeartbeats 2000000 in
theorem step_any (x : Cf) (N : Option Addr) (nc : Nat) (K : Option Addr) (kc : Nat) (J : Option Addr) (jc : Nat) (js : List Jo) (S : Option Addr) (sc : Nat) (xs : List Ee) (kd j t w : Int) (W : World) (hC : CfAt W x N nc K kc) (hJ : InJs W J jc js) (hS : InBk W S sc xs) (hn : xs.length ≤ 100) (hk : ∀ x ∈ xs, smE x.1) (hs : SmJ js) (hw : x.ws.length ≤ 1000) :
    Calls Tryd.prog 7 #[.agg (cfc x N nc K kc), .slice J js.length jc, .slice S xs.length sc, .agg #[.int .i64 kd, .int .i64 j, .int .i64 t, .int .i64 w]] W fun e w' => ∃ A' c' xs', e = .returned (.tuple #[.slice A' xs'.length c', .bool (posB x js (xs.map (·.1)) kd j t w)]) ∧ xs'.map (·.1) = (if posB x js (xs.map (·.1)) kd j t w then aftB js (xs.map (·.1)) kd j t w else xs.map (·.1)) ∧ RowBk w' W.heap.size (.slice A' xs'.length c') xs' ∧ Below W.heap.size W w' := by
  have HCL := hid (fun u (hu : Below W.heap.size W u) => bclone_any S sc xs u (hS.below hu) (by omega) (fun x hx => ⟨by have := (hk x hx).1; omega, by have := (hk x hx).1; omega, by have := (hk x hx).1; omega⟩))
  have HPO := hid (fun u (hu : Below W.heap.size W u) (S : Option Addr) (sc : Nat) (ys : List Ee) (hy : InBk u S sc ys) (hyn : ys.length ≤ 100) (hyk : ∀ y ∈ ys, smE y.1) => possible_any x N nc K kc J jc js S sc ys kd j t w u (hC.below hu) (hJ.below hu) hy hs hyn hyk hw)
  have HAF := hid (fun u (hu : Below W.heap.size W u) (A : Option Addr) (c : Nat) (ys : List Ee) (hy : RowBk u W.heap.size (.slice A ys.length c) ys) (hyn : ys.length ≤ 100) (hpos : posB x js (ys.map (·.1)) kd j t w = true) => after_any x J jc js A c ys kd j t w W.heap.size u hy hu.size (hJ.below hu) (by omega) hs hpos)
  have HSM := hid (fun (ys : List Ee) (h : ys.map (·.1) = xs.map (·.1)) => show ∀ y ∈ ys, smE y.1 from fun y hy => by
    have h9 : y.1 ∈ xs.map (·.1) := by rw [← h]; exact List.mem_map.2 ⟨y, hy, rfl⟩
    obtain ⟨z, hz, he⟩ := List.mem_map.1 h9
    rw [← he]
    exact hk z hz)
  clear hC hJ hS hk hs hw
  obtain ⟨xm, hxm⟩ : ∃ xm, xs.map (·.1) = xm := ⟨_, rfl⟩
  rw [hxm]
  obtain ⟨R, hR⟩ : ∃ R, posB x js xm kd j t w = R := ⟨_, rfl⟩
  rw [hR]
  have HXM := hid hxm
  have HRR := hid hR
  clear hxm hR
  obtain ⟨c0, le, ag, ro, ou, T, ws⟩ := x
  simp only [cfc] at *
  go_enter Tryd.func7, Tryd.ntmps7
  go_upto_region 1 with (fail)
  refine at_world (fun u => u.heap[W.heap.size]? = some (.cells #[.int .i64 c0, .int .i64 le, .int .i64 ag, .int .i64 ro, .int .i64 ou, .slice N T.length nc, .slice K ws.length kc] 25 (0, 0)) ∧ u.heap[W.heap.size + 1]? = some (.cells #[.int .i64 kd, .int .i64 j, .int .i64 t, .int .i64 w] 37 (0, 0)) ∧ Below W.heap.size W u) (lay2E W _ _) ?_
  rintro w1 ⟨hq, hj, hb⟩
  have HB := hid hb
  have HQ := hid hq
  have HJ := hid hj
  clear hq hj hb
  generalize W.heap.size + 1 = Ev at *
  generalize hQ : W.heap.size = Q at HQ
  clear hQ
  go_wp2_with fail
  refine (HCL.out _ HB.out).mono ?_
  rintro e w2 ⟨A2, c2, ys, rfl, hys, hry, hb⟩
  have HRY := hid (hry.mono HB.out.size)
  have HB2 := hid (HB.out.trans (hb.mono HB.out.size))
  have HQ2 := hid (keep0 HQ.out hb)
  have HJ2 := hid (keep0 HJ.out hb)
  have hyl : ys.length = xs.length := by have := congrArg List.length hys; simpa using this
  have hysm := HSM.out ys hys
  rw [HXM.out] at hys
  have HYS := hid hys
  have HPO2 := hid (fun u (hu : Below w2.heap.size w2 u) => HPO.out u (HB2.out.trans (hu.mono HB2.out.size)) A2 c2 ys ((HRY.out.keep hu).inBk) (by omega) hysm)
  have HPO3 := HPO2.out
  rw [hys, HRR.out] at HPO3
  replace HPO2 := hid HPO3
  have HAF2 := hid (fun u hu A c ys (hy : RowBk u W.heap.size (.slice A ys.length c) ys) hyn (hm : ys.map (·.1) = xm) (hr : R = true) => HAF.out u hu A c ys hy hyn (by rw [hm, HRR.out]; exact hr))
  clear hb hry HB HQ HJ HCL HPO hys HPO3 hysm HSM HAF
  have hyn : ys.length ≤ 100 := by omega
  clear hyl hn
  clear HXM HRR
  obtain ⟨p0, p1, p2, p3⟩ := four_cellsE HJ2.out
  obtain ⟨q0, q1, q2, q3, q4, q5, q6⟩ := seven_cellsJ HQ2.out
  go_wp2_with fail
  refine (HPO2.out _ (Below.refl _ _)).mono ?_
  rintro e w3 ⟨rfl, hb⟩
  have HB3 := hid (HB2.out.trans (hb.mono HB2.out.size))
  have HQ3 := hid (keep0 HQ2.out hb)
  have HJ3 := hid (keep0 HJ2.out hb)
  have HRY3 := hid (HRY.out.keep hb)
  clear hb p0 p1 p2 p3 q0 q1 q2 q3 q4 q5 q6 HB2 HQ2 HJ2 HRY HPO2
  cases R with
  | false =>
    clear HAF2
    go_wp2
    exact bodyPost_ret (v := .tuple #[.slice A2 ys.length c2, .bool false]) (by simp [results, Tryd.results7, go_sem]) rfl ⟨A2, c2, ys, rfl, HYS.out, HRY3.out, HB3.out⟩
  | true =>
    have HAF3 := hid (HAF2.out w3 HB3.out A2 c2 ys HRY3.out hyn HYS.out (by first | rfl | trivial))
    have HAF4 := HAF3.out
    rw [HYS.out] at HAF4
    replace HAF3 := hid HAF4
    clear HAF2 HAF4
    obtain ⟨p0, p1, p2, p3⟩ := four_cellsE HJ3.out
    generalize js.length = jn at *
    go_wp2_with fail
    refine HAF3.out.mono ?_
    rintro e w4 ⟨A4, c4, zs, rfl, hzs, hrz, hb⟩
    have HZ := hid (And.intro hzs (And.intro hrz hb))
    clear hzs hrz hb p0 p1 p2 p3
    go_wp2
    refine bodyPost_ret (v := .tuple #[.slice A4 zs.length c4, .bool true]) (by simp [results, Tryd.results7, go_sem]) rfl ⟨A4, c4, zs, rfl, ?_, HZ.out.2.1, HB3.out.trans HZ.out.2.2⟩
    first | exact HZ.out.1 | (rw [if_pos rfl]; exact HZ.out.1)

/-- An event: its kind, job, task, worker. -/
structure Ev where
  kd : Int
  j : Int
  t : Int
  w : Int
instance : Inhabited Ev := ⟨⟨0, 0, 0, 0⟩⟩
def evl (e : Ev) : List Value := [.int .i64 e.kd, .int .i64 e.j, .int .i64 e.t, .int .i64 e.w]
theorem evl_len (e : Ev) : (evl e).length = 4 := rfl
def posV (x : Cf) (js : List Jo) (b : List En) (e : Ev) : Bool := posB x js b e.kd e.j e.t e.w
def aftV (js : List Jo) (b : List En) (e : Ev) : List En := aftB js b e.kd e.j e.t e.w
/-- What events come to, and how many happen. -/
def runL (x : Cf) (js : List Jo) : List En → List Ev → List En × Nat
  | b, [] => (b, 0)
  | b, e :: l => if posV x js b e = true then ((runL x js (aftV js b e) l).1, (runL x js (aftV js b e) l).2 + 1) else (b, 0)
def OkL (b : List En) (n : Nat) : Prop := b.length ≤ n ∧ ∀ e ∈ b, smE e
theorem aft_ok {x : Cf} {js : List Jo} {b : List En} {n : Nat} {e : Ev} (h : OkL b n) (hs : SmJ js) (hp : posV x js b e = true) : OkL (aftV js b e) (n + 1) := by
  unfold aftV
  unfold posV at hp
  unfold aftB
  by_cases h1 : e.kd = 1
  · rw [if_pos h1]
    obtain ⟨k, hlk, hk⟩ := acc_in (pos_acc hp h1)
    have e9 : (js.getD (ljI js e.j).toNat default) = js[k] := by rw [hlk]; simp [List.getD, hk]
    have h2 := hs _ (List.getElem_mem hk)
    rw [e9]
    refine ⟨by rw [List.length_append, List.length_singleton]; have := h.1; omega, fun y hy => ?_⟩
    rcases List.mem_append.1 hy with h3 | h3
    · exact h.2 y h3
    · obtain rfl := List.mem_singleton.1 h3
      exact ⟨⟨h2.1, by simp [newE]; exact h2.1, by simp [newE]; exact h2.1⟩, h2.2⟩
  · rw [if_neg h1]
    obtain ⟨hk2, k, hpl, hk, tn, ht, htk, hw⟩ := pos_in hp h1
    have h3 : atE b e.j ∈ b := by
      unfold atE
      rw [hpl]
      have : b.getD ((k : Int)).toNat ⟨0, 0, 0, [], [], []⟩ = b[k] := by simp [List.getD, hk]
      rw [this]
      exact List.getElem_mem hk
    refine ⟨by rw [List.length_set]; have := h.1; omega, fun y hy => ?_⟩
    rcases List.mem_or_eq_of_mem_set hy with h4 | h4
    · exact h.2 y h4
    · subst h4
      have h5 := h.2 _ h3
      unfold aftE
      split
      · exact ⟨⟨h5.1.1, by simp; exact h5.1.2.1, h5.1.2.2⟩, h5.2⟩
      · exact ⟨⟨h5.1.1, h5.1.2.1, by simp; exact h5.1.2.2⟩, h5.2⟩
theorem runL_yes {x : Cf} {js : List Jo} {b0 b : List En} {l : List Ev} {n : Nat} (hn : n < l.length) (h : runL x js b0 l = ((runL x js b (l.drop n)).1, n + (runL x js b (l.drop n)).2)) (hp : posV x js b l[n] = true) : runL x js b0 l = ((runL x js (aftV js b l[n]) (l.drop (n + 1))).1, n + 1 + (runL x js (aftV js b l[n]) (l.drop (n + 1))).2) := by
  rw [h, List.drop_eq_getElem_cons hn, runL, if_pos hp]
  simp only [Prod.mk.injEq, true_and]
  omega
theorem runL_no {x : Cf} {js : List Jo} {b0 b : List En} {l : List Ev} {n : Nat} (hn : n < l.length) (h : runL x js b0 l = ((runL x js b (l.drop n)).1, n + (runL x js b (l.drop n)).2)) (hp : posV x js b l[n] = false) : runL x js b0 l = (b, n) := by
  rw [h, List.drop_eq_getElem_cons hn, runL, if_neg (by simp [hp])]
  rfl
theorem runL_end {x : Cf} {js : List Jo} {b0 b : List En} {l : List Ev} {n : Nat} (hn : l.length ≤ n) (h : runL x js b0 l = ((runL x js b (l.drop n)).1, n + (runL x js b (l.drop n)).2)) : runL x js b0 l = (b, n) := by
  rw [h, List.drop_eq_nil_of_le hn, runL]
  rfl

set_option maxRecDepth 20000 in
set_option maxHeartbeats 4000000 in
theorem run_any (x : Cf) (N : Option Addr) (nc : Nat) (K : Option Addr) (kc : Nat) (J : Option Addr) (jc : Nat) (js : List Jo) (L : Option Addr) (lc : Nat) (evs : List Ev) (W : World) (hC : CfAt W x N nc K kc) (hJ : InJs W J jc js) (hL : Sl W 4 L evs.length lc (gcells evl evs)) (hn : evs.length ≤ 60) (hs : SmJ js) (hw : x.ws.length ≤ 1000) :
    Calls Tryd.prog 10 #[.agg (cfc x N nc K kc), .slice J js.length jc, .slice L evs.length lc] W fun e w' => ∃ A' c' xs', e = .returned (.tuple #[.slice A' xs'.length c', .int .i64 ((runL x js [] evs).2 : Nat)]) ∧ xs'.map (·.1) = (runL x js [] evs).1 ∧ RowBk w' W.heap.size (.slice A' xs'.length c') xs' ∧ RowKit.Below W.heap.size W w' := by
  have HPO := hid (fun u (hu : RowKit.Below W.heap.size W u) (S : Option Addr) (sc : Nat) (ys : List Ee) (e : Ev) (hy : InBk u S sc ys) (hyn : ys.length ≤ 100) (hyk : ∀ y ∈ ys, smE y.1) => show Calls Tryd.prog 13 #[.agg (cfc x N nc K kc), .slice J js.length jc, .slice S ys.length sc, .agg #[.int .i64 e.kd, .int .i64 e.j, .int .i64 e.t, .int .i64 e.w]] u fun q w' => q = .returned (.bool (posV x js (ys.map (·.1)) e)) ∧ RowKit.Below u.heap.size u w' from possible_any x N nc K kc J jc js S sc ys e.kd e.j e.t e.w u (hC.below hu) (hJ.below hu) hy hs hyn hyk hw)
  have HAF := hid (fun b u (hu : RowKit.Below W.heap.size W u) (hb : b ≤ u.heap.size) (A : Option Addr) (c : Nat) (ys : List Ee) (e : Ev) (hy : RowBk u b (.slice A ys.length c) ys) (hyn : ys.length ≤ 100) (hpos : posV x js (ys.map (·.1)) e = true) => show Calls Tryd.prog 14 #[.slice J js.length jc, .slice A ys.length c, .agg #[.int .i64 e.kd, .int .i64 e.j, .int .i64 e.t, .int .i64 e.w]] u fun q w' => ∃ A' c' xs', q = .returned (.slice A' xs'.length c') ∧ xs'.map (·.1) = aftV js (ys.map (·.1)) e ∧ RowBk w' b (.slice A' xs'.length c') xs' ∧ RowKit.Below b u w' from after_any x J jc js A c ys e.kd e.j e.t e.w b u hy hb (hJ.below hu) (by omega) hs hpos)
  have HEL := hid (fun u (hu : RowKit.Below W.heap.size W u) k (hk : k < evs.length) => Sl.gat (f := evl) (n := 4) evl_len (hL.below hu) k hk (by omega))
  have HOK := hid (fun b n e (h : OkL b n) (hp : posV x js b e = true) => aft_ok h hs hp)
  have HYE := hid (fun b n (hk : n < evs.length) h hp => runL_yes (x := x) (js := js) (b0 := []) (b := b) hk h hp)
  have HNO := hid (fun b n (hk : n < evs.length) h hp => runL_no (x := x) (js := js) (b0 := []) (b := b) hk h hp)
  have HEN := hid (fun b n (hk : evs.length ≤ n) h => runL_end (x := x) (js := js) (b0 := []) (b := b) hk h)
  have HST : Hid (runL x js [] evs = ((runL x js [] (evs.drop 0)).1, 0 + (runL x js [] (evs.drop 0)).2)) := hid (by rw [List.drop_zero, Nat.zero_add])
  clear hC hJ hL hs hw
  generalize runL x js = rl at *
  generalize posV x js = pV at *
  generalize aftV js = aV at *
  obtain ⟨RR, hRR⟩ : ∃ RR, rl [] evs = RR := ⟨_, rfl⟩
  have HRR := hid hRR
  rw [hRR]
  clear hRR
  obtain ⟨c0, le, ag, ro, ou, T, ws⟩ := x
  simp only [cfc] at *
  generalize js.length = jn at *
  go_enter Tryd.func10, Tryd.ntmps10
  go_upto_region 1 with (fail)
  refine at_world (fun u => u.heap[W.heap.size]? = some (.cells #[.int .i64 c0, .int .i64 le, .int .i64 ag, .int .i64 ro, .int .i64 ou, .slice N T.length nc, .slice K ws.length kc] 25 (0, 0)) ∧ RowKit.Below W.heap.size W u) ⟨heap_alloc_new _ _, bel_alloc (RowKit.Below.refl _ _) _⟩ ?_
  rintro w1 ⟨hq, hb⟩
  have HB1 := hid hb
  have HQ1 := hid hq
  clear hq hb
  generalize hQ : W.heap.size = Q at HQ1
  have HQW := hid hQ
  clear hQ
  go_wp2
  go_loopw [8, 9, 10, 13] (fun v _ _ i wr => ∃ (n : Nat) (A' : Option Addr) (c' : Nat) (ys : List Ee), n ≤ evs.length ∧ i = .int .i64 (n : Int) ∧ v = .slice A' ys.length c' ∧ Hid (RowBk wr w1.heap.size (.slice A' ys.length c') ys ∧ OkL (ys.map (·.1)) n ∧ rl [] evs = ((rl (ys.map (·.1)) (evs.drop n)).1, n + (rl (ys.map (·.1)) (evs.drop n)).2)) ∧ Hid (RowKit.Below w1.heap.size w1 wr)) (fun _ _ _ i _ => evs.length - (intOf i).toNat)
  case atStart => exact ⟨0, none, 0, [], by omega, rfl, rfl, ⟨RowBk.nil _ _, ⟨by simp, by simp⟩, HST.out⟩, RowKit.Below.refl _ _⟩
  case round =>
    obtain ⟨n, A', c', ys, hn9, rfl, rfl, HI, HB⟩ := hrel
    have HBW := hid (HB1.out.trans (HB.out.mono HB1.out.size))
    have HQ2 := hid (keep0 HQ1.out HB.out)
    by_cases hlt : n < evs.length
    · have hlt2 : (n : Int) < (evs.length : Int) := by omega
      have hn0 : ¬ (n : Int) < 0 := by omega
      obtain ⟨b, off, hA, hc⟩ := HEL.out wr HBW.out n hlt
      subst hA
      have q0 := hc 0 _ rfl
      have q1 := hc 1 _ rfl
      have q2 := hc 2 _ rfl
      have q3 := hc 3 _ rfl
      have hyl : ys.length ≤ 100 := by have := HI.out.2.1.1; rw [List.length_map] at this; omega
      have hyk : ∀ y ∈ ys, smE y.1 := fun y hy => HI.out.2.1.2 _ (List.mem_map.2 ⟨y, hy, rfl⟩)
      have HPO2 := hid (fun u (hu : RowKit.Below wr.heap.size wr u) => HPO.out u (HBW.out.trans (hu.mono HBW.out.size)) A' c' ys evs[n] ((HI.out.1.keep hu).inBk) hyl hyk)
      have HAF2 := hid (fun u (hu : RowKit.Below wr.heap.size wr u) (hp : pV (ys.map (·.1)) evs[n] = true) => HAF.out w1.heap.size u (HBW.out.trans (hu.mono HBW.out.size)) (Nat.le_trans HB.out.size hu.size) A' c' ys evs[n] (HI.out.1.keep hu) hyl hp)
      have HYE2 := hid (fun hp => HYE.out (ys.map (·.1)) n hlt HI.out.2.2 hp)
      have HNO2 := hid (fun hp => HNO.out (ys.map (·.1)) n hlt HI.out.2.2 hp)
      have HOK2 := hid (fun (hp : pV (ys.map (·.1)) evs[n] = true) => HOK.out (ys.map (·.1)) n evs[n] HI.out.2.1 hp)
      clear hc hyk
      generalize evs[n] = ev at *
      obtain ⟨kd, j, t, w⟩ := ev
      simp only [evl] at q0 q1 q2 q3 HPO2 HAF2
      simp only [Nat.add_zero] at q0
      go_upto_region 5 with (fail)
      have hal : RowKit.Below wr.heap.size wr (wr.alloc (.cells #[.int .i64 kd, .int .i64 j, .int .i64 t, .int .i64 w] 37)) := bel_alloc (RowKit.Below.refl _ _) _
      refine at_world (fun u => u.heap[wr.heap.size]? = some (.cells #[.int .i64 kd, .int .i64 j, .int .i64 t, .int .i64 w] 37 (0, 0)) ∧ RowKit.Below wr.heap.size wr u) ⟨heap_alloc_new _ _, hal⟩ ?_
      clear hal q0 q1 q2 q3
      rintro w2 ⟨hx, hb⟩
      have HX2 := hid hx
      have HB2 := hid hb
      have HQ3 := hid (keep0 HQ2.out hb)
      clear hx hb
      generalize hBx : wr.heap.size = Bx at HX2
      clear hBx
      obtain ⟨p0, p1, p2, p3⟩ := four_cellsE HX2.out
      obtain ⟨g0, g1, g2, g3, g4, g5, g6⟩ := seven_cellsJ HQ3.out
      go_wp2_with fail
      refine (HPO2.out w2 HB2.out).mono ?_
      rintro e w3 ⟨rfl, hb⟩
      have HB3 := hid (HB2.out.trans (hb.mono HB2.out.size))
      have HX3 := hid (keep0 HX2.out hb)
      clear hb p0 p1 p2 p3 g0 g1 g2 g3 g4 g5 g6 HX2 HQ3
      cases hpv : pV (ys.map (·.1)) ⟨kd, j, t, w⟩ with
      | false =>
        have HE := hid (HNO2.out hpv)
        have hRRv : RR = (ys.map (·.1), n) := by rw [← HRR.out]; exact HE.out
        have HRV := hid hRRv
        clear hpv hRRv HAF2 HYE2 HNO2 HOK2 HPO2
        go_wp2
        refine bodyPost_ret (v := .tuple #[.slice A' ys.length c', .int .i64 (n : Int)]) (by simp [results, Tryd.results10, go_sem]) rfl ⟨A', c', ys, ?_, ?_, (HI.out.1.keep HB3.out).mono HB1.out.size, HBW.out.trans (HB3.out.mono HBW.out.size)⟩
        · rw [HRV.out]
        · rw [HRV.out]
      | true =>
        have HE := hid (HYE2.out hpv)
        have HO9 := hid (HOK2.out hpv)
        have HA9 := hid (HAF2.out w3 HB3.out hpv)
        clear hpv HAF2 HYE2 HNO2 HOK2 HPO2
        obtain ⟨p0, p1, p2, p3⟩ := four_cellsE HX3.out
        go_wp2_with fail
        refine HA9.out.mono ?_
        rintro e w4 ⟨A4, c4, zs, rfl, hzs, hrz, hb⟩
        have HZ := hid (And.intro hrz (And.intro hzs ((HB.out.trans (HB3.out.mono HB.out.size)).trans hb)))
        clear hzs hrz hb p0 p1 p2 p3 HX3 HA9
        go_wp2
        go_roundw
        case rel => exact ⟨n + 1, A4, c4, zs, by omega, by go_num, rfl, hid ⟨HZ.out.1, by rw [HZ.out.2.1]; exact HO9.out, by rw [HZ.out.2.1]; exact HE.out⟩, hid HZ.out.2.2⟩
        case measure => simp [intOf]; omega
    · have hge : ¬ (n : Int) < (evs.length : Int) := by omega
      obtain rfl : n = evs.length := by omega
      have HE := hid (HEN.out (ys.map (·.1)) _ (Nat.le_refl _) HI.out.2.2)
      have hRRv : RR = (ys.map (·.1), evs.length) := by rw [← HRR.out]; exact HE.out
      have HRV := hid hRRv
      clear hRRv HE
      go_wp2
      refine bodyPost_ret (v := .tuple #[.slice A' ys.length c', .int .i64 (evs.length : Int)]) (by simp [results, Tryd.results10, go_sem]) rfl ⟨A', c', ys, ?_, ?_, (HI.out.1).mono HB1.out.size, HBW.out⟩
      · rw [HRV.out]
      · rw [HRV.out]
end Go.Proofs.YthohedadmfbahaaDoor
