/- hand: bound, noted, pending, Pending, admitted: contracts. -/
import Derived.Test.YtgakobolhmdnnaaQHdA
import Derived.Deep.RegionHeld3
namespace Go.Proofs.Ytgakobolhmdnnaa
open Go.RowKit Go.Sort
set_option linter.unusedVariables false
set_option linter.unusedSimpArgs false

@[go_sem high] theorem run_min3 {P : Program} (w : World) (ts : Array TypeId) (t : TypeId) (k k' k'' : IntKind) (x y z : Int) :
    (Builtin.min_ ts t #[.int k x, .int k' y, .int k'' z]).run P w = .ok (.int k (min (min x y) z)) w := by
  have e : ∀ a b : Int, (if b < a then b else a) = min a b := fun a b => by
    rw [Int.min_def]
    split <;> split <;> omega
  simp [Builtin.min_, Builtin.min2, e]
/-- The numbers below k of a kind. -/
def fk (p : Nat → Bool) (k : Nat) : List Int := ((List.range k).filter p).map Int.ofNat
theorem fk_yes {p : Nat → Bool} {k : Nat} (h : p k = true) : fk p (k + 1) = fk p k ++ [(k : Int)] := by
  unfold fk
  rw [List.range_succ, List.filter_append, List.map_append]
  simp only [List.filter_cons, List.filter_nil, h, if_true, List.map_cons, List.map_nil]
  rfl
theorem fk_no {p : Nat → Bool} {k : Nat} (h : p k = false) : fk p (k + 1) = fk p k := by
  unfold fk
  rw [List.range_succ, List.filter_append, List.map_append]
  simp only [List.filter_cons, List.filter_nil, h, Bool.false_eq_true, if_false, List.map_nil, List.append_nil]
theorem fk_len (p : Nat → Bool) (k : Nat) : (fk p k).length ≤ k := by
  unfold fk
  rw [List.length_map]
  exact Nat.le_trans (List.length_filter_le _ _) (by simp)
theorem fk_mem {p : Nat → Bool} {k : Nat} {x : Int} (h : x ∈ fk p k) : ∃ i : Nat, x = (i : Int) ∧ i < k ∧ p i = true := by
  unfold fk at h
  obtain ⟨i, hi, rfl⟩ := List.mem_map.1 h
  obtain ⟨h1, h2⟩ := List.mem_filter.1 hi
  exact ⟨i, rfl, by simpa using h1, h2⟩
theorem ftk_yes {l : List Int} {p : Int → Bool} {k : Nat} (hk : k < l.length) (h : p (l.getD k 0) = true) : (l.take (k + 1)).filter p = (l.take k).filter p ++ [l.getD k 0] := by
  have e : l.getD k 0 = l[k] := by simp [List.getD, hk]
  rw [e] at h ⊢
  rw [List.take_succ_eq_append_getElem hk, List.filter_append]
  simp [List.filter_cons, h]
theorem ftk_no {l : List Int} {p : Int → Bool} {k : Nat} (hk : k < l.length) (h : p (l.getD k 0) = false) : (l.take (k + 1)).filter p = (l.take k).filter p := by
  have e : l.getD k 0 = l[k] := by simp [List.getD, hk]
  rw [e] at h
  rw [List.take_succ_eq_append_getElem hk, List.filter_append]
  simp [List.filter_cons, h]
theorem getD_mem {l : List Int} {k : Nat} (hk : k < l.length) : l.getD k 0 ∈ l := by
  have e : l.getD k 0 = l[k] := by simp [List.getD, hk]
  rw [e]; exact List.getElem_mem hk
def notB (h : List Bool) (i : Nat) : Bool := decide (i < h.length) && h.getD i false
def pndB (e : En) (h : List Bool) (i : Nat) : Bool := decide (1 ≤ e.bd.getD i 0) && !e.dn.getD i false && !notB h i
/-- The tasks that are pending; those of a worker. -/
def pndL (e : En) (h : List Bool) : List Int := fk (pndB e h) (min e.ns.length (min e.bd.length e.dn.length))
def pndW (e : En) (h : List Bool) (w : Int) : List Int := (pndL e h).filter fun i => e.bd.getD i.toNat 0 - 1 == w
theorem pnd_mem {e : En} {h : List Bool} {x : Int} (hx : x ∈ pndL e h) : ∃ i : Nat, x = (i : Int) ∧ i < e.ns.length ∧ i < e.bd.length ∧ i < e.dn.length ∧ 1 ≤ e.bd.getD i 0 ∧ e.dn.getD i false = false ∧ notB h i = false := by
  obtain ⟨i, rfl, h1, h2⟩ := fk_mem hx
  unfold pndB at h2
  simp only [Bool.and_eq_true, decide_eq_true_eq, Bool.not_eq_true'] at h2
  exact ⟨i, rfl, by omega, by omega, by omega, h2.1.1, h2.1.2, h2.2⟩
def HadAt (w : World) (H : Option Addr) (hc : Nat) (h : List Bool) : Prop := Sl w 1 H h.length hc (blcells h)
def BdOk (e : En) : Prop := ∀ i, 0 ≤ e.bd.getD i 0 ∧ e.bd.getD i 0 ≤ 64

set_option maxRecDepth 20000 in
theorem bnd_any (e : Ee) (i : Nat) (W : World) (h : InE W e) (hi : i < e.1.bd.length) (hr : 0 ≤ e.1.bd.getD i 0 ∧ e.1.bd.getD i 0 ≤ 64) :
    Calls Try.prog 81 #[.agg (ecE e), .int .i64 (i : Int)] W fun x w' => x = .returned (.tuple #[.int .i64 (if 1 ≤ e.1.bd.getD i 0 then e.1.bd.getD i 0 - 1 else 0), .bool (decide (1 ≤ e.1.bd.getD i 0))]) ∧ RowKit.Below W.heap.size W w' := by
  obtain ⟨⟨id, sc, ee, ms, bd, dn⟩, ⟨A1, ca, P, cb, D, cd⟩⟩ := e
  simp only [ecE]
  simp only at hi hr
  have sP := h.2.1
  simp only at sP
  have hl := sl_len64 sP
  obtain ⟨bP, oP, hP9, _⟩ := sP.2.2.2 (by rw [icells_length]; omega)
  rw [hP9] at sP
  have cP := Sl.cell sP i hi
  have HP9 := hid hP9
  clear hP9
  have i0 : ¬ (i : Int) < 0 := by omega
  have hi2 : (i : Int) < (bd.length : Int) := by omega
  clear sP h
  generalize bd.getD i 0 = z at *
  generalize hv1 : (if 1 ≤ z then z - 1 else 0) = v1
  generalize hv2 : decide (1 ≤ z) = v2
  have HV1 := hid hv1
  have HV2 := hid hv2
  clear hv1 hv2
  go_enter Try.func81, Try.ntmps81
  go_upto_region 1 with (fail)
  refine at_world (fun u => u.heap[W.heap.size]? = some (.cells #[.int .i64 id, .int .i64 sc, .int .i64 ee, .slice A1 ms.length ca, .slice P bd.length cb, .slice D dn.length cd] 55 (0, 0)) ∧ RowKit.Below W.heap.size W u) ⟨heap_alloc_new _ _, (RowKit.Below.refl _ _).alloc (Nat.le_refl _) _⟩ ?_
  rintro w1 ⟨hx1, hb1⟩
  have HX1 := hid hx1
  have HB1 := hid hb1
  have cP1 := cellb hb1 cP
  obtain ⟨⟨p0, p1, p2, p3, p4, p5⟩, _⟩ := six_cells hx1
  rw [HP9.out] at p4
  clear hx1 hb1 cP
  by_cases hz : z < 1
  · have g1 : ¬ 1 ≤ z := by omega
    obtain rfl : v1 = 0 := by rw [← HV1.out, if_neg g1]
    obtain rfl : v2 = false := by rw [← HV2.out, decide_eq_false g1]
    clear HV1 HV2
    go_wp2
    exact bodyPost_ret (v := .tuple #[.int .i64 0, .bool false]) (by simp [results, Try.results81, go_sem]) rfl ⟨rfl, HB1.out⟩
  · have g1 : 1 ≤ z := by omega
    have hw : IntKind.i64.wrap (z - 1) = z - 1 := by
      simp [IntKind.wrap, IntKind.bits, IntKind.signed]
      omega
    obtain rfl : v1 = z - 1 := by rw [← HV1.out, if_pos g1]
    obtain rfl : v2 = true := by rw [← HV2.out, decide_eq_true g1]
    clear g1 HV1 HV2
    go_wp2
    exact bodyPost_ret (v := .tuple #[.int .i64 (z - 1), .bool true]) (by simp [results, Try.results81, go_sem, hw]) rfl ⟨rfl, HB1.out⟩

set_option maxRecDepth 20000 in
theorem noted_any (H : Option Addr) (hc : Nat) (h : List Bool) (i : Nat) (W : World) (hh : HadAt W H hc h) :
    Calls Try.prog 117 #[.slice H h.length hc, .int .i64 (i : Int)] W fun x w' => x = .returned (.bool (notB h i)) ∧ W = w' := by
  have hl := sl_len64 hh
  have i0 : ¬ (i : Int) < 0 := by omega
  by_cases hlt : i < h.length
  · have hlt2 : (i : Int) < (h.length : Int) := by omega
    have e : notB h i = h.getD i false := by unfold notB; rw [decide_eq_true hlt, Bool.true_and]
    rw [e]
    obtain ⟨bH, oH, rfl, _⟩ := hh.2.2.2 (by rw [blcells_length]; omega)
    have cH := Sl.blcell hh i hlt
    clear e hh
    generalize h.getD i false = z at *
    go_enter Try.func117, Try.ntmps117
    go_wp2
    go_ret
    exact ⟨rfl, rfl⟩
  · have hlt2 : ¬ (i : Int) < (h.length : Int) := by omega
    have e : notB h i = false := by unfold notB; rw [decide_eq_false hlt, Bool.false_and]
    rw [e]
    clear e hh
    go_enter Try.func117, Try.ntmps117
    go_wp2
    go_ret
    exact ⟨rfl, rfl⟩

set_option maxRecDepth 20000 in
set_option maxHeartbeats 4000000 in
theorem pending_any (e : Ee) (H : Option Addr) (hc : Nat) (h : List Bool) (W : World) (hE : InE W e) (hh : HadAt W H hc h) (hbd : BdOk e.1) (hl : e.1.ns.length ≤ 100000 ∧ e.1.bd.length ≤ 100000 ∧ e.1.dn.length ≤ 100000) :
    Calls Try.prog 80 #[.agg (ecE e), .slice H h.length hc] W fun x w' => ∃ A' c', x = .returned (.slice A' (pndL e.1 h).length c') ∧ Sl w' 1 A' (pndL e.1 h).length c' (icells .i64 (pndL e.1 h)) ∧ RowKit.Below W.heap.size W w' := by
  have HBN := hid (fun u (hu : RowKit.Below W.heap.size W u) i (hi : i < e.1.bd.length) => bnd_any e i u (hE.below hu) hi (hbd i))
  have HNT := hid (fun u (hu : RowKit.Below W.heap.size W u) i => noted_any H hc h i u (Sl.below hh hu))
  have HD := hid hE.2.2
  obtain ⟨⟨id, sc, ee, ms, bd, dn⟩, ⟨A1, ca, P, cb, D, cd⟩⟩ := e
  obtain ⟨l1, l2, l3⟩ := hl
  simp only at l1 l2 l3 HBN HD
  clear hE hh hbd
  simp only [ecE] at *
  obtain ⟨m, hm⟩ : ∃ m, min ms.length (min bd.length dn.length) = m := ⟨_, rfl⟩
  have hv : pndL ⟨id, sc, ee, ms, bd, dn⟩ h = fk (pndB ⟨id, sc, ee, ms, bd, dn⟩ h) m := by rw [← hm]; rfl
  rw [hv]
  have HY := hid (fun k (h9 : pndB ⟨id, sc, ee, ms, bd, dn⟩ h k = true) => fk_yes h9)
  have HN := hid (fun k (h9 : pndB ⟨id, sc, ee, ms, bd, dn⟩ h k = false) => fk_no h9)
  have HP := hid (fun k => show pndB ⟨id, sc, ee, ms, bd, dn⟩ h k = (decide (1 ≤ bd.getD k 0) && !dn.getD k false && !notB h k) from rfl)
  have m1 : m ≤ ms.length := by omega
  have m2 : m ≤ bd.length := by omega
  have m3 : m ≤ dn.length := by omega
  have hmin : min (min (ms.length : Int) (bd.length : Int)) (dn.length : Int) = (m : Int) := by omega
  have hmin2 : min (ms.length : Int) (min (bd.length : Int) (dn.length : Int)) = (m : Int) := by omega
  clear hm hv
  generalize pndB ⟨id, sc, ee, ms, bd, dn⟩ h = pB at *
  generalize h.length = hn at *
  go_enter Try.func80, Try.ntmps80
  go_upto_region 1 with (fail)
  refine at_world (fun u => u.heap[W.heap.size]? = some (.cells #[.int .i64 id, .int .i64 sc, .int .i64 ee, .slice A1 ms.length ca, .slice P bd.length cb, .slice D dn.length cd] 55 (0, 0)) ∧ RowKit.Below W.heap.size W u) ⟨heap_alloc_new _ _, (RowKit.Below.refl _ _).alloc (Nat.le_refl _) _⟩ ?_
  rintro w1 ⟨hx1, hb1⟩
  have HX1 := hid hx1
  have HB1 := hid hb1
  have hWl := lt_of_block hx1
  obtain ⟨⟨p0, p1, p2, p3, p4, p5⟩, _⟩ := six_cells hx1
  clear hx1 hb1
  go_wp2
  clear p0 p1 p2 p3 p4 p5
  go_loopw [5, 6, 7, 8, 19] (fun v _ _ _ i wr => ∃ (n : Nat) (A' : Option Addr) (c' : Nat) (L : List Int), n ≤ m ∧ i = .int .i64 (n : Int) ∧ v = .slice A' L.length c' ∧ Hid (L = fk pB n ∧ wr.ownsRow w1.heap.size 3 1 (.slice A' L.length c') L.length (icells .i64 L)) ∧ Hid (RowKit.Below w1.heap.size w1 wr)) (fun _ _ _ _ i _ => m - (intOf i).toNat)
  case atStart => exact ⟨0, none, 0, [], by omega, rfl, rfl, ⟨rfl, World.ownsRow_nil _ _ _ _⟩, RowKit.Below.refl _ _⟩
  case round =>
    obtain ⟨n, A', c', L, hn9, rfl, rfl, HO, HB⟩ := hrel
    have hLn : L.length ≤ n := by rw [HO.out.1]; exact fk_len _ _
    have HB2 := HB.out
    have HX2 := hid (keep0 HX1.out HB.out)
    obtain ⟨⟨p0, p1, p2, p3, p4, p5⟩, _⟩ := six_cells HX2.out
    by_cases hlt : n < m
    · have hlt2 : (n : Int) < (m : Int) := by omega
      have hlt4 : (n : Int) < (dn.length : Int) := by omega
      have i0 : ¬ (n : Int) < 0 := by omega
      have hwn := wrap_succ n (by omega)
      have sD := (HD.out.below HB1.out).below HB2
      obtain ⟨bD, oD, hD9, _⟩ := sD.2.2.2 (by rw [blcells_length]; omega)
      rw [hD9] at sD
      have HD9 := hid hD9
      have HcD := hid (Sl.blcell sD n (by omega))
      clear sD hD9
      have HBN2 := hid (HBN.out wr (HB1.out.trans (HB.out.mono HB1.out.size)) n (by omega))
      have HYY := hid (fun (h9 : pB n = true) => show L ++ [(n : Int)] = fk pB (n + 1) by rw [HO.out.1, HY.out n h9])
      have HNN := hid (fun (h9 : pB n = false) => show L = fk pB (n + 1) by rw [HO.out.1, HN.out n h9])
      rw [HP.out n] at HYY HNN
      have HOW := hid HO.out.2
      have HNT2 := hid (fun u hu => HNT.out u hu n)
      clear HO HB2
      generalize bd.getD n 0 = z at *
      generalize dn.getD n false = b2 at *
      generalize notB h n = b3 at *
      go_wp2_with fail
      refine HBN2.out.mono ?_
      rintro e w2 ⟨rfl, hb⟩
      clear HBN2 p0 p1 p2 p3 p4 p5
      have HB3 := hid (HB.out.trans (hb.mono HB.out.size))
      have HX3 := hid (keep0 HX2.out hb)
      have HOW3 := hid (own_keep HOW.out hb)
      have cD := cellb hb HcD.out
      have HBW := hid (HB1.out.trans (HB3.out.mono HB1.out.size))
      obtain ⟨⟨p0, p1, p2, p3, p4, p5⟩, _⟩ := six_cells HX3.out
      rw [HD9.out] at p5
      clear hb HX2 HOW HcD HD9
      by_cases hz : 1 ≤ z
      · simp only [if_pos hz, decide_eq_true hz] at *
        cases b2 with
        | true =>
          have HE := hid (HNN.out (by simp))
          clear HYY HNN
          go_wp2
          go_roundw
          case rel => exact ⟨n + 1, A', c', L, by omega, by go_num, rfl, hid ⟨HE.out, HOW3.out⟩, HB3⟩
          case measure => simp [intOf]; omega
        | false =>
          go_wp2_with fail
          refine (HNT2.out _ HBW.out).mono ?_
          rintro e w3 ⟨rfl, rfl⟩
          cases b3 with
          | true =>
            have HE := hid (HNN.out (by simp))
            clear HYY HNN
            go_wp2
            go_roundw
            case rel => exact ⟨n + 1, A', c', L, by omega, by go_num, rfl, hid ⟨HE.out, HOW3.out⟩, HB3⟩
            case measure => simp [intOf]; omega
          | false =>
            have HE := hid (HYY.out (by simp))
            clear HYY HNN
            go_wp2_with (at_builtin; refine wpList_append_1 (W := w1) rfl (.tmp 43) (.tmp 45) 52 rfl w1.heap.size 3 Try.underlying52 info_int rfl (by omega) rfl HOW3.out rfl (by rfl) (by simp [Value.oneCell']) ?e1 ?e2 HB3.out.size HB3.out ?_)
            case e1 => unfold maxLen; omega
            case e2 => omega
            intro v3 w3 ho3 hb3 _
            obtain ⟨A3, c3, rfl, _⟩ := Sl.of_own ho3
            have HO3 : Hid (L ++ [(n : Int)] = fk pB (n + 1) ∧ w3.ownsRow w1.heap.size 3 1 (.slice A3 (L ++ [(n : Int)]).length c3) (L ++ [(n : Int)]).length (icells .i64 (L ++ [(n : Int)]))) := hid ⟨HE.out, by rw [List.length_append, icells_append]; exact ho3⟩
            have HB4 := hid hb3
            have hL2 : L.length + 1 = (L ++ [(n : Int)]).length := by simp
            rw [hL2]
            clear ho3 hb3 HOW3 HE p0 p1 p2 p3 p4 p5 cD hL2 HB3 HB
            generalize L ++ [(n : Int)] = L2 at *
            go_wp2
            go_roundw
            case rel => exact ⟨n + 1, A3, c3, L2, by omega, by go_num, rfl, HO3, HB4⟩
            case measure => simp [intOf]; omega
      · simp only [if_neg hz, decide_eq_false hz] at *
        have HE := hid (HNN.out (by simp))
        clear HYY HNN
        go_wp2
        go_roundw
        case rel => exact ⟨n + 1, A', c', L, by omega, by go_num, rfl, hid ⟨HE.out, HOW3.out⟩, HB3⟩
        case measure => simp [intOf]; omega
    · have hge : ¬ (n : Int) < (m : Int) := by omega
      obtain rfl : n = m := by omega
      go_wp2
      go_ret
      exact ⟨A', c', by rw [← HO.out.1]; rfl, by rw [← HO.out.1]; exact sl_own HO.out.2, HB1.out.trans (HB.out.mono HB1.out.size)⟩

set_option maxRecDepth 20000 in
set_option maxHeartbeats 4000000 in
theorem pendw_any (e : Ee) (wk : Int) (H : Option Addr) (hc : Nat) (h : List Bool) (W : World) (hE : InE W e) (hh : HadAt W H hc h) (hbd : BdOk e.1) (hl : e.1.ns.length ≤ 100000 ∧ e.1.bd.length ≤ 100000 ∧ e.1.dn.length ≤ 100000) :
    Calls Try.prog 42 #[.agg (ecE e), .int .i64 wk, .slice H h.length hc] W fun x w' => ∃ A' c', x = .returned (.slice A' (pndW e.1 h wk).length c') ∧ Sl w' 1 A' (pndW e.1 h wk).length c' (icells .i64 (pndW e.1 h wk)) ∧ RowKit.Below W.heap.size W w' := by
  have HPN := hid (fun u (hu : RowKit.Below W.heap.size W u) => pending_any e H hc h u (hE.below hu) (Sl.below hh hu) hbd hl)
  have HM := hid (fun x (hx : x ∈ pndL e.1 h) => pnd_mem hx)
  have hll : (pndL e.1 h).length ≤ 100000 := Nat.le_trans (fk_len _ _) (by omega)
  have HBN := hid (fun u (hu : RowKit.Below W.heap.size W u) (i : Nat) (hi : i < e.1.bd.length) (h1 : 1 ≤ e.1.bd.getD i 0) => show Calls Try.prog 81 #[.agg (ecE e), .int .i64 (i : Int)] u fun x w' => x = .returned (.tuple #[.int .i64 (e.1.bd.getD i 0 - 1), .bool true]) ∧ RowKit.Below u.heap.size u w' by
    have h9 := bnd_any e i u (hE.below hu) hi (hbd i)
    rw [if_pos h1, decide_eq_true h1] at h9
    exact h9)
  have hv : pndW e.1 h wk = (pndL e.1 h).filter (fun i => e.1.bd.getD i.toNat 0 - 1 == wk) := rfl
  rw [hv]
  obtain ⟨⟨id, sc, ee, ms, bd, dn⟩, ⟨A1, ca, P, cb, D, cd⟩⟩ := e
  simp only at HPN HM HBN hll ⊢
  clear hE hh hbd hl hv
  simp only [ecE] at *
  generalize pndL ⟨id, sc, ee, ms, bd, dn⟩ h = L0 at *
  generalize hpq : (fun i : Int => bd.getD i.toNat 0 - 1 == wk) = pB at *
  have HP : Hid (∀ i : Nat, pB (i : Int) = (bd.getD i 0 - 1 == wk)) := hid (by rw [← hpq]; intro i; rfl)
  clear hpq
  have HY := hid (fun k (hk : k < L0.length) (h9 : pB (L0.getD k 0) = true) => ftk_yes hk h9)
  have HN := hid (fun k (hk : k < L0.length) (h9 : pB (L0.getD k 0) = false) => ftk_no hk h9)
  have HGM := hid (fun k (hk : k < L0.length) => HM.out _ (getD_mem hk))
  have HFL := hid (fun k => show ((L0.take k).filter pB).length ≤ k from Nat.le_trans (List.length_filter_le _ _) (by rw [List.length_take]; omega))
  generalize h.length = hn at *
  go_enter Try.func42, Try.ntmps42
  go_upto_region 1 with (fail)
  refine at_world (fun u => u.heap[W.heap.size]? = some (.cells #[.int .i64 id, .int .i64 sc, .int .i64 ee, .slice A1 ms.length ca, .slice P bd.length cb, .slice D dn.length cd] 55 (0, 0)) ∧ RowKit.Below W.heap.size W u) ⟨heap_alloc_new _ _, (RowKit.Below.refl _ _).alloc (Nat.le_refl _) _⟩ ?_
  rintro w1 ⟨hx1, hb1⟩
  have HX1 := hid hx1
  have HB1 := hid hb1
  have hWl := lt_of_block hx1
  obtain ⟨⟨p0, p1, p2, p3, p4, p5⟩, _⟩ := six_cells hx1
  clear hx1 hb1
  go_wp2_with fail
  refine (HPN.out _ HB1.out).mono ?_
  rintro e w2 ⟨A2, c2, rfl, hs2, hb2⟩
  have HS2 := hid hs2
  have HX2 := hid (keep0 HX1.out hb2)
  have HB3 := hid (HB1.out.trans (hb2.mono HB1.out.size))
  clear hs2 hb2 p0 p1 p2 p3 p4 p5 HPN HX1 HB1 hWl HM
  generalize hm : L0.length = m at *
  have HLM := hid hm
  clear hm
  go_wp2
  go_loopw [7, 9, 10, 11, 16] (fun v _ _ _ i wr => ∃ (n : Nat) (A' : Option Addr) (c' : Nat) (L : List Int), n ≤ m ∧ i = .int .i64 (n : Int) ∧ v = .slice A' L.length c' ∧ Hid (L = (L0.take n).filter pB ∧ wr.ownsRow w2.heap.size 3 1 (.slice A' L.length c') L.length (icells .i64 L)) ∧ Hid (RowKit.Below w2.heap.size w2 wr)) (fun _ _ _ _ i _ => m - (intOf i).toNat)
  case atStart => exact ⟨0, none, 0, [], by omega, rfl, rfl, ⟨rfl, World.ownsRow_nil _ _ _ _⟩, RowKit.Below.refl _ _⟩
  case round =>
    obtain ⟨n, A', c', L, hn9, rfl, rfl, HO, HB⟩ := hrel
    have hLn : L.length ≤ n := by rw [HO.out.1]; exact HFL.out n
    have HXr := hid (keep0 HX2.out HB.out)
    by_cases hlt : n < m
    · have hlt2 : (n : Int) < (m : Int) := by omega
      have i0 : ¬ (n : Int) < 0 := by omega
      have hwn := wrap_succ n (by omega)
      have hkl : n < L0.length := by rw [HLM.out]; exact hlt
      have sL := HS2.out.below HB.out
      obtain ⟨bL, oL, hL9, _⟩ := sL.2.2.2 (by rw [icells_length]; omega)
      subst hL9
      have HcL := hid (Sl.cell sL n hkl)
      clear sL
      obtain ⟨j, hj, j1, j2, j3, j4, _⟩ := HGM.out n hlt
      have HYY := hid (fun (h9 : pB (L0.getD n 0) = true) => show L ++ [L0.getD n 0] = (L0.take (n + 1)).filter pB by rw [HO.out.1, HY.out n hlt h9])
      have HNN := hid (fun (h9 : pB (L0.getD n 0) = false) => show L = (L0.take (n + 1)).filter pB by rw [HO.out.1, HN.out n hlt h9])
      have HBN2 := hid (fun u hu => HBN.out u hu j j2 j4)
      rw [hj, HP.out j] at HYY HNN
      rw [hj] at HcL
      have cL := HcL.out
      clear hj hkl HcL
      have HOW := hid HO.out.2
      clear HO j1 j3 j4
      generalize bd.getD j 0 = z at *
      obtain ⟨⟨p0, p1, p2, p3, p4, p5⟩, _⟩ := six_cells HXr.out
      go_wp2_with fail
      refine (HBN2.out _ (HB3.out.trans (HB.out.mono HB3.out.size))).mono ?_
      rintro e w3 ⟨rfl, hb⟩
      clear HBN2 p0 p1 p2 p3 p4 p5 cL
      have HB4 := hid (HB.out.trans (hb.mono HB.out.size))
      have HOW4 := hid (own_keep HOW.out hb)
      clear hb HOW HXr
      by_cases hz : z - 1 = wk
      · have hz2 : (z - 1 == wk) = true := by simpa using hz
        have HE := hid (HYY.out hz2)
        clear HYY HNN hz
        go_wp2_with (at_builtin; refine wpList_append_1 (W := w2) rfl (.tmp 29) (.tmp 31) 52 rfl w2.heap.size 3 Try.underlying52 info_int rfl (by omega) rfl HOW4.out rfl (by rfl) (by simp [Value.oneCell']) ?e1 ?e2 HB4.out.size HB4.out ?_)
        case e1 => unfold maxLen; omega
        case e2 => omega
        intro v3 w3 ho3 hb3 _
        obtain ⟨A3, c3, rfl, _⟩ := Sl.of_own ho3
        have HO3 : Hid (L ++ [(j : Int)] = (L0.take (n + 1)).filter pB ∧ w3.ownsRow w2.heap.size 3 1 (.slice A3 (L ++ [(j : Int)]).length c3) (L ++ [(j : Int)]).length (icells .i64 (L ++ [(j : Int)]))) := hid ⟨HE.out, by rw [List.length_append, icells_append]; exact ho3⟩
        have HB5 := hid hb3
        have hL2 : L.length + 1 = (L ++ [(j : Int)]).length := by simp
        rw [hL2]
        clear ho3 hb3 HOW4 HE hL2 HB4 HB hz2
        generalize L ++ [(j : Int)] = L2 at *
        go_wp2
        go_roundw
        case rel => exact ⟨n + 1, A3, c3, L2, by omega, by go_num, rfl, HO3, HB5⟩
        case measure => simp [intOf]; omega
      · have hz2 : (z - 1 == wk) = false := by simpa using hz
        have HE := hid (HNN.out hz2)
        clear HYY HNN hz
        go_wp2
        go_roundw
        case rel => exact ⟨n + 1, A', c', L, by omega, by go_num, rfl, hid ⟨HE.out, HOW4.out⟩, HB4⟩
        case measure => simp [intOf]; omega
    · have hge : ¬ (n : Int) < (m : Int) := by omega
      obtain rfl : n = m := by omega
      go_wp2
      go_ret
      have hLL := HO.out.1
      rw [← HLM.out, List.take_length] at hLL
      obtain rfl := hLL
      exact ⟨A', c', rfl, sl_own HO.out.2, HB3.out.trans (HB.out.mono HB3.out.size)⟩

set_option maxRecDepth 20000 in
set_option maxHeartbeats 4000000 in
theorem admit_any (x : Cf) (N : Option Addr) (nc : Nat) (K : Option Addr) (kc : Nat) (e : Ee) (wk : Int) (i : Nat) (W : World) (hC : CfAt W x N nc K kc) (hE : InE W e) (hi : i < e.1.ns.length) (hs : ∀ s ∈ e.1.ns, s.length ≤ 1000) (hw : x.ws.length ≤ 1000) :
    Calls Try.prog 78 #[.agg (cfc x N nc K kc), .agg (ecE e), .int .i64 wk, .int .i64 (i : Int)] W fun q w' => q = .returned (.bool (hasS (setJ x.T x.ws (e.1.ns.getD i [])) wk)) ∧ RowKit.Below W.heap.size W w' := by
  have hgd : e.1.ns.getD i [] = e.1.ns[i] := by simp [List.getD, hi]
  rw [hgd]
  have HJ := hid (fun u (hu : RowKit.Below W.heap.size W u) => jset_any x N nc K kc e.1.ns[i] u (hC.below hu) (hs _ (List.getElem_mem hi)) hw)
  have HHS := hid (fun u => has_any (setJ x.T x.ws e.1.ns[i]) wk u (setJ_lt _ _ _))
  obtain ⟨b, off, hA, ct⟩ := text_at hE.1 i hi
  have hl := sl_len64 hE.1.1
  obtain ⟨⟨id, scE, ee, ms, bd, dn⟩, ⟨A1, ca, P, cb, D, cd⟩⟩ := e
  obtain ⟨sc, le, ag, ro, ou, T, ws⟩ := x
  simp only at hi hA ct hl HJ HHS ⊢
  simp only [ecE, cfc] at *
  subst hA
  clear hC hE hs hw hgd
  have i0 : ¬ (i : Int) < 0 := by omega
  have hi2 : (i : Int) < (ms.length : Int) := by omega
  generalize ms[i] = l at *
  generalize str l = st at *
  generalize setJ T ws l = sj at *
  generalize hasS sj wk = r at *
  go_enter Try.func78, Try.ntmps78
  go_upto_region 1 with (fail)
  refine at_world (fun u => u.heap[W.heap.size]? = some (.cells #[.int .i64 sc, .int .i64 le, .int .i64 ag, .int .i64 ro, .int .i64 ou, .slice N T.length nc, .slice K ws.length kc] 25 (0, 0)) ∧ u.heap[W.heap.size + 1]? = some (.cells #[.int .i64 id, .int .i64 scE, .int .i64 ee, .slice (some ⟨b, off, none⟩) ms.length ca, .slice P bd.length cb, .slice D dn.length cd] 55 (0, 0)) ∧ RowKit.Below W.heap.size W u) ⟨(Below.heap_alloc _ _ _ (by simp)).trans (heap_alloc_new _ _), by have := heap_alloc_new (W.alloc (.cells #[.int .i64 sc, .int .i64 le, .int .i64 ag, .int .i64 ro, .int .i64 ou, .slice N T.length nc, .slice K ws.length kc] 25)) (.cells #[.int .i64 id, .int .i64 scE, .int .i64 ee, .slice (some ⟨b, off, none⟩) ms.length ca, .slice P bd.length cb, .slice D dn.length cd] 55); simpa using this, bel_alloc (bel_alloc (RowKit.Below.refl _ _) _) _⟩ ?_
  rintro w1 ⟨hq, hj, hb⟩
  have ct1 := cellb hb ct
  have HB := hid hb
  have HQ := hid hq
  have HJJ := hid hj
  clear hq hj hb ct
  generalize W.heap.size + 1 = J at *
  generalize hQ : W.heap.size = Q at HQ
  clear hQ
  have hSU : ∀ U, RowKit.Below w1.heap.size w1 U → ((U.cell? ⟨Q, 0, none⟩ = some (.int .i64 sc) ∧ U.cell? ⟨Q, 1, none⟩ = some (.int .i64 le) ∧ U.cell? ⟨Q, 2, none⟩ = some (.int .i64 ag) ∧ U.cell? ⟨Q, 3, none⟩ = some (.int .i64 ro) ∧ U.cell? ⟨Q, 4, none⟩ = some (.int .i64 ou) ∧ U.cell? ⟨Q, 5, none⟩ = some (.slice N T.length nc) ∧ U.cell? ⟨Q, 6, none⟩ = some (.slice K ws.length kc)) ∧ U.cell? ⟨J, 3, none⟩ = some (.slice (some ⟨b, off, none⟩) ms.length ca) ∧ U.cell? ⟨b, off + i, none⟩ = some (.string st)) := fun U hU => ⟨seven_cellsJ (keep0 HQ.out hU), (six_cells (keep0 HJJ.out hU)).1.2.2.2.1, cellb hU ct1⟩
  have hk0 : RowKit.Below w1.heap.size w1 w1.drew := below_drew (RowKit.Below.refl _ _)
  refine wp_region_held_drew (S := fun U => (U.cell? ⟨Q, 0, none⟩ = some (.int .i64 sc) ∧ U.cell? ⟨Q, 1, none⟩ = some (.int .i64 le) ∧ U.cell? ⟨Q, 2, none⟩ = some (.int .i64 ag) ∧ U.cell? ⟨Q, 3, none⟩ = some (.int .i64 ro) ∧ U.cell? ⟨Q, 4, none⟩ = some (.int .i64 ou) ∧ U.cell? ⟨Q, 5, none⟩ = some (.slice N T.length nc) ∧ U.cell? ⟨Q, 6, none⟩ = some (.slice K ws.length kc)) ∧ U.cell? ⟨J, 3, none⟩ = some (.slice (some ⟨b, off, none⟩) ms.length ca) ∧ U.cell? ⟨b, off + i, none⟩ = some (.string st)) (by kernel_rfl) (hSU _ hk0) (fun hHeld => ?_)
  generalize w1.drew = k0 at *
  refine wpAnyH_take (i := 0) (v := ?_) rfl (by kernel_rfl) (by kernel_rfl) (by kernel_rfl) (fun _ _ _ h => h) (Or.inl ⟨by rfl, ?_⟩) (by assumption) ?_
  rotate_left
  focus
    intro U hU
    try dsimp only at hU
    go_simp
    try (with_reducible rfl)
  simp only [List.getElem_toArray, List.getElem_cons_succ, List.getElem_cons_zero, Act.put, List.setIfInBounds_toArray, List.set_cons_zero, List.set_cons_succ]
  refine wpAnyH_take (i := 1) (v := ?_) rfl (by kernel_rfl) (by kernel_rfl) (by kernel_rfl) (fun _ _ _ h => h) (Or.inl ⟨by rfl, ?_⟩) (by assumption) ?_
  rotate_left
  focus
    intro U hU
    try dsimp only at hU
    go_simp
    try (with_reducible rfl)
  simp only [List.getElem_toArray, List.getElem_cons_succ, List.getElem_cons_zero, Act.put, List.setIfInBounds_toArray, List.set_cons_zero, List.set_cons_succ]
  refine wpAnyH_take (i := 2) (v := ?_) rfl (by kernel_rfl) (by kernel_rfl) (by kernel_rfl) (fun _ _ _ h => h) (Or.inl ⟨by rfl, ?_⟩) (by assumption) ?_
  rotate_left
  focus
    intro U hU
    try dsimp only at hU
    go_simp
    try (with_reducible rfl)
  simp only [List.getElem_toArray, List.getElem_cons_succ, List.getElem_cons_zero, Act.put, List.setIfInBounds_toArray, List.set_cons_zero, List.set_cons_succ]
  refine wpAnyH_take (i := 3) (v := ?_) rfl (by kernel_rfl) (by kernel_rfl) (by kernel_rfl) (fun _ _ _ h => h) (Or.inl ⟨by rfl, ?_⟩) (by assumption) ?_
  rotate_left
  focus
    intro U hU
    try dsimp only at hU
    go_simp
    try (with_reducible rfl)
  simp only [List.getElem_toArray, List.getElem_cons_succ, List.getElem_cons_zero, Act.put, List.setIfInBounds_toArray, List.set_cons_zero, List.set_cons_succ]
  refine wpAnyH_take (i := 4) (v := ?_) rfl (by kernel_rfl) (by kernel_rfl) (by kernel_rfl) (fun _ _ _ h => h) (Or.inl ⟨by rfl, ?_⟩) (by assumption) ?_
  rotate_left
  focus
    intro U hU
    try dsimp only at hU
    go_simp
    try (with_reducible rfl)
  simp only [List.getElem_toArray, List.getElem_cons_succ, List.getElem_cons_zero, Act.put, List.setIfInBounds_toArray, List.set_cons_zero, List.set_cons_succ]
  refine wpAnyH_take (i := 5) (v := ?_) rfl (by kernel_rfl) (by kernel_rfl) (by kernel_rfl) (fun _ _ _ h => h) (Or.inl ⟨by rfl, ?_⟩) (by assumption) ?_
  rotate_left
  focus
    intro U hU
    try dsimp only at hU
    go_simp
    try (with_reducible rfl)
  simp only [List.getElem_toArray, List.getElem_cons_succ, List.getElem_cons_zero, Act.put, List.setIfInBounds_toArray, List.set_cons_zero, List.set_cons_succ]
  refine wpAnyH_take (i := 7) (v := ?_) rfl (by kernel_rfl) (by kernel_rfl) (by kernel_rfl) (fun _ _ _ h => h) (Or.inl ⟨by rfl, ?_⟩) (by assumption) ?_
  rotate_left
  focus
    intro U hU
    try dsimp only at hU
    go_simp
    try (with_reducible rfl)
  simp only [List.getElem_toArray, List.getElem_cons_succ, List.getElem_cons_zero, Act.put, List.setIfInBounds_toArray, List.set_cons_zero, List.set_cons_succ]
  refine wpAnyH_ready (rs := [6]) (by kernel_rfl) (by simp) ?_
  refine AllReadyH.cons rfl (fun K hK => ?_) AllReadyH.nil
  simp only [List.getElem_toArray, List.getElem_cons_succ, List.getElem_cons_zero]
  go_simp
  refine (HJ.out k0 (HB.out.trans (hk0.mono HB.out.size))).mono ?_
  rintro q k1 ⟨rfl, hb1⟩
  have hk1 := hk0.trans (hb1.mono hk0.size)
  clear hb1
  go_wp2_with fail
  refine hK.out _ _ ?_ (fun hHeld2 => ?_)
  focus
    exact hSU _ hk1
  clear hHeld
  have hHeld := hHeld2
  clear hHeld2 hK K
  try simp only [List.getElem_toArray, List.getElem_cons_succ, List.getElem_cons_zero, Act.put, List.setIfInBounds_toArray, List.set_cons_zero, List.set_cons_succ]
  refine wpAnyH_ready (rs := [8]) (by kernel_rfl) (by simp) ?_
  refine AllReadyH.cons rfl (fun K hK => ?_) AllReadyH.nil
  simp only [List.getElem_toArray, List.getElem_cons_succ, List.getElem_cons_zero]
  go_simp
  refine (HHS.out k1).mono ?_
  rintro q k2 ⟨rfl, rfl⟩
  go_wp2_with fail
  refine hK.out _ _ ?_ (fun hHeld2 => ?_)
  focus
    exact hSU _ hk1
  clear hHeld
  have hHeld := hHeld2
  clear hHeld2 hK K
  try simp only [List.getElem_toArray, List.getElem_cons_succ, List.getElem_cons_zero, Act.put, List.setIfInBounds_toArray, List.set_cons_zero, List.set_cons_succ]
  refine wpAnyH_take (i := 9) (v := ?_) rfl (by kernel_rfl) (by kernel_rfl) (by kernel_rfl) (fun _ _ _ h => h) (Or.inl ⟨by rfl, ?_⟩) (by assumption) ?_
  rotate_left
  focus
    intro U hU
    try dsimp only at hU
    go_simp
    try (with_reducible rfl)
  simp only [List.getElem_toArray, List.getElem_cons_succ, List.getElem_cons_zero, Act.put, List.setIfInBounds_toArray, List.set_cons_zero, List.set_cons_succ]
  refine wpAnyH_done (by kernel_rfl) ?_ _
  go_wp2
  go_ret
  exact ⟨rfl, HB.out.trans (hk1.mono HB.out.size)⟩
end Go.Proofs.Ytgakobolhmdnnaa
