/- hand: the document's Left, Pending, May, Pick; hand.May: contracts. -/
import Derived.Test.YtgakobolhmdnnaaQHdC
import Derived.Deep.RegionHeld3
namespace Go.Proofs.Ytgakobolhmdnnaa
open Go.RowKit Go.Sort
set_option linter.unusedVariables false
set_option linter.unusedSimpArgs false

theorem lay2 (W : World) (C E : Obj) : ((W.alloc C).alloc E).heap[W.heap.size]? = some C ∧ ((W.alloc C).alloc E).heap[W.heap.size + 1]? = some E ∧ RowKit.Below W.heap.size W ((W.alloc C).alloc E) := by
  have h2 := heap_alloc_new (W.alloc C) E
  rw [World.size_alloc] at h2
  exact ⟨keep0 (heap_alloc_new W C) (bel_alloc (RowKit.Below.refl _ _) E), h2, bel_alloc (bel_alloc (RowKit.Below.refl _ _) _) _⟩
theorem fk_splitF {p : Nat → Bool} {i : Nat} (hp : p i = true) : ∀ m, i < m → ∃ r, fk p m = fk p i ++ (i : Int) :: r
  | 0, h => absurd h (by omega)
  | k + 1, h => by
    by_cases hk : i = k
    · subst hk
      exact ⟨[], fk_yes hp⟩
    · obtain ⟨r, hr⟩ := fk_splitF hp k (by omega)
      by_cases h9 : p k = true
      · exact ⟨r ++ [(k : Int)], by rw [fk_yes h9, hr]; simp⟩
      · exact ⟨r, by rw [fk_no (by simpa using h9), hr]⟩
def pndQ (e : En) (h : List Bool) (wk : Int) (i : Nat) : Bool := pndB e h i && (e.bd.getD i 0 - 1 == wk)
theorem pndW_fk (e : En) (h : List Bool) (wk : Int) : pndW e h wk = fk (pndQ e h wk) (min e.ns.length (min e.bd.length e.dn.length)) := by
  unfold pndW pndL fk
  rw [List.filter_map, List.filter_filter]
  congr 2
  funext a
  simp [pndQ, Function.comp, Bool.and_comm]
theorem openB_fk (e : En) : openB e = fk (fun i => e.bd.getD i 0 == 0) (min e.ns.length e.bd.length) := rfl
def mayB (e : En) (T : List (List UInt8)) (ws : List Wk) (wk : Int) (i : Int) : Bool := decide (i ∈ openB e) && mayF e T ws wk i
theorem may_yes {e : En} {T ws wk} {n : Nat} (h : mayB e T ws wk n = true) (hf : ∀ k : Nat, k < n → mayB e T ws wk k = false) : (openB e).find? (mayF e T ws wk) = some (n : Int) := by
  unfold mayB at h
  rw [Bool.and_eq_true, decide_eq_true_eq] at h
  obtain ⟨j, hj, a1, a2, a3⟩ := open_mem h.1
  have hj2 : n = j := by omega
  subst hj2
  obtain ⟨r, hr⟩ := fk_splitF (p := fun i => e.bd.getD i 0 == 0) (i := n) (by simpa using a3) (min e.ns.length e.bd.length) (by omega)
  rw [openB_fk, hr, List.find?_append]
  have h0 : (fk (fun i => e.bd.getD i 0 == 0) n).find? (mayF e T ws wk) = none := by
    rw [List.find?_eq_none]
    intro x hx
    obtain ⟨i, rfl, hi, hp⟩ := fk_mem hx
    have h1 := hf i hi
    unfold mayB at h1
    have hin : (i : Int) ∈ openB e := by
      obtain ⟨r2, hr2⟩ := fk_splitF (p := fun i => e.bd.getD i 0 == 0) (i := i) hp (min e.ns.length e.bd.length) (by omega)
      rw [openB_fk, hr2]; simp
    rw [decide_eq_true hin, Bool.true_and] at h1
    simp [h1]
  rw [h0]
  simp only [List.find?_cons, h.2, Option.none_or]
theorem may_none {e : En} {T ws wk} (hf : ∀ k : Nat, k < e.ns.length → mayB e T ws wk k = false) : (openB e).find? (mayF e T ws wk) = none := by
  rw [List.find?_eq_none]
  intro x hx
  obtain ⟨i, rfl, a1, a2, a3⟩ := open_mem hx
  have h1 := hf i a1
  unfold mayB at h1
  rw [decide_eq_true hx, Bool.true_and] at h1
  simp [h1]

set_option maxRecDepth 20000 in
set_option maxHeartbeats 1000000 in
theorem rleft_any (e : Ee) (H : Option Addr) (hc : Nat) (h : List Bool) (i : Nat) (W : World) (hE : InE W e) (hh : HadAt W H hc h) (h1 : i < e.1.bd.length) (h2 : i < e.1.dn.length) :
    Calls Try.prog 83 #[.agg (ecE e), .slice H h.length hc, .int .i64 (i : Int)] W fun x w' => x = .returned (.bool (pndB e.1 h i)) ∧ RowKit.Below W.heap.size W w' := by
  have HV := hid (show pndB e.1 h i = (decide (1 ≤ e.1.bd.getD i 0) && !e.1.dn.getD i false && !(decide (i < h.length) && h.getD i false)) from rfl)
  have HH := hid hh
  have hl2 := sl_len64 hE.2.1
  have hl3 := sl_len64 hE.2.2
  have hl4 := sl_len64 hh
  obtain ⟨⟨id, sc, ee, ms, bd, dn⟩, ⟨A1, ca, P, cb, D, cd⟩⟩ := e
  simp only at h1 h2 HV hl2 hl3
  simp only [ecE]
  have sP := hE.2.1
  have sD := hE.2.2
  simp only at sP sD
  obtain ⟨bP, oP, hP9, _⟩ := sP.2.2.2 (by rw [icells_length]; omega)
  obtain ⟨bD, oD, hD9, _⟩ := sD.2.2.2 (by rw [blcells_length]; omega)
  rw [hP9] at sP
  rw [hD9] at sD
  have cP := Sl.cell sP i h1
  have cD := Sl.blcell sD i h2
  have HP9 := hid hP9
  have HD9 := hid hD9
  have i0 : ¬ (i : Int) < 0 := by omega
  have i1 : (i : Int) < (bd.length : Int) := by omega
  have i2 : (i : Int) < (dn.length : Int) := by omega
  clear sP sD hE hh hP9 hD9 h1 h2
  generalize pndB ⟨id, sc, ee, ms, bd, dn⟩ h i = R at *
  generalize bd.getD i 0 = z at *
  generalize dn.getD i false = b at *
  go_enter Try.func83, Try.ntmps83
  go_upto_region 1 with (fail)
  refine at_world (fun u => u.heap[W.heap.size]? = some (.cells #[.int .i64 id, .int .i64 sc, .int .i64 ee, .slice A1 ms.length ca, .slice P bd.length cb, .slice D dn.length cd] 55 (0, 0)) ∧ RowKit.Below W.heap.size W u) ⟨heap_alloc_new _ _, (RowKit.Below.refl _ _).alloc (Nat.le_refl _) _⟩ ?_
  rintro w1 ⟨hx1, hb1⟩
  have HX1 := hid hx1
  have HB1 := hid hb1
  have cP1 := cellb hb1 cP
  have cD1 := cellb hb1 cD
  obtain ⟨⟨p0, p1, p2, p3, p4, p5⟩, _⟩ := six_cells hx1
  rw [HP9.out] at p4
  rw [HD9.out] at p5
  clear hx1 hb1 cP cD HP9 HD9
  by_cases hz : 0 < z
  · cases b with
    | true =>
      obtain rfl : R = false := by rw [HV.out]; simp
      clear HV
      go_wp2
      go_ret
      exact ⟨rfl, HB1.out⟩
    | false =>
      by_cases hlt : i < h.length
      · have i3 : (i : Int) < (h.length : Int) := by omega
        have sH := Sl.below HH.out HB1.out
        obtain ⟨bH, oH, hH9, _⟩ := sH.2.2.2 (by rw [blcells_length]; omega)
        subst hH9
        have cH := Sl.blcell sH i hlt
        have HVV : Hid (R = !h.getD i false) := hid (by rw [HV.out, decide_eq_true hlt, decide_eq_true (show (1 : Int) ≤ z by omega)]; simp)
        clear sH HV HH
        generalize h.getD i false = g at *
        obtain rfl := HVV.out
        clear HVV
        go_wp2
        go_ret
        exact ⟨rfl, HB1.out⟩
      · have i3 : ¬ (i : Int) < (h.length : Int) := by omega
        obtain rfl : R = true := by rw [HV.out, decide_eq_false hlt, decide_eq_true (show (1 : Int) ≤ z by omega)]; rfl
        clear HV HH
        go_wp2
        go_ret
        exact ⟨rfl, HB1.out⟩
  · obtain rfl : R = false := by rw [HV.out, decide_eq_false (show ¬ (1 : Int) ≤ z by omega)]; rfl
    clear HV
    go_wp2
    go_ret
    exact ⟨rfl, HB1.out⟩

set_option maxRecDepth 20000 in
set_option maxHeartbeats 4000000 in
theorem rpendw_any (e : Ee) (wk : Int) (H : Option Addr) (hc : Nat) (h : List Bool) (W : World) (hE : InE W e) (hh : HadAt W H hc h) (hbd : BdOk e.1) (hl : e.1.ns.length ≤ 100000 ∧ e.1.bd.length ≤ 100000 ∧ e.1.dn.length ≤ 100000) :
    Calls Try.prog 43 #[.agg (ecE e), .int .i64 wk, .slice H h.length hc] W fun x w' => ∃ A' c', x = .returned (.slice A' (pndW e.1 h wk).length c') ∧ Sl w' 1 A' (pndW e.1 h wk).length c' (icells .i64 (pndW e.1 h wk)) ∧ RowKit.Below W.heap.size W w' := by
  have HTK := hid (fun u => r20tasks_any e u (by omega) (by omega) (by omega))
  have HLF := hid (fun u (hu : RowKit.Below W.heap.size W u) i (h1 : i < e.1.bd.length) (h2 : i < e.1.dn.length) => rleft_any e H hc h i u (hE.below hu) (Sl.below hh hu) h1 h2)
  have hv := pndW_fk e.1 h wk
  rw [hv]
  have HQV := hid (fun i => show pndQ e.1 h wk i = (pndB e.1 h i && (e.1.bd.getD i 0 - 1 == wk)) from rfl)
  have HBP := hid (fun i (h9 : pndB e.1 h i = true) => show 1 ≤ e.1.bd.getD i 0 by
    unfold pndB at h9
    simp only [Bool.and_eq_true, decide_eq_true_eq] at h9
    exact h9.1.1)
  have HBD := hid hbd
  have HPP := hid hE.2.1
  obtain ⟨⟨id, sc, ee, ms, bd, dn⟩, ⟨A1, ca, P, cb, D, cd⟩⟩ := e
  obtain ⟨l1, l2, l3⟩ := hl
  simp only [tkB] at HTK HLF HQV HBP HBD HPP l1 l2 l3 ⊢
  clear hE hh hbd hv
  simp only [ecE] at *
  obtain ⟨m, hm⟩ : ∃ m, min ms.length (min bd.length dn.length) = m := ⟨_, rfl⟩
  rw [hm] at HTK ⊢
  have m1 : m ≤ ms.length := by omega
  have m2 : m ≤ bd.length := by omega
  have m3 : m ≤ dn.length := by omega
  clear hm
  generalize pndQ ⟨id, sc, ee, ms, bd, dn⟩ h wk = pQ at *
  generalize pndB ⟨id, sc, ee, ms, bd, dn⟩ h = pB at *
  have HY := hid (fun k (h9 : pQ k = true) => fk_yes h9)
  have HN := hid (fun k (h9 : pQ k = false) => fk_no h9)
  generalize h.length = hn at *
  go_enter Try.func43, Try.ntmps43
  go_upto_region 1 with (fail)
  refine at_world (fun u => u.heap[W.heap.size]? = some (.cells #[.int .i64 id, .int .i64 sc, .int .i64 ee, .slice A1 ms.length ca, .slice P bd.length cb, .slice D dn.length cd] 55 (0, 0)) ∧ RowKit.Below W.heap.size W u) ⟨heap_alloc_new _ _, (RowKit.Below.refl _ _).alloc (Nat.le_refl _) _⟩ ?_
  rintro w1 ⟨hx1, hb1⟩
  have HX1 := hid hx1
  have HB1 := hid hb1
  have hWl := lt_of_block hx1
  obtain ⟨⟨p0, p1, p2, p3, p4, p5⟩, _⟩ := six_cells hx1
  clear hx1 hb1
  go_wp2
  clear p0 p1 p2 p3 p4 p5
  go_loopw [7, 8] (fun v i wr => ∃ (n : Nat) (A' : Option Addr) (c' : Nat) (L : List Int), n ≤ m ∧ i = .int .i64 (n : Int) ∧ v = .slice A' L.length c' ∧ Hid (L = fk pQ n ∧ wr.ownsRow w1.heap.size 3 1 (.slice A' L.length c') L.length (icells .i64 L)) ∧ Hid (RowKit.Below w1.heap.size w1 wr)) (fun _ i _ => m - (intOf i).toNat)
  case atStart => exact ⟨0, none, 0, [], by omega, rfl, rfl, ⟨rfl, World.ownsRow_nil _ _ _ _⟩, RowKit.Below.refl _ _⟩
  case round =>
    obtain ⟨n, A', c', L, hn9, rfl, rfl, HO, HB⟩ := hrel
    have hLn : L.length ≤ n := by rw [HO.out.1]; exact fk_len _ _
    have HX2 := hid (keep0 HX1.out HB.out)
    obtain ⟨⟨p0, p1, p2, p3, p4, p5⟩, _⟩ := six_cells HX2.out
    go_wp2_with fail
    refine (HTK.out wr).mono ?_
    rintro e w2 ⟨rfl, hb⟩
    have HB3 := hid (HB.out.trans (hb.mono HB.out.size))
    have HX3 := hid (keep0 HX2.out hb)
    have HO3 := hid (And.intro HO.out.1 (own_keep HO.out.2 hb))
    clear hb HB HX2 HO p0 p1 p2 p3 p4 p5
    obtain ⟨⟨p0, p1, p2, p3, p4, p5⟩, _⟩ := six_cells HX3.out
    by_cases hlt : n < m
    · have hlt2 : (n : Int) < (m : Int) := by omega
      have hlt4 : (n : Int) < (bd.length : Int) := by omega
      have i0 : ¬ (n : Int) < 0 := by omega
      have hwn := wrap_succ n (by omega)
      have HLL := hid (HLF.out w2 (HB1.out.trans (HB3.out.mono HB1.out.size)) n (by omega) (by omega))
      have HBP2 := hid (HBP.out n)
      have hr := HBD.out n
      simp only at hr
      have sP := (HPP.out.below HB1.out).below HB3.out
      obtain ⟨bP, oP, hP9, _⟩ := sP.2.2.2 (by rw [icells_length]; omega)
      rw [hP9] at sP
      have HP9 := hid hP9
      have HcP := hid (Sl.cell sP n (by omega))
      clear sP hP9
      have HYY := hid (fun (h9 : pQ n = true) => show L ++ [(n : Int)] = fk pQ (n + 1) by rw [HO3.out.1, HY.out n h9])
      have HNN := hid (fun (h9 : pQ n = false) => show L = fk pQ (n + 1) by rw [HO3.out.1, HN.out n h9])
      rw [HQV.out n] at HYY HNN
      have HOW := hid HO3.out.2
      clear HO3
      generalize bd.getD n 0 = z at *
      generalize pB n = b at *
      go_wp2_with fail
      refine HLL.out.mono ?_
      rintro e w3 ⟨rfl, hb⟩
      have HB4 := hid (HB3.out.trans (hb.mono HB3.out.size))
      have HX4 := hid (keep0 HX3.out hb)
      have HOW4 := hid (own_keep HOW.out hb)
      have cP := cellb hb HcP.out
      clear hb HB3 HX3 HOW HcP p0 p1 p2 p3 p4 p5 HLL
      obtain ⟨⟨p0, p1, p2, p3, p4, p5⟩, _⟩ := six_cells HX4.out
      rw [HP9.out] at p4
      clear HP9
      cases b with
      | false =>
        have HE := hid (HNN.out rfl)
        clear HYY HNN HBP2 hr
        go_wp2
        go_roundw
        case rel => exact ⟨n + 1, A', c', L, by omega, by go_num, rfl, hid ⟨HE.out, HOW4.out⟩, HB4⟩
        case measure => simp [intOf]; omega
      | true =>
        have hz1 := HBP2.out rfl
        have hw : IntKind.i64.wrap (z - 1) = z - 1 := by
          simp [IntKind.wrap, IntKind.bits, IntKind.signed]
          omega
        clear HBP2 hr hz1
        by_cases hz : z - 1 = wk
        · have hz2 : (z - 1 == wk) = true := by simpa using hz
          have HE := hid (HYY.out (by rw [hz2]; rfl))
          clear HYY HNN hz
          go_wp2_with (at_builtin; refine wpList_append_1 (W := w1) rfl (.tmp 29) (.tmp 31) 52 rfl w1.heap.size 3 Try.underlying52 info_int rfl (by omega) rfl HOW4.out rfl (by rfl) (by simp [Value.oneCell']) ?e1 ?e2 HB4.out.size HB4.out ?_)
          case e1 => unfold maxLen; omega
          case e2 => omega
          intro v3 w4 ho3 hb3 _
          obtain ⟨A3, c3, rfl, _⟩ := Sl.of_own ho3
          have HO3 : Hid (L ++ [(n : Int)] = fk pQ (n + 1) ∧ w4.ownsRow w1.heap.size 3 1 (.slice A3 (L ++ [(n : Int)]).length c3) (L ++ [(n : Int)]).length (icells .i64 (L ++ [(n : Int)]))) := hid ⟨HE.out, by rw [List.length_append, icells_append]; exact ho3⟩
          have HB5 := hid hb3
          have hL2 : L.length + 1 = (L ++ [(n : Int)]).length := by simp
          rw [hL2]
          clear ho3 hb3 HOW4 HE p0 p1 p2 p3 p4 p5 cP hL2 HB4 hz2 hw
          generalize L ++ [(n : Int)] = L2 at *
          go_wp2
          go_roundw
          case rel => exact ⟨n + 1, A3, c3, L2, by omega, by go_num, rfl, HO3, HB5⟩
          case measure => simp [intOf]; omega
        · have hz2 : (z - 1 == wk) = false := by simpa using hz
          have HE := hid (HNN.out (by rw [hz2]; rfl))
          clear HYY HNN hz
          go_wp2
          go_roundw
          case rel => exact ⟨n + 1, A', c', L, by omega, by go_num, rfl, hid ⟨HE.out, HOW4.out⟩, HB4⟩
          case measure => simp [intOf]; omega
    · have hge : ¬ (n : Int) < (m : Int) := by omega
      obtain rfl : n = m := by omega
      go_wp2
      go_ret
      obtain ⟨rfl, hO⟩ := HO3.out
      exact ⟨A', c', rfl, sl_own hO, HB1.out.trans (HB3.out.mono HB1.out.size)⟩

theorem take_mem {l : List Int} {v : Int} {n : Nat} (hn : n < l.length) (h : v ∉ l.take n) (h2 : v ≠ l.getD n 0) : v ∉ l.take (n + 1) := by
  have e : l.getD n 0 = l[n] := by simp [List.getD, hn]
  rw [e] at h2
  rw [List.take_succ_eq_append_getElem hn, List.mem_append, List.mem_singleton]
  exact fun h9 => h9.elim h h2
set_option maxRecDepth 20000 in
theorem idx_any (A : Option Addr) (c : Nat) (l : List Int) (v : Int) (W : World) (h : Sl W 1 A l.length c (icells .i64 l)) :
    Calls Try.prog 116 #[.slice A l.length c, .int .i64 v] W fun x w' => (∃ r : Int, x = .returned (.int .i64 r) ∧ (v ∈ l ↔ 0 ≤ r)) ∧ W = w' := by
  have HS := hid h
  have hl := sl_len64 h
  have HTM := hid (fun n (hn : n < l.length) h1 h2 => take_mem (v := v) hn h1 h2)
  have HGM := hid (fun n (hn : n < l.length) => getD_mem hn)
  have HTL := hid (show v ∉ l.take l.length → v ∉ l by rw [List.take_length]; exact fun h => h)
  have HMM : Hid (∀ r : Int, (v ∈ l → 0 ≤ r) → (0 ≤ r → v ∈ l) → (v ∈ l ↔ 0 ≤ r)) := hid fun r a b => ⟨a, b⟩
  clear h
  generalize hm : l.length = m at *
  have HM := hid hm
  clear hm
  go_enter Try.func116, Try.ntmps116
  go_wp2
  go_loopw [5, 8] (fun _ i wr => ∃ n : Nat, n ≤ m ∧ i = .int .i64 (n : Int) ∧ Hid (v ∉ l.take n) ∧ Hid (wr = W)) (fun _ i _ => m - (intOf i).toNat)
  case atStart => exact ⟨0, by omega, rfl, by simp [Hid], rfl⟩
  case round =>
    obtain ⟨n, hn, rfl, HT, HW⟩ := hrel
    obtain rfl := HW.out
    by_cases hlt : n < m
    · have hlt2 : (n : Int) < (m : Int) := by omega
      have i0 : ¬ (n : Int) < 0 := by omega
      have hkl : n < l.length := by rw [HM.out]; exact hlt
      have sL := HS.out
      obtain ⟨bL, oL, hL9, _⟩ := sL.2.2.2 (by rw [icells_length]; omega)
      subst hL9
      have cL := Sl.cell sL n hkl
      have HG2 := hid (HGM.out n hlt)
      have HT2 := hid (HTM.out n hlt HT.out)
      clear sL hkl HT
      generalize l.getD n 0 = y at *
      by_cases hvy : v = y
      · subst hvy
        have HX := hid (HMM.out (n : Int) (fun _ => by omega) (fun _ => HG2.out))
        clear HMM HG2 HT2
        go_wp2
        go_ret
        exact ⟨⟨(n : Int), rfl, HX.out⟩, rfl⟩
      · have hvy2 : (v == y) = false := by simpa using hvy
        have HT3 := hid (HT2.out hvy)
        clear HT2 HG2 hvy
        go_wp2
        go_roundw
        case rel => exact ⟨n + 1, by omega, by go_num, HT3, hid (by trivial)⟩
        case measure => simp [intOf]; omega
    · have hge : ¬ (n : Int) < (m : Int) := by omega
      obtain rfl : n = m := by omega
      have HX := hid (HMM.out (-1) (fun h9 => absurd h9 (HTL.out HT.out)) (fun h9 => by omega))
      clear HMM HTL HT
      go_wp2
      go_ret
      exact ⟨⟨-1, rfl, HX.out⟩, rfl⟩
set_option maxRecDepth 20000 in
theorem cont_any (A : Option Addr) (c : Nat) (l : List Int) (v : Int) (W : World) (h : Sl W 1 A l.length c (icells .i64 l)) :
    Calls Try.prog 79 #[.slice A l.length c, .int .i64 v] W fun x w' => x = .returned (.bool (decide (v ∈ l))) ∧ W = w' := by
  have HI := hid (idx_any A c l v W h)
  clear h
  generalize hR : decide (v ∈ l) = R at *
  have HR := hid hR
  clear hR
  generalize l.length = m at *
  go_enter Try.func79, Try.ntmps79
  go_wp2_with fail
  refine HI.out.mono ?_
  rintro e w2 ⟨⟨r, rfl, hr⟩, rfl⟩
  have HE : Hid (R = decide (0 ≤ r)) := hid (by rw [← HR.out]; exact decide_eq_decide.2 hr)
  clear hr HR HI
  by_cases h0 : 0 ≤ r
  · obtain rfl : R = true := by rw [HE.out, decide_eq_true h0]
    clear HE
    go_wp2
    go_ret
    exact ⟨rfl, rfl⟩
  · obtain rfl : R = false := by rw [HE.out, decide_eq_false h0]
    clear HE
    go_wp2
    go_ret
    exact ⟨by rw [decide_eq_false (show ¬ (0 : Int) ≤ r by omega)]; rfl, rfl⟩

set_option maxRecDepth 20000 in
set_option maxHeartbeats 4000000 in
theorem hmay_any (x : Cf) (N : Option Addr) (nc : Nat) (K : Option Addr) (kc : Nat) (e : Ee) (wk : Int) (i : Int) (W : World) (hC : CfAt W x N nc K kc) (hE : InE W e) (hl : e.1.ns.length ≤ 100000 ∧ e.1.bd.length ≤ 100000 ∧ e.1.dn.length ≤ 100000) (hs : ∀ s ∈ e.1.ns, s.length ≤ 1000) (hw : x.ws.length ≤ 1000) :
    Calls Try.prog 39 #[.agg (cfc x N nc K kc), .agg (ecE e), .int .i64 wk, .int .i64 i] W fun q w' => q = .returned (.bool (mayB e.1 x.T x.ws wk i)) ∧ RowKit.Below W.heap.size W w' := by
  have HOP := hid (fun u (hu : RowKit.Below W.heap.size W u) => bopen_any e u (hE.below hu) hl)
  have HAD := hid (fun u (hu : RowKit.Below W.heap.size W u) (h9 : i ∈ openB e.1) => show Calls Try.prog 78 #[.agg (cfc x N nc K kc), .agg (ecE e), .int .i64 wk, .int .i64 i] u fun q w' => q = .returned (.bool (mayF e.1 x.T x.ws wk i)) ∧ RowKit.Below u.heap.size u w' by
    obtain ⟨j, rfl, a1, a2, a3⟩ := open_mem h9
    exact admit_any x N nc K kc e wk j u (hC.below hu) (hE.below hu) a1 hs hw)
  have HMB := hid (show mayB e.1 x.T x.ws wk i = (decide (i ∈ openB e.1) && mayF e.1 x.T x.ws wk i) from rfl)
  obtain ⟨⟨id, scE, ee, ms, bd, dn⟩, ⟨A1, ca, P, cb, D, cd⟩⟩ := e
  obtain ⟨sc, le, ag, ro, ou, T, ws⟩ := x
  simp only at HOP HAD HMB ⊢
  clear hC hE hl hs hw
  simp only [ecE, cfc] at *
  generalize mayB ⟨id, scE, ee, ms, bd, dn⟩ T ws wk i = R at *
  generalize mayF ⟨id, scE, ee, ms, bd, dn⟩ T ws wk i = b at *
  generalize openB ⟨id, scE, ee, ms, bd, dn⟩ = L0 at *
  go_enter Try.func39, Try.ntmps39
  go_upto_region 1 with (fail)
  refine at_world (fun u => u.heap[W.heap.size]? = some (.cells #[.int .i64 sc, .int .i64 le, .int .i64 ag, .int .i64 ro, .int .i64 ou, .slice N T.length nc, .slice K ws.length kc] 25 (0, 0)) ∧ u.heap[W.heap.size + 1]? = some (.cells #[.int .i64 id, .int .i64 scE, .int .i64 ee, .slice A1 ms.length ca, .slice P bd.length cb, .slice D dn.length cd] 55 (0, 0)) ∧ RowKit.Below W.heap.size W u) (lay2 W _ _) ?_
  rintro w1 ⟨hq, hj, hb⟩
  have HB := hid hb
  have HQ := hid hq
  have HJ := hid hj
  clear hq hj hb
  generalize W.heap.size + 1 = J at *
  generalize hQ : W.heap.size = Q at HQ
  clear hQ
  obtain ⟨⟨p0, p1, p2, p3, p4, p5⟩, _⟩ := six_cells HJ.out
  go_wp2_with fail
  refine (HOP.out _ HB.out).mono ?_
  rintro e w2 ⟨A2, c2, rfl, hs2, hb2⟩
  have HCN := hid (cont_any A2 c2 L0 i w2 hs2)
  have HB2 := hid (HB.out.trans (hb2.mono HB.out.size))
  have HQ2 := hid (keep0 HQ.out hb2)
  have HJ2 := hid (keep0 HJ.out hb2)
  clear hs2 hb2 HOP HQ HJ HB p0 p1 p2 p3 p4 p5
  have HAD2 := hid (fun h9 => HAD.out _ HB2.out h9)
  clear HAD
  go_wp2_with fail
  refine HCN.out.mono ?_
  rintro e w3 ⟨rfl, rfl⟩
  clear HCN
  by_cases hin : i ∈ L0
  · have HAD3 := hid (HAD2.out hin)
    obtain rfl : R = b := by rw [HMB.out, decide_eq_true hin, Bool.true_and]
    rw [decide_eq_true hin]
    clear hin HAD2 HMB
    generalize L0.length = m at *
    obtain ⟨⟨p0, p1, p2, p3, p4, p5⟩, _⟩ := six_cells HJ2.out
    obtain ⟨q0, q1, q2, q3, q4, q5, q6⟩ := seven_cellsJ HQ2.out
    go_wp2_with fail
    refine HAD3.out.mono ?_
    rintro e w4 ⟨rfl, hb⟩
    have HB3 := hid (HB2.out.trans (hb.mono HB2.out.size))
    clear hb p0 p1 p2 p3 p4 p5 q0 q1 q2 q3 q4 q5 q6 HAD3
    go_wp2
    go_ret
    exact ⟨rfl, HB3.out⟩
  · obtain rfl : R = false := by rw [HMB.out, decide_eq_false hin, Bool.false_and]
    rw [decide_eq_false hin]
    clear hin HAD2 HMB
    generalize L0.length = m at *
    go_wp2
    go_ret
    exact ⟨rfl, HB2.out⟩

set_option maxRecDepth 20000 in
set_option maxHeartbeats 4000000 in
theorem rmay_any (x : Cf) (N : Option Addr) (nc : Nat) (K : Option Addr) (kc : Nat) (e : Ee) (wk : Int) (i : Int) (W : World) (hC : CfAt W x N nc K kc) (hE : InE W e) (hl : e.1.ns.length ≤ 100000 ∧ e.1.bd.length ≤ 100000 ∧ e.1.dn.length ≤ 100000) (hs : ∀ s ∈ e.1.ns, s.length ≤ 1000) (hw : x.ws.length ≤ 1000) :
    Calls Try.prog 40 #[.agg (cfc x N nc K kc), .agg (ecE e), .int .i64 wk, .int .i64 i] W fun q w' => q = .returned (.bool (mayB e.1 x.T x.ws wk i)) ∧ RowKit.Below W.heap.size W w' := by
  have HOP := hid (fun u (hu : RowKit.Below W.heap.size W u) => r20open_any e u (hE.below hu) hl)
  have HMB := hid (show mayB e.1 x.T x.ws wk i = (decide (i ∈ openB e.1) && mayF e.1 x.T x.ws wk i) from rfl)
  have HIN := hid (fun (h9 : i ∈ openB e.1) => show ∃ j : Nat, i = (j : Int) ∧ j < e.1.ns.length ∧ mayF e.1 x.T x.ws wk i = hasS (setJ x.T x.ws (e.1.ns.getD j [])) wk ∧ (∀ u, RowKit.Below W.heap.size W u → Calls Try.prog 19 #[.agg (cfc x N nc K kc), .string (str (e.1.ns.getD j []))] u fun q w' => q = .returned (.int .u64 (setJ x.T x.ws (e.1.ns.getD j []) : Nat)) ∧ Below u.heap.size u w') ∧ ∃ b off, e.2.A = some ⟨b, off, none⟩ ∧ W.cell? ⟨b, off + j, none⟩ = some (.string (str (e.1.ns.getD j []))) by
    obtain ⟨j, rfl, a1, a2, a3⟩ := open_mem h9
    have e2 : e.1.ns.getD j [] = e.1.ns[j] := by simp [List.getD, a1]
    refine ⟨j, rfl, a1, rfl, fun u hu => rjset_any x N nc K kc _ u (hC.below hu) (by rw [e2]; exact hs _ (List.getElem_mem a1)) hw, ?_⟩
    rw [e2]
    exact text_at hE.1 j a1)
  have HRH := hid (fun u l => rhas_any (setJ x.T x.ws l) wk u (setJ_lt _ _ _))
  have hl9 := sl_len64 hE.1.1
  obtain ⟨⟨id, scE, ee, ms, bd, dn⟩, ⟨A1, ca, P, cb, D, cd⟩⟩ := e
  obtain ⟨sc, le, ag, ro, ou, T, ws⟩ := x
  simp only at HOP HIN HMB HRH hl9 ⊢
  clear hC hE hl hs hw
  simp only [ecE, cfc] at *
  generalize mayB ⟨id, scE, ee, ms, bd, dn⟩ T ws wk i = R at *
  generalize mayF ⟨id, scE, ee, ms, bd, dn⟩ T ws wk i = bb at *
  generalize openB ⟨id, scE, ee, ms, bd, dn⟩ = L0 at *
  by_cases hin : i ∈ L0
  · obtain rfl : R = bb := by rw [HMB.out, decide_eq_true hin, Bool.true_and]
    obtain ⟨j, rfl, a1, a2, a3, b, off, hA, ct⟩ := HIN.out hin
    have HDC := hid (decide_eq_true hin)
    subst hA
    have HRH3 := hid (fun u => HRH.out u (ms.getD j []))
    rw [← a2] at HRH3
    have HJS := hid a3
    have i0 : ¬ (j : Int) < 0 := by omega
    have hi2 : (j : Int) < (ms.length : Int) := by omega
    clear HIN HMB hin a1 a2 a3 HRH
    generalize setJ T ws (ms.getD j []) = sj at *
    generalize str (ms.getD j []) = st at *
    generalize hm0 : L0.length = m0 at *
    clear hm0
    go_enter Try.func40, Try.ntmps40
    go_upto_region 1 with (fail)
    refine at_world (fun u => u.heap[W.heap.size]? = some (.cells #[.int .i64 sc, .int .i64 le, .int .i64 ag, .int .i64 ro, .int .i64 ou, .slice N T.length nc, .slice K ws.length kc] 25 (0, 0)) ∧ u.heap[W.heap.size + 1]? = some (.cells #[.int .i64 id, .int .i64 scE, .int .i64 ee, .slice (some ⟨b, off, none⟩) ms.length ca, .slice P bd.length cb, .slice D dn.length cd] 55 (0, 0)) ∧ RowKit.Below W.heap.size W u) (lay2 W _ _) ?_
    rintro w1 ⟨hq, hj, hb⟩
    have HB := hid hb
    have HQ := hid hq
    have HJ := hid hj
    clear hq hj hb
    generalize W.heap.size + 1 = J at *
    generalize hQ : W.heap.size = Q at HQ
    clear hQ
    have ct1 := cellb HB.out ct
    have hSU : ∀ U, RowKit.Below w1.heap.size w1 U → ((U.cell? ⟨Q, 0, none⟩ = some (.int .i64 sc) ∧ U.cell? ⟨Q, 1, none⟩ = some (.int .i64 le) ∧ U.cell? ⟨Q, 2, none⟩ = some (.int .i64 ag) ∧ U.cell? ⟨Q, 3, none⟩ = some (.int .i64 ro) ∧ U.cell? ⟨Q, 4, none⟩ = some (.int .i64 ou) ∧ U.cell? ⟨Q, 5, none⟩ = some (.slice N T.length nc) ∧ U.cell? ⟨Q, 6, none⟩ = some (.slice K ws.length kc)) ∧ (U.cell? ⟨J, 0, none⟩ = some (.int .i64 id) ∧ U.cell? ⟨J, 1, none⟩ = some (.int .i64 scE) ∧ U.cell? ⟨J, 2, none⟩ = some (.int .i64 ee) ∧ U.cell? ⟨J, 3, none⟩ = some (.slice (some ⟨b, off, none⟩) ms.length ca) ∧ U.cell? ⟨J, 4, none⟩ = some (.slice P bd.length cb) ∧ U.cell? ⟨J, 5, none⟩ = some (.slice D dn.length cd)) ∧ U.cell? ⟨b, off + j, none⟩ = some (.string st)) := fun U hU => ⟨seven_cellsJ (keep0 HQ.out hU), (six_cells (keep0 HJ.out hU)).1, cellb hU ct1⟩
    have hk0 : RowKit.Below w1.heap.size w1 w1.drew := below_drew (RowKit.Below.refl _ _)
    refine wp_region_held_drew (S := fun U => (U.cell? ⟨Q, 0, none⟩ = some (.int .i64 sc) ∧ U.cell? ⟨Q, 1, none⟩ = some (.int .i64 le) ∧ U.cell? ⟨Q, 2, none⟩ = some (.int .i64 ag) ∧ U.cell? ⟨Q, 3, none⟩ = some (.int .i64 ro) ∧ U.cell? ⟨Q, 4, none⟩ = some (.int .i64 ou) ∧ U.cell? ⟨Q, 5, none⟩ = some (.slice N T.length nc) ∧ U.cell? ⟨Q, 6, none⟩ = some (.slice K ws.length kc)) ∧ (U.cell? ⟨J, 0, none⟩ = some (.int .i64 id) ∧ U.cell? ⟨J, 1, none⟩ = some (.int .i64 scE) ∧ U.cell? ⟨J, 2, none⟩ = some (.int .i64 ee) ∧ U.cell? ⟨J, 3, none⟩ = some (.slice (some ⟨b, off, none⟩) ms.length ca) ∧ U.cell? ⟨J, 4, none⟩ = some (.slice P bd.length cb) ∧ U.cell? ⟨J, 5, none⟩ = some (.slice D dn.length cd)) ∧ U.cell? ⟨b, off + j, none⟩ = some (.string st)) (by kernel_rfl) (hSU _ hk0) (fun hHeld => ?_)
    generalize w1.drew = k0 at *
    refine wpAnyH_take (i := 0) (v := ?_) rfl (by kernel_rfl) (by kernel_rfl) (by kernel_rfl) (fun _ _ _ h => h) (Or.inl ⟨by rfl, ?_⟩) (by assumption) ?_
    rotate_left
    focus
      intro U hU
      try dsimp only at hU
      go_simp
      try (with_reducible rfl)
    simp only [List.getElem_toArray, List.getElem_cons_succ, List.getElem_cons_zero, Act.put, List.setIfInBounds_toArray, List.set_cons_zero, List.set_cons_succ]
    refine wpAnyH_take (i := 2) (v := ?_) rfl (by kernel_rfl) (by kernel_rfl) (by kernel_rfl) (fun _ _ _ h => h) (Or.inl ⟨by rfl, ?_⟩) (by assumption) ?_
    rotate_left
    focus
      intro U hU
      try dsimp only at hU
      go_simp
      try (with_reducible rfl)
    simp only [List.getElem_toArray, List.getElem_cons_succ, List.getElem_cons_zero, Act.put, List.setIfInBounds_toArray, List.set_cons_zero, List.set_cons_succ]
    refine wpAnyH_ready (rs := [1]) (by kernel_rfl) (by simp) ?_
    refine AllReadyH.cons rfl (fun K hK => ?_) AllReadyH.nil
    simp only [List.getElem_toArray, List.getElem_cons_succ, List.getElem_cons_zero]
    go_simp
    refine (HOP.out k0 (HB.out.trans (hk0.mono HB.out.size))).mono ?_
    rintro q k1 ⟨A2, c2, rfl, hs2, hb1⟩
    have hk1 := hk0.trans (hb1.mono hk0.size)
    have HI6 := hid (in06_any A2 _ c2 L0 (j : Int) k1 hs2)
    rw [HDC.out] at HI6
    clear hb1 hs2
    go_wp2_with fail
    refine hK.out _ _ ?_ (fun hHeld2 => ?_)
    focus
      exact hSU _ hk1
    clear hHeld
    have hHeld := hHeld2
    clear hHeld2 hK K
    try simp only [List.getElem_toArray, List.getElem_cons_succ, List.getElem_cons_zero, Act.put, List.setIfInBounds_toArray, List.set_cons_zero, List.set_cons_succ]
    refine wpAnyH_ready (rs := [3]) (by kernel_rfl) (by simp) ?_
    refine AllReadyH.cons rfl (fun K hK => ?_) AllReadyH.nil
    simp only [List.getElem_toArray, List.getElem_cons_succ, List.getElem_cons_zero]
    go_simp
    refine HI6.out.mono ?_
    rintro q k1b ⟨rfl, rfl⟩
    go_wp2_with fail
    refine hK.out _ _ ?_ (fun hHeld2 => ?_)
    focus
      exact hSU _ hk1
    clear hHeld
    have hHeld := hHeld2
    clear hHeld2 hK K
    try simp only [List.getElem_toArray, List.getElem_cons_succ, List.getElem_cons_zero, Act.put, List.setIfInBounds_toArray, List.set_cons_zero, List.set_cons_succ]
    refine wpAnyH_take (i := 4) (v := ?_) rfl (by kernel_rfl) (by kernel_rfl) (by kernel_rfl) (fun _ _ _ h => h) (Or.inl ⟨by rfl, ?_⟩) (by assumption) ?_
    rotate_left
    focus
      intro U hU
      try dsimp only at hU
      go_simp
      try (with_reducible rfl)
    simp only [List.getElem_toArray, List.getElem_cons_succ, List.getElem_cons_zero, Act.put, List.setIfInBounds_toArray, List.set_cons_zero, List.set_cons_succ]
    refine wpAnyH_take (i := 5) (v := ?_) rfl (by kernel_rfl) (by kernel_rfl) (by kernel_rfl) (fun _ _ _ h => h) (Or.inl ⟨by rfl, ?_⟩) (by assumption) ?_
    rotate_left
    focus
      intro U hU
      try dsimp only at hU
      go_simp
      try (with_reducible rfl)
    simp only [List.getElem_toArray, List.getElem_cons_succ, List.getElem_cons_zero, Act.put, List.setIfInBounds_toArray, List.set_cons_zero, List.set_cons_succ]
    refine wpAnyH_take (i := 6) (v := ?_) rfl (by kernel_rfl) (by kernel_rfl) (by kernel_rfl) (fun _ _ _ h => h) (Or.inl ⟨by rfl, ?_⟩) (by assumption) ?_
    rotate_left
    focus
      intro U hU
      try dsimp only at hU
      go_simp
      try (with_reducible rfl)
    simp only [List.getElem_toArray, List.getElem_cons_succ, List.getElem_cons_zero, Act.put, List.setIfInBounds_toArray, List.set_cons_zero, List.set_cons_succ]
    refine wpAnyH_take (i := 7) (v := ?_) rfl (by kernel_rfl) (by kernel_rfl) (by kernel_rfl) (fun _ _ _ h => h) (Or.inl ⟨by rfl, ?_⟩) (by assumption) ?_
    rotate_left
    focus
      intro U hU
      try dsimp only at hU
      go_simp
      try (with_reducible rfl)
    simp only [List.getElem_toArray, List.getElem_cons_succ, List.getElem_cons_zero, Act.put, List.setIfInBounds_toArray, List.set_cons_zero, List.set_cons_succ]
    refine wpAnyH_take (i := 8) (v := ?_) rfl (by kernel_rfl) (by kernel_rfl) (by kernel_rfl) (fun _ _ _ h => h) (Or.inl ⟨by rfl, ?_⟩) (by assumption) ?_
    rotate_left
    focus
      intro U hU
      try dsimp only at hU
      go_simp
      try (with_reducible rfl)
    simp only [List.getElem_toArray, List.getElem_cons_succ, List.getElem_cons_zero, Act.put, List.setIfInBounds_toArray, List.set_cons_zero, List.set_cons_succ]
    refine wpAnyH_take (i := 9) (v := ?_) rfl (by kernel_rfl) (by kernel_rfl) (by kernel_rfl) (fun _ _ _ h => h) (Or.inl ⟨by rfl, ?_⟩) (by assumption) ?_
    rotate_left
    focus
      intro U hU
      try dsimp only at hU
      go_simp
      try (with_reducible rfl)
    simp only [List.getElem_toArray, List.getElem_cons_succ, List.getElem_cons_zero, Act.put, List.setIfInBounds_toArray, List.set_cons_zero, List.set_cons_succ]
    refine wpAnyH_take (i := 10) (v := ?_) rfl (by kernel_rfl) (by kernel_rfl) (by kernel_rfl) (fun _ _ _ h => h) (Or.inl ⟨by rfl, ?_⟩) (by assumption) ?_
    rotate_left
    focus
      intro U hU
      try dsimp only at hU
      go_simp
      try (with_reducible rfl)
    simp only [List.getElem_toArray, List.getElem_cons_succ, List.getElem_cons_zero, Act.put, List.setIfInBounds_toArray, List.set_cons_zero, List.set_cons_succ]
    refine wpAnyH_take (i := 12) (v := ?_) rfl (by kernel_rfl) (by kernel_rfl) (by kernel_rfl) (fun _ _ _ h => h) (Or.inl ⟨by rfl, ?_⟩) (by assumption) ?_
    rotate_left
    focus
      intro U hU
      try dsimp only at hU
      go_simp
      try (with_reducible rfl)
    simp only [List.getElem_toArray, List.getElem_cons_succ, List.getElem_cons_zero, Act.put, List.setIfInBounds_toArray, List.set_cons_zero, List.set_cons_succ]
    refine wpAnyH_ready (rs := [11]) (by kernel_rfl) (by simp) ?_
    refine AllReadyH.cons rfl (fun K hK => ?_) AllReadyH.nil
    simp only [List.getElem_toArray, List.getElem_cons_succ, List.getElem_cons_zero]
    go_simp
    refine (HJS.out k1 (HB.out.trans (hk1.mono HB.out.size))).mono ?_
    rintro q k2 ⟨rfl, hb1⟩
    have hk2 := hk1.trans (hb1.mono hk1.size)
    clear hb1
    go_wp2_with fail
    refine hK.out _ _ ?_ (fun hHeld2 => ?_)
    focus
      exact hSU _ hk2
    clear hHeld
    have hHeld := hHeld2
    clear hHeld2 hK K
    try simp only [List.getElem_toArray, List.getElem_cons_succ, List.getElem_cons_zero, Act.put, List.setIfInBounds_toArray, List.set_cons_zero, List.set_cons_succ]
    refine wpAnyH_ready (rs := [13]) (by kernel_rfl) (by simp) ?_
    refine AllReadyH.cons rfl (fun K hK => ?_) AllReadyH.nil
    simp only [List.getElem_toArray, List.getElem_cons_succ, List.getElem_cons_zero]
    go_simp
    refine (HRH3.out k2).mono ?_
    rintro q k2b ⟨rfl, rfl⟩
    go_wp2_with fail
    refine hK.out _ _ ?_ (fun hHeld2 => ?_)
    focus
      exact hSU _ hk2
    clear hHeld
    have hHeld := hHeld2
    clear hHeld2 hK K
    try simp only [List.getElem_toArray, List.getElem_cons_succ, List.getElem_cons_zero, Act.put, List.setIfInBounds_toArray, List.set_cons_zero, List.set_cons_succ]
    refine wpAnyH_take (i := 14) (v := ?_) rfl (by kernel_rfl) (by kernel_rfl) (by kernel_rfl) (fun _ _ _ h => h) (Or.inl ⟨by rfl, ?_⟩) (by assumption) ?_
    rotate_left
    focus
      intro U hU
      try dsimp only at hU
      go_simp
      try (with_reducible rfl)
    simp only [List.getElem_toArray, List.getElem_cons_succ, List.getElem_cons_zero, Act.put, List.setIfInBounds_toArray, List.set_cons_zero, List.set_cons_succ]
    refine wpAnyH_take (i := 15) (v := ?_) rfl (by kernel_rfl) (by kernel_rfl) (by kernel_rfl) (fun _ _ _ h => h) (Or.inl ⟨by rfl, ?_⟩) (by assumption) ?_
    rotate_left
    focus
      intro U hU
      try dsimp only at hU
      go_simp
      try (with_reducible rfl)
    simp only [List.getElem_toArray, List.getElem_cons_succ, List.getElem_cons_zero, Act.put, List.setIfInBounds_toArray, List.set_cons_zero, List.set_cons_succ]
    refine wpAnyH_done (by kernel_rfl) ?_ _
    go_wp2
    go_ret
    exact ⟨rfl, HB.out.trans (hk2.mono HB.out.size)⟩
  · obtain rfl : R = false := by rw [HMB.out, decide_eq_false hin, Bool.false_and]
    have HDC := hid (decide_eq_false hin)
    clear HIN HMB hin HRH
    generalize hm0 : L0.length = m0 at *
    clear hm0
    go_enter Try.func40, Try.ntmps40
    go_upto_region 1 with (fail)
    refine at_world (fun u => u.heap[W.heap.size]? = some (.cells #[.int .i64 sc, .int .i64 le, .int .i64 ag, .int .i64 ro, .int .i64 ou, .slice N T.length nc, .slice K ws.length kc] 25 (0, 0)) ∧ u.heap[W.heap.size + 1]? = some (.cells #[.int .i64 id, .int .i64 scE, .int .i64 ee, .slice A1 ms.length ca, .slice P bd.length cb, .slice D dn.length cd] 55 (0, 0)) ∧ RowKit.Below W.heap.size W u) (lay2 W _ _) ?_
    rintro w1 ⟨hq, hj, hb⟩
    have HB := hid hb
    have HQ := hid hq
    have HJ := hid hj
    clear hq hj hb
    generalize W.heap.size + 1 = J at *
    generalize hQ : W.heap.size = Q at HQ
    clear hQ
    have hSU : ∀ U, RowKit.Below w1.heap.size w1 U → ((U.cell? ⟨J, 0, none⟩ = some (.int .i64 id) ∧ U.cell? ⟨J, 1, none⟩ = some (.int .i64 scE) ∧ U.cell? ⟨J, 2, none⟩ = some (.int .i64 ee) ∧ U.cell? ⟨J, 3, none⟩ = some (.slice A1 ms.length ca) ∧ U.cell? ⟨J, 4, none⟩ = some (.slice P bd.length cb) ∧ U.cell? ⟨J, 5, none⟩ = some (.slice D dn.length cd))) := fun U hU => (six_cells (keep0 HJ.out hU)).1
    have hk0 : RowKit.Below w1.heap.size w1 w1.drew := below_drew (RowKit.Below.refl _ _)
    refine wp_region_held_drew (S := fun U => (U.cell? ⟨J, 0, none⟩ = some (.int .i64 id) ∧ U.cell? ⟨J, 1, none⟩ = some (.int .i64 scE) ∧ U.cell? ⟨J, 2, none⟩ = some (.int .i64 ee) ∧ U.cell? ⟨J, 3, none⟩ = some (.slice A1 ms.length ca) ∧ U.cell? ⟨J, 4, none⟩ = some (.slice P bd.length cb) ∧ U.cell? ⟨J, 5, none⟩ = some (.slice D dn.length cd))) (by kernel_rfl) (hSU _ hk0) (fun hHeld => ?_)
    generalize w1.drew = k0 at *
    refine wpAnyH_take (i := 0) (v := ?_) rfl (by kernel_rfl) (by kernel_rfl) (by kernel_rfl) (fun _ _ _ h => h) (Or.inl ⟨by rfl, ?_⟩) (by assumption) ?_
    rotate_left
    focus
      intro U hU
      try dsimp only at hU
      go_simp
      try (with_reducible rfl)
    simp only [List.getElem_toArray, List.getElem_cons_succ, List.getElem_cons_zero, Act.put, List.setIfInBounds_toArray, List.set_cons_zero, List.set_cons_succ]
    refine wpAnyH_take (i := 2) (v := ?_) rfl (by kernel_rfl) (by kernel_rfl) (by kernel_rfl) (fun _ _ _ h => h) (Or.inl ⟨by rfl, ?_⟩) (by assumption) ?_
    rotate_left
    focus
      intro U hU
      try dsimp only at hU
      go_simp
      try (with_reducible rfl)
    simp only [List.getElem_toArray, List.getElem_cons_succ, List.getElem_cons_zero, Act.put, List.setIfInBounds_toArray, List.set_cons_zero, List.set_cons_succ]
    refine wpAnyH_ready (rs := [1]) (by kernel_rfl) (by simp) ?_
    refine AllReadyH.cons rfl (fun K hK => ?_) AllReadyH.nil
    simp only [List.getElem_toArray, List.getElem_cons_succ, List.getElem_cons_zero]
    go_simp
    refine (HOP.out k0 (HB.out.trans (hk0.mono HB.out.size))).mono ?_
    rintro q k1 ⟨A2, c2, rfl, hs2, hb1⟩
    have hk1 := hk0.trans (hb1.mono hk0.size)
    have HI6 := hid (in06_any A2 _ c2 L0 i k1 hs2)
    rw [HDC.out] at HI6
    clear hb1 hs2
    go_wp2_with fail
    refine hK.out _ _ ?_ (fun hHeld2 => ?_)
    focus
      exact hSU _ hk1
    clear hHeld
    have hHeld := hHeld2
    clear hHeld2 hK K
    try simp only [List.getElem_toArray, List.getElem_cons_succ, List.getElem_cons_zero, Act.put, List.setIfInBounds_toArray, List.set_cons_zero, List.set_cons_succ]
    refine wpAnyH_ready (rs := [3]) (by kernel_rfl) (by simp) ?_
    refine AllReadyH.cons rfl (fun K hK => ?_) AllReadyH.nil
    simp only [List.getElem_toArray, List.getElem_cons_succ, List.getElem_cons_zero]
    go_simp
    refine HI6.out.mono ?_
    rintro q k1b ⟨rfl, rfl⟩
    go_wp2_with fail
    refine hK.out _ _ ?_ (fun hHeld2 => ?_)
    focus
      exact hSU _ hk1
    clear hHeld
    have hHeld := hHeld2
    clear hHeld2 hK K
    try simp only [List.getElem_toArray, List.getElem_cons_succ, List.getElem_cons_zero, Act.put, List.setIfInBounds_toArray, List.set_cons_zero, List.set_cons_succ]
    refine wpAnyH_take (i := 4) (v := ?_) rfl (by kernel_rfl) (by kernel_rfl) (by kernel_rfl) (fun _ _ _ h => h) (Or.inl ⟨by rfl, ?_⟩) (by assumption) ?_
    rotate_left
    focus
      intro U hU
      try dsimp only at hU
      go_simp
      try (with_reducible rfl)
    simp only [List.getElem_toArray, List.getElem_cons_succ, List.getElem_cons_zero, Act.put, List.setIfInBounds_toArray, List.set_cons_zero, List.set_cons_succ]
    refine wpAnyH_take (i := 5) (v := undef) rfl (by kernel_rfl) (by kernel_rfl) (by kernel_rfl) (fun _ _ _ h => h) (Or.inr ⟨by rfl, rfl⟩) (by assumption) ?_
    simp only [List.getElem_toArray, List.getElem_cons_succ, List.getElem_cons_zero, Act.put, List.setIfInBounds_toArray, List.set_cons_zero, List.set_cons_succ]
    refine wpAnyH_take (i := 6) (v := undef) rfl (by kernel_rfl) (by kernel_rfl) (by kernel_rfl) (fun _ _ _ h => h) (Or.inr ⟨by rfl, rfl⟩) (by assumption) ?_
    simp only [List.getElem_toArray, List.getElem_cons_succ, List.getElem_cons_zero, Act.put, List.setIfInBounds_toArray, List.set_cons_zero, List.set_cons_succ]
    refine wpAnyH_take (i := 7) (v := undef) rfl (by kernel_rfl) (by kernel_rfl) (by kernel_rfl) (fun _ _ _ h => h) (Or.inr ⟨by rfl, rfl⟩) (by assumption) ?_
    simp only [List.getElem_toArray, List.getElem_cons_succ, List.getElem_cons_zero, Act.put, List.setIfInBounds_toArray, List.set_cons_zero, List.set_cons_succ]
    refine wpAnyH_take (i := 8) (v := undef) rfl (by kernel_rfl) (by kernel_rfl) (by kernel_rfl) (fun _ _ _ h => h) (Or.inr ⟨by rfl, rfl⟩) (by assumption) ?_
    simp only [List.getElem_toArray, List.getElem_cons_succ, List.getElem_cons_zero, Act.put, List.setIfInBounds_toArray, List.set_cons_zero, List.set_cons_succ]
    refine wpAnyH_take (i := 9) (v := undef) rfl (by kernel_rfl) (by kernel_rfl) (by kernel_rfl) (fun _ _ _ h => h) (Or.inr ⟨by rfl, rfl⟩) (by assumption) ?_
    simp only [List.getElem_toArray, List.getElem_cons_succ, List.getElem_cons_zero, Act.put, List.setIfInBounds_toArray, List.set_cons_zero, List.set_cons_succ]
    refine wpAnyH_take (i := 10) (v := undef) rfl (by kernel_rfl) (by kernel_rfl) (by kernel_rfl) (fun _ _ _ h => h) (Or.inr ⟨by rfl, rfl⟩) (by assumption) ?_
    simp only [List.getElem_toArray, List.getElem_cons_succ, List.getElem_cons_zero, Act.put, List.setIfInBounds_toArray, List.set_cons_zero, List.set_cons_succ]
    refine wpAnyH_take (i := 11) (v := undef) rfl (by kernel_rfl) (by kernel_rfl) (by kernel_rfl) (fun _ _ _ h => h) (Or.inr ⟨by rfl, rfl⟩) (by assumption) ?_
    simp only [List.getElem_toArray, List.getElem_cons_succ, List.getElem_cons_zero, Act.put, List.setIfInBounds_toArray, List.set_cons_zero, List.set_cons_succ]
    refine wpAnyH_take (i := 12) (v := undef) rfl (by kernel_rfl) (by kernel_rfl) (by kernel_rfl) (fun _ _ _ h => h) (Or.inr ⟨by rfl, rfl⟩) (by assumption) ?_
    simp only [List.getElem_toArray, List.getElem_cons_succ, List.getElem_cons_zero, Act.put, List.setIfInBounds_toArray, List.set_cons_zero, List.set_cons_succ]
    refine wpAnyH_take (i := 13) (v := undef) rfl (by kernel_rfl) (by kernel_rfl) (by kernel_rfl) (fun _ _ _ h => h) (Or.inr ⟨by rfl, rfl⟩) (by assumption) ?_
    simp only [List.getElem_toArray, List.getElem_cons_succ, List.getElem_cons_zero, Act.put, List.setIfInBounds_toArray, List.set_cons_zero, List.set_cons_succ]
    refine wpAnyH_take (i := 14) (v := ?_) rfl (by kernel_rfl) (by kernel_rfl) (by kernel_rfl) (fun _ _ _ h => h) (Or.inl ⟨by rfl, ?_⟩) (by assumption) ?_
    rotate_left
    focus
      intro U hU
      try dsimp only at hU
      go_simp
      try (with_reducible rfl)
    simp only [List.getElem_toArray, List.getElem_cons_succ, List.getElem_cons_zero, Act.put, List.setIfInBounds_toArray, List.set_cons_zero, List.set_cons_succ]
    refine wpAnyH_take (i := 15) (v := ?_) rfl (by kernel_rfl) (by kernel_rfl) (by kernel_rfl) (fun _ _ _ h => h) (Or.inl ⟨by rfl, ?_⟩) (by assumption) ?_
    rotate_left
    focus
      intro U hU
      try dsimp only at hU
      go_simp
      try (with_reducible rfl)
    simp only [List.getElem_toArray, List.getElem_cons_succ, List.getElem_cons_zero, Act.put, List.setIfInBounds_toArray, List.set_cons_zero, List.set_cons_succ]
    refine wpAnyH_done (by kernel_rfl) ?_ _
    go_wp2
    go_ret
    exact ⟨rfl, HB.out.trans (hk1.mono HB.out.size)⟩

set_option maxRecDepth 20000 in
set_option maxHeartbeats 4000000 in
theorem rpick_any (x : Cf) (N : Option Addr) (nc : Nat) (K : Option Addr) (kc : Nat) (e : Ee) (wk : Int) (H : Option Addr) (hc : Nat) (h : List Bool) (W : World) (hC : CfAt W x N nc K kc) (hE : InE W e) (hh : HadAt W H hc h) (hbd : BdOk e.1) (hl : e.1.ns.length ≤ 100000 ∧ e.1.bd.length ≤ 100000 ∧ e.1.dn.length ≤ 100000) (hs : ∀ s ∈ e.1.ns, s.length ≤ 1000) (hw : x.ws.length ≤ 1000) :
    Calls Try.prog 38 #[.agg (cfc x N nc K kc), .agg (ecE e), .int .i64 wk, .slice H h.length hc] W fun q w' => q = .returned (.tuple #[.int .i64 (pickB e.1 x.T x.ws wk h).1, .bool (pickB e.1 x.T x.ws wk h).2.1]) ∧ RowKit.Below W.heap.size W w' := by
  have HPW := hid (fun u (hu : RowKit.Below W.heap.size W u) => rpendw_any e wk H hc h u (hE.below hu) (Sl.below hh hu) hbd hl)
  have HMY := hid (fun u (hu : RowKit.Below W.heap.size W u) (i : Int) => rmay_any x N nc K kc e wk i u (hC.below hu) (hE.below hu) hl hs hw)
  have HR1 := hid (fun t r (h1 : pndW e.1 h wk = t :: r) => pick_old (T := x.T) (ws := x.ws) h1)
  have HR2 := hid (fun (h1 : pndW e.1 h wk = []) (n : Nat) (h2 : mayB e.1 x.T x.ws wk n = true) (h3 : ∀ k : Nat, k < n → mayB e.1 x.T x.ws wk k = false) => pick_new h1 (may_yes h2 h3))
  have HR3 := hid (fun (h1 : pndW e.1 h wk = []) (h2 : ∀ k : Nat, k < e.1.ns.length → mayB e.1 x.T x.ws wk k = false) => pick_none h1 (may_none h2))
  have hl1 := hl.1
  obtain ⟨⟨id, scE, ee, ms, bd, dn⟩, ⟨A1, ca, P, cb, D, cd⟩⟩ := e
  obtain ⟨sc, le, ag, ro, ou, T, ws⟩ := x
  simp only at HPW HMY HR1 HR2 HR3 hl1 ⊢
  clear hC hE hh hbd hl hs hw
  simp only [ecE, cfc] at *
  generalize pickB ⟨id, scE, ee, ms, bd, dn⟩ T ws wk h = R at *
  obtain ⟨r1, r2, r3⟩ := R
  simp only
  generalize mayB ⟨id, scE, ee, ms, bd, dn⟩ T ws wk = mB at *
  generalize pndW ⟨id, scE, ee, ms, bd, dn⟩ h wk = PL at *
  generalize h.length = hn at *
  go_enter Try.func38, Try.ntmps38
  go_upto_region 1 with (fail)
  refine at_world (fun u => u.heap[W.heap.size]? = some (.cells #[.int .i64 sc, .int .i64 le, .int .i64 ag, .int .i64 ro, .int .i64 ou, .slice N T.length nc, .slice K ws.length kc] 25 (0, 0)) ∧ u.heap[W.heap.size + 1]? = some (.cells #[.int .i64 id, .int .i64 scE, .int .i64 ee, .slice A1 ms.length ca, .slice P bd.length cb, .slice D dn.length cd] 55 (0, 0)) ∧ RowKit.Below W.heap.size W u) (lay2 W _ _) ?_
  rintro w1 ⟨hq, hj, hb⟩
  have HB := hid hb
  have HQ := hid hq
  have HJ := hid hj
  clear hq hj hb
  generalize W.heap.size + 1 = J at *
  generalize hQ : W.heap.size = Q at HQ
  clear hQ
  obtain ⟨⟨p0, p1, p2, p3, p4, p5⟩, _⟩ := six_cells HJ.out
  go_wp2_with fail
  refine (HPW.out _ HB.out).mono ?_
  rintro e w2 ⟨A2, c2, rfl, hs2, hb2⟩
  have HS2 := hid hs2
  have HB2 := hid (HB.out.trans (hb2.mono HB.out.size))
  have HQ2 := hid (keep0 HQ.out hb2)
  have HJ2 := hid (keep0 HJ.out hb2)
  clear hs2 hb2 HPW HQ HJ HB p0 p1 p2 p3 p4 p5
  cases PL with
  | cons t r =>
    have hpl : (0 : Int) < ((t :: r).length : Nat) := by simp only [List.length_cons]; omega
    have hpl2 : 0 < (t :: r).length := by simp
    have hR := HR1.out t r rfl
    simp only [Prod.mk.injEq] at hR
    obtain ⟨rfl, rfl, rfl⟩ := hR
    have sL := HS2.out
    have hPN := sl_len64 sL
    obtain ⟨bL, oL, hL9, _⟩ := sL.2.2.2 (by rw [icells_length]; omega)
    subst hL9
    have cL := Sl.cell sL 0 hpl2
    simp only [List.getD_cons_zero, Nat.add_zero] at cL
    clear sL HS2 HR1 HR2 HR3 hpl2
    generalize (r1 :: r).length = pn at *
    go_wp2
    exact bodyPost_ret (v := .tuple #[.int .i64 r1, .bool false]) (by simp [results, Try.results38, go_sem]) rfl ⟨rfl, HB2.out⟩
  | nil =>
    simp only [List.length_nil] at *
    clear HS2 HR1
    go_wp2
    go_loopw [11] (fun i wr => ∃ n : Nat, n ≤ ms.length ∧ i = .int .i64 (n : Int) ∧ Hid (∀ k : Nat, k < n → mB k = false) ∧ Hid (RowKit.Below w2.heap.size w2 wr)) (fun i _ => ms.length - (intOf i).toNat)
    case atStart => exact ⟨0, by omega, rfl, fun k hk => absurd hk (by omega), RowKit.Below.refl _ _⟩
    case round =>
      obtain ⟨n, hn9, rfl, HT, HB4⟩ := hrel
      have HQ4 := hid (keep0 HQ2.out HB4.out)
      obtain ⟨⟨p0, p1, p2, p3, p4, p5⟩, _⟩ := six_cells (keep0 HJ2.out HB4.out)
      by_cases hlt : n < ms.length
      · have hlt2 : (n : Int) < (ms.length : Int) := by omega
        have hwn := wrap_succ n (by omega)
        have HYY := hid (fun (h9 : mB n = true) => HR2.out trivial n h9 HT.out)
        have HNN := hid (fun (h9 : mB n = false) => show ∀ k : Nat, k < n + 1 → mB k = false from fun k hk => by
          by_cases hk2 : k < n
          · exact HT.out k hk2
          · obtain rfl : k = n := by omega
            exact h9)
        have HMY2 := hid (HMY.out _ (HB2.out.trans (HB4.out.mono HB2.out.size)) (n : Int))
        obtain ⟨q0, q1, q2, q3, q4, q5, q6⟩ := seven_cellsJ HQ4.out
        clear HT HQ4
        generalize mB (n : Int) = b at *
        go_wp2_with fail
        refine HMY2.out.mono ?_
        rintro e w4 ⟨rfl, hb⟩
        have HB5 := hid (HB4.out.trans (hb.mono HB4.out.size))
        clear HMY2 p0 p1 p2 p3 p4 p5 q0 q1 q2 q3 q4 q5 q6 hb HB4
        cases b with
        | true =>
          have hR := HYY.out rfl
          simp only [Prod.mk.injEq] at hR
          obtain ⟨rfl, rfl, rfl⟩ := hR
          clear HYY HNN
          go_wp2
          exact bodyPost_ret (v := .tuple #[.int .i64 (n : Int), .bool true]) (by simp [results, Try.results38, go_sem]) rfl ⟨rfl, HB2.out.trans (HB5.out.mono HB2.out.size)⟩
        | false =>
          have HT2 := hid (HNN.out rfl)
          clear HYY HNN
          go_wp2
          go_roundw
          case rel => exact ⟨n + 1, by omega, by go_num, HT2, HB5⟩
          case measure => simp [intOf]; omega
      · have hge : ¬ (n : Int) < (ms.length : Int) := by omega
        obtain rfl : n = ms.length := by omega
        have hR := HR3.out trivial HT.out
        simp only [Prod.mk.injEq] at hR
        obtain ⟨rfl, rfl, rfl⟩ := hR
        clear HR3 HT
        go_wp2
        exact bodyPost_ret (v := .tuple #[.int .i64 (-1), .bool false]) (by simp [results, Try.results38, go_sem]) rfl ⟨rfl, HB2.out.trans (HB4.out.mono HB2.out.size)⟩
end Go.Proofs.Ytgakobolhmdnnaa
