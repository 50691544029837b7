/- Open, Left of both books; the document's Long: contracts. -/
import Derived.Test.YtkepfkfoblocgaaQR20B
import Derived.Test.YtkepfkfoblocgaaQStrL
import Derived.Lib.MinMax
namespace Go.Proofs.Ytkepfkfoblocgaa
open Go.RowKit Go.Sort
set_option linter.unusedVariables false
set_option linter.unusedSimpArgs false

/-- The tasks not bound, up to k. -/
def opk (e : En) (k : Nat) : List Int := ((List.range k).filter fun i => e.bd.getD i 0 == 0).map Int.ofNat
theorem opk_yes {e : En} {k : Nat} (h : e.bd.getD k 0 = 0) : opk e (k + 1) = opk e k ++ [(k : Int)] := by
  have h2 : (e.bd.getD k 0 == 0) = true := by rw [h]; rfl
  unfold opk
  rw [List.range_succ, List.filter_append, List.map_append]
  simp only [List.filter_cons, List.filter_nil, h2, if_true, List.map_cons, List.map_nil]
  rfl
theorem opk_no {e : En} {k : Nat} (h : ¬ e.bd.getD k 0 = 0) : opk e (k + 1) = opk e k := by
  have h2 : (e.bd.getD k 0 == 0) = false := by simpa using h
  unfold opk
  rw [List.range_succ, List.filter_append, List.map_append]
  simp only [List.filter_cons, List.filter_nil, h2, Bool.false_eq_true, if_false, List.map_nil, List.append_nil]
theorem opk_len (e : En) (k : Nat) : (opk e k).length ≤ k := by
  unfold opk
  rw [List.length_map]
  exact Nat.le_trans (List.length_filter_le _ _) (by simp)
def openB (e : En) : List Int := opk e (min e.ns.length e.bd.length)
/-- The tasks not done, up to k. -/
def lfk (e : En) (k : Nat) : Nat := (List.range k).countP fun i => !e.dn.getD i false
theorem lfk_yes {e : En} {k : Nat} (h : e.dn.getD k false = false) : lfk e (k + 1) = lfk e k + 1 := by
  have h2 : (!e.dn.getD k false) = true := by rw [h]; rfl
  unfold lfk
  rw [List.range_succ, List.countP_append]
  simp only [List.countP_cons, List.countP_nil, h2, if_true, Nat.zero_add]
theorem lfk_no {e : En} {k : Nat} (h : e.dn.getD k false = true) : lfk e (k + 1) = lfk e k := by
  have h2 : (!e.dn.getD k false) = false := by rw [h]; rfl
  unfold lfk
  rw [List.range_succ, List.countP_append]
  simp only [List.countP_cons, List.countP_nil, h2, Bool.false_eq_true, if_false, Nat.add_zero]
theorem lfk_le (e : En) (k : Nat) : lfk e k ≤ k := by
  unfold lfk
  exact Nat.le_trans List.countP_le_length (by simp)
def leftB (e : En) : Nat := lfk e (min e.ns.length e.dn.length)
theorem wrap_succ (n : Nat) (h : n ≤ 100000) : IntKind.i64.wrap ((n : Int) + 1) = (n : Int) + 1 := by
  simp [IntKind.wrap, IntKind.bits, IntKind.signed]
  omega

set_option maxRecDepth 20000 in
set_option maxHeartbeats 4000000 in
theorem bopen_any (e : Ee) (W : World) (h : InE W e) (hl : e.1.ns.length ≤ 100000 ∧ e.1.bd.length ≤ 100000 ∧ e.1.dn.length ≤ 100000) :
    Calls Try.prog 69 #[.agg (ecE e)] W fun x w' => ∃ A' c', x = .returned (.slice A' (openB e.1).length c') ∧ Sl w' 1 A' (openB e.1).length c' (icells .i64 (openB e.1)) ∧ RowKit.Below W.heap.size W w' := by
  obtain ⟨⟨id, sc, ee, ms, bd, dn⟩, ⟨A1, ca, P, cb, D, cd⟩⟩ := e
  obtain ⟨l1, l2, l3⟩ := hl
  simp only at l1 l2 l3
  have HR := hid h.2.1
  simp only at HR
  clear h
  simp only [ecE]
  obtain ⟨m, hm⟩ : ∃ m, min ms.length bd.length = m := ⟨_, rfl⟩
  have hv : openB ⟨id, sc, ee, ms, bd, dn⟩ = opk ⟨id, sc, ee, ms, bd, dn⟩ m := by rw [← hm]; rfl
  rw [hv]
  have m1 : m ≤ ms.length := by omega
  have m2 : m ≤ bd.length := by omega
  have m3 : m = ms.length ∨ m = bd.length := by omega
  have hmin : min (ms.length : Int) (bd.length : Int) = (m : Int) := by omega
  clear hm hv
  go_enter Try.func69, Try.ntmps69
  go_upto_region 1 with (fail)
  refine at_world (fun u => u.heap[W.heap.size]? = some (.cells #[.int .i64 id, .int .i64 sc, .int .i64 ee, .slice A1 ms.length ca, .slice P bd.length cb, .slice D dn.length cd] 93 (0, 0)) ∧ RowKit.Below W.heap.size W u) ⟨heap_alloc_new _ _, (RowKit.Below.refl _ _).alloc (Nat.le_refl _) _⟩ ?_
  rintro w1 ⟨hx1, hb1⟩
  have HX1 := hid hx1
  have HB1 := hid hb1
  have hWl := lt_of_block hx1
  obtain ⟨⟨p0, p1, p2, p3, p4, p5⟩, _⟩ := six_cells hx1
  clear hx1 hb1
  go_wp2
  clear p0 p1 p2 p3 p4 p5
  go_loopw [3, 4, 12] (fun v _ i wr => ∃ (n : Nat) (A' : Option Addr) (c' : Nat) (L : List Int), n ≤ m ∧ i = .int .i64 (n : Int) ∧ v = .slice A' L.length c' ∧ Hid (L = opk ⟨id, sc, ee, ms, bd, dn⟩ n ∧ wr.ownsRow w1.heap.size 3 1 (.slice A' L.length c') L.length (icells .i64 L)) ∧ Hid (RowKit.Below w1.heap.size w1 wr)) (fun _ _ i _ => m - (intOf i).toNat)
  case atStart => exact ⟨0, none, 0, [], by omega, rfl, rfl, ⟨rfl, World.ownsRow_nil _ _ _ _⟩, RowKit.Below.refl _ _⟩
  case round =>
    obtain ⟨n, A', c', L, hn, rfl, rfl, HO, HB⟩ := hrel
    have hLn : L.length ≤ n := by rw [HO.out.1]; exact opk_len _ _
    have HB2 := HB.out
    obtain ⟨⟨p0, p1, p2, p3, p4, p5⟩, _⟩ := six_cells (keep0 HX1.out HB.out)
    by_cases hlt : n < m
    · have hlt2 : (n : Int) < (m : Int) := by omega
      have hlt3 : (n : Int) < (ms.length : Int) := by omega
      have hlt4 : (n : Int) < (bd.length : Int) := by omega
      have i0 : ¬ (n : Int) < 0 := by omega
      have hwn := wrap_succ n (by omega)
      have sP := (HR.out.below HB1.out).below HB2
      obtain ⟨bP, oP, hP9, _⟩ := sP.2.2.2 (by rw [icells_length]; omega)
      rw [hP9] at sP p4
      have cP := Sl.cell sP n (by omega)
      clear sP hP9
      have HY := hid (fun (h : bd.getD n 0 = 0) => show L ++ [(n : Int)] = opk ⟨id, sc, ee, ms, bd, dn⟩ (n + 1) by rw [HO.out.1, opk_yes h])
      have HNO := hid (fun (h : ¬ bd.getD n 0 = 0) => show L = opk ⟨id, sc, ee, ms, bd, dn⟩ (n + 1) by rw [HO.out.1, opk_no h])
      have HOW := hid HO.out.2
      clear HO
      generalize bd.getD n 0 = z at *
      by_cases hz : z = 0
      · subst hz
        have HE := hid (HY.out rfl)
        clear HY HNO
        go_wp2_with (at_builtin; refine wpList_append_1 (W := w1) rfl (.tmp 21) (.tmp 23) 90 rfl w1.heap.size 3 Try.underlying90 info_int rfl (by omega) rfl HOW.out rfl (by rfl) (by simp [Value.oneCell']) ?e1 ?e2 HB.out.size HB.out ?_)
        case e1 => unfold maxLen; omega
        case e2 => omega
        intro v3 w3 ho3 hb3 _
        obtain ⟨A3, c3, rfl, _⟩ := Sl.of_own ho3
        have HO3 : Hid (L ++ [(n : Int)] = opk ⟨id, sc, ee, ms, bd, dn⟩ (n + 1) ∧ w3.ownsRow w1.heap.size 3 1 (.slice A3 (L ++ [(n : Int)]).length c3) (L ++ [(n : Int)]).length (icells .i64 (L ++ [(n : Int)]))) := hid ⟨HE.out, by rw [List.length_append, icells_append]; exact ho3⟩
        have HB3 := hid hb3
        have hL2 : L.length + 1 = (L ++ [(n : Int)]).length := by simp
        rw [hL2]
        clear ho3 hb3 HOW HE HB p0 p1 p2 p3 p4 p5 cP hL2
        generalize L ++ [(n : Int)] = L2 at *
        go_wp2
        go_roundw
        case rel => exact ⟨n + 1, A3, c3, L2, by omega, by go_num, rfl, HO3, HB3⟩
        case measure => simp [intOf]; omega
      · have hz2 : (z == 0) = false := by simpa using hz
        have HE := hid (HNO.out hz)
        clear HY HNO
        have HO3 := hid (And.intro HE.out HOW.out)
        clear HE HOW
        go_wp2
        go_roundw
        case rel => exact ⟨n + 1, A', c', L, by omega, by go_num, rfl, HO3, HB⟩
        case measure => simp [intOf]; omega
    · have hge : ¬ (n : Int) < (m : Int) := by omega
      obtain rfl : n = m := by omega
      go_wp2
      go_ret
      exact ⟨A', c', by rw [← HO.out.1]; rfl, by rw [← HO.out.1]; exact sl_own HO.out.2, HB1.out.trans (HB.out.mono HB1.out.size)⟩

set_option maxRecDepth 20000 in
set_option maxHeartbeats 4000000 in
theorem r20open_any (e : Ee) (W : World) (h : InE W e) (hl : e.1.ns.length ≤ 100000 ∧ e.1.bd.length ≤ 100000 ∧ e.1.dn.length ≤ 100000) :
    Calls Try.prog 70 #[.agg (ecE e)] W fun x w' => ∃ A' c', x = .returned (.slice A' (openB e.1).length c') ∧ Sl w' 1 A' (openB e.1).length c' (icells .i64 (openB e.1)) ∧ RowKit.Below W.heap.size W w' := by
  obtain ⟨⟨id, sc, ee, ms, bd, dn⟩, ⟨A1, ca, P, cb, D, cd⟩⟩ := e
  obtain ⟨l1, l2, l3⟩ := hl
  simp only at l1 l2 l3
  have HR := hid h.2.1
  simp only at HR
  clear h
  simp only [ecE]
  obtain ⟨m, hm⟩ : ∃ m, min ms.length bd.length = m := ⟨_, rfl⟩
  have hv : openB ⟨id, sc, ee, ms, bd, dn⟩ = opk ⟨id, sc, ee, ms, bd, dn⟩ m := by rw [← hm]; rfl
  rw [hv]
  have m1 : m ≤ ms.length := by omega
  have m2 : m ≤ bd.length := by omega
  have m3 : m = ms.length ∨ m = bd.length := by omega
  have hmin : min (ms.length : Int) (bd.length : Int) = (m : Int) := by omega
  clear hm hv
  go_enter Try.func70, Try.ntmps70
  go_upto_region 1 with (fail)
  refine at_world (fun u => u.heap[W.heap.size]? = some (.cells #[.int .i64 id, .int .i64 sc, .int .i64 ee, .slice A1 ms.length ca, .slice P bd.length cb, .slice D dn.length cd] 93 (0, 0)) ∧ RowKit.Below W.heap.size W u) ⟨heap_alloc_new _ _, (RowKit.Below.refl _ _).alloc (Nat.le_refl _) _⟩ ?_
  rintro w1 ⟨hx1, hb1⟩
  have HX1 := hid hx1
  have HB1 := hid hb1
  have hWl := lt_of_block hx1
  obtain ⟨⟨p0, p1, p2, p3, p4, p5⟩, _⟩ := six_cells hx1
  clear hx1 hb1
  go_wp2
  clear p0 p1 p2 p3 p4 p5
  go_loopw [3, 4] (fun v i wr => ∃ (n : Nat) (A' : Option Addr) (c' : Nat) (L : List Int), n ≤ m ∧ i = .int .i64 (n : Int) ∧ v = .slice A' L.length c' ∧ Hid (L = opk ⟨id, sc, ee, ms, bd, dn⟩ n ∧ wr.ownsRow w1.heap.size 3 1 (.slice A' L.length c') L.length (icells .i64 L)) ∧ Hid (RowKit.Below w1.heap.size w1 wr)) (fun _ i _ => m - (intOf i).toNat)
  case atStart => exact ⟨0, none, 0, [], by omega, rfl, rfl, ⟨rfl, World.ownsRow_nil _ _ _ _⟩, RowKit.Below.refl _ _⟩
  case round =>
    obtain ⟨n, A', c', L, hn, rfl, rfl, HO, HB⟩ := hrel
    have hLn : L.length ≤ n := by rw [HO.out.1]; exact opk_len _ _
    have HB2 := HB.out
    obtain ⟨⟨p0, p1, p2, p3, p4, p5⟩, _⟩ := six_cells (keep0 HX1.out HB.out)
    by_cases hlt : n < m
    · have hlt2 : (n : Int) < (m : Int) := by omega
      have hlt3 : (n : Int) < (ms.length : Int) := by omega
      have hlt4 : (n : Int) < (bd.length : Int) := by omega
      have i0 : ¬ (n : Int) < 0 := by omega
      have hwn := wrap_succ n (by omega)
      have sP := (HR.out.below HB1.out).below HB2
      obtain ⟨bP, oP, hP9, _⟩ := sP.2.2.2 (by rw [icells_length]; omega)
      rw [hP9] at sP p4
      have cP := Sl.cell sP n (by omega)
      clear sP hP9
      have HY := hid (fun (h : bd.getD n 0 = 0) => show L ++ [(n : Int)] = opk ⟨id, sc, ee, ms, bd, dn⟩ (n + 1) by rw [HO.out.1, opk_yes h])
      have HNO := hid (fun (h : ¬ bd.getD n 0 = 0) => show L = opk ⟨id, sc, ee, ms, bd, dn⟩ (n + 1) by rw [HO.out.1, opk_no h])
      have HOW := hid HO.out.2
      clear HO
      generalize bd.getD n 0 = z at *
      by_cases hz : z = 0
      · subst hz
        have HE := hid (HY.out rfl)
        clear HY HNO
        go_wp2_with (at_builtin; refine wpList_append_1 (W := w1) rfl (.tmp 25) (.tmp 27) 90 rfl w1.heap.size 3 Try.underlying90 info_int rfl (by omega) rfl HOW.out rfl (by rfl) (by simp [Value.oneCell']) ?e1 ?e2 HB.out.size HB.out ?_)
        case e1 => unfold maxLen; omega
        case e2 => omega
        intro v3 w3 ho3 hb3 _
        obtain ⟨A3, c3, rfl, _⟩ := Sl.of_own ho3
        have HO3 : Hid (L ++ [(n : Int)] = opk ⟨id, sc, ee, ms, bd, dn⟩ (n + 1) ∧ w3.ownsRow w1.heap.size 3 1 (.slice A3 (L ++ [(n : Int)]).length c3) (L ++ [(n : Int)]).length (icells .i64 (L ++ [(n : Int)]))) := hid ⟨HE.out, by rw [List.length_append, icells_append]; exact ho3⟩
        have HB3 := hid hb3
        have hL2 : L.length + 1 = (L ++ [(n : Int)]).length := by simp
        rw [hL2]
        clear ho3 hb3 HOW HE HB p0 p1 p2 p3 p4 p5 cP hL2
        generalize L ++ [(n : Int)] = L2 at *
        go_wp2
        go_roundw
        case rel => exact ⟨n + 1, A3, c3, L2, by omega, by go_num, rfl, HO3, HB3⟩
        case measure => simp [intOf]; omega
      · have hz2 : (z == 0) = false := by simpa using hz
        have HE := hid (HNO.out hz)
        clear HY HNO
        have HO3 := hid (And.intro HE.out HOW.out)
        clear HE HOW
        go_wp2
        go_roundw
        case rel => exact ⟨n + 1, A', c', L, by omega, by go_num, rfl, HO3, HB⟩
        case measure => simp [intOf]; omega
    · have hge : ¬ (n : Int) < (m : Int) := by omega
      obtain rfl : n = m := by omega
      rcases m3 with m3 | m3
      · have g1 : ¬ (n : Int) < (ms.length : Int) := by omega
        clear m3
        go_wp2
        go_ret
        exact ⟨A', c', by rw [← HO.out.1]; rfl, by rw [← HO.out.1]; exact sl_own HO.out.2, HB1.out.trans (HB.out.mono HB1.out.size)⟩
      · have g2 : ¬ (n : Int) < (bd.length : Int) := by omega
        clear m3
        by_cases g1 : (n : Int) < (ms.length : Int)
        · go_wp2
          go_ret
          exact ⟨A', c', by rw [← HO.out.1]; rfl, by rw [← HO.out.1]; exact sl_own HO.out.2, HB1.out.trans (HB.out.mono HB1.out.size)⟩
        · go_wp2
          go_ret
          exact ⟨A', c', by rw [← HO.out.1]; rfl, by rw [← HO.out.1]; exact sl_own HO.out.2, HB1.out.trans (HB.out.mono HB1.out.size)⟩

set_option maxRecDepth 20000 in
set_option maxHeartbeats 4000000 in
theorem bleft_any (e : Ee) (W : World) (h : InE W e) (hl : e.1.ns.length ≤ 100000 ∧ e.1.bd.length ≤ 100000 ∧ e.1.dn.length ≤ 100000) :
    Calls Try.prog 71 #[.agg (ecE e)] W fun x w' => x = .returned (.int .i64 (leftB e.1 : Nat)) ∧ RowKit.Below W.heap.size W w' := by
  obtain ⟨⟨id, sc, ee, ms, bd, dn⟩, ⟨A1, ca, P, cb, D, cd⟩⟩ := e
  obtain ⟨l1, l2, l3⟩ := hl
  simp only at l1 l2 l3
  have HR := hid h.2.2
  simp only at HR
  clear h
  simp only [ecE]
  obtain ⟨m, hm⟩ : ∃ m, min ms.length dn.length = m := ⟨_, rfl⟩
  have hv : leftB ⟨id, sc, ee, ms, bd, dn⟩ = lfk ⟨id, sc, ee, ms, bd, dn⟩ m := by rw [← hm]; rfl
  rw [hv]
  have m1 : m ≤ ms.length := by omega
  have m2 : m ≤ dn.length := by omega
  have m3 : m = ms.length ∨ m = dn.length := by omega
  have hmin : min (ms.length : Int) (dn.length : Int) = (m : Int) := by omega
  clear hm hv
  go_enter Try.func71, Try.ntmps71
  go_upto_region 1 with (fail)
  refine at_world (fun u => u.heap[W.heap.size]? = some (.cells #[.int .i64 id, .int .i64 sc, .int .i64 ee, .slice A1 ms.length ca, .slice P bd.length cb, .slice D dn.length cd] 93 (0, 0)) ∧ RowKit.Below W.heap.size W u) ⟨heap_alloc_new _ _, (RowKit.Below.refl _ _).alloc (Nat.le_refl _) _⟩ ?_
  rintro w1 ⟨hx1, hb1⟩
  have HX1 := hid hx1
  have HB1 := hid hb1
  have hWl := lt_of_block hx1
  obtain ⟨⟨p0, p1, p2, p3, p4, p5⟩, _⟩ := six_cells hx1
  clear hx1 hb1
  go_wp2
  clear p0 p1 p2 p3 p4 p5
  go_loopw [3, 4, 12] (fun v _ i wr => ∃ (n : Nat) (q : Nat), n ≤ m ∧ i = .int .i64 (n : Int) ∧ v = .int .i64 (q : Int) ∧ Hid (q = lfk ⟨id, sc, ee, ms, bd, dn⟩ n) ∧ Hid (RowKit.Below w1.heap.size w1 wr)) (fun _ _ i _ => m - (intOf i).toNat)
  case atStart => exact ⟨0, 0, by omega, rfl, rfl, rfl, RowKit.Below.refl _ _⟩
  case round =>
    obtain ⟨n, q, hn, rfl, rfl, HO, HB⟩ := hrel
    have hq : q ≤ n := by rw [HO.out]; exact lfk_le _ _
    have HB2 := HB.out
    obtain ⟨⟨p0, p1, p2, p3, p4, p5⟩, _⟩ := six_cells (keep0 HX1.out HB.out)
    by_cases hlt : n < m
    · have hlt2 : (n : Int) < (m : Int) := by omega
      have hlt3 : (n : Int) < (ms.length : Int) := by omega
      have hlt4 : (n : Int) < (dn.length : Int) := by omega
      have i0 : ¬ (n : Int) < 0 := by omega
      have hwn := wrap_succ n (by omega)
      have sP := (HR.out.below HB1.out).below HB2
      obtain ⟨bP, oP, hP9, _⟩ := sP.2.2.2 (by rw [blcells_length]; omega)
      rw [hP9] at sP p5
      have cP := Sl.blcell sP n (by omega)
      clear sP hP9
      have HY := hid (fun (h : dn.getD n false = false) => show q + 1 = lfk ⟨id, sc, ee, ms, bd, dn⟩ (n + 1) by rw [HO.out, lfk_yes h])
      have HNO := hid (fun (h : dn.getD n false = true) => show q = lfk ⟨id, sc, ee, ms, bd, dn⟩ (n + 1) by rw [HO.out, lfk_no h])
      have hwq := wrap_succ q (by omega)
      clear HO
      generalize dn.getD n false = z at *
      cases z
      case false =>
        have HE := hid (HY.out rfl)
        clear HY HNO
        go_wp2
        go_roundw
        case rel => exact ⟨n + 1, q + 1, by omega, by go_num, by go_num, HE, HB⟩
        case measure => simp [intOf]; omega
      case true =>
        have HE := hid (HNO.out rfl)
        clear HY HNO
        go_wp2
        go_roundw
        case rel => exact ⟨n + 1, q, by omega, by go_num, rfl, HE, HB⟩
        case measure => simp [intOf]; omega
    · have hge : ¬ (n : Int) < (m : Int) := by omega
      obtain rfl : n = m := by omega
      go_wp2
      go_ret
      exact ⟨by obtain rfl := HO.out; rfl, HB1.out.trans (HB.out.mono HB1.out.size)⟩

set_option maxRecDepth 20000 in
set_option maxHeartbeats 4000000 in
theorem r20left_any (e : Ee) (W : World) (h : InE W e) (hl : e.1.ns.length ≤ 100000 ∧ e.1.bd.length ≤ 100000 ∧ e.1.dn.length ≤ 100000) :
    Calls Try.prog 72 #[.agg (ecE e)] W fun x w' => x = .returned (.int .i64 (leftB e.1 : Nat)) ∧ RowKit.Below W.heap.size W w' := by
  obtain ⟨⟨id, sc, ee, ms, bd, dn⟩, ⟨A1, ca, P, cb, D, cd⟩⟩ := e
  obtain ⟨l1, l2, l3⟩ := hl
  simp only at l1 l2 l3
  have HR := hid h.2.2
  simp only at HR
  clear h
  simp only [ecE]
  obtain ⟨m, hm⟩ : ∃ m, min ms.length dn.length = m := ⟨_, rfl⟩
  have hv : leftB ⟨id, sc, ee, ms, bd, dn⟩ = lfk ⟨id, sc, ee, ms, bd, dn⟩ m := by rw [← hm]; rfl
  rw [hv]
  have m1 : m ≤ ms.length := by omega
  have m2 : m ≤ dn.length := by omega
  have m3 : m = ms.length ∨ m = dn.length := by omega
  have hmin : min (ms.length : Int) (dn.length : Int) = (m : Int) := by omega
  clear hm hv
  go_enter Try.func72, Try.ntmps72
  go_upto_region 1 with (fail)
  refine at_world (fun u => u.heap[W.heap.size]? = some (.cells #[.int .i64 id, .int .i64 sc, .int .i64 ee, .slice A1 ms.length ca, .slice P bd.length cb, .slice D dn.length cd] 93 (0, 0)) ∧ RowKit.Below W.heap.size W u) ⟨heap_alloc_new _ _, (RowKit.Below.refl _ _).alloc (Nat.le_refl _) _⟩ ?_
  rintro w1 ⟨hx1, hb1⟩
  have HX1 := hid hx1
  have HB1 := hid hb1
  have hWl := lt_of_block hx1
  obtain ⟨⟨p0, p1, p2, p3, p4, p5⟩, _⟩ := six_cells hx1
  clear hx1 hb1
  go_wp2
  clear p0 p1 p2 p3 p4 p5
  go_loopw [3, 4] (fun v i wr => ∃ (n : Nat) (q : Nat), n ≤ m ∧ i = .int .i64 (n : Int) ∧ v = .int .i64 (q : Int) ∧ Hid (q = lfk ⟨id, sc, ee, ms, bd, dn⟩ n) ∧ Hid (RowKit.Below w1.heap.size w1 wr)) (fun _ i _ => m - (intOf i).toNat)
  case atStart => exact ⟨0, 0, by omega, rfl, rfl, rfl, RowKit.Below.refl _ _⟩
  case round =>
    obtain ⟨n, q, hn, rfl, rfl, HO, HB⟩ := hrel
    have hq : q ≤ n := by rw [HO.out]; exact lfk_le _ _
    have HB2 := HB.out
    obtain ⟨⟨p0, p1, p2, p3, p4, p5⟩, _⟩ := six_cells (keep0 HX1.out HB.out)
    by_cases hlt : n < m
    · have hlt2 : (n : Int) < (m : Int) := by omega
      have hlt3 : (n : Int) < (ms.length : Int) := by omega
      have hlt4 : (n : Int) < (dn.length : Int) := by omega
      have i0 : ¬ (n : Int) < 0 := by omega
      have hwn := wrap_succ n (by omega)
      have sP := (HR.out.below HB1.out).below HB2
      obtain ⟨bP, oP, hP9, _⟩ := sP.2.2.2 (by rw [blcells_length]; omega)
      rw [hP9] at sP p5
      have cP := Sl.blcell sP n (by omega)
      clear sP hP9
      have HY := hid (fun (h : dn.getD n false = false) => show q + 1 = lfk ⟨id, sc, ee, ms, bd, dn⟩ (n + 1) by rw [HO.out, lfk_yes h])
      have HNO := hid (fun (h : dn.getD n false = true) => show q = lfk ⟨id, sc, ee, ms, bd, dn⟩ (n + 1) by rw [HO.out, lfk_no h])
      have hwq := wrap_succ q (by omega)
      clear HO
      generalize dn.getD n false = z at *
      cases z
      case false =>
        have HE := hid (HY.out rfl)
        clear HY HNO
        go_wp2
        go_roundw
        case rel => exact ⟨n + 1, q + 1, by omega, by go_num, by go_num, HE, HB⟩
        case measure => simp [intOf]; omega
      case true =>
        have HE := hid (HNO.out rfl)
        clear HY HNO
        go_wp2
        go_roundw
        case rel => exact ⟨n + 1, q, by omega, by go_num, rfl, HE, HB⟩
        case measure => simp [intOf]; omega
    · have hge : ¬ (n : Int) < (m : Int) := by omega
      obtain rfl : n = m := by omega
      rcases m3 with m3 | m3
      · have g1 : ¬ (n : Int) < (ms.length : Int) := by omega
        clear m3
        go_wp2
        go_ret
        exact ⟨by obtain rfl := HO.out; rfl, HB1.out.trans (HB.out.mono HB1.out.size)⟩
      · have g2 : ¬ (n : Int) < (dn.length : Int) := by omega
        clear m3
        by_cases g1 : (n : Int) < (ms.length : Int)
        · go_wp2
          go_ret
          exact ⟨by obtain rfl := HO.out; rfl, HB1.out.trans (HB.out.mono HB1.out.size)⟩
        · go_wp2
          go_ret
          exact ⟨by obtain rfl := HO.out; rfl, HB1.out.trans (HB.out.mono HB1.out.size)⟩

/-- Is a book longer than is looked at? -/
def longBk (b : List En) : Bool := b.any (fun e => longB e.ns 30 300 || decide (30 < e.bd.length) || decide (30 < e.dn.length)) || decide (60 < b.length)
theorem longBk_yes {b : List En} {k : Nat} (hk : k < b.length) (h : (longB b[k].ns 30 300 || decide (30 < b[k].bd.length) || decide (30 < b[k].dn.length)) = true) : true = longBk b := by
  unfold longBk
  rw [List.any_eq_true.2 ⟨_, List.getElem_mem hk, h⟩]
  rfl
theorem longBk_end {b : List En} (h : ∀ k (hk : k < b.length), (longB b[k].ns 30 300 || decide (30 < b[k].bd.length) || decide (30 < b[k].dn.length)) = false) : decide (60 < b.length) = longBk b := by
  unfold longBk
  have : (b.any fun e => longB e.ns 30 300 || decide (30 < e.bd.length) || decide (30 < e.dn.length)) = false := by
    rw [List.any_eq_false]
    intro x hx
    obtain ⟨k, hk, rfl⟩ := List.getElem_of_mem hx
    rw [h k hk]; simp
  rw [this, Bool.false_or]
theorem longBk_sm {xs : List Ee} (h : longBk (xs.map (·.1)) = false) : xs.length ≤ 60 ∧ ∀ y ∈ xs, y.1.bd.length ≤ 30 ∧ y.1.dn.length ≤ 30 ∧ longB y.1.ns 30 300 = false := by
  unfold longBk at h
  rw [Bool.or_eq_false_iff] at h
  have h1 := of_decide_eq_false h.2
  refine ⟨by simpa using h1, fun y hy => ?_⟩
  have h2 := List.any_eq_false.1 h.1 y.1 (List.mem_map_of_mem hy)
  simp only [Bool.or_eq_true, decide_eq_true_eq, not_or] at h2
  exact ⟨by omega, by omega, by simpa using h2.1.1⟩
set_option maxRecDepth 20000 in
set_option maxHeartbeats 4000000 in
theorem r20long_any (A : Option Addr) (c : Nat) (xs : List Ee) (W : World) (h : InBk W A c xs) :
    Calls Try.prog 58 #[.slice A xs.length c] W fun e w' => e = .returned (.bool (longBk (xs.map (·.1)))) ∧ RowKit.Below W.heap.size W w' := by
  have HX := hid h
  have hxl : xs.length ≤ 9223372036854775807 := by have := h.len; unfold maxLen at this; omega
  have HY := hid (fun k (hk : k < xs.length) (h : (longB xs[k].1.ns 30 300 || decide (30 < xs[k].1.bd.length) || decide (30 < xs[k].1.dn.length)) = true) => longBk_yes (b := xs.map (·.1)) (k := k) (by simpa using hk) (by simpa using h))
  have HE := hid (fun (h : ∀ k (hk : k < xs.length), (longB xs[k].1.ns 30 300 || decide (30 < xs[k].1.bd.length) || decide (30 < xs[k].1.dn.length)) = false) => longBk_end (b := xs.map (·.1)) (fun k hk => by simpa using h k (by simpa using hk)))
  rw [List.length_map] at HE
  clear h
  generalize longBk (xs.map (·.1)) = R at *
  go_enter Try.func58, Try.ntmps58
  go_wp2
  go_loopw [3] (fun i wr => ∃ k : Nat, k ≤ xs.length ∧ i = .int .i64 (k : Int) ∧ Hid (∀ j (hj : j < xs.length), j < k → (longB xs[j].1.ns 30 300 || decide (30 < xs[j].1.bd.length) || decide (30 < xs[j].1.dn.length)) = false) ∧ Hid (RowKit.Below W.heap.size W wr)) (fun i _ => xs.length - (intOf i).toNat)
  case atStart => exact ⟨0, by omega, rfl, fun j hj h => absurd h (by omega), RowKit.Below.refl _ _⟩
  case round =>
    obtain ⟨k, hk, rfl, HT, HB⟩ := hrel
    by_cases hlt : k < xs.length
    · have hlt2 : (k : Int) < (xs.length : Int) := by omega
      have i0 : ¬ (k : Int) < 0 := by omega
      obtain ⟨b, off, hAA, q0, q1, q2, q3, q4, q5⟩ := (HX.out.below HB.out).el k hlt
      have HIN := hid ((HX.out.2 _ (List.getElem_mem hlt)).below HB.out)
      have HY2 := hid (HY.out k hlt)
      have HT3 := hid (fun (hne : (longB xs[k].1.ns 30 300 || decide (30 < xs[k].1.bd.length) || decide (30 < xs[k].1.dn.length)) = false) => show ∀ j (hj : j < xs.length), j < k + 1 → (longB xs[j].1.ns 30 300 || decide (30 < xs[j].1.bd.length) || decide (30 < xs[j].1.dn.length)) = false from fun j hj hjk => by
        by_cases hjk2 : j < k
        · exact HT.out j hj hjk2
        · obtain rfl : j = k := by omega
          exact hne)
      subst hAA
      generalize xs[k]'hlt = ya at *
      obtain ⟨⟨id, sc, ee, ms, bd, dn⟩, ⟨A1, ca, P, cb, D, cd⟩⟩ := ya
      simp only at q0 q1 q2 q3 q4 q5
      have l3 := sl_len64 HIN.out.2.1
      have l5 := sl_len64 HIN.out.2.2
      simp only at l3 l5
      have HL := hid (long_any A1 ms.length ca ms 30 300 wr HIN.out.1.1 HIN.out.1.2)
      simp only at HY2 HT3
      clear HIN
      generalize longB ms 30 300 = lb at *
      go_wp2_with fail
      refine HL.out.mono ?_
      rintro e w2 ⟨rfl, rfl⟩
      clear HL
      cases lb
      case true =>
        have HRR := hid (HY2.out (by simp))
        clear HY2 HT3
        go_wp2
        go_ret
        exact ⟨by obtain rfl := HRR.out; rfl, HB.out⟩
      case false =>
        by_cases h1 : 30 < bd.length
        · have h1i : (30 : Int) < (bd.length : Int) := by omega
          have HRR := hid (HY2.out (by simp [h1]))
          clear HY2 HT3
          go_wp2
          go_ret
          exact ⟨by obtain rfl := HRR.out; rfl, HB.out⟩
        · have h1i : ¬ (30 : Int) < (bd.length : Int) := by omega
          by_cases h2 : 30 < dn.length
          · have h2i : (30 : Int) < (dn.length : Int) := by omega
            have HRR := hid (HY2.out (by simp [h2]))
            clear HY2 HT3
            go_wp2
            go_ret
            exact ⟨by obtain rfl := HRR.out; rfl, HB.out⟩
          · have h2i : ¬ (30 : Int) < (dn.length : Int) := by omega
            have HT4 := hid (HT3.out (by simp [h1, h2]))
            clear HY2 HT3
            go_wp2
            go_roundw
            case rel => exact ⟨k + 1, by omega, by go_num, HT4, HB⟩
            case measure => simp [intOf]; omega
    · have hge : ¬ (k : Int) < (xs.length : Int) := by omega
      have HRR := hid (HE.out (fun j hj => HT.out j hj (by omega)))
      by_cases h60 : 60 < xs.length
      · have h60i : (60 : Int) < (xs.length : Int) := by omega
        have d60 : true = R := by rw [← HRR.out]; exact (decide_eq_true h60).symm
        obtain rfl := d60
        go_wp2
        go_ret
        exact ⟨rfl, HB.out⟩
      · have h60i : ¬ (60 : Int) < (xs.length : Int) := by omega
        have d60 : false = R := by rw [← HRR.out]; exact (decide_eq_false h60).symm
        obtain rfl := d60
        go_wp2
        go_ret
        exact ⟨rfl, HB.out⟩
end Go.Proofs.Ytkepfkfoblocgaa
