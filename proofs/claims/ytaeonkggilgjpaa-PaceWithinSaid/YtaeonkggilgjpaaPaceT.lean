/- What a tick of a pace does. -/
import Derived.Test.YtaeonkggilgjpaaPaceC
namespace Go.Proofs.Ytaeonkggilgjpaa
open Go.RowKit Go.Sort

def dbl (w : Int) : Int := if w < 8 then 2 * w else 8
def tkW (w l : Int) : Int := if pok w l then (if l = 1 then dbl w else w) else 1
def tkL (w l : Int) : Int := if pok w l then (if l = 0 then 0 else if l = 1 then dbl w else l - 1) else 0
def tkB (w l : Int) : Bool := pok w l && l == 1

theorem dbl_of {w : Int} (h : w = 1 ∨ w = 2 ∨ w = 4 ∨ w = 8) : (w < 8 ∧ dbl w = 2 * w ∧ 2 * w ≤ 8) ∨ (w = 8 ∧ dbl w = 8) := by
  unfold dbl; rcases h with rfl | rfl | rfl | rfl <;> simp

theorem blk_after {W w1 : World} {o o' : Obj} (hb : Below ((W.alloc o).alloc o').heap.size ((W.alloc o).alloc o') w1) : w1.heap[W.heap.size]? = some o ∧ w1.heap[W.heap.size + 1]? = some o' :=
  ⟨(hb.block _ (by simp; omega)).trans (heap_first W o o'), (hb.block _ (by simp)).trans (heap_second W o o')⟩
theorem below2 (W : World) (o o' : Obj) : Below W.heap.size W ((W.alloc o).alloc o') := ((Below.refl _ _).alloc (Nat.le_refl _) _).alloc (by simp) _

theorem tick_no (w l : Int) (W : World) (hp : ¬ pok w l = true) : Calls Try.prog 30 #[.agg #[.int .i64 w, .int .i64 l]] W fun e w' => e = .returned (.tuple #[.agg #[.int .i64 1, .int .i64 0], .bool false]) ∧ Below W.heap.size W w' := by
  have hq : pok w l = false := by simpa using hp
  have HC := hid (check_any w l)
  rw [hq] at HC
  clear hp hq
  go_enter Try.func30, Try.ntmps30
  go_wp2_with fail
  refine (HC.out _).mono ?_
  rintro e w1 ⟨rfl, hb⟩
  obtain ⟨k0, k1⟩ := blk_after hb
  have hb1 := (below2 W _ _).trans (hb.mono (by simp; omega))
  have hz := hb1.size
  clear hb
  go_wp2_with fail
  refine (new_any _).mono ?_
  rintro e w2 ⟨rfl, hb2⟩
  replace k0 := (hb2.block W.heap.size (lt_of_cell (two_cells k0).1)).trans k0
  replace k1 := (hb2.block (W.heap.size + 1) (lt_of_cell (two_cells k1).1)).trans k1
  replace hb1 := hb1.trans (hb2.mono hz)
  obtain ⟨p0, p1, f0, f1⟩ := two_cells k0
  obtain ⟨q0, q1, g0, g1⟩ := two_cells k1
  clear k0 k1 hz
  clear hb2
  go_wp2
  exact bodyPost_ret (v := .tuple #[.agg #[.int .i64 1, .int .i64 0], .bool false]) (by simp [results, Try.results30, go_sem, q0, q1]) rfl ⟨rfl, ((((hb1).setCell (Nat.le_refl _) _).setCell (Nat.le_refl _) _).setCell (by simp) _).setCell (by simp) _⟩

theorem tick_0 (w l : Int) (W : World) (hp : pok w l = true) (hl : l = 0) : Calls Try.prog 30 #[.agg #[.int .i64 w, .int .i64 l]] W fun e w' => e = .returned (.tuple #[.agg #[.int .i64 w, .int .i64 0], .bool false]) ∧ Below W.heap.size W w' := by
  subst hl
  have HC := hid (check_any w 0)
  rw [hp] at HC
  clear hp
  go_enter Try.func30, Try.ntmps30
  go_wp2_with fail
  refine (HC.out _).mono ?_
  rintro e w1 ⟨rfl, hb⟩
  obtain ⟨k0, k1⟩ := blk_after hb
  have hb1 := (below2 W _ _).trans (hb.mono (by simp; omega))
  have hz := hb1.size
  clear hb
  obtain ⟨p0, p1, f0, f1⟩ := two_cells k0
  obtain ⟨q0, q1, g0, g1⟩ := two_cells k1
  clear k0 k1 hz
  go_wp2
  exact bodyPost_ret (v := .tuple #[.agg #[.int .i64 w, .int .i64 0], .bool false]) (by simp [results, Try.results30, go_sem, q0, q1]) rfl ⟨rfl, ((hb1).setCell (by simp) _).setCell (by simp) _⟩

theorem tick_m (w l : Int) (W : World) (hp : pok w l = true) (hl : 1 < l) : Calls Try.prog 30 #[.agg #[.int .i64 w, .int .i64 l]] W fun e w' => e = .returned (.tuple #[.agg #[.int .i64 w, .int .i64 (l - 1)], .bool false]) ∧ Below W.heap.size W w' := by
  have h8 : l ≤ 8 := by have := (pok_iff w l).1 hp; omega
  have HC := hid (check_any w l)
  rw [hp] at HC
  clear hp
  go_enter Try.func30, Try.ntmps30
  go_wp2_with fail
  refine (HC.out _).mono ?_
  rintro e w1 ⟨rfl, hb⟩
  obtain ⟨k0, k1⟩ := blk_after hb
  have hb1 := (below2 W _ _).trans (hb.mono (by simp; omega))
  have hz := hb1.size
  clear hb
  obtain ⟨p0, p1, f0, f1⟩ := two_cells k0
  obtain ⟨q0, q1, g0, g1⟩ := two_cells k1
  clear k0 k1 hz
  have n0 : (l == 0) = false := by simp; omega
  go_wp2
  exact bodyPost_ret (v := .tuple #[.agg #[.int .i64 w, .int .i64 (l - 1)], .bool false]) (by simp [results, Try.results30, go_sem, q0, q1]) rfl ⟨rfl, (((hb1).setCell (Nat.le_refl _) _).setCell (by simp) _).setCell (by simp) _⟩

theorem tick_1a (w l : Int) (W : World) (hp : pok w l = true) (hl : l = 1) (hw : w < 8) : Calls Try.prog 30 #[.agg #[.int .i64 w, .int .i64 l]] W fun e w' => e = .returned (.tuple #[.agg #[.int .i64 (2 * w), .int .i64 (2 * w)], .bool true]) ∧ Below W.heap.size W w' := by
  subst hl
  have h1 := (pok_iff w 1).1 hp
  have h2 : 2 * w ≤ 8 := by omega
  have h3 : 1 ≤ w := by omega
  clear h1
  have HC := hid (check_any w 1)
  rw [hp] at HC
  clear hp
  go_enter Try.func30, Try.ntmps30
  go_wp2_with fail
  refine (HC.out _).mono ?_
  rintro e w1 ⟨rfl, hb⟩
  obtain ⟨k0, k1⟩ := blk_after hb
  have hb1 := (below2 W _ _).trans (hb.mono (by simp; omega))
  have hz := hb1.size
  clear hb
  obtain ⟨p0, p1, f0, f1⟩ := two_cells k0
  obtain ⟨q0, q1, g0, g1⟩ := two_cells k1
  clear k0 k1 hz
  go_wp2
  exact bodyPost_ret (v := .tuple #[.agg #[.int .i64 (2 * w), .int .i64 (2 * w)], .bool true]) (by simp [results, Try.results30, go_sem, q0, q1]) rfl ⟨rfl, (((hb1).setCell (Nat.le_refl _) _).setCell (by simp) _).setCell (by simp) _⟩

theorem tick_1b (w l : Int) (W : World) (hp : pok w l = true) (hl : l = 1) (hw : w = 8) : Calls Try.prog 30 #[.agg #[.int .i64 w, .int .i64 l]] W fun e w' => e = .returned (.tuple #[.agg #[.int .i64 8, .int .i64 8], .bool true]) ∧ Below W.heap.size W w' := by
  subst hl
  subst hw
  have HC := hid (check_any 8 1)
  rw [hp] at HC
  clear hp
  go_enter Try.func30, Try.ntmps30
  go_wp2_with fail
  refine (HC.out _).mono ?_
  rintro e w1 ⟨rfl, hb⟩
  obtain ⟨k0, k1⟩ := blk_after hb
  have hb1 := (below2 W _ _).trans (hb.mono (by simp; omega))
  have hz := hb1.size
  clear hb
  obtain ⟨p0, p1, f0, f1⟩ := two_cells k0
  obtain ⟨q0, q1, g0, g1⟩ := two_cells k1
  clear k0 k1 hz
  go_wp2
  exact bodyPost_ret (v := .tuple #[.agg #[.int .i64 8, .int .i64 8], .bool true]) (by simp [results, Try.results30, go_sem, q0, q1]) rfl ⟨rfl, (((hb1).setCell (Nat.le_refl _) _).setCell (by simp) _).setCell (by simp) _⟩

theorem rtick_no (w l : Int) (W : World) (hp : ¬ pok w l = true) : Calls Try.prog 31 #[.agg #[.int .i64 w, .int .i64 l]] W fun e w' => e = .returned (.tuple #[.agg #[.int .i64 1, .int .i64 0], .bool false]) ∧ Below W.heap.size W w' := by
  have hq : pok w l = false := by simpa using hp
  have HC := hid (rcheck_any w l)
  rw [hq] at HC
  clear hp hq
  go_enter Try.func31, Try.ntmps31
  go_wp2_with fail
  refine (HC.out _).mono ?_
  rintro e w1 ⟨rfl, hb⟩
  obtain ⟨k0, k1⟩ := blk_after hb
  have hb1 := (below2 W _ _).trans (hb.mono (by simp; omega))
  have hz := hb1.size
  clear hb
  obtain ⟨p0, p1, f0, f1⟩ := two_cells k0
  obtain ⟨q0, q1, g0, g1⟩ := two_cells k1
  clear k0 k1 hz
  go_wp2
  exact bodyPost_ret (v := .tuple #[.agg #[.int .i64 1, .int .i64 0], .bool false]) (by simp [results, Try.results31, go_sem, q0, q1]) rfl ⟨rfl, ((hb1).setCell (by simp) _).setCell (by simp) _⟩

theorem rtick_0 (w l : Int) (W : World) (hp : pok w l = true) (hl : l = 0) : Calls Try.prog 31 #[.agg #[.int .i64 w, .int .i64 l]] W fun e w' => e = .returned (.tuple #[.agg #[.int .i64 w, .int .i64 0], .bool false]) ∧ Below W.heap.size W w' := by
  subst hl
  have HC := hid (rcheck_any w 0)
  rw [hp] at HC
  clear hp
  go_enter Try.func31, Try.ntmps31
  go_wp2_with fail
  refine (HC.out _).mono ?_
  rintro e w1 ⟨rfl, hb⟩
  obtain ⟨k0, k1⟩ := blk_after hb
  have hb1 := (below2 W _ _).trans (hb.mono (by simp; omega))
  have hz := hb1.size
  clear hb
  obtain ⟨p0, p1, f0, f1⟩ := two_cells k0
  obtain ⟨q0, q1, g0, g1⟩ := two_cells k1
  clear k0 k1 hz
  go_wp2
  exact bodyPost_ret (v := .tuple #[.agg #[.int .i64 w, .int .i64 0], .bool false]) (by simp [results, Try.results31, go_sem, q0, q1]) rfl ⟨rfl, ((hb1).setCell (by simp) _).setCell (by simp) _⟩

theorem rtick_m (w l : Int) (W : World) (hp : pok w l = true) (hl : 1 < l) : Calls Try.prog 31 #[.agg #[.int .i64 w, .int .i64 l]] W fun e w' => e = .returned (.tuple #[.agg #[.int .i64 w, .int .i64 (l - 1)], .bool false]) ∧ Below W.heap.size W w' := by
  have h8 : l ≤ 8 := by have := (pok_iff w l).1 hp; omega
  have HC := hid (rcheck_any w l)
  rw [hp] at HC
  clear hp
  go_enter Try.func31, Try.ntmps31
  go_wp2_with fail
  refine (HC.out _).mono ?_
  rintro e w1 ⟨rfl, hb⟩
  obtain ⟨k0, k1⟩ := blk_after hb
  have hb1 := (below2 W _ _).trans (hb.mono (by simp; omega))
  have hz := hb1.size
  clear hb
  obtain ⟨p0, p1, f0, f1⟩ := two_cells k0
  obtain ⟨q0, q1, g0, g1⟩ := two_cells k1
  clear k0 k1 hz
  have n0 : (l == 0) = false := by simp; omega
  go_wp2
  exact bodyPost_ret (v := .tuple #[.agg #[.int .i64 w, .int .i64 (l - 1)], .bool false]) (by simp [results, Try.results31, go_sem, q0, q1]) rfl ⟨rfl, ((hb1).setCell (by simp) _).setCell (by simp) _⟩

theorem rtick_1a (w l : Int) (W : World) (hp : pok w l = true) (hl : l = 1) (hw : w < 8) : Calls Try.prog 31 #[.agg #[.int .i64 w, .int .i64 l]] W fun e w' => e = .returned (.tuple #[.agg #[.int .i64 (2 * w), .int .i64 (2 * w)], .bool true]) ∧ Below W.heap.size W w' := by
  subst hl
  have h1 := (pok_iff w 1).1 hp
  have h2 : 2 * w ≤ 8 := by omega
  have h3 : 1 ≤ w := by omega
  clear h1
  have HC := hid (rcheck_any w 1)
  rw [hp] at HC
  clear hp
  go_enter Try.func31, Try.ntmps31
  go_wp2_with fail
  refine (HC.out _).mono ?_
  rintro e w1 ⟨rfl, hb⟩
  obtain ⟨k0, k1⟩ := blk_after hb
  have hb1 := (below2 W _ _).trans (hb.mono (by simp; omega))
  have hz := hb1.size
  clear hb
  obtain ⟨p0, p1, f0, f1⟩ := two_cells k0
  obtain ⟨q0, q1, g0, g1⟩ := two_cells k1
  clear k0 k1 hz
  go_wp2
  exact bodyPost_ret (v := .tuple #[.agg #[.int .i64 (2 * w), .int .i64 (2 * w)], .bool true]) (by simp [results, Try.results31, go_sem, q0, q1]) rfl ⟨rfl, ((hb1).setCell (by simp) _).setCell (by simp) _⟩

theorem rtick_1b (w l : Int) (W : World) (hp : pok w l = true) (hl : l = 1) (hw : w = 8) : Calls Try.prog 31 #[.agg #[.int .i64 w, .int .i64 l]] W fun e w' => e = .returned (.tuple #[.agg #[.int .i64 8, .int .i64 8], .bool true]) ∧ Below W.heap.size W w' := by
  subst hl
  subst hw
  have HC := hid (rcheck_any 8 1)
  rw [hp] at HC
  clear hp
  go_enter Try.func31, Try.ntmps31
  go_wp2_with fail
  refine (HC.out _).mono ?_
  rintro e w1 ⟨rfl, hb⟩
  obtain ⟨k0, k1⟩ := blk_after hb
  have hb1 := (below2 W _ _).trans (hb.mono (by simp; omega))
  have hz := hb1.size
  clear hb
  obtain ⟨p0, p1, f0, f1⟩ := two_cells k0
  obtain ⟨q0, q1, g0, g1⟩ := two_cells k1
  clear k0 k1 hz
  go_wp2
  exact bodyPost_ret (v := .tuple #[.agg #[.int .i64 8, .int .i64 8], .bool true]) (by simp [results, Try.results31, go_sem, q0, q1]) rfl ⟨rfl, ((hb1).setCell (by simp) _).setCell (by simp) _⟩

end Go.Proofs.Ytaeonkggilgjpaa
