/- The laws on the pace package, as walks. -/
import Derived.Test.YtaeonkggilgjpaaPaceV
namespace Go.Proofs.Ytaeonkggilgjpaa
open Go.RowKit Go.Sort

theorem alloc3_old (w : World) (a b c : Obj) (k : Nat) (h : k < w.heap.size) : (((w.alloc a).alloc b).alloc c).heap[k]? = w.heap[k]? := by
  rw [Below.heap_alloc _ _ _ (by simp; omega), Below.heap_alloc _ _ _ (by simp; omega), Below.heap_alloc _ _ _ h]
theorem alloc3_0 (w : World) (a b c : Obj) : (((w.alloc a).alloc b).alloc c).heap[w.heap.size]? = some a := by
  rw [Below.heap_alloc _ _ _ (by simp; omega)]; exact heap_first w a b
theorem alloc3_1 (w : World) (a b c : Obj) : (((w.alloc a).alloc b).alloc c).heap[w.heap.size + 1]? = some b := by
  rw [Below.heap_alloc _ _ _ (by simp)]; exact heap_second w a b
theorem alloc3_2 (w : World) (a b c : Obj) : (((w.alloc a).alloc b).alloc c).heap[w.heap.size + 2]? = some c := by
  have := heap_alloc_new ((w.alloc a).alloc b) c
  simpa using this

theorem tks_big (N : Nat) (h : 10 ≤ N) : tks N = 63 + 8 * ((N : Int) - 10) := by unfold tks; rw [if_neg (by omega), if_neg (by omega), if_neg (by omega)]; omega

theorem paceWithin_any (n : Int) (W : World) : Calls Try.prog 7 #[.int .i64 n] W fun e w' => e = .returned (.bool true) ∧ Below W.heap.size W w' := by
  by_cases h0 : n < 0
  · have h1 : n ≤ 3000 := by omega
    have H1 := hid (within_neg n W h0)
    have H2 := hid (rwithin_neg n W (by omega))
    go_enter Try.func7, Try.ntmps7
    go_wp2_with fail
    refine H1.out.mono ?_
    rintro e w' ⟨rfl, rfl⟩
    go_wp2_with fail
    refine H2.out.mono ?_
    rintro e w1 ⟨rfl, hb⟩
    go_wp2_with fail
    refine (works13_any _).mono ?_
    rintro e w' ⟨rfl, rfl⟩
    go_wp2
    go_ret
    exact ⟨rfl, hb⟩
  · obtain ⟨N, rfl⟩ := Int.eq_ofNat_of_zero_le (show 0 ≤ n by omega)
    by_cases h1 : N ≤ 3000
    · have h2 : (N : Int) ≤ 3000 := by omega
      have H1 := hid (within_any N W (by omega))
      have H2 : Hid (Calls Try.prog 39 #[.int .i64 N] W fun e w' => e = .returned (.int .i64 (tks N)) ∧ Below W.heap.size W w') := by
        by_cases hN : N = 0
        · subst hN; exact rwithin_neg 0 W (by omega)
        · exact rwithin_any N W (by omega) (by omega)
      clear h0 h1
      go_enter Try.func7, Try.ntmps7
      go_wp2_with fail
      refine H1.out.mono ?_
      rintro e w' ⟨rfl, rfl⟩
      go_wp2_with fail
      refine H2.out.mono ?_
      rintro e w1 ⟨rfl, hb⟩
      go_wp2_with fail
      refine (works13_any _).mono ?_
      rintro e w' ⟨rfl, rfl⟩
      go_wp2
      go_ret
      exact ⟨rfl, hb⟩
    · have h2 : (3000 : Int) < N := by omega
      have H2 := hid (rwithin_any 10 W (by omega) (by omega))
      by_cases h3 : N ≤ 1048576
      · have h4 : (N : Int) ≤ 1048576 := by omega
        have H1 := hid (within_any N W (by omega))
        rw [tks_big N (by omega)] at H1
        clear h0 h1 h3
        go_enter Try.func7, Try.ntmps7
        go_wp2_with fail
        refine H1.out.mono ?_
        rintro e w' ⟨rfl, rfl⟩
        go_wp2_with fail
        refine H2.out.mono ?_
        rintro e w1 ⟨rfl, hb⟩
        rw [show tks 10 = 63 from rfl]
        go_wp2_with fail
        refine (works13_any _).mono ?_
        rintro e w' ⟨rfl, rfl⟩
        go_wp2
        go_ret
        exact ⟨rfl, hb⟩
      · have h4 : (1048576 : Int) < N := by omega
        have H1 := hid (within_any 1048576 W (by omega))
        rw [show tks 1048576 = 8388591 by rw [tks_big _ (by omega)]; rfl] at H1
        clear h0 h1 h3
        go_enter Try.func7, Try.ntmps7
        go_wp2_with fail
        refine H1.out.mono ?_
        rintro e w' ⟨rfl, rfl⟩
        go_wp2_with fail
        refine H2.out.mono ?_
        rintro e w1 ⟨rfl, hb⟩
        rw [show tks 10 = 63 from rfl]
        go_wp2_with fail
        refine (works13_any _).mono ?_
        rintro e w' ⟨rfl, rfl⟩
        go_wp2
        go_ret
        exact ⟨rfl, hb⟩

set_option maxHeartbeats 1000000 in
theorem paceDoes_any (p q : Int) (W : World) : Calls Try.prog 6 #[.agg #[.int .i64 p, .int .i64 q]] W fun e w' => e = .returned (.bool true) ∧ Below W.heap.size W w' := by
  go_enter Try.func6, Try.ntmps6
  go_wp2_with fail
  refine (tick_any p q _).mono ?_
  rintro e w1 ⟨rfl, hb⟩
  obtain ⟨k0, k1⟩ := blk_after hb
  have hb1 := (below2 W _ _).trans (hb.mono (by simp; omega))
  obtain ⟨p0, p1, f0, f1⟩ := two_cells k0
  obtain ⟨q0, q1, g0, g1⟩ := two_cells k1
  have K := hid (And.intro k0 k1)
  have hz1 : W.heap.size + 1 < w1.heap.size := lt_of_cell q0
  have hz0 : W.heap.size < w1.heap.size := by omega
  have hne0 : W.heap.size ≠ w1.heap.size := by omega
  have hne1 : W.heap.size + 1 ≠ w1.heap.size := by omega
  clear hb k0 k1
  go_wp2_with fail
  refine (rtick_any p q _).mono ?_
  rintro e w2 ⟨rfl, hb⟩
  have j0 := (hb.block W.heap.size (by simp; omega)).trans ((Below.heap_alloc _ _ _ (by omega)).trans K.out.1)
  have j1 := (hb.block (W.heap.size + 1) (by simp; omega)).trans ((Below.heap_alloc _ _ _ (by omega)).trans K.out.2)
  have j2 := (hb.block w1.heap.size (by simp)).trans (heap_alloc_new w1 _)
  have hb2 := (hb1.alloc hb1.size _).trans (hb.mono (by simp; omega))
  have hz2 : w1.heap.size < w2.heap.size := lt_of_cell (two_cells j2).1
  have hz3 : W.heap.size < w2.heap.size := by omega
  have hz4 : W.heap.size + 1 < w2.heap.size := by omega
  clear hb p0 p1 f0 f1 q0 q1 g0 g1
  have J := hid (And.intro j0 (And.intro j1 j2))
  clear j0 j1 j2
  go_wp2_with fail
  refine at_world (fun w => w.heap[W.heap.size]? = some (.cells #[.int .i64 p, .int .i64 q] 52 (0, 0)) ∧ w.heap[W.heap.size + 1]? = some (.cells #[.int .i64 p, .int .i64 q] 53 (0, 0)) ∧ w.heap[w1.heap.size]? = some (.cells #[.int .i64 (tkW p q), .int .i64 (tkL p q)] 53 (0, 0)) ∧
      w.heap[w2.heap.size]? = some (.cells #[.int .i64 (tkW p q), .int .i64 (tkL p q)] 52 (0, 0)) ∧ w.heap[w2.heap.size + 1]? = some (.cells #[.int .i64 1, .int .i64 1] 53 (0, 0)) ∧ w.heap[w2.heap.size + 2]? = some (.cells #[.int .i64 1, .int .i64 0] 53 (0, 0)) ∧ Below W.heap.size W w) ?_ ?_
  · obtain ⟨j0, j1, j2⟩ := J.out
    exact ⟨(alloc3_old _ _ _ _ _ hz3).trans j0, (alloc3_old _ _ _ _ _ hz4).trans j1, (alloc3_old _ _ _ _ _ hz2).trans j2, alloc3_0 _ _ _ _, alloc3_1 _ _ _ _, alloc3_2 _ _ _ _, ((hb2.alloc hb2.size _).alloc (by simp; omega) _).alloc (by simp; omega) _⟩
  · rintro w3 ⟨i0, i1, i2, i3, i4, i5, hb3⟩
    obtain ⟨p0, p1, _, _⟩ := two_cells i0
    obtain ⟨q0, q1, _, _⟩ := two_cells i1
    obtain ⟨r0, r1, _, _⟩ := two_cells i2
    obtain ⟨s0, s1, _, _⟩ := two_cells i3
    obtain ⟨t0, t1, _, _⟩ := two_cells i4
    obtain ⟨u0, u1, _, _⟩ := two_cells i5
    clear i0 i1 i2 i3 i4 i5
    replace p0 := cell_regrown p0
    replace p1 := cell_regrown p1
    replace q0 := cell_regrown q0
    replace q1 := cell_regrown q1
    replace r0 := cell_regrown r0
    replace r1 := cell_regrown r1
    replace s0 := cell_regrown s0
    replace s1 := cell_regrown s1
    replace t0 := cell_regrown t0
    replace t1 := cell_regrown t1
    replace u0 := cell_regrown u0
    replace u1 := cell_regrown u1
    have c1 := reg (w := w3) (fun W' _ => check_any p q W')
    have c2 := reg (w := w3) (fun W' _ => rcheck_any p q W')
    have c3 := reg (w := w3) (fun W' _ => new_any W')
    have c4 := reg (w := w3) (fun W' _ => start_any p q W')
    have c5 := reg (w := w3) (fun W' _ => stop_any p q W')
    have c6 := reg (w := w3) (fun W' _ => same_below (works13_any W'))
    refine wp_region_quiet_below (by kernel_rfl) (by kernel_rfl) ?_
    repeat (go_big_quiet_step (first | (go_at_call 32; with_reducible exact c1 _ _) | (go_at_call 33; with_reducible exact c2 _ _) | (go_at_call 34; with_reducible exact c3 _ _) | (go_at_call 35; with_reducible exact c4 _ _) | (go_at_call 36; with_reducible exact c5 _ _) | (go_at_call 37; with_reducible exact c6 _ _)))
    refine wpQuiet_nil ?_
    intro _ hw'
    obtain ⟨⟨dq, osq⟩, hw''⟩ := hw'
    subst hw''
    go_wp2
    go_ret
    exact ⟨rfl, hb3.trans ((below_regrown w3 dq osq).mono hb3.size)⟩
end Go.Proofs.Ytaeonkggilgjpaa
