/- The law SeenTakes, as a walk. -/
import Derived.Test.YtaeonkggilgjpabSeenL
namespace Go.Proofs.Ytaeonkggilgjpab
open Go.RowKit Go.Sort
set_option linter.unusedVariables false

theorem alloc3_old (w : World) (a b c : Obj) (k : Nat) (h : k < w.heap.size) : (((w.alloc a).alloc b).alloc c).heap[k]? = w.heap[k]? := by
  rw [Below.heap_alloc _ _ _ (by simp; omega), Below.heap_alloc _ _ _ (by simp; omega), Below.heap_alloc _ _ _ h]
theorem alloc3_0 (w : World) (a b c : Obj) : (((w.alloc a).alloc b).alloc c).heap[w.heap.size]? = some a := by
  rw [Below.heap_alloc _ _ _ (by simp; omega)]; exact heap_first w a b
theorem alloc3_1 (w : World) (a b c : Obj) : (((w.alloc a).alloc b).alloc c).heap[w.heap.size + 1]? = some b := by
  rw [Below.heap_alloc _ _ _ (by simp)]; exact heap_second w a b
theorem alloc3_2 (w : World) (a b c : Obj) : (((w.alloc a).alloc b).alloc c).heap[w.heap.size + 2]? = some c := by
  have := heap_alloc_new ((w.alloc a).alloc b) c
  simpa using this

theorem seenTakes_neg (m p l a b c : Int) (W : World) (hl : l < 0) : Calls Try.prog 3 #[.agg #[.int .i64 m, .int .i64 p, .int .i64 l], .agg #[.int .i64 a, .int .i64 b, .int .i64 c]] W fun e w' => e = .returned (.bool true) ∧ Below W.heap.size W w' := by
  go_enter Try.func3, Try.ntmps3
  go_wp2_with fail
  refine (works25_any _).mono ?_
  rintro e w1 ⟨rfl, hb⟩
  go_wp2
  go_ret
  exact ⟨rfl, (below2 W _ _).trans (hb.mono (by simp; omega))⟩

set_option maxHeartbeats 1000000 in
theorem seenTakes_pos (m p l a b c : Int) (W : World) (hl : 0 ≤ l) (hl2 : l ≤ 9223372036854775807) (hs : c ≤ 9223372036854775807) (hs2 : -9223372036854775808 ≤ c) : Calls Try.prog 3 #[.agg #[.int .i64 m, .int .i64 p, .int .i64 l], .agg #[.int .i64 a, .int .i64 b, .int .i64 c]] W fun e w' => e = .returned (.bool true) ∧ Below W.heap.size W w' := by
  have HT := hid (fun w => take_any m p l a b c w hl hs hs2 hl2)
  have HR := hid (fun w => rtake_any m p l a b c w hl hs hs2 hl2)
  go_enter Try.func3, Try.ntmps3
  go_upto_region 4 with (fail)
  refine at_world (fun w => w.heap[W.heap.size]? = some (.cells #[.int .i64 m, .int .i64 p, .int .i64 l] 23 (0, 0)) ∧ w.heap[W.heap.size + 1]? = some (.cells #[.int .i64 a, .int .i64 b, .int .i64 c] 24 (0, 0)) ∧ w.heap[W.heap.size + 1 + 1]? = some (.cells #[.int .i64 m, .int .i64 p, .int .i64 l] 26 (0, 0)) ∧ Below W.heap.size W w) ?_ ?_
  · exact ⟨alloc3_0 _ _ _ _, alloc3_1 _ _ _ _, alloc3_2 _ _ _ _, ((below2 W _ _).alloc (by simp; omega) _)⟩
  rintro u4 ⟨k0, k1, k2, hb⟩
  obtain ⟨⟨p00, p01, p02⟩, _⟩ := three_cells k0
  obtain ⟨⟨p10, p11, p12⟩, _⟩ := three_cells k1
  obtain ⟨⟨p20, p21, p22⟩, _⟩ := three_cells k2
  have K := hid (And.intro k0 (And.intro k1 (k2)))
  clear k0 k1 k2
  go_wp2_with fail
  refine (HT.out _).mono ?_
  rintro e v1 ⟨rfl, hc⟩
  obtain ⟨k0, k1, k2⟩ := K.out
  clear K p00 p01 p02 p10 p11 p12 p20 p21 p22
  go_upto_region 5 with (fail)
  refine at_world (fun w => w.heap[W.heap.size]? = some (.cells #[.int .i64 m, .int .i64 p, .int .i64 l] 23 (0, 0)) ∧ w.heap[W.heap.size + 1]? = some (.cells #[.int .i64 a, .int .i64 b, .int .i64 c] 24 (0, 0)) ∧ w.heap[W.heap.size + 1 + 1]? = some (.cells #[.int .i64 m, .int .i64 p, .int .i64 l] 26 (0, 0)) ∧ w.heap[v1.heap.size]? = some (.cells #[.int .i64 m, .int .i64 (gP p a), .int .i64 (gN m p l a b c)] 26 (0, 0)) ∧ Below W.heap.size W w) ⟨keep1 k0 hc, keep1 k1 hc, keep1 k2 hc, heap_alloc_new _ _, (hb.trans (hc.mono hb.size)).alloc ((hb.trans (hc.mono hb.size)).size) _⟩ ?_
  clear k0 k1 k2 hb hc
  rintro u5 ⟨k0, k1, k2, k3, hb⟩
  obtain ⟨⟨p00, p01, p02⟩, _⟩ := three_cells k0
  obtain ⟨⟨p10, p11, p12⟩, _⟩ := three_cells k1
  obtain ⟨⟨p20, p21, p22⟩, _⟩ := three_cells k2
  obtain ⟨⟨p30, p31, p32⟩, _⟩ := three_cells k3
  have K := hid (And.intro k0 (And.intro k1 (And.intro k2 (k3))))
  clear k0 k1 k2 k3
  go_wp2_with fail
  refine (HR.out _).mono ?_
  rintro e v2 ⟨rfl, hc⟩
  obtain ⟨k0, k1, k2, k3⟩ := K.out
  clear K p00 p01 p02 p10 p11 p12 p20 p21 p22 p30 p31 p32
  go_upto_region 6 with (fail)
  refine at_world (fun w => w.heap[W.heap.size]? = some (.cells #[.int .i64 m, .int .i64 p, .int .i64 l] 23 (0, 0)) ∧ w.heap[W.heap.size + 1]? = some (.cells #[.int .i64 a, .int .i64 b, .int .i64 c] 24 (0, 0)) ∧ w.heap[W.heap.size + 1 + 1]? = some (.cells #[.int .i64 m, .int .i64 p, .int .i64 l] 26 (0, 0)) ∧ w.heap[v1.heap.size]? = some (.cells #[.int .i64 m, .int .i64 (gP p a), .int .i64 (gN m p l a b c)] 26 (0, 0)) ∧ w.heap[v2.heap.size]? = some (.cells #[.int .i64 m, .int .i64 (gP p a), .int .i64 (gN m p l a b c)] 23 (0, 0)) ∧ Below W.heap.size W w) ⟨keep1 k0 hc, keep1 k1 hc, keep1 k2 hc, keep1 k3 hc, heap_alloc_new _ _, (hb.trans (hc.mono hb.size)).alloc ((hb.trans (hc.mono hb.size)).size) _⟩ ?_
  clear k0 k1 k2 k3 hb hc
  rintro u6 ⟨k0, k1, k2, k3, k4, hb⟩
  obtain ⟨⟨p00, p01, p02⟩, _⟩ := three_cells k0
  obtain ⟨⟨p10, p11, p12⟩, _⟩ := three_cells k1
  obtain ⟨⟨p20, p21, p22⟩, _⟩ := three_cells k2
  obtain ⟨⟨p30, p31, p32⟩, _⟩ := three_cells k3
  obtain ⟨⟨p40, p41, p42⟩, _⟩ := three_cells k4
  have K := hid (And.intro k0 (And.intro k1 (And.intro k2 (And.intro k3 (k4)))))
  clear k0 k1 k2 k3 k4
  go_wp2_with fail
  refine (learn_any m p l a _).mono ?_
  rintro e v3 ⟨rfl, hc⟩
  obtain ⟨k0, k1, k2, k3, k4⟩ := K.out
  clear K p00 p01 p02 p10 p11 p12 p20 p21 p22 p30 p31 p32 p40 p41 p42
  go_upto_region 7 with (fail)
  refine at_world (fun w => w.heap[W.heap.size]? = some (.cells #[.int .i64 m, .int .i64 p, .int .i64 l] 23 (0, 0)) ∧ w.heap[W.heap.size + 1]? = some (.cells #[.int .i64 a, .int .i64 b, .int .i64 c] 24 (0, 0)) ∧ w.heap[W.heap.size + 1 + 1]? = some (.cells #[.int .i64 m, .int .i64 p, .int .i64 l] 26 (0, 0)) ∧ w.heap[v1.heap.size]? = some (.cells #[.int .i64 m, .int .i64 (gP p a), .int .i64 (gN m p l a b c)] 26 (0, 0)) ∧ w.heap[v2.heap.size]? = some (.cells #[.int .i64 m, .int .i64 (gP p a), .int .i64 (gN m p l a b c)] 23 (0, 0)) ∧ w.heap[v3.heap.size]? = some (.cells #[.int .i64 m, .int .i64 (gP p a), .int .i64 (gL p l a)] 26 (0, 0)) ∧ Below W.heap.size W w) ⟨keep1 k0 hc, keep1 k1 hc, keep1 k2 hc, keep1 k3 hc, keep1 k4 hc, heap_alloc_new _ _, (hb.trans (hc.mono hb.size)).alloc ((hb.trans (hc.mono hb.size)).size) _⟩ ?_
  clear k0 k1 k2 k3 k4 hb hc
  rintro u7 ⟨k0, k1, k2, k3, k4, k5, hb⟩
  obtain ⟨⟨p00, p01, p02⟩, _⟩ := three_cells k0
  obtain ⟨⟨p10, p11, p12⟩, _⟩ := three_cells k1
  obtain ⟨⟨p20, p21, p22⟩, _⟩ := three_cells k2
  obtain ⟨⟨p30, p31, p32⟩, _⟩ := three_cells k3
  obtain ⟨⟨p40, p41, p42⟩, _⟩ := three_cells k4
  obtain ⟨⟨p50, p51, p52⟩, _⟩ := three_cells k5
  have K := hid (And.intro k0 (And.intro k1 (And.intro k2 (And.intro k3 (And.intro k4 (k5))))))
  clear k0 k1 k2 k3 k4 k5
  go_wp2_with fail
  refine (rlearn_any m p l a _).mono ?_
  rintro e v4 ⟨rfl, hc⟩
  obtain ⟨k0, k1, k2, k3, k4, k5⟩ := K.out
  clear K p00 p01 p02 p10 p11 p12 p20 p21 p22 p30 p31 p32 p40 p41 p42 p50 p51 p52
  go_upto_region 8 with (fail)
  refine at_world (fun w => w.heap[W.heap.size]? = some (.cells #[.int .i64 m, .int .i64 p, .int .i64 l] 23 (0, 0)) ∧ w.heap[W.heap.size + 1]? = some (.cells #[.int .i64 a, .int .i64 b, .int .i64 c] 24 (0, 0)) ∧ w.heap[W.heap.size + 1 + 1]? = some (.cells #[.int .i64 m, .int .i64 p, .int .i64 l] 26 (0, 0)) ∧ w.heap[v1.heap.size]? = some (.cells #[.int .i64 m, .int .i64 (gP p a), .int .i64 (gN m p l a b c)] 26 (0, 0)) ∧ w.heap[v2.heap.size]? = some (.cells #[.int .i64 m, .int .i64 (gP p a), .int .i64 (gN m p l a b c)] 23 (0, 0)) ∧ w.heap[v3.heap.size]? = some (.cells #[.int .i64 m, .int .i64 (gP p a), .int .i64 (gL p l a)] 26 (0, 0)) ∧ w.heap[v4.heap.size]? = some (.cells #[.int .i64 m, .int .i64 (gP p a), .int .i64 (gL p l a)] 23 (0, 0)) ∧ Below W.heap.size W w) ⟨keep1 k0 hc, keep1 k1 hc, keep1 k2 hc, keep1 k3 hc, keep1 k4 hc, keep1 k5 hc, heap_alloc_new _ _, (hb.trans (hc.mono hb.size)).alloc ((hb.trans (hc.mono hb.size)).size) _⟩ ?_
  clear k0 k1 k2 k3 k4 k5 hb hc
  rintro u8 ⟨k0, k1, k2, k3, k4, k5, k6, hb⟩
  obtain ⟨⟨p00, p01, p02⟩, _⟩ := three_cells k0
  obtain ⟨⟨p10, p11, p12⟩, _⟩ := three_cells k1
  obtain ⟨⟨p20, p21, p22⟩, _⟩ := three_cells k2
  obtain ⟨⟨p30, p31, p32⟩, _⟩ := three_cells k3
  obtain ⟨⟨p40, p41, p42⟩, _⟩ := three_cells k4
  obtain ⟨⟨p50, p51, p52⟩, _⟩ := three_cells k5
  obtain ⟨⟨p60, p61, p62⟩, _⟩ := three_cells k6
  have K := hid (And.intro k0 (And.intro k1 (And.intro k2 (And.intro k3 (And.intro k4 (And.intro k5 (k6)))))))
  clear k0 k1 k2 k3 k4 k5 k6
  go_wp2_with fail
  refine (snew_any a _).mono ?_
  rintro e v5 ⟨rfl, hc⟩
  obtain ⟨k0, k1, k2, k3, k4, k5, k6⟩ := K.out
  clear K p00 p01 p02 p10 p11 p12 p20 p21 p22 p30 p31 p32 p40 p41 p42 p50 p51 p52 p60 p61 p62
  go_upto_region 9 with (fail)
  refine at_world (fun w => w.heap[W.heap.size]? = some (.cells #[.int .i64 m, .int .i64 p, .int .i64 l] 23 (0, 0)) ∧ w.heap[W.heap.size + 1]? = some (.cells #[.int .i64 a, .int .i64 b, .int .i64 c] 24 (0, 0)) ∧ w.heap[W.heap.size + 1 + 1]? = some (.cells #[.int .i64 m, .int .i64 p, .int .i64 l] 26 (0, 0)) ∧ w.heap[v1.heap.size]? = some (.cells #[.int .i64 m, .int .i64 (gP p a), .int .i64 (gN m p l a b c)] 26 (0, 0)) ∧ w.heap[v2.heap.size]? = some (.cells #[.int .i64 m, .int .i64 (gP p a), .int .i64 (gN m p l a b c)] 23 (0, 0)) ∧ w.heap[v3.heap.size]? = some (.cells #[.int .i64 m, .int .i64 (gP p a), .int .i64 (gL p l a)] 26 (0, 0)) ∧ w.heap[v4.heap.size]? = some (.cells #[.int .i64 m, .int .i64 (gP p a), .int .i64 (gL p l a)] 23 (0, 0)) ∧ w.heap[v5.heap.size]? = some (.cells #[.int .i64 a, .int .i64 1, .int .i64 0] 26 (0, 0)) ∧ Below W.heap.size W w) ⟨keep1 k0 hc, keep1 k1 hc, keep1 k2 hc, keep1 k3 hc, keep1 k4 hc, keep1 k5 hc, keep1 k6 hc, heap_alloc_new _ _, (hb.trans (hc.mono hb.size)).alloc ((hb.trans (hc.mono hb.size)).size) _⟩ ?_
  clear k0 k1 k2 k3 k4 k5 k6 hb hc
  rintro u9 ⟨k0, k1, k2, k3, k4, k5, k6, k7, hb⟩
  obtain ⟨⟨p00, p01, p02⟩, _⟩ := three_cells k0
  obtain ⟨⟨p10, p11, p12⟩, _⟩ := three_cells k1
  obtain ⟨⟨p20, p21, p22⟩, _⟩ := three_cells k2
  obtain ⟨⟨p30, p31, p32⟩, _⟩ := three_cells k3
  obtain ⟨⟨p40, p41, p42⟩, _⟩ := three_cells k4
  obtain ⟨⟨p50, p51, p52⟩, _⟩ := three_cells k5
  obtain ⟨⟨p60, p61, p62⟩, _⟩ := three_cells k6
  obtain ⟨⟨p70, p71, p72⟩, _⟩ := three_cells k7
  clear k0 k1 k2 k3 k4 k5 k6 k7
  go_wp2_with (go_at_call 14; refine (works25_any _).mono ?_; rintro e v6 ⟨rfl, hc⟩)
  go_ret
  exact ⟨rfl, hb.trans (hc.mono hb.size)⟩
end Go.Proofs.Ytaeonkggilgjpab
