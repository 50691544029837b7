/- Records alike; records that come in: contracts. -/
import Derived.Test.YtkepfkfoblocgaaRcP
import Derived.Test.YtkepfkfoblocgaaQStrC
import Derived.Test.YtkepfkfoblocgaaScP
import Derived.BigQuiet
import Derived.Lib.QuietBelow
namespace Go.Proofs.Ytkepfkfoblocgaa
open Go.RowKit Go.Sort
set_option linter.unusedVariables false
set_option linter.unusedSimpArgs false

instance : Inhabited Rc := ⟨⟨0, 0, 0, 0, 0, 0, []⟩⟩
def sameR (x y : Rc) : Bool := x.k == y.k && x.j == y.j && x.t == y.t && x.w == y.w && x.s == y.s && x.e == y.e && x.ns == y.ns
theorem sameR_refl (x : Rc) : sameR x x = true := by simp [sameR]
theorem below_drewN9 (W : World) (q : Nat) : Below W.heap.size W (W.drewN q) := ⟨rfl, rfl, rfl, Nat.le_refl _, fun _ _ => rfl⟩
set_option maxRecDepth 20000 in
set_option maxHeartbeats 4000000 in
theorem r17same_any (x y : Rc) (A A' : Option Addr) (c c' : Nat) (W : World) (hx : TxAt W A c x.ns) (hy : TxAt W A' c' y.ns) :
    Calls Try.prog 33 #[.agg (rcc x A c), .agg (rcc y A' c')] W fun e w' => e = .returned (.bool (sameR x y)) ∧ Below W.heap.size W w' := by
  have HS := hid (fun w (hw : Below W.heap.size W w) => same03 A A' x.ns.length c y.ns.length c' x.ns y.ns w (hx.below hw).1 (hy.below hw).1 hx.len hy.len)
  have hlx := hx.len
  have hly := hy.len
  have HI : Hid (sameR x y = (x.k == y.k && x.j == y.j && x.t == y.t && x.w == y.w && x.s == y.s && x.e == y.e && x.ns == y.ns)) := hid rfl
  generalize sameR x y = r at *
  obtain ⟨k, j, t, w, s, e, ns⟩ := x
  obtain ⟨k2, j2, t2, w2, s2, e2, ns2⟩ := y
  clear hx hy
  simp only [rcc] at *
  generalize (ns == ns2) = bn at *
  by_cases h_k : k = k2
  case neg =>
    have q9 : (k == k2) = false := by simpa using h_k
    have HV : Hid (r = false) := hid (by rw [HI.out, q9]; simp)
    clear HI
    go_enter Try.func33, Try.ntmps33
    go_upto_region 1 with (fail)
    refine at_world (fun u => u.heap[W.heap.size]? = some (.cells #[.int .i64 k, .int .i64 j, .int .i64 t, .int .i64 w, .int .i64 s, .int .i64 e, .slice A ns.length c] 45 (0, 0)) ∧ u.heap[W.heap.size + 1]? = some (.cells #[.int .i64 k2, .int .i64 j2, .int .i64 t2, .int .i64 w2, .int .i64 s2, .int .i64 e2, .slice A' ns2.length c'] 45 (0, 0)) ∧ Below W.heap.size W u) ⟨heap_first _ _ _, heap_second _ _ _, below2 _ _ _⟩ ?_
    rintro w1 ⟨hx1, hy1, hB1⟩
    obtain ⟨p0, p1, p2, p3, p4, p5, p6⟩ := seven_cells hx1
    obtain ⟨r0, r1, r2, r3, r4, r5, r6⟩ := seven_cells hy1
    have HB1 := hid hB1
    clear hx1 hy1 hB1
    go_wp2
    go_ret
    exact ⟨by rw [HV.out]; rfl, HB1.out⟩
  subst h_k
  by_cases h_j : j = j2
  case neg =>
    have q9 : (j == j2) = false := by simpa using h_j
    have HV : Hid (r = false) := hid (by rw [HI.out, q9]; simp)
    clear HI
    go_enter Try.func33, Try.ntmps33
    go_upto_region 1 with (fail)
    refine at_world (fun u => u.heap[W.heap.size]? = some (.cells #[.int .i64 k, .int .i64 j, .int .i64 t, .int .i64 w, .int .i64 s, .int .i64 e, .slice A ns.length c] 45 (0, 0)) ∧ u.heap[W.heap.size + 1]? = some (.cells #[.int .i64 k, .int .i64 j2, .int .i64 t2, .int .i64 w2, .int .i64 s2, .int .i64 e2, .slice A' ns2.length c'] 45 (0, 0)) ∧ Below W.heap.size W u) ⟨heap_first _ _ _, heap_second _ _ _, below2 _ _ _⟩ ?_
    rintro w1 ⟨hx1, hy1, hB1⟩
    obtain ⟨p0, p1, p2, p3, p4, p5, p6⟩ := seven_cells hx1
    obtain ⟨r0, r1, r2, r3, r4, r5, r6⟩ := seven_cells hy1
    have HB1 := hid hB1
    clear hx1 hy1 hB1
    go_wp2
    go_ret
    exact ⟨by rw [HV.out]; rfl, HB1.out⟩
  subst h_j
  by_cases h_t : t = t2
  case neg =>
    have q9 : (t == t2) = false := by simpa using h_t
    have HV : Hid (r = false) := hid (by rw [HI.out, q9]; simp)
    clear HI
    go_enter Try.func33, Try.ntmps33
    go_upto_region 1 with (fail)
    refine at_world (fun u => u.heap[W.heap.size]? = some (.cells #[.int .i64 k, .int .i64 j, .int .i64 t, .int .i64 w, .int .i64 s, .int .i64 e, .slice A ns.length c] 45 (0, 0)) ∧ u.heap[W.heap.size + 1]? = some (.cells #[.int .i64 k, .int .i64 j, .int .i64 t2, .int .i64 w2, .int .i64 s2, .int .i64 e2, .slice A' ns2.length c'] 45 (0, 0)) ∧ Below W.heap.size W u) ⟨heap_first _ _ _, heap_second _ _ _, below2 _ _ _⟩ ?_
    rintro w1 ⟨hx1, hy1, hB1⟩
    obtain ⟨p0, p1, p2, p3, p4, p5, p6⟩ := seven_cells hx1
    obtain ⟨r0, r1, r2, r3, r4, r5, r6⟩ := seven_cells hy1
    have HB1 := hid hB1
    clear hx1 hy1 hB1
    go_wp2
    go_ret
    exact ⟨by rw [HV.out]; rfl, HB1.out⟩
  subst h_t
  by_cases h_w : w = w2
  case neg =>
    have q9 : (w == w2) = false := by simpa using h_w
    have HV : Hid (r = false) := hid (by rw [HI.out, q9]; simp)
    clear HI
    go_enter Try.func33, Try.ntmps33
    go_upto_region 1 with (fail)
    refine at_world (fun u => u.heap[W.heap.size]? = some (.cells #[.int .i64 k, .int .i64 j, .int .i64 t, .int .i64 w, .int .i64 s, .int .i64 e, .slice A ns.length c] 45 (0, 0)) ∧ u.heap[W.heap.size + 1]? = some (.cells #[.int .i64 k, .int .i64 j, .int .i64 t, .int .i64 w2, .int .i64 s2, .int .i64 e2, .slice A' ns2.length c'] 45 (0, 0)) ∧ Below W.heap.size W u) ⟨heap_first _ _ _, heap_second _ _ _, below2 _ _ _⟩ ?_
    rintro w1 ⟨hx1, hy1, hB1⟩
    obtain ⟨p0, p1, p2, p3, p4, p5, p6⟩ := seven_cells hx1
    obtain ⟨r0, r1, r2, r3, r4, r5, r6⟩ := seven_cells hy1
    have HB1 := hid hB1
    clear hx1 hy1 hB1
    go_wp2
    go_ret
    exact ⟨by rw [HV.out]; rfl, HB1.out⟩
  subst h_w
  by_cases h_s : s = s2
  case neg =>
    have q9 : (s == s2) = false := by simpa using h_s
    have HV : Hid (r = false) := hid (by rw [HI.out, q9]; simp)
    clear HI
    go_enter Try.func33, Try.ntmps33
    go_upto_region 1 with (fail)
    refine at_world (fun u => u.heap[W.heap.size]? = some (.cells #[.int .i64 k, .int .i64 j, .int .i64 t, .int .i64 w, .int .i64 s, .int .i64 e, .slice A ns.length c] 45 (0, 0)) ∧ u.heap[W.heap.size + 1]? = some (.cells #[.int .i64 k, .int .i64 j, .int .i64 t, .int .i64 w, .int .i64 s2, .int .i64 e2, .slice A' ns2.length c'] 45 (0, 0)) ∧ Below W.heap.size W u) ⟨heap_first _ _ _, heap_second _ _ _, below2 _ _ _⟩ ?_
    rintro w1 ⟨hx1, hy1, hB1⟩
    obtain ⟨p0, p1, p2, p3, p4, p5, p6⟩ := seven_cells hx1
    obtain ⟨r0, r1, r2, r3, r4, r5, r6⟩ := seven_cells hy1
    have HB1 := hid hB1
    clear hx1 hy1 hB1
    go_wp2
    go_ret
    exact ⟨by rw [HV.out]; rfl, HB1.out⟩
  subst h_s
  by_cases h_e : e = e2
  case neg =>
    have q9 : (e == e2) = false := by simpa using h_e
    have HV : Hid (r = false) := hid (by rw [HI.out, q9]; simp)
    clear HI
    go_enter Try.func33, Try.ntmps33
    go_upto_region 1 with (fail)
    refine at_world (fun u => u.heap[W.heap.size]? = some (.cells #[.int .i64 k, .int .i64 j, .int .i64 t, .int .i64 w, .int .i64 s, .int .i64 e, .slice A ns.length c] 45 (0, 0)) ∧ u.heap[W.heap.size + 1]? = some (.cells #[.int .i64 k, .int .i64 j, .int .i64 t, .int .i64 w, .int .i64 s, .int .i64 e2, .slice A' ns2.length c'] 45 (0, 0)) ∧ Below W.heap.size W u) ⟨heap_first _ _ _, heap_second _ _ _, below2 _ _ _⟩ ?_
    rintro w1 ⟨hx1, hy1, hB1⟩
    obtain ⟨p0, p1, p2, p3, p4, p5, p6⟩ := seven_cells hx1
    obtain ⟨r0, r1, r2, r3, r4, r5, r6⟩ := seven_cells hy1
    have HB1 := hid hB1
    clear hx1 hy1 hB1
    go_wp2
    go_ret
    exact ⟨by rw [HV.out]; rfl, HB1.out⟩
  subst h_e
  have HV : Hid (r = bn) := hid (by rw [HI.out]; simp)
  clear HI
  go_enter Try.func33, Try.ntmps33
  go_upto_region 1 with (fail)
  refine at_world (fun u => u.heap[W.heap.size]? = some (.cells #[.int .i64 k, .int .i64 j, .int .i64 t, .int .i64 w, .int .i64 s, .int .i64 e, .slice A ns.length c] 45 (0, 0)) ∧ u.heap[W.heap.size + 1]? = some (.cells #[.int .i64 k, .int .i64 j, .int .i64 t, .int .i64 w, .int .i64 s, .int .i64 e, .slice A' ns2.length c'] 45 (0, 0)) ∧ Below W.heap.size W u) ⟨heap_first _ _ _, heap_second _ _ _, below2 _ _ _⟩ ?_
  rintro w1 ⟨hx1, hy1, hB1⟩
  obtain ⟨p0, p1, p2, p3, p4, p5, p6⟩ := seven_cells hx1
  obtain ⟨r0, r1, r2, r3, r4, r5, r6⟩ := seven_cells hy1
  have HB1 := hid hB1
  clear hx1 hy1 hB1
  go_wp2_with fail
  refine (HS.out _ HB1.out).mono ?_
  rintro x w3 ⟨rfl, q, rfl⟩
  go_wp2
  go_ret
  exact ⟨by rw [HV.out]; rfl, HB1.out.trans ((below_drewN9 w1 q).mono HB1.out.size)⟩
theorem recs_in {w : World} {A : Option Addr} {len cap : Nat} (h : Rd Try.prog w 57 [.slice A len cap]) : ∃ els : List El, els.length = len ∧ InR w A cap els := by
  obtain ⟨h1, h2, h3⟩ := Rd.slice_plain Try.underlying57 (n := 7) (by kernel_rfl) (by omega) h
  by_cases h0 : 0 < len
  · obtain ⟨b, off, rfl, z, hz⟩ := h3 h0
    have key : ∀ i, i < len → ∃ x : El, z i = (rcc x.1 x.2.1 x.2.2).toList ∧ TxAt w x.2.1 x.2.2 x.1.ns := fun i hi => by
      obtain ⟨hl, hr, _⟩ := hz i hi
      obtain ⟨x, Ax, cx, e, ht⟩ := rd_rec (a := (z i).toArray) (by simpa using hl) (by simpa using hr)
      refine ⟨(x, Ax, cx), ?_, ht⟩
      have := congrArg Array.toList e
      simpa using this
    obtain ⟨g, hg⟩ := Go.Deep.choose_lt (α := El) key
    have hll : ((List.range len).map g).length = len := by simp
    refine ⟨(List.range len).map g, hll, ⟨by rw [ecells_length], by rw [hll]; exact h1, h2, fun _ => ⟨b, off, rfl, fun i hi => ?_⟩⟩, ?_⟩
    · rw [ecells_length, hll] at hi
      have hk : i / 7 < ((List.range len).map g).length := by rw [hll]; omega
      have e1 := ecells_get ((List.range len).map g) (i / 7) hk (i % 7) (by omega)
      have hgk : ((List.range len).map g)[i / 7] = g (i / 7) := by simp
      rw [hgk, show i / 7 * 7 + i % 7 = i by omega] at e1
      have h9 := (hz (i / 7) (by omega)).2.2 (i % 7) (by omega)
      rw [(hg (i / 7) (by omega)).1, ← e1, show off + i / 7 * 7 + i % 7 = off + i by omega] at h9
      exact h9
    · intro e he
      obtain ⟨i, hi, rfl⟩ := List.mem_map.1 he
      exact (hg i (List.mem_range.1 hi)).2
  · obtain rfl : len = 0 := by omega
    exact ⟨[], rfl, ⟨rfl, h1, h2, fun h => by simp [ecells] at h⟩, by simp⟩
set_option maxRecDepth 20000 in
set_option maxHeartbeats 4000000 in
theorem r18same_any (A A' : Option Addr) (c c' : Nat) (e1 e2 : List El) (W : World) (h1 : InR W A c e1) (h2 : InR W A' c' e2) (hm : e1.map (·.1) = e2.map (·.1)) (hn : e1.length ≤ 100000) :
    Calls Try.prog 44 #[.slice A e1.length c, .slice A' e2.length c'] W fun e w' => e = .returned (.bool true) ∧ RowKit.Below W.heap.size W w' := by
  have hlen : e1.length = e2.length := by
    have := congrArg List.length hm
    simpa using this
  have HLE := hid hlen
  have HX := hid h1
  have HY := hid h2
  have HSM : Hid (∀ k (h1 : k < e1.length) (h2 : k < e2.length), sameR e1[k].1 e2[k].1 = true) := hid (fun k h1 h2 => by
    have h3 : (e1.map (·.1))[k]'(by simpa using h1) = (e2.map (·.1))[k]'(by simpa using h2) := by simp only [hm]
    simp only [List.getElem_map] at h3
    rw [h3]
    exact sameR_refl _)
  rw [← hlen]
  clear h1 h2 hm hlen
  have e99 : ((e1.length : Int) != (e1.length : Int)) = false := by simp
  have hll : e1.length ≤ 9223372036854775807 := by omega
  go_enter Try.func44, Try.ntmps44
  go_wp2
  go_loopw [5] (fun i wr => ∃ k : Nat, k ≤ e1.length ∧ i = .int .i64 (k : Int) ∧ Hid (RowKit.Below W.heap.size W wr)) (fun i _ => e1.length - (intOf i).toNat)
  case atStart => exact ⟨0, by omega, rfl, Below.refl _ _⟩
  case round =>
    obtain ⟨k, hk, rfl, HB⟩ := hrel
    by_cases hlt : k < e1.length
    · have hlt2 : (k : Int) < (e1.length : Int) := by omega
      have hlt3 : k < e2.length := by have := HLE.out; omega
      have hsl := (HX.out.below HB.out).1
      have hsl2 := (HY.out.below HB.out).1
      obtain ⟨b, off, rfl, _⟩ := hsl.2.2.2 (by rw [ecells_length]; omega)
      obtain ⟨b2, off2, rfl, _⟩ := hsl2.2.2.2 (by rw [ecells_length]; omega)
      obtain ⟨q0, q1, q2, q3, q4, q5, q6⟩ := Sl.el hsl k hlt
      obtain ⟨r0, r1, r2, r3, r4, r5, r6⟩ := Sl.el hsl2 k hlt3
      have HC := hid (fun w (hw : RowKit.Below wr.heap.size wr w) => r17same_any e1[k].1 e2[k].1 e1[k].2.1 e2[k].2.1 e1[k].2.2 e2[k].2.2 w (((HX.out.below HB.out).2 _ (List.getElem_mem hlt)).below hw) (((HY.out.below HB.out).2 _ (List.getElem_mem hlt3)).below hw))
      rw [HSM.out k hlt hlt3] at HC
      clear hsl hsl2
      generalize e1[k] = x1 at *
      generalize e2[k] = x2 at *
      clear hlt3
      obtain ⟨⟨a0, a1, a2, a3, a4, a5, ans⟩, aA, ac⟩ := x1
      obtain ⟨⟨d0, d1, d2, d3, d4, d5, dns⟩, dA, dc⟩ := x2
      simp only [rcc] at HC q0 q1 q2 q3 q4 q5 q6 r0 r1 r2 r3 r4 r5 r6
      generalize ans.length = am at *
      generalize dns.length = dm at *
      go_upto_region 6 with (fail)
      replace q0 := cell_regrown q0
      replace q1 := cell_regrown q1
      replace q2 := cell_regrown q2
      replace q3 := cell_regrown q3
      replace q4 := cell_regrown q4
      replace q5 := cell_regrown q5
      replace q6 := cell_regrown q6
      replace r0 := cell_regrown r0
      replace r1 := cell_regrown r1
      replace r2 := cell_regrown r2
      replace r3 := cell_regrown r3
      replace r4 := cell_regrown r4
      replace r5 := cell_regrown r5
      replace r6 := cell_regrown r6
      have c1 := reg (w := wr) (fun W' hW => HC.out W' hW)
      refine wp_region_quiet_below (by kernel_rfl) (by kernel_rfl) ?_
      repeat (go_big_quiet_step (first | (go_at_call 33; with_reducible exact c1 _ _)))
      refine wpQuiet_nil ?_
      intro _ hw'
      obtain ⟨⟨dq, osq⟩, hw''⟩ := hw'
      subst hw''
      have hbq := HB.out.trans ((below_regrown wr dq osq).mono HB.out.size)
      have HBQ := hid hbq
      clear hbq q0 q1 q2 q3 q4 q5 q6 r0 r1 r2 r3 r4 r5 r6 c1 HC HB
      go_wp2
      go_roundw
      case rel => exact ⟨k + 1, by omega, by go_num, HBQ.out⟩
      case measure => simp [intOf]; omega
    · obtain rfl : k = e1.length := by omega
      have hge : ¬ ((e1.length : Nat) : Int) < ((e1.length : Nat) : Int) := by omega
      go_wp2
      go_ret
      exact ⟨rfl, HB.out⟩
end Go.Proofs.Ytkepfkfoblocgaa
