/- Slots that are alike: slices.Equal at tasks, the document's Tasks; the three functions that compare slots: contracts. -/
import Derived.Test.YtadjmgmdnekllaaSltH
import Derived.Test.YtadjmgmdnekllaaQueT
namespace Go.Proofs.Ytadjmgmdnekllaa
open Go.RowKit Go.Sort
set_option linter.unusedVariables false
set_option linter.unusedSimpArgs false

set_option maxHeartbeats 1000000 in
theorem equal_task (A B : Option Addr) (len cap len' cap' : Nat) (l m : List (Int × Int)) (W : World) (hA : Sl W 2 A len cap (pcells l)) (hB : Sl W 2 B len' cap' (pcells m)) (h6 : len ≤ 9223372036854775807) (h7 : len' ≤ 9223372036854775807) :
    Calls Try.prog 123 #[.slice A len cap, .slice B len' cap'] W fun e w' => e = .returned (.bool (l == m)) ∧ ∃ q, w' = W.drewN q := by
  obtain rfl := hA.plen
  obtain rfl := hB.plen
  by_cases hlen : l.length = m.length
  · have HA := hid hA
    have HB := hid hB
    clear hA hB
    have HL := hid hlen
    rw [← hlen]
    clear h7 hlen
    go_enter Try.func123, Try.ntmps123
    go_wp2
    go_loopw [13] (fun i wr => ∃ k q : Nat, k ≤ l.length ∧ i = .int .i64 (k : Int) ∧ wr = W.drewN q ∧ Hid (l.take k = m.take k)) (fun i _ => l.length - (intOf i).toNat)
    case atStart => exact ⟨0, 0, by omega, rfl, rfl, by simp [Hid]⟩
    case round =>
      obtain ⟨k, q, hk, rfl, rfl, HT⟩ := hrel
      by_cases hlt : k < l.length
      · have hltm : k < m.length := by have := HL.out; omega
        obtain ⟨b, off, hA⟩ := HA.out.addr (by rw [pcells_length]; omega)
        subst hA
        obtain ⟨b2, off2, hB⟩ := HB.out.addr (by rw [pcells_length]; omega)
        subst hB
        obtain ⟨c1, c2⟩ := HA.out.pair k hlt
        obtain ⟨d1, d2⟩ := HB.out.pair k hltm
        have HE : Hid (l[k] = m[k] ↔ l.take (k + 1) = m.take (k + 1)) := by
          have h1 : l.take (k + 1) = l.take k ++ [l[k]] := by rw [List.take_add_one, List.getElem?_eq_getElem hlt]; rfl
          have h2 : m.take (k + 1) = m.take k ++ [m[k]] := by rw [List.take_add_one, List.getElem?_eq_getElem hltm]; rfl
          rw [Hid, h1, h2, HT.out]
          exact ⟨fun h => by rw [h], fun h => by simpa using List.append_cancel_left h⟩
        generalize l[k] = x at c1 c2 HE
        generalize m[k] = y at d1 d2 HE
        obtain ⟨x1, x2⟩ := x
        obtain ⟨y1, y2⟩ := y
        simp only at c1 c2 d1 d2
        have hlt2 : (k : Int) < (l.length : Int) := by omega
        by_cases hxy : x1 = y1 ∧ x2 = y2
        · obtain ⟨rfl, rfl⟩ := hxy
          have HE2 := hid (HE.out.1 rfl)
          clear HE
          have e1 : (x1 == x1) = true := by simp
          have e2 : (x2 == x2) = true := by simp
          go_wp2
          go_quiet (fail)
          go_wp2
          go_roundw
          case rel => exact ⟨k + 1, q + nq, by omega, by go_num, rfl, HE2.out⟩
          case measure => simp [intOf]; omega
        · have HF : Hid ((l == m) = false) := by
            simp only [Hid, beq_eq_false_iff_ne, ne_eq]
            intro h
            have := HE.out.2 (by rw [h])
            simp only [Prod.mk.injEq] at this
            exact hxy this
          clear HE
          by_cases h1 : x1 = y1
          · subst h1
            have e1 : (x1 == x1) = true := by simp
            have e2 : (x2 == y2) = false := by rw [beq_eq_false_iff_ne]; exact fun h => hxy ⟨rfl, h⟩
            clear hxy
            go_wp2
            go_quiet (fail)
            go_wp2
            go_ret
            refine ⟨?_, q + nq, by simp⟩
            rw [HF.out]
            rfl
          · have e1 : (x1 == y1) = false := by rw [beq_eq_false_iff_ne]; exact h1
            clear hxy h1
            go_wp2
            go_quiet (fail)
            go_wp2
            go_ret
            refine ⟨?_, q + nq, by simp⟩
            rw [HF.out]
            rfl
      · have HF : Hid ((l == m) = true) := by
          have h1 := HT.out
          rw [List.take_of_length_le (by omega), List.take_of_length_le (by have := HL.out; omega)] at h1
          simp [Hid, h1]
        have hge : ¬ (k : Int) < (l.length : Int) := by omega
        go_wp2
        go_ret
        refine ⟨?_, _, rfl⟩
        rw [HF.out]
        rfl
  · have HF : Hid ((l == m) = false) := by
      simp only [Hid, beq_eq_false_iff_ne, ne_eq]
      intro h
      exact hlen (by rw [h])
    rw [HF.out]
    have hne : ((l.length : Int) != (m.length : Int)) = true := by simp; omega
    clear HF hA hB h6 h7 hlen
    go_enter Try.func123, Try.ntmps123
    go_wp2
    go_ret
    exact ⟨rfl, 0, rfl⟩

set_option maxHeartbeats 1000000 in
theorem rtasks_any (A B : Option Addr) (len cap len' cap' : Nat) (l m : List (Int × Int)) (W : World) (hA : Sl W 2 A len cap (pcells l)) (hB : Sl W 2 B len' cap' (pcells m)) (h6 : len ≤ 9223372036854775807) (h7 : len' ≤ 9223372036854775807) :
    Calls Try.prog 105 #[.slice A len cap, .slice B len' cap'] W fun e w' => e = .returned (.bool (l == m)) ∧ ∃ q, w' = W.drewN q := by
  obtain rfl := hA.plen
  obtain rfl := hB.plen
  by_cases hlen : l.length = m.length
  · have HA := hid hA
    have HB := hid hB
    clear hA hB
    have HL := hid hlen
    rw [← hlen]
    clear h7 hlen
    go_enter Try.func105, Try.ntmps105
    go_wp2
    go_loopw [5] (fun i wr => ∃ k q : Nat, k ≤ l.length ∧ i = .int .i64 (k : Int) ∧ wr = W.drewN q ∧ Hid (l.take k = m.take k)) (fun i _ => l.length - (intOf i).toNat)
    case atStart => exact ⟨0, 0, by omega, rfl, rfl, by simp [Hid]⟩
    case round =>
      obtain ⟨k, q, hk, rfl, rfl, HT⟩ := hrel
      by_cases hlt : k < l.length
      · have hltm : k < m.length := by have := HL.out; omega
        obtain ⟨b, off, hA⟩ := HA.out.addr (by rw [pcells_length]; omega)
        subst hA
        obtain ⟨b2, off2, hB⟩ := HB.out.addr (by rw [pcells_length]; omega)
        subst hB
        obtain ⟨c1, c2⟩ := HA.out.pair k hlt
        obtain ⟨d1, d2⟩ := HB.out.pair k hltm
        have HE : Hid (l[k] = m[k] ↔ l.take (k + 1) = m.take (k + 1)) := by
          have h1 : l.take (k + 1) = l.take k ++ [l[k]] := by rw [List.take_add_one, List.getElem?_eq_getElem hlt]; rfl
          have h2 : m.take (k + 1) = m.take k ++ [m[k]] := by rw [List.take_add_one, List.getElem?_eq_getElem hltm]; rfl
          rw [Hid, h1, h2, HT.out]
          exact ⟨fun h => by rw [h], fun h => by simpa using List.append_cancel_left h⟩
        generalize l[k] = x at c1 c2 HE
        generalize m[k] = y at d1 d2 HE
        obtain ⟨x1, x2⟩ := x
        obtain ⟨y1, y2⟩ := y
        simp only at c1 c2 d1 d2
        have hlt2 : (k : Int) < (l.length : Int) := by omega
        by_cases hxy : x1 = y1 ∧ x2 = y2
        · obtain ⟨rfl, rfl⟩ := hxy
          have HE2 := hid (HE.out.1 rfl)
          clear HE
          have e1 : (x1 == x1) = true := by simp
          have e2 : (x2 == x2) = true := by simp
          go_wp2
          go_quiet (fail)
          go_wp2
          go_roundw
          case rel => exact ⟨k + 1, q + nq, by omega, by go_num, rfl, HE2.out⟩
          case measure => simp [intOf]; omega
        · have HF : Hid ((l == m) = false) := by
            simp only [Hid, beq_eq_false_iff_ne, ne_eq]
            intro h
            have := HE.out.2 (by rw [h])
            simp only [Prod.mk.injEq] at this
            exact hxy this
          clear HE
          by_cases h1 : x1 = y1
          · subst h1
            have e1 : (x1 == x1) = true := by simp
            have e2 : (x2 == y2) = false := by rw [beq_eq_false_iff_ne]; exact fun h => hxy ⟨rfl, h⟩
            clear hxy
            go_wp2
            go_quiet (fail)
            go_wp2
            go_ret
            refine ⟨?_, q + nq, by simp⟩
            rw [HF.out]
            rfl
          · have e1 : (x1 == y1) = false := by rw [beq_eq_false_iff_ne]; exact h1
            clear hxy h1
            go_wp2
            go_quiet (fail)
            go_wp2
            go_ret
            refine ⟨?_, q + nq, by simp⟩
            rw [HF.out]
            rfl
      · have HF : Hid ((l == m) = true) := by
          have h1 := HT.out
          rw [List.take_of_length_le (by omega), List.take_of_length_le (by have := HL.out; omega)] at h1
          simp [Hid, h1]
        have hge : ¬ (k : Int) < (l.length : Int) := by omega
        go_wp2
        go_ret
        refine ⟨?_, _, rfl⟩
        rw [HF.out]
        rfl
  · have HF : Hid ((l == m) = false) := by
      simp only [Hid, beq_eq_false_iff_ne, ne_eq]
      intro h
      exact hlen (by rw [h])
    rw [HF.out]
    have hne : ((l.length : Int) != (m.length : Int)) = true := by simp; omega
    clear HF hA hB h6 h7 hlen
    go_enter Try.func105, Try.ntmps105
    go_wp2
    go_ret
    exact ⟨rfl, 0, rfl⟩



def samV (s t : Sv) : Bool := s.n == t.n && s.a == t.a && s.o == t.o && s.r == t.r
theorem Sl.len9 {w : World} {n len cap : Nat} {A : Option Addr} {cs : List Value} (h : Sl w n A len cap cs) : len ≤ 9223372036854775807 := by
  have h1 := h.2.1; have h2 := h.2.2.1; unfold maxLen at h2; omega
theorem drew_belowN {n : Nat} {W w : World} (h : Below n W w) (q : Nat) : Below n W (w.drewN q) := ⟨h.os, h.tape, h.output, h.size, h.block⟩
set_option maxRecDepth 20000 in
set_option maxHeartbeats 2000000 in
theorem rsame30_any (s t : Sv) (A O R B P Q : Option Addr) (ca co cr cb cp cq : Nat) (W : World) (h : InV W s A O R ca co cr) (h' : InV W t B P Q cb cp cq) :
    Calls Try.prog 88 #[.agg (svv s A O R ca co cr), .agg (svv t B P Q cb cp cq)] W fun e w' => e = .returned (.bool (samV s t)) ∧ Below W.heap.size W w' := by
  obtain ⟨n, a, o, r⟩ := s
  obtain ⟨m, b, p, q⟩ := t
  simp only [svv] at *
  have HA := hid (fun w (hw : Below W.heap.size W w) => rsame_pair A B a.length ca b.length cb a b w (h.1.below hw) (h'.1.below hw) h.1.len9 h'.1.len9)
  have HO := hid (fun w (hw : Below W.heap.size W w) => rtasks_any O P o.length co p.length cp o p w (h.2.1.below hw) (h'.2.1.below hw) h.2.1.len9 h'.2.1.len9)
  have HR := hid (fun w (hw : Below W.heap.size W w) => rtasks_any R Q r.length cr q.length cq r q w (h.2.2.below hw) (h'.2.2.below hw) h.2.2.len9 h'.2.2.len9)
  have HV : Hid (samV ⟨n, a, o, r⟩ ⟨m, b, p, q⟩ = (n == m && a == b && o == p && r == q)) := hid rfl
  clear h h'
  generalize (a == b) = ea at *
  generalize (o == p) = eo at *
  generalize (r == q) = er at *
  generalize samV ⟨n, a, o, r⟩ ⟨m, b, p, q⟩ = v at *
  have HK := hid (And.intro (heap_first W (.cells #[.int .i64 n, .slice A a.length ca, .slice O o.length co, .slice R r.length cr] 113) (.cells #[.int .i64 m, .slice B b.length cb, .slice P p.length cp, .slice Q q.length cq] 113)) (And.intro (heap_second W (.cells #[.int .i64 n, .slice A a.length ca, .slice O o.length co, .slice R r.length cr] 113) (.cells #[.int .i64 m, .slice B b.length cb, .slice P p.length cp, .slice Q q.length cq] 113)) (below2 W (.cells #[.int .i64 n, .slice A a.length ca, .slice O o.length co, .slice R r.length cr] 113) (.cells #[.int .i64 m, .slice B b.length cb, .slice P p.length cp, .slice Q q.length cq] 113))))
  generalize a.length = la at *
  generalize o.length = lo at *
  generalize r.length = lr at *
  generalize b.length = lb at *
  generalize p.length = lp at *
  generalize q.length = lq at *
  by_cases hn : n = m
  · subst hn
    have e1 : (n == n) = true := by simp
    rw [e1] at HV
    cases ea with
    | false =>
      go_enter Try.func88, Try.ntmps88
      go_upto_region 1 with (fail)
      refine at_world (fun w => w.heap[W.heap.size]? = some (.cells #[.int .i64 n, .slice A la ca, .slice O lo co, .slice R lr cr] 113 (0, 0)) ∧ w.heap[W.heap.size + 1]? = some (.cells #[.int .i64 n, .slice B lb cb, .slice P lp cp, .slice Q lq cq] 113 (0, 0)) ∧ Below W.heap.size W w) HK.out ?_
      clear HK
      rintro w1 ⟨k0, k1, hb1⟩
      obtain ⟨⟨p0, p1, p2, p3⟩, _⟩ := four_cells k0
      obtain ⟨⟨s0, s1, s2, s3⟩, _⟩ := four_cells k1
      have HB1 := hid hb1
      have HX := hid k0
      have HY := hid k1
      clear k0 k1 hb1
      have HV2 : Hid (v = false) := hid (by rw [HV.out]; simp)
      clear HV HO HR
      go_wp2_with fail
      refine (HA.out _ HB1.out).mono ?_
      rintro e w2 ⟨rfl, q0, rfl⟩
      clear HA
      go_wp2
      go_ret
      exact ⟨by rw [HV2.out]; rfl, drew_belowN HB1.out _⟩
    | true =>
      cases eo with
      | false =>
        go_enter Try.func88, Try.ntmps88
        go_upto_region 1 with (fail)
        refine at_world (fun w => w.heap[W.heap.size]? = some (.cells #[.int .i64 n, .slice A la ca, .slice O lo co, .slice R lr cr] 113 (0, 0)) ∧ w.heap[W.heap.size + 1]? = some (.cells #[.int .i64 n, .slice B lb cb, .slice P lp cp, .slice Q lq cq] 113 (0, 0)) ∧ Below W.heap.size W w) HK.out ?_
        clear HK
        rintro w1 ⟨k0, k1, hb1⟩
        obtain ⟨⟨p0, p1, p2, p3⟩, _⟩ := four_cells k0
        obtain ⟨⟨s0, s1, s2, s3⟩, _⟩ := four_cells k1
        have HB1 := hid hb1
        have HX := hid k0
        have HY := hid k1
        clear k0 k1 hb1
        have HV2 : Hid (v = false) := hid (by rw [HV.out]; simp)
        clear HV HR
        go_wp2_with fail
        refine (HA.out _ HB1.out).mono ?_
        rintro e w2 ⟨rfl, q0, rfl⟩
        clear HA
        go_wp2_with fail
        refine (HO.out _ (drew_belowN HB1.out _)).mono ?_
        rintro e w3 ⟨rfl, q1, rfl⟩
        clear HO
        go_wp2
        go_ret
        exact ⟨by rw [HV2.out]; rfl, drew_belowN HB1.out _⟩
      | true =>
        go_enter Try.func88, Try.ntmps88
        go_upto_region 1 with (fail)
        refine at_world (fun w => w.heap[W.heap.size]? = some (.cells #[.int .i64 n, .slice A la ca, .slice O lo co, .slice R lr cr] 113 (0, 0)) ∧ w.heap[W.heap.size + 1]? = some (.cells #[.int .i64 n, .slice B lb cb, .slice P lp cp, .slice Q lq cq] 113 (0, 0)) ∧ Below W.heap.size W w) HK.out ?_
        clear HK
        rintro w1 ⟨k0, k1, hb1⟩
        obtain ⟨⟨p0, p1, p2, p3⟩, _⟩ := four_cells k0
        obtain ⟨⟨s0, s1, s2, s3⟩, _⟩ := four_cells k1
        have HB1 := hid hb1
        have HX := hid k0
        have HY := hid k1
        clear k0 k1 hb1
        have HV2 : Hid (v = er) := hid (by rw [HV.out]; simp)
        clear HV
        go_wp2_with fail
        refine (HA.out _ HB1.out).mono ?_
        rintro e w2 ⟨rfl, q0, rfl⟩
        clear HA
        go_wp2_with fail
        refine (HO.out _ (drew_belowN HB1.out _)).mono ?_
        rintro e w3 ⟨rfl, q1, rfl⟩
        clear HO
        go_wp2_with fail
        refine (HR.out _ (drew_belowN HB1.out _)).mono ?_
        rintro e w4 ⟨rfl, q2, rfl⟩
        clear HR
        go_wp2
        go_ret
        exact ⟨by rw [HV2.out]; rfl, drew_belowN HB1.out _⟩
  · have e1 : (n == m) = false := by simpa using hn
    have HV2 : Hid (v = false) := hid (by rw [HV.out, e1]; simp)
    clear hn HV HA HO HR
    go_enter Try.func88, Try.ntmps88
    go_upto_region 1 with (fail)
    refine at_world (fun w => w.heap[W.heap.size]? = some (.cells #[.int .i64 n, .slice A la ca, .slice O lo co, .slice R lr cr] 113 (0, 0)) ∧ w.heap[W.heap.size + 1]? = some (.cells #[.int .i64 m, .slice B lb cb, .slice P lp cp, .slice Q lq cq] 113 (0, 0)) ∧ Below W.heap.size W w) HK.out ?_
    clear HK
    rintro w1 ⟨k0, k1, hb1⟩
    obtain ⟨⟨p0, p1, p2, p3⟩, _⟩ := four_cells k0
    obtain ⟨⟨s0, s1, s2, s3⟩, _⟩ := four_cells k1
    have HB1 := hid hb1
    have HX := hid k0
    have HY := hid k1
    clear k0 k1 hb1
    go_wp2
    go_ret
    exact ⟨by rw [HV2.out]; rfl, HB1.out⟩

set_option maxRecDepth 20000 in
set_option maxHeartbeats 2000000 in
theorem is30_any (s t : Sv) (A O R B P Q : Option Addr) (ca co cr cb cp cq : Nat) (W : World) (h : InV W s A O R ca co cr) (h' : InV W t B P Q cb cp cq) :
    Calls Try.prog 80 #[.agg (svv s A O R ca co cr), .agg (svv t B P Q cb cp cq)] W fun e w' => e = .returned (.bool (samV s t)) ∧ Below W.heap.size W w' := by
  obtain ⟨n, a, o, r⟩ := s
  obtain ⟨m, b, p, q⟩ := t
  simp only [svv] at *
  have HA := hid (fun w (hw : Below W.heap.size W w) => is_pair A B a.length ca b.length cb a b w (h.1.below hw) (h'.1.below hw) h.1.len9 h'.1.len9)
  have HO := hid (fun w (hw : Below W.heap.size W w) => rtasks_any O P o.length co p.length cp o p w (h.2.1.below hw) (h'.2.1.below hw) h.2.1.len9 h'.2.1.len9)
  have HR := hid (fun w (hw : Below W.heap.size W w) => rtasks_any R Q r.length cr q.length cq r q w (h.2.2.below hw) (h'.2.2.below hw) h.2.2.len9 h'.2.2.len9)
  have HV : Hid (samV ⟨n, a, o, r⟩ ⟨m, b, p, q⟩ = (n == m && a == b && o == p && r == q)) := hid rfl
  clear h h'
  generalize (a == b) = ea at *
  generalize (o == p) = eo at *
  generalize (r == q) = er at *
  generalize samV ⟨n, a, o, r⟩ ⟨m, b, p, q⟩ = v at *
  have HK := hid (And.intro (heap_first W (.cells #[.int .i64 n, .slice A a.length ca, .slice O o.length co, .slice R r.length cr] 116) (.cells #[.int .i64 m, .slice B b.length cb, .slice P p.length cp, .slice Q q.length cq] 113)) (And.intro (heap_second W (.cells #[.int .i64 n, .slice A a.length ca, .slice O o.length co, .slice R r.length cr] 116) (.cells #[.int .i64 m, .slice B b.length cb, .slice P p.length cp, .slice Q q.length cq] 113)) (below2 W (.cells #[.int .i64 n, .slice A a.length ca, .slice O o.length co, .slice R r.length cr] 116) (.cells #[.int .i64 m, .slice B b.length cb, .slice P p.length cp, .slice Q q.length cq] 113))))
  generalize a.length = la at *
  generalize o.length = lo at *
  generalize r.length = lr at *
  generalize b.length = lb at *
  generalize p.length = lp at *
  generalize q.length = lq at *
  by_cases hn : n = m
  · subst hn
    have e1 : (n == n) = true := by simp
    rw [e1] at HV
    cases ea with
    | false =>
      go_enter Try.func80, Try.ntmps80
      go_upto_region 1 with (fail)
      refine at_world (fun w => w.heap[W.heap.size]? = some (.cells #[.int .i64 n, .slice A la ca, .slice O lo co, .slice R lr cr] 116 (0, 0)) ∧ w.heap[W.heap.size + 1]? = some (.cells #[.int .i64 n, .slice B lb cb, .slice P lp cp, .slice Q lq cq] 113 (0, 0)) ∧ Below W.heap.size W w) HK.out ?_
      clear HK
      rintro w1 ⟨k0, k1, hb1⟩
      obtain ⟨⟨p0, p1, p2, p3⟩, _⟩ := four_cells k0
      obtain ⟨⟨s0, s1, s2, s3⟩, _⟩ := four_cells k1
      have HB1 := hid hb1
      have HX := hid k0
      have HY := hid k1
      clear k0 k1 hb1
      have HV2 : Hid (v = false) := hid (by rw [HV.out]; simp)
      clear HV HO HR
      go_wp2_with fail
      refine (HA.out _ HB1.out).mono ?_
      rintro e w2 ⟨rfl, q0, rfl⟩
      clear HA
      go_wp2
      go_ret
      exact ⟨by rw [HV2.out]; rfl, drew_belowN HB1.out _⟩
    | true =>
      cases eo with
      | false =>
        go_enter Try.func80, Try.ntmps80
        go_upto_region 1 with (fail)
        refine at_world (fun w => w.heap[W.heap.size]? = some (.cells #[.int .i64 n, .slice A la ca, .slice O lo co, .slice R lr cr] 116 (0, 0)) ∧ w.heap[W.heap.size + 1]? = some (.cells #[.int .i64 n, .slice B lb cb, .slice P lp cp, .slice Q lq cq] 113 (0, 0)) ∧ Below W.heap.size W w) HK.out ?_
        clear HK
        rintro w1 ⟨k0, k1, hb1⟩
        obtain ⟨⟨p0, p1, p2, p3⟩, _⟩ := four_cells k0
        obtain ⟨⟨s0, s1, s2, s3⟩, _⟩ := four_cells k1
        have HB1 := hid hb1
        have HX := hid k0
        have HY := hid k1
        clear k0 k1 hb1
        have HV2 : Hid (v = false) := hid (by rw [HV.out]; simp)
        clear HV HR
        go_wp2_with fail
        refine (HA.out _ HB1.out).mono ?_
        rintro e w2 ⟨rfl, q0, rfl⟩
        clear HA
        go_wp2_with fail
        refine (HO.out _ (drew_belowN HB1.out _)).mono ?_
        rintro e w3 ⟨rfl, q1, rfl⟩
        clear HO
        go_wp2
        go_ret
        exact ⟨by rw [HV2.out]; rfl, drew_belowN HB1.out _⟩
      | true =>
        go_enter Try.func80, Try.ntmps80
        go_upto_region 1 with (fail)
        refine at_world (fun w => w.heap[W.heap.size]? = some (.cells #[.int .i64 n, .slice A la ca, .slice O lo co, .slice R lr cr] 116 (0, 0)) ∧ w.heap[W.heap.size + 1]? = some (.cells #[.int .i64 n, .slice B lb cb, .slice P lp cp, .slice Q lq cq] 113 (0, 0)) ∧ Below W.heap.size W w) HK.out ?_
        clear HK
        rintro w1 ⟨k0, k1, hb1⟩
        obtain ⟨⟨p0, p1, p2, p3⟩, _⟩ := four_cells k0
        obtain ⟨⟨s0, s1, s2, s3⟩, _⟩ := four_cells k1
        have HB1 := hid hb1
        have HX := hid k0
        have HY := hid k1
        clear k0 k1 hb1
        have HV2 : Hid (v = er) := hid (by rw [HV.out]; simp)
        clear HV
        go_wp2_with fail
        refine (HA.out _ HB1.out).mono ?_
        rintro e w2 ⟨rfl, q0, rfl⟩
        clear HA
        go_wp2_with fail
        refine (HO.out _ (drew_belowN HB1.out _)).mono ?_
        rintro e w3 ⟨rfl, q1, rfl⟩
        clear HO
        go_wp2_with fail
        refine (HR.out _ (drew_belowN HB1.out _)).mono ?_
        rintro e w4 ⟨rfl, q2, rfl⟩
        clear HR
        go_wp2
        go_ret
        exact ⟨by rw [HV2.out]; rfl, drew_belowN HB1.out _⟩
  · have e1 : (n == m) = false := by simpa using hn
    have HV2 : Hid (v = false) := hid (by rw [HV.out, e1]; simp)
    clear hn HV HA HO HR
    go_enter Try.func80, Try.ntmps80
    go_upto_region 1 with (fail)
    refine at_world (fun w => w.heap[W.heap.size]? = some (.cells #[.int .i64 n, .slice A la ca, .slice O lo co, .slice R lr cr] 116 (0, 0)) ∧ w.heap[W.heap.size + 1]? = some (.cells #[.int .i64 m, .slice B lb cb, .slice P lp cp, .slice Q lq cq] 113 (0, 0)) ∧ Below W.heap.size W w) HK.out ?_
    clear HK
    rintro w1 ⟨k0, k1, hb1⟩
    obtain ⟨⟨p0, p1, p2, p3⟩, _⟩ := four_cells k0
    obtain ⟨⟨s0, s1, s2, s3⟩, _⟩ := four_cells k1
    have HB1 := hid hb1
    have HX := hid k0
    have HY := hid k1
    clear k0 k1 hb1
    go_wp2
    go_ret
    exact ⟨by rw [HV2.out]; rfl, HB1.out⟩

set_option maxRecDepth 20000 in
set_option maxHeartbeats 2000000 in
theorem ssame_any (s t : Sv) (A O R B P Q : Option Addr) (ca co cr cb cp cq : Nat) (W : World) (h : InV W s A O R ca co cr) (h' : InV W t B P Q cb cp cq) :
    Calls Try.prog 87 #[.agg (svv s A O R ca co cr), .agg (svv t B P Q cb cp cq)] W fun e w' => e = .returned (.bool (samV s t)) ∧ Below W.heap.size W w' := by
  obtain ⟨n, a, o, r⟩ := s
  obtain ⟨m, b, p, q⟩ := t
  simp only [svv] at *
  have HA := hid (fun w (hw : Below W.heap.size W w) => qsame_any A B a.length ca b.length cb a b w (h.1.below hw) (h'.1.below hw) h.1.len9 h'.1.len9)
  have HO := hid (fun w (hw : Below W.heap.size W w) => equal_task O P o.length co p.length cp o p w (h.2.1.below hw) (h'.2.1.below hw) h.2.1.len9 h'.2.1.len9)
  have HR := hid (fun w (hw : Below W.heap.size W w) => equal_task R Q r.length cr q.length cq r q w (h.2.2.below hw) (h'.2.2.below hw) h.2.2.len9 h'.2.2.len9)
  have HV : Hid (samV ⟨n, a, o, r⟩ ⟨m, b, p, q⟩ = (n == m && a == b && o == p && r == q)) := hid rfl
  clear h h'
  generalize (a == b) = ea at *
  generalize (o == p) = eo at *
  generalize (r == q) = er at *
  generalize samV ⟨n, a, o, r⟩ ⟨m, b, p, q⟩ = v at *
  have HK := hid (And.intro (heap_first W (.cells #[.int .i64 n, .slice A a.length ca, .slice O o.length co, .slice R r.length cr] 116) (.cells #[.int .i64 m, .slice B b.length cb, .slice P p.length cp, .slice Q q.length cq] 116)) (And.intro (heap_second W (.cells #[.int .i64 n, .slice A a.length ca, .slice O o.length co, .slice R r.length cr] 116) (.cells #[.int .i64 m, .slice B b.length cb, .slice P p.length cp, .slice Q q.length cq] 116)) (below2 W (.cells #[.int .i64 n, .slice A a.length ca, .slice O o.length co, .slice R r.length cr] 116) (.cells #[.int .i64 m, .slice B b.length cb, .slice P p.length cp, .slice Q q.length cq] 116))))
  generalize a.length = la at *
  generalize o.length = lo at *
  generalize r.length = lr at *
  generalize b.length = lb at *
  generalize p.length = lp at *
  generalize q.length = lq at *
  by_cases hn : n = m
  · subst hn
    have e1 : (n == n) = true := by simp
    rw [e1] at HV
    cases ea with
    | false =>
      go_enter Try.func87, Try.ntmps87
      go_upto_region 1 with (fail)
      refine at_world (fun w => w.heap[W.heap.size]? = some (.cells #[.int .i64 n, .slice A la ca, .slice O lo co, .slice R lr cr] 116 (0, 0)) ∧ w.heap[W.heap.size + 1]? = some (.cells #[.int .i64 n, .slice B lb cb, .slice P lp cp, .slice Q lq cq] 116 (0, 0)) ∧ Below W.heap.size W w) HK.out ?_
      clear HK
      rintro w1 ⟨k0, k1, hb1⟩
      obtain ⟨⟨p0, p1, p2, p3⟩, _⟩ := four_cells k0
      obtain ⟨⟨s0, s1, s2, s3⟩, _⟩ := four_cells k1
      have HB1 := hid hb1
      have HX := hid k0
      have HY := hid k1
      clear k0 k1 hb1
      have HV2 : Hid (v = false) := hid (by rw [HV.out]; simp)
      clear HV HO HR
      go_wp2_with fail
      refine (HA.out _ HB1.out).mono ?_
      rintro e w2 ⟨rfl, q0, rfl⟩
      clear HA
      go_wp2
      go_ret
      exact ⟨by rw [HV2.out]; rfl, drew_belowN HB1.out _⟩
    | true =>
      cases eo with
      | false =>
        go_enter Try.func87, Try.ntmps87
        go_upto_region 1 with (fail)
        refine at_world (fun w => w.heap[W.heap.size]? = some (.cells #[.int .i64 n, .slice A la ca, .slice O lo co, .slice R lr cr] 116 (0, 0)) ∧ w.heap[W.heap.size + 1]? = some (.cells #[.int .i64 n, .slice B lb cb, .slice P lp cp, .slice Q lq cq] 116 (0, 0)) ∧ Below W.heap.size W w) HK.out ?_
        clear HK
        rintro w1 ⟨k0, k1, hb1⟩
        obtain ⟨⟨p0, p1, p2, p3⟩, _⟩ := four_cells k0
        obtain ⟨⟨s0, s1, s2, s3⟩, _⟩ := four_cells k1
        have HB1 := hid hb1
        have HX := hid k0
        have HY := hid k1
        clear k0 k1 hb1
        have HV2 : Hid (v = false) := hid (by rw [HV.out]; simp)
        clear HV HR
        go_wp2_with fail
        refine (HA.out _ HB1.out).mono ?_
        rintro e w2 ⟨rfl, q0, rfl⟩
        clear HA
        go_wp2_with fail
        refine (HO.out _ (drew_belowN HB1.out _)).mono ?_
        rintro e w3 ⟨rfl, q1, rfl⟩
        clear HO
        go_wp2
        go_ret
        exact ⟨by rw [HV2.out]; rfl, drew_belowN HB1.out _⟩
      | true =>
        go_enter Try.func87, Try.ntmps87
        go_upto_region 1 with (fail)
        refine at_world (fun w => w.heap[W.heap.size]? = some (.cells #[.int .i64 n, .slice A la ca, .slice O lo co, .slice R lr cr] 116 (0, 0)) ∧ w.heap[W.heap.size + 1]? = some (.cells #[.int .i64 n, .slice B lb cb, .slice P lp cp, .slice Q lq cq] 116 (0, 0)) ∧ Below W.heap.size W w) HK.out ?_
        clear HK
        rintro w1 ⟨k0, k1, hb1⟩
        obtain ⟨⟨p0, p1, p2, p3⟩, _⟩ := four_cells k0
        obtain ⟨⟨s0, s1, s2, s3⟩, _⟩ := four_cells k1
        have HB1 := hid hb1
        have HX := hid k0
        have HY := hid k1
        clear k0 k1 hb1
        have HV2 : Hid (v = er) := hid (by rw [HV.out]; simp)
        clear HV
        go_wp2_with fail
        refine (HA.out _ HB1.out).mono ?_
        rintro e w2 ⟨rfl, q0, rfl⟩
        clear HA
        go_wp2_with fail
        refine (HO.out _ (drew_belowN HB1.out _)).mono ?_
        rintro e w3 ⟨rfl, q1, rfl⟩
        clear HO
        go_wp2_with fail
        refine (HR.out _ (drew_belowN HB1.out _)).mono ?_
        rintro e w4 ⟨rfl, q2, rfl⟩
        clear HR
        go_wp2
        go_ret
        exact ⟨by rw [HV2.out]; rfl, drew_belowN HB1.out _⟩
  · have e1 : (n == m) = false := by simpa using hn
    have HV2 : Hid (v = false) := hid (by rw [HV.out, e1]; simp)
    clear hn HV HA HO HR
    go_enter Try.func87, Try.ntmps87
    go_upto_region 1 with (fail)
    refine at_world (fun w => w.heap[W.heap.size]? = some (.cells #[.int .i64 n, .slice A la ca, .slice O lo co, .slice R lr cr] 116 (0, 0)) ∧ w.heap[W.heap.size + 1]? = some (.cells #[.int .i64 m, .slice B lb cb, .slice P lp cp, .slice Q lq cq] 116 (0, 0)) ∧ Below W.heap.size W w) HK.out ?_
    clear HK
    rintro w1 ⟨k0, k1, hb1⟩
    obtain ⟨⟨p0, p1, p2, p3⟩, _⟩ := four_cells k0
    obtain ⟨⟨s0, s1, s2, s3⟩, _⟩ := four_cells k1
    have HB1 := hid hb1
    have HX := hid k0
    have HY := hid k1
    clear k0 k1 hb1
    go_wp2
    go_ret
    exact ⟨by rw [HV2.out]; rfl, HB1.out⟩

end Go.Proofs.Ytadjmgmdnekllaa
