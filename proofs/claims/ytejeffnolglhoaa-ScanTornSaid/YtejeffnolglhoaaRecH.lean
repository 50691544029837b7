/- Same and Most of records, the package's and the document's: contracts. -/
import Derived.Test.YtejeffnolglhoaaRecG
import Derived.Test.YtejeffnolglhoaaStrC
import Derived.Test.YtejeffnolglhoaaShelf
namespace Go.Proofs.Ytejeffnolglhoaa
open Go.RowKit
set_option linter.unusedVariables false
set_option linter.unusedSimpArgs false

theorem str_inj {a b : List UInt8} (h : str a = str b) : a = b := by
  have h2 := congrArg (fun s => s.data.toList) h
  simpa [str] using h2
theorem map_str (l m : List (List UInt8)) : decide (l.map str = m.map str) = (l == m) := by
  by_cases h : l = m
  · subst h; simp
  · have h2 : ¬ l.map str = m.map str := fun e => h (by
      have := congrArg (List.map fun s : ByteArray => s.data.toList) e
      simpa [List.map_map, Function.comp_def, str] using this)
    rw [decide_eq_false h2]
    symm
    simpa using h
theorem eqS_any (A A' : Option Addr) (c c' : Nat) (l m : List (List UInt8)) (W : World) (hA : TxAt W A c l) (hB : TxAt W A' c' m) :
    Calls Try.prog 60 #[.slice A l.length c, .slice A' m.length c'] W fun e w' => e = .returned (.bool (l == m)) ∧ ∃ q, w' = W.drewN q := by
  by_cases hlen : l.length = m.length
  · by_cases h0 : l.length = 0
    · have hl : l = [] := List.eq_nil_of_length_eq_zero h0
      have hm : m = [] := List.eq_nil_of_length_eq_zero (by omega)
      subst hl hm
      refine (Try.slices_Equal_string_empty A A' c 0 c' W (by omega)).mono ?_
      rintro e w' ⟨rfl, rfl⟩
      exact ⟨rfl, 0, rfl⟩
    · obtain ⟨b1, o1, rfl, hc1⟩ := hA.1.2.2.2 (by rw [scells_length]; omega)
      obtain ⟨b2, o2, rfl, hc2⟩ := hB.1.2.2.2 (by rw [scells_length]; omega)
      have e1 : ∀ (l : List (List UInt8)) (j : Nat), j < (l.map str).length → (scells l)[j]? = some (.string ((l.map str).getD j ByteArray.empty)) := fun l j hj => by
        rw [List.length_map] at hj
        simp [scells, List.getD_eq_getElem?_getD, hj]
      have h := Try.slices_Equal_string b1 o1 l.length c b2 o2 m.length c' (l.map str) (m.map str) W (by simp) (by simp) hA.len hB.len (fun j hj => by
        rw [hc1 j (by rw [scells_length]; simpa using hj), e1 l j hj]) (fun j hj => by
        rw [hc2 j (by rw [scells_length]; simpa using hj), e1 m j hj])
      rw [List.take_of_length_le (by simp), List.take_of_length_le (by simp), map_str] at h
      exact h
  · have hne : (l == m) = false := by
      simp only [beq_eq_false_iff_ne]
      exact fun e => hlen (by rw [e])
    refine (Try.slices_Equal_string_lens A A' l.length c m.length c' W hlen).mono ?_
    rintro e w' ⟨rfl, rfl⟩
    exact ⟨by rw [hne], 0, rfl⟩
theorem nsame_any (A A' : Option Addr) (c c' : Nat) (l m : List (List UInt8)) (W : World) (hA : TxAt W A c l) (hB : TxAt W A' c' m) :
    Calls Try.prog 43 #[.slice A l.length c, .slice A' m.length c'] W fun e w' => e = .returned (.bool (l == m)) ∧ ∃ q, w' = W.drewN q := by
  have H := hid (eqS_any A A' c c' l m W hA hB)
  clear hA hB
  go_enter Try.func43, Try.ntmps43
  go_wp2_with fail
  refine H.out.mono ?_
  rintro e w' ⟨rfl, q, rfl⟩
  go_wp2
  go_ret
  exact ⟨rfl, q, rfl⟩
def sameR (x y : Rc) : Bool := x.k == y.k && x.j == y.j && x.t == y.t && x.w == y.w && x.s == y.s && x.e == y.e && x.ns == y.ns
theorem sameR_refl (x : Rc) : sameR x x = true := by simp [sameR]
theorem below_drewN9 (W : World) (q : Nat) : Below W.heap.size W (W.drewN q) := ⟨rfl, rfl, rfl, Nat.le_refl _, fun _ _ => rfl⟩

set_option maxRecDepth 20000 in
set_option maxHeartbeats 4000000 in
theorem recsame_any (x y : Rc) (A A' : Option Addr) (c c' : Nat) (W : World) (hx : TxAt W A c x.ns) (hy : TxAt W A' c' y.ns) :
    Calls Try.prog 16 #[.agg (rcc x A c), .agg (rcc y A' c')] W fun e w' => e = .returned (.bool (sameR x y)) ∧ Below W.heap.size W w' := by
  have HS := hid (fun w (hw : Below W.heap.size W w) => nsame_any A A' c c' x.ns y.ns w (hx.below hw) (hy.below hw))
  have hlx := hx.len
  have hly := hy.len
  have HI : Hid (sameR x y = (x.k == y.k && x.j == y.j && x.t == y.t && x.w == y.w && x.s == y.s && x.e == y.e && x.ns == y.ns)) := hid rfl
  generalize sameR x y = r at *
  obtain ⟨k, j, t, w, s, e, ns⟩ := x
  obtain ⟨k2, j2, t2, w2, s2, e2, ns2⟩ := y
  clear hx hy
  simp only [rcc] at *
  generalize (ns == ns2) = bn at *
  by_cases h_k : k = k2
  case neg =>
    have q9 : (k == k2) = false := by simpa using h_k
    have HV : Hid (r = false) := hid (by rw [HI.out, q9]; simp)
    clear HI
    go_enter Try.func16, Try.ntmps16
    go_upto_region 1 with (fail)
    refine at_world (fun u => u.heap[W.heap.size]? = some (.cells #[.int .i64 k, .int .i64 j, .int .i64 t, .int .i64 w, .int .i64 s, .int .i64 e, .slice A ns.length c] 24 (0, 0)) ∧ u.heap[W.heap.size + 1]? = some (.cells #[.int .i64 k2, .int .i64 j2, .int .i64 t2, .int .i64 w2, .int .i64 s2, .int .i64 e2, .slice A' ns2.length c'] 24 (0, 0)) ∧ Below W.heap.size W u) ⟨heap_first _ _ _, heap_second _ _ _, below2 _ _ _⟩ ?_
    rintro w1 ⟨hx1, hy1, hB1⟩
    obtain ⟨p0, p1, p2, p3, p4, p5, p6⟩ := seven_cells hx1
    obtain ⟨r0, r1, r2, r3, r4, r5, r6⟩ := seven_cells hy1
    have HB1 := hid hB1
    clear hx1 hy1 hB1
    go_wp2
    go_ret
    exact ⟨by rw [HV.out]; rfl, HB1.out⟩
  subst h_k
  by_cases h_j : j = j2
  case neg =>
    have q9 : (j == j2) = false := by simpa using h_j
    have HV : Hid (r = false) := hid (by rw [HI.out, q9]; simp)
    clear HI
    go_enter Try.func16, Try.ntmps16
    go_upto_region 1 with (fail)
    refine at_world (fun u => u.heap[W.heap.size]? = some (.cells #[.int .i64 k, .int .i64 j, .int .i64 t, .int .i64 w, .int .i64 s, .int .i64 e, .slice A ns.length c] 24 (0, 0)) ∧ u.heap[W.heap.size + 1]? = some (.cells #[.int .i64 k, .int .i64 j2, .int .i64 t2, .int .i64 w2, .int .i64 s2, .int .i64 e2, .slice A' ns2.length c'] 24 (0, 0)) ∧ Below W.heap.size W u) ⟨heap_first _ _ _, heap_second _ _ _, below2 _ _ _⟩ ?_
    rintro w1 ⟨hx1, hy1, hB1⟩
    obtain ⟨p0, p1, p2, p3, p4, p5, p6⟩ := seven_cells hx1
    obtain ⟨r0, r1, r2, r3, r4, r5, r6⟩ := seven_cells hy1
    have HB1 := hid hB1
    clear hx1 hy1 hB1
    go_wp2
    go_ret
    exact ⟨by rw [HV.out]; rfl, HB1.out⟩
  subst h_j
  by_cases h_t : t = t2
  case neg =>
    have q9 : (t == t2) = false := by simpa using h_t
    have HV : Hid (r = false) := hid (by rw [HI.out, q9]; simp)
    clear HI
    go_enter Try.func16, Try.ntmps16
    go_upto_region 1 with (fail)
    refine at_world (fun u => u.heap[W.heap.size]? = some (.cells #[.int .i64 k, .int .i64 j, .int .i64 t, .int .i64 w, .int .i64 s, .int .i64 e, .slice A ns.length c] 24 (0, 0)) ∧ u.heap[W.heap.size + 1]? = some (.cells #[.int .i64 k, .int .i64 j, .int .i64 t2, .int .i64 w2, .int .i64 s2, .int .i64 e2, .slice A' ns2.length c'] 24 (0, 0)) ∧ Below W.heap.size W u) ⟨heap_first _ _ _, heap_second _ _ _, below2 _ _ _⟩ ?_
    rintro w1 ⟨hx1, hy1, hB1⟩
    obtain ⟨p0, p1, p2, p3, p4, p5, p6⟩ := seven_cells hx1
    obtain ⟨r0, r1, r2, r3, r4, r5, r6⟩ := seven_cells hy1
    have HB1 := hid hB1
    clear hx1 hy1 hB1
    go_wp2
    go_ret
    exact ⟨by rw [HV.out]; rfl, HB1.out⟩
  subst h_t
  by_cases h_w : w = w2
  case neg =>
    have q9 : (w == w2) = false := by simpa using h_w
    have HV : Hid (r = false) := hid (by rw [HI.out, q9]; simp)
    clear HI
    go_enter Try.func16, Try.ntmps16
    go_upto_region 1 with (fail)
    refine at_world (fun u => u.heap[W.heap.size]? = some (.cells #[.int .i64 k, .int .i64 j, .int .i64 t, .int .i64 w, .int .i64 s, .int .i64 e, .slice A ns.length c] 24 (0, 0)) ∧ u.heap[W.heap.size + 1]? = some (.cells #[.int .i64 k, .int .i64 j, .int .i64 t, .int .i64 w2, .int .i64 s2, .int .i64 e2, .slice A' ns2.length c'] 24 (0, 0)) ∧ Below W.heap.size W u) ⟨heap_first _ _ _, heap_second _ _ _, below2 _ _ _⟩ ?_
    rintro w1 ⟨hx1, hy1, hB1⟩
    obtain ⟨p0, p1, p2, p3, p4, p5, p6⟩ := seven_cells hx1
    obtain ⟨r0, r1, r2, r3, r4, r5, r6⟩ := seven_cells hy1
    have HB1 := hid hB1
    clear hx1 hy1 hB1
    go_wp2
    go_ret
    exact ⟨by rw [HV.out]; rfl, HB1.out⟩
  subst h_w
  by_cases h_s : s = s2
  case neg =>
    have q9 : (s == s2) = false := by simpa using h_s
    have HV : Hid (r = false) := hid (by rw [HI.out, q9]; simp)
    clear HI
    go_enter Try.func16, Try.ntmps16
    go_upto_region 1 with (fail)
    refine at_world (fun u => u.heap[W.heap.size]? = some (.cells #[.int .i64 k, .int .i64 j, .int .i64 t, .int .i64 w, .int .i64 s, .int .i64 e, .slice A ns.length c] 24 (0, 0)) ∧ u.heap[W.heap.size + 1]? = some (.cells #[.int .i64 k, .int .i64 j, .int .i64 t, .int .i64 w, .int .i64 s2, .int .i64 e2, .slice A' ns2.length c'] 24 (0, 0)) ∧ Below W.heap.size W u) ⟨heap_first _ _ _, heap_second _ _ _, below2 _ _ _⟩ ?_
    rintro w1 ⟨hx1, hy1, hB1⟩
    obtain ⟨p0, p1, p2, p3, p4, p5, p6⟩ := seven_cells hx1
    obtain ⟨r0, r1, r2, r3, r4, r5, r6⟩ := seven_cells hy1
    have HB1 := hid hB1
    clear hx1 hy1 hB1
    go_wp2
    go_ret
    exact ⟨by rw [HV.out]; rfl, HB1.out⟩
  subst h_s
  by_cases h_e : e = e2
  case neg =>
    have q9 : (e == e2) = false := by simpa using h_e
    have HV : Hid (r = false) := hid (by rw [HI.out, q9]; simp)
    clear HI
    go_enter Try.func16, Try.ntmps16
    go_upto_region 1 with (fail)
    refine at_world (fun u => u.heap[W.heap.size]? = some (.cells #[.int .i64 k, .int .i64 j, .int .i64 t, .int .i64 w, .int .i64 s, .int .i64 e, .slice A ns.length c] 24 (0, 0)) ∧ u.heap[W.heap.size + 1]? = some (.cells #[.int .i64 k, .int .i64 j, .int .i64 t, .int .i64 w, .int .i64 s, .int .i64 e2, .slice A' ns2.length c'] 24 (0, 0)) ∧ Below W.heap.size W u) ⟨heap_first _ _ _, heap_second _ _ _, below2 _ _ _⟩ ?_
    rintro w1 ⟨hx1, hy1, hB1⟩
    obtain ⟨p0, p1, p2, p3, p4, p5, p6⟩ := seven_cells hx1
    obtain ⟨r0, r1, r2, r3, r4, r5, r6⟩ := seven_cells hy1
    have HB1 := hid hB1
    clear hx1 hy1 hB1
    go_wp2
    go_ret
    exact ⟨by rw [HV.out]; rfl, HB1.out⟩
  subst h_e
  have HV : Hid (r = bn) := hid (by rw [HI.out]; simp)
  clear HI
  go_enter Try.func16, Try.ntmps16
  go_upto_region 1 with (fail)
  refine at_world (fun u => u.heap[W.heap.size]? = some (.cells #[.int .i64 k, .int .i64 j, .int .i64 t, .int .i64 w, .int .i64 s, .int .i64 e, .slice A ns.length c] 24 (0, 0)) ∧ u.heap[W.heap.size + 1]? = some (.cells #[.int .i64 k, .int .i64 j, .int .i64 t, .int .i64 w, .int .i64 s, .int .i64 e, .slice A' ns2.length c'] 24 (0, 0)) ∧ Below W.heap.size W u) ⟨heap_first _ _ _, heap_second _ _ _, below2 _ _ _⟩ ?_
  rintro w1 ⟨hx1, hy1, hB1⟩
  obtain ⟨p0, p1, p2, p3, p4, p5, p6⟩ := seven_cells hx1
  obtain ⟨r0, r1, r2, r3, r4, r5, r6⟩ := seven_cells hy1
  have HB1 := hid hB1
  clear hx1 hy1 hB1
  go_wp2_with fail
  refine (HS.out _ HB1.out).mono ?_
  rintro x w3 ⟨rfl, q, rfl⟩
  go_wp2
  go_ret
  exact ⟨by rw [HV.out]; rfl, HB1.out.trans ((below_drewN9 w1 q).mono HB1.out.size)⟩

set_option maxRecDepth 20000 in
set_option maxHeartbeats 4000000 in
theorem r17same_any (x y : Rc) (A A' : Option Addr) (c c' : Nat) (W : World) (hx : TxAt W A c x.ns) (hy : TxAt W A' c' y.ns) :
    Calls Try.prog 17 #[.agg (rcc x A c), .agg (rcc y A' c')] W fun e w' => e = .returned (.bool (sameR x y)) ∧ Below W.heap.size W w' := by
  have HS := hid (fun w (hw : Below W.heap.size W w) => same03 A A' x.ns.length c y.ns.length c' x.ns y.ns w (hx.below hw).1 (hy.below hw).1 hx.len hy.len)
  have hlx := hx.len
  have hly := hy.len
  have HI : Hid (sameR x y = (x.k == y.k && x.j == y.j && x.t == y.t && x.w == y.w && x.s == y.s && x.e == y.e && x.ns == y.ns)) := hid rfl
  generalize sameR x y = r at *
  obtain ⟨k, j, t, w, s, e, ns⟩ := x
  obtain ⟨k2, j2, t2, w2, s2, e2, ns2⟩ := y
  clear hx hy
  simp only [rcc] at *
  generalize (ns == ns2) = bn at *
  by_cases h_k : k = k2
  case neg =>
    have q9 : (k == k2) = false := by simpa using h_k
    have HV : Hid (r = false) := hid (by rw [HI.out, q9]; simp)
    clear HI
    go_enter Try.func17, Try.ntmps17
    go_upto_region 1 with (fail)
    refine at_world (fun u => u.heap[W.heap.size]? = some (.cells #[.int .i64 k, .int .i64 j, .int .i64 t, .int .i64 w, .int .i64 s, .int .i64 e, .slice A ns.length c] 24 (0, 0)) ∧ u.heap[W.heap.size + 1]? = some (.cells #[.int .i64 k2, .int .i64 j2, .int .i64 t2, .int .i64 w2, .int .i64 s2, .int .i64 e2, .slice A' ns2.length c'] 24 (0, 0)) ∧ Below W.heap.size W u) ⟨heap_first _ _ _, heap_second _ _ _, below2 _ _ _⟩ ?_
    rintro w1 ⟨hx1, hy1, hB1⟩
    obtain ⟨p0, p1, p2, p3, p4, p5, p6⟩ := seven_cells hx1
    obtain ⟨r0, r1, r2, r3, r4, r5, r6⟩ := seven_cells hy1
    have HB1 := hid hB1
    clear hx1 hy1 hB1
    go_wp2
    go_ret
    exact ⟨by rw [HV.out]; rfl, HB1.out⟩
  subst h_k
  by_cases h_j : j = j2
  case neg =>
    have q9 : (j == j2) = false := by simpa using h_j
    have HV : Hid (r = false) := hid (by rw [HI.out, q9]; simp)
    clear HI
    go_enter Try.func17, Try.ntmps17
    go_upto_region 1 with (fail)
    refine at_world (fun u => u.heap[W.heap.size]? = some (.cells #[.int .i64 k, .int .i64 j, .int .i64 t, .int .i64 w, .int .i64 s, .int .i64 e, .slice A ns.length c] 24 (0, 0)) ∧ u.heap[W.heap.size + 1]? = some (.cells #[.int .i64 k, .int .i64 j2, .int .i64 t2, .int .i64 w2, .int .i64 s2, .int .i64 e2, .slice A' ns2.length c'] 24 (0, 0)) ∧ Below W.heap.size W u) ⟨heap_first _ _ _, heap_second _ _ _, below2 _ _ _⟩ ?_
    rintro w1 ⟨hx1, hy1, hB1⟩
    obtain ⟨p0, p1, p2, p3, p4, p5, p6⟩ := seven_cells hx1
    obtain ⟨r0, r1, r2, r3, r4, r5, r6⟩ := seven_cells hy1
    have HB1 := hid hB1
    clear hx1 hy1 hB1
    go_wp2
    go_ret
    exact ⟨by rw [HV.out]; rfl, HB1.out⟩
  subst h_j
  by_cases h_t : t = t2
  case neg =>
    have q9 : (t == t2) = false := by simpa using h_t
    have HV : Hid (r = false) := hid (by rw [HI.out, q9]; simp)
    clear HI
    go_enter Try.func17, Try.ntmps17
    go_upto_region 1 with (fail)
    refine at_world (fun u => u.heap[W.heap.size]? = some (.cells #[.int .i64 k, .int .i64 j, .int .i64 t, .int .i64 w, .int .i64 s, .int .i64 e, .slice A ns.length c] 24 (0, 0)) ∧ u.heap[W.heap.size + 1]? = some (.cells #[.int .i64 k, .int .i64 j, .int .i64 t2, .int .i64 w2, .int .i64 s2, .int .i64 e2, .slice A' ns2.length c'] 24 (0, 0)) ∧ Below W.heap.size W u) ⟨heap_first _ _ _, heap_second _ _ _, below2 _ _ _⟩ ?_
    rintro w1 ⟨hx1, hy1, hB1⟩
    obtain ⟨p0, p1, p2, p3, p4, p5, p6⟩ := seven_cells hx1
    obtain ⟨r0, r1, r2, r3, r4, r5, r6⟩ := seven_cells hy1
    have HB1 := hid hB1
    clear hx1 hy1 hB1
    go_wp2
    go_ret
    exact ⟨by rw [HV.out]; rfl, HB1.out⟩
  subst h_t
  by_cases h_w : w = w2
  case neg =>
    have q9 : (w == w2) = false := by simpa using h_w
    have HV : Hid (r = false) := hid (by rw [HI.out, q9]; simp)
    clear HI
    go_enter Try.func17, Try.ntmps17
    go_upto_region 1 with (fail)
    refine at_world (fun u => u.heap[W.heap.size]? = some (.cells #[.int .i64 k, .int .i64 j, .int .i64 t, .int .i64 w, .int .i64 s, .int .i64 e, .slice A ns.length c] 24 (0, 0)) ∧ u.heap[W.heap.size + 1]? = some (.cells #[.int .i64 k, .int .i64 j, .int .i64 t, .int .i64 w2, .int .i64 s2, .int .i64 e2, .slice A' ns2.length c'] 24 (0, 0)) ∧ Below W.heap.size W u) ⟨heap_first _ _ _, heap_second _ _ _, below2 _ _ _⟩ ?_
    rintro w1 ⟨hx1, hy1, hB1⟩
    obtain ⟨p0, p1, p2, p3, p4, p5, p6⟩ := seven_cells hx1
    obtain ⟨r0, r1, r2, r3, r4, r5, r6⟩ := seven_cells hy1
    have HB1 := hid hB1
    clear hx1 hy1 hB1
    go_wp2
    go_ret
    exact ⟨by rw [HV.out]; rfl, HB1.out⟩
  subst h_w
  by_cases h_s : s = s2
  case neg =>
    have q9 : (s == s2) = false := by simpa using h_s
    have HV : Hid (r = false) := hid (by rw [HI.out, q9]; simp)
    clear HI
    go_enter Try.func17, Try.ntmps17
    go_upto_region 1 with (fail)
    refine at_world (fun u => u.heap[W.heap.size]? = some (.cells #[.int .i64 k, .int .i64 j, .int .i64 t, .int .i64 w, .int .i64 s, .int .i64 e, .slice A ns.length c] 24 (0, 0)) ∧ u.heap[W.heap.size + 1]? = some (.cells #[.int .i64 k, .int .i64 j, .int .i64 t, .int .i64 w, .int .i64 s2, .int .i64 e2, .slice A' ns2.length c'] 24 (0, 0)) ∧ Below W.heap.size W u) ⟨heap_first _ _ _, heap_second _ _ _, below2 _ _ _⟩ ?_
    rintro w1 ⟨hx1, hy1, hB1⟩
    obtain ⟨p0, p1, p2, p3, p4, p5, p6⟩ := seven_cells hx1
    obtain ⟨r0, r1, r2, r3, r4, r5, r6⟩ := seven_cells hy1
    have HB1 := hid hB1
    clear hx1 hy1 hB1
    go_wp2
    go_ret
    exact ⟨by rw [HV.out]; rfl, HB1.out⟩
  subst h_s
  by_cases h_e : e = e2
  case neg =>
    have q9 : (e == e2) = false := by simpa using h_e
    have HV : Hid (r = false) := hid (by rw [HI.out, q9]; simp)
    clear HI
    go_enter Try.func17, Try.ntmps17
    go_upto_region 1 with (fail)
    refine at_world (fun u => u.heap[W.heap.size]? = some (.cells #[.int .i64 k, .int .i64 j, .int .i64 t, .int .i64 w, .int .i64 s, .int .i64 e, .slice A ns.length c] 24 (0, 0)) ∧ u.heap[W.heap.size + 1]? = some (.cells #[.int .i64 k, .int .i64 j, .int .i64 t, .int .i64 w, .int .i64 s, .int .i64 e2, .slice A' ns2.length c'] 24 (0, 0)) ∧ Below W.heap.size W u) ⟨heap_first _ _ _, heap_second _ _ _, below2 _ _ _⟩ ?_
    rintro w1 ⟨hx1, hy1, hB1⟩
    obtain ⟨p0, p1, p2, p3, p4, p5, p6⟩ := seven_cells hx1
    obtain ⟨r0, r1, r2, r3, r4, r5, r6⟩ := seven_cells hy1
    have HB1 := hid hB1
    clear hx1 hy1 hB1
    go_wp2
    go_ret
    exact ⟨by rw [HV.out]; rfl, HB1.out⟩
  subst h_e
  have HV : Hid (r = bn) := hid (by rw [HI.out]; simp)
  clear HI
  go_enter Try.func17, Try.ntmps17
  go_upto_region 1 with (fail)
  refine at_world (fun u => u.heap[W.heap.size]? = some (.cells #[.int .i64 k, .int .i64 j, .int .i64 t, .int .i64 w, .int .i64 s, .int .i64 e, .slice A ns.length c] 24 (0, 0)) ∧ u.heap[W.heap.size + 1]? = some (.cells #[.int .i64 k, .int .i64 j, .int .i64 t, .int .i64 w, .int .i64 s, .int .i64 e, .slice A' ns2.length c'] 24 (0, 0)) ∧ Below W.heap.size W u) ⟨heap_first _ _ _, heap_second _ _ _, below2 _ _ _⟩ ?_
  rintro w1 ⟨hx1, hy1, hB1⟩
  obtain ⟨p0, p1, p2, p3, p4, p5, p6⟩ := seven_cells hx1
  obtain ⟨r0, r1, r2, r3, r4, r5, r6⟩ := seven_cells hy1
  have HB1 := hid hB1
  clear hx1 hy1 hB1
  go_wp2_with fail
  refine (HS.out _ HB1.out).mono ?_
  rintro x w3 ⟨rfl, q, rfl⟩
  go_wp2
  go_ret
  exact ⟨by rw [HV.out]; rfl, HB1.out.trans ((below_drewN9 w1 q).mono HB1.out.size)⟩
end Go.Proofs.Ytejeffnolglhoaa
