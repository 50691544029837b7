/- The beat package's functions, as contracts. -/
import Derived.Test.YtgeccjeehhhchaaEqI
import Derived.Test.YtgeccjeehhhchaaSame06
import Derived.Test.YtgeccjeehhhchaaRow
import Derived.Deep.Cut
import Derived.Lib.QuietBelow
namespace Go.Proofs.Ytgeccjeehhhchaa
open Go.RowKit Go.Sort
set_option linter.unusedVariables false
set_option linter.unusedSimpArgs false

def tk (lease : Int) (l : List Int) : List Int := l.map fun a => if a < lease then a + 1 else a
def tkAt (lease : Int) (k : Nat) (l : List Int) : List Int := tk lease (l.take k) ++ l.drop k
theorem tkAt_length (lease : Int) (k : Nat) (l : List Int) (h : k ≤ l.length) : (tkAt lease k l).length = l.length := by simp [tkAt, tk]; omega
theorem tkAt_get (lease : Int) (k : Nat) (l : List Int) (h : k < l.length) : (tkAt lease k l)[k]? = some l[k] := by
  rw [tkAt, List.getElem?_append_right (by simp [tk]; omega)]
  simp [tk, show min k l.length = k by omega, h]
theorem tk_snoc (lease : Int) (k : Nat) (l : List Int) (h : k < l.length) : tk lease (l.take (k + 1)) = tk lease (l.take k) ++ [if l[k] < lease then l[k] + 1 else l[k]] := by
  rw [List.take_add_one, List.getElem?_eq_getElem h]
  simp only [tk, List.map_append, Option.toList_some, List.map_cons, List.map_nil]
theorem tk_len (lease : Int) (k : Nat) (l : List Int) (h : k < l.length) : (tk lease (l.take k)).length = k := by simp [tk]; omega
theorem tkAt_succ_lt (lease : Int) (k : Nat) (l : List Int) (h : k < l.length) (hl : l[k] < lease) : tkAt lease (k + 1) l = (tkAt lease k l).set k (l[k] + 1) := by
  have h2 : l.drop k = l[k] :: l.drop (k + 1) := by rw [List.drop_eq_getElem_cons h]
  have h3 := tk_len lease k l h
  rw [tkAt, tkAt, tk_snoc lease k l h, if_pos hl, h2, List.set_append_right _ _ (by omega), h3, Nat.sub_self, List.set_cons_zero, List.append_assoc, List.singleton_append]
theorem tkAt_succ_ge (lease : Int) (k : Nat) (l : List Int) (h : k < l.length) (hl : ¬ l[k] < lease) : tkAt lease (k + 1) l = tkAt lease k l := by
  have h2 : l.drop k = l[k] :: l.drop (k + 1) := by rw [List.drop_eq_getElem_cons h]
  rw [tkAt, tkAt, tk_snoc lease k l h, if_neg hl, h2, List.append_assoc, List.singleton_append]

theorem btick_any (s t : Int) (A : Option Addr) (len cap : Nat) (l : List Int) (W : World) (h : Sl W 1 A len cap (icells .i64 l)) (hlen : len ≤ 1000) (ht : t ≤ 9223372036854775807) (hl : ∀ a ∈ l, -9223372036854775808 ≤ a) :
    Calls Try.prog 16 #[.agg #[.int .i64 s, .int .i64 t, .slice A len cap]] W fun e w' => ∃ v, e = .returned (.agg #[.int .i64 s, .int .i64 t, v]) ∧ Below W.heap.size W w' ∧ w'.ownsRow W.heap.size 3 1 v len (icells .i64 (tk t l)) := by
  obtain rfl : len = l.length := by have := h.1; rw [icells_length] at this; omega
  have HC := hid (fun w (hb : Below W.heap.size W w) => clone_int A l.length cap _ w (h.below hb) (icells_one _ _) (by omega))
  have HB := hid ht
  have HL := hid hl
  clear h ht hl
  go_enter Try.func16, Try.ntmps16
  go_wp2_with fail
  refine (HC.out _ (below2 W _ _)).mono ?_
  rintro e w1 ⟨v, rfl, hb, ho⟩
  obtain ⟨hx, hv⟩ := Row.of_own ho
  obtain ⟨k0, k1⟩ := blk_after hb
  have hb1 := (below2 W _ _).trans (hb.mono (by simp; omega))
  rcases hv with ⟨rfl, hz⟩ | ⟨g, cap', rfl, hg, hnc, hcm, hr⟩
  · obtain rfl : l = [] := List.eq_nil_of_length_eq_zero hz
    have K := hid (And.intro k0 (And.intro k1 hb1))
    obtain ⟨⟨p0, p1, p2⟩, f0, f1, f2⟩ := three_cells k0
    clear k0 k1 ho hb hb1 hx hz
    go_upto_region 3 with (fail)
    refine at_world (fun w => w.heap[W.heap.size]? = some (.cells #[.int .i64 s, .int .i64 t, .slice none 0 0] 28 (0, 0)) ∧ w.heap[W.heap.size + 1]? = some (.cells #[.int .i64 0, .int .i64 0, .slice none 0 0] 28 (0, 0)) ∧ Below W.heap.size W w) ⟨?_, ?_, ?_⟩ ?_
    · rw [heap_setCell_same _ _ _ _ _ _ K.out.1]; rfl
    · exact (Below.heap_setCell _ _ _ _ (by simp)).trans K.out.2.1
    · exact K.out.2.2.setCell (by simp) _
    clear K p0 p1 p2 f0 f1 f2
    rintro w2 ⟨k0, k1, hb⟩
    obtain ⟨⟨p0, p1, p2⟩, f0, f1, f2⟩ := three_cells k0
    obtain ⟨⟨q0, q1, q2⟩, g0, g1, g2⟩ := three_cells k1
    refine wp_loop_rounds 1 ?_
    rw [rounds_succ]
    go_wp2
    refine bodyPost_ret (v := .agg #[.int .i64 s, .int .i64 t, .slice none 0 0]) (by simp [results, Try.results16, go_sem, q0, q1, q2]) rfl ⟨_, rfl, (by repeat' (first | with_reducible exact hb | with_reducible refine Below.setCell ?_ (by simp) _)), ?_⟩
    exact World.ownsRow_nil _ _ _ _
  · have K := hid (And.intro k0 (And.intro k1 (And.intro hr hb1)))
    obtain ⟨⟨p0, p1, p2⟩, f0, f1, f2⟩ := three_cells k0
    have hgz : g < w1.heap.size := hr.lt
    clear k0 k1 hr ho hb hb1 hx
    have hg2 : W.heap.size + 2 ≤ g := by simp at hg; omega
    have hWg : W.heap.size ≤ g := by omega
    clear hg
    go_upto_region 3 with (fail)
    refine at_world (fun w => w.heap[W.heap.size]? = some (.cells #[.int .i64 s, .int .i64 t, .slice (some ⟨g, 0, none⟩) l.length cap'] 28 (0, 0)) ∧ w.heap[W.heap.size + 1]? = some (.cells #[.int .i64 0, .int .i64 0, .slice none 0 0] 28 (0, 0)) ∧ Row w g 3 cap' (icells .i64 l) ∧ Below W.heap.size W w) ⟨?_, ?_, ?_, ?_⟩ ?_
    · rw [heap_setCell_same _ _ _ _ _ _ K.out.1]; rfl
    · exact (Below.heap_setCell _ _ _ _ (by simp)).trans K.out.2.1
    · exact K.out.2.2.1.block (Below.heap_setCell _ _ _ _ (by simp; omega))
    · exact K.out.2.2.2.setCell (by simp) _
    clear K p0 p1 p2 f0 f1 f2
    rintro w2 ⟨k0, k1, hr, hb⟩
    have K := hid (And.intro k0 (And.intro k1 (And.intro hr hb)))
    clear k0 k1 hr hb
    go_loopw [3, 4, 12] (fun i' a' i wr => ∃ k : Nat, k ≤ l.length ∧ i = .int .i64 (k : Int) ∧ Hid (wr.heap[W.heap.size]? = some (.cells #[.int .i64 s, .int .i64 t, .slice (some ⟨g, 0, none⟩) l.length cap'] 28 (0, 0)) ∧ wr.heap[W.heap.size + 1]? = some (.cells #[.int .i64 0, .int .i64 0, .slice none 0 0] 28 (0, 0)) ∧ Row wr g 3 cap' (icells .i64 (tkAt t k l)) ∧ Below W.heap.size W wr)) (fun _ _ i _ => l.length - (intOf i).toNat)
    case atStart => exact ⟨0, by omega, rfl, by simpa [Hid, tkAt, tk] using K.out⟩
    case round =>
      obtain ⟨k, hk, rfl, HK⟩ := hrel
      obtain ⟨⟨p0, p1, p2⟩, f0, f1, f2⟩ := three_cells HK.out.1
      by_cases hlt : k < l.length
      · have hlt2 : (k : Int) < (l.length : Int) := by omega
        obtain ⟨hc, hf⟩ := HK.out.2.2.1.cell k (by rw [icells_length, tkAt_length _ _ _ hk]; exact hlt)
        have e1 : (icells .i64 (tkAt t k l))[k]'(by rw [icells_length, tkAt_length _ _ _ hk]; exact hlt) = .int .i64 l[k] := by
          have := tkAt_get t k l hlt
          rw [List.getElem?_eq_getElem (by rw [tkAt_length _ _ _ hk]; exact hlt)] at this
          simp only [icells, List.getElem_map]
          exact congrArg _ (Option.some.inj this)
        rw [e1] at hc
        clear e1
        have HA := hid (tkAt_succ_lt t k l hlt)
        have HB2 := hid (tkAt_succ_ge t k l hlt)
        have HD : Hid (-9223372036854775808 ≤ l[k]) := HL.out _ (List.getElem_mem hlt)
        generalize l[k] = a at hc HA HB2 HD
        by_cases ha : a < t
        · have hd := HD.out
          have hd2 : a < 9223372036854775807 := by have := HB.out; omega
          go_wp2
          go_roundw
          case rel =>
            refine ⟨k + 1, by omega, by go_num, ?_, ?_, ?_, ?_⟩
            · exact (Below.heap_setCell _ _ _ _ (by simp; omega)).trans HK.out.1
            · exact (Below.heap_setCell _ _ _ _ (by simp; omega)).trans HK.out.2.1
            · rw [HA.out ha]
              have := HK.out.2.2.1.set k (.int .i64 (a + 1))
              simpa [icells] using this
            · exact HK.out.2.2.2.setCell (by exact hWg) _
          case measure => simp [intOf]; omega
        · go_wp2
          go_roundw
          case rel => exact ⟨k + 1, by omega, by go_num, by rw [HB2.out ha]; exact HK.out⟩
          case measure => simp [intOf]; omega
      · have hkl : k = l.length := by omega
        subst hkl
        obtain ⟨⟨q0, q1, q2⟩, g0, g1, g2⟩ := three_cells HK.out.2.1
        go_wp2
        refine bodyPost_ret (v := .agg #[.int .i64 s, .int .i64 t, .slice (some ⟨g, 0, none⟩) l.length cap']) (by simp [results, Try.results16, go_sem, q0, q1, q2]) rfl ⟨_, rfl, (by repeat' (first | with_reducible exact HK.out.2.2.2 | with_reducible refine Below.setCell ?_ (by simp) _)), ?_⟩
        have h1 := ((HK.out.2.2.1.block (Below.heap_setCell _ ⟨W.heap.size + 1, 0, none⟩ (.int .i64 s) _ (by simp; omega))).block (Below.heap_setCell _ ⟨W.heap.size + 1, 1, none⟩ (.int .i64 t) _ (by simp; omega))).block (Below.heap_setCell _ ⟨W.heap.size + 1, 2, none⟩ (.slice (some ⟨g, 0, none⟩) l.length cap') _ (by simp; omega))
        have h2 := Row.own h1 hWg
        rw [icells_length, tkAt_length _ _ _ (Nat.le_refl _)] at h2
        simpa [tkAt] using h2

theorem known_any (s t : Int) (A : Option Addr) (len cap : Nat) (k : Int) (W : World) :
    Calls Try.prog 108 #[.agg #[.int .i64 s, .int .i64 t, .slice A len cap], .int .i64 k] W fun e w' => e = .returned (.bool (decide (0 ≤ k) && decide (k < len))) ∧ Below W.heap.size W w' := by
  by_cases h : 0 ≤ k
  · go_enter Try.func108, Try.ntmps108
    go_wp2
    go_ret
    exact ⟨by simp [h], (Below.refl _ _).alloc (Nat.le_refl _) _⟩
  · go_enter Try.func108, Try.ntmps108
    go_wp2
    go_ret
    exact ⟨by simp [show decide (0 ≤ k) = false by simpa using h], (Below.refl _ _).alloc (Nat.le_refl _) _⟩

def sil (s t k : Int) (l : List Int) : Bool := decide (0 ≤ k) && decide (k < l.length) && (k != s) && decide (t ≤ l.getD k.toNat 0)

set_option maxHeartbeats 1000000 in
theorem silent_any (s t : Int) (A : Option Addr) (len cap : Nat) (l : List Int) (k : Int) (W : World) (h : Sl W 1 A len cap (icells .i64 l)) :
    Calls Try.prog 23 #[.agg #[.int .i64 s, .int .i64 t, .slice A len cap], .int .i64 k] W fun e w' => e = .returned (.bool (sil s t k l)) ∧ Below W.heap.size W w' := by
  obtain rfl : len = l.length := by have := h.1; rw [icells_length] at this; omega
  by_cases hk : 0 ≤ k ∧ k < l.length
  · obtain ⟨n, rfl⟩ := Int.eq_ofNat_of_zero_le hk.1
    have hn : n < l.length := by omega
    obtain ⟨b, off, rfl, hc⟩ := Sl.at h n (by rw [icells_length]; exact hn)
    have e1 : (icells .i64 l)[n]'(by rw [icells_length]; exact hn) = .int .i64 (l.getD n 0) := by simp [icells, hn]
    rw [e1] at hc
    have HC := hid (fun w => known_any s t (some ⟨b, off, none⟩) l.length cap n w)
    have e2 : (decide ((0 : Int) ≤ (n : Int)) && decide ((n : Int) < (l.length : Int))) = true := by simp; omega
    rw [e2] at HC
    have e3 : sil s t n l = (((n : Int) != s) && decide (t ≤ l.getD n 0)) := by
      simp only [sil, e2, Bool.true_and, Int.toNat_natCast]
    obtain ⟨a, ha⟩ : ∃ a, a = l.getD n 0 := ⟨_, rfl⟩
    rw [← ha] at hc e3
    have HE := hid e3
    have hk2 := hk.2
    clear h e1 e2 e3 hk ha
    by_cases hs : (n : Int) = s
    · have hne : ((n : Int) != s) = false := by simp [hs]
      have HS := hid hs
      have HN := hid hne
      clear hs
      go_enter Try.func23, Try.ntmps23
      go_upto_region 1 with (fail)
      refine at_world (fun w => w.heap[W.heap.size]? = some (.cells #[.int .i64 s, .int .i64 t, .slice (some ⟨b, off, none⟩) l.length cap] 28 (0, 0)) ∧ Below W.heap.size W w) ⟨heap_alloc_new _ _, (Below.refl _ _).alloc (Nat.le_refl _) _⟩ ?_
      rintro w2 ⟨k0, hb⟩
      obtain ⟨⟨p0, p1, p2⟩, _⟩ := three_cells k0
      clear k0
      replace p0 := cell_regrown p0
      replace p1 := cell_regrown p1
      replace p2 := cell_regrown p2
      have c1 := reg (w := w2) (fun W' _ => HC.out W')
      refine wp_region_quiet_below (by kernel_rfl) (by kernel_rfl) ?_
      repeat (go_big_quiet_step (first | (go_at_call 108; with_reducible exact c1 _ _)))
      refine wpQuiet_nil ?_
      intro _ hw'
      obtain ⟨⟨dq, osq⟩, hw''⟩ := hw'
      subst hw''
      go_wp2
      go_ret
      exact ⟨by rw [HE.out, HN.out]; rfl, hb.trans ((below_regrown w2 dq osq).mono hb.size)⟩
    · have hne : ((n : Int) != s) = true := by simpa using hs
      have HN := hid hne
      clear hs
      go_enter Try.func23, Try.ntmps23
      go_upto_region 1 with (fail)
      refine at_world (fun w => w.heap[W.heap.size]? = some (.cells #[.int .i64 s, .int .i64 t, .slice (some ⟨b, off, none⟩) l.length cap] 28 (0, 0)) ∧ Below W.heap.size W w) ⟨heap_alloc_new _ _, (Below.refl _ _).alloc (Nat.le_refl _) _⟩ ?_
      rintro w2 ⟨k0, hb⟩
      obtain ⟨⟨p0, p1, p2⟩, _⟩ := three_cells k0
      clear k0
      replace p0 := cell_regrown p0
      replace p1 := cell_regrown p1
      replace p2 := cell_regrown p2
      have hc2 := cell_regrown ((hb.cell (p := ⟨b, off + n, none⟩) (lt_of_cell hc)).trans hc)
      have c1 := reg (w := w2) (fun W' _ => HC.out W')
      refine wp_region_quiet_below (by kernel_rfl) (by kernel_rfl) ?_
      repeat (go_big_quiet_step (first | (go_at_call 108; with_reducible exact c1 _ _)))
      refine wpQuiet_nil ?_
      intro _ hw'
      obtain ⟨⟨dq, osq⟩, hw''⟩ := hw'
      subst hw''
      go_wp2
      go_ret
      exact ⟨by rw [HE.out, HN.out]; rfl, hb.trans ((below_regrown w2 dq osq).mono hb.size)⟩
  · have HC := hid (fun w => known_any s t A l.length cap k w)
    have e2 : (decide (0 ≤ k) && decide (k < (l.length : Int))) = false := by
      rw [Bool.and_eq_false_iff]; simp only [decide_eq_false_iff_not]; omega
    rw [e2] at HC
    have HE : Hid (sil s t k l = false) := by simp only [Hid, sil, e2, Bool.false_and]
    clear e2 hk h
    go_enter Try.func23, Try.ntmps23
    go_upto_region 1 with (fail)
    refine at_world (fun w => w.heap[W.heap.size]? = some (.cells #[.int .i64 s, .int .i64 t, .slice A l.length cap] 28 (0, 0)) ∧ Below W.heap.size W w) ⟨heap_alloc_new _ _, (Below.refl _ _).alloc (Nat.le_refl _) _⟩ ?_
    rintro w2 ⟨k0, hb⟩
    obtain ⟨⟨p0, p1, p2⟩, _⟩ := three_cells k0
    clear k0
    replace p0 := cell_regrown p0
    replace p1 := cell_regrown p1
    replace p2 := cell_regrown p2
    have c1 := reg (w := w2) (fun W' _ => HC.out W')
    refine wp_region_quiet_below (by kernel_rfl) (by kernel_rfl) ?_
    repeat (go_big_quiet_step (first | (go_at_call 108; with_reducible exact c1 _ _)))
    refine wpQuiet_nil ?_
    intro _ hw'
    obtain ⟨⟨dq, osq⟩, hw''⟩ := hw'
    subst hw''
    go_wp2
    go_ret
    exact ⟨by rw [HE.out]; rfl, hb.trans ((below_regrown w2 dq osq).mono hb.size)⟩
end Go.Proofs.Ytgeccjeehhhchaa
