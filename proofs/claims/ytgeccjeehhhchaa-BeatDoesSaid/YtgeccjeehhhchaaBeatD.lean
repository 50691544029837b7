/- The beat package's functions, as contracts: Hear, New; the page's example. -/
import Derived.Test.YtgeccjeehhhchaaBeatC
import Derived.Lib.MinMax
namespace Go.Proofs.Ytgeccjeehhhchaa
open Go.RowKit Go.Sort
set_option linter.unusedVariables false
set_option linter.unusedSimpArgs false

def hr (k : Int) (l : List Int) : List Int := if 0 ≤ k then l.set k.toNat 0 else l
theorem hr_length (k : Int) (l : List Int) : (hr k l).length = l.length := by unfold hr; split <;> simp

theorem bhear_any (s t : Int) (A : Option Addr) (len cap : Nat) (l : List Int) (k : Int) (W : World) (h : Sl W 1 A len cap (icells .i64 l)) (hlen : len ≤ 1000) :
    Calls Try.prog 17 #[.agg #[.int .i64 s, .int .i64 t, .slice A len cap], .int .i64 k] W fun e w' => ∃ v, e = .returned (.agg #[.int .i64 s, .int .i64 t, v]) ∧ Below W.heap.size W w' ∧ w'.ownsRow W.heap.size 3 1 v len (icells .i64 (hr k l)) := by
  obtain rfl : len = l.length := by have := h.1; rw [icells_length] at this; omega
  have HC := hid (fun w (hb : Below W.heap.size W w) => clone_int A l.length cap _ w (h.below hb) (icells_one _ _) (by omega))
  clear h
  by_cases hk : 0 ≤ k ∧ k < l.length
  · obtain ⟨n, rfl⟩ := Int.eq_ofNat_of_zero_le hk.1
    have hn : n < l.length := by omega
    have HN := hid (fun v w => known_any s t v l.length cap n w)
    have e2 : (decide ((0 : Int) ≤ (n : Int)) && decide ((n : Int) < (l.length : Int))) = true := by simp; omega
    have e3 : hr n l = l.set n 0 := by simp [hr]
    have HK := hid (fun v c w => (known_any s t v l.length c n w))
    rw [e2] at HK
    rw [e3]
    have hk2 := hk.2
    clear e2 e3 hk HN
    go_enter Try.func17, Try.ntmps17
    go_wp2_with fail
    refine (HC.out _ (below2 W _ _)).mono ?_
    rintro e w1 ⟨v, rfl, hb, ho⟩
    obtain ⟨hx, hv⟩ := Row.of_own ho
    obtain ⟨k0, k1⟩ := blk_after hb
    have hb1 := (below2 W _ _).trans (hb.mono (by simp; omega))
    rcases hv with ⟨_, hz⟩ | ⟨g, cap', rfl, hg, hnc, hcm, hr⟩
    · omega
    have K := hid (And.intro k0 (And.intro k1 (And.intro hr hb1)))
    obtain ⟨⟨p0, p1, p2⟩, f0, f1, f2⟩ := three_cells k0
    have hgz : g < w1.heap.size := hr.lt
    clear k0 k1 hr ho hb hb1 hx
    have hg2 : W.heap.size + 2 ≤ g := by simp at hg; omega
    have hWg : W.heap.size ≤ g := by omega
    clear hg
    go_upto_region 2 with (fail)
    refine at_world (fun w => w.heap[W.heap.size]? = some (.cells #[.int .i64 s, .int .i64 t, .slice (some ⟨g, 0, none⟩) l.length cap'] 28 (0, 0)) ∧ w.heap[W.heap.size + 1]? = some (.cells #[.int .i64 0, .int .i64 0, .slice none 0 0] 28 (0, 0)) ∧ Row w g 3 cap' (icells .i64 l) ∧ Below W.heap.size W w) ⟨?_, ?_, ?_, ?_⟩ ?_
    · rw [heap_setCell_same _ _ _ _ _ _ K.out.1]; rfl
    · exact (Below.heap_setCell _ _ _ _ (by simp)).trans K.out.2.1
    · exact K.out.2.2.1.block (Below.heap_setCell _ _ _ _ (by simp; omega))
    · exact K.out.2.2.2.setCell (by simp) _
    clear K p0 p1 p2 f0 f1 f2
    rintro w2 ⟨k0, k1, hr, hb⟩
    have K := hid (And.intro k0 (And.intro k1 (And.intro hr hb)))
    obtain ⟨⟨p0, p1, p2⟩, f0, f1, f2⟩ := three_cells k0
    clear k0 k1 hr hb
    go_wp2_with fail
    refine (HK.out _ _ _).mono ?_
    rintro e w3 ⟨rfl, hb3⟩
    have K3 := hid (And.intro (keep0 K.out.1 hb3) (And.intro (keep0 K.out.2.1 hb3) (And.intro (K.out.2.2.1.below hb3) (K.out.2.2.2.trans (hb3.mono K.out.2.2.2.size)))))
    obtain ⟨⟨p0, p1, p2⟩, f0, f1, f2⟩ := three_cells K3.out.1
    obtain ⟨⟨q0, q1, q2⟩, g0, g1, g2⟩ := three_cells K3.out.2.1
    obtain ⟨hc, hf⟩ := K3.out.2.2.1.cell n (by rw [icells_length]; exact hn)
    clear K hb3
    go_wp2
    refine bodyPost_ret (v := .agg #[.int .i64 s, .int .i64 t, .slice (some ⟨g, 0, none⟩) l.length cap']) (by simp [results, Try.results17, go_sem, q0, q1, q2]) rfl ⟨_, rfl, (by repeat' (first | with_reducible exact K3.out.2.2.2 | with_reducible refine Below.setCell ?_ (by first | exact hWg | simp) _)), ?_⟩
    have h1 := (((K3.out.2.2.1.set n (.int .i64 0)).block (Below.heap_setCell _ ⟨W.heap.size + 1, 0, none⟩ (.int .i64 s) _ (by simp; omega))).block (Below.heap_setCell _ ⟨W.heap.size + 1, 1, none⟩ (.int .i64 t) _ (by simp; omega))).block (Below.heap_setCell _ ⟨W.heap.size + 1, 2, none⟩ (.slice (some ⟨g, 0, none⟩) l.length cap') _ (by simp; omega))
    have h2 := Row.own h1 hWg
    simpa [icells] using h2
  · have HK := hid (fun v c w => (known_any s t v l.length c k w))
    have e2 : (decide (0 ≤ k) && decide (k < (l.length : Int))) = false := by
      rw [Bool.and_eq_false_iff]; simp only [decide_eq_false_iff_not]; omega
    have e3 : hr k l = l := by
      unfold hr
      split
      · exact List.set_eq_of_length_le (by omega)
      · rfl
    rw [e2] at HK
    rw [e3]
    clear e2 e3 hk
    go_enter Try.func17, Try.ntmps17
    go_wp2_with fail
    refine (HC.out _ (below2 W _ _)).mono ?_
    rintro e w1 ⟨v, rfl, hb, ho⟩
    obtain ⟨a', c', rfl, _⟩ := Sl.of_own ho
    obtain ⟨k0, k1⟩ := blk_after hb
    have hb1 := (below2 W _ _).trans (hb.mono (by simp; omega))
    have K := hid (And.intro k0 (And.intro k1 (And.intro ho hb1)))
    obtain ⟨⟨p0, p1, p2⟩, f0, f1, f2⟩ := three_cells k0
    clear k0 k1 ho hb hb1
    go_upto_region 2 with (fail)
    refine at_world (fun w => w.heap[W.heap.size]? = some (.cells #[.int .i64 s, .int .i64 t, .slice a' l.length c'] 28 (0, 0)) ∧ w.heap[W.heap.size + 1]? = some (.cells #[.int .i64 0, .int .i64 0, .slice none 0 0] 28 (0, 0)) ∧ w.ownsRow (W.heap.size + 2) 3 1 (.slice a' l.length c') l.length (icells .i64 l) ∧ Below W.heap.size W w) ⟨?_, ?_, ?_, ?_⟩ ?_
    · rw [heap_setCell_same _ _ _ _ _ _ K.out.1]; rfl
    · exact (Below.heap_setCell _ _ _ _ (by simp)).trans K.out.2.1
    · exact own_setOld (own_mono K.out.2.2.1 (by simp)) _ _ (by simp)
    · exact K.out.2.2.2.setCell (by simp) _
    clear K p0 p1 p2 f0 f1 f2
    rintro w2 ⟨k0, k1, hr, hb⟩
    have K := hid (And.intro k0 (And.intro k1 (And.intro hr hb)))
    obtain ⟨⟨p0, p1, p2⟩, f0, f1, f2⟩ := three_cells k0
    clear k0 k1 hr hb
    go_wp2_with fail
    refine (HK.out _ _ _).mono ?_
    rintro e w3 ⟨rfl, hb3⟩
    have K3 := hid (And.intro (keep0 K.out.1 hb3) (And.intro (keep0 K.out.2.1 hb3) (And.intro (own_keep K.out.2.2.1 hb3) (K.out.2.2.2.trans (hb3.mono K.out.2.2.2.size)))))
    obtain ⟨⟨p0, p1, p2⟩, f0, f1, f2⟩ := three_cells K3.out.1
    obtain ⟨⟨q0, q1, q2⟩, g0, g1, g2⟩ := three_cells K3.out.2.1
    clear K hb3
    go_wp2
    refine bodyPost_ret (v := .agg #[.int .i64 s, .int .i64 t, .slice a' l.length c']) (by simp [results, Try.results17, go_sem, q0, q1, q2]) rfl ⟨_, rfl, (by repeat' (first | with_reducible exact K3.out.2.2.2 | with_reducible refine Below.setCell ?_ (by simp) _)), ?_⟩
    exact own_mono (own_setOld (own_setOld (own_setOld K3.out.2.2.1 _ _ (by simp)) _ _ (by simp)) _ _ (by simp)) (by omega)

theorem make_int (n : Nat) (hn : n ≤ 1000) : ∀ W : World, (Instr.makeSlice 22 (.int .i64 (n : Int)) (.int .i64 (n : Int))).run Try.prog W = .ok (.slice (some ⟨W.heap.size, 0, none⟩) n n) (W.alloc (.cells (List.replicate n (.int .i64 0)).toArray 3)) :=
  fun W => run_make_1 22 3 Try.underlying22 info_int rfl n n (Nat.le_refl _) (by omega) (by unfold maxLen; omega) W

def nw (k : Int) : Nat := (min (max k 0) 8).toNat

theorem bnew_any (k s t : Int) (W : World) :
    Calls Try.prog 21 #[.int .i64 k, .int .i64 s, .int .i64 t] W fun e w' => ∃ v, e = .returned (.agg #[.int .i64 s, .int .i64 t, v]) ∧ Below W.heap.size W w' ∧ w'.ownsRow W.heap.size 3 1 v (nw k) (icells .i64 (List.replicate (nw k) 0)) := by
  have hm := make_int (nw k) (by unfold nw; omega)
  have hn : ((nw k : Nat) : Int) = min (max k 0) 8 := by unfold nw; omega
  rw [hn] at hm
  clear hn
  go_enter Try.func21, Try.ntmps21
  go_wp2
  refine bodyPost_ret (v := .agg #[.int .i64 s, .int .i64 t, .slice (some ⟨W.heap.size + 1, 0, none⟩) (nw k) (nw k)]) (by simp [results, Try.results21, go_sem]) rfl ⟨_, rfl, below2 W _ _, ?_⟩
  refine own_of_block (xs := icells .i64 (List.replicate (nw k) 0)) (ys := []) ?_ (by omega) (by simp [icells]) (by simp [icells]) (by unfold nw maxLen; omega)
  have := heap_second W (.cells #[.int .i64 s, .int .i64 t, .slice (some ⟨W.heap.size + 1, 0, none⟩) (nw k) (nw k)] 28) (.cells (Array.replicate (nw k) (.int .i64 0)) 3)
  simpa [icells] using this

/-- The page's example. -/
theorem works37_any (W : World) : Calls Try.prog 15 #[] W fun e w' => e = .returned (.bool true) ∧ Below W.heap.size W w' := by
  have N := hid (bnew_any 2 0 2)
  have T1 := hid (fun A c w (h : Sl w 1 A 2 c (icells .i64 [0, 0])) => btick_any 0 2 A 2 c [0, 0] w h (by omega) (by omega) (by simp))
  have T2 := hid (fun A c w (h : Sl w 1 A 2 c (icells .i64 [1, 1])) => btick_any 0 2 A 2 c [1, 1] w h (by omega) (by omega) (by simp))
  have S1 := hid (fun A c w (h : Sl w 1 A 2 c (icells .i64 [2, 2])) => silent_any 0 2 A 2 c [2, 2] 1 w h)
  have S0 := hid (fun A c w (h : Sl w 1 A 2 c (icells .i64 [2, 2])) => silent_any 0 2 A 2 c [2, 2] 0 w h)
  have H := hid (fun A c w (h : Sl w 1 A 2 c (icells .i64 [2, 2])) => bhear_any 0 2 A 2 c [2, 2] 1 w h (by omega))
  have S2 := hid (fun A c w (h : Sl w 1 A 2 c (icells .i64 [2, 0])) => silent_any 0 2 A 2 c [2, 0] 1 w h)
  rw [show nw 2 = 2 from rfl] at N
  rw [show tk 2 [0, 0] = [1, 1] from rfl] at T1
  rw [show tk 2 [1, 1] = [2, 2] from rfl] at T2
  rw [show hr 1 [2, 2] = [2, 0] from rfl] at H
  rw [show sil 0 2 1 [2, 2] = true from rfl] at S1
  rw [show sil 0 2 0 [2, 2] = false from rfl] at S0
  rw [show sil 0 2 1 [2, 0] = false from rfl] at S2
  go_enter Try.func15, Try.ntmps15
  go_wp2_with fail
  refine (N.out _).mono ?_
  rintro e w1 ⟨v1, rfl, hb1, ho1⟩
  obtain ⟨A1, c1, rfl, hs1⟩ := Sl.of_own ho1
  clear ho1 N
  go_wp2_with fail
  refine (T1.out _ _ _ hs1).mono ?_
  rintro e w2 ⟨v2, rfl, hb2, ho2⟩
  obtain ⟨A2, c2, rfl, hs2⟩ := Sl.of_own ho2
  clear ho2 T1 hs1
  go_wp2_with fail
  refine (T2.out _ _ _ hs2).mono ?_
  rintro e w3 ⟨v3, rfl, hb3, ho3⟩
  obtain ⟨A3, c3, rfl, hs3⟩ := Sl.of_own ho3
  have hb := (hb1.trans (hb2.mono hb1.size)).trans (hb3.mono (hb1.trans (hb2.mono hb1.size)).size)
  clear ho3 T2 hs2 hb1 hb2 hb3
  go_upto_region 2 with (fail)
  refine at_world (fun w => w.heap[w3.heap.size]? = some (.cells #[.int .i64 0, .int .i64 2, .slice A3 2 c3] 28 (0, 0)) ∧ Sl w 1 A3 2 c3 (icells .i64 [2, 2]) ∧ Below W.heap.size W w) ⟨heap_alloc_new _ _, hs3.below ((Below.refl _ _).alloc (Nat.le_refl _) _), hb.alloc hb.size _⟩ ?_
  clear hb hs3
  rintro w4 ⟨k0, hs, hb⟩
  obtain ⟨⟨p0, p1, p2⟩, _⟩ := three_cells k0
  go_wp2_with fail
  refine (S1.out _ _ _ hs).mono ?_
  rintro e w5 ⟨rfl, hb5⟩
  have K := hid (And.intro (keep0 k0 hb5) (And.intro (hs.below hb5) (hb.trans (hb5.mono hb.size))))
  clear k0 hs hb hb5 p0 p1 p2
  obtain ⟨k0, hs, hb⟩ := K.out
  obtain ⟨⟨p0, p1, p2⟩, _⟩ := three_cells k0
  go_wp2_with fail
  refine (S0.out _ _ _ hs).mono ?_
  rintro e w6 ⟨rfl, hb6⟩
  have K2 := hid (And.intro (keep0 k0 hb6) (And.intro (hs.below hb6) (hb.trans (hb6.mono hb.size))))
  clear k0 hs hb hb6 p0 p1 p2
  obtain ⟨k0, hs, hb⟩ := K2.out
  obtain ⟨⟨p0, p1, p2⟩, _⟩ := three_cells k0
  go_wp2_with fail
  refine (H.out _ _ _ hs).mono ?_
  rintro e w7 ⟨v7, rfl, hb7, ho7⟩
  obtain ⟨A7, c7, rfl, hs7⟩ := Sl.of_own ho7
  have hb' := hb.trans (hb7.mono hb.size)
  clear k0 hs hb hb7 p0 p1 p2 ho7
  go_wp2_with fail
  refine (S2.out _ _ _ hs7).mono ?_
  rintro e w8 ⟨rfl, hb8⟩
  go_wp2
  go_ret
  exact ⟨rfl, hb'.trans (hb8.mono hb'.size)⟩
end Go.Proofs.Ytgeccjeehhhchaa
