/- Needs: Same, the page's example; the law NeedChecks. -/
import Derived.Test.YtfaglemadpobeaaNeeI
import Derived.Test.YtfaglemadpobeaaRd
namespace Go.Proofs.Ytfaglemadpobeaa
open Go.RowKit Go.Sort
set_option linter.unusedVariables false
set_option linter.unusedSimpArgs false

theorem drewN_below {W : World} (q : Nat) : Below W.heap.size W (W.drewN q) := by
  have h := Below.refl W.heap.size W
  exact ⟨h.os, h.tape, h.output, h.size, h.block⟩
theorem Sl.len63 {w : World} {n len cap : Nat} {A : Option Addr} {cs : List Value} (h : Sl w n A len cap cs) : len ≤ 9223372036854775807 := by
  have h1 := h.2.1; have h2 := h.2.2.1; unfold maxLen at h2; omega
theorem rnsame_bel (A B : Option Addr) (cap cap' : Nat) (l m : List (Int × Int)) (W : World) (hA : Sl W 2 A l.length cap (pcells l)) (hB : Sl W 2 B m.length cap' (pcells m)) :
    Calls Try.prog 12 #[.slice A l.length cap, .slice B m.length cap'] W fun e w' => e = .returned (.bool (l == m)) ∧ Below W.heap.size W w' :=
  (rnsame_any A B l.length cap m.length cap' l m W hA hB hA.len63 hB.len63).mono fun _ _ ⟨h1, q, h2⟩ => ⟨h1, h2 ▸ drewN_below q⟩
set_option maxRecDepth 20000 in
theorem nsame_any (A B : Option Addr) (cap cap' : Nat) (l m : List (Int × Int)) (W : World) (hA : Sl W 2 A l.length cap (pcells l)) (hB : Sl W 2 B m.length cap' (pcells m)) :
    Calls Try.prog 11 #[.slice A l.length cap, .slice B m.length cap'] W fun e w' => e = .returned (.bool (l == m)) ∧ Below W.heap.size W w' := by
  have HE := hid (equal_node A B l.length cap m.length cap' l m W hA hB hA.len63 hB.len63)
  clear hA hB
  generalize l.length = x at *
  generalize m.length = y at *
  generalize (l == m) = r at *
  go_enter Try.func11, Try.ntmps11
  go_wp2_with fail
  refine HE.out.mono ?_
  rintro e w' ⟨rfl, q, rfl⟩
  go_wp2
  go_ret
  exact ⟨rfl, drewN_below q⟩

theorem two_of {l : List Value} (h : l.length = 2) : ∃ u v, l = [u, v] := by
  match l, h with
  | [u, v], _ => exact ⟨u, v, rfl⟩
def exN : List (Int × Int) := [(2, 1), (3, 0)]
theorem exNs : sayN exN 2 = false ∧ sayN exN 0 = true ∧ depN exN = 2 := ⟨by kernel_rfl, by kernel_rfl, by kernel_rfl⟩
set_option maxRecDepth 20000 in
set_option maxHeartbeats 2000000 in
theorem works09_any (W : World) : Calls Try.prog 8 #[] W fun e w' => e = .returned (.bool true) ∧ Below W.heap.size W w' := by
  obtain ⟨e1, e2, e3⟩ := exNs
  have hsl : Sl (W.alloc (.cells #[.int .i64 2, .int .i64 1, .int .i64 3, .int .i64 0] 41)) 2 (some ⟨W.heap.size, 0, none⟩) exN.length 2 (pcells exN) :=
    ⟨rfl, Nat.le_refl _, by unfold maxLen; omega, fun _ => ⟨_, 0, rfl, fun i hi => by
      rw [cell_of_row _ _ _ _ _ _ (heap_alloc_new W (.cells #[.int .i64 2, .int .i64 1, .int .i64 3, .int .i64 0] 41))]
      simp [exN, pcells]⟩⟩
  have HS := hid hsl
  have HSY := hid (fun (w : World) (s : Nat) (h : Sl w 2 (some ⟨W.heap.size, 0, none⟩) exN.length 2 (pcells exN)) hs => nsays_any (some ⟨W.heap.size, 0, none⟩) 2 exN s w h (by decide) hs)
  have HDP := hid (fun (w : World) (h : Sl w 2 (some ⟨W.heap.size, 0, none⟩) exN.length 2 (pcells exN)) => ndepth_any (some ⟨W.heap.size, 0, none⟩) 2 exN w h (by decide))
  have H1 := hid (fun w h => HSY.out w 2 h (by omega))
  have H2 := hid (fun w h => HSY.out w 0 h (by omega))
  rw [e1] at H1
  rw [e2] at H2
  rw [e3] at HDP
  have HB0 : Hid (Below W.heap.size W (W.alloc (.cells #[.int .i64 2, .int .i64 1, .int .i64 3, .int .i64 0] 41))) := hid ((Below.refl _ _).alloc (Nat.le_refl _) _)
  clear hsl e1 e2 e3 HSY
  go_enter Try.func8, Try.ntmps8
  go_wp2_with fail
  refine (H1.out _ HS.out).mono ?_
  rintro e w1 ⟨rfl, hb⟩
  have HS1 := hid (HS.out.below hb)
  have HB1 := hid (HB0.out.trans (hb.mono HB0.out.size))
  clear hb HS HB0 H1
  go_wp2_with fail
  refine (H2.out _ HS1.out).mono ?_
  rintro e w2 ⟨rfl, hb⟩
  have HS2 := hid (HS1.out.below hb)
  have HB2 := hid (HB1.out.trans (hb.mono HB1.out.size))
  clear hb HS1 HB1 H2
  go_wp2_with fail
  refine (HDP.out _ HS2.out).mono ?_
  rintro e w3 ⟨rfl, hb⟩
  have HB3 := hid (HB2.out.trans (hb.mono HB2.out.size))
  clear hb HS2 HB2 HDP
  go_wp2
  go_ret
  exact ⟨rfl, HB3.out⟩

/-- Pairs that came in. -/
theorem nodes_in {w : World} {A : Option Addr} {len cap : Nat} (h : Rd Try.prog w 22 [.slice A len cap]) : ∃ l : List (Int × Int), Sl w 2 A len cap (pcells l) ∧ l.length = len := by
  have hc3 : Try.prog.cellsOf 3 = 1 := by kernel_rfl
  obtain ⟨h1, h2, h3⟩ := Rd.slice_plain Try.underlying22 (n := 2) (by kernel_rfl) (by omega) h
  by_cases h0 : 0 < len
  · obtain ⟨b, off, rfl, z, hz⟩ := h3 h0
    have key : ∀ i, i < len → ∃ x : Int × Int, z i = [.int .i64 x.1, .int .i64 x.2] := fun i hi => by
      obtain ⟨hl, hr, _⟩ := hz i hi
      obtain ⟨_, hf⟩ := Rd.struct Try.underlying41 hr
      have f0 : Rd Try.prog w 3 (((z i).drop 0).take (Try.prog.cellsOf 3)) := hf 0 _ rfl
      have f1 : Rd Try.prog w 3 (((z i).drop 1).take (Try.prog.cellsOf 3)) := hf 1 _ rfl
      rw [hc3] at f0 f1
      obtain ⟨a, ea, _⟩ := Rd.int Try.underlying3 f0
      obtain ⟨c, ec, _⟩ := Rd.int Try.underlying3 f1
      obtain ⟨u, v, huv⟩ := two_of hl
      rw [huv] at ea ec
      simp at ea ec
      exact ⟨(a, c), by rw [huv, ea, ec]⟩
    obtain ⟨g, hg⟩ := Go.Deep.choose_lt (α := Int × Int) key
    have hll : ((List.range len).map g).length = len := by simp
    refine ⟨(List.range len).map g, ⟨by rw [pcells_length, hll], h1, h2, fun _ => ⟨b, off, rfl, fun i hi => ?_⟩⟩, hll⟩
    rw [pcells_length, hll] at hi
    have hk : i / 2 < ((List.range len).map g).length := by rw [hll]; omega
    obtain ⟨e1, e2⟩ := pcells_get ((List.range len).map g) (i / 2) hk
    have hgk : ((List.range len).map g)[i / 2] = g (i / 2) := by simp
    rw [hgk] at e1 e2
    have hzk := hz (i / 2) (by omega)
    rcases Nat.mod_two_eq_zero_or_one i with hm | hm
    · have h9 := hzk.2.2 0 (by omega)
      rw [hg (i / 2) (by omega)] at h9
      rw [show off + i / 2 * 2 + 0 = off + i by omega] at h9
      rw [show i / 2 * 2 = i by omega] at e1
      rw [h9, e1]
      rfl
    · have h9 := hzk.2.2 1 (by omega)
      rw [hg (i / 2) (by omega)] at h9
      rw [show off + i / 2 * 2 + 1 = off + i by omega] at h9
      rw [show i / 2 * 2 + 1 = i by omega] at e2
      rw [h9, e2]
      rfl
  · obtain rfl : len = 0 := by omega
    exact ⟨[], ⟨rfl, h1, h2, fun h => by simp [pcells] at h⟩, rfl⟩

set_option maxRecDepth 20000 in
set_option maxHeartbeats 4000000 in
theorem needChecks_small (A B : Option Addr) (cap cap' : Nat) (l m : List (Int × Int)) (W : World) (hA : Sl W 2 A l.length cap (pcells l)) (hB : Sl W 2 B m.length cap' (pcells m)) (hl : l.length ≤ 100) (hm : m.length ≤ 100) :
    Calls Try.prog 3 #[.slice A l.length cap, .slice B m.length cap'] W fun e w' => e = .returned (.bool true) ∧ Below W.heap.size W w' := by
  have HC := hid (fun w (hb : Below W.heap.size W w) => ncheck_any A cap l w (hA.below hb) (by omega))
  have HR := hid (fun w (hb : Below W.heap.size W w) => rcheck09_any A cap l w (hA.below hb) (by omega))
  have HN := hid (fun w (hb : Below W.heap.size W w) => nsame_any A B cap cap' l m w (hA.below hb) (hB.below hb))
  have HQ := hid (fun w (hb : Below W.heap.size W w) => rnsame_bel A B cap cap' l m w (hA.below hb) (hB.below hb))
  have HL := hid (fun w (hb : Below W.heap.size W w) => nsame_any A A cap cap l l w (hA.below hb) (hA.below hb))
  rw [show (l == l) = true by simp] at HL
  have i1 : ¬ (100 : Int) < (l.length : Int) := by omega
  have i2 : ¬ (100 : Int) < (m.length : Int) := by omega
  have d1 : decide ((100 : Int) < (l.length : Int)) = false := decide_eq_false i1
  have d2 : decide ((100 : Int) < (m.length : Int)) = false := decide_eq_false i2
  clear hA hB hl hm
  generalize (l == m) = r at *
  generalize chkN l = k at *
  generalize l.length = x at *
  generalize m.length = y at *
  have ek : (k == k) = true := by simp
  have er : (r == r) = true := by simp
  go_enter Try.func3, Try.ntmps3
  go_wp2_with fail
  refine (HC.out _ (Below.refl _ _)).mono ?_
  rintro e w1 ⟨rfl, hb⟩
  have HB1 := hid hb
  clear hb
  go_wp2_with fail
  refine (HR.out _ HB1.out).mono ?_
  rintro e w2 ⟨rfl, hb⟩
  have HB2 := hid (HB1.out.trans (hb.mono HB1.out.size))
  clear hb HB1
  go_wp2_with fail
  refine (HN.out _ HB2.out).mono ?_
  rintro e w3 ⟨rfl, hb⟩
  have HB3 := hid (HB2.out.trans (hb.mono HB2.out.size))
  clear hb HB2
  go_wp2_with fail
  refine (HQ.out _ HB3.out).mono ?_
  rintro e w4 ⟨rfl, hb⟩
  have HB4 := hid (HB3.out.trans (hb.mono HB3.out.size))
  clear hb HB3
  go_wp2_with fail
  refine (HL.out _ HB4.out).mono ?_
  rintro e w5 ⟨rfl, hb⟩
  have HB5 := hid (HB4.out.trans (hb.mono HB4.out.size))
  clear hb HB4
  go_wp2_with fail
  refine (works09_any _).mono ?_
  rintro e w6 ⟨rfl, hb⟩
  have HB6 := hid (HB5.out.trans (hb.mono HB5.out.size))
  clear hb HB5
  go_wp2
  go_ret
  exact ⟨rfl, HB6.out⟩
set_option maxRecDepth 20000 in
theorem needChecks_big (A B : Option Addr) (x y cap cap' : Nat) (W : World) (hx : x ≤ maxLen) (hy : y ≤ maxLen) (h : 100 < x ∨ 100 < y) :
    Calls Try.prog 3 #[.slice A x cap, .slice B y cap'] W fun e w' => e = .returned (.bool true) ∧ Below W.heap.size W w' := by
  unfold maxLen at hx hy
  by_cases h1 : 100 < x
  · have i1 : (100 : Int) < (x : Int) := by omega
    have d1 : decide ((100 : Int) < (x : Int)) = true := decide_eq_true i1
    clear h
    go_enter Try.func3, Try.ntmps3
    go_wp2_with fail
    refine (works09_any _).mono ?_
    rintro e w6 ⟨rfl, hb⟩
    go_wp2
    go_ret
    exact ⟨rfl, hb⟩
  · have i1 : ¬ (100 : Int) < (x : Int) := by omega
    have d1 : decide ((100 : Int) < (x : Int)) = false := decide_eq_false i1
    have i2 : (100 : Int) < (y : Int) := by omega
    have d2 : decide ((100 : Int) < (y : Int)) = true := decide_eq_true i2
    clear h
    go_enter Try.func3, Try.ntmps3
    go_wp2_with fail
    refine (works09_any _).mono ?_
    rintro e w6 ⟨rfl, hb⟩
    go_wp2
    go_ret
    exact ⟨rfl, hb⟩
theorem needChecks_law (A B : Option Addr) (x y cap cap' : Nat) (W : World) (hA : Rd Try.prog W 22 [.slice A x cap]) (hB : Rd Try.prog W 22 [.slice B y cap']) :
    Calls Try.prog 3 #[.slice A x cap, .slice B y cap'] W fun e w' => e = .returned (.bool true) ∧ Below W.heap.size W w' := by
  obtain ⟨l, sl, rfl⟩ := nodes_in hA
  obtain ⟨m, sm, rfl⟩ := nodes_in hB
  by_cases h : 100 < l.length ∨ 100 < m.length
  · exact needChecks_big A B _ _ cap cap' W (Nat.le_trans sl.2.1 sl.2.2.1) (Nat.le_trans sm.2.1 sm.2.2.1) h
  · exact needChecks_small A B cap cap' l m W sl sm (by omega) (by omega)
end Go.Proofs.Ytfaglemadpobeaa
