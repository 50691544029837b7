/- The document's outbox: contracts. -/
import Derived.Test.YtdphdodjidbngaaGreatLkP
import Derived.Test.YtdphdodjidbngaaGreatSeP
import Derived.BigQuiet
import Derived.Deep.QuietTactic
import Derived.Test.YtdphdodjidbngaaGreatQLnkC
import Derived.Test.YtdphdodjidbngaaGreatGaP
namespace Go.Proofs.YtdphdodjidbngaaGreat
open Go.RowKit Go.Sort
set_option linter.unusedVariables false
set_option linter.unusedSimpArgs false

set_option maxHeartbeats 2000000 in
theorem r13check_any (w l : Int) (W : World) : Calls Tryz.prog 132 #[.agg #[.int .i64 w, .int .i64 l]] W fun e w' => e = .returned (.bool (pok w l)) ∧ Below W.heap.size W w' := by
  by_cases hw : w = 1 ∨ w = 2 ∨ w = 4 ∨ w = 8
  · by_cases h3 : 0 ≤ l
    · by_cases h4 : l ≤ w
      · rcases hw with rfl | rfl | rfl | rfl
        all_goals
          go_enter Tryz.func132, Tryz.ntmps132
          go_wp2
          go_ret
          exact ⟨by simp [pok, h3, h4], (Below.refl _ _).alloc (Nat.le_refl _) _⟩
      · rcases hw with rfl | rfl | rfl | rfl
        all_goals
          go_enter Tryz.func132, Tryz.ntmps132
          go_wp2
          go_ret
          exact ⟨by simp [pok, h3, h4], (Below.refl _ _).alloc (Nat.le_refl _) _⟩
    · rcases hw with rfl | rfl | rfl | rfl
      all_goals
        go_enter Tryz.func132, Tryz.ntmps132
        go_wp2
        go_ret
        exact ⟨by first | (simp [pok]; omega) | simp [pok], (Below.refl _ _).alloc (Nat.le_refl _) _⟩
  · have hp : pok w l = false := by rw [Bool.eq_false_iff, Ne, pok_iff]; omega
    have n1 : (w == 1) = false := by simp; omega
    have n2 : (w == 2) = false := by simp; omega
    have n4 : (w == 4) = false := by simp; omega
    have n8 : (w == 8) = false := by simp; omega
    rw [hp]
    clear hp hw
    go_enter Tryz.func132, Tryz.ntmps132
    go_wp2
    go_ret
    exact ⟨rfl, (Below.refl _ _).alloc (Nat.le_refl _) _⟩
theorem rtick_no (w l : Int) (W : World) (hp : ¬ pok w l = true) : Calls Tryz.prog 113 #[.agg #[.int .i64 w, .int .i64 l]] W fun e w' => e = .returned (.tuple #[.agg #[.int .i64 1, .int .i64 0], .bool false]) ∧ Below W.heap.size W w' := by
  have hq : pok w l = false := by simpa using hp
  have HC := hid (r13check_any w l)
  rw [hq] at HC
  clear hp hq
  go_enter Tryz.func113, Tryz.ntmps113
  go_wp2_with fail
  refine (HC.out _).mono ?_
  rintro e w1 ⟨rfl, hb⟩
  obtain ⟨k0, k1⟩ := blk_after hb
  have hb1 := (below2 W _ _).trans (hb.mono (by simp; omega))
  have hz := hb1.size
  clear hb
  obtain ⟨p0, p1, f0, f1⟩ := two_cells k0
  obtain ⟨q0, q1, g0, g1⟩ := two_cells k1
  clear k0 k1 hz
  go_wp2
  exact bodyPost_ret (v := .tuple #[.agg #[.int .i64 1, .int .i64 0], .bool false]) (by simp [results, Tryz.results113, go_sem, q0, q1]) rfl ⟨rfl, ((hb1).setCell (by simp) _).setCell (by simp) _⟩
theorem rtick_0 (w l : Int) (W : World) (hp : pok w l = true) (hl : l = 0) : Calls Tryz.prog 113 #[.agg #[.int .i64 w, .int .i64 l]] W fun e w' => e = .returned (.tuple #[.agg #[.int .i64 w, .int .i64 0], .bool false]) ∧ Below W.heap.size W w' := by
  subst hl
  have HC := hid (r13check_any w 0)
  rw [hp] at HC
  clear hp
  go_enter Tryz.func113, Tryz.ntmps113
  go_wp2_with fail
  refine (HC.out _).mono ?_
  rintro e w1 ⟨rfl, hb⟩
  obtain ⟨k0, k1⟩ := blk_after hb
  have hb1 := (below2 W _ _).trans (hb.mono (by simp; omega))
  have hz := hb1.size
  clear hb
  obtain ⟨p0, p1, f0, f1⟩ := two_cells k0
  obtain ⟨q0, q1, g0, g1⟩ := two_cells k1
  clear k0 k1 hz
  go_wp2
  exact bodyPost_ret (v := .tuple #[.agg #[.int .i64 w, .int .i64 0], .bool false]) (by simp [results, Tryz.results113, go_sem, q0, q1]) rfl ⟨rfl, ((hb1).setCell (by simp) _).setCell (by simp) _⟩
theorem rtick_m (w l : Int) (W : World) (hp : pok w l = true) (hl : 1 < l) : Calls Tryz.prog 113 #[.agg #[.int .i64 w, .int .i64 l]] W fun e w' => e = .returned (.tuple #[.agg #[.int .i64 w, .int .i64 (l - 1)], .bool false]) ∧ Below W.heap.size W w' := by
  have h8 : l ≤ 8 := by have := (pok_iff w l).1 hp; omega
  have HC := hid (r13check_any w l)
  rw [hp] at HC
  clear hp
  go_enter Tryz.func113, Tryz.ntmps113
  go_wp2_with fail
  refine (HC.out _).mono ?_
  rintro e w1 ⟨rfl, hb⟩
  obtain ⟨k0, k1⟩ := blk_after hb
  have hb1 := (below2 W _ _).trans (hb.mono (by simp; omega))
  have hz := hb1.size
  clear hb
  obtain ⟨p0, p1, f0, f1⟩ := two_cells k0
  obtain ⟨q0, q1, g0, g1⟩ := two_cells k1
  clear k0 k1 hz
  have n0 : (l == 0) = false := by simp; omega
  go_wp2
  exact bodyPost_ret (v := .tuple #[.agg #[.int .i64 w, .int .i64 (l - 1)], .bool false]) (by simp [results, Tryz.results113, go_sem, q0, q1]) rfl ⟨rfl, ((hb1).setCell (by simp) _).setCell (by simp) _⟩
theorem rtick_1a (w l : Int) (W : World) (hp : pok w l = true) (hl : l = 1) (hw : w < 8) : Calls Tryz.prog 113 #[.agg #[.int .i64 w, .int .i64 l]] W fun e w' => e = .returned (.tuple #[.agg #[.int .i64 (2 * w), .int .i64 (2 * w)], .bool true]) ∧ Below W.heap.size W w' := by
  subst hl
  have h1 := (pok_iff w 1).1 hp
  have h2 : 2 * w ≤ 8 := by omega
  have h3 : 1 ≤ w := by omega
  clear h1
  have HC := hid (r13check_any w 1)
  rw [hp] at HC
  clear hp
  go_enter Tryz.func113, Tryz.ntmps113
  go_wp2_with fail
  refine (HC.out _).mono ?_
  rintro e w1 ⟨rfl, hb⟩
  obtain ⟨k0, k1⟩ := blk_after hb
  have hb1 := (below2 W _ _).trans (hb.mono (by simp; omega))
  have hz := hb1.size
  clear hb
  obtain ⟨p0, p1, f0, f1⟩ := two_cells k0
  obtain ⟨q0, q1, g0, g1⟩ := two_cells k1
  clear k0 k1 hz
  go_wp2
  exact bodyPost_ret (v := .tuple #[.agg #[.int .i64 (2 * w), .int .i64 (2 * w)], .bool true]) (by simp [results, Tryz.results113, go_sem, q0, q1]) rfl ⟨rfl, ((hb1).setCell (by simp) _).setCell (by simp) _⟩
theorem rtick_1b (w l : Int) (W : World) (hp : pok w l = true) (hl : l = 1) (hw : w = 8) : Calls Tryz.prog 113 #[.agg #[.int .i64 w, .int .i64 l]] W fun e w' => e = .returned (.tuple #[.agg #[.int .i64 8, .int .i64 8], .bool true]) ∧ Below W.heap.size W w' := by
  subst hl
  subst hw
  have HC := hid (r13check_any 8 1)
  rw [hp] at HC
  clear hp
  go_enter Tryz.func113, Tryz.ntmps113
  go_wp2_with fail
  refine (HC.out _).mono ?_
  rintro e w1 ⟨rfl, hb⟩
  obtain ⟨k0, k1⟩ := blk_after hb
  have hb1 := (below2 W _ _).trans (hb.mono (by simp; omega))
  have hz := hb1.size
  clear hb
  obtain ⟨p0, p1, f0, f1⟩ := two_cells k0
  obtain ⟨q0, q1, g0, g1⟩ := two_cells k1
  clear k0 k1 hz
  go_wp2
  exact bodyPost_ret (v := .tuple #[.agg #[.int .i64 8, .int .i64 8], .bool true]) (by simp [results, Tryz.results113, go_sem, q0, q1]) rfl ⟨rfl, ((hb1).setCell (by simp) _).setCell (by simp) _⟩
theorem r13tick_any (w l : Int) (W : World) : Calls Tryz.prog 113 #[.agg #[.int .i64 w, .int .i64 l]] W fun e w' => e = .returned (.tuple #[.agg #[.int .i64 (tkW w l), .int .i64 (tkL w l)], .bool (tkB w l)]) ∧ Below W.heap.size W w' := by
  by_cases hp : pok w l = true
  · have hi := (pok_iff w l).1 hp
    by_cases h0 : l = 0
    · have := rtick_0 w l W hp h0
      rwa [show tkW w l = w by rw [tkW, if_pos hp, if_neg (by omega)], show tkL w l = 0 by simp [tkL, h0], show tkB w l = false by simp [tkB, h0]]
    · by_cases h1 : l = 1
      · rw [show tkW w l = dbl w by rw [tkW, if_pos hp, if_pos h1], show tkL w l = dbl w by rw [tkL, if_pos hp, if_neg h0, if_pos h1], show tkB w l = true by rw [tkB, hp, h1]; rfl]
        by_cases h8 : w < 8
        · rw [show dbl w = 2 * w by simp [dbl, h8]]; exact rtick_1a w l W hp h1 h8
        · rw [show dbl w = 8 by simp [dbl, h8]]; exact rtick_1b w l W hp h1 (by omega)
      · have := rtick_m w l W hp (by omega)
        rwa [show tkW w l = w by simp [tkW, hp, h1], show tkL w l = l - 1 by simp [tkL, hp, h0, h1], show tkB w l = false by simp [tkB, h1]]
  · have := rtick_no w l W hp
    rwa [show tkW w l = 1 by simp [tkW, hp], show tkL w l = 0 by simp [tkL, hp], show tkB w l = false by simp [tkB, hp]]
end Go.Proofs.YtdphdodjidbngaaGreat

namespace Go.Proofs.YtdphdodjidbngaaGreat
open Go.RowKit Go.Sort
set_option linter.unusedVariables false
set_option linter.unusedSimpArgs false

/-- What a function of the document answers that gives an outbox and whether to send. -/
def ROut (r : Ov × Bool) (W : World) (e : Ending) (w' : World) : Prop :=
  ∃ A' c', e = .returned (.tuple #[.agg (oc r.1 A' c'), .bool r.2]) ∧ Sl w' 1 A' r.1.l.length c' (scells r.1.l) ∧ Below W.heap.size W w'

set_option maxRecDepth 20000 in
theorem r24learn_any (o : Ov) (pr : Int) (A : Option Addr) (c : Nat) (W : World) (h : Sl W 1 A o.l.length c (scells o.l)) :
    Calls Tryz.prog 108 #[.agg (oc o A c), .int .i64 pr] W (ROut (lrnV o pr) W) := by
  have HS := hid h
  have HV : Hid (lrnV o pr = if pr ≤ o.p then (o, false) else if o.l.length = 0 then (⟨pr, 1, o.l, o.w, o.f⟩, false) else (⟨pr, 1, o.l, 1, 1⟩, true)) := hid (by
    unfold lrnV begV
    split
    · rfl
    · split <;> rfl)
  obtain ⟨p, q, l, wt, fl⟩ := o
  simp only at HV HS
  clear h
  simp only [oc]
  by_cases h1 : pr ≤ p
  · rw [HV.out, if_pos h1]
    clear HV
    have d1 : decide (pr ≤ p) = true := decide_eq_true h1
    go_enter Tryz.func108, Tryz.ntmps108
    go_wp2
    exact bodyPost_ret (v := .tuple #[.agg #[.int .i64 p, .int .i64 q, .slice A l.length c, .int .i64 wt, .int .i64 fl], .bool false]) (by simp [results, Tryz.results108, go_sem]) rfl ⟨A, c, rfl, HS.out.below (below2 _ _ _), below2 _ _ _⟩
  · rw [HV.out, if_neg h1]
    have d1 : decide (pr ≤ p) = false := decide_eq_false h1
    by_cases h0 : l.length = 0
    · rw [if_pos h0]
      obtain rfl := List.eq_nil_of_length_eq_zero h0
      clear HV h0
      go_enter Tryz.func108, Tryz.ntmps108
      go_wp2
      exact bodyPost_ret (v := .tuple #[.agg #[.int .i64 pr, .int .i64 1, .slice A 0 c, .int .i64 wt, .int .i64 fl], .bool false]) (by simp [results, Tryz.results108, go_sem]) rfl ⟨A, c, rfl, HS.out.below (below2 _ _ _), below2 _ _ _⟩
    · rw [if_neg h0]
      have e0 : ((l.length : Int) == 0) = false := beq_eq_false_iff_ne.2 (by omega)
      clear HV h0
      go_enter Tryz.func108, Tryz.ntmps108
      go_wp2
      exact bodyPost_ret (v := .tuple #[.agg #[.int .i64 pr, .int .i64 1, .slice A l.length c, .int .i64 1, .int .i64 1], .bool true]) (by simp [results, Tryz.results108, go_sem]) rfl ⟨A, c, rfl, HS.out.below (below2 _ _ _), below2 _ _ _⟩

theorem two_cellsd {w : World} {b t : Nat} {x0 x1 : Value} (h : w.heap[b]? = some (.cells #[x0, x1] t (0, 0))) : w.cell? ⟨b, 0, none⟩ = some x0 ∧ w.cell? ⟨b, 1, none⟩ = some x1 :=
  ⟨by rw [cell_of_row w b 0 _ _ _ h]; rfl, by rw [cell_of_row w b 1 _ _ _ h]; rfl⟩
theorem pace_set {w : World} {b t : Nat} {x0 x1 x2 x3 x4 : Value} (h : w.heap[b]? = some (.cells #[x0, x1, x2, x3, x4] t (0, 0))) (y z : Value) : ((w.setCell ⟨b, 3, none⟩ y).setCell ⟨b, 4, none⟩ z).heap[b]? = some (.cells #[x0, x1, x2, y, z] t (0, 0)) := by
  have h1 : (w.setCell ⟨b, 3, none⟩ y).heap[b]? = some (.cells #[x0, x1, x2, y, x4] t (0, 0)) := by rw [heap_setCell_same w b 3 _ _ _ h]; rfl
  rw [heap_setCell_same _ b 4 _ _ _ h1]
  rfl
theorem pace_other {w : World} {b g : Nat} (hg : g ≠ b) (y z : Value) : ((w.setCell ⟨b, 3, none⟩ y).setCell ⟨b, 4, none⟩ z).heap[g]? = w.heap[g]? := by
  rw [Below.heap_setCell _ _ _ _ hg, Below.heap_setCell _ _ _ _ hg]
theorem pace_below {n : Nat} {W w : World} {b : Nat} (h : Below n W w) (hb : n ≤ b) (y z : Value) : Below n W ((w.setCell ⟨b, 3, none⟩ y).setCell ⟨b, 4, none⟩ z) :=
  (h.setCell (p := ⟨b, 3, none⟩) hb y).setCell (p := ⟨b, 4, none⟩) hb z

end Go.Proofs.YtdphdodjidbngaaGreat

namespace Go.Proofs.YtdphdodjidbngaaGreat
open Go.RowKit Go.Sort
set_option linter.unusedVariables false
set_option linter.unusedSimpArgs false

theorem scells_tail (y : List UInt8) (r : List (List UInt8)) : (scells (y :: r)).drop (1 * 1) = scells r := by simp [scells]
end Go.Proofs.YtdphdodjidbngaaGreat

namespace Go.Proofs.YtdphdodjidbngaaGreat
open Go.RowKit Go.Sort
set_option linter.unusedVariables false
set_option linter.unusedSimpArgs false

/-- What Put answers. -/
def RPut (r : (Ov × Bool) × Int) (W : World) (e : Ending) (w' : World) : Prop :=
  ∃ A' c', e = .returned (.tuple #[.agg (oc r.1.1 A' c'), .bool r.1.2, .int .i64 r.2]) ∧ Sl w' 1 A' r.1.1.l.length c' (scells r.1.1.l) ∧ Below W.heap.size W w'
set_option maxRecDepth 20000 in
set_option maxHeartbeats 4000000 in
theorem r24put_any (o : Ov) (bound : Int) (y : List UInt8) (A : Option Addr) (c : Nat) (W : World) (h : Sl W 1 A o.l.length c (scells o.l)) (hl : o.l.length ≤ 999) (hy : y.length ≤ maxLen) :
    Calls Tryz.prog 47 #[.agg (oc o A c), .int .i64 bound, .string (str y)] W (RPut (putV o bound y) W) := by
  have HS := hid h
  have HV : Hid (putV o bound y = if y = [] then ((o, false), 1) else if y ∈ o.l then ((o, false), 0) else if bound ≤ (o.l.length : Int) then ((o, false), 7) else if o.l = [] then ((⟨o.p, o.q, [y], 1, 1⟩, true), 0) else ((⟨o.p, o.q, o.l ++ [y], o.w, o.f⟩, false), 0)) := hid rfl
  generalize putV o bound y = rv at *
  have HPL := hid (fun w (hb : Below W.heap.size W w) => rplace_any A o.l.length c o.l y w (h.below hb))
  have HMM : Hid (0 ≤ placeJ o.l y ↔ y ∈ o.l) := hid (placeJ_mem _ _)
  obtain ⟨p, q, l, wt, fl⟩ := o
  simp only at HV HS hl HPL HMM
  clear h
  simp only [oc]
  by_cases h1 : y = []
  · obtain rfl := HV.out.trans (if_pos h1)
    have e1 := str_nil y h1
    have e2 : ((str y).toList == []) = true := by simp [e1]
    clear h1
    clear HV HPL HMM
    go_enter Tryz.func47, Tryz.ntmps47
    go_wp2
    exact bodyPost_ret (v := .tuple #[.agg #[.int .i64 p, .int .i64 q, .slice A l.length c, .int .i64 wt, .int .i64 fl], .bool false, .int .i64 1]) (by simp [results, Tryz.results47, go_sem]) rfl ⟨A, c, rfl, HS.out.below (below2 _ _ _), below2 _ _ _⟩
  have e1 := str_cons y h1
  have e2 : ((str y).toList == []) = false := by simpa using e1
  have HV1 := hid (HV.out.trans (if_neg h1))
  clear h1 HV
  go_enter Tryz.func47, Tryz.ntmps47
  go_wp2_with fail
  refine (HPL.out _ (below2 _ _ _)).mono ?_
  rintro e w2 ⟨rfl, rfl⟩
  clear HPL
  by_cases h2 : y ∈ l
  · obtain rfl := HV1.out.trans (if_pos h2)
    have d2 : decide (0 ≤ placeJ l y) = true := decide_eq_true (HMM.out.2 h2)
    have d3 : 0 ≤ placeJ l y := HMM.out.2 h2
    clear h2 HMM HV1
    generalize placeJ l y = pj at *
    go_wp2
    exact bodyPost_ret (v := .tuple #[.agg #[.int .i64 p, .int .i64 q, .slice A l.length c, .int .i64 wt, .int .i64 fl], .bool false, .int .i64 0]) (by simp [results, Tryz.results47, go_sem]) rfl ⟨A, c, rfl, HS.out.below (below2 _ _ _), below2 _ _ _⟩
  have HV2 := hid (HV1.out.trans (if_neg h2))
  clear HV1
  have d2 : decide (0 ≤ placeJ l y) = false := decide_eq_false (fun h => h2 (HMM.out.1 h))
  have d3 : ¬ 0 ≤ placeJ l y := fun h => h2 (HMM.out.1 h)
  clear h2 HMM
  generalize placeJ l y = pj at *
  by_cases h3 : bound ≤ (l.length : Int)
  · obtain rfl := HV2.out.trans (if_pos h3)
    have d4 : decide (bound ≤ (l.length : Int)) = true := decide_eq_true h3
    go_wp2
    exact bodyPost_ret (v := .tuple #[.agg #[.int .i64 p, .int .i64 q, .slice A l.length c, .int .i64 wt, .int .i64 fl], .bool false, .int .i64 7]) (by simp [results, Tryz.results47, go_sem]) rfl ⟨A, c, rfl, HS.out.below (below2 _ _ _), below2 _ _ _⟩
  have HV3 := hid (HV2.out.trans (if_neg h3))
  clear HV2
  have d4 : decide (bound ≤ (l.length : Int)) = false := decide_eq_false h3
  go_upto_region 7 with (fail)
  clear h3 d4 d2 d3
  refine at_world (fun u => u.heap[W.heap.size]? = some (.cells #[.int .i64 p, .int .i64 q, .slice A l.length c, .int .i64 wt, .int .i64 fl] 79 (0, 0)) ∧ u.heap[W.heap.size + 1]? = some (.cells oz 79 (0, 0)) ∧ Below W.heap.size W u) ⟨heap_first _ _ _, heap_second _ _ _, below2 _ _ _⟩ ?_
  rintro w3 ⟨hx, hz, hb⟩
  have HX := hid hx
  have HZ := hid hz
  have HB := hid hb
  obtain ⟨⟨p0, p1, p2, p3, p4⟩, _⟩ := five_cells hx
  have hgl := lt_of_block hx
  have HE0 := hid (Mid.of_own (own_empty w3 9 1))
  have hbs : Below w3.heap.size w3 (w3.alloc (.cells #[] 9)) := (Below.refl _ _).alloc (Nat.le_refl _) _
  have HBS := hid hbs
  have HSL := hid (HS.out.below (hb.trans (hbs.mono hb.size)))
  have hle := hbs.size
  clear hx hz hb hbs
  go_wp2_with (at_builtin; refine wpList_append_mid rfl (.tmp 24) (.tmp 26) 33 rfl w3.heap.size 9 Tryz.underlying33 info_str rfl (by omega) rfl HE0.out rfl HSL.out (scells_one _) (by unfold maxLen; omega) (by omega) hle HBS.out ?_)
  intro v5 w5 ho5 hb5 hsz5 hk5
  obtain ⟨T5, c5, rfl, _⟩ := Mid.form ho5
  clear p0 p1 p2 p3 p4 HE0 HBS HSL hle hsz5 hk5
  have HT := hid (ho5.keep ((Below.refl _ _).alloc (Nat.le_refl _) (.cells #[.string (str y)] 9)))
  have HB5 := hid (hb5.alloc hb5.size (.cells #[.string (str y)] 9))
  have HS5 := hid (Sl.lit w5 9 1 1 #[.string (str y)] rfl (by unfold maxLen; omega))
  have hle5 := HB5.out.size
  clear ho5 hb5
  go_wp2_with (at_builtin; refine wpList_append_mid rfl (.tmp 27) (.tmp 29) 33 rfl w3.heap.size 9 Tryz.underlying33 info_str rfl (by omega) rfl HT.out rfl HS5.out (by simp; rfl) (by unfold maxLen; omega) (by omega) hle5 HB5.out ?_)
  intro v7 w7 ho7 hb7 hsz7 hk7
  obtain ⟨T7, c7, rfl, _⟩ := Mid.form ho7
  have hx7 := keep0 HX.out hb7
  have hz7 := keep0 HZ.out hb7
  obtain ⟨_, f0, f1, f2, f3, f4⟩ := five_cells hx7
  have hx8 : (w7.setCell ⟨W.heap.size, 2, none⟩ (.slice T7 (l.length + 1) c7)).heap[W.heap.size]? = some (.cells #[.int .i64 p, .int .i64 q, .slice T7 (l.length + 1) c7, .int .i64 wt, .int .i64 fl] 79 (0, 0)) := by
    rw [heap_setCell_same w7 W.heap.size 2 _ _ _ hx7]
    rfl
  have hz8 := (Below.heap_setCell w7 ⟨W.heap.size, 2, none⟩ (.slice T7 (l.length + 1) c7) (W.heap.size + 1) (show W.heap.size + 1 ≠ W.heap.size by omega)).trans hz7
  have ho8 := ho7.setOther hx7 (by decide) 2 (.slice T7 (l.length + 1) c7)
  have hb8 : Below W.heap.size W (w7.setCell ⟨W.heap.size, 2, none⟩ (.slice T7 (l.length + 1) c7)) := (HB.out.trans (hb7.mono HB.out.size)).setCell (p := ⟨W.heap.size, 2, none⟩) (Nat.le_refl _) _
  go_upto_region 8 with (fail)
  refine at_world (fun u => u.heap[W.heap.size]? = some (.cells #[.int .i64 p, .int .i64 q, .slice T7 (l.length + 1) c7, .int .i64 wt, .int .i64 fl] 79 (0, 0)) ∧ u.heap[W.heap.size + 1]? = some (.cells oz 79 (0, 0)) ∧ Mid u w3.heap.size 9 1 (.slice T7 (l.length + 1) c7) (l.length + 1) (scells l ++ [.string (str y)]) ∧ Below W.heap.size W u) ⟨hx8, hz8, ho8, hb8⟩ ?_
  clear f0 f1 f2 f3 f4 hx7 hz7 hx8 hz8 ho8 hb8 ho7 hb7 hsz7 hk7 HT HB5 HS5 hle5 HX HZ HB hgl
  rintro w8 ⟨hx, hz, ho, hb⟩
  generalize hL1 : l.length + 1 = L1 at *
  have HL1 := hid hL1
  by_cases h0 : l = []
  · obtain rfl := HV3.out.trans (if_pos h0)
    have e3 : ((L1 : Int) == 1) = true := by rw [← hL1, h0]; rfl
    have H0 := hid h0
    clear h0 hL1 HV3
    obtain ⟨⟨p0, p1, p2, p3, p4⟩, f0, f1, f2, f3, f4⟩ := five_cells hx
    have HX := hid (pace_set hx (.int .i64 1) (.int .i64 1))
    have HZ := hid ((pace_other (show W.heap.size + 1 ≠ W.heap.size by omega) (.int .i64 1) (.int .i64 1)).trans hz)
    have HB := hid (pace_below hb (Nat.le_refl _) (.int .i64 1) (.int .i64 1))
    have HO := hid (ho.only (w' := (w8.setCell ⟨W.heap.size, 3, none⟩ (.int .i64 1)).setCell ⟨W.heap.size, 4, none⟩ (.int .i64 1)) hx (by decide) (fun g hg _ => pace_other hg (.int .i64 1) (.int .i64 1)))
    clear hx hz hb ho
    go_upto_region 10 with (fail)
    refine at_world (fun u => u.heap[W.heap.size]? = some (.cells #[.int .i64 p, .int .i64 q, .slice T7 L1 c7, .int .i64 1, .int .i64 1] 79 (0, 0)) ∧ u.heap[W.heap.size + 1]? = some (.cells oz 79 (0, 0)) ∧ Mid u w3.heap.size 9 1 (.slice T7 L1 c7) L1 (scells l ++ [.string (str y)]) ∧ Below W.heap.size W u) ⟨HX.out, HZ.out, HO.out, HB.out⟩ ?_
    clear p0 p1 p2 p3 p4 f0 f1 f2 f3 f4 HX HZ HO HB
    rintro w9 ⟨hx, hz, ho, hb⟩
    obtain ⟨⟨p0, p1, p2, p3, p4⟩, _⟩ := five_cells hx
    obtain ⟨_, f0, f1, f2, f3, f4⟩ := five_cells hz
    obtain ⟨⟨r0, r1, r2, r3, r4⟩, _⟩ := five_cells (put5_heap hz (.int .i64 p) (.int .i64 q) (.slice T7 L1 c7) (.int .i64 1) (.int .i64 1))
    simp only [put5] at r0 r1 r2 r3 r4
    have HB := hid (put5_below hb (show W.heap.size ≤ W.heap.size + 1 by omega) (.int .i64 p) (.int .i64 q) (.slice T7 L1 c7) (.int .i64 1) (.int .i64 1))
    have HO := hid (Mid.sl (ho.only hz (by decide) (fun g hg _ => put5_other hg (.int .i64 p) (.int .i64 q) (.slice T7 L1 c7) (.int .i64 1) (.int .i64 1))))
    have hLL : L1 = ([y]).length := by rw [← HL1.out, H0.out]; rfl
    have hSL : Sl (put5 w9 (W.heap.size + 1) (.int .i64 p) (.int .i64 q) (.slice T7 ([y]).length c7) (.int .i64 1) (.int .i64 1)) 1 T7 ([y]).length c7 (scells ([y])) := by
      have h9 := HO.out
      rw [hLL] at h9
      rw [H0.out] at h9; exact h9
    have HFIN : Hid (RPut ((⟨p, q, [y], 1, 1⟩, true), 0) W (.returned (.tuple #[.agg #[.int .i64 p, .int .i64 q, .slice T7 L1 c7, .int .i64 1, .int .i64 1], .bool true, .int .i64 0])) (put5 w9 (W.heap.size + 1) (.int .i64 p) (.int .i64 q) (.slice T7 L1 c7) (.int .i64 1) (.int .i64 1))) := hid (by
      have hB := HB.out
      rw [hLL] at hB ⊢
      exact ⟨T7, c7, rfl, hSL, hB⟩)
    clear hx hz hb ho hLL hSL HO HB
    go_wp2
    exact bodyPost_ret (v := .tuple #[.agg #[.int .i64 p, .int .i64 q, .slice T7 L1 c7, .int .i64 1, .int .i64 1], .bool true, .int .i64 0]) (by simp [results, Tryz.results47, go_sem, r0, r1, r2, r3, r4]) rfl HFIN.out
  · obtain rfl := HV3.out.trans (if_neg h0)
    have e3 : ((L1 : Int) == 1) = false := beq_eq_false_iff_ne.2 (by
      intro h9
      exact h0 (List.eq_nil_of_length_eq_zero (by omega)))
    clear h0 hL1 HV3
    obtain ⟨⟨p0, p1, p2, p3, p4⟩, _⟩ := five_cells hx
    obtain ⟨_, f0, f1, f2, f3, f4⟩ := five_cells hz
    obtain ⟨⟨r0, r1, r2, r3, r4⟩, _⟩ := five_cells (put5_heap hz (.int .i64 p) (.int .i64 q) (.slice T7 L1 c7) (.int .i64 wt) (.int .i64 fl))
    simp only [put5] at r0 r1 r2 r3 r4
    have HB := hid (put5_below hb (show W.heap.size ≤ W.heap.size + 1 by omega) (.int .i64 p) (.int .i64 q) (.slice T7 L1 c7) (.int .i64 wt) (.int .i64 fl))
    have HO := hid (Mid.sl (ho.only hz (by decide) (fun g hg _ => put5_other hg (.int .i64 p) (.int .i64 q) (.slice T7 L1 c7) (.int .i64 wt) (.int .i64 fl))))
    have hLL : L1 = (l ++ [y]).length := by rw [← HL1.out]; simp
    have hSL : Sl (put5 w8 (W.heap.size + 1) (.int .i64 p) (.int .i64 q) (.slice T7 (l ++ [y]).length c7) (.int .i64 wt) (.int .i64 fl)) 1 T7 (l ++ [y]).length c7 (scells (l ++ [y])) := by
      have h9 := HO.out
      rw [hLL] at h9
      rw [← scells_snoc] at h9; exact h9
    have HFIN : Hid (RPut ((⟨p, q, l ++ [y], wt, fl⟩, false), 0) W (.returned (.tuple #[.agg #[.int .i64 p, .int .i64 q, .slice T7 L1 c7, .int .i64 wt, .int .i64 fl], .bool false, .int .i64 0])) (put5 w8 (W.heap.size + 1) (.int .i64 p) (.int .i64 q) (.slice T7 L1 c7) (.int .i64 wt) (.int .i64 fl))) := hid (by
      have hB := HB.out
      rw [hLL] at hB ⊢
      exact ⟨T7, c7, rfl, hSL, hB⟩)
    clear hx hz hb ho hLL hSL HO HB
    go_wp2
    exact bodyPost_ret (v := .tuple #[.agg #[.int .i64 p, .int .i64 q, .slice T7 L1 c7, .int .i64 wt, .int .i64 fl], .bool false, .int .i64 0]) (by simp [results, Tryz.results47, go_sem, r0, r1, r2, r3, r4]) rfl HFIN.out
end Go.Proofs.YtdphdodjidbngaaGreat

