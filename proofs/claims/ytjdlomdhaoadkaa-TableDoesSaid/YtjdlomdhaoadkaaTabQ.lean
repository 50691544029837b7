/- Rows of a table copied and chosen. -/
import Derived.Test.YtjdlomdhaoadkaaTabE
import Derived.Test.YtjdlomdhaoadkaaPair
import Derived.Deep.RegionHeld3
namespace Go.Proofs.Ytjdlomdhaoadkaa
open Go.RowKit
set_option linter.unusedVariables false
set_option linter.unusedSimpArgs false

theorem info_rrow31 : (Try.prog.info? 50).map (fun i => (i.zero, i.size, i.bytes)) = some (some (.agg #[.int .i64 0, .int .i64 0, .int .i64 0]), 3, 24) := by kernel_rfl
theorem info_task31 : (Try.prog.info? 28).map (fun i => (i.zero, i.size, i.bytes)) = some (some (.agg #[.int .i64 0, .int .i64 0]), 2, 16) := by kernel_rfl
theorem take_sn {α : Type} (l : List α) (k : Nat) (hk : k < l.length) : l.take (k + 1) = l.take k ++ [l[k]] := by rw [List.take_add_one, List.getElem?_eq_getElem hk]; rfl
theorem undrewQ {w w' : World} (h : Below w.drew.heap.size w.drew w') : Below w.heap.size w w' := ⟨h.os, h.tape, h.output, h.size, h.block⟩
def ofF (j : Int) (l : List Tr) : List Tr := l.filter fun x => x.1 == j
def inF (s : Int) (l : List Tr) : List (Int × Int) := (l.filter fun x => x.2.2 == s).map fun x => (x.1, x.2.1)
theorem ofF_yes {j : Int} {l : List Tr} {k : Nat} (hk : k < l.length) (h : (l[k].1 == j) = true) : ofF j (l.take (k + 1)) = ofF j (l.take k) ++ [l[k]] := by unfold ofF; rw [take_sn l k hk, List.filter_append]; simp [h]
theorem ofF_no {j : Int} {l : List Tr} {k : Nat} (hk : k < l.length) (h : (l[k].1 == j) = false) : ofF j (l.take (k + 1)) = ofF j (l.take k) := by unfold ofF; rw [take_sn l k hk, List.filter_append]; simp [h]
theorem inF_yes {j : Int} {l : List Tr} {k : Nat} (hk : k < l.length) (h : (l[k].2.2 == j) = true) : inF j (l.take (k + 1)) = inF j (l.take k) ++ [(l[k].1, l[k].2.1)] := by unfold inF; rw [take_sn l k hk, List.filter_append]; simp [h]
theorem inF_no {j : Int} {l : List Tr} {k : Nat} (hk : k < l.length) (h : (l[k].2.2 == j) = false) : inF j (l.take (k + 1)) = inF j (l.take k) := by unfold inF; rw [take_sn l k hk, List.filter_append]; simp [h]
theorem ofF_len (j : Int) (l : List Tr) : (ofF j l).length ≤ l.length := List.length_filter_le _ _
theorem inF_len (j : Int) (l : List Tr) : (inF j l).length ≤ l.length := by unfold inF; rw [List.length_map]; exact List.length_filter_le _ _
theorem g3_snoc (l : List Tr) (x : Tr) : gcells r3 (l ++ [x]) = gcells r3 l ++ [.int .i64 x.1, .int .i64 x.2.1, .int .i64 x.2.2] := gcells_snoc r3 l x

set_option maxRecDepth 20000 in
set_option maxHeartbeats 2000000 in
theorem of31_any (A : Option Addr) (cap : Nat) (l : List Tr) (W : World) (h : Sl W 3 A l.length cap (gcells r3 l)) (hl : l.length ≤ 1000) :
    Calls Try.prog 6 #[.slice A l.length cap] W fun e w' => ∃ A' c', e = .returned (.slice A' l.length c') ∧ w'.ownsRow W.heap.size 51 3 (.slice A' l.length c') l.length (gcells r3 l) ∧ Below W.heap.size W w' := by
  have HA := hid h
  clear h
  go_enter Try.func6, Try.ntmps6
  go_wp2
  go_loopw [3, 4] (fun v i wr => ∃ (k : Nat), k ≤ l.length ∧ i = .int .i64 (k : Int) ∧ Hid (wr.ownsRow W.heap.size 51 3 v k (gcells r3 (l.take k))) ∧ Hid (Below W.heap.size W wr)) (fun _ i _ => l.length - (intOf i).toNat)
  case atStart => exact ⟨0, by omega, rfl, World.ownsRow_nil _ _ _ _, Below.refl _ _⟩
  case round =>
    obtain ⟨k, hk, rfl, HO, HB⟩ := hrel
    by_cases hlt : k < l.length
    · have hlt2 : (k : Int) < (l.length : Int) := by omega
      obtain ⟨b, off, rfl, hcl⟩ := Sl.gat (f := r3) (n := 3) (fun _ => rfl) HA.out k hlt (by omega)
      have c0 := hcl 0 _ rfl
      have c1 := hcl 1 _ rfl
      have c2 := hcl 2 _ rfl
      simp only [Nat.add_zero] at c0
      clear hcl
      have HS : Hid (gcells r3 (l.take (k + 1)) = gcells r3 (l.take k) ++ [.int .i64 l[k].1, .int .i64 l[k].2.1, .int .i64 l[k].2.2]) := hid (by rw [take_sn l k hlt, g3_snoc])
      generalize l[k] = x at c0 c1 c2 HS
      obtain ⟨x0, x1, x2⟩ := x
      simp only at c0 c1 c2 HS
      generalize gcells r3 (l.take k) = m1 at *
      have hS : ∀ U, Below W.heap.size W U → ((U.cell? ⟨b, off + k * 3, none⟩ = some (.int .i64 x0) ∧ U.cell? ⟨b, off + k * 3 + 1, none⟩ = some (.int .i64 x1) ∧ U.cell? ⟨b, off + k * 3 + 2, none⟩ = some (.int .i64 x2)) ∧ Below W.heap.size W U) := fun U hU => ⟨⟨cellb hU c0, cellb hU c1, cellb hU c2⟩, hU⟩
      go_upto_region 5 with (fail)
      go_region_held3 (fun U => (U.cell? ⟨b, off + k * 3, none⟩ = some (.int .i64 x0) ∧ U.cell? ⟨b, off + k * 3 + 1, none⟩ = some (.int .i64 x1) ∧ U.cell? ⟨b, off + k * 3 + 2, none⟩ = some (.int .i64 x2)) ∧ Below W.heap.size W U)
        (exact hS _ (by repeat' (first | with_reducible exact Below.refl _ _ | with_reducible exact HB.out | with_reducible exact And.right (by assumption) | with_reducible assumption | with_reducible refine below_drew ?_ | with_reducible refine bel_alloc ?_ _)))
        (first
          | (refine step_append_sl rfl (.tmp 11) (.tmp 23) 25 rfl W.heap.size 51 Try.underlying25 info_trow rfl (by omega) rfl (own_keep HO.out (by repeat' (first | with_reducible exact Below.refl _ _ | with_reducible refine below_drew ?_ | with_reducible refine bel_alloc ?_ _))) rfl (by first | exact Sl.lit _ _ 3 1 #[.int .i64 x0, .int .i64 x1, .int .i64 x2] rfl (by unfold maxLen; omega) | exact Sl.below (Sl.lit _ _ 3 1 #[.int .i64 x0, .int .i64 x1, .int .i64 x2] rfl (by unfold maxLen; omega)) (below_drew (Below.refl _ _))) (by simp; exact ⟨rfl, rfl, rfl⟩) (by unfold maxLen; omega) (by omega) (show Below W.heap.size W _ from And.right (by assumption)).size ?_
             intro v5 w5 ho5 hb5 hsz5 hk5
             have hb6 : Below W.heap.size W w5 := (show Below W.heap.size W _ from And.right (by assumption)).trans hb5))
      go_wp2
      go_roundw
      case rel => exact ⟨k + 1, by omega, by go_num, by rw [Hid, HS.out]; exact ho5, hb6⟩
      case measure => simp [intOf]; omega
    · have hge : ¬ (k : Int) < (l.length : Int) := by omega
      have hk2 : k = l.length := by omega
      subst hk2
      go_wp2
      go_ret
      have hO := HO.out
      rw [List.take_length] at hO
      obtain ⟨A9, c9, rfl, _⟩ := Sl.of_own hO
      exact ⟨A9, c9, rfl, hO, HB.out⟩

set_option maxRecDepth 20000 in
set_option maxHeartbeats 2000000 in
theorem tof_any (A : Option Addr) (cap : Nat) (l : List Tr) (j : Int) (W : World) (h : Sl W 3 A l.length cap (gcells r3 l)) (hl : l.length ≤ 1000) :
    Calls Try.prog 14 #[.slice A l.length cap, .int .i64 j] W fun e w' => ∃ A' c', e = .returned (.slice A' (ofF j l).length c') ∧ w'.ownsRow W.heap.size 51 3 (.slice A' (ofF j l).length c') (ofF j l).length (gcells r3 (ofF j l)) ∧ Below W.heap.size W w' := by
  have HA := hid h
  have hl2 : (l.length : Int) ≤ 1000 := by omega
  clear h
  go_enter Try.func14, Try.ntmps14
  go_wp2
  go_loopw [5, 10] (fun v i wr => ∃ (k : Nat), k ≤ l.length ∧ i = .int .i64 (k : Int) ∧ Hid (wr.ownsRow W.heap.size 51 3 v (ofF j (l.take k)).length (gcells r3 (ofF j (l.take k)))) ∧ Hid (Below W.heap.size W wr)) (fun _ i _ => l.length - (intOf i).toNat)
  case atStart => exact ⟨0, by omega, rfl, World.ownsRow_nil _ _ _ _, Below.refl _ _⟩
  case round =>
    obtain ⟨k, hk, rfl, HO, HB⟩ := hrel
    by_cases hlt : k < l.length
    · have hlt2 : (k : Int) < (l.length : Int) := by omega
      obtain ⟨b, off, rfl, hcl⟩ := Sl.gat (f := r3) (n := 3) (fun _ => rfl) (HA.out.below HB.out) k hlt (by omega)
      have c0 := hcl 0 _ rfl
      have c1 := hcl 1 _ rfl
      have c2 := hcl 2 _ rfl
      simp only [Nat.add_zero] at c0
      clear hcl
      have HY := hid (fun h => ofF_yes (j := j) hlt h)
      have HN := hid (fun h => ofF_no (j := j) hlt h)
      have hle := ofF_len j (l.take k)
      rw [List.length_take] at hle
      have hle2 : (ofF j (l.take k)).length ≤ 1000 := by omega
      clear hle
      generalize l[k] = x at c0 c1 c2 HY HN
      obtain ⟨x0, x1, x2⟩ := x
      simp only at c0 c1 c2 HY HN
      generalize ofF j (l.take k) = m1 at *
      go_upto_region 5 with (fail)
      refine at_world (fun u => u.heap[wr.heap.size]? = some (.cells #[.int .i64 x0, .int .i64 x1, .int .i64 x2] 51 (0, 0)) ∧ Below wr.heap.size wr u) ⟨heap_alloc_new _ _, (Below.refl _ _).alloc (Nat.le_refl _) _⟩ ?_
      rintro w2 ⟨k0, hb⟩
      have HB2 := hid (HB.out.trans (hb.mono HB.out.size))
      have HO2 := hid (own_keep HO.out hb)
      obtain ⟨⟨p0, p1, p2⟩, _⟩ := three_cells k0
      clear k0 hb c0 c1 c2 HB HO
      generalize wr.heap.size = M at *
      cases ht : (x0 == j) with
      | true =>
        have HY2 := hid (HY.out ht)
        have HOA : Hid (w2.ownsRow W.heap.size 51 3 _ m1.length (gcells r3 m1)) := HO2
        clear HY HN
        go_wp2_with (at_builtin; go_loud (refine wpList_append_1 (W := W) rfl (.tmp 19) (.tmp 21) 25 rfl W.heap.size 51 Try.underlying25 info_trow rfl (by omega) rfl HOA.out rfl rfl (by simp [Value.oneCell']) ?c1 ?c2 HB2.out.size HB2.out ?_))
        case c1 => unfold maxLen; omega
        case c2 => omega
        intro v' w' h2 h3 h4
        have HR : Hid (w'.ownsRow W.heap.size 51 3 v' ((ofF j (l.take (k + 1))).length) (gcells r3 (ofF j (l.take (k + 1))))) := hid (by rw [HY2.out, g3_snoc, List.length_append]; exact h2)
        have HB3 := hid h3
        clear h2 h3 HY2 HOA HO2
        go_wp2
        go_roundw
        case rel => exact ⟨k + 1, by omega, by go_num, HR.out, HB3.out⟩
        case measure => simp [intOf]; omega
      | false =>
        have HN2 := hid (HN.out ht)
        clear HY HN
        go_wp2
        go_roundw
        case rel => exact ⟨k + 1, by omega, by go_num, by rw [Hid, HN2.out]; exact HO2.out, HB2.out⟩
        case measure => simp [intOf]; omega
    · have hge : ¬ (k : Int) < (l.length : Int) := by omega
      have hk2 : k = l.length := by omega
      subst hk2
      go_wp2
      go_ret
      have hO := HO.out
      rw [List.take_length] at hO
      obtain ⟨A9, c9, rfl, _⟩ := Sl.of_own hO
      exact ⟨A9, c9, rfl, hO, HB.out⟩

set_option maxRecDepth 20000 in
set_option maxHeartbeats 2000000 in
theorem tin_any (A : Option Addr) (cap : Nat) (l : List Tr) (j : Int) (W : World) (h : Sl W 3 A l.length cap (gcells r3 l)) (hl : l.length ≤ 1000) :
    Calls Try.prog 17 #[.slice A l.length cap, .int .i64 j] W fun e w' => ∃ A' c', e = .returned (.slice A' (inF j l).length c') ∧ w'.ownsRow W.heap.size 28 2 (.slice A' (inF j l).length c') (inF j l).length (pcells (inF j l)) ∧ Below W.heap.size W w' := by
  have HA := hid h
  have hl2 : (l.length : Int) ≤ 1000 := by omega
  clear h
  go_enter Try.func17, Try.ntmps17
  go_wp2
  go_loopw [5, 10] (fun v i wr => ∃ (k : Nat), k ≤ l.length ∧ i = .int .i64 (k : Int) ∧ Hid (wr.ownsRow W.heap.size 28 2 v (inF j (l.take k)).length (pcells (inF j (l.take k)))) ∧ Hid (Below W.heap.size W wr)) (fun _ i _ => l.length - (intOf i).toNat)
  case atStart => exact ⟨0, by omega, rfl, World.ownsRow_nil _ _ _ _, Below.refl _ _⟩
  case round =>
    obtain ⟨k, hk, rfl, HO, HB⟩ := hrel
    by_cases hlt : k < l.length
    · have hlt2 : (k : Int) < (l.length : Int) := by omega
      obtain ⟨b, off, rfl, hcl⟩ := Sl.gat (f := r3) (n := 3) (fun _ => rfl) (HA.out.below HB.out) k hlt (by omega)
      have c0 := hcl 0 _ rfl
      have c1 := hcl 1 _ rfl
      have c2 := hcl 2 _ rfl
      simp only [Nat.add_zero] at c0
      clear hcl
      have HY := hid (fun h => inF_yes (j := j) hlt h)
      have HN := hid (fun h => inF_no (j := j) hlt h)
      have hle := inF_len j (l.take k)
      rw [List.length_take] at hle
      have hle2 : (inF j (l.take k)).length ≤ 1000 := by omega
      clear hle
      generalize l[k] = x at c0 c1 c2 HY HN
      obtain ⟨x0, x1, x2⟩ := x
      simp only at c0 c1 c2 HY HN
      generalize inF j (l.take k) = m1 at *
      go_upto_region 5 with (fail)
      refine at_world (fun u => u.heap[wr.heap.size]? = some (.cells #[.int .i64 x0, .int .i64 x1, .int .i64 x2] 51 (0, 0)) ∧ Below wr.heap.size wr u) ⟨heap_alloc_new _ _, (Below.refl _ _).alloc (Nat.le_refl _) _⟩ ?_
      rintro w2 ⟨k0, hb⟩
      have HB2 := hid (HB.out.trans (hb.mono HB.out.size))
      have HO2 := hid (own_keep HO.out hb)
      obtain ⟨⟨p0, p1, p2⟩, _⟩ := three_cells k0
      clear k0 hb c0 c1 c2 HB HO
      generalize wr.heap.size = M at *
      cases ht : (x2 == j) with
      | true =>
        have HY2 := hid (HY.out ht)
        have HOA : Hid (w2.ownsRow W.heap.size 28 2 _ m1.length (pcells m1)) := HO2
        clear HY HN
        go_wp2_with (at_builtin; go_loud (refine wpList_append_1 (W := W) rfl (.tmp 18) (.tmp 21) 41 rfl W.heap.size 28 Try.underlying41 info_task31 rfl (by omega) rfl HOA.out rfl rfl (by simp [Value.oneCell']) ?c1 ?c2 HB2.out.size HB2.out ?_))
        case c1 => unfold maxLen; omega
        case c2 => omega
        intro v' w' h2 h3 h4
        have HR : Hid (w'.ownsRow W.heap.size 28 2 v' ((inF j (l.take (k + 1))).length) (pcells (inF j (l.take (k + 1))))) := hid (by rw [HY2.out, pcells_snoc, List.length_append]; exact h2)
        have HB3 := hid h3
        clear h2 h3 HY2 HOA HO2
        go_wp2
        go_roundw
        case rel => exact ⟨k + 1, by omega, by go_num, HR.out, HB3.out⟩
        case measure => simp [intOf]; omega
      | false =>
        have HN2 := hid (HN.out ht)
        clear HY HN
        go_wp2
        go_roundw
        case rel => exact ⟨k + 1, by omega, by go_num, by rw [Hid, HN2.out]; exact HO2.out, HB2.out⟩
        case measure => simp [intOf]; omega
    · have hge : ¬ (k : Int) < (l.length : Int) := by omega
      have hk2 : k = l.length := by omega
      subst hk2
      go_wp2
      go_ret
      have hO := HO.out
      rw [List.take_length] at hO
      obtain ⟨A9, c9, rfl, _⟩ := Sl.of_own hO
      exact ⟨A9, c9, rfl, hO, HB.out⟩

set_option maxRecDepth 20000 in
set_option maxHeartbeats 2000000 in
theorem rof31_any (A : Option Addr) (cap : Nat) (l : List Tr) (j : Int) (W : World) (h : Sl W 3 A l.length cap (gcells r3 l)) (hl : l.length ≤ 1000) :
    Calls Try.prog 15 #[.slice A l.length cap, .int .i64 j] W fun e w' => ∃ A' c', e = .returned (.slice A' (ofF j l).length c') ∧ w'.ownsRow W.heap.size 50 3 (.slice A' (ofF j l).length c') (ofF j l).length (gcells r3 (ofF j l)) ∧ Below W.heap.size W w' := by
  have HA := hid h
  have hl2 : (l.length : Int) ≤ 1000 := by omega
  clear h
  go_enter Try.func15, Try.ntmps15
  go_wp2
  go_loopw [5, 6] (fun v i wr => ∃ (k : Nat), k ≤ l.length ∧ i = .int .i64 (k : Int) ∧ Hid (wr.ownsRow W.heap.size 50 3 v (ofF j (l.take k)).length (gcells r3 (ofF j (l.take k)))) ∧ Hid (Below W.heap.size W wr)) (fun _ i _ => l.length - (intOf i).toNat)
  case atStart => exact ⟨0, by omega, rfl, World.ownsRow_nil _ _ _ _, Below.refl _ _⟩
  case round =>
    obtain ⟨k, hk, rfl, HO, HB⟩ := hrel
    by_cases hlt : k < l.length
    · have hlt2 : (k : Int) < (l.length : Int) := by omega
      obtain ⟨b, off, rfl, hcl⟩ := Sl.gat (f := r3) (n := 3) (fun _ => rfl) (HA.out.below HB.out) k hlt (by omega)
      have c0 := hcl 0 _ rfl
      have c1 := hcl 1 _ rfl
      have c2 := hcl 2 _ rfl
      simp only [Nat.add_zero] at c0
      clear hcl
      have HY := hid (fun h => ofF_yes (j := j) hlt h)
      have HN := hid (fun h => ofF_no (j := j) hlt h)
      have hle := ofF_len j (l.take k)
      rw [List.length_take] at hle
      have hle2 : (ofF j (l.take k)).length ≤ 1000 := by omega
      clear hle
      generalize l[k] = x at c0 c1 c2 HY HN
      obtain ⟨x0, x1, x2⟩ := x
      simp only at c0 c1 c2 HY HN
      generalize ofF j (l.take k) = m1 at *
      have HB2 := HB
      have HO2 := HO
      obtain ⟨w2, hw2⟩ : ∃ w2 : World, w2 = wr := ⟨_, rfl⟩
      subst hw2
      cases ht : (x0 == j) with
      | true =>
        have HY2 := hid (HY.out ht)
        have HOA : Hid (w2.ownsRow W.heap.size 50 3 _ m1.length (gcells r3 m1)) := HO2
        clear HY HN
        go_wp2_with (at_builtin; go_loud (refine wpList_append_1 (W := W) rfl (.tmp 21) (.tmp 26) 22 rfl W.heap.size 50 Try.underlying22 info_rrow31 rfl (by omega) rfl HOA.out rfl rfl (by simp [Value.oneCell']) ?c1 ?c2 HB2.out.size HB2.out ?_))
        case c1 => unfold maxLen; omega
        case c2 => omega
        intro v' w' h2 h3 h4
        have HR : Hid (w'.ownsRow W.heap.size 50 3 v' ((ofF j (l.take (k + 1))).length) (gcells r3 (ofF j (l.take (k + 1))))) := hid (by rw [HY2.out, g3_snoc, List.length_append]; exact h2)
        have HB3 := hid h3
        clear h2 h3 HY2 HOA HO2
        go_wp2
        go_roundw
        case rel => exact ⟨k + 1, by omega, by go_num, HR.out, HB3.out⟩
        case measure => simp [intOf]; omega
      | false =>
        have HN2 := hid (HN.out ht)
        clear HY HN
        go_wp2
        go_roundw
        case rel => exact ⟨k + 1, by omega, by go_num, by rw [Hid, HN2.out]; exact HO2.out, HB2.out⟩
        case measure => simp [intOf]; omega
    · have hge : ¬ (k : Int) < (l.length : Int) := by omega
      have hk2 : k = l.length := by omega
      subst hk2
      go_wp2
      go_ret
      have hO := HO.out
      rw [List.take_length] at hO
      obtain ⟨A9, c9, rfl, _⟩ := Sl.of_own hO
      exact ⟨A9, c9, rfl, hO, HB.out⟩

set_option maxRecDepth 20000 in
set_option maxHeartbeats 2000000 in
theorem rin31_any (A : Option Addr) (cap : Nat) (l : List Tr) (j : Int) (W : World) (h : Sl W 3 A l.length cap (gcells r3 l)) (hl : l.length ≤ 1000) :
    Calls Try.prog 18 #[.slice A l.length cap, .int .i64 j] W fun e w' => ∃ A' c', e = .returned (.slice A' (inF j l).length c') ∧ w'.ownsRow W.heap.size 28 2 (.slice A' (inF j l).length c') (inF j l).length (pcells (inF j l)) ∧ Below W.heap.size W w' := by
  have HA := hid h
  have hl2 : (l.length : Int) ≤ 1000 := by omega
  clear h
  go_enter Try.func18, Try.ntmps18
  go_wp2
  go_loopw [5, 6] (fun v i wr => ∃ (k : Nat), k ≤ l.length ∧ i = .int .i64 (k : Int) ∧ Hid (wr.ownsRow W.heap.size 28 2 v (inF j (l.take k)).length (pcells (inF j (l.take k)))) ∧ Hid (Below W.heap.size W wr)) (fun _ i _ => l.length - (intOf i).toNat)
  case atStart => exact ⟨0, by omega, rfl, World.ownsRow_nil _ _ _ _, Below.refl _ _⟩
  case round =>
    obtain ⟨k, hk, rfl, HO, HB⟩ := hrel
    by_cases hlt : k < l.length
    · have hlt2 : (k : Int) < (l.length : Int) := by omega
      obtain ⟨b, off, rfl, hcl⟩ := Sl.gat (f := r3) (n := 3) (fun _ => rfl) (HA.out.below HB.out) k hlt (by omega)
      have c0 := hcl 0 _ rfl
      have c1 := hcl 1 _ rfl
      have c2 := hcl 2 _ rfl
      simp only [Nat.add_zero] at c0
      clear hcl
      have HY := hid (fun h => inF_yes (j := j) hlt h)
      have HN := hid (fun h => inF_no (j := j) hlt h)
      have hle := inF_len j (l.take k)
      rw [List.length_take] at hle
      have hle2 : (inF j (l.take k)).length ≤ 1000 := by omega
      clear hle
      generalize l[k] = x at c0 c1 c2 HY HN
      obtain ⟨x0, x1, x2⟩ := x
      simp only at c0 c1 c2 HY HN
      generalize inF j (l.take k) = m1 at *
      have HB2 := HB
      have HO2 := HO
      obtain ⟨w2, hw2⟩ : ∃ w2 : World, w2 = wr := ⟨_, rfl⟩
      subst hw2
      cases ht : (x2 == j) with
      | true =>
        have HY2 := hid (HY.out ht)
        have HOA : Hid (w2.ownsRow W.heap.size 28 2 _ m1.length (pcells m1)) := HO2
        clear HY HN
        go_wp2_with (at_builtin; go_loud (refine wpList_append_1 (W := W) rfl (.tmp 20) (.tmp 26) 41 rfl W.heap.size 28 Try.underlying41 info_task31 rfl (by omega) rfl HOA.out rfl rfl (by simp [Value.oneCell']) ?c1 ?c2 HB2.out.size HB2.out ?_))
        case c1 => unfold maxLen; omega
        case c2 => omega
        intro v' w' h2 h3 h4
        have HR : Hid (w'.ownsRow W.heap.size 28 2 v' ((inF j (l.take (k + 1))).length) (pcells (inF j (l.take (k + 1))))) := hid (by rw [HY2.out, pcells_snoc, List.length_append]; exact h2)
        have HB3 := hid h3
        clear h2 h3 HY2 HOA HO2
        go_wp2
        go_roundw
        case rel => exact ⟨k + 1, by omega, by go_num, HR.out, HB3.out⟩
        case measure => simp [intOf]; omega
      | false =>
        have HN2 := hid (HN.out ht)
        clear HY HN
        go_wp2
        go_roundw
        case rel => exact ⟨k + 1, by omega, by go_num, by rw [Hid, HN2.out]; exact HO2.out, HB2.out⟩
        case measure => simp [intOf]; omega
    · have hge : ¬ (k : Int) < (l.length : Int) := by omega
      have hk2 : k = l.length := by omega
      subst hk2
      go_wp2
      go_ret
      have hO := HO.out
      rw [List.take_length] at hO
      obtain ⟨A9, c9, rfl, _⟩ := Sl.of_own hO
      exact ⟨A9, c9, rfl, hO, HB.out⟩
end Go.Proofs.Ytjdlomdhaoadkaa
