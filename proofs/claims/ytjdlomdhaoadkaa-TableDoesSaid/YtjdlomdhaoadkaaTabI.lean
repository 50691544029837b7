/- Table: Set: contract. -/
import Derived.Test.YtjdlomdhaoadkaaTabH
namespace Go.Proofs.Ytjdlomdhaoadkaa
open Go.RowKit
set_option linter.unusedVariables false
set_option linter.unusedSimpArgs false

/-- What Set answers. -/
def SetR (l : List Tr) (c d s : Int) (W : World) (e : Ending) (w' : World) : Prop :=
  ∃ A' c', e = .returned (.tuple #[.slice A' (setT l c d s).length c', .bool (setOk l c d s)]) ∧ w'.ownsRow W.heap.size 51 3 (.slice A' (setT l c d s).length c') (setT l c d s).length (gcells r3 (setT l c d s)) ∧ Below W.heap.size W w'
set_option maxRecDepth 20000 in
set_option maxHeartbeats 4000000 in
theorem tset_any (A : Option Addr) (cap : Nat) (l : List Tr) (c d s : Int) (W : World) (h : Sl W 3 A l.length cap (gcells r3 l)) (hl : l.length ≤ 1000) :
    Calls Try.prog 7 #[.slice A l.length cap, .agg #[.int .i64 c, .int .i64 d], .int .i64 s] W (SetR l c d s W) := by
  have HA := hid h
  have hl2 : (l.length : Int) ≤ 1000 := by omega
  clear h
  go_enter Try.func7, Try.ntmps7
  go_upto_region 1 with (fail)
  refine at_world (fun u => u.heap[W.heap.size]? = some (.cells #[.int .i64 c, .int .i64 d] 28 (0, 0)) ∧ Below W.heap.size W u) ⟨heap_alloc_new _ _, (Below.refl _ _).alloc (Nat.le_refl _) _⟩ ?_
  rintro w1 ⟨hx1, hb1⟩
  have HX1 := hid hx1
  have HB1 := hid hb1
  have hlt1 := lt_of_block hx1
  have HCL := hid (clone_trow A l.length cap (gcells r3 l) w1 (HA.out.below hb1) (gcells_r3_one l) (by omega))
  clear hx1 hb1
  go_wp2_with fail
  refine HCL.out.mono ?_
  rintro e w2 ⟨v, rfl, hb2, ho2⟩
  obtain ⟨A2, c2, rfl, hs2⟩ := Sl.of_own ho2
  have HO2 := hid ho2
  have HS2 := hid hs2
  have HX2 := hid (keep0 HX1.out hb2)
  have HB2 := hid (HB1.out.trans (hb2.mono HB1.out.size))
  have HZ2 := hid hb2.size
  have HCK := hid (tcheck_any A2 c2 l w2 hs2)
  clear hb2 ho2 hs2 HCL
  go_wp2_with fail
  refine HCK.out.mono ?_
  rintro e w3 ⟨rfl, hb3⟩
  have HX3 := hid (keep0 HX2.out hb3)
  have HO3 := hid (own_mono (own_keep HO2.out hb3) (Nat.le_of_lt hlt1))
  have HS3 := hid (HS2.out.below hb3)
  have HB3 := hid (HB2.out.trans (hb3.mono HB2.out.size))
  clear hb3 HCK
  cases hck : chkB l with
  | false =>
    have HT : Hid (setT l c d s = l ∧ setOk l c d s = false) := hid (by
      have : setOk l c d s = false := by unfold setOk; rw [hck]; rfl
      exact ⟨by unfold setT; rw [this]; rfl, this⟩)
    clear hck
    go_wp2
    go_ret2
    exact ⟨A2, c2, by rw [HT.out.1, HT.out.2]; rfl, by rw [HT.out.1]; exact HO3.out, HB3.out⟩
  | true =>
    have HCK := hid hck
    clear hck
    obtain ⟨p0, p1, _, _⟩ := two_cells HX3.out
    have HST := hid (state_any A2 c2 l c d w3 HS3.out)
    go_wp2_with fail
    refine HST.out.mono ?_
    rintro e w4 ⟨rfl, hb4⟩
    have HX4 := hid (keep0 HX3.out hb4)
    have HO4 := hid (own_keep HO3.out hb4)
    have HS4 := hid (HS3.out.below hb4)
    have HB4 := hid (HB3.out.trans (hb4.mono HB3.out.size))
    clear hb4 HST p0 p1
    have HPM := hid (fun w => perm_any (stF c d l) s w)
    cases hp : permB (stF c d l) s with
    | false =>
      have HT : Hid (setT l c d s = l ∧ setOk l c d s = false) := hid (by
        have : setOk l c d s = false := by unfold setOk; rw [HCK.out, hp]; rfl
        exact ⟨by unfold setT; rw [this]; rfl, this⟩)
      rw [hp] at HPM
      clear hp
      generalize stF c d l = st at *
      go_wp2_with fail
      refine (HPM.out _).mono ?_
      rintro e w5 ⟨rfl, rfl⟩
      go_wp2
      go_ret2
      exact ⟨A2, c2, by rw [HT.out.1, HT.out.2]; rfl, by rw [HT.out.1]; exact HO4.out, HB4.out⟩
    | true =>
      have HOK : Hid (setOk l c d s = true) := hid (by unfold setOk; rw [HCK.out, hp]; rfl)
      rw [hp] at HPM
      clear hp
      generalize stF c d l = st at *
      obtain ⟨p0, p1, _, _⟩ := two_cells HX4.out
      have HSE := hid (search_any A2 c2 l c d w4 HS4.out HCK.out hl)
      go_wp2_with fail
      refine (HPM.out _).mono ?_
      rintro e w5 ⟨rfl, rfl⟩
      go_wp2_with fail
      refine HSE.out.mono ?_
      rintro e w5 ⟨⟨k, hpos, rfl⟩, hb5⟩
      have HX5 := hid (keep0 HX4.out hb5)
      have HO5 := hid (own_keep HO4.out hb5)
      have HB5 := hid (HB4.out.trans (hb5.mono HB4.out.size))
      have hkl := hpos.1
      have HPOS := hid (pos_eq c d l k hpos)
      have HT : Hid (setT l c d s = setK l c d s k) := hid (by unfold setT; rw [HOK.out, if_pos rfl, ← HPOS.out])
      clear hb5 HSE p0 p1 hpos
      cases hf : fndB l c d k with
      | true =>
        have hk : k < l.length := by
          unfold fndB at hf
          split at hf
          · assumption
          · cases hf
        have HK : Hid (setK l c d s k = l.set k (l[k].1, l[k].2.1, s)) := hid (by unfold setK; rw [hf, if_pos rfl, getD_tz hk])
        clear hf
        obtain ⟨g, hA2, cur, hgb, hg5, hnc, hcm, hcs, ht⟩ : ∃ g, A2 = some ⟨g, 0, none⟩ ∧ ∃ cur, W.heap.size ≤ g ∧ w5.heap[g]? = some (.cells cur 51 (0, 0)) ∧ l.length ≤ c2 ∧ c2 ≤ maxLen ∧ cur.size = c2 * 3 ∧ cur.toList.take (l.length * 3) = gcells r3 l := by
          rcases HO5.out.2 with ⟨h', h''⟩ | ⟨g', cap', cur, h', hgb, hg', hnc, hcm, hcs, ht⟩
          · omega
          · simp only [Value.slice.injEq, true_and] at h'
            obtain ⟨h9, rfl⟩ := h'
            exact ⟨g', h9, cur, hgb, hg', hnc, hcm, hcs, ht⟩
        subst hA2
        have hcell : w5.cell? ⟨g, k * 3 + 2, none⟩ = some (.int .i64 (l[k].2.2)) := by
          rw [cell_of_row _ _ _ _ _ _ hg5]
          have h1 := gcells_get r3_len l k hk 2 (by omega)
          rw [← ht, List.getElem?_take, if_pos (by omega)] at h1
          simpa [r3] using h1
        have hfz : w5.frozen? ⟨g, k * 3 + 2, none⟩ = false := frozen_of_row w5 g _ cur _ hg5
        have HOWN : Hid ((w5.setCell ⟨g, k * 3 + 2, none⟩ (.int .i64 s)).ownsRow W.heap.size 51 3 (.slice (some ⟨g, 0, none⟩) l.length c2) l.length (gcells r3 (l.set k (l[k].1, l[k].2.1, s)))) := hid (by
          refine ⟨by rw [g3_len, List.length_set], .inr ⟨g, c2, _, rfl, hgb, heap_setCell_same w5 g (k * 3 + 2) cur _ _ hg5, hnc, hcm, by simpa using hcs, ?_⟩⟩
          rw [← g3_set l k hk s, ← ht, Array.toList_setIfInBounds, List.take_set])
        have HB6 : Hid (Below W.heap.size W (w5.setCell ⟨g, k * 3 + 2, none⟩ (.int .i64 s))) := hid (HB5.out.setCell (p := ⟨g, k * 3 + 2, none⟩) hgb _)
        have HLN : Hid ((setT l c d s).length = l.length) := hid (by rw [HT.out, HK.out, List.length_set])
        have hk2 : (k : Int) < (l.length : Int) := by omega
        generalize l[k].2.2 = old at *
        clear hg5 hnc hcm hcs ht hkl
        go_wp2
        go_ret2
        exact ⟨some ⟨g, 0, none⟩, c2, by rw [HLN.out, HOK.out]; rfl, by rw [HLN.out, HT.out, HK.out]; exact HOWN.out, HB6.out⟩
      | false =>
        have HK : Hid (setK l c d s k = l.take k ++ (c, d, s) :: l.drop k) := hid (by unfold setK; rw [hf]; rfl)
        clear hf
        obtain ⟨p0, p1, _, _⟩ := two_cells HX5.out
        have hbW := HB5.out.size
        have HIN := hid (fun (o : Obj) (vb : Nat) (w : World) (hw : w = w5.alloc (.cells #[.int .i64 c, .int .i64 d, .int .i64 s] 51)) => insert_any W.heap.size w5.heap.size c2 k A2 l (c, d, s) w (by rw [hw]; exact own_keep HO5.out ((Below.refl _ _).alloc (Nat.le_refl _) _)) (by rw [hw]; simp; omega) (by rw [hw]; exact heap_alloc_new w5 _) (fun g hg => by
          rcases HO5.out.2 with ⟨h', h''⟩ | ⟨g', cap', cur, h', hgb, hg', _⟩
          · simp only [Value.slice.injEq] at h'; rw [h'.1] at hg; cases hg
          · simp only [Value.slice.injEq] at h'
            rw [h'.1] at hg
            simp only [Option.some.injEq, Addr.mk.injEq, and_true] at hg
            have := lt_of_block hg'
            omega) hkl hl)
        have HBA := hid ((HB5.out).alloc (o := .cells #[.int .i64 c, .int .i64 d, .int .i64 s] 51) HB5.out.size)
        go_wp2_with fail
        refine (HIN.out default 0 _ rfl).mono ?_
        rintro e w6 ⟨v6, rfl, ho6, hb6⟩
        obtain ⟨A6, c6, rfl, _⟩ := Sl.of_own ho6
        have HLN : Hid ((setT l c d s).length = l.length + 1) := hid (by rw [HT.out, HK.out]; simp; omega)
        have HO6 := hid ho6
        have HB6 := hid (HBA.out.trans hb6)
        clear ho6 hb6
        go_wp2
        go_ret2
        exact ⟨A6, c6, by rw [HLN.out, HOK.out]; rfl, by rw [HLN.out, HT.out, HK.out]; exact HO6.out, HB6.out⟩
end Go.Proofs.Ytjdlomdhaoadkaa
