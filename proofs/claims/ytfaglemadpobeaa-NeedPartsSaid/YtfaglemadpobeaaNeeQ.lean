/- NeedParts: the law. -/
import Derived.Test.YtfaglemadpobeaaNeeP
import Derived.Lib.MinMax
namespace Go.Proofs.Ytfaglemadpobeaa
open Go.RowKit Go.Sort
set_option linter.unusedVariables false
set_option linter.unusedSimpArgs false

theorem join_two (op : Int) (a b : Nt) : joinN op [a.flat, b.flat] = (Nt.pair op a b).flat := by simp [joinN, Nt.flat]
theorem join_one (a : Nt) : joinN 3 [a.flat] = (Nt.not a).flat := by simp [joinN, Nt.flat]

theorem chkN_len {l : List (Int × Int)} (h : chkN l = 0) : l.length ≤ 31 := by
  obtain ⟨_, _, _, _, h9, _⟩ := chkN_zero h
  exact h9
/-- What the law knows of the lists that it joined. -/
structure NP (W w : World) (A B A7 A8 A9 : Option Addr) (ca cb c7 c8 c9 : Nat) (a b : Nt) : Prop where
  sa : Sl w 2 A a.flat.length ca (pcells a.flat)
  sb : Sl w 2 B b.flat.length cb (pcells b.flat)
  s7 : Sl w 2 A7 (Nt.pair 4 a b).flat.length c7 (pcells (Nt.pair 4 a b).flat)
  s8 : Sl w 2 A8 (Nt.pair 5 a b).flat.length c8 (pcells (Nt.pair 5 a b).flat)
  s9 : Sl w 2 A9 (Nt.not a).flat.length c9 (pcells (Nt.not a).flat)
  bel : Below W.heap.size W w
theorem NP.keep {W w w' : World} {A B A7 A8 A9 : Option Addr} {ca cb c7 c8 c9 : Nat} {a b : Nt} (h : NP W w A B A7 A8 A9 ca cb c7 c8 c9 a b) (hb : Below w.heap.size w w') : NP W w' A B A7 A8 A9 ca cb c7 c8 c9 a b :=
  ⟨h.sa.below hb, h.sb.below hb, h.s7.below hb, h.s8.below hb, h.s9.below hb, h.bel.trans (hb.mono h.bel.size)⟩

set_option maxRecDepth 20000 in
set_option maxHeartbeats 16000000 in
theorem needParts_trees (A B : Option Addr) (ca cb : Nat) (a b : Nt) (s : Nat) (W : World) (hA : Sl W 2 A a.flat.length ca (pcells a.flat)) (hB : Sl W 2 B b.flat.length cb (pcells b.flat)) (hs : s < 18446744073709551616) (ha : a.wf) (hb : b.wf) (hca : chkN a.flat = 0) (hcb : chkN b.flat = 0) :
    Calls Try.prog 6 #[.slice A a.flat.length ca, .slice B b.flat.length cb, .int .u64 (s : Int)] W fun e w' => e = .returned (.bool true) ∧ Below W.heap.size W w' := by
  have hla := chkN_len hca
  have hlb := chkN_len hcb
  have hda0 := chkN_tree ha
  have hdb0 := chkN_tree hb
  rw [hca, if_neg (by omega)] at hda0
  rw [hcb, if_neg (by omega)] at hdb0
  have hda : a.depth ≤ 8 := by
    by_cases h : 8 < a.depth
    · rw [if_pos h] at hda0; exact absurd hda0 (by decide)
    · omega
  have hdb : b.depth ≤ 8 := by
    by_cases h : 8 < b.depth
    · rw [if_pos h] at hdb0; exact absurd hdb0 (by decide)
    · omega
  have w4 : (Nt.pair 4 a b).wf := ⟨.inl rfl, ha, hb⟩
  have w5 : (Nt.pair 5 a b).wf := ⟨.inr rfl, ha, hb⟩
  have w3 : (Nt.not a).wf := ha
  have l4 : (Nt.pair 4 a b).flat.length = a.flat.length + b.flat.length + 1 := by simp [Nt.flat]; omega
  have l5 : (Nt.pair 5 a b).flat.length = a.flat.length + b.flat.length + 1 := by simp [Nt.flat]; omega
  have l3 : (Nt.not a).flat.length = a.flat.length + 1 := by simp [Nt.flat]
  have c4 := chkN_tree w4
  have c5 := chkN_tree w5
  have c3 := chkN_tree w3
  rw [l4] at c4
  rw [l5] at c5
  rw [l3] at c3
  rw [show (Nt.pair 4 a b).depth = max a.depth b.depth + 1 from rfl] at c4
  rw [show (Nt.pair 5 a b).depth = max a.depth b.depth + 1 from rfl] at c5
  rw [show (Nt.not a).depth = a.depth + 1 from rfl] at c3
  have HC4 := hid c4
  have HC5 := hid c5
  have HC3 := hid c3
  -- the calls
  have HCA := hid (fun w (hw : Below W.heap.size W w) => rcheck09_any A ca a.flat w (hA.below hw) (by omega))
  have HCB := hid (fun w (hw : Below W.heap.size W w) => rcheck09_any B cb b.flat w (hB.below hw) (by omega))
  rw [hca] at HCA
  rw [hcb] at HCB
  have HJ2 := hid (fun op w x (h : LsAt w (some ⟨x, 0, none⟩) 2 [⟨a.flat, A, ca⟩, ⟨b.flat, B, cb⟩]) => njoin_any op (some ⟨x, 0, none⟩) 2 [⟨a.flat, A, ca⟩, ⟨b.flat, B, cb⟩] w h (by simp) (fun y hy => by simp only [List.mem_cons, List.not_mem_nil, or_false] at hy; rcases hy with rfl | rfl <;> simp only <;> omega))
  have HJ1 := hid (fun op w x (h : LsAt w (some ⟨x, 0, none⟩) 1 [⟨a.flat, A, ca⟩]) => njoin_any op (some ⟨x, 0, none⟩) 1 [⟨a.flat, A, ca⟩] w h (by simp) (fun y hy => by simp only [List.mem_cons, List.not_mem_nil, or_false] at hy; subst hy; simp only; omega))
  have HPL := hid (fun (w : World) (hw : Below W.heap.size W w) (x : Nat) (hx : x = w.heap.size) => pl2 (w := w) (e := 22) (x := x) ⟨a.flat, A, ca⟩ ⟨b.flat, B, cb⟩ hx (hA.below hw) (hB.below hw))
  have HP1 := hid (fun (w : World) (hw : Below W.heap.size W w) (x : Nat) (hx : x = w.heap.size) => pl1 (w := w) (e := 22) (x := x) ⟨a.flat, A, ca⟩ hx (hA.below hw))
  have HJ4 := hid (fun w x h => HJ2.out 4 w x h)
  have HJ5 := hid (fun w x h => HJ2.out 5 w x h)
  have HJ3 := hid (fun w x h => HJ1.out 3 w x h)
  simp only [pls, List.map_cons, List.map_nil, List.length_cons, List.length_nil, Nat.zero_add, join_two, join_one] at HJ4 HJ5 HJ3
  have HNA := hid (fun w (hw : Below W.heap.size W w) => hA.below hw)
  have HNB := hid (fun w (hw : Below W.heap.size W w) => hB.below hw)
  have HDA := hid (fun w (h : Sl w 2 A a.flat.length ca (pcells a.flat)) => ndepth_any A ca a.flat w h (by omega))
  have HDB := hid (fun w (h : Sl w 2 B b.flat.length cb (pcells b.flat)) => ndepth_any B cb b.flat w h (by omega))
  rw [depN_tree ha hca] at HDA
  rw [depN_tree hb hcb] at HDB
  have HSA := hid (fun w (h : Sl w 2 A a.flat.length ca (pcells a.flat)) => nsays_any A ca a.flat s w h (by omega) hs)
  have HSB := hid (fun w (h : Sl w 2 B b.flat.length cb (pcells b.flat)) => nsays_any B cb b.flat s w h (by omega) hs)
  rw [sayN_tree ha hca] at HSA
  rw [sayN_tree hb hcb] at HSB
  have HK4 := hid (fun w A7 c7 (h : Sl w 2 A7 (Nt.pair 4 a b).flat.length c7 (pcells (Nt.pair 4 a b).flat)) => ncheck_any A7 c7 _ w h (by omega))
  have HK5 := hid (fun w A8 c8 (h : Sl w 2 A8 (Nt.pair 5 a b).flat.length c8 (pcells (Nt.pair 5 a b).flat)) => ncheck_any A8 c8 _ w h (by omega))
  have HK3 := hid (fun w A9 c9 (h : Sl w 2 A9 (Nt.not a).flat.length c9 (pcells (Nt.not a).flat)) => ncheck_any A9 c9 _ w h (by omega))
  have HS4 := hid (fun (hc : chkN (Nt.pair 4 a b).flat = 0) w A7 c7 (h : Sl w 2 A7 (Nt.pair 4 a b).flat.length c7 (pcells (Nt.pair 4 a b).flat)) => (by
    have h9 := nsays_any A7 c7 _ s w h (by omega) hs
    rw [sayN_tree w4 hc] at h9
    exact h9 : Calls Try.prog 15 #[.slice A7 (Nt.pair 4 a b).flat.length c7, .int .u64 (s : Int)] w fun e w' => e = .returned (.bool ((Nt.pair 4 a b).holds s)) ∧ Below w.heap.size w w'))
  have HS5 := hid (fun (hc : chkN (Nt.pair 5 a b).flat = 0) w A8 c8 (h : Sl w 2 A8 (Nt.pair 5 a b).flat.length c8 (pcells (Nt.pair 5 a b).flat)) => (by
    have h9 := nsays_any A8 c8 _ s w h (by omega) hs
    rw [sayN_tree w5 hc] at h9
    exact h9 : Calls Try.prog 15 #[.slice A8 (Nt.pair 5 a b).flat.length c8, .int .u64 (s : Int)] w fun e w' => e = .returned (.bool ((Nt.pair 5 a b).holds s)) ∧ Below w.heap.size w w'))
  have HS3 := hid (fun (hc : chkN (Nt.not a).flat = 0) w A9 c9 (h : Sl w 2 A9 (Nt.not a).flat.length c9 (pcells (Nt.not a).flat)) => (by
    have h9 := nsays_any A9 c9 _ s w h (by omega) hs
    rw [sayN_tree w3 hc] at h9
    exact h9 : Calls Try.prog 15 #[.slice A9 (Nt.not a).flat.length c9, .int .u64 (s : Int)] w fun e w' => e = .returned (.bool ((Nt.not a).holds s)) ∧ Below w.heap.size w w'))
  have HD5 := hid (fun (hc : chkN (Nt.pair 5 a b).flat = 0) w A8 c8 (h : Sl w 2 A8 (Nt.pair 5 a b).flat.length c8 (pcells (Nt.pair 5 a b).flat)) => (by
    have h9 := ndepth_any A8 c8 _ w h (by omega)
    rw [depN_tree w5 hc, show (((Nt.pair 5 a b).depth : Nat) : Int) = max (a.depth : Int) (b.depth : Int) + 1 by rw [show (Nt.pair 5 a b).depth = max a.depth b.depth + 1 from rfl]; omega] at h9
    exact h9 : Calls Try.prog 13 #[.slice A8 (Nt.pair 5 a b).flat.length c8] w fun e w' => e = .returned (.int .i64 (max (a.depth : Int) (b.depth : Int) + 1)) ∧ Below w.heap.size w w'))
  have HPP := hid (fun (hc : chkN (Nt.pair 4 a b).flat = 0) w A7 c7 (h : Sl w 2 A7 (Nt.pair 4 a b).flat.length c7 (pcells (Nt.pair 4 a b).flat)) => (by
    have h9 := nparts_any A7 c7 _ w h (by omega)
    rw [partsN_tree w4 hc] at h9
    exact h9 : Calls Try.prog 20 #[.slice A7 (Nt.pair 4 a b).flat.length c7] w fun e w' => ∃ A' c' ys, pls ys = [a.flat, b.flat] ∧ e = .returned (.slice A' ys.length c') ∧ LsAt w' A' c' ys ∧ Below w.heap.size w w'))
  have HPN := hid (fun (hc : chkN (Nt.not a).flat = 0) w A9 c9 (h : Sl w 2 A9 (Nt.not a).flat.length c9 (pcells (Nt.not a).flat)) => (by
    have h9 := nparts_any A9 c9 _ w h (by omega)
    rw [partsN_tree w3 hc] at h9
    exact h9 : Calls Try.prog 20 #[.slice A9 (Nt.not a).flat.length c9] w fun e w' => ∃ A' c' ys, pls ys = [a.flat] ∧ e = .returned (.slice A' ys.length c') ∧ LsAt w' A' c' ys ∧ Below w.heap.size w w'))
  have HH4 : Hid ((Nt.pair 4 a b).holds s = (a.holds s && b.holds s)) := hid rfl
  have HH5 : Hid ((Nt.pair 5 a b).holds s = (a.holds s || b.holds s)) := hid rfl
  have HH3 : Hid ((Nt.not a).holds s = !(a.holds s)) := hid rfl
  rw [HH4.out] at HS4
  rw [HH5.out] at HS5
  rw [HH3.out] at HS3
  clear HH4 HH5 HH3 hda0 hdb0 w3 w4 w5 HJ2 HJ1 hs ha hb hca hcb hA hB c3 c4 c5
  have hla9 : (a.flat.length : Int) ≤ 31 := by omega
  have hlb9 : (b.flat.length : Int) ≤ 31 := by omega
  have HLS := hid (And.intro l4 (And.intro l5 l3))
  clear l3 l4 l5 hla hlb
  generalize a.depth = da at *
  generalize b.depth = db at *
  have hda9 : (da : Int) ≤ 8 := by omega
  have hdb9 : (db : Int) ≤ 8 := by omega
  have hmx : max (da : Int) (db : Int) ≤ 8 := by omega
  generalize a.holds s = p at *
  generalize b.holds s = q at *
  go_enter Try.func6, Try.ntmps6
  go_wp2_with fail
  refine (HCA.out _ (Below.refl _ _)).mono ?_
  rintro e w1 ⟨rfl, hb⟩
  have HB1 := hid hb
  clear hb HCA
  go_wp2_with fail
  refine (HCB.out _ HB1.out).mono ?_
  rintro e w2 ⟨rfl, hb⟩
  have HB2 := hid (HB1.out.trans (hb.mono HB1.out.size))
  clear hb HCB HB1
  have HBA2 := hid (HB2.out.alloc HB2.out.size (.cells #[.slice A a.flat.length ca, .slice B b.flat.length cb] 22))
  have HLA := hid (HPL.out w2 HB2.out _ rfl)
  go_wp2_with fail
  refine (HJ4.out _ _ HLA.out).mono ?_
  rintro e w3 ⟨A7, c7, rfl, ho7, hb⟩
  have HB3 := hid (HBA2.out.trans (hb.mono HBA2.out.size))
  have H7 := hid (sl_own ho7)
  clear hb ho7 HBA2 HLA HB2 HJ4
  have HBA3 := hid (HB3.out.alloc HB3.out.size (.cells #[.slice A a.flat.length ca, .slice B b.flat.length cb] 22))
  have HAL3 : Hid (Below w3.heap.size w3 (w3.alloc (.cells #[.slice A a.flat.length ca, .slice B b.flat.length cb] 22))) := hid ((Below.refl _ _).alloc (Nat.le_refl _) _)
  have HLA := hid (HPL.out w3 HB3.out _ rfl)
  go_wp2_with fail
  refine (HJ5.out _ _ HLA.out).mono ?_
  rintro e w4 ⟨A8, c8, rfl, ho8, hb⟩
  have HB4 := hid (HBA3.out.trans (hb.mono HBA3.out.size))
  replace H7 := hid ((H7.out.below HAL3.out).below hb)
  have H8 := hid (sl_own ho8)
  clear hb ho8 HBA3 HLA HB3 HJ5 HAL3
  have HBA4 := hid (HB4.out.alloc HB4.out.size (.cells #[.slice A a.flat.length ca] 22))
  have HAL4 : Hid (Below w4.heap.size w4 (w4.alloc (.cells #[.slice A a.flat.length ca] 22))) := hid ((Below.refl _ _).alloc (Nat.le_refl _) _)
  have HLA := hid (HP1.out w4 HB4.out _ rfl)
  go_wp2_with fail
  refine (HJ3.out _ _ HLA.out).mono ?_
  rintro e w5 ⟨A9, c9, rfl, ho9, hb⟩
  have HB5 := hid (HBA4.out.trans (hb.mono HBA4.out.size))
  have HN : Hid (NP W w5 A B A7 A8 A9 ca cb c7 c8 c9 a b) := hid ⟨HNA.out _ HB5.out, HNB.out _ HB5.out, (H7.out.below HAL4.out).below hb, (H8.out.below HAL4.out).below hb, sl_own ho9, HB5.out⟩
  clear hb ho9 HBA4 HLA HB4 HJ3 HAL4 H7 H8 HB5 HNA HNB
  go_wp2_with fail
  refine (HDA.out _ HN.out.sa).mono ?_
  rintro e w6 ⟨rfl, hb⟩
  replace HN := hid (HN.out.keep hb)
  clear hb HDA
  go_wp2_with fail
  refine (HDB.out _ HN.out.sb).mono ?_
  rintro e w7 ⟨rfl, hb⟩
  replace HN := hid (HN.out.keep hb)
  clear hb HDB
  have em : (max (da : Int) (db : Int) + 1 != max (da : Int) (db : Int) + 1) = false := by simp
  by_cases h1 : 31 < a.flat.length + b.flat.length + 1
  · skip
    have i1 : (31 : Int) < (a.flat.length : Int) + (b.flat.length : Int) + 1 := by omega
    have d1 : decide ((31 : Int) < (a.flat.length : Int) + (b.flat.length : Int) + 1) = true := decide_eq_true i1
    have hk4 : chkN (Nt.pair 4 a b).flat = 4 := by rw [HC4.out, if_pos h1]
    have hk5 : chkN (Nt.pair 5 a b).flat = 4 := by rw [HC5.out, if_pos h1]
    clear h1
    rw [hk4] at HK4
    rw [hk5] at HK5
    clear hk4 hk5 HC4 HC5 HC3 HLS
    cases p <;> cases q
    all_goals
      go_wp2_with fail
      refine (HK4.out _ _ _ HN.out.s7).mono ?_
      rintro e v1 ⟨rfl, hb⟩
      replace HN := hid (HN.out.keep hb)
      clear hb
      go_wp2_with fail
      refine (HK4.out _ _ _ HN.out.s7).mono ?_
      rintro e v2 ⟨rfl, hb⟩
      replace HN := hid (HN.out.keep hb)
      clear hb
      go_wp2_with fail
      refine (HK5.out _ _ _ HN.out.s8).mono ?_
      rintro e v3 ⟨rfl, hb⟩
      replace HN := hid (HN.out.keep hb)
      clear hb
      go_wp2_with fail
      refine (HSA.out _ HN.out.sa).mono ?_
      rintro e v4 ⟨rfl, hb⟩
      replace HN := hid (HN.out.keep hb)
      clear hb
      go_wp2_with fail
      refine (HSB.out _ HN.out.sb).mono ?_
      rintro e v5 ⟨rfl, hb⟩
      replace HN := hid (HN.out.keep hb)
      clear hb
      by_cases hk3 : chkN (Nt.not a).flat = 0
      · skip
        rw [hk3] at HK3
        go_wp2_with fail
        refine (HK3.out _ _ _ HN.out.s9).mono ?_
        rintro e v6 ⟨rfl, hb⟩
        replace HN := hid (HN.out.keep hb)
        clear hb
        replace HS3 := hid (HS3.out hk3)
        replace HPN := hid (HPN.out hk3)
        go_wp2_with fail
        refine (HS3.out _ _ _ HN.out.s9).mono ?_
        rintro e v7 ⟨rfl, hb⟩
        replace HN := hid (HN.out.keep hb)
        clear hb
        go_wp2_with fail
        refine (HPN.out _ _ _ HN.out.s9).mono ?_
        rintro e v8 ⟨A', c', ys, hy, rfl, h', hb⟩
        replace HN := hid (HN.out.keep hb)
        have HAL : Hid (Below v8.heap.size v8 (v8.alloc (.cells #[.slice A a.flat.length ca] 22))) := hid ((Below.refl _ _).alloc (Nat.le_refl _) _)
        have HLS1 := hid (rlists_any A' (some ⟨v8.heap.size, 0, none⟩) c' _ ys [⟨a.flat, A, ca⟩] _ (h'.below HAL.out) (HP1.out v8 HN.out.bel _ rfl))
        rw [show (pls ys == pls [⟨a.flat, A, ca⟩]) = true by rw [hy]; simp [pls]] at HLS1
        replace HN := hid (HN.out.keep HAL.out)
        clear hb hy h' HAL
        generalize ys.length = yl at *
        go_wp2_with fail
        refine HLS1.out.mono ?_
        rintro e v9 ⟨rfl, hb⟩
        replace HN := hid (HN.out.keep hb)
        clear hb HLS1
        go_wp2_with fail
        refine (works09_any _).mono ?_
        rintro e vf ⟨rfl, hb⟩
        have HB := hid (HN.out.bel.trans (hb.mono HN.out.bel.size))
        clear hb HN
        go_wp2
        go_ret
        exact ⟨rfl, HB.out⟩
      · skip
        have e3 : (chkN (Nt.not a).flat == 0) = false := by simp [hk3]
        generalize chkN (Nt.not a).flat = k3 at *
        go_wp2_with fail
        refine (HK3.out _ _ _ HN.out.s9).mono ?_
        rintro e v10 ⟨rfl, hb⟩
        replace HN := hid (HN.out.keep hb)
        clear hb
        go_wp2_with fail
        refine (works09_any _).mono ?_
        rintro e vf ⟨rfl, hb⟩
        have HB := hid (HN.out.bel.trans (hb.mono HN.out.bel.size))
        clear hb HN
        go_wp2
        go_ret
        exact ⟨rfl, HB.out⟩
  by_cases h2 : 8 < max da db + 1
  · skip
    have i1 : ¬ (31 : Int) < (a.flat.length : Int) + (b.flat.length : Int) + 1 := by omega
    have d1 : decide ((31 : Int) < (a.flat.length : Int) + (b.flat.length : Int) + 1) = false := decide_eq_false i1
    have i2 : (8 : Int) < max (da : Int) (db : Int) + 1 := by omega
    have d2 : decide ((8 : Int) < max (da : Int) (db : Int) + 1) = true := decide_eq_true i2
    have hk4 : chkN (Nt.pair 4 a b).flat = 4 := by rw [HC4.out, if_neg h1, if_pos h2]
    have hk5 : chkN (Nt.pair 5 a b).flat = 4 := by rw [HC5.out, if_neg h1, if_pos h2]
    clear h1 h2
    rw [hk4] at HK4
    rw [hk5] at HK5
    clear hk4 hk5 HC4 HC5 HC3 HLS
    cases p <;> cases q
    all_goals
      go_wp2_with fail
      refine (HK4.out _ _ _ HN.out.s7).mono ?_
      rintro e v11 ⟨rfl, hb⟩
      replace HN := hid (HN.out.keep hb)
      clear hb
      go_wp2_with fail
      refine (HK4.out _ _ _ HN.out.s7).mono ?_
      rintro e v12 ⟨rfl, hb⟩
      replace HN := hid (HN.out.keep hb)
      clear hb
      go_wp2_with fail
      refine (HK5.out _ _ _ HN.out.s8).mono ?_
      rintro e v13 ⟨rfl, hb⟩
      replace HN := hid (HN.out.keep hb)
      clear hb
      go_wp2_with fail
      refine (HSA.out _ HN.out.sa).mono ?_
      rintro e v14 ⟨rfl, hb⟩
      replace HN := hid (HN.out.keep hb)
      clear hb
      go_wp2_with fail
      refine (HSB.out _ HN.out.sb).mono ?_
      rintro e v15 ⟨rfl, hb⟩
      replace HN := hid (HN.out.keep hb)
      clear hb
      by_cases hk3 : chkN (Nt.not a).flat = 0
      · skip
        rw [hk3] at HK3
        go_wp2_with fail
        refine (HK3.out _ _ _ HN.out.s9).mono ?_
        rintro e v16 ⟨rfl, hb⟩
        replace HN := hid (HN.out.keep hb)
        clear hb
        replace HS3 := hid (HS3.out hk3)
        replace HPN := hid (HPN.out hk3)
        go_wp2_with fail
        refine (HS3.out _ _ _ HN.out.s9).mono ?_
        rintro e v17 ⟨rfl, hb⟩
        replace HN := hid (HN.out.keep hb)
        clear hb
        go_wp2_with fail
        refine (HPN.out _ _ _ HN.out.s9).mono ?_
        rintro e v18 ⟨A', c', ys, hy, rfl, h', hb⟩
        replace HN := hid (HN.out.keep hb)
        have HAL : Hid (Below v18.heap.size v18 (v18.alloc (.cells #[.slice A a.flat.length ca] 22))) := hid ((Below.refl _ _).alloc (Nat.le_refl _) _)
        have HLS1 := hid (rlists_any A' (some ⟨v18.heap.size, 0, none⟩) c' _ ys [⟨a.flat, A, ca⟩] _ (h'.below HAL.out) (HP1.out v18 HN.out.bel _ rfl))
        rw [show (pls ys == pls [⟨a.flat, A, ca⟩]) = true by rw [hy]; simp [pls]] at HLS1
        replace HN := hid (HN.out.keep HAL.out)
        clear hb hy h' HAL
        generalize ys.length = yl at *
        go_wp2_with fail
        refine HLS1.out.mono ?_
        rintro e v19 ⟨rfl, hb⟩
        replace HN := hid (HN.out.keep hb)
        clear hb HLS1
        go_wp2_with fail
        refine (works09_any _).mono ?_
        rintro e vf ⟨rfl, hb⟩
        have HB := hid (HN.out.bel.trans (hb.mono HN.out.bel.size))
        clear hb HN
        go_wp2
        go_ret
        exact ⟨rfl, HB.out⟩
      · skip
        have e3 : (chkN (Nt.not a).flat == 0) = false := by simp [hk3]
        generalize chkN (Nt.not a).flat = k3 at *
        go_wp2_with fail
        refine (HK3.out _ _ _ HN.out.s9).mono ?_
        rintro e v20 ⟨rfl, hb⟩
        replace HN := hid (HN.out.keep hb)
        clear hb
        go_wp2_with fail
        refine (works09_any _).mono ?_
        rintro e vf ⟨rfl, hb⟩
        have HB := hid (HN.out.bel.trans (hb.mono HN.out.bel.size))
        clear hb HN
        go_wp2
        go_ret
        exact ⟨rfl, HB.out⟩
  have i1 : ¬ (31 : Int) < (a.flat.length : Int) + (b.flat.length : Int) + 1 := by omega
  have d1 : decide ((31 : Int) < (a.flat.length : Int) + (b.flat.length : Int) + 1) = false := decide_eq_false i1
  have i2 : ¬ (8 : Int) < max (da : Int) (db : Int) + 1 := by omega
  have d2 : decide ((8 : Int) < max (da : Int) (db : Int) + 1) = false := decide_eq_false i2
  have hk4 : chkN (Nt.pair 4 a b).flat = 0 := by rw [HC4.out, if_neg h1, if_neg h2]
  have hk5 : chkN (Nt.pair 5 a b).flat = 0 := by rw [HC5.out, if_neg h1, if_neg h2]
  clear h1 h2
  rw [hk4] at HK4
  rw [hk5] at HK5
  replace HS4 := hid (HS4.out hk4)
  replace HS5 := hid (HS5.out hk5)
  replace HD5 := hid (HD5.out hk5)
  replace HPP := hid (HPP.out hk4)
  clear hk4 hk5 HC4 HC5 HC3 HLS
  cases p <;> cases q
  all_goals
    go_wp2_with fail
    refine (HK4.out _ _ _ HN.out.s7).mono ?_
    rintro e v21 ⟨rfl, hb⟩
    replace HN := hid (HN.out.keep hb)
    clear hb
    go_wp2_with fail
    refine (HK4.out _ _ _ HN.out.s7).mono ?_
    rintro e v22 ⟨rfl, hb⟩
    replace HN := hid (HN.out.keep hb)
    clear hb
    go_wp2_with fail
    refine (HK5.out _ _ _ HN.out.s8).mono ?_
    rintro e v23 ⟨rfl, hb⟩
    replace HN := hid (HN.out.keep hb)
    clear hb
    go_wp2_with fail
    refine (HSA.out _ HN.out.sa).mono ?_
    rintro e v24 ⟨rfl, hb⟩
    replace HN := hid (HN.out.keep hb)
    clear hb
    go_wp2_with fail
    refine (HSB.out _ HN.out.sb).mono ?_
    rintro e v25 ⟨rfl, hb⟩
    replace HN := hid (HN.out.keep hb)
    clear hb
    go_wp2_with fail
    refine (HS4.out _ _ _ HN.out.s7).mono ?_
    rintro e v26 ⟨rfl, hb⟩
    replace HN := hid (HN.out.keep hb)
    clear hb
    go_wp2_with fail
    refine (HS5.out _ _ _ HN.out.s8).mono ?_
    rintro e v27 ⟨rfl, hb⟩
    replace HN := hid (HN.out.keep hb)
    clear hb
    go_wp2_with fail
    refine (HPP.out _ _ _ HN.out.s7).mono ?_
    rintro e v28 ⟨A', c', ys, hy, rfl, h', hb⟩
    replace HN := hid (HN.out.keep hb)
    have HAL : Hid (Below v28.heap.size v28 (v28.alloc (.cells #[.slice A a.flat.length ca, .slice B b.flat.length cb] 22))) := hid ((Below.refl _ _).alloc (Nat.le_refl _) _)
    have HLS1 := hid (rlists_any A' (some ⟨v28.heap.size, 0, none⟩) c' _ ys [⟨a.flat, A, ca⟩, ⟨b.flat, B, cb⟩] _ (h'.below HAL.out) (HPL.out v28 HN.out.bel _ rfl))
    rw [show (pls ys == pls [⟨a.flat, A, ca⟩, ⟨b.flat, B, cb⟩]) = true by rw [hy]; simp [pls]] at HLS1
    replace HN := hid (HN.out.keep HAL.out)
    clear hb hy h' HAL
    generalize ys.length = yl at *
    go_wp2_with fail
    refine HLS1.out.mono ?_
    rintro e v29 ⟨rfl, hb⟩
    replace HN := hid (HN.out.keep hb)
    clear hb HLS1
    go_wp2_with fail
    refine (HD5.out _ _ _ HN.out.s8).mono ?_
    rintro e v30 ⟨rfl, hb⟩
    replace HN := hid (HN.out.keep hb)
    clear hb
    by_cases hk3 : chkN (Nt.not a).flat = 0
    · skip
      rw [hk3] at HK3
      go_wp2_with fail
      refine (HK3.out _ _ _ HN.out.s9).mono ?_
      rintro e v31 ⟨rfl, hb⟩
      replace HN := hid (HN.out.keep hb)
      clear hb
      replace HS3 := hid (HS3.out hk3)
      replace HPN := hid (HPN.out hk3)
      go_wp2_with fail
      refine (HS3.out _ _ _ HN.out.s9).mono ?_
      rintro e v32 ⟨rfl, hb⟩
      replace HN := hid (HN.out.keep hb)
      clear hb
      go_wp2_with fail
      refine (HPN.out _ _ _ HN.out.s9).mono ?_
      rintro e v33 ⟨A', c', ys, hy, rfl, h', hb⟩
      replace HN := hid (HN.out.keep hb)
      have HAL : Hid (Below v33.heap.size v33 (v33.alloc (.cells #[.slice A a.flat.length ca] 22))) := hid ((Below.refl _ _).alloc (Nat.le_refl _) _)
      have HLS1 := hid (rlists_any A' (some ⟨v33.heap.size, 0, none⟩) c' _ ys [⟨a.flat, A, ca⟩] _ (h'.below HAL.out) (HP1.out v33 HN.out.bel _ rfl))
      rw [show (pls ys == pls [⟨a.flat, A, ca⟩]) = true by rw [hy]; simp [pls]] at HLS1
      replace HN := hid (HN.out.keep HAL.out)
      clear hb hy h' HAL
      generalize ys.length = yl at *
      go_wp2_with fail
      refine HLS1.out.mono ?_
      rintro e v34 ⟨rfl, hb⟩
      replace HN := hid (HN.out.keep hb)
      clear hb HLS1
      go_wp2_with fail
      refine (works09_any _).mono ?_
      rintro e vf ⟨rfl, hb⟩
      have HB := hid (HN.out.bel.trans (hb.mono HN.out.bel.size))
      clear hb HN
      go_wp2
      go_ret
      exact ⟨rfl, HB.out⟩
    · skip
      have e3 : (chkN (Nt.not a).flat == 0) = false := by simp [hk3]
      generalize chkN (Nt.not a).flat = k3 at *
      go_wp2_with fail
      refine (HK3.out _ _ _ HN.out.s9).mono ?_
      rintro e v35 ⟨rfl, hb⟩
      replace HN := hid (HN.out.keep hb)
      clear hb
      go_wp2_with fail
      refine (works09_any _).mono ?_
      rintro e vf ⟨rfl, hb⟩
      have HB := hid (HN.out.bel.trans (hb.mono HN.out.bel.size))
      clear hb HN
      go_wp2
      go_ret
      exact ⟨rfl, HB.out⟩

set_option maxRecDepth 20000 in
set_option maxHeartbeats 2000000 in
theorem needParts_not (A B : Option Addr) (ca cb : Nat) (l m : List (Int × Int)) (s : Int) (W : World) (hA : Sl W 2 A l.length ca (pcells l)) (hB : Sl W 2 B m.length cb (pcells m)) (h : chkN l ≠ 0 ∨ chkN m ≠ 0) (hl : l.length ≤ 1000) (hm : m.length ≤ 1000) :
    Calls Try.prog 6 #[.slice A l.length ca, .slice B m.length cb, .int .u64 s] W fun e w' => e = .returned (.bool true) ∧ Below W.heap.size W w' := by
  have HCA := hid (fun w (hw : Below W.heap.size W w) => rcheck09_any A ca l w (hA.below hw) hl)
  have HCB := hid (fun w (hw : Below W.heap.size W w) => rcheck09_any B cb m w (hB.below hw) hm)
  clear hA hB hl hm
  generalize chkN l = k at *
  generalize chkN m = j at *
  generalize l.length = x at *
  generalize m.length = y at *
  by_cases hk : k = 0
  · subst hk
    have hj : j ≠ 0 := by rcases h with h | h; exact absurd rfl h; exact h
    have ej : (j != 0) = true := by simp [hj]
    clear h
    go_enter Try.func6, Try.ntmps6
    go_wp2_with fail
    refine (HCA.out _ (Below.refl _ _)).mono ?_
    rintro e w1 ⟨rfl, hb⟩
    have HB1 := hid hb
    clear hb HCA
    go_wp2_with fail
    refine (HCB.out _ HB1.out).mono ?_
    rintro e w2 ⟨rfl, hb⟩
    have HB2 := hid (HB1.out.trans (hb.mono HB1.out.size))
    clear hb HCB HB1
    go_wp2_with fail
    refine (works09_any _).mono ?_
    rintro e vf ⟨rfl, hb⟩
    have HB := hid (HB2.out.trans (hb.mono HB2.out.size))
    clear hb HB2
    go_wp2
    go_ret
    exact ⟨rfl, HB.out⟩
  · have ek : (k != 0) = true := by simp [hk]
    clear h
    go_enter Try.func6, Try.ntmps6
    go_wp2_with fail
    refine (HCA.out _ (Below.refl _ _)).mono ?_
    rintro e w1 ⟨rfl, hb⟩
    have HB1 := hid hb
    clear hb HCA
    go_wp2_with fail
    refine (works09_any _).mono ?_
    rintro e vf ⟨rfl, hb⟩
    have HB := hid (HB1.out.trans (hb.mono HB1.out.size))
    clear hb HB1
    go_wp2
    go_ret
    exact ⟨rfl, HB.out⟩
end Go.Proofs.Ytfaglemadpobeaa
