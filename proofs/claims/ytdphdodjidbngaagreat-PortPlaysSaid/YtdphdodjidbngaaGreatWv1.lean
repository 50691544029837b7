/- the document's port: its ends as a row; End. -/
import Derived.Test.YtdphdodjidbngaaGreatQGt
import Derived.Test.YtdphdodjidbngaaGreatQPtI
import Derived.Test.YtdphdodjidbngaaGreatLv3
import Derived.Test.YtdphdodjidbngaaGreatGaP
import Derived.Test.YtdphdodjidbngaaGreatPaR
namespace Go.Proofs.YtdphdodjidbngaaGreat
open Go.RowKit Go.Sort
set_option linter.unusedVariables false
set_option linter.unusedSimpArgs false

/-- An end, and where its texts lie. -/
abbrev Ea := Ev × Option Addr × Nat
def e7 (x : Ea) : List Value := (ec x.1 x.2.1 x.2.2).toList
theorem e7_len (x : Ea) : (e7 x).length = 11 := rfl
instance : Inhabited Ev := ⟨⟨0, 0, 0, ⟨0, 0, [], 0, 0⟩, 0, 0, 0⟩⟩
/-- The document's port. -/
structure P7 (w : World) (base g : Nat) (nd inc bd : Int) (X : List Ea) : Prop where
  row : ∃ A c, w.heap[g]? = some (.cells #[.int .i64 nd, .int .i64 inc, .int .i64 bd, .slice A X.length c] 63 (0, 0)) ∧ w.ownsRow base 82 11 (.slice A X.length c) X.length (gcells e7 X)
  tx : ∀ x ∈ X, Sl w 1 x.2.1 x.1.o.l.length x.2.2 (scells x.1.o.l)
theorem P7.below {w w' : World} {base g : Nat} {nd inc bd : Int} {X : List Ea} (h : P7 w base g nd inc bd X) (hb : Below w.heap.size w w') : P7 w' base g nd inc bd X := by
  obtain ⟨⟨A, c, h1, h2⟩, h3⟩ := h
  exact ⟨⟨A, c, keep0 h1 hb, own_keep h2 hb⟩, fun x hx => (h3 x hx).below hb⟩
theorem Sl.e7 {w : World} {A : Option Addr} {len cap : Nat} {X : List Ea} (h : Sl w 11 A len cap (gcells e7 X)) (k : Nat) (hk : k < X.length) : ∃ b off, A = some ⟨b, off, none⟩ ∧ w.cell? ⟨b, off + k * 11, none⟩ = some (.int .i64 X[k].1.f) ∧ w.cell? ⟨b, off + k * 11 + 1, none⟩ = some (.int .i64 X[k].1.t) ∧ w.cell? ⟨b, off + k * 11 + 2, none⟩ = some (.int .i64 X[k].1.i) ∧ w.cell? ⟨b, off + k * 11 + 3, none⟩ = some (.int .i64 X[k].1.o.p) ∧ w.cell? ⟨b, off + k * 11 + 4, none⟩ = some (.int .i64 X[k].1.o.q) ∧ w.cell? ⟨b, off + k * 11 + 5, none⟩ = some (.slice X[k].2.1 X[k].1.o.l.length X[k].2.2) ∧ w.cell? ⟨b, off + k * 11 + 6, none⟩ = some (.int .i64 X[k].1.o.w) ∧ w.cell? ⟨b, off + k * 11 + 7, none⟩ = some (.int .i64 X[k].1.o.f) ∧ w.cell? ⟨b, off + k * 11 + 8, none⟩ = some (.int .i64 X[k].1.m) ∧ w.cell? ⟨b, off + k * 11 + 9, none⟩ = some (.int .i64 X[k].1.p) ∧ w.cell? ⟨b, off + k * 11 + 10, none⟩ = some (.int .i64 X[k].1.l) := by
  obtain ⟨b, off, rfl, hc⟩ := h.gat e7_len k hk (by omega)
  exact ⟨b, off, rfl, hc 0 _ rfl, hc 1 _ rfl, hc 2 _ rfl, hc 3 _ rfl, hc 4 _ rfl, hc 5 _ rfl, hc 6 _ rfl, hc 7 _ rfl, hc 8 _ rfl, hc 9 _ rfl, hc 10 _ rfl⟩
theorem endP_find (nd inc : Int) (X : List Ea) (to' : Int) (k : Nat) (hk : k < X.length) (h : ∀ j (hj : j < X.length), j < k → X[j].1.t ≠ to') (ht : X[k].1.t = to') : endP nd inc (X.map (·.1)) to' = X[k].1 := by
  have hf : (X.map (·.1)).find? (fun e => e.t == to') = some X[k].1 := by
    rw [List.find?_eq_some_iff_getElem]
    refine ⟨by simp [ht], k, by simpa using hk, by simp, fun j hj => ?_⟩
    simp only [List.getElem_map]
    simpa using h j (by omega) hj
  unfold endP
  rw [hf]
  rfl
theorem endP_none (nd inc : Int) (X : List Ea) (to' : Int) (h : ∀ j (hj : j < X.length), X[j].1.t ≠ to') : endP nd inc (X.map (·.1)) to' = newE nd to' inc := by
  have hf : (X.map (·.1)).find? (fun e => e.t == to') = none := by
    rw [List.find?_eq_none]
    intro x hx
    obtain ⟨y, hy, rfl⟩ := List.mem_map.1 hx
    obtain ⟨j, hj, rfl⟩ := List.mem_iff_getElem.1 hy
    simpa using h j hj
  unfold endP
  rw [hf]
  rfl

set_option maxRecDepth 20000 in
set_option maxHeartbeats 8000000 in
theorem p7end_any {base g : Nat} {nd inc bd : Int} {X : List Ea} (kk : Int) (W : World) (h : P7 W base g nd inc bd X) :
    Calls Tryz.prog 27 #[.pointer (some ⟨g, 0, none⟩), .int .i64 kk] W fun e w' => ∃ A c, e = .returned (.agg (ec (endP nd inc (X.map (·.1)) kk) A c)) ∧ Sl w' 1 A (endP nd inc (X.map (·.1)) kk).o.l.length c (scells (endP nd inc (X.map (·.1)) kk).o.l) ∧ Below W.heap.size W w' := by
  obtain ⟨⟨A0, c0, hb, hr⟩, htx⟩ := h
  have hg := lt_of_block hb
  have HR := hid (sl_own hr)
  have HTX := hid htx
  have hlm : X.length ≤ 9223372036854775807 := by have h3 := (sl_own hr).2.1; have h2 := (sl_own hr).2.2.1; unfold maxLen at h2; omega
  have p0 : W.cell? ⟨g, 0, none⟩ = some (.int .i64 nd) := by rw [cell_of_row W g 0 _ _ _ hb]; rfl
  have p1 : W.cell? ⟨g, 1, none⟩ = some (.int .i64 inc) := by rw [cell_of_row W g 1 _ _ _ hb]; rfl
  have p3 : W.cell? ⟨g, 3, none⟩ = some (.slice A0 X.length c0) := by rw [cell_of_row W g 3 _ _ _ hb]; rfl
  have HP := hid (And.intro p0 (And.intro p1 p3))
  have HN := hid (fun w => r26new_any nd kk inc w)
  have HEF := hid (fun k (hk : k < X.length) h1 h2 => endP_find nd inc X kk k hk h1 h2)
  have HEN := hid (fun h1 => endP_none nd inc X kk h1)
  clear hb hr htx p0 p1 p3
  generalize endP nd inc (X.map (·.1)) kk = eo at *
  go_enter Tryz.func27, Tryz.ntmps27
  go_upto_region 1 with (fail)
  refine at_world (fun u => u.heap[W.heap.size]? = some (.cells ez 82 (0, 0)) ∧ Below W.heap.size W u) ⟨heap_alloc_new _ _, (Below.refl _ _).alloc (Nat.le_refl _) _⟩ ?_
  rintro w1 ⟨hz1, hb1⟩
  have HZ1 := hid hz1
  have HB1 := hid hb1
  clear hz1 hb1
  go_wp2
  go_loopw [5] (fun v5 wr => ∃ (k : Nat), k ≤ X.length ∧ v5 = .int .i64 (k : Int) ∧ Hid (∀ j (hj : j < X.length), j < k → X[j].1.t ≠ kk) ∧ Hid (wr.heap[W.heap.size]? = some (.cells ez 82 (0, 0))) ∧ Hid (Below W.heap.size W wr)) (fun v5 _ => X.length - (intOf v5).toNat)
  case atStart => exact ⟨0, by omega, rfl, fun j hj h9 => by omega, HZ1.out, HB1.out⟩
  case round =>
    clear HZ1 HB1
    obtain ⟨k, hk, rfl, HQ, HZ, HB⟩ := hrel
    have c3 := cellb HB.out HP.out.2.2
    by_cases hlt : k < X.length
    · have hlt2 : (k : Int) < (X.length : Int) := by omega
      obtain ⟨b, off, rfl, d0, d1, d2, d3, d4, d5, d6, d7, d8, d9, d10⟩ := HR.out.e7 k hlt
      have d0 := cellb HB.out d0
      have d1 := cellb HB.out d1
      have d2 := cellb HB.out d2
      have d3 := cellb HB.out d3
      have d4 := cellb HB.out d4
      have d5 := cellb HB.out d5
      have d6 := cellb HB.out d6
      have d7 := cellb HB.out d7
      have d8 := cellb HB.out d8
      have d9 := cellb HB.out d9
      have d10 := cellb HB.out d10
      have hw : IntKind.i64.wrap ((k : Int) + 1) = (k : Int) + 1 := IntWalk.i64_in _ (by omega)
      by_cases ht : X[k].1.t = kk
      · have he := HEF.out k hlt HQ.out ht
        have hs := HTX.out X[k] (List.getElem_mem hlt)
        have ht2 : (X[k].1.t == kk) = true := by simpa using ht
        clear ht
        generalize X[k] = x at *
        obtain ⟨⟨f, t, i, ⟨p, q, l, wt, fl⟩, gm, gp, gl⟩, B, d⟩ := x
        subst he
        simp only at d0 d1 d2 d3 d4 d5 d6 d7 d8 d9 d10 hs ht2
        try simp only [ec]
        clear HEF HEN HN HQ hw
        go_upto_region 5 with (fail)
        clear ht2
        obtain ⟨⟨z0, z1, z2, z3, z4, z5, z6, z7, z8, z9, z10⟩, ⟨g0, g1, g2, g3, g4, g5, g6, g7, g8, g9, g10⟩⟩ := eleven_cells HZ.out
        obtain ⟨⟨r0, r1, r2, r3, r4, r5, r6, r7, r8, r9, r10⟩, _⟩ := eleven_cells (put11_heap HZ.out (.int .i64 f) (.int .i64 t) (.int .i64 i) (.int .i64 p) (.int .i64 q) (.slice B l.length d) (.int .i64 wt) (.int .i64 fl) (.int .i64 gm) (.int .i64 gp) (.int .i64 gl))
        simp only [put11] at r0 r1 r2 r3 r4 r5 r6 r7 r8 r9 r10
        have hb9 := hid (put11_below HB.out (Nat.le_refl W.heap.size) (.int .i64 f) (.int .i64 t) (.int .i64 i) (.int .i64 p) (.int .i64 q) (.slice B l.length d) (.int .i64 wt) (.int .i64 fl) (.int .i64 gm) (.int .i64 gp) (.int .i64 gl))
        have HSX := hid hs
        clear hs
        go_wp2
        exact bodyPost_ret (v := .agg #[.int .i64 f, .int .i64 t, .int .i64 i, .int .i64 p, .int .i64 q, .slice B l.length d, .int .i64 wt, .int .i64 fl, .int .i64 gm, .int .i64 gp, .int .i64 gl]) (by simp [results, Tryz.results27, go_sem, r0, r1, r2, r3, r4, r5, r6, r7, r8, r9, r10]) rfl ⟨B, d, rfl, HSX.out.below hb9.out, hb9.out⟩
      · have ht2 : (X[k].1.t == kk) = false := by simpa using ht
        have HQ2 : Hid (∀ j (hj : j < X.length), j < k + 1 → X[j].1.t ≠ kk) := hid (by
          intro j hj h9
          by_cases h8 : j = k
          · subst h8
            exact ht
          · exact HQ.out j hj (by omega))
        clear ht HQ
        generalize X[k] = x at *
        go_wp2
        go_roundw
        case rel => exact ⟨k + 1, by omega, by go_num, HQ2.out, HZ.out, HB.out⟩
        case measure => simp [intOf]; omega
    · have hge : ¬ (k : Int) < (X.length : Int) := by omega
      obtain rfl : k = X.length := by omega
      have he := HEN.out (fun j hj => HQ.out j hj hj)
      subst he
      simp only [newE, ec, List.length_nil] at HN ⊢
      clear HQ HEF HEN HTX HR
      go_upto_region 6 with (fail)
      clear c3
      have hz2 := HZ.out
      have hb2 := HB.out
      clear HZ HB
      generalize hY : W.heap.size = Y at *
      have hS : ∀ U, Below Y W U → (∃ x0 x1 x2 x3 x4 x5 x6 x7 x8 x9 x10, U.heap[Y]? = some (.cells #[x0, x1, x2, x3, x4, x5, x6, x7, x8, x9, x10] 82 (0, 0))) → ((U.cell? ⟨g, 0, none⟩ = some (.int .i64 nd) ∧ U.cell? ⟨g, 1, none⟩ = some (.int .i64 inc)) ∧ (U.frozen? ⟨Y, 0, none⟩ = false ∧ U.frozen? ⟨Y, 1, none⟩ = false ∧ U.frozen? ⟨Y, 2, none⟩ = false ∧ U.frozen? ⟨Y, 3, none⟩ = false ∧ U.frozen? ⟨Y, 4, none⟩ = false ∧ U.frozen? ⟨Y, 5, none⟩ = false ∧ U.frozen? ⟨Y, 6, none⟩ = false ∧ U.frozen? ⟨Y, 7, none⟩ = false ∧ U.frozen? ⟨Y, 8, none⟩ = false ∧ U.frozen? ⟨Y, 9, none⟩ = false ∧ U.frozen? ⟨Y, 10, none⟩ = false)) := fun U hU ⟨x0, x1, x2, x3, x4, x5, x6, x7, x8, x9, x10, hx⟩ => ⟨⟨(hU.cell hg).trans HP.out.1, (hU.cell hg).trans HP.out.2.1⟩, (eleven_cells hx).2⟩
      have hk0 : Below Y W wr.drew := below_drew hb2
      have hz0 : wr.drew.heap[Y]? = some (.cells ez 82 (0, 0)) := hz2
      refine wp_region_held_drew (S := fun U => ((U.cell? ⟨g, 0, none⟩ = some (.int .i64 nd) ∧ U.cell? ⟨g, 1, none⟩ = some (.int .i64 inc)) ∧ (U.frozen? ⟨Y, 0, none⟩ = false ∧ U.frozen? ⟨Y, 1, none⟩ = false ∧ U.frozen? ⟨Y, 2, none⟩ = false ∧ U.frozen? ⟨Y, 3, none⟩ = false ∧ U.frozen? ⟨Y, 4, none⟩ = false ∧ U.frozen? ⟨Y, 5, none⟩ = false ∧ U.frozen? ⟨Y, 6, none⟩ = false ∧ U.frozen? ⟨Y, 7, none⟩ = false ∧ U.frozen? ⟨Y, 8, none⟩ = false ∧ U.frozen? ⟨Y, 9, none⟩ = false ∧ U.frozen? ⟨Y, 10, none⟩ = false))) (by kernel_rfl) (hS _ hk0 ⟨_, _, _, _, _, _, _, _, _, _, _, hz0⟩) (fun hHeld => ?_)
      generalize wr.drew = k0 at *
      refine tkA 0 ?_ rfl ?_ (by assumption) ?_; rotate_left; focus (intro U hU; (try dsimp only at hU); go_simp; try (with_reducible rfl))
      simp only [gt6, Act.put]
      refine tkA 1 ?_ rfl ?_ (by assumption) ?_; rotate_left; focus (intro U hU; (try dsimp only at hU); go_simp; try (with_reducible rfl))
      simp only [gt6, Act.put]
      refine tkA 2 ?_ rfl ?_ (by assumption) ?_; rotate_left; focus (intro U hU; (try dsimp only at hU); go_simp; try (with_reducible rfl))
      simp only [gt6, Act.put]
      refine tkA 3 ?_ rfl ?_ (by assumption) ?_; rotate_left; focus (intro U hU; (try dsimp only at hU); go_simp; try (with_reducible rfl))
      simp only [gt6, Act.put]
      refine tkA 4 ?_ rfl ?_ (by assumption) ?_; rotate_left; focus (intro U hU; (try dsimp only at hU); go_simp; try (with_reducible rfl))
      simp only [gt6, Act.put]
      refine tkA 5 ?_ rfl ?_ (by assumption) ?_; rotate_left; focus (intro U hU; (try dsimp only at hU); go_simp; try (with_reducible rfl))
      simp only [gt6, Act.put]
      refine tkA 6 ?_ rfl ?_ (by assumption) ?_; rotate_left; focus (intro U hU; (try dsimp only at hU); go_simp; try (with_reducible rfl))
      simp only [gt6, Act.put]
      refine tkA 7 ?_ rfl ?_ (by assumption) ?_; rotate_left; focus (intro U hU; (try dsimp only at hU); go_simp; try (with_reducible rfl))
      simp only [gt6, Act.put]
      refine tkA 8 ?_ rfl ?_ (by assumption) ?_; rotate_left; focus (intro U hU; (try dsimp only at hU); go_simp; try (with_reducible rfl))
      simp only [gt6, Act.put]
      refine wpAnyH_ready (rs := [9]) (by kernel_rfl) (by simp) ?_
      refine AllReadyH.cons rfl (fun K hK => ?_) AllReadyH.nil
      simp only [gt3]
      go_simp
      refine (HN.out k0).mono ?_
      rintro q k1 ⟨rfl, hb3⟩
      have hk1 := hk0.trans (hb3.mono (by have := hk0.size; omega))
      have hz1 := keep0 hz0 hb3
      obtain ⟨⟨c0', c1', c2', c3', c4', c5', c6', c7', c8', c9', c10'⟩, ⟨g0, g1, g2, g3, g4, g5, g6, g7, g8, g9, g10⟩⟩ := eleven_cells hz1
      clear hb3
      go_wp2_with fail
      refine hK.out _ _ ?_ (fun hHeld2 => ?_)
      focus
        exact hS _ hk1 ⟨_, _, _, _, _, _, _, _, _, _, _, hz1⟩
      clear hHeld
      have hHeld := hHeld2
      clear hHeld2 hK K
      try simp only [gt6, Act.put]
      refine wpAnyH_ready (rs := [10]) (by kernel_rfl) (by simp) ?_
      refine AllReadyH.cons rfl (fun K hK => ?_) AllReadyH.nil
      simp only [gt3]
      go_simp
      refine hK.out _ _ ?_ (fun hHeld2 => ?_)
      focus
        exact hS _ (put11_below hk1 (Nat.le_refl Y) (.int .i64 nd) (.int .i64 kk) (.int .i64 inc) (.int .i64 1) (.int .i64 1) (.slice none 0 0) (.int .i64 1) (.int .i64 0) (.int .i64 inc) (.int .i64 1) (.int .i64 0)) ⟨_, _, _, _, _, _, _, _, _, _, _, put11_heap hz1 (.int .i64 nd) (.int .i64 kk) (.int .i64 inc) (.int .i64 1) (.int .i64 1) (.slice none 0 0) (.int .i64 1) (.int .i64 0) (.int .i64 inc) (.int .i64 1) (.int .i64 0)⟩
      clear hHeld
      have hHeld := hHeld2
      clear hHeld2 hK K
      try simp only [gt6, Act.put]
      refine wpAnyH_done (by kernel_rfl) ?_ _
      obtain ⟨⟨r0, r1, r2, r3, r4, r5, r6, r7, r8, r9, r10⟩, _⟩ := eleven_cells (put11_heap hz1 (.int .i64 nd) (.int .i64 kk) (.int .i64 inc) (.int .i64 1) (.int .i64 1) (.slice none 0 0) (.int .i64 1) (.int .i64 0) (.int .i64 inc) (.int .i64 1) (.int .i64 0))
      simp only [put11] at r0 r1 r2 r3 r4 r5 r6 r7 r8 r9 r10
      clear hHeld c0' c1' c2' c3' c4' c5' c6' c7' c8' c9' c10' g0 g1 g2 g3 g4 g5 g6 g7 g8 g9 g10
      have hb9 := hid (put11_below hk1 (Nat.le_refl Y) (.int .i64 nd) (.int .i64 kk) (.int .i64 inc) (.int .i64 1) (.int .i64 1) (.slice none 0 0) (.int .i64 1) (.int .i64 0) (.int .i64 inc) (.int .i64 1) (.int .i64 0))
      clear hz1 hk1 hz0 hk0 hz2 hb2 hS
      go_wp2
      exact bodyPost_ret (v := .agg #[.int .i64 nd, .int .i64 kk, .int .i64 inc, .int .i64 1, .int .i64 1, .slice none 0 0, .int .i64 1, .int .i64 0, .int .i64 inc, .int .i64 1, .int .i64 0]) (by simp [results, Tryz.results27, go_sem, r0, r1, r2, r3, r4, r5, r6, r7, r8, r9, r10]) rfl ⟨none, 0, rfl, sl_nil0 _, by rw [hY]; exact hb9.out⟩
end Go.Proofs.YtdphdodjidbngaaGreat

namespace Go.Proofs.YtdphdodjidbngaaGreat
open Go.RowKit Go.Sort
set_option linter.unusedVariables false
set_option linter.unusedSimpArgs false

set_option maxRecDepth 20000 in
set_option maxHeartbeats 4000000 in
theorem r27bytes_any (A : Option Addr) (len cap : Nat) (l : List Pk) (W : World) (h : Sl W 7 A len cap (gcells pkc l)) (hl : l.length ≤ 1000) (hb : ∀ x ∈ l, x.b.length ≤ 1000) :
    Calls Tryz.prog 29 #[.slice A len cap] W fun e w' => ∃ v, e = .returned v ∧ w'.ownsRow W.heap.size 9 1 v l.length (scells (l.map pbL)) ∧ Below W.heap.size W w' := by
  obtain rfl : len = l.length := Sl.glen pkc_len (by omega) h
  have HA := hid h
  have HP := hid (fun k (hk : k < l.length) w => rpbytes_any l[k].k l[k].f l[k].t l[k].i l[k].p l[k].s (str l[k].b) (by rw [str_size]; exact hb _ (List.getElem_mem hk)) w)
  have HM := hid hl
  clear h hb hl
  go_enter Tryz.func29, Tryz.ntmps29
  go_wp2
  go_loopw [3, 4] (fun v i wr => ∃ (k : Nat), k ≤ l.length ∧ i = .int .i64 (k : Int) ∧ Hid (wr.ownsRow W.heap.size 9 1 v k (scells ((l.map pbL).take k))) ∧ Hid (Below W.heap.size W wr)) (fun _ i _ => l.length - (intOf i).toNat)
  case atStart => exact ⟨0, by omega, rfl, World.ownsRow_nil _ _ _ _, Below.refl _ _⟩
  case round =>
    obtain ⟨k, hk, rfl, HO, HB⟩ := hrel
    by_cases hlt : k < l.length
    · have hlt2 : (k : Int) < (l.length : Int) := by omega
      obtain ⟨b, off, rfl, c0, c1, c2, c3, c4, c5, c6⟩ := HA.out.pkt k hlt
      have c0 := cellb HB.out c0
      have c1 := cellb HB.out c1
      have c2 := cellb HB.out c2
      have c3 := cellb HB.out c3
      have c4 := cellb HB.out c4
      have c5 := cellb HB.out c5
      have c6 := cellb HB.out c6
      have HC := hid (HP.out k hlt)
      have HE : Hid (scells ((l.map pbL).take (k + 1)) = scells ((l.map pbL).take k) ++ [.string (pbS l[k].k l[k].f l[k].t l[k].i l[k].p l[k].s (str l[k].b))]) := hid (by rw [List.take_succ_eq_append_getElem (by simpa using hlt), scells_append, ← pbL_str]; simp [scells])
      generalize pbS l[k].k l[k].f l[k].t l[k].i l[k].p l[k].s (str l[k].b) = y at HC HE
      generalize l[k] = x at *
      obtain ⟨xk, xf, xt, xi, xp, xs, xb⟩ := x
      dsimp only at *
      go_wp2_with fail
      refine (HC.out _).mono ?_
      rintro e w' ⟨rfl, hb2⟩
      have HO2 := hid (own_keep HO.out hb2)
      have HB2 := hid (HB.out.trans (hb2.mono HB.out.size))
      clear hb2 HO HB HC c0 c1 c2 c3 c4 c5 c6
      go_wp2_with (at_builtin; refine wpList_append_1 (W := W) rfl (.tmp 11) (.tmp 17) 33 rfl W.heap.size 9 Tryz.underlying33 info_str rfl (by omega) rfl HO2.out rfl rfl (by simp; rfl) ?c1 ?c2 HB2.out.size HB2.out ?_)
      case c1 => unfold maxLen; have := HM.out; omega
      case c2 => have := HM.out; omega
      · intro v' w4 h2 h3 h4
        have HO3 := hid h2
        clear h2
        have hM := HM.out
        have hw : IntKind.i64.wrap ((k : Int) + 1) = (k : Int) + 1 := IntWalk.i64_in _ (by omega)
        go_wp2
        go_roundw
        case rel => exact ⟨k + 1, by omega, by go_num, by rw [Hid, HE.out]; exact HO3.out, h3⟩
        case measure => simp [intOf]; omega
    · have hge : ¬ (k : Int) < (l.length : Int) := by omega
      obtain rfl : k = l.length := by omega
      go_wp2
      go_ret
      have hO := HO.out
      rw [List.take_of_length_le (by simp)] at hO
      exact ⟨_, rfl, hO, HB.out⟩

set_option maxRecDepth 20000 in
theorem fld_out7 (x0 x1 x2 x3 x4 x5 x6 x7 x8 x9 x10 : Value) (w : World) : (Instr.field 82 (.agg #[x0, x1, x2, x3, x4, x5, x6, x7, x8, x9, x10]) 3).run Tryz.prog w = .ok (.agg #[x3, x4, x5, x6, x7]) w := by rfl
set_option maxRecDepth 20000 in
theorem fld_texts7 (x3 x4 x6 x7 : Value) (A : Option Addr) (n c : Nat) (w : World) : (Instr.field 79 (.agg #[x3, x4, .slice A n c, x6, x7]) 2).run Tryz.prog w = .ok (.slice A n c) w := by rfl
set_option maxRecDepth 20000 in
theorem r27waits_any {base g : Nat} {nd inc bd : Int} {X : List Ea} (kk : Int) (W : World) (h : P7 W base g nd inc bd X) :
    Calls Tryz.prog 19 #[.pointer (some ⟨g, 0, none⟩), .int .i64 kk] W fun e w' => e = .returned (.int .i64 ((endP nd inc (X.map (·.1)) kk).o.l.length : Nat)) ∧ Below W.heap.size W w' := by
  have HE := hid (p7end_any kk W h)
  generalize endP nd inc (X.map (·.1)) kk = e at *
  obtain ⟨f, t, i, ⟨p, q, l, wt, fl⟩, gm, gp, gl⟩ := e
  simp only [ec] at HE
  clear h
  have hf1 := fun x0 x1 x2 x3 x4 x5 x6 x7 x8 x9 x10 => fld_out7 x0 x1 x2 x3 x4 x5 x6 x7 x8 x9 x10
  have hf2 := fun x3 x4 x6 x7 A n c => fld_texts7 x3 x4 x6 x7 A n c
  go_enter Tryz.func19, Tryz.ntmps19
  go_wp2_with fail
  refine HE.out.mono ?_
  rintro e w2 ⟨A, c, rfl, -, hb⟩
  have HB := hid hb
  clear HE hb
  go_wp2
  go_ret
  exact ⟨rfl, HB.out⟩
end Go.Proofs.YtdphdodjidbngaaGreat

