/- The program's end of the document's; its packet; what is sent: contracts. -/
import Derived.Test.YtdekemlckpbbcaaLdG
import Derived.Test.YtdekemlckpbbcaaLnkE
namespace Go.Proofs.Ytdekemlckpbbcaa
open Go.RowKit Go.Sort
set_option linter.unusedVariables false
set_option linter.unusedSimpArgs false

set_option maxRecDepth 20000 in
set_option maxHeartbeats 4000000 in
theorem of26_any (e : Ev) (A : Option Addr) (c : Nat) (W : World) (h : Sl W 1 A e.o.l.length c (scells e.o.l)) (hl : e.o.l.length ≤ 1000) :
    Calls Try.prog 18 #[.agg (ec e A c)] W fun x w' => ∃ A' c', x = .returned (.agg (ec e A' c')) ∧ w'.ownsRow W.heap.size 9 1 (.slice A' e.o.l.length c') e.o.l.length (scells e.o.l) ∧ Below W.heap.size W w' := by
  have HOF := hid (fun w (hw : Below W.heap.size W w) => of24_any e.o A c w (h.below hw) hl)
  obtain ⟨f, t, i, ⟨p, q, l, wt, fl⟩, m, gp, gl⟩ := e
  simp only [oc] at HOF
  simp only at hl
  clear h
  simp only [ec]
  go_enter Try.func18, Try.ntmps18
  go_upto_region 1 with (fail)
  refine at_world (fun u => u.heap[W.heap.size]? = some (.cells #[.int .i64 f, .int .i64 t, .int .i64 i, .int .i64 p, .int .i64 q, .slice A l.length c, .int .i64 wt, .int .i64 fl, .int .i64 m, .int .i64 gp, .int .i64 gl] 48 (0, 0)) ∧ u.heap[W.heap.size + 1]? = some (.cells ez 54 (0, 0)) ∧ Below W.heap.size W u) ⟨heap_first _ _ _, heap_second _ _ _, below2 _ _ _⟩ ?_
  rintro w1 ⟨hx, hz, hb⟩
  have HX := hid hx
  have HZ := hid hz
  have HB := hid hb
  have hS : ∀ U, Below w1.heap.size w1 U → ((U.cell? ⟨W.heap.size, 0, none⟩ = some (.int .i64 f) ∧ U.cell? ⟨W.heap.size, 1, none⟩ = some (.int .i64 t) ∧ U.cell? ⟨W.heap.size, 2, none⟩ = some (.int .i64 i) ∧ U.cell? ⟨W.heap.size, 3, none⟩ = some (.int .i64 p) ∧ U.cell? ⟨W.heap.size, 4, none⟩ = some (.int .i64 q) ∧ U.cell? ⟨W.heap.size, 5, none⟩ = some (.slice A l.length c) ∧ U.cell? ⟨W.heap.size, 6, none⟩ = some (.int .i64 wt) ∧ U.cell? ⟨W.heap.size, 7, none⟩ = some (.int .i64 fl) ∧ U.cell? ⟨W.heap.size, 8, none⟩ = some (.int .i64 m) ∧ U.cell? ⟨W.heap.size, 9, none⟩ = some (.int .i64 gp) ∧ U.cell? ⟨W.heap.size, 10, none⟩ = some (.int .i64 gl)) ∧ Below W.heap.size W U) := fun U hU => ⟨(eleven_cells (keep0 HX.out hU)).1, HB.out.trans (hU.mono HB.out.size)⟩
  have hk0 : Below w1.heap.size w1 w1.drew := below_drew (Below.refl _ _)
  clear hx hz hb
  go_upto_region 1 with (fail)
  refine wp_region_held_drew (S := fun U => (U.cell? ⟨W.heap.size, 0, none⟩ = some (.int .i64 f) ∧ U.cell? ⟨W.heap.size, 1, none⟩ = some (.int .i64 t) ∧ U.cell? ⟨W.heap.size, 2, none⟩ = some (.int .i64 i) ∧ U.cell? ⟨W.heap.size, 3, none⟩ = some (.int .i64 p) ∧ U.cell? ⟨W.heap.size, 4, none⟩ = some (.int .i64 q) ∧ U.cell? ⟨W.heap.size, 5, none⟩ = some (.slice A l.length c) ∧ U.cell? ⟨W.heap.size, 6, none⟩ = some (.int .i64 wt) ∧ U.cell? ⟨W.heap.size, 7, none⟩ = some (.int .i64 fl) ∧ U.cell? ⟨W.heap.size, 8, none⟩ = some (.int .i64 m) ∧ U.cell? ⟨W.heap.size, 9, none⟩ = some (.int .i64 gp) ∧ U.cell? ⟨W.heap.size, 10, none⟩ = some (.int .i64 gl)) ∧ Below W.heap.size W U) (by kernel_rfl) (hS _ hk0) (fun hHeld => ?_)
  generalize w1.drew = k0 at *
  refine wpAnyH_take (i := 0) (v := ?_) rfl (by kernel_rfl) (by kernel_rfl) (by kernel_rfl) (fun _ _ _ h => h) (Or.inl ⟨by rfl, ?_⟩) (by assumption) ?_
  rotate_left
  focus
    intro U hU
    try dsimp only at hU
    go_simp
    try (with_reducible rfl)
  simp only [List.getElem_toArray, List.getElem_cons_succ, List.getElem_cons_zero, Act.put, List.setIfInBounds_toArray, List.set_cons_zero, List.set_cons_succ]
  refine wpAnyH_take (i := 1) (v := ?_) rfl (by kernel_rfl) (by kernel_rfl) (by kernel_rfl) (fun _ _ _ h => h) (Or.inl ⟨by rfl, ?_⟩) (by assumption) ?_
  rotate_left
  focus
    intro U hU
    try dsimp only at hU
    go_simp
    try (with_reducible rfl)
  simp only [List.getElem_toArray, List.getElem_cons_succ, List.getElem_cons_zero, Act.put, List.setIfInBounds_toArray, List.set_cons_zero, List.set_cons_succ]
  refine wpAnyH_take (i := 2) (v := ?_) rfl (by kernel_rfl) (by kernel_rfl) (by kernel_rfl) (fun _ _ _ h => h) (Or.inl ⟨by rfl, ?_⟩) (by assumption) ?_
  rotate_left
  focus
    intro U hU
    try dsimp only at hU
    go_simp
    try (with_reducible rfl)
  simp only [List.getElem_toArray, List.getElem_cons_succ, List.getElem_cons_zero, Act.put, List.setIfInBounds_toArray, List.set_cons_zero, List.set_cons_succ]
  refine wpAnyH_take (i := 3) (v := ?_) rfl (by kernel_rfl) (by kernel_rfl) (by kernel_rfl) (fun _ _ _ h => h) (Or.inl ⟨by rfl, ?_⟩) (by assumption) ?_
  rotate_left
  focus
    intro U hU
    try dsimp only at hU
    go_simp
    try (with_reducible rfl)
  simp only [List.getElem_toArray, List.getElem_cons_succ, List.getElem_cons_zero, Act.put, List.setIfInBounds_toArray, List.set_cons_zero, List.set_cons_succ]
  refine wpAnyH_take (i := 4) (v := ?_) rfl (by kernel_rfl) (by kernel_rfl) (by kernel_rfl) (fun _ _ _ h => h) (Or.inl ⟨by rfl, ?_⟩) (by assumption) ?_
  rotate_left
  focus
    intro U hU
    try dsimp only at hU
    go_simp
    try (with_reducible rfl)
  simp only [List.getElem_toArray, List.getElem_cons_succ, List.getElem_cons_zero, Act.put, List.setIfInBounds_toArray, List.set_cons_zero, List.set_cons_succ]
  refine wpAnyH_take (i := 5) (v := ?_) rfl (by kernel_rfl) (by kernel_rfl) (by kernel_rfl) (fun _ _ _ h => h) (Or.inl ⟨by rfl, ?_⟩) (by assumption) ?_
  rotate_left
  focus
    intro U hU
    try dsimp only at hU
    go_simp
    try (with_reducible rfl)
  simp only [List.getElem_toArray, List.getElem_cons_succ, List.getElem_cons_zero, Act.put, List.setIfInBounds_toArray, List.set_cons_zero, List.set_cons_succ]
  refine wpAnyH_take (i := 6) (v := ?_) rfl (by kernel_rfl) (by kernel_rfl) (by kernel_rfl) (fun _ _ _ h => h) (Or.inl ⟨by rfl, ?_⟩) (by assumption) ?_
  rotate_left
  focus
    intro U hU
    try dsimp only at hU
    go_simp
    try (with_reducible rfl)
  simp only [List.getElem_toArray, List.getElem_cons_succ, List.getElem_cons_zero, Act.put, List.setIfInBounds_toArray, List.set_cons_zero, List.set_cons_succ]
  refine wpAnyH_take (i := 7) (v := ?_) rfl (by kernel_rfl) (by kernel_rfl) (by kernel_rfl) (fun _ _ _ h => h) (Or.inl ⟨by rfl, ?_⟩) (by assumption) ?_
  rotate_left
  focus
    intro U hU
    try dsimp only at hU
    go_simp
    try (with_reducible rfl)
  simp only [List.getElem_toArray, List.getElem_cons_succ, List.getElem_cons_zero, Act.put, List.setIfInBounds_toArray, List.set_cons_zero, List.set_cons_succ]
  refine wpAnyH_take (i := 9) (v := ?_) rfl (by kernel_rfl) (by kernel_rfl) (by kernel_rfl) (fun _ _ _ h => h) (Or.inl ⟨by rfl, ?_⟩) (by assumption) ?_
  rotate_left
  focus
    intro U hU
    try dsimp only at hU
    go_simp
    try (with_reducible rfl)
  simp only [List.getElem_toArray, List.getElem_cons_succ, List.getElem_cons_zero, Act.put, List.setIfInBounds_toArray, List.set_cons_zero, List.set_cons_succ]
  refine wpAnyH_take (i := 10) (v := ?_) rfl (by kernel_rfl) (by kernel_rfl) (by kernel_rfl) (fun _ _ _ h => h) (Or.inl ⟨by rfl, ?_⟩) (by assumption) ?_
  rotate_left
  focus
    intro U hU
    try dsimp only at hU
    go_simp
    try (with_reducible rfl)
  simp only [List.getElem_toArray, List.getElem_cons_succ, List.getElem_cons_zero, Act.put, List.setIfInBounds_toArray, List.set_cons_zero, List.set_cons_succ]
  refine wpAnyH_take (i := 11) (v := ?_) rfl (by kernel_rfl) (by kernel_rfl) (by kernel_rfl) (fun _ _ _ h => h) (Or.inl ⟨by rfl, ?_⟩) (by assumption) ?_
  rotate_left
  focus
    intro U hU
    try dsimp only at hU
    go_simp
    try (with_reducible rfl)
  simp only [List.getElem_toArray, List.getElem_cons_succ, List.getElem_cons_zero, Act.put, List.setIfInBounds_toArray, List.set_cons_zero, List.set_cons_succ]
  refine wpAnyH_take (i := 12) (v := ?_) rfl (by kernel_rfl) (by kernel_rfl) (by kernel_rfl) (fun _ _ _ h => h) (Or.inl ⟨by rfl, ?_⟩) (by assumption) ?_
  rotate_left
  focus
    intro U hU
    try dsimp only at hU
    go_simp
    try (with_reducible rfl)
  simp only [List.getElem_toArray, List.getElem_cons_succ, List.getElem_cons_zero, Act.put, List.setIfInBounds_toArray, List.set_cons_zero, List.set_cons_succ]
  refine wpAnyH_take (i := 13) (v := ?_) rfl (by kernel_rfl) (by kernel_rfl) (by kernel_rfl) (fun _ _ _ h => h) (Or.inl ⟨by rfl, ?_⟩) (by assumption) ?_
  rotate_left
  focus
    intro U hU
    try dsimp only at hU
    go_simp
    try (with_reducible rfl)
  simp only [List.getElem_toArray, List.getElem_cons_succ, List.getElem_cons_zero, Act.put, List.setIfInBounds_toArray, List.set_cons_zero, List.set_cons_succ]
  refine wpAnyH_take (i := 14) (v := ?_) rfl (by kernel_rfl) (by kernel_rfl) (by kernel_rfl) (fun _ _ _ h => h) (Or.inl ⟨by rfl, ?_⟩) (by assumption) ?_
  rotate_left
  focus
    intro U hU
    try dsimp only at hU
    go_simp
    try (with_reducible rfl)
  simp only [List.getElem_toArray, List.getElem_cons_succ, List.getElem_cons_zero, Act.put, List.setIfInBounds_toArray, List.set_cons_zero, List.set_cons_succ]
  refine wpAnyH_take (i := 15) (v := ?_) rfl (by kernel_rfl) (by kernel_rfl) (by kernel_rfl) (fun _ _ _ h => h) (Or.inl ⟨by rfl, ?_⟩) (by assumption) ?_
  rotate_left
  focus
    intro U hU
    try dsimp only at hU
    go_simp
    try (with_reducible rfl)
  simp only [List.getElem_toArray, List.getElem_cons_succ, List.getElem_cons_zero, Act.put, List.setIfInBounds_toArray, List.set_cons_zero, List.set_cons_succ]
  refine wpAnyH_take (i := 16) (v := ?_) rfl (by kernel_rfl) (by kernel_rfl) (by kernel_rfl) (fun _ _ _ h => h) (Or.inl ⟨by rfl, ?_⟩) (by assumption) ?_
  rotate_left
  focus
    intro U hU
    try dsimp only at hU
    go_simp
    try (with_reducible rfl)
  simp only [List.getElem_toArray, List.getElem_cons_succ, List.getElem_cons_zero, Act.put, List.setIfInBounds_toArray, List.set_cons_zero, List.set_cons_succ]
  refine wpAnyH_take (i := 17) (v := ?_) rfl (by kernel_rfl) (by kernel_rfl) (by kernel_rfl) (fun _ _ _ h => h) (Or.inl ⟨by rfl, ?_⟩) (by assumption) ?_
  rotate_left
  focus
    intro U hU
    try dsimp only at hU
    go_simp
    try (with_reducible rfl)
  simp only [List.getElem_toArray, List.getElem_cons_succ, List.getElem_cons_zero, Act.put, List.setIfInBounds_toArray, List.set_cons_zero, List.set_cons_succ]
  refine wpAnyH_take (i := 18) (v := ?_) rfl (by kernel_rfl) (by kernel_rfl) (by kernel_rfl) (fun _ _ _ h => h) (Or.inl ⟨by rfl, ?_⟩) (by assumption) ?_
  rotate_left
  focus
    intro U hU
    try dsimp only at hU
    go_simp
    try (with_reducible rfl)
  simp only [List.getElem_toArray, List.getElem_cons_succ, List.getElem_cons_zero, Act.put, List.setIfInBounds_toArray, List.set_cons_zero, List.set_cons_succ]
  refine wpAnyH_ready (rs := [8]) (by kernel_rfl) (by simp) ?_
  refine (AllReadyH.cons rfl (fun K hK => ?_) AllReadyH.nil)
  simp only [List.getElem_toArray, List.getElem_cons_succ, List.getElem_cons_zero]
  go_simp
  refine (HOF.out _ (HB.out.trans (hk0.mono HB.out.size))).mono ?_
  rintro e w5 ⟨A5, c5, rfl, ho5, hb5⟩
  simp only [oc]
  have ho5 := own_mono ho5 (Nat.le_trans HB.out.size hk0.size)
  have hk3 := hk0.trans (hb5.mono hk0.size)
  clear hb5 HOF
  go_wp2_with fail
  refine hK.out _ _ ?_ (fun hHeld2 => ?_)
  focus
    exact hS _ hk3
  clear hHeld
  have hHeld := hHeld2
  clear hHeld2 hK K
  try simp only [List.getElem_toArray, List.getElem_cons_succ, List.getElem_cons_zero, Act.put, List.setIfInBounds_toArray, List.set_cons_zero, List.set_cons_succ]
  refine wpAnyH_take (i := 19) (v := ?_) rfl (by kernel_rfl) (by kernel_rfl) (by kernel_rfl) (fun _ _ _ h => h) (Or.inl ⟨by rfl, ?_⟩) (by assumption) ?_
  rotate_left
  focus
    intro U hU
    try dsimp only at hU
    go_simp
    try (with_reducible rfl)
  simp only [List.getElem_toArray, List.getElem_cons_succ, List.getElem_cons_zero, Act.put, List.setIfInBounds_toArray, List.set_cons_zero, List.set_cons_succ]
  have hx5 := keep0 HX.out hk3
  have hz5 := keep0 HZ.out hk3
  have hb5 := HB.out.trans (hk3.mono HB.out.size)
  obtain ⟨_, ⟨f0, f1, f2, f3, f4, f5, f6, f7, f8, f9, f10⟩⟩ := eleven_cells hz5
  have hq := put11_heap hz5 (.int .i64 f) (.int .i64 t) (.int .i64 i) (.int .i64 p) (.int .i64 q) (.slice A5 l.length c5) (.int .i64 wt) (.int .i64 fl) (.int .i64 m) (.int .i64 gp) (.int .i64 gl)
  obtain ⟨⟨r0, r1, r2, r3, r4, r5, r6, r7, r8, r9, r10⟩, _⟩ := eleven_cells hq
  have hx6 := (put11_other (b := W.heap.size + 1) (g := W.heap.size) (by omega) (.int .i64 f) (.int .i64 t) (.int .i64 i) (.int .i64 p) (.int .i64 q) (.slice A5 l.length c5) (.int .i64 wt) (.int .i64 fl) (.int .i64 m) (.int .i64 gp) (.int .i64 gl)).trans hx5
  have hb6 := put11_below hb5 (show W.heap.size ≤ W.heap.size + 1 by omega) (.int .i64 f) (.int .i64 t) (.int .i64 i) (.int .i64 p) (.int .i64 q) (.slice A5 l.length c5) (.int .i64 wt) (.int .i64 fl) (.int .i64 m) (.int .i64 gp) (.int .i64 gl)
  have ho6 := own_at ho5 hz5 (by decide) fun g hg => put11_other hg (.int .i64 f) (.int .i64 t) (.int .i64 i) (.int .i64 p) (.int .i64 q) (.slice A5 l.length c5) (.int .i64 wt) (.int .i64 fl) (.int .i64 m) (.int .i64 gp) (.int .i64 gl)
  have hs6 := (eleven_cells hx6).1
  simp only [put11] at r0 r1 r2 r3 r4 r5 r6 r7 r8 r9 r10 hb6 ho6 hs6
  clear hq hx5 hz5 hx6
  refine wpAnyH_ready (rs := [20]) (by kernel_rfl) (by simp) ?_
  refine (AllReadyH.cons rfl (fun K hK => ?_) AllReadyH.nil)
  simp only [List.getElem_toArray, List.getElem_cons_succ, List.getElem_cons_zero]
  go_simp
  refine hK.out _ _ ?_ (fun hHeld2 => ?_)
  focus
    exact ⟨hs6, hb6⟩
  clear hHeld
  have hHeld := hHeld2
  clear hHeld2 hK K
  try simp only [List.getElem_toArray, List.getElem_cons_succ, List.getElem_cons_zero, Act.put, List.setIfInBounds_toArray, List.set_cons_zero, List.set_cons_succ]
  refine wpAnyH_done (by kernel_rfl) ?_ _
  clear hHeld hS f0 f1 f2 f3 f4 f5 f6 f7 f8 f9 f10 hs6 hk0 hk3
  go_wp2
  exact bodyPost_ret (v := .agg #[.int .i64 f, .int .i64 t, .int .i64 i, .int .i64 p, .int .i64 q, .slice A5 l.length c5, .int .i64 wt, .int .i64 fl, .int .i64 m, .int .i64 gp, .int .i64 gl]) (by simp [results, Try.results18, go_sem, r0, r1, r2, r3, r4, r5, r6, r7, r8, r9, r10]) rfl ⟨A5, c5, rfl, ho6, hb6⟩

set_option maxRecDepth 20000 in
theorem packet26_any (x : Pk) (W : World) : Calls Try.prog 27 #[.agg (pca x)] W fun e w' => e = .returned (.agg (pca x)) ∧ Below W.heap.size W w' := by
  obtain ⟨k, f, t, i, p, s, b⟩ := x
  simp only [pca]
  go_enter Try.func27, Try.ntmps27
  go_wp2
  exact bodyPost_ret (v := .agg #[.int .i64 k, .int .i64 f, .int .i64 t, .int .i64 i, .int .i64 p, .int .i64 s, .string (str b)]) (by simp [results, Try.results27, go_sem]) rfl ⟨rfl, below2 _ _ _⟩

/-- A row of the document's packets of the call's own. -/
def OwnR (W w : World) (v : Value) (l : List Pk) : Prop := w.ownsRow W.heap.size 50 7 v l.length (gcells pkc l)
theorem ownR_nil (W w : World) : OwnR W w (.slice none 0 0) [] := ⟨rfl, .inl ⟨rfl, rfl⟩⟩
theorem ownR_one {W w' : World} {x : Pk} {g : Nat} (hb : W.heap.size ≤ g) (h : w'.heap[g]? = some (.cells (pkc x).toArray 50 (0, 0))) : OwnR W w' (.slice (some ⟨g, 0, none⟩) 1 1) [x] := by
  refine ⟨by simp [gcells, pkc], .inr ⟨g, 1, (pkc x).toArray, rfl, hb, h, by simp, by unfold maxLen; omega, by simp [pkc], by simp [gcells, pkc]⟩⟩

set_option maxRecDepth 20000 in
set_option maxHeartbeats 4000000 in
theorem data26_any (e : Ev) (b : Bool) (hb : b = true → e.o.l ≠ []) (A : Option Addr) (c : Nat) (W : World) (h : Sl W 1 A e.o.l.length c (scells e.o.l)) :
    Calls Try.prog 48 #[.agg (ec e A c), .bool b] W fun x w' => ∃ B d, x = .returned (.slice B (dataV e b).length d) ∧ OwnR W w' (.slice B (dataV e b).length d) (dataV e b) ∧ Below W.heap.size W w' := by
  cases b with
  | false =>
    obtain ⟨f, t, i, ⟨p, q, l, wt, fl⟩, m, gp, gl⟩ := e
    simp only [ec]
    clear h hb
    go_enter Try.func48, Try.ntmps48
    go_wp2
    go_ret
    exact ⟨none, 0, rfl, ownR_nil _ _, (Below.refl _ _).alloc (Nat.le_refl _) _⟩
  | true =>
    have hne := hb rfl
    obtain ⟨f, t, i, ⟨p, q, l, wt, fl⟩, m, gp, gl⟩ := e
    cases l with
    | nil => exact absurd rfl hne
    | cons y r =>
    clear hne hb
    simp only [ec]
    obtain ⟨bl, off, rfl, hc⟩ := Sl.at h 0 (by rw [scells_length]; simp)
    have hcb : W.cell? ⟨bl, off, none⟩ = some (.string (str y)) := by simpa [scells] using hc
    have hcB : ∀ U, Below W.heap.size W U → U.cell? ⟨bl, off, none⟩ = some (.string (str y)) := fun U hU => by
      obtain ⟨b9, o9, hA9, hc9⟩ := Sl.at (h.below hU) 0 (by rw [scells_length]; simp)
      cases hA9
      simpa [scells] using hc9
    have HC := hid hcB
    have HV : Hid (dataV ⟨f, t, i, ⟨p, q, y :: r, wt, fl⟩, m, gp, gl⟩ true = [⟨1, f, t, i, p, q, y⟩]) := hid rfl
    rw [HV.out]
    clear h hc hcb hcB HV
    obtain ⟨L, hL⟩ : ∃ L, L = (y :: r).length := ⟨_, rfl⟩
    rw [← hL]
    have hL0 : 0 < L := by rw [hL]; simp
    have hL1 : (0 : Int) < (L : Int) := by omega
    clear hL
    go_enter Try.func48, Try.ntmps48
    go_upto_region 3 with (fail)
    refine at_world (fun u => u.heap[W.heap.size]? = some (.cells #[.int .i64 f, .int .i64 t, .int .i64 i, .int .i64 p, .int .i64 q, .slice (some ⟨bl, off, none⟩) L c, .int .i64 wt, .int .i64 fl, .int .i64 m, .int .i64 gp, .int .i64 gl] 48 (0, 0)) ∧ Below W.heap.size W u) ⟨heap_alloc_new _ _, (Below.refl _ _).alloc (Nat.le_refl _) _⟩ ?_
    rintro w1 ⟨hx, hb⟩
    have HX := hid hx
    have HB := hid hb
    have hS : ∀ U, Below w1.heap.size w1 U → (((U.cell? ⟨W.heap.size, 0, none⟩ = some (.int .i64 f) ∧ U.cell? ⟨W.heap.size, 1, none⟩ = some (.int .i64 t) ∧ U.cell? ⟨W.heap.size, 2, none⟩ = some (.int .i64 i) ∧ U.cell? ⟨W.heap.size, 3, none⟩ = some (.int .i64 p) ∧ U.cell? ⟨W.heap.size, 4, none⟩ = some (.int .i64 q) ∧ U.cell? ⟨W.heap.size, 5, none⟩ = some (.slice (some ⟨bl, off, none⟩) L c) ∧ U.cell? ⟨W.heap.size, 6, none⟩ = some (.int .i64 wt) ∧ U.cell? ⟨W.heap.size, 7, none⟩ = some (.int .i64 fl) ∧ U.cell? ⟨W.heap.size, 8, none⟩ = some (.int .i64 m) ∧ U.cell? ⟨W.heap.size, 9, none⟩ = some (.int .i64 gp) ∧ U.cell? ⟨W.heap.size, 10, none⟩ = some (.int .i64 gl)) ∧ U.cell? ⟨bl, off, none⟩ = some (.string (str y))) ∧ Below W.heap.size W U) := fun U hU => ⟨⟨(eleven_cells (keep0 HX.out hU)).1, HC.out U (HB.out.trans (hU.mono HB.out.size))⟩, HB.out.trans (hU.mono HB.out.size)⟩
    have hk0 : Below w1.heap.size w1 w1.drew := below_drew (Below.refl _ _)
    clear hx hb
    go_upto_region 3 with (fail)
    refine wp_region_held_drew (S := fun U => ((U.cell? ⟨W.heap.size, 0, none⟩ = some (.int .i64 f) ∧ U.cell? ⟨W.heap.size, 1, none⟩ = some (.int .i64 t) ∧ U.cell? ⟨W.heap.size, 2, none⟩ = some (.int .i64 i) ∧ U.cell? ⟨W.heap.size, 3, none⟩ = some (.int .i64 p) ∧ U.cell? ⟨W.heap.size, 4, none⟩ = some (.int .i64 q) ∧ U.cell? ⟨W.heap.size, 5, none⟩ = some (.slice (some ⟨bl, off, none⟩) L c) ∧ U.cell? ⟨W.heap.size, 6, none⟩ = some (.int .i64 wt) ∧ U.cell? ⟨W.heap.size, 7, none⟩ = some (.int .i64 fl) ∧ U.cell? ⟨W.heap.size, 8, none⟩ = some (.int .i64 m) ∧ U.cell? ⟨W.heap.size, 9, none⟩ = some (.int .i64 gp) ∧ U.cell? ⟨W.heap.size, 10, none⟩ = some (.int .i64 gl)) ∧ U.cell? ⟨bl, off, none⟩ = some (.string (str y))) ∧ Below W.heap.size W U) (by kernel_rfl) (hS _ hk0) (fun hHeld => ?_)
    generalize w1.drew = k0 at *
    refine wpAnyH_take (i := 0) (v := ?_) rfl (by kernel_rfl) (by kernel_rfl) (by kernel_rfl) (fun _ _ _ h => h) (Or.inl ⟨by rfl, ?_⟩) (by assumption) ?_
    rotate_left
    focus
      intro U hU
      try dsimp only at hU
      go_simp
      try (with_reducible rfl)
    simp only [List.getElem_toArray, List.getElem_cons_succ, List.getElem_cons_zero, Act.put, List.setIfInBounds_toArray, List.set_cons_zero, List.set_cons_succ]
    refine wpAnyH_take (i := 1) (v := ?_) rfl (by kernel_rfl) (by kernel_rfl) (by kernel_rfl) (fun _ _ _ h => h) (Or.inl ⟨by rfl, ?_⟩) (by assumption) ?_
    rotate_left
    focus
      intro U hU
      try dsimp only at hU
      go_simp
      try (with_reducible rfl)
    simp only [List.getElem_toArray, List.getElem_cons_succ, List.getElem_cons_zero, Act.put, List.setIfInBounds_toArray, List.set_cons_zero, List.set_cons_succ]
    refine wpAnyH_take (i := 2) (v := ?_) rfl (by kernel_rfl) (by kernel_rfl) (by kernel_rfl) (fun _ _ _ h => h) (Or.inl ⟨by rfl, ?_⟩) (by assumption) ?_
    rotate_left
    focus
      intro U hU
      try dsimp only at hU
      go_simp
      try (with_reducible rfl)
    simp only [List.getElem_toArray, List.getElem_cons_succ, List.getElem_cons_zero, Act.put, List.setIfInBounds_toArray, List.set_cons_zero, List.set_cons_succ]
    refine wpAnyH_take (i := 3) (v := ?_) rfl (by kernel_rfl) (by kernel_rfl) (by kernel_rfl) (fun _ _ _ h => h) (Or.inl ⟨by rfl, ?_⟩) (by assumption) ?_
    rotate_left
    focus
      intro U hU
      try dsimp only at hU
      go_simp
      try (with_reducible rfl)
    simp only [List.getElem_toArray, List.getElem_cons_succ, List.getElem_cons_zero, Act.put, List.setIfInBounds_toArray, List.set_cons_zero, List.set_cons_succ]
    refine wpAnyH_take (i := 4) (v := ?_) rfl (by kernel_rfl) (by kernel_rfl) (by kernel_rfl) (fun _ _ _ h => h) (Or.inl ⟨by rfl, ?_⟩) (by assumption) ?_
    rotate_left
    focus
      intro U hU
      try dsimp only at hU
      go_simp
      try (with_reducible rfl)
    simp only [List.getElem_toArray, List.getElem_cons_succ, List.getElem_cons_zero, Act.put, List.setIfInBounds_toArray, List.set_cons_zero, List.set_cons_succ]
    refine wpAnyH_take (i := 5) (v := ?_) rfl (by kernel_rfl) (by kernel_rfl) (by kernel_rfl) (fun _ _ _ h => h) (Or.inl ⟨by rfl, ?_⟩) (by assumption) ?_
    rotate_left
    focus
      intro U hU
      try dsimp only at hU
      go_simp
      try (with_reducible rfl)
    simp only [List.getElem_toArray, List.getElem_cons_succ, List.getElem_cons_zero, Act.put, List.setIfInBounds_toArray, List.set_cons_zero, List.set_cons_succ]
    refine wpAnyH_take (i := 6) (v := ?_) rfl (by kernel_rfl) (by kernel_rfl) (by kernel_rfl) (fun _ _ _ h => h) (Or.inl ⟨by rfl, ?_⟩) (by assumption) ?_
    rotate_left
    focus
      intro U hU
      try dsimp only at hU
      go_simp
      try (with_reducible rfl)
    simp only [List.getElem_toArray, List.getElem_cons_succ, List.getElem_cons_zero, Act.put, List.setIfInBounds_toArray, List.set_cons_zero, List.set_cons_succ]
    refine wpAnyH_take (i := 7) (v := ?_) rfl (by kernel_rfl) (by kernel_rfl) (by kernel_rfl) (fun _ _ _ h => h) (Or.inl ⟨by rfl, ?_⟩) (by assumption) ?_
    rotate_left
    focus
      intro U hU
      try dsimp only at hU
      go_simp
      try (with_reducible rfl)
    simp only [List.getElem_toArray, List.getElem_cons_succ, List.getElem_cons_zero, Act.put, List.setIfInBounds_toArray, List.set_cons_zero, List.set_cons_succ]
    refine wpAnyH_take (i := 8) (v := ?_) rfl (by kernel_rfl) (by kernel_rfl) (by kernel_rfl) (fun _ _ _ h => h) (Or.inl ⟨by rfl, ?_⟩) (by assumption) ?_
    rotate_left
    focus
      intro U hU
      try dsimp only at hU
      go_simp
      try (with_reducible rfl)
    simp only [List.getElem_toArray, List.getElem_cons_succ, List.getElem_cons_zero, Act.put, List.setIfInBounds_toArray, List.set_cons_zero, List.set_cons_succ]
    refine wpAnyH_take (i := 9) (v := ?_) rfl (by kernel_rfl) (by kernel_rfl) (by kernel_rfl) (fun _ _ _ h => h) (Or.inl ⟨by rfl, ?_⟩) (by assumption) ?_
    rotate_left
    focus
      intro U hU
      try dsimp only at hU
      go_simp
      try (with_reducible rfl)
    simp only [List.getElem_toArray, List.getElem_cons_succ, List.getElem_cons_zero, Act.put, List.setIfInBounds_toArray, List.set_cons_zero, List.set_cons_succ]
    refine wpAnyH_take (i := 10) (v := ?_) rfl (by kernel_rfl) (by kernel_rfl) (by kernel_rfl) (fun _ _ _ h => h) (Or.inl ⟨by rfl, ?_⟩) (by assumption) ?_
    rotate_left
    focus
      intro U hU
      try dsimp only at hU
      go_simp
      try (with_reducible rfl)
    simp only [List.getElem_toArray, List.getElem_cons_succ, List.getElem_cons_zero, Act.put, List.setIfInBounds_toArray, List.set_cons_zero, List.set_cons_succ]
    refine wpAnyH_take (i := 11) (v := ?_) rfl (by kernel_rfl) (by kernel_rfl) (by kernel_rfl) (fun _ _ _ h => h) (Or.inl ⟨by rfl, ?_⟩) (by assumption) ?_
    rotate_left
    focus
      intro U hU
      try dsimp only at hU
      go_simp
      try (with_reducible rfl)
    simp only [List.getElem_toArray, List.getElem_cons_succ, List.getElem_cons_zero, Act.put, List.setIfInBounds_toArray, List.set_cons_zero, List.set_cons_succ]
    refine wpAnyH_take (i := 12) (v := ?_) rfl (by kernel_rfl) (by kernel_rfl) (by kernel_rfl) (fun _ _ _ h => h) (Or.inl ⟨by rfl, ?_⟩) (by assumption) ?_
    rotate_left
    focus
      intro U hU
      try dsimp only at hU
      go_simp
      try (with_reducible rfl)
    simp only [List.getElem_toArray, List.getElem_cons_succ, List.getElem_cons_zero, Act.put, List.setIfInBounds_toArray, List.set_cons_zero, List.set_cons_succ]
    refine wpAnyH_take (i := 13) (v := ?_) rfl (by kernel_rfl) (by kernel_rfl) (by kernel_rfl) (fun _ _ _ h => h) (Or.inl ⟨by rfl, ?_⟩) (by assumption) ?_
    rotate_left
    focus
      intro U hU
      try dsimp only at hU
      go_simp
      try (with_reducible rfl)
    simp only [List.getElem_toArray, List.getElem_cons_succ, List.getElem_cons_zero, Act.put, List.setIfInBounds_toArray, List.set_cons_zero, List.set_cons_succ]
    refine wpAnyH_take (i := 14) (v := ?_) rfl (by kernel_rfl) (by kernel_rfl) (by kernel_rfl) (fun _ _ _ h => h) (Or.inl ⟨by rfl, ?_⟩) (by assumption) ?_
    rotate_left
    focus
      intro U hU
      try dsimp only at hU
      go_simp
      try (with_reducible rfl)
    simp only [List.getElem_toArray, List.getElem_cons_succ, List.getElem_cons_zero, Act.put, List.setIfInBounds_toArray, List.set_cons_zero, List.set_cons_succ]
    refine wpAnyH_take (i := 15) (v := ?_) rfl (by kernel_rfl) (by kernel_rfl) (by kernel_rfl) (fun _ _ _ h => h) (Or.inl ⟨by rfl, ?_⟩) (by assumption) ?_
    rotate_left
    focus
      intro U hU
      try dsimp only at hU
      go_simp
      try (with_reducible rfl)
    simp only [List.getElem_toArray, List.getElem_cons_succ, List.getElem_cons_zero, Act.put, List.setIfInBounds_toArray, List.set_cons_zero, List.set_cons_succ]
    refine wpAnyH_take (i := 16) (v := ?_) rfl (by kernel_rfl) (by kernel_rfl) (by kernel_rfl) (fun _ _ _ h => h) (Or.inl ⟨by rfl, ?_⟩) (by assumption) ?_
    rotate_left
    focus
      intro U hU
      try dsimp only at hU
      go_simp
      try (with_reducible rfl)
    simp only [List.getElem_toArray, List.getElem_cons_succ, List.getElem_cons_zero, Act.put, List.setIfInBounds_toArray, List.set_cons_zero, List.set_cons_succ]
    refine wpAnyH_take (i := 17) (v := ?_) rfl (by kernel_rfl) (by kernel_rfl) (by kernel_rfl) (fun _ _ _ h => h) (Or.inl ⟨by rfl, ?_⟩) (by assumption) ?_
    rotate_left
    focus
      intro U hU
      try dsimp only at hU
      go_simp
      try (with_reducible rfl)
    simp only [List.getElem_toArray, List.getElem_cons_succ, List.getElem_cons_zero, Act.put, List.setIfInBounds_toArray, List.set_cons_zero, List.set_cons_succ]
    refine wpAnyH_ready (rs := [18]) (by kernel_rfl) (by simp) ?_
    refine (AllReadyH.cons rfl (fun K hK => ?_) AllReadyH.nil)
    have hbs : Below (World.heap k0).size k0 (World.alloc k0 (.cells #[.int .i64 1, .int .i64 f, .int .i64 t, .int .i64 i, .int .i64 p, .int .i64 q, .string (str y)] 50)) := (Below.refl _ _).alloc (Nat.le_refl _) _
    have hk2 := hk0.trans (hbs.mono hk0.size)
    clear hbs
    simp only [List.getElem_toArray, List.getElem_cons_succ, List.getElem_cons_zero]
    go_simp
    refine hK.out _ _ ?_ (fun hHeld2 => ?_)
    focus
      exact hS _ hk2
    clear hHeld
    have hHeld := hHeld2
    clear hHeld2 hK K
    try simp only [List.getElem_toArray, List.getElem_cons_succ, List.getElem_cons_zero, Act.put, List.setIfInBounds_toArray, List.set_cons_zero, List.set_cons_succ]
    refine wpAnyH_take (i := 19) (v := ?_) rfl (by kernel_rfl) (by kernel_rfl) (by kernel_rfl) (fun _ _ _ h => h) (Or.inl ⟨by rfl, ?_⟩) (by assumption) ?_
    rotate_left
    focus
      intro U hU
      try dsimp only at hU
      go_simp
      try (with_reducible rfl)
    simp only [List.getElem_toArray, List.getElem_cons_succ, List.getElem_cons_zero, Act.put, List.setIfInBounds_toArray, List.set_cons_zero, List.set_cons_succ]
    refine wpAnyH_done (by kernel_rfl) ?_ _
    clear hHeld hS
    have hb9 := HB.out.trans (hk2.mono HB.out.size)
    go_wp2
    go_ret
    exact ⟨_, _, rfl, ownR_one (x := ⟨1, f, t, i, p, q, y⟩) (Nat.le_trans HB.out.size hk0.size) (heap_alloc_new k0 _), hb9⟩
end Go.Proofs.Ytdekemlckpbbcaa
