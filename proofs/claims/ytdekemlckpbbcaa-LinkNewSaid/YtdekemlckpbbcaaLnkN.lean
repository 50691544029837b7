/- comes, to the first end: contract. -/
import Derived.Test.YtdekemlckpbbcaaLnkM
namespace Go.Proofs.Ytdekemlckpbbcaa
open Go.RowKit Go.Sort
set_option linter.unusedVariables false
set_option linter.unusedSimpArgs false

def upC0 (x : Pr) : Pr := ⟨x.a, x.b, x.w, x.p0, x.p1, x.c0 + 1, x.c1, x.ok⟩
def upC1 (x : Pr) : Pr := ⟨x.a, x.b, x.w, x.p0, x.p1, x.c0, x.c1 + 1, x.ok⟩
/-- A packet comes. -/
def comesV (x : Pr) (p : Pk) : Pr :=
  if p.t = 0 then addW (if (takV x.a p).2.2 then upC1 (setPA x (takV x.a p).1.1) else setPA x (takV x.a p).1.1) (takV x.a p).1.2
  else addW (if (takV x.b p).2.2 then upC0 (setPB x (takV x.b p).1.1) else setPB x (takV x.b p).1.1) (takV x.b p).1.2
theorem takV_len (e : Ev) (p : Pk) : (takV e p).1.2.length ≤ 2 := by
  have h1 : ∀ i, (lrnE e i).2.length ≤ 1 := fun i => dataV_len _ _
  have h2 : (ansD e p).length ≤ 1 := by
    unfold ansD
    split
    · simp
    · split <;> simp
  have h3 : (datE e p).2.length ≤ 2 := by
    show ((lrnE e p.i).2 ++ ansD e p).length ≤ 2
    have := h1 p.i
    rw [List.length_append]
    omega
  have h4 : (ackE e p).2.length ≤ 2 := by
    have := h1 p.i
    unfold ackE
    rw [List.length_append]
    have := dataV_len (setO (lrnE e p.i).1 (ackV (lrnE e p.i).1.o p.i p.s).1) (ackV (lrnE e p.i).1.o p.i p.s).2
    omega
  have h5 := h1 p.i
  unfold takV
  repeat' split
  all_goals first | exact Nat.zero_le _ | assumption | (show (lrnE e p.i).2.length ≤ 2; omega)
theorem PX.cellUp {W u : World} {g : Nat} {x y : Pr} {A : Option Addr} {ca : Nat} {B : Option Addr} {cb : Nat} {D : Option Addr} {cd : Nat} (h : PX W u g x A ca B cb D cd) (k : Nat) (v : Value) (ha : y.a = x.a) (hb : y.b = x.b) (hw : y.w = x.w) (hi : (prc x A ca B cb D cd).setIfInBounds k v = prc y A ca B cb D cd) : PX W (u.setCell ⟨g, k, none⟩ v) g y A ca B cb D cd := by
  obtain ⟨ya, yb, yw, y0, y1, y2, y3, y4⟩ := y
  simp only at ha hb hw
  subst ha hb hw
  exact ⟨by rw [heap_setCell_same u g k _ _ _ h.1, hi], h.2.1, own_at h.2.2.1 h.1 (by decide) fun j hj => Below.heap_setCell _ _ _ _ hj, own_at h.2.2.2.1 h.1 (by decide) fun j hj => Below.heap_setCell _ _ _ _ hj, mid_at h.2.2.2.2.1 h.1 (by decide) fun j hj => Below.heap_setCell _ _ _ _ hj, h.2.2.2.2.2.setCell (p := ⟨g, k, none⟩) h.2.1 _⟩

set_option maxRecDepth 20000 in
set_option maxHeartbeats 8000000 in
theorem comes0_any (x : Pr) (p : Pk) (hpt : p.t = 0) (g : Nat) (W u : World) (A : Option Addr) (ca : Nat) (B : Option Addr) (cb : Nat) (D : Option Addr) (cd : Nat) (h : PX W u g x A ca B cb D cd) (hl : x.a.o.l.length ≤ 1000) (hw : x.w.length ≤ 100000)
    (hg0 : 0 ≤ x.a.l) (hg9 : x.a.l ≤ 9223372036854775807) (hs0 : -9223372036854775808 ≤ p.s) (hs : p.s ≤ 9223372036854775807) (hq : x.a.o.q < 9223372036854775807) (hq0 : -9223372036854775808 ≤ x.a.o.q)
    (hok : x.ok = true) (hc0 : 0 ≤ x.c1) (hc9 : x.c1 ≤ 1000000) (hgot : (takV x.a p).2.2 = true → (takV x.a p).2.1 = str (116 :: numT x.c1.toNat) ∧ x.c1 < x.p1) :
    Calls Try.prog 33 #[.pointer (some ⟨g, 0, none⟩), .agg (pca p)] u fun e u' => (∃ v, e = .returned v) ∧ ∃ A ca B cb D cd, PX W u' g (comesV x p) A ca B cb D cd := by
  have HNM := hid (fun w => name_any x.c1.toNat (by omega) w)
  rw [Int.toNat_of_nonneg hc0] at HNM
  have HT := hid (fun w (hw : PX W w g x A ca B cb D cd) => ltake_any x.a p A ca w (sl_own hw.2.2.1) hl hg0 hg9 hs0 hs hq hq0)
  have HTL := hid (takV_len x.a p)
  have HV : Hid (comesV x p = addW (if (takV x.a p).2.2 then upC1 (setPA x (takV x.a p).1.1) else setPA x (takV x.a p).1.1) (takV x.a p).1.2) := hid (by rw [comesV]; rw [hpt]; rfl)
  have HWL := hid hw
  have HGOT := hid hgot
  have HPP := hid (And.intro hc0 hc9)
  have HBX := hid (Nat.le_refl u.heap.size)
  generalize takV x.a p = r at *
  generalize hnm0 : (116 :: numT x.c1.toNat) = nm at *
  obtain ⟨⟨⟨f2, t2, i2, ⟨p2, q2, l2, w2', fl2⟩, m2, gp2, gl2⟩, l⟩, tx, got⟩ := r
  have HBE := hid (show ((str nm).toList == (str nm).toList) = true by simp)
  clear hl hw hg0 hg9 hs0 hs hq hq0 hc0 hc9 hgot hnm0
  obtain ⟨pk, pf, pt, pi, pp, ps, pb⟩ := p
  obtain rfl : pt = 0 := hpt
  simp only [ec, pca] at *
  go_enter Try.func33, Try.ntmps33
  go_upto_region 1 with (fail)
  refine at_world (fun v => v.heap[u.heap.size]? = some (.cells (pca ⟨pk, pf, 0, pi, pp, ps, pb⟩) 71 (0, 0)) ∧ PX W v g x A ca B cb D cd) ⟨heap_alloc_new _ _, h.keep ((Below.refl _ _).alloc (Nat.le_refl _) _)⟩ ?_
  clear h HBX
  generalize u.heap.size = Bx at *
  rintro u1 ⟨hbx, h⟩
  simp only [pca] at hbx
  have hy := (seven_cells hbx).1
  obtain ⟨y0, y1, y2, y3, y4, y5, y6⟩ := hy
  have hg := h.1
  have hgl := lt_of_block hg
  have HX := hid h
  have HU := hid (h.2.2.2.2.2.size)
  clear h
  go_upto_region 5 with (fail)
  clear y0 y1 y2 y3 y4 y5 y6
  have hS : ∀ U, Below u1.heap.size u1 U → (((U.cell? ⟨g, 0, none⟩ = some (.int .i64 x.a.f) ∧ U.cell? ⟨g, 1, none⟩ = some (.int .i64 x.a.t) ∧ U.cell? ⟨g, 2, none⟩ = some (.int .i64 x.a.i) ∧ U.cell? ⟨g, 3, none⟩ = some (.int .i64 x.a.o.p) ∧ U.cell? ⟨g, 4, none⟩ = some (.int .i64 x.a.o.q) ∧ U.cell? ⟨g, 5, none⟩ = some (.slice A x.a.o.l.length ca) ∧ U.cell? ⟨g, 6, none⟩ = some (.int .i64 x.a.o.w) ∧ U.cell? ⟨g, 7, none⟩ = some (.int .i64 x.a.o.f) ∧ U.cell? ⟨g, 8, none⟩ = some (.int .i64 x.a.m) ∧ U.cell? ⟨g, 9, none⟩ = some (.int .i64 x.a.p) ∧ U.cell? ⟨g, 10, none⟩ = some (.int .i64 x.a.l)) ∧ U.cell? ⟨Bx, 0, none⟩ = some (.int .i64 pk) ∧ U.cell? ⟨Bx, 1, none⟩ = some (.int .i64 pf) ∧ U.cell? ⟨Bx, 2, none⟩ = some (.int .i64 0) ∧ U.cell? ⟨Bx, 3, none⟩ = some (.int .i64 pi) ∧ U.cell? ⟨Bx, 4, none⟩ = some (.int .i64 pp) ∧ U.cell? ⟨Bx, 5, none⟩ = some (.int .i64 ps) ∧ U.cell? ⟨Bx, 6, none⟩ = some (.string (str pb))) ∧ Below u1.heap.size u1 U) := fun U hU => by
    have h9 := keep0 hg hU
    simp only [prc] at h9
    have h8 := (pair_cells h9).1
    have h7 := (seven_cells (keep0 hbx hU)).1
    exact ⟨⟨⟨h8.1, h8.2.1, h8.2.2.1, h8.2.2.2.1, h8.2.2.2.2.1, h8.2.2.2.2.2.1, h8.2.2.2.2.2.2.1, h8.2.2.2.2.2.2.2.1, h8.2.2.2.2.2.2.2.2.1, h8.2.2.2.2.2.2.2.2.2.1, h8.2.2.2.2.2.2.2.2.2.2.1⟩, h7⟩, hU⟩
  clear hg hbx
  have hk0 : Below u1.heap.size u1 u1.drew := below_drew (Below.refl _ _)
  refine wp_region_held_drew (S := fun U => ((U.cell? ⟨g, 0, none⟩ = some (.int .i64 x.a.f) ∧ U.cell? ⟨g, 1, none⟩ = some (.int .i64 x.a.t) ∧ U.cell? ⟨g, 2, none⟩ = some (.int .i64 x.a.i) ∧ U.cell? ⟨g, 3, none⟩ = some (.int .i64 x.a.o.p) ∧ U.cell? ⟨g, 4, none⟩ = some (.int .i64 x.a.o.q) ∧ U.cell? ⟨g, 5, none⟩ = some (.slice A x.a.o.l.length ca) ∧ U.cell? ⟨g, 6, none⟩ = some (.int .i64 x.a.o.w) ∧ U.cell? ⟨g, 7, none⟩ = some (.int .i64 x.a.o.f) ∧ U.cell? ⟨g, 8, none⟩ = some (.int .i64 x.a.m) ∧ U.cell? ⟨g, 9, none⟩ = some (.int .i64 x.a.p) ∧ U.cell? ⟨g, 10, none⟩ = some (.int .i64 x.a.l)) ∧ U.cell? ⟨Bx, 0, none⟩ = some (.int .i64 pk) ∧ U.cell? ⟨Bx, 1, none⟩ = some (.int .i64 pf) ∧ U.cell? ⟨Bx, 2, none⟩ = some (.int .i64 0) ∧ U.cell? ⟨Bx, 3, none⟩ = some (.int .i64 pi) ∧ U.cell? ⟨Bx, 4, none⟩ = some (.int .i64 pp) ∧ U.cell? ⟨Bx, 5, none⟩ = some (.int .i64 ps) ∧ U.cell? ⟨Bx, 6, none⟩ = some (.string (str pb))) ∧ Below u1.heap.size u1 U) (by kernel_rfl) (hS _ hk0) (fun hHeld => ?_)
  generalize u1.drew = k0 at *
  refine wpAnyH_take (i := 0) (v := ?_) rfl (by kernel_rfl) (by kernel_rfl) (by kernel_rfl) (fun _ _ _ h => h) (Or.inl ⟨by rfl, ?_⟩) (by assumption) ?_
  rotate_left
  focus
    intro U hU
    try dsimp only at hU
    go_simp
    try (with_reducible rfl)
  simp only [List.getElem_toArray, List.getElem_cons_succ, List.getElem_cons_zero, Act.put, List.setIfInBounds_toArray, List.set_cons_zero, List.set_cons_succ]
  refine wpAnyH_take (i := 1) (v := ?_) rfl (by kernel_rfl) (by kernel_rfl) (by kernel_rfl) (fun _ _ _ h => h) (Or.inl ⟨by rfl, ?_⟩) (by assumption) ?_
  rotate_left
  focus
    intro U hU
    try dsimp only at hU
    go_simp
    try (with_reducible rfl)
  simp only [List.getElem_toArray, List.getElem_cons_succ, List.getElem_cons_zero, Act.put, List.setIfInBounds_toArray, List.set_cons_zero, List.set_cons_succ]
  refine wpAnyH_take (i := 2) (v := ?_) rfl (by kernel_rfl) (by kernel_rfl) (by kernel_rfl) (fun _ _ _ h => h) (Or.inl ⟨by rfl, ?_⟩) (by assumption) ?_
  rotate_left
  focus
    intro U hU
    try dsimp only at hU
    go_simp
    try (with_reducible rfl)
  simp only [List.getElem_toArray, List.getElem_cons_succ, List.getElem_cons_zero, Act.put, List.setIfInBounds_toArray, List.set_cons_zero, List.set_cons_succ]
  refine wpAnyH_take (i := 3) (v := ?_) rfl (by kernel_rfl) (by kernel_rfl) (by kernel_rfl) (fun _ _ _ h => h) (Or.inl ⟨by rfl, ?_⟩) (by assumption) ?_
  rotate_left
  focus
    intro U hU
    try dsimp only at hU
    go_simp
    try (with_reducible rfl)
  simp only [List.getElem_toArray, List.getElem_cons_succ, List.getElem_cons_zero, Act.put, List.setIfInBounds_toArray, List.set_cons_zero, List.set_cons_succ]
  refine wpAnyH_take (i := 4) (v := ?_) rfl (by kernel_rfl) (by kernel_rfl) (by kernel_rfl) (fun _ _ _ h => h) (Or.inl ⟨by rfl, ?_⟩) (by assumption) ?_
  rotate_left
  focus
    intro U hU
    try dsimp only at hU
    go_simp
    try (with_reducible rfl)
  simp only [List.getElem_toArray, List.getElem_cons_succ, List.getElem_cons_zero, Act.put, List.setIfInBounds_toArray, List.set_cons_zero, List.set_cons_succ]
  refine wpAnyH_ready (rs := [5, 11]) (by kernel_rfl) (by simp) ?_
  refine (AllReadyH.cons rfl (fun K hK => ?_) (AllReadyH.cons rfl (fun K hK => ?_) AllReadyH.nil))
  · skip
    simp only [List.getElem_toArray, List.getElem_cons_succ, List.getElem_cons_zero]
    go_simp
    refine (HT.out _ (HX.out.keep hk0)).mono ?_
    rintro e u2 ⟨A2, c2, B2, d2, rfl, ho2, hP2, g2⟩
    simp only [ec]
    have hk2 := hk0.trans (g2.mono hk0.size)
    have ho3 := own_mono ho2 (Nat.le_trans HU.out hk0.size)
    have hP3 := own_mono hP2 (Nat.le_trans HU.out hk0.size)
    clear g2 ho2 hP2
    go_wp2_with fail
    refine hK.out _ _ ?_ (fun hHeld2 => ?_)
    focus
      exact hS _ hk2
    clear hHeld
    have hHeld := hHeld2
    clear hHeld2 hK K
    try simp only [List.getElem_toArray, List.getElem_cons_succ, List.getElem_cons_zero, Act.put, List.setIfInBounds_toArray, List.set_cons_zero, List.set_cons_succ]
    refine wpAnyH_take (i := 6) (v := ?_) rfl (by kernel_rfl) (by kernel_rfl) (by kernel_rfl) (fun _ _ _ h => h) (Or.inl ⟨by rfl, ?_⟩) (by assumption) ?_
    rotate_left
    focus
      intro U hU
      try dsimp only at hU
      go_simp
      try (with_reducible rfl)
    simp only [List.getElem_toArray, List.getElem_cons_succ, List.getElem_cons_zero, Act.put, List.setIfInBounds_toArray, List.set_cons_zero, List.set_cons_succ]
    refine wpAnyH_take (i := 7) (v := ?_) rfl (by kernel_rfl) (by kernel_rfl) (by kernel_rfl) (fun _ _ _ h => h) (Or.inl ⟨by rfl, ?_⟩) (by assumption) ?_
    rotate_left
    focus
      intro U hU
      try dsimp only at hU
      go_simp
      try (with_reducible rfl)
    simp only [List.getElem_toArray, List.getElem_cons_succ, List.getElem_cons_zero, Act.put, List.setIfInBounds_toArray, List.set_cons_zero, List.set_cons_succ]
    refine wpAnyH_take (i := 8) (v := ?_) rfl (by kernel_rfl) (by kernel_rfl) (by kernel_rfl) (fun _ _ _ h => h) (Or.inl ⟨by rfl, ?_⟩) (by assumption) ?_
    rotate_left
    focus
      intro U hU
      try dsimp only at hU
      go_simp
      try (with_reducible rfl)
    simp only [List.getElem_toArray, List.getElem_cons_succ, List.getElem_cons_zero, Act.put, List.setIfInBounds_toArray, List.set_cons_zero, List.set_cons_succ]
    refine wpAnyH_take (i := 9) (v := ?_) rfl (by kernel_rfl) (by kernel_rfl) (by kernel_rfl) (fun _ _ _ h => h) (Or.inl ⟨by rfl, ?_⟩) (by assumption) ?_
    rotate_left
    focus
      intro U hU
      try dsimp only at hU
      go_simp
      try (with_reducible rfl)
    simp only [List.getElem_toArray, List.getElem_cons_succ, List.getElem_cons_zero, Act.put, List.setIfInBounds_toArray, List.set_cons_zero, List.set_cons_succ]
    refine wpAnyH_take (i := 10) (v := ?_) rfl (by kernel_rfl) (by kernel_rfl) (by kernel_rfl) (fun _ _ _ h => h) (Or.inl ⟨by rfl, ?_⟩) (by assumption) ?_
    rotate_left
    focus
      intro U hU
      try dsimp only at hU
      go_simp
      try (with_reducible rfl)
    simp only [List.getElem_toArray, List.getElem_cons_succ, List.getElem_cons_zero, Act.put, List.setIfInBounds_toArray, List.set_cons_zero, List.set_cons_succ]
    refine wpAnyH_ready (rs := [11]) (by kernel_rfl) (by simp) ?_
    refine (AllReadyH.cons rfl (fun K hK => ?_) AllReadyH.nil)
    simp only [List.getElem_toArray, List.getElem_cons_succ, List.getElem_cons_zero]
    go_simp
    refine hK.out _ _ ?_ (fun hHeld2 => ?_)
    focus
      exact hS _ (hk2.alloc hk2.size _)
    clear hHeld
    have hHeld := hHeld2
    clear hHeld2 hK K
    try simp only [List.getElem_toArray, List.getElem_cons_succ, List.getElem_cons_zero, Act.put, List.setIfInBounds_toArray, List.set_cons_zero, List.set_cons_succ]
    have hbn : Below (World.heap u2).size u2 (World.alloc u2 (.cells #[.int .i64 0, .int .i64 0, .int .i64 0, .int .i64 0, .int .i64 0, .slice none 0 0, .int .i64 0, .int .i64 0, .int .i64 0, .int .i64 0, .int .i64 0] 54)) := (Below.refl _ _).alloc (Nat.le_refl _) _
    have hk3 := hk2.trans (hbn.mono hk2.size)
    have hz3 := heap_alloc_new u2 (.cells #[.int .i64 0, .int .i64 0, .int .i64 0, .int .i64 0, .int .i64 0, .slice none 0 0, .int .i64 0, .int .i64 0, .int .i64 0, .int .i64 0, .int .i64 0] 54)
    have hle : u1.heap.size ≤ (World.heap u2).size := hk2.size
    have ho4 := own_keep ho3 hbn
    have hP4 := own_keep hP3 hbn
    clear hbn
    generalize World.alloc u2 (.cells #[.int .i64 0, .int .i64 0, .int .i64 0, .int .i64 0, .int .i64 0, .slice none 0 0, .int .i64 0, .int .i64 0, .int .i64 0, .int .i64 0, .int .i64 0] 54) = k9 at *
    generalize (World.heap u2).size = Zb at *
    have hxv := HX.out.keep hk3
    have hxw := hxv.other hz3 (by omega) (Nat.le_trans HU.out hle) (.int .i64 f2) (.int .i64 t2) (.int .i64 i2) (.int .i64 p2) (.int .i64 q2) (.slice A2 l2.length c2) (.int .i64 w2') (.int .i64 fl2) (.int .i64 m2) (.int .i64 gp2) (.int .i64 gl2)
    have hk4 := put11_below hk3 hle (.int .i64 f2) (.int .i64 t2) (.int .i64 i2) (.int .i64 p2) (.int .i64 q2) (.slice A2 l2.length c2) (.int .i64 w2') (.int .i64 fl2) (.int .i64 m2) (.int .i64 gp2) (.int .i64 gl2)
    have hzw := put11_heap hz3 (.int .i64 f2) (.int .i64 t2) (.int .i64 i2) (.int .i64 p2) (.int .i64 q2) (.slice A2 l2.length c2) (.int .i64 w2') (.int .i64 fl2) (.int .i64 m2) (.int .i64 gp2) (.int .i64 gl2)
    have how := own_at ho4 hz3 (by decide) fun g hg => put11_other (b := Zb) hg (.int .i64 f2) (.int .i64 t2) (.int .i64 i2) (.int .i64 p2) (.int .i64 q2) (.slice A2 l2.length c2) (.int .i64 w2') (.int .i64 fl2) (.int .i64 m2) (.int .i64 gp2) (.int .i64 gl2)
    have hPw := own_at hP4 hz3 (by decide) fun g hg => put11_other (b := Zb) hg (.int .i64 f2) (.int .i64 t2) (.int .i64 i2) (.int .i64 p2) (.int .i64 q2) (.slice A2 l2.length c2) (.int .i64 w2') (.int .i64 fl2) (.int .i64 m2) (.int .i64 gp2) (.int .i64 gl2)
    obtain ⟨_, ⟨zf0, zf1, zf2, zf3, zf4, zf5, zf6, zf7, zf8, zf9, zf10⟩⟩ := eleven_cells hz3
    simp only [put11] at hk4 hxw hzw how hPw
    clear hxv
    refine wpAnyH_ready (rs := [12]) (by kernel_rfl) (by simp) ?_
    refine AllReadyH.cons rfl (fun K hK => ?_) AllReadyH.nil
    simp only [List.getElem_toArray, List.getElem_cons_succ, List.getElem_cons_zero]
    go_simp
    refine hK.out _ _ ?_ (fun hHeld2 => ?_)
    focus
      exact hS _ hk4
    clear hHeld
    have hHeld := hHeld2
    clear hHeld2 hK K
    try simp only [List.getElem_toArray, List.getElem_cons_succ, List.getElem_cons_zero, Act.put, List.setIfInBounds_toArray, List.set_cons_zero, List.set_cons_succ]
    refine wpAnyH_take (i := 13) (v := ?_) rfl (by kernel_rfl) (by kernel_rfl) (by kernel_rfl) (fun _ _ _ h => h) (Or.inl ⟨by rfl, ?_⟩) (by assumption) ?_
    rotate_left
    focus
      intro U hU
      try dsimp only at hU
      go_simp
      try (with_reducible rfl)
    simp only [List.getElem_toArray, List.getElem_cons_succ, List.getElem_cons_zero, Act.put, List.setIfInBounds_toArray, List.set_cons_zero, List.set_cons_succ]
    refine wpAnyH_take (i := 14) (v := ?_) rfl (by kernel_rfl) (by kernel_rfl) (by kernel_rfl) (fun _ _ _ h => h) (Or.inl ⟨by rfl, ?_⟩) (by assumption) ?_
    rotate_left
    focus
      intro U hU
      try dsimp only at hU
      go_simp
      try (with_reducible rfl)
    simp only [List.getElem_toArray, List.getElem_cons_succ, List.getElem_cons_zero, Act.put, List.setIfInBounds_toArray, List.set_cons_zero, List.set_cons_succ]
    refine wpAnyH_take (i := 15) (v := ?_) rfl (by kernel_rfl) (by kernel_rfl) (by kernel_rfl) (fun _ _ _ h => h) (Or.inl ⟨by rfl, ?_⟩) (by assumption) ?_
    rotate_left
    focus
      intro U hU
      try dsimp only at hU
      go_simp
      try (with_reducible rfl)
    simp only [List.getElem_toArray, List.getElem_cons_succ, List.getElem_cons_zero, Act.put, List.setIfInBounds_toArray, List.set_cons_zero, List.set_cons_succ]
    refine wpAnyH_done (by kernel_rfl) ?_ _
    clear hHeld hS zf0 zf1 zf2 zf3 zf4 zf5 zf6 zf7 zf8 zf9 zf10
    go_upto_region 6 with (fail)
    refine at_world (fun v => v.heap[Zb]? = some (.cells (ec ⟨f2, t2, i2, ⟨p2, q2, l2, w2', fl2⟩, m2, gp2, gl2⟩ A2 c2) 54 (0, 0)) ∧ PX W v g x A ca B cb D cd ∧ v.ownsRow W.heap.size 9 1 (.slice A2 l2.length c2) l2.length (scells l2) ∧ OwnP W v (.slice B2 l.length d2) l) ⟨hzw, hxw, how, hPw⟩ ?_
    clear hzw hxw how hPw hk4
    rintro w3 ⟨ht3, hx3, ho3', hP3'⟩
    obtain ⟨⟨zq0, zq1, zq2, zq3, zq4, zq5, zq6, zq7, zq8, zq9, zq10⟩, _⟩ := eleven_cells ht3
    have hg3 := hx3.1
    simp only [prc] at hg3
    obtain ⟨_, ⟨cg0, cg1, cg2, cg3, cg4, cg5, cg6, cg7, cg8, cg9, cg10, cg11, cg12, cg13, cg14, cg15, cg16, cg17, cg18, cg19, cg20, cg21, cg22, cg23, cg24, cg25, cg26, cg27⟩⟩ := pair_cells hg3
    have HS := hid (hx3.setA (e := ⟨f2, t2, i2, ⟨p2, q2, l2, w2', fl2⟩, m2, gp2, gl2⟩) ho3')
    have HP3 := hid (own_at hP3' hx3.1 (by decide) fun j hj => putA_other hj (.int .i64 f2) (.int .i64 t2) (.int .i64 i2) (.int .i64 p2) (.int .i64 q2) (.slice A2 l2.length c2) (.int .i64 w2') (.int .i64 fl2) (.int .i64 m2) (.int .i64 gp2) (.int .i64 gl2))
    clear ht3 hx3 ho3' hP3' hg3
    go_upto_region 7 with (fail)
    refine at_world (fun u => PX W u g (setPA x ⟨f2, t2, i2, ⟨p2, q2, l2, w2', fl2⟩, m2, gp2, gl2⟩) A2 c2 B cb D cd ∧ OwnP W u (.slice B2 l.length d2) l) ⟨HS.out, HP3.out⟩ ?_
    clear zq0 zq1 zq2 zq3 zq4 zq5 zq6 zq7 zq8 zq9 zq10 cg0 cg1 cg2 cg3 cg4 cg5 cg6 cg7 cg8 cg9 cg10 cg11 cg12 cg13 cg14 cg15 cg16 cg17 cg18 cg19 cg20 cg21 cg22 cg23 cg24 cg25 cg26 cg27 HS HP3
    rintro w4 ⟨hx5, hP5⟩
    cases got with
    | false =>
      have HR : Hid (comesV ⟨x.a, x.b, x.w, x.p0, x.p1, x.c0, x.c1, x.ok⟩ ⟨pk, pf, 0, pi, pp, ps, pb⟩ = addW (setPA x ⟨f2, t2, i2, ⟨p2, q2, l2, w2', fl2⟩, m2, gp2, gl2⟩) l) := hid (by rw [HV.out]; rfl)
      have hg5 := hx5.1
      simp only [prc, setPA] at hg5
      obtain ⟨⟨cp0, cp1, cp2, cp3, cp4, cp5, cp6, cp7, cp8, cp9, cp10, cp11, cp12, cp13, cp14, cp15, cp16, cp17, cp18, cp19, cp20, cp21, cp22, cp23, cp24, cp25, cp26, cp27⟩, ⟨cg0, cg1, cg2, cg3, cg4, cg5, cg6, cg7, cg8, cg9, cg10, cg11, cg12, cg13, cg14, cg15, cg16, cg17, cg18, cg19, cg20, cg21, cg22, cg23, cg24, cg25, cg26, cg27⟩⟩ := pair_cells hg5
      have HX5 := hid hx5
      have hsl5 := sl_own hP5
      have hwl : x.w.length ≤ 100000 := HWL.out
      have htl : l.length ≤ 2 := HTL.out
      have hbe := hx5.2.2.2.2.2.size
      clear hg5 hx5 hP5
      go_wp2_with (at_builtin; refine wpList_append_slk rfl (.tmp 103) (.tmp 104) 56 rfl W.heap.size 71 Try.underlying56 info_pkt rfl (by omega) rfl HX5.out.2.2.2.2.1 rfl hsl5 (pkc_one _) (by show x.w.length + _ ≤ _; unfold maxLen; omega) (by show (x.w.length + _) * 64 ≤ _; omega) hbe ?_)
      intro v6 w6 ho6 hb6 hsz6 hk6
      obtain ⟨D6, d6, rfl, _⟩ := Mid.form ho6
      have HF := hid (HX5.out.app ho6 hb6 hk6)
      have hg6 := (hk6 g HX5.out.2.1 (lt_of_block HX5.out.1) (mid_blk_ne HX5.out.2.2.2.2.1 HX5.out.1 (by decide))).trans HX5.out.1
      simp only [prc, setPA] at hg6
      clear cp0 cp1 cp2 cp3 cp4 cp5 cp6 cp7 cp8 cp9 cp10 cp11 cp12 cp13 cp14 cp15 cp16 cp17 cp18 cp19 cp20 cp21 cp22 cp23 cp24 cp25 cp26 cp27 cg0 cg1 cg2 cg3 cg4 cg5 cg6 cg7 cg8 cg9 cg10 cg11 cg12 cg13 cg14 cg15 cg16 cg17 cg18 cg19 cg20 cg21 cg22 cg23 cg24 cg25 cg26 cg27 ho6 hb6 hsz6 hk6 HX5 hsl5
      obtain ⟨_, ⟨cg0, cg1, cg2, cg3, cg4, cg5, cg6, cg7, cg8, cg9, cg10, cg11, cg12, cg13, cg14, cg15, cg16, cg17, cg18, cg19, cg20, cg21, cg22, cg23, cg24, cg25, cg26, cg27⟩⟩ := pair_cells hg6
      clear hg6
      go_wp2
      go_end0
      exact ⟨⟨_, rfl⟩, by rw [HR.out]; exact ⟨_, _, _, _, _, _, HF.out⟩⟩
    | true =>
      obtain ⟨rfl, hlt⟩ := HGOT.out rfl
      have HR : Hid (comesV ⟨x.a, x.b, x.w, x.p0, x.p1, x.c0, x.c1, x.ok⟩ ⟨pk, pf, 0, pi, pp, ps, pb⟩ = addW (upC1 (setPA x ⟨f2, t2, i2, ⟨p2, q2, l2, w2', fl2⟩, m2, gp2, gl2⟩)) l) := hid (by rw [HV.out]; rfl)
      have hd : decide (x.c1 < x.p1) = true := decide_eq_true hlt
      clear hlt
      go_upto_region 17 with (fail)
      have hxd := hx5.keep (below_drew (Below.refl _ _))
      have hPd := own_keep hP5 (below_drew (Below.refl w4.heap.size w4))
      clear hx5 hP5
      have hS17 : ∀ U, PX W U g (setPA x ⟨f2, t2, i2, ⟨p2, q2, l2, w2', fl2⟩, m2, gp2, gl2⟩) A2 c2 B cb D cd ∧ OwnP W U (.slice B2 l.length d2) l → ((U.cell? ⟨g, 27, none⟩ = some (.bool true) ∧ U.cell? ⟨g, 26, none⟩ = some (.int .i64 x.c1) ∧ U.cell? ⟨g, 24, none⟩ = some (.int .i64 x.p1)) ∧ PX W U g (setPA x ⟨f2, t2, i2, ⟨p2, q2, l2, w2', fl2⟩, m2, gp2, gl2⟩) A2 c2 B cb D cd ∧ OwnP W U (.slice B2 l.length d2) l) := fun U hU => by
        have h9 := hU.1.1
        simp only [prc, setPA] at h9
        have h8 := (pair_cells h9).1
        rw [hok] at h8
        exact ⟨⟨h8.2.2.2.2.2.2.2.2.2.2.2.2.2.2.2.2.2.2.2.2.2.2.2.2.2.2.2, h8.2.2.2.2.2.2.2.2.2.2.2.2.2.2.2.2.2.2.2.2.2.2.2.2.2.2.1, h8.2.2.2.2.2.2.2.2.2.2.2.2.2.2.2.2.2.2.2.2.2.2.2.2.1⟩, hU⟩
      have hF17 : w4.drew.frozen? ⟨g, 27, none⟩ = false := by
        have h9 := hxd.1
        simp only [prc, setPA] at h9
        exact (pair_cells h9).2.2.2.2.2.2.2.2.2.2.2.2.2.2.2.2.2.2.2.2.2.2.2.2.2.2.2.2
      have hbe := HBE.out
      refine wp_region_held_drew (S := fun U => (U.cell? ⟨g, 27, none⟩ = some (.bool true) ∧ U.cell? ⟨g, 26, none⟩ = some (.int .i64 x.c1) ∧ U.cell? ⟨g, 24, none⟩ = some (.int .i64 x.p1)) ∧ PX W U g (setPA x ⟨f2, t2, i2, ⟨p2, q2, l2, w2', fl2⟩, m2, gp2, gl2⟩) A2 c2 B cb D cd ∧ OwnP W U (.slice B2 l.length d2) l) (by kernel_rfl) (hS17 _ ⟨hxd, hPd⟩) (fun hHeld => ?_)
      generalize w4.drew = q0 at *
      refine wpAnyH_take (i := 0) (v := ?_) rfl (by kernel_rfl) (by kernel_rfl) (by kernel_rfl) (fun _ _ _ h => h) (Or.inl ⟨by rfl, ?_⟩) (by assumption) ?_
      rotate_left
      focus
        intro U hU
        try dsimp only at hU
        go_simp
        try (with_reducible rfl)
      simp only [List.getElem_toArray, List.getElem_cons_succ, List.getElem_cons_zero, Act.put, List.setIfInBounds_toArray, List.set_cons_zero, List.set_cons_succ]
      refine wpAnyH_take (i := 1) (v := ?_) rfl (by kernel_rfl) (by kernel_rfl) (by kernel_rfl) (fun _ _ _ h => h) (Or.inl ⟨by rfl, ?_⟩) (by assumption) ?_
      rotate_left
      focus
        intro U hU
        try dsimp only at hU
        go_simp
        try (with_reducible rfl)
      simp only [List.getElem_toArray, List.getElem_cons_succ, List.getElem_cons_zero, Act.put, List.setIfInBounds_toArray, List.set_cons_zero, List.set_cons_succ]
      refine wpAnyH_take (i := 2) (v := ?_) rfl (by kernel_rfl) (by kernel_rfl) (by kernel_rfl) (fun _ _ _ h => h) (Or.inl ⟨by rfl, ?_⟩) (by assumption) ?_
      rotate_left
      focus
        intro U hU
        try dsimp only at hU
        go_simp
        try (with_reducible rfl)
      simp only [List.getElem_toArray, List.getElem_cons_succ, List.getElem_cons_zero, Act.put, List.setIfInBounds_toArray, List.set_cons_zero, List.set_cons_succ]
      refine wpAnyH_take (i := 3) (v := ?_) rfl (by kernel_rfl) (by kernel_rfl) (by kernel_rfl) (fun _ _ _ h => h) (Or.inl ⟨by rfl, ?_⟩) (by assumption) ?_
      rotate_left
      focus
        intro U hU
        try dsimp only at hU
        go_simp
        try (with_reducible rfl)
      simp only [List.getElem_toArray, List.getElem_cons_succ, List.getElem_cons_zero, Act.put, List.setIfInBounds_toArray, List.set_cons_zero, List.set_cons_succ]
      refine wpAnyH_take (i := 4) (v := ?_) rfl (by kernel_rfl) (by kernel_rfl) (by kernel_rfl) (fun _ _ _ h => h) (Or.inl ⟨by rfl, ?_⟩) (by assumption) ?_
      rotate_left
      focus
        intro U hU
        try dsimp only at hU
        go_simp
        try (with_reducible rfl)
      simp only [List.getElem_toArray, List.getElem_cons_succ, List.getElem_cons_zero, Act.put, List.setIfInBounds_toArray, List.set_cons_zero, List.set_cons_succ]
      refine wpAnyH_take (i := 5) (v := ?_) rfl (by kernel_rfl) (by kernel_rfl) (by kernel_rfl) (fun _ _ _ h => h) (Or.inl ⟨by rfl, ?_⟩) (by assumption) ?_
      rotate_left
      focus
        intro U hU
        try dsimp only at hU
        go_simp
        try (with_reducible rfl)
      simp only [List.getElem_toArray, List.getElem_cons_succ, List.getElem_cons_zero, Act.put, List.setIfInBounds_toArray, List.set_cons_zero, List.set_cons_succ]
      refine wpAnyH_take (i := 6) (v := ?_) rfl (by kernel_rfl) (by kernel_rfl) (by kernel_rfl) (fun _ _ _ h => h) (Or.inl ⟨by rfl, ?_⟩) (by assumption) ?_
      rotate_left
      focus
        intro U hU
        try dsimp only at hU
        go_simp
        try (with_reducible rfl)
      simp only [List.getElem_toArray, List.getElem_cons_succ, List.getElem_cons_zero, Act.put, List.setIfInBounds_toArray, List.set_cons_zero, List.set_cons_succ]
      refine wpAnyH_take (i := 7) (v := ?_) rfl (by kernel_rfl) (by kernel_rfl) (by kernel_rfl) (fun _ _ _ h => h) (Or.inl ⟨by rfl, ?_⟩) (by assumption) ?_
      rotate_left
      focus
        intro U hU
        try dsimp only at hU
        go_simp
        try (with_reducible rfl)
      simp only [List.getElem_toArray, List.getElem_cons_succ, List.getElem_cons_zero, Act.put, List.setIfInBounds_toArray, List.set_cons_zero, List.set_cons_succ]
      refine wpAnyH_take (i := 8) (v := ?_) rfl (by kernel_rfl) (by kernel_rfl) (by kernel_rfl) (fun _ _ _ h => h) (Or.inl ⟨by rfl, ?_⟩) (by assumption) ?_
      rotate_left
      focus
        intro U hU
        try dsimp only at hU
        go_simp
        try (with_reducible rfl)
      simp only [List.getElem_toArray, List.getElem_cons_succ, List.getElem_cons_zero, Act.put, List.setIfInBounds_toArray, List.set_cons_zero, List.set_cons_succ]
      refine wpAnyH_take (i := 9) (v := ?_) rfl (by kernel_rfl) (by kernel_rfl) (by kernel_rfl) (fun _ _ _ h => h) (Or.inl ⟨by rfl, ?_⟩) (by assumption) ?_
      rotate_left
      focus
        intro U hU
        try dsimp only at hU
        go_simp
        try (with_reducible rfl)
      simp only [List.getElem_toArray, List.getElem_cons_succ, List.getElem_cons_zero, Act.put, List.setIfInBounds_toArray, List.set_cons_zero, List.set_cons_succ]
      refine wpAnyH_take (i := 10) (v := ?_) rfl (by kernel_rfl) (by kernel_rfl) (by kernel_rfl) (fun _ _ _ h => h) (Or.inl ⟨by rfl, ?_⟩) (by assumption) ?_
      rotate_left
      focus
        intro U hU
        try dsimp only at hU
        go_simp
        try (with_reducible rfl)
      simp only [List.getElem_toArray, List.getElem_cons_succ, List.getElem_cons_zero, Act.put, List.setIfInBounds_toArray, List.set_cons_zero, List.set_cons_succ]
      refine wpAnyH_take (i := 11) (v := ?_) rfl (by kernel_rfl) (by kernel_rfl) (by kernel_rfl) (fun _ _ _ h => h) (Or.inl ⟨by rfl, ?_⟩) (by assumption) ?_
      rotate_left
      focus
        intro U hU
        try dsimp only at hU
        go_simp
        try (with_reducible rfl)
      simp only [List.getElem_toArray, List.getElem_cons_succ, List.getElem_cons_zero, Act.put, List.setIfInBounds_toArray, List.set_cons_zero, List.set_cons_succ]
      refine wpAnyH_take (i := 12) (v := ?_) rfl (by kernel_rfl) (by kernel_rfl) (by kernel_rfl) (fun _ _ _ h => h) (Or.inl ⟨by rfl, ?_⟩) (by assumption) ?_
      rotate_left
      focus
        intro U hU
        try dsimp only at hU
        go_simp
        try (with_reducible rfl)
      simp only [List.getElem_toArray, List.getElem_cons_succ, List.getElem_cons_zero, Act.put, List.setIfInBounds_toArray, List.set_cons_zero, List.set_cons_succ]
      refine wpAnyH_ready (rs := [13]) (by kernel_rfl) (by simp) ?_
      refine AllReadyH.cons rfl (fun K hK => ?_) AllReadyH.nil
      simp only [List.getElem_toArray, List.getElem_cons_succ, List.getElem_cons_zero]
      go_simp
      refine (HNM.out _).mono ?_
      rintro e u5 ⟨rfl, hq5⟩
      have hx6 := hxd.keep hq5
      have hP6 := own_keep hPd hq5
      have hF6 : u5.frozen? ⟨g, 27, none⟩ = false := by
        have h9 := hx6.1
        simp only [prc, setPA] at h9
        exact (pair_cells h9).2.2.2.2.2.2.2.2.2.2.2.2.2.2.2.2.2.2.2.2.2.2.2.2.2.2.2.2
      have hx7 := hx6.cellUp 27 (.bool true) (y := setPA x ⟨f2, t2, i2, ⟨p2, q2, l2, w2', fl2⟩, m2, gp2, gl2⟩) rfl rfl rfl (by rw [show Value.bool true = .bool x.ok by rw [hok]]; rfl)
      have hP7 := own_at hP6 hx6.1 (by decide) fun j hj => Below.heap_setCell u5 ⟨g, 27, none⟩ (.bool true) j hj
      clear hxd hPd hF17
      go_wp2_with fail
      refine hK.out _ _ ?_ (fun hHeld2 => ?_)
      focus
        exact hS17 _ ⟨hx6, hP6⟩
      clear hHeld
      have hHeld := hHeld2
      clear hHeld2 hK K
      try simp only [List.getElem_toArray, List.getElem_cons_succ, List.getElem_cons_zero, Act.put, List.setIfInBounds_toArray, List.set_cons_zero, List.set_cons_succ]
      refine wpAnyH_take (i := 14) (v := ?_) rfl (by kernel_rfl) (by kernel_rfl) (by kernel_rfl) (fun _ _ _ h => h) (Or.inl ⟨by rfl, ?_⟩) (by assumption) ?_
      rotate_left
      focus
        intro U hU
        try dsimp only at hU
        go_simp
        try (with_reducible rfl)
      simp only [List.getElem_toArray, List.getElem_cons_succ, List.getElem_cons_zero, Act.put, List.setIfInBounds_toArray, List.set_cons_zero, List.set_cons_succ]
      refine wpAnyH_take (i := 15) (v := ?_) rfl (by kernel_rfl) (by kernel_rfl) (by kernel_rfl) (fun _ _ _ h => h) (Or.inl ⟨by rfl, ?_⟩) (by assumption) ?_
      rotate_left
      focus
        intro U hU
        try dsimp only at hU
        go_simp
        try (with_reducible rfl)
      simp only [List.getElem_toArray, List.getElem_cons_succ, List.getElem_cons_zero, Act.put, List.setIfInBounds_toArray, List.set_cons_zero, List.set_cons_succ]
      refine wpAnyH_take (i := 16) (v := ?_) rfl (by kernel_rfl) (by kernel_rfl) (by kernel_rfl) (fun _ _ _ h => h) (Or.inl ⟨by rfl, ?_⟩) (by assumption) ?_
      rotate_left
      focus
        intro U hU
        try dsimp only at hU
        go_simp
        try (with_reducible rfl)
      simp only [List.getElem_toArray, List.getElem_cons_succ, List.getElem_cons_zero, Act.put, List.setIfInBounds_toArray, List.set_cons_zero, List.set_cons_succ]
      refine wpAnyH_take (i := 17) (v := ?_) rfl (by kernel_rfl) (by kernel_rfl) (by kernel_rfl) (fun _ _ _ h => h) (Or.inl ⟨by rfl, ?_⟩) (by assumption) ?_
      rotate_left
      focus
        intro U hU
        try dsimp only at hU
        go_simp
        try (with_reducible rfl)
      simp only [List.getElem_toArray, List.getElem_cons_succ, List.getElem_cons_zero, Act.put, List.setIfInBounds_toArray, List.set_cons_zero, List.set_cons_succ]
      refine wpAnyH_take (i := 18) (v := ?_) rfl (by kernel_rfl) (by kernel_rfl) (by kernel_rfl) (fun _ _ _ h => h) (Or.inl ⟨by rfl, ?_⟩) (by assumption) ?_
      rotate_left
      focus
        intro U hU
        try dsimp only at hU
        go_simp
        try (with_reducible rfl)
      simp only [List.getElem_toArray, List.getElem_cons_succ, List.getElem_cons_zero, Act.put, List.setIfInBounds_toArray, List.set_cons_zero, List.set_cons_succ]
      refine wpAnyH_take (i := 19) (v := ?_) rfl (by kernel_rfl) (by kernel_rfl) (by kernel_rfl) (fun _ _ _ h => h) (Or.inl ⟨by rfl, ?_⟩) (by assumption) ?_
      rotate_left
      focus
        intro U hU
        try dsimp only at hU
        go_simp
        try (with_reducible rfl)
      simp only [List.getElem_toArray, List.getElem_cons_succ, List.getElem_cons_zero, Act.put, List.setIfInBounds_toArray, List.set_cons_zero, List.set_cons_succ]
      refine wpAnyH_take (i := 20) (v := ?_) rfl (by kernel_rfl) (by kernel_rfl) (by kernel_rfl) (fun _ _ _ h => h) (Or.inl ⟨by rfl, ?_⟩) (by assumption) ?_
      rotate_left
      focus
        intro U hU
        try dsimp only at hU
        go_simp
        try (with_reducible rfl)
      simp only [List.getElem_toArray, List.getElem_cons_succ, List.getElem_cons_zero, Act.put, List.setIfInBounds_toArray, List.set_cons_zero, List.set_cons_succ]
      refine wpAnyH_take (i := 21) (v := ?_) rfl (by kernel_rfl) (by kernel_rfl) (by kernel_rfl) (fun _ _ _ h => h) (Or.inl ⟨by rfl, ?_⟩) (by assumption) ?_
      rotate_left
      focus
        intro U hU
        try dsimp only at hU
        go_simp
        try (with_reducible rfl)
      simp only [List.getElem_toArray, List.getElem_cons_succ, List.getElem_cons_zero, Act.put, List.setIfInBounds_toArray, List.set_cons_zero, List.set_cons_succ]
      refine wpAnyH_take (i := 22) (v := ?_) rfl (by kernel_rfl) (by kernel_rfl) (by kernel_rfl) (fun _ _ _ h => h) (Or.inl ⟨by rfl, ?_⟩) (by assumption) ?_
      rotate_left
      focus
        intro U hU
        try dsimp only at hU
        go_simp
        try (with_reducible rfl)
      simp only [List.getElem_toArray, List.getElem_cons_succ, List.getElem_cons_zero, Act.put, List.setIfInBounds_toArray, List.set_cons_zero, List.set_cons_succ]
      refine wpAnyH_take (i := 23) (v := ?_) rfl (by kernel_rfl) (by kernel_rfl) (by kernel_rfl) (fun _ _ _ h => h) (Or.inl ⟨by rfl, ?_⟩) (by assumption) ?_
      rotate_left
      focus
        intro U hU
        try dsimp only at hU
        go_simp
        try (with_reducible rfl)
      simp only [List.getElem_toArray, List.getElem_cons_succ, List.getElem_cons_zero, Act.put, List.setIfInBounds_toArray, List.set_cons_zero, List.set_cons_succ]
      refine wpAnyH_take (i := 24) (v := ?_) rfl (by kernel_rfl) (by kernel_rfl) (by kernel_rfl) (fun _ _ _ h => h) (Or.inl ⟨by rfl, ?_⟩) (by assumption) ?_
      rotate_left
      focus
        intro U hU
        try dsimp only at hU
        go_simp
        try (with_reducible rfl)
      simp only [List.getElem_toArray, List.getElem_cons_succ, List.getElem_cons_zero, Act.put, List.setIfInBounds_toArray, List.set_cons_zero, List.set_cons_succ]
      refine wpAnyH_take (i := 25) (v := ?_) rfl (by kernel_rfl) (by kernel_rfl) (by kernel_rfl) (fun _ _ _ h => h) (Or.inl ⟨by rfl, ?_⟩) (by assumption) ?_
      rotate_left
      focus
        intro U hU
        try dsimp only at hU
        go_simp
        try (with_reducible rfl)
      simp only [List.getElem_toArray, List.getElem_cons_succ, List.getElem_cons_zero, Act.put, List.setIfInBounds_toArray, List.set_cons_zero, List.set_cons_succ]
      refine wpAnyH_take (i := 26) (v := ?_) rfl (by kernel_rfl) (by kernel_rfl) (by kernel_rfl) (fun _ _ _ h => h) (Or.inl ⟨by rfl, ?_⟩) (by assumption) ?_
      rotate_left
      focus
        intro U hU
        try dsimp only at hU
        go_simp
        try (with_reducible rfl)
      simp only [List.getElem_toArray, List.getElem_cons_succ, List.getElem_cons_zero, Act.put, List.setIfInBounds_toArray, List.set_cons_zero, List.set_cons_succ]
      refine wpAnyH_take (i := 27) (v := ?_) rfl (by kernel_rfl) (by kernel_rfl) (by kernel_rfl) (fun _ _ _ h => h) (Or.inl ⟨by rfl, ?_⟩) (by assumption) ?_
      rotate_left
      focus
        intro U hU
        try dsimp only at hU
        go_simp
        try (with_reducible rfl)
      simp only [List.getElem_toArray, List.getElem_cons_succ, List.getElem_cons_zero, Act.put, List.setIfInBounds_toArray, List.set_cons_zero, List.set_cons_succ]
      refine wpAnyH_take (i := 28) (v := ?_) rfl (by kernel_rfl) (by kernel_rfl) (by kernel_rfl) (fun _ _ _ h => h) (Or.inl ⟨by rfl, ?_⟩) (by assumption) ?_
      rotate_left
      focus
        intro U hU
        try dsimp only at hU
        go_simp
        try (with_reducible rfl)
      simp only [List.getElem_toArray, List.getElem_cons_succ, List.getElem_cons_zero, Act.put, List.setIfInBounds_toArray, List.set_cons_zero, List.set_cons_succ]
      refine wpAnyH_take (i := 29) (v := ?_) rfl (by kernel_rfl) (by kernel_rfl) (by kernel_rfl) (fun _ _ _ h => h) (Or.inl ⟨by rfl, ?_⟩) (by assumption) ?_
      rotate_left
      focus
        intro U hU
        try dsimp only at hU
        go_simp
        try (with_reducible rfl)
      simp only [List.getElem_toArray, List.getElem_cons_succ, List.getElem_cons_zero, Act.put, List.setIfInBounds_toArray, List.set_cons_zero, List.set_cons_succ]
      refine wpAnyH_take (i := 30) (v := ?_) rfl (by kernel_rfl) (by kernel_rfl) (by kernel_rfl) (fun _ _ _ h => h) (Or.inl ⟨by rfl, ?_⟩) (by assumption) ?_
      rotate_left
      focus
        intro U hU
        try dsimp only at hU
        go_simp
        try (with_reducible rfl)
      simp only [List.getElem_toArray, List.getElem_cons_succ, List.getElem_cons_zero, Act.put, List.setIfInBounds_toArray, List.set_cons_zero, List.set_cons_succ]
      refine wpAnyH_take (i := 31) (v := ?_) rfl (by kernel_rfl) (by kernel_rfl) (by kernel_rfl) (fun _ _ _ h => h) (Or.inl ⟨by rfl, ?_⟩) (by assumption) ?_
      rotate_left
      focus
        intro U hU
        try dsimp only at hU
        go_simp
        try (with_reducible rfl)
      simp only [List.getElem_toArray, List.getElem_cons_succ, List.getElem_cons_zero, Act.put, List.setIfInBounds_toArray, List.set_cons_zero, List.set_cons_succ]
      refine wpAnyH_take (i := 32) (v := ?_) rfl (by kernel_rfl) (by kernel_rfl) (by kernel_rfl) (fun _ _ _ h => h) (Or.inl ⟨by rfl, ?_⟩) (by assumption) ?_
      rotate_left
      focus
        intro U hU
        try dsimp only at hU
        go_simp
        try (with_reducible rfl)
      simp only [List.getElem_toArray, List.getElem_cons_succ, List.getElem_cons_zero, Act.put, List.setIfInBounds_toArray, List.set_cons_zero, List.set_cons_succ]
      refine wpAnyH_ready (rs := [33]) (by kernel_rfl) (by simp) ?_
      refine AllReadyH.cons rfl (fun K hK => ?_) AllReadyH.nil
      simp only [List.getElem_toArray, List.getElem_cons_succ, List.getElem_cons_zero]
      go_simp
      refine hK.out _ _ ?_ (fun hHeld2 => ?_)
      focus
        exact hS17 _ ⟨hx7, hP7⟩
      clear hHeld
      have hHeld := hHeld2
      clear hHeld2 hK K
      try simp only [List.getElem_toArray, List.getElem_cons_succ, List.getElem_cons_zero, Act.put, List.setIfInBounds_toArray, List.set_cons_zero, List.set_cons_succ]
      refine wpAnyH_done (by kernel_rfl) ?_ _
      clear hHeld hS17 hbe hF6 hd hx6 hP6
      go_upto_region 18 with (fail)
      refine at_world (fun u => PX W u g (setPA x ⟨f2, t2, i2, ⟨p2, q2, l2, w2', fl2⟩, m2, gp2, gl2⟩) A2 c2 B cb D cd ∧ OwnP W u (.slice B2 l.length d2) l) ⟨hx7, hP7⟩ ?_
      clear hx7 hP7
      rintro w8 ⟨hx8, hP8⟩
      go_upto_region 18 with (fail)
      have hxd := hx8.keep (below_drew (Below.refl _ _))
      have hPd := own_keep hP8 (below_drew (Below.refl w8.heap.size w8))
      clear hx8 hP8
      refine wp_region_held_drew (S := fun U => True) (by kernel_rfl) trivial (fun hHeld => ?_)
      generalize w8.drew = q1 at *
      have hgd := hxd.1
      simp only [prc, setPA] at hgd
      obtain ⟨⟨cp0, cp1, cp2, cp3, cp4, cp5, cp6, cp7, cp8, cp9, cp10, cp11, cp12, cp13, cp14, cp15, cp16, cp17, cp18, cp19, cp20, cp21, cp22, cp23, cp24, cp25, cp26, cp27⟩, ⟨cg0, cg1, cg2, cg3, cg4, cg5, cg6, cg7, cg8, cg9, cg10, cg11, cg12, cg13, cg14, cg15, cg16, cg17, cg18, cg19, cg20, cg21, cg22, cg23, cg24, cg25, cg26, cg27⟩⟩ := pair_cells hgd
      have hup := hxd.cellUp 26 (.int .i64 (x.c1 + 1)) (y := upC1 (setPA x ⟨f2, t2, i2, ⟨p2, q2, l2, w2', fl2⟩, m2, gp2, gl2⟩)) rfl rfl rfl rfl
      have hPu := own_at hPd hxd.1 (by decide) fun j hj => Below.heap_setCell q1 ⟨g, 26, none⟩ (.int .i64 (x.c1 + 1)) j hj
      have hwr : IntKind.i64.wrap (x.c1 + 1) = x.c1 + 1 := by
        have := HPP.out
        simp [IntKind.wrap, IntKind.bits, IntKind.signed]
        omega
      have HWR := hid hwr
      clear hwr hgd
      refine wpAnyH_take (i := 0) (v := ?_) rfl (by kernel_rfl) (by kernel_rfl) (by kernel_rfl) (fun _ _ _ h => h) (Or.inl ⟨by rfl, ?_⟩) (by assumption) ?_
      rotate_left
      focus
        intro U hU
        try dsimp only at hU
        go_simp
        try (with_reducible rfl)
      simp only [List.getElem_toArray, List.getElem_cons_succ, List.getElem_cons_zero, Act.put, List.setIfInBounds_toArray, List.set_cons_zero, List.set_cons_succ]
      refine wpAnyH_take (i := 1) (v := ?_) rfl (by kernel_rfl) (by kernel_rfl) (by kernel_rfl) (fun _ _ _ h => h) (Or.inl ⟨by rfl, ?_⟩) (by assumption) ?_
      rotate_left
      focus
        intro U hU
        try dsimp only at hU
        go_simp
        try (with_reducible rfl)
      simp only [List.getElem_toArray, List.getElem_cons_succ, List.getElem_cons_zero, Act.put, List.setIfInBounds_toArray, List.set_cons_zero, List.set_cons_succ]
      refine wpAnyH_take (i := 2) (v := ?_) rfl (by kernel_rfl) (by kernel_rfl) (by kernel_rfl) (fun _ _ _ h => h) (Or.inl ⟨by rfl, ?_⟩) (by assumption) ?_
      rotate_left
      focus
        intro U hU
        try dsimp only at hU
        go_simp
        try (with_reducible rfl)
      simp only [List.getElem_toArray, List.getElem_cons_succ, List.getElem_cons_zero, Act.put, List.setIfInBounds_toArray, List.set_cons_zero, List.set_cons_succ]
      refine wpAnyH_take (i := 3) (v := ?_) rfl (by kernel_rfl) (by kernel_rfl) (by kernel_rfl) (fun _ _ _ h => h) (Or.inl ⟨by rfl, ?_⟩) (by assumption) ?_
      rotate_left
      focus
        intro U hU
        try dsimp only at hU
        go_simp
        try (with_reducible rfl)
      simp only [List.getElem_toArray, List.getElem_cons_succ, List.getElem_cons_zero, Act.put, List.setIfInBounds_toArray, List.set_cons_zero, List.set_cons_succ]
      refine wpAnyH_take (i := 4) (v := ?_) rfl (by kernel_rfl) (by kernel_rfl) (by kernel_rfl) (fun _ _ _ h => h) (Or.inl ⟨by rfl, ?_⟩) (by assumption) ?_
      rotate_left
      focus
        intro U hU
        try dsimp only at hU
        go_simp
        try (with_reducible rfl)
      simp only [List.getElem_toArray, List.getElem_cons_succ, List.getElem_cons_zero, Act.put, List.setIfInBounds_toArray, List.set_cons_zero, List.set_cons_succ]
      refine wpAnyH_take (i := 7) (v := ?_) rfl (by kernel_rfl) (by kernel_rfl) (by kernel_rfl) (fun _ _ _ h => h) (Or.inl ⟨by rfl, ?_⟩) (by assumption) ?_
      rotate_left
      focus
        intro U hU
        try dsimp only at hU
        go_simp
        try (with_reducible rfl)
      simp only [List.getElem_toArray, List.getElem_cons_succ, List.getElem_cons_zero, Act.put, List.setIfInBounds_toArray, List.set_cons_zero, List.set_cons_succ]
      refine wpAnyH_take (i := 8) (v := ?_) rfl (by kernel_rfl) (by kernel_rfl) (by kernel_rfl) (fun _ _ _ h => h) (Or.inl ⟨by rfl, ?_⟩) (by assumption) ?_
      rotate_left
      focus
        intro U hU
        try dsimp only at hU
        go_simp
        try (with_reducible rfl)
      simp only [List.getElem_toArray, List.getElem_cons_succ, List.getElem_cons_zero, Act.put, List.setIfInBounds_toArray, List.set_cons_zero, List.set_cons_succ]
      refine wpAnyH_ready (rs := [5]) (by kernel_rfl) (by simp) ?_
      refine AllReadyH.cons rfl (fun K hK => ?_) AllReadyH.nil
      simp only [List.getElem_toArray, List.getElem_cons_succ, List.getElem_cons_zero]
      go_simp
      refine hK.out _ _ ?_ (fun hHeld2 => ?_)
      focus
        exact trivial
      clear hHeld
      have hHeld := hHeld2
      clear hHeld2 hK K
      try simp only [List.getElem_toArray, List.getElem_cons_succ, List.getElem_cons_zero, Act.put, List.setIfInBounds_toArray, List.set_cons_zero, List.set_cons_succ]
      refine wpAnyH_take (i := 6) (v := ?_) rfl (by kernel_rfl) (by kernel_rfl) (by kernel_rfl) (fun _ _ _ h => h) (Or.inl ⟨by rfl, ?_⟩) (by assumption) ?_
      rotate_left
      focus
        intro U hU
        try dsimp only at hU
        go_simp
        try (with_reducible rfl)
      simp only [List.getElem_toArray, List.getElem_cons_succ, List.getElem_cons_zero, Act.put, List.setIfInBounds_toArray, List.set_cons_zero, List.set_cons_succ]
      refine wpAnyH_take (i := 9) (v := ?_) rfl (by kernel_rfl) (by kernel_rfl) (by kernel_rfl) (fun _ _ _ h => h) (Or.inl ⟨by rfl, ?_⟩) (by assumption) ?_
      rotate_left
      focus
        intro U hU
        try dsimp only at hU
        go_simp
        try (with_reducible rfl)
      simp only [List.getElem_toArray, List.getElem_cons_succ, List.getElem_cons_zero, Act.put, List.setIfInBounds_toArray, List.set_cons_zero, List.set_cons_succ]
      refine wpAnyH_ready (rs := [10]) (by kernel_rfl) (by simp) ?_
      refine AllReadyH.cons rfl (fun K hK => ?_) AllReadyH.nil
      simp only [List.getElem_toArray, List.getElem_cons_succ, List.getElem_cons_zero]
      go_simp
      refine hK.out _ _ ?_ (fun hHeld2 => ?_)
      focus
        exact trivial
      clear hHeld
      have hHeld := hHeld2
      clear hHeld2 hK K
      try simp only [List.getElem_toArray, List.getElem_cons_succ, List.getElem_cons_zero, Act.put, List.setIfInBounds_toArray, List.set_cons_zero, List.set_cons_succ]
      refine wpAnyH_done (by kernel_rfl) ?_ _
      clear hHeld cp0 cp1 cp2 cp3 cp4 cp5 cp6 cp7 cp8 cp9 cp10 cp11 cp12 cp13 cp14 cp15 cp16 cp17 cp18 cp19 cp20 cp21 cp22 cp23 cp24 cp25 cp26 cp27 cg0 cg1 cg2 cg3 cg4 cg5 cg6 cg7 cg8 cg9 cg10 cg11 cg12 cg13 cg14 cg15 cg16 cg17 cg18 cg19 cg20 cg21 cg22 cg23 cg24 cg25 cg26 cg27
      go_upto_region 19 with (fail)
      rw [HWR.out]
      refine at_world (fun u => PX W u g (upC1 (setPA x ⟨f2, t2, i2, ⟨p2, q2, l2, w2', fl2⟩, m2, gp2, gl2⟩)) A2 c2 B cb D cd ∧ OwnP W u (.slice B2 l.length d2) l) ⟨hup, hPu⟩ ?_
      clear HWR hup hPu hxd hPd
      rintro w5 ⟨hx5, hP5⟩
      have hg5 := hx5.1
      simp only [prc, upC1, setPA] at hg5
      obtain ⟨⟨cp0, cp1, cp2, cp3, cp4, cp5, cp6, cp7, cp8, cp9, cp10, cp11, cp12, cp13, cp14, cp15, cp16, cp17, cp18, cp19, cp20, cp21, cp22, cp23, cp24, cp25, cp26, cp27⟩, ⟨cg0, cg1, cg2, cg3, cg4, cg5, cg6, cg7, cg8, cg9, cg10, cg11, cg12, cg13, cg14, cg15, cg16, cg17, cg18, cg19, cg20, cg21, cg22, cg23, cg24, cg25, cg26, cg27⟩⟩ := pair_cells hg5
      have HX5 := hid hx5
      have hsl5 := sl_own hP5
      have hwl : x.w.length ≤ 100000 := HWL.out
      have htl : l.length ≤ 2 := HTL.out
      have hbe := hx5.2.2.2.2.2.size
      clear hg5 hx5 hP5
      go_wp2_with (at_builtin; refine wpList_append_slk rfl (.tmp 103) (.tmp 104) 56 rfl W.heap.size 71 Try.underlying56 info_pkt rfl (by omega) rfl HX5.out.2.2.2.2.1 rfl hsl5 (pkc_one _) (by show x.w.length + _ ≤ _; unfold maxLen; omega) (by show (x.w.length + _) * 64 ≤ _; omega) hbe ?_)
      intro v6 w6 ho6 hb6 hsz6 hk6
      obtain ⟨D6, d6, rfl, _⟩ := Mid.form ho6
      have HF := hid (HX5.out.app ho6 hb6 hk6)
      have hg6 := (hk6 g HX5.out.2.1 (lt_of_block HX5.out.1) (mid_blk_ne HX5.out.2.2.2.2.1 HX5.out.1 (by decide))).trans HX5.out.1
      simp only [prc, upC1, setPA] at hg6
      clear cp0 cp1 cp2 cp3 cp4 cp5 cp6 cp7 cp8 cp9 cp10 cp11 cp12 cp13 cp14 cp15 cp16 cp17 cp18 cp19 cp20 cp21 cp22 cp23 cp24 cp25 cp26 cp27 cg0 cg1 cg2 cg3 cg4 cg5 cg6 cg7 cg8 cg9 cg10 cg11 cg12 cg13 cg14 cg15 cg16 cg17 cg18 cg19 cg20 cg21 cg22 cg23 cg24 cg25 cg26 cg27 ho6 hb6 hsz6 hk6 HX5 hsl5
      obtain ⟨_, ⟨cg0, cg1, cg2, cg3, cg4, cg5, cg6, cg7, cg8, cg9, cg10, cg11, cg12, cg13, cg14, cg15, cg16, cg17, cg18, cg19, cg20, cg21, cg22, cg23, cg24, cg25, cg26, cg27⟩⟩ := pair_cells hg6
      clear hg6
      go_wp2
      go_end0
      exact ⟨⟨_, rfl⟩, by rw [HR.out]; exact ⟨_, _, _, _, _, _, HF.out⟩⟩
  · skip
    simp only [List.getElem_toArray, List.getElem_cons_succ, List.getElem_cons_zero]
    go_simp
    refine hK.out _ _ ?_ (fun hHeld2 => ?_)
    focus
      exact hS _ (hk0.alloc hk0.size _)
    clear hHeld
    have hHeld := hHeld2
    clear hHeld2 hK K
    try simp only [List.getElem_toArray, List.getElem_cons_succ, List.getElem_cons_zero, Act.put, List.setIfInBounds_toArray, List.set_cons_zero, List.set_cons_succ]
    have hbn : Below (World.heap k0).size k0 (World.alloc k0 (.cells #[.int .i64 0, .int .i64 0, .int .i64 0, .int .i64 0, .int .i64 0, .slice none 0 0, .int .i64 0, .int .i64 0, .int .i64 0, .int .i64 0, .int .i64 0] 54)) := (Below.refl _ _).alloc (Nat.le_refl _) _
    have hk0b := hk0.trans (hbn.mono hk0.size)
    have hz1 := heap_alloc_new k0 (.cells #[.int .i64 0, .int .i64 0, .int .i64 0, .int .i64 0, .int .i64 0, .slice none 0 0, .int .i64 0, .int .i64 0, .int .i64 0, .int .i64 0, .int .i64 0] 54)
    have hle : u1.heap.size ≤ (World.heap k0).size := hk0.size
    clear hbn
    generalize World.alloc k0 (.cells #[.int .i64 0, .int .i64 0, .int .i64 0, .int .i64 0, .int .i64 0, .slice none 0 0, .int .i64 0, .int .i64 0, .int .i64 0, .int .i64 0, .int .i64 0] 54) = k9 at *
    generalize (World.heap k0).size = Zb at *
    refine wpAnyH_ready (rs := [5]) (by kernel_rfl) (by simp) ?_
    refine (AllReadyH.cons rfl (fun K hK => ?_) AllReadyH.nil)
    simp only [List.getElem_toArray, List.getElem_cons_succ, List.getElem_cons_zero]
    go_simp
    refine (HT.out _ (HX.out.keep hk0b)).mono ?_
    rintro e u2 ⟨A2, c2, B2, d2, rfl, ho2, hP2, g2⟩
    simp only [ec]
    have hk2 := hk0b.trans (g2.mono hk0b.size)
    have ho3 := own_mono ho2 (Nat.le_trans HU.out hk0b.size)
    have hP3 := own_mono hP2 (Nat.le_trans HU.out hk0b.size)
    have hz3 := keep0 hz1 g2
    clear g2 ho2 hP2
    go_wp2_with fail
    refine hK.out _ _ ?_ (fun hHeld2 => ?_)
    focus
      exact hS _ hk2
    clear hHeld
    have hHeld := hHeld2
    clear hHeld2 hK K
    try simp only [List.getElem_toArray, List.getElem_cons_succ, List.getElem_cons_zero, Act.put, List.setIfInBounds_toArray, List.set_cons_zero, List.set_cons_succ]
    refine wpAnyH_take (i := 6) (v := ?_) rfl (by kernel_rfl) (by kernel_rfl) (by kernel_rfl) (fun _ _ _ h => h) (Or.inl ⟨by rfl, ?_⟩) (by assumption) ?_
    rotate_left
    focus
      intro U hU
      try dsimp only at hU
      go_simp
      try (with_reducible rfl)
    simp only [List.getElem_toArray, List.getElem_cons_succ, List.getElem_cons_zero, Act.put, List.setIfInBounds_toArray, List.set_cons_zero, List.set_cons_succ]
    refine wpAnyH_take (i := 7) (v := ?_) rfl (by kernel_rfl) (by kernel_rfl) (by kernel_rfl) (fun _ _ _ h => h) (Or.inl ⟨by rfl, ?_⟩) (by assumption) ?_
    rotate_left
    focus
      intro U hU
      try dsimp only at hU
      go_simp
      try (with_reducible rfl)
    simp only [List.getElem_toArray, List.getElem_cons_succ, List.getElem_cons_zero, Act.put, List.setIfInBounds_toArray, List.set_cons_zero, List.set_cons_succ]
    refine wpAnyH_take (i := 8) (v := ?_) rfl (by kernel_rfl) (by kernel_rfl) (by kernel_rfl) (fun _ _ _ h => h) (Or.inl ⟨by rfl, ?_⟩) (by assumption) ?_
    rotate_left
    focus
      intro U hU
      try dsimp only at hU
      go_simp
      try (with_reducible rfl)
    simp only [List.getElem_toArray, List.getElem_cons_succ, List.getElem_cons_zero, Act.put, List.setIfInBounds_toArray, List.set_cons_zero, List.set_cons_succ]
    refine wpAnyH_take (i := 9) (v := ?_) rfl (by kernel_rfl) (by kernel_rfl) (by kernel_rfl) (fun _ _ _ h => h) (Or.inl ⟨by rfl, ?_⟩) (by assumption) ?_
    rotate_left
    focus
      intro U hU
      try dsimp only at hU
      go_simp
      try (with_reducible rfl)
    simp only [List.getElem_toArray, List.getElem_cons_succ, List.getElem_cons_zero, Act.put, List.setIfInBounds_toArray, List.set_cons_zero, List.set_cons_succ]
    refine wpAnyH_take (i := 10) (v := ?_) rfl (by kernel_rfl) (by kernel_rfl) (by kernel_rfl) (fun _ _ _ h => h) (Or.inl ⟨by rfl, ?_⟩) (by assumption) ?_
    rotate_left
    focus
      intro U hU
      try dsimp only at hU
      go_simp
      try (with_reducible rfl)
    simp only [List.getElem_toArray, List.getElem_cons_succ, List.getElem_cons_zero, Act.put, List.setIfInBounds_toArray, List.set_cons_zero, List.set_cons_succ]
    have hxv := HX.out.keep hk2
    have hxw := hxv.other hz3 (by omega) (Nat.le_trans HU.out hle) (.int .i64 f2) (.int .i64 t2) (.int .i64 i2) (.int .i64 p2) (.int .i64 q2) (.slice A2 l2.length c2) (.int .i64 w2') (.int .i64 fl2) (.int .i64 m2) (.int .i64 gp2) (.int .i64 gl2)
    have hk4 := put11_below hk2 hle (.int .i64 f2) (.int .i64 t2) (.int .i64 i2) (.int .i64 p2) (.int .i64 q2) (.slice A2 l2.length c2) (.int .i64 w2') (.int .i64 fl2) (.int .i64 m2) (.int .i64 gp2) (.int .i64 gl2)
    have hzw := put11_heap hz3 (.int .i64 f2) (.int .i64 t2) (.int .i64 i2) (.int .i64 p2) (.int .i64 q2) (.slice A2 l2.length c2) (.int .i64 w2') (.int .i64 fl2) (.int .i64 m2) (.int .i64 gp2) (.int .i64 gl2)
    have how := own_at ho3 hz3 (by decide) fun g hg => put11_other (b := Zb) hg (.int .i64 f2) (.int .i64 t2) (.int .i64 i2) (.int .i64 p2) (.int .i64 q2) (.slice A2 l2.length c2) (.int .i64 w2') (.int .i64 fl2) (.int .i64 m2) (.int .i64 gp2) (.int .i64 gl2)
    have hPw := own_at hP3 hz3 (by decide) fun g hg => put11_other (b := Zb) hg (.int .i64 f2) (.int .i64 t2) (.int .i64 i2) (.int .i64 p2) (.int .i64 q2) (.slice A2 l2.length c2) (.int .i64 w2') (.int .i64 fl2) (.int .i64 m2) (.int .i64 gp2) (.int .i64 gl2)
    obtain ⟨_, ⟨zf0, zf1, zf2, zf3, zf4, zf5, zf6, zf7, zf8, zf9, zf10⟩⟩ := eleven_cells hz3
    simp only [put11] at hk4 hxw hzw how hPw
    clear hxv
    refine wpAnyH_ready (rs := [12]) (by kernel_rfl) (by simp) ?_
    refine AllReadyH.cons rfl (fun K hK => ?_) AllReadyH.nil
    simp only [List.getElem_toArray, List.getElem_cons_succ, List.getElem_cons_zero]
    go_simp
    refine hK.out _ _ ?_ (fun hHeld2 => ?_)
    focus
      exact hS _ hk4
    clear hHeld
    have hHeld := hHeld2
    clear hHeld2 hK K
    try simp only [List.getElem_toArray, List.getElem_cons_succ, List.getElem_cons_zero, Act.put, List.setIfInBounds_toArray, List.set_cons_zero, List.set_cons_succ]
    refine wpAnyH_take (i := 13) (v := ?_) rfl (by kernel_rfl) (by kernel_rfl) (by kernel_rfl) (fun _ _ _ h => h) (Or.inl ⟨by rfl, ?_⟩) (by assumption) ?_
    rotate_left
    focus
      intro U hU
      try dsimp only at hU
      go_simp
      try (with_reducible rfl)
    simp only [List.getElem_toArray, List.getElem_cons_succ, List.getElem_cons_zero, Act.put, List.setIfInBounds_toArray, List.set_cons_zero, List.set_cons_succ]
    refine wpAnyH_take (i := 14) (v := ?_) rfl (by kernel_rfl) (by kernel_rfl) (by kernel_rfl) (fun _ _ _ h => h) (Or.inl ⟨by rfl, ?_⟩) (by assumption) ?_
    rotate_left
    focus
      intro U hU
      try dsimp only at hU
      go_simp
      try (with_reducible rfl)
    simp only [List.getElem_toArray, List.getElem_cons_succ, List.getElem_cons_zero, Act.put, List.setIfInBounds_toArray, List.set_cons_zero, List.set_cons_succ]
    refine wpAnyH_take (i := 15) (v := ?_) rfl (by kernel_rfl) (by kernel_rfl) (by kernel_rfl) (fun _ _ _ h => h) (Or.inl ⟨by rfl, ?_⟩) (by assumption) ?_
    rotate_left
    focus
      intro U hU
      try dsimp only at hU
      go_simp
      try (with_reducible rfl)
    simp only [List.getElem_toArray, List.getElem_cons_succ, List.getElem_cons_zero, Act.put, List.setIfInBounds_toArray, List.set_cons_zero, List.set_cons_succ]
    refine wpAnyH_done (by kernel_rfl) ?_ _
    clear hHeld hS zf0 zf1 zf2 zf3 zf4 zf5 zf6 zf7 zf8 zf9 zf10
    go_upto_region 6 with (fail)
    refine at_world (fun v => v.heap[Zb]? = some (.cells (ec ⟨f2, t2, i2, ⟨p2, q2, l2, w2', fl2⟩, m2, gp2, gl2⟩ A2 c2) 54 (0, 0)) ∧ PX W v g x A ca B cb D cd ∧ v.ownsRow W.heap.size 9 1 (.slice A2 l2.length c2) l2.length (scells l2) ∧ OwnP W v (.slice B2 l.length d2) l) ⟨hzw, hxw, how, hPw⟩ ?_
    clear hzw hxw how hPw hk4
    rintro w3 ⟨ht3, hx3, ho3', hP3'⟩
    obtain ⟨⟨zq0, zq1, zq2, zq3, zq4, zq5, zq6, zq7, zq8, zq9, zq10⟩, _⟩ := eleven_cells ht3
    have hg3 := hx3.1
    simp only [prc] at hg3
    obtain ⟨_, ⟨cg0, cg1, cg2, cg3, cg4, cg5, cg6, cg7, cg8, cg9, cg10, cg11, cg12, cg13, cg14, cg15, cg16, cg17, cg18, cg19, cg20, cg21, cg22, cg23, cg24, cg25, cg26, cg27⟩⟩ := pair_cells hg3
    have HS := hid (hx3.setA (e := ⟨f2, t2, i2, ⟨p2, q2, l2, w2', fl2⟩, m2, gp2, gl2⟩) ho3')
    have HP3 := hid (own_at hP3' hx3.1 (by decide) fun j hj => putA_other hj (.int .i64 f2) (.int .i64 t2) (.int .i64 i2) (.int .i64 p2) (.int .i64 q2) (.slice A2 l2.length c2) (.int .i64 w2') (.int .i64 fl2) (.int .i64 m2) (.int .i64 gp2) (.int .i64 gl2))
    clear ht3 hx3 ho3' hP3' hg3
    go_upto_region 7 with (fail)
    refine at_world (fun u => PX W u g (setPA x ⟨f2, t2, i2, ⟨p2, q2, l2, w2', fl2⟩, m2, gp2, gl2⟩) A2 c2 B cb D cd ∧ OwnP W u (.slice B2 l.length d2) l) ⟨HS.out, HP3.out⟩ ?_
    clear zq0 zq1 zq2 zq3 zq4 zq5 zq6 zq7 zq8 zq9 zq10 cg0 cg1 cg2 cg3 cg4 cg5 cg6 cg7 cg8 cg9 cg10 cg11 cg12 cg13 cg14 cg15 cg16 cg17 cg18 cg19 cg20 cg21 cg22 cg23 cg24 cg25 cg26 cg27 HS HP3
    rintro w4 ⟨hx5, hP5⟩
    cases got with
    | false =>
      have HR : Hid (comesV ⟨x.a, x.b, x.w, x.p0, x.p1, x.c0, x.c1, x.ok⟩ ⟨pk, pf, 0, pi, pp, ps, pb⟩ = addW (setPA x ⟨f2, t2, i2, ⟨p2, q2, l2, w2', fl2⟩, m2, gp2, gl2⟩) l) := hid (by rw [HV.out]; rfl)
      have hg5 := hx5.1
      simp only [prc, setPA] at hg5
      obtain ⟨⟨cp0, cp1, cp2, cp3, cp4, cp5, cp6, cp7, cp8, cp9, cp10, cp11, cp12, cp13, cp14, cp15, cp16, cp17, cp18, cp19, cp20, cp21, cp22, cp23, cp24, cp25, cp26, cp27⟩, ⟨cg0, cg1, cg2, cg3, cg4, cg5, cg6, cg7, cg8, cg9, cg10, cg11, cg12, cg13, cg14, cg15, cg16, cg17, cg18, cg19, cg20, cg21, cg22, cg23, cg24, cg25, cg26, cg27⟩⟩ := pair_cells hg5
      have HX5 := hid hx5
      have hsl5 := sl_own hP5
      have hwl : x.w.length ≤ 100000 := HWL.out
      have htl : l.length ≤ 2 := HTL.out
      have hbe := hx5.2.2.2.2.2.size
      clear hg5 hx5 hP5
      go_wp2_with (at_builtin; refine wpList_append_slk rfl (.tmp 103) (.tmp 104) 56 rfl W.heap.size 71 Try.underlying56 info_pkt rfl (by omega) rfl HX5.out.2.2.2.2.1 rfl hsl5 (pkc_one _) (by show x.w.length + _ ≤ _; unfold maxLen; omega) (by show (x.w.length + _) * 64 ≤ _; omega) hbe ?_)
      intro v6 w6 ho6 hb6 hsz6 hk6
      obtain ⟨D6, d6, rfl, _⟩ := Mid.form ho6
      have HF := hid (HX5.out.app ho6 hb6 hk6)
      have hg6 := (hk6 g HX5.out.2.1 (lt_of_block HX5.out.1) (mid_blk_ne HX5.out.2.2.2.2.1 HX5.out.1 (by decide))).trans HX5.out.1
      simp only [prc, setPA] at hg6
      clear cp0 cp1 cp2 cp3 cp4 cp5 cp6 cp7 cp8 cp9 cp10 cp11 cp12 cp13 cp14 cp15 cp16 cp17 cp18 cp19 cp20 cp21 cp22 cp23 cp24 cp25 cp26 cp27 cg0 cg1 cg2 cg3 cg4 cg5 cg6 cg7 cg8 cg9 cg10 cg11 cg12 cg13 cg14 cg15 cg16 cg17 cg18 cg19 cg20 cg21 cg22 cg23 cg24 cg25 cg26 cg27 ho6 hb6 hsz6 hk6 HX5 hsl5
      obtain ⟨_, ⟨cg0, cg1, cg2, cg3, cg4, cg5, cg6, cg7, cg8, cg9, cg10, cg11, cg12, cg13, cg14, cg15, cg16, cg17, cg18, cg19, cg20, cg21, cg22, cg23, cg24, cg25, cg26, cg27⟩⟩ := pair_cells hg6
      clear hg6
      go_wp2
      go_end0
      exact ⟨⟨_, rfl⟩, by rw [HR.out]; exact ⟨_, _, _, _, _, _, HF.out⟩⟩
    | true =>
      obtain ⟨rfl, hlt⟩ := HGOT.out rfl
      have HR : Hid (comesV ⟨x.a, x.b, x.w, x.p0, x.p1, x.c0, x.c1, x.ok⟩ ⟨pk, pf, 0, pi, pp, ps, pb⟩ = addW (upC1 (setPA x ⟨f2, t2, i2, ⟨p2, q2, l2, w2', fl2⟩, m2, gp2, gl2⟩)) l) := hid (by rw [HV.out]; rfl)
      have hd : decide (x.c1 < x.p1) = true := decide_eq_true hlt
      clear hlt
      go_upto_region 17 with (fail)
      have hxd := hx5.keep (below_drew (Below.refl _ _))
      have hPd := own_keep hP5 (below_drew (Below.refl w4.heap.size w4))
      clear hx5 hP5
      have hS17 : ∀ U, PX W U g (setPA x ⟨f2, t2, i2, ⟨p2, q2, l2, w2', fl2⟩, m2, gp2, gl2⟩) A2 c2 B cb D cd ∧ OwnP W U (.slice B2 l.length d2) l → ((U.cell? ⟨g, 27, none⟩ = some (.bool true) ∧ U.cell? ⟨g, 26, none⟩ = some (.int .i64 x.c1) ∧ U.cell? ⟨g, 24, none⟩ = some (.int .i64 x.p1)) ∧ PX W U g (setPA x ⟨f2, t2, i2, ⟨p2, q2, l2, w2', fl2⟩, m2, gp2, gl2⟩) A2 c2 B cb D cd ∧ OwnP W U (.slice B2 l.length d2) l) := fun U hU => by
        have h9 := hU.1.1
        simp only [prc, setPA] at h9
        have h8 := (pair_cells h9).1
        rw [hok] at h8
        exact ⟨⟨h8.2.2.2.2.2.2.2.2.2.2.2.2.2.2.2.2.2.2.2.2.2.2.2.2.2.2.2, h8.2.2.2.2.2.2.2.2.2.2.2.2.2.2.2.2.2.2.2.2.2.2.2.2.2.2.1, h8.2.2.2.2.2.2.2.2.2.2.2.2.2.2.2.2.2.2.2.2.2.2.2.2.1⟩, hU⟩
      have hF17 : w4.drew.frozen? ⟨g, 27, none⟩ = false := by
        have h9 := hxd.1
        simp only [prc, setPA] at h9
        exact (pair_cells h9).2.2.2.2.2.2.2.2.2.2.2.2.2.2.2.2.2.2.2.2.2.2.2.2.2.2.2.2
      have hbe := HBE.out
      refine wp_region_held_drew (S := fun U => (U.cell? ⟨g, 27, none⟩ = some (.bool true) ∧ U.cell? ⟨g, 26, none⟩ = some (.int .i64 x.c1) ∧ U.cell? ⟨g, 24, none⟩ = some (.int .i64 x.p1)) ∧ PX W U g (setPA x ⟨f2, t2, i2, ⟨p2, q2, l2, w2', fl2⟩, m2, gp2, gl2⟩) A2 c2 B cb D cd ∧ OwnP W U (.slice B2 l.length d2) l) (by kernel_rfl) (hS17 _ ⟨hxd, hPd⟩) (fun hHeld => ?_)
      generalize w4.drew = q0 at *
      refine wpAnyH_take (i := 0) (v := ?_) rfl (by kernel_rfl) (by kernel_rfl) (by kernel_rfl) (fun _ _ _ h => h) (Or.inl ⟨by rfl, ?_⟩) (by assumption) ?_
      rotate_left
      focus
        intro U hU
        try dsimp only at hU
        go_simp
        try (with_reducible rfl)
      simp only [List.getElem_toArray, List.getElem_cons_succ, List.getElem_cons_zero, Act.put, List.setIfInBounds_toArray, List.set_cons_zero, List.set_cons_succ]
      refine wpAnyH_take (i := 1) (v := ?_) rfl (by kernel_rfl) (by kernel_rfl) (by kernel_rfl) (fun _ _ _ h => h) (Or.inl ⟨by rfl, ?_⟩) (by assumption) ?_
      rotate_left
      focus
        intro U hU
        try dsimp only at hU
        go_simp
        try (with_reducible rfl)
      simp only [List.getElem_toArray, List.getElem_cons_succ, List.getElem_cons_zero, Act.put, List.setIfInBounds_toArray, List.set_cons_zero, List.set_cons_succ]
      refine wpAnyH_take (i := 2) (v := ?_) rfl (by kernel_rfl) (by kernel_rfl) (by kernel_rfl) (fun _ _ _ h => h) (Or.inl ⟨by rfl, ?_⟩) (by assumption) ?_
      rotate_left
      focus
        intro U hU
        try dsimp only at hU
        go_simp
        try (with_reducible rfl)
      simp only [List.getElem_toArray, List.getElem_cons_succ, List.getElem_cons_zero, Act.put, List.setIfInBounds_toArray, List.set_cons_zero, List.set_cons_succ]
      refine wpAnyH_take (i := 3) (v := ?_) rfl (by kernel_rfl) (by kernel_rfl) (by kernel_rfl) (fun _ _ _ h => h) (Or.inl ⟨by rfl, ?_⟩) (by assumption) ?_
      rotate_left
      focus
        intro U hU
        try dsimp only at hU
        go_simp
        try (with_reducible rfl)
      simp only [List.getElem_toArray, List.getElem_cons_succ, List.getElem_cons_zero, Act.put, List.setIfInBounds_toArray, List.set_cons_zero, List.set_cons_succ]
      refine wpAnyH_take (i := 4) (v := ?_) rfl (by kernel_rfl) (by kernel_rfl) (by kernel_rfl) (fun _ _ _ h => h) (Or.inl ⟨by rfl, ?_⟩) (by assumption) ?_
      rotate_left
      focus
        intro U hU
        try dsimp only at hU
        go_simp
        try (with_reducible rfl)
      simp only [List.getElem_toArray, List.getElem_cons_succ, List.getElem_cons_zero, Act.put, List.setIfInBounds_toArray, List.set_cons_zero, List.set_cons_succ]
      refine wpAnyH_take (i := 5) (v := ?_) rfl (by kernel_rfl) (by kernel_rfl) (by kernel_rfl) (fun _ _ _ h => h) (Or.inl ⟨by rfl, ?_⟩) (by assumption) ?_
      rotate_left
      focus
        intro U hU
        try dsimp only at hU
        go_simp
        try (with_reducible rfl)
      simp only [List.getElem_toArray, List.getElem_cons_succ, List.getElem_cons_zero, Act.put, List.setIfInBounds_toArray, List.set_cons_zero, List.set_cons_succ]
      refine wpAnyH_take (i := 6) (v := ?_) rfl (by kernel_rfl) (by kernel_rfl) (by kernel_rfl) (fun _ _ _ h => h) (Or.inl ⟨by rfl, ?_⟩) (by assumption) ?_
      rotate_left
      focus
        intro U hU
        try dsimp only at hU
        go_simp
        try (with_reducible rfl)
      simp only [List.getElem_toArray, List.getElem_cons_succ, List.getElem_cons_zero, Act.put, List.setIfInBounds_toArray, List.set_cons_zero, List.set_cons_succ]
      refine wpAnyH_take (i := 7) (v := ?_) rfl (by kernel_rfl) (by kernel_rfl) (by kernel_rfl) (fun _ _ _ h => h) (Or.inl ⟨by rfl, ?_⟩) (by assumption) ?_
      rotate_left
      focus
        intro U hU
        try dsimp only at hU
        go_simp
        try (with_reducible rfl)
      simp only [List.getElem_toArray, List.getElem_cons_succ, List.getElem_cons_zero, Act.put, List.setIfInBounds_toArray, List.set_cons_zero, List.set_cons_succ]
      refine wpAnyH_take (i := 8) (v := ?_) rfl (by kernel_rfl) (by kernel_rfl) (by kernel_rfl) (fun _ _ _ h => h) (Or.inl ⟨by rfl, ?_⟩) (by assumption) ?_
      rotate_left
      focus
        intro U hU
        try dsimp only at hU
        go_simp
        try (with_reducible rfl)
      simp only [List.getElem_toArray, List.getElem_cons_succ, List.getElem_cons_zero, Act.put, List.setIfInBounds_toArray, List.set_cons_zero, List.set_cons_succ]
      refine wpAnyH_take (i := 9) (v := ?_) rfl (by kernel_rfl) (by kernel_rfl) (by kernel_rfl) (fun _ _ _ h => h) (Or.inl ⟨by rfl, ?_⟩) (by assumption) ?_
      rotate_left
      focus
        intro U hU
        try dsimp only at hU
        go_simp
        try (with_reducible rfl)
      simp only [List.getElem_toArray, List.getElem_cons_succ, List.getElem_cons_zero, Act.put, List.setIfInBounds_toArray, List.set_cons_zero, List.set_cons_succ]
      refine wpAnyH_take (i := 10) (v := ?_) rfl (by kernel_rfl) (by kernel_rfl) (by kernel_rfl) (fun _ _ _ h => h) (Or.inl ⟨by rfl, ?_⟩) (by assumption) ?_
      rotate_left
      focus
        intro U hU
        try dsimp only at hU
        go_simp
        try (with_reducible rfl)
      simp only [List.getElem_toArray, List.getElem_cons_succ, List.getElem_cons_zero, Act.put, List.setIfInBounds_toArray, List.set_cons_zero, List.set_cons_succ]
      refine wpAnyH_take (i := 11) (v := ?_) rfl (by kernel_rfl) (by kernel_rfl) (by kernel_rfl) (fun _ _ _ h => h) (Or.inl ⟨by rfl, ?_⟩) (by assumption) ?_
      rotate_left
      focus
        intro U hU
        try dsimp only at hU
        go_simp
        try (with_reducible rfl)
      simp only [List.getElem_toArray, List.getElem_cons_succ, List.getElem_cons_zero, Act.put, List.setIfInBounds_toArray, List.set_cons_zero, List.set_cons_succ]
      refine wpAnyH_take (i := 12) (v := ?_) rfl (by kernel_rfl) (by kernel_rfl) (by kernel_rfl) (fun _ _ _ h => h) (Or.inl ⟨by rfl, ?_⟩) (by assumption) ?_
      rotate_left
      focus
        intro U hU
        try dsimp only at hU
        go_simp
        try (with_reducible rfl)
      simp only [List.getElem_toArray, List.getElem_cons_succ, List.getElem_cons_zero, Act.put, List.setIfInBounds_toArray, List.set_cons_zero, List.set_cons_succ]
      refine wpAnyH_ready (rs := [13]) (by kernel_rfl) (by simp) ?_
      refine AllReadyH.cons rfl (fun K hK => ?_) AllReadyH.nil
      simp only [List.getElem_toArray, List.getElem_cons_succ, List.getElem_cons_zero]
      go_simp
      refine (HNM.out _).mono ?_
      rintro e u5 ⟨rfl, hq5⟩
      have hx6 := hxd.keep hq5
      have hP6 := own_keep hPd hq5
      have hF6 : u5.frozen? ⟨g, 27, none⟩ = false := by
        have h9 := hx6.1
        simp only [prc, setPA] at h9
        exact (pair_cells h9).2.2.2.2.2.2.2.2.2.2.2.2.2.2.2.2.2.2.2.2.2.2.2.2.2.2.2.2
      have hx7 := hx6.cellUp 27 (.bool true) (y := setPA x ⟨f2, t2, i2, ⟨p2, q2, l2, w2', fl2⟩, m2, gp2, gl2⟩) rfl rfl rfl (by rw [show Value.bool true = .bool x.ok by rw [hok]]; rfl)
      have hP7 := own_at hP6 hx6.1 (by decide) fun j hj => Below.heap_setCell u5 ⟨g, 27, none⟩ (.bool true) j hj
      clear hxd hPd hF17
      go_wp2_with fail
      refine hK.out _ _ ?_ (fun hHeld2 => ?_)
      focus
        exact hS17 _ ⟨hx6, hP6⟩
      clear hHeld
      have hHeld := hHeld2
      clear hHeld2 hK K
      try simp only [List.getElem_toArray, List.getElem_cons_succ, List.getElem_cons_zero, Act.put, List.setIfInBounds_toArray, List.set_cons_zero, List.set_cons_succ]
      refine wpAnyH_take (i := 14) (v := ?_) rfl (by kernel_rfl) (by kernel_rfl) (by kernel_rfl) (fun _ _ _ h => h) (Or.inl ⟨by rfl, ?_⟩) (by assumption) ?_
      rotate_left
      focus
        intro U hU
        try dsimp only at hU
        go_simp
        try (with_reducible rfl)
      simp only [List.getElem_toArray, List.getElem_cons_succ, List.getElem_cons_zero, Act.put, List.setIfInBounds_toArray, List.set_cons_zero, List.set_cons_succ]
      refine wpAnyH_take (i := 15) (v := ?_) rfl (by kernel_rfl) (by kernel_rfl) (by kernel_rfl) (fun _ _ _ h => h) (Or.inl ⟨by rfl, ?_⟩) (by assumption) ?_
      rotate_left
      focus
        intro U hU
        try dsimp only at hU
        go_simp
        try (with_reducible rfl)
      simp only [List.getElem_toArray, List.getElem_cons_succ, List.getElem_cons_zero, Act.put, List.setIfInBounds_toArray, List.set_cons_zero, List.set_cons_succ]
      refine wpAnyH_take (i := 16) (v := ?_) rfl (by kernel_rfl) (by kernel_rfl) (by kernel_rfl) (fun _ _ _ h => h) (Or.inl ⟨by rfl, ?_⟩) (by assumption) ?_
      rotate_left
      focus
        intro U hU
        try dsimp only at hU
        go_simp
        try (with_reducible rfl)
      simp only [List.getElem_toArray, List.getElem_cons_succ, List.getElem_cons_zero, Act.put, List.setIfInBounds_toArray, List.set_cons_zero, List.set_cons_succ]
      refine wpAnyH_take (i := 17) (v := ?_) rfl (by kernel_rfl) (by kernel_rfl) (by kernel_rfl) (fun _ _ _ h => h) (Or.inl ⟨by rfl, ?_⟩) (by assumption) ?_
      rotate_left
      focus
        intro U hU
        try dsimp only at hU
        go_simp
        try (with_reducible rfl)
      simp only [List.getElem_toArray, List.getElem_cons_succ, List.getElem_cons_zero, Act.put, List.setIfInBounds_toArray, List.set_cons_zero, List.set_cons_succ]
      refine wpAnyH_take (i := 18) (v := ?_) rfl (by kernel_rfl) (by kernel_rfl) (by kernel_rfl) (fun _ _ _ h => h) (Or.inl ⟨by rfl, ?_⟩) (by assumption) ?_
      rotate_left
      focus
        intro U hU
        try dsimp only at hU
        go_simp
        try (with_reducible rfl)
      simp only [List.getElem_toArray, List.getElem_cons_succ, List.getElem_cons_zero, Act.put, List.setIfInBounds_toArray, List.set_cons_zero, List.set_cons_succ]
      refine wpAnyH_take (i := 19) (v := ?_) rfl (by kernel_rfl) (by kernel_rfl) (by kernel_rfl) (fun _ _ _ h => h) (Or.inl ⟨by rfl, ?_⟩) (by assumption) ?_
      rotate_left
      focus
        intro U hU
        try dsimp only at hU
        go_simp
        try (with_reducible rfl)
      simp only [List.getElem_toArray, List.getElem_cons_succ, List.getElem_cons_zero, Act.put, List.setIfInBounds_toArray, List.set_cons_zero, List.set_cons_succ]
      refine wpAnyH_take (i := 20) (v := ?_) rfl (by kernel_rfl) (by kernel_rfl) (by kernel_rfl) (fun _ _ _ h => h) (Or.inl ⟨by rfl, ?_⟩) (by assumption) ?_
      rotate_left
      focus
        intro U hU
        try dsimp only at hU
        go_simp
        try (with_reducible rfl)
      simp only [List.getElem_toArray, List.getElem_cons_succ, List.getElem_cons_zero, Act.put, List.setIfInBounds_toArray, List.set_cons_zero, List.set_cons_succ]
      refine wpAnyH_take (i := 21) (v := ?_) rfl (by kernel_rfl) (by kernel_rfl) (by kernel_rfl) (fun _ _ _ h => h) (Or.inl ⟨by rfl, ?_⟩) (by assumption) ?_
      rotate_left
      focus
        intro U hU
        try dsimp only at hU
        go_simp
        try (with_reducible rfl)
      simp only [List.getElem_toArray, List.getElem_cons_succ, List.getElem_cons_zero, Act.put, List.setIfInBounds_toArray, List.set_cons_zero, List.set_cons_succ]
      refine wpAnyH_take (i := 22) (v := ?_) rfl (by kernel_rfl) (by kernel_rfl) (by kernel_rfl) (fun _ _ _ h => h) (Or.inl ⟨by rfl, ?_⟩) (by assumption) ?_
      rotate_left
      focus
        intro U hU
        try dsimp only at hU
        go_simp
        try (with_reducible rfl)
      simp only [List.getElem_toArray, List.getElem_cons_succ, List.getElem_cons_zero, Act.put, List.setIfInBounds_toArray, List.set_cons_zero, List.set_cons_succ]
      refine wpAnyH_take (i := 23) (v := ?_) rfl (by kernel_rfl) (by kernel_rfl) (by kernel_rfl) (fun _ _ _ h => h) (Or.inl ⟨by rfl, ?_⟩) (by assumption) ?_
      rotate_left
      focus
        intro U hU
        try dsimp only at hU
        go_simp
        try (with_reducible rfl)
      simp only [List.getElem_toArray, List.getElem_cons_succ, List.getElem_cons_zero, Act.put, List.setIfInBounds_toArray, List.set_cons_zero, List.set_cons_succ]
      refine wpAnyH_take (i := 24) (v := ?_) rfl (by kernel_rfl) (by kernel_rfl) (by kernel_rfl) (fun _ _ _ h => h) (Or.inl ⟨by rfl, ?_⟩) (by assumption) ?_
      rotate_left
      focus
        intro U hU
        try dsimp only at hU
        go_simp
        try (with_reducible rfl)
      simp only [List.getElem_toArray, List.getElem_cons_succ, List.getElem_cons_zero, Act.put, List.setIfInBounds_toArray, List.set_cons_zero, List.set_cons_succ]
      refine wpAnyH_take (i := 25) (v := ?_) rfl (by kernel_rfl) (by kernel_rfl) (by kernel_rfl) (fun _ _ _ h => h) (Or.inl ⟨by rfl, ?_⟩) (by assumption) ?_
      rotate_left
      focus
        intro U hU
        try dsimp only at hU
        go_simp
        try (with_reducible rfl)
      simp only [List.getElem_toArray, List.getElem_cons_succ, List.getElem_cons_zero, Act.put, List.setIfInBounds_toArray, List.set_cons_zero, List.set_cons_succ]
      refine wpAnyH_take (i := 26) (v := ?_) rfl (by kernel_rfl) (by kernel_rfl) (by kernel_rfl) (fun _ _ _ h => h) (Or.inl ⟨by rfl, ?_⟩) (by assumption) ?_
      rotate_left
      focus
        intro U hU
        try dsimp only at hU
        go_simp
        try (with_reducible rfl)
      simp only [List.getElem_toArray, List.getElem_cons_succ, List.getElem_cons_zero, Act.put, List.setIfInBounds_toArray, List.set_cons_zero, List.set_cons_succ]
      refine wpAnyH_take (i := 27) (v := ?_) rfl (by kernel_rfl) (by kernel_rfl) (by kernel_rfl) (fun _ _ _ h => h) (Or.inl ⟨by rfl, ?_⟩) (by assumption) ?_
      rotate_left
      focus
        intro U hU
        try dsimp only at hU
        go_simp
        try (with_reducible rfl)
      simp only [List.getElem_toArray, List.getElem_cons_succ, List.getElem_cons_zero, Act.put, List.setIfInBounds_toArray, List.set_cons_zero, List.set_cons_succ]
      refine wpAnyH_take (i := 28) (v := ?_) rfl (by kernel_rfl) (by kernel_rfl) (by kernel_rfl) (fun _ _ _ h => h) (Or.inl ⟨by rfl, ?_⟩) (by assumption) ?_
      rotate_left
      focus
        intro U hU
        try dsimp only at hU
        go_simp
        try (with_reducible rfl)
      simp only [List.getElem_toArray, List.getElem_cons_succ, List.getElem_cons_zero, Act.put, List.setIfInBounds_toArray, List.set_cons_zero, List.set_cons_succ]
      refine wpAnyH_take (i := 29) (v := ?_) rfl (by kernel_rfl) (by kernel_rfl) (by kernel_rfl) (fun _ _ _ h => h) (Or.inl ⟨by rfl, ?_⟩) (by assumption) ?_
      rotate_left
      focus
        intro U hU
        try dsimp only at hU
        go_simp
        try (with_reducible rfl)
      simp only [List.getElem_toArray, List.getElem_cons_succ, List.getElem_cons_zero, Act.put, List.setIfInBounds_toArray, List.set_cons_zero, List.set_cons_succ]
      refine wpAnyH_take (i := 30) (v := ?_) rfl (by kernel_rfl) (by kernel_rfl) (by kernel_rfl) (fun _ _ _ h => h) (Or.inl ⟨by rfl, ?_⟩) (by assumption) ?_
      rotate_left
      focus
        intro U hU
        try dsimp only at hU
        go_simp
        try (with_reducible rfl)
      simp only [List.getElem_toArray, List.getElem_cons_succ, List.getElem_cons_zero, Act.put, List.setIfInBounds_toArray, List.set_cons_zero, List.set_cons_succ]
      refine wpAnyH_take (i := 31) (v := ?_) rfl (by kernel_rfl) (by kernel_rfl) (by kernel_rfl) (fun _ _ _ h => h) (Or.inl ⟨by rfl, ?_⟩) (by assumption) ?_
      rotate_left
      focus
        intro U hU
        try dsimp only at hU
        go_simp
        try (with_reducible rfl)
      simp only [List.getElem_toArray, List.getElem_cons_succ, List.getElem_cons_zero, Act.put, List.setIfInBounds_toArray, List.set_cons_zero, List.set_cons_succ]
      refine wpAnyH_take (i := 32) (v := ?_) rfl (by kernel_rfl) (by kernel_rfl) (by kernel_rfl) (fun _ _ _ h => h) (Or.inl ⟨by rfl, ?_⟩) (by assumption) ?_
      rotate_left
      focus
        intro U hU
        try dsimp only at hU
        go_simp
        try (with_reducible rfl)
      simp only [List.getElem_toArray, List.getElem_cons_succ, List.getElem_cons_zero, Act.put, List.setIfInBounds_toArray, List.set_cons_zero, List.set_cons_succ]
      refine wpAnyH_ready (rs := [33]) (by kernel_rfl) (by simp) ?_
      refine AllReadyH.cons rfl (fun K hK => ?_) AllReadyH.nil
      simp only [List.getElem_toArray, List.getElem_cons_succ, List.getElem_cons_zero]
      go_simp
      refine hK.out _ _ ?_ (fun hHeld2 => ?_)
      focus
        exact hS17 _ ⟨hx7, hP7⟩
      clear hHeld
      have hHeld := hHeld2
      clear hHeld2 hK K
      try simp only [List.getElem_toArray, List.getElem_cons_succ, List.getElem_cons_zero, Act.put, List.setIfInBounds_toArray, List.set_cons_zero, List.set_cons_succ]
      refine wpAnyH_done (by kernel_rfl) ?_ _
      clear hHeld hS17 hbe hF6 hd hx6 hP6
      go_upto_region 18 with (fail)
      refine at_world (fun u => PX W u g (setPA x ⟨f2, t2, i2, ⟨p2, q2, l2, w2', fl2⟩, m2, gp2, gl2⟩) A2 c2 B cb D cd ∧ OwnP W u (.slice B2 l.length d2) l) ⟨hx7, hP7⟩ ?_
      clear hx7 hP7
      rintro w8 ⟨hx8, hP8⟩
      go_upto_region 18 with (fail)
      have hxd := hx8.keep (below_drew (Below.refl _ _))
      have hPd := own_keep hP8 (below_drew (Below.refl w8.heap.size w8))
      clear hx8 hP8
      refine wp_region_held_drew (S := fun U => True) (by kernel_rfl) trivial (fun hHeld => ?_)
      generalize w8.drew = q1 at *
      have hgd := hxd.1
      simp only [prc, setPA] at hgd
      obtain ⟨⟨cp0, cp1, cp2, cp3, cp4, cp5, cp6, cp7, cp8, cp9, cp10, cp11, cp12, cp13, cp14, cp15, cp16, cp17, cp18, cp19, cp20, cp21, cp22, cp23, cp24, cp25, cp26, cp27⟩, ⟨cg0, cg1, cg2, cg3, cg4, cg5, cg6, cg7, cg8, cg9, cg10, cg11, cg12, cg13, cg14, cg15, cg16, cg17, cg18, cg19, cg20, cg21, cg22, cg23, cg24, cg25, cg26, cg27⟩⟩ := pair_cells hgd
      have hup := hxd.cellUp 26 (.int .i64 (x.c1 + 1)) (y := upC1 (setPA x ⟨f2, t2, i2, ⟨p2, q2, l2, w2', fl2⟩, m2, gp2, gl2⟩)) rfl rfl rfl rfl
      have hPu := own_at hPd hxd.1 (by decide) fun j hj => Below.heap_setCell q1 ⟨g, 26, none⟩ (.int .i64 (x.c1 + 1)) j hj
      have hwr : IntKind.i64.wrap (x.c1 + 1) = x.c1 + 1 := by
        have := HPP.out
        simp [IntKind.wrap, IntKind.bits, IntKind.signed]
        omega
      have HWR := hid hwr
      clear hwr hgd
      refine wpAnyH_take (i := 0) (v := ?_) rfl (by kernel_rfl) (by kernel_rfl) (by kernel_rfl) (fun _ _ _ h => h) (Or.inl ⟨by rfl, ?_⟩) (by assumption) ?_
      rotate_left
      focus
        intro U hU
        try dsimp only at hU
        go_simp
        try (with_reducible rfl)
      simp only [List.getElem_toArray, List.getElem_cons_succ, List.getElem_cons_zero, Act.put, List.setIfInBounds_toArray, List.set_cons_zero, List.set_cons_succ]
      refine wpAnyH_take (i := 1) (v := ?_) rfl (by kernel_rfl) (by kernel_rfl) (by kernel_rfl) (fun _ _ _ h => h) (Or.inl ⟨by rfl, ?_⟩) (by assumption) ?_
      rotate_left
      focus
        intro U hU
        try dsimp only at hU
        go_simp
        try (with_reducible rfl)
      simp only [List.getElem_toArray, List.getElem_cons_succ, List.getElem_cons_zero, Act.put, List.setIfInBounds_toArray, List.set_cons_zero, List.set_cons_succ]
      refine wpAnyH_take (i := 2) (v := ?_) rfl (by kernel_rfl) (by kernel_rfl) (by kernel_rfl) (fun _ _ _ h => h) (Or.inl ⟨by rfl, ?_⟩) (by assumption) ?_
      rotate_left
      focus
        intro U hU
        try dsimp only at hU
        go_simp
        try (with_reducible rfl)
      simp only [List.getElem_toArray, List.getElem_cons_succ, List.getElem_cons_zero, Act.put, List.setIfInBounds_toArray, List.set_cons_zero, List.set_cons_succ]
      refine wpAnyH_take (i := 3) (v := ?_) rfl (by kernel_rfl) (by kernel_rfl) (by kernel_rfl) (fun _ _ _ h => h) (Or.inl ⟨by rfl, ?_⟩) (by assumption) ?_
      rotate_left
      focus
        intro U hU
        try dsimp only at hU
        go_simp
        try (with_reducible rfl)
      simp only [List.getElem_toArray, List.getElem_cons_succ, List.getElem_cons_zero, Act.put, List.setIfInBounds_toArray, List.set_cons_zero, List.set_cons_succ]
      refine wpAnyH_take (i := 4) (v := ?_) rfl (by kernel_rfl) (by kernel_rfl) (by kernel_rfl) (fun _ _ _ h => h) (Or.inl ⟨by rfl, ?_⟩) (by assumption) ?_
      rotate_left
      focus
        intro U hU
        try dsimp only at hU
        go_simp
        try (with_reducible rfl)
      simp only [List.getElem_toArray, List.getElem_cons_succ, List.getElem_cons_zero, Act.put, List.setIfInBounds_toArray, List.set_cons_zero, List.set_cons_succ]
      refine wpAnyH_take (i := 7) (v := ?_) rfl (by kernel_rfl) (by kernel_rfl) (by kernel_rfl) (fun _ _ _ h => h) (Or.inl ⟨by rfl, ?_⟩) (by assumption) ?_
      rotate_left
      focus
        intro U hU
        try dsimp only at hU
        go_simp
        try (with_reducible rfl)
      simp only [List.getElem_toArray, List.getElem_cons_succ, List.getElem_cons_zero, Act.put, List.setIfInBounds_toArray, List.set_cons_zero, List.set_cons_succ]
      refine wpAnyH_take (i := 8) (v := ?_) rfl (by kernel_rfl) (by kernel_rfl) (by kernel_rfl) (fun _ _ _ h => h) (Or.inl ⟨by rfl, ?_⟩) (by assumption) ?_
      rotate_left
      focus
        intro U hU
        try dsimp only at hU
        go_simp
        try (with_reducible rfl)
      simp only [List.getElem_toArray, List.getElem_cons_succ, List.getElem_cons_zero, Act.put, List.setIfInBounds_toArray, List.set_cons_zero, List.set_cons_succ]
      refine wpAnyH_ready (rs := [5]) (by kernel_rfl) (by simp) ?_
      refine AllReadyH.cons rfl (fun K hK => ?_) AllReadyH.nil
      simp only [List.getElem_toArray, List.getElem_cons_succ, List.getElem_cons_zero]
      go_simp
      refine hK.out _ _ ?_ (fun hHeld2 => ?_)
      focus
        exact trivial
      clear hHeld
      have hHeld := hHeld2
      clear hHeld2 hK K
      try simp only [List.getElem_toArray, List.getElem_cons_succ, List.getElem_cons_zero, Act.put, List.setIfInBounds_toArray, List.set_cons_zero, List.set_cons_succ]
      refine wpAnyH_take (i := 6) (v := ?_) rfl (by kernel_rfl) (by kernel_rfl) (by kernel_rfl) (fun _ _ _ h => h) (Or.inl ⟨by rfl, ?_⟩) (by assumption) ?_
      rotate_left
      focus
        intro U hU
        try dsimp only at hU
        go_simp
        try (with_reducible rfl)
      simp only [List.getElem_toArray, List.getElem_cons_succ, List.getElem_cons_zero, Act.put, List.setIfInBounds_toArray, List.set_cons_zero, List.set_cons_succ]
      refine wpAnyH_take (i := 9) (v := ?_) rfl (by kernel_rfl) (by kernel_rfl) (by kernel_rfl) (fun _ _ _ h => h) (Or.inl ⟨by rfl, ?_⟩) (by assumption) ?_
      rotate_left
      focus
        intro U hU
        try dsimp only at hU
        go_simp
        try (with_reducible rfl)
      simp only [List.getElem_toArray, List.getElem_cons_succ, List.getElem_cons_zero, Act.put, List.setIfInBounds_toArray, List.set_cons_zero, List.set_cons_succ]
      refine wpAnyH_ready (rs := [10]) (by kernel_rfl) (by simp) ?_
      refine AllReadyH.cons rfl (fun K hK => ?_) AllReadyH.nil
      simp only [List.getElem_toArray, List.getElem_cons_succ, List.getElem_cons_zero]
      go_simp
      refine hK.out _ _ ?_ (fun hHeld2 => ?_)
      focus
        exact trivial
      clear hHeld
      have hHeld := hHeld2
      clear hHeld2 hK K
      try simp only [List.getElem_toArray, List.getElem_cons_succ, List.getElem_cons_zero, Act.put, List.setIfInBounds_toArray, List.set_cons_zero, List.set_cons_succ]
      refine wpAnyH_done (by kernel_rfl) ?_ _
      clear hHeld cp0 cp1 cp2 cp3 cp4 cp5 cp6 cp7 cp8 cp9 cp10 cp11 cp12 cp13 cp14 cp15 cp16 cp17 cp18 cp19 cp20 cp21 cp22 cp23 cp24 cp25 cp26 cp27 cg0 cg1 cg2 cg3 cg4 cg5 cg6 cg7 cg8 cg9 cg10 cg11 cg12 cg13 cg14 cg15 cg16 cg17 cg18 cg19 cg20 cg21 cg22 cg23 cg24 cg25 cg26 cg27
      go_upto_region 19 with (fail)
      rw [HWR.out]
      refine at_world (fun u => PX W u g (upC1 (setPA x ⟨f2, t2, i2, ⟨p2, q2, l2, w2', fl2⟩, m2, gp2, gl2⟩)) A2 c2 B cb D cd ∧ OwnP W u (.slice B2 l.length d2) l) ⟨hup, hPu⟩ ?_
      clear HWR hup hPu hxd hPd
      rintro w5 ⟨hx5, hP5⟩
      have hg5 := hx5.1
      simp only [prc, upC1, setPA] at hg5
      obtain ⟨⟨cp0, cp1, cp2, cp3, cp4, cp5, cp6, cp7, cp8, cp9, cp10, cp11, cp12, cp13, cp14, cp15, cp16, cp17, cp18, cp19, cp20, cp21, cp22, cp23, cp24, cp25, cp26, cp27⟩, ⟨cg0, cg1, cg2, cg3, cg4, cg5, cg6, cg7, cg8, cg9, cg10, cg11, cg12, cg13, cg14, cg15, cg16, cg17, cg18, cg19, cg20, cg21, cg22, cg23, cg24, cg25, cg26, cg27⟩⟩ := pair_cells hg5
      have HX5 := hid hx5
      have hsl5 := sl_own hP5
      have hwl : x.w.length ≤ 100000 := HWL.out
      have htl : l.length ≤ 2 := HTL.out
      have hbe := hx5.2.2.2.2.2.size
      clear hg5 hx5 hP5
      go_wp2_with (at_builtin; refine wpList_append_slk rfl (.tmp 103) (.tmp 104) 56 rfl W.heap.size 71 Try.underlying56 info_pkt rfl (by omega) rfl HX5.out.2.2.2.2.1 rfl hsl5 (pkc_one _) (by show x.w.length + _ ≤ _; unfold maxLen; omega) (by show (x.w.length + _) * 64 ≤ _; omega) hbe ?_)
      intro v6 w6 ho6 hb6 hsz6 hk6
      obtain ⟨D6, d6, rfl, _⟩ := Mid.form ho6
      have HF := hid (HX5.out.app ho6 hb6 hk6)
      have hg6 := (hk6 g HX5.out.2.1 (lt_of_block HX5.out.1) (mid_blk_ne HX5.out.2.2.2.2.1 HX5.out.1 (by decide))).trans HX5.out.1
      simp only [prc, upC1, setPA] at hg6
      clear cp0 cp1 cp2 cp3 cp4 cp5 cp6 cp7 cp8 cp9 cp10 cp11 cp12 cp13 cp14 cp15 cp16 cp17 cp18 cp19 cp20 cp21 cp22 cp23 cp24 cp25 cp26 cp27 cg0 cg1 cg2 cg3 cg4 cg5 cg6 cg7 cg8 cg9 cg10 cg11 cg12 cg13 cg14 cg15 cg16 cg17 cg18 cg19 cg20 cg21 cg22 cg23 cg24 cg25 cg26 cg27 ho6 hb6 hsz6 hk6 HX5 hsl5
      obtain ⟨_, ⟨cg0, cg1, cg2, cg3, cg4, cg5, cg6, cg7, cg8, cg9, cg10, cg11, cg12, cg13, cg14, cg15, cg16, cg17, cg18, cg19, cg20, cg21, cg22, cg23, cg24, cg25, cg26, cg27⟩⟩ := pair_cells hg6
      clear hg6
      go_wp2
      go_end0
      exact ⟨⟨_, rfl⟩, by rw [HR.out]; exact ⟨_, _, _, _, _, _, HF.out⟩⟩
end Go.Proofs.Ytdekemlckpbbcaa
