/- puts, of the first end: contract. -/
import Derived.Test.YtdekemlckpbbcaaLnkK
namespace Go.Proofs.Ytdekemlckpbbcaa
open Go.RowKit Go.Sort
set_option linter.unusedVariables false
set_option linter.unusedSimpArgs false

theorem PX.other {W u : World} {g Z : Nat} {x : Pr} {A : Option Addr} {ca : Nat} {B : Option Addr} {cb : Nat} {D : Option Addr} {cd : Nat} (h : PX W u g x A ca B cb D cd) {x0 x1 x2 x3 x4 x5 x6 x7 x8 x9 x10 : Value} (hz : u.heap[Z]? = some (.cells #[x0, x1, x2, x3, x4, x5, x6, x7, x8, x9, x10] 54 (0, 0))) (hne : g ≠ Z) (hZ : W.heap.size ≤ Z) (a0 a1 a2 a3 a4 a5 a6 a7 a8 a9 a10 : Value) : PX W (put11 u Z a0 a1 a2 a3 a4 a5 a6 a7 a8 a9 a10) g x A ca B cb D cd :=
  ⟨(put11_other hne a0 a1 a2 a3 a4 a5 a6 a7 a8 a9 a10).trans h.1, h.2.1, own_at h.2.2.1 hz (by decide) fun j hj => put11_other hj a0 a1 a2 a3 a4 a5 a6 a7 a8 a9 a10, own_at h.2.2.2.1 hz (by decide) fun j hj => put11_other hj a0 a1 a2 a3 a4 a5 a6 a7 a8 a9 a10, mid_at h.2.2.2.2.1 hz (by decide) fun j hj => put11_other hj a0 a1 a2 a3 a4 a5 a6 a7 a8 a9 a10, put11_below h.2.2.2.2.2 hZ a0 a1 a2 a3 a4 a5 a6 a7 a8 a9 a10⟩
theorem PX.up {W u : World} {g : Nat} {x : Pr} {A : Option Addr} {ca : Nat} {B : Option Addr} {cb : Nat} {D : Option Addr} {cd : Nat} (h : PX W u g x A ca B cb D cd) : PX W (u.setCell ⟨g, 23, none⟩ (.int .i64 (x.p0 + 1))) g ⟨x.a, x.b, x.w, x.p0 + 1, x.p1, x.c0, x.c1, x.ok⟩ A ca B cb D cd :=
  ⟨by rw [heap_setCell_same u g 23 _ _ _ h.1]; rfl, h.2.1, own_at h.2.2.1 h.1 (by decide) fun j hj => Below.heap_setCell _ _ _ _ hj, own_at h.2.2.2.1 h.1 (by decide) fun j hj => Below.heap_setCell _ _ _ _ hj, mid_at h.2.2.2.2.1 h.1 (by decide) fun j hj => Below.heap_setCell _ _ _ _ hj, h.2.2.2.2.2.setCell (p := ⟨g, 23, none⟩) h.2.1 _⟩
def putE0 (x : Pr) : (Ev × List Pk) × Int := putE x.a 16 (116 :: numT x.p0.toNat)
def upP0 (x : Pr) : Pr := ⟨x.a, x.b, x.w, x.p0 + 1, x.p1, x.c0, x.c1, x.ok⟩
def puts0V (x : Pr) : Pr := if (putE0 x).2 ≠ 0 then x else addW (upP0 (setPA x (putE0 x).1.1)) (putE0 x).1.2
theorem putE_len (e : Ev) (b : Int) (y : List UInt8) : (putE e b y).1.2.length ≤ 1 := by
  unfold putE
  split
  · simp
  · exact dataV_len _ _

set_option maxRecDepth 20000 in
set_option maxHeartbeats 8000000 in
theorem puts0_any (x : Pr) (g : Nat) (W u : World) (A : Option Addr) (ca : Nat) (B : Option Addr) (cb : Nat) (D : Option Addr) (cd : Nat) (h : PX W u g x A ca B cb D cd) (hl : x.a.o.l.length ≤ 999) (hw : x.w.length ≤ 100000) (hp0 : 0 ≤ x.p0) (hp : x.p0 ≤ 1000000) :
    Calls Try.prog 62 #[.pointer (some ⟨g, 0, none⟩), .int .i64 0] u fun e u' => (∃ v, e = .returned v) ∧ ∃ A ca B cb D cd, PX W u' g (puts0V x) A ca B cb D cd := by
  have HNM := hid (fun w => name_any x.p0.toNat (by omega) w)
  rw [Int.toNat_of_nonneg hp0] at HNM
  have hnl : (116 :: numT x.p0.toNat).length ≤ maxLen := by
    unfold numT
    split
    · simp [maxLen]
    · have := decN_len x.p0.toNat
      rw [List.length_cons]
      unfold maxLen
      omega
  have HT := hid (fun w (hb : Below u.heap.size u w) => lput_any x.a 16 (116 :: numT x.p0.toNat) A ca w (sl_own (own_keep h.2.2.1 hb)) hl hnl)
  have HTL := hid (putE_len x.a 16 (116 :: numT x.p0.toNat))
  have HV : Hid (puts0V x = if (putE x.a 16 (116 :: numT x.p0.toNat)).2 ≠ 0 then x else addW (upP0 (setPA x (putE x.a 16 (116 :: numT x.p0.toNat)).1.1)) (putE x.a 16 (116 :: numT x.p0.toNat)).1.2) := hid rfl
  have HU := hid (h.2.2.2.2.2.size)
  have HWL := hid hw
  have HPP := hid (And.intro hp0 hp)
  generalize putE x.a 16 (116 :: numT x.p0.toNat) = r at *
  generalize (116 :: numT x.p0.toNat) = nm at *
  obtain ⟨⟨⟨f2, t2, i2, ⟨p2, q2, l2, w2', fl2⟩, m2, gp2, gl2⟩, l⟩, er⟩ := r
  have hg := h.1
  have hgl := lt_of_block hg
  have HX := hid h
  clear hnl h hl hw hp0 hp
  simp only [ec] at HT
  have hS : ∀ U, Below u.heap.size u U → (((U.cell? ⟨g, 0, none⟩ = some (.int .i64 x.a.f) ∧ U.cell? ⟨g, 1, none⟩ = some (.int .i64 x.a.t) ∧ U.cell? ⟨g, 2, none⟩ = some (.int .i64 x.a.i) ∧ U.cell? ⟨g, 3, none⟩ = some (.int .i64 x.a.o.p) ∧ U.cell? ⟨g, 4, none⟩ = some (.int .i64 x.a.o.q) ∧ U.cell? ⟨g, 5, none⟩ = some (.slice A x.a.o.l.length ca) ∧ U.cell? ⟨g, 6, none⟩ = some (.int .i64 x.a.o.w) ∧ U.cell? ⟨g, 7, none⟩ = some (.int .i64 x.a.o.f) ∧ U.cell? ⟨g, 8, none⟩ = some (.int .i64 x.a.m) ∧ U.cell? ⟨g, 9, none⟩ = some (.int .i64 x.a.p) ∧ U.cell? ⟨g, 10, none⟩ = some (.int .i64 x.a.l)) ∧ U.cell? ⟨g, 23, none⟩ = some (.int .i64 x.p0)) ∧ Below u.heap.size u U) := fun U hU => by
    have h9 := keep0 hg hU
    simp only [prc] at h9
    have h8 := (pair_cells h9).1
    exact ⟨⟨⟨h8.1, h8.2.1, h8.2.2.1, h8.2.2.2.1, h8.2.2.2.2.1, h8.2.2.2.2.2.1, h8.2.2.2.2.2.2.1, h8.2.2.2.2.2.2.2.1, h8.2.2.2.2.2.2.2.2.1, h8.2.2.2.2.2.2.2.2.2.1, h8.2.2.2.2.2.2.2.2.2.2.1⟩, h8.2.2.2.2.2.2.2.2.2.2.2.2.2.2.2.2.2.2.2.2.2.2.2.1⟩, hU⟩
  clear hg
  go_enter Try.func62, Try.ntmps62
  go_upto_region 0 with (fail)
  have hk0 : Below u.heap.size u u.drew := below_drew (Below.refl _ _)
  refine wp_region_held_drew (S := fun U => ((U.cell? ⟨g, 0, none⟩ = some (.int .i64 x.a.f) ∧ U.cell? ⟨g, 1, none⟩ = some (.int .i64 x.a.t) ∧ U.cell? ⟨g, 2, none⟩ = some (.int .i64 x.a.i) ∧ U.cell? ⟨g, 3, none⟩ = some (.int .i64 x.a.o.p) ∧ U.cell? ⟨g, 4, none⟩ = some (.int .i64 x.a.o.q) ∧ U.cell? ⟨g, 5, none⟩ = some (.slice A x.a.o.l.length ca) ∧ U.cell? ⟨g, 6, none⟩ = some (.int .i64 x.a.o.w) ∧ U.cell? ⟨g, 7, none⟩ = some (.int .i64 x.a.o.f) ∧ U.cell? ⟨g, 8, none⟩ = some (.int .i64 x.a.m) ∧ U.cell? ⟨g, 9, none⟩ = some (.int .i64 x.a.p) ∧ U.cell? ⟨g, 10, none⟩ = some (.int .i64 x.a.l)) ∧ U.cell? ⟨g, 23, none⟩ = some (.int .i64 x.p0)) ∧ Below u.heap.size u U) (by kernel_rfl) (hS _ hk0) (fun hHeld => ?_)
  generalize u.drew = k0 at *
  refine wpAnyH_take (i := 0) (v := ?_) rfl (by kernel_rfl) (by kernel_rfl) (by kernel_rfl) (fun _ _ _ h => h) (Or.inl ⟨by rfl, ?_⟩) (by assumption) ?_
  rotate_left
  focus
    intro U hU
    try dsimp only at hU
    go_simp
    try (with_reducible rfl)
  simp only [List.getElem_toArray, List.getElem_cons_succ, List.getElem_cons_zero, Act.put, List.setIfInBounds_toArray, List.set_cons_zero, List.set_cons_succ]
  refine wpAnyH_take (i := 1) (v := ?_) rfl (by kernel_rfl) (by kernel_rfl) (by kernel_rfl) (fun _ _ _ h => h) (Or.inl ⟨by rfl, ?_⟩) (by assumption) ?_
  rotate_left
  focus
    intro U hU
    try dsimp only at hU
    go_simp
    try (with_reducible rfl)
  simp only [List.getElem_toArray, List.getElem_cons_succ, List.getElem_cons_zero, Act.put, List.setIfInBounds_toArray, List.set_cons_zero, List.set_cons_succ]
  refine wpAnyH_take (i := 2) (v := ?_) rfl (by kernel_rfl) (by kernel_rfl) (by kernel_rfl) (fun _ _ _ h => h) (Or.inl ⟨by rfl, ?_⟩) (by assumption) ?_
  rotate_left
  focus
    intro U hU
    try dsimp only at hU
    go_simp
    try (with_reducible rfl)
  simp only [List.getElem_toArray, List.getElem_cons_succ, List.getElem_cons_zero, Act.put, List.setIfInBounds_toArray, List.set_cons_zero, List.set_cons_succ]
  refine wpAnyH_take (i := 3) (v := ?_) rfl (by kernel_rfl) (by kernel_rfl) (by kernel_rfl) (fun _ _ _ h => h) (Or.inl ⟨by rfl, ?_⟩) (by assumption) ?_
  rotate_left
  focus
    intro U hU
    try dsimp only at hU
    go_simp
    try (with_reducible rfl)
  simp only [List.getElem_toArray, List.getElem_cons_succ, List.getElem_cons_zero, Act.put, List.setIfInBounds_toArray, List.set_cons_zero, List.set_cons_succ]
  refine wpAnyH_take (i := 4) (v := ?_) rfl (by kernel_rfl) (by kernel_rfl) (by kernel_rfl) (fun _ _ _ h => h) (Or.inl ⟨by rfl, ?_⟩) (by assumption) ?_
  rotate_left
  focus
    intro U hU
    try dsimp only at hU
    go_simp
    try (with_reducible rfl)
  simp only [List.getElem_toArray, List.getElem_cons_succ, List.getElem_cons_zero, Act.put, List.setIfInBounds_toArray, List.set_cons_zero, List.set_cons_succ]
  refine wpAnyH_take (i := 5) (v := ?_) rfl (by kernel_rfl) (by kernel_rfl) (by kernel_rfl) (fun _ _ _ h => h) (Or.inl ⟨by rfl, ?_⟩) (by assumption) ?_
  rotate_left
  focus
    intro U hU
    try dsimp only at hU
    go_simp
    try (with_reducible rfl)
  simp only [List.getElem_toArray, List.getElem_cons_succ, List.getElem_cons_zero, Act.put, List.setIfInBounds_toArray, List.set_cons_zero, List.set_cons_succ]
  refine wpAnyH_take (i := 6) (v := ?_) rfl (by kernel_rfl) (by kernel_rfl) (by kernel_rfl) (fun _ _ _ h => h) (Or.inl ⟨by rfl, ?_⟩) (by assumption) ?_
  rotate_left
  focus
    intro U hU
    try dsimp only at hU
    go_simp
    try (with_reducible rfl)
  simp only [List.getElem_toArray, List.getElem_cons_succ, List.getElem_cons_zero, Act.put, List.setIfInBounds_toArray, List.set_cons_zero, List.set_cons_succ]
  refine wpAnyH_take (i := 7) (v := ?_) rfl (by kernel_rfl) (by kernel_rfl) (by kernel_rfl) (fun _ _ _ h => h) (Or.inl ⟨by rfl, ?_⟩) (by assumption) ?_
  rotate_left
  focus
    intro U hU
    try dsimp only at hU
    go_simp
    try (with_reducible rfl)
  simp only [List.getElem_toArray, List.getElem_cons_succ, List.getElem_cons_zero, Act.put, List.setIfInBounds_toArray, List.set_cons_zero, List.set_cons_succ]
  refine wpAnyH_take (i := 8) (v := ?_) rfl (by kernel_rfl) (by kernel_rfl) (by kernel_rfl) (fun _ _ _ h => h) (Or.inl ⟨by rfl, ?_⟩) (by assumption) ?_
  rotate_left
  focus
    intro U hU
    try dsimp only at hU
    go_simp
    try (with_reducible rfl)
  simp only [List.getElem_toArray, List.getElem_cons_succ, List.getElem_cons_zero, Act.put, List.setIfInBounds_toArray, List.set_cons_zero, List.set_cons_succ]
  refine wpAnyH_ready (rs := [9, 15]) (by kernel_rfl) (by simp) ?_
  refine (AllReadyH.cons rfl (fun K hK => ?_) (AllReadyH.cons rfl (fun K hK => ?_) AllReadyH.nil))
  · skip
    simp only [List.getElem_toArray, List.getElem_cons_succ, List.getElem_cons_zero]
    go_simp
    refine (HNM.out _).mono ?_
    rintro e u1 ⟨rfl, g1⟩
    have hk1 := hk0.trans (g1.mono hk0.size)
    clear g1
    go_wp2_with fail
    refine hK.out _ _ ?_ (fun hHeld2 => ?_)
    focus
      exact hS _ hk1
    clear hHeld
    have hHeld := hHeld2
    clear hHeld2 hK K
    try simp only [List.getElem_toArray, List.getElem_cons_succ, List.getElem_cons_zero, Act.put, List.setIfInBounds_toArray, List.set_cons_zero, List.set_cons_succ]
    refine wpAnyH_ready (rs := [10, 15]) (by kernel_rfl) (by simp) ?_
    refine (AllReadyH.cons rfl (fun K hK => ?_) (AllReadyH.cons rfl (fun K hK => ?_) AllReadyH.nil))
    · skip
      simp only [List.getElem_toArray, List.getElem_cons_succ, List.getElem_cons_zero]
      go_simp
      refine (HT.out _ hk1).mono ?_
      rintro e u2 ⟨A2, c2, B2, d2, rfl, ho2, hP2, g2⟩
      simp only [ec]
      have hk2 := hk1.trans (g2.mono hk1.size)
      have ho3 := own_mono ho2 (Nat.le_trans HU.out hk1.size)
      have hP3 := own_mono hP2 (Nat.le_trans HU.out hk1.size)
      clear g2 ho2 hP2
      go_wp2_with fail
      refine hK.out _ _ ?_ (fun hHeld2 => ?_)
      focus
        exact hS _ hk2
      clear hHeld
      have hHeld := hHeld2
      clear hHeld2 hK K
      try simp only [List.getElem_toArray, List.getElem_cons_succ, List.getElem_cons_zero, Act.put, List.setIfInBounds_toArray, List.set_cons_zero, List.set_cons_succ]
      refine wpAnyH_take (i := 11) (v := ?_) rfl (by kernel_rfl) (by kernel_rfl) (by kernel_rfl) (fun _ _ _ h => h) (Or.inl ⟨by rfl, ?_⟩) (by assumption) ?_
      rotate_left
      focus
        intro U hU
        try dsimp only at hU
        go_simp
        try (with_reducible rfl)
      simp only [List.getElem_toArray, List.getElem_cons_succ, List.getElem_cons_zero, Act.put, List.setIfInBounds_toArray, List.set_cons_zero, List.set_cons_succ]
      refine wpAnyH_take (i := 12) (v := ?_) rfl (by kernel_rfl) (by kernel_rfl) (by kernel_rfl) (fun _ _ _ h => h) (Or.inl ⟨by rfl, ?_⟩) (by assumption) ?_
      rotate_left
      focus
        intro U hU
        try dsimp only at hU
        go_simp
        try (with_reducible rfl)
      simp only [List.getElem_toArray, List.getElem_cons_succ, List.getElem_cons_zero, Act.put, List.setIfInBounds_toArray, List.set_cons_zero, List.set_cons_succ]
      refine wpAnyH_take (i := 13) (v := ?_) rfl (by kernel_rfl) (by kernel_rfl) (by kernel_rfl) (fun _ _ _ h => h) (Or.inl ⟨by rfl, ?_⟩) (by assumption) ?_
      rotate_left
      focus
        intro U hU
        try dsimp only at hU
        go_simp
        try (with_reducible rfl)
      simp only [List.getElem_toArray, List.getElem_cons_succ, List.getElem_cons_zero, Act.put, List.setIfInBounds_toArray, List.set_cons_zero, List.set_cons_succ]
      refine wpAnyH_take (i := 14) (v := ?_) rfl (by kernel_rfl) (by kernel_rfl) (by kernel_rfl) (fun _ _ _ h => h) (Or.inl ⟨by rfl, ?_⟩) (by assumption) ?_
      rotate_left
      focus
        intro U hU
        try dsimp only at hU
        go_simp
        try (with_reducible rfl)
      simp only [List.getElem_toArray, List.getElem_cons_succ, List.getElem_cons_zero, Act.put, List.setIfInBounds_toArray, List.set_cons_zero, List.set_cons_succ]
      refine wpAnyH_ready (rs := [15]) (by kernel_rfl) (by simp) ?_
      refine (AllReadyH.cons rfl (fun K hK => ?_) AllReadyH.nil)
      simp only [List.getElem_toArray, List.getElem_cons_succ, List.getElem_cons_zero]
      go_simp
      refine hK.out _ _ ?_ (fun hHeld2 => ?_)
      focus
        exact hS _ (hk2.alloc hk2.size _)
      clear hHeld
      have hHeld := hHeld2
      clear hHeld2 hK K
      try simp only [List.getElem_toArray, List.getElem_cons_succ, List.getElem_cons_zero, Act.put, List.setIfInBounds_toArray, List.set_cons_zero, List.set_cons_succ]
      have hbn : Below (World.heap u2).size u2 (World.alloc u2 (.cells #[.int .i64 0, .int .i64 0, .int .i64 0, .int .i64 0, .int .i64 0, .slice none 0 0, .int .i64 0, .int .i64 0, .int .i64 0, .int .i64 0, .int .i64 0] 54)) := (Below.refl _ _).alloc (Nat.le_refl _) _
      have hk3 := hk2.trans (hbn.mono hk2.size)
      have hz3 := heap_alloc_new u2 (.cells #[.int .i64 0, .int .i64 0, .int .i64 0, .int .i64 0, .int .i64 0, .slice none 0 0, .int .i64 0, .int .i64 0, .int .i64 0, .int .i64 0, .int .i64 0] 54)
      have hle : u.heap.size ≤ (World.heap u2).size := hk2.size
      have ho4 := own_keep ho3 hbn
      have hP4 := own_keep hP3 hbn
      clear hbn
      generalize World.alloc u2 (.cells #[.int .i64 0, .int .i64 0, .int .i64 0, .int .i64 0, .int .i64 0, .slice none 0 0, .int .i64 0, .int .i64 0, .int .i64 0, .int .i64 0, .int .i64 0] 54) = k9 at *
      generalize (World.heap u2).size = Zb at *
      have hxv := HX.out.keep hk3
      have hxw := hxv.other hz3 (by omega) (Nat.le_trans HU.out hle) (.int .i64 f2) (.int .i64 t2) (.int .i64 i2) (.int .i64 p2) (.int .i64 q2) (.slice A2 l2.length c2) (.int .i64 w2') (.int .i64 fl2) (.int .i64 m2) (.int .i64 gp2) (.int .i64 gl2)
      have hk4 := put11_below hk3 hle (.int .i64 f2) (.int .i64 t2) (.int .i64 i2) (.int .i64 p2) (.int .i64 q2) (.slice A2 l2.length c2) (.int .i64 w2') (.int .i64 fl2) (.int .i64 m2) (.int .i64 gp2) (.int .i64 gl2)
      have hzw := put11_heap hz3 (.int .i64 f2) (.int .i64 t2) (.int .i64 i2) (.int .i64 p2) (.int .i64 q2) (.slice A2 l2.length c2) (.int .i64 w2') (.int .i64 fl2) (.int .i64 m2) (.int .i64 gp2) (.int .i64 gl2)
      have how := own_at ho4 hz3 (by decide) fun g hg => put11_other (b := Zb) hg (.int .i64 f2) (.int .i64 t2) (.int .i64 i2) (.int .i64 p2) (.int .i64 q2) (.slice A2 l2.length c2) (.int .i64 w2') (.int .i64 fl2) (.int .i64 m2) (.int .i64 gp2) (.int .i64 gl2)
      have hPw := own_at hP4 hz3 (by decide) fun g hg => put11_other (b := Zb) hg (.int .i64 f2) (.int .i64 t2) (.int .i64 i2) (.int .i64 p2) (.int .i64 q2) (.slice A2 l2.length c2) (.int .i64 w2') (.int .i64 fl2) (.int .i64 m2) (.int .i64 gp2) (.int .i64 gl2)
      obtain ⟨_, ⟨zf0, zf1, zf2, zf3, zf4, zf5, zf6, zf7, zf8, zf9, zf10⟩⟩ := eleven_cells hz3
      simp only [put11] at hk4 hxw hzw how hPw
      clear hxv
      refine wpAnyH_ready (rs := [16]) (by kernel_rfl) (by simp) ?_
      refine AllReadyH.cons rfl (fun K hK => ?_) AllReadyH.nil
      simp only [List.getElem_toArray, List.getElem_cons_succ, List.getElem_cons_zero]
      go_simp
      refine hK.out _ _ ?_ (fun hHeld2 => ?_)
      focus
        exact hS _ hk4
      clear hHeld
      have hHeld := hHeld2
      clear hHeld2 hK K
      try simp only [List.getElem_toArray, List.getElem_cons_succ, List.getElem_cons_zero, Act.put, List.setIfInBounds_toArray, List.set_cons_zero, List.set_cons_succ]
      refine wpAnyH_take (i := 17) (v := ?_) rfl (by kernel_rfl) (by kernel_rfl) (by kernel_rfl) (fun _ _ _ h => h) (Or.inl ⟨by rfl, ?_⟩) (by assumption) ?_
      rotate_left
      focus
        intro U hU
        try dsimp only at hU
        go_simp
        try (with_reducible rfl)
      simp only [List.getElem_toArray, List.getElem_cons_succ, List.getElem_cons_zero, Act.put, List.setIfInBounds_toArray, List.set_cons_zero, List.set_cons_succ]
      refine wpAnyH_take (i := 18) (v := ?_) rfl (by kernel_rfl) (by kernel_rfl) (by kernel_rfl) (fun _ _ _ h => h) (Or.inl ⟨by rfl, ?_⟩) (by assumption) ?_
      rotate_left
      focus
        intro U hU
        try dsimp only at hU
        go_simp
        try (with_reducible rfl)
      simp only [List.getElem_toArray, List.getElem_cons_succ, List.getElem_cons_zero, Act.put, List.setIfInBounds_toArray, List.set_cons_zero, List.set_cons_succ]
      refine wpAnyH_done (by kernel_rfl) ?_ _
      clear hHeld hS zf0 zf1 zf2 zf3 zf4 zf5 zf6 zf7 zf8 zf9 zf10
      go_upto_region 1 with (fail)
      refine at_world (fun v => v.heap[Zb]? = some (.cells (ec ⟨f2, t2, i2, ⟨p2, q2, l2, w2', fl2⟩, m2, gp2, gl2⟩ A2 c2) 54 (0, 0)) ∧ PX W v g x A ca B cb D cd ∧ v.ownsRow W.heap.size 9 1 (.slice A2 l2.length c2) l2.length (scells l2) ∧ OwnP W v (.slice B2 l.length d2) l) ⟨hzw, hxw, how, hPw⟩ ?_
      clear hzw hxw how hPw hk4
      rintro w3 ⟨ht3, hx3, ho3', hP3'⟩
      by_cases he : er = 0
      case neg =>
        have e0 : (er != 0) = true := by simpa using he
        have HR : Hid (puts0V x = x) := hid (by rw [HV.out, if_pos he])
        have HX3 := hid hx3
        clear he ht3 hx3 ho3' hP3'
        go_wp2
        refine bodyPost_ret (results_none rfl _ _ _) rfl ?_
        exact ⟨⟨_, rfl⟩, by rw [HR.out]; exact ⟨_, _, _, _, _, _, HX3.out⟩⟩
      have e0 : (er != 0) = false := by simpa using he
      have HR : Hid (puts0V x = addW (upP0 (setPA x ⟨f2, t2, i2, ⟨p2, q2, l2, w2', fl2⟩, m2, gp2, gl2⟩)) l) := hid (by rw [HV.out, if_neg (by simpa using he)])
      obtain ⟨⟨zq0, zq1, zq2, zq3, zq4, zq5, zq6, zq7, zq8, zq9, zq10⟩, _⟩ := eleven_cells ht3
      have hg3 := hx3.1
      simp only [prc] at hg3
      obtain ⟨_, ⟨cg0, cg1, cg2, cg3, cg4, cg5, cg6, cg7, cg8, cg9, cg10, cg11, cg12, cg13, cg14, cg15, cg16, cg17, cg18, cg19, cg20, cg21, cg22, cg23, cg24, cg25, cg26, cg27⟩⟩ := pair_cells hg3
      have HS := hid (hx3.setA (e := ⟨f2, t2, i2, ⟨p2, q2, l2, w2', fl2⟩, m2, gp2, gl2⟩) ho3')
      have HP3 := hid (own_at hP3' hx3.1 (by decide) fun j hj => putA_other hj (.int .i64 f2) (.int .i64 t2) (.int .i64 i2) (.int .i64 p2) (.int .i64 q2) (.slice A2 l2.length c2) (.int .i64 w2') (.int .i64 fl2) (.int .i64 m2) (.int .i64 gp2) (.int .i64 gl2))
      clear he ht3 hx3 ho3' hP3' hg3
      go_upto_region 7 with (fail)
      refine at_world (fun u => PX W u g (setPA x ⟨f2, t2, i2, ⟨p2, q2, l2, w2', fl2⟩, m2, gp2, gl2⟩) A2 c2 B cb D cd ∧ OwnP W u (.slice B2 l.length d2) l) ⟨HS.out, HP3.out⟩ ?_
      clear zq0 zq1 zq2 zq3 zq4 zq5 zq6 zq7 zq8 zq9 zq10 cg0 cg1 cg2 cg3 cg4 cg5 cg6 cg7 cg8 cg9 cg10 cg11 cg12 cg13 cg14 cg15 cg16 cg17 cg18 cg19 cg20 cg21 cg22 cg23 cg24 cg25 cg26 cg27 HS HP3
      rintro w4 ⟨hx4, hP4⟩
      go_upto_region 7 with (fail)
      have hxd := hx4.keep (below_drew (Below.refl _ _))
      have hPd := own_keep hP4 (below_drew (Below.refl w4.heap.size w4))
      clear hx4 hP4
      refine wp_region_held_drew (S := fun U => True) (by kernel_rfl) trivial (fun hHeld => ?_)
      generalize w4.drew = q0 at *
      have hgd := hxd.1
      simp only [prc, setPA] at hgd
      obtain ⟨⟨cp0, cp1, cp2, cp3, cp4, cp5, cp6, cp7, cp8, cp9, cp10, cp11, cp12, cp13, cp14, cp15, cp16, cp17, cp18, cp19, cp20, cp21, cp22, cp23, cp24, cp25, cp26, cp27⟩, ⟨cg0, cg1, cg2, cg3, cg4, cg5, cg6, cg7, cg8, cg9, cg10, cg11, cg12, cg13, cg14, cg15, cg16, cg17, cg18, cg19, cg20, cg21, cg22, cg23, cg24, cg25, cg26, cg27⟩⟩ := pair_cells hgd
      have hup := hxd.up
      have hPu := own_at hPd hxd.1 (by decide) fun j hj => Below.heap_setCell q0 ⟨g, 23, none⟩ (.int .i64 (x.p0 + 1)) j hj
      have hwr : IntKind.i64.wrap (x.p0 + 1) = x.p0 + 1 := by
        have := HPP.out
        simp [IntKind.wrap, IntKind.bits, IntKind.signed]
        omega
      have HWR := hid hwr
      clear hwr
      clear hgd
      refine wpAnyH_take (i := 0) (v := ?_) rfl (by kernel_rfl) (by kernel_rfl) (by kernel_rfl) (fun _ _ _ h => h) (Or.inl ⟨by rfl, ?_⟩) (by assumption) ?_
      rotate_left
      focus
        intro U hU
        try dsimp only at hU
        go_simp
        try (with_reducible rfl)
      simp only [List.getElem_toArray, List.getElem_cons_succ, List.getElem_cons_zero, Act.put, List.setIfInBounds_toArray, List.set_cons_zero, List.set_cons_succ]
      refine wpAnyH_take (i := 1) (v := ?_) rfl (by kernel_rfl) (by kernel_rfl) (by kernel_rfl) (fun _ _ _ h => h) (Or.inl ⟨by rfl, ?_⟩) (by assumption) ?_
      rotate_left
      focus
        intro U hU
        try dsimp only at hU
        go_simp
        try (with_reducible rfl)
      simp only [List.getElem_toArray, List.getElem_cons_succ, List.getElem_cons_zero, Act.put, List.setIfInBounds_toArray, List.set_cons_zero, List.set_cons_succ]
      refine wpAnyH_take (i := 2) (v := ?_) rfl (by kernel_rfl) (by kernel_rfl) (by kernel_rfl) (fun _ _ _ h => h) (Or.inl ⟨by rfl, ?_⟩) (by assumption) ?_
      rotate_left
      focus
        intro U hU
        try dsimp only at hU
        go_simp
        try (with_reducible rfl)
      simp only [List.getElem_toArray, List.getElem_cons_succ, List.getElem_cons_zero, Act.put, List.setIfInBounds_toArray, List.set_cons_zero, List.set_cons_succ]
      refine wpAnyH_take (i := 3) (v := ?_) rfl (by kernel_rfl) (by kernel_rfl) (by kernel_rfl) (fun _ _ _ h => h) (Or.inl ⟨by rfl, ?_⟩) (by assumption) ?_
      rotate_left
      focus
        intro U hU
        try dsimp only at hU
        go_simp
        try (with_reducible rfl)
      simp only [List.getElem_toArray, List.getElem_cons_succ, List.getElem_cons_zero, Act.put, List.setIfInBounds_toArray, List.set_cons_zero, List.set_cons_succ]
      refine wpAnyH_take (i := 4) (v := ?_) rfl (by kernel_rfl) (by kernel_rfl) (by kernel_rfl) (fun _ _ _ h => h) (Or.inl ⟨by rfl, ?_⟩) (by assumption) ?_
      rotate_left
      focus
        intro U hU
        try dsimp only at hU
        go_simp
        try (with_reducible rfl)
      simp only [List.getElem_toArray, List.getElem_cons_succ, List.getElem_cons_zero, Act.put, List.setIfInBounds_toArray, List.set_cons_zero, List.set_cons_succ]
      refine wpAnyH_take (i := 7) (v := ?_) rfl (by kernel_rfl) (by kernel_rfl) (by kernel_rfl) (fun _ _ _ h => h) (Or.inl ⟨by rfl, ?_⟩) (by assumption) ?_
      rotate_left
      focus
        intro U hU
        try dsimp only at hU
        go_simp
        try (with_reducible rfl)
      simp only [List.getElem_toArray, List.getElem_cons_succ, List.getElem_cons_zero, Act.put, List.setIfInBounds_toArray, List.set_cons_zero, List.set_cons_succ]
      refine wpAnyH_take (i := 8) (v := ?_) rfl (by kernel_rfl) (by kernel_rfl) (by kernel_rfl) (fun _ _ _ h => h) (Or.inl ⟨by rfl, ?_⟩) (by assumption) ?_
      rotate_left
      focus
        intro U hU
        try dsimp only at hU
        go_simp
        try (with_reducible rfl)
      simp only [List.getElem_toArray, List.getElem_cons_succ, List.getElem_cons_zero, Act.put, List.setIfInBounds_toArray, List.set_cons_zero, List.set_cons_succ]
      refine wpAnyH_ready (rs := [5]) (by kernel_rfl) (by simp) ?_
      refine AllReadyH.cons rfl (fun K hK => ?_) AllReadyH.nil
      simp only [List.getElem_toArray, List.getElem_cons_succ, List.getElem_cons_zero]
      go_simp
      refine hK.out _ _ ?_ (fun hHeld2 => ?_)
      focus
        exact trivial
      clear hHeld
      have hHeld := hHeld2
      clear hHeld2 hK K
      try simp only [List.getElem_toArray, List.getElem_cons_succ, List.getElem_cons_zero, Act.put, List.setIfInBounds_toArray, List.set_cons_zero, List.set_cons_succ]
      refine wpAnyH_take (i := 6) (v := ?_) rfl (by kernel_rfl) (by kernel_rfl) (by kernel_rfl) (fun _ _ _ h => h) (Or.inl ⟨by rfl, ?_⟩) (by assumption) ?_
      rotate_left
      focus
        intro U hU
        try dsimp only at hU
        go_simp
        try (with_reducible rfl)
      simp only [List.getElem_toArray, List.getElem_cons_succ, List.getElem_cons_zero, Act.put, List.setIfInBounds_toArray, List.set_cons_zero, List.set_cons_succ]
      refine wpAnyH_take (i := 9) (v := ?_) rfl (by kernel_rfl) (by kernel_rfl) (by kernel_rfl) (fun _ _ _ h => h) (Or.inl ⟨by rfl, ?_⟩) (by assumption) ?_
      rotate_left
      focus
        intro U hU
        try dsimp only at hU
        go_simp
        try (with_reducible rfl)
      simp only [List.getElem_toArray, List.getElem_cons_succ, List.getElem_cons_zero, Act.put, List.setIfInBounds_toArray, List.set_cons_zero, List.set_cons_succ]
      refine wpAnyH_ready (rs := [10]) (by kernel_rfl) (by simp) ?_
      refine AllReadyH.cons rfl (fun K hK => ?_) AllReadyH.nil
      simp only [List.getElem_toArray, List.getElem_cons_succ, List.getElem_cons_zero]
      go_simp
      refine hK.out _ _ ?_ (fun hHeld2 => ?_)
      focus
        exact trivial
      clear hHeld
      have hHeld := hHeld2
      clear hHeld2 hK K
      try simp only [List.getElem_toArray, List.getElem_cons_succ, List.getElem_cons_zero, Act.put, List.setIfInBounds_toArray, List.set_cons_zero, List.set_cons_succ]
      refine wpAnyH_done (by kernel_rfl) ?_ _
      clear hHeld cp0 cp1 cp2 cp3 cp4 cp5 cp6 cp7 cp8 cp9 cp10 cp11 cp12 cp13 cp14 cp15 cp16 cp17 cp18 cp19 cp20 cp21 cp22 cp23 cp24 cp25 cp26 cp27 cg0 cg1 cg2 cg3 cg4 cg5 cg6 cg7 cg8 cg9 cg10 cg11 cg12 cg13 cg14 cg15 cg16 cg17 cg18 cg19 cg20 cg21 cg22 cg23 cg24 cg25 cg26 cg27
      go_upto_region 8 with (fail)
      rw [HWR.out]
      refine at_world (fun u => PX W u g (upP0 (setPA x ⟨f2, t2, i2, ⟨p2, q2, l2, w2', fl2⟩, m2, gp2, gl2⟩)) A2 c2 B cb D cd ∧ OwnP W u (.slice B2 l.length d2) l) ⟨hup, hPu⟩ ?_
      clear HWR hup hPu hxd hPd
      rintro w5 ⟨hx5, hP5⟩
      have hg5 := hx5.1
      simp only [prc, upP0, setPA] at hg5
      obtain ⟨⟨cp0, cp1, cp2, cp3, cp4, cp5, cp6, cp7, cp8, cp9, cp10, cp11, cp12, cp13, cp14, cp15, cp16, cp17, cp18, cp19, cp20, cp21, cp22, cp23, cp24, cp25, cp26, cp27⟩, ⟨cg0, cg1, cg2, cg3, cg4, cg5, cg6, cg7, cg8, cg9, cg10, cg11, cg12, cg13, cg14, cg15, cg16, cg17, cg18, cg19, cg20, cg21, cg22, cg23, cg24, cg25, cg26, cg27⟩⟩ := pair_cells hg5
      have HX5 := hid hx5
      have hsl5 := sl_own hP5
      have hwl : x.w.length ≤ 100000 := HWL.out
      have htl : l.length ≤ 1 := HTL.out
      have hbe := hx5.2.2.2.2.2.size
      clear hg5 hx5 hP5
      go_wp2_with (at_builtin; refine wpList_append_slk rfl (.tmp 65) (.tmp 66) 56 rfl W.heap.size 71 Try.underlying56 info_pkt rfl (by omega) rfl HX5.out.2.2.2.2.1 rfl hsl5 (pkc_one _) (by show x.w.length + _ ≤ _; unfold maxLen; omega) (by show (x.w.length + _) * 64 ≤ _; omega) hbe ?_)
      intro v6 w6 ho6 hb6 hsz6 hk6
      obtain ⟨D6, d6, rfl, _⟩ := Mid.form ho6
      have HF := hid (HX5.out.app ho6 hb6 hk6)
      have hg6 := (hk6 g HX5.out.2.1 (lt_of_block HX5.out.1) (mid_blk_ne HX5.out.2.2.2.2.1 HX5.out.1 (by decide))).trans HX5.out.1
      simp only [prc, upP0, setPA] at hg6
      clear cp0 cp1 cp2 cp3 cp4 cp5 cp6 cp7 cp8 cp9 cp10 cp11 cp12 cp13 cp14 cp15 cp16 cp17 cp18 cp19 cp20 cp21 cp22 cp23 cp24 cp25 cp26 cp27 cg0 cg1 cg2 cg3 cg4 cg5 cg6 cg7 cg8 cg9 cg10 cg11 cg12 cg13 cg14 cg15 cg16 cg17 cg18 cg19 cg20 cg21 cg22 cg23 cg24 cg25 cg26 cg27 ho6 hb6 hsz6 hk6 HX5 hsl5
      obtain ⟨_, ⟨cg0, cg1, cg2, cg3, cg4, cg5, cg6, cg7, cg8, cg9, cg10, cg11, cg12, cg13, cg14, cg15, cg16, cg17, cg18, cg19, cg20, cg21, cg22, cg23, cg24, cg25, cg26, cg27⟩⟩ := pair_cells hg6
      clear hg6
      go_wp2
      go_end0
      exact ⟨⟨_, rfl⟩, by rw [HR.out]; exact ⟨_, _, _, _, _, _, HF.out⟩⟩
    · skip
      simp only [List.getElem_toArray, List.getElem_cons_succ, List.getElem_cons_zero]
      go_simp
      refine hK.out _ _ ?_ (fun hHeld2 => ?_)
      focus
        exact hS _ (hk1.alloc hk1.size _)
      clear hHeld
      have hHeld := hHeld2
      clear hHeld2 hK K
      try simp only [List.getElem_toArray, List.getElem_cons_succ, List.getElem_cons_zero, Act.put, List.setIfInBounds_toArray, List.set_cons_zero, List.set_cons_succ]
      have hbn : Below (World.heap u1).size u1 (World.alloc u1 (.cells #[.int .i64 0, .int .i64 0, .int .i64 0, .int .i64 0, .int .i64 0, .slice none 0 0, .int .i64 0, .int .i64 0, .int .i64 0, .int .i64 0, .int .i64 0] 54)) := (Below.refl _ _).alloc (Nat.le_refl _) _
      have hk1b := hk1.trans (hbn.mono hk1.size)
      have hz2 := heap_alloc_new u1 (.cells #[.int .i64 0, .int .i64 0, .int .i64 0, .int .i64 0, .int .i64 0, .slice none 0 0, .int .i64 0, .int .i64 0, .int .i64 0, .int .i64 0, .int .i64 0] 54)
      have hle : u.heap.size ≤ (World.heap u1).size := hk1.size
      clear hbn
      generalize World.alloc u1 (.cells #[.int .i64 0, .int .i64 0, .int .i64 0, .int .i64 0, .int .i64 0, .slice none 0 0, .int .i64 0, .int .i64 0, .int .i64 0, .int .i64 0, .int .i64 0] 54) = k9 at *
      generalize (World.heap u1).size = Zb at *
      refine wpAnyH_ready (rs := [10]) (by kernel_rfl) (by simp) ?_
      refine (AllReadyH.cons rfl (fun K hK => ?_) AllReadyH.nil)
      simp only [List.getElem_toArray, List.getElem_cons_succ, List.getElem_cons_zero]
      go_simp
      refine (HT.out _ hk1b).mono ?_
      rintro e u2 ⟨A2, c2, B2, d2, rfl, ho2, hP2, g2⟩
      simp only [ec]
      have hk2 := hk1b.trans (g2.mono hk1b.size)
      have ho3 := own_mono ho2 (Nat.le_trans HU.out hk1b.size)
      have hP3 := own_mono hP2 (Nat.le_trans HU.out hk1b.size)
      have hz3 := keep0 hz2 g2
      clear g2 ho2 hP2
      go_wp2_with fail
      refine hK.out _ _ ?_ (fun hHeld2 => ?_)
      focus
        exact hS _ hk2
      clear hHeld
      have hHeld := hHeld2
      clear hHeld2 hK K
      try simp only [List.getElem_toArray, List.getElem_cons_succ, List.getElem_cons_zero, Act.put, List.setIfInBounds_toArray, List.set_cons_zero, List.set_cons_succ]
      refine wpAnyH_take (i := 11) (v := ?_) rfl (by kernel_rfl) (by kernel_rfl) (by kernel_rfl) (fun _ _ _ h => h) (Or.inl ⟨by rfl, ?_⟩) (by assumption) ?_
      rotate_left
      focus
        intro U hU
        try dsimp only at hU
        go_simp
        try (with_reducible rfl)
      simp only [List.getElem_toArray, List.getElem_cons_succ, List.getElem_cons_zero, Act.put, List.setIfInBounds_toArray, List.set_cons_zero, List.set_cons_succ]
      refine wpAnyH_take (i := 12) (v := ?_) rfl (by kernel_rfl) (by kernel_rfl) (by kernel_rfl) (fun _ _ _ h => h) (Or.inl ⟨by rfl, ?_⟩) (by assumption) ?_
      rotate_left
      focus
        intro U hU
        try dsimp only at hU
        go_simp
        try (with_reducible rfl)
      simp only [List.getElem_toArray, List.getElem_cons_succ, List.getElem_cons_zero, Act.put, List.setIfInBounds_toArray, List.set_cons_zero, List.set_cons_succ]
      refine wpAnyH_take (i := 13) (v := ?_) rfl (by kernel_rfl) (by kernel_rfl) (by kernel_rfl) (fun _ _ _ h => h) (Or.inl ⟨by rfl, ?_⟩) (by assumption) ?_
      rotate_left
      focus
        intro U hU
        try dsimp only at hU
        go_simp
        try (with_reducible rfl)
      simp only [List.getElem_toArray, List.getElem_cons_succ, List.getElem_cons_zero, Act.put, List.setIfInBounds_toArray, List.set_cons_zero, List.set_cons_succ]
      refine wpAnyH_take (i := 14) (v := ?_) rfl (by kernel_rfl) (by kernel_rfl) (by kernel_rfl) (fun _ _ _ h => h) (Or.inl ⟨by rfl, ?_⟩) (by assumption) ?_
      rotate_left
      focus
        intro U hU
        try dsimp only at hU
        go_simp
        try (with_reducible rfl)
      simp only [List.getElem_toArray, List.getElem_cons_succ, List.getElem_cons_zero, Act.put, List.setIfInBounds_toArray, List.set_cons_zero, List.set_cons_succ]
      have hxv := HX.out.keep hk2
      have hxw := hxv.other hz3 (by omega) (Nat.le_trans HU.out hle) (.int .i64 f2) (.int .i64 t2) (.int .i64 i2) (.int .i64 p2) (.int .i64 q2) (.slice A2 l2.length c2) (.int .i64 w2') (.int .i64 fl2) (.int .i64 m2) (.int .i64 gp2) (.int .i64 gl2)
      have hk4 := put11_below hk2 hle (.int .i64 f2) (.int .i64 t2) (.int .i64 i2) (.int .i64 p2) (.int .i64 q2) (.slice A2 l2.length c2) (.int .i64 w2') (.int .i64 fl2) (.int .i64 m2) (.int .i64 gp2) (.int .i64 gl2)
      have hzw := put11_heap hz3 (.int .i64 f2) (.int .i64 t2) (.int .i64 i2) (.int .i64 p2) (.int .i64 q2) (.slice A2 l2.length c2) (.int .i64 w2') (.int .i64 fl2) (.int .i64 m2) (.int .i64 gp2) (.int .i64 gl2)
      have how := own_at ho3 hz3 (by decide) fun g hg => put11_other (b := Zb) hg (.int .i64 f2) (.int .i64 t2) (.int .i64 i2) (.int .i64 p2) (.int .i64 q2) (.slice A2 l2.length c2) (.int .i64 w2') (.int .i64 fl2) (.int .i64 m2) (.int .i64 gp2) (.int .i64 gl2)
      have hPw := own_at hP3 hz3 (by decide) fun g hg => put11_other (b := Zb) hg (.int .i64 f2) (.int .i64 t2) (.int .i64 i2) (.int .i64 p2) (.int .i64 q2) (.slice A2 l2.length c2) (.int .i64 w2') (.int .i64 fl2) (.int .i64 m2) (.int .i64 gp2) (.int .i64 gl2)
      obtain ⟨_, ⟨zf0, zf1, zf2, zf3, zf4, zf5, zf6, zf7, zf8, zf9, zf10⟩⟩ := eleven_cells hz3
      simp only [put11] at hk4 hxw hzw how hPw
      clear hxv
      refine wpAnyH_ready (rs := [16]) (by kernel_rfl) (by simp) ?_
      refine AllReadyH.cons rfl (fun K hK => ?_) AllReadyH.nil
      simp only [List.getElem_toArray, List.getElem_cons_succ, List.getElem_cons_zero]
      go_simp
      refine hK.out _ _ ?_ (fun hHeld2 => ?_)
      focus
        exact hS _ hk4
      clear hHeld
      have hHeld := hHeld2
      clear hHeld2 hK K
      try simp only [List.getElem_toArray, List.getElem_cons_succ, List.getElem_cons_zero, Act.put, List.setIfInBounds_toArray, List.set_cons_zero, List.set_cons_succ]
      refine wpAnyH_take (i := 17) (v := ?_) rfl (by kernel_rfl) (by kernel_rfl) (by kernel_rfl) (fun _ _ _ h => h) (Or.inl ⟨by rfl, ?_⟩) (by assumption) ?_
      rotate_left
      focus
        intro U hU
        try dsimp only at hU
        go_simp
        try (with_reducible rfl)
      simp only [List.getElem_toArray, List.getElem_cons_succ, List.getElem_cons_zero, Act.put, List.setIfInBounds_toArray, List.set_cons_zero, List.set_cons_succ]
      refine wpAnyH_take (i := 18) (v := ?_) rfl (by kernel_rfl) (by kernel_rfl) (by kernel_rfl) (fun _ _ _ h => h) (Or.inl ⟨by rfl, ?_⟩) (by assumption) ?_
      rotate_left
      focus
        intro U hU
        try dsimp only at hU
        go_simp
        try (with_reducible rfl)
      simp only [List.getElem_toArray, List.getElem_cons_succ, List.getElem_cons_zero, Act.put, List.setIfInBounds_toArray, List.set_cons_zero, List.set_cons_succ]
      refine wpAnyH_done (by kernel_rfl) ?_ _
      clear hHeld hS zf0 zf1 zf2 zf3 zf4 zf5 zf6 zf7 zf8 zf9 zf10
      go_upto_region 1 with (fail)
      refine at_world (fun v => v.heap[Zb]? = some (.cells (ec ⟨f2, t2, i2, ⟨p2, q2, l2, w2', fl2⟩, m2, gp2, gl2⟩ A2 c2) 54 (0, 0)) ∧ PX W v g x A ca B cb D cd ∧ v.ownsRow W.heap.size 9 1 (.slice A2 l2.length c2) l2.length (scells l2) ∧ OwnP W v (.slice B2 l.length d2) l) ⟨hzw, hxw, how, hPw⟩ ?_
      clear hzw hxw how hPw hk4
      rintro w3 ⟨ht3, hx3, ho3', hP3'⟩
      by_cases he : er = 0
      case neg =>
        have e0 : (er != 0) = true := by simpa using he
        have HR : Hid (puts0V x = x) := hid (by rw [HV.out, if_pos he])
        have HX3 := hid hx3
        clear he ht3 hx3 ho3' hP3'
        go_wp2
        refine bodyPost_ret (results_none rfl _ _ _) rfl ?_
        exact ⟨⟨_, rfl⟩, by rw [HR.out]; exact ⟨_, _, _, _, _, _, HX3.out⟩⟩
      have e0 : (er != 0) = false := by simpa using he
      have HR : Hid (puts0V x = addW (upP0 (setPA x ⟨f2, t2, i2, ⟨p2, q2, l2, w2', fl2⟩, m2, gp2, gl2⟩)) l) := hid (by rw [HV.out, if_neg (by simpa using he)])
      obtain ⟨⟨zq0, zq1, zq2, zq3, zq4, zq5, zq6, zq7, zq8, zq9, zq10⟩, _⟩ := eleven_cells ht3
      have hg3 := hx3.1
      simp only [prc] at hg3
      obtain ⟨_, ⟨cg0, cg1, cg2, cg3, cg4, cg5, cg6, cg7, cg8, cg9, cg10, cg11, cg12, cg13, cg14, cg15, cg16, cg17, cg18, cg19, cg20, cg21, cg22, cg23, cg24, cg25, cg26, cg27⟩⟩ := pair_cells hg3
      have HS := hid (hx3.setA (e := ⟨f2, t2, i2, ⟨p2, q2, l2, w2', fl2⟩, m2, gp2, gl2⟩) ho3')
      have HP3 := hid (own_at hP3' hx3.1 (by decide) fun j hj => putA_other hj (.int .i64 f2) (.int .i64 t2) (.int .i64 i2) (.int .i64 p2) (.int .i64 q2) (.slice A2 l2.length c2) (.int .i64 w2') (.int .i64 fl2) (.int .i64 m2) (.int .i64 gp2) (.int .i64 gl2))
      clear he ht3 hx3 ho3' hP3' hg3
      go_upto_region 7 with (fail)
      refine at_world (fun u => PX W u g (setPA x ⟨f2, t2, i2, ⟨p2, q2, l2, w2', fl2⟩, m2, gp2, gl2⟩) A2 c2 B cb D cd ∧ OwnP W u (.slice B2 l.length d2) l) ⟨HS.out, HP3.out⟩ ?_
      clear zq0 zq1 zq2 zq3 zq4 zq5 zq6 zq7 zq8 zq9 zq10 cg0 cg1 cg2 cg3 cg4 cg5 cg6 cg7 cg8 cg9 cg10 cg11 cg12 cg13 cg14 cg15 cg16 cg17 cg18 cg19 cg20 cg21 cg22 cg23 cg24 cg25 cg26 cg27 HS HP3
      rintro w4 ⟨hx4, hP4⟩
      go_upto_region 7 with (fail)
      have hxd := hx4.keep (below_drew (Below.refl _ _))
      have hPd := own_keep hP4 (below_drew (Below.refl w4.heap.size w4))
      clear hx4 hP4
      refine wp_region_held_drew (S := fun U => True) (by kernel_rfl) trivial (fun hHeld => ?_)
      generalize w4.drew = q0 at *
      have hgd := hxd.1
      simp only [prc, setPA] at hgd
      obtain ⟨⟨cp0, cp1, cp2, cp3, cp4, cp5, cp6, cp7, cp8, cp9, cp10, cp11, cp12, cp13, cp14, cp15, cp16, cp17, cp18, cp19, cp20, cp21, cp22, cp23, cp24, cp25, cp26, cp27⟩, ⟨cg0, cg1, cg2, cg3, cg4, cg5, cg6, cg7, cg8, cg9, cg10, cg11, cg12, cg13, cg14, cg15, cg16, cg17, cg18, cg19, cg20, cg21, cg22, cg23, cg24, cg25, cg26, cg27⟩⟩ := pair_cells hgd
      have hup := hxd.up
      have hPu := own_at hPd hxd.1 (by decide) fun j hj => Below.heap_setCell q0 ⟨g, 23, none⟩ (.int .i64 (x.p0 + 1)) j hj
      have hwr : IntKind.i64.wrap (x.p0 + 1) = x.p0 + 1 := by
        have := HPP.out
        simp [IntKind.wrap, IntKind.bits, IntKind.signed]
        omega
      have HWR := hid hwr
      clear hwr
      clear hgd
      refine wpAnyH_take (i := 0) (v := ?_) rfl (by kernel_rfl) (by kernel_rfl) (by kernel_rfl) (fun _ _ _ h => h) (Or.inl ⟨by rfl, ?_⟩) (by assumption) ?_
      rotate_left
      focus
        intro U hU
        try dsimp only at hU
        go_simp
        try (with_reducible rfl)
      simp only [List.getElem_toArray, List.getElem_cons_succ, List.getElem_cons_zero, Act.put, List.setIfInBounds_toArray, List.set_cons_zero, List.set_cons_succ]
      refine wpAnyH_take (i := 1) (v := ?_) rfl (by kernel_rfl) (by kernel_rfl) (by kernel_rfl) (fun _ _ _ h => h) (Or.inl ⟨by rfl, ?_⟩) (by assumption) ?_
      rotate_left
      focus
        intro U hU
        try dsimp only at hU
        go_simp
        try (with_reducible rfl)
      simp only [List.getElem_toArray, List.getElem_cons_succ, List.getElem_cons_zero, Act.put, List.setIfInBounds_toArray, List.set_cons_zero, List.set_cons_succ]
      refine wpAnyH_take (i := 2) (v := ?_) rfl (by kernel_rfl) (by kernel_rfl) (by kernel_rfl) (fun _ _ _ h => h) (Or.inl ⟨by rfl, ?_⟩) (by assumption) ?_
      rotate_left
      focus
        intro U hU
        try dsimp only at hU
        go_simp
        try (with_reducible rfl)
      simp only [List.getElem_toArray, List.getElem_cons_succ, List.getElem_cons_zero, Act.put, List.setIfInBounds_toArray, List.set_cons_zero, List.set_cons_succ]
      refine wpAnyH_take (i := 3) (v := ?_) rfl (by kernel_rfl) (by kernel_rfl) (by kernel_rfl) (fun _ _ _ h => h) (Or.inl ⟨by rfl, ?_⟩) (by assumption) ?_
      rotate_left
      focus
        intro U hU
        try dsimp only at hU
        go_simp
        try (with_reducible rfl)
      simp only [List.getElem_toArray, List.getElem_cons_succ, List.getElem_cons_zero, Act.put, List.setIfInBounds_toArray, List.set_cons_zero, List.set_cons_succ]
      refine wpAnyH_take (i := 4) (v := ?_) rfl (by kernel_rfl) (by kernel_rfl) (by kernel_rfl) (fun _ _ _ h => h) (Or.inl ⟨by rfl, ?_⟩) (by assumption) ?_
      rotate_left
      focus
        intro U hU
        try dsimp only at hU
        go_simp
        try (with_reducible rfl)
      simp only [List.getElem_toArray, List.getElem_cons_succ, List.getElem_cons_zero, Act.put, List.setIfInBounds_toArray, List.set_cons_zero, List.set_cons_succ]
      refine wpAnyH_take (i := 7) (v := ?_) rfl (by kernel_rfl) (by kernel_rfl) (by kernel_rfl) (fun _ _ _ h => h) (Or.inl ⟨by rfl, ?_⟩) (by assumption) ?_
      rotate_left
      focus
        intro U hU
        try dsimp only at hU
        go_simp
        try (with_reducible rfl)
      simp only [List.getElem_toArray, List.getElem_cons_succ, List.getElem_cons_zero, Act.put, List.setIfInBounds_toArray, List.set_cons_zero, List.set_cons_succ]
      refine wpAnyH_take (i := 8) (v := ?_) rfl (by kernel_rfl) (by kernel_rfl) (by kernel_rfl) (fun _ _ _ h => h) (Or.inl ⟨by rfl, ?_⟩) (by assumption) ?_
      rotate_left
      focus
        intro U hU
        try dsimp only at hU
        go_simp
        try (with_reducible rfl)
      simp only [List.getElem_toArray, List.getElem_cons_succ, List.getElem_cons_zero, Act.put, List.setIfInBounds_toArray, List.set_cons_zero, List.set_cons_succ]
      refine wpAnyH_ready (rs := [5]) (by kernel_rfl) (by simp) ?_
      refine AllReadyH.cons rfl (fun K hK => ?_) AllReadyH.nil
      simp only [List.getElem_toArray, List.getElem_cons_succ, List.getElem_cons_zero]
      go_simp
      refine hK.out _ _ ?_ (fun hHeld2 => ?_)
      focus
        exact trivial
      clear hHeld
      have hHeld := hHeld2
      clear hHeld2 hK K
      try simp only [List.getElem_toArray, List.getElem_cons_succ, List.getElem_cons_zero, Act.put, List.setIfInBounds_toArray, List.set_cons_zero, List.set_cons_succ]
      refine wpAnyH_take (i := 6) (v := ?_) rfl (by kernel_rfl) (by kernel_rfl) (by kernel_rfl) (fun _ _ _ h => h) (Or.inl ⟨by rfl, ?_⟩) (by assumption) ?_
      rotate_left
      focus
        intro U hU
        try dsimp only at hU
        go_simp
        try (with_reducible rfl)
      simp only [List.getElem_toArray, List.getElem_cons_succ, List.getElem_cons_zero, Act.put, List.setIfInBounds_toArray, List.set_cons_zero, List.set_cons_succ]
      refine wpAnyH_take (i := 9) (v := ?_) rfl (by kernel_rfl) (by kernel_rfl) (by kernel_rfl) (fun _ _ _ h => h) (Or.inl ⟨by rfl, ?_⟩) (by assumption) ?_
      rotate_left
      focus
        intro U hU
        try dsimp only at hU
        go_simp
        try (with_reducible rfl)
      simp only [List.getElem_toArray, List.getElem_cons_succ, List.getElem_cons_zero, Act.put, List.setIfInBounds_toArray, List.set_cons_zero, List.set_cons_succ]
      refine wpAnyH_ready (rs := [10]) (by kernel_rfl) (by simp) ?_
      refine AllReadyH.cons rfl (fun K hK => ?_) AllReadyH.nil
      simp only [List.getElem_toArray, List.getElem_cons_succ, List.getElem_cons_zero]
      go_simp
      refine hK.out _ _ ?_ (fun hHeld2 => ?_)
      focus
        exact trivial
      clear hHeld
      have hHeld := hHeld2
      clear hHeld2 hK K
      try simp only [List.getElem_toArray, List.getElem_cons_succ, List.getElem_cons_zero, Act.put, List.setIfInBounds_toArray, List.set_cons_zero, List.set_cons_succ]
      refine wpAnyH_done (by kernel_rfl) ?_ _
      clear hHeld cp0 cp1 cp2 cp3 cp4 cp5 cp6 cp7 cp8 cp9 cp10 cp11 cp12 cp13 cp14 cp15 cp16 cp17 cp18 cp19 cp20 cp21 cp22 cp23 cp24 cp25 cp26 cp27 cg0 cg1 cg2 cg3 cg4 cg5 cg6 cg7 cg8 cg9 cg10 cg11 cg12 cg13 cg14 cg15 cg16 cg17 cg18 cg19 cg20 cg21 cg22 cg23 cg24 cg25 cg26 cg27
      go_upto_region 8 with (fail)
      rw [HWR.out]
      refine at_world (fun u => PX W u g (upP0 (setPA x ⟨f2, t2, i2, ⟨p2, q2, l2, w2', fl2⟩, m2, gp2, gl2⟩)) A2 c2 B cb D cd ∧ OwnP W u (.slice B2 l.length d2) l) ⟨hup, hPu⟩ ?_
      clear HWR hup hPu hxd hPd
      rintro w5 ⟨hx5, hP5⟩
      have hg5 := hx5.1
      simp only [prc, upP0, setPA] at hg5
      obtain ⟨⟨cp0, cp1, cp2, cp3, cp4, cp5, cp6, cp7, cp8, cp9, cp10, cp11, cp12, cp13, cp14, cp15, cp16, cp17, cp18, cp19, cp20, cp21, cp22, cp23, cp24, cp25, cp26, cp27⟩, ⟨cg0, cg1, cg2, cg3, cg4, cg5, cg6, cg7, cg8, cg9, cg10, cg11, cg12, cg13, cg14, cg15, cg16, cg17, cg18, cg19, cg20, cg21, cg22, cg23, cg24, cg25, cg26, cg27⟩⟩ := pair_cells hg5
      have HX5 := hid hx5
      have hsl5 := sl_own hP5
      have hwl : x.w.length ≤ 100000 := HWL.out
      have htl : l.length ≤ 1 := HTL.out
      have hbe := hx5.2.2.2.2.2.size
      clear hg5 hx5 hP5
      go_wp2_with (at_builtin; refine wpList_append_slk rfl (.tmp 65) (.tmp 66) 56 rfl W.heap.size 71 Try.underlying56 info_pkt rfl (by omega) rfl HX5.out.2.2.2.2.1 rfl hsl5 (pkc_one _) (by show x.w.length + _ ≤ _; unfold maxLen; omega) (by show (x.w.length + _) * 64 ≤ _; omega) hbe ?_)
      intro v6 w6 ho6 hb6 hsz6 hk6
      obtain ⟨D6, d6, rfl, _⟩ := Mid.form ho6
      have HF := hid (HX5.out.app ho6 hb6 hk6)
      have hg6 := (hk6 g HX5.out.2.1 (lt_of_block HX5.out.1) (mid_blk_ne HX5.out.2.2.2.2.1 HX5.out.1 (by decide))).trans HX5.out.1
      simp only [prc, upP0, setPA] at hg6
      clear cp0 cp1 cp2 cp3 cp4 cp5 cp6 cp7 cp8 cp9 cp10 cp11 cp12 cp13 cp14 cp15 cp16 cp17 cp18 cp19 cp20 cp21 cp22 cp23 cp24 cp25 cp26 cp27 cg0 cg1 cg2 cg3 cg4 cg5 cg6 cg7 cg8 cg9 cg10 cg11 cg12 cg13 cg14 cg15 cg16 cg17 cg18 cg19 cg20 cg21 cg22 cg23 cg24 cg25 cg26 cg27 ho6 hb6 hsz6 hk6 HX5 hsl5
      obtain ⟨_, ⟨cg0, cg1, cg2, cg3, cg4, cg5, cg6, cg7, cg8, cg9, cg10, cg11, cg12, cg13, cg14, cg15, cg16, cg17, cg18, cg19, cg20, cg21, cg22, cg23, cg24, cg25, cg26, cg27⟩⟩ := pair_cells hg6
      clear hg6
      go_wp2
      go_end0
      exact ⟨⟨_, rfl⟩, by rw [HR.out]; exact ⟨_, _, _, _, _, _, HF.out⟩⟩
  · skip
    simp only [List.getElem_toArray, List.getElem_cons_succ, List.getElem_cons_zero]
    go_simp
    refine hK.out _ _ ?_ (fun hHeld2 => ?_)
    focus
      exact hS _ (hk0.alloc hk0.size _)
    clear hHeld
    have hHeld := hHeld2
    clear hHeld2 hK K
    try simp only [List.getElem_toArray, List.getElem_cons_succ, List.getElem_cons_zero, Act.put, List.setIfInBounds_toArray, List.set_cons_zero, List.set_cons_succ]
    have hbn : Below (World.heap k0).size k0 (World.alloc k0 (.cells #[.int .i64 0, .int .i64 0, .int .i64 0, .int .i64 0, .int .i64 0, .slice none 0 0, .int .i64 0, .int .i64 0, .int .i64 0, .int .i64 0, .int .i64 0] 54)) := (Below.refl _ _).alloc (Nat.le_refl _) _
    have hk0b := hk0.trans (hbn.mono hk0.size)
    have hz1 := heap_alloc_new k0 (.cells #[.int .i64 0, .int .i64 0, .int .i64 0, .int .i64 0, .int .i64 0, .slice none 0 0, .int .i64 0, .int .i64 0, .int .i64 0, .int .i64 0, .int .i64 0] 54)
    have hle : u.heap.size ≤ (World.heap k0).size := hk0.size
    clear hbn
    generalize World.alloc k0 (.cells #[.int .i64 0, .int .i64 0, .int .i64 0, .int .i64 0, .int .i64 0, .slice none 0 0, .int .i64 0, .int .i64 0, .int .i64 0, .int .i64 0, .int .i64 0] 54) = k9 at *
    generalize (World.heap k0).size = Zb at *
    refine wpAnyH_ready (rs := [9]) (by kernel_rfl) (by simp) ?_
    refine (AllReadyH.cons rfl (fun K hK => ?_) AllReadyH.nil)
    simp only [List.getElem_toArray, List.getElem_cons_succ, List.getElem_cons_zero]
    go_simp
    refine (HNM.out _).mono ?_
    rintro e u1 ⟨rfl, g1⟩
    have hk1 := hk0b.trans (g1.mono hk0b.size)
    have hz2 := keep0 hz1 g1
    clear g1
    go_wp2_with fail
    refine hK.out _ _ ?_ (fun hHeld2 => ?_)
    focus
      exact hS _ hk1
    clear hHeld
    have hHeld := hHeld2
    clear hHeld2 hK K
    try simp only [List.getElem_toArray, List.getElem_cons_succ, List.getElem_cons_zero, Act.put, List.setIfInBounds_toArray, List.set_cons_zero, List.set_cons_succ]
    refine wpAnyH_ready (rs := [10]) (by kernel_rfl) (by simp) ?_
    refine (AllReadyH.cons rfl (fun K hK => ?_) AllReadyH.nil)
    simp only [List.getElem_toArray, List.getElem_cons_succ, List.getElem_cons_zero]
    go_simp
    refine (HT.out _ hk1).mono ?_
    rintro e u2 ⟨A2, c2, B2, d2, rfl, ho2, hP2, g2⟩
    simp only [ec]
    have hk2 := hk1.trans (g2.mono hk1.size)
    have ho3 := own_mono ho2 (Nat.le_trans HU.out hk1.size)
    have hP3 := own_mono hP2 (Nat.le_trans HU.out hk1.size)
    have hz3 := keep0 hz2 g2
    clear g2 ho2 hP2
    go_wp2_with fail
    refine hK.out _ _ ?_ (fun hHeld2 => ?_)
    focus
      exact hS _ hk2
    clear hHeld
    have hHeld := hHeld2
    clear hHeld2 hK K
    try simp only [List.getElem_toArray, List.getElem_cons_succ, List.getElem_cons_zero, Act.put, List.setIfInBounds_toArray, List.set_cons_zero, List.set_cons_succ]
    refine wpAnyH_take (i := 11) (v := ?_) rfl (by kernel_rfl) (by kernel_rfl) (by kernel_rfl) (fun _ _ _ h => h) (Or.inl ⟨by rfl, ?_⟩) (by assumption) ?_
    rotate_left
    focus
      intro U hU
      try dsimp only at hU
      go_simp
      try (with_reducible rfl)
    simp only [List.getElem_toArray, List.getElem_cons_succ, List.getElem_cons_zero, Act.put, List.setIfInBounds_toArray, List.set_cons_zero, List.set_cons_succ]
    refine wpAnyH_take (i := 12) (v := ?_) rfl (by kernel_rfl) (by kernel_rfl) (by kernel_rfl) (fun _ _ _ h => h) (Or.inl ⟨by rfl, ?_⟩) (by assumption) ?_
    rotate_left
    focus
      intro U hU
      try dsimp only at hU
      go_simp
      try (with_reducible rfl)
    simp only [List.getElem_toArray, List.getElem_cons_succ, List.getElem_cons_zero, Act.put, List.setIfInBounds_toArray, List.set_cons_zero, List.set_cons_succ]
    refine wpAnyH_take (i := 13) (v := ?_) rfl (by kernel_rfl) (by kernel_rfl) (by kernel_rfl) (fun _ _ _ h => h) (Or.inl ⟨by rfl, ?_⟩) (by assumption) ?_
    rotate_left
    focus
      intro U hU
      try dsimp only at hU
      go_simp
      try (with_reducible rfl)
    simp only [List.getElem_toArray, List.getElem_cons_succ, List.getElem_cons_zero, Act.put, List.setIfInBounds_toArray, List.set_cons_zero, List.set_cons_succ]
    refine wpAnyH_take (i := 14) (v := ?_) rfl (by kernel_rfl) (by kernel_rfl) (by kernel_rfl) (fun _ _ _ h => h) (Or.inl ⟨by rfl, ?_⟩) (by assumption) ?_
    rotate_left
    focus
      intro U hU
      try dsimp only at hU
      go_simp
      try (with_reducible rfl)
    simp only [List.getElem_toArray, List.getElem_cons_succ, List.getElem_cons_zero, Act.put, List.setIfInBounds_toArray, List.set_cons_zero, List.set_cons_succ]
    have hxv := HX.out.keep hk2
    have hxw := hxv.other hz3 (by omega) (Nat.le_trans HU.out hle) (.int .i64 f2) (.int .i64 t2) (.int .i64 i2) (.int .i64 p2) (.int .i64 q2) (.slice A2 l2.length c2) (.int .i64 w2') (.int .i64 fl2) (.int .i64 m2) (.int .i64 gp2) (.int .i64 gl2)
    have hk4 := put11_below hk2 hle (.int .i64 f2) (.int .i64 t2) (.int .i64 i2) (.int .i64 p2) (.int .i64 q2) (.slice A2 l2.length c2) (.int .i64 w2') (.int .i64 fl2) (.int .i64 m2) (.int .i64 gp2) (.int .i64 gl2)
    have hzw := put11_heap hz3 (.int .i64 f2) (.int .i64 t2) (.int .i64 i2) (.int .i64 p2) (.int .i64 q2) (.slice A2 l2.length c2) (.int .i64 w2') (.int .i64 fl2) (.int .i64 m2) (.int .i64 gp2) (.int .i64 gl2)
    have how := own_at ho3 hz3 (by decide) fun g hg => put11_other (b := Zb) hg (.int .i64 f2) (.int .i64 t2) (.int .i64 i2) (.int .i64 p2) (.int .i64 q2) (.slice A2 l2.length c2) (.int .i64 w2') (.int .i64 fl2) (.int .i64 m2) (.int .i64 gp2) (.int .i64 gl2)
    have hPw := own_at hP3 hz3 (by decide) fun g hg => put11_other (b := Zb) hg (.int .i64 f2) (.int .i64 t2) (.int .i64 i2) (.int .i64 p2) (.int .i64 q2) (.slice A2 l2.length c2) (.int .i64 w2') (.int .i64 fl2) (.int .i64 m2) (.int .i64 gp2) (.int .i64 gl2)
    obtain ⟨_, ⟨zf0, zf1, zf2, zf3, zf4, zf5, zf6, zf7, zf8, zf9, zf10⟩⟩ := eleven_cells hz3
    simp only [put11] at hk4 hxw hzw how hPw
    clear hxv
    refine wpAnyH_ready (rs := [16]) (by kernel_rfl) (by simp) ?_
    refine AllReadyH.cons rfl (fun K hK => ?_) AllReadyH.nil
    simp only [List.getElem_toArray, List.getElem_cons_succ, List.getElem_cons_zero]
    go_simp
    refine hK.out _ _ ?_ (fun hHeld2 => ?_)
    focus
      exact hS _ hk4
    clear hHeld
    have hHeld := hHeld2
    clear hHeld2 hK K
    try simp only [List.getElem_toArray, List.getElem_cons_succ, List.getElem_cons_zero, Act.put, List.setIfInBounds_toArray, List.set_cons_zero, List.set_cons_succ]
    refine wpAnyH_take (i := 17) (v := ?_) rfl (by kernel_rfl) (by kernel_rfl) (by kernel_rfl) (fun _ _ _ h => h) (Or.inl ⟨by rfl, ?_⟩) (by assumption) ?_
    rotate_left
    focus
      intro U hU
      try dsimp only at hU
      go_simp
      try (with_reducible rfl)
    simp only [List.getElem_toArray, List.getElem_cons_succ, List.getElem_cons_zero, Act.put, List.setIfInBounds_toArray, List.set_cons_zero, List.set_cons_succ]
    refine wpAnyH_take (i := 18) (v := ?_) rfl (by kernel_rfl) (by kernel_rfl) (by kernel_rfl) (fun _ _ _ h => h) (Or.inl ⟨by rfl, ?_⟩) (by assumption) ?_
    rotate_left
    focus
      intro U hU
      try dsimp only at hU
      go_simp
      try (with_reducible rfl)
    simp only [List.getElem_toArray, List.getElem_cons_succ, List.getElem_cons_zero, Act.put, List.setIfInBounds_toArray, List.set_cons_zero, List.set_cons_succ]
    refine wpAnyH_done (by kernel_rfl) ?_ _
    clear hHeld hS zf0 zf1 zf2 zf3 zf4 zf5 zf6 zf7 zf8 zf9 zf10
    go_upto_region 1 with (fail)
    refine at_world (fun v => v.heap[Zb]? = some (.cells (ec ⟨f2, t2, i2, ⟨p2, q2, l2, w2', fl2⟩, m2, gp2, gl2⟩ A2 c2) 54 (0, 0)) ∧ PX W v g x A ca B cb D cd ∧ v.ownsRow W.heap.size 9 1 (.slice A2 l2.length c2) l2.length (scells l2) ∧ OwnP W v (.slice B2 l.length d2) l) ⟨hzw, hxw, how, hPw⟩ ?_
    clear hzw hxw how hPw hk4
    rintro w3 ⟨ht3, hx3, ho3', hP3'⟩
    by_cases he : er = 0
    case neg =>
      have e0 : (er != 0) = true := by simpa using he
      have HR : Hid (puts0V x = x) := hid (by rw [HV.out, if_pos he])
      have HX3 := hid hx3
      clear he ht3 hx3 ho3' hP3'
      go_wp2
      refine bodyPost_ret (results_none rfl _ _ _) rfl ?_
      exact ⟨⟨_, rfl⟩, by rw [HR.out]; exact ⟨_, _, _, _, _, _, HX3.out⟩⟩
    have e0 : (er != 0) = false := by simpa using he
    have HR : Hid (puts0V x = addW (upP0 (setPA x ⟨f2, t2, i2, ⟨p2, q2, l2, w2', fl2⟩, m2, gp2, gl2⟩)) l) := hid (by rw [HV.out, if_neg (by simpa using he)])
    obtain ⟨⟨zq0, zq1, zq2, zq3, zq4, zq5, zq6, zq7, zq8, zq9, zq10⟩, _⟩ := eleven_cells ht3
    have hg3 := hx3.1
    simp only [prc] at hg3
    obtain ⟨_, ⟨cg0, cg1, cg2, cg3, cg4, cg5, cg6, cg7, cg8, cg9, cg10, cg11, cg12, cg13, cg14, cg15, cg16, cg17, cg18, cg19, cg20, cg21, cg22, cg23, cg24, cg25, cg26, cg27⟩⟩ := pair_cells hg3
    have HS := hid (hx3.setA (e := ⟨f2, t2, i2, ⟨p2, q2, l2, w2', fl2⟩, m2, gp2, gl2⟩) ho3')
    have HP3 := hid (own_at hP3' hx3.1 (by decide) fun j hj => putA_other hj (.int .i64 f2) (.int .i64 t2) (.int .i64 i2) (.int .i64 p2) (.int .i64 q2) (.slice A2 l2.length c2) (.int .i64 w2') (.int .i64 fl2) (.int .i64 m2) (.int .i64 gp2) (.int .i64 gl2))
    clear he ht3 hx3 ho3' hP3' hg3
    go_upto_region 7 with (fail)
    refine at_world (fun u => PX W u g (setPA x ⟨f2, t2, i2, ⟨p2, q2, l2, w2', fl2⟩, m2, gp2, gl2⟩) A2 c2 B cb D cd ∧ OwnP W u (.slice B2 l.length d2) l) ⟨HS.out, HP3.out⟩ ?_
    clear zq0 zq1 zq2 zq3 zq4 zq5 zq6 zq7 zq8 zq9 zq10 cg0 cg1 cg2 cg3 cg4 cg5 cg6 cg7 cg8 cg9 cg10 cg11 cg12 cg13 cg14 cg15 cg16 cg17 cg18 cg19 cg20 cg21 cg22 cg23 cg24 cg25 cg26 cg27 HS HP3
    rintro w4 ⟨hx4, hP4⟩
    go_upto_region 7 with (fail)
    have hxd := hx4.keep (below_drew (Below.refl _ _))
    have hPd := own_keep hP4 (below_drew (Below.refl w4.heap.size w4))
    clear hx4 hP4
    refine wp_region_held_drew (S := fun U => True) (by kernel_rfl) trivial (fun hHeld => ?_)
    generalize w4.drew = q0 at *
    have hgd := hxd.1
    simp only [prc, setPA] at hgd
    obtain ⟨⟨cp0, cp1, cp2, cp3, cp4, cp5, cp6, cp7, cp8, cp9, cp10, cp11, cp12, cp13, cp14, cp15, cp16, cp17, cp18, cp19, cp20, cp21, cp22, cp23, cp24, cp25, cp26, cp27⟩, ⟨cg0, cg1, cg2, cg3, cg4, cg5, cg6, cg7, cg8, cg9, cg10, cg11, cg12, cg13, cg14, cg15, cg16, cg17, cg18, cg19, cg20, cg21, cg22, cg23, cg24, cg25, cg26, cg27⟩⟩ := pair_cells hgd
    have hup := hxd.up
    have hPu := own_at hPd hxd.1 (by decide) fun j hj => Below.heap_setCell q0 ⟨g, 23, none⟩ (.int .i64 (x.p0 + 1)) j hj
    have hwr : IntKind.i64.wrap (x.p0 + 1) = x.p0 + 1 := by
      have := HPP.out
      simp [IntKind.wrap, IntKind.bits, IntKind.signed]
      omega
    have HWR := hid hwr
    clear hwr
    clear hgd
    refine wpAnyH_take (i := 0) (v := ?_) rfl (by kernel_rfl) (by kernel_rfl) (by kernel_rfl) (fun _ _ _ h => h) (Or.inl ⟨by rfl, ?_⟩) (by assumption) ?_
    rotate_left
    focus
      intro U hU
      try dsimp only at hU
      go_simp
      try (with_reducible rfl)
    simp only [List.getElem_toArray, List.getElem_cons_succ, List.getElem_cons_zero, Act.put, List.setIfInBounds_toArray, List.set_cons_zero, List.set_cons_succ]
    refine wpAnyH_take (i := 1) (v := ?_) rfl (by kernel_rfl) (by kernel_rfl) (by kernel_rfl) (fun _ _ _ h => h) (Or.inl ⟨by rfl, ?_⟩) (by assumption) ?_
    rotate_left
    focus
      intro U hU
      try dsimp only at hU
      go_simp
      try (with_reducible rfl)
    simp only [List.getElem_toArray, List.getElem_cons_succ, List.getElem_cons_zero, Act.put, List.setIfInBounds_toArray, List.set_cons_zero, List.set_cons_succ]
    refine wpAnyH_take (i := 2) (v := ?_) rfl (by kernel_rfl) (by kernel_rfl) (by kernel_rfl) (fun _ _ _ h => h) (Or.inl ⟨by rfl, ?_⟩) (by assumption) ?_
    rotate_left
    focus
      intro U hU
      try dsimp only at hU
      go_simp
      try (with_reducible rfl)
    simp only [List.getElem_toArray, List.getElem_cons_succ, List.getElem_cons_zero, Act.put, List.setIfInBounds_toArray, List.set_cons_zero, List.set_cons_succ]
    refine wpAnyH_take (i := 3) (v := ?_) rfl (by kernel_rfl) (by kernel_rfl) (by kernel_rfl) (fun _ _ _ h => h) (Or.inl ⟨by rfl, ?_⟩) (by assumption) ?_
    rotate_left
    focus
      intro U hU
      try dsimp only at hU
      go_simp
      try (with_reducible rfl)
    simp only [List.getElem_toArray, List.getElem_cons_succ, List.getElem_cons_zero, Act.put, List.setIfInBounds_toArray, List.set_cons_zero, List.set_cons_succ]
    refine wpAnyH_take (i := 4) (v := ?_) rfl (by kernel_rfl) (by kernel_rfl) (by kernel_rfl) (fun _ _ _ h => h) (Or.inl ⟨by rfl, ?_⟩) (by assumption) ?_
    rotate_left
    focus
      intro U hU
      try dsimp only at hU
      go_simp
      try (with_reducible rfl)
    simp only [List.getElem_toArray, List.getElem_cons_succ, List.getElem_cons_zero, Act.put, List.setIfInBounds_toArray, List.set_cons_zero, List.set_cons_succ]
    refine wpAnyH_take (i := 7) (v := ?_) rfl (by kernel_rfl) (by kernel_rfl) (by kernel_rfl) (fun _ _ _ h => h) (Or.inl ⟨by rfl, ?_⟩) (by assumption) ?_
    rotate_left
    focus
      intro U hU
      try dsimp only at hU
      go_simp
      try (with_reducible rfl)
    simp only [List.getElem_toArray, List.getElem_cons_succ, List.getElem_cons_zero, Act.put, List.setIfInBounds_toArray, List.set_cons_zero, List.set_cons_succ]
    refine wpAnyH_take (i := 8) (v := ?_) rfl (by kernel_rfl) (by kernel_rfl) (by kernel_rfl) (fun _ _ _ h => h) (Or.inl ⟨by rfl, ?_⟩) (by assumption) ?_
    rotate_left
    focus
      intro U hU
      try dsimp only at hU
      go_simp
      try (with_reducible rfl)
    simp only [List.getElem_toArray, List.getElem_cons_succ, List.getElem_cons_zero, Act.put, List.setIfInBounds_toArray, List.set_cons_zero, List.set_cons_succ]
    refine wpAnyH_ready (rs := [5]) (by kernel_rfl) (by simp) ?_
    refine AllReadyH.cons rfl (fun K hK => ?_) AllReadyH.nil
    simp only [List.getElem_toArray, List.getElem_cons_succ, List.getElem_cons_zero]
    go_simp
    refine hK.out _ _ ?_ (fun hHeld2 => ?_)
    focus
      exact trivial
    clear hHeld
    have hHeld := hHeld2
    clear hHeld2 hK K
    try simp only [List.getElem_toArray, List.getElem_cons_succ, List.getElem_cons_zero, Act.put, List.setIfInBounds_toArray, List.set_cons_zero, List.set_cons_succ]
    refine wpAnyH_take (i := 6) (v := ?_) rfl (by kernel_rfl) (by kernel_rfl) (by kernel_rfl) (fun _ _ _ h => h) (Or.inl ⟨by rfl, ?_⟩) (by assumption) ?_
    rotate_left
    focus
      intro U hU
      try dsimp only at hU
      go_simp
      try (with_reducible rfl)
    simp only [List.getElem_toArray, List.getElem_cons_succ, List.getElem_cons_zero, Act.put, List.setIfInBounds_toArray, List.set_cons_zero, List.set_cons_succ]
    refine wpAnyH_take (i := 9) (v := ?_) rfl (by kernel_rfl) (by kernel_rfl) (by kernel_rfl) (fun _ _ _ h => h) (Or.inl ⟨by rfl, ?_⟩) (by assumption) ?_
    rotate_left
    focus
      intro U hU
      try dsimp only at hU
      go_simp
      try (with_reducible rfl)
    simp only [List.getElem_toArray, List.getElem_cons_succ, List.getElem_cons_zero, Act.put, List.setIfInBounds_toArray, List.set_cons_zero, List.set_cons_succ]
    refine wpAnyH_ready (rs := [10]) (by kernel_rfl) (by simp) ?_
    refine AllReadyH.cons rfl (fun K hK => ?_) AllReadyH.nil
    simp only [List.getElem_toArray, List.getElem_cons_succ, List.getElem_cons_zero]
    go_simp
    refine hK.out _ _ ?_ (fun hHeld2 => ?_)
    focus
      exact trivial
    clear hHeld
    have hHeld := hHeld2
    clear hHeld2 hK K
    try simp only [List.getElem_toArray, List.getElem_cons_succ, List.getElem_cons_zero, Act.put, List.setIfInBounds_toArray, List.set_cons_zero, List.set_cons_succ]
    refine wpAnyH_done (by kernel_rfl) ?_ _
    clear hHeld cp0 cp1 cp2 cp3 cp4 cp5 cp6 cp7 cp8 cp9 cp10 cp11 cp12 cp13 cp14 cp15 cp16 cp17 cp18 cp19 cp20 cp21 cp22 cp23 cp24 cp25 cp26 cp27 cg0 cg1 cg2 cg3 cg4 cg5 cg6 cg7 cg8 cg9 cg10 cg11 cg12 cg13 cg14 cg15 cg16 cg17 cg18 cg19 cg20 cg21 cg22 cg23 cg24 cg25 cg26 cg27
    go_upto_region 8 with (fail)
    rw [HWR.out]
    refine at_world (fun u => PX W u g (upP0 (setPA x ⟨f2, t2, i2, ⟨p2, q2, l2, w2', fl2⟩, m2, gp2, gl2⟩)) A2 c2 B cb D cd ∧ OwnP W u (.slice B2 l.length d2) l) ⟨hup, hPu⟩ ?_
    clear HWR hup hPu hxd hPd
    rintro w5 ⟨hx5, hP5⟩
    have hg5 := hx5.1
    simp only [prc, upP0, setPA] at hg5
    obtain ⟨⟨cp0, cp1, cp2, cp3, cp4, cp5, cp6, cp7, cp8, cp9, cp10, cp11, cp12, cp13, cp14, cp15, cp16, cp17, cp18, cp19, cp20, cp21, cp22, cp23, cp24, cp25, cp26, cp27⟩, ⟨cg0, cg1, cg2, cg3, cg4, cg5, cg6, cg7, cg8, cg9, cg10, cg11, cg12, cg13, cg14, cg15, cg16, cg17, cg18, cg19, cg20, cg21, cg22, cg23, cg24, cg25, cg26, cg27⟩⟩ := pair_cells hg5
    have HX5 := hid hx5
    have hsl5 := sl_own hP5
    have hwl : x.w.length ≤ 100000 := HWL.out
    have htl : l.length ≤ 1 := HTL.out
    have hbe := hx5.2.2.2.2.2.size
    clear hg5 hx5 hP5
    go_wp2_with (at_builtin; refine wpList_append_slk rfl (.tmp 65) (.tmp 66) 56 rfl W.heap.size 71 Try.underlying56 info_pkt rfl (by omega) rfl HX5.out.2.2.2.2.1 rfl hsl5 (pkc_one _) (by show x.w.length + _ ≤ _; unfold maxLen; omega) (by show (x.w.length + _) * 64 ≤ _; omega) hbe ?_)
    intro v6 w6 ho6 hb6 hsz6 hk6
    obtain ⟨D6, d6, rfl, _⟩ := Mid.form ho6
    have HF := hid (HX5.out.app ho6 hb6 hk6)
    have hg6 := (hk6 g HX5.out.2.1 (lt_of_block HX5.out.1) (mid_blk_ne HX5.out.2.2.2.2.1 HX5.out.1 (by decide))).trans HX5.out.1
    simp only [prc, upP0, setPA] at hg6
    clear cp0 cp1 cp2 cp3 cp4 cp5 cp6 cp7 cp8 cp9 cp10 cp11 cp12 cp13 cp14 cp15 cp16 cp17 cp18 cp19 cp20 cp21 cp22 cp23 cp24 cp25 cp26 cp27 cg0 cg1 cg2 cg3 cg4 cg5 cg6 cg7 cg8 cg9 cg10 cg11 cg12 cg13 cg14 cg15 cg16 cg17 cg18 cg19 cg20 cg21 cg22 cg23 cg24 cg25 cg26 cg27 ho6 hb6 hsz6 hk6 HX5 hsl5
    obtain ⟨_, ⟨cg0, cg1, cg2, cg3, cg4, cg5, cg6, cg7, cg8, cg9, cg10, cg11, cg12, cg13, cg14, cg15, cg16, cg17, cg18, cg19, cg20, cg21, cg22, cg23, cg24, cg25, cg26, cg27⟩⟩ := pair_cells hg6
    clear hg6
    go_wp2
    go_end0
    exact ⟨⟨_, rfl⟩, by rw [HR.out]; exact ⟨_, _, _, _, _, _, HF.out⟩⟩
end Go.Proofs.Ytdekemlckpbbcaa
