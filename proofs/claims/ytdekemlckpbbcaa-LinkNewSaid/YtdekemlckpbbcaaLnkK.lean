/- ticks: contract. -/
import Derived.Test.YtdekemlckpbbcaaLnkJ
namespace Go.Proofs.Ytdekemlckpbbcaa
open Go.RowKit Go.Sort
set_option linter.unusedVariables false
set_option linter.unusedSimpArgs false

theorem wpList_append_slk {P : Program} {w : World} {ops : Array Oper} {rest : List Oper} {o : Oper} {a : Act} {Q : Exit → Act → World → Prop} (hgd : o.guard = none) (s x : Operand) (t : TypeId) (ho : o.op = .call { callee := .builtin .append, args := #[s, x], argTypes := #[t, t] })
    (base : Nat) (e : TypeId) {z : Value} {size bytes : Nat} (ht : P.underlying t = some (.slice e)) (hinf : (P.info? e).map (fun i => (i.zero, i.size, i.bytes)) = some (some z, size, bytes)) (hzs : z.cells.size = size) (hsz : 0 < size)
    {v : Value} {n : Nat} {xs : List Value} (hs : a.eval s = v) (hown : Mid w base e size v n xs)
    {A : Option Addr} {m c : Nat} {news : List Value} (hx : a.eval x = .slice A m c) (hsl : Sl w size A m c news) (h1 : ∀ u ∈ news, u.oneCell' = true)
    (h63 : n + m ≤ maxLen) (hbytes : (n + m) * bytes ≤ 140737488355328) (hbase : base ≤ w.heap.size)
    (h : ∀ v' w', Mid w' base e size v' (n + m) (xs ++ news) → Below base w w' → w.heap.size ≤ w'.heap.size → (∀ g, base ≤ g → g < w.heap.size → v.ownBlock ≠ some g → w'.heap[g]? = w.heap[g]?) → wpList P ops Q rest (a.put o.dst v') w') : wpList P ops Q (o :: rest) a w :=
  wpList_append_mid hgd s x t ho base e ht hinf hzs hsz hs hown hx hsl h1 h63 hbytes hbase (Below.refl _ _) fun v' w' h2 h3 h4 h5 => h v' w' h2 h3 h4 fun g _ hg hne => h5 g hg hne
theorem tikE_len (e : Ev) : (tikE e).2.length ≤ 1 := dataV_len _ _

set_option maxRecDepth 20000 in
set_option maxHeartbeats 8000000 in
theorem ticks0_any (x : Pr) (g : Nat) (W u : World) (A : Option Addr) (ca : Nat) (B : Option Addr) (cb : Nat) (D : Option Addr) (cd : Nat) (h : PX W u g x A ca B cb D cd) (hl : x.a.o.l.length ≤ 1000) (hw : x.w.length ≤ 100000) :
    Calls Try.prog 34 #[.pointer (some ⟨g, 0, none⟩), .int .i64 0] u fun e u' => (∃ v, e = .returned v) ∧ ∃ A ca B cb D cd, PX W u' g (ticksV x 0) A ca B cb D cd := by
  have HT := hid (ltick_any x.a A ca u (sl_own h.2.2.1) hl)
  have HTL := hid (tikE_len x.a)
  have HV : Hid (ticksV x 0 = addW (setPA x (tikE x.a).1) (tikE x.a).2) := hid rfl
  have HU := hid (h.2.2.2.2.2.size)
  have HWL := hid hw
  generalize tikE x.a = r at *
  obtain ⟨⟨f2, t2, i2, ⟨p2, q2, l2, w2', fl2⟩, m2, gp2, gl2⟩, l⟩ := r
  have hg := h.1
  simp only [prc] at hg
  obtain ⟨⟨cp0, cp1, cp2, cp3, cp4, cp5, cp6, cp7, cp8, cp9, cp10, cp11, cp12, cp13, cp14, cp15, cp16, cp17, cp18, cp19, cp20, cp21, cp22, cp23, cp24, cp25, cp26, cp27⟩, ⟨cg0, cg1, cg2, cg3, cg4, cg5, cg6, cg7, cg8, cg9, cg10, cg11, cg12, cg13, cg14, cg15, cg16, cg17, cg18, cg19, cg20, cg21, cg22, cg23, cg24, cg25, cg26, cg27⟩⟩ := pair_cells hg
  have HX := hid h
  clear hg h hl hw
  simp only [ec] at HT
  go_enter Try.func34, Try.ntmps34
  go_wp2_with fail
  refine HT.out.mono ?_
  rintro e w2 ⟨A2, c2, B2, d2, rfl, ho2, hP2, hb2⟩
  simp only [ec]
  have HX2 := hid (HX.out.keep hb2)
  have HO2 := hid (own_mono ho2 HU.out)
  have HP2 := hid (own_mono hP2 HU.out)
  clear cp0 cp1 cp2 cp3 cp4 cp5 cp6 cp7 cp8 cp9 cp10 cp11 cp12 cp13 cp14 cp15 cp16 cp17 cp18 cp19 cp20 cp21 cp22 cp23 cp24 cp25 cp26 cp27 cg0 cg1 cg2 cg3 cg4 cg5 cg6 cg7 cg8 cg9 cg10 cg11 cg12 cg13 cg14 cg15 cg16 cg17 cg18 cg19 cg20 cg21 cg22 cg23 cg24 cg25 cg26 cg27 HX ho2 hP2 hb2 HT
  go_upto_region 3 with (fail)
  refine at_world (fun u => u.heap[w2.heap.size]? = some (.cells (ec ⟨f2, t2, i2, ⟨p2, q2, l2, w2', fl2⟩, m2, gp2, gl2⟩ A2 c2) 54 (0, 0)) ∧ PX W u g x A ca B cb D cd ∧ u.ownsRow W.heap.size 9 1 (.slice A2 l2.length c2) l2.length (scells l2) ∧ OwnP W u (.slice B2 l.length d2) l) ⟨heap_alloc_new _ _, HX2.out.keep ((Below.refl _ _).alloc (Nat.le_refl _) _), own_keep HO2.out ((Below.refl _ _).alloc (Nat.le_refl _) _), own_keep HP2.out ((Below.refl _ _).alloc (Nat.le_refl _) _)⟩ ?_
  clear HX2 HO2 HP2
  generalize w2.heap.size = T at *
  rintro w3 ⟨ht3, hx3, ho3, hP3⟩
  obtain ⟨⟨z0, z1, z2, z3, z4, z5, z6, z7, z8, z9, z10⟩, _⟩ := eleven_cells ht3
  have hg3 := hx3.1
  simp only [prc] at hg3
  obtain ⟨_, ⟨cg0, cg1, cg2, cg3, cg4, cg5, cg6, cg7, cg8, cg9, cg10, cg11, cg12, cg13, cg14, cg15, cg16, cg17, cg18, cg19, cg20, cg21, cg22, cg23, cg24, cg25, cg26, cg27⟩⟩ := pair_cells hg3
  have HS := hid (hx3.setA (e := ⟨f2, t2, i2, ⟨p2, q2, l2, w2', fl2⟩, m2, gp2, gl2⟩) ho3)
  have HP3 := hid (own_at hP3 hx3.1 (by decide) fun j hj => putA_other hj (.int .i64 f2) (.int .i64 t2) (.int .i64 i2) (.int .i64 p2) (.int .i64 q2) (.slice A2 l2.length c2) (.int .i64 w2') (.int .i64 fl2) (.int .i64 m2) (.int .i64 gp2) (.int .i64 gl2))
  clear ht3 hx3 ho3 hP3 hg3
  go_upto_region 4 with (fail)
  refine at_world (fun u => PX W u g (setPA x ⟨f2, t2, i2, ⟨p2, q2, l2, w2', fl2⟩, m2, gp2, gl2⟩) A2 c2 B cb D cd ∧ OwnP W u (.slice B2 l.length d2) l) ⟨HS.out, HP3.out⟩ ?_
  clear z0 z1 z2 z3 z4 z5 z6 z7 z8 z9 z10 cg0 cg1 cg2 cg3 cg4 cg5 cg6 cg7 cg8 cg9 cg10 cg11 cg12 cg13 cg14 cg15 cg16 cg17 cg18 cg19 cg20 cg21 cg22 cg23 cg24 cg25 cg26 cg27 HS HP3
  rintro w4 ⟨hx4, hP4⟩
  have hg4 := hx4.1
  simp only [prc, setPA] at hg4
  obtain ⟨⟨cp0, cp1, cp2, cp3, cp4, cp5, cp6, cp7, cp8, cp9, cp10, cp11, cp12, cp13, cp14, cp15, cp16, cp17, cp18, cp19, cp20, cp21, cp22, cp23, cp24, cp25, cp26, cp27⟩, ⟨cg0, cg1, cg2, cg3, cg4, cg5, cg6, cg7, cg8, cg9, cg10, cg11, cg12, cg13, cg14, cg15, cg16, cg17, cg18, cg19, cg20, cg21, cg22, cg23, cg24, cg25, cg26, cg27⟩⟩ := pair_cells hg4
  have HX4 := hid hx4
  have hsl4 := sl_own hP4
  have hwl : x.w.length ≤ 100000 := HWL.out
  have htl : l.length ≤ 1 := HTL.out
  have hbe := hx4.2.2.2.2.2.size
  clear hg4 hx4 hP4
  go_wp2_with (at_builtin; refine wpList_append_slk rfl (.tmp 41) (.tmp 42) 56 rfl W.heap.size 71 Try.underlying56 info_pkt rfl (by omega) rfl HX4.out.2.2.2.2.1 rfl hsl4 (pkc_one _) (by show x.w.length + _ ≤ _; unfold maxLen; omega) (by show (x.w.length + _) * 64 ≤ _; omega) hbe ?_)
  intro v5 w5 ho5 hb5 hsz5 hk5
  obtain ⟨D5, d5, rfl, _⟩ := Mid.form ho5
  have HF := hid (HX4.out.app ho5 hb5 hk5)
  have hg5 := (hk5 g HX4.out.2.1 (lt_of_block HX4.out.1) (mid_blk_ne HX4.out.2.2.2.2.1 HX4.out.1 (by decide))).trans HX4.out.1
  simp only [prc, setPA] at hg5
  clear cp0 cp1 cp2 cp3 cp4 cp5 cp6 cp7 cp8 cp9 cp10 cp11 cp12 cp13 cp14 cp15 cp16 cp17 cp18 cp19 cp20 cp21 cp22 cp23 cp24 cp25 cp26 cp27 cg0 cg1 cg2 cg3 cg4 cg5 cg6 cg7 cg8 cg9 cg10 cg11 cg12 cg13 cg14 cg15 cg16 cg17 cg18 cg19 cg20 cg21 cg22 cg23 cg24 cg25 cg26 cg27 ho5 hb5 hsz5 hk5 HX4 hsl4
  obtain ⟨_, ⟨cg0, cg1, cg2, cg3, cg4, cg5, cg6, cg7, cg8, cg9, cg10, cg11, cg12, cg13, cg14, cg15, cg16, cg17, cg18, cg19, cg20, cg21, cg22, cg23, cg24, cg25, cg26, cg27⟩⟩ := pair_cells hg5
  clear hg5
  go_wp2
  go_end0
  exact ⟨⟨_, rfl⟩, by rw [HV.out]; exact ⟨_, _, _, _, _, _, HF.out⟩⟩

set_option maxRecDepth 20000 in
set_option maxHeartbeats 8000000 in
theorem ticks1_any (x : Pr) (g : Nat) (W u : World) (A : Option Addr) (ca : Nat) (B : Option Addr) (cb : Nat) (D : Option Addr) (cd : Nat) (h : PX W u g x A ca B cb D cd) (hl : x.b.o.l.length ≤ 1000) (hw : x.w.length ≤ 100000) :
    Calls Try.prog 34 #[.pointer (some ⟨g, 0, none⟩), .int .i64 1] u fun e u' => (∃ v, e = .returned v) ∧ ∃ A ca B cb D cd, PX W u' g (ticksV x 1) A ca B cb D cd := by
  have HT := hid (ltick_any x.b B cb u (sl_own h.2.2.2.1) hl)
  have HTL := hid (tikE_len x.b)
  have HV : Hid (ticksV x 1 = addW (setPB x (tikE x.b).1) (tikE x.b).2) := hid rfl
  have HU := hid (h.2.2.2.2.2.size)
  have HWL := hid hw
  generalize tikE x.b = r at *
  obtain ⟨⟨f2, t2, i2, ⟨p2, q2, l2, w2', fl2⟩, m2, gp2, gl2⟩, l⟩ := r
  have hg := h.1
  simp only [prc] at hg
  obtain ⟨⟨cp0, cp1, cp2, cp3, cp4, cp5, cp6, cp7, cp8, cp9, cp10, cp11, cp12, cp13, cp14, cp15, cp16, cp17, cp18, cp19, cp20, cp21, cp22, cp23, cp24, cp25, cp26, cp27⟩, ⟨cg0, cg1, cg2, cg3, cg4, cg5, cg6, cg7, cg8, cg9, cg10, cg11, cg12, cg13, cg14, cg15, cg16, cg17, cg18, cg19, cg20, cg21, cg22, cg23, cg24, cg25, cg26, cg27⟩⟩ := pair_cells hg
  have HX := hid h
  clear hg h hl hw
  simp only [ec] at HT
  go_enter Try.func34, Try.ntmps34
  go_wp2_with fail
  refine HT.out.mono ?_
  rintro e w2 ⟨A2, c2, B2, d2, rfl, ho2, hP2, hb2⟩
  simp only [ec]
  have HX2 := hid (HX.out.keep hb2)
  have HO2 := hid (own_mono ho2 HU.out)
  have HP2 := hid (own_mono hP2 HU.out)
  clear cp0 cp1 cp2 cp3 cp4 cp5 cp6 cp7 cp8 cp9 cp10 cp11 cp12 cp13 cp14 cp15 cp16 cp17 cp18 cp19 cp20 cp21 cp22 cp23 cp24 cp25 cp26 cp27 cg0 cg1 cg2 cg3 cg4 cg5 cg6 cg7 cg8 cg9 cg10 cg11 cg12 cg13 cg14 cg15 cg16 cg17 cg18 cg19 cg20 cg21 cg22 cg23 cg24 cg25 cg26 cg27 HX ho2 hP2 hb2 HT
  go_upto_region 6 with (fail)
  refine at_world (fun u => u.heap[w2.heap.size]? = some (.cells (ec ⟨f2, t2, i2, ⟨p2, q2, l2, w2', fl2⟩, m2, gp2, gl2⟩ A2 c2) 54 (0, 0)) ∧ PX W u g x A ca B cb D cd ∧ u.ownsRow W.heap.size 9 1 (.slice A2 l2.length c2) l2.length (scells l2) ∧ OwnP W u (.slice B2 l.length d2) l) ⟨heap_alloc_new _ _, HX2.out.keep ((Below.refl _ _).alloc (Nat.le_refl _) _), own_keep HO2.out ((Below.refl _ _).alloc (Nat.le_refl _) _), own_keep HP2.out ((Below.refl _ _).alloc (Nat.le_refl _) _)⟩ ?_
  clear HX2 HO2 HP2
  generalize w2.heap.size = T at *
  rintro w3 ⟨ht3, hx3, ho3, hP3⟩
  obtain ⟨⟨z0, z1, z2, z3, z4, z5, z6, z7, z8, z9, z10⟩, _⟩ := eleven_cells ht3
  have hg3 := hx3.1
  simp only [prc] at hg3
  obtain ⟨_, ⟨cg0, cg1, cg2, cg3, cg4, cg5, cg6, cg7, cg8, cg9, cg10, cg11, cg12, cg13, cg14, cg15, cg16, cg17, cg18, cg19, cg20, cg21, cg22, cg23, cg24, cg25, cg26, cg27⟩⟩ := pair_cells hg3
  have HS := hid (hx3.setB (e := ⟨f2, t2, i2, ⟨p2, q2, l2, w2', fl2⟩, m2, gp2, gl2⟩) ho3)
  have HP3 := hid (own_at hP3 hx3.1 (by decide) fun j hj => putB_other hj (.int .i64 f2) (.int .i64 t2) (.int .i64 i2) (.int .i64 p2) (.int .i64 q2) (.slice A2 l2.length c2) (.int .i64 w2') (.int .i64 fl2) (.int .i64 m2) (.int .i64 gp2) (.int .i64 gl2))
  clear ht3 hx3 ho3 hP3 hg3
  go_upto_region 7 with (fail)
  refine at_world (fun u => PX W u g (setPB x ⟨f2, t2, i2, ⟨p2, q2, l2, w2', fl2⟩, m2, gp2, gl2⟩) A ca A2 c2 D cd ∧ OwnP W u (.slice B2 l.length d2) l) ⟨HS.out, HP3.out⟩ ?_
  clear z0 z1 z2 z3 z4 z5 z6 z7 z8 z9 z10 cg0 cg1 cg2 cg3 cg4 cg5 cg6 cg7 cg8 cg9 cg10 cg11 cg12 cg13 cg14 cg15 cg16 cg17 cg18 cg19 cg20 cg21 cg22 cg23 cg24 cg25 cg26 cg27 HS HP3
  rintro w4 ⟨hx4, hP4⟩
  have hg4 := hx4.1
  simp only [prc, setPB] at hg4
  obtain ⟨⟨cp0, cp1, cp2, cp3, cp4, cp5, cp6, cp7, cp8, cp9, cp10, cp11, cp12, cp13, cp14, cp15, cp16, cp17, cp18, cp19, cp20, cp21, cp22, cp23, cp24, cp25, cp26, cp27⟩, ⟨cg0, cg1, cg2, cg3, cg4, cg5, cg6, cg7, cg8, cg9, cg10, cg11, cg12, cg13, cg14, cg15, cg16, cg17, cg18, cg19, cg20, cg21, cg22, cg23, cg24, cg25, cg26, cg27⟩⟩ := pair_cells hg4
  have HX4 := hid hx4
  have hsl4 := sl_own hP4
  have hwl : x.w.length ≤ 100000 := HWL.out
  have htl : l.length ≤ 1 := HTL.out
  have hbe := hx4.2.2.2.2.2.size
  clear hg4 hx4 hP4
  go_wp2_with (at_builtin; refine wpList_append_slk rfl (.tmp 41) (.tmp 42) 56 rfl W.heap.size 71 Try.underlying56 info_pkt rfl (by omega) rfl HX4.out.2.2.2.2.1 rfl hsl4 (pkc_one _) (by show x.w.length + _ ≤ _; unfold maxLen; omega) (by show (x.w.length + _) * 64 ≤ _; omega) hbe ?_)
  intro v5 w5 ho5 hb5 hsz5 hk5
  obtain ⟨D5, d5, rfl, _⟩ := Mid.form ho5
  have HF := hid (HX4.out.app ho5 hb5 hk5)
  have hg5 := (hk5 g HX4.out.2.1 (lt_of_block HX4.out.1) (mid_blk_ne HX4.out.2.2.2.2.1 HX4.out.1 (by decide))).trans HX4.out.1
  simp only [prc, setPB] at hg5
  clear cp0 cp1 cp2 cp3 cp4 cp5 cp6 cp7 cp8 cp9 cp10 cp11 cp12 cp13 cp14 cp15 cp16 cp17 cp18 cp19 cp20 cp21 cp22 cp23 cp24 cp25 cp26 cp27 cg0 cg1 cg2 cg3 cg4 cg5 cg6 cg7 cg8 cg9 cg10 cg11 cg12 cg13 cg14 cg15 cg16 cg17 cg18 cg19 cg20 cg21 cg22 cg23 cg24 cg25 cg26 cg27 ho5 hb5 hsz5 hk5 HX4 hsl4
  obtain ⟨_, ⟨cg0, cg1, cg2, cg3, cg4, cg5, cg6, cg7, cg8, cg9, cg10, cg11, cg12, cg13, cg14, cg15, cg16, cg17, cg18, cg19, cg20, cg21, cg22, cg23, cg24, cg25, cg26, cg27⟩⟩ := pair_cells hg5
  clear hg5
  go_wp2
  go_end0
  exact ⟨⟨_, rfl⟩, by rw [HV.out]; exact ⟨_, _, _, _, _, _, HF.out⟩⟩
end Go.Proofs.Ytdekemlckpbbcaa
