/- QueueDoes, of a queue that is not empty. -/
import Derived.Test.YtadjmgmdnekllaaQueT
import Derived.Test.YtadjmgmdnekllaaQueW
import Derived.Deep.CutRange
import Derived.Deep.RegionHeld3
namespace Go.Proofs.Ytadjmgmdnekllaa
open Go.RowKit Go.Sort
set_option linter.unusedVariables false
set_option linter.unusedSimpArgs false

theorem below_drewNQ {n k : Nat} {W w : World} (h : Below n W w) : Below n W (w.drewN k) := ⟨h.os, h.tape, h.output, h.size, h.block⟩
theorem drop_has (l : List (Int × Int)) (job : Int) : decide ((dropJ l job).length < l.length) = hasJ l job := by
  rw [Bool.eq_iff_iff, decide_eq_true_eq, hasJ_iff]
  constructor
  · intro h
    by_cases h2 : ∃ j, ∃ hj : j < l.length, l[j].1 = job
    · exact h2
    · rw [dropJ_no (fun j hj he => h2 ⟨j, hj, he⟩)] at h
      omega
  · rintro ⟨j, hj, he⟩
    have h1 := dropJ_len l job
    rcases Nat.lt_or_ge (dropJ l job).length l.length with h2 | h2
    · exact h2
    · have h3 : (dropJ l job).length = l.length := by omega
      unfold dropJ at h3
      rw [List.length_filter_eq_length_iff] at h3
      have := h3 _ (List.getElem_mem hj)
      simp [he] at this

/-- A row that may be stored into, in a block from B on, below T. -/
def Stor (B T : Nat) (e : TypeId) (w : World) (A : Option Addr) (n : Nat) : Prop := 0 < n → ∃ g cur, A = some ⟨g, 0, none⟩ ∧ B ≤ g ∧ g < T ∧ w.heap[g]? = some (.cells cur e (0, 0)) ∧ n * 2 ≤ cur.size
theorem Stor.of_own {B e : Nat} {w : World} {A : Option Addr} {n c : Nat} {xs : List Value} (h : w.ownsRow B e 2 (.slice A n c) n xs) : Stor B w.heap.size e w A n := fun h0 => by
  rcases h.2 with ⟨_, h2⟩ | ⟨g, cap, cur, h3, h4, h5, h6, h7, h8, h9⟩
  · omega
  · injection h3 with e1 e2 e3
    exact ⟨g, cur, e1, h4, lt_of_block h5, h5, by rw [h8]; exact Nat.mul_le_mul_right 2 h6⟩
theorem Stor.keep {B T e : Nat} {w w' : World} {A : Option Addr} {n : Nat} (h : Stor B T e w A n) (hk : ∀ g, g < T → w'.heap[g]? = w.heap[g]?) : Stor B T e w' A n := fun h0 => by
  obtain ⟨g, cur, h1, h2, h3, h4, h5⟩ := h h0
  exact ⟨g, cur, h1, h2, h3, by rw [hk g h3]; exact h4, h5⟩
theorem Stor.store {B T e : Nat} {w : World} {A : Option Addr} {n : Nat} (h : Stor B T e w A n) (Z o : Nat) (u : Value) : Stor B T e (w.setCell ⟨Z, o, none⟩ u) A n := fun h0 => by
  obtain ⟨g, cur, h1, h2, h3, h4, h5⟩ := h h0
  by_cases hg : g = Z
  · subst hg
    exact ⟨g, _, h1, h2, h3, heap_setCell_same w g o cur e u h4, by simpa using h5⟩
  · exact ⟨g, cur, h1, h2, h3, by rw [Below.heap_setCell _ _ _ _ hg]; exact h4, h5⟩
theorem Stor.cell {B T e : Nat} {w : World} {A : Option Addr} {n : Nat} (h : Stor B T e w A n) (j : Nat) (hj : j < n) : ∃ g v, A = some ⟨g, 0, none⟩ ∧ B ≤ g ∧ g < T ∧ w.cell? ⟨g, j * 2, none⟩ = some v ∧ w.frozen? ⟨g, j * 2, none⟩ = false := by
  obtain ⟨g, cur, h1, h2, h3, h4, h5⟩ := h (by omega)
  have hlt : j * 2 < cur.size := by omega
  exact ⟨g, cur[j * 2], h1, h2, h3, by rw [cell_of_row w g (j * 2) cur e (0, 0) h4, Array.getElem?_eq_getElem hlt], frozen_of_row w g (j * 2) cur e h4⟩
/-- What stays while all that came out is written over. -/
structure R29 (B T : Nat) (e : TypeId) (w1 : World) (rA : Nat → Option Addr) (rn rc : Nat → Nat) (w : World) : Prop where
  b : Below B w1 w
  y : ∀ k, k < 4 → w.cell? ⟨T, k, none⟩ = some (.slice (rA k) (rn k) (rc k))
  s : ∀ k, k < 4 → Stor B T e w (rA k) (rn k)
theorem R29.store {B T e : Nat} {w1 : World} {rA : Nat → Option Addr} {rn rc : Nat → Nat} {w : World} (h : R29 B T e w1 rA rn rc w) (g o : Nat) (u : Value) (h1 : B ≤ g) (h2 : g < T) : R29 B T e w1 rA rn rc (w.setCell ⟨g, o, none⟩ u) :=
  ⟨h.b.setCell (p := ⟨g, o, none⟩) h1 _, fun k hk => by rw [World.cell?_setCell_other _ _ _ _ (fun e => by have : g = T := congrArg Addr.block e; omega)]; exact h.y k hk, fun k hk => (h.s k hk).store g o u⟩

set_option maxRecDepth 20000 in
set_option maxHeartbeats 8000000 in
theorem queueDoes_pos (A : Option Addr) (cap : Nat) (p : Int × Int) (l' : List (Int × Int)) (n0 n1 n2 : Int) (W : World) (h : Sl W 2 A (l'.length + 1) cap (pcells (p :: l'))) (hl : l'.length + 1 ≤ 100) :
    Calls Try.prog 9 #[.slice A ((l'.length + 1 : Nat)) cap, .agg #[.int .i64 n0, .int .i64 n1, .int .i64 n2]] W fun e w' => e = .returned (.bool true) ∧ Below W.heap.size W w' := by
  obtain ⟨l, hll⟩ : ∃ l, l = p :: l' := ⟨_, rfl⟩
  have hlen : l.length = l'.length + 1 := by rw [hll]; rfl
  rw [← hll, ← hlen] at h
  rw [← hlen] at hl ⊢
  have HLL := hid hll
  have HLN := hid hlen
  have HSL := hid h
  have hpos : (0 : Int) < (l.length : Int) := by omega
  have hl2 : (l.length : Int) ≤ 100 := by omega
  clear h hll hlen
  go_enter Try.func9, Try.ntmps9
  go_upto_region 1 with (fail)
  refine at_world (fun w => w.heap[W.heap.size]? = some (.cells #[.int .i64 n0, .int .i64 n1, .int .i64 n2] 83 (0, 0)) ∧ Below W.heap.size W w ∧ W.heap.size < w.heap.size) ⟨heap_alloc_new _ _, (Below.refl _ _).alloc (Nat.le_refl _) _, by simp⟩ ?_
  rintro w0 ⟨k0, hb0, hz0⟩
  have K0 := hid k0
  have HB0 := hid hb0
  have HZ0 := hid hz0
  have HOF := hid (qof_any A l.length cap l w0 (HSL.out.below hb0) (by omega))
  clear k0 hb0 hz0
  go_wp2_with fail
  refine HOF.out.mono ?_
  rintro e w1 ⟨A1, c1, rfl, o1, b1⟩
  have hz1 := b1.size
  have HX : Hid (∀ w, Below w1.heap.size w1 w → Sl w 2 A1 l.length c1 (pcells l)) := hid (fun w hw => (sl_own o1).below hw)
  have HL : Hid (∀ w, Below w1.heap.size w1 w → Sl w 2 A l.length cap (pcells l)) := hid (fun w hw => ((HSL.out.below HB0.out).below b1).below hw)
  have HN : Hid (∀ w, Below w1.heap.size w1 w → w.cell? ⟨W.heap.size, 0, none⟩ = some (.int .i64 n0) ∧ w.cell? ⟨W.heap.size, 1, none⟩ = some (.int .i64 n1) ∧ w.cell? ⟨W.heap.size, 2, none⟩ = some (.int .i64 n2)) := hid (fun w hw => by
    have h3 := keep0 (keep0 K0.out b1) hw
    obtain ⟨⟨y0, y1, y2⟩, _⟩ := three_cells h3
    exact ⟨y0, y1, y2⟩)
  have HBW : Hid (∀ w, Below w1.heap.size w1 w → Below W.heap.size W w) := hid (fun w hw => (HB0.out.trans (b1.mono (Nat.le_of_lt HZ0.out))).trans (hw.mono (by have := HZ0.out; omega)))
  clear o1 b1 HOF K0 HB0 HZ0 HSL hz1
  obtain ⟨y0, y1, y2⟩ := HN.out w1 (Below.refl _ _)
  go_upto_region 5 with (fail)
  refine at_world (fun w => w.heap[w1.heap.size]? = some (.cells #[.int .i64 n0, .int .i64 n1] 87 (0, 0)) ∧ Below w1.heap.size w1 w ∧ w1.heap.size < w.heap.size) ⟨heap_alloc_new _ _, (Below.refl _ _).alloc (Nat.le_refl _) _, by simp⟩ ?_
  rintro w2 ⟨k2, hb2, hz2⟩
  have K2 := hid k2
  have HB2 := hid hb2
  have HZ2 := hid hz2
  have HPU := hid (push_any A1 l.length c1 l n2 n0 n1 w2 (HX.out w2 hb2) (by omega))
  clear y0 y1 y2 k2
  obtain ⟨y0, y1, y2⟩ := HN.out w2 hb2
  clear hb2 hz2
  go_wp2_with fail
  refine HPU.out.mono ?_
  rintro e w3 ⟨va, rfl, oa, b3⟩
  have HB3 := hid (HB2.out.trans (b3.mono HB2.out.size))
  have HOA := hid (own_mono oa HB2.out.size)
  have K3 := keep0 K2.out b3
  obtain ⟨p0, p1, q0, q1⟩ := two_cells K3
  clear q0 q1 K3 oa b3 HPU HB2 y0 y1 y2 HZ2 K2
  obtain ⟨y0, y1, y2⟩ := HN.out w3 HB3.out
  have HRP := hid (rpush_any A l.length cap l n2 n0 n1 w3 (HL.out w3 HB3.out) (by omega))
  go_wp2_with fail
  refine HRP.out.mono ?_
  rintro e w4 ⟨Ab, cb, rfl, sb, b4⟩
  have HSB := hid sb
  have HB4 := hid (HB3.out.trans (b4.mono HB3.out.size))
  have HOA4 := hid (own_keep HOA.out b4)
  clear sb b4 HRP HB3 HOA p0 p1 y0 y1 y2
  obtain ⟨y0, y1, y2⟩ := HN.out w4 HB4.out
  have HDR := hid (drop_any A1 l.length c1 l n0 w4 (HX.out w4 HB4.out) (by omega))
  rw [drop_has] at HDR
  go_wp2_with fail
  refine HDR.out.mono ?_
  rintro e w5 ⟨vd, rfl, od, b5⟩
  have HB5 := hid (HB4.out.trans (b5.mono HB4.out.size))
  have HOA5 := hid (own_keep HOA4.out b5)
  have HSB5 := hid (HSB.out.below b5)
  have HOD5 := hid (own_mono od HB4.out.size)
  clear od b5 HDR HB4 HOA4 HSB y0 y1 y2
  obtain ⟨y0, y1, y2⟩ := HN.out w5 HB5.out
  have HMV := hid (move_any A1 l.length c1 l n0 n1 w5 (HX.out w5 HB5.out) (by omega))
  go_wp2_with fail
  refine HMV.out.mono ?_
  rintro e w6 ⟨vm, rfl, om, b6⟩
  have HB6 := hid (HB5.out.trans (b6.mono HB5.out.size))
  have HOA6 := hid (own_keep HOA5.out b6)
  have HSB6 := hid (HSB5.out.below b6)
  have HOD6 := hid (own_keep HOD5.out b6)
  have HOM6 := hid (own_mono om HB5.out.size)
  clear om b6 HMV HB5 HOA5 HSB5 HOD5 y0 y1 y2
  have hx6 := HX.out w6 HB6.out
  rw [HLL.out, ← HLL.out, HLN.out, HLL.out] at hx6
  have HPO := hid (pop_any A1 c1 p l' w6 hx6 (by have := HLN.out; omega))
  rw [← HLN.out] at HPO
  clear hx6
  go_wp2_with fail
  refine HPO.out.mono ?_
  rintro e w7 ⟨vr, rfl, or, b7⟩
  have HB7 := hid (HB6.out.trans (b7.mono HB6.out.size))
  have HOA7 := hid (own_keep HOA6.out b7)
  have HSB7 := hid (HSB6.out.below b7)
  have HOD7 := hid (own_keep HOD6.out b7)
  have HOM7 := hid (own_keep HOM6.out b7)
  have HOR7 := hid (own_mono or HB6.out.size)
  clear or b7 HPO HB6 HOA6 HSB6 HOD6 HOM6
  go_upto_region 10 with (fail)
  refine at_world (fun w => w.heap[w7.heap.size]? = some (.cells #[.int .i64 p.1, .int .i64 p.2] 91 (0, 0)) ∧ Below w7.heap.size w7 w ∧ w7.heap.size < w.heap.size) ⟨heap_alloc_new _ _, (Below.refl _ _).alloc (Nat.le_refl _) _, by simp⟩ ?_
  rintro w8 ⟨k8, b8, z8⟩
  obtain ⟨Aa, ca, rfl, ja⟩ := Sl.of_own HOA7.out
  obtain ⟨Ad, cd, rfl, jd⟩ := Sl.of_own HOD7.out
  obtain ⟨Am, cm, rfl, jm⟩ := Sl.of_own HOM7.out
  obtain ⟨Ar, cr, rfl, jr⟩ := Sl.of_own HOR7.out
  have K8 := hid k8
  have Z8 := hid z8
  have HB8 := hid (HB7.out.trans (b8.mono HB7.out.size))
  have HOA8 := hid (own_keep HOA7.out b8)
  have HSB8 := hid (HSB7.out.below b8)
  have HOD8 := hid (own_keep HOD7.out b8)
  have HOM8 := hid (own_keep HOM7.out b8)
  have HOR8 := hid (own_keep HOR7.out b8)
  have hF := HB7.out.size
  have HF := hid hF
  have hbd : (dropJ l n0).length ≤ 100 := Nat.le_trans (dropJ_len _ _) hl
  have hba : (pushJ l n2 (n0, n1)).length ≤ 101 := by unfold pushJ; split; omega; split; omega; simp; omega
  have hml := moveJ_len l n0 n1
  have HML := hid hml
  have HDL := hid (fun (w : World) (hw : Below w1.heap.size w1 w) => rdrop_any A l.length cap l n0 w (HL.out w hw) (by omega))
  have HMV := hid (fun (w : World) (hw : Below w1.heap.size w1 w) => rmove_any A l.length cap l n0 n1 w (HL.out w hw) (by omega))
  have HHAS := hid (fun (w : World) (hw : Below w1.heap.size w1 w) => rqhas_any A l.length cap l n0 w (HL.out w hw))
  have HQH := hid (fun (w : World) (hw : Below w1.heap.size w1 w) => qhas_any A1 l.length c1 l n0 w (HX.out w hw))
  clear k8 b8 z8 ja jd jm jr HB7 HOA7 HSB7 HOD7 HOM7 HOR7 hF hml
  generalize pushE l n2 (n0, n1) = pe at *
  generalize pushJ l n2 (n0, n1) = la at *
  generalize dropJ l n0 = ld at *
  generalize hasJ l n0 = bh at *
  generalize moveJ l n0 n1 = lm at *
  have hdp : decide ((0 : Int) < (l.length : Int)) = true := decide_eq_true hpos
  have hpn : 0 < l.length := by omega
  have hdn : decide (0 < l.length) = true := decide_eq_true hpn
  have HI1 := hid (is_pair Aa Ab la.length ca la.length cb la la w8 (sl_own HOA8.out) HSB8.out (by omega) (by omega))
  rw [show (la == la) = true by simp] at HI1
  obtain ⟨y0, y1, y2⟩ := HN.out w8 HB8.out
  clear y0 y1 y2
  go_wp2_with fail
  refine HI1.out.mono ?_
  rintro e w9 ⟨rfl, q9, rfl⟩
  have b9 : Below w8.heap.size w8 (w8.drewN q9) := below_drewNQ (Below.refl _ _)
  refine at_world (fun w => Below w8.heap.size w8 w) b9 ?_
  rintro w9 b9
  have HB9 := hid (HB8.out.trans (b9.mono HB8.out.size))
  have B9 := hid b9
  clear b9 HI1 HSB8
  obtain ⟨y0, y1, y2⟩ := HN.out w9 HB9.out
  go_wp2_with fail
  refine (HDL.out w9 HB9.out).mono ?_
  rintro e w10 ⟨A10, c10, rfl, o10, b10⟩
  have HB10 := hid (HB9.out.trans (b10.mono HB9.out.size))
  have B10 := hid (B9.out.trans (b10.mono B9.out.size))
  have HI2 := hid (is_pair Ad A10 ld.length cd ld.length c10 ld ld w10 ((sl_own HOD8.out).below B10.out) (sl_own o10) (by omega) (by omega))
  rw [show (ld == ld) = true by simp] at HI2
  clear o10 b10 HDL HB9 B9 y0 y1 y2
  go_wp2_with fail
  refine HI2.out.mono ?_
  rintro e w11 ⟨rfl, q11, rfl⟩
  refine at_world (fun w => Below w10.heap.size w10 w) (below_drewNQ (Below.refl _ _)) ?_
  rintro w11 b11
  have HB11 := hid (HB10.out.trans (b11.mono HB10.out.size))
  have B11 := hid (B10.out.trans (b11.mono B10.out.size))
  clear b11 HI2 HB10 B10
  obtain ⟨y0, y1, y2⟩ := HN.out w11 HB11.out
  have hbb : (bh != bh) = false := by simp
  go_wp2_with fail
  refine (HHAS.out w11 HB11.out).mono ?_
  rintro e w12 ⟨rfl, rfl⟩
  go_wp2_with fail
  refine (HMV.out w11 HB11.out).mono ?_
  rintro e w12 ⟨A12, c12, rfl, o12, b12⟩
  have HB12 := hid (HB11.out.trans (b12.mono HB11.out.size))
  have B12 := hid (B11.out.trans (b12.mono B11.out.size))
  have HI3 := hid (is_pair Am A12 l.length cm l.length c12 lm lm w12 ((sl_own HOM8.out).below B12.out) (sl_own o12) (by omega) (by omega))
  rw [show (lm == lm) = true by simp] at HI3
  clear o12 b12 HB11 B11 y0 y1 y2
  go_wp2_with fail
  refine HI3.out.mono ?_
  rintro e w13 ⟨rfl, q13, rfl⟩
  refine at_world (fun w => Below w12.heap.size w12 w) (below_drewNQ (Below.refl _ _)) ?_
  rintro w13 b13
  have HB13 := hid (HB12.out.trans (b13.mono HB12.out.size))
  have B13 := hid (B12.out.trans (b13.mono B12.out.size))
  clear b13 HI3 HB12 B12
  go_upto_region 12 with (fail)
  have K13 := keep0 K8.out B13.out
  obtain ⟨f0, f1, f2, f3⟩ := two_cells K13
  have HSR := hid ((sl_own HOR8.out).below B13.out)
  have HL13 := hid (HL.out w13 HB13.out)
  have HO13 := hid (own_keep HOA8.out B13.out)
  have HD13 := hid (own_keep HOD8.out B13.out)
  have HM13 := hid (own_keep HOM8.out B13.out)
  have HR13 := hid (own_keep HOR8.out B13.out)
  clear K13 f2 f3 HOA8 HOD8 HOM8 HOR8 K8 B13
  have HT1 : Hid (∀ w, Below w13.heap.size w13 w → Sl w 2 A 1 cap (pcells [p])) := hid (fun w hw => by
    have h9 := (HL13.out.below hw).take 1 (by omega)
    have h8 : (pcells l).take (1 * 2) = pcells [p] := by rw [pcells_take, HLL.out]; rfl
    rw [h8] at h9
    exact h9)
  have HT2 : Hid (∀ w, Below w13.heap.size w13 w → Sl w 2 (dropA A cap 1 2) l'.length (cap - 1) (pcells l')) := hid (fun w hw => by
    have h9 := (HL13.out.below hw).drop 1 (by omega)
    have h8 : (pcells l).drop (1 * 2) = pcells l' := by rw [pcells_drop, HLL.out]; rfl
    rw [h8, show l.length - 1 = l'.length by have := HLN.out; omega] at h9
    exact h9)
  have HI4 := hid (fun (w : World) (b : Nat) (h1 : Below w13.heap.size w13 w) (h2 : Sl w 2 (some ⟨b, 0, none⟩) 1 1 (pcells [p])) => is_pair (some ⟨b, 0, none⟩) A 1 1 1 cap [p] [p] w h2 (HT1.out w h1) (by omega) (by omega))
  have HI5 := hid (fun (w : World) (h1 : Below w13.heap.size w13 w) => is_pair Ar (dropA A cap 1 2) l'.length cr l'.length (cap - 1) l' l' w (HSR.out.below h1) (HT2.out w h1) (by have := HLN.out; omega) (by have := HLN.out; omega))
  rw [show ([p] == [p]) = true by simp] at HI4
  rw [show (l' == l') = true by simp] at HI5
  have hr1 := run_to Try.underlying82 info_rplace A l.length cap 1 (by have := HL13.out.2.1; omega)
  have hr2 := run_from Try.underlying82 info_rplace A l.length cap 1 (by omega)
  rw [show l.length - 1 = l'.length by have := HLN.out; omega] at hr2
  simp only [Int.natCast_one] at hr1 hr2
  generalize dropA A cap 1 2 = A9 at *
  have hS : ∀ U, Below w13.heap.size w13 U → ((U.cell? ⟨w7.heap.size, 0, none⟩ = some (.int .i64 p.1) ∧ U.cell? ⟨w7.heap.size, 1, none⟩ = some (.int .i64 p.2)) ∧ Below w13.heap.size w13 U) := fun U hU => ⟨⟨cellb hU f0, cellb hU f1⟩, hU⟩
  go_cut [143] from 114 to 143 (fun v wx => v = .bool false ∧ Below w13.heap.size w13 wx)
  case first =>
    refine wp_region_held_drew (S := fun U => (U.cell? ⟨w7.heap.size, 0, none⟩ = some (.int .i64 p.1) ∧ U.cell? ⟨w7.heap.size, 1, none⟩ = some (.int .i64 p.2)) ∧ Below w13.heap.size w13 U) (by kernel_rfl) (hS _ (below_drew (Below.refl _ _))) (fun hHeld => ?_)
    refine wpAnyH_take (i := 0) (v := ?_) rfl (by kernel_rfl) (by kernel_rfl) (by kernel_rfl) (fun _ _ _ h => h) (Or.inl ⟨by rfl, ?_⟩) (by assumption) ?_
    rotate_left
    focus
      intro U hU
      try dsimp only at hU
      go_simp
      try (with_reducible rfl)
    simp only [List.getElem_toArray, List.getElem_cons_succ, List.getElem_cons_zero, Act.put, List.setIfInBounds_toArray, List.set_cons_zero, List.set_cons_succ]
    refine wpAnyH_take (i := 1) (v := ?_) rfl (by kernel_rfl) (by kernel_rfl) (by kernel_rfl) (fun _ _ _ h => h) (Or.inl ⟨by rfl, ?_⟩) (by assumption) ?_
    rotate_left
    focus
      intro U hU
      try dsimp only at hU
      go_simp
      try (with_reducible rfl)
    simp only [List.getElem_toArray, List.getElem_cons_succ, List.getElem_cons_zero, Act.put, List.setIfInBounds_toArray, List.set_cons_zero, List.set_cons_succ]
    refine wpAnyH_take (i := 2) (v := ?_) rfl (by kernel_rfl) (by kernel_rfl) (by kernel_rfl) (fun _ _ _ h => h) (Or.inl ⟨by rfl, ?_⟩) (by assumption) ?_
    rotate_left
    focus
      intro U hU
      try dsimp only at hU
      go_simp
      try (with_reducible rfl)
    simp only [List.getElem_toArray, List.getElem_cons_succ, List.getElem_cons_zero, Act.put, List.setIfInBounds_toArray, List.set_cons_zero, List.set_cons_succ]
    refine wpAnyH_take (i := 4) (v := ?_) rfl (by kernel_rfl) (by kernel_rfl) (by kernel_rfl) (fun _ _ _ h => h) (Or.inl ⟨by rfl, ?_⟩) (by assumption) ?_
    rotate_left
    focus
      intro U hU
      try dsimp only at hU
      go_simp
      try (with_reducible rfl)
    simp only [List.getElem_toArray, List.getElem_cons_succ, List.getElem_cons_zero, Act.put, List.setIfInBounds_toArray, List.set_cons_zero, List.set_cons_succ]
    refine wpAnyH_take (i := 5) (v := ?_) rfl (by kernel_rfl) (by kernel_rfl) (by kernel_rfl) (fun _ _ _ h => h) (Or.inl ⟨by rfl, ?_⟩) (by assumption) ?_
    rotate_left
    focus
      intro U hU
      try dsimp only at hU
      go_simp
      try (with_reducible rfl)
    simp only [List.getElem_toArray, List.getElem_cons_succ, List.getElem_cons_zero, Act.put, List.setIfInBounds_toArray, List.set_cons_zero, List.set_cons_succ]
    refine wpAnyH_ready (rs := [3]) (by kernel_rfl) (by simp) ?_
    refine AllReadyH.cons rfl (fun K hK => ?_) AllReadyH.nil
    simp only [List.getElem_toArray, List.getElem_cons_succ, List.getElem_cons_zero]
    go_simp
    refine hK.out _ _ ?_ (fun hHeld2 => ?_)
    focus
      exact hS _ (by repeat' (first | with_reducible exact Below.refl _ _ | with_reducible exact And.right (by assumption) | with_reducible assumption | with_reducible refine below_drew ?_ | with_reducible refine bel_alloc ?_ _ | with_reducible refine below_drewNQ ?_))
    clear hHeld
    have hHeld := hHeld2
    clear hHeld2 hK K
    try simp only [List.getElem_toArray, List.getElem_cons_succ, List.getElem_cons_zero, Act.put, List.setIfInBounds_toArray, List.set_cons_zero, List.set_cons_succ]
    refine wpAnyH_ready (rs := [6]) (by kernel_rfl) (by simp) ?_
    refine AllReadyH.cons rfl (fun K hK => ?_) AllReadyH.nil
    simp only [List.getElem_toArray, List.getElem_cons_succ, List.getElem_cons_zero]
    go_simp
    refine (HI4.out _ _ (by repeat' (first | with_reducible exact Below.refl _ _ | with_reducible refine below_drew ?_ | with_reducible refine bel_alloc ?_ _ | with_reducible refine below_drewNQ ?_)) (by first | exact Sl.lit _ _ 2 1 #[.int .i64 p.1, .int .i64 p.2] rfl (by unfold maxLen; omega) | exact Sl.below (Sl.lit _ _ 2 1 #[.int .i64 p.1, .int .i64 p.2] rfl (by unfold maxLen; omega)) (below_drew (Below.refl _ _)))).mono ?_
    rintro e u4 ⟨rfl, q4, rfl⟩
    go_wp2_with fail
    refine hK.out _ _ ?_ (fun hHeld2 => ?_)
    focus
      exact hS _ (by repeat' (first | with_reducible exact Below.refl _ _ | with_reducible exact And.right (by assumption) | with_reducible assumption | with_reducible refine below_drew ?_ | with_reducible refine bel_alloc ?_ _ | with_reducible refine below_drewNQ ?_))
    clear hHeld
    have hHeld := hHeld2
    clear hHeld2 hK K
    try simp only [List.getElem_toArray, List.getElem_cons_succ, List.getElem_cons_zero, Act.put, List.setIfInBounds_toArray, List.set_cons_zero, List.set_cons_succ]
    refine wpAnyH_take (i := 7) (v := ?_) rfl (by kernel_rfl) (by kernel_rfl) (by kernel_rfl) (fun _ _ _ h => h) (Or.inl ⟨by rfl, ?_⟩) (by assumption) ?_
    rotate_left
    focus
      intro U hU
      try dsimp only at hU
      go_simp
      try (with_reducible rfl)
    simp only [List.getElem_toArray, List.getElem_cons_succ, List.getElem_cons_zero, Act.put, List.setIfInBounds_toArray, List.set_cons_zero, List.set_cons_succ]
    refine wpAnyH_take (i := 8) (v := ?_) rfl (by kernel_rfl) (by kernel_rfl) (by kernel_rfl) (fun _ _ _ h => h) (Or.inl ⟨by rfl, ?_⟩) (by assumption) ?_
    rotate_left
    focus
      intro U hU
      try dsimp only at hU
      go_simp
      try (with_reducible rfl)
    simp only [List.getElem_toArray, List.getElem_cons_succ, List.getElem_cons_zero, Act.put, List.setIfInBounds_toArray, List.set_cons_zero, List.set_cons_succ]
    refine wpAnyH_take (i := 9) (v := ?_) rfl (by kernel_rfl) (by kernel_rfl) (by kernel_rfl) (fun _ _ _ h => h) (Or.inl ⟨by rfl, ?_⟩) (by assumption) ?_
    rotate_left
    focus
      intro U hU
      try dsimp only at hU
      go_simp
      try (with_reducible rfl)
    simp only [List.getElem_toArray, List.getElem_cons_succ, List.getElem_cons_zero, Act.put, List.setIfInBounds_toArray, List.set_cons_zero, List.set_cons_succ]
    refine wpAnyH_take (i := 10) (v := ?_) rfl (by kernel_rfl) (by kernel_rfl) (by kernel_rfl) (fun _ _ _ h => h) (Or.inl ⟨by rfl, ?_⟩) (by assumption) ?_
    rotate_left
    focus
      intro U hU
      try dsimp only at hU
      go_simp
      try (with_reducible rfl)
    simp only [List.getElem_toArray, List.getElem_cons_succ, List.getElem_cons_zero, Act.put, List.setIfInBounds_toArray, List.set_cons_zero, List.set_cons_succ]
    refine wpAnyH_take (i := 11) (v := ?_) rfl (by kernel_rfl) (by kernel_rfl) (by kernel_rfl) (fun _ _ _ h => h) (Or.inl ⟨by rfl, ?_⟩) (by assumption) ?_
    rotate_left
    focus
      intro U hU
      try dsimp only at hU
      go_simp
      try (with_reducible rfl)
    simp only [List.getElem_toArray, List.getElem_cons_succ, List.getElem_cons_zero, Act.put, List.setIfInBounds_toArray, List.set_cons_zero, List.set_cons_succ]
    refine wpAnyH_ready (rs := [12]) (by kernel_rfl) (by simp) ?_
    refine AllReadyH.cons rfl (fun K hK => ?_) AllReadyH.nil
    simp only [List.getElem_toArray, List.getElem_cons_succ, List.getElem_cons_zero]
    go_simp
    refine (HI5.out _ (by repeat' (first | with_reducible exact Below.refl _ _ | with_reducible refine below_drew ?_ | with_reducible refine bel_alloc ?_ _ | with_reducible refine below_drewNQ ?_))).mono ?_
    rintro e u5 ⟨rfl, q5, rfl⟩
    go_wp2_with fail
    refine hK.out _ _ ?_ (fun hHeld2 => ?_)
    focus
      exact hS _ (by repeat' (first | with_reducible exact Below.refl _ _ | with_reducible exact And.right (by assumption) | with_reducible assumption | with_reducible refine below_drew ?_ | with_reducible refine bel_alloc ?_ _ | with_reducible refine below_drewNQ ?_))
    clear hHeld
    have hHeld := hHeld2
    clear hHeld2 hK K
    try simp only [List.getElem_toArray, List.getElem_cons_succ, List.getElem_cons_zero, Act.put, List.setIfInBounds_toArray, List.set_cons_zero, List.set_cons_succ]
    refine wpAnyH_take (i := 13) (v := ?_) rfl (by kernel_rfl) (by kernel_rfl) (by kernel_rfl) (fun _ _ _ h => h) (Or.inl ⟨by rfl, ?_⟩) (by assumption) ?_
    rotate_left
    focus
      intro U hU
      try dsimp only at hU
      go_simp
      try (with_reducible rfl)
    simp only [List.getElem_toArray, List.getElem_cons_succ, List.getElem_cons_zero, Act.put, List.setIfInBounds_toArray, List.set_cons_zero, List.set_cons_succ]
    refine wpAnyH_take (i := 14) (v := ?_) rfl (by kernel_rfl) (by kernel_rfl) (by kernel_rfl) (fun _ _ _ h => h) (Or.inl ⟨by rfl, ?_⟩) (by assumption) ?_
    rotate_left
    focus
      intro U hU
      try dsimp only at hU
      go_simp
      try (with_reducible rfl)
    simp only [List.getElem_toArray, List.getElem_cons_succ, List.getElem_cons_zero, Act.put, List.setIfInBounds_toArray, List.set_cons_zero, List.set_cons_succ]
    refine wpAnyH_take (i := 15) (v := ?_) rfl (by kernel_rfl) (by kernel_rfl) (by kernel_rfl) (fun _ _ _ h => h) (Or.inl ⟨by rfl, ?_⟩) (by assumption) ?_
    rotate_left
    focus
      intro U hU
      try dsimp only at hU
      go_simp
      try (with_reducible rfl)
    simp only [List.getElem_toArray, List.getElem_cons_succ, List.getElem_cons_zero, Act.put, List.setIfInBounds_toArray, List.set_cons_zero, List.set_cons_succ]
    refine wpAnyH_take (i := 16) (v := ?_) rfl (by kernel_rfl) (by kernel_rfl) (by kernel_rfl) (fun _ _ _ h => h) (Or.inl ⟨by rfl, ?_⟩) (by assumption) ?_
    rotate_left
    focus
      intro U hU
      try dsimp only at hU
      go_simp
      try (with_reducible rfl)
    simp only [List.getElem_toArray, List.getElem_cons_succ, List.getElem_cons_zero, Act.put, List.setIfInBounds_toArray, List.set_cons_zero, List.set_cons_succ]
    refine wpAnyH_take (i := 17) (v := ?_) rfl (by kernel_rfl) (by kernel_rfl) (by kernel_rfl) (fun _ _ _ h => h) (Or.inl ⟨by rfl, ?_⟩) (by assumption) ?_
    rotate_left
    focus
      intro U hU
      try dsimp only at hU
      go_simp
      try (with_reducible rfl)
    simp only [List.getElem_toArray, List.getElem_cons_succ, List.getElem_cons_zero, Act.put, List.setIfInBounds_toArray, List.set_cons_zero, List.set_cons_succ]
    refine wpAnyH_take (i := 18) (v := ?_) rfl (by kernel_rfl) (by kernel_rfl) (by kernel_rfl) (fun _ _ _ h => h) (Or.inl ⟨by rfl, ?_⟩) (by assumption) ?_
    rotate_left
    focus
      intro U hU
      try dsimp only at hU
      go_simp
      try (with_reducible rfl)
    simp only [List.getElem_toArray, List.getElem_cons_succ, List.getElem_cons_zero, Act.put, List.setIfInBounds_toArray, List.set_cons_zero, List.set_cons_succ]
    refine wpAnyH_take (i := 19) (v := ?_) rfl (by kernel_rfl) (by kernel_rfl) (by kernel_rfl) (fun _ _ _ h => h) (Or.inl ⟨by rfl, ?_⟩) (by assumption) ?_
    rotate_left
    focus
      intro U hU
      try dsimp only at hU
      go_simp
      try (with_reducible rfl)
    simp only [List.getElem_toArray, List.getElem_cons_succ, List.getElem_cons_zero, Act.put, List.setIfInBounds_toArray, List.set_cons_zero, List.set_cons_succ]
    refine wpAnyH_take (i := 20) (v := undef) rfl (by kernel_rfl) (by kernel_rfl) (by kernel_rfl) (fun _ _ _ h => h) (Or.inr ⟨by rfl, rfl⟩) (by assumption) ?_
    simp only [List.getElem_toArray, List.getElem_cons_succ, List.getElem_cons_zero, Act.put, List.setIfInBounds_toArray, List.set_cons_zero, List.set_cons_succ]
    refine wpAnyH_take (i := 21) (v := undef) rfl (by kernel_rfl) (by kernel_rfl) (by kernel_rfl) (fun _ _ _ h => h) (Or.inr ⟨by rfl, rfl⟩) (by assumption) ?_
    simp only [List.getElem_toArray, List.getElem_cons_succ, List.getElem_cons_zero, Act.put, List.setIfInBounds_toArray, List.set_cons_zero, List.set_cons_succ]
    refine wpAnyH_take (i := 22) (v := undef) rfl (by kernel_rfl) (by kernel_rfl) (by kernel_rfl) (fun _ _ _ h => h) (Or.inr ⟨by rfl, rfl⟩) (by assumption) ?_
    simp only [List.getElem_toArray, List.getElem_cons_succ, List.getElem_cons_zero, Act.put, List.setIfInBounds_toArray, List.set_cons_zero, List.set_cons_succ]
    refine wpAnyH_take (i := 23) (v := undef) rfl (by kernel_rfl) (by kernel_rfl) (by kernel_rfl) (fun _ _ _ h => h) (Or.inr ⟨by rfl, rfl⟩) (by assumption) ?_
    simp only [List.getElem_toArray, List.getElem_cons_succ, List.getElem_cons_zero, Act.put, List.setIfInBounds_toArray, List.set_cons_zero, List.set_cons_succ]
    refine wpAnyH_take (i := 24) (v := undef) rfl (by kernel_rfl) (by kernel_rfl) (by kernel_rfl) (fun _ _ _ h => h) (Or.inr ⟨by rfl, rfl⟩) (by assumption) ?_
    simp only [List.getElem_toArray, List.getElem_cons_succ, List.getElem_cons_zero, Act.put, List.setIfInBounds_toArray, List.set_cons_zero, List.set_cons_succ]
    refine wpAnyH_take (i := 25) (v := undef) rfl (by kernel_rfl) (by kernel_rfl) (by kernel_rfl) (fun _ _ _ h => h) (Or.inr ⟨by rfl, rfl⟩) (by assumption) ?_
    simp only [List.getElem_toArray, List.getElem_cons_succ, List.getElem_cons_zero, Act.put, List.setIfInBounds_toArray, List.set_cons_zero, List.set_cons_succ]
    refine wpAnyH_take (i := 26) (v := undef) rfl (by kernel_rfl) (by kernel_rfl) (by kernel_rfl) (fun _ _ _ h => h) (Or.inr ⟨by rfl, rfl⟩) (by assumption) ?_
    simp only [List.getElem_toArray, List.getElem_cons_succ, List.getElem_cons_zero, Act.put, List.setIfInBounds_toArray, List.set_cons_zero, List.set_cons_succ]
    refine wpAnyH_take (i := 27) (v := undef) rfl (by kernel_rfl) (by kernel_rfl) (by kernel_rfl) (fun _ _ _ h => h) (Or.inr ⟨by rfl, rfl⟩) (by assumption) ?_
    simp only [List.getElem_toArray, List.getElem_cons_succ, List.getElem_cons_zero, Act.put, List.setIfInBounds_toArray, List.set_cons_zero, List.set_cons_succ]
    refine wpAnyH_take (i := 28) (v := ?_) rfl (by kernel_rfl) (by kernel_rfl) (by kernel_rfl) (fun _ _ _ h => h) (Or.inl ⟨by rfl, ?_⟩) (by assumption) ?_
    rotate_left
    focus
      intro U hU
      try dsimp only at hU
      go_simp
      try (with_reducible rfl)
    simp only [List.getElem_toArray, List.getElem_cons_succ, List.getElem_cons_zero, Act.put, List.setIfInBounds_toArray, List.set_cons_zero, List.set_cons_succ]
    refine wpAnyH_take (i := 29) (v := ?_) rfl (by kernel_rfl) (by kernel_rfl) (by kernel_rfl) (fun _ _ _ h => h) (Or.inl ⟨by rfl, ?_⟩) (by assumption) ?_
    rotate_left
    focus
      intro U hU
      try dsimp only at hU
      go_simp
      try (with_reducible rfl)
    simp only [List.getElem_toArray, List.getElem_cons_succ, List.getElem_cons_zero, Act.put, List.setIfInBounds_toArray, List.set_cons_zero, List.set_cons_succ]
    refine wpAnyH_done (by kernel_rfl) ?_ _
    go_wp2_with fail
    go_meet
    exact ⟨rfl, And.right (by assumption)⟩
  case rest =>
    obtain ⟨rfl, b14⟩ := hcut
    obtain ⟨w14, rfl⟩ : ∃ w, w = wc := ⟨_, rfl⟩
    have HB14 := hid (HB13.out.trans (b14.mono HB13.out.size))
    have HO14 := hid (own_keep HO13.out b14)
    have HD14 := hid (own_keep HD13.out b14)
    have HM14 := hid (own_keep HM13.out b14)
    have HR14 := hid (own_keep HR13.out b14)
    clear b14 HB13 HO13 HD13 HM13 HR13 HI4 HI5 HT1 HT2 hr1 hr2 hS f0 f1
    obtain ⟨y0, y1, y2⟩ := HN.out w14 HB14.out
    clear y2
    have hS4 : ∀ U, Below w14.heap.size w14 U → ((U.cell? ⟨W.heap.size, 0, none⟩ = some (.int .i64 n0) ∧ U.cell? ⟨W.heap.size, 1, none⟩ = some (.int .i64 n1)) ∧ Below w14.heap.size w14 U) := fun U hU => ⟨⟨cellb hU y0, cellb hU y1⟩, hU⟩
    go_upto_region 14 with (fail)
    go_cut [166] from 144 to 166 (fun v wx => v = .bool false ∧ Below w14.heap.size w14 wx)
    case first =>
      refine wp_region_held_drew (S := fun U => (U.cell? ⟨W.heap.size, 0, none⟩ = some (.int .i64 n0) ∧ U.cell? ⟨W.heap.size, 1, none⟩ = some (.int .i64 n1)) ∧ Below w14.heap.size w14 U) (by kernel_rfl) (hS4 _ (below_drew (Below.refl _ _))) (fun hHeld => ?_)
      have hbb : (bh != bh) = false := by simp
      have hrr : ((l == lm) != (l == lm)) = false := by simp
      refine wpAnyH_take (i := 0) (v := ?_) rfl (by kernel_rfl) (by kernel_rfl) (by kernel_rfl) (fun _ _ _ h => h) (Or.inl ⟨by rfl, ?_⟩) (by assumption) ?_
      rotate_left
      focus
        intro U hU
        try dsimp only at hU
        go_simp
        try (with_reducible rfl)
      simp only [List.getElem_toArray, List.getElem_cons_succ, List.getElem_cons_zero, Act.put, List.setIfInBounds_toArray, List.set_cons_zero, List.set_cons_succ]
      refine wpAnyH_take (i := 1) (v := ?_) rfl (by kernel_rfl) (by kernel_rfl) (by kernel_rfl) (fun _ _ _ h => h) (Or.inl ⟨by rfl, ?_⟩) (by assumption) ?_
      rotate_left
      focus
        intro U hU
        try dsimp only at hU
        go_simp
        try (with_reducible rfl)
      simp only [List.getElem_toArray, List.getElem_cons_succ, List.getElem_cons_zero, Act.put, List.setIfInBounds_toArray, List.set_cons_zero, List.set_cons_succ]
      refine wpAnyH_take (i := 2) (v := ?_) rfl (by kernel_rfl) (by kernel_rfl) (by kernel_rfl) (fun _ _ _ h => h) (Or.inl ⟨by rfl, ?_⟩) (by assumption) ?_
      rotate_left
      focus
        intro U hU
        try dsimp only at hU
        go_simp
        try (with_reducible rfl)
      simp only [List.getElem_toArray, List.getElem_cons_succ, List.getElem_cons_zero, Act.put, List.setIfInBounds_toArray, List.set_cons_zero, List.set_cons_succ]
      refine wpAnyH_take (i := 4) (v := ?_) rfl (by kernel_rfl) (by kernel_rfl) (by kernel_rfl) (fun _ _ _ h => h) (Or.inl ⟨by rfl, ?_⟩) (by assumption) ?_
      rotate_left
      focus
        intro U hU
        try dsimp only at hU
        go_simp
        try (with_reducible rfl)
      simp only [List.getElem_toArray, List.getElem_cons_succ, List.getElem_cons_zero, Act.put, List.setIfInBounds_toArray, List.set_cons_zero, List.set_cons_succ]
      refine wpAnyH_take (i := 5) (v := ?_) rfl (by kernel_rfl) (by kernel_rfl) (by kernel_rfl) (fun _ _ _ h => h) (Or.inl ⟨by rfl, ?_⟩) (by assumption) ?_
      rotate_left
      focus
        intro U hU
        try dsimp only at hU
        go_simp
        try (with_reducible rfl)
      simp only [List.getElem_toArray, List.getElem_cons_succ, List.getElem_cons_zero, Act.put, List.setIfInBounds_toArray, List.set_cons_zero, List.set_cons_succ]
      refine wpAnyH_take (i := 6) (v := ?_) rfl (by kernel_rfl) (by kernel_rfl) (by kernel_rfl) (fun _ _ _ h => h) (Or.inl ⟨by rfl, ?_⟩) (by assumption) ?_
      rotate_left
      focus
        intro U hU
        try dsimp only at hU
        go_simp
        try (with_reducible rfl)
      simp only [List.getElem_toArray, List.getElem_cons_succ, List.getElem_cons_zero, Act.put, List.setIfInBounds_toArray, List.set_cons_zero, List.set_cons_succ]
      refine wpAnyH_ready (rs := [3]) (by kernel_rfl) (by simp) ?_
      refine AllReadyH.cons rfl (fun K hK => ?_) AllReadyH.nil
      simp only [List.getElem_toArray, List.getElem_cons_succ, List.getElem_cons_zero]
      go_simp
      refine (HQH.out _ (HB14.out.trans ((show Below w14.heap.size w14 _ from (by repeat' (first | with_reducible exact Below.refl _ _ | with_reducible exact And.right (by assumption) | with_reducible assumption | with_reducible refine below_drew ?_ | with_reducible refine bel_alloc ?_ _ | with_reducible refine below_drewNQ ?_ | with_reducible refine bel_trans ?_ (by assumption)))).mono HB14.out.size))).mono ?_
      rintro e u4 ⟨rfl, g4⟩
      have hg4 : Below w14.heap.size w14 u4 := bel_trans (by repeat' (first | with_reducible exact Below.refl _ _ | with_reducible exact And.right (by assumption) | with_reducible assumption | with_reducible refine below_drew ?_ | with_reducible refine bel_alloc ?_ _ | with_reducible refine below_drewNQ ?_ | with_reducible refine bel_trans ?_ (by assumption))) g4
      go_wp2_with fail
      refine hK.out _ _ ?_ (fun hHeld2 => ?_)
      focus
        exact hS4 _ (by repeat' (first | with_reducible exact Below.refl _ _ | with_reducible exact And.right (by assumption) | with_reducible assumption | with_reducible refine below_drew ?_ | with_reducible refine bel_alloc ?_ _ | with_reducible refine below_drewNQ ?_ | with_reducible refine bel_trans ?_ (by assumption)))
      clear hHeld
      have hHeld := hHeld2
      clear hHeld2 hK K
      try simp only [List.getElem_toArray, List.getElem_cons_succ, List.getElem_cons_zero, Act.put, List.setIfInBounds_toArray, List.set_cons_zero, List.set_cons_succ]
      refine wpAnyH_ready (rs := [7]) (by kernel_rfl) (by simp) ?_
      refine AllReadyH.cons rfl (fun K hK => ?_) AllReadyH.nil
      simp only [List.getElem_toArray, List.getElem_cons_succ, List.getElem_cons_zero]
      go_simp
      refine (HHAS.out _ (HB14.out.trans ((show Below w14.heap.size w14 _ from (by repeat' (first | with_reducible exact Below.refl _ _ | with_reducible exact And.right (by assumption) | with_reducible assumption | with_reducible refine below_drew ?_ | with_reducible refine bel_alloc ?_ _ | with_reducible refine below_drewNQ ?_ | with_reducible refine bel_trans ?_ (by assumption)))).mono HB14.out.size))).mono ?_
      rintro e u5 ⟨rfl, rfl⟩
      go_wp2_with fail
      refine hK.out _ _ ?_ (fun hHeld2 => ?_)
      focus
        exact hS4 _ (by repeat' (first | with_reducible exact Below.refl _ _ | with_reducible exact And.right (by assumption) | with_reducible assumption | with_reducible refine below_drew ?_ | with_reducible refine bel_alloc ?_ _ | with_reducible refine below_drewNQ ?_ | with_reducible refine bel_trans ?_ (by assumption)))
      clear hHeld
      have hHeld := hHeld2
      clear hHeld2 hK K
      try simp only [List.getElem_toArray, List.getElem_cons_succ, List.getElem_cons_zero, Act.put, List.setIfInBounds_toArray, List.set_cons_zero, List.set_cons_succ]
      refine wpAnyH_take (i := 8) (v := ?_) rfl (by kernel_rfl) (by kernel_rfl) (by kernel_rfl) (fun _ _ _ h => h) (Or.inl ⟨by rfl, ?_⟩) (by assumption) ?_
      rotate_left
      focus
        intro U hU
        try dsimp only at hU
        go_simp
        try (with_reducible rfl)
      simp only [List.getElem_toArray, List.getElem_cons_succ, List.getElem_cons_zero, Act.put, List.setIfInBounds_toArray, List.set_cons_zero, List.set_cons_succ]
      refine wpAnyH_take (i := 9) (v := ?_) rfl (by kernel_rfl) (by kernel_rfl) (by kernel_rfl) (fun _ _ _ h => h) (Or.inl ⟨by rfl, ?_⟩) (by assumption) ?_
      rotate_left
      focus
        intro U hU
        try dsimp only at hU
        go_simp
        try (with_reducible rfl)
      simp only [List.getElem_toArray, List.getElem_cons_succ, List.getElem_cons_zero, Act.put, List.setIfInBounds_toArray, List.set_cons_zero, List.set_cons_succ]
      refine wpAnyH_take (i := 10) (v := ?_) rfl (by kernel_rfl) (by kernel_rfl) (by kernel_rfl) (fun _ _ _ h => h) (Or.inl ⟨by rfl, ?_⟩) (by assumption) ?_
      rotate_left
      focus
        intro U hU
        try dsimp only at hU
        go_simp
        try (with_reducible rfl)
      simp only [List.getElem_toArray, List.getElem_cons_succ, List.getElem_cons_zero, Act.put, List.setIfInBounds_toArray, List.set_cons_zero, List.set_cons_succ]
      refine wpAnyH_take (i := 11) (v := ?_) rfl (by kernel_rfl) (by kernel_rfl) (by kernel_rfl) (fun _ _ _ h => h) (Or.inl ⟨by rfl, ?_⟩) (by assumption) ?_
      rotate_left
      focus
        intro U hU
        try dsimp only at hU
        go_simp
        try (with_reducible rfl)
      simp only [List.getElem_toArray, List.getElem_cons_succ, List.getElem_cons_zero, Act.put, List.setIfInBounds_toArray, List.set_cons_zero, List.set_cons_succ]
      refine wpAnyH_take (i := 13) (v := ?_) rfl (by kernel_rfl) (by kernel_rfl) (by kernel_rfl) (fun _ _ _ h => h) (Or.inl ⟨by rfl, ?_⟩) (by assumption) ?_
      rotate_left
      focus
        intro U hU
        try dsimp only at hU
        go_simp
        try (with_reducible rfl)
      simp only [List.getElem_toArray, List.getElem_cons_succ, List.getElem_cons_zero, Act.put, List.setIfInBounds_toArray, List.set_cons_zero, List.set_cons_succ]
      refine wpAnyH_take (i := 14) (v := ?_) rfl (by kernel_rfl) (by kernel_rfl) (by kernel_rfl) (fun _ _ _ h => h) (Or.inl ⟨by rfl, ?_⟩) (by assumption) ?_
      rotate_left
      focus
        intro U hU
        try dsimp only at hU
        go_simp
        try (with_reducible rfl)
      simp only [List.getElem_toArray, List.getElem_cons_succ, List.getElem_cons_zero, Act.put, List.setIfInBounds_toArray, List.set_cons_zero, List.set_cons_succ]
      refine wpAnyH_take (i := 15) (v := ?_) rfl (by kernel_rfl) (by kernel_rfl) (by kernel_rfl) (fun _ _ _ h => h) (Or.inl ⟨by rfl, ?_⟩) (by assumption) ?_
      rotate_left
      focus
        intro U hU
        try dsimp only at hU
        go_simp
        try (with_reducible rfl)
      simp only [List.getElem_toArray, List.getElem_cons_succ, List.getElem_cons_zero, Act.put, List.setIfInBounds_toArray, List.set_cons_zero, List.set_cons_succ]
      refine wpAnyH_take (i := 16) (v := ?_) rfl (by kernel_rfl) (by kernel_rfl) (by kernel_rfl) (fun _ _ _ h => h) (Or.inl ⟨by rfl, ?_⟩) (by assumption) ?_
      rotate_left
      focus
        intro U hU
        try dsimp only at hU
        go_simp
        try (with_reducible rfl)
      simp only [List.getElem_toArray, List.getElem_cons_succ, List.getElem_cons_zero, Act.put, List.setIfInBounds_toArray, List.set_cons_zero, List.set_cons_succ]
      refine wpAnyH_take (i := 17) (v := ?_) rfl (by kernel_rfl) (by kernel_rfl) (by kernel_rfl) (fun _ _ _ h => h) (Or.inl ⟨by rfl, ?_⟩) (by assumption) ?_
      rotate_left
      focus
        intro U hU
        try dsimp only at hU
        go_simp
        try (with_reducible rfl)
      simp only [List.getElem_toArray, List.getElem_cons_succ, List.getElem_cons_zero, Act.put, List.setIfInBounds_toArray, List.set_cons_zero, List.set_cons_succ]
      refine wpAnyH_take (i := 18) (v := ?_) rfl (by kernel_rfl) (by kernel_rfl) (by kernel_rfl) (fun _ _ _ h => h) (Or.inl ⟨by rfl, ?_⟩) (by assumption) ?_
      rotate_left
      focus
        intro U hU
        try dsimp only at hU
        go_simp
        try (with_reducible rfl)
      simp only [List.getElem_toArray, List.getElem_cons_succ, List.getElem_cons_zero, Act.put, List.setIfInBounds_toArray, List.set_cons_zero, List.set_cons_succ]
      refine wpAnyH_ready (rs := [12]) (by kernel_rfl) (by simp) ?_
      refine AllReadyH.cons rfl (fun K hK => ?_) AllReadyH.nil
      simp only [List.getElem_toArray, List.getElem_cons_succ, List.getElem_cons_zero]
      go_simp
      have hb8 := And.right hHeld
      refine (qsame_any A1 Am l.length c1 l.length cm l lm _ (HX.out _ (HB14.out.trans (hb8.mono HB14.out.size))) ((sl_own HM14.out).below hb8) (by omega) (by omega)).mono ?_
      rintro e u6 ⟨rfl, q6, rfl⟩
      go_wp2_with fail
      refine hK.out _ _ ?_ (fun hHeld2 => ?_)
      focus
        exact hS4 _ (by repeat' (first | with_reducible exact Below.refl _ _ | with_reducible exact And.right (by assumption) | with_reducible assumption | with_reducible refine below_drew ?_ | with_reducible refine bel_alloc ?_ _ | with_reducible refine below_drewNQ ?_ | with_reducible refine bel_trans ?_ (by assumption)))
      clear hHeld
      have hHeld := hHeld2
      clear hHeld2 hK K
      try simp only [List.getElem_toArray, List.getElem_cons_succ, List.getElem_cons_zero, Act.put, List.setIfInBounds_toArray, List.set_cons_zero, List.set_cons_succ]
      refine wpAnyH_ready (rs := [19]) (by kernel_rfl) (by simp) ?_
      refine AllReadyH.cons rfl (fun K hK => ?_) AllReadyH.nil
      simp only [List.getElem_toArray, List.getElem_cons_succ, List.getElem_cons_zero]
      go_simp
      have hb9 := And.right hHeld
      refine (HMV.out _ (HB14.out.trans (hb9.mono HB14.out.size))).mono ?_
      rintro e u7 ⟨A7, c7, rfl, o7, g7⟩
      have hg7 : Below w14.heap.size w14 u7 := bel_trans hb9 g7
      go_wp2_with fail
      refine hK.out _ _ ?_ (fun hHeld2 => ?_)
      focus
        exact hS4 _ (by repeat' (first | with_reducible exact Below.refl _ _ | with_reducible exact And.right (by assumption) | with_reducible assumption | with_reducible refine below_drew ?_ | with_reducible refine bel_alloc ?_ _ | with_reducible refine below_drewNQ ?_ | with_reducible refine bel_trans ?_ (by assumption)))
      clear hHeld
      have hHeld := hHeld2
      clear hHeld2 hK K
      try simp only [List.getElem_toArray, List.getElem_cons_succ, List.getElem_cons_zero, Act.put, List.setIfInBounds_toArray, List.set_cons_zero, List.set_cons_succ]
      refine wpAnyH_ready (rs := [20]) (by kernel_rfl) (by simp) ?_
      refine AllReadyH.cons rfl (fun K hK => ?_) AllReadyH.nil
      simp only [List.getElem_toArray, List.getElem_cons_succ, List.getElem_cons_zero]
      go_simp
      refine (rsame_pair A A7 l.length cap l.length c7 l lm u7 (HL.out _ (HB14.out.trans (hg7.mono HB14.out.size))) (sl_own o7) (by omega) (by omega)).mono ?_
      rintro e u8 ⟨rfl, q8, rfl⟩
      go_wp2_with fail
      refine hK.out _ _ ?_ (fun hHeld2 => ?_)
      focus
        exact hS4 _ (by repeat' (first | with_reducible exact Below.refl _ _ | with_reducible exact And.right (by assumption) | with_reducible assumption | with_reducible refine below_drew ?_ | with_reducible refine bel_alloc ?_ _ | with_reducible refine below_drewNQ ?_ | with_reducible refine bel_trans ?_ (by assumption)))
      clear hHeld
      have hHeld := hHeld2
      clear hHeld2 hK K
      try simp only [List.getElem_toArray, List.getElem_cons_succ, List.getElem_cons_zero, Act.put, List.setIfInBounds_toArray, List.set_cons_zero, List.set_cons_succ]
      refine wpAnyH_take (i := 21) (v := ?_) rfl (by kernel_rfl) (by kernel_rfl) (by kernel_rfl) (fun _ _ _ h => h) (Or.inl ⟨by rfl, ?_⟩) (by assumption) ?_
      rotate_left
      focus
        intro U hU
        try dsimp only at hU
        go_simp
        try (with_reducible rfl)
      simp only [List.getElem_toArray, List.getElem_cons_succ, List.getElem_cons_zero, Act.put, List.setIfInBounds_toArray, List.set_cons_zero, List.set_cons_succ]
      refine wpAnyH_take (i := 22) (v := ?_) rfl (by kernel_rfl) (by kernel_rfl) (by kernel_rfl) (fun _ _ _ h => h) (Or.inl ⟨by rfl, ?_⟩) (by assumption) ?_
      rotate_left
      focus
        intro U hU
        try dsimp only at hU
        go_simp
        try (with_reducible rfl)
      simp only [List.getElem_toArray, List.getElem_cons_succ, List.getElem_cons_zero, Act.put, List.setIfInBounds_toArray, List.set_cons_zero, List.set_cons_succ]
      refine wpAnyH_done (by kernel_rfl) ?_ _
      go_wp2_with fail
      go_meet
      exact ⟨rfl, And.right (by assumption)⟩
    case rest =>
      obtain ⟨rfl, b15⟩ := hcut
      obtain ⟨w15, rfl⟩ : ∃ w, w = wc := ⟨_, rfl⟩
      have HB15 := hid (HB14.out.trans (b15.mono HB14.out.size))
      have HO15 := hid (own_keep HO14.out b15)
      have HD15 := hid (own_keep HD14.out b15)
      have HM15 := hid (own_keep HM14.out b15)
      have HR15 := hid (own_keep HR14.out b15)
      clear b15 HB14 HO14 HD14 HM14 HR14 hS4 y0 y1 HMV HHAS HQH HN
      obtain ⟨rA, hrA⟩ : ∃ f : Nat → Option Addr, f = fun k => if k = 0 then Aa else if k = 1 then Ad else if k = 2 then Am else Ar := ⟨_, rfl⟩
      obtain ⟨rn, hrn⟩ : ∃ f : Nat → Nat, f = fun k => if k = 0 then la.length else if k = 1 then ld.length else if k = 2 then l.length else l'.length := ⟨_, rfl⟩
      obtain ⟨rc, hrc⟩ : ∃ f : Nat → Nat, f = fun k => if k = 0 then ca else if k = 1 then cd else if k = 2 then cm else cr := ⟨_, rfl⟩
      have hrb : ∀ k, k < 4 → rn k ≤ 101 := fun k hk => by rw [hrn]; dsimp only; have := HLN.out; split <;> (try split) <;> (try split) <;> omega
      have HRB := hid hrb
      have HR16 : Hid (R29 w1.heap.size w15.heap.size 91 w1 rA rn rc (w15.alloc (.cells #[.slice Aa la.length ca, .slice Ad ld.length cd, .slice Am l.length cm, .slice Ar l'.length cr] 84))) := hid (by
        have ho := heap_alloc_new w15 (.cells #[.slice Aa la.length ca, .slice Ad ld.length cd, .slice Am l.length cm, .slice Ar l'.length cr] 84)
        have hk : ∀ g, g < w15.heap.size → (w15.alloc (.cells #[.slice Aa la.length ca, .slice Ad ld.length cd, .slice Am l.length cm, .slice Ar l'.length cr] 84)).heap[g]? = w15.heap[g]? := fun g hg => Below.heap_alloc _ _ _ hg
        refine ⟨HB15.out.alloc HB15.out.size _, fun k hk4 => ?_, fun k hk4 => ?_⟩
        · rw [cell_of_row _ _ k _ _ _ ho, hrA, hrn, hrc]
          match k, hk4 with
          | 0, _ => rfl
          | 1, _ => rfl
          | 2, _ => rfl
          | 3, _ => rfl
        · rw [hrA, hrn]
          match k, hk4 with
          | 0, _ => exact (Stor.of_own HO15.out).keep hk
          | 1, _ => exact (Stor.of_own HD15.out).keep hk
          | 2, _ => exact (Stor.of_own HM15.out).keep hk
          | 3, _ => exact (Stor.of_own HR15.out).keep hk)
      have HYL : Hid (w15.heap.size = w15.heap.size) := hid rfl
      clear hrA hrn hrc hrb HO15 HD15 HM15 HR15 HB15
      go_wp2
      go_loopw [18, 19, 173] (fun y i kk wr => ∃ k : Nat, k ≤ 4 ∧ kk = .int .i64 (k : Int) ∧ Hid (R29 w1.heap.size w15.heap.size 91 w1 rA rn rc wr)) (fun _ _ kk _ => 4 - (intOf kk).toNat)
      case atStart => exact ⟨0, by omega, rfl, HR16.out⟩
      case round =>
        obtain ⟨k, hk, rfl, HR⟩ := hrel
        by_cases hlt : k < 4
        · have hlt2 : (k : Int) < 4 := by omega
          have yk := HR.out.y k hlt
          have hrk := HRB.out k hlt
          have HSK := hid (fun w (hw : R29 w1.heap.size w15.heap.size 91 w1 rA rn rc w) => hw.s k hlt)
          generalize rA k = Ak at yk HSK
          generalize hnk : rn k = nk at yk HSK hrk
          generalize rc k = ck at yk
          clear hnk
          have hrk2 : (nk : Int) ≤ 101 := by omega
          go_wp2
          go_loopw [19] (fun i wr => ∃ j : Nat, j ≤ nk ∧ i = .int .i64 (j : Int) ∧ Hid (R29 w1.heap.size w15.heap.size 91 w1 rA rn rc wr)) (fun i _ => nk - (intOf i).toNat)
          case atStart => exact ⟨0, by omega, rfl, HR.out⟩
          case round =>
            obtain ⟨j, hj, rfl, HR2⟩ := hrel
            by_cases hlj : j < nk
            · have hlj2 : (j : Int) < (nk : Int) := by omega
              obtain ⟨g, v, rfl, hg1, hg2, hv, hf⟩ := (HSK.out _ HR2.out).cell j hlj
              have HR3 := hid (fun o u => HR2.out.store g o u hg1 hg2)
              have HGG := hid (And.intro hg1 hg2)
              clear hg1 hg2
              go_wp2
              go_roundw
              case rel => exact ⟨j + 1, by omega, by go_num, HR3.out _ _⟩
              case measure => simp [intOf]; omega
            · have hge : ¬ (j : Int) < (nk : Int) := by omega
              go_wp2
              go_roundw
              case rel => exact ⟨k + 1, by omega, by go_num, HR2.out⟩
              case measure => simp [intOf]; omega
        · have hge : ¬ (k : Int) < 4 := by omega
          have HIX := hid (is_pair A1 A l.length c1 l.length cap l l wr (HX.out _ HR.out.b) (HL.out _ HR.out.b) (by omega) (by omega))
          rw [show (l == l) = true by simp] at HIX
          go_wp2_with fail
          refine HIX.out.mono ?_
          rintro e w17 ⟨rfl, q17, rfl⟩
          have HBF := hid (HBW.out _ (below_drewNQ (k := q17) HR.out.b))
          clear HIX
          go_wp2_with fail
          refine (works29_any _).mono ?_
          rintro e w18 ⟨rfl, b18⟩
          go_wp2
          go_ret
          exact ⟨rfl, HBF.out.trans (b18.mono HBF.out.size)⟩
end Go.Proofs.Ytadjmgmdnekllaa
