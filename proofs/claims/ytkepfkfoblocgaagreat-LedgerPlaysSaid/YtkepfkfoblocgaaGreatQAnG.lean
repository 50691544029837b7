/- The document's annal: Open, Append: contracts. -/
import Derived.Test.YtkepfkfoblocgaaGreatGaP
import Derived.Test.YtkepfkfoblocgaaGreatAnP
import Derived.Test.YtkepfkfoblocgaaGreatQDskR
import Derived.Test.YtkepfkfoblocgaaGreatQScnI
import Derived.Test.YtkepfkfoblocgaaGreatQRecI
import Derived.Deep.RegionHeld3
namespace Go.Proofs.YtkepfkfoblocgaaGreat
open Go.RowKit Go.Sort
set_option linter.unusedVariables false
set_option linter.unusedSimpArgs false

/-- Rows of records whose texts are the call's own, or came in. -/
def RowX (W0 w : World) (b : Nat) (v : Value) (els : List El) : Prop := w.ownsRow b 46 7 v els.length (ecells els) ∧ ∀ e ∈ els, OwnS w b e.2.1 e.2.2 e.1.ns ∨ TxAt W0 e.2.1 e.2.2 e.1.ns
theorem RowX.inR {W0 w : World} {b : Nat} {A : Option Addr} {c : Nat} {els : List El} (h : RowX W0 w b (.slice A els.length c) els) (hb : Below W0.heap.size W0 w) : InR w A c els :=
  ⟨sl_own h.1, fun e he => (h.2 e he).elim (fun h9 => h9.tx) (fun h9 => h9.below hb)⟩
theorem RowX.keep {W0 w w' : World} {b : Nat} {v : Value} {els : List El} (h : RowX W0 w b v els) (hb : Below w.heap.size w w') : RowX W0 w' b v els := ⟨own_keep h.1 hb, fun e he => (h.2 e he).imp (fun h9 => ⟨own_keep h9.1 hb, h9.2⟩) id⟩
/-- A row stays where its block is not touched, nor any of texts. -/
theorem RowX.tch {W0 w w' : World} {S : Nat → Prop} {b : Nat} {v : Value} {els : List El} (h : RowX W0 w b v els) (ht : Tch S w w') (hA : ∀ g, v.ownBlock = some g → ¬ S g) (hs : ∀ g, S g → ∀ cs t fr, w.heap[g]? = some (.cells cs t fr) → t ≠ 9) : RowX W0 w' b v els :=
  ⟨ht.own h.1 hA, fun e he => (h.2 e he).imp (fun h9 => ⟨ht.own h9.1 fun g hg hS => by
    obtain ⟨_, _, cur, hc⟩ := own_lt h9.1 g hg
    exact hs g hS _ _ _ hc rfl, h9.2⟩) id⟩
/-- Block G is an annal of the document's disk M. -/
def RnAt (W0 w : World) (b G M room : Nat) (l : List UInt8) (fu : Int) (A : Option Addr) (c : Nat) (els : List El) (down : Bool) : Prop :=
  w.heap[G]? = some (.cells #[.pointer (some ⟨M, 0, none⟩), .slice A els.length c, .bool down] 69 (0, 0)) ∧ RkAt w M room l fu ∧ RowX W0 w b (.slice A els.length c) els
theorem RnAt.keep {W0 w w' : World} {b G M room : Nat} {l : List UInt8} {fu : Int} {A : Option Addr} {c : Nat} {els : List El} {down : Bool} (h : RnAt W0 w b G M room l fu A c els down) (hb : Below w.heap.size w w') : RnAt W0 w' b G M room l fu A c els down := ⟨keep0 h.1 hb, keep0 h.2.1 hb, h.2.2.keep hb⟩
def RopR (W0 W : World) (M room : Nat) (l : List UInt8) (fu : Int) (e : Ending) (w' : World) : Prop :=
  ∃ G A c els, e = .returned (.pointer (some ⟨G, 0, none⟩)) ∧ els.map (·.1) = (recS l).1 ∧ RnAt W0 w' W.heap.size G M room (l.take (recS l).2) fu A c els false ∧ W.heap.size ≤ G ∧ Only M W w'
theorem rk_ty {w : World} {M room : Nat} {l : List UInt8} {fu : Int} (h : RkAt w M room l fu) : ∀ g, g = M → ∀ cs t fr, w.heap[g]? = some (.cells cs t fr) → t = 28 := by
  rintro g rfl cs t fr hc
  rw [h] at hc
  injection hc with hc
  injection hc with _ h2
  exact h2.symm
set_option maxRecDepth 20000 in
set_option maxHeartbeats 4000000 in
theorem r19open_any {M room : Nat} {l : List UInt8} {fu : Int} (W0 W : World) (h : RkAt W M room l fu) (hl : l.length ≤ 100000) :
    Calls Tryz.prog 33 #[.pointer (some ⟨M, 0, none⟩)] W (RopR W0 W M room l fu) := by
  obtain ⟨⟨p0, p1, p2⟩, f0, f1, f2⟩ := three_cells h
  have HR := hid (r18records_any l W hl)
  have HM := hid h
  have HCU := hid (fun w (hk : RkAt w M room l fu) => rdcut_any M room l fu ((recS l).2 : Int) w hk hl)
  rw [cutL_rec] at HCU
  clear h
  go_enter Tryz.func33, Tryz.ntmps33
  go_wp2_with fail
  refine HR.out.mono ?_
  rintro e w2 ⟨v, els, rfl, he, hr, hb⟩
  obtain ⟨A2, c2, rfl, _⟩ := Sl.of_own hr.1
  have HE := hid he
  have HR2 := hid hr
  have HB2 := hid hb
  have HM2 := hid (show RkAt w2 M room l fu from keep0 HM.out hb)
  clear he hr hb p0 p1 p2 f0 f1 f2 HR
  go_wp2_with fail
  refine (HCU.out w2 HM2.out).mono ?_
  rintro e w3 ⟨rfl, hk3, ho3⟩
  have HK3 := hid hk3
  have HO3 := hid ((Only.of_below HB2.out).trans ho3)
  have HR3 := hid (HR2.out.apart HM2.out (by decide) (by decide) (Tch.of_only (S := fun g => g = M) ho3 rfl (lt_of_block HM2.out)))
  have hs3 := ho3.size
  have hs2 := HB2.out.size
  clear hk3 ho3 HCU HM2 HB2 HR2
  have hba : Below w3.heap.size w3 (w3.alloc (.cells #[.pointer (some ⟨M, 0, none⟩), .slice A2 els.length c2, .bool false] 69)) := (Below.refl _ _).alloc (Nat.le_refl _) _
  have HFIN : Hid (RopR W0 W M room l fu (.returned (.pointer (some ⟨w3.heap.size, 0, none⟩))) (w3.alloc (.cells #[.pointer (some ⟨M, 0, none⟩), .slice A2 els.length c2, .bool false] 69))) := hid ⟨w3.heap.size, A2, c2, els, rfl, HE.out, ⟨heap_alloc_new _ _, keep0 HK3.out hba, ⟨own_keep HR3.out.1 hba, fun e he => .inl ⟨own_keep (HR3.out.2 e he).1 hba, (HR3.out.2 e he).2⟩⟩⟩, by omega, HO3.out.trans (Only.of_below hba)⟩
  clear hba HE HK3 HO3 HR3 HM
  go_wp2
  go_ret
  exact HFIN.out

theorem ecells_one (els : List El) : ∀ u ∈ ecells els, u.oneCell' = true := by
  intro u hu
  induction els with
  | nil => simp [ecells] at hu
  | cons e els ih =>
    have h : ecells (e :: els) = (rcc e.1 e.2.1 e.2.2).toList ++ ecells els := by simp [ecells]
    rw [h] at hu
    rcases List.mem_append.1 hu with hu | hu
    · simp only [rcc, List.mem_cons, List.not_mem_nil, or_false] at hu
      rcases hu with rfl | rfl | rfl | rfl | rfl | rfl | rfl <;> rfl
    · exact ih hu
def anF (room : Nat) (l : List UInt8) (fu : Int) (down : Bool) (x : Rc) : Int := if chkR x = false then fu else if down then fu else fuN room l (fR x) fu
/-- What Append leaves. -/
def RapR (W0 W : World) (b G M room : Nat) (l : List UInt8) (fu : Int) (A : Option Addr) (c : Nat) (els : List El) (down : Bool) (x : Rc) (e : Ending) (w' : World) : Prop :=
  e = .returned (.int .i64 (anE room l (decide (0 ≤ fu)) down x)) ∧ ∃ A' c' els', els'.map (·.1) = (if anE room l (decide (0 ≤ fu)) down x = 0 then els.map (·.1) ++ [x] else els.map (·.1)) ∧ RnAt W0 w' b G M room (anB room l (decide (0 ≤ fu)) fu.toNat down x) (anF room l fu down x) A' c' els' (if anE room l (decide (0 ≤ fu)) down x = 14 then true else down) ∧
    Tch (fun g => g = M ∨ g = G) W w' ∧ ((Value.slice A' els'.length c').ownBlock = (Value.slice A els.length c).ownBlock ∨ ∀ g, (Value.slice A' els'.length c').ownBlock = some g → W.heap.size ≤ g)

set_option maxRecDepth 20000 in
set_option maxHeartbeats 4000000 in
theorem rap_bad {b G M room : Nat} {l : List UInt8} {fu : Int} {A : Option Addr} {c : Nat} {els : List El} {down : Bool} (x : Rc) (Ax : Option Addr) (cx : Nat) (W0 W : World) (h : RnAt W0 W b G M room l fu A c els down) (hx0 : TxAt W0 Ax cx x.ns) (hW0 : Below W0.heap.size W0 W) (hb : b ≤ W.heap.size) (hGM : G ≠ M) (hr : room ≤ 65536) (hl : l.length ≤ room) (hn : els.length ≤ 100000) (hc : chkR x = false) :
    Calls Tryz.prog 40 #[.pointer (some ⟨G, 0, none⟩), .agg (rcc x Ax cx)] W (RapR W0 W b G M room l fu A c els down x) := by
  have hx : TxAt W Ax cx x.ns := hx0.below hW0
  have HCK := hid (fun w (hw : Below W.heap.size W w) => r17check_any x Ax cx w (hx.below hw))
  rw [hc] at HCK
  have HA := hid h
  have HV : Hid (anE room l (decide (0 ≤ fu)) down x = 1 ∧ anB room l (decide (0 ≤ fu)) fu.toNat down x = l ∧ anF room l fu down x = fu) := hid ⟨if_pos hc, if_pos hc, if_pos hc⟩
  unfold RapR
  rw [HV.out.1, HV.out.2.1, HV.out.2.2]
  rw [if_neg (by decide), if_neg (by decide)]
  clear h hx hc HV
  obtain ⟨k, j, t, wk, s, ep, ns⟩ := x
  simp only [rcc] at *
  go_enter Tryz.func40, Tryz.ntmps40
  go_upto_region 1 with (fail)
  refine at_world (fun u => u.heap[W.heap.size]? = some (.cells #[.int .i64 k, .int .i64 j, .int .i64 t, .int .i64 wk, .int .i64 s, .int .i64 ep, .slice Ax ns.length cx] 46 (0, 0)) ∧ Below W.heap.size W u) ⟨heap_alloc_new _ _, (Below.refl _ _).alloc (Nat.le_refl _) _⟩ ?_
  rintro w1 ⟨hx1, hb1⟩
  obtain ⟨p0, p1, p2, p3, p4, p5, p6⟩ := seven_cells hx1
  have HX1 := hid hx1
  have HB1 := hid hb1
  clear hx1 hb1
  go_wp2_with fail
  refine (HCK.out w1 HB1.out).mono ?_
  rintro e w2 ⟨rfl, hb2⟩
  have HB2 := hid (HB1.out.trans (hb2.mono HB1.out.size))
  have HX2 := hid (keep0 HX1.out hb2)
  have HA2 := hid (HA.out.keep HB2.out)
  clear hb2 HB1 HX1 HCK p0 p1 p2 p3 p4 p5 p6
  obtain ⟨⟨q0, q1, q2⟩, g0, g1, g2⟩ := three_cellsA HA2.out.1
  clear q0 q1 q2 g0 g1 g2
  go_wp2
  go_ret
  exact ⟨rfl, A, c, els, rfl, HA2.out, Tch.of_below HB2.out, .inl rfl⟩

set_option maxRecDepth 20000 in
set_option maxHeartbeats 4000000 in
theorem rap_down {b G M room : Nat} {l : List UInt8} {fu : Int} {A : Option Addr} {c : Nat} {els : List El} {down : Bool} (x : Rc) (Ax : Option Addr) (cx : Nat) (W0 W : World) (h : RnAt W0 W b G M room l fu A c els down) (hx0 : TxAt W0 Ax cx x.ns) (hW0 : Below W0.heap.size W0 W) (hb : b ≤ W.heap.size) (hGM : G ≠ M) (hr : room ≤ 65536) (hl : l.length ≤ room) (hn : els.length ≤ 100000) (hc : chkR x = true) (hd : down = true) :
    Calls Tryz.prog 40 #[.pointer (some ⟨G, 0, none⟩), .agg (rcc x Ax cx)] W (RapR W0 W b G M room l fu A c els down x) := by
  have hx : TxAt W Ax cx x.ns := hx0.below hW0
  have HCK := hid (fun w (hw : Below W.heap.size W w) => r17check_any x Ax cx w (hx.below hw))
  rw [hc] at HCK
  have HA := hid h
  have hc' : ¬ chkR x = false := by rw [hc]; simp
  subst hd
  have HV : Hid (anE room l (decide (0 ≤ fu)) true x = 15 ∧ anB room l (decide (0 ≤ fu)) fu.toNat true x = l ∧ anF room l fu true x = fu) := hid ⟨if_neg hc', if_neg hc', if_neg hc'⟩
  unfold RapR
  rw [HV.out.1, HV.out.2.1, HV.out.2.2]
  rw [if_neg (by decide), if_neg (by decide)]
  clear h hx hc hc' HV
  obtain ⟨k, j, t, wk, s, ep, ns⟩ := x
  simp only [rcc] at *
  go_enter Tryz.func40, Tryz.ntmps40
  go_upto_region 1 with (fail)
  refine at_world (fun u => u.heap[W.heap.size]? = some (.cells #[.int .i64 k, .int .i64 j, .int .i64 t, .int .i64 wk, .int .i64 s, .int .i64 ep, .slice Ax ns.length cx] 46 (0, 0)) ∧ Below W.heap.size W u) ⟨heap_alloc_new _ _, (Below.refl _ _).alloc (Nat.le_refl _) _⟩ ?_
  rintro w1 ⟨hx1, hb1⟩
  obtain ⟨p0, p1, p2, p3, p4, p5, p6⟩ := seven_cells hx1
  have HX1 := hid hx1
  have HB1 := hid hb1
  clear hx1 hb1
  go_wp2_with fail
  refine (HCK.out w1 HB1.out).mono ?_
  rintro e w2 ⟨rfl, hb2⟩
  have HB2 := hid (HB1.out.trans (hb2.mono HB1.out.size))
  have HX2 := hid (keep0 HX1.out hb2)
  have HA2 := hid (HA.out.keep HB2.out)
  clear hb2 HB1 HX1 HCK p0 p1 p2 p3 p4 p5 p6
  obtain ⟨⟨q0, q1, q2⟩, g0, g1, g2⟩ := three_cellsA HA2.out.1
  go_wp2
  go_ret
  exact ⟨rfl, A, c, els, rfl, HA2.out, Tch.of_below HB2.out, .inl rfl⟩

set_option maxRecDepth 20000 in
set_option maxHeartbeats 4000000 in
theorem rap_full {b G M room : Nat} {l : List UInt8} {fu : Int} {A : Option Addr} {c : Nat} {els : List El} {down : Bool} (x : Rc) (Ax : Option Addr) (cx : Nat) (W0 W : World) (h : RnAt W0 W b G M room l fu A c els down) (hx0 : TxAt W0 Ax cx x.ns) (hW0 : Below W0.heap.size W0 W) (hb : b ≤ W.heap.size) (hGM : G ≠ M) (hr : room ≤ 65536) (hl : l.length ≤ room) (hn : els.length ≤ 100000) (hc : chkR x = true) (hd : down = false) (he : apE room l (fR x) (decide (0 ≤ fu)) = 7) :
    Calls Tryz.prog 40 #[.pointer (some ⟨G, 0, none⟩), .agg (rcc x Ax cx)] W (RapR W0 W b G M room l fu A c els down x) := by
  have hx : TxAt W Ax cx x.ns := hx0.below hW0
  have HCK := hid (fun w (hw : Below W.heap.size W w) => r17check_any x Ax cx w (hx.below hw))
  rw [hc] at HCK
  have HA := hid h
  have hc' : ¬ chkR x = false := by rw [hc]; simp
  subst hd
  have HV : Hid (anE room l (decide (0 ≤ fu)) false x = 7 ∧ anB room l (decide (0 ≤ fu)) fu.toNat false x = apL room l (fR x) (decide (0 ≤ fu)) fu.toNat ∧ anF room l fu false x = fuN room l (fR x) fu) := hid ⟨(if_neg hc').trans he, if_neg hc', if_neg hc'⟩
  have HBY := hid (fun w (hw : Below W.heap.size W w) => r17bytes_any x Ax cx w (hx.below hw))
  simp only [hc, if_true] at HBY
  have hfr : fR x = frP (rb x) := by rw [fR, if_pos hc]
  have hrl := rb_len x hc
  have HPU := hid (fun w => rput_any (str (rb x)) w (by rw [str_size]; omega))
  rw [show (str (rb x)).data.toList = rb x from by simp [str], ← hfr] at HPU
  have HDA := hid (fun w (hk : RkAt w M room l fu) => rappend_any M room l (fR x) fu w hk hr hl (Nat.le_trans (fR_len x) (by omega)))
  rw [he] at HDA
  have HX0 := hid hx0
  have HW0 := hid hW0
  unfold RapR
  rw [HV.out.1, HV.out.2.1, HV.out.2.2]
  rw [if_neg (by decide), if_neg (by decide)]
  clear h hx hx0 hW0 hc hc' HV he hfr hrl
  generalize apL room l (fR x) (decide (0 ≤ fu)) fu.toNat = l2 at *
  generalize fuN room l (fR x) fu = fu2 at *
  generalize str (fR x) = sx at *
  generalize str (rb x) = sy at *
  obtain ⟨k, j, t, wk, s, ep, ns⟩ := x
  simp only [rcc] at *
  go_enter Tryz.func40, Tryz.ntmps40
  go_upto_region 1 with (fail)
  refine at_world (fun u => u.heap[W.heap.size]? = some (.cells #[.int .i64 k, .int .i64 j, .int .i64 t, .int .i64 wk, .int .i64 s, .int .i64 ep, .slice Ax ns.length cx] 46 (0, 0)) ∧ Below W.heap.size W u) ⟨heap_alloc_new _ _, (Below.refl _ _).alloc (Nat.le_refl _) _⟩ ?_
  rintro w1 ⟨hx1, hb1⟩
  obtain ⟨p0, p1, p2, p3, p4, p5, p6⟩ := seven_cells hx1
  have HX1 := hid hx1
  have HB1 := hid hb1
  clear hx1 hb1
  go_wp2_with fail
  refine (HCK.out w1 HB1.out).mono ?_
  rintro e w2 ⟨rfl, hb2⟩
  have HB2 := hid (HB1.out.trans (hb2.mono HB1.out.size))
  have HX2 := hid (keep0 HX1.out hb2)
  have HA2 := hid (HA.out.keep HB2.out)
  clear hb2 HB1 HX1 HCK p0 p1 p2 p3 p4 p5 p6
  obtain ⟨⟨q0, q1, q2⟩, g0, g1, g2⟩ := three_cellsA HA2.out.1
  have hNl : W.heap.size < w2.heap.size := lt_of_block HX2.out
  have hGl : G < W.heap.size := lt_of_block HA.out.1
  have hMl : M < W.heap.size := lt_of_block HA.out.2.1
  have hWb := HB2.out.size
  generalize hNN : W.heap.size = N at *
  have HNN := hid hNN
  clear hNN
  go_upto_region 5 with (fail)
  clear q0 q1 q2 g0 g1 g2
  have hS : ∀ U, Tch (fun g => g = M) w2 U → ((U.cell? ⟨G, 0, none⟩ = some (.pointer (some ⟨M, 0, none⟩)) ∧ (U.cell? ⟨N, 0, none⟩ = some (.int .i64 k) ∧ U.cell? ⟨N, 1, none⟩ = some (.int .i64 j) ∧ U.cell? ⟨N, 2, none⟩ = some (.int .i64 t) ∧ U.cell? ⟨N, 3, none⟩ = some (.int .i64 wk) ∧ U.cell? ⟨N, 4, none⟩ = some (.int .i64 s) ∧ U.cell? ⟨N, 5, none⟩ = some (.int .i64 ep) ∧ U.cell? ⟨N, 6, none⟩ = some (.slice Ax ns.length cx))) ∧ Tch (fun g => g = M) w2 U) := fun U hU => ⟨⟨(three_cellsA (hU.block HA2.out.1 hGM)).1.1, seven_cells (hU.block HX2.out (by omega))⟩, hU⟩
  have hk0 : Below w2.heap.size w2 w2.drew := below_drew (Below.refl _ _)
  refine wp_region_held_drew (S := fun U => (U.cell? ⟨G, 0, none⟩ = some (.pointer (some ⟨M, 0, none⟩)) ∧ (U.cell? ⟨N, 0, none⟩ = some (.int .i64 k) ∧ U.cell? ⟨N, 1, none⟩ = some (.int .i64 j) ∧ U.cell? ⟨N, 2, none⟩ = some (.int .i64 t) ∧ U.cell? ⟨N, 3, none⟩ = some (.int .i64 wk) ∧ U.cell? ⟨N, 4, none⟩ = some (.int .i64 s) ∧ U.cell? ⟨N, 5, none⟩ = some (.int .i64 ep) ∧ U.cell? ⟨N, 6, none⟩ = some (.slice Ax ns.length cx))) ∧ Tch (fun g => g = M) w2 U) (by kernel_rfl) (hS _ (Tch.of_below hk0)) (fun hHeld => ?_)
  generalize w2.drew = k0 at *
  refine tkA 0 ?_ rfl ?_ (by assumption) ?_; rotate_left; focus (intro U hU; (try dsimp only at hU); go_simp; try (with_reducible rfl))
  simp only [gt6, Act.put]
  refine tkA 1 ?_ rfl ?_ (by assumption) ?_; rotate_left; focus (intro U hU; (try dsimp only at hU); go_simp; try (with_reducible rfl))
  simp only [gt6, Act.put]
  refine tkA 2 ?_ rfl ?_ (by assumption) ?_; rotate_left; focus (intro U hU; (try dsimp only at hU); go_simp; try (with_reducible rfl))
  simp only [gt6, Act.put]
  refine tkA 3 ?_ rfl ?_ (by assumption) ?_; rotate_left; focus (intro U hU; (try dsimp only at hU); go_simp; try (with_reducible rfl))
  simp only [gt6, Act.put]
  refine tkA 4 ?_ rfl ?_ (by assumption) ?_; rotate_left; focus (intro U hU; (try dsimp only at hU); go_simp; try (with_reducible rfl))
  simp only [gt6, Act.put]
  refine wpAnyH_ready (rs := [5]) (by kernel_rfl) (by simp) ?_
  refine AllReadyH.cons rfl (fun K hK => ?_) AllReadyH.nil
  simp only [gt3]
  go_simp
  refine (HBY.out k0 (HB2.out.trans (hk0.mono hWb))).mono ?_
  rintro q k1 ⟨rfl, hb3⟩
  have hk1 := hk0.trans (hb3.mono hk0.size)
  clear hb3
  go_wp2_with fail
  refine hK.out _ _ ?_ (fun hHeld2 => ?_)
  focus
    exact hS _ (Tch.of_below hk1)
  clear hHeld
  have hHeld := hHeld2
  clear hHeld2 hK K
  try simp only [gt6, Act.put]
  refine wpAnyH_ready (rs := [6]) (by kernel_rfl) (by simp) ?_
  refine AllReadyH.cons rfl (fun K hK => ?_) AllReadyH.nil
  simp only [gt3]
  go_simp
  refine (HPU.out k1).mono ?_
  rintro q k2 ⟨rfl, hb3⟩
  have hk2 := hk1.trans (hb3.mono hk1.size)
  clear hb3
  go_wp2_with fail
  refine hK.out _ _ ?_ (fun hHeld2 => ?_)
  focus
    exact hS _ (Tch.of_below hk2)
  clear hHeld
  have hHeld := hHeld2
  clear hHeld2 hK K
  try simp only [gt6, Act.put]
  refine wpAnyH_ready (rs := [7]) (by kernel_rfl) (by simp) ?_
  refine AllReadyH.cons rfl (fun K hK => ?_) AllReadyH.nil
  simp only [gt3]
  go_simp
  refine (HDA.out k2 (show RkAt k2 M room l fu from keep0 HA2.out.2.1 hk2)).mono ?_
  rintro q k3 ⟨rfl, hkd, ho3⟩
  have hk3 : Tch (fun g => g = M) w2 k3 := (Tch.of_below hk2).trans (Tch.of_only (S := fun g => g = M) ho3 rfl (by have := hk2.size; omega)) (fun g hg _ => hg)
  clear ho3
  go_wp2_with fail
  refine hK.out _ _ ?_ (fun hHeld2 => ?_)
  focus
    exact hS _ hk3
  clear hHeld
  have hHeld := hHeld2
  clear hHeld2 hK K
  try simp only [gt6, Act.put]
  refine tkA 8 ?_ rfl ?_ (by assumption) ?_; rotate_left; focus (intro U hU; (try dsimp only at hU); go_simp; try (with_reducible rfl))
  simp only [gt6, Act.put]
  refine wpAnyH_done (by kernel_rfl) ?_ _
  have HT3 := hid hk3
  have HK3 := hid hkd
  have HG3 := hid (hk3.block HA2.out.1 hGM)
  have HR3 := hid (HA2.out.2.2.tch hk3 (fun g hg h9 => own_apart_blk HA2.out.2.2.1 HA2.out.2.1 (by decide) g hg h9) (fun g hg cs t fr h9 => by rw [rk_ty HA2.out.2.1 g hg cs t fr h9]; decide))
  have HX3 := hid (hk3.block HX2.out (by omega))
  have HTW : Hid (Tch (fun g => g = M ∨ g = G) W k3) := hid ((Tch.of_below (S := fun g => g = M ∨ g = G) (HNN.out ▸ HB2.out)).trans hk3 (fun g hg _ => .inl hg))
  have hs3 := hk3.size
  clear hHeld hS hk0 hk1 hk2 hk3 hkd HBY HPU HDA
  go_wp2
  go_ret
  exact ⟨rfl, A, c, els, rfl, ⟨HG3.out, HK3.out, HR3.out⟩, HTW.out, .inl rfl⟩

set_option maxRecDepth 20000 in
set_option maxHeartbeats 4000000 in
theorem rap_power {b G M room : Nat} {l : List UInt8} {fu : Int} {A : Option Addr} {c : Nat} {els : List El} {down : Bool} (x : Rc) (Ax : Option Addr) (cx : Nat) (W0 W : World) (h : RnAt W0 W b G M room l fu A c els down) (hx0 : TxAt W0 Ax cx x.ns) (hW0 : Below W0.heap.size W0 W) (hb : b ≤ W.heap.size) (hGM : G ≠ M) (hr : room ≤ 65536) (hl : l.length ≤ room) (hn : els.length ≤ 100000) (hc : chkR x = true) (hd : down = false) (he : apE room l (fR x) (decide (0 ≤ fu)) = 14) :
    Calls Tryz.prog 40 #[.pointer (some ⟨G, 0, none⟩), .agg (rcc x Ax cx)] W (RapR W0 W b G M room l fu A c els down x) := by
  have hx : TxAt W Ax cx x.ns := hx0.below hW0
  have HCK := hid (fun w (hw : Below W.heap.size W w) => r17check_any x Ax cx w (hx.below hw))
  rw [hc] at HCK
  have HA := hid h
  have hc' : ¬ chkR x = false := by rw [hc]; simp
  subst hd
  have HV : Hid (anE room l (decide (0 ≤ fu)) false x = 14 ∧ anB room l (decide (0 ≤ fu)) fu.toNat false x = apL room l (fR x) (decide (0 ≤ fu)) fu.toNat ∧ anF room l fu false x = fuN room l (fR x) fu) := hid ⟨(if_neg hc').trans he, if_neg hc', if_neg hc'⟩
  have HBY := hid (fun w (hw : Below W.heap.size W w) => r17bytes_any x Ax cx w (hx.below hw))
  simp only [hc, if_true] at HBY
  have hfr : fR x = frP (rb x) := by rw [fR, if_pos hc]
  have hrl := rb_len x hc
  have HPU := hid (fun w => rput_any (str (rb x)) w (by rw [str_size]; omega))
  rw [show (str (rb x)).data.toList = rb x from by simp [str], ← hfr] at HPU
  have HDA := hid (fun w (hk : RkAt w M room l fu) => rappend_any M room l (fR x) fu w hk hr hl (Nat.le_trans (fR_len x) (by omega)))
  rw [he] at HDA
  have HX0 := hid hx0
  have HW0 := hid hW0
  unfold RapR
  rw [HV.out.1, HV.out.2.1, HV.out.2.2]
  rw [if_neg (by decide), if_pos rfl]
  clear h hx hx0 hW0 hc hc' HV he hfr hrl
  generalize apL room l (fR x) (decide (0 ≤ fu)) fu.toNat = l2 at *
  generalize fuN room l (fR x) fu = fu2 at *
  generalize str (fR x) = sx at *
  generalize str (rb x) = sy at *
  obtain ⟨k, j, t, wk, s, ep, ns⟩ := x
  simp only [rcc] at *
  go_enter Tryz.func40, Tryz.ntmps40
  go_upto_region 1 with (fail)
  refine at_world (fun u => u.heap[W.heap.size]? = some (.cells #[.int .i64 k, .int .i64 j, .int .i64 t, .int .i64 wk, .int .i64 s, .int .i64 ep, .slice Ax ns.length cx] 46 (0, 0)) ∧ Below W.heap.size W u) ⟨heap_alloc_new _ _, (Below.refl _ _).alloc (Nat.le_refl _) _⟩ ?_
  rintro w1 ⟨hx1, hb1⟩
  obtain ⟨p0, p1, p2, p3, p4, p5, p6⟩ := seven_cells hx1
  have HX1 := hid hx1
  have HB1 := hid hb1
  clear hx1 hb1
  go_wp2_with fail
  refine (HCK.out w1 HB1.out).mono ?_
  rintro e w2 ⟨rfl, hb2⟩
  have HB2 := hid (HB1.out.trans (hb2.mono HB1.out.size))
  have HX2 := hid (keep0 HX1.out hb2)
  have HA2 := hid (HA.out.keep HB2.out)
  clear hb2 HB1 HX1 HCK p0 p1 p2 p3 p4 p5 p6
  obtain ⟨⟨q0, q1, q2⟩, g0, g1, g2⟩ := three_cellsA HA2.out.1
  have hNl : W.heap.size < w2.heap.size := lt_of_block HX2.out
  have hGl : G < W.heap.size := lt_of_block HA.out.1
  have hMl : M < W.heap.size := lt_of_block HA.out.2.1
  have hWb := HB2.out.size
  generalize hNN : W.heap.size = N at *
  have HNN := hid hNN
  clear hNN
  go_upto_region 5 with (fail)
  clear q0 q1 q2 g0 g1 g2
  have hS : ∀ U, Tch (fun g => g = M) w2 U → ((U.cell? ⟨G, 0, none⟩ = some (.pointer (some ⟨M, 0, none⟩)) ∧ (U.cell? ⟨N, 0, none⟩ = some (.int .i64 k) ∧ U.cell? ⟨N, 1, none⟩ = some (.int .i64 j) ∧ U.cell? ⟨N, 2, none⟩ = some (.int .i64 t) ∧ U.cell? ⟨N, 3, none⟩ = some (.int .i64 wk) ∧ U.cell? ⟨N, 4, none⟩ = some (.int .i64 s) ∧ U.cell? ⟨N, 5, none⟩ = some (.int .i64 ep) ∧ U.cell? ⟨N, 6, none⟩ = some (.slice Ax ns.length cx))) ∧ Tch (fun g => g = M) w2 U) := fun U hU => ⟨⟨(three_cellsA (hU.block HA2.out.1 hGM)).1.1, seven_cells (hU.block HX2.out (by omega))⟩, hU⟩
  have hk0 : Below w2.heap.size w2 w2.drew := below_drew (Below.refl _ _)
  refine wp_region_held_drew (S := fun U => (U.cell? ⟨G, 0, none⟩ = some (.pointer (some ⟨M, 0, none⟩)) ∧ (U.cell? ⟨N, 0, none⟩ = some (.int .i64 k) ∧ U.cell? ⟨N, 1, none⟩ = some (.int .i64 j) ∧ U.cell? ⟨N, 2, none⟩ = some (.int .i64 t) ∧ U.cell? ⟨N, 3, none⟩ = some (.int .i64 wk) ∧ U.cell? ⟨N, 4, none⟩ = some (.int .i64 s) ∧ U.cell? ⟨N, 5, none⟩ = some (.int .i64 ep) ∧ U.cell? ⟨N, 6, none⟩ = some (.slice Ax ns.length cx))) ∧ Tch (fun g => g = M) w2 U) (by kernel_rfl) (hS _ (Tch.of_below hk0)) (fun hHeld => ?_)
  generalize w2.drew = k0 at *
  refine tkA 0 ?_ rfl ?_ (by assumption) ?_; rotate_left; focus (intro U hU; (try dsimp only at hU); go_simp; try (with_reducible rfl))
  simp only [gt6, Act.put]
  refine tkA 1 ?_ rfl ?_ (by assumption) ?_; rotate_left; focus (intro U hU; (try dsimp only at hU); go_simp; try (with_reducible rfl))
  simp only [gt6, Act.put]
  refine tkA 2 ?_ rfl ?_ (by assumption) ?_; rotate_left; focus (intro U hU; (try dsimp only at hU); go_simp; try (with_reducible rfl))
  simp only [gt6, Act.put]
  refine tkA 3 ?_ rfl ?_ (by assumption) ?_; rotate_left; focus (intro U hU; (try dsimp only at hU); go_simp; try (with_reducible rfl))
  simp only [gt6, Act.put]
  refine tkA 4 ?_ rfl ?_ (by assumption) ?_; rotate_left; focus (intro U hU; (try dsimp only at hU); go_simp; try (with_reducible rfl))
  simp only [gt6, Act.put]
  refine wpAnyH_ready (rs := [5]) (by kernel_rfl) (by simp) ?_
  refine AllReadyH.cons rfl (fun K hK => ?_) AllReadyH.nil
  simp only [gt3]
  go_simp
  refine (HBY.out k0 (HB2.out.trans (hk0.mono hWb))).mono ?_
  rintro q k1 ⟨rfl, hb3⟩
  have hk1 := hk0.trans (hb3.mono hk0.size)
  clear hb3
  go_wp2_with fail
  refine hK.out _ _ ?_ (fun hHeld2 => ?_)
  focus
    exact hS _ (Tch.of_below hk1)
  clear hHeld
  have hHeld := hHeld2
  clear hHeld2 hK K
  try simp only [gt6, Act.put]
  refine wpAnyH_ready (rs := [6]) (by kernel_rfl) (by simp) ?_
  refine AllReadyH.cons rfl (fun K hK => ?_) AllReadyH.nil
  simp only [gt3]
  go_simp
  refine (HPU.out k1).mono ?_
  rintro q k2 ⟨rfl, hb3⟩
  have hk2 := hk1.trans (hb3.mono hk1.size)
  clear hb3
  go_wp2_with fail
  refine hK.out _ _ ?_ (fun hHeld2 => ?_)
  focus
    exact hS _ (Tch.of_below hk2)
  clear hHeld
  have hHeld := hHeld2
  clear hHeld2 hK K
  try simp only [gt6, Act.put]
  refine wpAnyH_ready (rs := [7]) (by kernel_rfl) (by simp) ?_
  refine AllReadyH.cons rfl (fun K hK => ?_) AllReadyH.nil
  simp only [gt3]
  go_simp
  refine (HDA.out k2 (show RkAt k2 M room l fu from keep0 HA2.out.2.1 hk2)).mono ?_
  rintro q k3 ⟨rfl, hkd, ho3⟩
  have hk3 : Tch (fun g => g = M) w2 k3 := (Tch.of_below hk2).trans (Tch.of_only (S := fun g => g = M) ho3 rfl (by have := hk2.size; omega)) (fun g hg _ => hg)
  clear ho3
  go_wp2_with fail
  refine hK.out _ _ ?_ (fun hHeld2 => ?_)
  focus
    exact hS _ hk3
  clear hHeld
  have hHeld := hHeld2
  clear hHeld2 hK K
  try simp only [gt6, Act.put]
  refine tkA 8 ?_ rfl ?_ (by assumption) ?_; rotate_left; focus (intro U hU; (try dsimp only at hU); go_simp; try (with_reducible rfl))
  simp only [gt6, Act.put]
  refine wpAnyH_done (by kernel_rfl) ?_ _
  have HT3 := hid hk3
  have HK3 := hid hkd
  have HG3 := hid (hk3.block HA2.out.1 hGM)
  have HR3 := hid (HA2.out.2.2.tch hk3 (fun g hg h9 => own_apart_blk HA2.out.2.2.1 HA2.out.2.1 (by decide) g hg h9) (fun g hg cs t fr h9 => by rw [rk_ty HA2.out.2.1 g hg cs t fr h9]; decide))
  have HX3 := hid (hk3.block HX2.out (by omega))
  have HTW : Hid (Tch (fun g => g = M ∨ g = G) W k3) := hid ((Tch.of_below (S := fun g => g = M ∨ g = G) (HNN.out ▸ HB2.out)).trans hk3 (fun g hg _ => .inl hg))
  have hs3 := hk3.size
  clear hHeld hS hk0 hk1 hk2 hk3 hkd HBY HPU HDA
  obtain ⟨⟨q0, q1, q2⟩, g0, g1, g2⟩ := three_cellsA HG3.out
  have HTS := tch_set k3 G 2 (.bool true)
  have HG4 : Hid ((k3.setCell ⟨G, 2, none⟩ (.bool true)).heap[G]? = some (.cells #[.pointer (some ⟨M, 0, none⟩), .slice A els.length c, .bool true] 69 (0, 0))) := hid (by rw [heap_setCell_same k3 G 2 _ _ (.bool true) HG3.out]; rfl)
  have HK4 : Hid (RkAt (k3.setCell ⟨G, 2, none⟩ (.bool true)) M room l2 fu2) := hid (HTS.block HK3.out (Ne.symm hGM))
  have HR4 := hid (HR3.out.tch HTS (fun g hg h9 => own_apart_blk HR3.out.1 HG3.out (by decide) g hg h9) (fun g hg cs t fr h9 => by
    obtain rfl : g = G := hg
    rw [HG3.out] at h9
    injection h9 with h9
    injection h9 with _ h2
    subst h2
    decide))
  have HT4 := hid (HTW.out.trans HTS (fun g hg _ => .inr hg))
  clear HTS HG3 HK3 HR3 HTW HT3
  go_wp2
  go_ret
  exact ⟨rfl, A, c, els, rfl, ⟨HG4.out, HK4.out, HR4.out⟩, HT4.out, .inl rfl⟩

set_option maxRecDepth 20000 in
set_option maxHeartbeats 4000000 in
theorem rap_ok {b G M room : Nat} {l : List UInt8} {fu : Int} {A : Option Addr} {c : Nat} {els : List El} {down : Bool} (x : Rc) (Ax : Option Addr) (cx : Nat) (W0 W : World) (h : RnAt W0 W b G M room l fu A c els down) (hx0 : TxAt W0 Ax cx x.ns) (hW0 : Below W0.heap.size W0 W) (hb : b ≤ W.heap.size) (hGM : G ≠ M) (hr : room ≤ 65536) (hl : l.length ≤ room) (hn : els.length ≤ 100000) (hc : chkR x = true) (hd : down = false) (he : apE room l (fR x) (decide (0 ≤ fu)) = 0) :
    Calls Tryz.prog 40 #[.pointer (some ⟨G, 0, none⟩), .agg (rcc x Ax cx)] W (RapR W0 W b G M room l fu A c els down x) := by
  have hx : TxAt W Ax cx x.ns := hx0.below hW0
  have HCK := hid (fun w (hw : Below W.heap.size W w) => r17check_any x Ax cx w (hx.below hw))
  rw [hc] at HCK
  have HA := hid h
  have hc' : ¬ chkR x = false := by rw [hc]; simp
  subst hd
  have HV : Hid (anE room l (decide (0 ≤ fu)) false x = 0 ∧ anB room l (decide (0 ≤ fu)) fu.toNat false x = apL room l (fR x) (decide (0 ≤ fu)) fu.toNat ∧ anF room l fu false x = fuN room l (fR x) fu) := hid ⟨(if_neg hc').trans he, if_neg hc', if_neg hc'⟩
  have HBY := hid (fun w (hw : Below W.heap.size W w) => r17bytes_any x Ax cx w (hx.below hw))
  simp only [hc, if_true] at HBY
  have hfr : fR x = frP (rb x) := by rw [fR, if_pos hc]
  have hrl := rb_len x hc
  have HPU := hid (fun w => rput_any (str (rb x)) w (by rw [str_size]; omega))
  rw [show (str (rb x)).data.toList = rb x from by simp [str], ← hfr] at HPU
  have HDA := hid (fun w (hk : RkAt w M room l fu) => rappend_any M room l (fR x) fu w hk hr hl (Nat.le_trans (fR_len x) (by omega)))
  rw [he] at HDA
  have HX0 := hid hx0
  have HW0 := hid hW0
  unfold RapR
  rw [HV.out.1, HV.out.2.1, HV.out.2.2]
  rw [if_pos rfl, if_neg (by decide)]
  clear h hx hx0 hW0 hc hc' HV he hfr hrl
  generalize apL room l (fR x) (decide (0 ≤ fu)) fu.toNat = l2 at *
  generalize fuN room l (fR x) fu = fu2 at *
  generalize str (fR x) = sx at *
  generalize str (rb x) = sy at *
  obtain ⟨k, j, t, wk, s, ep, ns⟩ := x
  simp only [rcc] at *
  go_enter Tryz.func40, Tryz.ntmps40
  go_upto_region 1 with (fail)
  refine at_world (fun u => u.heap[W.heap.size]? = some (.cells #[.int .i64 k, .int .i64 j, .int .i64 t, .int .i64 wk, .int .i64 s, .int .i64 ep, .slice Ax ns.length cx] 46 (0, 0)) ∧ Below W.heap.size W u) ⟨heap_alloc_new _ _, (Below.refl _ _).alloc (Nat.le_refl _) _⟩ ?_
  rintro w1 ⟨hx1, hb1⟩
  obtain ⟨p0, p1, p2, p3, p4, p5, p6⟩ := seven_cells hx1
  have HX1 := hid hx1
  have HB1 := hid hb1
  clear hx1 hb1
  go_wp2_with fail
  refine (HCK.out w1 HB1.out).mono ?_
  rintro e w2 ⟨rfl, hb2⟩
  have HB2 := hid (HB1.out.trans (hb2.mono HB1.out.size))
  have HX2 := hid (keep0 HX1.out hb2)
  have HA2 := hid (HA.out.keep HB2.out)
  clear hb2 HB1 HX1 HCK p0 p1 p2 p3 p4 p5 p6
  obtain ⟨⟨q0, q1, q2⟩, g0, g1, g2⟩ := three_cellsA HA2.out.1
  have hNl : W.heap.size < w2.heap.size := lt_of_block HX2.out
  have hGl : G < W.heap.size := lt_of_block HA.out.1
  have hMl : M < W.heap.size := lt_of_block HA.out.2.1
  have hWb := HB2.out.size
  generalize hNN : W.heap.size = N at *
  have HNN := hid hNN
  clear hNN
  go_upto_region 5 with (fail)
  clear q0 q1 q2 g0 g1 g2
  have hS : ∀ U, Tch (fun g => g = M) w2 U → ((U.cell? ⟨G, 0, none⟩ = some (.pointer (some ⟨M, 0, none⟩)) ∧ (U.cell? ⟨N, 0, none⟩ = some (.int .i64 k) ∧ U.cell? ⟨N, 1, none⟩ = some (.int .i64 j) ∧ U.cell? ⟨N, 2, none⟩ = some (.int .i64 t) ∧ U.cell? ⟨N, 3, none⟩ = some (.int .i64 wk) ∧ U.cell? ⟨N, 4, none⟩ = some (.int .i64 s) ∧ U.cell? ⟨N, 5, none⟩ = some (.int .i64 ep) ∧ U.cell? ⟨N, 6, none⟩ = some (.slice Ax ns.length cx))) ∧ Tch (fun g => g = M) w2 U) := fun U hU => ⟨⟨(three_cellsA (hU.block HA2.out.1 hGM)).1.1, seven_cells (hU.block HX2.out (by omega))⟩, hU⟩
  have hk0 : Below w2.heap.size w2 w2.drew := below_drew (Below.refl _ _)
  refine wp_region_held_drew (S := fun U => (U.cell? ⟨G, 0, none⟩ = some (.pointer (some ⟨M, 0, none⟩)) ∧ (U.cell? ⟨N, 0, none⟩ = some (.int .i64 k) ∧ U.cell? ⟨N, 1, none⟩ = some (.int .i64 j) ∧ U.cell? ⟨N, 2, none⟩ = some (.int .i64 t) ∧ U.cell? ⟨N, 3, none⟩ = some (.int .i64 wk) ∧ U.cell? ⟨N, 4, none⟩ = some (.int .i64 s) ∧ U.cell? ⟨N, 5, none⟩ = some (.int .i64 ep) ∧ U.cell? ⟨N, 6, none⟩ = some (.slice Ax ns.length cx))) ∧ Tch (fun g => g = M) w2 U) (by kernel_rfl) (hS _ (Tch.of_below hk0)) (fun hHeld => ?_)
  generalize w2.drew = k0 at *
  refine tkA 0 ?_ rfl ?_ (by assumption) ?_; rotate_left; focus (intro U hU; (try dsimp only at hU); go_simp; try (with_reducible rfl))
  simp only [gt6, Act.put]
  refine tkA 1 ?_ rfl ?_ (by assumption) ?_; rotate_left; focus (intro U hU; (try dsimp only at hU); go_simp; try (with_reducible rfl))
  simp only [gt6, Act.put]
  refine tkA 2 ?_ rfl ?_ (by assumption) ?_; rotate_left; focus (intro U hU; (try dsimp only at hU); go_simp; try (with_reducible rfl))
  simp only [gt6, Act.put]
  refine tkA 3 ?_ rfl ?_ (by assumption) ?_; rotate_left; focus (intro U hU; (try dsimp only at hU); go_simp; try (with_reducible rfl))
  simp only [gt6, Act.put]
  refine tkA 4 ?_ rfl ?_ (by assumption) ?_; rotate_left; focus (intro U hU; (try dsimp only at hU); go_simp; try (with_reducible rfl))
  simp only [gt6, Act.put]
  refine wpAnyH_ready (rs := [5]) (by kernel_rfl) (by simp) ?_
  refine AllReadyH.cons rfl (fun K hK => ?_) AllReadyH.nil
  simp only [gt3]
  go_simp
  refine (HBY.out k0 (HB2.out.trans (hk0.mono hWb))).mono ?_
  rintro q k1 ⟨rfl, hb3⟩
  have hk1 := hk0.trans (hb3.mono hk0.size)
  clear hb3
  go_wp2_with fail
  refine hK.out _ _ ?_ (fun hHeld2 => ?_)
  focus
    exact hS _ (Tch.of_below hk1)
  clear hHeld
  have hHeld := hHeld2
  clear hHeld2 hK K
  try simp only [gt6, Act.put]
  refine wpAnyH_ready (rs := [6]) (by kernel_rfl) (by simp) ?_
  refine AllReadyH.cons rfl (fun K hK => ?_) AllReadyH.nil
  simp only [gt3]
  go_simp
  refine (HPU.out k1).mono ?_
  rintro q k2 ⟨rfl, hb3⟩
  have hk2 := hk1.trans (hb3.mono hk1.size)
  clear hb3
  go_wp2_with fail
  refine hK.out _ _ ?_ (fun hHeld2 => ?_)
  focus
    exact hS _ (Tch.of_below hk2)
  clear hHeld
  have hHeld := hHeld2
  clear hHeld2 hK K
  try simp only [gt6, Act.put]
  refine wpAnyH_ready (rs := [7]) (by kernel_rfl) (by simp) ?_
  refine AllReadyH.cons rfl (fun K hK => ?_) AllReadyH.nil
  simp only [gt3]
  go_simp
  refine (HDA.out k2 (show RkAt k2 M room l fu from keep0 HA2.out.2.1 hk2)).mono ?_
  rintro q k3 ⟨rfl, hkd, ho3⟩
  have hk3 : Tch (fun g => g = M) w2 k3 := (Tch.of_below hk2).trans (Tch.of_only (S := fun g => g = M) ho3 rfl (by have := hk2.size; omega)) (fun g hg _ => hg)
  clear ho3
  go_wp2_with fail
  refine hK.out _ _ ?_ (fun hHeld2 => ?_)
  focus
    exact hS _ hk3
  clear hHeld
  have hHeld := hHeld2
  clear hHeld2 hK K
  try simp only [gt6, Act.put]
  refine tkA 8 ?_ rfl ?_ (by assumption) ?_; rotate_left; focus (intro U hU; (try dsimp only at hU); go_simp; try (with_reducible rfl))
  simp only [gt6, Act.put]
  refine wpAnyH_done (by kernel_rfl) ?_ _
  have HT3 := hid hk3
  have HK3 := hid hkd
  have HG3 := hid (hk3.block HA2.out.1 hGM)
  have HR3 := hid (HA2.out.2.2.tch hk3 (fun g hg h9 => own_apart_blk HA2.out.2.2.1 HA2.out.2.1 (by decide) g hg h9) (fun g hg cs t fr h9 => by rw [rk_ty HA2.out.2.1 g hg cs t fr h9]; decide))
  have HX3 := hid (hk3.block HX2.out (by omega))
  have HTW : Hid (Tch (fun g => g = M ∨ g = G) W k3) := hid ((Tch.of_below (S := fun g => g = M ∨ g = G) (HNN.out ▸ HB2.out)).trans hk3 (fun g hg _ => .inl hg))
  have hs3 := hk3.size
  clear hHeld hS hk0 hk1 hk2 hk3 hkd HBY HPU HDA
  obtain ⟨⟨q0, q1, q2⟩, g0, g1, g2⟩ := three_cellsA HG3.out
  go_upto_region 9 with (fail)
  have HRI := hid (fun U (hU : Tch (fun g => g = G) k3 U) => HR3.out.tch hU (fun g hg h9 => own_apart_blk HR3.out.1 HG3.out (by decide) g hg h9) (fun g hg cs t fr h9 => by
    obtain rfl : g = G := hg
    rw [HG3.out] at h9
    injection h9 with h9
    injection h9 with _ h2
    subst h2
    decide))
  have hNG : ¬ N = G := by omega
  have hS : ∀ U, Tch (fun g => g = G) k3 U → (((U.cell? ⟨N, 0, none⟩ = some (.int .i64 k) ∧ U.cell? ⟨N, 1, none⟩ = some (.int .i64 j) ∧ U.cell? ⟨N, 2, none⟩ = some (.int .i64 t) ∧ U.cell? ⟨N, 3, none⟩ = some (.int .i64 wk) ∧ U.cell? ⟨N, 4, none⟩ = some (.int .i64 s) ∧ U.cell? ⟨N, 5, none⟩ = some (.int .i64 ep) ∧ U.cell? ⟨N, 6, none⟩ = some (.slice Ax ns.length cx))) ∧ Tch (fun g => g = G) k3 U) := fun U hU => ⟨seven_cells (hU.block HX3.out hNG), hU⟩
  have hk0 : Below k3.heap.size k3 k3.drew := below_drew (Below.refl _ _)
  refine wp_region_held_drew (S := fun U => ((U.cell? ⟨N, 0, none⟩ = some (.int .i64 k) ∧ U.cell? ⟨N, 1, none⟩ = some (.int .i64 j) ∧ U.cell? ⟨N, 2, none⟩ = some (.int .i64 t) ∧ U.cell? ⟨N, 3, none⟩ = some (.int .i64 wk) ∧ U.cell? ⟨N, 4, none⟩ = some (.int .i64 s) ∧ U.cell? ⟨N, 5, none⟩ = some (.int .i64 ep) ∧ U.cell? ⟨N, 6, none⟩ = some (.slice Ax ns.length cx))) ∧ Tch (fun g => g = G) k3 U) (by kernel_rfl) (hS _ (Tch.of_below hk0)) (fun hHeld => ?_)
  generalize k3.drew = m0 at *
  replace q1 := cellb hk0 q1
  clear q0 q2 g0 g1 g2
  refine tkA 0 ?_ rfl ?_ (by assumption) ?_; rotate_left; focus (intro U hU; (try dsimp only at hU); go_simp; try (with_reducible rfl))
  simp only [gt6, Act.put]
  refine tkA 2 ?_ rfl ?_ (by assumption) ?_; rotate_left; focus (intro U hU; (try dsimp only at hU); go_simp; try (with_reducible rfl))
  simp only [gt6, Act.put]
  refine tkA 3 ?_ rfl ?_ (by assumption) ?_; rotate_left; focus (intro U hU; (try dsimp only at hU); go_simp; try (with_reducible rfl))
  simp only [gt6, Act.put]
  refine tkA 4 ?_ rfl ?_ (by assumption) ?_; rotate_left; focus (intro U hU; (try dsimp only at hU); go_simp; try (with_reducible rfl))
  simp only [gt6, Act.put]
  refine tkA 7 ?_ rfl ?_ (by assumption) ?_; rotate_left; focus (intro U hU; (try dsimp only at hU); go_simp; try (with_reducible rfl))
  simp only [gt6, Act.put]
  refine wpAnyH_ready (rs := [1, 5, 8]) (by kernel_rfl) (by simp) ?_
  refine (AllReadyH.cons rfl (fun K hK => ?_) (AllReadyH.cons rfl (fun K hK => ?_) (AllReadyH.cons rfl (fun K hK => ?_) AllReadyH.nil)))
  · skip
    simp only [gt3]
    go_simp
    refine hK.out _ _ ?_ (fun hHeld2 => ?_)
    focus
      exact hS _ (Tch.of_below (hk0.alloc hk0.size _))
    clear hHeld
    have hHeld := hHeld2
    clear hHeld2 hK K
    try simp only [gt6, Act.put]
    have gg : Below (World.heap m0).size m0 (World.alloc m0 (.cells #[] 46 (0, 0))) := (Below.refl _ _).alloc (Nat.le_refl _) _
    have hq1 : Below k3.heap.size k3 (World.alloc m0 (.cells #[] 46 (0, 0))) := hk0.trans (gg.mono hk0.size)
    have hE := own_mono (own_empty m0 46 7) hk0.size
    replace q1 := cellb gg q1
    clear gg
    generalize World.alloc m0 (.cells #[] 46 (0, 0)) = u1 at *
    generalize (World.heap m0).size = E9 at *
    refine wpAnyH_ready (rs := [5, 8]) (by kernel_rfl) (by simp) ?_
    refine (AllReadyH.cons rfl (fun K hK => ?_) (AllReadyH.cons rfl (fun K hK => ?_) AllReadyH.nil))
    · skip
      simp only [gt3]
      go_simp
      refine hK.out _ _ ?_ (fun hHeld2 => ?_)
      focus
        exact hS _ (Tch.of_below hq1)
      clear hHeld
      have hHeld := hHeld2
      clear hHeld2 hK K
      try simp only [gt6, Act.put]
      refine wpAnyH_ready (rs := [6, 8]) (by kernel_rfl) (by simp) ?_
      refine (AllReadyH.cons rfl (fun K hK => ?_) (AllReadyH.cons rfl (fun K hK => ?_) AllReadyH.nil))
      · skip
        refine step_append_sl rfl (.tmp 29) (.tmp 33) 67 rfl k3.heap.size 46 Tryz.underlying67 info_rec rfl (by omega) rfl hE rfl (sl_own (own_keep HR3.out.1 hq1)) (ecells_one els) ?f1 ?f2 hq1.size ?_
        case f1 => unfold maxLen; omega
        case f2 => omega
        intro v5 u6 ho5 ht5 hgz5 hkp5
        have hq6 : Below k3.heap.size k3 u6 := hq1.trans ht5
        try simp only [Nat.zero_add, List.nil_append] at ho5
        have hS2 := hS _ (Tch.of_below hq6)
        refine hK.out _ _ ?_ (fun hHeld2 => ?_)
        focus
          exact hS2
        clear hHeld
        have hHeld := hHeld2
        clear hHeld2 hK K
        try simp only [gt6, Act.put]
        refine wpAnyH_ready (rs := [8]) (by kernel_rfl) (by simp) ?_
        refine (AllReadyH.cons rfl (fun K hK => ?_) AllReadyH.nil)
        simp only [gt3]
        go_simp
        refine hK.out _ _ ?_ (fun hHeld2 => ?_)
        focus
          exact hS _ (Tch.of_below (hq6.alloc hq6.size _))
        clear hHeld
        have hHeld := hHeld2
        clear hHeld2 hK K
        try simp only [gt6, Act.put]
        have gg : Below (World.heap u6).size u6 (World.alloc u6 (.cells #[.int .i64 k, .int .i64 j, .int .i64 t, .int .i64 wk, .int .i64 s, .int .i64 ep, .slice Ax ns.length cx] 46 (0, 0))) := (Below.refl _ _).alloc (Nat.le_refl _) _
        have hq8 : Below k3.heap.size k3 (World.alloc u6 (.cells #[.int .i64 k, .int .i64 j, .int .i64 t, .int .i64 wk, .int .i64 s, .int .i64 ep, .slice Ax ns.length cx] 46 (0, 0))) := hq6.trans (gg.mono hq6.size)
        have hx9 := heap_alloc_new u6 (.cells #[.int .i64 k, .int .i64 j, .int .i64 t, .int .i64 wk, .int .i64 s, .int .i64 ep, .slice Ax ns.length cx] 46 (0, 0))
        have hXN : k3.heap.size ≤ (World.heap u6).size := hq6.size
        replace ho5 := own_keep ho5 gg
        clear gg
        generalize World.alloc u6 (.cells #[.int .i64 k, .int .i64 j, .int .i64 t, .int .i64 wk, .int .i64 s, .int .i64 ep, .slice Ax ns.length cx] 46 (0, 0)) = u8 at *
        generalize (World.heap u6).size = N9 at *
        refine wpAnyH_ready (rs := [9]) (by kernel_rfl) (by simp) ?_
        refine (AllReadyH.cons rfl (fun K hK => ?_) AllReadyH.nil)
        refine step_append_sl rfl (.tmp 34) (.tmp 36) 67 rfl k3.heap.size 46 Tryz.underlying67 info_rec rfl (by omega) rfl ho5 rfl (sl_blk7 hx9) (by simp [Value.oneCell']) ?f3 ?f4 hq8.size ?_
        case f3 => unfold maxLen; omega
        case f4 => omega
        intro v6 w6 ho6 ht6 _ _
        have hk6 : Below k3.heap.size k3 w6 := hq8.trans ht6
        clear ht6 ho5 hx9
        obtain ⟨A6, c6, rfl, _⟩ := Sl.of_own ho6
        have HG6 := keep0 HG3.out hk6
        obtain ⟨⟨r0, r1, r2⟩, g0, g1, g2⟩ := three_cellsA HG6
        have hk7 : Tch (fun g => g = G) k3 (w6.setCell ⟨G, 1, none⟩ (.slice A6 (els.length + 1) c6)) := (Tch.of_below hk6).set G 1 _ (fun _ => rfl)
        refine hK.out _ _ ?_ (fun hHeld2 => ?_)
        focus
          exact hS _ (Tch.of_below hk6)
        clear hHeld
        have hHeld := hHeld2
        clear hHeld2 hK K
        try simp only [gt6, Act.put]
        refine tkA 10 ?_ rfl ?_ (by assumption) ?_; rotate_left; focus (intro U hU; (try dsimp only at hU); go_simp; try (with_reducible rfl))
        simp only [gt6, Act.put]
        refine tkA 11 ?_ rfl ?_ (by assumption) ?_; rotate_left; focus (intro U hU; (try dsimp only at hU); go_simp; try (with_reducible rfl))
        simp only [gt6, Act.put]
        refine wpAnyH_ready (rs := [12]) (by kernel_rfl) (by simp) ?_
        refine (AllReadyH.cons rfl (fun K hK => ?_) AllReadyH.nil)
        simp only [gt3]
        go_simp
        refine hK.out _ _ ?_ (fun hHeld2 => ?_)
        focus
          exact hS _ hk7
        clear hHeld
        have hHeld := hHeld2
        clear hHeld2 hK K
        try simp only [gt6, Act.put]
        refine wpAnyH_done (by kernel_rfl) ?_ _
        have HLE : (els ++ [(Rc.mk k j t wk s ep ns, Ax, cx)]).length = els.length + 1 := by rw [List.length_append]; rfl
        have HTS := tch_set w6 G 1 (.slice A6 (els.length + 1) c6)
        have HG7 : (w6.setCell ⟨G, 1, none⟩ (.slice A6 (els.length + 1) c6)).heap[G]? = some (.cells #[.pointer (some ⟨M, 0, none⟩), .slice A6 (els.length + 1) c6, .bool false] 69 (0, 0)) := by rw [heap_setCell_same w6 G 1 _ _ (.slice A6 (els.length + 1) c6) HG6]; rfl
        have HK7 : RkAt (w6.setCell ⟨G, 1, none⟩ (.slice A6 (els.length + 1) c6)) M room l2 fu2 := HTS.block (keep0 HK3.out hk6) (Ne.symm hGM)
        have HO7 := HTS.own ho6 (fun g hg h9 => own_apart_blk ho6 HG6 (by decide) g hg h9)
        have HR7 := HRI.out _ hk7
        have HFB : ∀ g, (Value.slice A6 (els.length + 1) c6).ownBlock = some g → W.heap.size ≤ g := fun g hg => by
          have h7 := (own_lt ho6 g hg).1
          have h8 := HNN.out
          omega
        have HT7 := HTW.out.trans hk7 (fun g hg _ => .inr hg)
        have HFIN : ∃ A' c' els', els'.map (·.1) = els.map (·.1) ++ [Rc.mk k j t wk s ep ns] ∧ RnAt W0 (w6.setCell ⟨G, 1, none⟩ (.slice A6 (els.length + 1) c6)) b G M room l2 fu2 A' c' els' false ∧ Tch (fun g => g = M ∨ g = G) W (w6.setCell ⟨G, 1, none⟩ (.slice A6 (els.length + 1) c6)) ∧ ((Value.slice A' els'.length c').ownBlock = (Value.slice A els.length c).ownBlock ∨ ∀ g, (Value.slice A' els'.length c').ownBlock = some g → W.heap.size ≤ g) := ⟨A6, c6, els ++ [(Rc.mk k j t wk s ep ns, Ax, cx)], by rw [List.map_append]; rfl, ⟨by rw [HLE]; exact HG7, HK7, ⟨by rw [HLE, ecells_snoc]; exact own_mono HO7 (by have := HNN.out; omega), fun e he => by
          rcases List.mem_append.1 he with he | he
          · exact HR7.2 e he
          · obtain rfl : e = (Rc.mk k j t wk s ep ns, Ax, cx) := by simpa using he
            exact .inr HX0.out⟩⟩, HT7, .inr (by rw [HLE]; exact HFB)⟩
        have HFN := hid HFIN
        clear hHeld hS r0 r1 r2 g0 g1 g2 HFIN HT7 HFB HR7 HO7 HK7 HG7 HTS HLE hk7 HG6 ho6 hk6
        go_wp2
        go_ret
        exact ⟨rfl, HFN.out⟩
      · skip
        simp only [gt3]
        go_simp
        refine hK.out _ _ ?_ (fun hHeld2 => ?_)
        focus
          exact hS _ (Tch.of_below (hq1.alloc hq1.size _))
        clear hHeld
        have hHeld := hHeld2
        clear hHeld2 hK K
        try simp only [gt6, Act.put]
        have gg : Below (World.heap u1).size u1 (World.alloc u1 (.cells #[.int .i64 k, .int .i64 j, .int .i64 t, .int .i64 wk, .int .i64 s, .int .i64 ep, .slice Ax ns.length cx] 46 (0, 0))) := (Below.refl _ _).alloc (Nat.le_refl _) _
        have hq7 : Below k3.heap.size k3 (World.alloc u1 (.cells #[.int .i64 k, .int .i64 j, .int .i64 t, .int .i64 wk, .int .i64 s, .int .i64 ep, .slice Ax ns.length cx] 46 (0, 0))) := hq1.trans (gg.mono hq1.size)
        have hx9 := heap_alloc_new u1 (.cells #[.int .i64 k, .int .i64 j, .int .i64 t, .int .i64 wk, .int .i64 s, .int .i64 ep, .slice Ax ns.length cx] 46 (0, 0))
        have hXN : k3.heap.size ≤ (World.heap u1).size := hq1.size
        have hEN : (Value.slice (some ⟨E9, 0, none⟩) 0 0).ownBlock ≠ some (World.heap u1).size := by
          have := (own_lt hE E9 rfl).2.1
          simp only [Value.ownBlock, Option.map_some, ne_eq, Option.some.injEq]
          omega
        replace hE := own_keep hE gg
        clear gg
        generalize World.alloc u1 (.cells #[.int .i64 k, .int .i64 j, .int .i64 t, .int .i64 wk, .int .i64 s, .int .i64 ep, .slice Ax ns.length cx] 46 (0, 0)) = u7 at *
        generalize (World.heap u1).size = N9 at *
        refine wpAnyH_ready (rs := [6]) (by kernel_rfl) (by simp) ?_
        refine (AllReadyH.cons rfl (fun K hK => ?_) AllReadyH.nil)
        refine step_append_sl rfl (.tmp 29) (.tmp 33) 67 rfl k3.heap.size 46 Tryz.underlying67 info_rec rfl (by omega) rfl hE rfl (sl_own (own_keep HR3.out.1 hq7)) (ecells_one els) ?f1 ?f2 hq7.size ?_
        case f1 => unfold maxLen; omega
        case f2 => omega
        intro v5 u9 ho5 ht5 hgz5 hkp5
        have hq9 : Below k3.heap.size k3 u9 := hq7.trans ht5
        try simp only [Nat.zero_add, List.nil_append] at ho5
        have hS2 := hS _ (Tch.of_below hq9)
        replace hx9 : u9.heap[N9]? = some (.cells #[.int .i64 k, .int .i64 j, .int .i64 t, .int .i64 wk, .int .i64 s, .int .i64 ep, .slice Ax ns.length cx] 46 (0, 0)) := (hkp5 N9 hXN (lt_of_block hx9) hEN).trans hx9
        refine hK.out _ _ ?_ (fun hHeld2 => ?_)
        focus
          exact hS2
        clear hHeld
        have hHeld := hHeld2
        clear hHeld2 hK K
        try simp only [gt6, Act.put]
        refine wpAnyH_ready (rs := [9]) (by kernel_rfl) (by simp) ?_
        refine (AllReadyH.cons rfl (fun K hK => ?_) AllReadyH.nil)
        refine step_append_sl rfl (.tmp 34) (.tmp 36) 67 rfl k3.heap.size 46 Tryz.underlying67 info_rec rfl (by omega) rfl ho5 rfl (sl_blk7 hx9) (by simp [Value.oneCell']) ?f3 ?f4 hq9.size ?_
        case f3 => unfold maxLen; omega
        case f4 => omega
        intro v6 w6 ho6 ht6 _ _
        have hk6 : Below k3.heap.size k3 w6 := hq9.trans ht6
        clear ht6 ho5 hx9
        obtain ⟨A6, c6, rfl, _⟩ := Sl.of_own ho6
        have HG6 := keep0 HG3.out hk6
        obtain ⟨⟨r0, r1, r2⟩, g0, g1, g2⟩ := three_cellsA HG6
        have hk7 : Tch (fun g => g = G) k3 (w6.setCell ⟨G, 1, none⟩ (.slice A6 (els.length + 1) c6)) := (Tch.of_below hk6).set G 1 _ (fun _ => rfl)
        refine hK.out _ _ ?_ (fun hHeld2 => ?_)
        focus
          exact hS _ (Tch.of_below hk6)
        clear hHeld
        have hHeld := hHeld2
        clear hHeld2 hK K
        try simp only [gt6, Act.put]
        refine tkA 10 ?_ rfl ?_ (by assumption) ?_; rotate_left; focus (intro U hU; (try dsimp only at hU); go_simp; try (with_reducible rfl))
        simp only [gt6, Act.put]
        refine tkA 11 ?_ rfl ?_ (by assumption) ?_; rotate_left; focus (intro U hU; (try dsimp only at hU); go_simp; try (with_reducible rfl))
        simp only [gt6, Act.put]
        refine wpAnyH_ready (rs := [12]) (by kernel_rfl) (by simp) ?_
        refine (AllReadyH.cons rfl (fun K hK => ?_) AllReadyH.nil)
        simp only [gt3]
        go_simp
        refine hK.out _ _ ?_ (fun hHeld2 => ?_)
        focus
          exact hS _ hk7
        clear hHeld
        have hHeld := hHeld2
        clear hHeld2 hK K
        try simp only [gt6, Act.put]
        refine wpAnyH_done (by kernel_rfl) ?_ _
        have HLE : (els ++ [(Rc.mk k j t wk s ep ns, Ax, cx)]).length = els.length + 1 := by rw [List.length_append]; rfl
        have HTS := tch_set w6 G 1 (.slice A6 (els.length + 1) c6)
        have HG7 : (w6.setCell ⟨G, 1, none⟩ (.slice A6 (els.length + 1) c6)).heap[G]? = some (.cells #[.pointer (some ⟨M, 0, none⟩), .slice A6 (els.length + 1) c6, .bool false] 69 (0, 0)) := by rw [heap_setCell_same w6 G 1 _ _ (.slice A6 (els.length + 1) c6) HG6]; rfl
        have HK7 : RkAt (w6.setCell ⟨G, 1, none⟩ (.slice A6 (els.length + 1) c6)) M room l2 fu2 := HTS.block (keep0 HK3.out hk6) (Ne.symm hGM)
        have HO7 := HTS.own ho6 (fun g hg h9 => own_apart_blk ho6 HG6 (by decide) g hg h9)
        have HR7 := HRI.out _ hk7
        have HFB : ∀ g, (Value.slice A6 (els.length + 1) c6).ownBlock = some g → W.heap.size ≤ g := fun g hg => by
          have h7 := (own_lt ho6 g hg).1
          have h8 := HNN.out
          omega
        have HT7 := HTW.out.trans hk7 (fun g hg _ => .inr hg)
        have HFIN : ∃ A' c' els', els'.map (·.1) = els.map (·.1) ++ [Rc.mk k j t wk s ep ns] ∧ RnAt W0 (w6.setCell ⟨G, 1, none⟩ (.slice A6 (els.length + 1) c6)) b G M room l2 fu2 A' c' els' false ∧ Tch (fun g => g = M ∨ g = G) W (w6.setCell ⟨G, 1, none⟩ (.slice A6 (els.length + 1) c6)) ∧ ((Value.slice A' els'.length c').ownBlock = (Value.slice A els.length c).ownBlock ∨ ∀ g, (Value.slice A' els'.length c').ownBlock = some g → W.heap.size ≤ g) := ⟨A6, c6, els ++ [(Rc.mk k j t wk s ep ns, Ax, cx)], by rw [List.map_append]; rfl, ⟨by rw [HLE]; exact HG7, HK7, ⟨by rw [HLE, ecells_snoc]; exact own_mono HO7 (by have := HNN.out; omega), fun e he => by
          rcases List.mem_append.1 he with he | he
          · exact HR7.2 e he
          · obtain rfl : e = (Rc.mk k j t wk s ep ns, Ax, cx) := by simpa using he
            exact .inr HX0.out⟩⟩, HT7, .inr (by rw [HLE]; exact HFB)⟩
        have HFN := hid HFIN
        clear hHeld hS r0 r1 r2 g0 g1 g2 HFIN HT7 HFB HR7 HO7 HK7 HG7 HTS HLE hk7 HG6 ho6 hk6
        go_wp2
        go_ret
        exact ⟨rfl, HFN.out⟩
    · skip
      simp only [gt3]
      go_simp
      refine hK.out _ _ ?_ (fun hHeld2 => ?_)
      focus
        exact hS _ (Tch.of_below (hq1.alloc hq1.size _))
      clear hHeld
      have hHeld := hHeld2
      clear hHeld2 hK K
      try simp only [gt6, Act.put]
      have gg : Below (World.heap u1).size u1 (World.alloc u1 (.cells #[.int .i64 k, .int .i64 j, .int .i64 t, .int .i64 wk, .int .i64 s, .int .i64 ep, .slice Ax ns.length cx] 46 (0, 0))) := (Below.refl _ _).alloc (Nat.le_refl _) _
      have hq5 : Below k3.heap.size k3 (World.alloc u1 (.cells #[.int .i64 k, .int .i64 j, .int .i64 t, .int .i64 wk, .int .i64 s, .int .i64 ep, .slice Ax ns.length cx] 46 (0, 0))) := hq1.trans (gg.mono hq1.size)
      have hx9 := heap_alloc_new u1 (.cells #[.int .i64 k, .int .i64 j, .int .i64 t, .int .i64 wk, .int .i64 s, .int .i64 ep, .slice Ax ns.length cx] 46 (0, 0))
      have hXN : k3.heap.size ≤ (World.heap u1).size := hq1.size
      have hEN : (Value.slice (some ⟨E9, 0, none⟩) 0 0).ownBlock ≠ some (World.heap u1).size := by
        have := (own_lt hE E9 rfl).2.1
        simp only [Value.ownBlock, Option.map_some, ne_eq, Option.some.injEq]
        omega
      replace q1 := cellb gg q1
      replace hE := own_keep hE gg
      clear gg
      generalize World.alloc u1 (.cells #[.int .i64 k, .int .i64 j, .int .i64 t, .int .i64 wk, .int .i64 s, .int .i64 ep, .slice Ax ns.length cx] 46 (0, 0)) = u5 at *
      generalize (World.heap u1).size = N9 at *
      refine wpAnyH_ready (rs := [5]) (by kernel_rfl) (by simp) ?_
      refine (AllReadyH.cons rfl (fun K hK => ?_) AllReadyH.nil)
      simp only [gt3]
      go_simp
      refine hK.out _ _ ?_ (fun hHeld2 => ?_)
      focus
        exact hS _ (Tch.of_below hq5)
      clear hHeld
      have hHeld := hHeld2
      clear hHeld2 hK K
      try simp only [gt6, Act.put]
      refine wpAnyH_ready (rs := [6]) (by kernel_rfl) (by simp) ?_
      refine (AllReadyH.cons rfl (fun K hK => ?_) AllReadyH.nil)
      refine step_append_sl rfl (.tmp 29) (.tmp 33) 67 rfl k3.heap.size 46 Tryz.underlying67 info_rec rfl (by omega) rfl hE rfl (sl_own (own_keep HR3.out.1 hq5)) (ecells_one els) ?f1 ?f2 hq5.size ?_
      case f1 => unfold maxLen; omega
      case f2 => omega
      intro v5 u11 ho5 ht5 hgz5 hkp5
      have hq11 : Below k3.heap.size k3 u11 := hq5.trans ht5
      try simp only [Nat.zero_add, List.nil_append] at ho5
      have hS2 := hS _ (Tch.of_below hq11)
      replace hx9 : u11.heap[N9]? = some (.cells #[.int .i64 k, .int .i64 j, .int .i64 t, .int .i64 wk, .int .i64 s, .int .i64 ep, .slice Ax ns.length cx] 46 (0, 0)) := (hkp5 N9 hXN (lt_of_block hx9) hEN).trans hx9
      refine hK.out _ _ ?_ (fun hHeld2 => ?_)
      focus
        exact hS2
      clear hHeld
      have hHeld := hHeld2
      clear hHeld2 hK K
      try simp only [gt6, Act.put]
      refine wpAnyH_ready (rs := [9]) (by kernel_rfl) (by simp) ?_
      refine (AllReadyH.cons rfl (fun K hK => ?_) AllReadyH.nil)
      refine step_append_sl rfl (.tmp 34) (.tmp 36) 67 rfl k3.heap.size 46 Tryz.underlying67 info_rec rfl (by omega) rfl ho5 rfl (sl_blk7 hx9) (by simp [Value.oneCell']) ?f3 ?f4 hq11.size ?_
      case f3 => unfold maxLen; omega
      case f4 => omega
      intro v6 w6 ho6 ht6 _ _
      have hk6 : Below k3.heap.size k3 w6 := hq11.trans ht6
      clear ht6 ho5 hx9
      obtain ⟨A6, c6, rfl, _⟩ := Sl.of_own ho6
      have HG6 := keep0 HG3.out hk6
      obtain ⟨⟨r0, r1, r2⟩, g0, g1, g2⟩ := three_cellsA HG6
      have hk7 : Tch (fun g => g = G) k3 (w6.setCell ⟨G, 1, none⟩ (.slice A6 (els.length + 1) c6)) := (Tch.of_below hk6).set G 1 _ (fun _ => rfl)
      refine hK.out _ _ ?_ (fun hHeld2 => ?_)
      focus
        exact hS _ (Tch.of_below hk6)
      clear hHeld
      have hHeld := hHeld2
      clear hHeld2 hK K
      try simp only [gt6, Act.put]
      refine tkA 10 ?_ rfl ?_ (by assumption) ?_; rotate_left; focus (intro U hU; (try dsimp only at hU); go_simp; try (with_reducible rfl))
      simp only [gt6, Act.put]
      refine tkA 11 ?_ rfl ?_ (by assumption) ?_; rotate_left; focus (intro U hU; (try dsimp only at hU); go_simp; try (with_reducible rfl))
      simp only [gt6, Act.put]
      refine wpAnyH_ready (rs := [12]) (by kernel_rfl) (by simp) ?_
      refine (AllReadyH.cons rfl (fun K hK => ?_) AllReadyH.nil)
      simp only [gt3]
      go_simp
      refine hK.out _ _ ?_ (fun hHeld2 => ?_)
      focus
        exact hS _ hk7
      clear hHeld
      have hHeld := hHeld2
      clear hHeld2 hK K
      try simp only [gt6, Act.put]
      refine wpAnyH_done (by kernel_rfl) ?_ _
      have HLE : (els ++ [(Rc.mk k j t wk s ep ns, Ax, cx)]).length = els.length + 1 := by rw [List.length_append]; rfl
      have HTS := tch_set w6 G 1 (.slice A6 (els.length + 1) c6)
      have HG7 : (w6.setCell ⟨G, 1, none⟩ (.slice A6 (els.length + 1) c6)).heap[G]? = some (.cells #[.pointer (some ⟨M, 0, none⟩), .slice A6 (els.length + 1) c6, .bool false] 69 (0, 0)) := by rw [heap_setCell_same w6 G 1 _ _ (.slice A6 (els.length + 1) c6) HG6]; rfl
      have HK7 : RkAt (w6.setCell ⟨G, 1, none⟩ (.slice A6 (els.length + 1) c6)) M room l2 fu2 := HTS.block (keep0 HK3.out hk6) (Ne.symm hGM)
      have HO7 := HTS.own ho6 (fun g hg h9 => own_apart_blk ho6 HG6 (by decide) g hg h9)
      have HR7 := HRI.out _ hk7
      have HFB : ∀ g, (Value.slice A6 (els.length + 1) c6).ownBlock = some g → W.heap.size ≤ g := fun g hg => by
        have h7 := (own_lt ho6 g hg).1
        have h8 := HNN.out
        omega
      have HT7 := HTW.out.trans hk7 (fun g hg _ => .inr hg)
      have HFIN : ∃ A' c' els', els'.map (·.1) = els.map (·.1) ++ [Rc.mk k j t wk s ep ns] ∧ RnAt W0 (w6.setCell ⟨G, 1, none⟩ (.slice A6 (els.length + 1) c6)) b G M room l2 fu2 A' c' els' false ∧ Tch (fun g => g = M ∨ g = G) W (w6.setCell ⟨G, 1, none⟩ (.slice A6 (els.length + 1) c6)) ∧ ((Value.slice A' els'.length c').ownBlock = (Value.slice A els.length c).ownBlock ∨ ∀ g, (Value.slice A' els'.length c').ownBlock = some g → W.heap.size ≤ g) := ⟨A6, c6, els ++ [(Rc.mk k j t wk s ep ns, Ax, cx)], by rw [List.map_append]; rfl, ⟨by rw [HLE]; exact HG7, HK7, ⟨by rw [HLE, ecells_snoc]; exact own_mono HO7 (by have := HNN.out; omega), fun e he => by
        rcases List.mem_append.1 he with he | he
        · exact HR7.2 e he
        · obtain rfl : e = (Rc.mk k j t wk s ep ns, Ax, cx) := by simpa using he
          exact .inr HX0.out⟩⟩, HT7, .inr (by rw [HLE]; exact HFB)⟩
      have HFN := hid HFIN
      clear hHeld hS r0 r1 r2 g0 g1 g2 HFIN HT7 HFB HR7 HO7 HK7 HG7 HTS HLE hk7 HG6 ho6 hk6
      go_wp2
      go_ret
      exact ⟨rfl, HFN.out⟩
  · skip
    simp only [gt3]
    go_simp
    refine hK.out _ _ ?_ (fun hHeld2 => ?_)
    focus
      exact hS _ (Tch.of_below hk0)
    clear hHeld
    have hHeld := hHeld2
    clear hHeld2 hK K
    try simp only [gt6, Act.put]
    refine wpAnyH_ready (rs := [1, 8]) (by kernel_rfl) (by simp) ?_
    refine (AllReadyH.cons rfl (fun K hK => ?_) (AllReadyH.cons rfl (fun K hK => ?_) AllReadyH.nil))
    · skip
      simp only [gt3]
      go_simp
      refine hK.out _ _ ?_ (fun hHeld2 => ?_)
      focus
        exact hS _ (Tch.of_below (hk0.alloc hk0.size _))
      clear hHeld
      have hHeld := hHeld2
      clear hHeld2 hK K
      try simp only [gt6, Act.put]
      have gg : Below (World.heap m0).size m0 (World.alloc m0 (.cells #[] 46 (0, 0))) := (Below.refl _ _).alloc (Nat.le_refl _) _
      have hq12 : Below k3.heap.size k3 (World.alloc m0 (.cells #[] 46 (0, 0))) := hk0.trans (gg.mono hk0.size)
      have hE := own_mono (own_empty m0 46 7) hk0.size
      clear gg
      generalize World.alloc m0 (.cells #[] 46 (0, 0)) = u12 at *
      generalize (World.heap m0).size = E9 at *
      refine wpAnyH_ready (rs := [6, 8]) (by kernel_rfl) (by simp) ?_
      refine (AllReadyH.cons rfl (fun K hK => ?_) (AllReadyH.cons rfl (fun K hK => ?_) AllReadyH.nil))
      · skip
        refine step_append_sl rfl (.tmp 29) (.tmp 33) 67 rfl k3.heap.size 46 Tryz.underlying67 info_rec rfl (by omega) rfl hE rfl (sl_own (own_keep HR3.out.1 hq12)) (ecells_one els) ?f1 ?f2 hq12.size ?_
        case f1 => unfold maxLen; omega
        case f2 => omega
        intro v5 u14 ho5 ht5 hgz5 hkp5
        have hq14 : Below k3.heap.size k3 u14 := hq12.trans ht5
        try simp only [Nat.zero_add, List.nil_append] at ho5
        have hS2 := hS _ (Tch.of_below hq14)
        refine hK.out _ _ ?_ (fun hHeld2 => ?_)
        focus
          exact hS2
        clear hHeld
        have hHeld := hHeld2
        clear hHeld2 hK K
        try simp only [gt6, Act.put]
        refine wpAnyH_ready (rs := [8]) (by kernel_rfl) (by simp) ?_
        refine (AllReadyH.cons rfl (fun K hK => ?_) AllReadyH.nil)
        simp only [gt3]
        go_simp
        refine hK.out _ _ ?_ (fun hHeld2 => ?_)
        focus
          exact hS _ (Tch.of_below (hq14.alloc hq14.size _))
        clear hHeld
        have hHeld := hHeld2
        clear hHeld2 hK K
        try simp only [gt6, Act.put]
        have gg : Below (World.heap u14).size u14 (World.alloc u14 (.cells #[.int .i64 k, .int .i64 j, .int .i64 t, .int .i64 wk, .int .i64 s, .int .i64 ep, .slice Ax ns.length cx] 46 (0, 0))) := (Below.refl _ _).alloc (Nat.le_refl _) _
        have hq16 : Below k3.heap.size k3 (World.alloc u14 (.cells #[.int .i64 k, .int .i64 j, .int .i64 t, .int .i64 wk, .int .i64 s, .int .i64 ep, .slice Ax ns.length cx] 46 (0, 0))) := hq14.trans (gg.mono hq14.size)
        have hx9 := heap_alloc_new u14 (.cells #[.int .i64 k, .int .i64 j, .int .i64 t, .int .i64 wk, .int .i64 s, .int .i64 ep, .slice Ax ns.length cx] 46 (0, 0))
        have hXN : k3.heap.size ≤ (World.heap u14).size := hq14.size
        replace ho5 := own_keep ho5 gg
        clear gg
        generalize World.alloc u14 (.cells #[.int .i64 k, .int .i64 j, .int .i64 t, .int .i64 wk, .int .i64 s, .int .i64 ep, .slice Ax ns.length cx] 46 (0, 0)) = u16 at *
        generalize (World.heap u14).size = N9 at *
        refine wpAnyH_ready (rs := [9]) (by kernel_rfl) (by simp) ?_
        refine (AllReadyH.cons rfl (fun K hK => ?_) AllReadyH.nil)
        refine step_append_sl rfl (.tmp 34) (.tmp 36) 67 rfl k3.heap.size 46 Tryz.underlying67 info_rec rfl (by omega) rfl ho5 rfl (sl_blk7 hx9) (by simp [Value.oneCell']) ?f3 ?f4 hq16.size ?_
        case f3 => unfold maxLen; omega
        case f4 => omega
        intro v6 w6 ho6 ht6 _ _
        have hk6 : Below k3.heap.size k3 w6 := hq16.trans ht6
        clear ht6 ho5 hx9
        obtain ⟨A6, c6, rfl, _⟩ := Sl.of_own ho6
        have HG6 := keep0 HG3.out hk6
        obtain ⟨⟨r0, r1, r2⟩, g0, g1, g2⟩ := three_cellsA HG6
        have hk7 : Tch (fun g => g = G) k3 (w6.setCell ⟨G, 1, none⟩ (.slice A6 (els.length + 1) c6)) := (Tch.of_below hk6).set G 1 _ (fun _ => rfl)
        refine hK.out _ _ ?_ (fun hHeld2 => ?_)
        focus
          exact hS _ (Tch.of_below hk6)
        clear hHeld
        have hHeld := hHeld2
        clear hHeld2 hK K
        try simp only [gt6, Act.put]
        refine tkA 10 ?_ rfl ?_ (by assumption) ?_; rotate_left; focus (intro U hU; (try dsimp only at hU); go_simp; try (with_reducible rfl))
        simp only [gt6, Act.put]
        refine tkA 11 ?_ rfl ?_ (by assumption) ?_; rotate_left; focus (intro U hU; (try dsimp only at hU); go_simp; try (with_reducible rfl))
        simp only [gt6, Act.put]
        refine wpAnyH_ready (rs := [12]) (by kernel_rfl) (by simp) ?_
        refine (AllReadyH.cons rfl (fun K hK => ?_) AllReadyH.nil)
        simp only [gt3]
        go_simp
        refine hK.out _ _ ?_ (fun hHeld2 => ?_)
        focus
          exact hS _ hk7
        clear hHeld
        have hHeld := hHeld2
        clear hHeld2 hK K
        try simp only [gt6, Act.put]
        refine wpAnyH_done (by kernel_rfl) ?_ _
        have HLE : (els ++ [(Rc.mk k j t wk s ep ns, Ax, cx)]).length = els.length + 1 := by rw [List.length_append]; rfl
        have HTS := tch_set w6 G 1 (.slice A6 (els.length + 1) c6)
        have HG7 : (w6.setCell ⟨G, 1, none⟩ (.slice A6 (els.length + 1) c6)).heap[G]? = some (.cells #[.pointer (some ⟨M, 0, none⟩), .slice A6 (els.length + 1) c6, .bool false] 69 (0, 0)) := by rw [heap_setCell_same w6 G 1 _ _ (.slice A6 (els.length + 1) c6) HG6]; rfl
        have HK7 : RkAt (w6.setCell ⟨G, 1, none⟩ (.slice A6 (els.length + 1) c6)) M room l2 fu2 := HTS.block (keep0 HK3.out hk6) (Ne.symm hGM)
        have HO7 := HTS.own ho6 (fun g hg h9 => own_apart_blk ho6 HG6 (by decide) g hg h9)
        have HR7 := HRI.out _ hk7
        have HFB : ∀ g, (Value.slice A6 (els.length + 1) c6).ownBlock = some g → W.heap.size ≤ g := fun g hg => by
          have h7 := (own_lt ho6 g hg).1
          have h8 := HNN.out
          omega
        have HT7 := HTW.out.trans hk7 (fun g hg _ => .inr hg)
        have HFIN : ∃ A' c' els', els'.map (·.1) = els.map (·.1) ++ [Rc.mk k j t wk s ep ns] ∧ RnAt W0 (w6.setCell ⟨G, 1, none⟩ (.slice A6 (els.length + 1) c6)) b G M room l2 fu2 A' c' els' false ∧ Tch (fun g => g = M ∨ g = G) W (w6.setCell ⟨G, 1, none⟩ (.slice A6 (els.length + 1) c6)) ∧ ((Value.slice A' els'.length c').ownBlock = (Value.slice A els.length c).ownBlock ∨ ∀ g, (Value.slice A' els'.length c').ownBlock = some g → W.heap.size ≤ g) := ⟨A6, c6, els ++ [(Rc.mk k j t wk s ep ns, Ax, cx)], by rw [List.map_append]; rfl, ⟨by rw [HLE]; exact HG7, HK7, ⟨by rw [HLE, ecells_snoc]; exact own_mono HO7 (by have := HNN.out; omega), fun e he => by
          rcases List.mem_append.1 he with he | he
          · exact HR7.2 e he
          · obtain rfl : e = (Rc.mk k j t wk s ep ns, Ax, cx) := by simpa using he
            exact .inr HX0.out⟩⟩, HT7, .inr (by rw [HLE]; exact HFB)⟩
        have HFN := hid HFIN
        clear hHeld hS r0 r1 r2 g0 g1 g2 HFIN HT7 HFB HR7 HO7 HK7 HG7 HTS HLE hk7 HG6 ho6 hk6
        go_wp2
        go_ret
        exact ⟨rfl, HFN.out⟩
      · skip
        simp only [gt3]
        go_simp
        refine hK.out _ _ ?_ (fun hHeld2 => ?_)
        focus
          exact hS _ (Tch.of_below (hq12.alloc hq12.size _))
        clear hHeld
        have hHeld := hHeld2
        clear hHeld2 hK K
        try simp only [gt6, Act.put]
        have gg : Below (World.heap u12).size u12 (World.alloc u12 (.cells #[.int .i64 k, .int .i64 j, .int .i64 t, .int .i64 wk, .int .i64 s, .int .i64 ep, .slice Ax ns.length cx] 46 (0, 0))) := (Below.refl _ _).alloc (Nat.le_refl _) _
        have hq15 : Below k3.heap.size k3 (World.alloc u12 (.cells #[.int .i64 k, .int .i64 j, .int .i64 t, .int .i64 wk, .int .i64 s, .int .i64 ep, .slice Ax ns.length cx] 46 (0, 0))) := hq12.trans (gg.mono hq12.size)
        have hx9 := heap_alloc_new u12 (.cells #[.int .i64 k, .int .i64 j, .int .i64 t, .int .i64 wk, .int .i64 s, .int .i64 ep, .slice Ax ns.length cx] 46 (0, 0))
        have hXN : k3.heap.size ≤ (World.heap u12).size := hq12.size
        have hEN : (Value.slice (some ⟨E9, 0, none⟩) 0 0).ownBlock ≠ some (World.heap u12).size := by
          have := (own_lt hE E9 rfl).2.1
          simp only [Value.ownBlock, Option.map_some, ne_eq, Option.some.injEq]
          omega
        replace hE := own_keep hE gg
        clear gg
        generalize World.alloc u12 (.cells #[.int .i64 k, .int .i64 j, .int .i64 t, .int .i64 wk, .int .i64 s, .int .i64 ep, .slice Ax ns.length cx] 46 (0, 0)) = u15 at *
        generalize (World.heap u12).size = N9 at *
        refine wpAnyH_ready (rs := [6]) (by kernel_rfl) (by simp) ?_
        refine (AllReadyH.cons rfl (fun K hK => ?_) AllReadyH.nil)
        refine step_append_sl rfl (.tmp 29) (.tmp 33) 67 rfl k3.heap.size 46 Tryz.underlying67 info_rec rfl (by omega) rfl hE rfl (sl_own (own_keep HR3.out.1 hq15)) (ecells_one els) ?f1 ?f2 hq15.size ?_
        case f1 => unfold maxLen; omega
        case f2 => omega
        intro v5 u17 ho5 ht5 hgz5 hkp5
        have hq17 : Below k3.heap.size k3 u17 := hq15.trans ht5
        try simp only [Nat.zero_add, List.nil_append] at ho5
        have hS2 := hS _ (Tch.of_below hq17)
        replace hx9 : u17.heap[N9]? = some (.cells #[.int .i64 k, .int .i64 j, .int .i64 t, .int .i64 wk, .int .i64 s, .int .i64 ep, .slice Ax ns.length cx] 46 (0, 0)) := (hkp5 N9 hXN (lt_of_block hx9) hEN).trans hx9
        refine hK.out _ _ ?_ (fun hHeld2 => ?_)
        focus
          exact hS2
        clear hHeld
        have hHeld := hHeld2
        clear hHeld2 hK K
        try simp only [gt6, Act.put]
        refine wpAnyH_ready (rs := [9]) (by kernel_rfl) (by simp) ?_
        refine (AllReadyH.cons rfl (fun K hK => ?_) AllReadyH.nil)
        refine step_append_sl rfl (.tmp 34) (.tmp 36) 67 rfl k3.heap.size 46 Tryz.underlying67 info_rec rfl (by omega) rfl ho5 rfl (sl_blk7 hx9) (by simp [Value.oneCell']) ?f3 ?f4 hq17.size ?_
        case f3 => unfold maxLen; omega
        case f4 => omega
        intro v6 w6 ho6 ht6 _ _
        have hk6 : Below k3.heap.size k3 w6 := hq17.trans ht6
        clear ht6 ho5 hx9
        obtain ⟨A6, c6, rfl, _⟩ := Sl.of_own ho6
        have HG6 := keep0 HG3.out hk6
        obtain ⟨⟨r0, r1, r2⟩, g0, g1, g2⟩ := three_cellsA HG6
        have hk7 : Tch (fun g => g = G) k3 (w6.setCell ⟨G, 1, none⟩ (.slice A6 (els.length + 1) c6)) := (Tch.of_below hk6).set G 1 _ (fun _ => rfl)
        refine hK.out _ _ ?_ (fun hHeld2 => ?_)
        focus
          exact hS _ (Tch.of_below hk6)
        clear hHeld
        have hHeld := hHeld2
        clear hHeld2 hK K
        try simp only [gt6, Act.put]
        refine tkA 10 ?_ rfl ?_ (by assumption) ?_; rotate_left; focus (intro U hU; (try dsimp only at hU); go_simp; try (with_reducible rfl))
        simp only [gt6, Act.put]
        refine tkA 11 ?_ rfl ?_ (by assumption) ?_; rotate_left; focus (intro U hU; (try dsimp only at hU); go_simp; try (with_reducible rfl))
        simp only [gt6, Act.put]
        refine wpAnyH_ready (rs := [12]) (by kernel_rfl) (by simp) ?_
        refine (AllReadyH.cons rfl (fun K hK => ?_) AllReadyH.nil)
        simp only [gt3]
        go_simp
        refine hK.out _ _ ?_ (fun hHeld2 => ?_)
        focus
          exact hS _ hk7
        clear hHeld
        have hHeld := hHeld2
        clear hHeld2 hK K
        try simp only [gt6, Act.put]
        refine wpAnyH_done (by kernel_rfl) ?_ _
        have HLE : (els ++ [(Rc.mk k j t wk s ep ns, Ax, cx)]).length = els.length + 1 := by rw [List.length_append]; rfl
        have HTS := tch_set w6 G 1 (.slice A6 (els.length + 1) c6)
        have HG7 : (w6.setCell ⟨G, 1, none⟩ (.slice A6 (els.length + 1) c6)).heap[G]? = some (.cells #[.pointer (some ⟨M, 0, none⟩), .slice A6 (els.length + 1) c6, .bool false] 69 (0, 0)) := by rw [heap_setCell_same w6 G 1 _ _ (.slice A6 (els.length + 1) c6) HG6]; rfl
        have HK7 : RkAt (w6.setCell ⟨G, 1, none⟩ (.slice A6 (els.length + 1) c6)) M room l2 fu2 := HTS.block (keep0 HK3.out hk6) (Ne.symm hGM)
        have HO7 := HTS.own ho6 (fun g hg h9 => own_apart_blk ho6 HG6 (by decide) g hg h9)
        have HR7 := HRI.out _ hk7
        have HFB : ∀ g, (Value.slice A6 (els.length + 1) c6).ownBlock = some g → W.heap.size ≤ g := fun g hg => by
          have h7 := (own_lt ho6 g hg).1
          have h8 := HNN.out
          omega
        have HT7 := HTW.out.trans hk7 (fun g hg _ => .inr hg)
        have HFIN : ∃ A' c' els', els'.map (·.1) = els.map (·.1) ++ [Rc.mk k j t wk s ep ns] ∧ RnAt W0 (w6.setCell ⟨G, 1, none⟩ (.slice A6 (els.length + 1) c6)) b G M room l2 fu2 A' c' els' false ∧ Tch (fun g => g = M ∨ g = G) W (w6.setCell ⟨G, 1, none⟩ (.slice A6 (els.length + 1) c6)) ∧ ((Value.slice A' els'.length c').ownBlock = (Value.slice A els.length c).ownBlock ∨ ∀ g, (Value.slice A' els'.length c').ownBlock = some g → W.heap.size ≤ g) := ⟨A6, c6, els ++ [(Rc.mk k j t wk s ep ns, Ax, cx)], by rw [List.map_append]; rfl, ⟨by rw [HLE]; exact HG7, HK7, ⟨by rw [HLE, ecells_snoc]; exact own_mono HO7 (by have := HNN.out; omega), fun e he => by
          rcases List.mem_append.1 he with he | he
          · exact HR7.2 e he
          · obtain rfl : e = (Rc.mk k j t wk s ep ns, Ax, cx) := by simpa using he
            exact .inr HX0.out⟩⟩, HT7, .inr (by rw [HLE]; exact HFB)⟩
        have HFN := hid HFIN
        clear hHeld hS r0 r1 r2 g0 g1 g2 HFIN HT7 HFB HR7 HO7 HK7 HG7 HTS HLE hk7 HG6 ho6 hk6
        go_wp2
        go_ret
        exact ⟨rfl, HFN.out⟩
    · skip
      simp only [gt3]
      go_simp
      refine hK.out _ _ ?_ (fun hHeld2 => ?_)
      focus
        exact hS _ (Tch.of_below (hk0.alloc hk0.size _))
      clear hHeld
      have hHeld := hHeld2
      clear hHeld2 hK K
      try simp only [gt6, Act.put]
      have gg : Below (World.heap m0).size m0 (World.alloc m0 (.cells #[.int .i64 k, .int .i64 j, .int .i64 t, .int .i64 wk, .int .i64 s, .int .i64 ep, .slice Ax ns.length cx] 46 (0, 0))) := (Below.refl _ _).alloc (Nat.le_refl _) _
      have hq13 : Below k3.heap.size k3 (World.alloc m0 (.cells #[.int .i64 k, .int .i64 j, .int .i64 t, .int .i64 wk, .int .i64 s, .int .i64 ep, .slice Ax ns.length cx] 46 (0, 0))) := hk0.trans (gg.mono hk0.size)
      have hx9 := heap_alloc_new m0 (.cells #[.int .i64 k, .int .i64 j, .int .i64 t, .int .i64 wk, .int .i64 s, .int .i64 ep, .slice Ax ns.length cx] 46 (0, 0))
      have hXN : k3.heap.size ≤ (World.heap m0).size := hk0.size
      clear gg
      generalize World.alloc m0 (.cells #[.int .i64 k, .int .i64 j, .int .i64 t, .int .i64 wk, .int .i64 s, .int .i64 ep, .slice Ax ns.length cx] 46 (0, 0)) = u13 at *
      generalize (World.heap m0).size = N9 at *
      refine wpAnyH_ready (rs := [1]) (by kernel_rfl) (by simp) ?_
      refine (AllReadyH.cons rfl (fun K hK => ?_) AllReadyH.nil)
      simp only [gt3]
      go_simp
      refine hK.out _ _ ?_ (fun hHeld2 => ?_)
      focus
        exact hS _ (Tch.of_below (hq13.alloc hq13.size _))
      clear hHeld
      have hHeld := hHeld2
      clear hHeld2 hK K
      try simp only [gt6, Act.put]
      have gg : Below (World.heap u13).size u13 (World.alloc u13 (.cells #[] 46 (0, 0))) := (Below.refl _ _).alloc (Nat.le_refl _) _
      have hq18 : Below k3.heap.size k3 (World.alloc u13 (.cells #[] 46 (0, 0))) := hq13.trans (gg.mono hq13.size)
      have hE := own_mono (own_empty u13 46 7) hq13.size
      have hEN : (Value.slice (some ⟨(World.heap u13).size, 0, none⟩) 0 0).ownBlock ≠ some N9 := by
        have := lt_of_block hx9
        simp only [Value.ownBlock, Option.map_some, ne_eq, Option.some.injEq]
        omega
      replace hx9 := keep0 hx9 gg
      clear gg
      generalize World.alloc u13 (.cells #[] 46 (0, 0)) = u18 at *
      generalize (World.heap u13).size = E9 at *
      refine wpAnyH_ready (rs := [6]) (by kernel_rfl) (by simp) ?_
      refine (AllReadyH.cons rfl (fun K hK => ?_) AllReadyH.nil)
      refine step_append_sl rfl (.tmp 29) (.tmp 33) 67 rfl k3.heap.size 46 Tryz.underlying67 info_rec rfl (by omega) rfl hE rfl (sl_own (own_keep HR3.out.1 hq18)) (ecells_one els) ?f1 ?f2 hq18.size ?_
      case f1 => unfold maxLen; omega
      case f2 => omega
      intro v5 u19 ho5 ht5 hgz5 hkp5
      have hq19 : Below k3.heap.size k3 u19 := hq18.trans ht5
      try simp only [Nat.zero_add, List.nil_append] at ho5
      have hS2 := hS _ (Tch.of_below hq19)
      replace hx9 : u19.heap[N9]? = some (.cells #[.int .i64 k, .int .i64 j, .int .i64 t, .int .i64 wk, .int .i64 s, .int .i64 ep, .slice Ax ns.length cx] 46 (0, 0)) := (hkp5 N9 hXN (lt_of_block hx9) hEN).trans hx9
      refine hK.out _ _ ?_ (fun hHeld2 => ?_)
      focus
        exact hS2
      clear hHeld
      have hHeld := hHeld2
      clear hHeld2 hK K
      try simp only [gt6, Act.put]
      refine wpAnyH_ready (rs := [9]) (by kernel_rfl) (by simp) ?_
      refine (AllReadyH.cons rfl (fun K hK => ?_) AllReadyH.nil)
      refine step_append_sl rfl (.tmp 34) (.tmp 36) 67 rfl k3.heap.size 46 Tryz.underlying67 info_rec rfl (by omega) rfl ho5 rfl (sl_blk7 hx9) (by simp [Value.oneCell']) ?f3 ?f4 hq19.size ?_
      case f3 => unfold maxLen; omega
      case f4 => omega
      intro v6 w6 ho6 ht6 _ _
      have hk6 : Below k3.heap.size k3 w6 := hq19.trans ht6
      clear ht6 ho5 hx9
      obtain ⟨A6, c6, rfl, _⟩ := Sl.of_own ho6
      have HG6 := keep0 HG3.out hk6
      obtain ⟨⟨r0, r1, r2⟩, g0, g1, g2⟩ := three_cellsA HG6
      have hk7 : Tch (fun g => g = G) k3 (w6.setCell ⟨G, 1, none⟩ (.slice A6 (els.length + 1) c6)) := (Tch.of_below hk6).set G 1 _ (fun _ => rfl)
      refine hK.out _ _ ?_ (fun hHeld2 => ?_)
      focus
        exact hS _ (Tch.of_below hk6)
      clear hHeld
      have hHeld := hHeld2
      clear hHeld2 hK K
      try simp only [gt6, Act.put]
      refine tkA 10 ?_ rfl ?_ (by assumption) ?_; rotate_left; focus (intro U hU; (try dsimp only at hU); go_simp; try (with_reducible rfl))
      simp only [gt6, Act.put]
      refine tkA 11 ?_ rfl ?_ (by assumption) ?_; rotate_left; focus (intro U hU; (try dsimp only at hU); go_simp; try (with_reducible rfl))
      simp only [gt6, Act.put]
      refine wpAnyH_ready (rs := [12]) (by kernel_rfl) (by simp) ?_
      refine (AllReadyH.cons rfl (fun K hK => ?_) AllReadyH.nil)
      simp only [gt3]
      go_simp
      refine hK.out _ _ ?_ (fun hHeld2 => ?_)
      focus
        exact hS _ hk7
      clear hHeld
      have hHeld := hHeld2
      clear hHeld2 hK K
      try simp only [gt6, Act.put]
      refine wpAnyH_done (by kernel_rfl) ?_ _
      have HLE : (els ++ [(Rc.mk k j t wk s ep ns, Ax, cx)]).length = els.length + 1 := by rw [List.length_append]; rfl
      have HTS := tch_set w6 G 1 (.slice A6 (els.length + 1) c6)
      have HG7 : (w6.setCell ⟨G, 1, none⟩ (.slice A6 (els.length + 1) c6)).heap[G]? = some (.cells #[.pointer (some ⟨M, 0, none⟩), .slice A6 (els.length + 1) c6, .bool false] 69 (0, 0)) := by rw [heap_setCell_same w6 G 1 _ _ (.slice A6 (els.length + 1) c6) HG6]; rfl
      have HK7 : RkAt (w6.setCell ⟨G, 1, none⟩ (.slice A6 (els.length + 1) c6)) M room l2 fu2 := HTS.block (keep0 HK3.out hk6) (Ne.symm hGM)
      have HO7 := HTS.own ho6 (fun g hg h9 => own_apart_blk ho6 HG6 (by decide) g hg h9)
      have HR7 := HRI.out _ hk7
      have HFB : ∀ g, (Value.slice A6 (els.length + 1) c6).ownBlock = some g → W.heap.size ≤ g := fun g hg => by
        have h7 := (own_lt ho6 g hg).1
        have h8 := HNN.out
        omega
      have HT7 := HTW.out.trans hk7 (fun g hg _ => .inr hg)
      have HFIN : ∃ A' c' els', els'.map (·.1) = els.map (·.1) ++ [Rc.mk k j t wk s ep ns] ∧ RnAt W0 (w6.setCell ⟨G, 1, none⟩ (.slice A6 (els.length + 1) c6)) b G M room l2 fu2 A' c' els' false ∧ Tch (fun g => g = M ∨ g = G) W (w6.setCell ⟨G, 1, none⟩ (.slice A6 (els.length + 1) c6)) ∧ ((Value.slice A' els'.length c').ownBlock = (Value.slice A els.length c).ownBlock ∨ ∀ g, (Value.slice A' els'.length c').ownBlock = some g → W.heap.size ≤ g) := ⟨A6, c6, els ++ [(Rc.mk k j t wk s ep ns, Ax, cx)], by rw [List.map_append]; rfl, ⟨by rw [HLE]; exact HG7, HK7, ⟨by rw [HLE, ecells_snoc]; exact own_mono HO7 (by have := HNN.out; omega), fun e he => by
        rcases List.mem_append.1 he with he | he
        · exact HR7.2 e he
        · obtain rfl : e = (Rc.mk k j t wk s ep ns, Ax, cx) := by simpa using he
          exact .inr HX0.out⟩⟩, HT7, .inr (by rw [HLE]; exact HFB)⟩
      have HFN := hid HFIN
      clear hHeld hS r0 r1 r2 g0 g1 g2 HFIN HT7 HFB HR7 HO7 HK7 HG7 HTS HLE hk7 HG6 ho6 hk6
      go_wp2
      go_ret
      exact ⟨rfl, HFN.out⟩
  · skip
    simp only [gt3]
    go_simp
    refine hK.out _ _ ?_ (fun hHeld2 => ?_)
    focus
      exact hS _ (Tch.of_below (hk0.alloc hk0.size _))
    clear hHeld
    have hHeld := hHeld2
    clear hHeld2 hK K
    try simp only [gt6, Act.put]
    have gg : Below (World.heap m0).size m0 (World.alloc m0 (.cells #[.int .i64 k, .int .i64 j, .int .i64 t, .int .i64 wk, .int .i64 s, .int .i64 ep, .slice Ax ns.length cx] 46 (0, 0))) := (Below.refl _ _).alloc (Nat.le_refl _) _
    have hq3 : Below k3.heap.size k3 (World.alloc m0 (.cells #[.int .i64 k, .int .i64 j, .int .i64 t, .int .i64 wk, .int .i64 s, .int .i64 ep, .slice Ax ns.length cx] 46 (0, 0))) := hk0.trans (gg.mono hk0.size)
    have hx9 := heap_alloc_new m0 (.cells #[.int .i64 k, .int .i64 j, .int .i64 t, .int .i64 wk, .int .i64 s, .int .i64 ep, .slice Ax ns.length cx] 46 (0, 0))
    have hXN : k3.heap.size ≤ (World.heap m0).size := hk0.size
    replace q1 := cellb gg q1
    clear gg
    generalize World.alloc m0 (.cells #[.int .i64 k, .int .i64 j, .int .i64 t, .int .i64 wk, .int .i64 s, .int .i64 ep, .slice Ax ns.length cx] 46 (0, 0)) = u3 at *
    generalize (World.heap m0).size = N9 at *
    refine wpAnyH_ready (rs := [1, 5]) (by kernel_rfl) (by simp) ?_
    refine (AllReadyH.cons rfl (fun K hK => ?_) (AllReadyH.cons rfl (fun K hK => ?_) AllReadyH.nil))
    · skip
      simp only [gt3]
      go_simp
      refine hK.out _ _ ?_ (fun hHeld2 => ?_)
      focus
        exact hS _ (Tch.of_below (hq3.alloc hq3.size _))
      clear hHeld
      have hHeld := hHeld2
      clear hHeld2 hK K
      try simp only [gt6, Act.put]
      have gg : Below (World.heap u3).size u3 (World.alloc u3 (.cells #[] 46 (0, 0))) := (Below.refl _ _).alloc (Nat.le_refl _) _
      have hq20 : Below k3.heap.size k3 (World.alloc u3 (.cells #[] 46 (0, 0))) := hq3.trans (gg.mono hq3.size)
      have hE := own_mono (own_empty u3 46 7) hq3.size
      have hEN : (Value.slice (some ⟨(World.heap u3).size, 0, none⟩) 0 0).ownBlock ≠ some N9 := by
        have := lt_of_block hx9
        simp only [Value.ownBlock, Option.map_some, ne_eq, Option.some.injEq]
        omega
      replace q1 := cellb gg q1
      replace hx9 := keep0 hx9 gg
      clear gg
      generalize World.alloc u3 (.cells #[] 46 (0, 0)) = u20 at *
      generalize (World.heap u3).size = E9 at *
      refine wpAnyH_ready (rs := [5]) (by kernel_rfl) (by simp) ?_
      refine (AllReadyH.cons rfl (fun K hK => ?_) AllReadyH.nil)
      simp only [gt3]
      go_simp
      refine hK.out _ _ ?_ (fun hHeld2 => ?_)
      focus
        exact hS _ (Tch.of_below hq20)
      clear hHeld
      have hHeld := hHeld2
      clear hHeld2 hK K
      try simp only [gt6, Act.put]
      refine wpAnyH_ready (rs := [6]) (by kernel_rfl) (by simp) ?_
      refine (AllReadyH.cons rfl (fun K hK => ?_) AllReadyH.nil)
      refine step_append_sl rfl (.tmp 29) (.tmp 33) 67 rfl k3.heap.size 46 Tryz.underlying67 info_rec rfl (by omega) rfl hE rfl (sl_own (own_keep HR3.out.1 hq20)) (ecells_one els) ?f1 ?f2 hq20.size ?_
      case f1 => unfold maxLen; omega
      case f2 => omega
      intro v5 u23 ho5 ht5 hgz5 hkp5
      have hq23 : Below k3.heap.size k3 u23 := hq20.trans ht5
      try simp only [Nat.zero_add, List.nil_append] at ho5
      have hS2 := hS _ (Tch.of_below hq23)
      replace hx9 : u23.heap[N9]? = some (.cells #[.int .i64 k, .int .i64 j, .int .i64 t, .int .i64 wk, .int .i64 s, .int .i64 ep, .slice Ax ns.length cx] 46 (0, 0)) := (hkp5 N9 hXN (lt_of_block hx9) hEN).trans hx9
      refine hK.out _ _ ?_ (fun hHeld2 => ?_)
      focus
        exact hS2
      clear hHeld
      have hHeld := hHeld2
      clear hHeld2 hK K
      try simp only [gt6, Act.put]
      refine wpAnyH_ready (rs := [9]) (by kernel_rfl) (by simp) ?_
      refine (AllReadyH.cons rfl (fun K hK => ?_) AllReadyH.nil)
      refine step_append_sl rfl (.tmp 34) (.tmp 36) 67 rfl k3.heap.size 46 Tryz.underlying67 info_rec rfl (by omega) rfl ho5 rfl (sl_blk7 hx9) (by simp [Value.oneCell']) ?f3 ?f4 hq23.size ?_
      case f3 => unfold maxLen; omega
      case f4 => omega
      intro v6 w6 ho6 ht6 _ _
      have hk6 : Below k3.heap.size k3 w6 := hq23.trans ht6
      clear ht6 ho5 hx9
      obtain ⟨A6, c6, rfl, _⟩ := Sl.of_own ho6
      have HG6 := keep0 HG3.out hk6
      obtain ⟨⟨r0, r1, r2⟩, g0, g1, g2⟩ := three_cellsA HG6
      have hk7 : Tch (fun g => g = G) k3 (w6.setCell ⟨G, 1, none⟩ (.slice A6 (els.length + 1) c6)) := (Tch.of_below hk6).set G 1 _ (fun _ => rfl)
      refine hK.out _ _ ?_ (fun hHeld2 => ?_)
      focus
        exact hS _ (Tch.of_below hk6)
      clear hHeld
      have hHeld := hHeld2
      clear hHeld2 hK K
      try simp only [gt6, Act.put]
      refine tkA 10 ?_ rfl ?_ (by assumption) ?_; rotate_left; focus (intro U hU; (try dsimp only at hU); go_simp; try (with_reducible rfl))
      simp only [gt6, Act.put]
      refine tkA 11 ?_ rfl ?_ (by assumption) ?_; rotate_left; focus (intro U hU; (try dsimp only at hU); go_simp; try (with_reducible rfl))
      simp only [gt6, Act.put]
      refine wpAnyH_ready (rs := [12]) (by kernel_rfl) (by simp) ?_
      refine (AllReadyH.cons rfl (fun K hK => ?_) AllReadyH.nil)
      simp only [gt3]
      go_simp
      refine hK.out _ _ ?_ (fun hHeld2 => ?_)
      focus
        exact hS _ hk7
      clear hHeld
      have hHeld := hHeld2
      clear hHeld2 hK K
      try simp only [gt6, Act.put]
      refine wpAnyH_done (by kernel_rfl) ?_ _
      have HLE : (els ++ [(Rc.mk k j t wk s ep ns, Ax, cx)]).length = els.length + 1 := by rw [List.length_append]; rfl
      have HTS := tch_set w6 G 1 (.slice A6 (els.length + 1) c6)
      have HG7 : (w6.setCell ⟨G, 1, none⟩ (.slice A6 (els.length + 1) c6)).heap[G]? = some (.cells #[.pointer (some ⟨M, 0, none⟩), .slice A6 (els.length + 1) c6, .bool false] 69 (0, 0)) := by rw [heap_setCell_same w6 G 1 _ _ (.slice A6 (els.length + 1) c6) HG6]; rfl
      have HK7 : RkAt (w6.setCell ⟨G, 1, none⟩ (.slice A6 (els.length + 1) c6)) M room l2 fu2 := HTS.block (keep0 HK3.out hk6) (Ne.symm hGM)
      have HO7 := HTS.own ho6 (fun g hg h9 => own_apart_blk ho6 HG6 (by decide) g hg h9)
      have HR7 := HRI.out _ hk7
      have HFB : ∀ g, (Value.slice A6 (els.length + 1) c6).ownBlock = some g → W.heap.size ≤ g := fun g hg => by
        have h7 := (own_lt ho6 g hg).1
        have h8 := HNN.out
        omega
      have HT7 := HTW.out.trans hk7 (fun g hg _ => .inr hg)
      have HFIN : ∃ A' c' els', els'.map (·.1) = els.map (·.1) ++ [Rc.mk k j t wk s ep ns] ∧ RnAt W0 (w6.setCell ⟨G, 1, none⟩ (.slice A6 (els.length + 1) c6)) b G M room l2 fu2 A' c' els' false ∧ Tch (fun g => g = M ∨ g = G) W (w6.setCell ⟨G, 1, none⟩ (.slice A6 (els.length + 1) c6)) ∧ ((Value.slice A' els'.length c').ownBlock = (Value.slice A els.length c).ownBlock ∨ ∀ g, (Value.slice A' els'.length c').ownBlock = some g → W.heap.size ≤ g) := ⟨A6, c6, els ++ [(Rc.mk k j t wk s ep ns, Ax, cx)], by rw [List.map_append]; rfl, ⟨by rw [HLE]; exact HG7, HK7, ⟨by rw [HLE, ecells_snoc]; exact own_mono HO7 (by have := HNN.out; omega), fun e he => by
        rcases List.mem_append.1 he with he | he
        · exact HR7.2 e he
        · obtain rfl : e = (Rc.mk k j t wk s ep ns, Ax, cx) := by simpa using he
          exact .inr HX0.out⟩⟩, HT7, .inr (by rw [HLE]; exact HFB)⟩
      have HFN := hid HFIN
      clear hHeld hS r0 r1 r2 g0 g1 g2 HFIN HT7 HFB HR7 HO7 HK7 HG7 HTS HLE hk7 HG6 ho6 hk6
      go_wp2
      go_ret
      exact ⟨rfl, HFN.out⟩
    · skip
      simp only [gt3]
      go_simp
      refine hK.out _ _ ?_ (fun hHeld2 => ?_)
      focus
        exact hS _ (Tch.of_below hq3)
      clear hHeld
      have hHeld := hHeld2
      clear hHeld2 hK K
      try simp only [gt6, Act.put]
      refine wpAnyH_ready (rs := [1]) (by kernel_rfl) (by simp) ?_
      refine (AllReadyH.cons rfl (fun K hK => ?_) AllReadyH.nil)
      simp only [gt3]
      go_simp
      refine hK.out _ _ ?_ (fun hHeld2 => ?_)
      focus
        exact hS _ (Tch.of_below (hq3.alloc hq3.size _))
      clear hHeld
      have hHeld := hHeld2
      clear hHeld2 hK K
      try simp only [gt6, Act.put]
      have gg : Below (World.heap u3).size u3 (World.alloc u3 (.cells #[] 46 (0, 0))) := (Below.refl _ _).alloc (Nat.le_refl _) _
      have hq24 : Below k3.heap.size k3 (World.alloc u3 (.cells #[] 46 (0, 0))) := hq3.trans (gg.mono hq3.size)
      have hE := own_mono (own_empty u3 46 7) hq3.size
      have hEN : (Value.slice (some ⟨(World.heap u3).size, 0, none⟩) 0 0).ownBlock ≠ some N9 := by
        have := lt_of_block hx9
        simp only [Value.ownBlock, Option.map_some, ne_eq, Option.some.injEq]
        omega
      replace hx9 := keep0 hx9 gg
      clear gg
      generalize World.alloc u3 (.cells #[] 46 (0, 0)) = u24 at *
      generalize (World.heap u3).size = E9 at *
      refine wpAnyH_ready (rs := [6]) (by kernel_rfl) (by simp) ?_
      refine (AllReadyH.cons rfl (fun K hK => ?_) AllReadyH.nil)
      refine step_append_sl rfl (.tmp 29) (.tmp 33) 67 rfl k3.heap.size 46 Tryz.underlying67 info_rec rfl (by omega) rfl hE rfl (sl_own (own_keep HR3.out.1 hq24)) (ecells_one els) ?f1 ?f2 hq24.size ?_
      case f1 => unfold maxLen; omega
      case f2 => omega
      intro v5 u25 ho5 ht5 hgz5 hkp5
      have hq25 : Below k3.heap.size k3 u25 := hq24.trans ht5
      try simp only [Nat.zero_add, List.nil_append] at ho5
      have hS2 := hS _ (Tch.of_below hq25)
      replace hx9 : u25.heap[N9]? = some (.cells #[.int .i64 k, .int .i64 j, .int .i64 t, .int .i64 wk, .int .i64 s, .int .i64 ep, .slice Ax ns.length cx] 46 (0, 0)) := (hkp5 N9 hXN (lt_of_block hx9) hEN).trans hx9
      refine hK.out _ _ ?_ (fun hHeld2 => ?_)
      focus
        exact hS2
      clear hHeld
      have hHeld := hHeld2
      clear hHeld2 hK K
      try simp only [gt6, Act.put]
      refine wpAnyH_ready (rs := [9]) (by kernel_rfl) (by simp) ?_
      refine (AllReadyH.cons rfl (fun K hK => ?_) AllReadyH.nil)
      refine step_append_sl rfl (.tmp 34) (.tmp 36) 67 rfl k3.heap.size 46 Tryz.underlying67 info_rec rfl (by omega) rfl ho5 rfl (sl_blk7 hx9) (by simp [Value.oneCell']) ?f3 ?f4 hq25.size ?_
      case f3 => unfold maxLen; omega
      case f4 => omega
      intro v6 w6 ho6 ht6 _ _
      have hk6 : Below k3.heap.size k3 w6 := hq25.trans ht6
      clear ht6 ho5 hx9
      obtain ⟨A6, c6, rfl, _⟩ := Sl.of_own ho6
      have HG6 := keep0 HG3.out hk6
      obtain ⟨⟨r0, r1, r2⟩, g0, g1, g2⟩ := three_cellsA HG6
      have hk7 : Tch (fun g => g = G) k3 (w6.setCell ⟨G, 1, none⟩ (.slice A6 (els.length + 1) c6)) := (Tch.of_below hk6).set G 1 _ (fun _ => rfl)
      refine hK.out _ _ ?_ (fun hHeld2 => ?_)
      focus
        exact hS _ (Tch.of_below hk6)
      clear hHeld
      have hHeld := hHeld2
      clear hHeld2 hK K
      try simp only [gt6, Act.put]
      refine tkA 10 ?_ rfl ?_ (by assumption) ?_; rotate_left; focus (intro U hU; (try dsimp only at hU); go_simp; try (with_reducible rfl))
      simp only [gt6, Act.put]
      refine tkA 11 ?_ rfl ?_ (by assumption) ?_; rotate_left; focus (intro U hU; (try dsimp only at hU); go_simp; try (with_reducible rfl))
      simp only [gt6, Act.put]
      refine wpAnyH_ready (rs := [12]) (by kernel_rfl) (by simp) ?_
      refine (AllReadyH.cons rfl (fun K hK => ?_) AllReadyH.nil)
      simp only [gt3]
      go_simp
      refine hK.out _ _ ?_ (fun hHeld2 => ?_)
      focus
        exact hS _ hk7
      clear hHeld
      have hHeld := hHeld2
      clear hHeld2 hK K
      try simp only [gt6, Act.put]
      refine wpAnyH_done (by kernel_rfl) ?_ _
      have HLE : (els ++ [(Rc.mk k j t wk s ep ns, Ax, cx)]).length = els.length + 1 := by rw [List.length_append]; rfl
      have HTS := tch_set w6 G 1 (.slice A6 (els.length + 1) c6)
      have HG7 : (w6.setCell ⟨G, 1, none⟩ (.slice A6 (els.length + 1) c6)).heap[G]? = some (.cells #[.pointer (some ⟨M, 0, none⟩), .slice A6 (els.length + 1) c6, .bool false] 69 (0, 0)) := by rw [heap_setCell_same w6 G 1 _ _ (.slice A6 (els.length + 1) c6) HG6]; rfl
      have HK7 : RkAt (w6.setCell ⟨G, 1, none⟩ (.slice A6 (els.length + 1) c6)) M room l2 fu2 := HTS.block (keep0 HK3.out hk6) (Ne.symm hGM)
      have HO7 := HTS.own ho6 (fun g hg h9 => own_apart_blk ho6 HG6 (by decide) g hg h9)
      have HR7 := HRI.out _ hk7
      have HFB : ∀ g, (Value.slice A6 (els.length + 1) c6).ownBlock = some g → W.heap.size ≤ g := fun g hg => by
        have h7 := (own_lt ho6 g hg).1
        have h8 := HNN.out
        omega
      have HT7 := HTW.out.trans hk7 (fun g hg _ => .inr hg)
      have HFIN : ∃ A' c' els', els'.map (·.1) = els.map (·.1) ++ [Rc.mk k j t wk s ep ns] ∧ RnAt W0 (w6.setCell ⟨G, 1, none⟩ (.slice A6 (els.length + 1) c6)) b G M room l2 fu2 A' c' els' false ∧ Tch (fun g => g = M ∨ g = G) W (w6.setCell ⟨G, 1, none⟩ (.slice A6 (els.length + 1) c6)) ∧ ((Value.slice A' els'.length c').ownBlock = (Value.slice A els.length c).ownBlock ∨ ∀ g, (Value.slice A' els'.length c').ownBlock = some g → W.heap.size ≤ g) := ⟨A6, c6, els ++ [(Rc.mk k j t wk s ep ns, Ax, cx)], by rw [List.map_append]; rfl, ⟨by rw [HLE]; exact HG7, HK7, ⟨by rw [HLE, ecells_snoc]; exact own_mono HO7 (by have := HNN.out; omega), fun e he => by
        rcases List.mem_append.1 he with he | he
        · exact HR7.2 e he
        · obtain rfl : e = (Rc.mk k j t wk s ep ns, Ax, cx) := by simpa using he
          exact .inr HX0.out⟩⟩, HT7, .inr (by rw [HLE]; exact HFB)⟩
      have HFN := hid HFIN
      clear hHeld hS r0 r1 r2 g0 g1 g2 HFIN HT7 HFB HR7 HO7 HK7 HG7 HTS HLE hk7 HG6 ho6 hk6
      go_wp2
      go_ret
      exact ⟨rfl, HFN.out⟩
theorem r19append_any {b G M room : Nat} {l : List UInt8} {fu : Int} {A : Option Addr} {c : Nat} {els : List El} {down : Bool} (x : Rc) (Ax : Option Addr) (cx : Nat) (W0 W : World) (h : RnAt W0 W b G M room l fu A c els down) (hx0 : TxAt W0 Ax cx x.ns) (hW0 : Below W0.heap.size W0 W) (hb : b ≤ W.heap.size) (hGM : G ≠ M) (hr : room ≤ 65536) (hl : l.length ≤ room) (hn : els.length ≤ 100000) :
    Calls Tryz.prog 40 #[.pointer (some ⟨G, 0, none⟩), .agg (rcc x Ax cx)] W (RapR W0 W b G M room l fu A c els down x) := by
  rcases Bool.eq_false_or_eq_true (chkR x) with hc | hc
  · rcases Bool.eq_false_or_eq_true down with hd | hd
    · exact rap_down x Ax cx W0 W h hx0 hW0 hb hGM hr hl hn hc hd
    · rcases apE_cases room l (fR x) (decide (0 ≤ fu)) with he | he | he
      · exact rap_full x Ax cx W0 W h hx0 hW0 hb hGM hr hl hn hc hd he
      · exact rap_power x Ax cx W0 W h hx0 hW0 hb hGM hr hl hn hc hd he
      · exact rap_ok x Ax cx W0 W h hx0 hW0 hb hGM hr hl hn hc hd he
  · exact rap_bad x Ax cx W0 W h hx0 hW0 hb hGM hr hl hn hc
end Go.Proofs.YtkepfkfoblocgaaGreat
