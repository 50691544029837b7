/- The document's ledger: Put: contract. -/
import Derived.Test.YtkepfkfoblocgaaGreatGaP
import Derived.Test.YtkepfkfoblocgaaGreatQR21A
import Derived.Deep.RegionHeld3
import Derived.BigQuiet
import Derived.Lib.QuietBelow
namespace Go.Proofs.YtkepfkfoblocgaaGreat
open Go.RowKit Go.Sort
set_option linter.unusedVariables false
set_option linter.unusedSimpArgs false

/-- The program's ledger beside the document's. -/
def rlS (R room : Nat) (l : List UInt8) (fu : Int) (fuse : Nat) (down : Bool) (b : List En) : LgS := ⟨R, kepB b, room, l, decide (0 ≤ fu), fuse, down⟩
def puF (R room : Nat) (l : List UInt8) (fu : Int) (down : Bool) (b : List En) (x : Rc) : Int :=
  if down = true then fu else if whyB b x ≠ 0 then fu else if x.k = 1 ∧ R < kepB b + mostR x.j 0 x.ns then fu else anF room l fu false x
/-- What Put leaves. -/
def RpuR (W0 W : World) (b H G M R room : Nat) (l : List UInt8) (fu : Int) (A : Option Addr) (c : Nat) (els : List El) (down : Bool) (xs : List Ee) (x : Rc) (e : Ending) (w' : World) : Prop :=
  e = .returned (.int .i64 (lgE (rlS R room l fu fu.toNat down (xs.map (·.1))) (xs.map (·.1)) x)) ∧ ∃ A' c' els' Ab' cb' xs', RlAt W0 w' b H G M R room (lgN (rlS R room l fu fu.toNat down (xs.map (·.1))) (xs.map (·.1)) x).l (puF R room l fu down (xs.map (·.1)) x) A' c' els' (lgN (rlS R room l fu fu.toNat down (xs.map (·.1))) (xs.map (·.1)) x).down Ab' cb' xs' ∧
    xs'.map (·.1) = (if lgE (rlS R room l fu fu.toNat down (xs.map (·.1))) (xs.map (·.1)) x = 0 then appB (xs.map (·.1)) x else xs.map (·.1)) ∧ els'.map (·.1) = (if lgE (rlS R room l fu fu.toNat down (xs.map (·.1))) (xs.map (·.1)) x = 0 then els.map (·.1) ++ [x] else els.map (·.1)) ∧
    Tch (fun g => g = M ∨ g = G ∨ g = H) W w' ∧ ((Value.slice A' els'.length c').ownBlock = (Value.slice A els.length c).ownBlock ∨ ∀ g, (Value.slice A' els'.length c').ownBlock = some g → W.heap.size ≤ g)

set_option maxRecDepth 20000 in
set_option maxHeartbeats 4000000 in
theorem r21put_down {b H G M R room : Nat} {l : List UInt8} {fu : Int} {A : Option Addr} {c : Nat} {els : List El} {down : Bool} {Ab : Option Addr} {cb : Nat} {xs : List Ee} (x : Rc) (Ax : Option Addr) (cx : Nat) (W0 W : World) (h : RlAt W0 W b H G M R room l fu A c els down Ab cb xs) (hx0 : TxAt W0 Ax cx x.ns) (hW0 : Below W0.heap.size W0 W) (hb : b ≤ W.heap.size) (hr : room ≤ 65536) (hl : l.length ≤ room) (hn : els.length ≤ 100000) (hR : R ≤ 65536) (hd : down = true) :
    Calls Tryz.prog 14 #[.pointer (some ⟨H, 0, none⟩), .agg (rcc x Ax cx)] W (RpuR W0 W b H G M R room l fu A c els down xs x) := by
  have hx : TxAt W Ax cx x.ns := hx0.below hW0
  have HL := hid h
  subst hd
  have HV : Hid (lgE (rlS R room l fu fu.toNat true (xs.map (·.1))) (xs.map (·.1)) x = 15 ∧ lgN (rlS R room l fu fu.toNat true (xs.map (·.1))) (xs.map (·.1)) x = rlS R room l fu fu.toNat true (xs.map (·.1)) ∧ puF R room l fu true (xs.map (·.1)) x = fu) := hid ⟨if_pos rfl, if_pos rfl, if_pos rfl⟩
  unfold RpuR
  rw [HV.out.1, HV.out.2.1, HV.out.2.2]
  clear h hx hx0 hW0 HV
  obtain ⟨k, j, t, wk, s, ep, ns⟩ := x
  simp only [rcc] at *
  go_enter Tryz.func14, Tryz.ntmps14
  go_upto_region 1 with (fail)
  refine at_world (fun u => u.heap[W.heap.size]? = some (.cells #[.int .i64 k, .int .i64 j, .int .i64 t, .int .i64 wk, .int .i64 s, .int .i64 ep, .slice Ax ns.length cx] 46 (0, 0)) ∧ Below W.heap.size W u) ⟨heap_alloc_new _ _, (Below.refl _ _).alloc (Nat.le_refl _) _⟩ ?_
  rintro w1 ⟨hx1, hb1⟩
  have HX1 := hid hx1
  have HB1 := hid hb1
  have HL1 := hid (HL.out.below hb1)
  clear hx1 hb1
  obtain ⟨⟨q0, q1, q2⟩, _⟩ := three_cells HL1.out.1
  obtain ⟨⟨r0, r1, r2⟩, _⟩ := three_cellsA HL1.out.2.1.1
  go_wp2
  go_ret
  exact ⟨rfl, A, c, els, Ab, cb, xs, HL1.out, rfl, rfl, Tch.of_below HB1.out, .inl rfl⟩

set_option maxRecDepth 20000 in
set_option maxHeartbeats 4000000 in
theorem r21put_no {b H G M R room : Nat} {l : List UInt8} {fu : Int} {A : Option Addr} {c : Nat} {els : List El} {down : Bool} {Ab : Option Addr} {cb : Nat} {xs : List Ee} (x : Rc) (Ax : Option Addr) (cx : Nat) (W0 W : World) (h : RlAt W0 W b H G M R room l fu A c els down Ab cb xs) (hx0 : TxAt W0 Ax cx x.ns) (hW0 : Below W0.heap.size W0 W) (hb : b ≤ W.heap.size) (hr : room ≤ 65536) (hl : l.length ≤ room) (hn : els.length ≤ 100000) (hR : R ≤ 65536) (hd : down = false) (hw : whyB (xs.map (·.1)) x ≠ 0) :
    Calls Tryz.prog 14 #[.pointer (some ⟨H, 0, none⟩), .agg (rcc x Ax cx)] W (RpuR W0 W b H G M R room l fu A c els down xs x) := by
  have hx : TxAt W Ax cx x.ns := hx0.below hW0
  have HL := hid h
  subst hd
  have hd' : ¬ (false = true) := by simp
  have HV : Hid (lgE (rlS R room l fu fu.toNat false (xs.map (·.1))) (xs.map (·.1)) x = whyB (xs.map (·.1)) x ∧ lgN (rlS R room l fu fu.toNat false (xs.map (·.1))) (xs.map (·.1)) x = rlS R room l fu fu.toNat false (xs.map (·.1)) ∧ puF R room l fu false (xs.map (·.1)) x = fu) := hid ⟨(if_neg hd').trans (if_pos hw), (if_neg hd').trans (if_pos hw), (if_neg hd').trans (if_pos hw)⟩
  unfold RpuR
  rw [HV.out.1, HV.out.2.1, HV.out.2.2, if_neg hw, if_neg hw]
  have HTX := hid hx
  have HW0 := hid hW0
  obtain ⟨rv, hEQ⟩ : ∃ rv, whyB (xs.map (·.1)) x = rv := ⟨_, rfl⟩
  rw [hEQ]
  rw [hEQ] at hw
  have hrv : (rv != 0) = true := by simpa using hw
  have HEQ := hid hEQ
  clear hEQ
  clear h hx hx0 hW0 HV hw hd'
  obtain ⟨k, j, t, wk, s, ep, ns⟩ := x
  simp only [rcc] at *
  go_enter Tryz.func14, Tryz.ntmps14
  go_upto_region 1 with (fail)
  refine at_world (fun u => u.heap[W.heap.size]? = some (.cells #[.int .i64 k, .int .i64 j, .int .i64 t, .int .i64 wk, .int .i64 s, .int .i64 ep, .slice Ax ns.length cx] 46 (0, 0)) ∧ Below W.heap.size W u) ⟨heap_alloc_new _ _, (Below.refl _ _).alloc (Nat.le_refl _) _⟩ ?_
  rintro w1 ⟨hx1, hb1⟩
  have HX1 := hid hx1
  have HB1 := hid hb1
  have HL1 := hid (HL.out.below hb1)
  clear hx1 hb1
  obtain ⟨⟨q0, q1, q2⟩, _⟩ := three_cells HL1.out.1
  obtain ⟨⟨r0, r1, r2⟩, _⟩ := three_cellsA HL1.out.2.1.1
  have HST := hid (fun U (hU : Below w1.heap.size w1 U) => r20stepB Ab cb xs _ rfl (Rc.mk k j t wk s ep ns) Ax cx U (HL1.out.2.2.1.now (HW0.out.trans (HB1.out.mono HW0.out.size)) |>.below hU) ((HTX.out.below HB1.out).below hU) (by have := okB_len HL1.out.2.2.2; omega) (okB_sm HL1.out.2.2.2))
  simp only [rcc] at HST
  go_upto_region 3 with (fail)
  have hNl : W.heap.size < w1.heap.size := lt_of_block HX1.out
  generalize hNN : W.heap.size = N at *
  have HNN := hid hNN
  clear hNN q0 q1 q2 r0 r1 r2
  have hS : ∀ U, Below w1.heap.size w1 U → ((U.cell? ⟨H, 1, none⟩ = some (.slice Ab xs.length cb) ∧ (U.cell? ⟨N, 0, none⟩ = some (.int .i64 k) ∧ U.cell? ⟨N, 1, none⟩ = some (.int .i64 j) ∧ U.cell? ⟨N, 2, none⟩ = some (.int .i64 t) ∧ U.cell? ⟨N, 3, none⟩ = some (.int .i64 wk) ∧ U.cell? ⟨N, 4, none⟩ = some (.int .i64 s) ∧ U.cell? ⟨N, 5, none⟩ = some (.int .i64 ep) ∧ U.cell? ⟨N, 6, none⟩ = some (.slice Ax ns.length cx))) ∧ Below w1.heap.size w1 U) := fun U hU => ⟨⟨(three_cells (keep0 HL1.out.1 hU)).1.2.1, seven_cells (keep0 HX1.out hU)⟩, hU⟩
  have hk0 : Below w1.heap.size w1 w1.drew := below_drew (Below.refl _ _)
  refine wp_region_held_drew (S := fun U => (U.cell? ⟨H, 1, none⟩ = some (.slice Ab xs.length cb) ∧ (U.cell? ⟨N, 0, none⟩ = some (.int .i64 k) ∧ U.cell? ⟨N, 1, none⟩ = some (.int .i64 j) ∧ U.cell? ⟨N, 2, none⟩ = some (.int .i64 t) ∧ U.cell? ⟨N, 3, none⟩ = some (.int .i64 wk) ∧ U.cell? ⟨N, 4, none⟩ = some (.int .i64 s) ∧ U.cell? ⟨N, 5, none⟩ = some (.int .i64 ep) ∧ U.cell? ⟨N, 6, none⟩ = some (.slice Ax ns.length cx))) ∧ Below w1.heap.size w1 U) (by kernel_rfl) (hS _ hk0) (fun hHeld => ?_)
  generalize w1.drew = k0 at *
  refine tkA 0 ?_ rfl ?_ (by assumption) ?_; rotate_left; focus (intro U hU; (try dsimp only at hU); go_simp; try (with_reducible rfl))
  simp only [gt6, Act.put]
  refine tkA 1 ?_ rfl ?_ (by assumption) ?_; rotate_left; focus (intro U hU; (try dsimp only at hU); go_simp; try (with_reducible rfl))
  simp only [gt6, Act.put]
  refine tkA 2 ?_ rfl ?_ (by assumption) ?_; rotate_left; focus (intro U hU; (try dsimp only at hU); go_simp; try (with_reducible rfl))
  simp only [gt6, Act.put]
  refine tkA 3 ?_ rfl ?_ (by assumption) ?_; rotate_left; focus (intro U hU; (try dsimp only at hU); go_simp; try (with_reducible rfl))
  simp only [gt6, Act.put]
  refine tkA 4 ?_ rfl ?_ (by assumption) ?_; rotate_left; focus (intro U hU; (try dsimp only at hU); go_simp; try (with_reducible rfl))
  simp only [gt6, Act.put]
  refine wpAnyH_ready (rs := [5]) (by kernel_rfl) (by simp) ?_
  refine AllReadyH.cons rfl (fun K hK => ?_) AllReadyH.nil
  simp only [gt3]
  go_simp
  refine (HST.out k0 hk0).mono ?_
  rintro q k1 ⟨A8, c8, ys, rfl, hy, hb8⟩
  have hk1 := hk0.trans (hb8.mono hk0.size)
  clear hb8
  go_wp2_with fail
  refine hK.out _ _ ?_ (fun hHeld2 => ?_)
  focus
    exact hS _ hk1
  clear hHeld
  have hHeld := hHeld2
  clear hHeld2 hK K
  try simp only [gt6, Act.put]
  refine tkA 6 ?_ rfl ?_ (by assumption) ?_; rotate_left; focus (intro U hU; (try dsimp only at hU); go_simp; try (with_reducible rfl))
  simp only [gt6, Act.put]
  refine tkA 7 ?_ rfl ?_ (by assumption) ?_; rotate_left; focus (intro U hU; (try dsimp only at hU); go_simp; try (with_reducible rfl))
  simp only [gt6, Act.put]
  refine tkA 8 ?_ rfl ?_ (by assumption) ?_; rotate_left; focus (intro U hU; (try dsimp only at hU); go_simp; try (with_reducible rfl))
  simp only [gt6, Act.put]
  refine tkA 9 ?_ rfl ?_ (by assumption) ?_; rotate_left; focus (intro U hU; (try dsimp only at hU); go_simp; try (with_reducible rfl))
  simp only [gt6, Act.put]
  refine tkA 10 ?_ rfl ?_ (by assumption) ?_; rotate_left; focus (intro U hU; (try dsimp only at hU); go_simp; try (with_reducible rfl))
  simp only [gt6, Act.put]
  refine wpAnyH_done (by kernel_rfl) ?_ _
  have HB5 := hid hk1
  have HY := hid hy
  clear hHeld hS hk0 hk1 hy HST
  simp only [HEQ.out]
  go_wp2
  go_ret
  have hb9 : Below W.heap.size W k1 := (HNN.out ▸ HB1.out).trans (HB5.out.mono (by have := HNN.out; omega))
  exact ⟨rfl, A, c, els, Ab, cb, xs, HL1.out.below HB5.out, rfl, rfl, Tch.of_below hb9, .inl rfl⟩
end Go.Proofs.YtkepfkfoblocgaaGreat
