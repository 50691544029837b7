/- annal.Append: contract. -/
import Derived.Test.YtkepfkfoblocgaaAnnB
import Derived.Deep.RegionHeld3
namespace Go.Proofs.Ytkepfkfoblocgaa
open Go.RowKit Go.Sort
set_option linter.unusedVariables false
set_option linter.unusedSimpArgs false

def anE (room : Nat) (l : List UInt8) (armed down : Bool) (x : Rc) : Int := if chkR x = false then 1 else if down then 15 else apE room l (fR x) armed
def anB (room : Nat) (l : List UInt8) (armed : Bool) (fuse : Nat) (down : Bool) (x : Rc) : List UInt8 := if chkR x = false then l else if down then l else apL room l (fR x) armed fuse
def anA (room : Nat) (l : List UInt8) (armed down : Bool) (x : Rc) : Bool := if chkR x = false then armed else if down then armed else apA room l (fR x) armed
/-- What Append leaves. -/
def AppR (W : World) (B G D room : Nat) (l : List UInt8) (armed : Bool) (fuse : Nat) (A : Option Addr) (c : Nat) (els : List El) (down : Bool) (x : Rc) (e : Ending) (w' : World) : Prop :=
  e = .returned (.int .i64 (anE room l armed down x)) ∧ ∃ A' c' els', els'.map (·.1) = (if anE room l armed down x = 0 then els.map (·.1) ++ [x] else els.map (·.1)) ∧ AnAt w' B G D room (anB room l armed fuse down x) (anA room l armed down x) fuse A' c' els' (if anE room l armed down x = 14 then true else down) ∧
    Tch (fun g => g = D ∨ g = G ∨ (Value.slice A els.length c).ownBlock = some g) W w' ∧ ((Value.slice A' els'.length c').ownBlock = (Value.slice A els.length c).ownBlock ∨ ∀ g, (Value.slice A' els'.length c').ownBlock = some g → W.heap.size ≤ g)
theorem sl_blk7 {w : World} {N t : Nat} {x0 x1 x2 x3 x4 x5 x6 : Value} (h : w.heap[N]? = some (.cells #[x0, x1, x2, x3, x4, x5, x6] t (0, 0))) : Sl w 7 (some ⟨N, 0, none⟩) 1 1 [x0, x1, x2, x3, x4, x5, x6] :=
  ⟨rfl, Nat.le_refl _, by unfold maxLen; omega, fun _ => ⟨N, 0, rfl, fun i hi => by rw [Nat.zero_add, cell_of_row w N i _ t (0, 0) h]; simp⟩⟩
theorem InR.one {w : World} {N c : Nat} {A : Option Addr} {x : Rc} (h : w.heap[N]? = some (.cells #[.int .i64 x.k, .int .i64 x.j, .int .i64 x.t, .int .i64 x.w, .int .i64 x.s, .int .i64 x.e, .slice A x.ns.length c] 45 (0, 0))) (ht : TxAt w A c x.ns) : InR w (some ⟨N, 0, none⟩) 1 [(x, A, c)] :=
  ⟨sl_blk7 h, fun e he => by
    obtain rfl : e = (x, A, c) := by simpa using he
    exact ht⟩
theorem recB_one (x : Rc) : recB [x] = fR x := by simp [recB]
theorem DiskAt.row {w w' : World} {D room B n s : Nat} {l : List UInt8} {armed : Bool} {fuse : Nat} {v : Value} {xs : List Value} (h : DiskAt w D room l armed fuse) (ho : w.ownsRow B 45 s v n xs) (ht : Tch (fun g => v.ownBlock = some g) w w') : DiskAt w' D room l armed fuse := by
  obtain ⟨A9, c9, h9, _⟩ := h.open
  refine h.tch ht (fun hg => own_apart_blk ho h9 (by decide) D hg rfl) fun g hg cs hc => ?_
  obtain ⟨_, _, cur, h1⟩ := own_lt ho g hg
  rw [hc] at h1
  injection h1 with h1
  injection h1 with _ h2
  exact absurd h2 (by decide)

set_option maxRecDepth 20000 in
set_option maxHeartbeats 2000000 in
theorem aappend_bad {B G D room : Nat} {l : List UInt8} {armed : Bool} {fuse : Nat} {A : Option Addr} {c : Nat} {els : List El} {down : Bool} (x : Rc) (Ax : Option Addr) (cx : Nat) (W : World) (h : AnAt W B G D room l armed fuse A c els down) (hx : TxAt W Ax cx x.ns) (hc : chkR x = false) :
    Calls Try.prog 52 #[.pointer (some ⟨G, 0, none⟩), .agg (rcc x Ax cx)] W (AppR W B G D room l armed fuse A c els down x) := by
  have HV : Hid (anE room l armed down x = 1 ∧ anB room l armed fuse down x = l ∧ anA room l armed down x = armed) := hid ⟨if_pos hc, if_pos hc, if_pos hc⟩
  have HA := hid h
  have HC := hid (fun w (hw : Below W.heap.size W w) => rcheck_any x Ax cx w (hx.below hw))
  rw [hc] at HC
  unfold AppR
  rw [HV.out.1, HV.out.2.1, HV.out.2.2]
  clear h hx hc HV
  obtain ⟨k, j, t, wk, s, ep, ns⟩ := x
  simp only [rcc] at *
  go_enter Try.func52, Try.ntmps52
  go_upto_region 1 with (fail)
  refine at_world (fun u => u.heap[W.heap.size]? = some (.cells #[.int .i64 k, .int .i64 j, .int .i64 t, .int .i64 wk, .int .i64 s, .int .i64 ep, .slice Ax ns.length cx] 45 (0, 0)) ∧ Below W.heap.size W u) ⟨heap_alloc_new _ _, (Below.refl _ _).alloc (Nat.le_refl _) _⟩ ?_
  rintro w1 ⟨hx1, hb1⟩
  obtain ⟨p0, p1, p2, p3, p4, p5, p6⟩ := seven_cells hx1
  have HB1 := hid hb1
  clear hx1 hb1
  go_wp2_with fail
  refine (HC.out w1 HB1.out).mono ?_
  rintro e w2 ⟨rfl, hb2⟩
  have HB2 := hid (HB1.out.trans (hb2.mono HB1.out.size))
  clear hb2
  go_wp2
  go_ret
  exact ⟨rfl, A, c, els, rfl, HA.out.below HB2.out, Tch.of_below HB2.out, .inl rfl⟩
set_option maxRecDepth 20000 in
set_option maxHeartbeats 2000000 in
theorem aappend_down {B G D room : Nat} {l : List UInt8} {armed : Bool} {fuse : Nat} {A : Option Addr} {c : Nat} {els : List El} (x : Rc) (Ax : Option Addr) (cx : Nat) (W : World) (h : AnAt W B G D room l armed fuse A c els true) (hx : TxAt W Ax cx x.ns) (hc : chkR x = true) :
    Calls Try.prog 52 #[.pointer (some ⟨G, 0, none⟩), .agg (rcc x Ax cx)] W (AppR W B G D room l armed fuse A c els true x) := by
  have hc' : ¬ chkR x = false := by rw [hc]; simp
  have HV : Hid (anE room l armed true x = 15 ∧ anB room l armed fuse true x = l ∧ anA room l armed true x = armed) := hid ⟨if_neg hc', if_neg hc', if_neg hc'⟩
  have HA := hid h
  have HC := hid (fun w (hw : Below W.heap.size W w) => rcheck_any x Ax cx w (hx.below hw))
  rw [hc] at HC
  unfold AppR
  rw [HV.out.1, HV.out.2.1, HV.out.2.2]
  clear h hx hc HV hc'
  obtain ⟨k, j, t, wk, s, ep, ns⟩ := x
  simp only [rcc] at *
  go_enter Try.func52, Try.ntmps52
  go_upto_region 1 with (fail)
  refine at_world (fun u => u.heap[W.heap.size]? = some (.cells #[.int .i64 k, .int .i64 j, .int .i64 t, .int .i64 wk, .int .i64 s, .int .i64 ep, .slice Ax ns.length cx] 45 (0, 0)) ∧ Below W.heap.size W u) ⟨heap_alloc_new _ _, (Below.refl _ _).alloc (Nat.le_refl _) _⟩ ?_
  rintro w1 ⟨hx1, hb1⟩
  obtain ⟨p0, p1, p2, p3, p4, p5, p6⟩ := seven_cells hx1
  have HB1 := hid hb1
  clear hx1 hb1
  go_wp2_with fail
  refine (HC.out w1 HB1.out).mono ?_
  rintro e w2 ⟨rfl, hb2⟩
  have HB2 := hid (HB1.out.trans (hb2.mono HB1.out.size))
  clear hb2
  have HA2 := hid (HA.out.below HB2.out)
  obtain ⟨⟨q0, q1, q2⟩, _⟩ := three_cellsA HA2.out.1
  go_wp2
  go_ret
  exact ⟨rfl, A, c, els, rfl, HA2.out, Tch.of_below HB2.out, .inl rfl⟩
theorem TxAt.disk {w w' : World} {A : Option Addr} {c D : Nat} {l : List (List UInt8)} {room : Nat} {A9 : Option Addr} {n9 c9 : Nat} {armed : Bool} {fuse : Nat} (h : TxAt w A c l) (hd : w.heap[D]? = some (.cells #[.int .i64 (room : Int), .slice A9 n9 c9, .bool armed, .int .i64 (fuse : Int)] 112 (0, 0))) (ht : Tch (fun g => g = D) w w') : TxAt w' A c l := by
  refine ⟨⟨h.1.1, h.1.2.1, h.1.2.2.1, fun h0 => ?_⟩, h.2⟩
  obtain ⟨b, off, rfl, hc⟩ := h.1.2.2.2 h0
  refine ⟨b, off, rfl, fun i hi => ?_⟩
  have h4 := hc i hi
  rw [List.getElem?_eq_getElem hi] at h4 ⊢
  have hne : b ≠ D := by
    rintro rfl
    rw [cell_of_row w b (off + i) _ _ (0, 0) hd] at h4
    have h7 : ∃ s, (scells l)[i] = .string s := by
      have : (scells l)[i] ∈ scells l := List.getElem_mem hi
      obtain ⟨x, _, hx⟩ := List.mem_map.1 this
      exact ⟨_, hx.symm⟩
    obtain ⟨s, hs⟩ := h7
    rw [hs] at h4
    generalize off + i = q at h4
    match q, h4 with
    | 0, h4 => simp at h4
    | 1, h4 => simp at h4
    | 2, h4 => simp at h4
    | 3, h4 => simp at h4
    | m + 4, h4 => simp at h4
  rw [World.cell?_of_block (ht.keep b hne (lt_of_cell h4))]
  exact h4
set_option maxRecDepth 20000 in
set_option maxHeartbeats 4000000 in
theorem aappend_full {B G D room : Nat} {l : List UInt8} {armed : Bool} {fuse : Nat} {A : Option Addr} {c : Nat} {els : List El} (x : Rc) (Ax : Option Addr) (cx : Nat) (W : World) (h : AnAt W B G D room l armed fuse A c els false) (hx : TxAt W Ax cx x.ns) (hB : B ≤ W.heap.size) (hGD : G ≠ D) (hr : room ≤ 65536) (hl : l.length ≤ room) (hn : els.length ≤ 100000) (hc : chkR x = true) (he : apE room l (fR x) armed = 7) :
    Calls Try.prog 52 #[.pointer (some ⟨G, 0, none⟩), .agg (rcc x Ax cx)] W (AppR W B G D room l armed fuse A c els false x) := by
  have hc' : ¬ chkR x = false := by rw [hc]; simp
  have HV : Hid (anE room l armed false x = 7 ∧ anB room l armed fuse false x = apL room l (fR x) armed fuse ∧ anA room l armed false x = apA room l (fR x) armed) := hid ⟨(if_neg hc').trans he, if_neg hc', if_neg hc'⟩
  have HA := hid h
  have HX := hid hx
  have HC := hid (fun w (hw : Below W.heap.size W w) => rcheck_any x Ax cx w (hx.below hw))
  rw [hc] at HC
  have HNS := hid (chkR_ns hc)
  have hfl : (fR x).length ≤ 100000 := Nat.le_trans (fR_len x) (by omega)
  unfold AppR
  rw [HV.out.1, HV.out.2.1, HV.out.2.2]
  have HSB := hid (fun A' w (hw : InR w A' 1 [(x, Ax, cx)]) => sbytes_any A' 1 [(x, Ax, cx)] w hw (by simp))
  simp only [List.map_cons, List.map_nil, recB_one, List.length_cons, List.length_nil, Nat.zero_add] at HSB
  have HDA := hid (fun A' c' w (hd : DiskAt w D room l armed fuse) (hb : IsBytes w A' (fR x).length c' (fR x)) => dappend_any D room l (fR x) armed fuse A' c' w hd hb hr hl hfl)
  rw [he] at HDA
  generalize apL room l (fR x) armed fuse = l2 at *
  generalize apA room l (fR x) armed = ar2 at *
  have HCL := hid (fun w (hw : TxAt w Ax cx x.ns) => acloned_any x Ax cx w hw (Nat.le_trans HNS.out.1 (by omega)) HNS.out.2)
  generalize fR x = F at *
  clear h hx hc HV hc' he
  obtain ⟨k, j, t, wk, s, ep, ns⟩ := x
  simp only [rcc] at *
  go_enter Try.func52, Try.ntmps52
  go_upto_region 1 with (fail)
  refine at_world (fun u => u.heap[W.heap.size]? = some (.cells #[.int .i64 k, .int .i64 j, .int .i64 t, .int .i64 wk, .int .i64 s, .int .i64 ep, .slice Ax ns.length cx] 45 (0, 0)) ∧ Below W.heap.size W u) ⟨heap_alloc_new _ _, (Below.refl _ _).alloc (Nat.le_refl _) _⟩ ?_
  rintro w1 ⟨hx1, hb1⟩
  obtain ⟨p0, p1, p2, p3, p4, p5, p6⟩ := seven_cells hx1
  have HX1 := hid hx1
  have HB1 := hid hb1
  clear hx1 hb1
  go_wp2_with fail
  refine (HC.out w1 HB1.out).mono ?_
  rintro e w2 ⟨rfl, hb2⟩
  have HB2 := hid (HB1.out.trans (hb2.mono HB1.out.size))
  have HX2 := hid (keep0 HX1.out hb2)
  have HTX := hid (HX.out.below HB2.out)
  clear hb2 HC HX1 HB1 HX p0 p1 p2 p3 p4 p5 p6
  have HA2 := hid (HA.out.below HB2.out)
  have hDl := HA.out.2.1.lt
  obtain ⟨⟨q0, q1, q2⟩, _⟩ := three_cellsA HA2.out.1
  go_upto_region 5 with (fail)
  clear q0 q1 q2
  have hW2 : W.heap.size < w2.heap.size := lt_of_block HX2.out
  generalize hNN : W.heap.size = N at *
  have HNN := hid hNN
  clear hNN
  have hND : ¬ N = D := by omega
  have hS : ∀ U, Tch (fun g => g = D) w2 U → ((U.cell? ⟨G, 0, none⟩ = some (.pointer (some ⟨D, 0, none⟩)) ∧ U.cell? ⟨N, 0, none⟩ = some (.int .i64 k) ∧ U.cell? ⟨N, 1, none⟩ = some (.int .i64 j) ∧ U.cell? ⟨N, 2, none⟩ = some (.int .i64 t) ∧ U.cell? ⟨N, 3, none⟩ = some (.int .i64 wk) ∧ U.cell? ⟨N, 4, none⟩ = some (.int .i64 s) ∧ U.cell? ⟨N, 5, none⟩ = some (.int .i64 ep) ∧ U.cell? ⟨N, 6, none⟩ = some (.slice Ax ns.length cx)) ∧ Tch (fun g => g = D) w2 U) := fun U hU => ⟨⟨(three_cellsA (hU.block HA2.out.1 hGD)).1.1, seven_cells (hU.block HX2.out hND)⟩, hU⟩
  have hk0 : Below w2.heap.size w2 w2.drew := below_drew (Below.refl _ _)
  refine wp_region_held_drew (S := fun U => (U.cell? ⟨G, 0, none⟩ = some (.pointer (some ⟨D, 0, none⟩)) ∧ U.cell? ⟨N, 0, none⟩ = some (.int .i64 k) ∧ U.cell? ⟨N, 1, none⟩ = some (.int .i64 j) ∧ U.cell? ⟨N, 2, none⟩ = some (.int .i64 t) ∧ U.cell? ⟨N, 3, none⟩ = some (.int .i64 wk) ∧ U.cell? ⟨N, 4, none⟩ = some (.int .i64 s) ∧ U.cell? ⟨N, 5, none⟩ = some (.int .i64 ep) ∧ U.cell? ⟨N, 6, none⟩ = some (.slice Ax ns.length cx)) ∧ Tch (fun g => g = D) w2 U) (by kernel_rfl) (hS _ (Tch.of_below hk0)) (fun hHeld => ?_)
  generalize w2.drew = k0 at *
  refine wpAnyH_take (i := 0) (v := ?_) rfl (by kernel_rfl) (by kernel_rfl) (by kernel_rfl) (fun _ _ _ h => h) (Or.inl ⟨by rfl, ?_⟩) (by assumption) ?_
  rotate_left
  focus
    intro U hU
    try dsimp only at hU
    go_simp
    try (with_reducible rfl)
  simp only [List.getElem_toArray, List.getElem_cons_succ, List.getElem_cons_zero, Act.put, List.setIfInBounds_toArray, List.set_cons_zero, List.set_cons_succ]
  refine wpAnyH_take (i := 1) (v := ?_) rfl (by kernel_rfl) (by kernel_rfl) (by kernel_rfl) (fun _ _ _ h => h) (Or.inl ⟨by rfl, ?_⟩) (by assumption) ?_
  rotate_left
  focus
    intro U hU
    try dsimp only at hU
    go_simp
    try (with_reducible rfl)
  simp only [List.getElem_toArray, List.getElem_cons_succ, List.getElem_cons_zero, Act.put, List.setIfInBounds_toArray, List.set_cons_zero, List.set_cons_succ]
  refine wpAnyH_take (i := 2) (v := ?_) rfl (by kernel_rfl) (by kernel_rfl) (by kernel_rfl) (fun _ _ _ h => h) (Or.inl ⟨by rfl, ?_⟩) (by assumption) ?_
  rotate_left
  focus
    intro U hU
    try dsimp only at hU
    go_simp
    try (with_reducible rfl)
  simp only [List.getElem_toArray, List.getElem_cons_succ, List.getElem_cons_zero, Act.put, List.setIfInBounds_toArray, List.set_cons_zero, List.set_cons_succ]
  refine wpAnyH_take (i := 3) (v := ?_) rfl (by kernel_rfl) (by kernel_rfl) (by kernel_rfl) (fun _ _ _ h => h) (Or.inl ⟨by rfl, ?_⟩) (by assumption) ?_
  rotate_left
  focus
    intro U hU
    try dsimp only at hU
    go_simp
    try (with_reducible rfl)
  simp only [List.getElem_toArray, List.getElem_cons_succ, List.getElem_cons_zero, Act.put, List.setIfInBounds_toArray, List.set_cons_zero, List.set_cons_succ]
  refine wpAnyH_take (i := 4) (v := ?_) rfl (by kernel_rfl) (by kernel_rfl) (by kernel_rfl) (fun _ _ _ h => h) (Or.inl ⟨by rfl, ?_⟩) (by assumption) ?_
  rotate_left
  focus
    intro U hU
    try dsimp only at hU
    go_simp
    try (with_reducible rfl)
  simp only [List.getElem_toArray, List.getElem_cons_succ, List.getElem_cons_zero, Act.put, List.setIfInBounds_toArray, List.set_cons_zero, List.set_cons_succ]
  refine wpAnyH_ready (rs := [5]) (by kernel_rfl) (by simp) ?_
  refine (AllReadyH.cons rfl (fun K hK => ?_) AllReadyH.nil)
  simp only [List.getElem_toArray, List.getElem_cons_succ, List.getElem_cons_zero]
  go_simp
  refine hK.out _ _ ?_ (fun hHeld2 => ?_)
  focus
    exact hS _ (Tch.of_below (hk0.alloc hk0.size _))
  clear hHeld
  have hHeld := hHeld2
  clear hHeld2 hK K
  try simp only [List.getElem_toArray, List.getElem_cons_succ, List.getElem_cons_zero, Act.put, List.setIfInBounds_toArray, List.set_cons_zero, List.set_cons_succ]
  have hbn : Below (World.heap k0).size k0 (World.alloc k0 (.cells #[.int .i64 k, .int .i64 j, .int .i64 t, .int .i64 wk, .int .i64 s, .int .i64 ep, .slice Ax ns.length cx] 45 (0, 0))) := (Below.refl _ _).alloc (Nat.le_refl _) _
  have hk1 : Below w2.heap.size w2 (World.alloc k0 (.cells #[.int .i64 k, .int .i64 j, .int .i64 t, .int .i64 wk, .int .i64 s, .int .i64 ep, .slice Ax ns.length cx] 45 (0, 0))) := hk0.trans (hbn.mono hk0.size)
  have hx9 := heap_alloc_new k0 (.cells #[.int .i64 k, .int .i64 j, .int .i64 t, .int .i64 wk, .int .i64 s, .int .i64 ep, .slice Ax ns.length cx] 45 (0, 0))
  clear hbn
  generalize World.alloc k0 (.cells #[.int .i64 k, .int .i64 j, .int .i64 t, .int .i64 wk, .int .i64 s, .int .i64 ep, .slice Ax ns.length cx] 45 (0, 0)) = k1 at *
  generalize (World.heap k0).size = N9 at *
  refine wpAnyH_ready (rs := [6]) (by kernel_rfl) (by simp) ?_
  refine (AllReadyH.cons rfl (fun K hK => ?_) AllReadyH.nil)
  simp only [List.getElem_toArray, List.getElem_cons_succ, List.getElem_cons_zero]
  go_simp
  refine (HSB.out _ k1 (InR.one (x := Rc.mk k j t wk s ep ns) hx9 (HTX.out.below hk1))).mono ?_
  rintro e k2 ⟨A3, c3, rfl, ho3, hb3⟩
  have hk2 := hk1.trans (hb3.mono hk1.size)
  have hd2 := HA2.out.2.1.below hk2
  have hby := ho3.bytes
  clear hb3 ho3
  go_wp2_with fail
  refine hK.out _ _ ?_ (fun hHeld2 => ?_)
  focus
    exact hS _ (Tch.of_below hk2)
  clear hHeld
  have hHeld := hHeld2
  clear hHeld2 hK K
  try simp only [List.getElem_toArray, List.getElem_cons_succ, List.getElem_cons_zero, Act.put, List.setIfInBounds_toArray, List.set_cons_zero, List.set_cons_succ]
  refine wpAnyH_ready (rs := [7]) (by kernel_rfl) (by simp) ?_
  refine (AllReadyH.cons rfl (fun K hK => ?_) AllReadyH.nil)
  simp only [List.getElem_toArray, List.getElem_cons_succ, List.getElem_cons_zero]
  go_simp
  refine (HDA.out A3 c3 k2 hd2 hby).mono ?_
  rintro e k3 ⟨rfl, hd3, ho3⟩
  have hk3 : Tch (fun g => g = D) w2 k3 := (Tch.of_below hk2).trans (Tch.of_only (S := fun g => g = D) ho3 rfl hd2.lt) (fun g hg _ => hg)
  clear ho3 hby
  go_wp2_with fail
  refine hK.out _ _ ?_ (fun hHeld2 => ?_)
  focus
    exact hS _ hk3
  clear hHeld
  have hHeld := hHeld2
  clear hHeld2 hK K
  try simp only [List.getElem_toArray, List.getElem_cons_succ, List.getElem_cons_zero, Act.put, List.setIfInBounds_toArray, List.set_cons_zero, List.set_cons_succ]
  refine wpAnyH_take (i := 8) (v := ?_) rfl (by kernel_rfl) (by kernel_rfl) (by kernel_rfl) (fun _ _ _ h => h) (Or.inl ⟨by rfl, ?_⟩) (by assumption) ?_
  rotate_left
  focus
    intro U hU
    try dsimp only at hU
    go_simp
    try (with_reducible rfl)
  simp only [List.getElem_toArray, List.getElem_cons_succ, List.getElem_cons_zero, Act.put, List.setIfInBounds_toArray, List.set_cons_zero, List.set_cons_succ]
  refine wpAnyH_done (by kernel_rfl) ?_ _
  have HT5 := hid hk3
  have HD5 := hid hd3
  clear hHeld hS hk0 hk1 hk2 hk3 hd3 hd2 hx9 HSB HDA
  obtain ⟨A9, c9, hdk, _⟩ := HA2.out.2.1.open
  have HR5 := hid (HA2.out.2.2.apart hdk (by decide) (by decide) HT5.out)
  have HG5 := hid (HT5.out.block HA2.out.1 hGD)
  have HX5 := hid (HT5.out.block HX2.out hND)
  have HT6 := hid ((Tch.of_below (S := fun g => g = D) (HNN.out ▸ HB2.out)).trans HT5.out fun _ h _ => h)
  clear hdk HT5 HA HA2
  obtain ⟨⟨q0, q1, q2⟩, g0, g1, g2⟩ := three_cellsA HG5.out
  go_wp2
  go_ret
  exact ⟨rfl, A, c, els, rfl, ⟨HG5.out, HD5.out, HR5.out⟩, HT6.out.mono (fun g hg _ => .inl hg), .inl rfl⟩
set_option maxRecDepth 20000 in
set_option maxHeartbeats 4000000 in
theorem aappend_power {B G D room : Nat} {l : List UInt8} {armed : Bool} {fuse : Nat} {A : Option Addr} {c : Nat} {els : List El} (x : Rc) (Ax : Option Addr) (cx : Nat) (W : World) (h : AnAt W B G D room l armed fuse A c els false) (hx : TxAt W Ax cx x.ns) (hB : B ≤ W.heap.size) (hGD : G ≠ D) (hr : room ≤ 65536) (hl : l.length ≤ room) (hn : els.length ≤ 100000) (hc : chkR x = true) (he : apE room l (fR x) armed = 14) :
    Calls Try.prog 52 #[.pointer (some ⟨G, 0, none⟩), .agg (rcc x Ax cx)] W (AppR W B G D room l armed fuse A c els false x) := by
  have hc' : ¬ chkR x = false := by rw [hc]; simp
  have HV : Hid (anE room l armed false x = 14 ∧ anB room l armed fuse false x = apL room l (fR x) armed fuse ∧ anA room l armed false x = apA room l (fR x) armed) := hid ⟨(if_neg hc').trans he, if_neg hc', if_neg hc'⟩
  have HA := hid h
  have HX := hid hx
  have HC := hid (fun w (hw : Below W.heap.size W w) => rcheck_any x Ax cx w (hx.below hw))
  rw [hc] at HC
  have HNS := hid (chkR_ns hc)
  have hfl : (fR x).length ≤ 100000 := Nat.le_trans (fR_len x) (by omega)
  unfold AppR
  rw [HV.out.1, HV.out.2.1, HV.out.2.2]
  have HSB := hid (fun A' w (hw : InR w A' 1 [(x, Ax, cx)]) => sbytes_any A' 1 [(x, Ax, cx)] w hw (by simp))
  simp only [List.map_cons, List.map_nil, recB_one, List.length_cons, List.length_nil, Nat.zero_add] at HSB
  have HDA := hid (fun A' c' w (hd : DiskAt w D room l armed fuse) (hb : IsBytes w A' (fR x).length c' (fR x)) => dappend_any D room l (fR x) armed fuse A' c' w hd hb hr hl hfl)
  rw [he] at HDA
  generalize apL room l (fR x) armed fuse = l2 at *
  generalize apA room l (fR x) armed = ar2 at *
  have HCL := hid (fun w (hw : TxAt w Ax cx x.ns) => acloned_any x Ax cx w hw (Nat.le_trans HNS.out.1 (by omega)) HNS.out.2)
  generalize fR x = F at *
  clear h hx hc HV hc' he
  obtain ⟨k, j, t, wk, s, ep, ns⟩ := x
  simp only [rcc] at *
  go_enter Try.func52, Try.ntmps52
  go_upto_region 1 with (fail)
  refine at_world (fun u => u.heap[W.heap.size]? = some (.cells #[.int .i64 k, .int .i64 j, .int .i64 t, .int .i64 wk, .int .i64 s, .int .i64 ep, .slice Ax ns.length cx] 45 (0, 0)) ∧ Below W.heap.size W u) ⟨heap_alloc_new _ _, (Below.refl _ _).alloc (Nat.le_refl _) _⟩ ?_
  rintro w1 ⟨hx1, hb1⟩
  obtain ⟨p0, p1, p2, p3, p4, p5, p6⟩ := seven_cells hx1
  have HX1 := hid hx1
  have HB1 := hid hb1
  clear hx1 hb1
  go_wp2_with fail
  refine (HC.out w1 HB1.out).mono ?_
  rintro e w2 ⟨rfl, hb2⟩
  have HB2 := hid (HB1.out.trans (hb2.mono HB1.out.size))
  have HX2 := hid (keep0 HX1.out hb2)
  have HTX := hid (HX.out.below HB2.out)
  clear hb2 HC HX1 HB1 HX p0 p1 p2 p3 p4 p5 p6
  have HA2 := hid (HA.out.below HB2.out)
  have hDl := HA.out.2.1.lt
  obtain ⟨⟨q0, q1, q2⟩, _⟩ := three_cellsA HA2.out.1
  go_upto_region 5 with (fail)
  clear q0 q1 q2
  have hW2 : W.heap.size < w2.heap.size := lt_of_block HX2.out
  generalize hNN : W.heap.size = N at *
  have HNN := hid hNN
  clear hNN
  have hND : ¬ N = D := by omega
  have hS : ∀ U, Tch (fun g => g = D) w2 U → ((U.cell? ⟨G, 0, none⟩ = some (.pointer (some ⟨D, 0, none⟩)) ∧ U.cell? ⟨N, 0, none⟩ = some (.int .i64 k) ∧ U.cell? ⟨N, 1, none⟩ = some (.int .i64 j) ∧ U.cell? ⟨N, 2, none⟩ = some (.int .i64 t) ∧ U.cell? ⟨N, 3, none⟩ = some (.int .i64 wk) ∧ U.cell? ⟨N, 4, none⟩ = some (.int .i64 s) ∧ U.cell? ⟨N, 5, none⟩ = some (.int .i64 ep) ∧ U.cell? ⟨N, 6, none⟩ = some (.slice Ax ns.length cx)) ∧ Tch (fun g => g = D) w2 U) := fun U hU => ⟨⟨(three_cellsA (hU.block HA2.out.1 hGD)).1.1, seven_cells (hU.block HX2.out hND)⟩, hU⟩
  have hk0 : Below w2.heap.size w2 w2.drew := below_drew (Below.refl _ _)
  refine wp_region_held_drew (S := fun U => (U.cell? ⟨G, 0, none⟩ = some (.pointer (some ⟨D, 0, none⟩)) ∧ U.cell? ⟨N, 0, none⟩ = some (.int .i64 k) ∧ U.cell? ⟨N, 1, none⟩ = some (.int .i64 j) ∧ U.cell? ⟨N, 2, none⟩ = some (.int .i64 t) ∧ U.cell? ⟨N, 3, none⟩ = some (.int .i64 wk) ∧ U.cell? ⟨N, 4, none⟩ = some (.int .i64 s) ∧ U.cell? ⟨N, 5, none⟩ = some (.int .i64 ep) ∧ U.cell? ⟨N, 6, none⟩ = some (.slice Ax ns.length cx)) ∧ Tch (fun g => g = D) w2 U) (by kernel_rfl) (hS _ (Tch.of_below hk0)) (fun hHeld => ?_)
  generalize w2.drew = k0 at *
  refine wpAnyH_take (i := 0) (v := ?_) rfl (by kernel_rfl) (by kernel_rfl) (by kernel_rfl) (fun _ _ _ h => h) (Or.inl ⟨by rfl, ?_⟩) (by assumption) ?_
  rotate_left
  focus
    intro U hU
    try dsimp only at hU
    go_simp
    try (with_reducible rfl)
  simp only [List.getElem_toArray, List.getElem_cons_succ, List.getElem_cons_zero, Act.put, List.setIfInBounds_toArray, List.set_cons_zero, List.set_cons_succ]
  refine wpAnyH_take (i := 1) (v := ?_) rfl (by kernel_rfl) (by kernel_rfl) (by kernel_rfl) (fun _ _ _ h => h) (Or.inl ⟨by rfl, ?_⟩) (by assumption) ?_
  rotate_left
  focus
    intro U hU
    try dsimp only at hU
    go_simp
    try (with_reducible rfl)
  simp only [List.getElem_toArray, List.getElem_cons_succ, List.getElem_cons_zero, Act.put, List.setIfInBounds_toArray, List.set_cons_zero, List.set_cons_succ]
  refine wpAnyH_take (i := 2) (v := ?_) rfl (by kernel_rfl) (by kernel_rfl) (by kernel_rfl) (fun _ _ _ h => h) (Or.inl ⟨by rfl, ?_⟩) (by assumption) ?_
  rotate_left
  focus
    intro U hU
    try dsimp only at hU
    go_simp
    try (with_reducible rfl)
  simp only [List.getElem_toArray, List.getElem_cons_succ, List.getElem_cons_zero, Act.put, List.setIfInBounds_toArray, List.set_cons_zero, List.set_cons_succ]
  refine wpAnyH_take (i := 3) (v := ?_) rfl (by kernel_rfl) (by kernel_rfl) (by kernel_rfl) (fun _ _ _ h => h) (Or.inl ⟨by rfl, ?_⟩) (by assumption) ?_
  rotate_left
  focus
    intro U hU
    try dsimp only at hU
    go_simp
    try (with_reducible rfl)
  simp only [List.getElem_toArray, List.getElem_cons_succ, List.getElem_cons_zero, Act.put, List.setIfInBounds_toArray, List.set_cons_zero, List.set_cons_succ]
  refine wpAnyH_take (i := 4) (v := ?_) rfl (by kernel_rfl) (by kernel_rfl) (by kernel_rfl) (fun _ _ _ h => h) (Or.inl ⟨by rfl, ?_⟩) (by assumption) ?_
  rotate_left
  focus
    intro U hU
    try dsimp only at hU
    go_simp
    try (with_reducible rfl)
  simp only [List.getElem_toArray, List.getElem_cons_succ, List.getElem_cons_zero, Act.put, List.setIfInBounds_toArray, List.set_cons_zero, List.set_cons_succ]
  refine wpAnyH_ready (rs := [5]) (by kernel_rfl) (by simp) ?_
  refine (AllReadyH.cons rfl (fun K hK => ?_) AllReadyH.nil)
  simp only [List.getElem_toArray, List.getElem_cons_succ, List.getElem_cons_zero]
  go_simp
  refine hK.out _ _ ?_ (fun hHeld2 => ?_)
  focus
    exact hS _ (Tch.of_below (hk0.alloc hk0.size _))
  clear hHeld
  have hHeld := hHeld2
  clear hHeld2 hK K
  try simp only [List.getElem_toArray, List.getElem_cons_succ, List.getElem_cons_zero, Act.put, List.setIfInBounds_toArray, List.set_cons_zero, List.set_cons_succ]
  have hbn : Below (World.heap k0).size k0 (World.alloc k0 (.cells #[.int .i64 k, .int .i64 j, .int .i64 t, .int .i64 wk, .int .i64 s, .int .i64 ep, .slice Ax ns.length cx] 45 (0, 0))) := (Below.refl _ _).alloc (Nat.le_refl _) _
  have hk1 : Below w2.heap.size w2 (World.alloc k0 (.cells #[.int .i64 k, .int .i64 j, .int .i64 t, .int .i64 wk, .int .i64 s, .int .i64 ep, .slice Ax ns.length cx] 45 (0, 0))) := hk0.trans (hbn.mono hk0.size)
  have hx9 := heap_alloc_new k0 (.cells #[.int .i64 k, .int .i64 j, .int .i64 t, .int .i64 wk, .int .i64 s, .int .i64 ep, .slice Ax ns.length cx] 45 (0, 0))
  clear hbn
  generalize World.alloc k0 (.cells #[.int .i64 k, .int .i64 j, .int .i64 t, .int .i64 wk, .int .i64 s, .int .i64 ep, .slice Ax ns.length cx] 45 (0, 0)) = k1 at *
  generalize (World.heap k0).size = N9 at *
  refine wpAnyH_ready (rs := [6]) (by kernel_rfl) (by simp) ?_
  refine (AllReadyH.cons rfl (fun K hK => ?_) AllReadyH.nil)
  simp only [List.getElem_toArray, List.getElem_cons_succ, List.getElem_cons_zero]
  go_simp
  refine (HSB.out _ k1 (InR.one (x := Rc.mk k j t wk s ep ns) hx9 (HTX.out.below hk1))).mono ?_
  rintro e k2 ⟨A3, c3, rfl, ho3, hb3⟩
  have hk2 := hk1.trans (hb3.mono hk1.size)
  have hd2 := HA2.out.2.1.below hk2
  have hby := ho3.bytes
  clear hb3 ho3
  go_wp2_with fail
  refine hK.out _ _ ?_ (fun hHeld2 => ?_)
  focus
    exact hS _ (Tch.of_below hk2)
  clear hHeld
  have hHeld := hHeld2
  clear hHeld2 hK K
  try simp only [List.getElem_toArray, List.getElem_cons_succ, List.getElem_cons_zero, Act.put, List.setIfInBounds_toArray, List.set_cons_zero, List.set_cons_succ]
  refine wpAnyH_ready (rs := [7]) (by kernel_rfl) (by simp) ?_
  refine (AllReadyH.cons rfl (fun K hK => ?_) AllReadyH.nil)
  simp only [List.getElem_toArray, List.getElem_cons_succ, List.getElem_cons_zero]
  go_simp
  refine (HDA.out A3 c3 k2 hd2 hby).mono ?_
  rintro e k3 ⟨rfl, hd3, ho3⟩
  have hk3 : Tch (fun g => g = D) w2 k3 := (Tch.of_below hk2).trans (Tch.of_only (S := fun g => g = D) ho3 rfl hd2.lt) (fun g hg _ => hg)
  clear ho3 hby
  go_wp2_with fail
  refine hK.out _ _ ?_ (fun hHeld2 => ?_)
  focus
    exact hS _ hk3
  clear hHeld
  have hHeld := hHeld2
  clear hHeld2 hK K
  try simp only [List.getElem_toArray, List.getElem_cons_succ, List.getElem_cons_zero, Act.put, List.setIfInBounds_toArray, List.set_cons_zero, List.set_cons_succ]
  refine wpAnyH_take (i := 8) (v := ?_) rfl (by kernel_rfl) (by kernel_rfl) (by kernel_rfl) (fun _ _ _ h => h) (Or.inl ⟨by rfl, ?_⟩) (by assumption) ?_
  rotate_left
  focus
    intro U hU
    try dsimp only at hU
    go_simp
    try (with_reducible rfl)
  simp only [List.getElem_toArray, List.getElem_cons_succ, List.getElem_cons_zero, Act.put, List.setIfInBounds_toArray, List.set_cons_zero, List.set_cons_succ]
  refine wpAnyH_done (by kernel_rfl) ?_ _
  have HT5 := hid hk3
  have HD5 := hid hd3
  clear hHeld hS hk0 hk1 hk2 hk3 hd3 hd2 hx9 HSB HDA
  obtain ⟨A9, c9, hdk, _⟩ := HA2.out.2.1.open
  have HR5 := hid (HA2.out.2.2.apart hdk (by decide) (by decide) HT5.out)
  have HG5 := hid (HT5.out.block HA2.out.1 hGD)
  have HX5 := hid (HT5.out.block HX2.out hND)
  have HT6 := hid ((Tch.of_below (S := fun g => g = D) (HNN.out ▸ HB2.out)).trans HT5.out fun _ h _ => h)
  clear hdk HT5 HA HA2
  obtain ⟨⟨q0, q1, q2⟩, g0, g1, g2⟩ := three_cellsA HG5.out
  have HTS := tch_set k3 G 2 (.bool true)
  have HG6 : Hid ((k3.setCell ⟨G, 2, none⟩ (.bool true)).heap[G]? = some (.cells #[.pointer (some ⟨D, 0, none⟩), .slice A els.length c, .bool true] 140 (0, 0))) := hid (by rw [heap_setCell_same k3 G 2 _ _ (.bool true) HG5.out]; rfl)
  have HD6 := hid (HD5.out.apart HG5.out (by decide) (Ne.symm hGD) HTS)
  have HR6 := hid (HR5.out.apart HG5.out (by decide) (by decide) HTS)
  have HT7 : Hid (Tch (fun g => g = D ∨ g = G ∨ (Value.slice A els.length c).ownBlock = some g) W (k3.setCell ⟨G, 2, none⟩ (.bool true))) := hid ((HT6.out.mono (fun g hg _ => .inl hg)).set G 2 _ (fun _ => .inr (.inl rfl)))
  clear HTS HG5 HD5 HR5 HT6
  go_wp2
  go_ret
  exact ⟨rfl, A, c, els, rfl, ⟨HG6.out, HD6.out, HR6.out⟩, HT7.out, .inl rfl⟩
set_option maxRecDepth 20000 in
set_option maxHeartbeats 4000000 in
theorem aappend_ok {B G D room : Nat} {l : List UInt8} {armed : Bool} {fuse : Nat} {A : Option Addr} {c : Nat} {els : List El} (x : Rc) (Ax : Option Addr) (cx : Nat) (W : World) (h : AnAt W B G D room l armed fuse A c els false) (hx : TxAt W Ax cx x.ns) (hB : B ≤ W.heap.size) (hGD : G ≠ D) (hr : room ≤ 65536) (hl : l.length ≤ room) (hn : els.length ≤ 100000) (hc : chkR x = true) (he : apE room l (fR x) armed = 0) :
    Calls Try.prog 52 #[.pointer (some ⟨G, 0, none⟩), .agg (rcc x Ax cx)] W (AppR W B G D room l armed fuse A c els false x) := by
  have hc' : ¬ chkR x = false := by rw [hc]; simp
  have HV : Hid (anE room l armed false x = 0 ∧ anB room l armed fuse false x = apL room l (fR x) armed fuse ∧ anA room l armed false x = apA room l (fR x) armed) := hid ⟨(if_neg hc').trans he, if_neg hc', if_neg hc'⟩
  have HA := hid h
  have HX := hid hx
  have HC := hid (fun w (hw : Below W.heap.size W w) => rcheck_any x Ax cx w (hx.below hw))
  rw [hc] at HC
  have HNS := hid (chkR_ns hc)
  have hfl : (fR x).length ≤ 100000 := Nat.le_trans (fR_len x) (by omega)
  unfold AppR
  rw [HV.out.1, HV.out.2.1, HV.out.2.2]
  have HSB := hid (fun A' w (hw : InR w A' 1 [(x, Ax, cx)]) => sbytes_any A' 1 [(x, Ax, cx)] w hw (by simp))
  simp only [List.map_cons, List.map_nil, recB_one, List.length_cons, List.length_nil, Nat.zero_add] at HSB
  have HDA := hid (fun A' c' w (hd : DiskAt w D room l armed fuse) (hb : IsBytes w A' (fR x).length c' (fR x)) => dappend_any D room l (fR x) armed fuse A' c' w hd hb hr hl hfl)
  rw [he] at HDA
  generalize apL room l (fR x) armed fuse = l2 at *
  have HAW := hid h
  generalize apA room l (fR x) armed = ar2 at *
  have HCL := hid (fun w (hw : TxAt w Ax cx x.ns) => acloned_any x Ax cx w hw (Nat.le_trans HNS.out.1 (by omega)) HNS.out.2)
  generalize fR x = F at *
  clear h hx hc HV hc' he
  obtain ⟨k, j, t, wk, s, ep, ns⟩ := x
  simp only [rcc] at *
  go_enter Try.func52, Try.ntmps52
  go_upto_region 1 with (fail)
  refine at_world (fun u => u.heap[W.heap.size]? = some (.cells #[.int .i64 k, .int .i64 j, .int .i64 t, .int .i64 wk, .int .i64 s, .int .i64 ep, .slice Ax ns.length cx] 45 (0, 0)) ∧ Below W.heap.size W u) ⟨heap_alloc_new _ _, (Below.refl _ _).alloc (Nat.le_refl _) _⟩ ?_
  rintro w1 ⟨hx1, hb1⟩
  obtain ⟨p0, p1, p2, p3, p4, p5, p6⟩ := seven_cells hx1
  have HX1 := hid hx1
  have HB1 := hid hb1
  clear hx1 hb1
  go_wp2_with fail
  refine (HC.out w1 HB1.out).mono ?_
  rintro e w2 ⟨rfl, hb2⟩
  have HB2 := hid (HB1.out.trans (hb2.mono HB1.out.size))
  have HX2 := hid (keep0 HX1.out hb2)
  have HTX := hid (HX.out.below HB2.out)
  clear hb2 HC HX1 HB1 HX p0 p1 p2 p3 p4 p5 p6
  have HA2 := hid (HA.out.below HB2.out)
  have hDl := HA.out.2.1.lt
  obtain ⟨⟨q0, q1, q2⟩, _⟩ := three_cellsA HA2.out.1
  go_upto_region 5 with (fail)
  clear q0 q1 q2
  have hW2 : W.heap.size < w2.heap.size := lt_of_block HX2.out
  generalize hNN : W.heap.size = N at *
  have HNN := hid hNN
  clear hNN
  have hND : ¬ N = D := by omega
  have hS : ∀ U, Tch (fun g => g = D) w2 U → ((U.cell? ⟨G, 0, none⟩ = some (.pointer (some ⟨D, 0, none⟩)) ∧ U.cell? ⟨N, 0, none⟩ = some (.int .i64 k) ∧ U.cell? ⟨N, 1, none⟩ = some (.int .i64 j) ∧ U.cell? ⟨N, 2, none⟩ = some (.int .i64 t) ∧ U.cell? ⟨N, 3, none⟩ = some (.int .i64 wk) ∧ U.cell? ⟨N, 4, none⟩ = some (.int .i64 s) ∧ U.cell? ⟨N, 5, none⟩ = some (.int .i64 ep) ∧ U.cell? ⟨N, 6, none⟩ = some (.slice Ax ns.length cx)) ∧ Tch (fun g => g = D) w2 U) := fun U hU => ⟨⟨(three_cellsA (hU.block HA2.out.1 hGD)).1.1, seven_cells (hU.block HX2.out hND)⟩, hU⟩
  have hk0 : Below w2.heap.size w2 w2.drew := below_drew (Below.refl _ _)
  refine wp_region_held_drew (S := fun U => (U.cell? ⟨G, 0, none⟩ = some (.pointer (some ⟨D, 0, none⟩)) ∧ U.cell? ⟨N, 0, none⟩ = some (.int .i64 k) ∧ U.cell? ⟨N, 1, none⟩ = some (.int .i64 j) ∧ U.cell? ⟨N, 2, none⟩ = some (.int .i64 t) ∧ U.cell? ⟨N, 3, none⟩ = some (.int .i64 wk) ∧ U.cell? ⟨N, 4, none⟩ = some (.int .i64 s) ∧ U.cell? ⟨N, 5, none⟩ = some (.int .i64 ep) ∧ U.cell? ⟨N, 6, none⟩ = some (.slice Ax ns.length cx)) ∧ Tch (fun g => g = D) w2 U) (by kernel_rfl) (hS _ (Tch.of_below hk0)) (fun hHeld => ?_)
  generalize w2.drew = k0 at *
  refine wpAnyH_take (i := 0) (v := ?_) rfl (by kernel_rfl) (by kernel_rfl) (by kernel_rfl) (fun _ _ _ h => h) (Or.inl ⟨by rfl, ?_⟩) (by assumption) ?_
  rotate_left
  focus
    intro U hU
    try dsimp only at hU
    go_simp
    try (with_reducible rfl)
  simp only [List.getElem_toArray, List.getElem_cons_succ, List.getElem_cons_zero, Act.put, List.setIfInBounds_toArray, List.set_cons_zero, List.set_cons_succ]
  refine wpAnyH_take (i := 1) (v := ?_) rfl (by kernel_rfl) (by kernel_rfl) (by kernel_rfl) (fun _ _ _ h => h) (Or.inl ⟨by rfl, ?_⟩) (by assumption) ?_
  rotate_left
  focus
    intro U hU
    try dsimp only at hU
    go_simp
    try (with_reducible rfl)
  simp only [List.getElem_toArray, List.getElem_cons_succ, List.getElem_cons_zero, Act.put, List.setIfInBounds_toArray, List.set_cons_zero, List.set_cons_succ]
  refine wpAnyH_take (i := 2) (v := ?_) rfl (by kernel_rfl) (by kernel_rfl) (by kernel_rfl) (fun _ _ _ h => h) (Or.inl ⟨by rfl, ?_⟩) (by assumption) ?_
  rotate_left
  focus
    intro U hU
    try dsimp only at hU
    go_simp
    try (with_reducible rfl)
  simp only [List.getElem_toArray, List.getElem_cons_succ, List.getElem_cons_zero, Act.put, List.setIfInBounds_toArray, List.set_cons_zero, List.set_cons_succ]
  refine wpAnyH_take (i := 3) (v := ?_) rfl (by kernel_rfl) (by kernel_rfl) (by kernel_rfl) (fun _ _ _ h => h) (Or.inl ⟨by rfl, ?_⟩) (by assumption) ?_
  rotate_left
  focus
    intro U hU
    try dsimp only at hU
    go_simp
    try (with_reducible rfl)
  simp only [List.getElem_toArray, List.getElem_cons_succ, List.getElem_cons_zero, Act.put, List.setIfInBounds_toArray, List.set_cons_zero, List.set_cons_succ]
  refine wpAnyH_take (i := 4) (v := ?_) rfl (by kernel_rfl) (by kernel_rfl) (by kernel_rfl) (fun _ _ _ h => h) (Or.inl ⟨by rfl, ?_⟩) (by assumption) ?_
  rotate_left
  focus
    intro U hU
    try dsimp only at hU
    go_simp
    try (with_reducible rfl)
  simp only [List.getElem_toArray, List.getElem_cons_succ, List.getElem_cons_zero, Act.put, List.setIfInBounds_toArray, List.set_cons_zero, List.set_cons_succ]
  refine wpAnyH_ready (rs := [5]) (by kernel_rfl) (by simp) ?_
  refine (AllReadyH.cons rfl (fun K hK => ?_) AllReadyH.nil)
  simp only [List.getElem_toArray, List.getElem_cons_succ, List.getElem_cons_zero]
  go_simp
  refine hK.out _ _ ?_ (fun hHeld2 => ?_)
  focus
    exact hS _ (Tch.of_below (hk0.alloc hk0.size _))
  clear hHeld
  have hHeld := hHeld2
  clear hHeld2 hK K
  try simp only [List.getElem_toArray, List.getElem_cons_succ, List.getElem_cons_zero, Act.put, List.setIfInBounds_toArray, List.set_cons_zero, List.set_cons_succ]
  have hbn : Below (World.heap k0).size k0 (World.alloc k0 (.cells #[.int .i64 k, .int .i64 j, .int .i64 t, .int .i64 wk, .int .i64 s, .int .i64 ep, .slice Ax ns.length cx] 45 (0, 0))) := (Below.refl _ _).alloc (Nat.le_refl _) _
  have hk1 : Below w2.heap.size w2 (World.alloc k0 (.cells #[.int .i64 k, .int .i64 j, .int .i64 t, .int .i64 wk, .int .i64 s, .int .i64 ep, .slice Ax ns.length cx] 45 (0, 0))) := hk0.trans (hbn.mono hk0.size)
  have hx9 := heap_alloc_new k0 (.cells #[.int .i64 k, .int .i64 j, .int .i64 t, .int .i64 wk, .int .i64 s, .int .i64 ep, .slice Ax ns.length cx] 45 (0, 0))
  clear hbn
  generalize World.alloc k0 (.cells #[.int .i64 k, .int .i64 j, .int .i64 t, .int .i64 wk, .int .i64 s, .int .i64 ep, .slice Ax ns.length cx] 45 (0, 0)) = k1 at *
  generalize (World.heap k0).size = N9 at *
  refine wpAnyH_ready (rs := [6]) (by kernel_rfl) (by simp) ?_
  refine (AllReadyH.cons rfl (fun K hK => ?_) AllReadyH.nil)
  simp only [List.getElem_toArray, List.getElem_cons_succ, List.getElem_cons_zero]
  go_simp
  refine (HSB.out _ k1 (InR.one (x := Rc.mk k j t wk s ep ns) hx9 (HTX.out.below hk1))).mono ?_
  rintro e k2 ⟨A3, c3, rfl, ho3, hb3⟩
  have hk2 := hk1.trans (hb3.mono hk1.size)
  have hd2 := HA2.out.2.1.below hk2
  have hby := ho3.bytes
  clear hb3 ho3
  go_wp2_with fail
  refine hK.out _ _ ?_ (fun hHeld2 => ?_)
  focus
    exact hS _ (Tch.of_below hk2)
  clear hHeld
  have hHeld := hHeld2
  clear hHeld2 hK K
  try simp only [List.getElem_toArray, List.getElem_cons_succ, List.getElem_cons_zero, Act.put, List.setIfInBounds_toArray, List.set_cons_zero, List.set_cons_succ]
  refine wpAnyH_ready (rs := [7]) (by kernel_rfl) (by simp) ?_
  refine (AllReadyH.cons rfl (fun K hK => ?_) AllReadyH.nil)
  simp only [List.getElem_toArray, List.getElem_cons_succ, List.getElem_cons_zero]
  go_simp
  refine (HDA.out A3 c3 k2 hd2 hby).mono ?_
  rintro e k3 ⟨rfl, hd3, ho3⟩
  have hk3 : Tch (fun g => g = D) w2 k3 := (Tch.of_below hk2).trans (Tch.of_only (S := fun g => g = D) ho3 rfl hd2.lt) (fun g hg _ => hg)
  clear ho3 hby
  go_wp2_with fail
  refine hK.out _ _ ?_ (fun hHeld2 => ?_)
  focus
    exact hS _ hk3
  clear hHeld
  have hHeld := hHeld2
  clear hHeld2 hK K
  try simp only [List.getElem_toArray, List.getElem_cons_succ, List.getElem_cons_zero, Act.put, List.setIfInBounds_toArray, List.set_cons_zero, List.set_cons_succ]
  refine wpAnyH_take (i := 8) (v := ?_) rfl (by kernel_rfl) (by kernel_rfl) (by kernel_rfl) (fun _ _ _ h => h) (Or.inl ⟨by rfl, ?_⟩) (by assumption) ?_
  rotate_left
  focus
    intro U hU
    try dsimp only at hU
    go_simp
    try (with_reducible rfl)
  simp only [List.getElem_toArray, List.getElem_cons_succ, List.getElem_cons_zero, Act.put, List.setIfInBounds_toArray, List.set_cons_zero, List.set_cons_succ]
  refine wpAnyH_done (by kernel_rfl) ?_ _
  have HT5 := hid hk3
  have HD5 := hid hd3
  clear hHeld hS hk0 hk1 hk2 hk3 hd3 hd2 hx9 HSB HDA
  obtain ⟨A9, c9, hdk, _⟩ := HA2.out.2.1.open
  have HR5 := hid (HA2.out.2.2.apart hdk (by decide) (by decide) HT5.out)
  have HG5 := hid (HT5.out.block HA2.out.1 hGD)
  have HX5 := hid (HT5.out.block HX2.out hND)
  have HT6 := hid ((Tch.of_below (S := fun g => g = D) (HNN.out ▸ HB2.out)).trans HT5.out fun _ h _ => h)
  have HTX5 := hid (TxAt.disk HTX.out hdk HT5.out)
  clear hdk HT5 HA HA2
  obtain ⟨⟨q0, q1, q2⟩, g0, g1, g2⟩ := three_cellsA HG5.out
  go_upto_region 8 with (fail)
  have hNk : N ≤ k3.heap.size := by
    have h7 := HNN.out
    have h8 := HT6.out.size
    omega
  have hNG : ¬ (N = G ∨ (Value.slice A els.length c).ownBlock = some N) := by
    rintro (h9 | h9)
    · rw [h9] at HX5
      have h8 := HG5.out
      rw [HX5.out] at h8
      injection h8 with h8
      injection h8 with _ h7
      exact absurd h7 (by decide)
    · have h8 := (own_lt HAW.out.2.2.1 N h9).2.1
      have h7 := HNN.out
      omega
  have hS : ∀ U, Tch (fun g => g = G ∨ (Value.slice A els.length c).ownBlock = some g) k3 U → ((U.cell? ⟨N, 0, none⟩ = some (.int .i64 k) ∧ U.cell? ⟨N, 1, none⟩ = some (.int .i64 j) ∧ U.cell? ⟨N, 2, none⟩ = some (.int .i64 t) ∧ U.cell? ⟨N, 3, none⟩ = some (.int .i64 wk) ∧ U.cell? ⟨N, 4, none⟩ = some (.int .i64 s) ∧ U.cell? ⟨N, 5, none⟩ = some (.int .i64 ep) ∧ U.cell? ⟨N, 6, none⟩ = some (.slice Ax ns.length cx)) ∧ Tch (fun g => g = G ∨ (Value.slice A els.length c).ownBlock = some g) k3 U) := fun U hU => ⟨seven_cells (hU.block HX5.out hNG), hU⟩
  have hk0 : Below k3.heap.size k3 k3.drew := below_drew (Below.refl _ _)
  refine wp_region_held_drew (S := fun U => (U.cell? ⟨N, 0, none⟩ = some (.int .i64 k) ∧ U.cell? ⟨N, 1, none⟩ = some (.int .i64 j) ∧ U.cell? ⟨N, 2, none⟩ = some (.int .i64 t) ∧ U.cell? ⟨N, 3, none⟩ = some (.int .i64 wk) ∧ U.cell? ⟨N, 4, none⟩ = some (.int .i64 s) ∧ U.cell? ⟨N, 5, none⟩ = some (.int .i64 ep) ∧ U.cell? ⟨N, 6, none⟩ = some (.slice Ax ns.length cx)) ∧ Tch (fun g => g = G ∨ (Value.slice A els.length c).ownBlock = some g) k3 U) (by kernel_rfl) (hS _ (Tch.of_below hk0)) (fun hHeld => ?_)
  generalize k3.drew = m0 at *
  replace q1 := cellb hk0 q1
  refine wpAnyH_take (i := 0) (v := ?_) rfl (by kernel_rfl) (by kernel_rfl) (by kernel_rfl) (fun _ _ _ h => h) (Or.inl ⟨by rfl, ?_⟩) (by assumption) ?_
  rotate_left
  focus
    intro U hU
    try dsimp only at hU
    go_simp
    try (with_reducible rfl)
  simp only [List.getElem_toArray, List.getElem_cons_succ, List.getElem_cons_zero, Act.put, List.setIfInBounds_toArray, List.set_cons_zero, List.set_cons_succ]
  refine wpAnyH_take (i := 1) (v := ?_) rfl (by kernel_rfl) (by kernel_rfl) (by kernel_rfl) (fun _ _ _ h => h) (Or.inl ⟨by rfl, ?_⟩) (by assumption) ?_
  rotate_left
  focus
    intro U hU
    try dsimp only at hU
    go_simp
    try (with_reducible rfl)
  simp only [List.getElem_toArray, List.getElem_cons_succ, List.getElem_cons_zero, Act.put, List.setIfInBounds_toArray, List.set_cons_zero, List.set_cons_succ]
  refine wpAnyH_take (i := 2) (v := ?_) rfl (by kernel_rfl) (by kernel_rfl) (by kernel_rfl) (fun _ _ _ h => h) (Or.inl ⟨by rfl, ?_⟩) (by assumption) ?_
  rotate_left
  focus
    intro U hU
    try dsimp only at hU
    go_simp
    try (with_reducible rfl)
  simp only [List.getElem_toArray, List.getElem_cons_succ, List.getElem_cons_zero, Act.put, List.setIfInBounds_toArray, List.set_cons_zero, List.set_cons_succ]
  refine wpAnyH_take (i := 3) (v := ?_) rfl (by kernel_rfl) (by kernel_rfl) (by kernel_rfl) (fun _ _ _ h => h) (Or.inl ⟨by rfl, ?_⟩) (by assumption) ?_
  rotate_left
  focus
    intro U hU
    try dsimp only at hU
    go_simp
    try (with_reducible rfl)
  simp only [List.getElem_toArray, List.getElem_cons_succ, List.getElem_cons_zero, Act.put, List.setIfInBounds_toArray, List.set_cons_zero, List.set_cons_succ]
  refine wpAnyH_take (i := 5) (v := ?_) rfl (by kernel_rfl) (by kernel_rfl) (by kernel_rfl) (fun _ _ _ h => h) (Or.inl ⟨by rfl, ?_⟩) (by assumption) ?_
  rotate_left
  focus
    intro U hU
    try dsimp only at hU
    go_simp
    try (with_reducible rfl)
  simp only [List.getElem_toArray, List.getElem_cons_succ, List.getElem_cons_zero, Act.put, List.setIfInBounds_toArray, List.set_cons_zero, List.set_cons_succ]
  refine wpAnyH_ready (rs := [4, 6]) (by kernel_rfl) (by simp) ?_
  refine (AllReadyH.cons rfl (fun K hK => ?_) (AllReadyH.cons rfl (fun K hK => ?_) AllReadyH.nil))
  · skip
    simp only [List.getElem_toArray, List.getElem_cons_succ, List.getElem_cons_zero]
    go_simp
    refine hK.out _ _ ?_ (fun hHeld2 => ?_)
    focus
      exact hS _ (Tch.of_below hk0)
    clear hHeld
    have hHeld := hHeld2
    clear hHeld2 hK K
    try simp only [List.getElem_toArray, List.getElem_cons_succ, List.getElem_cons_zero, Act.put, List.setIfInBounds_toArray, List.set_cons_zero, List.set_cons_succ]
    refine wpAnyH_ready (rs := [6]) (by kernel_rfl) (by simp) ?_
    refine (AllReadyH.cons rfl (fun K hK => ?_) AllReadyH.nil)
    simp only [List.getElem_toArray, List.getElem_cons_succ, List.getElem_cons_zero]
    go_simp
    refine (HCL.out m0 (HTX5.out.below hk0)).mono ?_
    rintro e m1 ⟨A2, c2, rfl, hs2, hb2⟩
    have hk1 := hk0.trans (hb2.mono hk0.size)
    have q1c := cellb hb2 q1
    have hs3 := hs2.mono hk0.size
    clear hb2 hs2
    go_wp2_with fail
    refine hK.out _ _ ?_ (fun hHeld2 => ?_)
    focus
      exact hS _ (Tch.of_below hk1)
    clear hHeld
    have hHeld := hHeld2
    clear hHeld2 hK K
    try simp only [List.getElem_toArray, List.getElem_cons_succ, List.getElem_cons_zero, Act.put, List.setIfInBounds_toArray, List.set_cons_zero, List.set_cons_succ]
    refine wpAnyH_ready (rs := [7]) (by kernel_rfl) (by simp) ?_
    refine (AllReadyH.cons rfl (fun K hK => ?_) AllReadyH.nil)
    simp only [List.getElem_toArray, List.getElem_cons_succ, List.getElem_cons_zero]
    go_simp
    refine hK.out _ _ ?_ (fun hHeld2 => ?_)
    focus
      exact hS _ (Tch.of_below (hk1.alloc hk1.size _))
    clear hHeld
    have hHeld := hHeld2
    clear hHeld2 hK K
    try simp only [List.getElem_toArray, List.getElem_cons_succ, List.getElem_cons_zero, Act.put, List.setIfInBounds_toArray, List.set_cons_zero, List.set_cons_succ]
    have hbn : Below (World.heap m1).size m1 (World.alloc m1 (.cells #[.int .i64 k, .int .i64 j, .int .i64 t, .int .i64 wk, .int .i64 s, .int .i64 ep, .slice A2 ns.length c2] 45 (0, 0))) := (Below.refl _ _).alloc (Nat.le_refl _) _
    have hk2 : Below k3.heap.size k3 (World.alloc m1 (.cells #[.int .i64 k, .int .i64 j, .int .i64 t, .int .i64 wk, .int .i64 s, .int .i64 ep, .slice A2 ns.length c2] 45 (0, 0))) := hk1.trans (hbn.mono hk1.size)
    have hx9 := heap_alloc_new m1 (.cells #[.int .i64 k, .int .i64 j, .int .i64 t, .int .i64 wk, .int .i64 s, .int .i64 ep, .slice A2 ns.length c2] 45 (0, 0))
    have hs4 := hs3.keep hbn
    have q1d := cellb hbn q1c
    clear hbn
    generalize World.alloc m1 (.cells #[.int .i64 k, .int .i64 j, .int .i64 t, .int .i64 wk, .int .i64 s, .int .i64 ep, .slice A2 ns.length c2] 45 (0, 0)) = m2 at *
    generalize (World.heap m1).size = N9 at *
    refine wpAnyH_ready (rs := [8]) (by kernel_rfl) (by simp) ?_
    refine (AllReadyH.cons rfl (fun K hK => ?_) AllReadyH.nil)
    refine step_append_slw rfl (.tmp 32) (.tmp 35) 57 rfl B 45 Try.underlying57 info_rec rfl (by omega) rfl (own_keep HR5.out.1 hk2) rfl (sl_blk7 hx9) (by simp [Value.oneCell']) ?c1 ?c2 ?c3 ?_
    case c1 => unfold maxLen; omega
    case c2 => omega
    case c3 => have := hk2.size; omega
    intro v5 w6 ho5 ht5 hw5
    have hk6 : Tch (fun g => g = G ∨ (Value.slice A els.length c).ownBlock = some g) k3 w6 := (Tch.of_below hk2).trans ht5 (fun g hg _ => .inr hg)
    have HO6 : RowR w6 B v5 (els ++ [(Rc.mk k j t wk s ep ns, A2, c2)]) := RowR.push (HR5.out.keep hk2) (hs4.mono (show B ≤ k3.heap.size by omega)) (by simpa [rcc] using ho5) (fun g _ hl hne => ht5.keep g hne hl)
    have HD6 := (HD5.out.below hk2).row (own_keep HR5.out.1 hk2) ht5
    have HG6 := ht5.block (keep0 HG5.out hk2) (fun hg => own_apart_blk HR5.out.1 HG5.out (by decide) G hg rfl)
    have hw6 : v5.ownBlock = (Value.slice A els.length c).ownBlock ∨ ∀ g, v5.ownBlock = some g → N ≤ g := hw5.imp id (fun h g hg => Nat.le_trans (by have := hk2.size; omega) (h g hg))
    clear ht5 hw5 ho5 hs4 hx9 q1d
    obtain ⟨A6, c6, rfl, _⟩ := Sl.of_own HO6.1
    have HLE : (els ++ [(Rc.mk k j t wk s ep ns, A2, c2)]).length = els.length + 1 := by rw [List.length_append]; rfl
    rw [HLE] at HO6 hw6
    have HTS := tch_set w6 G 1 (.slice A6 (els.length + 1) c6)
    have HG7 : (w6.setCell ⟨G, 1, none⟩ (.slice A6 (els.length + 1) c6)).heap[G]? = some (.cells #[.pointer (some ⟨D, 0, none⟩), .slice A6 (els.length + 1) c6, .bool false] 140 (0, 0)) := by rw [heap_setCell_same w6 G 1 _ _ (.slice A6 (els.length + 1) c6) HG6]; rfl
    have HD7 := HD6.apart HG6 (by decide) (Ne.symm hGD) HTS
    have HR7 := HO6.apart HG6 (by decide) (by decide) HTS
    have hk7 : Tch (fun g => g = G ∨ (Value.slice A els.length c).ownBlock = some g) k3 (w6.setCell ⟨G, 1, none⟩ (.slice A6 (els.length + 1) c6)) := hk6.set G 1 _ (fun _ => .inl rfl)
    obtain ⟨⟨r0, r1, r2⟩, g0, g1, g2⟩ := three_cellsA HG6
    clear HTS HD6
    refine hK.out _ _ ?_ (fun hHeld2 => ?_)
    focus
      exact hS _ hk6
    clear hHeld
    have hHeld := hHeld2
    clear hHeld2 hK K
    try simp only [List.getElem_toArray, List.getElem_cons_succ, List.getElem_cons_zero, Act.put, List.setIfInBounds_toArray, List.set_cons_zero, List.set_cons_succ]
    refine wpAnyH_take (i := 9) (v := ?_) rfl (by kernel_rfl) (by kernel_rfl) (by kernel_rfl) (fun _ _ _ h => h) (Or.inl ⟨by rfl, ?_⟩) (by assumption) ?_
    rotate_left
    focus
      intro U hU
      try dsimp only at hU
      go_simp
      try (with_reducible rfl)
    simp only [List.getElem_toArray, List.getElem_cons_succ, List.getElem_cons_zero, Act.put, List.setIfInBounds_toArray, List.set_cons_zero, List.set_cons_succ]
    refine wpAnyH_take (i := 10) (v := ?_) rfl (by kernel_rfl) (by kernel_rfl) (by kernel_rfl) (fun _ _ _ h => h) (Or.inl ⟨by rfl, ?_⟩) (by assumption) ?_
    rotate_left
    focus
      intro U hU
      try dsimp only at hU
      go_simp
      try (with_reducible rfl)
    simp only [List.getElem_toArray, List.getElem_cons_succ, List.getElem_cons_zero, Act.put, List.setIfInBounds_toArray, List.set_cons_zero, List.set_cons_succ]
    refine wpAnyH_ready (rs := [11]) (by kernel_rfl) (by simp) ?_
    refine (AllReadyH.cons rfl (fun K hK => ?_) AllReadyH.nil)
    simp only [List.getElem_toArray, List.getElem_cons_succ, List.getElem_cons_zero]
    go_simp
    refine hK.out _ _ ?_ (fun hHeld2 => ?_)
    focus
      exact hS _ hk7
    clear hHeld
    have hHeld := hHeld2
    clear hHeld2 hK K
    try simp only [List.getElem_toArray, List.getElem_cons_succ, List.getElem_cons_zero, Act.put, List.setIfInBounds_toArray, List.set_cons_zero, List.set_cons_succ]
    refine wpAnyH_done (by kernel_rfl) ?_ _
    clear hHeld hS r0 r1 r2 g0 g1 g2
    go_wp2
    go_ret
    refine ⟨rfl, A6, c6, els ++ [(Rc.mk k j t wk s ep ns, A2, c2)], by rw [List.map_append]; rfl, ⟨by rw [HLE]; exact HG7, HD7, by rw [HLE]; exact HR7⟩, ?_, ?_⟩
    · exact (HT6.out.mono (fun g hg _ => .inl hg)).trans hk7 (fun g hg _ => .inr hg)
    · rw [HLE, HNN.out]; exact hw6
  · skip
    simp only [List.getElem_toArray, List.getElem_cons_succ, List.getElem_cons_zero]
    go_simp
    refine (HCL.out m0 (HTX5.out.below hk0)).mono ?_
    rintro e m1 ⟨A2, c2, rfl, hs2, hb2⟩
    have hk1 := hk0.trans (hb2.mono hk0.size)
    have q1c := cellb hb2 q1
    have hs3 := hs2.mono hk0.size
    clear hb2 hs2
    go_wp2_with fail
    refine hK.out _ _ ?_ (fun hHeld2 => ?_)
    focus
      exact hS _ (Tch.of_below hk1)
    clear hHeld
    have hHeld := hHeld2
    clear hHeld2 hK K
    try simp only [List.getElem_toArray, List.getElem_cons_succ, List.getElem_cons_zero, Act.put, List.setIfInBounds_toArray, List.set_cons_zero, List.set_cons_succ]
    refine wpAnyH_ready (rs := [4, 7]) (by kernel_rfl) (by simp) ?_
    refine (AllReadyH.cons rfl (fun K hK => ?_) (AllReadyH.cons rfl (fun K hK => ?_) AllReadyH.nil))
    · skip
      simp only [List.getElem_toArray, List.getElem_cons_succ, List.getElem_cons_zero]
      go_simp
      refine hK.out _ _ ?_ (fun hHeld2 => ?_)
      focus
        exact hS _ (Tch.of_below hk1)
      clear hHeld
      have hHeld := hHeld2
      clear hHeld2 hK K
      try simp only [List.getElem_toArray, List.getElem_cons_succ, List.getElem_cons_zero, Act.put, List.setIfInBounds_toArray, List.set_cons_zero, List.set_cons_succ]
      refine wpAnyH_ready (rs := [7]) (by kernel_rfl) (by simp) ?_
      refine (AllReadyH.cons rfl (fun K hK => ?_) AllReadyH.nil)
      simp only [List.getElem_toArray, List.getElem_cons_succ, List.getElem_cons_zero]
      go_simp
      refine hK.out _ _ ?_ (fun hHeld2 => ?_)
      focus
        exact hS _ (Tch.of_below (hk1.alloc hk1.size _))
      clear hHeld
      have hHeld := hHeld2
      clear hHeld2 hK K
      try simp only [List.getElem_toArray, List.getElem_cons_succ, List.getElem_cons_zero, Act.put, List.setIfInBounds_toArray, List.set_cons_zero, List.set_cons_succ]
      have hbn : Below (World.heap m1).size m1 (World.alloc m1 (.cells #[.int .i64 k, .int .i64 j, .int .i64 t, .int .i64 wk, .int .i64 s, .int .i64 ep, .slice A2 ns.length c2] 45 (0, 0))) := (Below.refl _ _).alloc (Nat.le_refl _) _
      have hk2 : Below k3.heap.size k3 (World.alloc m1 (.cells #[.int .i64 k, .int .i64 j, .int .i64 t, .int .i64 wk, .int .i64 s, .int .i64 ep, .slice A2 ns.length c2] 45 (0, 0))) := hk1.trans (hbn.mono hk1.size)
      have hx9 := heap_alloc_new m1 (.cells #[.int .i64 k, .int .i64 j, .int .i64 t, .int .i64 wk, .int .i64 s, .int .i64 ep, .slice A2 ns.length c2] 45 (0, 0))
      have hs4 := hs3.keep hbn
      have q1d := cellb hbn q1c
      clear hbn
      generalize World.alloc m1 (.cells #[.int .i64 k, .int .i64 j, .int .i64 t, .int .i64 wk, .int .i64 s, .int .i64 ep, .slice A2 ns.length c2] 45 (0, 0)) = m2 at *
      generalize (World.heap m1).size = N9 at *
      refine wpAnyH_ready (rs := [8]) (by kernel_rfl) (by simp) ?_
      refine (AllReadyH.cons rfl (fun K hK => ?_) AllReadyH.nil)
      refine step_append_slw rfl (.tmp 32) (.tmp 35) 57 rfl B 45 Try.underlying57 info_rec rfl (by omega) rfl (own_keep HR5.out.1 hk2) rfl (sl_blk7 hx9) (by simp [Value.oneCell']) ?c1 ?c2 ?c3 ?_
      case c1 => unfold maxLen; omega
      case c2 => omega
      case c3 => have := hk2.size; omega
      intro v5 w6 ho5 ht5 hw5
      have hk6 : Tch (fun g => g = G ∨ (Value.slice A els.length c).ownBlock = some g) k3 w6 := (Tch.of_below hk2).trans ht5 (fun g hg _ => .inr hg)
      have HO6 : RowR w6 B v5 (els ++ [(Rc.mk k j t wk s ep ns, A2, c2)]) := RowR.push (HR5.out.keep hk2) (hs4.mono (show B ≤ k3.heap.size by omega)) (by simpa [rcc] using ho5) (fun g _ hl hne => ht5.keep g hne hl)
      have HD6 := (HD5.out.below hk2).row (own_keep HR5.out.1 hk2) ht5
      have HG6 := ht5.block (keep0 HG5.out hk2) (fun hg => own_apart_blk HR5.out.1 HG5.out (by decide) G hg rfl)
      have hw6 : v5.ownBlock = (Value.slice A els.length c).ownBlock ∨ ∀ g, v5.ownBlock = some g → N ≤ g := hw5.imp id (fun h g hg => Nat.le_trans (by have := hk2.size; omega) (h g hg))
      clear ht5 hw5 ho5 hs4 hx9 q1d
      obtain ⟨A6, c6, rfl, _⟩ := Sl.of_own HO6.1
      have HLE : (els ++ [(Rc.mk k j t wk s ep ns, A2, c2)]).length = els.length + 1 := by rw [List.length_append]; rfl
      rw [HLE] at HO6 hw6
      have HTS := tch_set w6 G 1 (.slice A6 (els.length + 1) c6)
      have HG7 : (w6.setCell ⟨G, 1, none⟩ (.slice A6 (els.length + 1) c6)).heap[G]? = some (.cells #[.pointer (some ⟨D, 0, none⟩), .slice A6 (els.length + 1) c6, .bool false] 140 (0, 0)) := by rw [heap_setCell_same w6 G 1 _ _ (.slice A6 (els.length + 1) c6) HG6]; rfl
      have HD7 := HD6.apart HG6 (by decide) (Ne.symm hGD) HTS
      have HR7 := HO6.apart HG6 (by decide) (by decide) HTS
      have hk7 : Tch (fun g => g = G ∨ (Value.slice A els.length c).ownBlock = some g) k3 (w6.setCell ⟨G, 1, none⟩ (.slice A6 (els.length + 1) c6)) := hk6.set G 1 _ (fun _ => .inl rfl)
      obtain ⟨⟨r0, r1, r2⟩, g0, g1, g2⟩ := three_cellsA HG6
      clear HTS HD6
      refine hK.out _ _ ?_ (fun hHeld2 => ?_)
      focus
        exact hS _ hk6
      clear hHeld
      have hHeld := hHeld2
      clear hHeld2 hK K
      try simp only [List.getElem_toArray, List.getElem_cons_succ, List.getElem_cons_zero, Act.put, List.setIfInBounds_toArray, List.set_cons_zero, List.set_cons_succ]
      refine wpAnyH_take (i := 9) (v := ?_) rfl (by kernel_rfl) (by kernel_rfl) (by kernel_rfl) (fun _ _ _ h => h) (Or.inl ⟨by rfl, ?_⟩) (by assumption) ?_
      rotate_left
      focus
        intro U hU
        try dsimp only at hU
        go_simp
        try (with_reducible rfl)
      simp only [List.getElem_toArray, List.getElem_cons_succ, List.getElem_cons_zero, Act.put, List.setIfInBounds_toArray, List.set_cons_zero, List.set_cons_succ]
      refine wpAnyH_take (i := 10) (v := ?_) rfl (by kernel_rfl) (by kernel_rfl) (by kernel_rfl) (fun _ _ _ h => h) (Or.inl ⟨by rfl, ?_⟩) (by assumption) ?_
      rotate_left
      focus
        intro U hU
        try dsimp only at hU
        go_simp
        try (with_reducible rfl)
      simp only [List.getElem_toArray, List.getElem_cons_succ, List.getElem_cons_zero, Act.put, List.setIfInBounds_toArray, List.set_cons_zero, List.set_cons_succ]
      refine wpAnyH_ready (rs := [11]) (by kernel_rfl) (by simp) ?_
      refine (AllReadyH.cons rfl (fun K hK => ?_) AllReadyH.nil)
      simp only [List.getElem_toArray, List.getElem_cons_succ, List.getElem_cons_zero]
      go_simp
      refine hK.out _ _ ?_ (fun hHeld2 => ?_)
      focus
        exact hS _ hk7
      clear hHeld
      have hHeld := hHeld2
      clear hHeld2 hK K
      try simp only [List.getElem_toArray, List.getElem_cons_succ, List.getElem_cons_zero, Act.put, List.setIfInBounds_toArray, List.set_cons_zero, List.set_cons_succ]
      refine wpAnyH_done (by kernel_rfl) ?_ _
      clear hHeld hS r0 r1 r2 g0 g1 g2
      go_wp2
      go_ret
      refine ⟨rfl, A6, c6, els ++ [(Rc.mk k j t wk s ep ns, A2, c2)], by rw [List.map_append]; rfl, ⟨by rw [HLE]; exact HG7, HD7, by rw [HLE]; exact HR7⟩, ?_, ?_⟩
      · exact (HT6.out.mono (fun g hg _ => .inl hg)).trans hk7 (fun g hg _ => .inr hg)
      · rw [HLE, HNN.out]; exact hw6
    · skip
      simp only [List.getElem_toArray, List.getElem_cons_succ, List.getElem_cons_zero]
      go_simp
      refine hK.out _ _ ?_ (fun hHeld2 => ?_)
      focus
        exact hS _ (Tch.of_below (hk1.alloc hk1.size _))
      clear hHeld
      have hHeld := hHeld2
      clear hHeld2 hK K
      try simp only [List.getElem_toArray, List.getElem_cons_succ, List.getElem_cons_zero, Act.put, List.setIfInBounds_toArray, List.set_cons_zero, List.set_cons_succ]
      have hbn : Below (World.heap m1).size m1 (World.alloc m1 (.cells #[.int .i64 k, .int .i64 j, .int .i64 t, .int .i64 wk, .int .i64 s, .int .i64 ep, .slice A2 ns.length c2] 45 (0, 0))) := (Below.refl _ _).alloc (Nat.le_refl _) _
      have hk2 : Below k3.heap.size k3 (World.alloc m1 (.cells #[.int .i64 k, .int .i64 j, .int .i64 t, .int .i64 wk, .int .i64 s, .int .i64 ep, .slice A2 ns.length c2] 45 (0, 0))) := hk1.trans (hbn.mono hk1.size)
      have hx9 := heap_alloc_new m1 (.cells #[.int .i64 k, .int .i64 j, .int .i64 t, .int .i64 wk, .int .i64 s, .int .i64 ep, .slice A2 ns.length c2] 45 (0, 0))
      have hs4 := hs3.keep hbn
      have q1d := cellb hbn q1c
      clear hbn
      generalize World.alloc m1 (.cells #[.int .i64 k, .int .i64 j, .int .i64 t, .int .i64 wk, .int .i64 s, .int .i64 ep, .slice A2 ns.length c2] 45 (0, 0)) = m2 at *
      generalize (World.heap m1).size = N9 at *
      refine wpAnyH_ready (rs := [4]) (by kernel_rfl) (by simp) ?_
      refine (AllReadyH.cons rfl (fun K hK => ?_) AllReadyH.nil)
      simp only [List.getElem_toArray, List.getElem_cons_succ, List.getElem_cons_zero]
      go_simp
      refine hK.out _ _ ?_ (fun hHeld2 => ?_)
      focus
        exact hS _ (Tch.of_below hk2)
      clear hHeld
      have hHeld := hHeld2
      clear hHeld2 hK K
      try simp only [List.getElem_toArray, List.getElem_cons_succ, List.getElem_cons_zero, Act.put, List.setIfInBounds_toArray, List.set_cons_zero, List.set_cons_succ]
      refine wpAnyH_ready (rs := [8]) (by kernel_rfl) (by simp) ?_
      refine (AllReadyH.cons rfl (fun K hK => ?_) AllReadyH.nil)
      refine step_append_slw rfl (.tmp 32) (.tmp 35) 57 rfl B 45 Try.underlying57 info_rec rfl (by omega) rfl (own_keep HR5.out.1 hk2) rfl (sl_blk7 hx9) (by simp [Value.oneCell']) ?c1 ?c2 ?c3 ?_
      case c1 => unfold maxLen; omega
      case c2 => omega
      case c3 => have := hk2.size; omega
      intro v5 w6 ho5 ht5 hw5
      have hk6 : Tch (fun g => g = G ∨ (Value.slice A els.length c).ownBlock = some g) k3 w6 := (Tch.of_below hk2).trans ht5 (fun g hg _ => .inr hg)
      have HO6 : RowR w6 B v5 (els ++ [(Rc.mk k j t wk s ep ns, A2, c2)]) := RowR.push (HR5.out.keep hk2) (hs4.mono (show B ≤ k3.heap.size by omega)) (by simpa [rcc] using ho5) (fun g _ hl hne => ht5.keep g hne hl)
      have HD6 := (HD5.out.below hk2).row (own_keep HR5.out.1 hk2) ht5
      have HG6 := ht5.block (keep0 HG5.out hk2) (fun hg => own_apart_blk HR5.out.1 HG5.out (by decide) G hg rfl)
      have hw6 : v5.ownBlock = (Value.slice A els.length c).ownBlock ∨ ∀ g, v5.ownBlock = some g → N ≤ g := hw5.imp id (fun h g hg => Nat.le_trans (by have := hk2.size; omega) (h g hg))
      clear ht5 hw5 ho5 hs4 hx9 q1d
      obtain ⟨A6, c6, rfl, _⟩ := Sl.of_own HO6.1
      have HLE : (els ++ [(Rc.mk k j t wk s ep ns, A2, c2)]).length = els.length + 1 := by rw [List.length_append]; rfl
      rw [HLE] at HO6 hw6
      have HTS := tch_set w6 G 1 (.slice A6 (els.length + 1) c6)
      have HG7 : (w6.setCell ⟨G, 1, none⟩ (.slice A6 (els.length + 1) c6)).heap[G]? = some (.cells #[.pointer (some ⟨D, 0, none⟩), .slice A6 (els.length + 1) c6, .bool false] 140 (0, 0)) := by rw [heap_setCell_same w6 G 1 _ _ (.slice A6 (els.length + 1) c6) HG6]; rfl
      have HD7 := HD6.apart HG6 (by decide) (Ne.symm hGD) HTS
      have HR7 := HO6.apart HG6 (by decide) (by decide) HTS
      have hk7 : Tch (fun g => g = G ∨ (Value.slice A els.length c).ownBlock = some g) k3 (w6.setCell ⟨G, 1, none⟩ (.slice A6 (els.length + 1) c6)) := hk6.set G 1 _ (fun _ => .inl rfl)
      obtain ⟨⟨r0, r1, r2⟩, g0, g1, g2⟩ := three_cellsA HG6
      clear HTS HD6
      refine hK.out _ _ ?_ (fun hHeld2 => ?_)
      focus
        exact hS _ hk6
      clear hHeld
      have hHeld := hHeld2
      clear hHeld2 hK K
      try simp only [List.getElem_toArray, List.getElem_cons_succ, List.getElem_cons_zero, Act.put, List.setIfInBounds_toArray, List.set_cons_zero, List.set_cons_succ]
      refine wpAnyH_take (i := 9) (v := ?_) rfl (by kernel_rfl) (by kernel_rfl) (by kernel_rfl) (fun _ _ _ h => h) (Or.inl ⟨by rfl, ?_⟩) (by assumption) ?_
      rotate_left
      focus
        intro U hU
        try dsimp only at hU
        go_simp
        try (with_reducible rfl)
      simp only [List.getElem_toArray, List.getElem_cons_succ, List.getElem_cons_zero, Act.put, List.setIfInBounds_toArray, List.set_cons_zero, List.set_cons_succ]
      refine wpAnyH_take (i := 10) (v := ?_) rfl (by kernel_rfl) (by kernel_rfl) (by kernel_rfl) (fun _ _ _ h => h) (Or.inl ⟨by rfl, ?_⟩) (by assumption) ?_
      rotate_left
      focus
        intro U hU
        try dsimp only at hU
        go_simp
        try (with_reducible rfl)
      simp only [List.getElem_toArray, List.getElem_cons_succ, List.getElem_cons_zero, Act.put, List.setIfInBounds_toArray, List.set_cons_zero, List.set_cons_succ]
      refine wpAnyH_ready (rs := [11]) (by kernel_rfl) (by simp) ?_
      refine (AllReadyH.cons rfl (fun K hK => ?_) AllReadyH.nil)
      simp only [List.getElem_toArray, List.getElem_cons_succ, List.getElem_cons_zero]
      go_simp
      refine hK.out _ _ ?_ (fun hHeld2 => ?_)
      focus
        exact hS _ hk7
      clear hHeld
      have hHeld := hHeld2
      clear hHeld2 hK K
      try simp only [List.getElem_toArray, List.getElem_cons_succ, List.getElem_cons_zero, Act.put, List.setIfInBounds_toArray, List.set_cons_zero, List.set_cons_succ]
      refine wpAnyH_done (by kernel_rfl) ?_ _
      clear hHeld hS r0 r1 r2 g0 g1 g2
      go_wp2
      go_ret
      refine ⟨rfl, A6, c6, els ++ [(Rc.mk k j t wk s ep ns, A2, c2)], by rw [List.map_append]; rfl, ⟨by rw [HLE]; exact HG7, HD7, by rw [HLE]; exact HR7⟩, ?_, ?_⟩
      · exact (HT6.out.mono (fun g hg _ => .inl hg)).trans hk7 (fun g hg _ => .inr hg)
      · rw [HLE, HNN.out]; exact hw6
end Go.Proofs.Ytkepfkfoblocgaa
