/- disk: contracts. -/
import Derived.Test.YtkepfkfoblocgaaGreatChecked
import Derived.Test.YtkepfkfoblocgaaGreatGaP
import Derived.Lib.MinMax
import Derived.BigQuiet
import Derived.Deep.QuietTactic
import Derived.Deep.Cut
import Derived.Deep.RegionWith
namespace Go.Proofs.YtkepfkfoblocgaaGreat
open Go.RowKit
set_option linter.unusedVariables false
set_option linter.unusedSimpArgs false

theorem info_u8K : (Tryz.prog.info? 5).map (fun i => (i.zero, i.size, i.bytes)) = some (some (.int .u8 0), 1, 1) := by kernel_rfl
theorem own_bytesK {w : World} {base e n : Nat} {v : Value} {l : List UInt8} (h : w.ownsRow base e 1 v n (bcells l)) : ∃ a cap, v = .slice a l.length cap ∧ IsBytes w a l.length cap l := by
  obtain ⟨a, c, rfl, hs⟩ := Sl.of_own h
  have hn : n = l.length := by have := hs.1; rw [bcells_length] at this; omega
  subst hn
  exact ⟨a, c, rfl, hs⟩
theorem isBytes_nilK (w : World) (a : Option Addr) (cap : Nat) (h : cap ≤ maxLen) : IsBytes w a 0 cap [] := Sl.nil _ _ _ _ h
theorem four_cells {w : World} {b t : Nat} {x y z u : Value} (h : w.heap[b]? = some (.cells #[x, y, z, u] t (0, 0))) :
    (w.cell? ⟨b, 0, none⟩ = some x ∧ w.cell? ⟨b, 1, none⟩ = some y ∧ w.cell? ⟨b, 2, none⟩ = some z ∧ w.cell? ⟨b, 3, none⟩ = some u) ∧ (w.frozen? ⟨b, 0, none⟩ = false ∧ w.frozen? ⟨b, 1, none⟩ = false ∧ w.frozen? ⟨b, 2, none⟩ = false ∧ w.frozen? ⟨b, 3, none⟩ = false) :=
  ⟨⟨by rw [cell_of_row w b 0 _ t (0, 0) h]; rfl, by rw [cell_of_row w b 1 _ t (0, 0) h]; rfl, by rw [cell_of_row w b 2 _ t (0, 0) h]; rfl, by rw [cell_of_row w b 3 _ t (0, 0) h]; rfl⟩, frozen_of_row w b 0 _ t h, frozen_of_row w b 1 _ t h, frozen_of_row w b 2 _ t h, frozen_of_row w b 3 _ t h⟩
theorem convSK {w : World} {a : Option Addr} {n cap : Nat} {l : List UInt8} (h : IsBytes w a n cap l) : (convert 23 9 (.slice a n cap)).run Tryz.prog w = .ok (.string (str l)) w :=
  conv_str (P := Tryz.prog) (src := 23) (dst := 9) Tryz.underlying23 Tryz.underlying5 Tryz.underlying9 h
/-- A slice that reads as bytes does not lie in a block without bytes. -/
theorem isBytes_set_apart {w : World} {a : Option Addr} {n cap D : Nat} {l : List UInt8} {cs : Array Value} {T : TypeId} (h : IsBytes w a n cap l) (hD : w.heap[D]? = some (.cells cs T (0, 0))) (hx : ∀ (i : Nat) (n : Int), cs[i]? ≠ some (.int .u8 n)) (j : Nat) (v : Value) : IsBytes (w.setCell ⟨D, j, none⟩ v) a n cap l := by
  refine ⟨h.1, h.2.1, h.2.2.1, fun h0 => ?_⟩
  obtain ⟨c, off, rfl, hc⟩ := h.2.2.2 h0
  have hne : c ≠ D := by
    rintro rfl
    have h1 := hc 0 h0
    rw [Nat.add_zero, cell_of_row w c off _ T (0, 0) hD, List.getElem?_eq_getElem h0] at h1
    simp only [bcells, List.getElem_map] at h1
    exact hx _ _ h1
  refine ⟨c, off, rfl, fun i hi => ?_⟩
  rw [World.cell?_of_block (Below.heap_setCell _ _ _ _ hne), hc i hi]

/-- A slice of bytes lies in a block of bytes. -/
def TB (w : World) (A : Option Addr) : Prop := ∀ g off k, A = some ⟨g, off, k⟩ → ∃ cs : Array Value, w.heap[g]? = some (.cells cs 5 (0, 0))
theorem TB.nil (w : World) : TB w none := fun _ _ _ h => by cases h
theorem TB.below {w w' : World} {A : Option Addr} (h : TB w A) (hb : Below w.heap.size w w') : TB w' A := fun g off k e => by
  obtain ⟨cs, h1⟩ := h g off k e
  exact ⟨cs, keep0 h1 hb⟩
theorem TB.set {w : World} {A : Option Addr} {D T : Nat} {cs : Array Value} (h : TB w A) (hD : w.heap[D]? = some (.cells cs T (0, 0))) (hT : T ≠ 5) (j : Nat) (v : Value) : TB (w.setCell ⟨D, j, none⟩ v) A := fun g off k e => by
  obtain ⟨c2, h1⟩ := h g off k e
  refine ⟨c2, (Below.heap_setCell _ _ _ _ ?_).trans h1⟩
  rintro rfl
  rw [hD] at h1
  injection h1 with h1
  injection h1 with _ ht
  exact hT ht
theorem TB.of_own {w : World} {base n s c : Nat} {A : Option Addr} {xs : List Value} (h : w.ownsRow base 5 s (.slice A n c) n xs) : TB w A := fun g off k e => by
  subst e
  rcases h.2 with ⟨h1, _⟩ | ⟨g', cap, cur, h1, _, hh, _⟩
  · cases h1
  · cases h1
    exact ⟨cur, hh⟩
theorem TB.tch {w w' : World} {A : Option Addr} {S : Nat → Prop} (h : TB w A) (ht : Tch S w w') (hn : ∀ g off k, A = some ⟨g, off, k⟩ → ¬ S g) : TB w' A := fun g off k e => by
  obtain ⟨cs, h1⟩ := h g off k e
  exact ⟨cs, ht.block h1 (hn g off k e)⟩
theorem isBytes_tch {w w' : World} {A : Option Addr} {n c : Nat} {l : List UInt8} {S : Nat → Prop} (h : IsBytes w A n c l) (ht : Tch S w w') (hn : ∀ g off k, A = some ⟨g, off, k⟩ → ¬ S g) : IsBytes w' A n c l := by
  refine ⟨h.1, h.2.1, h.2.2.1, fun h0 => ?_⟩
  obtain ⟨b, off, rfl, hc⟩ := h.2.2.2 h0
  refine ⟨b, off, rfl, fun i hi => ?_⟩
  have h4 := hc i hi
  rw [List.getElem?_eq_getElem hi] at h4 ⊢
  rw [World.cell?_of_block (ht.keep b (hn b off none rfl) (lt_of_cell h4))]
  exact h4
def dkc (room : Nat) (A : Option Addr) (n c : Nat) (armed : Bool) (fuse : Nat) : Array Value := #[.int .i64 (room : Int), .slice A n c, .bool armed, .int .i64 (fuse : Int)]
theorem dkc_no (room : Nat) (A : Option Addr) (n c : Nat) (armed : Bool) (fuse : Nat) (i : Nat) (x : Int) : (dkc room A n c armed fuse)[i]? ≠ some (.int .u8 x) := by
  unfold dkc
  match i with
  | 0 => simp
  | 1 => simp
  | 2 => simp
  | 3 => simp
  | m + 4 => simp
/-- Block D is a disk. -/
def DiskAt (w : World) (D room : Nat) (l : List UInt8) (armed : Bool) (fuse : Nat) : Prop :=
  ∃ A c, w.heap[D]? = some (.cells (dkc room A l.length c armed fuse) 72 (0, 0)) ∧ IsBytes w A l.length c l ∧ TB w A
theorem DiskAt.lt {w : World} {D room : Nat} {l : List UInt8} {armed : Bool} {fuse : Nat} (h : DiskAt w D room l armed fuse) : D < w.heap.size := by
  obtain ⟨_, _, h, _⟩ := h
  exact lt_of_block h
theorem DiskAt.below {w w' : World} {D room : Nat} {l : List UInt8} {armed : Bool} {fuse : Nat} (h : DiskAt w D room l armed fuse) (hb : Below w.heap.size w w') : DiskAt w' D room l armed fuse := by
  obtain ⟨A, c, h1, h2, h3⟩ := h
  exact ⟨A, c, keep0 h1 hb, h2.below hb, h3.below hb⟩
theorem DiskAt.setB {w : World} {D room : Nat} {l l' : List UInt8} {armed : Bool} {fuse : Nat} (h : DiskAt w D room l armed fuse) {A : Option Addr} {c : Nat} (hs : IsBytes w A l'.length c l') (ht : TB w A) : DiskAt (w.setCell ⟨D, 1, none⟩ (.slice A l'.length c)) D room l' armed fuse := by
  obtain ⟨A', c', h1, h2⟩ := h
  exact ⟨A, c, heap_setCell_same w D 1 _ _ _ h1, isBytes_set_apart hs h1 (dkc_no _ _ _ _ _ _) _ _, ht.set h1 (by decide) _ _⟩
theorem DiskAt.setA {w : World} {D room : Nat} {l : List UInt8} {armed : Bool} {fuse : Nat} (h : DiskAt w D room l armed fuse) (x : Bool) : DiskAt (w.setCell ⟨D, 2, none⟩ (.bool x)) D room l x fuse := by
  obtain ⟨A', c', h1, h2, h3⟩ := h
  exact ⟨A', c', heap_setCell_same w D 2 _ _ _ h1, isBytes_set_apart h2 h1 (dkc_no _ _ _ _ _ _) _ _, h3.set h1 (by decide) _ _⟩
theorem DiskAt.setF {w : World} {D room : Nat} {l : List UInt8} {armed : Bool} {fuse : Nat} (h : DiskAt w D room l armed fuse) (x : Nat) : DiskAt (w.setCell ⟨D, 3, none⟩ (.int .i64 (x : Int))) D room l armed x := by
  obtain ⟨A', c', h1, h2, h3⟩ := h
  exact ⟨A', c', heap_setCell_same w D 3 _ _ _ h1, isBytes_set_apart h2 h1 (dkc_no _ _ _ _ _ _) _ _, h3.set h1 (by decide) _ _⟩
theorem DiskAt.open {w : World} {D room : Nat} {l : List UInt8} {armed : Bool} {fuse : Nat} (h : DiskAt w D room l armed fuse) : ∃ A c, w.heap[D]? = some (.cells #[.int .i64 (room : Int), .slice A l.length c, .bool armed, .int .i64 (fuse : Int)] 72 (0, 0)) ∧ IsBytes w A l.length c l := let ⟨A, c, h1, h2, _⟩ := h; ⟨A, c, h1, h2⟩
theorem DiskAt.openT {w : World} {D room : Nat} {l : List UInt8} {armed : Bool} {fuse : Nat} (h : DiskAt w D room l armed fuse) : ∃ A c, w.heap[D]? = some (.cells #[.int .i64 (room : Int), .slice A l.length c, .bool armed, .int .i64 (fuse : Int)] 72 (0, 0)) ∧ IsBytes w A l.length c l ∧ TB w A := h
/-- A disk stays where other blocks are touched, none of bytes. -/
theorem DiskAt.tch {w w' : World} {D room : Nat} {l : List UInt8} {armed : Bool} {fuse : Nat} {S : Nat → Prop} (h : DiskAt w D room l armed fuse) (ht : Tch S w w') (hn : ¬ S D) (hb : ∀ g, S g → ∀ cs : Array Value, w.heap[g]? ≠ some (.cells cs 5 (0, 0))) : DiskAt w' D room l armed fuse := by
  obtain ⟨A, c, h1, h2, h3⟩ := h
  have hS : ∀ g off k, A = some ⟨g, off, k⟩ → ¬ S g := fun g off k e hs => by
    obtain ⟨cs, h4⟩ := h3 g off k e
    exact hb g hs cs h4
  exact ⟨A, c, ht.block h1 hn, isBytes_tch h2 ht hS, h3.tch ht hS⟩
/-- A slice of bytes elsewhere stays. -/
theorem isBytes_disk {w w' : World} {a : Option Addr} {n cap D room : Nat} {m l : List UInt8} {armed : Bool} {fuse : Nat} (h : IsBytes w a n cap m) (hD : DiskAt w D room l armed fuse) (ho : Only D w w') : IsBytes w' a n cap m := by
  obtain ⟨A', c', h1, _⟩ := hD
  refine ⟨h.1, h.2.1, h.2.2.1, fun h0 => ?_⟩
  obtain ⟨c, off, rfl, hc⟩ := h.2.2.2 h0
  have hne : c ≠ D := by
    rintro rfl
    have h9 := hc 0 h0
    rw [Nat.add_zero, cell_of_row w c off _ _ (0, 0) h1, List.getElem?_eq_getElem h0] at h9
    simp only [bcells, List.getElem_map] at h9
    exact dkc_no _ _ _ _ _ _ _ _ h9
  refine ⟨c, off, rfl, fun i hi => ?_⟩
  have h4 := hc i hi
  rw [List.getElem?_eq_getElem hi] at h4 ⊢
  rw [World.cell?_of_block (ho.keep c hne (lt_of_cell h4))]
  exact h4

theorem dnew_in (room : Nat) (h : room ≤ 65536) (W : World) : Calls Tryz.prog 4 #[.int .i64 (room : Int)] W fun e w' => e = .returned (.pointer (some ⟨W.heap.size, 0, none⟩)) ∧ DiskAt w' W.heap.size room [] false 0 ∧ Below W.heap.size W w' := by
  have d1 : decide ((room : Int) < 0) = false := decide_eq_false (by omega)
  have d2 : decide (65536 < (room : Int)) = false := decide_eq_false (by omega)
  have d3 : (room : Int) ≤ 65536 := by omega
  clear h
  go_enter Tryz.func4, Tryz.ntmps4
  go_wp2
  go_ret
  exact ⟨rfl, ⟨none, 0, heap_alloc_new _ _, isBytes_nilK _ _ _ (Nat.zero_le _), TB.nil _⟩, (Below.refl _ _).alloc (Nat.le_refl _) _⟩
theorem dnew_out (room : Int) (h : room < 0 ∨ 65536 < room) (W : World) : Calls Tryz.prog 4 #[.int .i64 room] W fun e w' => e = .returned (.pointer none) ∧ W = w' := by
  rcases h with h | h
  · have d1 : decide (room < 0) = true := decide_eq_true h
    go_enter Tryz.func4, Tryz.ntmps4
    go_wp2
    go_ret
    exact ⟨rfl, rfl⟩
  · have d1 : decide (room < 0) = false := decide_eq_false (by omega)
    have d2 : decide (65536 < room) = true := decide_eq_true h
    have d3 : 0 ≤ room := by omega
    go_enter Tryz.func4, Tryz.ntmps4
    go_wp2
    go_ret
    exact ⟨rfl, rfl⟩

theorem dfree_any (D room : Nat) (l : List UInt8) (armed : Bool) (fuse : Nat) (W : World) (h : DiskAt W D room l armed fuse) (hr : room ≤ 65536) (hl : l.length ≤ room) : Calls Tryz.prog 26 #[.pointer (some ⟨D, 0, none⟩)] W fun e w' => e = .returned (.int .i64 ((room : Int) - (l.length : Int))) ∧ ∃ q, w' = W.drewN q := by
  obtain ⟨A, c, h1, h2⟩ := h.open
  obtain ⟨⟨p0, p1, p2, p3⟩, _⟩ := four_cells h1
  have h3 : (room : Int) ≤ 65536 := by omega
  have h4 : (l.length : Int) ≤ (room : Int) := by omega
  have hw : IntKind.i64.wrap ((room : Int) - (l.length : Int)) = (room : Int) - (l.length : Int) := by simp [IntKind.wrap, IntKind.bits, IntKind.signed]; omega
  clear h1 h2 h hr hl
  go_enter Tryz.func26, Tryz.ntmps26
  go_wp2
  go_quiet (fail)
  go_wp2
  go_ret
  exact ⟨rfl, _, rfl⟩

set_option maxRecDepth 20000 in
theorem dbytes_any (D room : Nat) (l : List UInt8) (armed : Bool) (fuse : Nat) (W : World) (h : DiskAt W D room l armed fuse) (hl : l.length ≤ 100000) : Calls Tryz.prog 12 #[.pointer (some ⟨D, 0, none⟩)] W fun e w' => ∃ A c, e = .returned (.slice A l.length c) ∧ IsBytes w' A l.length c l ∧ Below W.heap.size W w' := by
  obtain ⟨A, c, h1, h2⟩ := h.open
  obtain ⟨⟨p0, p1, p2, p3⟩, f0, f1, f2, f3⟩ := four_cells h1
  have HB := hid h2
  have H1 := hid h1
  have hmk := run_make_1 (P := Tryz.prog) 23 5 Tryz.underlying23 info_u8K rfl l.length l.length (Nat.le_refl _) (by omega) (by unfold maxLen; omega)
  clear h1 h2 h
  go_enter Tryz.func12, Tryz.ntmps12
  go_upto_region 4 with (fail)
  refine at_world (fun w => w.heap[W.heap.size]? = some (.cells (List.replicate l.length (.int .u8 0)).toArray 5 (0, 0)) ∧ w.cell? ⟨D, 1, none⟩ = some (.slice A l.length c) ∧ Below W.heap.size W w) ⟨by simpa using heap_alloc_new W _, cellb ((Below.refl _ _).alloc (Nat.le_refl _) _) p1, (Below.refl _ _).alloc (Nat.le_refl _) _⟩ ?_
  clear p0 p1 p2 p3 f0 f1 f2 f3 hmk
  rintro w1 ⟨hg1, p1, hb1⟩
  have HG1 := hid hg1
  have HB1 := hid hb1
  clear hg1 hb1
  go_wp2_with (with_reducible refine wpList_copy_splice rfl (.tmp 12) (.tmp 16) 23 23 rfl 5 Tryz.underlying23 (by kernel_rfl) _ _ _ _ _ _ rfl rfl W.heap.size 0 (List.replicate l.length (.int .u8 0)) 5 HG1.out (bcells l) ?c2 ?c3 ?c4 (bcells_one l) W.heap.size W HB1.out (Nat.le_refl _) ?_)
  case c2 => simp [bcells]
  case c3 => exact HB.out.src HB1.out
  case c4 => simp [bcells]
  intro w2 HG2 hB2
  have HO1 := own_of_splice (w := w2) (base := W.heap.size) (xs := bcells l) (n := l.length) HG2.out (Nat.le_refl _) (bcells_length l) (Nat.le_refl _) (by unfold maxLen; omega)
  obtain ⟨A2, c2, h5, hs⟩ := own_bytesK HO1
  have HS := hid hs
  have H5 := hid h5
  have HB2 := hid hB2
  clear HO1 hs HG2 hB2 h5
  go_wp2
  go_ret
  refine ⟨A2, c2, ?_, HS.out, HB2.out⟩
  rw [← H5.out]
  rfl

set_option maxRecDepth 20000 in
set_option maxHeartbeats 1000000 in
theorem dwrite_any (D room : Nat) (l m : List UInt8) (armed : Bool) (fuse : Nat) (A2 : Option Addr) (c2 : Nat) (W : World) (h : DiskAt W D room l armed fuse) (h2 : IsBytes W A2 m.length c2 m) (hl : l.length ≤ 100000) (hm : m.length ≤ 100000) :
    Calls Tryz.prog 27 #[.pointer (some ⟨D, 0, none⟩), .slice A2 m.length c2] W fun e w' => (∃ v, e = .returned v) ∧ DiskAt w' D room (l ++ m) armed fuse ∧ Only D W w' := by
  obtain ⟨A, c, h1, h3⟩ := h.open
  obtain ⟨⟨p0, p1, p2, p3⟩, f0, f1, f2, f3⟩ := four_cells h1
  have HB := hid h3
  have HB2 := hid h2
  have HD := hid h
  have hDl := h.lt
  have hlm : ((l.length + m.length : Nat) : Int) = (l.length : Int) + (m.length : Int) := by omega
  have hl1 : (l.length : Int) ≤ 100000 := by omega
  have hm1 : (m.length : Int) ≤ 100000 := by omega
  have hmk := run_make_1 (P := Tryz.prog) 23 5 Tryz.underlying23 info_u8K rfl (l.length + m.length) (l.length + m.length) (Nat.le_refl _) (by omega) (by unfold maxLen; omega)
  rw [hlm] at hmk
  clear h1 h h3 h2 hlm
  go_enter Tryz.func27, Tryz.ntmps27
  go_upto_region 1 with (fail)
  refine at_world (fun w => w.heap[W.heap.size]? = some (.cells (List.replicate (l.length + m.length) (.int .u8 0)).toArray 5 (0, 0)) ∧ w.cell? ⟨D, 1, none⟩ = some (.slice A l.length c) ∧ Below W.heap.size W w) ⟨by simpa using heap_alloc_new W _, cellb ((Below.refl _ _).alloc (Nat.le_refl _) _) p1, (Below.refl _ _).alloc (Nat.le_refl _) _⟩ ?_
  clear p0 p1 p2 p3 f0 f1 f2 f3 hmk
  rintro w1 ⟨hg1, p1, hb1⟩
  have HG1 := hid hg1
  have HB1 := hid hb1
  clear hg1 hb1
  go_wp2_with (with_reducible refine wpList_copy_splice rfl (.tmp 15) (.tmp 19) 23 23 rfl 5 Tryz.underlying23 (by kernel_rfl) _ _ _ _ _ _ rfl rfl W.heap.size 0 (List.replicate (l.length + m.length) (.int .u8 0)) 5 HG1.out (bcells l) ?c2 ?c3 ?c4 (bcells_one l) W.heap.size W HB1.out (Nat.le_refl _) ?_)
  case c2 => simp [bcells]
  case c3 => exact HB.out.src HB1.out
  case c4 => simp [bcells]
  intro w2 HG2 hB2
  have HB3 := hid hB2
  have hll : ((bcells l).length : Int) = (l.length : Int) := by rw [bcells_length]
  have hsp : splice (List.replicate (l.length + m.length) (.int .u8 0)) 0 (bcells l) = bcells l ++ List.replicate m.length (.int .u8 0) := by
    simp [splice, bcells_length]
  rw [hsp] at HG2
  have hrun : ∀ w : World, (Instr.slice 23 (.slice (some ⟨W.heap.size, 0, none⟩) (l.length + m.length) (l.length + m.length)) (some (.int .i64 (l.length : Int))) none none).run Tryz.prog w = .ok (.slice (dropA (some ⟨W.heap.size, 0, none⟩) (l.length + m.length) l.length 1) m.length m.length) w := fun w => by
    rw [run_from Tryz.underlying23 info_u8K _ (l.length + m.length) (l.length + m.length) l.length (by omega) w]
    congr 2 <;> omega
  clear HG1 HB1 hB2 p1 hsp
  go_wp2_with (with_reducible refine wpList_copy_splice rfl (.tmp 23) (.tmp 24) 23 23 rfl 5 Tryz.underlying23 (by kernel_rfl) _ _ _ _ _ _ rfl rfl W.heap.size l.length (bcells l ++ List.replicate m.length (.int .u8 0)) 5 HG2.out (bcells m) ?c2 ?c3 ?c4 (bcells_one m) W.heap.size W HB3.out (Nat.le_refl _) ?_)
  case c2 => simp [bcells]
  case c3 =>
    intro h0
    refine ⟨?_, HB2.out.src HB3.out h0⟩
    rw [bcells_length] at h0
    rw [dropA, if_neg (by omega)]
    simp [add_none]
  case c4 => simp [bcells]
  intro w3 HG3 hB3
  have hsp : splice (bcells l ++ List.replicate m.length (.int .u8 0)) l.length (bcells m) = bcells (l ++ m) ++ [] := by
    rw [bcells_append, List.append_nil, splice, bcells_length, List.take_left' (bcells_length l)]
    congr 1
    rw [List.drop_eq_nil_of_le (by simp [bcells_length]), List.append_nil]
  rw [hsp] at HG3
  have HO := own_of_block (w := w3) (base := W.heap.size) (n := (l ++ m).length) (cap := (l ++ m).length) HG3.out (Nat.le_refl _) (bcells_length _) (by rw [List.append_nil, bcells_length]) (by rw [List.length_append]; unfold maxLen; omega)
  obtain ⟨A3, c3, h5, hs⟩ := own_bytesK HO
  have HS := hid hs
  cases h5
  have HTB := hid (TB.of_own HO)
  have hD3 := HD.out.below hB3
  obtain ⟨A9, c9, h9, _⟩ := hD3.open
  obtain ⟨⟨p0, p1, p2, p3⟩, f0, f1, f2, f3⟩ := four_cells h9
  have HD3 := hid hD3
  have HB4 := hid hB3
  have HLA : Hid ((l ++ m).length = l.length + m.length) := hid List.length_append
  clear HO hs hsp HG2 HG3 hrun hD3 h9 hB3 HB3
  go_wp2
  go_end0
  refine ⟨⟨_, rfl⟩, ?_, (Only.of_below HB4.out).set 1 _⟩
  rw [← HLA.out]
  exact HD3.out.setB HS.out HTB.out
end Go.Proofs.YtkepfkfoblocgaaGreat

namespace Go.Proofs.YtkepfkfoblocgaaGreat
open Go.RowKit
set_option linter.unusedVariables false
set_option linter.unusedSimpArgs false

def apE (room : Nat) (l m : List UInt8) (armed : Bool) : Int := if room < l.length + m.length then 7 else if armed then 14 else 0
def apL (room : Nat) (l m : List UInt8) (armed : Bool) (fuse : Nat) : List UInt8 := if room < l.length + m.length then l else if armed then l ++ m.take fuse else l ++ m
def apA (room : Nat) (l m : List UInt8) (armed : Bool) : Bool := if room < l.length + m.length then armed else false
theorem below_drewN0 (W : World) (q : Nat) : Below W.heap.size W (W.drewN q) := ⟨rfl, rfl, rfl, Nat.le_refl _, fun _ _ => rfl⟩

set_option maxRecDepth 20000 in
set_option maxHeartbeats 1000000 in
theorem dappend_any (D room : Nat) (l m : List UInt8) (armed : Bool) (fuse : Nat) (A2 : Option Addr) (c2 : Nat) (W : World) (h : DiskAt W D room l armed fuse) (h2 : IsBytes W A2 m.length c2 m) (hr : room ≤ 65536) (hl : l.length ≤ room) (hm : m.length ≤ 100000) :
    Calls Tryz.prog 8 #[.pointer (some ⟨D, 0, none⟩), .slice A2 m.length c2] W fun e w' => e = .returned (.int .i64 (apE room l m armed)) ∧ DiskAt w' D room (apL room l m armed fuse) (apA room l m armed) fuse ∧ Only D W w' := by
  have HF := hid (dfree_any D room l armed fuse W h hr hl)
  have HD := hid h
  have HM := hid h2
  have hmc : m.length ≤ c2 := h2.2.1
  clear h h2
  by_cases hfull : room < l.length + m.length
  · have d1 : decide ((room : Int) - (l.length : Int) < (m.length : Int)) = true := decide_eq_true (by omega)
    have d2 : (room : Int) - (l.length : Int) < (m.length : Int) := by omega
    have HV : Hid (apE room l m armed = 7 ∧ apL room l m armed fuse = l ∧ apA room l m armed = armed) := hid ⟨if_pos hfull, if_pos hfull, if_pos hfull⟩
    clear hfull hr hl hm
    go_enter Tryz.func8, Tryz.ntmps8
    go_wp2_with fail
    refine HF.out.mono ?_
    rintro x w1 ⟨rfl, q, rfl⟩
    go_wp2
    go_ret
    rw [HV.out.1, HV.out.2.1, HV.out.2.2]
    exact ⟨rfl, HD.out.below (below_drewN0 _ _), Only.of_below (below_drewN0 _ _)⟩
  · have d1 : decide ((room : Int) - (l.length : Int) < (m.length : Int)) = false := decide_eq_false (by omega)
    have d2 : (m.length : Int) ≤ (room : Int) - (l.length : Int) := by omega
    have HV : Hid (apE room l m armed = (if armed then 14 else 0) ∧ apL room l m armed fuse = (if armed then l ++ m.take fuse else l ++ m) ∧ apA room l m armed = false) := hid ⟨if_neg hfull, if_neg hfull, if_neg hfull⟩
    have hl5 : l.length ≤ 100000 := by omega
    clear hfull hr hl
    go_enter Tryz.func8, Tryz.ntmps8
    go_wp2_with fail
    refine HF.out.mono ?_
    rintro x w1 ⟨rfl, q, rfl⟩
    clear HF
    go_upto_region 5 with (fail)
    refine at_world (fun w => DiskAt w D room l armed fuse ∧ IsBytes w A2 m.length c2 m ∧ Below W.heap.size W w) ⟨HD.out.below (below_drewN0 _ _), HM.out.below (below_drewN0 _ _), below_drewN0 _ _⟩ ?_
    rintro w2 ⟨hD, hM, hB⟩
    obtain ⟨A9, c9, h9, _⟩ := hD.open
    obtain ⟨⟨p0, p1, p2, p3⟩, f0, f1, f2, f3⟩ := four_cells h9
    have HD2 := hid hD
    have HM2 := hid hM
    have HB2 := hid hB
    clear h9 hD hM hB d1 d2
    cases armed
    case false =>
      have HW := hid (dwrite_any D room l m false fuse A2 c2 w2 HD2.out HM2.out hl5 hm)
      go_wp2_with fail
      refine HW.out.mono ?_
      rintro x w3 ⟨⟨v, rfl⟩, hD3, hO3⟩
      have HD3 := hid hD3
      have HO3 := hid ((Only.of_below HB2.out).trans hO3)
      clear hD3 hO3 HW p0 p1 p2 p3 f0 f1 f2 f3
      go_wp2
      go_ret
      rw [HV.out.1, HV.out.2.1, HV.out.2.2]
      exact ⟨rfl, HD3.out, HO3.out⟩
    case true =>
      go_upto_region 7 with (fail)
      refine at_world (fun w => DiskAt w D room l false fuse ∧ IsBytes w A2 m.length c2 m ∧ Only D W w) ⟨HD2.out.setA false, isBytes_disk HM2.out HD2.out ((Only.refl _ _).set 2 _), (Only.of_below HB2.out).set 2 _⟩ ?_
      clear HD2 HM2 HB2 p0 p1 p2 p3 f0 f1 f2 f3
      rintro w3 ⟨hD, hM, hO⟩
      obtain ⟨A9, c9, h9, _⟩ := hD.open
      obtain ⟨⟨p0, p1, p2, p3⟩, f0, f1, f2, f3⟩ := four_cells h9
      have HO3 := hid hO
      obtain ⟨j, hj⟩ : ∃ j, min fuse m.length = j := ⟨_, rfl⟩
      have hjm : j ≤ m.length := by omega
      have hmin : min (fuse : Int) (m.length : Int) = (j : Int) := by omega
      have htk : m.take fuse = m.take j := by
        rcases Nat.le_total fuse m.length with h | h
        · rw [← hj, Nat.min_eq_left h]
        · rw [← hj, Nat.min_eq_right h, List.take_length, List.take_of_length_le h]
      have hjl : (m.take j).length = j := by rw [List.length_take]; omega
      have hsl : ∀ w : World, (Instr.slice 23 (.slice A2 m.length c2) none (some (.int .i64 (j : Int))) none).run Tryz.prog w = .ok (.slice A2 j c2) w := run_to Tryz.underlying23 info_u8K A2 m.length c2 j (by omega)
      have HW := hid (dwrite_any D room l (m.take j) false fuse A2 c2 w3 hD (by rw [hjl]; exact hM.take j hjm) hl5 (by omega))
      rw [hjl] at HW
      have HTK := hid htk
      have HMIN := hid hmin
      clear h9 hO hD hM hj htk hjl hmin
      go_wp2_with fail
      rw [show (min (fuse : Int) (m.length : Int)).toNat = j by rw [HMIN.out]; rfl]
      refine HW.out.mono ?_
      rintro x w4 ⟨⟨v, rfl⟩, hD4, hO4⟩
      have HD4 := hid hD4
      have HO4 := hid (HO3.out.trans hO4)
      have HV2 : Hid (apE room l m true = 14 ∧ apL room l m true fuse = l ++ m.take fuse ∧ apA room l m true = false) := hid (by simpa using HV.out)
      clear hD4 hO4 HW HO3 hsl p0 p1 p2 p3 f0 f1 f2 f3 HV
      go_wp2
      go_ret
      rw [HV2.out.1, HV2.out.2.1, HV2.out.2.2, HTK.out]
      exact ⟨rfl, HD4.out, HO4.out⟩

theorem dfuse_any (D room : Nat) (l : List UInt8) (armed : Bool) (fuse : Nat) (n : Int) (W : World) (h : DiskAt W D room l armed fuse) :
    Calls Tryz.prog 15 #[.pointer (some ⟨D, 0, none⟩), .int .i64 n] W fun e w' => (∃ v, e = .returned v) ∧ DiskAt w' D room l (decide (0 ≤ n)) n.toNat ∧ Only D W w' := by
  obtain ⟨A9, c9, h9, _⟩ := h.open
  obtain ⟨⟨p0, p1, p2, p3⟩, f0, f1, f2, f3⟩ := four_cells h9
  have HD := hid h
  clear h9 h
  rcases (by omega : n < 0 ∨ 0 ≤ n) with hn | hn
  · have d1 : decide (0 ≤ n) = false := decide_eq_false (by omega)
    have hmx : max n 0 = 0 := by omega
    have HT : Hid (n.toNat = 0) := hid (by omega)
    go_enter Tryz.func15, Tryz.ntmps15
    go_wp2
    go_end0
    rw [HT.out, d1]
    exact ⟨⟨_, rfl⟩, (HD.out.setA false).setF 0, ((Only.refl _ _).set 2 _).set 3 _⟩
  · obtain ⟨k, rfl⟩ := Int.eq_ofNat_of_zero_le hn
    have d1 : decide (0 ≤ (k : Int)) = true := decide_eq_true (by omega)
    have hmx : max (k : Int) 0 = (k : Int) := by omega
    go_enter Tryz.func15, Tryz.ntmps15
    go_wp2
    go_end0
    rw [d1]
    exact ⟨⟨_, rfl⟩, (HD.out.setA true).setF k, ((Only.refl _ _).set 2 _).set 3 _⟩

end Go.Proofs.YtkepfkfoblocgaaGreat

namespace Go.Proofs.YtkepfkfoblocgaaGreat
open Go.RowKit Go.Sort
set_option linter.unusedVariables false
set_option linter.unusedSimpArgs false

def cutE (l : List UInt8) (n : Int) : Int := if n < 0 ∨ (l.length : Int) < n then 6 else 0
def cutL (l : List UInt8) (n : Int) : List UInt8 := if n < 0 ∨ (l.length : Int) < n then l else l.take n.toNat
set_option maxRecDepth 20000 in
theorem dcut_any (D room : Nat) (l : List UInt8) (armed : Bool) (fuse : Nat) (n : Int) (W : World) (h : DiskAt W D room l armed fuse) (hl : l.length ≤ 100000) :
    Calls Tryz.prog 48 #[.pointer (some ⟨D, 0, none⟩), .int .i64 n] W fun e w' => e = .returned (.int .i64 (cutE l n)) ∧ DiskAt w' D room (cutL l n) armed fuse ∧ Only D W w' := by
  obtain ⟨A, c, h1, h2, h3⟩ := h.openT
  have HTB := hid h3
  obtain ⟨⟨p0, p1, p2, p3⟩, f0, f1, f2, f3⟩ := four_cells h1
  have HD := hid h
  have HB := hid h2
  have hl2 : (l.length : Int) ≤ 100000 := by omega
  clear h1 h2 h h3
  by_cases hn : n < 0
  · have HV : Hid (cutE l n = 6 ∧ cutL l n = l) := hid ⟨if_pos (.inl hn), if_pos (.inl hn)⟩
    have d1 : decide (n < 0) = true := decide_eq_true hn
    go_enter Tryz.func48, Tryz.ntmps48
    go_wp2
    go_ret
    rw [HV.out.1, HV.out.2]
    exact ⟨rfl, HD.out, Only.refl _ _⟩
  by_cases hn2 : (l.length : Int) < n
  · have HV : Hid (cutE l n = 6 ∧ cutL l n = l) := hid ⟨if_pos (.inr hn2), if_pos (.inr hn2)⟩
    have d1 : decide (n < 0) = false := decide_eq_false hn
    have d2 : decide ((l.length : Int) < n) = true := decide_eq_true hn2
    have d3 : 0 ≤ n := by omega
    clear hn
    go_enter Tryz.func48, Tryz.ntmps48
    go_wp2
    go_ret
    rw [HV.out.1, HV.out.2]
    exact ⟨rfl, HD.out, Only.refl _ _⟩
  · obtain ⟨k, rfl⟩ : ∃ k : Nat, n = k := ⟨n.toNat, by omega⟩
    have hkl : k ≤ l.length := by omega
    have HV : Hid (cutE l k = 0 ∧ cutL l k = l.take k) := hid ⟨if_neg (by omega), by rw [cutL, if_neg (by omega), Int.toNat_natCast]⟩
    have d1 : decide ((k : Int) < 0) = false := decide_eq_false hn
    have d2 : decide ((l.length : Int) < (k : Int)) = false := decide_eq_false hn2
    have d3 : (k : Int) ≤ (l.length : Int) := by omega
    have hs3 : ∀ w : World, (Instr.slice 23 (.slice A l.length c) none (some (.int .i64 (k : Int))) none).run Tryz.prog w = .ok (.slice A k c) w := fun w => run_to Tryz.underlying23 info_u8K A l.length c k (by have := HB.out.len; omega) w
    have HT := hid (HB.out.take k hkl)
    have HTL : Hid ((l.take k).length = k) := hid (by rw [List.length_take]; omega)
    clear hn hn2
    go_enter Tryz.func48, Tryz.ntmps48
    go_wp2
    go_ret
    rw [HV.out.1, HV.out.2]
    refine ⟨rfl, ?_, (Only.refl _ _).set 1 _⟩
    have h9 := HT.out
    have h8 : IsBytes W A (l.take k).length c (l.take k) := by rw [HTL.out]; exact h9
    have h7 := HD.out.setB h8 HTB.out
    rw [HTL.out] at h7
    exact h7

end Go.Proofs.YtkepfkfoblocgaaGreat
