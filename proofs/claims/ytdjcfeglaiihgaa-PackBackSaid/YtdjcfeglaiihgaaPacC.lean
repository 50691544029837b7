/- Packets: the small functions; a packet's block. -/
import Derived.Test.YtdjcfeglaiihgaaPacM
import Derived.Deep.Cut
namespace Go.Proofs.Ytdjcfeglaiihgaa
open Go.RowKit
set_option linter.unusedVariables false
set_option linter.unusedSimpArgs false

theorem hasPeer_any (k : Nat) (hk : k ≤ 4) (w : World) : Calls Try.prog 59 #[.int .i64 k] w fun e w' => e = .returned (.bool (hpP k)) ∧ w = w' := by
  rcases (by omega : k = 0 ∨ k = 1 ∨ k = 2 ∨ k = 3 ∨ k = 4) with rfl | rfl | rfl | rfl | rfl
  all_goals
    clear hk
    go_enter Try.func59, Try.ntmps59
    go_wp2
    go_ret
    exact ⟨rfl, rfl⟩
theorem hasSeq_any (k : Nat) (hk : k ≤ 4) (w : World) : Calls Try.prog 60 #[.int .i64 k] w fun e w' => e = .returned (.bool (hpS k)) ∧ w = w' := by
  rcases (by omega : k = 0 ∨ k = 1 ∨ k = 2 ∨ k = 3 ∨ k = 4) with rfl | rfl | rfl | rfl | rfl
  all_goals
    clear hk
    go_enter Try.func60, Try.ntmps60
    go_wp2
    go_ret
    exact ⟨rfl, rfl⟩
theorem hasBody_any (k : Nat) (hk : k ≤ 4) (w : World) : Calls Try.prog 61 #[.int .i64 k] w fun e w' => e = .returned (.bool (hpB k)) ∧ w = w' := by
  rcases (by omega : k = 0 ∨ k = 1 ∨ k = 2 ∨ k = 3 ∨ k = 4) with rfl | rfl | rfl | rfl | rfl
  all_goals
    clear hk
    go_enter Try.func61, Try.ntmps61
    go_wp2
    go_ret
    exact ⟨rfl, rfl⟩

theorem from_any (B : Nat) (least most : Int) (l : List UInt8) (e : Int) (W : World) (h : RdrAt W B l e) :
    Calls Try.prog 64 #[.pointer (some ⟨B, 0, none⟩), .int .i64 least, .int .i64 most] W fun x w' => x = .returned (.int .i64 ((takeS true least most l e).1 : Nat)) ∧ RdrAt w' B (takeS true least most l e).2.1 (takeS true least most l e).2.2 ∧ Only B W w' := by
  have HR : Hid (takeS true least most l e = if ((rdNum most l e).1 : Int) < least then ((rdNum most l e).1, (rdNum most l e).2.1, rdFail 3 (rdNum most l e).2.2) else rdNum most l e) := hid rfl
  have HN := hid (rdNum_any B l e most W h)
  clear h
  generalize rdNum most l e = t at *
  obtain ⟨n, l2, e2⟩ := t
  simp only at HR HN
  by_cases hlt : (n : Int) < least
  · have hd : decide ((n : Int) < least) = true := decide_eq_true hlt
    rw [if_pos hlt] at HR
    go_enter Try.func64, Try.ntmps64
    go_wp2_with fail
    refine HN.out.mono ?_
    rintro x w1 ⟨rfl, hR, hO⟩
    have HF := hid (rdFail_any B l2 e2 3 w1 hR)
    have HO := hid hO
    clear hR hO
    go_wp2_with fail
    refine HF.out.mono ?_
    rintro x w2 ⟨⟨v, rfl⟩, hR2, hO2⟩
    have HR2 := hid hR2
    have HO2 := hid hO2
    clear hR2 hO2
    go_wp2
    go_ret
    rw [HR.out]
    exact ⟨rfl, HR2.out, HO.out.trans HO2.out⟩
  · have hd : decide ((n : Int) < least) = false := decide_eq_false hlt
    rw [if_neg hlt] at HR
    have hlt' : least ≤ (n : Int) := by omega
    go_enter Try.func64, Try.ntmps64
    go_wp2_with fail
    refine HN.out.mono ?_
    rintro x w1 ⟨rfl, hR, hO⟩
    have HRR := hid hR
    have HO := hid hO
    clear hR hO
    go_wp2
    go_ret
    rw [HR.out]
    exact ⟨rfl, HRR.out, HO.out⟩

theorem least_any (B : Nat) (hb : Bool) (most : Int) (l : List UInt8) (e : Int) (W : World) (h : RRdr W B l e) (hl : l.length ≤ 100000) :
    Calls Try.prog 67 #[.pointer (some ⟨B, 0, none⟩), .bool hb, .int .i64 most] W fun x w' => x = .returned (.int .i64 ((takeS hb 1 most l e).1 : Nat)) ∧ RRdr w' B (takeS hb 1 most l e).2.1 (takeS hb 1 most l e).2.2 ∧ Only B W w' := by
  cases hb with
  | false =>
    have H := hid h
    clear h
    go_enter Try.func67, Try.ntmps67
    go_wp2
    go_ret
    exact ⟨rfl, H.out, Only.refl B W⟩
  | true =>
    have HR : Hid (takeS true 1 most l e = if ((rdNum most l e).1 : Int) < 1 then ((rdNum most l e).1, (rdNum most l e).2.1, rdFail 3 (rdNum most l e).2.2) else rdNum most l e) := hid rfl
    have HN := hid (rrNum_any B l e most W h hl)
    clear h
    generalize rdNum most l e = t at *
    obtain ⟨n, l2, e2⟩ := t
    simp only at HR HN
    by_cases hlt : (n : Int) < 1
    · obtain rfl : n = 0 := by omega
      rw [if_pos hlt] at HR
      clear hlt
      go_enter Try.func67, Try.ntmps67
      go_wp2_with fail
      refine HN.out.mono ?_
      rintro x w1 ⟨rfl, hR, hO⟩
      have HF := hid (rrFail_any B l2 e2 3 w1 hR)
      have HO := hid hO
      clear hR hO
      go_wp2_with fail
      refine HF.out.mono ?_
      rintro x w2 ⟨⟨v, rfl⟩, hR2, hO2⟩
      have HR2 := hid hR2
      have HO2 := hid hO2
      clear hR2 hO2
      go_wp2
      go_ret
      rw [HR.out]
      exact ⟨rfl, HR2.out, HO.out.trans HO2.out⟩
    · have hd : ((n : Int) == 0) = false := by rw [beq_eq_false_iff_ne]; omega
      rw [if_neg hlt] at HR
      clear hlt
      go_enter Try.func67, Try.ntmps67
      go_wp2_with fail
      refine HN.out.mono ?_
      rintro x w1 ⟨rfl, hR, hO⟩
      have HRR := hid hR
      have HO := hid hO
      clear hR hO
      go_wp2
      go_ret
      rw [HR.out]
      exact ⟨rfl, HRR.out, HO.out⟩

/-- A packet's cells. -/
def pcs (k f t i p s : Int) (b : ByteArray) : Array Value := #[.int .i64 k, .int .i64 f, .int .i64 t, .int .i64 i, .int .i64 p, .int .i64 s, .string b]
/-- Block M is a packet. -/
def Pc (T : TypeId) (w : World) (M : Nat) (k f t i p s : Int) (b : ByteArray) : Prop := w.heap[M]? = some (.cells #[.int .i64 k, .int .i64 f, .int .i64 t, .int .i64 i, .int .i64 p, .int .i64 s, .string b] T (0, 0))
theorem seven_cells {w : World} {b t : Nat} {x0 x1 x2 x3 x4 x5 x6 : Value} (h : w.heap[b]? = some (.cells #[x0, x1, x2, x3, x4, x5, x6] t (0, 0))) :
    (w.cell? ⟨b, 0, none⟩ = some x0 ∧ w.cell? ⟨b, 1, none⟩ = some x1 ∧ w.cell? ⟨b, 2, none⟩ = some x2 ∧ w.cell? ⟨b, 3, none⟩ = some x3 ∧ w.cell? ⟨b, 4, none⟩ = some x4 ∧ w.cell? ⟨b, 5, none⟩ = some x5 ∧ w.cell? ⟨b, 6, none⟩ = some x6) ∧ (w.frozen? ⟨b, 0, none⟩ = false ∧ w.frozen? ⟨b, 1, none⟩ = false ∧ w.frozen? ⟨b, 2, none⟩ = false ∧ w.frozen? ⟨b, 3, none⟩ = false ∧ w.frozen? ⟨b, 4, none⟩ = false ∧ w.frozen? ⟨b, 5, none⟩ = false ∧ w.frozen? ⟨b, 6, none⟩ = false) :=
  ⟨⟨by rw [cell_of_row w b 0 _ t (0, 0) h]; rfl, by rw [cell_of_row w b 1 _ t (0, 0) h]; rfl, by rw [cell_of_row w b 2 _ t (0, 0) h]; rfl, by rw [cell_of_row w b 3 _ t (0, 0) h]; rfl, by rw [cell_of_row w b 4 _ t (0, 0) h]; rfl, by rw [cell_of_row w b 5 _ t (0, 0) h]; rfl, by rw [cell_of_row w b 6 _ t (0, 0) h]; rfl⟩,
    frozen_of_row w b 0 _ t h, frozen_of_row w b 1 _ t h, frozen_of_row w b 2 _ t h, frozen_of_row w b 3 _ t h, frozen_of_row w b 4 _ t h, frozen_of_row w b 5 _ t h, frozen_of_row w b 6 _ t h⟩
/-- The world in which a packet's cells have been stored. -/
def set7 (w : World) (b : Nat) (x0 x1 x2 x3 x4 x5 x6 : Value) : World := ((((((w.setCell ⟨b, 0, none⟩ x0).setCell ⟨b, 1, none⟩ x1).setCell ⟨b, 2, none⟩ x2).setCell ⟨b, 3, none⟩ x3).setCell ⟨b, 4, none⟩ x4).setCell ⟨b, 5, none⟩ x5).setCell ⟨b, 6, none⟩ x6
theorem set_seven {w : World} {b t : Nat} {x0 x1 x2 x3 x4 x5 x6 : Value} (h : w.heap[b]? = some (.cells #[x0, x1, x2, x3, x4, x5, x6] t (0, 0))) (y0 y1 y2 y3 y4 y5 y6 : Value) :
    (set7 w b y0 y1 y2 y3 y4 y5 y6).heap[b]? = some (.cells #[y0, y1, y2, y3, y4, y5, y6] t (0, 0)) := by
  have h1 := heap_setCell_same w b 0 #[x0, x1, x2, x3, x4, x5, x6] t y0 h
  have h2 := heap_setCell_same _ b 1 _ t y1 h1
  have h3 := heap_setCell_same _ b 2 _ t y2 h2
  have h4 := heap_setCell_same _ b 3 _ t y3 h3
  have h5 := heap_setCell_same _ b 4 _ t y4 h4
  have h6 := heap_setCell_same _ b 5 _ t y5 h5
  have h7 := heap_setCell_same _ b 6 _ t y6 h6
  rw [set7, h7]
  rfl
theorem below_set7 {B : Nat} {W w : World} {b : Nat} (h : Below B W w) (hb : B ≤ b) (y0 y1 y2 y3 y4 y5 y6 : Value) : Below B W (set7 w b y0 y1 y2 y3 y4 y5 y6) :=
  ((((((h.setCell (p := ⟨b, 0, none⟩) hb y0).setCell (p := ⟨b, 1, none⟩) hb y1).setCell (p := ⟨b, 2, none⟩) hb y2).setCell (p := ⟨b, 3, none⟩) hb y3).setCell (p := ⟨b, 4, none⟩) hb y4).setCell (p := ⟨b, 5, none⟩) hb y5).setCell (p := ⟨b, 6, none⟩) hb y6
theorem isBytes_pc {T : TypeId} {w : World} {a : Option Addr} {n cap M : Nat} {l : List UInt8} {k f t i p s : Int} {b : ByteArray} (h : IsBytes w a n cap l) (hM : Pc T w M k f t i p s b) (j : Nat) (v : Value) : IsBytes (w.setCell ⟨M, j, none⟩ v) a n cap l := by
  refine ⟨h.1, h.2.1, h.2.2.1, fun h0 => ?_⟩
  obtain ⟨c, off, rfl, hc⟩ := h.2.2.2 h0
  have hne : c ≠ M := by
    rintro rfl
    have h1 := hc 0 h0
    rw [Nat.add_zero, cell_of_row w c off _ T (0, 0) hM] at h1
    rw [List.getElem?_eq_getElem h0] at h1
    simp only [bcells, List.getElem_map] at h1
    match off, h1 with
    | 0, h1 => simp at h1
    | 1, h1 => simp at h1
    | 2, h1 => simp at h1
    | 3, h1 => simp at h1
    | 4, h1 => simp at h1
    | 5, h1 => simp at h1
    | 6, h1 => simp at h1
    | m + 7, h1 => simp at h1
  refine ⟨c, off, rfl, fun i hi => ?_⟩
  rw [World.cell?_of_block (Below.heap_setCell _ _ _ _ hne), hc i hi]
theorem RdrAt.setPc {T : TypeId} {w : World} {B M : Nat} {l : List UInt8} {e k f t i p s : Int} {b : ByteArray} (h : RdrAt w B l e) (hM : Pc T w M k f t i p s b) (hne : B ≠ M) (j : Nat) (v : Value) : RdrAt (w.setCell ⟨M, j, none⟩ v) B l e := by
  obtain ⟨a, cap, h1, h2⟩ := h
  exact ⟨a, cap, (Below.heap_setCell _ _ _ _ hne).trans h1, isBytes_pc h2 hM j v⟩

/-- What a walk of Open holds: the result's block R, the reader's B, the packet's M. -/
structure QSt (W w : World) (R B M : Nat) (l : List UInt8) (e k f t i p s : Int) (y : ByteArray) : Prop where
  r : Pc 58 w R 0 0 0 0 0 0 ⟨#[]⟩
  b : RdrAt w B l e
  m : Pc 58 w M k f t i p s y
  bel : Below W.heap.size W w
  hR : W.heap.size ≤ R
  hB : W.heap.size ≤ B
  hM : W.heap.size ≤ M
  rb : R ≠ B
  mb : M ≠ B
  rm : R ≠ M
theorem QSt.go {W w w' : World} {R B M : Nat} {l l2 : List UInt8} {e e2 k f t i p s : Int} {y : ByteArray} (h : QSt W w R B M l e k f t i p s y) (ho : Only B w w') (hr : RdrAt w' B l2 e2) : QSt W w' R B M l2 e2 k f t i p s y :=
  ⟨ho.block h.r h.rb, hr, ho.block h.m h.mb, h.bel.trans (ho.below W.heap.size h.hB h.bel.size), h.hR, h.hB, h.hM, h.rb, h.mb, h.rm⟩
theorem QSt.m3 {W w : World} {R B M : Nat} {l : List UInt8} {e k f t i p s : Int} {y : ByteArray} (h : QSt W w R B M l e k f t i p s y) (x : Int) : QSt W (w.setCell ⟨M, 3, none⟩ (.int .i64 x)) R B M l e k f t x p s y :=
  ⟨(Below.heap_setCell _ _ _ _ h.rm).trans h.r, h.b.setPc h.m (fun e => h.mb e.symm) _ _, heap_setCell_same w M 3 _ _ _ h.m, h.bel.setCell h.hM _, h.hR, h.hB, h.hM, h.rb, h.mb, h.rm⟩
theorem QSt.m4 {W w : World} {R B M : Nat} {l : List UInt8} {e k f t i p s : Int} {y : ByteArray} (h : QSt W w R B M l e k f t i p s y) (x : Int) : QSt W (w.setCell ⟨M, 4, none⟩ (.int .i64 x)) R B M l e k f t i x s y :=
  ⟨(Below.heap_setCell _ _ _ _ h.rm).trans h.r, h.b.setPc h.m (fun e => h.mb e.symm) _ _, heap_setCell_same w M 4 _ _ _ h.m, h.bel.setCell h.hM _, h.hR, h.hB, h.hM, h.rb, h.mb, h.rm⟩
theorem QSt.m5 {W w : World} {R B M : Nat} {l : List UInt8} {e k f t i p s : Int} {y : ByteArray} (h : QSt W w R B M l e k f t i p s y) (x : Int) : QSt W (w.setCell ⟨M, 5, none⟩ (.int .i64 x)) R B M l e k f t i p x y :=
  ⟨(Below.heap_setCell _ _ _ _ h.rm).trans h.r, h.b.setPc h.m (fun e => h.mb e.symm) _ _, heap_setCell_same w M 5 _ _ _ h.m, h.bel.setCell h.hM _, h.hR, h.hB, h.hM, h.rb, h.mb, h.rm⟩
theorem QSt.m6 {W w : World} {R B M : Nat} {l : List UInt8} {e k f t i p s : Int} {y : ByteArray} (h : QSt W w R B M l e k f t i p s y) (x : ByteArray) : QSt W (w.setCell ⟨M, 6, none⟩ (.string x)) R B M l e k f t i p s x :=
  ⟨(Below.heap_setCell _ _ _ _ h.rm).trans h.r, h.b.setPc h.m (fun e => h.mb e.symm) _ _, heap_setCell_same w M 6 _ _ _ h.m, h.bel.setCell h.hM _, h.hR, h.hB, h.hM, h.rb, h.mb, h.rm⟩

/-- The document's side of it. -/
structure QRt (W w : World) (R B M : Nat) (l : List UInt8) (e k f t i p s : Int) (y : ByteArray) : Prop where
  r : Pc 56 w R 0 0 0 0 0 0 ⟨#[]⟩
  b : RRdr w B l e
  m : Pc 56 w M k f t i p s y
  bel : Below W.heap.size W w
  hR : W.heap.size ≤ R
  hB : W.heap.size ≤ B
  hM : W.heap.size ≤ M
  rb : R ≠ B
  mb : M ≠ B
  rm : R ≠ M
theorem QRt.go {W w w' : World} {R B M : Nat} {l l2 : List UInt8} {e e2 k f t i p s : Int} {y : ByteArray} (h : QRt W w R B M l e k f t i p s y) (ho : Only B w w') (hr : RRdr w' B l2 e2) : QRt W w' R B M l2 e2 k f t i p s y :=
  ⟨ho.block h.r h.rb, hr, ho.block h.m h.mb, h.bel.trans (ho.below W.heap.size h.hB h.bel.size), h.hR, h.hB, h.hM, h.rb, h.mb, h.rm⟩
theorem QRt.m1 {W w : World} {R B M : Nat} {l : List UInt8} {e k f t i p s : Int} {y : ByteArray} (h : QRt W w R B M l e k f t i p s y) (x : Int) : QRt W (w.setCell ⟨M, 1, none⟩ (.int .i64 x)) R B M l e k x t i p s y :=
  ⟨(Below.heap_setCell _ _ _ _ h.rm).trans h.r, (Below.heap_setCell _ _ _ _ (fun e => h.mb e.symm)).trans h.b, heap_setCell_same w M 1 _ _ _ h.m, h.bel.setCell h.hM _, h.hR, h.hB, h.hM, h.rb, h.mb, h.rm⟩
theorem QRt.m2 {W w : World} {R B M : Nat} {l : List UInt8} {e k f t i p s : Int} {y : ByteArray} (h : QRt W w R B M l e k f t i p s y) (x : Int) : QRt W (w.setCell ⟨M, 2, none⟩ (.int .i64 x)) R B M l e k f x i p s y :=
  ⟨(Below.heap_setCell _ _ _ _ h.rm).trans h.r, (Below.heap_setCell _ _ _ _ (fun e => h.mb e.symm)).trans h.b, heap_setCell_same w M 2 _ _ _ h.m, h.bel.setCell h.hM _, h.hR, h.hB, h.hM, h.rb, h.mb, h.rm⟩
theorem QRt.m3 {W w : World} {R B M : Nat} {l : List UInt8} {e k f t i p s : Int} {y : ByteArray} (h : QRt W w R B M l e k f t i p s y) (x : Int) : QRt W (w.setCell ⟨M, 3, none⟩ (.int .i64 x)) R B M l e k f t x p s y :=
  ⟨(Below.heap_setCell _ _ _ _ h.rm).trans h.r, (Below.heap_setCell _ _ _ _ (fun e => h.mb e.symm)).trans h.b, heap_setCell_same w M 3 _ _ _ h.m, h.bel.setCell h.hM _, h.hR, h.hB, h.hM, h.rb, h.mb, h.rm⟩
theorem QRt.m4 {W w : World} {R B M : Nat} {l : List UInt8} {e k f t i p s : Int} {y : ByteArray} (h : QRt W w R B M l e k f t i p s y) (x : Int) : QRt W (w.setCell ⟨M, 4, none⟩ (.int .i64 x)) R B M l e k f t i x s y :=
  ⟨(Below.heap_setCell _ _ _ _ h.rm).trans h.r, (Below.heap_setCell _ _ _ _ (fun e => h.mb e.symm)).trans h.b, heap_setCell_same w M 4 _ _ _ h.m, h.bel.setCell h.hM _, h.hR, h.hB, h.hM, h.rb, h.mb, h.rm⟩
theorem QRt.m5 {W w : World} {R B M : Nat} {l : List UInt8} {e k f t i p s : Int} {y : ByteArray} (h : QRt W w R B M l e k f t i p s y) (x : Int) : QRt W (w.setCell ⟨M, 5, none⟩ (.int .i64 x)) R B M l e k f t i p x y :=
  ⟨(Below.heap_setCell _ _ _ _ h.rm).trans h.r, (Below.heap_setCell _ _ _ _ (fun e => h.mb e.symm)).trans h.b, heap_setCell_same w M 5 _ _ _ h.m, h.bel.setCell h.hM _, h.hR, h.hB, h.hM, h.rb, h.mb, h.rm⟩
theorem QRt.m6 {W w : World} {R B M : Nat} {l : List UInt8} {e k f t i p s : Int} {y : ByteArray} (h : QRt W w R B M l e k f t i p s y) (x : ByteArray) : QRt W (w.setCell ⟨M, 6, none⟩ (.string x)) R B M l e k f t i p s x :=
  ⟨(Below.heap_setCell _ _ _ _ h.rm).trans h.r, (Below.heap_setCell _ _ _ _ (fun e => h.mb e.symm)).trans h.b, heap_setCell_same w M 6 _ _ _ h.m, h.bel.setCell h.hM _, h.hR, h.hB, h.hM, h.rb, h.mb, h.rm⟩

def pkV (k f t i p s : Int) (b : ByteArray) : Value := .agg #[.int .i64 k, .int .i64 f, .int .i64 t, .int .i64 i, .int .i64 p, .int .i64 s, .string b]
/-- The packet that is opened. -/
def opV (s : List UInt8) : Value := if opE s = 0 then pkV (qk (cutS s).1).1 (qf (cutS s).1).1 (qt (cutS s).1).1 (qi (cutS s).1).1 (qp (cutS s).1).1 (qs (cutS s).1).1 (str (qb (cutS s).1).1) else pkV 0 0 0 0 0 0 ⟨#[]⟩
theorem takeT_short (hb : Bool) (l : List UInt8) (e : Int) : (takeT hb l e).2.1.length ≤ l.length := by
  have h : (rdText 32 l e).2.1.length ≤ l.length := by
    unfold rdText
    repeat' split
    all_goals simp
  unfold takeT
  repeat' split
  all_goals first | exact h | simp
theorem rdNum_short (most : Int) (l : List UInt8) (e : Int) : (rdNum most l e).2.1.length ≤ l.length := by
  unfold rdNum
  repeat' split
  all_goals simp
end Go.Proofs.Ytdjcfeglaiihgaa
