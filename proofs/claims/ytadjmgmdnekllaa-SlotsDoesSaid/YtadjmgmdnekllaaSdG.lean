/- SlotsDoes: the law. -/
import Derived.Test.YtadjmgmdnekllaaSdF
import Derived.Test.YtadjmgmdnekllaaQueX
import Derived.BigQuiet
import Derived.Lib.QuietBelow
import Derived.RegionTactic
import Derived.ChangeAlike
namespace Go.Proofs.Ytadjmgmdnekllaa
open Go.RowKit Go.Sort
set_option linter.unusedVariables false
set_option linter.unusedSimpArgs false

/-- Where a value's rows lie. -/
structure Vh where
  A : Option Addr
  O : Option Addr
  R : Option Addr
  ca : Nat
  co : Nat
  cr : Nat
/-- A block that holds slots, which may be read. -/
def KA (w : World) (b T : Nat) (s : Sv) (v : Vh) : Prop := w.heap[b]? = some (.cells (svv s v.A v.O v.R v.ca v.co v.cr) T (0, 0)) ∧ InV w s v.A v.O v.R v.ca v.co v.cr
theorem KA.keep {w w' : World} {b T : Nat} {s : Sv} {v : Vh} (h : KA w b T s v) (hb : Below w.heap.size w w') : KA w' b T s v := ⟨keep0 h.1 hb, h.2.below hb⟩
theorem Sl.put4 {w : World} {A B C D : Option Addr} {n len cap l1 l2 l3 c1 c2 c3 Z t : Nat} {l : List (Int × Int)} {m : Int} (h : Sl w 2 A len cap (pcells l)) (hz : w.heap[Z]? = some (.cells #[.int .i64 m, .slice B l1 c1, .slice C l2 c2, .slice D l3 c3] t (0, 0))) (x0 x1 x2 x3 : Value) : Sl (put4 w Z x0 x1 x2 x3) 2 A len cap (pcells l) := by
  obtain ⟨h1, h2, h3, h4⟩ := h
  refine ⟨h1, h2, h3, fun h0 => ?_⟩
  obtain ⟨b, off, rfl, hc⟩ := h4 h0
  refine ⟨b, off, rfl, fun i hi => ?_⟩
  rw [← hc i hi]
  have hl : 0 < l.length := by rw [pcells_length] at h0; omega
  have e1 := hc 1 (by rw [pcells_length]; omega)
  have g1 := (pcells_get l 0 hl).2
  have hbz : b ≠ Z := by
    rintro rfl
    rw [show 0 * 2 + 1 = 1 from rfl] at g1
    rw [g1, cell_of_row w b (off + 1) _ t (0, 0) hz] at e1
    match off, e1 with
    | 0, e1 => simp at e1
    | 1, e1 => simp at e1
    | 2, e1 => simp at e1
    | k + 3, e1 => simp at e1
  unfold World.cell?
  rw [put4_other hbz]
theorem InV.put4 {w : World} {s t : Sv} {A O R B C D : Option Addr} {ca co cr c1 c2 c3 Z T : Nat} (h : InV w s A O R ca co cr) (hz : w.heap[Z]? = some (.cells (svv t B C D c1 c2 c3) T (0, 0))) (x0 x1 x2 x3 : Value) : InV (put4 w Z x0 x1 x2 x3) s A O R ca co cr :=
  ⟨Sl.put4 (n := 0) h.1 hz _ _ _ _, Sl.put4 (n := 0) h.2.1 hz _ _ _ _, Sl.put4 (n := 0) h.2.2 hz _ _ _ _⟩
theorem KA.other {w : World} {b T Z T' : Nat} {s t : Sv} {v v' : Vh} (h : KA w b T s v) (hz : KA w Z T' t v') (hne : b ≠ Z) (x0 x1 x2 x3 : Value) : KA (put4 w Z x0 x1 x2 x3) b T s v := ⟨(put4_other hne _ _ _ _).trans h.1, h.2.put4 hz.1 _ _ _ _⟩
theorem KA.put {w : World} {Z T : Nat} {s t : Sv} {v v' : Vh} (hz : KA w Z T t v') (h : InV w s v.A v.O v.R v.ca v.co v.cr) : KA (put4 w Z (.int .i64 s.n) (.slice v.A s.a.length v.ca) (.slice v.O s.o.length v.co) (.slice v.R s.r.length v.cr)) Z T s v := ⟨put4_heap hz.1 _ _ _ _, h.put4 hz.1 _ _ _ _⟩
theorem KA.cells {w : World} {b T : Nat} {n : Int} {a o r : List (Int × Int)} {v : Vh} (h : KA w b T ⟨n, a, o, r⟩ v) :
    (w.cell? ⟨b, 0, none⟩ = some (.int .i64 n) ∧ w.cell? ⟨b, 1, none⟩ = some (.slice v.A a.length v.ca) ∧ w.cell? ⟨b, 2, none⟩ = some (.slice v.O o.length v.co) ∧ w.cell? ⟨b, 3, none⟩ = some (.slice v.R r.length v.cr)) ∧ w.frozen? ⟨b, 0, none⟩ = false ∧ w.frozen? ⟨b, 1, none⟩ = false ∧ w.frozen? ⟨b, 2, none⟩ = false ∧ w.frozen? ⟨b, 3, none⟩ = false := four_cells h.1
/-- What the law's world holds: s, n; x, t; a, b. -/
def SD (W w : World) (X Y P Q : Nat) (s : Sv) (n0 n1 : Int) (v2 v5 : Vh) (a b : Sv) (v7 v9 : Vh) : Prop :=
  (KA w W.heap.size 113 s v2 ∧ w.heap[W.heap.size + 1]? = some (.cells #[.int .i64 n0, .int .i64 n1] 114 (0, 0)) ∧ KA w X 116 s v5 ∧ w.heap[Y]? = some (.cells #[.int .i64 n0, .int .i64 n1] 119 (0, 0)) ∧ KA w P 116 a v7 ∧ KA w Q 113 b v9) ∧ Below W.heap.size W w ∧ W.heap.size + 1 < X ∧ X < Y ∧ Y < P ∧ P < Q
theorem SD.keep {W w w' : World} {X Y P Q : Nat} {s : Sv} {n0 n1 : Int} {v2 v5 : Vh} {a b : Sv} {v7 v9 : Vh} (h : SD W w X Y P Q s n0 n1 v2 v5 a b v7 v9) (hb : Below w.heap.size w w') : SD W w' X Y P Q s n0 n1 v2 v5 a b v7 v9 := by
  obtain ⟨⟨h1, h2, h3, h4, h5, h6⟩, h7, h8⟩ := h
  exact ⟨⟨h1.keep hb, keep0 h2 hb, h3.keep hb, keep0 h4 hb, h5.keep hb, h6.keep hb⟩, h7.trans (hb.mono h7.size), h8⟩
theorem SD.setP {W w : World} {X Y P Q : Nat} {s : Sv} {n0 n1 : Int} {v2 v5 : Vh} {a b : Sv} {v7 v9 : Vh} (h : SD W w X Y P Q s n0 n1 v2 v5 a b v7 v9) (a' : Sv) (v : Vh) (hi : InV w a' v.A v.O v.R v.ca v.co v.cr) {w' : World} (he : w' = put4 w P (.int .i64 a'.n) (.slice v.A a'.a.length v.ca) (.slice v.O a'.o.length v.co) (.slice v.R a'.r.length v.cr)) : SD W w' X Y P Q s n0 n1 v2 v5 a' b v v9 := by
  subst he
  obtain ⟨⟨h1, h2, h3, h4, h5, h6⟩, h7, h8, h9, h10, h11⟩ := h
  exact ⟨⟨h1.other h5 (by omega) _ _ _ _, (put4_other (by omega) _ _ _ _).trans h2, h3.other h5 (by omega) _ _ _ _, (put4_other (by omega) _ _ _ _).trans h4, h5.put hi, h6.other h5 (by omega) _ _ _ _⟩, put4_below h7 (by omega) _ _ _ _, h8, h9, h10, h11⟩
theorem SD.setQ {W w : World} {X Y P Q : Nat} {s : Sv} {n0 n1 : Int} {v2 v5 : Vh} {a b : Sv} {v7 v9 : Vh} (h : SD W w X Y P Q s n0 n1 v2 v5 a b v7 v9) (a' : Sv) (v : Vh) (hi : InV w a' v.A v.O v.R v.ca v.co v.cr) {w' : World} (he : w' = put4 w Q (.int .i64 a'.n) (.slice v.A a'.a.length v.ca) (.slice v.O a'.o.length v.co) (.slice v.R a'.r.length v.cr)) : SD W w' X Y P Q s n0 n1 v2 v5 a a' v7 v := by
  subst he
  obtain ⟨⟨h1, h2, h3, h4, h5, h6⟩, h7, h8, h9, h10, h11⟩ := h
  exact ⟨⟨h1.other h6 (by omega) _ _ _ _, (put4_other (by omega) _ _ _ _).trans h2, h3.other h6 (by omega) _ _ _ _, (put4_other (by omega) _ _ _ _).trans h4, h5.other h6 (by omega) _ _ _ _, h6.put hi⟩, put4_below h7 (by omega) _ _ _ _, h8, h9, h10, h11⟩
theorem Sl.apart {u w : World} {A B C D : Option Addr} {len cap l1 l2 l3 c1 c2 c3 Z t : Nat} {l : List (Int × Int)} {m : Int} (h : Sl u 2 A len cap (pcells l)) (hz : u.heap[Z]? = some (.cells #[.int .i64 m, .slice B l1 c1, .slice C l2 c2, .slice D l3 c3] t (0, 0))) (hk : ∀ g, g < u.heap.size → g ≠ Z → w.heap[g]? = u.heap[g]?) : Sl w 2 A len cap (pcells l) := by
  obtain ⟨h1, h2, h3, h4⟩ := h
  refine ⟨h1, h2, h3, fun h0 => ?_⟩
  obtain ⟨b, off, rfl, hc⟩ := h4 h0
  refine ⟨b, off, rfl, fun i hi => ?_⟩
  rw [← hc i hi]
  have hl : 0 < l.length := by rw [pcells_length] at h0; omega
  have e1 := hc 1 (by rw [pcells_length]; omega)
  have g1 := (pcells_get l 0 hl).2
  rw [show 0 * 2 + 1 = 1 from rfl] at g1
  rw [g1] at e1
  have hlt := lt_of_cell e1
  have hbz : b ≠ Z := by
    rintro rfl
    rw [cell_of_row u b (off + 1) _ t (0, 0) hz] at e1
    match off, e1 with
    | 0, e1 => simp at e1
    | 1, e1 => simp at e1
    | 2, e1 => simp at e1
    | k + 3, e1 => simp at e1
  unfold World.cell?
  rw [hk b hlt hbz]
theorem InV.apart {u w : World} {s t : Sv} {A O R B C D : Option Addr} {ca co cr c1 c2 c3 Z T : Nat} (h : InV u s A O R ca co cr) (hz : u.heap[Z]? = some (.cells (svv t B C D c1 c2 c3) T (0, 0))) (hk : ∀ g, g < u.heap.size → g ≠ Z → w.heap[g]? = u.heap[g]?) : InV w s A O R ca co cr :=
  ⟨Sl.apart h.1 hz hk, Sl.apart h.2.1 hz hk, Sl.apart h.2.2 hz hk⟩
theorem KA.apart {u w : World} {b T Z T' : Nat} {s t : Sv} {v v' : Vh} (h : KA u b T s v) (hz : KA u Z T' t v') (hne : b ≠ Z) (hk : ∀ g, g < u.heap.size → g ≠ Z → w.heap[g]? = u.heap[g]?) : KA w b T s v := ⟨(hk b (lt_of_block h.1) hne).trans h.1, h.2.apart hz.1 hk⟩
/-- Four cells are written over, and a block of two made. -/
def put42 (u : World) (P : Nat) (x0 x1 x2 x3 y0 y1 : Value) : World := ((put4 (u.alloc (.cells #[.int .i64 0, .int .i64 0] 119)) P x0 x1 x2 x3).setCell ⟨u.heap.size, 0, none⟩ y0).setCell ⟨u.heap.size, 1, none⟩ y1
theorem put42_other (u : World) (P : Nat) (x0 x1 x2 x3 y0 y1 : Value) (g : Nat) (hg : g < u.heap.size) (hp : g ≠ P) : (put42 u P x0 x1 x2 x3 y0 y1).heap[g]? = u.heap[g]? := by
  unfold put42
  rw [Below.heap_setCell _ _ _ _ (Nat.ne_of_lt hg), Below.heap_setCell _ _ _ _ (Nat.ne_of_lt hg), put4_other hp, Below.heap_alloc _ _ _ hg]
theorem put42_new (u : World) (P : Nat) (x0 x1 x2 x3 y0 y1 : Value) (hp : P < u.heap.size) : (put42 u P x0 x1 x2 x3 y0 y1).heap[u.heap.size]? = some (.cells #[y0, y1] 119 (0, 0)) := by
  have h0 : (put4 (u.alloc (.cells #[.int .i64 0, .int .i64 0] 119)) P x0 x1 x2 x3).heap[u.heap.size]? = some (.cells #[.int .i64 0, .int .i64 0] 119 (0, 0)) := (put4_other (Nat.ne_of_gt hp) _ _ _ _).trans (heap_alloc_new _ _)
  have h1 := heap_setCell_same _ u.heap.size 0 _ 119 y0 h0
  have h2 := heap_setCell_same _ u.heap.size 1 _ 119 y1 h1
  unfold put42
  rw [h2]
  rfl
theorem put42_at (u : World) (P T : Nat) (z0 z1 z2 z3 x0 x1 x2 x3 y0 y1 : Value) (hp : u.heap[P]? = some (.cells #[z0, z1, z2, z3] T (0, 0))) : (put42 u P x0 x1 x2 x3 y0 y1).heap[P]? = some (.cells #[x0, x1, x2, x3] T (0, 0)) := by
  have hl := lt_of_block hp
  unfold put42
  rw [Below.heap_setCell _ _ _ _ (Nat.ne_of_lt hl), Below.heap_setCell _ _ _ _ (Nat.ne_of_lt hl)]
  exact put4_heap ((Below.heap_alloc _ _ _ hl).trans hp) _ _ _ _
theorem put42_below {W u : World} (P : Nat) (x0 x1 x2 x3 y0 y1 : Value) (h : Below W.heap.size W u) (hp : W.heap.size ≤ P) : Below W.heap.size W (put42 u P x0 x1 x2 x3 y0 y1) := by
  unfold put42
  exact ((put4_below (h.alloc h.size _) hp _ _ _ _).setCell (p := ⟨u.heap.size, 0, none⟩) h.size _).setCell (p := ⟨u.heap.size, 1, none⟩) h.size _
theorem SD.setP2 {W w : World} {X Y P Q : Nat} {s : Sv} {n0 n1 : Int} {v2 v5 : Vh} {a b : Sv} {v7 v9 : Vh} (h : SD W w X Y P Q s n0 n1 v2 v5 a b v7 v9) (a' : Sv) (v : Vh) (hi : InV w a' v.A v.O v.R v.ca v.co v.cr) (y0 y1 : Value) {w' : World} (he : w' = put42 w P (.int .i64 a'.n) (.slice v.A a'.a.length v.ca) (.slice v.O a'.o.length v.co) (.slice v.R a'.r.length v.cr) y0 y1) : SD W w' X Y P Q s n0 n1 v2 v5 a' b v v9 ∧ w'.heap[w.heap.size]? = some (.cells #[y0, y1] 119 (0, 0)) := by
  subst he
  obtain ⟨⟨h1, h2, h3, h4, h5, h6⟩, h7, h8, h9, h10, h11⟩ := h
  have hk := put42_other w P (.int .i64 a'.n) (.slice v.A a'.a.length v.ca) (.slice v.O a'.o.length v.co) (.slice v.R a'.r.length v.cr) y0 y1
  exact ⟨⟨⟨h1.apart h5 (by omega) hk, (hk _ (lt_of_block h2) (by omega)).trans h2, h3.apart h5 (by omega) hk, (hk _ (lt_of_block h4) (by omega)).trans h4, ⟨put42_at _ _ _ _ _ _ _ _ _ _ _ _ _ h5.1, hi.apart h5.1 hk⟩, h6.apart h5 (by omega) hk⟩, put42_below _ _ _ _ _ _ _ h7 (by omega), h8, h9, h10, h11⟩, put42_new _ _ _ _ _ _ _ _ (lt_of_block h5.1)⟩
theorem SD.setQ2 {W w : World} {X Y P Q Z : Nat} {s : Sv} {n0 n1 : Int} {v2 v5 : Vh} {a b : Sv} {v7 v9 : Vh} {ob : Obj} (h : SD W w X Y P Q s n0 n1 v2 v5 a b v7 v9) (hz : w.heap[Z]? = some ob) (hzq : Z ≠ Q) (a' : Sv) (v : Vh) (hi : InV w a' v.A v.O v.R v.ca v.co v.cr) (y0 y1 : Value) {w' : World} (he : w' = put42 w Q (.int .i64 a'.n) (.slice v.A a'.a.length v.ca) (.slice v.O a'.o.length v.co) (.slice v.R a'.r.length v.cr) y0 y1) : SD W w' X Y P Q s n0 n1 v2 v5 a a' v7 v ∧ w'.heap[Z]? = some ob ∧ w'.heap[w.heap.size]? = some (.cells #[y0, y1] 119 (0, 0)) := by
  subst he
  obtain ⟨⟨h1, h2, h3, h4, h5, h6⟩, h7, h8, h9, h10, h11⟩ := h
  have hk := put42_other w Q (.int .i64 a'.n) (.slice v.A a'.a.length v.ca) (.slice v.O a'.o.length v.co) (.slice v.R a'.r.length v.cr) y0 y1
  exact ⟨⟨⟨h1.apart h6 (by omega) hk, (hk _ (lt_of_block h2) (by omega)).trans h2, h3.apart h6 (by omega) hk, (hk _ (lt_of_block h4) (by omega)).trans h4, h5.apart h6 (by omega) hk, ⟨put42_at _ _ _ _ _ _ _ _ _ _ _ _ _ h6.1, hi.apart h6.1 hk⟩⟩, put42_below _ _ _ _ _ _ _ h7 (by omega), h8, h9, h10, h11⟩, (hk _ (lt_of_block hz) hzq).trans hz, put42_new _ _ _ _ _ _ _ _ (lt_of_block h6.1)⟩
theorem SD.setQ1 {W w : World} {X Y P Q : Nat} {s : Sv} {n0 n1 : Int} {v2 v5 : Vh} {a : Sv} {v7 v9 : Vh} {n : Int} {l l' o r : List (Int × Int)} (h : SD W w X Y P Q s n0 n1 v2 v5 a ⟨n, l, o, r⟩ v7 v9) (A : Option Addr) (c : Nat) (hi : Sl w 2 A l'.length c (pcells l')) {w' : World} (he : w' = w.setCell ⟨Q, 1, none⟩ (.slice A l'.length c)) : SD W w' X Y P Q s n0 n1 v2 v5 a ⟨n, l', o, r⟩ v7 ⟨A, v9.O, v9.R, c, v9.co, v9.cr⟩ := by
  subst he
  obtain ⟨⟨h1, h2, h3, h4, h5, h6⟩, h7, h8, h9, h10, h11⟩ := h
  have hk : ∀ g, g < w.heap.size → g ≠ Q → (w.setCell ⟨Q, 1, none⟩ (.slice A l'.length c)).heap[g]? = w.heap[g]? := fun g _ hg => Below.heap_setCell _ _ _ _ hg
  have hq := heap_setCell_same w Q 1 _ 113 (.slice A l'.length c) h6.1
  exact ⟨⟨h1.apart h6 (by omega) hk, (hk _ (lt_of_block h2) (by omega)).trans h2, h3.apart h6 (by omega) hk, (hk _ (lt_of_block h4) (by omega)).trans h4, h5.apart h6 (by omega) hk, ⟨hq, Sl.apart hi h6.1 hk, Sl.apart h6.2.2.1 h6.1 hk, Sl.apart h6.2.2.2 h6.1 hk⟩⟩, h7.setCell (p := ⟨Q, 1, none⟩) (by show W.heap.size ≤ Q; omega) _, h8, h9, h10, h11⟩
theorem samV_self (s : Sv) : samV s s = true := by simp [samV]

set_option maxRecDepth 20000 in
set_option maxHeartbeats 16000000 in
theorem slotsDoes_small (s : Sv) (A O R : Option Addr) (ca co cr : Nat) (n0 n1 : Int) (W : World) (h : InV W s A O R ca co cr) (hk : OkV s) (hn : NonNeg s) (hl : s.a.length ≤ 60 ∧ s.o.length ≤ 60 ∧ s.r.length ≤ 60) :
    Calls Try.prog 11 #[.agg (svv s A O R ca co cr), .agg #[.int .i64 n0, .int .i64 n1]] W fun e w' => e = .returned (.bool true) ∧ Below W.heap.size W w' := by
  have HK := hid hk
  have HNN := hid hn
  have HI0 := hid h
  have HOF := hid (fun w h => of30_any s A O R ca co cr w h hk)
  have HCa := hid (fun (v : Vh) w h => ask_any s n0 n1 v.A v.O v.R v.ca v.co v.cr w h hk)
  have HDa := hid (fun (v : Vh) w h => rask_any s n0 n1 v.A v.O v.R v.ca v.co v.cr w h hk hn)
  have HCb := hid (fun (v : Vh) w h => none_any s n0 v.A v.O v.R v.ca v.co v.cr w h hk)
  have HDb := hid (fun (v : Vh) w h => rnone_any s n0 v.A v.O v.R v.ca v.co v.cr w h hk)
  have HCc := hid (fun (v : Vh) w h => give_any s n0 n1 v.A v.O v.R v.ca v.co v.cr w h hk)
  have HDc := hid (fun (v : Vh) w h => rgive_any s n0 n1 v.A v.O v.R v.ca v.co v.cr w h hk hn)
  have HCd := hid (fun (v : Vh) w h => next_any s v.A v.O v.R v.ca v.co v.cr w h hk)
  have HDd := hid (fun (v : Vh) w h => rnext_any s v.A v.O v.R v.ca v.co v.cr w h hk hn)
  have HCe := hid (fun (v : Vh) w h => end_any s n0 n1 v.A v.O v.R v.ca v.co v.cr w h hk)
  have HDe := hid (fun (v : Vh) w h => rend_any s n0 n1 v.A v.O v.R v.ca v.co v.cr w h hk)
  have HCf := hid (fun (v : Vh) w h => smove_any s n0 n1 v.A v.O v.R v.ca v.co v.cr w h hk)
  have HDf := hid (fun w A len cap h => rmove_any A len cap s.a n0 n1 w h)
  have HFR := hid (fun (v : Vh) w => free_any s v.A v.O v.R v.ca v.co v.cr w hk)
  have HRF := hid (fun (v : Vh) w => rfree_any s v.A v.O v.R v.ca v.co v.cr w hk hn)
  have HSS := hid (fun (t : Sv) (v v' : Vh) w (h : InV w s v.A v.O v.R v.ca v.co v.cr) (h' : InV w t v'.A v'.O v'.R v'.ca v'.co v'.cr) => ssame_any s t v.A v.O v.R v'.A v'.O v'.R v.ca v.co v.cr v'.ca v'.co v'.cr w h h')
  have HRS := hid (fun (t : Sv) (v v' : Vh) w (h : InV w s v.A v.O v.R v.ca v.co v.cr) (h' : InV w t v'.A v'.O v'.R v'.ca v'.co v'.cr) => rsame30_any s t v.A v.O v.R v'.A v'.O v'.R v.ca v.co v.cr v'.ca v'.co v'.cr w h h')
  have HSF := hid (samV_self s)
  have HML := hid (moveJ_len s.a n0 n1)
  simp only [mvV] at HCf
  generalize askV s n0 n1 = ra at *
  generalize noneV s n0 = rb at *
  generalize giveV s (n0, n1) = rc at *
  generalize nextV s = rd at *
  generalize endV s (n0, n1) = re at *
  obtain ⟨⟨na, aa, oa, ra⟩, ka⟩ := ra
  obtain ⟨⟨nb, ab, ob, rb⟩, kb⟩ := rb
  obtain ⟨⟨nc, ac, oc, rc⟩, kc⟩ := rc
  obtain ⟨⟨nd, ad, od, rd⟩, ⟨td, ud⟩, kd⟩ := rd
  obtain ⟨⟨ne, ae, oe, re⟩, ke⟩ := re
  have hn2 : ¬ s.n < 0 := by unfold NonNeg at hn; omega
  obtain ⟨n, a, o, r⟩ := s
  obtain ⟨l1, l2, l3⟩ := hl
  simp only [svv] at *
  generalize moveJ a n0 n1 = am at *
  have g1 : ¬ (60 : Int) < (a.length : Int) := by omega
  have g2 : ¬ (60 : Int) < (o.length : Int) := by omega
  have g3 : ¬ (60 : Int) < (r.length : Int) := by omega
  have d1 : decide ((60 : Int) < (a.length : Int)) = false := decide_eq_false g1
  have d2 : decide ((60 : Int) < (o.length : Int)) = false := decide_eq_false g2
  have d3 : decide ((60 : Int) < (r.length : Int)) = false := decide_eq_false g3
  have d4 : decide (n < (0 : Int)) = false := decide_eq_false hn2
  have HL1 := hid l1
  clear l1 l2 l3 hk hn h
  go_enter Try.func11, Try.ntmps11
  go_upto_region 1 with (fail)
  refine at_world (fun w => KA w W.heap.size 113 ⟨n, a, o, r⟩ ⟨A, O, R, ca, co, cr⟩ ∧ w.heap[W.heap.size + 1]? = some (.cells #[.int .i64 n0, .int .i64 n1] 114 (0, 0)) ∧ Below W.heap.size W w ∧ W.heap.size + 1 < w.heap.size) ⟨⟨heap_first _ _ _, HI0.out.below (below2 _ _ _)⟩, heap_second _ _ _, below2 _ _ _, by simp⟩ ?_
  rintro w0 ⟨k2, k3, hb0, hz0⟩
  obtain ⟨⟨p0, p1, p2, p3⟩, _⟩ := KA.cells k2
  have K2 := hid k2
  have K3 := hid k3
  have HB0 := hid hb0
  have HZ0 := hid hz0
  clear k2 k3 hb0 hz0
  go_upto_region 3 with (fail)
  go_wp2_with fail
  refine (HOF.out w0 K2.out.2).mono ?_
  rintro e w1 ⟨A5, O5, R5, ca5, co5, cr5, rfl, hi5, hb1⟩
  replace K2 := hid (K2.out.keep hb1)
  replace K3 := hid (keep0 K3.out hb1)
  have HB1 := hid (HB0.out.trans (hb1.mono HB0.out.size))
  have HZ1 := hid (Nat.lt_of_lt_of_le HZ0.out hb1.size)
  have HI5 := hid hi5
  clear HOF HB0 HZ0 hi5 hb1 p0 p1 p2 p3 g1 g2 g3 d1 d2 d3 d4 HI0
  go_upto_region 4 with (fail)
  refine at_world (fun w => KA w W.heap.size 113 ⟨n, a, o, r⟩ ⟨A, O, R, ca, co, cr⟩ ∧ w.heap[W.heap.size + 1]? = some (.cells #[.int .i64 n0, .int .i64 n1] 114 (0, 0)) ∧ KA w w1.heap.size 116 ⟨n, a, o, r⟩ ⟨A5, O5, R5, ca5, co5, cr5⟩ ∧ Below W.heap.size W w ∧ w1.heap.size < w.heap.size) (by
    have hb : ∀ o, Below w1.heap.size w1 (w1.alloc o) := fun o => (Below.refl _ _).alloc (Nat.le_refl _) _
    exact ⟨K2.out.keep (hb _), keep0 K3.out (hb _), ⟨heap_alloc_new _ _, HI5.out.below (hb _)⟩, HB1.out.alloc HB1.out.size _, by simp⟩) ?_
  have HX := HZ1.out
  generalize w1.heap.size = X at *
  clear HB1 HZ1 HI5 K2 K3
  obtain ⟨v5, hv5⟩ : ∃ v : Vh, v = ⟨A5, O5, R5, ca5, co5, cr5⟩ := ⟨_, rfl⟩
  rw [← hv5]
  clear hv5
  rintro w2 ⟨k2, k3, k5, hb2, hz2⟩
  have K2 := hid k2
  have K3 := hid k3
  have K5 := hid k5
  have HB2 := hid hb2
  have HZ2 := hid hz2
  obtain ⟨y0, y1, _, _⟩ := two_cells k3
  clear k2 k3 k5 hb2 hz2
  go_upto_region 5 with (fail)
  refine at_world (fun w => KA w W.heap.size 113 ⟨n, a, o, r⟩ ⟨A, O, R, ca, co, cr⟩ ∧ w.heap[W.heap.size + 1]? = some (.cells #[.int .i64 n0, .int .i64 n1] 114 (0, 0)) ∧ KA w X 116 ⟨n, a, o, r⟩ v5 ∧ w.heap[w2.heap.size]? = some (.cells #[.int .i64 n0, .int .i64 n1] 119 (0, 0)) ∧ Below W.heap.size W w ∧ w2.heap.size < w.heap.size) (by
    have hb : ∀ o, Below w2.heap.size w2 (w2.alloc o) := fun o => (Below.refl _ _).alloc (Nat.le_refl _) _
    exact ⟨K2.out.keep (hb _), keep0 K3.out (hb _), K5.out.keep (hb _), heap_alloc_new _ _, HB2.out.alloc HB2.out.size _, by simp⟩) ?_
  have HY := HZ2.out
  generalize w2.heap.size = Y at *
  clear HB2 HZ2 K2 K3 K5 y0 y1
  rintro w3 ⟨k2, k3, k5, k6, hb3, hz3⟩
  have K2 := hid k2
  have K3 := hid k3
  have K5 := hid k5
  have K6 := hid k6
  have HB3 := hid hb3
  have HZ3 := hid hz3
  obtain ⟨y0, y1, _, _⟩ := two_cells k3
  obtain ⟨⟨p0, p1, p2, p3⟩, _⟩ := KA.cells k5
  clear k2 k3 k5 k6 hb3 hz3
  go_wp2_with fail
  refine (HCa.out v5 w3 K5.out.2).mono ?_
  rintro e w4 ⟨A7, O7, R7, ca7, co7, cr7, rfl, ho7, hb4⟩
  replace K2 := hid (K2.out.keep hb4)
  replace K3 := hid (keep0 K3.out hb4)
  replace K5 := hid (K5.out.keep hb4)
  replace K6 := hid (keep0 K6.out hb4)
  replace HB3 := hid (HB3.out.trans (hb4.mono HB3.out.size))
  replace HZ3 := hid (Nat.lt_of_lt_of_le HZ3.out hb4.size)
  have HI7 := hid ho7.inV
  clear ho7 hb4 HCa y0 y1 p0 p1 p2 p3
  go_upto_region 6 with (fail)
  refine at_world (fun w => KA w W.heap.size 113 ⟨n, a, o, r⟩ ⟨A, O, R, ca, co, cr⟩ ∧ w.heap[W.heap.size + 1]? = some (.cells #[.int .i64 n0, .int .i64 n1] 114 (0, 0)) ∧ KA w X 116 ⟨n, a, o, r⟩ v5 ∧ w.heap[Y]? = some (.cells #[.int .i64 n0, .int .i64 n1] 119 (0, 0)) ∧ KA w w4.heap.size 116 ⟨na, aa, oa, ra⟩ ⟨A7, O7, R7, ca7, co7, cr7⟩ ∧ Below W.heap.size W w ∧ w4.heap.size < w.heap.size) (by
    have hb : ∀ o, Below w4.heap.size w4 (w4.alloc o) := fun o => (Below.refl _ _).alloc (Nat.le_refl _) _
    exact ⟨K2.out.keep (hb _), keep0 K3.out (hb _), K5.out.keep (hb _), keep0 K6.out (hb _), ⟨heap_alloc_new _ _, HI7.out.below (hb _)⟩, HB3.out.alloc HB3.out.size _, by simp⟩) ?_
  have HP := HZ3.out
  generalize w4.heap.size = P at *
  clear HB3 HZ3 HI7 K2 K3 K5 K6
  obtain ⟨v7, hv7⟩ : ∃ v : Vh, v = ⟨A7, O7, R7, ca7, co7, cr7⟩ := ⟨_, rfl⟩
  rw [← hv7]
  clear hv7
  rintro w5 ⟨k2, k3, k5, k6, k7, hb5, hz5⟩
  have K2 := hid k2
  have K3 := hid k3
  have K5 := hid k5
  have K6 := hid k6
  have K7 := hid k7
  have HB5 := hid hb5
  have HZ5 := hid hz5
  obtain ⟨y0, y1, _, _⟩ := two_cells k3
  obtain ⟨⟨p0, p1, p2, p3⟩, _⟩ := KA.cells k2
  clear k2 k3 k5 k6 k7 hb5 hz5
  go_wp2_with fail
  refine (HDa.out ⟨A, O, R, ca, co, cr⟩ w5 K2.out.2).mono ?_
  rintro e w6 ⟨A9, O9, R9, ca9, co9, cr9, rfl, ho9, hb6⟩
  replace K2 := hid (K2.out.keep hb6)
  replace K3 := hid (keep0 K3.out hb6)
  replace K5 := hid (K5.out.keep hb6)
  replace K6 := hid (keep0 K6.out hb6)
  replace K7 := hid (K7.out.keep hb6)
  replace HB5 := hid (HB5.out.trans (hb6.mono HB5.out.size))
  replace HZ5 := hid (Nat.lt_of_lt_of_le HZ5.out hb6.size)
  have HI9 := hid ho9
  clear ho9 hb6 HDa y0 y1 p0 p1 p2 p3
  go_upto_region 7 with (fail)
  refine at_world (fun w => SD W w X Y P w6.heap.size ⟨n, a, o, r⟩ n0 n1 ⟨A, O, R, ca, co, cr⟩ v5 ⟨na, aa, oa, ra⟩ ⟨na, aa, oa, ra⟩ v7 ⟨A9, O9, R9, ca9, co9, cr9⟩) (by
    have hb : ∀ o, Below w6.heap.size w6 (w6.alloc o) := fun o => (Below.refl _ _).alloc (Nat.le_refl _) _
    exact ⟨⟨K2.out.keep (hb _), keep0 K3.out (hb _), K5.out.keep (hb _), keep0 K6.out (hb _), K7.out.keep (hb _), ⟨heap_alloc_new _ _, HI9.out.below (hb _)⟩⟩, HB5.out.alloc HB5.out.size _, HX, HY, HP, HZ5.out⟩) ?_
  generalize w6.heap.size = Q at *
  clear HB5 HZ5 HI9 K2 K3 K5 K6 K7 HX HY HP
  obtain ⟨v9, hv9⟩ : ∃ v : Vh, v = ⟨A9, O9, R9, ca9, co9, cr9⟩ := ⟨_, rfl⟩
  rw [← hv9]
  clear hv9
  obtain ⟨v2, hv2⟩ : ∃ v : Vh, v = ⟨A, O, R, ca, co, cr⟩ := ⟨_, rfl⟩
  rw [← hv2]
  clear hv2
  rintro w7 hs
  have H := hid hs
  clear hs
  obtain ⟨⟨a0, a1, a2, a3⟩, _⟩ := KA.cells H.out.1.1
  obtain ⟨⟨b0, b1, b2, b3⟩, _⟩ := KA.cells H.out.1.2.2.1
  obtain ⟨⟨c0, c1, c2, c3⟩, fc0, fc1, fc2, fc3⟩ := KA.cells H.out.1.2.2.2.2.1
  obtain ⟨⟨e0, e1, e2, e3⟩, fe0, fe1, fe2, fe3⟩ := KA.cells H.out.1.2.2.2.2.2
  have cI := reg (w := w7) (fun W' hW => by
    have hI := is30_any ⟨na, aa, oa, ra⟩ ⟨na, aa, oa, ra⟩ v7.A v7.O v7.R v9.A v9.O v9.R v7.ca v7.co v7.cr v9.ca v9.co v9.cr W' (H.out.1.2.2.2.2.1.2.below hW) (H.out.1.2.2.2.2.2.2.below hW)
    rw [samV_self] at hI
    exact hI)
  have cF := reg (w := w7) (fun W' _ => HFR.out v5 W')
  have cG := reg (w := w7) (fun W' _ => HRF.out v2 W')
  simp only [svv] at cI
  have ek : (ka == ka) = true := by simp
  generalize freeV ⟨n, a, o, r⟩ = fv at cF cG
  have ef : (fv == fv) = true := by simp
  clear fc0 fc1 fc2 fc3 fe0 fe1 fe2 fe3
  replace a0 := cell_regrown a0
  replace a1 := cell_regrown a1
  replace a2 := cell_regrown a2
  replace a3 := cell_regrown a3
  replace b0 := cell_regrown b0
  replace b1 := cell_regrown b1
  replace b2 := cell_regrown b2
  replace b3 := cell_regrown b3
  replace c0 := cell_regrown c0
  replace c1 := cell_regrown c1
  replace c2 := cell_regrown c2
  replace c3 := cell_regrown c3
  replace e0 := cell_regrown e0
  replace e1 := cell_regrown e1
  replace e2 := cell_regrown e2
  replace e3 := cell_regrown e3
  refine wp_region_quiet_below (by kernel_rfl) (by kernel_rfl) ?_
  repeat (go_big_quiet_step (first | (go_at_call 80; with_reducible exact cI _ _) | (go_at_call 81; with_reducible exact cF _ _) | (go_at_call 82; with_reducible exact cG _ _)))
  refine wpQuiet_nil ?_
  intro _ hw'
  obtain ⟨⟨dq, osq⟩, hw''⟩ := hw'
  subst hw''
  replace H := hid (H.out.keep (below_regrown w7 dq osq))
  clear a0 a1 a2 a3 b0 b1 b2 b3 c0 c1 c2 c3 e0 e1 e2 e3 cI cF cG
  clear HFR HRF ek ef
  go_upto_region 8 with (fail)
  refine at_world (fun w => SD W w X Y P Q ⟨n, a, o, r⟩ n0 n1 v2 v5 ⟨na, aa, oa, ra⟩ ⟨na, aa, oa, ra⟩ v7 v9) H.out ?_
  clear H
  rintro w8 hs
  have H := hid hs
  clear hs
  obtain ⟨⟨b0, b1, b2, b3⟩, _⟩ := KA.cells H.out.1.2.2.1
  obtain ⟨y0, y1, _, _⟩ := two_cells H.out.1.2.1
  go_wp2_with fail
  refine (HCb.out v5 w8 H.out.1.2.2.1.2).mono ?_
  rintro e u ⟨A1, O1, R1, ca1, co1, cr1, rfl, ho, hb⟩
  replace H := hid (H.out.keep hb)
  have HI := hid ho.inV
  clear ho hb b0 b1 b2 b3 y0 y1
  obtain ⟨⟨c0, c1, c2, c3⟩, fc0, fc1, fc2, fc3⟩ := KA.cells H.out.1.2.2.2.2.1
  go_upto_region 9 with (fail)
  refine at_world (fun w => SD W w X Y P Q ⟨n, a, o, r⟩ n0 n1 v2 v5 ⟨nb, ab, ob, rb⟩ ⟨na, aa, oa, ra⟩ ⟨A1, O1, R1, ca1, co1, cr1⟩ v9) (H.out.setP ⟨nb, ab, ob, rb⟩ ⟨A1, O1, R1, ca1, co1, cr1⟩ HI.out rfl) ?_
  clear c0 c1 c2 c3 fc0 fc1 fc2 fc3 HI
  clear H
  rintro w9 hs
  have H := hid hs
  clear hs
  obtain ⟨vpb, hv⟩ : ∃ v : Vh, v = ⟨A1, O1, R1, ca1, co1, cr1⟩ := ⟨_, rfl⟩
  rw [← hv] at H
  clear hv
  obtain ⟨⟨a0, a1, a2, a3⟩, _⟩ := KA.cells H.out.1.1
  obtain ⟨y0, y1, _, _⟩ := two_cells H.out.1.2.1
  go_wp2_with fail
  refine (HDb.out v2 w9 H.out.1.1.2).mono ?_
  rintro e u ⟨A1, O1, R1, ca1, co1, cr1, rfl, ho, hb⟩
  replace H := hid (H.out.keep hb)
  have HI := hid ho
  clear ho hb a0 a1 a2 a3 y0 y1
  obtain ⟨⟨e0, e1, e2, e3⟩, fe0, fe1, fe2, fe3⟩ := KA.cells H.out.1.2.2.2.2.2
  go_upto_region 10 with (fail)
  refine at_world (fun w => SD W w X Y P Q ⟨n, a, o, r⟩ n0 n1 v2 v5 ⟨nb, ab, ob, rb⟩ ⟨nb, ab, ob, rb⟩ vpb ⟨A1, O1, R1, ca1, co1, cr1⟩) (H.out.setQ ⟨nb, ab, ob, rb⟩ ⟨A1, O1, R1, ca1, co1, cr1⟩ HI.out rfl) ?_
  clear e0 e1 e2 e3 fe0 fe1 fe2 fe3 HI
  clear H
  rintro w10 hs
  have H := hid hs
  clear hs
  obtain ⟨vqb, hv⟩ : ∃ v : Vh, v = ⟨A1, O1, R1, ca1, co1, cr1⟩ := ⟨_, rfl⟩
  rw [← hv] at H
  clear hv
  obtain ⟨⟨c0, c1, c2, c3⟩, fc0, fc1, fc2, fc3⟩ := KA.cells H.out.1.2.2.2.2.1
  obtain ⟨⟨e0, e1, e2, e3⟩, fe0, fe1, fe2, fe3⟩ := KA.cells H.out.1.2.2.2.2.2
  clear fc0 fc1 fc2 fc3 fe0 fe1 fe2 fe3
  have HQ := is30_any ⟨nb, ab, ob, rb⟩ ⟨nb, ab, ob, rb⟩ vpb.A vpb.O vpb.R vqb.A vqb.O vqb.R vpb.ca vpb.co vpb.cr vqb.ca vqb.co vqb.cr w10 H.out.1.2.2.2.2.1.2 H.out.1.2.2.2.2.2.2
  rw [samV_self] at HQ
  simp only [svv] at HQ
  replace HQ := hid HQ
  have ek : (kb == kb) = true := by simp
  go_wp2_with fail
  refine HQ.out.mono ?_
  rintro e u ⟨rfl, hb⟩
  replace H := hid (H.out.keep hb)
  clear hb HQ c0 c1 c2 c3 e0 e1 e2 e3
  go_upto_region 11 with (fail)
  refine at_world (fun w => SD W w X Y P Q ⟨n, a, o, r⟩ n0 n1 v2 v5 ⟨nb, ab, ob, rb⟩ ⟨nb, ab, ob, rb⟩ vpb vqb) H.out ?_
  clear H
  rintro w11 hs
  have H := hid hs
  clear hs
  clear ek
  obtain ⟨⟨b0, b1, b2, b3⟩, _⟩ := KA.cells H.out.1.2.2.1
  obtain ⟨z0, z1, _, _⟩ := two_cells H.out.1.2.2.2.1
  go_wp2_with fail
  refine (HCc.out v5 w11 H.out.1.2.2.1.2).mono ?_
  rintro e u ⟨A1, O1, R1, ca1, co1, cr1, rfl, ho, hb⟩
  replace H := hid (H.out.keep hb)
  have HI := hid ho.inV
  clear ho hb b0 b1 b2 b3 z0 z1
  obtain ⟨⟨c0, c1, c2, c3⟩, fc0, fc1, fc2, fc3⟩ := KA.cells H.out.1.2.2.2.2.1
  go_upto_region 12 with (fail)
  refine at_world (fun w => SD W w X Y P Q ⟨n, a, o, r⟩ n0 n1 v2 v5 ⟨nc, ac, oc, rc⟩ ⟨nb, ab, ob, rb⟩ ⟨A1, O1, R1, ca1, co1, cr1⟩ vqb) (H.out.setP ⟨nc, ac, oc, rc⟩ ⟨A1, O1, R1, ca1, co1, cr1⟩ HI.out rfl) ?_
  clear c0 c1 c2 c3 fc0 fc1 fc2 fc3 HI
  clear H
  rintro w12 hs
  have H := hid hs
  clear hs
  obtain ⟨vpc, hv⟩ : ∃ v : Vh, v = ⟨A1, O1, R1, ca1, co1, cr1⟩ := ⟨_, rfl⟩
  rw [← hv] at H
  clear hv
  obtain ⟨⟨a0, a1, a2, a3⟩, _⟩ := KA.cells H.out.1.1
  obtain ⟨z0, z1, _, _⟩ := two_cells H.out.1.2.2.2.1
  go_wp2_with fail
  refine (HDc.out v2 w12 H.out.1.1.2).mono ?_
  rintro e u ⟨A1, O1, R1, ca1, co1, cr1, rfl, ho, hb⟩
  replace H := hid (H.out.keep hb)
  have HI := hid ho
  clear ho hb a0 a1 a2 a3 z0 z1
  obtain ⟨⟨e0, e1, e2, e3⟩, fe0, fe1, fe2, fe3⟩ := KA.cells H.out.1.2.2.2.2.2
  go_upto_region 13 with (fail)
  refine at_world (fun w => SD W w X Y P Q ⟨n, a, o, r⟩ n0 n1 v2 v5 ⟨nc, ac, oc, rc⟩ ⟨nc, ac, oc, rc⟩ vpc ⟨A1, O1, R1, ca1, co1, cr1⟩) (H.out.setQ ⟨nc, ac, oc, rc⟩ ⟨A1, O1, R1, ca1, co1, cr1⟩ HI.out rfl) ?_
  clear e0 e1 e2 e3 fe0 fe1 fe2 fe3 HI
  clear H
  rintro w13 hs
  have H := hid hs
  clear hs
  obtain ⟨vqc, hv⟩ : ∃ v : Vh, v = ⟨A1, O1, R1, ca1, co1, cr1⟩ := ⟨_, rfl⟩
  rw [← hv] at H
  clear hv
  obtain ⟨⟨a0, a1, a2, a3⟩, _⟩ := KA.cells H.out.1.1
  obtain ⟨⟨b0, b1, b2, b3⟩, _⟩ := KA.cells H.out.1.2.2.1
  obtain ⟨⟨c0, c1, c2, c3⟩, fc0, fc1, fc2, fc3⟩ := KA.cells H.out.1.2.2.2.2.1
  obtain ⟨⟨e0, e1, e2, e3⟩, fe0, fe1, fe2, fe3⟩ := KA.cells H.out.1.2.2.2.2.2
  have cI := reg (w := w13) (fun W' hW => by
    have hI := is30_any ⟨nc, ac, oc, rc⟩ ⟨nc, ac, oc, rc⟩ vpc.A vpc.O vpc.R vqc.A vqc.O vqc.R vpc.ca vpc.co vpc.cr vqc.ca vqc.co vqc.cr W' (H.out.1.2.2.2.2.1.2.below hW) (H.out.1.2.2.2.2.2.2.below hW)
    rw [samV_self] at hI
    exact hI)
  have cF := reg (w := w13) (fun W' hW => HSS.out ⟨nc, ac, oc, rc⟩ v5 vpc W' (H.out.1.2.2.1.2.below hW) (H.out.1.2.2.2.2.1.2.below hW))
  have cG := reg (w := w13) (fun W' hW => HRS.out ⟨nc, ac, oc, rc⟩ v2 vqc W' (H.out.1.1.2.below hW) (H.out.1.2.2.2.2.2.2.below hW))
  simp only [svv] at cI cF cG
  have ek : (kc == kc) = true := by simp
  generalize samV ⟨n, a, o, r⟩ ⟨nc, ac, oc, rc⟩ = fv at cF cG
  have ef : (fv == fv) = true := by simp
  clear fc0 fc1 fc2 fc3 fe0 fe1 fe2 fe3
  replace a0 := cell_regrown a0
  replace a1 := cell_regrown a1
  replace a2 := cell_regrown a2
  replace a3 := cell_regrown a3
  replace b0 := cell_regrown b0
  replace b1 := cell_regrown b1
  replace b2 := cell_regrown b2
  replace b3 := cell_regrown b3
  replace c0 := cell_regrown c0
  replace c1 := cell_regrown c1
  replace c2 := cell_regrown c2
  replace c3 := cell_regrown c3
  replace e0 := cell_regrown e0
  replace e1 := cell_regrown e1
  replace e2 := cell_regrown e2
  replace e3 := cell_regrown e3
  refine wp_region_quiet_below (by kernel_rfl) (by kernel_rfl) ?_
  repeat (go_big_quiet_step (first | (go_at_call 80; with_reducible exact cI _ _) | (go_at_call 87; with_reducible exact cF _ _) | (go_at_call 88; with_reducible exact cG _ _)))
  refine wpQuiet_nil ?_
  intro _ hw'
  obtain ⟨⟨dq, osq⟩, hw''⟩ := hw'
  subst hw''
  replace H := hid (H.out.keep (below_regrown w13 dq osq))
  clear a0 a1 a2 a3 b0 b1 b2 b3 c0 c1 c2 c3 e0 e1 e2 e3 cI cF cG
  clear ek ef HRS
  go_upto_region 14 with (fail)
  refine at_world (fun w => SD W w X Y P Q ⟨n, a, o, r⟩ n0 n1 v2 v5 ⟨nc, ac, oc, rc⟩ ⟨nc, ac, oc, rc⟩ vpc vqc) H.out ?_
  clear H
  rintro w14 hs
  have H := hid hs
  clear hs
  obtain ⟨⟨b0, b1, b2, b3⟩, _⟩ := KA.cells H.out.1.2.2.1
  go_wp2_with fail
  refine (HCd.out v5 w14 H.out.1.2.2.1.2).mono ?_
  rintro e u ⟨A1, O1, R1, ca1, co1, cr1, rfl, ho, hb⟩
  replace H := hid (H.out.keep hb)
  have HI := hid ho.inV
  clear ho hb b0 b1 b2 b3
  have HQ := hid (fun (ob : Obj) => KA.cells ((H.out.1.2.2.2.2.1).keep ((Below.refl _ _).alloc (Nat.le_refl _) ob)))
  have hne1 : ¬ (P = u.heap.size) := Nat.ne_of_lt (lt_of_block (H.out.1.2.2.2.2.1).1)
  have hne2 : ¬ (u.heap.size = P) := fun e => hne1 e.symm
  have c0 := fun ob => (HQ.out ob).1.1
  have c1 := fun ob => (HQ.out ob).1.2.1
  have c2 := fun ob => (HQ.out ob).1.2.2.1
  have c3 := fun ob => (HQ.out ob).1.2.2.2
  have fc0 := fun ob => (HQ.out ob).2.1
  have fc1 := fun ob => (HQ.out ob).2.2.1
  have fc2 := fun ob => (HQ.out ob).2.2.2.1
  have fc3 := fun ob => (HQ.out ob).2.2.2.2
  go_upto_region 15 with (fail)
  refine at_world (fun w => SD W w X Y P Q ⟨n, a, o, r⟩ n0 n1 v2 v5 ⟨nd, ad, od, rd⟩ ⟨nc, ac, oc, rc⟩ ⟨A1, O1, R1, ca1, co1, cr1⟩ vqc ∧ w.heap[u.heap.size]? = some (.cells #[.int .i64 td, .int .i64 ud] 119 (0, 0))) (H.out.setP2 ⟨nd, ad, od, rd⟩ ⟨A1, O1, R1, ca1, co1, cr1⟩ HI.out _ _ rfl) ?_
  have HZQ : Hid (u.heap.size ≠ Q) := hid (Nat.ne_of_gt (lt_of_block H.out.1.2.2.2.2.2.1))
  clear c0 c1 c2 c3 fc0 fc1 fc2 fc3 hne1 hne2 HQ HI H
  generalize u.heap.size = Z at *
  rintro w15 ⟨hs, hz⟩
  have H := hid hs
  have HZ := hid hz
  clear hs hz
  obtain ⟨vpd, hv⟩ : ∃ v : Vh, v = ⟨A1, O1, R1, ca1, co1, cr1⟩ := ⟨_, rfl⟩
  rw [← hv] at H
  clear hv
  obtain ⟨⟨a0, a1, a2, a3⟩, _⟩ := KA.cells H.out.1.1
  go_wp2_with fail
  refine (HDd.out v2 w15 H.out.1.1.2).mono ?_
  rintro e u ⟨A1, O1, R1, ca1, co1, cr1, rfl, ho, hb⟩
  replace H := hid (H.out.keep hb)
  replace HZ := hid (keep0 HZ.out hb)
  have HI := hid ho
  clear ho hb a0 a1 a2 a3
  have HQ := hid (fun (ob : Obj) => KA.cells ((H.out.1.2.2.2.2.2).keep ((Below.refl _ _).alloc (Nat.le_refl _) ob)))
  have hne1 : ¬ (Q = u.heap.size) := Nat.ne_of_lt (lt_of_block (H.out.1.2.2.2.2.2).1)
  have hne2 : ¬ (u.heap.size = Q) := fun e => hne1 e.symm
  have c0 := fun ob => (HQ.out ob).1.1
  have c1 := fun ob => (HQ.out ob).1.2.1
  have c2 := fun ob => (HQ.out ob).1.2.2.1
  have c3 := fun ob => (HQ.out ob).1.2.2.2
  have fc0 := fun ob => (HQ.out ob).2.1
  have fc1 := fun ob => (HQ.out ob).2.2.1
  have fc2 := fun ob => (HQ.out ob).2.2.2.1
  have fc3 := fun ob => (HQ.out ob).2.2.2.2
  go_upto_region 16 with (fail)
  refine at_world (fun w => SD W w X Y P Q ⟨n, a, o, r⟩ n0 n1 v2 v5 ⟨nd, ad, od, rd⟩ ⟨nd, ad, od, rd⟩ vpd ⟨A1, O1, R1, ca1, co1, cr1⟩ ∧ w.heap[Z]? = some (.cells #[.int .i64 td, .int .i64 ud] 119 (0, 0)) ∧ w.heap[u.heap.size]? = some (.cells #[.int .i64 td, .int .i64 ud] 119 (0, 0))) (H.out.setQ2 HZ.out HZQ.out ⟨nd, ad, od, rd⟩ ⟨A1, O1, R1, ca1, co1, cr1⟩ HI.out _ _ rfl) ?_
  clear c0 c1 c2 c3 fc0 fc1 fc2 fc3 hne1 hne2 HQ HI H HZ
  generalize u.heap.size = Z2 at *
  rintro w16 ⟨hs, hz, hz2⟩
  have H := hid hs
  have HZ := hid hz
  have HZ2 := hid hz2
  clear hs hz hz2
  obtain ⟨vqd, hv⟩ : ∃ v : Vh, v = ⟨A1, O1, R1, ca1, co1, cr1⟩ := ⟨_, rfl⟩
  rw [← hv] at H
  clear hv
  obtain ⟨⟨c0, c1, c2, c3⟩, fc0, fc1, fc2, fc3⟩ := KA.cells H.out.1.2.2.2.2.1
  obtain ⟨⟨e0, e1, e2, e3⟩, fe0, fe1, fe2, fe3⟩ := KA.cells H.out.1.2.2.2.2.2
  clear fc0 fc1 fc2 fc3 fe0 fe1 fe2 fe3
  have HQ := is30_any ⟨nd, ad, od, rd⟩ ⟨nd, ad, od, rd⟩ vpd.A vpd.O vpd.R vqd.A vqd.O vqd.R vpd.ca vpd.co vpd.cr vqd.ca vqd.co vqd.cr w16 H.out.1.2.2.2.2.1.2 H.out.1.2.2.2.2.2.2
  rw [samV_self] at HQ
  simp only [svv] at HQ
  replace HQ := hid HQ
  have ek : (kd == kd) = true := by simp
  have et : ((td == td) && (ud == ud)) = true := by simp
  go_wp2_with fail
  refine HQ.out.mono ?_
  rintro e u ⟨rfl, hb⟩
  replace H := hid (H.out.keep hb)
  obtain ⟨y0, y1, _, _⟩ := two_cells (keep0 HZ.out hb)
  obtain ⟨y2, y3, _, _⟩ := two_cells (keep0 HZ2.out hb)
  clear hb HQ HZ HZ2 c0 c1 c2 c3 e0 e1 e2 e3
  go_upto_region 17 with (fail)
  refine at_world (fun w => SD W w X Y P Q ⟨n, a, o, r⟩ n0 n1 v2 v5 ⟨nd, ad, od, rd⟩ ⟨nd, ad, od, rd⟩ vpd vqd) H.out ?_
  clear y0 y1 y2 y3
  clear H
  rintro w17 hs
  have H := hid hs
  clear hs
  clear ek et
  obtain ⟨⟨b0, b1, b2, b3⟩, _⟩ := KA.cells H.out.1.2.2.1
  obtain ⟨z0, z1, _, _⟩ := two_cells H.out.1.2.2.2.1
  go_wp2_with fail
  refine (HCe.out v5 w17 H.out.1.2.2.1.2).mono ?_
  rintro e u ⟨A1, O1, R1, ca1, co1, cr1, rfl, ho, hb⟩
  replace H := hid (H.out.keep hb)
  have HI := hid ho.inV
  clear ho hb b0 b1 b2 b3 z0 z1
  obtain ⟨⟨c0, c1, c2, c3⟩, fc0, fc1, fc2, fc3⟩ := KA.cells H.out.1.2.2.2.2.1
  go_upto_region 18 with (fail)
  refine at_world (fun w => SD W w X Y P Q ⟨n, a, o, r⟩ n0 n1 v2 v5 ⟨ne, ae, oe, re⟩ ⟨nd, ad, od, rd⟩ ⟨A1, O1, R1, ca1, co1, cr1⟩ vqd) (H.out.setP ⟨ne, ae, oe, re⟩ ⟨A1, O1, R1, ca1, co1, cr1⟩ HI.out rfl) ?_
  clear c0 c1 c2 c3 fc0 fc1 fc2 fc3 HI
  clear H
  rintro w18 hs
  have H := hid hs
  clear hs
  obtain ⟨vpe, hv⟩ : ∃ v : Vh, v = ⟨A1, O1, R1, ca1, co1, cr1⟩ := ⟨_, rfl⟩
  rw [← hv] at H
  clear hv
  obtain ⟨⟨a0, a1, a2, a3⟩, _⟩ := KA.cells H.out.1.1
  obtain ⟨z0, z1, _, _⟩ := two_cells H.out.1.2.2.2.1
  go_wp2_with fail
  refine (HDe.out v2 w18 H.out.1.1.2).mono ?_
  rintro e u ⟨A1, O1, R1, ca1, co1, cr1, rfl, ho, hb⟩
  replace H := hid (H.out.keep hb)
  have HI := hid ho
  clear ho hb a0 a1 a2 a3 z0 z1
  obtain ⟨⟨e0, e1, e2, e3⟩, fe0, fe1, fe2, fe3⟩ := KA.cells H.out.1.2.2.2.2.2
  go_upto_region 19 with (fail)
  refine at_world (fun w => SD W w X Y P Q ⟨n, a, o, r⟩ n0 n1 v2 v5 ⟨ne, ae, oe, re⟩ ⟨ne, ae, oe, re⟩ vpe ⟨A1, O1, R1, ca1, co1, cr1⟩) (H.out.setQ ⟨ne, ae, oe, re⟩ ⟨A1, O1, R1, ca1, co1, cr1⟩ HI.out rfl) ?_
  clear e0 e1 e2 e3 fe0 fe1 fe2 fe3 HI
  clear H
  rintro w19 hs
  have H := hid hs
  clear hs
  obtain ⟨vqe, hv⟩ : ∃ v : Vh, v = ⟨A1, O1, R1, ca1, co1, cr1⟩ := ⟨_, rfl⟩
  rw [← hv] at H
  clear hv
  obtain ⟨⟨c0, c1, c2, c3⟩, fc0, fc1, fc2, fc3⟩ := KA.cells H.out.1.2.2.2.2.1
  obtain ⟨⟨e0, e1, e2, e3⟩, fe0, fe1, fe2, fe3⟩ := KA.cells H.out.1.2.2.2.2.2
  clear fc0 fc1 fc2 fc3 fe0 fe1 fe2 fe3
  have HQ := is30_any ⟨ne, ae, oe, re⟩ ⟨ne, ae, oe, re⟩ vpe.A vpe.O vpe.R vqe.A vqe.O vqe.R vpe.ca vpe.co vpe.cr vqe.ca vqe.co vqe.cr w19 H.out.1.2.2.2.2.1.2 H.out.1.2.2.2.2.2.2
  rw [samV_self] at HQ
  simp only [svv] at HQ
  replace HQ := hid HQ
  have ek : (ke == ke) = true := by simp
  go_wp2_with fail
  refine HQ.out.mono ?_
  rintro e u ⟨rfl, hb⟩
  replace H := hid (H.out.keep hb)
  clear hb HQ c0 c1 c2 c3 e0 e1 e2 e3
  go_upto_region 20 with (fail)
  refine at_world (fun w => SD W w X Y P Q ⟨n, a, o, r⟩ n0 n1 v2 v5 ⟨ne, ae, oe, re⟩ ⟨ne, ae, oe, re⟩ vpe vqe) H.out ?_
  clear H
  rintro w20 hs
  have H := hid hs
  clear hs
  clear ek
  obtain ⟨⟨b0, b1, b2, b3⟩, _⟩ := KA.cells H.out.1.2.2.1
  obtain ⟨y0, y1, _, _⟩ := two_cells H.out.1.2.1
  go_wp2_with fail
  refine (HCf.out v5 w20 H.out.1.2.2.1.2).mono ?_
  rintro e u ⟨A1, O1, R1, ca1, co1, cr1, rfl, ho, hb⟩
  replace H := hid (H.out.keep hb)
  have HI := hid ho.inV
  clear ho hb b0 b1 b2 b3 y0 y1
  obtain ⟨⟨c0, c1, c2, c3⟩, fc0, fc1, fc2, fc3⟩ := KA.cells H.out.1.2.2.2.2.1
  go_upto_region 21 with (fail)
  refine at_world (fun w => SD W w X Y P Q ⟨n, a, o, r⟩ n0 n1 v2 v5 ⟨n, am, o, r⟩ ⟨ne, ae, oe, re⟩ ⟨A1, O1, R1, ca1, co1, cr1⟩ vqe) (H.out.setP ⟨n, am, o, r⟩ ⟨A1, O1, R1, ca1, co1, cr1⟩ HI.out rfl) ?_
  clear c0 c1 c2 c3 fc0 fc1 fc2 fc3 HI
  clear H
  rintro w21 hs
  have H := hid hs
  clear hs
  obtain ⟨vpf, hv⟩ : ∃ v : Vh, v = ⟨A1, O1, R1, ca1, co1, cr1⟩ := ⟨_, rfl⟩
  rw [← hv] at H
  clear hv
  obtain ⟨⟨a0, a1, a2, a3⟩, _⟩ := KA.cells H.out.1.1
  obtain ⟨⟨e0, e1, e2, e3⟩, fe0, fe1, fe2, fe3⟩ := KA.cells H.out.1.2.2.2.2.2
  go_upto_region 22 with (fail)
  refine at_world (fun w => SD W w X Y P Q ⟨n, a, o, r⟩ n0 n1 v2 v5 ⟨n, am, o, r⟩ ⟨n, a, o, r⟩ vpf v2) (H.out.setQ ⟨n, a, o, r⟩ v2 H.out.1.1.2 rfl) ?_
  clear a0 a1 a2 a3 e0 e1 e2 e3 fe0 fe1 fe2 fe3
  clear H
  rintro w22 hs
  have H := hid hs
  clear hs
  obtain ⟨⟨a0, a1, a2, a3⟩, _⟩ := KA.cells H.out.1.1
  obtain ⟨y0, y1, _, _⟩ := two_cells H.out.1.2.1
  go_wp2_with fail
  refine (HDf.out w22 v2.A a.length v2.ca H.out.1.1.2.1 (by have := HL1.out; omega)).mono ?_
  rintro e u ⟨A1, c1, rfl, ho, hb⟩
  replace H := hid (H.out.keep hb)
  have HI := hid (sl_own ho)
  rw [← HML.out] at HI
  clear ho hb a0 a1 a2 a3 y0 y1
  obtain ⟨⟨e0, e1, e2, e3⟩, fe0, fe1, fe2, fe3⟩ := KA.cells H.out.1.2.2.2.2.2
  go_upto_region 23 with (fail)
  refine at_world (fun w => SD W w X Y P Q ⟨n, a, o, r⟩ n0 n1 v2 v5 ⟨n, am, o, r⟩ ⟨n, am, o, r⟩ vpf ⟨A1, v2.O, v2.R, c1, v2.co, v2.cr⟩) (H.out.setQ1 A1 c1 HI.out (by rw [HML.out])) ?_
  clear e0 e1 e2 e3 fe0 fe1 fe2 fe3 HI H
  rintro w23 hs
  have H := hid hs
  clear hs
  obtain ⟨vqf, hv⟩ : ∃ v : Vh, v = ⟨A1, v2.O, v2.R, c1, v2.co, v2.cr⟩ := ⟨_, rfl⟩
  rw [← hv] at H
  clear hv
  obtain ⟨⟨c0, c1, c2, c3⟩, fc0, fc1, fc2, fc3⟩ := KA.cells H.out.1.2.2.2.2.1
  obtain ⟨⟨e0, e1, e2, e3⟩, fe0, fe1, fe2, fe3⟩ := KA.cells H.out.1.2.2.2.2.2
  clear fc0 fc1 fc2 fc3 fe0 fe1 fe2 fe3
  have HQ := is30_any ⟨n, am, o, r⟩ ⟨n, am, o, r⟩ vpf.A vpf.O vpf.R vqf.A vqf.O vqf.R vpf.ca vpf.co vpf.cr vqf.ca vqf.co vqf.cr w23 H.out.1.2.2.2.2.1.2 H.out.1.2.2.2.2.2.2
  rw [samV_self] at HQ
  simp only [svv] at HQ
  replace HQ := hid HQ
  go_wp2_with fail
  refine HQ.out.mono ?_
  rintro e u1 ⟨rfl, hb⟩
  replace H := hid (H.out.keep hb)
  clear hb HQ c0 c1 c2 c3 e0 e1 e2 e3
  obtain ⟨⟨b0, b1, b2, b3⟩, _⟩ := KA.cells H.out.1.2.2.1
  obtain ⟨⟨a0, a1, a2, a3⟩, _⟩ := KA.cells H.out.1.1
  have HQ := is30_any ⟨n, a, o, r⟩ ⟨n, a, o, r⟩ v5.A v5.O v5.R v2.A v2.O v2.R v5.ca v5.co v5.cr v2.ca v2.co v2.cr u1 H.out.1.2.2.1.2 H.out.1.1.2
  rw [samV_self] at HQ
  simp only [svv] at HQ
  replace HQ := hid HQ
  go_wp2_with fail
  refine HQ.out.mono ?_
  rintro e u2 ⟨rfl, hb⟩
  replace H := hid (H.out.keep hb)
  clear hb HQ a0 a1 a2 a3 b0 b1 b2 b3
  obtain ⟨⟨b0, b1, b2, b3⟩, _⟩ := KA.cells H.out.1.2.2.1
  have HQ := HSS.out ⟨n, a, o, r⟩ v5 v5 u2 H.out.1.2.2.1.2 H.out.1.2.2.1.2
  rw [samV_self] at HQ
  simp only [svv] at HQ
  replace HQ := hid HQ
  go_wp2_with fail
  refine HQ.out.mono ?_
  rintro e u3 ⟨rfl, hb⟩
  replace H := hid (H.out.keep hb)
  clear hb HQ b0 b1 b2 b3
  go_wp2_with fail
  refine (works30_any _).mono ?_
  rintro e u4 ⟨rfl, hb⟩
  have HB := hid (H.out.2.1.trans (hb.mono H.out.2.1.size))
  clear hb H
  go_wp2
  go_ret
  exact ⟨rfl, HB.out⟩

set_option maxRecDepth 20000 in
set_option maxHeartbeats 4000000 in
theorem slotsDoes_big (n : Int) (A O R : Option Addr) (la lo lr ca co cr : Nat) (n0 n1 : Int) (W : World) (hm : la ≤ maxLen ∧ lo ≤ maxLen ∧ lr ≤ maxLen) (h : 60 < la ∨ 60 < lo ∨ 60 < lr ∨ n < 0) :
    Calls Try.prog 11 #[.agg #[.int .i64 n, .slice A la ca, .slice O lo co, .slice R lr cr], .agg #[.int .i64 n0, .int .i64 n1]] W fun e w' => e = .returned (.bool true) ∧ Below W.heap.size W w' := by
  unfold maxLen at hm
  obtain ⟨m1, m2, m3⟩ := hm
  have key : ∀ (u : World), Below W.heap.size W u → Calls Try.prog 76 #[] u fun e w' => e = .returned (.bool true) ∧ Below W.heap.size W w' := fun u hu => (works30_any u).mono fun _ _ ⟨h1, h2⟩ => ⟨h1, hu.trans (h2.mono hu.size)⟩
  have KEY := hid key
  clear key
  by_cases h1 : 60 < la
  · skip
    have i1 : (60 : Int) < (la : Int) := by omega
    have d1 : decide ((60 : Int) < (la : Int)) = true := decide_eq_true i1
    clear m1 m2 m3 h h1
    go_enter Try.func11, Try.ntmps11
    go_upto_region 1 with (fail)
    refine at_world (fun w => (w.heap[W.heap.size]? = some (.cells #[.int .i64 n, .slice A la ca, .slice O lo co, .slice R lr cr] 113 (0, 0))) ∧ Below W.heap.size W w) ⟨heap_first _ _ _, below2 _ _ _⟩ ?_
    rintro w0 ⟨k0, hb0⟩
    obtain ⟨⟨p0, p1, p2, p3⟩, _⟩ := four_cells k0
    clear k0
    have HB0 := hid hb0
    clear hb0
    go_upto_region 2 with (fail)
    go_wp2_with fail
    refine (KEY.out _ HB0.out).mono ?_
    rintro e w1 ⟨rfl, hb⟩
    go_wp2
    go_ret
    exact ⟨rfl, hb⟩
  by_cases h2 : 60 < lo
  · skip
    have i1 : ¬ (60 : Int) < (la : Int) := by omega
    have d1 : decide ((60 : Int) < (la : Int)) = false := decide_eq_false i1
    have i2 : (60 : Int) < (lo : Int) := by omega
    have d2 : decide ((60 : Int) < (lo : Int)) = true := decide_eq_true i2
    clear m1 m2 m3 h h1 h2
    go_enter Try.func11, Try.ntmps11
    go_upto_region 1 with (fail)
    refine at_world (fun w => (w.heap[W.heap.size]? = some (.cells #[.int .i64 n, .slice A la ca, .slice O lo co, .slice R lr cr] 113 (0, 0))) ∧ Below W.heap.size W w) ⟨heap_first _ _ _, below2 _ _ _⟩ ?_
    rintro w0 ⟨k0, hb0⟩
    obtain ⟨⟨p0, p1, p2, p3⟩, _⟩ := four_cells k0
    clear k0
    have HB0 := hid hb0
    clear hb0
    go_upto_region 2 with (fail)
    go_wp2_with fail
    refine (KEY.out _ HB0.out).mono ?_
    rintro e w1 ⟨rfl, hb⟩
    go_wp2
    go_ret
    exact ⟨rfl, hb⟩
  by_cases h3 : 60 < lr
  · skip
    have i1 : ¬ (60 : Int) < (la : Int) := by omega
    have d1 : decide ((60 : Int) < (la : Int)) = false := decide_eq_false i1
    have i2 : ¬ (60 : Int) < (lo : Int) := by omega
    have d2 : decide ((60 : Int) < (lo : Int)) = false := decide_eq_false i2
    have i3 : (60 : Int) < (lr : Int) := by omega
    have d3 : decide ((60 : Int) < (lr : Int)) = true := decide_eq_true i3
    clear m1 m2 m3 h h1 h2 h3
    go_enter Try.func11, Try.ntmps11
    go_upto_region 1 with (fail)
    refine at_world (fun w => (w.heap[W.heap.size]? = some (.cells #[.int .i64 n, .slice A la ca, .slice O lo co, .slice R lr cr] 113 (0, 0))) ∧ Below W.heap.size W w) ⟨heap_first _ _ _, below2 _ _ _⟩ ?_
    rintro w0 ⟨k0, hb0⟩
    obtain ⟨⟨p0, p1, p2, p3⟩, _⟩ := four_cells k0
    clear k0
    have HB0 := hid hb0
    clear hb0
    go_upto_region 2 with (fail)
    go_wp2_with fail
    refine (KEY.out _ HB0.out).mono ?_
    rintro e w1 ⟨rfl, hb⟩
    go_wp2
    go_ret
    exact ⟨rfl, hb⟩
  have i1 : ¬ (60 : Int) < (la : Int) := by omega
  have d1 : decide ((60 : Int) < (la : Int)) = false := decide_eq_false i1
  have i2 : ¬ (60 : Int) < (lo : Int) := by omega
  have d2 : decide ((60 : Int) < (lo : Int)) = false := decide_eq_false i2
  have i3 : ¬ (60 : Int) < (lr : Int) := by omega
  have d3 : decide ((60 : Int) < (lr : Int)) = false := decide_eq_false i3
  have i4 : n < (0 : Int) := by omega
  have d4 : decide (n < (0 : Int)) = true := decide_eq_true i4
  clear m1 m2 m3 h h1 h2 h3
  go_enter Try.func11, Try.ntmps11
  go_upto_region 1 with (fail)
  refine at_world (fun w => (w.heap[W.heap.size]? = some (.cells #[.int .i64 n, .slice A la ca, .slice O lo co, .slice R lr cr] 113 (0, 0))) ∧ Below W.heap.size W w) ⟨heap_first _ _ _, below2 _ _ _⟩ ?_
  rintro w0 ⟨k0, hb0⟩
  obtain ⟨⟨p0, p1, p2, p3⟩, _⟩ := four_cells k0
  clear k0
  have HB0 := hid hb0
  clear hb0
  go_upto_region 2 with (fail)
  go_wp2_with fail
  refine (KEY.out _ HB0.out).mono ?_
  rintro e w1 ⟨rfl, hb⟩
  go_wp2
  go_ret
  exact ⟨rfl, hb⟩
/-- Pairs that came in. -/
theorem tasks_in {w : World} {A : Option Addr} {len cap : Nat} (h : Rd Try.prog w 111 [.slice A len cap]) : ∃ l : List (Int × Int), Sl w 2 A len cap (pcells l) ∧ l.length = len := by
  have hc3 : Try.prog.cellsOf 3 = 1 := by kernel_rfl
  obtain ⟨h1, h2, h3⟩ := Rd.slice_plain Try.underlying111 (n := 2) (by kernel_rfl) (by omega) h
  by_cases h0 : 0 < len
  · obtain ⟨b, off, rfl, z, hz⟩ := h3 h0
    have key : ∀ i, i < len → ∃ x : Int × Int, z i = [.int .i64 x.1, .int .i64 x.2] := fun i hi => by
      obtain ⟨hl, hr, _⟩ := hz i hi
      obtain ⟨_, hf⟩ := Rd.struct Try.underlying119 hr
      have f0 : Rd Try.prog w 3 (((z i).drop 0).take (Try.prog.cellsOf 3)) := hf 0 _ rfl
      have f1 : Rd Try.prog w 3 (((z i).drop 1).take (Try.prog.cellsOf 3)) := hf 1 _ rfl
      rw [hc3] at f0 f1
      obtain ⟨a, ea, _⟩ := Rd.int Try.underlying3 f0
      obtain ⟨c, ec, _⟩ := Rd.int Try.underlying3 f1
      obtain ⟨u, v, huv⟩ := two_of hl
      rw [huv] at ea ec
      simp at ea ec
      exact ⟨(a, c), by rw [huv, ea, ec]⟩
    obtain ⟨g, hg⟩ := Go.Deep.choose_lt (α := Int × Int) key
    have hll : ((List.range len).map g).length = len := by simp
    refine ⟨(List.range len).map g, ⟨by rw [pcells_length, hll], h1, h2, fun _ => ⟨b, off, rfl, fun i hi => ?_⟩⟩, hll⟩
    rw [pcells_length, hll] at hi
    have hk : i / 2 < ((List.range len).map g).length := by rw [hll]; omega
    obtain ⟨e1, e2⟩ := pcells_get ((List.range len).map g) (i / 2) hk
    have hgk : ((List.range len).map g)[i / 2] = g (i / 2) := by simp
    rw [hgk] at e1 e2
    have hzk := hz (i / 2) (by omega)
    rcases Nat.mod_two_eq_zero_or_one i with hm | hm
    · have h9 := hzk.2.2 0 (by omega)
      rw [hg (i / 2) (by omega)] at h9
      rw [show off + i / 2 * 2 + 0 = off + i by omega] at h9
      rw [show i / 2 * 2 = i by omega] at e1
      rw [h9, e1]
      rfl
    · have h9 := hzk.2.2 1 (by omega)
      rw [hg (i / 2) (by omega)] at h9
      rw [show off + i / 2 * 2 + 1 = off + i by omega] at h9
      rw [show i / 2 * 2 + 1 = i by omega] at e2
      rw [h9, e2]
      rfl
  · obtain rfl : len = 0 := by omega
    exact ⟨[], ⟨rfl, h1, h2, fun h => by simp [pcells] at h⟩, rfl⟩

theorem rd_slots {w : World} {a : Array Value} (hn : a.size = 4) (h : Rd Try.prog w 113 a.toList) : ∃ (s : Sv) (A O R : Option Addr) (ca co cr : Nat), a = svv s A O R ca co cr ∧ (-9223372036854775808 ≤ s.n ∧ s.n ≤ 9223372036854775807) ∧ InV w s A O R ca co cr := by
  have hc : Try.prog.cellsOf 3 = 1 := by kernel_rfl
  have hc2 : Try.prog.cellsOf 82 = 1 := by kernel_rfl
  have hc3 : Try.prog.cellsOf 111 = 1 := by kernel_rfl
  obtain ⟨_, hf⟩ := Rd.struct Try.underlying113 h
  have f0 : Rd Try.prog w 3 ((a.toList.drop 0).take (Try.prog.cellsOf 3)) := hf 0 _ rfl
  have f1 : Rd Try.prog w 82 ((a.toList.drop 1).take (Try.prog.cellsOf 82)) := hf 1 _ rfl
  have f2 : Rd Try.prog w 111 ((a.toList.drop 2).take (Try.prog.cellsOf 111)) := hf 2 _ rfl
  have f3 : Rd Try.prog w 111 ((a.toList.drop 3).take (Try.prog.cellsOf 111)) := hf 3 _ rfl
  rw [hc] at f0
  rw [hc2] at f1
  rw [hc3] at f2 f3
  obtain ⟨l, e0, w0⟩ := Rd.int Try.underlying3 f0
  obtain ⟨A, len, cap, e1⟩ : ∃ A len cap, (a.toList.drop 1).take 1 = [.slice A len cap] := by
    rcases Rd.slice Try.underlying82 f1 with h1 | ⟨ad, len, cap, _, h1, _⟩
    · exact ⟨_, _, _, h1⟩
    · exact ⟨_, _, _, h1⟩
  obtain ⟨O, len2, cap2, e2⟩ : ∃ A len cap, (a.toList.drop 2).take 1 = [.slice A len cap] := by
    rcases Rd.slice Try.underlying111 f2 with h1 | ⟨ad, len, cap, _, h1, _⟩
    · exact ⟨_, _, _, h1⟩
    · exact ⟨_, _, _, h1⟩
  obtain ⟨R, len3, cap3, e3⟩ : ∃ A len cap, (a.toList.drop 3).take 1 = [.slice A len cap] := by
    rcases Rd.slice Try.underlying111 f3 with h1 | ⟨ad, len, cap, _, h1, _⟩
    · exact ⟨_, _, _, h1⟩
    · exact ⟨_, _, _, h1⟩
  rw [e1] at f1
  rw [e2] at f2
  rw [e3] at f3
  obtain ⟨la, s1, rfl⟩ := pairs_in f1
  obtain ⟨lo, s2, rfl⟩ := tasks_in f2
  obtain ⟨lr, s3, rfl⟩ := tasks_in f3
  refine ⟨⟨l, la, lo, lr⟩, A, O, R, cap, cap2, cap3, ?_, wf_i64 w0, s1, s2, s3⟩
  have hl : a.toList.length = 4 := by simpa using hn
  match hm : a.toList, hl with
  | [x, y, z, u], _ =>
    rw [hm] at e0 e1 e2 e3
    simp at e0 e1 e2 e3
    have : a = [x, y, z, u].toArray := by rw [← hm]
    rw [this, e0, e1, e2, e3]
    rfl
theorem slotsDoes_law (a0 a1 : Array Value) (W : World) (n0 : a0.size = 4) (h : Rd Try.prog W 113 a0.toList) (hn : a1.size = 2) (h2 : Rd Try.prog W 114 a1.toList) :
    Calls Try.prog 11 #[.agg a0, .agg a1] W fun e w' => e = .returned (.bool true) ∧ Below W.heap.size W w' := by
  obtain ⟨s, A, O, R, ca, co, cr, rfl, hl, hi⟩ := rd_slots n0 h
  obtain ⟨xs, hx⟩ := Rd.array_ints Try.underlying114 Try.underlying3 (by kernel_rfl) (by kernel_rfl) h2
  obtain ⟨x, y, rfl⟩ : ∃ x y : Int, a1 = #[.int .i64 x, .int .i64 y] := by
    have h9 : a1.toList.length = 2 := by simpa using hn
    have h8 : xs.length = 2 := by have := congrArg List.length hx.1; rw [h9] at this; simpa using this.symm
    match xs, h8 with
    | [x, y], _ => exact ⟨x, y, by have := hx.1; simpa using congrArg List.toArray this⟩
  by_cases hb : 60 < s.a.length ∨ 60 < s.o.length ∨ 60 < s.r.length ∨ s.n < 0
  · exact slotsDoes_big s.n A O R _ _ _ ca co cr x y W ⟨Nat.le_trans hi.1.2.1 hi.1.2.2.1, Nat.le_trans hi.2.1.2.1 hi.2.1.2.2.1, Nat.le_trans hi.2.2.2.1 hi.2.2.2.2.1⟩ hb
  · exact slotsDoes_small s A O R ca co cr x y W hi ⟨hl.2, by omega, by omega, by omega⟩ (by unfold NonNeg; omega) ⟨by omega, by omega, by omega⟩
end Go.Proofs.Ytadjmgmdnekllaa
