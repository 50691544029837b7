/- The document's end: Learn, Tick: contracts. -/
import Derived.Test.YtdphdodjidbngaaGreatQGt
import Derived.Test.YtdphdodjidbngaaGreatLv2
import Derived.Test.YtdphdodjidbngaaGreatLkQ
namespace Go.Proofs.YtdphdodjidbngaaGreat
open Go.RowKit Go.Sort
set_option linter.unusedVariables false
set_option linter.unusedSimpArgs false

/-- Texts stay where a block is written that holds none. -/
theorem sl_st {w w' : World} {b t : Nat} {cs : Array Value} {A : Option Addr} {n c : Nat} {l : List (List UInt8)} (h : Sl w 1 A n c (scells l)) (hb : w.heap[b]? = some (.cells cs t (0, 0))) (hns : ∀ (i : Nat) (s : ByteArray), cs[i]? ≠ some (.string s)) (hk : ∀ g, g ≠ b → w'.heap[g]? = w.heap[g]?) : Sl w' 1 A n c (scells l) := by
  obtain ⟨h1, h2, h3, h4⟩ := h
  refine ⟨h1, h2, h3, fun h0 => ?_⟩
  obtain ⟨bl, off, ha, hc⟩ := h4 h0
  refine ⟨bl, off, ha, fun i hi => ?_⟩
  have h5 := hc i hi
  have hne : bl ≠ b := by
    rintro rfl
    have h6 := hc i hi
    rw [cell_of_row w bl (off + i) cs t (0, 0) hb, List.getElem?_eq_getElem hi] at h6
    have h7 : ∃ s, (scells l)[i] = .string s := by
      have : (scells l)[i] ∈ scells l := List.getElem_mem hi
      obtain ⟨x, _, hx⟩ := List.mem_map.1 this
      exact ⟨_, hx.symm⟩
    obtain ⟨s, hs⟩ := h7
    rw [hs] at h6
    exact hns _ _ h6
  rw [← h5]
  have h8 := hk bl hne
  simp only [World.cell?, h8]
theorem ec_ns (e : Ev) (A : Option Addr) (c : Nat) (i : Nat) (s : ByteArray) : (ec e A c)[i]? ≠ some (.string s) := by
  intro h
  have hi : i < 11 := by
    rcases Nat.lt_or_ge i 11 with h9 | h9
    · exact h9
    · rw [Array.getElem?_eq_none (by simpa [ec] using h9)] at h
      cases h
  rcases (by omega : i = 0 ∨ i = 1 ∨ i = 2 ∨ i = 3 ∨ i = 4 ∨ i = 5 ∨ i = 6 ∨ i = 7 ∨ i = 8 ∨ i = 9 ∨ i = 10) with rfl | rfl | rfl | rfl | rfl | rfl | rfl | rfl | rfl | rfl | rfl <;> simp [ec] at h
/-- The copy of the argument, at X; its texts. -/
def EY (W u : World) (X : Nat) (e : Ev) (A : Option Addr) (c : Nat) : Prop :=
  u.heap[X]? = some (.cells (ec e A c) 82 (0, 0)) ∧ Sl u 1 A e.o.l.length c (scells e.o.l) ∧ Below W.heap.size W u
theorem EY.keep {W u w : World} {X : Nat} {e : Ev} {A : Option Addr} {c : Nat} (h : EY W u X e A c) (hb : Below u.heap.size u w) : EY W w X e A c := ⟨keep0 h.1 hb, h.2.1.below hb, h.2.2.trans (hb.mono h.2.2.size)⟩
/-- The outbox is set. -/
theorem EY.out {W u u' : World} {X : Nat} {e : Ev} {o' : Ov} {A A' : Option Addr} {c c' : Nat} (hx : u.heap[X]? = some (.cells (ec e A c) 82 (0, 0))) (ho : Sl u 1 A' o'.l.length c' (scells o'.l)) (hb : Below W.heap.size W u) (hX : W.heap.size ≤ X)
    (he : u' = ((((u.setCell ⟨X, 3, none⟩ (.int .i64 o'.p)).setCell ⟨X, 4, none⟩ (.int .i64 o'.q)).setCell ⟨X, 5, none⟩ (.slice A' o'.l.length c')).setCell ⟨X, 6, none⟩ (.int .i64 o'.w)).setCell ⟨X, 7, none⟩ (.int .i64 o'.f)) : EY W u' X ⟨e.f, e.t, e.i, o', e.m, e.p, e.l⟩ A' c' := by
  subst he
  have h1 := heap_setCell_same u X 3 _ _ (.int .i64 o'.p) hx
  have h2 := heap_setCell_same _ X 4 _ _ (.int .i64 o'.q) h1
  have h3 := heap_setCell_same _ X 5 _ _ (.slice A' o'.l.length c') h2
  have h4 := heap_setCell_same _ X 6 _ _ (.int .i64 o'.w) h3
  have h5 := heap_setCell_same _ X 7 _ _ (.int .i64 o'.f) h4
  refine ⟨by rw [h5]; rfl, sl_st ho hx (ec_ns e A c) fun g hg => ?_, ((((hb.setCell (p := ⟨X, 3, none⟩) hX _).setCell (p := ⟨X, 4, none⟩) hX _).setCell (p := ⟨X, 5, none⟩) hX _).setCell (p := ⟨X, 6, none⟩) hX _).setCell (p := ⟨X, 7, none⟩) hX _⟩
  rw [Below.heap_setCell _ _ _ _ hg, Below.heap_setCell _ _ _ _ hg, Below.heap_setCell _ _ _ _ hg, Below.heap_setCell _ _ _ _ hg, Below.heap_setCell _ _ _ _ hg]
/-- The gate is set. -/
theorem EY.gate {W u u' : World} {X : Nat} {e : Ev} {A : Option Addr} {c : Nat} (h : EY W u X e A c) (hX : W.heap.size ≤ X) (m p l : Int)
    (he : u' = ((u.setCell ⟨X, 8, none⟩ (.int .i64 m)).setCell ⟨X, 9, none⟩ (.int .i64 p)).setCell ⟨X, 10, none⟩ (.int .i64 l)) : EY W u' X ⟨e.f, e.t, e.i, e.o, m, p, l⟩ A c := by
  subst he
  obtain ⟨hx, ho, hb⟩ := h
  have h1 := heap_setCell_same u X 8 _ _ (.int .i64 m) hx
  have h2 := heap_setCell_same _ X 9 _ _ (.int .i64 p) h1
  have h3 := heap_setCell_same _ X 10 _ _ (.int .i64 l) h2
  refine ⟨by rw [h3]; rfl, sl_st ho hx (ec_ns e A c) fun g hg => ?_, ((hb.setCell (p := ⟨X, 8, none⟩) hX _).setCell (p := ⟨X, 9, none⟩) hX _).setCell (p := ⟨X, 10, none⟩) hX _⟩
  rw [Below.heap_setCell _ _ _ _ hg, Below.heap_setCell _ _ _ _ hg, Below.heap_setCell _ _ _ _ hg]
/-- Eleven cells that hold no text. -/
def NoS (cs : Array Value) : Prop := ∀ (i : Nat) (s : ByteArray), cs[i]? ≠ some (.string s)
theorem ez_ns : NoS ez := by
  have h := ec_ns ⟨0, 0, 0, ⟨0, 0, [], 0, 0⟩, 0, 0, 0⟩ none 0
  exact h
theorem EY.ret {W u : World} {X Z : Nat} {e : Ev} {A : Option Addr} {c : Nat} {cs : Array Value} (h : EY W u X e A c) (hz : u.heap[Z]? = some (.cells cs 82 (0, 0))) (hns : NoS cs) (hZ : W.heap.size ≤ Z) (a0 a1 a2 a3 a4 a5 a6 a7 a8 a9 a10 : Value) :
    Sl (put11 u Z a0 a1 a2 a3 a4 a5 a6 a7 a8 a9 a10) 1 A e.o.l.length c (scells e.o.l) ∧ Below W.heap.size W (put11 u Z a0 a1 a2 a3 a4 a5 a6 a7 a8 a9 a10) :=
  ⟨sl_st h.2.1 hz hns fun g hg => put11_other hg _ _ _ _ _ _ _ _ _ _ _, put11_below h.2.2 hZ _ _ _ _ _ _ _ _ _ _ _⟩
/-- What a function of the document answers that gives an end and packets. -/
def REnd (r : Ev × List Pk) (W : World) (x : Ending) (w' : World) : Prop :=
  ∃ A c B d, x = .returned (.tuple #[.agg (ec r.1 A c), .slice B r.2.length d]) ∧ Sl w' 1 A r.1.o.l.length c (scells r.1.o.l) ∧ OwnR W w' (.slice B r.2.length d) r.2 ∧ Below W.heap.size W w'
def KY (W : World) (X Z : Nat) (e : Ev) (A : Option Addr) (c : Nat) (U : World) : Prop := EY W U X e A c ∧ ∃ x0 x1 x2 x3 x4 x5 x6 x7 x8 x9 x10, U.heap[Z]? = some (.cells #[x0, x1, x2, x3, x4, x5, x6, x7, x8, x9, x10] 82 (0, 0)) ∧ NoS #[x0, x1, x2, x3, x4, x5, x6, x7, x8, x9, x10]
theorem KY.call {W U V : World} {X Z : Nat} {e : Ev} {A : Option Addr} {c : Nat} (h : KY W X Z e A c U) (hb : Below U.heap.size U V) : KY W X Z e A c V := by
  obtain ⟨h1, x0, x1, x2, x3, x4, x5, x6, x7, x8, x9, x10, h2, hns⟩ := h
  exact ⟨h1.keep hb, x0, x1, x2, x3, x4, x5, x6, x7, x8, x9, x10, keep0 h2 hb, hns⟩
theorem KY.store {W U : World} {X Z : Nat} {e : Ev} {A : Option Addr} {c : Nat} (h : KY W X Z e A c U) (hne : X ≠ Z) (hZ : W.heap.size ≤ Z) (a0 a1 a2 a3 a4 a5 a6 a7 a8 a9 a10 : Value) (hn : NoS #[a0, a1, a2, a3, a4, a5, a6, a7, a8, a9, a10]) : KY W X Z e A c (((((((((((U.setCell ⟨Z, 0, none⟩ a0).setCell ⟨Z, 1, none⟩ a1).setCell ⟨Z, 2, none⟩ a2).setCell ⟨Z, 3, none⟩ a3).setCell ⟨Z, 4, none⟩ a4).setCell ⟨Z, 5, none⟩ a5).setCell ⟨Z, 6, none⟩ a6).setCell ⟨Z, 7, none⟩ a7).setCell ⟨Z, 8, none⟩ a8).setCell ⟨Z, 9, none⟩ a9).setCell ⟨Z, 10, none⟩ a10) := by
  obtain ⟨h1, x0, x1, x2, x3, x4, x5, x6, x7, x8, x9, x10, h2, hns⟩ := h
  have h3 := EY.ret h1 h2 hns hZ a0 a1 a2 a3 a4 a5 a6 a7 a8 a9 a10
  exact ⟨⟨(put11_other hne a0 a1 a2 a3 a4 a5 a6 a7 a8 a9 a10).trans h1.1, h3.1, h3.2⟩, a0, a1, a2, a3, a4, a5, a6, a7, a8, a9, a10, put11_heap h2 a0 a1 a2 a3 a4 a5 a6 a7 a8 a9 a10, hn⟩
theorem KY.cells {W U : World} {X Z : Nat} {e : Ev} {A : Option Addr} {c : Nat} (h : KY W X Z e A c U) : (U.cell? ⟨X, 0, none⟩ = some (.int .i64 e.f) ∧ U.cell? ⟨X, 1, none⟩ = some (.int .i64 e.t) ∧ U.cell? ⟨X, 2, none⟩ = some (.int .i64 e.i) ∧ U.cell? ⟨X, 3, none⟩ = some (.int .i64 e.o.p) ∧ U.cell? ⟨X, 4, none⟩ = some (.int .i64 e.o.q) ∧ U.cell? ⟨X, 5, none⟩ = some (.slice A e.o.l.length c) ∧ U.cell? ⟨X, 6, none⟩ = some (.int .i64 e.o.w) ∧ U.cell? ⟨X, 7, none⟩ = some (.int .i64 e.o.f) ∧ U.cell? ⟨X, 8, none⟩ = some (.int .i64 e.m) ∧ U.cell? ⟨X, 9, none⟩ = some (.int .i64 e.p) ∧ U.cell? ⟨X, 10, none⟩ = some (.int .i64 e.l)) ∧ (U.frozen? ⟨Z, 0, none⟩ = false ∧ U.frozen? ⟨Z, 1, none⟩ = false ∧ U.frozen? ⟨Z, 2, none⟩ = false ∧ U.frozen? ⟨Z, 3, none⟩ = false ∧ U.frozen? ⟨Z, 4, none⟩ = false ∧ U.frozen? ⟨Z, 5, none⟩ = false ∧ U.frozen? ⟨Z, 6, none⟩ = false ∧ U.frozen? ⟨Z, 7, none⟩ = false ∧ U.frozen? ⟨Z, 8, none⟩ = false ∧ U.frozen? ⟨Z, 9, none⟩ = false ∧ U.frozen? ⟨Z, 10, none⟩ = false) := by
  obtain ⟨h1, x0, x1, x2, x3, x4, x5, x6, x7, x8, x9, x10, h2, hns⟩ := h
  exact ⟨(eleven_cells h1.1).1, (eleven_cells h2).2⟩

set_option maxRecDepth 20000 in
set_option maxHeartbeats 8000000 in
theorem r26learn_any (e : Ev) (inc : Int) (A : Option Addr) (c : Nat) (W : World) (h : Sl W 1 A e.o.l.length c (scells e.o.l)) (hl : e.o.l.length ≤ 1000) :
    Calls Tryz.prog 75 #[.agg (ec e A c), .int .i64 inc] W (REnd (lrnE e inc) W) := by
  have HC := hid (fun w (hw : Below W.heap.size W w) => r24learn_any e.o inc A c w (h.below hw))
  have HG := hid (fun w => rlearn_any e.m e.p e.l inc w)
  have hne := lrnV_ne e.o inc
  have hll : (lrnV e.o inc).1.l.length ≤ 1000 := by rw [lrnV_l]; exact hl
  have HV : Hid (lrnE e inc = (⟨e.f, e.t, e.i, (lrnV e.o inc).1, e.m, gP e.p inc, gL e.p e.l inc⟩, dataV ⟨e.f, e.t, e.i, (lrnV e.o inc).1, e.m, gP e.p inc, gL e.p e.l inc⟩ (lrnV e.o inc).2)) := hid rfl
  generalize lrnE e inc = rv at *
  generalize gP e.p inc = gp2 at *
  generalize gL e.p e.l inc = gl2 at *
  generalize lrnV e.o inc = ov at *
  obtain ⟨⟨p2, q2, l2, wt2, fl2⟩, bb⟩ := ov
  obtain ⟨f, t, i, ⟨p, q, l, wt, fl⟩, gm, gp, gl⟩ := e
  have HNE := hid hne
  have HLL := hid hll
  clear h hl hne hll
  simp only [ec, oc] at *
  go_enter Tryz.func75, Tryz.ntmps75
  go_upto_region 1 with (fail)
  refine at_world (fun u => u.heap[W.heap.size]? = some (.cells (ec ⟨f, t, i, ⟨p, q, l, wt, fl⟩, gm, gp, gl⟩ A c) 82 (0, 0)) ∧ u.heap[W.heap.size + 1]? = some (.cells ez 82 (0, 0)) ∧ Below W.heap.size W u) ⟨heap_first _ _ _, heap_second _ _ _, below2 _ _ _⟩ ?_
  rintro w1 ⟨hx1, hz1, hb1⟩
  obtain ⟨⟨cp0, cp1, cp2, cp3, cp4, cp5, cp6, cp7, cp8, cp9, cp10⟩, _⟩ := eleven_cells hx1
  have HX1 := hid hx1
  have HZ1 := hid hz1
  have HB1 := hid hb1
  clear hx1 hz1 hb1
  go_wp2_with fail
  refine (HC.out _ HB1.out).mono ?_
  rintro e w2 ⟨A2, c2, rfl, ho2, hb2⟩
  simp only [oc]
  clear cp0 cp1 cp2 cp3 cp4 cp5 cp6 cp7 cp8 cp9 cp10
  have HX2 := hid (keep0 HX1.out hb2)
  have HZ2 := hid (keep0 HZ1.out hb2)
  have HO2 := hid (ho2)
  have HB2 := hid (HB1.out.trans (hb2.mono HB1.out.size))
  clear HX1 HZ1 ho2 hb2 HB1 HC
  go_upto_region 2 with (fail)
  refine at_world (fun u => u.heap[w2.heap.size]? = some (.cells (oc ⟨p2, q2, l2, wt2, fl2⟩ A2 c2) 79 (0, 0)) ∧ u.heap[W.heap.size]? = some (.cells (ec ⟨f, t, i, ⟨p, q, l, wt, fl⟩, gm, gp, gl⟩ A c) 82 (0, 0)) ∧ u.heap[W.heap.size + 1]? = some (.cells ez 82 (0, 0)) ∧ Sl u 1 A2 l2.length c2 (scells l2) ∧ Below W.heap.size W u) ⟨heap_alloc_new _ _, keep0 HX2.out ((Below.refl _ _).alloc (Nat.le_refl _) _), keep0 HZ2.out ((Below.refl _ _).alloc (Nat.le_refl _) _), Sl.below HO2.out ((Below.refl _ _).alloc (Nat.le_refl _) _), HB2.out.alloc HB2.out.size _⟩ ?_
  rintro w3 ⟨ht3, hx3, hz3, ho3, hb3⟩
  obtain ⟨⟨z0, z1, z2, z3, z4⟩, _⟩ := five_cells ht3
  obtain ⟨_, ⟨cg0, cg1, cg2, cg3, cg4, cg5, cg6, cg7, cg8, cg9, cg10⟩⟩ := eleven_cells hx3
  have HS3 := hid (EY.out (o' := ⟨p2, q2, l2, wt2, fl2⟩) hx3 ho3 hb3 (Nat.le_refl _) rfl)
  have HZ3 := hid hz3
  clear ht3 hx3 hz3 ho3 hb3 HX2 HZ2 HO2 HB2
  generalize w2.heap.size = T at *
  go_upto_region 3 with (fail)
  refine at_world (fun u => EY W u W.heap.size ⟨f, t, i, ⟨p2, q2, l2, wt2, fl2⟩, gm, gp, gl⟩ A2 c2 ∧ u.heap[W.heap.size + 1]? = some (.cells ez 82 (0, 0))) ⟨HS3.out, by
    have hne : W.heap.size + 1 ≠ W.heap.size := by omega
    rw [Below.heap_setCell _ _ _ _ hne, Below.heap_setCell _ _ _ _ hne, Below.heap_setCell _ _ _ _ hne, Below.heap_setCell _ _ _ _ hne, Below.heap_setCell _ _ _ _ hne]
    exact HZ3.out⟩ ?_
  clear z0 z1 z2 z3 z4 cg0 cg1 cg2 cg3 cg4 cg5 cg6 cg7 cg8 cg9 cg10 HS3 HZ3
  rintro w4 ⟨hs4, hz4⟩
  obtain ⟨⟨cp0, cp1, cp2, cp3, cp4, cp5, cp6, cp7, cp8, cp9, cp10⟩, _⟩ := eleven_cells hs4.1
  have HS4 := hid hs4
  have HZ4 := hid hz4
  clear hs4 hz4
  go_wp2_with fail
  refine (HG.out _).mono ?_
  rintro e w5 ⟨rfl, hb5⟩
  have HS5 := hid (HS4.out.keep hb5)
  have HZ5 := hid (keep0 HZ4.out hb5)
  clear cp0 cp1 cp2 cp3 cp4 cp5 cp6 cp7 cp8 cp9 cp10 HS4 HZ4 hb5 HG
  obtain ⟨⟨cp0, cp1, cp2, cp3, cp4, cp5, cp6, cp7, cp8, cp9, cp10⟩, ⟨cg0, cg1, cg2, cg3, cg4, cg5, cg6, cg7, cg8, cg9, cg10⟩⟩ := eleven_cells HS5.out.1
  go_upto_region 4 with (fail)
  refine at_world (fun u => EY W u W.heap.size ⟨f, t, i, ⟨p2, q2, l2, wt2, fl2⟩, gm, gp2, gl2⟩ A2 c2 ∧ u.heap[W.heap.size + 1]? = some (.cells ez 82 (0, 0))) ⟨HS5.out.gate (Nat.le_refl _) gm gp2 gl2 rfl, by
    have hne : W.heap.size + 1 ≠ W.heap.size := by omega
    rw [Below.heap_setCell _ _ _ _ hne, Below.heap_setCell _ _ _ _ hne, Below.heap_setCell _ _ _ _ hne]
    exact HZ5.out⟩ ?_
  clear cp0 cp1 cp2 cp3 cp4 cp5 cp6 cp7 cp8 cp9 cp10 cg0 cg1 cg2 cg3 cg4 cg5 cg6 cg7 cg8 cg9 cg10 HS5 HZ5
  rintro w4 ⟨hs4, hz4⟩
  have hk4 : KY W W.heap.size (W.heap.size + 1) ⟨f, t, i, ⟨p2, q2, l2, wt2, fl2⟩, gm, gp2, gl2⟩ A2 c2 w4 := ⟨hs4, _, _, _, _, _, _, _, _, _, _, _, hz4, ez_ns⟩
  have HK := hid hk4
  have HF := hid (fun w (hw : EY W w W.heap.size ⟨f, t, i, ⟨p2, q2, l2, wt2, fl2⟩, gm, gp2, gl2⟩ A2 c2) => data26_any ⟨f, t, i, ⟨p2, q2, l2, wt2, fl2⟩, gm, gp2, gl2⟩ bb HNE.out A2 c2 w hw.2.1)
  generalize hdv : dataV ⟨f, t, i, ⟨p2, q2, l2, wt2, fl2⟩, gm, gp2, gl2⟩ bb = D at *
  simp only [ec] at HF
  obtain ⟨⟨cp0, cp1, cp2, cp3, cp4, cp5, cp6, cp7, cp8, cp9, cp10⟩, ⟨cg0, cg1, cg2, cg3, cg4, cg5, cg6, cg7, cg8, cg9, cg10⟩⟩ := hk4.cells
  have hS : ∀ U, KY W W.heap.size (W.heap.size + 1) ⟨f, t, i, ⟨p2, q2, l2, wt2, fl2⟩, gm, gp2, gl2⟩ A2 c2 U → (((U.cell? ⟨W.heap.size, 0, none⟩ = some (.int .i64 f) ∧ U.cell? ⟨W.heap.size, 1, none⟩ = some (.int .i64 t) ∧ U.cell? ⟨W.heap.size, 2, none⟩ = some (.int .i64 i) ∧ U.cell? ⟨W.heap.size, 3, none⟩ = some (.int .i64 p2) ∧ U.cell? ⟨W.heap.size, 4, none⟩ = some (.int .i64 q2) ∧ U.cell? ⟨W.heap.size, 5, none⟩ = some (.slice A2 l2.length c2) ∧ U.cell? ⟨W.heap.size, 6, none⟩ = some (.int .i64 wt2) ∧ U.cell? ⟨W.heap.size, 7, none⟩ = some (.int .i64 fl2) ∧ U.cell? ⟨W.heap.size, 8, none⟩ = some (.int .i64 gm) ∧ U.cell? ⟨W.heap.size, 9, none⟩ = some (.int .i64 gp2) ∧ U.cell? ⟨W.heap.size, 10, none⟩ = some (.int .i64 gl2)) ∧ (U.frozen? ⟨W.heap.size + 1, 0, none⟩ = false ∧ U.frozen? ⟨W.heap.size + 1, 1, none⟩ = false ∧ U.frozen? ⟨W.heap.size + 1, 2, none⟩ = false ∧ U.frozen? ⟨W.heap.size + 1, 3, none⟩ = false ∧ U.frozen? ⟨W.heap.size + 1, 4, none⟩ = false ∧ U.frozen? ⟨W.heap.size + 1, 5, none⟩ = false ∧ U.frozen? ⟨W.heap.size + 1, 6, none⟩ = false ∧ U.frozen? ⟨W.heap.size + 1, 7, none⟩ = false ∧ U.frozen? ⟨W.heap.size + 1, 8, none⟩ = false ∧ U.frozen? ⟨W.heap.size + 1, 9, none⟩ = false ∧ U.frozen? ⟨W.heap.size + 1, 10, none⟩ = false)) ∧ KY W W.heap.size (W.heap.size + 1) ⟨f, t, i, ⟨p2, q2, l2, wt2, fl2⟩, gm, gp2, gl2⟩ A2 c2 U) := fun U h => ⟨h.cells, h⟩
  clear hs4 hz4 hk4
  go_upto_region 4 with (fail)
  have hk0 : KY W W.heap.size (W.heap.size + 1) ⟨f, t, i, ⟨p2, q2, l2, wt2, fl2⟩, gm, gp2, gl2⟩ A2 c2 w4.drew := HK.out.call (below_drew (Below.refl _ _))
  refine wp_region_held_drew (S := fun U => ((U.cell? ⟨W.heap.size, 0, none⟩ = some (.int .i64 f) ∧ U.cell? ⟨W.heap.size, 1, none⟩ = some (.int .i64 t) ∧ U.cell? ⟨W.heap.size, 2, none⟩ = some (.int .i64 i) ∧ U.cell? ⟨W.heap.size, 3, none⟩ = some (.int .i64 p2) ∧ U.cell? ⟨W.heap.size, 4, none⟩ = some (.int .i64 q2) ∧ U.cell? ⟨W.heap.size, 5, none⟩ = some (.slice A2 l2.length c2) ∧ U.cell? ⟨W.heap.size, 6, none⟩ = some (.int .i64 wt2) ∧ U.cell? ⟨W.heap.size, 7, none⟩ = some (.int .i64 fl2) ∧ U.cell? ⟨W.heap.size, 8, none⟩ = some (.int .i64 gm) ∧ U.cell? ⟨W.heap.size, 9, none⟩ = some (.int .i64 gp2) ∧ U.cell? ⟨W.heap.size, 10, none⟩ = some (.int .i64 gl2)) ∧ (U.frozen? ⟨W.heap.size + 1, 0, none⟩ = false ∧ U.frozen? ⟨W.heap.size + 1, 1, none⟩ = false ∧ U.frozen? ⟨W.heap.size + 1, 2, none⟩ = false ∧ U.frozen? ⟨W.heap.size + 1, 3, none⟩ = false ∧ U.frozen? ⟨W.heap.size + 1, 4, none⟩ = false ∧ U.frozen? ⟨W.heap.size + 1, 5, none⟩ = false ∧ U.frozen? ⟨W.heap.size + 1, 6, none⟩ = false ∧ U.frozen? ⟨W.heap.size + 1, 7, none⟩ = false ∧ U.frozen? ⟨W.heap.size + 1, 8, none⟩ = false ∧ U.frozen? ⟨W.heap.size + 1, 9, none⟩ = false ∧ U.frozen? ⟨W.heap.size + 1, 10, none⟩ = false)) ∧ KY W W.heap.size (W.heap.size + 1) ⟨f, t, i, ⟨p2, q2, l2, wt2, fl2⟩, gm, gp2, gl2⟩ A2 c2 U) (by kernel_rfl) (hS _ hk0) (fun hHeld => ?_)
  refine tkA 0 ?_ rfl ?_ (by assumption) ?_; rotate_left; focus (intro U hU; (try dsimp only at hU); go_simp; try (with_reducible rfl))
  simp only [gt6, Act.put]
  refine tkA 1 ?_ rfl ?_ (by assumption) ?_; rotate_left; focus (intro U hU; (try dsimp only at hU); go_simp; try (with_reducible rfl))
  simp only [gt6, Act.put]
  refine tkA 2 ?_ rfl ?_ (by assumption) ?_; rotate_left; focus (intro U hU; (try dsimp only at hU); go_simp; try (with_reducible rfl))
  simp only [gt6, Act.put]
  refine wpAnyH_ready (rs := [3]) (by kernel_rfl) (by simp) ?_
  refine AllReadyH.cons rfl (fun K hK => ?_) AllReadyH.nil
  simp only [gt3]
  go_simp
  refine (HF.out _ hk0.1).mono ?_
  rintro e u1 ⟨B, d, rfl, ho1, g1⟩
  have hk1 := hk0.call g1
  have hk1' := hk1
  obtain ⟨_, ⟨y0, y1, y2, y3, y4, y5, y6, y7, y8, y9, y10, hz1, hns1⟩⟩ := hk1'
  have hk2 := hk1.store (by omega) (by omega) (.int .i64 f) (.int .i64 t) (.int .i64 i) (.int .i64 p2) (.int .i64 q2) (.slice A2 l2.length c2) (.int .i64 wt2) (.int .i64 fl2) (.int .i64 gm) (.int .i64 gp2) (.int .i64 gl2) (ec_ns ⟨f, t, i, ⟨p2, q2, l2, wt2, fl2⟩, gm, gp2, gl2⟩ A2 c2)
  have hz5 := put11_heap hz1 (.int .i64 f) (.int .i64 t) (.int .i64 i) (.int .i64 p2) (.int .i64 q2) (.slice A2 l2.length c2) (.int .i64 wt2) (.int .i64 fl2) (.int .i64 gm) (.int .i64 gp2) (.int .i64 gl2)
  have ho5 : OwnR W (put11 u1 (W.heap.size + 1) (.int .i64 f) (.int .i64 t) (.int .i64 i) (.int .i64 p2) (.int .i64 q2) (.slice A2 l2.length c2) (.int .i64 wt2) (.int .i64 fl2) (.int .i64 gm) (.int .i64 gp2) (.int .i64 gl2)) (.slice B D.length d) D := own_at (own_mono ho1 hk0.1.2.2.size) hz1 (by decide) fun g hg => put11_other hg _ _ _ _ _ _ _ _ _ _ _
  simp only [put11] at hz5 ho5
  obtain ⟨_, ⟨cg0, cg1, cg2, cg3, cg4, cg5, cg6, cg7, cg8, cg9, cg10⟩⟩ := eleven_cells hz1
  clear ho1 hz1 g1
  go_wp2_with fail
  refine hK.out _ _ ?_ (fun hHeld2 => ?_)
  focus
    first | with_reducible exact hS _ hk2 | with_reducible exact hS _ hk1
  clear hHeld
  have hHeld := hHeld2
  clear hHeld2 hK K
  try simp only [gt6, Act.put]
  refine wpAnyH_ready (rs := [4]) (by kernel_rfl) (by simp) ?_
  refine AllReadyH.cons rfl (fun K hK => ?_) AllReadyH.nil
  simp only [gt3]
  go_simp
  refine hK.out _ _ ?_ (fun hHeld2 => ?_)
  focus
    first | with_reducible exact hS _ hk2 | with_reducible exact hS _ hk1
  clear hHeld
  have hHeld := hHeld2
  clear hHeld2 hK K
  try simp only [gt6, Act.put]
  refine tkA 5 ?_ rfl ?_ (by assumption) ?_; rotate_left; focus (intro U hU; (try dsimp only at hU); go_simp; try (with_reducible rfl))
  simp only [gt6, Act.put]
  refine wpAnyH_done (by kernel_rfl) ?_ _
  clear hHeld hS
  obtain ⟨⟨cr0, cr1, cr2, cr3, cr4, cr5, cr6, cr7, cr8, cr9, cr10⟩, _⟩ := eleven_cells hz5
  have HO := hid ho5
  have HK2 := hid hk2
  clear hz5 ho5 hk0 hk1 hk2
  go_wp2_with fail
  exact bodyPost_ret (v := .tuple #[.agg #[.int .i64 f, .int .i64 t, .int .i64 i, .int .i64 p2, .int .i64 q2, .slice A2 l2.length c2, .int .i64 wt2, .int .i64 fl2, .int .i64 gm, .int .i64 gp2, .int .i64 gl2], .slice B D.length d]) (by simp [results, Tryz.results75, go_sem, cr0, cr1, cr2, cr3, cr4, cr5, cr6, cr7, cr8, cr9, cr10]) rfl (by rw [HV.out]; exact ⟨A2, c2, B, d, rfl, HK2.out.1.2.1, HO.out, HK2.out.1.2.2⟩)

end Go.Proofs.YtdphdodjidbngaaGreat

namespace Go.Proofs.YtdphdodjidbngaaGreat
open Go.RowKit Go.Sort
set_option linter.unusedVariables false
set_option linter.unusedSimpArgs false

/-- What Put answers. -/
def REndP (r : (Ev × List Pk) × Int) (W : World) (x : Ending) (w' : World) : Prop :=
  ∃ A c B d, x = .returned (.tuple #[.agg (ec r.1.1 A c), .slice B r.1.2.length d, .int .i64 r.2]) ∧ Sl w' 1 A r.1.1.o.l.length c (scells r.1.1.o.l) ∧ OwnR W w' (.slice B r.1.2.length d) r.1.2 ∧ Below W.heap.size W w'

set_option maxRecDepth 20000 in
set_option maxHeartbeats 8000000 in
theorem r26put_any (e : Ev) (bound : Int) (y : List UInt8) (A : Option Addr) (c : Nat) (W : World) (h : Sl W 1 A e.o.l.length c (scells e.o.l)) (hl : e.o.l.length ≤ 999) (hy : y.length ≤ maxLen) :
    Calls Tryz.prog 26 #[.agg (ec e A c), .int .i64 bound, .string (str y)] W (REndP (putE e bound y) W) := by
  have HC := hid (fun w (hw : Below W.heap.size W w) => r24put_any e.o bound y A c w (h.below hw) hl hy)
  have HS0 := hid h
  have hne := putV_ne e.o bound y
  have hll : (putV e.o bound y).1.1.l.length ≤ 1000 := by have := putV_len e.o bound y; omega
  have HV0 : Hid (putE e bound y = if 32 < y.length then ((e, []), 1) else ((setO e (putV e.o bound y).1.1, dataV (setO e (putV e.o bound y).1.1) (putV e.o bound y).1.2), (putV e.o bound y).2)) := hid rfl
  have hsz : (str y).size = y.length := str_size y
  unfold maxLen at hy
  generalize putE e bound y = rv at *
  generalize putV e.o bound y = ov at *
  obtain ⟨⟨⟨p2, q2, l2, wt2, fl2⟩, bb⟩, er⟩ := ov
  obtain ⟨f, t, i, ⟨p, q, l, wt, fl⟩, gm, gp, gl⟩ := e
  simp only [setO] at HV0
  have HNE := hid hne
  have HLL := hid hll
  clear h hl hne hll
  simp only [ec, oc] at *
  by_cases h32 : 32 < y.length
  · have HV : Hid (rv = ((⟨f, t, i, ⟨p, q, l, wt, fl⟩, gm, gp, gl⟩, []), 1)) := hid (by rw [HV0.out, if_pos h32])
    have d1 : decide ((32 : Int) < (y.length : Int)) = true := decide_eq_true (by omega)
    clear HV0 HC HNE HLL
    rw [HV.out]
    clear HV
    go_enter Tryz.func26, Tryz.ntmps26
    go_wp2
    exact bodyPost_ret (v := .tuple #[.agg #[.int .i64 f, .int .i64 t, .int .i64 i, .int .i64 p, .int .i64 q, .slice A l.length c, .int .i64 wt, .int .i64 fl, .int .i64 gm, .int .i64 gp, .int .i64 gl], .slice none 0 0, .int .i64 1]) (by simp [results, Tryz.results26, go_sem]) rfl ⟨A, c, none, 0, rfl, HS0.out.below (below2 _ _ _), ownR_nil _ _, below2 _ _ _⟩
  have HV : Hid (rv = ((⟨f, t, i, ⟨p2, q2, l2, wt2, fl2⟩, gm, gp, gl⟩, dataV ⟨f, t, i, ⟨p2, q2, l2, wt2, fl2⟩, gm, gp, gl⟩ bb), er)) := hid (by rw [HV0.out, if_neg h32])
  have d1 : decide ((32 : Int) < (y.length : Int)) = false := decide_eq_false (by omega)
  clear HV0 h32
  go_enter Tryz.func26, Tryz.ntmps26
  go_upto_region 1 with (fail)
  refine at_world (fun u => u.heap[W.heap.size]? = some (.cells (ec ⟨f, t, i, ⟨p, q, l, wt, fl⟩, gm, gp, gl⟩ A c) 82 (0, 0)) ∧ u.heap[W.heap.size + 1]? = some (.cells ez 82 (0, 0)) ∧ Below W.heap.size W u) ⟨heap_first _ _ _, heap_second _ _ _, below2 _ _ _⟩ ?_
  rintro w1 ⟨hx1, hz1, hb1⟩
  obtain ⟨⟨cp0, cp1, cp2, cp3, cp4, cp5, cp6, cp7, cp8, cp9, cp10⟩, _⟩ := eleven_cells hx1
  have HX1 := hid hx1
  have HZ1 := hid hz1
  have HB1 := hid hb1
  clear hx1 hz1 hb1
  go_wp2_with fail
  refine (HC.out _ HB1.out).mono ?_
  rintro e w2 ⟨A2, c2, rfl, ho2, hb2⟩
  simp only [oc]
  clear cp0 cp1 cp2 cp3 cp4 cp5 cp6 cp7 cp8 cp9 cp10
  have HX2 := hid (keep0 HX1.out hb2)
  have HZ2 := hid (keep0 HZ1.out hb2)
  have HO2 := hid (ho2)
  have HB2 := hid (HB1.out.trans (hb2.mono HB1.out.size))
  clear HX1 HZ1 ho2 hb2 HB1 HC
  go_upto_region 4 with (fail)
  refine at_world (fun u => u.heap[w2.heap.size]? = some (.cells (oc ⟨p2, q2, l2, wt2, fl2⟩ A2 c2) 79 (0, 0)) ∧ u.heap[W.heap.size]? = some (.cells (ec ⟨f, t, i, ⟨p, q, l, wt, fl⟩, gm, gp, gl⟩ A c) 82 (0, 0)) ∧ u.heap[W.heap.size + 1]? = some (.cells ez 82 (0, 0)) ∧ Sl u 1 A2 l2.length c2 (scells l2) ∧ Below W.heap.size W u) ⟨heap_alloc_new _ _, keep0 HX2.out ((Below.refl _ _).alloc (Nat.le_refl _) _), keep0 HZ2.out ((Below.refl _ _).alloc (Nat.le_refl _) _), Sl.below HO2.out ((Below.refl _ _).alloc (Nat.le_refl _) _), HB2.out.alloc HB2.out.size _⟩ ?_
  rintro w3 ⟨ht3, hx3, hz3, ho3, hb3⟩
  obtain ⟨⟨z0, z1, z2, z3, z4⟩, _⟩ := five_cells ht3
  obtain ⟨_, ⟨cg0, cg1, cg2, cg3, cg4, cg5, cg6, cg7, cg8, cg9, cg10⟩⟩ := eleven_cells hx3
  have HS3 := hid (EY.out (o' := ⟨p2, q2, l2, wt2, fl2⟩) hx3 ho3 hb3 (Nat.le_refl _) rfl)
  have HZ3 := hid hz3
  clear ht3 hx3 hz3 ho3 hb3 HX2 HZ2 HO2 HB2
  generalize w2.heap.size = T at *
  go_upto_region 5 with (fail)
  refine at_world (fun u => EY W u W.heap.size ⟨f, t, i, ⟨p2, q2, l2, wt2, fl2⟩, gm, gp, gl⟩ A2 c2 ∧ u.heap[W.heap.size + 1]? = some (.cells ez 82 (0, 0))) ⟨HS3.out, by
    have hne : W.heap.size + 1 ≠ W.heap.size := by omega
    rw [Below.heap_setCell _ _ _ _ hne, Below.heap_setCell _ _ _ _ hne, Below.heap_setCell _ _ _ _ hne, Below.heap_setCell _ _ _ _ hne, Below.heap_setCell _ _ _ _ hne]
    exact HZ3.out⟩ ?_
  clear z0 z1 z2 z3 z4 cg0 cg1 cg2 cg3 cg4 cg5 cg6 cg7 cg8 cg9 cg10 HS3 HZ3
  rintro w4 ⟨hs4, hz4⟩
  have hk4 : KY W W.heap.size (W.heap.size + 1) ⟨f, t, i, ⟨p2, q2, l2, wt2, fl2⟩, gm, gp, gl⟩ A2 c2 w4 := ⟨hs4, _, _, _, _, _, _, _, _, _, _, _, hz4, ez_ns⟩
  have HK := hid hk4
  have HF := hid (fun w (hw : EY W w W.heap.size ⟨f, t, i, ⟨p2, q2, l2, wt2, fl2⟩, gm, gp, gl⟩ A2 c2) => data26_any ⟨f, t, i, ⟨p2, q2, l2, wt2, fl2⟩, gm, gp, gl⟩ bb HNE.out A2 c2 w hw.2.1)
  generalize hdv : dataV ⟨f, t, i, ⟨p2, q2, l2, wt2, fl2⟩, gm, gp, gl⟩ bb = D at *
  simp only [ec] at HF
  obtain ⟨⟨cp0, cp1, cp2, cp3, cp4, cp5, cp6, cp7, cp8, cp9, cp10⟩, ⟨cg0, cg1, cg2, cg3, cg4, cg5, cg6, cg7, cg8, cg9, cg10⟩⟩ := hk4.cells
  have hS : ∀ U, KY W W.heap.size (W.heap.size + 1) ⟨f, t, i, ⟨p2, q2, l2, wt2, fl2⟩, gm, gp, gl⟩ A2 c2 U → (((U.cell? ⟨W.heap.size, 0, none⟩ = some (.int .i64 f) ∧ U.cell? ⟨W.heap.size, 1, none⟩ = some (.int .i64 t) ∧ U.cell? ⟨W.heap.size, 2, none⟩ = some (.int .i64 i) ∧ U.cell? ⟨W.heap.size, 3, none⟩ = some (.int .i64 p2) ∧ U.cell? ⟨W.heap.size, 4, none⟩ = some (.int .i64 q2) ∧ U.cell? ⟨W.heap.size, 5, none⟩ = some (.slice A2 l2.length c2) ∧ U.cell? ⟨W.heap.size, 6, none⟩ = some (.int .i64 wt2) ∧ U.cell? ⟨W.heap.size, 7, none⟩ = some (.int .i64 fl2) ∧ U.cell? ⟨W.heap.size, 8, none⟩ = some (.int .i64 gm) ∧ U.cell? ⟨W.heap.size, 9, none⟩ = some (.int .i64 gp) ∧ U.cell? ⟨W.heap.size, 10, none⟩ = some (.int .i64 gl)) ∧ (U.frozen? ⟨W.heap.size + 1, 0, none⟩ = false ∧ U.frozen? ⟨W.heap.size + 1, 1, none⟩ = false ∧ U.frozen? ⟨W.heap.size + 1, 2, none⟩ = false ∧ U.frozen? ⟨W.heap.size + 1, 3, none⟩ = false ∧ U.frozen? ⟨W.heap.size + 1, 4, none⟩ = false ∧ U.frozen? ⟨W.heap.size + 1, 5, none⟩ = false ∧ U.frozen? ⟨W.heap.size + 1, 6, none⟩ = false ∧ U.frozen? ⟨W.heap.size + 1, 7, none⟩ = false ∧ U.frozen? ⟨W.heap.size + 1, 8, none⟩ = false ∧ U.frozen? ⟨W.heap.size + 1, 9, none⟩ = false ∧ U.frozen? ⟨W.heap.size + 1, 10, none⟩ = false)) ∧ KY W W.heap.size (W.heap.size + 1) ⟨f, t, i, ⟨p2, q2, l2, wt2, fl2⟩, gm, gp, gl⟩ A2 c2 U) := fun U h => ⟨h.cells, h⟩
  clear hs4 hz4 hk4
  go_upto_region 5 with (fail)
  have hk0 : KY W W.heap.size (W.heap.size + 1) ⟨f, t, i, ⟨p2, q2, l2, wt2, fl2⟩, gm, gp, gl⟩ A2 c2 w4.drew := HK.out.call (below_drew (Below.refl _ _))
  refine wp_region_held_drew (S := fun U => ((U.cell? ⟨W.heap.size, 0, none⟩ = some (.int .i64 f) ∧ U.cell? ⟨W.heap.size, 1, none⟩ = some (.int .i64 t) ∧ U.cell? ⟨W.heap.size, 2, none⟩ = some (.int .i64 i) ∧ U.cell? ⟨W.heap.size, 3, none⟩ = some (.int .i64 p2) ∧ U.cell? ⟨W.heap.size, 4, none⟩ = some (.int .i64 q2) ∧ U.cell? ⟨W.heap.size, 5, none⟩ = some (.slice A2 l2.length c2) ∧ U.cell? ⟨W.heap.size, 6, none⟩ = some (.int .i64 wt2) ∧ U.cell? ⟨W.heap.size, 7, none⟩ = some (.int .i64 fl2) ∧ U.cell? ⟨W.heap.size, 8, none⟩ = some (.int .i64 gm) ∧ U.cell? ⟨W.heap.size, 9, none⟩ = some (.int .i64 gp) ∧ U.cell? ⟨W.heap.size, 10, none⟩ = some (.int .i64 gl)) ∧ (U.frozen? ⟨W.heap.size + 1, 0, none⟩ = false ∧ U.frozen? ⟨W.heap.size + 1, 1, none⟩ = false ∧ U.frozen? ⟨W.heap.size + 1, 2, none⟩ = false ∧ U.frozen? ⟨W.heap.size + 1, 3, none⟩ = false ∧ U.frozen? ⟨W.heap.size + 1, 4, none⟩ = false ∧ U.frozen? ⟨W.heap.size + 1, 5, none⟩ = false ∧ U.frozen? ⟨W.heap.size + 1, 6, none⟩ = false ∧ U.frozen? ⟨W.heap.size + 1, 7, none⟩ = false ∧ U.frozen? ⟨W.heap.size + 1, 8, none⟩ = false ∧ U.frozen? ⟨W.heap.size + 1, 9, none⟩ = false ∧ U.frozen? ⟨W.heap.size + 1, 10, none⟩ = false)) ∧ KY W W.heap.size (W.heap.size + 1) ⟨f, t, i, ⟨p2, q2, l2, wt2, fl2⟩, gm, gp, gl⟩ A2 c2 U) (by kernel_rfl) (hS _ hk0) (fun hHeld => ?_)
  refine tkA 0 ?_ rfl ?_ (by assumption) ?_; rotate_left; focus (intro U hU; (try dsimp only at hU); go_simp; try (with_reducible rfl))
  simp only [gt6, Act.put]
  refine tkA 1 ?_ rfl ?_ (by assumption) ?_; rotate_left; focus (intro U hU; (try dsimp only at hU); go_simp; try (with_reducible rfl))
  simp only [gt6, Act.put]
  refine tkA 2 ?_ rfl ?_ (by assumption) ?_; rotate_left; focus (intro U hU; (try dsimp only at hU); go_simp; try (with_reducible rfl))
  simp only [gt6, Act.put]
  refine tkA 4 ?_ rfl ?_ (by assumption) ?_; rotate_left; focus (intro U hU; (try dsimp only at hU); go_simp; try (with_reducible rfl))
  simp only [gt6, Act.put]
  refine wpAnyH_ready (rs := [3]) (by kernel_rfl) (by simp) ?_
  refine AllReadyH.cons rfl (fun K hK => ?_) AllReadyH.nil
  simp only [gt3]
  go_simp
  refine (HF.out _ hk0.1).mono ?_
  rintro e u1 ⟨B, d, rfl, ho1, g1⟩
  have hk1 := hk0.call g1
  have hk1' := hk1
  obtain ⟨_, ⟨y0, y1, y2, y3, y4, y5, y6, y7, y8, y9, y10, hz1, hns1⟩⟩ := hk1'
  have hk2 := hk1.store (by omega) (by omega) (.int .i64 f) (.int .i64 t) (.int .i64 i) (.int .i64 p2) (.int .i64 q2) (.slice A2 l2.length c2) (.int .i64 wt2) (.int .i64 fl2) (.int .i64 gm) (.int .i64 gp) (.int .i64 gl) (ec_ns ⟨f, t, i, ⟨p2, q2, l2, wt2, fl2⟩, gm, gp, gl⟩ A2 c2)
  have hz5 := put11_heap hz1 (.int .i64 f) (.int .i64 t) (.int .i64 i) (.int .i64 p2) (.int .i64 q2) (.slice A2 l2.length c2) (.int .i64 wt2) (.int .i64 fl2) (.int .i64 gm) (.int .i64 gp) (.int .i64 gl)
  have ho5 : OwnR W (put11 u1 (W.heap.size + 1) (.int .i64 f) (.int .i64 t) (.int .i64 i) (.int .i64 p2) (.int .i64 q2) (.slice A2 l2.length c2) (.int .i64 wt2) (.int .i64 fl2) (.int .i64 gm) (.int .i64 gp) (.int .i64 gl)) (.slice B D.length d) D := own_at (own_mono ho1 hk0.1.2.2.size) hz1 (by decide) fun g hg => put11_other hg _ _ _ _ _ _ _ _ _ _ _
  simp only [put11] at hz5 ho5
  obtain ⟨_, ⟨cg0, cg1, cg2, cg3, cg4, cg5, cg6, cg7, cg8, cg9, cg10⟩⟩ := eleven_cells hz1
  clear ho1 hz1 g1
  go_wp2_with fail
  refine hK.out _ _ ?_ (fun hHeld2 => ?_)
  focus
    first | with_reducible exact hS _ hk2 | with_reducible exact hS _ hk1
  clear hHeld
  have hHeld := hHeld2
  clear hHeld2 hK K
  try simp only [gt6, Act.put]
  refine wpAnyH_ready (rs := [5]) (by kernel_rfl) (by simp) ?_
  refine AllReadyH.cons rfl (fun K hK => ?_) AllReadyH.nil
  simp only [gt3]
  go_simp
  refine hK.out _ _ ?_ (fun hHeld2 => ?_)
  focus
    first | with_reducible exact hS _ hk2 | with_reducible exact hS _ hk1
  clear hHeld
  have hHeld := hHeld2
  clear hHeld2 hK K
  try simp only [gt6, Act.put]
  refine tkA 6 ?_ rfl ?_ (by assumption) ?_; rotate_left; focus (intro U hU; (try dsimp only at hU); go_simp; try (with_reducible rfl))
  simp only [gt6, Act.put]
  refine tkA 7 ?_ rfl ?_ (by assumption) ?_; rotate_left; focus (intro U hU; (try dsimp only at hU); go_simp; try (with_reducible rfl))
  simp only [gt6, Act.put]
  refine wpAnyH_done (by kernel_rfl) ?_ _
  clear hHeld hS
  obtain ⟨⟨cr0, cr1, cr2, cr3, cr4, cr5, cr6, cr7, cr8, cr9, cr10⟩, _⟩ := eleven_cells hz5
  have HO := hid ho5
  have HK2 := hid hk2
  clear hz5 ho5 hk0 hk1 hk2
  go_wp2_with fail
  exact bodyPost_ret (v := .tuple #[.agg #[.int .i64 f, .int .i64 t, .int .i64 i, .int .i64 p2, .int .i64 q2, .slice A2 l2.length c2, .int .i64 wt2, .int .i64 fl2, .int .i64 gm, .int .i64 gp, .int .i64 gl], .slice B D.length d, .int .i64 er]) (by simp [results, Tryz.results26, go_sem, cr0, cr1, cr2, cr3, cr4, cr5, cr6, cr7, cr8, cr9, cr10]) rfl (by rw [HV.out]; exact ⟨A2, c2, B, d, rfl, HK2.out.1.2.1, HO.out, HK2.out.1.2.2⟩)

set_option maxRecDepth 20000 in
theorem r24new_any (W : World) : Calls Tryz.prog 90 #[] W fun e w' => e = .returned (.agg (oc ⟨1, 1, [], 1, 0⟩ none 0)) ∧ Below W.heap.size W w' := by
  go_enter Tryz.func90, Tryz.ntmps90
  go_wp2
  exact bodyPost_ret (v := .agg #[.int .i64 1, .int .i64 1, .slice none 0 0, .int .i64 1, .int .i64 0]) (by simp [results, Tryz.results90, go_sem]) rfl ⟨rfl, (Below.refl _ _).alloc (Nat.le_refl _) _⟩
end Go.Proofs.YtdphdodjidbngaaGreat

namespace Go.Proofs.YtdphdodjidbngaaGreat
open Go.RowKit Go.Sort
set_option linter.unusedVariables false
set_option linter.unusedSimpArgs false

theorem fourteen_cells {w : World} {b t : Nat} {x0 x1 x2 x3 x4 x5 x6 x7 x8 x9 x10 x11 x12 x13 : Value} (h : w.heap[b]? = some (.cells #[x0, x1, x2, x3, x4, x5, x6, x7, x8, x9, x10, x11, x12, x13] t (0, 0))) :
    (w.cell? ⟨b, 0, none⟩ = some x0 ∧ w.cell? ⟨b, 1, none⟩ = some x1 ∧ w.cell? ⟨b, 2, none⟩ = some x2 ∧ w.cell? ⟨b, 3, none⟩ = some x3 ∧ w.cell? ⟨b, 4, none⟩ = some x4 ∧ w.cell? ⟨b, 5, none⟩ = some x5 ∧ w.cell? ⟨b, 6, none⟩ = some x6 ∧ w.cell? ⟨b, 7, none⟩ = some x7 ∧ w.cell? ⟨b, 8, none⟩ = some x8 ∧ w.cell? ⟨b, 9, none⟩ = some x9 ∧ w.cell? ⟨b, 10, none⟩ = some x10 ∧ w.cell? ⟨b, 11, none⟩ = some x11 ∧ w.cell? ⟨b, 12, none⟩ = some x12 ∧ w.cell? ⟨b, 13, none⟩ = some x13) ∧ (w.frozen? ⟨b, 0, none⟩ = false ∧ w.frozen? ⟨b, 1, none⟩ = false ∧ w.frozen? ⟨b, 2, none⟩ = false ∧ w.frozen? ⟨b, 3, none⟩ = false ∧ w.frozen? ⟨b, 4, none⟩ = false ∧ w.frozen? ⟨b, 5, none⟩ = false ∧ w.frozen? ⟨b, 6, none⟩ = false ∧ w.frozen? ⟨b, 7, none⟩ = false ∧ w.frozen? ⟨b, 8, none⟩ = false ∧ w.frozen? ⟨b, 9, none⟩ = false ∧ w.frozen? ⟨b, 10, none⟩ = false ∧ w.frozen? ⟨b, 11, none⟩ = false ∧ w.frozen? ⟨b, 12, none⟩ = false ∧ w.frozen? ⟨b, 13, none⟩ = false) := by
  refine ⟨⟨?_, ?_, ?_, ?_, ?_, ?_, ?_, ?_, ?_, ?_, ?_, ?_, ?_, ?_⟩, ⟨frozen_of_row w b 0 _ t h, frozen_of_row w b 1 _ t h, frozen_of_row w b 2 _ t h, frozen_of_row w b 3 _ t h, frozen_of_row w b 4 _ t h, frozen_of_row w b 5 _ t h, frozen_of_row w b 6 _ t h, frozen_of_row w b 7 _ t h, frozen_of_row w b 8 _ t h, frozen_of_row w b 9 _ t h, frozen_of_row w b 10 _ t h, frozen_of_row w b 11 _ t h, frozen_of_row w b 12 _ t h, frozen_of_row w b 13 _ t h⟩⟩
  · rw [cell_of_row w b 0 _ _ _ h]; rfl
  · rw [cell_of_row w b 1 _ _ _ h]; rfl
  · rw [cell_of_row w b 2 _ _ _ h]; rfl
  · rw [cell_of_row w b 3 _ _ _ h]; rfl
  · rw [cell_of_row w b 4 _ _ _ h]; rfl
  · rw [cell_of_row w b 5 _ _ _ h]; rfl
  · rw [cell_of_row w b 6 _ _ _ h]; rfl
  · rw [cell_of_row w b 7 _ _ _ h]; rfl
  · rw [cell_of_row w b 8 _ _ _ h]; rfl
  · rw [cell_of_row w b 9 _ _ _ h]; rfl
  · rw [cell_of_row w b 10 _ _ _ h]; rfl
  · rw [cell_of_row w b 11 _ _ _ h]; rfl
  · rw [cell_of_row w b 12 _ _ _ h]; rfl
  · rw [cell_of_row w b 13 _ _ _ h]; rfl
def put14 (w : World) (b : Nat) (a0 a1 a2 a3 a4 a5 a6 a7 a8 a9 a10 a11 a12 a13 : Value) : World := (((((((((((((w.setCell ⟨b, 0, none⟩ a0).setCell ⟨b, 1, none⟩ a1).setCell ⟨b, 2, none⟩ a2).setCell ⟨b, 3, none⟩ a3).setCell ⟨b, 4, none⟩ a4).setCell ⟨b, 5, none⟩ a5).setCell ⟨b, 6, none⟩ a6).setCell ⟨b, 7, none⟩ a7).setCell ⟨b, 8, none⟩ a8).setCell ⟨b, 9, none⟩ a9).setCell ⟨b, 10, none⟩ a10).setCell ⟨b, 11, none⟩ a11).setCell ⟨b, 12, none⟩ a12).setCell ⟨b, 13, none⟩ a13
theorem put14_heap {w : World} {b t : Nat} {x0 x1 x2 x3 x4 x5 x6 x7 x8 x9 x10 x11 x12 x13 : Value} (h : w.heap[b]? = some (.cells #[x0, x1, x2, x3, x4, x5, x6, x7, x8, x9, x10, x11, x12, x13] t (0, 0))) (a0 a1 a2 a3 a4 a5 a6 a7 a8 a9 a10 a11 a12 a13 : Value) : (put14 w b a0 a1 a2 a3 a4 a5 a6 a7 a8 a9 a10 a11 a12 a13).heap[b]? = some (.cells #[a0, a1, a2, a3, a4, a5, a6, a7, a8, a9, a10, a11, a12, a13] t (0, 0)) := by
  have h1 : (w.setCell ⟨b, 0, none⟩ a0).heap[b]? = some (.cells #[a0, x1, x2, x3, x4, x5, x6, x7, x8, x9, x10, x11, x12, x13] t (0, 0)) := by rw [heap_setCell_same w b 0 _ t a0 h]; rfl
  have h2 : ((w.setCell ⟨b, 0, none⟩ a0).setCell ⟨b, 1, none⟩ a1).heap[b]? = some (.cells #[a0, a1, x2, x3, x4, x5, x6, x7, x8, x9, x10, x11, x12, x13] t (0, 0)) := by rw [heap_setCell_same (w.setCell ⟨b, 0, none⟩ a0) b 1 _ t a1 h1]; rfl
  have h3 : (((w.setCell ⟨b, 0, none⟩ a0).setCell ⟨b, 1, none⟩ a1).setCell ⟨b, 2, none⟩ a2).heap[b]? = some (.cells #[a0, a1, a2, x3, x4, x5, x6, x7, x8, x9, x10, x11, x12, x13] t (0, 0)) := by rw [heap_setCell_same ((w.setCell ⟨b, 0, none⟩ a0).setCell ⟨b, 1, none⟩ a1) b 2 _ t a2 h2]; rfl
  have h4 : ((((w.setCell ⟨b, 0, none⟩ a0).setCell ⟨b, 1, none⟩ a1).setCell ⟨b, 2, none⟩ a2).setCell ⟨b, 3, none⟩ a3).heap[b]? = some (.cells #[a0, a1, a2, a3, x4, x5, x6, x7, x8, x9, x10, x11, x12, x13] t (0, 0)) := by rw [heap_setCell_same (((w.setCell ⟨b, 0, none⟩ a0).setCell ⟨b, 1, none⟩ a1).setCell ⟨b, 2, none⟩ a2) b 3 _ t a3 h3]; rfl
  have h5 : (((((w.setCell ⟨b, 0, none⟩ a0).setCell ⟨b, 1, none⟩ a1).setCell ⟨b, 2, none⟩ a2).setCell ⟨b, 3, none⟩ a3).setCell ⟨b, 4, none⟩ a4).heap[b]? = some (.cells #[a0, a1, a2, a3, a4, x5, x6, x7, x8, x9, x10, x11, x12, x13] t (0, 0)) := by rw [heap_setCell_same ((((w.setCell ⟨b, 0, none⟩ a0).setCell ⟨b, 1, none⟩ a1).setCell ⟨b, 2, none⟩ a2).setCell ⟨b, 3, none⟩ a3) b 4 _ t a4 h4]; rfl
  have h6 : ((((((w.setCell ⟨b, 0, none⟩ a0).setCell ⟨b, 1, none⟩ a1).setCell ⟨b, 2, none⟩ a2).setCell ⟨b, 3, none⟩ a3).setCell ⟨b, 4, none⟩ a4).setCell ⟨b, 5, none⟩ a5).heap[b]? = some (.cells #[a0, a1, a2, a3, a4, a5, x6, x7, x8, x9, x10, x11, x12, x13] t (0, 0)) := by rw [heap_setCell_same (((((w.setCell ⟨b, 0, none⟩ a0).setCell ⟨b, 1, none⟩ a1).setCell ⟨b, 2, none⟩ a2).setCell ⟨b, 3, none⟩ a3).setCell ⟨b, 4, none⟩ a4) b 5 _ t a5 h5]; rfl
  have h7 : (((((((w.setCell ⟨b, 0, none⟩ a0).setCell ⟨b, 1, none⟩ a1).setCell ⟨b, 2, none⟩ a2).setCell ⟨b, 3, none⟩ a3).setCell ⟨b, 4, none⟩ a4).setCell ⟨b, 5, none⟩ a5).setCell ⟨b, 6, none⟩ a6).heap[b]? = some (.cells #[a0, a1, a2, a3, a4, a5, a6, x7, x8, x9, x10, x11, x12, x13] t (0, 0)) := by rw [heap_setCell_same ((((((w.setCell ⟨b, 0, none⟩ a0).setCell ⟨b, 1, none⟩ a1).setCell ⟨b, 2, none⟩ a2).setCell ⟨b, 3, none⟩ a3).setCell ⟨b, 4, none⟩ a4).setCell ⟨b, 5, none⟩ a5) b 6 _ t a6 h6]; rfl
  have h8 : ((((((((w.setCell ⟨b, 0, none⟩ a0).setCell ⟨b, 1, none⟩ a1).setCell ⟨b, 2, none⟩ a2).setCell ⟨b, 3, none⟩ a3).setCell ⟨b, 4, none⟩ a4).setCell ⟨b, 5, none⟩ a5).setCell ⟨b, 6, none⟩ a6).setCell ⟨b, 7, none⟩ a7).heap[b]? = some (.cells #[a0, a1, a2, a3, a4, a5, a6, a7, x8, x9, x10, x11, x12, x13] t (0, 0)) := by rw [heap_setCell_same (((((((w.setCell ⟨b, 0, none⟩ a0).setCell ⟨b, 1, none⟩ a1).setCell ⟨b, 2, none⟩ a2).setCell ⟨b, 3, none⟩ a3).setCell ⟨b, 4, none⟩ a4).setCell ⟨b, 5, none⟩ a5).setCell ⟨b, 6, none⟩ a6) b 7 _ t a7 h7]; rfl
  have h9 : (((((((((w.setCell ⟨b, 0, none⟩ a0).setCell ⟨b, 1, none⟩ a1).setCell ⟨b, 2, none⟩ a2).setCell ⟨b, 3, none⟩ a3).setCell ⟨b, 4, none⟩ a4).setCell ⟨b, 5, none⟩ a5).setCell ⟨b, 6, none⟩ a6).setCell ⟨b, 7, none⟩ a7).setCell ⟨b, 8, none⟩ a8).heap[b]? = some (.cells #[a0, a1, a2, a3, a4, a5, a6, a7, a8, x9, x10, x11, x12, x13] t (0, 0)) := by rw [heap_setCell_same ((((((((w.setCell ⟨b, 0, none⟩ a0).setCell ⟨b, 1, none⟩ a1).setCell ⟨b, 2, none⟩ a2).setCell ⟨b, 3, none⟩ a3).setCell ⟨b, 4, none⟩ a4).setCell ⟨b, 5, none⟩ a5).setCell ⟨b, 6, none⟩ a6).setCell ⟨b, 7, none⟩ a7) b 8 _ t a8 h8]; rfl
  have h10 : ((((((((((w.setCell ⟨b, 0, none⟩ a0).setCell ⟨b, 1, none⟩ a1).setCell ⟨b, 2, none⟩ a2).setCell ⟨b, 3, none⟩ a3).setCell ⟨b, 4, none⟩ a4).setCell ⟨b, 5, none⟩ a5).setCell ⟨b, 6, none⟩ a6).setCell ⟨b, 7, none⟩ a7).setCell ⟨b, 8, none⟩ a8).setCell ⟨b, 9, none⟩ a9).heap[b]? = some (.cells #[a0, a1, a2, a3, a4, a5, a6, a7, a8, a9, x10, x11, x12, x13] t (0, 0)) := by rw [heap_setCell_same (((((((((w.setCell ⟨b, 0, none⟩ a0).setCell ⟨b, 1, none⟩ a1).setCell ⟨b, 2, none⟩ a2).setCell ⟨b, 3, none⟩ a3).setCell ⟨b, 4, none⟩ a4).setCell ⟨b, 5, none⟩ a5).setCell ⟨b, 6, none⟩ a6).setCell ⟨b, 7, none⟩ a7).setCell ⟨b, 8, none⟩ a8) b 9 _ t a9 h9]; rfl
  have h11 : (((((((((((w.setCell ⟨b, 0, none⟩ a0).setCell ⟨b, 1, none⟩ a1).setCell ⟨b, 2, none⟩ a2).setCell ⟨b, 3, none⟩ a3).setCell ⟨b, 4, none⟩ a4).setCell ⟨b, 5, none⟩ a5).setCell ⟨b, 6, none⟩ a6).setCell ⟨b, 7, none⟩ a7).setCell ⟨b, 8, none⟩ a8).setCell ⟨b, 9, none⟩ a9).setCell ⟨b, 10, none⟩ a10).heap[b]? = some (.cells #[a0, a1, a2, a3, a4, a5, a6, a7, a8, a9, a10, x11, x12, x13] t (0, 0)) := by rw [heap_setCell_same ((((((((((w.setCell ⟨b, 0, none⟩ a0).setCell ⟨b, 1, none⟩ a1).setCell ⟨b, 2, none⟩ a2).setCell ⟨b, 3, none⟩ a3).setCell ⟨b, 4, none⟩ a4).setCell ⟨b, 5, none⟩ a5).setCell ⟨b, 6, none⟩ a6).setCell ⟨b, 7, none⟩ a7).setCell ⟨b, 8, none⟩ a8).setCell ⟨b, 9, none⟩ a9) b 10 _ t a10 h10]; rfl
  have h12 : ((((((((((((w.setCell ⟨b, 0, none⟩ a0).setCell ⟨b, 1, none⟩ a1).setCell ⟨b, 2, none⟩ a2).setCell ⟨b, 3, none⟩ a3).setCell ⟨b, 4, none⟩ a4).setCell ⟨b, 5, none⟩ a5).setCell ⟨b, 6, none⟩ a6).setCell ⟨b, 7, none⟩ a7).setCell ⟨b, 8, none⟩ a8).setCell ⟨b, 9, none⟩ a9).setCell ⟨b, 10, none⟩ a10).setCell ⟨b, 11, none⟩ a11).heap[b]? = some (.cells #[a0, a1, a2, a3, a4, a5, a6, a7, a8, a9, a10, a11, x12, x13] t (0, 0)) := by rw [heap_setCell_same (((((((((((w.setCell ⟨b, 0, none⟩ a0).setCell ⟨b, 1, none⟩ a1).setCell ⟨b, 2, none⟩ a2).setCell ⟨b, 3, none⟩ a3).setCell ⟨b, 4, none⟩ a4).setCell ⟨b, 5, none⟩ a5).setCell ⟨b, 6, none⟩ a6).setCell ⟨b, 7, none⟩ a7).setCell ⟨b, 8, none⟩ a8).setCell ⟨b, 9, none⟩ a9).setCell ⟨b, 10, none⟩ a10) b 11 _ t a11 h11]; rfl
  have h13 : (((((((((((((w.setCell ⟨b, 0, none⟩ a0).setCell ⟨b, 1, none⟩ a1).setCell ⟨b, 2, none⟩ a2).setCell ⟨b, 3, none⟩ a3).setCell ⟨b, 4, none⟩ a4).setCell ⟨b, 5, none⟩ a5).setCell ⟨b, 6, none⟩ a6).setCell ⟨b, 7, none⟩ a7).setCell ⟨b, 8, none⟩ a8).setCell ⟨b, 9, none⟩ a9).setCell ⟨b, 10, none⟩ a10).setCell ⟨b, 11, none⟩ a11).setCell ⟨b, 12, none⟩ a12).heap[b]? = some (.cells #[a0, a1, a2, a3, a4, a5, a6, a7, a8, a9, a10, a11, a12, x13] t (0, 0)) := by rw [heap_setCell_same ((((((((((((w.setCell ⟨b, 0, none⟩ a0).setCell ⟨b, 1, none⟩ a1).setCell ⟨b, 2, none⟩ a2).setCell ⟨b, 3, none⟩ a3).setCell ⟨b, 4, none⟩ a4).setCell ⟨b, 5, none⟩ a5).setCell ⟨b, 6, none⟩ a6).setCell ⟨b, 7, none⟩ a7).setCell ⟨b, 8, none⟩ a8).setCell ⟨b, 9, none⟩ a9).setCell ⟨b, 10, none⟩ a10).setCell ⟨b, 11, none⟩ a11) b 12 _ t a12 h12]; rfl
  have h14 : ((((((((((((((w.setCell ⟨b, 0, none⟩ a0).setCell ⟨b, 1, none⟩ a1).setCell ⟨b, 2, none⟩ a2).setCell ⟨b, 3, none⟩ a3).setCell ⟨b, 4, none⟩ a4).setCell ⟨b, 5, none⟩ a5).setCell ⟨b, 6, none⟩ a6).setCell ⟨b, 7, none⟩ a7).setCell ⟨b, 8, none⟩ a8).setCell ⟨b, 9, none⟩ a9).setCell ⟨b, 10, none⟩ a10).setCell ⟨b, 11, none⟩ a11).setCell ⟨b, 12, none⟩ a12).setCell ⟨b, 13, none⟩ a13).heap[b]? = some (.cells #[a0, a1, a2, a3, a4, a5, a6, a7, a8, a9, a10, a11, a12, a13] t (0, 0)) := by rw [heap_setCell_same (((((((((((((w.setCell ⟨b, 0, none⟩ a0).setCell ⟨b, 1, none⟩ a1).setCell ⟨b, 2, none⟩ a2).setCell ⟨b, 3, none⟩ a3).setCell ⟨b, 4, none⟩ a4).setCell ⟨b, 5, none⟩ a5).setCell ⟨b, 6, none⟩ a6).setCell ⟨b, 7, none⟩ a7).setCell ⟨b, 8, none⟩ a8).setCell ⟨b, 9, none⟩ a9).setCell ⟨b, 10, none⟩ a10).setCell ⟨b, 11, none⟩ a11).setCell ⟨b, 12, none⟩ a12) b 13 _ t a13 h13]; rfl
  unfold put14
  exact h14
theorem put14_below {n : Nat} {W w : World} {b : Nat} (h : Below n W w) (hb : n ≤ b) (a0 a1 a2 a3 a4 a5 a6 a7 a8 a9 a10 a11 a12 a13 : Value) : Below n W (put14 w b a0 a1 a2 a3 a4 a5 a6 a7 a8 a9 a10 a11 a12 a13) :=
  ((((((((((((((h.setCell (p := ⟨b, 0, none⟩) hb a0).setCell (p := ⟨b, 1, none⟩) hb a1).setCell (p := ⟨b, 2, none⟩) hb a2).setCell (p := ⟨b, 3, none⟩) hb a3).setCell (p := ⟨b, 4, none⟩) hb a4).setCell (p := ⟨b, 5, none⟩) hb a5).setCell (p := ⟨b, 6, none⟩) hb a6).setCell (p := ⟨b, 7, none⟩) hb a7).setCell (p := ⟨b, 8, none⟩) hb a8).setCell (p := ⟨b, 9, none⟩) hb a9).setCell (p := ⟨b, 10, none⟩) hb a10).setCell (p := ⟨b, 11, none⟩) hb a11).setCell (p := ⟨b, 12, none⟩) hb a12).setCell (p := ⟨b, 13, none⟩) hb a13)
theorem put14_other {w : World} {b g : Nat} (hg : g ≠ b) (a0 a1 a2 a3 a4 a5 a6 a7 a8 a9 a10 a11 a12 a13 : Value) : (put14 w b a0 a1 a2 a3 a4 a5 a6 a7 a8 a9 a10 a11 a12 a13).heap[g]? = w.heap[g]? := by
  unfold put14
  rw [Below.heap_setCell _ _ _ _ hg, Below.heap_setCell _ _ _ _ hg, Below.heap_setCell _ _ _ _ hg, Below.heap_setCell _ _ _ _ hg, Below.heap_setCell _ _ _ _ hg, Below.heap_setCell _ _ _ _ hg, Below.heap_setCell _ _ _ _ hg, Below.heap_setCell _ _ _ _ hg, Below.heap_setCell _ _ _ _ hg, Below.heap_setCell _ _ _ _ hg, Below.heap_setCell _ _ _ _ hg, Below.heap_setCell _ _ _ _ hg, Below.heap_setCell _ _ _ _ hg, Below.heap_setCell _ _ _ _ hg]

set_option maxRecDepth 20000 in
theorem r26new_any (f t i : Int) (W : World) : Calls Tryz.prog 49 #[.int .i64 f, .int .i64 t, .int .i64 i] W fun e w' => e = .returned (.agg (ec (newE f t i) none 0)) ∧ Below W.heap.size W w' := by
  have HN := hid (fun w => r24new_any w)
  simp only [oc, List.length_nil] at HN
  go_enter Tryz.func49, Tryz.ntmps49
  go_upto_region 1 with (fail)
  refine at_world (fun u => u.heap[W.heap.size]? = some (.cells ez 82 (0, 0)) ∧ Below W.heap.size W u) ⟨heap_alloc_new _ _, (Below.refl _ _).alloc (Nat.le_refl _) _⟩ ?_
  rintro w1 ⟨hz, hb⟩
  have HZ := hid hz
  have HB := hid hb
  clear hz hb
  go_wp2_with fail
  refine (HN.out _).mono ?_
  rintro e w2 ⟨rfl, hb2⟩
  have hz2 := keep0 HZ.out hb2
  have hb9 := HB.out.trans (hb2.mono HB.out.size)
  have HB9 := hid (put11_below hb9 (Nat.le_refl _) (.int .i64 f) (.int .i64 t) (.int .i64 i) (.int .i64 1) (.int .i64 1) (.slice none 0 0) (.int .i64 1) (.int .i64 0) (.int .i64 i) (.int .i64 1) (.int .i64 0))
  have hq := put11_heap hz2 (.int .i64 f) (.int .i64 t) (.int .i64 i) (.int .i64 1) (.int .i64 1) (.slice none 0 0) (.int .i64 1) (.int .i64 0) (.int .i64 i) (.int .i64 1) (.int .i64 0)
  obtain ⟨⟨r0, r1, r2, r3, r4, r5, r6, r7, r8, r9, r10⟩, _⟩ := eleven_cells hq
  obtain ⟨_, ⟨cg0, cg1, cg2, cg3, cg4, cg5, cg6, cg7, cg8, cg9, cg10⟩⟩ := eleven_cells hz2
  simp only [put11] at r0 r1 r2 r3 r4 r5 r6 r7 r8 r9 r10
  clear hz2 hb9 hq hb2 HN
  go_wp2
  exact bodyPost_ret (v := .agg #[.int .i64 f, .int .i64 t, .int .i64 i, .int .i64 1, .int .i64 1, .slice none 0 0, .int .i64 1, .int .i64 0, .int .i64 i, .int .i64 1, .int .i64 0]) (by simp [results, Tryz.results49, go_sem, r0, r1, r2, r3, r4, r5, r6, r7, r8, r9, r10]) rfl ⟨rfl, HB9.out⟩

/-- What Take answers: the end's cells, the text, whether it came, the packets. -/
def tkc (e : Ev) (A : Option Addr) (c : Nat) (tx : ByteArray) (got : Bool) (B : Option Addr) (n d : Nat) : Array Value :=
  #[.int .i64 e.f, .int .i64 e.t, .int .i64 e.i, .int .i64 e.o.p, .int .i64 e.o.q, .slice A e.o.l.length c, .int .i64 e.o.w, .int .i64 e.o.f, .int .i64 e.m, .int .i64 e.p, .int .i64 e.l, .string tx, .bool got, .slice B n d]
def RTook (r : Ev × List Pk) (tx : ByteArray) (got : Bool) (W : World) (y : Ending) (w' : World) : Prop :=
  ∃ A c B d, y = .returned (.agg (tkc r.1 A c tx got B r.2.length d)) ∧ Sl w' 1 A r.1.o.l.length c (scells r.1.o.l) ∧ Sl w' 7 B r.2.length d (gcells pkc r.2) ∧ Below W.heap.size W w'
end Go.Proofs.YtdphdodjidbngaaGreat

