/- Plain words that every text of this seat uses: a fact kept from the walk; what a slice reads as; append onto a row of the call's own. -/
import Derived.WalkKit
import Derived.Laws.BitsAllLaws
import Derived.Laws.AppendOwnNone
import Derived.Laws.CopyOwn
import Derived.Laws.BytesArg
import Derived.Laws.IdiomStrings
import Derived.Lib.SlBytesConst
import Derived.Lib.ConvBytes
import Derived.Lib.QuietBelow
namespace Go.Proofs.Ytdphdodjidbngaa
open Go.RowKit

theorem hid {p : Prop} (h : p) : Hid p := h

theorem lt_of_cell {w : World} {a : Addr} {v : Value} (h : w.cell? a = some v) : a.block < w.heap.size := by
  rcases Nat.lt_or_ge a.block w.heap.size with h' | h'
  · exact h'
  · simp [World.cell?, Array.getElem?_eq_none h'] at h

/-- The slice (a, len, cap), of elements of 'size' cells, reads as the cells xs in the world w. -/
def Sl (w : World) (size : Nat) (a : Option Addr) (len cap : Nat) (xs : List Value) : Prop :=
  xs.length = len * size ∧ len ≤ cap ∧ cap ≤ maxLen ∧ (0 < xs.length → ∃ b off, a = some ⟨b, off, none⟩ ∧ ∀ i, i < xs.length → w.cell? ⟨b, off + i, none⟩ = xs[i]?)

theorem Sl.below {w w' : World} {size : Nat} {a : Option Addr} {len cap : Nat} {xs : List Value} (h : Sl w size a len cap xs) (hb : Below w.heap.size w w') : Sl w' size a len cap xs := by
  obtain ⟨h1, h2, h3, h4⟩ := h
  refine ⟨h1, h2, h3, fun h0 => ?_⟩
  obtain ⟨b, off, ha, hc⟩ := h4 h0
  refine ⟨b, off, ha, fun i hi => ?_⟩
  have := hc i hi
  rw [List.getElem?_eq_getElem hi] at this
  rw [hb.cell (p := ⟨b, off + i, none⟩) (lt_of_cell this), List.getElem?_eq_getElem hi]
  exact this

theorem Sl.at {w : World} {size : Nat} {a : Option Addr} {len cap : Nat} {xs : List Value} (h : Sl w size a len cap xs) (i : Nat) (hi : i < xs.length) :
    ∃ b off, a = some ⟨b, off, none⟩ ∧ w.cell? ⟨b, off + i, none⟩ = some xs[i] := by
  obtain ⟨b, off, ha, hc⟩ := h.2.2.2 (by omega)
  exact ⟨b, off, ha, by rw [hc i hi, List.getElem?_eq_getElem hi]⟩

theorem Sl.nil (w : World) (size cap : Nat) (a : Option Addr) (hc : cap ≤ maxLen) : Sl w size a 0 cap [] := ⟨by simp, Nat.zero_le _, hc, fun h => by simp at h⟩

theorem Sl.take {w : World} {size : Nat} {a : Option Addr} {len cap : Nat} {xs : List Value} (h : Sl w size a len cap xs) (k : Nat) (hk : k ≤ len) : Sl w size a k cap (xs.take (k * size)) := by
  obtain ⟨h1, h2, h3, h4⟩ := h
  have hm : k * size ≤ len * size := Nat.mul_le_mul_right _ hk
  have hl : (xs.take (k * size)).length = k * size := by simp; omega
  refine ⟨hl, by omega, h3, fun h0 => ?_⟩
  obtain ⟨b, off, ha, hc⟩ := h4 (by omega)
  refine ⟨b, off, ha, fun i hi => ?_⟩
  rw [hc i (by omega), List.getElem?_take, if_pos (by omega)]

theorem Sl.of_own {w : World} {base e size n : Nat} {v : Value} {xs : List Value} (h : w.ownsRow base e size v n xs) : ∃ a c, v = .slice a n c ∧ Sl w size a n c xs := by
  rcases h.2 with ⟨rfl, rfl⟩ | ⟨g, cap, cur, rfl, hb, hg, hnc, hcm, hcs, ht⟩
  · exact ⟨none, 0, rfl, h.1, Nat.le_refl _, Nat.zero_le _, fun h0 => by have := h.1; omega⟩
  · refine ⟨_, _, rfl, h.1, hnc, hcm, fun _ => ⟨g, 0, rfl, fun i hi => ?_⟩⟩
    rw [cell_of_row w g (0 + i) cur e (0, 0) hg, ← ht, Nat.zero_add, List.getElem?_take, if_pos (by have := h.1; omega)]
    simp

/-- The source of a copy, as its law asks for it. -/
theorem Sl.src {w w' : World} {a : Option Addr} {len cap : Nat} {xs : List Value} (h : Sl w 1 a len cap xs) (hb : Below w.heap.size w w') :
    0 < xs.length → ∃ ad, a = some ad ∧ ∀ (j : Nat) (v : Value), xs[j]? = some v → w'.cell? (ad.add j) = some v := by
  intro h0
  obtain ⟨b, off, ha, hc⟩ := (h.below hb).2.2.2 h0
  refine ⟨_, ha, fun j v hj => ?_⟩
  have : (⟨b, off, none⟩ : Addr).add j = ⟨b, off + j, none⟩ := by
    simp only [Addr.add]; split
    · subst j; rfl
    · rfl
  rw [this, hc j (List.getElem?_eq_some_iff.1 hj).1, hj]

theorem own_of_splice {w : World} {base g e n cap : Nat} {xs : List Value} {z : Value} (hg : w.heap[g]? = some (.cells (splice (List.replicate cap z) 0 xs).toArray e (0, 0))) (hb : base ≤ g) (hn : xs.length = n) (hnc : n ≤ cap) (hm : cap ≤ maxLen) :
    w.ownsRow base e 1 (.slice (some ⟨g, 0, none⟩) n cap) n xs := by
  refine ⟨by omega, .inr ⟨g, cap, _, rfl, hb, hg, by omega, hm, by simp [splice]; omega, by simp [splice, ← hn]⟩⟩

def bcells (l : List UInt8) : List Value := l.map fun c => .int .u8 (c.toNat : Int)
theorem bcells_length (l : List UInt8) : (bcells l).length = l.length := by simp [bcells]
theorem bcells_append (l m : List UInt8) : bcells (l ++ m) = bcells l ++ bcells m := by simp [bcells]
theorem bcells_one (l : List UInt8) : ∀ u ∈ bcells l, u.oneCell' = true := by
  intro u hu
  simp only [bcells, List.mem_map] at hu
  obtain ⟨c, _, rfl⟩ := hu
  rfl

/-- The slice reads as the bytes l. -/
def IsBytes (w : World) (a : Option Addr) (len cap : Nat) (l : List UInt8) : Prop := Sl w 1 a len cap (bcells l)
theorem IsBytes.below {w w' : World} {a : Option Addr} {len cap : Nat} {l : List UInt8} (h : IsBytes w a len cap l) (hb : Below w.heap.size w w') : IsBytes w' a len cap l := Sl.below h hb
theorem IsBytes.at {w : World} {a : Option Addr} {len cap : Nat} {l : List UInt8} (h : IsBytes w a len cap l) (i : Nat) (hi : i < l.length) :
    ∃ b off, a = some ⟨b, off, none⟩ ∧ w.cell? ⟨b, off + i, none⟩ = some (.int .u8 ((l.getD i 0).toNat : Int)) := by
  obtain ⟨b, off, ha, hc⟩ := Sl.at h i (by rw [bcells_length]; exact hi)
  refine ⟨b, off, ha, ?_⟩
  rw [hc]
  simp [bcells, hi]
theorem IsBytes.len {w : World} {a : Option Addr} {len cap : Nat} {l : List UInt8} (h : IsBytes w a len cap l) : len = l.length ∧ len ≤ cap ∧ cap ≤ maxLen := by
  have := h.1; rw [bcells_length] at this
  exact ⟨by omega, h.2.1, h.2.2.1⟩
theorem IsBytes.take {w : World} {a : Option Addr} {len cap : Nat} {l : List UInt8} (h : IsBytes w a len cap l) (k : Nat) (hk : k ≤ l.length) : IsBytes w a k cap (l.take k) := by
  have := Sl.take h k (by rw [h.len.1]; exact hk)
  simpa [IsBytes, bcells] using this

theorem bcell {w w1 : World} {B : Nat} (hb : Below B w w1) : (∀ b o, b < B → w1.cell? ⟨b, o, none⟩ = w.cell? ⟨b, o, none⟩) ∧ (∀ b o, b < B → w1.frozen? ⟨b, o, none⟩ = w.frozen? ⟨b, o, none⟩) :=
  ⟨fun b o h => hb.cell (p := ⟨b, o, none⟩) h, fun b o h => hb.frozen (p := ⟨b, o, none⟩) h⟩

/-- What the shell of a law says of a slice of integers that came in. -/
def IsRow (k : IntKind) (w : World) (a : Option Addr) (len cap : Nat) (zs : List Int) : Prop :=
  (a = none ∧ len = 0 ∧ cap = 0 ∧ zs = []) ∨
  ∃ x, a = some x ∧ len ≤ cap ∧ cap ≤ maxLen ∧ zs.length = cap ∧ (∀ i, i < zs.length → w.cell? (x.add i) = some (.int k (zs.getD i 0))) ∧ ∀ n ∈ zs, (Lit.int k n).wf = true

theorem wf_u8 {n : Int} (h : (Lit.int .u8 n).wf = true) : 0 ≤ n ∧ n < 256 := by
  simp [Lit.wf, IntKind.min, IntKind.max, IntKind.signed, IntKind.bits] at h
  omega

theorem add_none (b off i : Nat) : (⟨b, off, none⟩ : Addr).add i = ⟨b, off + i, none⟩ := by
  simp only [Addr.add]; split
  · subst i; rfl
  · rfl

/-- A slice of integers that came in reads as its first 'len' numbers. -/
theorem Sl.of_row {k : IntKind} {w : World} {a : Option Addr} {len cap : Nat} {zs : List Int} (h : IsRow k w a len cap zs) : Sl w 1 a len cap ((zs.take len).map (Value.int k)) ∧ (zs.take len).length = len := by
  rcases h with ⟨rfl, rfl, rfl, rfl⟩ | ⟨x, rfl, hl, hm, hz, hc, hw⟩
  · exact ⟨Sl.nil _ _ _ _ (Nat.zero_le _), rfl⟩
  · refine ⟨⟨by simp; omega, hl, hm, fun h0 => ?_⟩, by simp; omega⟩
    simp only [List.length_map, List.length_take] at h0
    obtain ⟨b, off, spot⟩ := x
    have hs : spot = none := by simpa [Addr.add] using World.cell?_spot (hc 0 (by omega))
    subst hs
    refine ⟨b, off, rfl, fun i hi => ?_⟩
    simp only [List.length_map, List.length_take] at hi
    have hci := hc i (by omega)
    rw [add_none] at hci
    rw [hci]
    simp [show i < len by omega, List.getD_eq_getElem?_getD, List.getElem?_eq_getElem (show i < zs.length by omega)]

theorem IsBytes.of_row {w : World} {a : Option Addr} {len cap : Nat} {zs : List Int} (h : IsRow .u8 w a len cap zs) : ∃ l, IsBytes w a len cap l := by
  have hw : ∀ n ∈ zs.take len, 0 ≤ n ∧ n < 256 := by
    rcases h with ⟨rfl, rfl, rfl, rfl⟩ | ⟨x, rfl, hl, hm, hz, hc, hw⟩
    · intro n hn; simp at hn
    · intro n hn; exact wf_u8 (hw n (List.mem_of_mem_take hn))
  have hs := (Sl.of_row h).1
  refine ⟨(zs.take len).map fun n => UInt8.ofNat n.toNat, ?_⟩
  have e : bcells ((zs.take len).map fun n => UInt8.ofNat n.toNat) = (zs.take len).map (Value.int .u8) := by
    simp only [bcells, List.map_map]
    apply List.map_congr_left
    intro n hn
    have := hw n hn
    simp only [Function.comp, UInt8.toNat_ofNat']
    congr 1
    omega
  rw [IsBytes, e]
  exact hs

theorem run_make_1 {P : Program} (t e : TypeId) {z : Value} {bytes : Nat} (ht : P.underlying t = some (.slice e)) (hinf : (P.info? e).map (fun i => (i.zero, i.size, i.bytes)) = some (some z, 1, bytes)) (hz : z.cells = #[z])
    (n c : Nat) (hnc : n ≤ c) (hb : bytes * c ≤ 281474976710656) (h63 : c ≤ maxLen) (W : World) :
    (Instr.makeSlice t (.int .i64 (n : Int)) (.int .i64 (c : Int))).run P W = .ok (.slice (some ⟨W.heap.size, 0, none⟩) n c) (W.alloc (.cells (List.replicate c z).toArray e)) := by
  obtain ⟨i, hi, hz0, hsize, hby⟩ := info_parts hinf
  have hb' : (i.bytes : Int) * (c : Int) ≤ 281474976710656 := by
    have h : ((bytes * c : Nat) : Int) ≤ 281474976710656 := by omega
    rw [hby]
    rwa [Int.natCast_mul] at h
  have h63' : (c : Int) ≤ 9223372036854775807 := by unfold maxLen at h63; omega
  have hr := run_make (P := P) W t e i z ht hi hz0 .i64 .i64 n c (by omega) (by omega) hb' h63'
  rw [hr, hz, hsize]
  simp only [Int.toNat_natCast, Nat.mul_one]
  rw [← toList_madeCells_one]

theorem own_of_block {w : World} {base g e n cap : Nat} {xs ys : List Value} (hg : w.heap[g]? = some (.cells (xs ++ ys).toArray e (0, 0))) (hb : base ≤ g) (hn : xs.length = n) (hc : (xs ++ ys).length = cap) (hm : cap ≤ maxLen) :
    w.ownsRow base e 1 (.slice (some ⟨g, 0, none⟩) n cap) n xs := by
  simp only [List.length_append] at hc
  exact ⟨by omega, .inr ⟨g, cap, _, rfl, hb, hg, by omega, hm, by simp; omega, by simp [← hn]⟩⟩

/-- A row that the call itself has just made. -/
theorem Sl.lit (W : World) (e size n : Nat) (xs : Array Value) (hs : xs.size = n * size) (hm : n ≤ maxLen) : Sl (W.alloc (.cells xs e)) size (some ⟨W.heap.size, 0, none⟩) n n xs.toList :=
  ⟨by simpa using hs, Nat.le_refl _, hm, fun _ => ⟨W.heap.size, 0, rfl, fun i _ => by
    rw [cell_of_row _ W.heap.size (0 + i) xs e (0, 0) (heap_alloc_new W _), Nat.zero_add]
    simp⟩⟩

theorem conv_str {P : Program} {src dst e : TypeId} (hs : P.underlying src = some (.slice e)) (he : P.underlying e = some (.int .u8)) (hd : P.underlying dst = some .string) {w : World} {a : Option Addr} {len cap : Nat} {l : List UInt8} (h : IsBytes w a len cap l) :
    (convert src dst (.slice a len cap)).run P w = .ok (.string ⟨l.toArray⟩) w := by
  obtain ⟨hl, _, _⟩ := h.len
  by_cases h0 : l = []
  · subst h0
    subst hl
    rcases a with _ | ad
    · exact run_convert_bytes_nil w src e hs he _ _ dst hd
    · exact run_convert_bytes_back w src dst e ad cap [] hs he hd (fun j hj => absurd hj (by simp))
  · obtain ⟨b, off, rfl, hc⟩ := h.2.2.2 (by rw [bcells_length]; exact List.length_pos_iff.2 h0)
    subst hl
    refine run_convert_bytes_back w src dst e ⟨b, off, none⟩ cap l hs he hd (fun j hj => ?_)
    rw [add_none, hc j (by rw [bcells_length]; exact hj)]
    simp [bcells, hj]

theorem bsize (l : List UInt8) : (⟨l.toArray⟩ : ByteArray).size = l.length := by simp [ByteArray.size]
theorem bapp (l m : List UInt8) : (⟨l.toArray⟩ ++ ⟨m.toArray⟩ : ByteArray) = ⟨(l ++ m).toArray⟩ := by apply ByteArray.ext; simp
theorem bsize_app (l m : List UInt8) : (⟨l.toArray⟩ ++ ⟨m.toArray⟩ : ByteArray).size = l.length + m.length := by rw [bapp, bsize, List.length_append]

/-- A callee that leaves what was there alone, met in a region whose order is open. -/
theorem reg {P : Program} {f : FuncId} {args : Array Value} {w : World} {v : Value} (h : ∀ W, Below w.heap.size w W → Calls P f args W fun e w' => e = .returned v ∧ Below W.heap.size W w') :
    ∀ d os, Calls P f args (Sort.grow (redrawn w d) os) fun e w'' => e = .returned v ∧ ∃ p : Regrown, w'' = Sort.grow (redrawn w p.d) p.os := fun d os => Calls.regrown_of (h _ (below_regrown w d os))
theorem same_below {P : Program} {f : FuncId} {args : Array Value} {W : World} {v : Value} (h : Calls P f args W fun e w' => e = .returned v ∧ W = w') : Calls P f args W fun e w' => e = .returned v ∧ Below W.heap.size W w' :=
  h.mono fun _ _ ⟨he, hw⟩ => ⟨he, hw ▸ Below.refl _ _⟩

/-- What a walk is told of a block of two cells. -/
theorem two_cells {w : World} {b t : Nat} {x y : Value} (h : w.heap[b]? = some (.cells #[x, y] t (0, 0))) :
    w.cell? ⟨b, 0, none⟩ = some x ∧ w.cell? ⟨b, 1, none⟩ = some y ∧ w.frozen? ⟨b, 0, none⟩ = false ∧ w.frozen? ⟨b, 1, none⟩ = false :=
  ⟨by rw [cell_of_row w b 0 _ t (0, 0) h]; rfl, by rw [cell_of_row w b 1 _ t (0, 0) h]; rfl, frozen_of_row w b 0 _ t h, frozen_of_row w b 1 _ t h⟩
theorem three_cells {w : World} {b t : Nat} {x y z : Value} (h : w.heap[b]? = some (.cells #[x, y, z] t (0, 0))) :
    (w.cell? ⟨b, 0, none⟩ = some x ∧ w.cell? ⟨b, 1, none⟩ = some y ∧ w.cell? ⟨b, 2, none⟩ = some z) ∧ (w.frozen? ⟨b, 0, none⟩ = false ∧ w.frozen? ⟨b, 1, none⟩ = false ∧ w.frozen? ⟨b, 2, none⟩ = false) :=
  ⟨⟨by rw [cell_of_row w b 0 _ t (0, 0) h]; rfl, by rw [cell_of_row w b 1 _ t (0, 0) h]; rfl, by rw [cell_of_row w b 2 _ t (0, 0) h]; rfl⟩, frozen_of_row w b 0 _ t h, frozen_of_row w b 1 _ t h, frozen_of_row w b 2 _ t h⟩
theorem heap_first (W : World) (o o' : Obj) : ((W.alloc o).alloc o').heap[W.heap.size]? = some o := by
  rw [Below.heap_alloc _ _ _ (by simp)]
  exact heap_alloc_new W o
theorem heap_second (W : World) (o o' : Obj) : ((W.alloc o).alloc o').heap[W.heap.size + 1]? = some o' := by
  have := heap_alloc_new (W.alloc o) o'
  simpa using this
theorem set_two {w : World} {b t : Nat} {x y : Value} (h : w.heap[b]? = some (.cells #[x, y] t (0, 0))) (x' y' : Value) :
    ((w.setCell ⟨b, 0, none⟩ x').setCell ⟨b, 1, none⟩ y').heap[b]? = some (.cells #[x', y'] t (0, 0)) := by
  have h1 := heap_setCell_same w b 0 #[x, y] t x' h
  have h2 := heap_setCell_same _ b 1 _ t y' h1
  rw [h2]
  rfl
theorem blk_after {W w1 : World} {o o' : Obj} (hb : Below ((W.alloc o).alloc o').heap.size ((W.alloc o).alloc o') w1) : w1.heap[W.heap.size]? = some o ∧ w1.heap[W.heap.size + 1]? = some o' :=
  ⟨(hb.block _ (by simp; omega)).trans (heap_first W o o'), (hb.block _ (by simp)).trans (heap_second W o o')⟩
theorem below2 (W : World) (o o' : Obj) : Below W.heap.size W ((W.alloc o).alloc o') := ((Below.refl _ _).alloc (Nat.le_refl _) _).alloc (by simp) _
theorem set_three {w : World} {b t : Nat} {x y z : Value} (h : w.heap[b]? = some (.cells #[x, y, z] t (0, 0))) (x' y' z' : Value) :
    (((w.setCell ⟨b, 0, none⟩ x').setCell ⟨b, 1, none⟩ y').setCell ⟨b, 2, none⟩ z').heap[b]? = some (.cells #[x', y', z'] t (0, 0)) := by
  have h1 := heap_setCell_same w b 0 #[x, y, z] t x' h
  have h2 := heap_setCell_same _ b 1 _ t y' h1
  have h3 := heap_setCell_same _ b 2 _ t z' h2
  rw [h3]
  rfl
theorem lt_of_block {w : World} {b : Nat} {o : Obj} (h : w.heap[b]? = some o) : b < w.heap.size := by
  rcases Nat.lt_or_ge b w.heap.size with h' | h'
  · exact h'
  · rw [Array.getElem?_eq_none h'] at h; cases h
theorem keep0 {w w1 : World} {b : Nat} {o : Obj} (h : w.heap[b]? = some o) (hb : Below w.heap.size w w1) : w1.heap[b]? = some o := (hb.block b (lt_of_block h)).trans h
theorem keep1 {w w1 : World} {b : Nat} {o o' : Obj} (h : w.heap[b]? = some o) (hb : Below w.heap.size w w1) : (w1.alloc o').heap[b]? = some o :=
  (Below.heap_alloc _ _ _ (Nat.lt_of_lt_of_le (lt_of_block h) hb.size)).trans (keep0 h hb)
theorem at_world {C : World → Prop} {w : World} (F : World → Prop) (hF : F w) (h : ∀ W, F W → C W) : C w := h w hF

/-! append, onto a row of the call's own (the first block of the call is 'base') -/
section
variable {P : Program} {W w : World} {ops : Array Oper} {rest : List Oper} {o : Oper} {a : Act} {Q : Exit → Act → World → Prop}

theorem below_grown {base e size n : Nat} {v : Value} {xs : List Value} {w' : World} (hb : Below base W w) (hown : w.ownsRow base e size v n xs) (hg : w.grownBy w' v.ownBlock) (hB : base ≤ w.heap.size) : Below base W w' :=
  hb.grown hg hB fun k hk => (hown.lt k hk).1

theorem wpList_append_sl (hgd : o.guard = none) (s x : Operand) (t : TypeId) (ho : o.op = .call { callee := .builtin .append, args := #[s, x], argTypes := #[t, t] })
    (base : Nat) (e : TypeId) {z : Value} {size bytes : Nat} (ht : P.underlying t = some (.slice e)) (hinf : (P.info? e).map (fun i => (i.zero, i.size, i.bytes)) = some (some z, size, bytes)) (hzs : z.cells.size = size) (hsz : 0 < size)
    {v : Value} {n : Nat} {xs : List Value} (hs : a.eval s = v) (hown : w.ownsRow base e size v n xs)
    {A : Option Addr} {m c : Nat} {news : List Value} (hx : a.eval x = .slice A m c) (hsl : Sl w size A m c news) (h1 : ∀ u ∈ news, u.oneCell' = true)
    (h63 : n + m ≤ maxLen) (hbytes : (n + m) * bytes ≤ 140737488355328) (hbase : base ≤ w.heap.size) (hb : Below base W w)
    (h : ∀ v' w', w'.ownsRow base e size v' (n + m) (xs ++ news) → Below base W w' → w.heap.size ≤ w'.heap.size → wpList P ops Q rest (a.put o.dst v') w') : wpList P ops Q (o :: rest) a w := by
  obtain ⟨i, hi, hz, hsize, hby⟩ := info_parts hinf
  by_cases h0 : news.length = 0
  · have hn : news = [] := List.eq_nil_of_length_eq_zero h0
    subst hn
    have hm : m = 0 := by
      have := hsl.1
      simp only [List.length_nil] at this
      rcases Nat.mul_eq_zero.1 this.symm with h | h
      · exact h
      · omega
    subst hm
    rcases A with _ | ad
    · refine wpList_plain hgd fun K hK => ?_
      have hrun : (Builtin.append_ #[t, t] o.type #[v, .slice none 0 c]).run P w = .ok v w := by
        rcases hown.2 with ⟨rfl, rfl⟩ | ⟨g, cap, cur, rfl, _, _, hnc, _⟩
        · simp [Builtin.append_, run_underlying ht, sizeOf, typeInfo, hi, Builtin.lenOf, Builtin.firstCells]
        · simp [Builtin.append_, run_underlying ht, sizeOf, typeInfo, hi, Builtin.lenOf, Builtin.firstCells, hnc, storeCells]
      unfold Oper.wp execOp
      simp only [ho, resolve, invoke, builtin, Sem.run_bind, Sem.run_pure, Result.andThen_ok, List.map_toArray, List.map_cons, List.map_nil, hs, hx, hrun]
      exact hK _ _ (h v w (by simpa using hown) hb (Nat.le_refl _))
    · refine wpList_append_own w hgd s x t ho base e i z size bytes ht hi hz hsize hby hzs hsz v n xs hs hown ad 0 c [] hx (by simp) (by simp) h1 h63 hbytes hbase ?_
      intro v' w' h2 h3 _
      exact h v' w' h2 (below_grown hb hown h3 hbase) h3.size
  · obtain ⟨b, off, rfl, hc⟩ := hsl.2.2.2 (by omega)
    refine wpList_append_own w hgd s x t ho base e i z size bytes ht hi hz hsize hby hzs hsz v n xs hs hown ⟨b, off, none⟩ m c news hx hsl.1 (fun j u hj => ?_) h1 h63 hbytes hbase ?_
    · rw [add_none, hc j (List.getElem?_eq_some_iff.1 hj).1, hj]
    · intro v' w' h2 h3 _
      exact h v' w' h2 (below_grown hb hown h3 hbase) h3.size

/-- 'append(s, u)': the one new element has been laid in a block of its own. -/
theorem wpList_append_1 (hgd : o.guard = none) (s x : Operand) (t : TypeId) (ho : o.op = .call { callee := .builtin .append, args := #[s, x], argTypes := #[t, t] })
    (base : Nat) (e : TypeId) {z : Value} {size bytes : Nat} (ht : P.underlying t = some (.slice e)) (hinf : (P.info? e).map (fun i => (i.zero, i.size, i.bytes)) = some (some z, size, bytes)) (hzs : z.cells.size = size) (hsz : 0 < size)
    {v : Value} {n : Nat} {xs : List Value} (hs : a.eval s = v) (hown : w.ownsRow base e size v n xs)
    {us : Array Value} (hx : a.eval x = .slice (some ⟨w.heap.size, 0, none⟩) 1 1) (hus : us.size = size) (h1 : ∀ u ∈ us.toList, u.oneCell' = true)
    (h63 : n + 1 ≤ maxLen) (hbytes : (n + 1) * bytes ≤ 140737488355328) (hbase : base ≤ w.heap.size) (hb : Below base W w)
    (h : ∀ v' w', w'.ownsRow base e size v' (n + 1) (xs ++ us.toList) → Below base W w' → w.heap.size < w'.heap.size → wpList P ops Q rest (a.put o.dst v') w') : wpList P ops Q (o :: rest) a (w.alloc (.cells us e)) := by
  refine wpList_append_sl (W := W) (w := w.alloc (.cells us e)) hgd s x t ho base e ht hinf hzs hsz hs (hown.alloc _) (news := us.toList) hx ?_ h1 h63 hbytes (by simp; omega) (hb.alloc hbase _) ?_
  · refine ⟨by simpa using hus, Nat.le_refl _, by simp [maxLen], fun _ => ⟨w.heap.size, 0, rfl, fun i hi => ?_⟩⟩
    rw [cell_of_row _ w.heap.size (0 + i) us e (0, 0) (heap_alloc_new w _)]
    simp
  · intro v' w' h2 h3 h4
    exact h v' w' h2 h3 (by simp at h4; omega)
end
end Go.Proofs.Ytdphdodjidbngaa

