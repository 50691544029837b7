/- Plain words that every text of this seat uses: a fact kept from the walk; what a slice reads as; append onto a row of the call's own. -/
import Derived.WalkKit
import Derived.Laws.BitsAllLaws
import Derived.Laws.AppendOwnNone
import Derived.Laws.CopyOwn
import Derived.Laws.BytesArg
import Derived.Laws.IdiomStrings
import Derived.Lib.SlBytesConst
import Derived.Lib.ConvBytes
import Derived.Lib.QuietBelow
import Derived.ChangeSame
import Derived.OpenShut
import Derived.Deep.Slices
import Derived.Deep.AppendLies
import Derived.Test.YtdphdodjidbngaaGreatChecked
import Derived.Deep.Cut
import Derived.Outline
import Derived.Deep.QuietTactic
import Derived.BigQuiet
import Derived.Laws.IdiomCopy
import Derived.Lib.SliceRun
namespace Go.Proofs.YtdphdodjidbngaaGreat
open Go.RowKit

theorem hid {p : Prop} (h : p) : Hid p := h

theorem lt_of_cell {w : World} {a : Addr} {v : Value} (h : w.cell? a = some v) : a.block < w.heap.size := by
  rcases Nat.lt_or_ge a.block w.heap.size with h' | h'
  · exact h'
  · simp [World.cell?, Array.getElem?_eq_none h'] at h

/-- The slice (a, len, cap), of elements of 'size' cells, reads as the cells xs in the world w. -/
def Sl (w : World) (size : Nat) (a : Option Addr) (len cap : Nat) (xs : List Value) : Prop :=
  xs.length = len * size ∧ len ≤ cap ∧ cap ≤ maxLen ∧ (0 < xs.length → ∃ b off, a = some ⟨b, off, none⟩ ∧ ∀ i, i < xs.length → w.cell? ⟨b, off + i, none⟩ = xs[i]?)

theorem Sl.below {w w' : World} {size : Nat} {a : Option Addr} {len cap : Nat} {xs : List Value} (h : Sl w size a len cap xs) (hb : Below w.heap.size w w') : Sl w' size a len cap xs := by
  obtain ⟨h1, h2, h3, h4⟩ := h
  refine ⟨h1, h2, h3, fun h0 => ?_⟩
  obtain ⟨b, off, ha, hc⟩ := h4 h0
  refine ⟨b, off, ha, fun i hi => ?_⟩
  have := hc i hi
  rw [List.getElem?_eq_getElem hi] at this
  rw [hb.cell (p := ⟨b, off + i, none⟩) (lt_of_cell this), List.getElem?_eq_getElem hi]
  exact this

theorem Sl.at {w : World} {size : Nat} {a : Option Addr} {len cap : Nat} {xs : List Value} (h : Sl w size a len cap xs) (i : Nat) (hi : i < xs.length) :
    ∃ b off, a = some ⟨b, off, none⟩ ∧ w.cell? ⟨b, off + i, none⟩ = some xs[i] := by
  obtain ⟨b, off, ha, hc⟩ := h.2.2.2 (by omega)
  exact ⟨b, off, ha, by rw [hc i hi, List.getElem?_eq_getElem hi]⟩

theorem Sl.nil (w : World) (size cap : Nat) (a : Option Addr) (hc : cap ≤ maxLen) : Sl w size a 0 cap [] := ⟨by simp, Nat.zero_le _, hc, fun h => by simp at h⟩

theorem Sl.take {w : World} {size : Nat} {a : Option Addr} {len cap : Nat} {xs : List Value} (h : Sl w size a len cap xs) (k : Nat) (hk : k ≤ len) : Sl w size a k cap (xs.take (k * size)) := by
  obtain ⟨h1, h2, h3, h4⟩ := h
  have hm : k * size ≤ len * size := Nat.mul_le_mul_right _ hk
  have hl : (xs.take (k * size)).length = k * size := by simp; omega
  refine ⟨hl, by omega, h3, fun h0 => ?_⟩
  obtain ⟨b, off, ha, hc⟩ := h4 (by omega)
  refine ⟨b, off, ha, fun i hi => ?_⟩
  rw [hc i (by omega), List.getElem?_take, if_pos (by omega)]

theorem Sl.of_own {w : World} {base e size n : Nat} {v : Value} {xs : List Value} (h : w.ownsRow base e size v n xs) : ∃ a c, v = .slice a n c ∧ Sl w size a n c xs := by
  rcases h.2 with ⟨rfl, rfl⟩ | ⟨g, cap, cur, rfl, hb, hg, hnc, hcm, hcs, ht⟩
  · exact ⟨none, 0, rfl, h.1, Nat.le_refl _, Nat.zero_le _, fun h0 => by have := h.1; omega⟩
  · refine ⟨_, _, rfl, h.1, hnc, hcm, fun _ => ⟨g, 0, rfl, fun i hi => ?_⟩⟩
    rw [cell_of_row w g (0 + i) cur e (0, 0) hg, ← ht, Nat.zero_add, List.getElem?_take, if_pos (by have := h.1; omega)]
    simp

/-- The source of a copy, as its law asks for it. -/
theorem Sl.src {w w' : World} {a : Option Addr} {len cap : Nat} {xs : List Value} (h : Sl w 1 a len cap xs) (hb : Below w.heap.size w w') :
    0 < xs.length → ∃ ad, a = some ad ∧ ∀ (j : Nat) (v : Value), xs[j]? = some v → w'.cell? (ad.add j) = some v := by
  intro h0
  obtain ⟨b, off, ha, hc⟩ := (h.below hb).2.2.2 h0
  refine ⟨_, ha, fun j v hj => ?_⟩
  have : (⟨b, off, none⟩ : Addr).add j = ⟨b, off + j, none⟩ := by
    simp only [Addr.add]; split
    · subst j; rfl
    · rfl
  rw [this, hc j (List.getElem?_eq_some_iff.1 hj).1, hj]

theorem own_of_splice {w : World} {base g e n cap : Nat} {xs : List Value} {z : Value} (hg : w.heap[g]? = some (.cells (splice (List.replicate cap z) 0 xs).toArray e (0, 0))) (hb : base ≤ g) (hn : xs.length = n) (hnc : n ≤ cap) (hm : cap ≤ maxLen) :
    w.ownsRow base e 1 (.slice (some ⟨g, 0, none⟩) n cap) n xs := by
  refine ⟨by omega, .inr ⟨g, cap, _, rfl, hb, hg, by omega, hm, by simp [splice]; omega, by simp [splice, ← hn]⟩⟩

def bcells (l : List UInt8) : List Value := l.map fun c => .int .u8 (c.toNat : Int)
theorem bcells_length (l : List UInt8) : (bcells l).length = l.length := by simp [bcells]
theorem bcells_append (l m : List UInt8) : bcells (l ++ m) = bcells l ++ bcells m := by simp [bcells]
theorem bcells_one (l : List UInt8) : ∀ u ∈ bcells l, u.oneCell' = true := by
  intro u hu
  simp only [bcells, List.mem_map] at hu
  obtain ⟨c, _, rfl⟩ := hu
  rfl

/-- The slice reads as the bytes l. -/
def IsBytes (w : World) (a : Option Addr) (len cap : Nat) (l : List UInt8) : Prop := Sl w 1 a len cap (bcells l)
theorem IsBytes.below {w w' : World} {a : Option Addr} {len cap : Nat} {l : List UInt8} (h : IsBytes w a len cap l) (hb : Below w.heap.size w w') : IsBytes w' a len cap l := Sl.below h hb
theorem IsBytes.at {w : World} {a : Option Addr} {len cap : Nat} {l : List UInt8} (h : IsBytes w a len cap l) (i : Nat) (hi : i < l.length) :
    ∃ b off, a = some ⟨b, off, none⟩ ∧ w.cell? ⟨b, off + i, none⟩ = some (.int .u8 ((l.getD i 0).toNat : Int)) := by
  obtain ⟨b, off, ha, hc⟩ := Sl.at h i (by rw [bcells_length]; exact hi)
  refine ⟨b, off, ha, ?_⟩
  rw [hc]
  simp [bcells, hi]
theorem IsBytes.len {w : World} {a : Option Addr} {len cap : Nat} {l : List UInt8} (h : IsBytes w a len cap l) : len = l.length ∧ len ≤ cap ∧ cap ≤ maxLen := by
  have := h.1; rw [bcells_length] at this
  exact ⟨by omega, h.2.1, h.2.2.1⟩
theorem IsBytes.take {w : World} {a : Option Addr} {len cap : Nat} {l : List UInt8} (h : IsBytes w a len cap l) (k : Nat) (hk : k ≤ l.length) : IsBytes w a k cap (l.take k) := by
  have := Sl.take h k (by rw [h.len.1]; exact hk)
  simpa [IsBytes, bcells] using this

theorem add_none (b off i : Nat) : (⟨b, off, none⟩ : Addr).add i = ⟨b, off + i, none⟩ := by
  simp only [Addr.add]; split
  · subst i; rfl
  · rfl

theorem run_make_1 {P : Program} (t e : TypeId) {z : Value} {bytes : Nat} (ht : P.underlying t = some (.slice e)) (hinf : (P.info? e).map (fun i => (i.zero, i.size, i.bytes)) = some (some z, 1, bytes)) (hz : z.cells = #[z])
    (n c : Nat) (hnc : n ≤ c) (hb : bytes * c ≤ 281474976710656) (h63 : c ≤ maxLen) (W : World) :
    (Instr.makeSlice t (.int .i64 (n : Int)) (.int .i64 (c : Int))).run P W = .ok (.slice (some ⟨W.heap.size, 0, none⟩) n c) (W.alloc (.cells (List.replicate c z).toArray e)) := by
  obtain ⟨i, hi, hz0, hsize, hby⟩ := info_parts hinf
  have hb' : (i.bytes : Int) * (c : Int) ≤ 281474976710656 := by
    have h : ((bytes * c : Nat) : Int) ≤ 281474976710656 := by omega
    rw [hby]
    rwa [Int.natCast_mul] at h
  have h63' : (c : Int) ≤ 9223372036854775807 := by unfold maxLen at h63; omega
  have hr := run_make (P := P) W t e i z ht hi hz0 .i64 .i64 n c (by omega) (by omega) hb' h63'
  rw [hr, hz, hsize]
  simp only [Int.toNat_natCast, Nat.mul_one]
  rw [← toList_madeCells_one]

/-- A row that the call itself has just made. -/
theorem Sl.lit (W : World) (e size n : Nat) (xs : Array Value) (hs : xs.size = n * size) (hm : n ≤ maxLen) : Sl (W.alloc (.cells xs e)) size (some ⟨W.heap.size, 0, none⟩) n n xs.toList :=
  ⟨by simpa using hs, Nat.le_refl _, hm, fun _ => ⟨W.heap.size, 0, rfl, fun i _ => by
    rw [cell_of_row _ W.heap.size (0 + i) xs e (0, 0) (heap_alloc_new W _), Nat.zero_add]
    simp⟩⟩

theorem conv_str {P : Program} {src dst e : TypeId} (hs : P.underlying src = some (.slice e)) (he : P.underlying e = some (.int .u8)) (hd : P.underlying dst = some .string) {w : World} {a : Option Addr} {len cap : Nat} {l : List UInt8} (h : IsBytes w a len cap l) :
    (convert src dst (.slice a len cap)).run P w = .ok (.string ⟨l.toArray⟩) w := by
  obtain ⟨hl, _, _⟩ := h.len
  by_cases h0 : l = []
  · subst h0
    subst hl
    rcases a with _ | ad
    · exact run_convert_bytes_nil w src e hs he _ _ dst hd
    · exact run_convert_bytes_back w src dst e ad cap [] hs he hd (fun j hj => absurd hj (by simp))
  · obtain ⟨b, off, rfl, hc⟩ := h.2.2.2 (by rw [bcells_length]; exact List.length_pos_iff.2 h0)
    subst hl
    refine run_convert_bytes_back w src dst e ⟨b, off, none⟩ cap l hs he hd (fun j hj => ?_)
    rw [add_none, hc j (by rw [bcells_length]; exact hj)]
    simp [bcells, hj]

theorem bsize (l : List UInt8) : (⟨l.toArray⟩ : ByteArray).size = l.length := by simp [ByteArray.size]
theorem bapp (l m : List UInt8) : (⟨l.toArray⟩ ++ ⟨m.toArray⟩ : ByteArray) = ⟨(l ++ m).toArray⟩ := by apply ByteArray.ext; simp
/-- A callee that leaves what was there alone, met in a region whose order is open. -/
theorem reg {P : Program} {f : FuncId} {args : Array Value} {w : World} {v : Value} (h : ∀ W, Below w.heap.size w W → Calls P f args W fun e w' => e = .returned v ∧ Below W.heap.size W w') :
    ∀ d os, Calls P f args (Sort.grow (redrawn w d) os) fun e w'' => e = .returned v ∧ ∃ p : Regrown, w'' = Sort.grow (redrawn w p.d) p.os := fun d os => Calls.regrown_of (h _ (below_regrown w d os))
theorem same_below {P : Program} {f : FuncId} {args : Array Value} {W : World} {v : Value} (h : Calls P f args W fun e w' => e = .returned v ∧ W = w') : Calls P f args W fun e w' => e = .returned v ∧ Below W.heap.size W w' :=
  h.mono fun _ _ ⟨he, hw⟩ => ⟨he, hw ▸ Below.refl _ _⟩

/-- What a walk is told of a block of two cells. -/
theorem two_cells {w : World} {b t : Nat} {x y : Value} (h : w.heap[b]? = some (.cells #[x, y] t (0, 0))) :
    w.cell? ⟨b, 0, none⟩ = some x ∧ w.cell? ⟨b, 1, none⟩ = some y ∧ w.frozen? ⟨b, 0, none⟩ = false ∧ w.frozen? ⟨b, 1, none⟩ = false :=
  ⟨by rw [cell_of_row w b 0 _ t (0, 0) h]; rfl, by rw [cell_of_row w b 1 _ t (0, 0) h]; rfl, frozen_of_row w b 0 _ t h, frozen_of_row w b 1 _ t h⟩
theorem three_cells {w : World} {b t : Nat} {x y z : Value} (h : w.heap[b]? = some (.cells #[x, y, z] t (0, 0))) :
    (w.cell? ⟨b, 0, none⟩ = some x ∧ w.cell? ⟨b, 1, none⟩ = some y ∧ w.cell? ⟨b, 2, none⟩ = some z) ∧ (w.frozen? ⟨b, 0, none⟩ = false ∧ w.frozen? ⟨b, 1, none⟩ = false ∧ w.frozen? ⟨b, 2, none⟩ = false) :=
  ⟨⟨by rw [cell_of_row w b 0 _ t (0, 0) h]; rfl, by rw [cell_of_row w b 1 _ t (0, 0) h]; rfl, by rw [cell_of_row w b 2 _ t (0, 0) h]; rfl⟩, frozen_of_row w b 0 _ t h, frozen_of_row w b 1 _ t h, frozen_of_row w b 2 _ t h⟩
theorem heap_first (W : World) (o o' : Obj) : ((W.alloc o).alloc o').heap[W.heap.size]? = some o := by
  rw [Below.heap_alloc _ _ _ (by simp)]
  exact heap_alloc_new W o
theorem heap_second (W : World) (o o' : Obj) : ((W.alloc o).alloc o').heap[W.heap.size + 1]? = some o' := by
  have := heap_alloc_new (W.alloc o) o'
  simpa using this
theorem blk_after {W w1 : World} {o o' : Obj} (hb : Below ((W.alloc o).alloc o').heap.size ((W.alloc o).alloc o') w1) : w1.heap[W.heap.size]? = some o ∧ w1.heap[W.heap.size + 1]? = some o' :=
  ⟨(hb.block _ (by simp; omega)).trans (heap_first W o o'), (hb.block _ (by simp)).trans (heap_second W o o')⟩
theorem below2 (W : World) (o o' : Obj) : Below W.heap.size W ((W.alloc o).alloc o') := ((Below.refl _ _).alloc (Nat.le_refl _) _).alloc (by simp) _
theorem set_three {w : World} {b t : Nat} {x y z : Value} (h : w.heap[b]? = some (.cells #[x, y, z] t (0, 0))) (x' y' z' : Value) :
    (((w.setCell ⟨b, 0, none⟩ x').setCell ⟨b, 1, none⟩ y').setCell ⟨b, 2, none⟩ z').heap[b]? = some (.cells #[x', y', z'] t (0, 0)) := by
  have h1 := heap_setCell_same w b 0 #[x, y, z] t x' h
  have h2 := heap_setCell_same _ b 1 _ t y' h1
  have h3 := heap_setCell_same _ b 2 _ t z' h2
  rw [h3]
  rfl
theorem lt_of_block {w : World} {b : Nat} {o : Obj} (h : w.heap[b]? = some o) : b < w.heap.size := by
  rcases Nat.lt_or_ge b w.heap.size with h' | h'
  · exact h'
  · rw [Array.getElem?_eq_none h'] at h; cases h
theorem keep0 {w w1 : World} {b : Nat} {o : Obj} (h : w.heap[b]? = some o) (hb : Below w.heap.size w w1) : w1.heap[b]? = some o := (hb.block b (lt_of_block h)).trans h
theorem at_world {C : World → Prop} {w : World} (F : World → Prop) (hF : F w) (h : ∀ W, F W → C W) : C w := h w hF

/-! append, onto a row of the call's own (the first block of the call is 'base') -/
section
variable {P : Program} {W w : World} {ops : Array Oper} {rest : List Oper} {o : Oper} {a : Act} {Q : Exit → Act → World → Prop}

theorem below_grown {base e size n : Nat} {v : Value} {xs : List Value} {w' : World} (hb : Below base W w) (hown : w.ownsRow base e size v n xs) (hg : w.grownBy w' v.ownBlock) (hB : base ≤ w.heap.size) : Below base W w' :=
  hb.grown hg hB fun k hk => (hown.lt k hk).1

theorem wpList_append_sl (hgd : o.guard = none) (s x : Operand) (t : TypeId) (ho : o.op = .call { callee := .builtin .append, args := #[s, x], argTypes := #[t, t] })
    (base : Nat) (e : TypeId) {z : Value} {size bytes : Nat} (ht : P.underlying t = some (.slice e)) (hinf : (P.info? e).map (fun i => (i.zero, i.size, i.bytes)) = some (some z, size, bytes)) (hzs : z.cells.size = size) (hsz : 0 < size)
    {v : Value} {n : Nat} {xs : List Value} (hs : a.eval s = v) (hown : w.ownsRow base e size v n xs)
    {A : Option Addr} {m c : Nat} {news : List Value} (hx : a.eval x = .slice A m c) (hsl : Sl w size A m c news) (h1 : ∀ u ∈ news, u.oneCell' = true)
    (h63 : n + m ≤ maxLen) (hbytes : (n + m) * bytes ≤ 140737488355328) (hbase : base ≤ w.heap.size) (hb : Below base W w)
    (h : ∀ v' w', w'.ownsRow base e size v' (n + m) (xs ++ news) → Below base W w' → w.heap.size ≤ w'.heap.size → wpList P ops Q rest (a.put o.dst v') w') : wpList P ops Q (o :: rest) a w := by
  obtain ⟨i, hi, hz, hsize, hby⟩ := info_parts hinf
  by_cases h0 : news.length = 0
  · have hn : news = [] := List.eq_nil_of_length_eq_zero h0
    subst hn
    have hm : m = 0 := by
      have := hsl.1
      simp only [List.length_nil] at this
      rcases Nat.mul_eq_zero.1 this.symm with h | h
      · exact h
      · omega
    subst hm
    rcases A with _ | ad
    · refine wpList_plain hgd fun K hK => ?_
      have hrun : (Builtin.append_ #[t, t] o.type #[v, .slice none 0 c]).run P w = .ok v w := by
        rcases hown.2 with ⟨rfl, rfl⟩ | ⟨g, cap, cur, rfl, _, _, hnc, _⟩
        · simp [Builtin.append_, run_underlying ht, sizeOf, typeInfo, hi, Builtin.lenOf, Builtin.firstCells]
        · simp [Builtin.append_, run_underlying ht, sizeOf, typeInfo, hi, Builtin.lenOf, Builtin.firstCells, hnc, storeCells]
      unfold Oper.wp execOp
      simp only [ho, resolve, invoke, builtin, Sem.run_bind, Sem.run_pure, Result.andThen_ok, List.map_toArray, List.map_cons, List.map_nil, hs, hx, hrun]
      exact hK _ _ (h v w (by simpa using hown) hb (Nat.le_refl _))
    · refine wpList_append_own w hgd s x t ho base e i z size bytes ht hi hz hsize hby hzs hsz v n xs hs hown ad 0 c [] hx (by simp) (by simp) h1 h63 hbytes hbase ?_
      intro v' w' h2 h3 _
      exact h v' w' h2 (below_grown hb hown h3 hbase) h3.size
  · obtain ⟨b, off, rfl, hc⟩ := hsl.2.2.2 (by omega)
    refine wpList_append_own w hgd s x t ho base e i z size bytes ht hi hz hsize hby hzs hsz v n xs hs hown ⟨b, off, none⟩ m c news hx hsl.1 (fun j u hj => ?_) h1 h63 hbytes hbase ?_
    · rw [add_none, hc j (List.getElem?_eq_some_iff.1 hj).1, hj]
    · intro v' w' h2 h3 _
      exact h v' w' h2 (below_grown hb hown h3 hbase) h3.size

/-- 'append(s, u)': the one new element has been laid in a block of its own. -/
theorem wpList_append_1 (hgd : o.guard = none) (s x : Operand) (t : TypeId) (ho : o.op = .call { callee := .builtin .append, args := #[s, x], argTypes := #[t, t] })
    (base : Nat) (e : TypeId) {z : Value} {size bytes : Nat} (ht : P.underlying t = some (.slice e)) (hinf : (P.info? e).map (fun i => (i.zero, i.size, i.bytes)) = some (some z, size, bytes)) (hzs : z.cells.size = size) (hsz : 0 < size)
    {v : Value} {n : Nat} {xs : List Value} (hs : a.eval s = v) (hown : w.ownsRow base e size v n xs)
    {us : Array Value} (hx : a.eval x = .slice (some ⟨w.heap.size, 0, none⟩) 1 1) (hus : us.size = size) (h1 : ∀ u ∈ us.toList, u.oneCell' = true)
    (h63 : n + 1 ≤ maxLen) (hbytes : (n + 1) * bytes ≤ 140737488355328) (hbase : base ≤ w.heap.size) (hb : Below base W w)
    (h : ∀ v' w', w'.ownsRow base e size v' (n + 1) (xs ++ us.toList) → Below base W w' → w.heap.size < w'.heap.size → wpList P ops Q rest (a.put o.dst v') w') : wpList P ops Q (o :: rest) a (w.alloc (.cells us e)) := by
  refine wpList_append_sl (W := W) (w := w.alloc (.cells us e)) hgd s x t ho base e ht hinf hzs hsz hs (hown.alloc _) (news := us.toList) hx ?_ h1 h63 hbytes (by simp; omega) (hb.alloc hbase _) ?_
  · refine ⟨by simpa using hus, Nat.le_refl _, by simp [maxLen], fun _ => ⟨w.heap.size, 0, rfl, fun i hi => ?_⟩⟩
    rw [cell_of_row _ w.heap.size (0 + i) us e (0, 0) (heap_alloc_new w _)]
    simp
  · intro v' w' h2 h3 h4
    exact h v' w' h2 h3 (by simp at h4; omega)
end
end Go.Proofs.YtdphdodjidbngaaGreat

namespace Go.Proofs.YtdphdodjidbngaaGreat
open Go.RowKit

/-- These cells read, in the world w, as something of type t. -/
def Rd (P : Program) (w : World) (t : TypeId) (cs : List Value) : Prop :=
  ∃ (H : Type) (enc : TypeId × Value → H) (fuel : Nat) (x : DataW H × List MemPlace), DataW.trod enc P w 0 (fun _ => true) true fuel t cs = some x

theorem Rd.of {H : Type} {enc : TypeId × Value → H} {P : Program} {w : World} {t : TypeId} {v : Value} {d : DataW H} {p : List MemPlace} (h : DataW.Trod enc P w 0 (fun _ => true) true t v d p) : Rd P w t v.cells.toList := by
  obtain ⟨fuel, hf⟩ := h
  exact ⟨H, enc, fuel, _, hf⟩
theorem Rd.int {P : Program} {w : World} {t : TypeId} {cs : List Value} {k : IntKind} (ht : P.underlying t = some (.int k)) (h : Rd P w t cs) : ∃ n, cs = [.int k n] ∧ (Lit.int k n).wf = true := by
  obtain ⟨H, enc, fuel, x, hf⟩ := h
  obtain ⟨n, e, _, hw⟩ := DataW.trod_int ht hf
  exact ⟨n, e, hw⟩
theorem Rd.bool {P : Program} {w : World} {t : TypeId} {cs : List Value} (ht : P.underlying t = some .bool) (h : Rd P w t cs) : ∃ b, cs = [.bool b] := by
  obtain ⟨H, enc, fuel, x, hf⟩ := h
  obtain ⟨n, e, _⟩ := DataW.trod_bool ht hf
  exact ⟨n, e⟩
theorem Rd.string {P : Program} {w : World} {t : TypeId} {cs : List Value} (ht : P.underlying t = some .string) (h : Rd P w t cs) : ∃ s : ByteArray, cs = [.string s] ∧ s.size ≤ maxLen := by
  obtain ⟨H, enc, fuel, x, hf⟩ := h
  obtain ⟨n, e, _, hw⟩ := DataW.trod_string ht hf
  exact ⟨n, e, hw⟩
theorem Rd.struct {P : Program} {w : World} {t : TypeId} {cs : List Value} {fs : Array Field} (ht : P.underlying t = some (.struct fs)) (h : Rd P w t cs) :
    cs.length = P.cellsOf t ∧ ∀ (i : Nat) (f : Field), fs[i]? = some f → Rd P w f.type ((cs.drop f.offset).take (P.cellsOf f.type)) := by
  obtain ⟨H, enc, fuel, x, hf⟩ := h
  obtain ⟨xs, n, _, _, hl, hn, hx⟩ := DataW.trod_struct ht hf
  refine ⟨hl, fun i f hi => ?_⟩
  have hlt : i < xs.length := by rw [hn]; exact (Array.getElem?_eq_some_iff.1 hi).1
  exact ⟨H, enc, n, xs[i], by rw [hx i f hi, List.getElem?_eq_getElem hlt]⟩
theorem Rd.array {P : Program} {w : World} {t : TypeId} {cs : List Value} {n : Nat} {e : TypeId} (ht : P.underlying t = some (.array n e)) (h : Rd P w t cs) :
    cs.length = P.cellsOf t ∧ ∀ i, i < n → Rd P w e ((cs.drop (i * P.cellsOf e)).take (P.cellsOf e)) := by
  obtain ⟨H, enc, fuel, x, hf⟩ := h
  obtain ⟨xs, m, _, _, hl, hn, hx⟩ := DataW.trod_array ht hf
  refine ⟨hl, fun i hi => ?_⟩
  exact ⟨H, enc, m, xs[i], by rw [hx i hi, List.getElem?_eq_getElem (by omega)]⟩
theorem Rd.slice {P : Program} {w : World} {t : TypeId} {cs : List Value} {e : TypeId} (ht : P.underlying t = some (.slice e)) (h : Rd P w t cs) :
    cs = [.slice none 0 0] ∨ ∃ (a : Addr) (len cap : Nat) (z : Nat → List Value), cs = [.slice (some a) len cap] ∧ len ≤ cap ∧ cap ≤ maxLen ∧
      ∀ i, i < cap → w.cells? 0 (a.add (i * P.cellsOf e)) (P.cellsOf e) = some (z i) ∧ Rd P w e (z i) := by
  obtain ⟨H, enc, fuel, x, hf⟩ := h
  rcases Go.Deep.open_slice ht hf with ⟨h0, _⟩ | ⟨a, len, cap, m, n, D, Pl, rfl, hb, hl, hm, hmm, rfl, hx⟩
  · exact .inl h0
  · simp only [if_true] at hmm
    subst hmm
    obtain ⟨z, hz⟩ := Go.Deep.choose_lt (α := List Value) (p := fun i cs => w.cells? 0 (a.add (i * P.cellsOf e)) (P.cellsOf e) = some cs ∧ Rd P w e cs) (fun i hi => by
      obtain ⟨cs, h1, h2⟩ := hx i hi
      exact ⟨cs, h1, H, enc, n, _, h2⟩)
    exact .inr ⟨a, len, m, z, rfl, hl, hm, hz⟩

theorem okWide_array' {P : Program} {W : World} {r : Reach} {base : Nat} {t : TypeId} {v : Value} {n : Nat} {e : TypeId} (ht : P.underlying t = some (.array n e)) (h : Value.okWide P W r base t v) : ∃ cs, v = .agg cs ∧ cs.size = P.cellsOf t := by
  simp only [Value.okWide, ht] at h
  obtain ⟨cs, h1, h2, _⟩ := h
  exact ⟨cs, h1, h2⟩

/-- n numbers of one kind in a row. -/
def IntsN (k : IntKind) (n : Nat) (cs : List Value) (xs : List Int) : Prop := cs = xs.map (.int k) ∧ xs.length = n ∧ ∀ x ∈ xs, (Lit.int k x).wf = true

theorem Rd.array_ints {P : Program} {w : World} {t : TypeId} {cs : List Value} {n : Nat} {e : TypeId} {k : IntKind} (ht : P.underlying t = some (.array n e)) (he : P.underlying e = some (.int k)) (hc : P.cellsOf e = 1) (hn : P.cellsOf t = n) (h : Rd P w t cs) :
    ∃ xs, IntsN k n cs xs := by
  obtain ⟨hl, hx⟩ := Rd.array ht h
  rw [hn] at hl
  have key : ∀ i, i < n → ∃ x : Int, cs[i]? = some (.int k x) ∧ (Lit.int k x).wf = true := fun i hi => by
    obtain ⟨x, hx1, hw⟩ := Rd.int he (hx i hi)
    rw [hc, Nat.mul_one] at hx1
    refine ⟨x, ?_, hw⟩
    have : ((cs.drop i).take 1)[0]? = some (.int k x) := by rw [hx1]; rfl
    simpa [List.getElem?_take, List.getElem?_drop] using this
  obtain ⟨f, hf⟩ := Go.Deep.choose_lt (α := Int) key
  refine ⟨(List.range n).map f, ?_, by simp, ?_⟩
  · apply List.ext_getElem?
    intro i
    by_cases hi : i < n
    · rw [(hf i hi).1]; simp [hi]
    · rw [List.getElem?_eq_none (by omega), List.getElem?_eq_none (by simp; omega)]
  · intro x hx
    simp only [List.mem_map, List.mem_range] at hx
    obtain ⟨i, hi, rfl⟩ := hx
    exact (hf i hi).2

theorem ints3 {k : IntKind} {cs : Array Value} {xs : List Int} (h : IntsN k 3 cs.toList xs) : ∃ a b c, cs = #[.int k a, .int k b, .int k c] ∧ (Lit.int k a).wf = true ∧ (Lit.int k b).wf = true ∧ (Lit.int k c).wf = true := by
  obtain ⟨h1, h2, h3⟩ := h
  match xs, h2 with
  | [a, b, c], _ => exact ⟨a, b, c, by apply Array.ext'; simpa using h1, h3 a (by simp), h3 b (by simp), h3 c (by simp)⟩
theorem wf_i64 {n : Int} (h : (Lit.int .i64 n).wf = true) : -9223372036854775808 ≤ n ∧ n ≤ 9223372036854775807 := by
  simp [Lit.wf, IntKind.min, IntKind.max, IntKind.signed, IntKind.bits] at h
  omega

/-- A slice whose elements are 'n' cells each: element i is z i. Plain address. -/
theorem Rd.slice_plain {P : Program} {w : World} {t : TypeId} {A : Option Addr} {len cap : Nat} {e : TypeId} {n : Nat} (ht : P.underlying t = some (.slice e)) (hn : P.cellsOf e = n) (h0 : 0 < n) (h : Rd P w t [.slice A len cap]) :
    len ≤ cap ∧ cap ≤ maxLen ∧ (0 < len → ∃ b off, A = some ⟨b, off, none⟩ ∧ ∃ z : Nat → List Value, ∀ i, i < len → (z i).length = n ∧ Rd P w e (z i) ∧ ∀ j, j < n → w.cell? ⟨b, off + i * n + j, none⟩ = (z i)[j]?) := by
  rcases Rd.slice ht h with h1 | ⟨a, l, c, z, h1, hl, hm, hz⟩
  · simp at h1
    obtain ⟨rfl, rfl, rfl⟩ := h1
    exact ⟨Nat.le_refl _, Nat.zero_le _, fun h => absurd h (by omega)⟩
  · simp at h1
    obtain ⟨rfl, rfl, rfl⟩ := h1
    refine ⟨hl, hm, fun hpos => ?_⟩
    rw [hn] at hz
    obtain ⟨b, off, spot⟩ := a
    have hs : spot = none := by
      obtain ⟨h2, _⟩ := hz 0 (by omega)
      obtain ⟨_, h3, h4⟩ := World.cells?_some h2
      have h5 := h4 0 h0
      rw [List.getElem?_eq_getElem (by omega)] at h5
      simpa [Addr.add] using World.cell?_spot h5
    subst hs
    refine ⟨b, off, rfl, z, fun i hi => ?_⟩
    obtain ⟨h2, h6⟩ := hz i (by omega)
    obtain ⟨_, h3, h4⟩ := World.cells?_some h2
    refine ⟨h3, h6, fun j hj => ?_⟩
    have := h4 j hj
    rw [add_none, add_none] at this
    exact this
theorem cellb {w w' : World} {a : Addr} {v : Value} (hb : Below w.heap.size w w') (h : w.cell? a = some v) : w'.cell? a = some v := (hb.cell (lt_of_cell h)).trans h
end Go.Proofs.YtdphdodjidbngaaGreat

namespace Go.Proofs.YtdphdodjidbngaaGreat
open Go.RowKit

/-- Block g is a row of one-cell elements, whose first cells are xs. -/
def Row (w : World) (g e cap : Nat) (xs : List Value) : Prop := ∃ cur : Array Value, w.heap[g]? = some (.cells cur e (0, 0)) ∧ cur.size = cap ∧ xs.length ≤ cap ∧ cap ≤ maxLen ∧ cur.toList.take xs.length = xs

theorem Row.of_own {w : World} {base e n : Nat} {v : Value} {xs : List Value} (h : w.ownsRow base e 1 v n xs) : xs.length = n ∧ ((v = .slice none 0 0 ∧ n = 0) ∨ ∃ g cap, v = .slice (some ⟨g, 0, none⟩) n cap ∧ base ≤ g ∧ n ≤ cap ∧ cap ≤ maxLen ∧ Row w g e cap xs) := by
  have h1 := h.1
  refine ⟨by omega, ?_⟩
  rcases h.2 with ⟨rfl, rfl⟩ | ⟨g, cap, cur, rfl, hb, hg, hnc, hcm, hcs, ht⟩
  · exact .inl ⟨rfl, rfl⟩
  · refine .inr ⟨g, cap, rfl, hb, hnc, hcm, cur, hg, by omega, by omega, hcm, ?_⟩
    rw [Nat.mul_one] at ht h1
    rw [h1]; exact ht
theorem Row.own {w : World} {base g e cap : Nat} {xs : List Value} (h : Row w g e cap xs) (hb : base ≤ g) : w.ownsRow base e 1 (.slice (some ⟨g, 0, none⟩) xs.length cap) xs.length xs := by
  obtain ⟨cur, h1, h2, h3, h4, h5⟩ := h
  exact ⟨by omega, .inr ⟨g, cap, cur, rfl, hb, h1, h3, h4, by omega, by rw [Nat.mul_one]; exact h5⟩⟩
theorem Row.cell {w : World} {g e cap : Nat} {xs : List Value} (h : Row w g e cap xs) (i : Nat) (hi : i < xs.length) : w.cell? ⟨g, i, none⟩ = some xs[i] ∧ w.frozen? ⟨g, i, none⟩ = false := by
  obtain ⟨cur, h1, h2, h3, h4, h5⟩ := h
  refine ⟨?_, frozen_of_row w g i cur e h1⟩
  rw [cell_of_row w g i cur e (0, 0) h1]
  have : (cur.toList.take xs.length)[i]? = some xs[i] := by rw [h5, List.getElem?_eq_getElem hi]
  rw [List.getElem?_take, if_pos hi] at this
  simpa using this
theorem Row.set {w : World} {g e cap : Nat} {xs : List Value} (h : Row w g e cap xs) (i : Nat) (v : Value) : Row (w.setCell ⟨g, i, none⟩ v) g e cap (xs.set i v) := by
  obtain ⟨cur, h1, h2, h3, h4, h5⟩ := h
  refine ⟨_, heap_setCell_same w g i cur e v h1, by simpa using h2, by simpa using h3, h4, ?_⟩
  simp only [List.length_set, Array.toList_setIfInBounds]
  rw [List.take_set, h5]
theorem Row.block {w w' : World} {g e cap : Nat} {xs : List Value} (h : Row w g e cap xs) (hb : w'.heap[g]? = w.heap[g]?) : Row w' g e cap xs := by
  obtain ⟨cur, h1, h2⟩ := h
  exact ⟨cur, hb.trans h1, h2⟩
theorem Row.lt {w : World} {g e cap : Nat} {xs : List Value} (h : Row w g e cap xs) : g < w.heap.size := by
  obtain ⟨cur, h1, _⟩ := h
  exact lt_of_block h1
theorem Row.below {w w' : World} {g e cap : Nat} {xs : List Value} (h : Row w g e cap xs) (hb : Below w.heap.size w w') : Row w' g e cap xs := h.block (hb.block g h.lt)
theorem Row.sl {w : World} {g e cap : Nat} {xs : List Value} (h : Row w g e cap xs) : Sl w 1 (some ⟨g, 0, none⟩) xs.length cap xs := by
  obtain ⟨a, c, h1, h2⟩ := Sl.of_own (h.own (Nat.zero_le _))
  cases h1
  exact h2
theorem own_mono {w : World} {base b' e s n : Nat} {v : Value} {xs : List Value} (h : w.ownsRow base e s v n xs) (hb : b' ≤ base) : w.ownsRow b' e s v n xs := by
  refine ⟨h.1, ?_⟩
  rcases h.2 with h2 | ⟨g, cap, cur, h3, h4, h5⟩
  · exact .inl h2
  · exact .inr ⟨g, cap, cur, h3, Nat.le_trans hb h4, h5⟩
theorem own_block {w w' : World} {base e s n : Nat} {v : Value} {xs : List Value} (h : w.ownsRow base e s v n xs) (hb : ∀ g o, base ≤ g → w.heap[g]? = some o → w'.heap[g]? = some o) : w'.ownsRow base e s v n xs := by
  refine ⟨h.1, ?_⟩
  rcases h.2 with h2 | ⟨g, cap, cur, h3, h4, h5, h6⟩
  · exact .inl h2
  · exact .inr ⟨g, cap, cur, h3, h4, hb g _ h4 h5, h6⟩
theorem own_setOld {w : World} {base e s n : Nat} {v : Value} {xs : List Value} (h : w.ownsRow base e s v n xs) (p : Addr) (u : Value) (hp : p.block < base) : (w.setCell p u).ownsRow base e s v n xs :=
  own_block h fun _ _ hg ho => (Below.heap_setCell _ _ _ _ (by omega)).trans ho
theorem own_keep {w w' : World} {base e s n : Nat} {v : Value} {xs : List Value} (h : w.ownsRow base e s v n xs) (hb : Below w.heap.size w w') : w'.ownsRow base e s v n xs :=
  own_block h fun _ _ _ ho => keep0 ho hb
theorem sl_own {w : World} {base e s n : Nat} {A : Option Addr} {c : Nat} {xs : List Value} (h : w.ownsRow base e s (.slice A n c) n xs) : Sl w s A n c xs := by
  obtain ⟨a, c', h1, h2⟩ := Sl.of_own h
  cases h1
  exact h2
end Go.Proofs.YtdphdodjidbngaaGreat

namespace Go.Proofs.YtdphdodjidbngaaGreat
open Go.RowKit
section
variable {P : Program} {w : World}

theorem wp_append_sl {o : Oper} {a : Act} {K : Act → World → Prop} {Q : Exit → Act → World → Prop} (s x : Operand) (t : TypeId) (ho : o.op = .call { callee := .builtin .append, args := #[s, x], argTypes := #[t, t] })
    (base : Nat) (e : TypeId) {z : Value} {size bytes : Nat} (ht : P.underlying t = some (.slice e)) (hinf : (P.info? e).map (fun i => (i.zero, i.size, i.bytes)) = some (some z, size, bytes)) (hzs : z.cells.size = size) (hsz : 0 < size)
    {v : Value} {n : Nat} {xs : List Value} (hs : a.eval s = v) (hown : w.ownsRow base e size v n xs)
    {A : Option Addr} {m c : Nat} {news : List Value} (hx : a.eval x = .slice A m c) (hsl : Sl w size A m c news) (h1 : ∀ u ∈ news, u.oneCell' = true)
    (h63 : n + m ≤ maxLen) (hbytes : (n + m) * bytes ≤ 140737488355328) (hbase : base ≤ w.heap.size)
    (h : ∀ v' w', w'.ownsRow base e size v' (n + m) (xs ++ news) → Below base w w' → w.heap.size ≤ w'.heap.size → (∀ g, base ≤ g → g < w.heap.size → v.ownBlock ≠ some g → w'.heap[g]? = w.heap[g]?) → K (a.put o.dst v') w') : o.wp P a w K Q := by
  obtain ⟨i, hi, hz, hsize, hby⟩ := info_parts hinf
  by_cases h0 : news.length = 0
  · have hn : news = [] := List.eq_nil_of_length_eq_zero h0
    subst hn
    have hm : m = 0 := by
      have := hsl.1
      simp only [List.length_nil] at this
      rcases Nat.mul_eq_zero.1 this.symm with h | h
      · exact h
      · omega
    subst hm
    rcases A with _ | ad
    · have hrun : (Builtin.append_ #[t, t] o.type #[v, .slice none 0 c]).run P w = .ok v w := by
        rcases hown.2 with ⟨rfl, rfl⟩ | ⟨g, cap, cur, rfl, _, _, hnc, _⟩
        · simp [Builtin.append_, run_underlying ht, sizeOf, typeInfo, hi, Builtin.lenOf, Builtin.firstCells]
        · simp [Builtin.append_, run_underlying ht, sizeOf, typeInfo, hi, Builtin.lenOf, Builtin.firstCells, hnc, storeCells]
      unfold Oper.wp execOp
      simp only [ho, resolve, invoke, builtin, Sem.run_bind, Sem.run_pure, Result.andThen_ok, List.map_toArray, List.map_cons, List.map_nil, hs, hx, hrun]
      exact h v w (by simpa using hown) (Below.refl _ _) (Nat.le_refl _) (fun _ _ _ _ => rfl)
    · refine wp_append_own w s x t ho base e i z size bytes ht hi hz hsize hby hzs hsz v n xs hs hown ad 0 c [] hx (by simp) (by simp) h1 h63 hbytes hbase ?_
      intro v' w' h2 h3 _
      exact h v' w' h2 (below_grown (Below.refl _ _) hown h3 hbase) h3.size (fun g _ hg hne => h3.block g hg fun e => hne e.symm)
  · obtain ⟨b, off, rfl, hc⟩ := hsl.2.2.2 (by omega)
    refine wp_append_own w s x t ho base e i z size bytes ht hi hz hsize hby hzs hsz v n xs hs hown ⟨b, off, none⟩ m c news hx hsl.1 (fun j u hj => ?_) h1 h63 hbytes hbase ?_
    · rw [add_none, hc j (List.getElem?_eq_some_iff.1 hj).1, hj]
    · intro v' w' h2 h3 _
      exact h v' w' h2 (below_grown (Below.refl _ _) hown h3 hbase) h3.size (fun g _ hg hne => h3.block g hg fun e => hne e.symm)

theorem step_append_sl {ops : Array Oper} {o : Oper} {a : Act} {K : Act → World → Prop} {Q : Exit → Act → World → Prop} {E : Prop} (hgd : o.guard = none) (s x : Operand) (t : TypeId) (ho : o.op = .call { callee := .builtin .append, args := #[s, x], argTypes := #[t, t] })
    (base : Nat) (e : TypeId) {z : Value} {size bytes : Nat} (ht : P.underlying t = some (.slice e)) (hinf : (P.info? e).map (fun i => (i.zero, i.size, i.bytes)) = some (some z, size, bytes)) (hzs : z.cells.size = size) (hsz : 0 < size)
    {v : Value} {n : Nat} {xs : List Value} (hs : a.eval s = v) (hown : w.ownsRow base e size v n xs)
    {A : Option Addr} {m c : Nat} {news : List Value} (hx : a.eval x = .slice A m c) (hsl : Sl w size A m c news) (h1 : ∀ u ∈ news, u.oneCell' = true)
    (h63 : n + m ≤ maxLen) (hbytes : (n + m) * bytes ≤ 140737488355328) (hbase : base ≤ w.heap.size)
    (h : ∀ v' w', w'.ownsRow base e size v' (n + m) (xs ++ news) → Below base w w' → w.heap.size ≤ w'.heap.size → (∀ g, base ≤ g → g < w.heap.size → v.ownBlock ≠ some g → w'.heap[g]? = w.heap[g]?) → K (a.put o.dst v') w') :
    if Region.wanted o (yielded ops a.tmps) = true then Oper.wp P o a w K Q else E := by
  have hw : Region.wanted o (yielded ops a.tmps) = true := by simp [Region.wanted, hgd]
  rw [if_pos hw]
  exact wp_append_sl s x t ho base e ht hinf hzs hsz hs hown hx hsl h1 h63 hbytes hbase h
end

theorem below_drew {n : Nat} {W w : World} (h : Below n W w) : Below n W w.drew := ⟨h.os, h.tape, h.output, h.size, h.block⟩
theorem bel_alloc {W w : World} (h : Below W.heap.size W w) (o : Obj) : Below W.heap.size W (w.alloc o) := h.alloc h.size o
theorem bel_trans {W w w' : World} (h : Below W.heap.size W w) (h2 : Below w.heap.size w w') : Below W.heap.size W w' := h.trans (h2.mono h.size)
end Go.Proofs.YtdphdodjidbngaaGreat

namespace Go.Proofs.YtdphdodjidbngaaGreat
open Go.RowKit

theorem elem_of {P : Program} {t e : TypeId} (h : P.underlying t = some (.slice e)) : P.elem t = e := by
  unfold Program.elem
  rw [h]
theorem size_of_info {P : Program} {e : TypeId} {z : Value} {size bytes : Nat} (hinf : (P.info? e).map (fun i => (i.zero, i.size, i.bytes)) = some (some z, size, bytes)) (w : World) : (sizeOf e).run P w = .ok size w := by
  obtain ⟨i, hi, _, hs, _⟩ := info_parts hinf
  simp [sizeOf, typeInfo, hi, hs]
/-- Where 's[g:]' lies. -/
def dropA (a : Option Addr) (cap g size : Nat) : Option Addr := if cap = g then a else a.map (·.add (g * size))
theorem run_from {P : Program} {t e : TypeId} {z : Value} {size bytes : Nat} (ht : P.underlying t = some (.slice e)) (hinf : (P.info? e).map (fun i => (i.zero, i.size, i.bytes)) = some (some z, size, bytes))
    (a : Option Addr) (len cap g : Nat) (hg : g ≤ len) (w : World) : (Instr.slice t (.slice a len cap) (some (.int .i64 (g : Int))) none none).run P w = .ok (.slice (dropA a cap g size) (len - g) (cap - g)) w := by
  rw [run_slice_l (P := P) w t a len cap (by rw [elem_of ht]; exact ht) .i64 (g : Int) (by omega) (by omega), elem_of ht, size_of_info hinf]
  simp [sliced, Result.andThen, dropA]
theorem Sl.drop {w : World} {size : Nat} {a : Option Addr} {len cap : Nat} {xs : List Value} (h : Sl w size a len cap xs) (g : Nat) (hg : g ≤ len) : Sl w size (dropA a cap g size) (len - g) (cap - g) (xs.drop (g * size)) := by
  obtain ⟨h1, h2, h3, h4⟩ := h
  have hm : g * size ≤ len * size := Nat.mul_le_mul_right _ hg
  have hl : (xs.drop (g * size)).length = (len - g) * size := by rw [List.length_drop, h1, Nat.sub_mul]
  refine ⟨hl, by omega, by omega, fun h0 => ?_⟩
  rw [List.length_drop] at h0
  obtain ⟨b, off, ha, hc⟩ := h4 (by omega)
  have hne : cap ≠ g := by
    intro e
    have : len = g := by omega
    rw [this] at h1
    omega
  refine ⟨b, off + g * size, ?_, fun i hi => ?_⟩
  · rw [dropA, if_neg hne, ha]
    simp [add_none]
  · rw [List.length_drop] at hi
    rw [Nat.add_assoc, hc (g * size + i) (by omega), List.getElem?_drop]
end Go.Proofs.YtdphdodjidbngaaGreat

namespace Go.Proofs.YtdphdodjidbngaaGreat
open Go.RowKit

def str (l : List UInt8) : ByteArray := ⟨l.toArray⟩
theorem str_size (l : List UInt8) : (str l).size = l.length := bsize l
theorem str_app (l m : List UInt8) : str l ++ str m = str (l ++ m) := bapp l m
end Go.Proofs.YtdphdodjidbngaaGreat

namespace Go.Proofs.YtdphdodjidbngaaGreat
open Go.RowKit
set_option linter.unusedVariables false

/-- The cells of texts in a row. -/
def scells (l : List (List UInt8)) : List Value := l.map fun s => .string (str s)
theorem scells_length (l : List (List UInt8)) : (scells l).length = l.length := by simp [scells]
theorem scells_one (l : List (List UInt8)) : ∀ u ∈ scells l, u.oneCell' = true := by
  intro u hu
  simp only [scells, List.mem_map] at hu
  obtain ⟨c, _, rfl⟩ := hu
  rfl
theorem scells_append (l m : List (List UInt8)) : scells (l ++ m) = scells l ++ scells m := by simp [scells]
theorem scells_snoc (l : List (List UInt8)) (x : List UInt8) : scells (l ++ [x]) = scells l ++ [.string (str x)] := by simp [scells]
theorem info_str : (Tryz.prog.info? 9).map (fun i => (i.zero, i.size, i.bytes)) = some (some (.string ⟨#[]⟩), 1, 16) := by kernel_rfl
theorem str_ne {x y : List UInt8} (h : x ≠ y) : ¬ (str x).toList = (str y).toList := fun h2 => h (by
  rw [ByteArray.toList_eq, ByteArray.toList_eq] at h2
  simpa [str] using h2)

end Go.Proofs.YtdphdodjidbngaaGreat

namespace Go.Proofs.YtdphdodjidbngaaGreat
open Go.RowKit

theorem wpList_append_1k {P : Program} {W w : World} {ops : Array Oper} {rest : List Oper} {o : Oper} {a : Act} {Q : Exit → Act → World → Prop} (hgd : o.guard = none) (s x : Operand) (t : TypeId) (ho : o.op = .call { callee := .builtin .append, args := #[s, x], argTypes := #[t, t] })
    (base : Nat) (e : TypeId) {z : Value} {size bytes : Nat} (ht : P.underlying t = some (.slice e)) (hinf : (P.info? e).map (fun i => (i.zero, i.size, i.bytes)) = some (some z, size, bytes)) (hzs : z.cells.size = size) (hsz : 0 < size)
    {v : Value} {n : Nat} {xs : List Value} (hs : a.eval s = v) (hown : w.ownsRow base e size v n xs)
    {us : Array Value} (hx : a.eval x = .slice (some ⟨w.heap.size, 0, none⟩) 1 1) (hus : us.size = size) (h1 : ∀ u ∈ us.toList, u.oneCell' = true)
    (h63 : n + 1 ≤ maxLen) (hbytes : (n + 1) * bytes ≤ 140737488355328) (hbase : base ≤ w.heap.size) (hb : Below base W w)
    (h : ∀ v' w', w'.ownsRow base e size v' (n + 1) (xs ++ us.toList) → Below base W w' → w.heap.size < w'.heap.size → (∀ g, base ≤ g → g < w.heap.size → v.ownBlock ≠ some g → w'.heap[g]? = w.heap[g]?) → wpList P ops Q rest (a.put o.dst v') w') : wpList P ops Q (o :: rest) a (w.alloc (.cells us e)) := by
  refine wpList_plain hgd fun K hK => ?_
  refine wp_append_sl (w := w.alloc (.cells us e)) s x t ho base e ht hinf hzs hsz hs (hown.alloc _) hx (m := 1) (c := 1) (news := us.toList) ?_ h1 h63 hbytes (by simp; omega) ?_
  · refine ⟨by simpa using hus, Nat.le_refl _, by simp [maxLen], fun _ => ⟨w.heap.size, 0, rfl, fun i hi => ?_⟩⟩
    rw [cell_of_row _ w.heap.size (0 + i) us e (0, 0) (heap_alloc_new w _)]
    simp
  · intro v' w' h2 h3 h4 h5
    have h6 : w.heap.size + 1 ≤ w'.heap.size := by simpa using h4
    refine hK _ _ (h v' w' h2 ((hb.alloc hbase _).trans h3) (by omega) fun g hg1 hg2 hg3 => ?_)
    rw [h5 g hg1 (by simp; omega) hg3]
    exact Below.heap_alloc _ _ _ hg2
theorem own_other {w w' : World} {base e e' s s' n m : Nat} {v v' : Value} {xs ys : List Value} (h : w.ownsRow base e s v n xs) (k : w.ownsRow base e' s' v' m ys) (hne : e ≠ e')
    (hk : ∀ g, base ≤ g → g < w.heap.size → v'.ownBlock ≠ some g → w'.heap[g]? = w.heap[g]?) : w'.ownsRow base e s v n xs := by
  refine ⟨h.1, ?_⟩
  rcases h.2 with h2 | ⟨g, cap, cur, h3, h4, h5, h6⟩
  · exact .inl h2
  · refine .inr ⟨g, cap, cur, h3, h4, ?_, h6⟩
    rw [hk g h4 (lt_of_block h5) fun hv => ?_]
    · exact h5
    · rcases k.2 with ⟨rfl, _⟩ | ⟨g', cap', cur', rfl, _, hh, _⟩
      · simp [Value.ownBlock] at hv
      · have : g' = g := by simpa [Value.ownBlock] using hv
        subst this
        rw [h5] at hh
        injection hh with hh
        injection hh with _ ht
        exact hne ht
theorem own_blk_ne {w : World} {base e s n g t : Nat} {v : Value} {xs : List Value} {cs : Array Value} (h : w.ownsRow base e s v n xs) (hg : w.heap[g]? = some (.cells cs t (0, 0))) (hne : e ≠ t) : v.ownBlock ≠ some g := by
  rcases h.2 with ⟨rfl, _⟩ | ⟨g', cap, cur, rfl, _, hh, _⟩
  · simp [Value.ownBlock]
  · intro he
    have : g' = g := by simpa [Value.ownBlock] using he
    subst this
    rw [hg] at hh
    injection hh with hh
    injection hh with _ ht
    exact hne ht.symm
end Go.Proofs.YtdphdodjidbngaaGreat

namespace Go.Proofs.YtdphdodjidbngaaGreat
open Go.RowKit

theorem own_empty (w : World) (e size : Nat) : (w.alloc (.cells #[] e)).ownsRow w.heap.size e size (.slice (some ⟨w.heap.size, 0, none⟩) 0 0) 0 [] :=
  World.ownsRow_lit w #[] 0 (Nat.le_refl _) (Nat.zero_le _) (by simp)
def icells (k : IntKind) (l : List Int) : List Value := l.map (.int k)
theorem Sl.cell {w : World} {b off len cap : Nat} {k : IntKind} {l : List Int} (h : Sl w 1 (some ⟨b, off, none⟩) len cap (icells k l)) (i : Nat) (hi : i < l.length) : w.cell? ⟨b, off + i, none⟩ = some (.int k (l.getD i 0)) := by
  obtain ⟨b', off', ha, hc⟩ := Sl.at h i (by simpa [icells] using hi)
  cases ha
  rw [hc]
  simp [icells, hi]
end Go.Proofs.YtdphdodjidbngaaGreat

namespace Go.Proofs.YtdphdodjidbngaaGreat
open Go.RowKit
set_option linter.unusedVariables false
set_option linter.unusedSimpArgs false

/-- w' is w, but for new blocks and what lies in block B. -/
structure Only (B : Nat) (w w' : World) : Prop where
  size : w.heap.size ≤ w'.heap.size
  keep : ∀ g, g ≠ B → g < w.heap.size → w'.heap[g]? = w.heap[g]?
  below : ∀ base, base ≤ B → base ≤ w.heap.size → Below base w w'
theorem Only.refl (B : Nat) (w : World) : Only B w w := ⟨Nat.le_refl _, fun _ _ _ => rfl, fun _ _ _ => Below.refl _ _⟩
theorem Only.of_below {B : Nat} {w w' : World} (h : Below w.heap.size w w') : Only B w w' := ⟨h.size, fun g _ hg => h.block g hg, fun base _ hb => h.mono hb⟩
theorem Only.set {B : Nat} {w w' : World} (h : Only B w w') (i : Nat) (v : Value) : Only B w (w'.setCell ⟨B, i, none⟩ v) :=
  ⟨by have := h.size; simpa [World.setCell] using this, fun g hg hl => (Below.heap_setCell _ _ _ _ hg).trans (h.keep g hg hl), fun base h1 h2 => (h.below base h1 h2).setCell h1 v⟩
theorem Only.trans {B : Nat} {w w' w2 : World} (h : Only B w w') (k : Only B w' w2) : Only B w w2 :=
  ⟨Nat.le_trans h.size k.size, fun g hg hl => (k.keep g hg (Nat.lt_of_lt_of_le hl h.size)).trans (h.keep g hg hl), fun base h1 h2 => (h.below base h1 h2).trans (k.below base h1 (Nat.le_trans h2 h.size))⟩
theorem Only.block {B g : Nat} {w w' : World} {o : Obj} (h : Only B w w') (hg : w.heap[g]? = some o) (hne : g ≠ B) : w'.heap[g]? = some o := (h.keep g hne (lt_of_block hg)).trans hg

theorem Only.grow {B : Nat} {w w' w2 : World} (h : Only B w w') (hb : Below w.heap.size w' w2) : Only B w w2 :=
  ⟨Nat.le_trans h.size hb.size, fun g hg hl => (hb.block g hl).trans (h.keep g hg hl), fun base h1 h2 => (h.below base h1 h2).trans (hb.mono h2)⟩
end Go.Proofs.YtdphdodjidbngaaGreat

namespace Go.Proofs.YtdphdodjidbngaaGreat
open Go.RowKit
set_option linter.unusedVariables false

/-- The cells of a row whose elements lie as f tells. -/
def gcells {α : Type} (f : α → List Value) (l : List α) : List Value := (l.map f).flatten
theorem gcells_cons {α : Type} (f : α → List Value) (x : α) (l : List α) : gcells f (x :: l) = f x ++ gcells f l := by simp [gcells]
theorem gcells_append {α : Type} (f : α → List Value) (l m : List α) : gcells f (l ++ m) = gcells f l ++ gcells f m := by simp [gcells]
theorem gcells_snoc {α : Type} (f : α → List Value) (l : List α) (x : α) : gcells f (l ++ [x]) = gcells f l ++ f x := by simp [gcells]
theorem gcells_length {α : Type} {f : α → List Value} {n : Nat} (hf : ∀ x, (f x).length = n) (l : List α) : (gcells f l).length = l.length * n := by
  induction l with
  | nil => simp [gcells]
  | cons x l ih => rw [gcells_cons, List.length_append, ih, hf, List.length_cons, Nat.succ_mul]; omega
theorem gcells_get {α : Type} {f : α → List Value} {n : Nat} (hf : ∀ x, (f x).length = n) : ∀ (l : List α) (k : Nat) (hk : k < l.length) (i : Nat), i < n → (gcells f l)[k * n + i]? = (f l[k])[i]?
  | [], k, hk, i, hi => absurd hk (by simp)
  | x :: l, 0, hk, i, hi => by
    rw [gcells_cons, Nat.zero_mul, Nat.zero_add, List.getElem?_append_left (by rw [hf]; exact hi)]
    rfl
  | x :: l, k + 1, hk, i, hi => by
    rw [gcells_cons, List.getElem?_append_right (by rw [hf, Nat.succ_mul]; omega), hf, show (k + 1) * n + i - n = k * n + i by rw [Nat.succ_mul]; omega]
    exact gcells_get hf l k (by simpa using hk) i hi
theorem Sl.gat {α : Type} {f : α → List Value} {n : Nat} (hf : ∀ x, (f x).length = n) {w : World} {A : Option Addr} {len cap : Nat} {l : List α} (h : Sl w n A len cap (gcells f l)) (k : Nat) (hk : k < l.length) (h0 : 0 < n) :
    ∃ b off, A = some ⟨b, off, none⟩ ∧ ∀ i v, (f l[k])[i]? = some v → w.cell? ⟨b, off + k * n + i, none⟩ = some v := by
  have hl := gcells_length hf l
  have hlt : k * n + n ≤ l.length * n := by rw [← Nat.succ_mul]; exact Nat.mul_le_mul_right _ hk
  obtain ⟨b, off, ha, hc⟩ := h.2.2.2 (by omega)
  refine ⟨b, off, ha, fun i v hv => ?_⟩
  have hi : i < n := by
    have := (List.getElem?_eq_some_iff.1 hv).1
    rwa [hf] at this
  rw [Nat.add_assoc, hc _ (by omega), gcells_get hf l k hk i hi, hv]
theorem Sl.glen {α : Type} {f : α → List Value} {n : Nat} (hf : ∀ x, (f x).length = n) (h0 : 0 < n) {w : World} {A : Option Addr} {len cap : Nat} {l : List α} (h : Sl w n A len cap (gcells f l)) : len = l.length := by
  have h1 := h.1
  rw [gcells_length hf] at h1
  exact (Nat.eq_of_mul_eq_mul_right h0 h1).symm
/-- Rows that came in. -/
theorem rows_in {α : Type} [Inhabited α] {P : Program} {w : World} {T e : TypeId} {A : Option Addr} {len cap n : Nat} {f : α → List Value} (p : α → Prop) (ht : P.underlying T = some (.slice e)) (hn : P.cellsOf e = n) (h0 : 0 < n) (hf : ∀ x, (f x).length = n)
    (key : ∀ cs, cs.length = n → Rd P w e cs → ∃ x : α, cs = f x ∧ p x) (h : Rd P w T [.slice A len cap]) : ∃ l : List α, Sl w n A len cap (gcells f l) ∧ l.length = len ∧ ∀ x ∈ l, p x := by
  obtain ⟨h1, h2, h3⟩ := Rd.slice_plain ht hn h0 h
  by_cases hl0 : 0 < len
  · obtain ⟨b, off, rfl, z, hz⟩ := h3 hl0
    have hk : ∀ i, i < len → ∃ x : α, z i = f x ∧ p x := fun i hi => key _ (hz i hi).1 (hz i hi).2.1
    obtain ⟨g, hg⟩ := Go.Deep.choose_lt hk
    have hll : ((List.range len).map g).length = len := by simp
    refine ⟨(List.range len).map g, ⟨by rw [gcells_length hf, hll], h1, h2, fun _ => ⟨b, off, rfl, fun i hi => ?_⟩⟩, hll, fun x hx => ?_⟩
    · rw [gcells_length hf, hll] at hi
      have hkk : i / n < len := Nat.div_lt_of_lt_mul (by rw [Nat.mul_comm]; exact hi)
      have hm : i % n < n := Nat.mod_lt _ h0
      have e1 := gcells_get hf ((List.range len).map g) (i / n) (by rw [hll]; exact hkk) (i % n) hm
      have hgk : ((List.range len).map g)[i / n]'(by rw [hll]; exact hkk) = g (i / n) := by simp
      have hdm : i / n * n + i % n = i := by rw [Nat.mul_comm]; exact Nat.div_add_mod i n
      rw [hgk, hdm] at e1
      have h9 := (hz (i / n) hkk).2.2 (i % n) hm
      rw [(hg (i / n) hkk).1, ← e1, Nat.add_assoc, hdm] at h9
      exact h9
    · obtain ⟨i, hi, rfl⟩ := List.mem_map.1 hx
      exact (hg i (List.mem_range.1 hi)).2
  · obtain rfl : len = 0 := by omega
    exact ⟨[], ⟨by simp [gcells], h1, h2, fun h => by simp [gcells] at h⟩, rfl, by simp⟩
end Go.Proofs.YtdphdodjidbngaaGreat

namespace Go.Proofs.YtdphdodjidbngaaGreat
open Go.RowKit
set_option linter.unusedVariables false
set_option linter.unusedSimpArgs false

def pcells (l : List (Int × Int)) : List Value := l.flatMap fun p => [.int .i64 p.1, .int .i64 p.2]
theorem pcells_snoc (l : List (Int × Int)) (p : Int × Int) : pcells (l ++ [p]) = pcells l ++ [.int .i64 p.1, .int .i64 p.2] := by simp [pcells]
/-! rows that are cut and cleared -/
end Go.Proofs.YtdphdodjidbngaaGreat

namespace Go.Proofs.YtdphdodjidbngaaGreat
open Go.RowKit

theorem run_append_where {P : Program} (w : World) (base : Nat) (t ty e : TypeId) (i : TypeInfo) (z : Value) (size bytes : Nat) (ht : P.underlying t = some (.slice e)) (hi : P.info? e = some i) (hz : i.zero = some z)
    (hsize : i.size = size) (hby : i.bytes = bytes) (hzs : z.cells.size = size) (hsz : 0 < size)
    (v : Value) (n : Nat) (xs : List Value) (hown : w.ownsRow base e size v n xs)
    (a : Addr) (m c : Nat) (news : List Value) (hl : news.length = m * size) (hnews : ∀ j u, news[j]? = some u → w.cell? (a.add j) = some u) (h1 : ∀ u ∈ news, u.oneCell' = true)
    (h63 : n + m ≤ maxLen) (hbytes : (n + m) * bytes ≤ 140737488355328) {v' : Value} {w' : World}
    (hr : (Builtin.append_ #[t, t] ty #[v, .slice (some a) m c]).run P w = .ok v' w') : v'.ownBlock = v.ownBlock ∨ ∀ g, v'.ownBlock = some g → w.heap.size ≤ g := by
  rcases hown.2 with ⟨rfl, rfl⟩ | ⟨g, cap, cur, rfl, hbg, hg, hnc, hcm, hcs, htake⟩
  · have hx : xs = [] := List.eq_nil_of_length_eq_zero (by simpa using hown.1)
    subst hx
    obtain ⟨v2, w2, hr2, h2, _⟩ := run_append_own (P := P) w w.heap.size t ty e i z size bytes ht hi hz hsize hby hzs hsz _ 0 [] (World.ownsRow_nil w w.heap.size e size) a m c news hl hnews h1 h63 hbytes (Nat.le_refl _)
    rw [hr] at hr2
    injection hr2 with e1 e2
    subst e1
    exact .inr fun g hg => (h2.lt g hg).1
  · subst hsize
    subst hby
    by_cases hroom : n + m ≤ cap
    · have hfit : n * i.size + news.length ≤ cur.size := by rw [hl, hcs, ← Nat.add_mul]; exact Nat.mul_le_mul_right _ hroom
      rw [run_append_room (P := P) w t ty e i ht hi g n cap cur hg a m c news hl hnews h1 hroom hfit] at hr
      injection hr with e1 e2
      subst e1
      exact .inl rfl
    · have hsmall : n + m ≤ 9223372036854775807 := by simp only [maxLen] at h63; omega
      have holds : ∀ j u, xs[j]? = some u → w.cell? ((⟨g, 0, none⟩ : Addr).add j) = some u := hown.cells (g := g) rfl
      rw [run_append_grow (P := P) w t ty e i z ht hi hz ⟨g, 0, none⟩ n cap xs hown.1 holds a m c news hl hnews (by omega) (by omega) (growslice_fits (by omega) hbytes)] at hr
      injection hr with e1 e2
      subst e1
      exact .inr fun g hg => by simp [Value.ownBlock] at hg; omega

/-- Two rows of one element type, neither in the other's block. -/
def TwoR (w : World) (B e : Nat) (v1 : Value) (l1 : List (Int × Int)) (v2 : Value) (l2 : List (Int × Int)) : Prop :=
  w.ownsRow B e 2 v1 l1.length (pcells l1) ∧ w.ownsRow B e 2 v2 l2.length (pcells l2) ∧ ∀ g, v1.ownBlock = some g → v2.ownBlock ≠ some g
theorem TwoR.swap {w : World} {B e : Nat} {v1 : Value} {l1 : List (Int × Int)} {v2 : Value} {l2 : List (Int × Int)} (h : TwoR w B e v1 l1 v2 l2) : TwoR w B e v2 l2 v1 l1 := ⟨h.2.1, h.1, fun g h1 h2 => h.2.2 g h2 h1⟩
theorem TwoR.nil (w : World) (B e : Nat) : TwoR w B e (.slice none 0 0) [] (.slice none 0 0) [] := ⟨World.ownsRow_nil _ _ _ _, World.ownsRow_nil _ _ _ _, fun g h => by simp [Value.ownBlock] at h⟩
theorem TwoR.keep {w w' : World} {B e : Nat} {v1 : Value} {l1 : List (Int × Int)} {v2 : Value} {l2 : List (Int × Int)} (h : TwoR w B e v1 l1 v2 l2) (hb : Below w.heap.size w w') : TwoR w' B e v1 l1 v2 l2 := ⟨own_keep h.1 hb, own_keep h.2.1 hb, h.2.2⟩
theorem TwoR.push {w w' : World} {B e : Nat} {v1 v1' : Value} {l1 : List (Int × Int)} {v2 : Value} {l2 : List (Int × Int)} {a b : Int} (h : TwoR w B e v1 l1 v2 l2)
    (h2 : w'.ownsRow B e 2 v1' (l1.length + 1) (pcells l1 ++ [.int .i64 a, .int .i64 b])) (h3 : ∀ g, B ≤ g → g < w.heap.size → v1.ownBlock ≠ some g → w'.heap[g]? = w.heap[g]?)
    (h4 : v1'.ownBlock = v1.ownBlock ∨ ∀ g, v1'.ownBlock = some g → w.heap.size ≤ g) : TwoR w' B e v1' (l1 ++ [(a, b)]) v2 l2 := by
  refine ⟨by rw [List.length_append, pcells_snoc]; exact h2, ⟨h.2.1.1, ?_⟩, fun g hg hg2 => ?_⟩
  · rcases h.2.1.2 with k2 | ⟨g, cap, cur, k3, k4, k5, k6⟩
    · exact .inl k2
    · exact .inr ⟨g, cap, cur, k3, k4, (h3 g k4 (lt_of_block k5) (fun hv => h.2.2 g hv (by rw [k3]; rfl))).trans k5, k6⟩
  · rcases h4 with h4 | h4
    · exact h.2.2 g (h4 ▸ hg) hg2
    · have := h4 g hg
      have := (h.2.1.lt g hg2).2
      omega
end Go.Proofs.YtdphdodjidbngaaGreat

namespace Go.Proofs.YtdphdodjidbngaaGreat
open Go.RowKit
set_option linter.unusedVariables false
set_option linter.unusedSimpArgs false

/-- w' is w, but for new blocks and what lies in the blocks of S. -/
structure Tch (S : Nat → Prop) (w w' : World) : Prop where
  size : w.heap.size ≤ w'.heap.size
  keep : ∀ g, ¬ S g → g < w.heap.size → w'.heap[g]? = w.heap[g]?
  below : ∀ base, (∀ g, S g → g < w.heap.size → base ≤ g) → base ≤ w.heap.size → Below base w w'
theorem Tch.refl (S : Nat → Prop) (w : World) : Tch S w w := ⟨Nat.le_refl _, fun _ _ _ => rfl, fun _ _ _ => Below.refl _ _⟩
theorem Tch.of_below {S : Nat → Prop} {w w' : World} (h : Below w.heap.size w w') : Tch S w w' := ⟨h.size, fun g _ hg => h.block g hg, fun base _ hb => h.mono hb⟩
/-- Touched anew: the second one's blocks are of S, or new. -/
theorem Tch.trans {S S' : Nat → Prop} {w w' w2 : World} (h : Tch S w w') (k : Tch S' w' w2) (hs : ∀ g, S' g → g < w.heap.size → S g) : Tch S w w2 :=
  ⟨Nat.le_trans h.size k.size, fun g hg hl => (k.keep g (fun h9 => hg (hs g h9 hl)) (Nat.lt_of_lt_of_le hl h.size)).trans (h.keep g hg hl), fun base h1 h2 => (h.below base h1 h2).trans (k.below base (fun g hg hl => by
    rcases Nat.lt_or_ge g w.heap.size with h9 | h9
    · exact h1 g (hs g hg h9) h9
    · omega) (Nat.le_trans h2 h.size))⟩
theorem Tch.mono {S S' : Nat → Prop} {w w' : World} (h : Tch S w w') (hs : ∀ g, S g → g < w.heap.size → S' g) : Tch S' w w' := (Tch.refl S' w).trans h hs
theorem Tch.grow {S : Nat → Prop} {w w' w2 : World} (h : Tch S w w') (hb : Below w'.heap.size w' w2) : Tch S w w2 := h.trans (Tch.of_below (S := fun _ => False) hb) fun _ h9 => h9.elim
theorem Tch.set {S : Nat → Prop} {w w' : World} (h : Tch S w w') (b i : Nat) (v : Value) (hb : b < w.heap.size → S b) : Tch S w (w'.setCell ⟨b, i, none⟩ v) :=
  ⟨by have := h.size; simpa [World.setCell] using this, fun g hg hl => (Below.heap_setCell _ _ _ _ (fun e : g = b => hg (by rw [e]; exact hb (by omega)))).trans (h.keep g hg hl), fun base h1 h2 => (h.below base h1 h2).setCell (p := ⟨b, i, none⟩) (by
    show base ≤ b
    rcases Nat.lt_or_ge b w.heap.size with h9 | h9
    · exact h1 b (hb h9) h9
    · omega) v⟩
theorem Tch.block {S : Nat → Prop} {g : Nat} {w w' : World} {o : Obj} (h : Tch S w w') (hg : w.heap[g]? = some o) (hn : ¬ S g) : w'.heap[g]? = some o := (h.keep g hn (lt_of_block hg)).trans hg
theorem Tch.own {S : Nat → Prop} {w w' : World} {base e s n : Nat} {v : Value} {xs : List Value} (h : Tch S w w') (ho : w.ownsRow base e s v n xs) (hn : ∀ g, v.ownBlock = some g → ¬ S g) : w'.ownsRow base e s v n xs := by
  refine ⟨ho.1, ?_⟩
  rcases ho.2 with h2 | ⟨g, cap, cur, h3, h4, h5, h6⟩
  · exact .inl h2
  · exact .inr ⟨g, cap, cur, h3, h4, h.block h5 (hn g (by rw [h3]; rfl)), h6⟩
theorem own_lt {w : World} {base e s n : Nat} {v : Value} {xs : List Value} (h : w.ownsRow base e s v n xs) (g : Nat) (hg : v.ownBlock = some g) : base ≤ g ∧ g < w.heap.size ∧ ∃ cur : Array Value, w.heap[g]? = some (.cells cur e (0, 0)) := by
  rcases h.2 with ⟨rfl, _⟩ | ⟨g', cap, cur, rfl, hb, hh, _⟩
  · simp [Value.ownBlock] at hg
  · have : g' = g := by simpa [Value.ownBlock] using hg
    subst this
    exact ⟨hb, lt_of_block hh, cur, hh⟩
/-- Rows of unlike element types lie in unlike blocks. -/
theorem own_apart {w : World} {base base' e e' s s' n n' : Nat} {v v' : Value} {xs xs' : List Value} (h : w.ownsRow base e s v n xs) (h' : w.ownsRow base' e' s' v' n' xs') (hne : e ≠ e') (g : Nat) (hg : v.ownBlock = some g) : v'.ownBlock ≠ some g := by
  intro hg'
  obtain ⟨_, _, c1, h1⟩ := own_lt h g hg
  obtain ⟨_, _, c2, h2⟩ := own_lt h' g hg'
  rw [h1] at h2
  injection h2 with h2
  injection h2 with _ ht
  exact hne ht
theorem own_apart_blk {w : World} {base e s n t b : Nat} {v : Value} {xs : List Value} {cs : Array Value} {fr : Nat × Nat} (h : w.ownsRow base e s v n xs) (hb : w.heap[b]? = some (.cells cs t fr)) (hne : e ≠ t) (g : Nat) (hg : v.ownBlock = some g) : g ≠ b := by
  rintro rfl
  obtain ⟨_, _, c1, h1⟩ := own_lt h g hg
  rw [h1] at hb
  injection hb with hb
  injection hb with _ ht
  exact hne ht
section
variable {P : Program} {w : World}
theorem wp_append_slw {o : Oper} {a : Act} {K : Act → World → Prop} {Q : Exit → Act → World → Prop} (s x : Operand) (t : TypeId) (ho : o.op = .call { callee := .builtin .append, args := #[s, x], argTypes := #[t, t] })
    (base : Nat) (e : TypeId) {z : Value} {size bytes : Nat} (ht : P.underlying t = some (.slice e)) (hinf : (P.info? e).map (fun i => (i.zero, i.size, i.bytes)) = some (some z, size, bytes)) (hzs : z.cells.size = size) (hsz : 0 < size)
    {v : Value} {n : Nat} {xs : List Value} (hs : a.eval s = v) (hown : w.ownsRow base e size v n xs)
    {A : Option Addr} {m c : Nat} {news : List Value} (hx : a.eval x = .slice A m c) (hsl : Sl w size A m c news) (h1 : ∀ u ∈ news, u.oneCell' = true)
    (h63 : n + m ≤ maxLen) (hbytes : (n + m) * bytes ≤ 140737488355328) (hbase : base ≤ w.heap.size)
    (h : ∀ v' w', w'.ownsRow base e size v' (n + m) (xs ++ news) → Tch (fun g => v.ownBlock = some g) w w' → (v'.ownBlock = v.ownBlock ∨ ∀ g, v'.ownBlock = some g → w.heap.size ≤ g) → K (a.put o.dst v') w') : o.wp P a w K Q := by
  obtain ⟨i, hi, hz, hsize, hby⟩ := info_parts hinf
  by_cases h0 : news.length = 0
  · have hn : news = [] := List.eq_nil_of_length_eq_zero h0
    subst hn
    have hm : m = 0 := by
      have := hsl.1
      simp only [List.length_nil] at this
      rcases Nat.mul_eq_zero.1 this.symm with h | h
      · exact h
      · omega
    subst hm
    have hl0 : ∀ a : Addr, (loadCells a 0).run P w = .ok #[] w := fun a => by simpa using run_loadCells_list (P := P) w a [] (by simp)
    have hrun : (Builtin.append_ #[t, t] o.type #[v, .slice A 0 c]).run P w = .ok v w := by
      rcases hown.2 with ⟨rfl, rfl⟩ | ⟨g, cap, cur, rfl, _, _, hnc, _⟩
      · cases A <;> simp [Builtin.append_, run_underlying ht, sizeOf, typeInfo, hi, Builtin.lenOf, Builtin.firstCells, hl0, storeCells]
      · cases A <;> simp [Builtin.append_, run_underlying ht, sizeOf, typeInfo, hi, Builtin.lenOf, Builtin.firstCells, hnc, hl0, storeCells]
    unfold Oper.wp execOp
    simp only [ho, resolve, invoke, builtin, Sem.run_bind, Sem.run_pure, Result.andThen_ok, List.map_toArray, List.map_cons, List.map_nil, hs, hx, hrun]
    exact h v w (by simpa using hown) (Tch.refl _ _) (.inl rfl)
  · obtain ⟨b, off, rfl, hc⟩ := hsl.2.2.2 (by omega)
    have hnews : ∀ j u, news[j]? = some u → w.cell? ((⟨b, off, none⟩ : Addr).add j) = some u := fun j u hj => by
      rw [add_none, hc j (List.getElem?_eq_some_iff.1 hj).1, hj]
    obtain ⟨v', w', hr, h2, h3, h4⟩ := run_append_own (P := P) w base t o.type e i z size bytes ht hi hz hsize hby hzs hsz v n xs hown ⟨b, off, none⟩ m c news hsl.1 hnews h1 h63 hbytes hbase
    have h5 := run_append_where (P := P) w base t o.type e i z size bytes ht hi hz hsize hby hzs hsz v n xs hown ⟨b, off, none⟩ m c news hsl.1 hnews h1 h63 hbytes hr
    unfold Oper.wp execOp
    simp only [ho, resolve, invoke, builtin, Sem.run_bind, Sem.run_pure, Result.andThen_ok, List.map_toArray, List.map_cons, List.map_nil, hs, hx, hr]
    refine h v' w' h2 ⟨h3.size, fun g hg hl => h3.block g hl fun e => hg e.symm, fun b' hb1 hb2 => ?_⟩ h5
    have hown' : w.ownsRow b' e size v n xs := by
      refine ⟨hown.1, ?_⟩
      rcases hown.2 with h9 | ⟨g, cap, cur, k3, k4, k5, k6⟩
      · exact .inl h9
      · exact .inr ⟨g, cap, cur, k3, hb1 g (by rw [k3]; rfl) (lt_of_block k5), k5, k6⟩
    exact below_grown (Below.refl _ _) hown' h3 hb2

theorem wpList_append_slw {ops : Array Oper} {rest : List Oper} {o : Oper} {a : Act} {Q : Exit → Act → World → Prop} (hgd : o.guard = none) (s x : Operand) (t : TypeId) (ho : o.op = .call { callee := .builtin .append, args := #[s, x], argTypes := #[t, t] })
    (base : Nat) (e : TypeId) {z : Value} {size bytes : Nat} (ht : P.underlying t = some (.slice e)) (hinf : (P.info? e).map (fun i => (i.zero, i.size, i.bytes)) = some (some z, size, bytes)) (hzs : z.cells.size = size) (hsz : 0 < size)
    {v : Value} {n : Nat} {xs : List Value} (hs : a.eval s = v) (hown : w.ownsRow base e size v n xs)
    {A : Option Addr} {m c : Nat} {news : List Value} (hx : a.eval x = .slice A m c) (hsl : Sl w size A m c news) (h1 : ∀ u ∈ news, u.oneCell' = true)
    (h63 : n + m ≤ maxLen) (hbytes : (n + m) * bytes ≤ 140737488355328) (hbase : base ≤ w.heap.size)
    (h : ∀ v' w', w'.ownsRow base e size v' (n + m) (xs ++ news) → Tch (fun g => v.ownBlock = some g) w w' → (v'.ownBlock = v.ownBlock ∨ ∀ g, v'.ownBlock = some g → w.heap.size ≤ g) → wpList P ops Q rest (a.put o.dst v') w') : wpList P ops Q (o :: rest) a w :=
  wpList_plain hgd fun K hK => wp_append_slw s x t ho base e ht hinf hzs hsz hs hown hx hsl h1 h63 hbytes hbase fun v' w' h2 h3 h4 => hK _ _ (h v' w' h2 h3 h4)
end
end Go.Proofs.YtdphdodjidbngaaGreat

namespace Go.Proofs.YtdphdodjidbngaaGreat
open Go.RowKit
set_option linter.unusedVariables false
set_option linter.unusedSimpArgs false

def Mid (w : World) (base : Nat) (e : TypeId) (size : Nat) (v : Value) (n : Nat) (xs : List Value) : Prop :=
  xs.length = n * size ∧ ((v = .slice none 0 0 ∧ n = 0) ∨
    ∃ g off cap cur, v = .slice (some ⟨g, off, none⟩) n cap ∧ base ≤ g ∧ w.heap[g]? = some (.cells cur e (0, 0)) ∧ n ≤ cap ∧ cap ≤ maxLen ∧ off + cap * size ≤ cur.size ∧ (cur.toList.drop off).take (n * size) = xs)
theorem Mid.of_own {w : World} {base e size n : Nat} {v : Value} {xs : List Value} (h : w.ownsRow base e size v n xs) : Mid w base e size v n xs := by
  refine ⟨h.1, ?_⟩
  rcases h.2 with h2 | ⟨g, cap, cur, h3, h4, h5, h6, h7, h8, h9⟩
  · exact .inl h2
  · exact .inr ⟨g, 0, cap, cur, h3, h4, h5, h6, h7, by omega, by simpa using h9⟩
theorem Mid.form {w : World} {base e size n : Nat} {v : Value} {xs : List Value} (h : Mid w base e size v n xs) : ∃ A c, v = .slice A n c ∧ Sl w size A n c xs := by
  rcases h.2 with ⟨rfl, rfl⟩ | ⟨g, off, cap, cur, rfl, hb, hg, hnc, hcm, hcs, ht⟩
  · exact ⟨none, 0, rfl, h.1, Nat.le_refl _, Nat.zero_le _, fun h0 => by have := h.1; omega⟩
  · refine ⟨_, _, rfl, h.1, hnc, hcm, fun _ => ⟨g, off, rfl, fun i hi => ?_⟩⟩
    rw [cell_of_row w g (off + i) cur e (0, 0) hg, ← ht, List.getElem?_take, if_pos (by have := h.1; omega), List.getElem?_drop]
    simp
theorem Mid.sl {w : World} {base e size n : Nat} {A : Option Addr} {c : Nat} {xs : List Value} (h : Mid w base e size (.slice A n c) n xs) : Sl w size A n c xs := by
  obtain ⟨a, c', h1, h2⟩ := h.form
  cases h1
  exact h2
theorem Mid.block {w w' : World} {base e size n : Nat} {v : Value} {xs : List Value} (h : Mid w base e size v n xs) (hb : ∀ g o, base ≤ g → w.heap[g]? = some o → (∃ cs, o = .cells cs e (0, 0)) → v.ownBlock = some g → w'.heap[g]? = some o) : Mid w' base e size v n xs := by
  refine ⟨h.1, ?_⟩
  rcases h.2 with h2 | ⟨g, off, cap, cur, rfl, h4, h5, h6⟩
  · exact .inl h2
  · exact .inr ⟨g, off, cap, cur, rfl, h4, hb g _ h4 h5 ⟨_, rfl⟩ rfl, h6⟩
theorem Mid.keep {w w' : World} {base e size n : Nat} {v : Value} {xs : List Value} (h : Mid w base e size v n xs) (hb : Below w.heap.size w w') : Mid w' base e size v n xs := h.block fun _ _ _ ho _ _ => keep0 ho hb
theorem Mid.drewN {w : World} {base e size n : Nat} {v : Value} {xs : List Value} (h : Mid w base e size v n xs) (k : Nat) : Mid (w.drewN k) base e size v n xs := h
theorem Mid.mono {w : World} {base b' e size n : Nat} {v : Value} {xs : List Value} (h : Mid w base e size v n xs) (hb : b' ≤ base) : Mid w b' e size v n xs := by
  refine ⟨h.1, ?_⟩
  rcases h.2 with h2 | ⟨g, off, cap, cur, h3, h4, h5⟩
  · exact .inl h2
  · exact .inr ⟨g, off, cap, cur, h3, Nat.le_trans hb h4, h5⟩
theorem Mid.setOther {w : World} {base e size n B t : Nat} {v : Value} {xs : List Value} {cs : Array Value} (h : Mid w base e size v n xs) (hB : w.heap[B]? = some (.cells cs t (0, 0))) (hne : e ≠ t) (i : Nat) (u : Value) : Mid (w.setCell ⟨B, i, none⟩ u) base e size v n xs :=
  h.block fun g o _ ho ⟨cs', he⟩ _ => (Below.heap_setCell _ _ _ _ (fun (e2 : g = B) => by
    subst e2
    rw [ho, he] at hB
    injection hB with hB
    injection hB with _ ht
    exact hne ht)).trans ho
theorem Mid.only {w w' : World} {base e size n B t : Nat} {v : Value} {xs : List Value} {cs : Array Value} (h : Mid w base e size v n xs) (hB : w.heap[B]? = some (.cells cs t (0, 0))) (hne : e ≠ t) (hk : ∀ g, g ≠ B → g < w.heap.size → w'.heap[g]? = w.heap[g]?) : Mid w' base e size v n xs :=
  h.block fun g o _ ho ⟨cs', he⟩ _ => (hk g (fun e2 => by
    subst e2
    rw [ho, he] at hB
    injection hB with hB
    injection hB with _ ht
    exact hne ht) (lt_of_block ho)).trans ho
theorem Mid.drop {w : World} {base e size n : Nat} {A : Option Addr} {c : Nat} {xs : List Value} (h : Mid w base e size (.slice A n c) n xs) (k : Nat) (hk : k ≤ n) : Mid w base e size (.slice (dropA A c k size) (n - k) (c - k)) (n - k) (xs.drop (k * size)) := by
  have hl : (xs.drop (k * size)).length = (n - k) * size := by rw [List.length_drop, h.1, Nat.sub_mul]
  refine ⟨hl, ?_⟩
  rcases h.2 with ⟨h1, rfl⟩ | ⟨g, off, cap, cur, h1, h4, h5, h6, h7, h8, h9⟩
  · cases h1
    obtain rfl : k = 0 := by omega
    exact .inl ⟨by simp [dropA], rfl⟩
  · cases h1
    by_cases hc : c = k
    · refine .inr ⟨g, off, 0, cur, by rw [dropA, if_pos hc, hc, Nat.sub_self], h4, h5, by omega, Nat.zero_le _, by omega, ?_⟩
      have h0 : n - k = 0 := by omega
      rw [h0, Nat.zero_mul, List.take_zero]
      rw [h0, Nat.zero_mul] at hl
      exact (List.eq_nil_of_length_eq_zero hl).symm
    · have hm : k * size + (n - k) * size = n * size := by rw [← Nat.add_mul, show k + (n - k) = n by omega]
      have hm2 : k * size + (c - k) * size = c * size := by rw [← Nat.add_mul, show k + (c - k) = c by omega]
      refine .inr ⟨g, off + k * size, c - k, cur, by rw [dropA, if_neg hc]; simp [add_none], h4, h5, by omega, by omega, by omega, ?_⟩
      rw [← h9, List.drop_take, List.drop_drop]
      congr 1
      omega

theorem setCells_row {g : Nat} {e : TypeId} : ∀ (vs : List Value) (o : Nat) (w : World) (cur : Array Value), w.heap[g]? = some (.cells cur e (0, 0)) → ∃ cur' : Array Value, (w.setCells g o vs).heap[g]? = some (.cells cur' e (0, 0)) ∧ cur'.size = cur.size ∧ (∀ i, i < o ∨ o + vs.length ≤ i → cur'[i]? = cur[i]?) ∧ ∀ j, j < vs.length → o + j < cur.size → cur'[o + j]? = vs[j]?
  | [], o, w, cur, h => ⟨cur, h, rfl, fun _ _ => rfl, fun j hj => by simp at hj⟩
  | v :: r, o, w, cur, h => by
    obtain ⟨cur', h1, h2, h3, h4⟩ := setCells_row r (o + 1) (w.setCell ⟨g, o, none⟩ v) _ (heap_setCell_same w g o cur e v h)
    refine ⟨cur', h1, by simpa using h2, fun i hi => ?_, fun j hj hjs => ?_⟩
    · simp only [List.length_cons] at hi
      rw [h3 i (by omega), Array.getElem?_setIfInBounds_ne (by omega)]
    · cases j with
      | zero =>
        rw [Nat.add_zero, h3 o (by omega), Array.getElem?_setIfInBounds_self_of_lt (by omega)]
        rfl
      | succ j =>
        have := h4 j (by simpa using hj) (by simp; omega)
        rw [show o + (j + 1) = o + 1 + j by omega, this]
        simp

theorem append_mid {P : Program} {w : World} {t ty e : TypeId} {z : Value} {size bytes : Nat} (ht : P.underlying t = some (.slice e)) (hinf : (P.info? e).map (fun i => (i.zero, i.size, i.bytes)) = some (some z, size, bytes)) (hzs : z.cells.size = size) (hsz : 0 < size)
    {base n m c : Nat} {v : Value} {xs news : List Value} {A : Option Addr} (h : Mid w base e size v n xs) (hx : Sl w size A m c news) (h1 : ∀ u ∈ news, u.oneCell' = true)
    (h63 : n + m ≤ maxLen) (hbytes : (n + m) * bytes ≤ 140737488355328) (hbase : base ≤ w.heap.size) :
    ∃ v' w', (Builtin.append_ #[t, t] ty #[v, .slice A m c]).run P w = .ok v' w' ∧ Mid w' base e size v' (n + m) (xs ++ news) ∧ Below base w w' ∧ (∀ g, g < w.heap.size → v.ownBlock ≠ some g → w'.heap[g]? = w.heap[g]?) := by
  obtain ⟨i, hi, hz, hsize, hby⟩ := info_parts hinf
  rcases A with _ | ad
  · have h0 : news = [] := by
      rcases Nat.eq_zero_or_pos news.length with h0 | h0
      · exact List.eq_nil_of_length_eq_zero h0
      · obtain ⟨b, off, ha, _⟩ := hx.2.2.2 h0
        cases ha
    subst h0
    have hm : m = 0 := by
      have := hx.1
      simp only [List.length_nil] at this
      rcases Nat.mul_eq_zero.1 this.symm with h | h
      · exact h
      · omega
    subst hm
    refine ⟨v, w, ?_, by simpa using h, Below.refl _ _, fun _ _ _ => rfl⟩
    rcases h.2 with ⟨rfl, rfl⟩ | ⟨g, off, cap, cur, rfl, _, _, hnc, _⟩
    · simp [Builtin.append_, run_underlying ht, sizeOf, typeInfo, hi, Builtin.lenOf, Builtin.firstCells]
    · simp [Builtin.append_, run_underlying ht, sizeOf, typeInfo, hi, Builtin.lenOf, Builtin.firstCells, hnc, storeCells]
  · have hnews : ∀ j u, news[j]? = some u → w.cell? (ad.add j) = some u := by
      intro j u hj
      have hjl := (List.getElem?_eq_some_iff.1 hj).1
      obtain ⟨b, off, ha, hc⟩ := hx.2.2.2 (by omega)
      cases ha
      rw [add_none, hc j hjl, hj]
    rcases h.2 with ⟨rfl, rfl⟩ | ⟨g, off, cap, cur, rfl, hbg, hg, hnc, hcm, hcs, htake⟩
    · have h00 : xs = [] := List.eq_nil_of_length_eq_zero (by simpa using h.1)
      subst h00
      obtain ⟨v', w', hr, h2, h3, _⟩ := run_append_own (P := P) w base t ty e i z size bytes ht hi hz hsize hby hzs hsz _ 0 [] (World.ownsRow_nil w base e size) ad m c news hx.1 hnews h1 h63 hbytes hbase
      exact ⟨v', w', hr, Mid.of_own h2, below_grown (Below.refl _ _) (World.ownsRow_nil w base e size) h3 hbase, fun g hg hne => h3.block g hg fun e => hne e.symm⟩
    · have hlen : (xs ++ news).length = (n + m) * size := by rw [List.length_append, h.1, hx.1, Nat.add_mul]
      by_cases hroom : n + m ≤ cap
      · have hmul : (n + m) * size ≤ cap * size := Nat.mul_le_mul_right _ hroom
        rw [Nat.add_mul] at hmul
        have hf := run_firstCells_some (P := P) w size m ad m c news hx.1 hnews
        have hcell : ∀ j, j < news.length → (w.cell? ⟨g, off + n * size + j, none⟩).isSome = true := fun j hj => by
          have := hx.1
          rw [cell_of_row w g _ cur e (0, 0) hg, Array.getElem?_eq_getElem (by omega)]
          rfl
        have hfr : ∀ j, j < news.length → w.frozen? ⟨g, off + n * size + j, none⟩ = false := fun j _ => frozen_of_row w g _ cur e hg
        have hst := run_storeCells_cells (P := P) g (off + n * size) news 0 w (by simpa using hcell) (by simpa using hfr) h1
        simp only [Nat.add_zero] at hst
        obtain ⟨cur', k1, k2, k3, k4⟩ := setCells_row news (off + n * size) w cur hg
        refine ⟨.slice (some ⟨g, off, none⟩) (n + m) cap, w.setCells g (off + n * size) news, ?_, ⟨hlen, .inr ⟨g, off, cap, cur', rfl, hbg, k1, hroom, hcm, by omega, ?_⟩⟩, ?_, ?_⟩
        · subst hsize
          simp [Builtin.append_, run_underlying ht, sizeOf, typeInfo, hi, Builtin.lenOf, hroom, hf, add_none, hst]
        · have hxl := h.1
          have hnl := hx.1
          apply List.ext_getElem?
          intro j
          rw [List.getElem?_take, List.getElem?_drop, Nat.add_mul]
          by_cases hj1 : j < n * size
          · rw [if_pos (by omega), List.getElem?_append_left (by omega), ← htake, List.getElem?_take, if_pos hj1, List.getElem?_drop]
            have := k3 (off + j) (by omega)
            simpa using this
          · rw [List.getElem?_append_right (by omega), hxl]
            by_cases hj2 : j < n * size + m * size
            · rw [if_pos hj2]
              have := k4 (j - n * size) (by omega) (by omega)
              rw [show off + n * size + (j - n * size) = off + j by omega] at this
              simpa using this
            · rw [if_neg hj2, List.getElem?_eq_none (by omega)]
        · have : ∀ (vs : List Value) (o : Nat) (w0 : World), Below base w w0 → Below base w (w0.setCells g o vs) := by
            intro vs
            induction vs with
            | nil => intro o w0 h; exact h
            | cons v r ih => intro o w0 h; exact ih (o + 1) _ (h.setCell (p := ⟨g, o, none⟩) hbg v)
          exact this _ _ _ (Below.refl _ _)
        · intro j hj hne
          have hjg : j ≠ g := fun e => hne (by rw [e]; rfl)
          have : ∀ (vs : List Value) (o : Nat) (w0 : World), (w0.setCells g o vs).heap[j]? = w0.heap[j]? := by
            intro vs
            induction vs with
            | nil => intro o w0; rfl
            | cons v r ih => intro o w0; rw [World.setCells, ih, Below.heap_setCell _ _ _ _ hjg]
          exact this _ _ _
      · have holds : ∀ j u, xs[j]? = some u → w.cell? ((⟨g, off, none⟩ : Addr).add j) = some u := fun j u hj => by
          rw [← htake, List.getElem?_take] at hj
          split at hj
          · rw [List.getElem?_drop] at hj
            rw [add_none, cell_of_row w g _ cur e (0, 0) hg]
            simpa using hj
          · cases hj
        subst hsize
        subst hby
        have hsmall : n + m ≤ 9223372036854775807 := by simp only [maxLen] at h63; omega
        have hr := run_append_grow (P := P) w t ty e i z ht hi hz ⟨g, off, none⟩ n cap xs h.1 holds ad m c news hx.1 hnews (by omega) (by omega) (growslice_fits (by omega) hbytes)
        have hge := grownCap_ge w (n + m) cap e
        have hgm : grownCap w (n + m) cap e ≤ maxLen := grownCap_le_maxLen w (n + m) cap e h63
        refine ⟨_, _, hr, Mid.of_own ⟨hlen, .inr ⟨w.heap.size, _, _, rfl, hbase, heap_alloc_new w.drew _, hge, hgm, ?_, ?_⟩⟩, ?_, fun k hk _ => Below.heap_alloc w.drew _ k hk⟩
        · simp only [Array.size_append, List.size_toArray, size_zeroCells, hzs, h.1, hx.1, ← Nat.add_mul]
          congr 1
          omega
        · simp only [Array.toList_append, List.append_assoc]
          rw [← List.append_assoc, ← hlen]
          exact List.take_left
        · exact (below_drew (Below.refl _ _)).alloc hbase _
theorem wpList_append_mid {P : Program} {W w : World} {ops : Array Oper} {rest : List Oper} {o : Oper} {a : Act} {Q : Exit → Act → World → Prop} (hgd : o.guard = none) (s x : Operand) (t : TypeId) (ho : o.op = .call { callee := .builtin .append, args := #[s, x], argTypes := #[t, t] })
    (base : Nat) (e : TypeId) {z : Value} {size bytes : Nat} (ht : P.underlying t = some (.slice e)) (hinf : (P.info? e).map (fun i => (i.zero, i.size, i.bytes)) = some (some z, size, bytes)) (hzs : z.cells.size = size) (hsz : 0 < size)
    {v : Value} {n : Nat} {xs : List Value} (hs : a.eval s = v) (hown : Mid w base e size v n xs)
    {A : Option Addr} {m c : Nat} {news : List Value} (hx : a.eval x = .slice A m c) (hsl : Sl w size A m c news) (h1 : ∀ u ∈ news, u.oneCell' = true)
    (h63 : n + m ≤ maxLen) (hbytes : (n + m) * bytes ≤ 140737488355328) (hbase : base ≤ w.heap.size) (hb : Below base W w)
    (h : ∀ v' w', Mid w' base e size v' (n + m) (xs ++ news) → Below base W w' → w.heap.size ≤ w'.heap.size → (∀ g, g < w.heap.size → v.ownBlock ≠ some g → w'.heap[g]? = w.heap[g]?) → wpList P ops Q rest (a.put o.dst v') w') : wpList P ops Q (o :: rest) a w := by
  obtain ⟨v', w', hr, h2, h3, h4⟩ := append_mid (ty := o.type) ht hinf hzs hsz hown hsl h1 h63 hbytes hbase
  refine wpList_plain hgd fun K hK => ?_
  unfold Oper.wp execOp
  simp only [ho, resolve, invoke, builtin, Sem.run_bind, Sem.run_pure, Result.andThen_ok, List.map_toArray, List.map_cons, List.map_nil, hs, hx, hr]
  exact hK _ _ (h v' w' h2 (hb.trans h3) h3.size h4)
end Go.Proofs.YtdphdodjidbngaaGreat

namespace Go.Proofs.YtdphdodjidbngaaGreat
open Go.RowKit
set_option linter.unusedVariables false

set_option maxHeartbeats 400000 in
theorem same03 (A B : Option Addr) (len cap len' cap' : Nat) (l m : List (List UInt8)) (W : World) (hA : Sl W 1 A len cap (scells l)) (hB : Sl W 1 B len' cap' (scells m)) (h6 : len ≤ 9223372036854775807) (h7 : len' ≤ 9223372036854775807) :
    Calls Tryz.prog 9 #[.slice A len cap, .slice B len' cap'] W fun e w' => e = .returned (.bool (l == m)) ∧ ∃ q, w' = W.drewN q := by
  have hl : len = l.length := by have := hA.1; rw [scells_length] at this; omega
  have hm : len' = m.length := by have := hB.1; rw [scells_length] at this; omega
  subst hl hm
  by_cases hlen : l.length = m.length
  · have HA := hid (fun i hi => Sl.at hA i hi)
    have HB := hid (fun i hi => Sl.at hB i hi)
    clear hA hB
    have HL := hid hlen
    rw [← hlen]
    clear h7 hlen
    go_enter Tryz.func9, Tryz.ntmps9
    go_wp2
    go_loopw [5] (fun i wr => ∃ k q : Nat, k ≤ l.length ∧ i = .int .i64 (k : Int) ∧ wr = W.drewN q ∧ Hid (l.take k = m.take k)) (fun i _ => l.length - (intOf i).toNat)
    case atStart => exact ⟨0, 0, by omega, rfl, rfl, by simp [Hid]⟩
    case round =>
      obtain ⟨k, q, hk, rfl, rfl, HT⟩ := hrel
      by_cases hlt : k < l.length
      · obtain ⟨b, off, rfl, hc⟩ := HA.out k (by rw [scells_length]; exact hlt)
        obtain ⟨b2, off2, rfl, hc2⟩ := HB.out k (by rw [scells_length, ← HL.out]; exact hlt)
        have HL' := HL.out
        have e1 : (scells l)[k]'(by rw [scells_length]; exact hlt) = .string (str (l[k]'hlt)) := by simp [scells]
        have e2 : (scells m)[k]'(by rw [scells_length]; omega) = .string (str (m[k]'(by omega))) := by simp [scells]
        rw [e1] at hc
        rw [e2] at hc2
        have HE : Hid (l[k]'hlt = m[k]'(by omega) ↔ l.take (k + 1) = m.take (k + 1)) := by
          have h1 : l.take (k + 1) = l.take k ++ [l[k]'hlt] := by rw [List.take_add_one, List.getElem?_eq_getElem hlt]; rfl
          have h2 : m.take (k + 1) = m.take k ++ [m[k]'(by omega)] := by rw [List.take_add_one, List.getElem?_eq_getElem (by omega)]; rfl
          rw [Hid, h1, h2, HT.out]
          exact ⟨fun h => by rw [h], fun h => by simpa using List.append_cancel_left h⟩
        generalize l[k]'hlt = x at hc HE
        generalize m[k]'(by omega) = y at hc2 HE
        clear e1 e2 HL'
        have hlt2 : (k : Int) < (l.length : Int) := by omega
        by_cases hxy : x = y
        · have HE2 := hid (HE.out.1 hxy)
          clear HE
          subst hxy
          generalize str x = s at hc hc2
          have hne : (s.toList == s.toList) = true := by simp
          go_wp2
          go_quiet (fail)
          go_wp2
          go_roundw
          case rel => exact ⟨k + 1, q + nq, by omega, by go_num, rfl, HE2.out⟩
          case measure => simp [intOf]; omega
        · have hz := str_ne hxy
          have hz2 : ((str x).toList == (str y).toList) = false := by simpa using hz
          have HF : Hid ((l == m) = false) := by
            simp only [Hid, beq_eq_false_iff_ne, ne_eq]
            intro h
            exact hxy (HE.out.2 (by rw [h]))
          clear HE hxy
          generalize str x = s at hc hz hz2
          generalize str y = s2 at hc2 hz hz2
          go_wp2
          go_quiet (fail)
          go_wp2
          go_ret
          refine ⟨?_, q + nq, by simp⟩
          rw [HF.out]
          rfl
      · have HF : Hid ((l == m) = true) := by
          have h1 := HT.out
          rw [List.take_of_length_le (by omega), List.take_of_length_le (by have := HL.out; omega)] at h1
          simp [Hid, h1]
        have hge : ¬ (k : Int) < (l.length : Int) := by omega
        go_wp2
        go_ret
        refine ⟨?_, _, rfl⟩
        rw [HF.out]
        rfl
  · have HF : Hid ((l == m) = false) := by
      simp only [Hid, beq_eq_false_iff_ne, ne_eq]
      intro h
      exact hlen (by rw [h])
    rw [HF.out]
    have hne : ((l.length : Int) != (m.length : Int)) = true := by simp; omega
    clear HF hA hB h6 h7 hlen
    go_enter Tryz.func9, Tryz.ntmps9
    go_wp2
    go_ret
    exact ⟨rfl, 0, rfl⟩
end Go.Proofs.YtdphdodjidbngaaGreat

namespace Go.Proofs.YtdphdodjidbngaaGreat
open Go.RowKit
set_option linter.unusedVariables false
set_option linter.unusedSimpArgs false

end Go.Proofs.YtdphdodjidbngaaGreat

namespace Go.Proofs.YtdphdodjidbngaaGreat
open Go.RowKit
set_option linter.unusedVariables false

/-- Has a list more texts than most, or one more bytes than each? -/
def longB (l : List (List UInt8)) (most each : Int) : Bool := l.any (fun s => decide (each < (s.length : Int))) || decide (most < (l.length : Int))
attribute [irreducible] longB
end Go.Proofs.YtdphdodjidbngaaGreat

namespace Go.Proofs.YtdphdodjidbngaaGreat
open Go.RowKit
set_option linter.unusedVariables false
set_option linter.unusedSimpArgs false

/-- A row of the call's own (any cells an element): where it lies, its cells, a store into it. -/
theorem own_open {w : World} {base e s n : Nat} {v : Value} {xs : List Value} (h : w.ownsRow base e s v n xs) (h0 : 0 < n) (hs : 0 < s) : ∃ g cap, v = .slice (some ⟨g, 0, none⟩) n cap ∧ base ≤ g ∧ n ≤ cap ∧ cap ≤ maxLen ∧
    (∀ i (hi : i < xs.length), w.cell? ⟨g, i, none⟩ = some xs[i] ∧ w.frozen? ⟨g, i, none⟩ = false) ∧
    (∀ i u, (w.setCell ⟨g, i, none⟩ u).ownsRow base e s v n (xs.set i u)) ∧ g < w.heap.size := by
  obtain ⟨hx, h2⟩ := h
  rcases h2 with ⟨rfl, rfl⟩ | ⟨g, cap, cur, rfl, hb, hg, hnc, hcm, hcs, ht⟩
  · omega
  · have hlen : xs.length ≤ cur.size := by
      rw [hx, hcs]
      exact Nat.mul_le_mul_right _ hnc
    refine ⟨g, cap, rfl, hb, hnc, hcm, fun i hi => ⟨?_, frozen_of_row w g i cur e hg⟩, fun i u => ⟨by rw [List.length_set]; exact hx, .inr ⟨g, cap, _, rfl, hb, heap_setCell_same w g i cur e u hg, hnc, hcm, by simpa using hcs, ?_⟩⟩, lt_of_block hg⟩
    · rw [cell_of_row w g i cur e (0, 0) hg]
      have h9 := congrArg (fun q => q[i]?) ht
      simp only [List.getElem?_take, List.getElem?_eq_getElem hi] at h9
      rw [if_pos (by omega)] at h9
      simpa using h9
    · simp only [Array.toList_setIfInBounds]
      rw [List.take_set, ht]
end Go.Proofs.YtdphdodjidbngaaGreat

