/- Slices whose elements are two integers: their cells; rows that are cleared. -/
import Derived.Test.YtdphdodjidbngaaSlice
import Derived.Test.YtdphdodjidbngaaKeep
import Derived.Test.YtdphdodjidbngaaIcell
import Derived.Laws.IdiomCopy
import Derived.Lib.SliceRun
namespace Go.Proofs.Ytdphdodjidbngaa
open Go.RowKit
set_option linter.unusedVariables false
set_option linter.unusedSimpArgs false

def pcells (l : List (Int × Int)) : List Value := l.flatMap fun p => [.int .i64 p.1, .int .i64 p.2]
theorem pcells_nil : pcells [] = [] := rfl
theorem pcells_cons (p : Int × Int) (l : List (Int × Int)) : pcells (p :: l) = .int .i64 p.1 :: .int .i64 p.2 :: pcells l := rfl
theorem pcells_length (l : List (Int × Int)) : (pcells l).length = l.length * 2 := by
  induction l with
  | nil => rfl
  | cons p l ih => rw [pcells_cons]; simp only [List.length_cons, ih]; omega
theorem pcells_one (l : List (Int × Int)) : ∀ u ∈ pcells l, u.oneCell' = true := by
  induction l with
  | nil => simp [pcells]
  | cons p l ih =>
    intro u hu
    rw [pcells_cons, List.mem_cons, List.mem_cons] at hu
    rcases hu with rfl | rfl | hu
    · rfl
    · rfl
    · exact ih u hu
theorem pcells_append (l m : List (Int × Int)) : pcells (l ++ m) = pcells l ++ pcells m := by simp [pcells]
theorem pcells_snoc (l : List (Int × Int)) (p : Int × Int) : pcells (l ++ [p]) = pcells l ++ [.int .i64 p.1, .int .i64 p.2] := by simp [pcells]
theorem pcells_get : ∀ (l : List (Int × Int)) (k : Nat) (h : k < l.length), (pcells l)[k * 2]? = some (.int .i64 l[k].1) ∧ (pcells l)[k * 2 + 1]? = some (.int .i64 l[k].2)
  | p :: l, 0, _ => ⟨rfl, rfl⟩
  | p :: l, k + 1, h => by
    have ih := pcells_get l k (by simpa using h)
    rw [pcells_cons, show (k + 1) * 2 = k * 2 + 1 + 1 by omega]
    simpa using ih
theorem pcells_drop : ∀ (l : List (Int × Int)) (k : Nat), (pcells l).drop (k * 2) = pcells (l.drop k)
  | l, 0 => by simp
  | [], k + 1 => by simp [pcells]
  | p :: l, k + 1 => by
    rw [pcells_cons, show (k + 1) * 2 = k * 2 + 1 + 1 by omega, List.drop_succ_cons, List.drop_succ_cons, List.drop_succ_cons]
    exact pcells_drop l k
theorem pcells_take : ∀ (l : List (Int × Int)) (k : Nat), (pcells l).take (k * 2) = pcells (l.take k)
  | l, 0 => by simp [pcells]
  | [], k + 1 => by simp [pcells]
  | p :: l, k + 1 => by
    rw [pcells_cons, show (k + 1) * 2 = k * 2 + 1 + 1 by omega, List.take_succ_cons, List.take_succ_cons, List.take_succ_cons, pcells_cons, pcells_take l k]
theorem pcells_set1 : ∀ (l : List (Int × Int)) (k : Nat) (h : k < l.length) (x : Int), (pcells l).set (k * 2) (.int .i64 x) = pcells (l.set k (x, l[k].2))
  | p :: l, 0, _, x => rfl
  | p :: l, k + 1, h, x => by
    have ih := pcells_set1 l k (by simpa using h) x
    rw [pcells_cons, show (k + 1) * 2 = k * 2 + 1 + 1 by omega, List.set_cons_succ, List.set_cons_succ, ih]
    rfl
theorem pcells_set2 : ∀ (l : List (Int × Int)) (k : Nat) (h : k < l.length) (x : Int), (pcells l).set (k * 2 + 1) (.int .i64 x) = pcells (l.set k (l[k].1, x))
  | p :: l, 0, _, x => rfl
  | p :: l, k + 1, h, x => by
    have ih := pcells_set2 l k (by simpa using h) x
    rw [pcells_cons, show (k + 1) * 2 + 1 = k * 2 + 1 + 1 + 1 by omega, List.set_cons_succ, List.set_cons_succ, ih]
    rfl
theorem pcells_set (l : List (Int × Int)) (k : Nat) (h : k < l.length) (x y : Int) : ((pcells l).set (k * 2) (.int .i64 x)).set (k * 2 + 1) (.int .i64 y) = pcells (l.set k (x, y)) := by
  rw [pcells_set1 l k h, pcells_set2 _ k (by simpa using h)]
  simp
theorem pcells_inj : ∀ {l m : List (Int × Int)}, pcells l = pcells m → l = m
  | [], [], _ => rfl
  | [], q :: m, h => by simp [pcells] at h
  | p :: l, [], h => by simp [pcells] at h
  | p :: l, q :: m, h => by
    rw [pcells_cons, pcells_cons] at h
    simp only [List.cons.injEq, Value.int.injEq, true_and] at h
    rw [pcells_inj h.2.2, Prod.ext h.1 h.2.1]
theorem Sl.pair {w : World} {b off len cap : Nat} {l : List (Int × Int)} (h : Sl w 2 (some ⟨b, off, none⟩) len cap (pcells l)) (k : Nat) (hk : k < l.length) :
    w.cell? ⟨b, off + k * 2, none⟩ = some (.int .i64 l[k].1) ∧ w.cell? ⟨b, off + k * 2 + 1, none⟩ = some (.int .i64 l[k].2) := by
  have hl := pcells_length l
  obtain ⟨b', off', ha, hc⟩ := h.2.2.2 (by omega)
  cases ha
  obtain ⟨g1, g2⟩ := pcells_get l k hk
  exact ⟨by rw [hc _ (by omega), g1], by rw [Nat.add_assoc, hc _ (by omega), g2]⟩
theorem Sl.addr {w : World} {size : Nat} {A : Option Addr} {len cap : Nat} {xs : List Value} (h : Sl w size A len cap xs) (h0 : 0 < xs.length) : ∃ b off, A = some ⟨b, off, none⟩ := by
  obtain ⟨b, off, h1, _⟩ := h.2.2.2 h0
  exact ⟨b, off, h1⟩
theorem Sl.plen {w : World} {A : Option Addr} {len cap : Nat} {l : List (Int × Int)} (h : Sl w 2 A len cap (pcells l)) : len = l.length := by
  have := h.1
  rw [pcells_length] at this
  omega

/-! rows that are cut and cleared -/
theorem own_take {w : World} {base e s n cap g : Nat} {xs : List Value} (h : w.ownsRow base e s (.slice (some ⟨g, 0, none⟩) n cap) n xs) (i : Nat) (hi : i ≤ n) : w.ownsRow base e s (.slice (some ⟨g, 0, none⟩) i cap) i (xs.take (i * s)) := by
  have h1 := h.1
  have hm : i * s ≤ n * s := Nat.mul_le_mul_right _ hi
  rcases h.2 with ⟨h', _⟩ | ⟨g', cap', cur, h', hb, hg, hnc, hcm, hcs, ht⟩
  · simp at h'
  · simp only [Value.slice.injEq, Option.some.injEq, Addr.mk.injEq, and_true, true_and] at h'
    obtain ⟨rfl, rfl⟩ := h'
    refine ⟨by rw [List.length_take, h1]; omega, .inr ⟨g, cap, cur, rfl, hb, hg, by omega, hcm, hcs, ?_⟩⟩
    rw [← ht, List.take_take, Nat.min_eq_left hm]
theorem own_setCells {base e s i cap g : Nat} {ys : List Value} : ∀ (vs : List Value) (o : Nat) (w : World), i * s ≤ o → w.ownsRow base e s (.slice (some ⟨g, 0, none⟩) i cap) i ys → (w.setCells g o vs).ownsRow base e s (.slice (some ⟨g, 0, none⟩) i cap) i ys
  | [], _, _, _, h => h
  | v :: r, o, w, ho, h => by
    have h1 := h.1
    have h2 := (h.stored o v).1
    rw [List.set_eq_of_length_le (by omega)] at h2
    exact own_setCells r (o + 1) _ (by omega) h2
theorem below_setCells {base g : Nat} {W : World} (hg : base ≤ g) : ∀ (vs : List Value) (o : Nat) (w : World), Below base W w → Below base W (w.setCells g o vs)
  | [], _, _, h => h
  | v :: r, o, w, h => below_setCells hg r (o + 1) _ (h.setCell (p := ⟨g, o, none⟩) hg v)
theorem keep_setCells {g j : Nat} (hj : j ≠ g) : ∀ (vs : List Value) (o : Nat) (w : World), (w.setCells g o vs).heap[j]? = w.heap[j]?
  | [], _, _ => rfl
  | v :: r, o, w => by rw [World.setCells, keep_setCells hj r, Below.heap_setCell _ _ _ _ hj]

theorem run_clear_own {P : Program} {t e ty : TypeId} {z : Value} {s : Nat} (ht : P.underlying t = some (.slice e)) (hv : ∀ w, (zeroValue e).run P w = .ok z w) (hz : z.cells.size = s) (h1 : ∀ u ∈ z.cells.toList, u.oneCell' = true) (hs : 0 < s)
    {w : World} {base g n cap : Nat} {xs : List Value} (h : w.ownsRow base e s (.slice (some ⟨g, 0, none⟩) n cap) n xs) (i : Nat) (hi : i ≤ n) :
    ∃ w', (Builtin.clear_ #[t] ty #[.slice (dropA (some ⟨g, 0, none⟩) cap i s) (n - i) (cap - i)]).run P w = .ok (.tuple #[]) w' ∧ w'.ownsRow base e s (.slice (some ⟨g, 0, none⟩) i cap) i (xs.take (i * s)) ∧ Below base w w' ∧ (∀ j, j ≠ g → w'.heap[j]? = w.heap[j]?) ∧ w.heap.size ≤ w'.heap.size := by
  have ho := own_take h i hi
  have hbg : base ≤ g := by
    rcases h.2 with ⟨h', _⟩ | ⟨g', _, _, h', hb, _⟩
    · simp at h'
    · simp only [Value.slice.injEq, Option.some.injEq, Addr.mk.injEq, and_true, true_and] at h'
      rw [h'.1]; exact hb
  by_cases hn : n - i = 0
  · refine ⟨w, ?_, ho, Below.refl _ _, fun _ _ => rfl, Nat.le_refl _⟩
    rw [hn]
    rcases hd : dropA (some ⟨g, 0, none⟩) cap i s with _ | a
    · simp [Builtin.clear_, run_underlying ht]
    · simp [Builtin.clear_, run_underlying ht]
  · have hcap : n ≤ cap := by
      rcases h.2 with ⟨h', _⟩ | ⟨g', cap', _, h', _, _, hnc, _⟩
      · simp at h'
      · simp only [Value.slice.injEq, Option.some.injEq, Addr.mk.injEq, and_true, true_and] at h'
        rw [h'.2]; exact hnc
    have hd : dropA (some ⟨g, 0, none⟩) cap i s = some ⟨g, i * s, none⟩ := by
      rw [dropA, if_neg (by omega)]
      simp [add_none]
    have h3 := h.1
    have hzl : (Builtin.zeroCells z.cells (n - i)).toList.length = (n - i) * s := by simp [Builtin.zeroCells, hz]
    have hin : i * s + (n - i) * s = n * s := by rw [← Nat.add_mul, show i + (n - i) = n by omega]
    have hst := run_storeCells_cells (P := P) g (i * s) (Builtin.zeroCells z.cells (n - i)).toList 0 w (fun j hj => by
      rw [hzl] at hj
      rw [Nat.add_zero, h.cellAt _ (by omega), List.getElem?_eq_getElem (by omega)]
      rfl) (fun j _ => by rw [Nat.add_zero]; exact h.frozenAt _) (fun v hv' => by
      simp only [Builtin.zeroCells, Array.toList_map, List.mem_map] at hv'
      obtain ⟨j, _, rfl⟩ := hv'
      have hlt : j % z.cells.size < z.cells.size := Nat.mod_lt _ (by omega)
      rw [getElem!_pos z.cells _ hlt]
      exact h1 _ (by simp))
    rw [Nat.add_zero] at hst
    refine ⟨w.setCells g (i * s) (Builtin.zeroCells z.cells (n - i)).toList, ?_, own_setCells _ (i * s) w (Nat.le_refl _) ho, below_setCells hbg _ _ w (Below.refl _ _), fun j hj => keep_setCells hj _ _ _, ?_⟩
    · obtain ⟨m, hm⟩ : ∃ m, n - i = m + 1 := ⟨n - i - 1, by omega⟩
      rw [hd]
      rw [hm] at hst ⊢
      simp [Builtin.clear_, run_underlying ht, hv, hst]
    · exact (below_setCells hbg (Builtin.zeroCells z.cells (n - i)).toList (i * s) w (Below.refl base w)).size
theorem wpList_clear_own {P : Program} {w : World} {ops : Array Oper} {rest : List Oper} {o : Oper} {a : Act} {Q : Exit → Act → World → Prop} (hgd : o.guard = none) (x : Operand) {t e : TypeId} (ho : o.op = .call { callee := .builtin .clear, args := #[x], argTypes := #[t] })
    {z : Value} {s : Nat} (ht : P.underlying t = some (.slice e)) (hv : ∀ w, (zeroValue e).run P w = .ok z w) (hz : z.cells.size = s) (h1 : ∀ u ∈ z.cells.toList, u.oneCell' = true) (hs : 0 < s)
    {base g n cap : Nat} {xs : List Value} (hown : w.ownsRow base e s (.slice (some ⟨g, 0, none⟩) n cap) n xs) (i : Nat) (hi : i ≤ n) (hx : a.eval x = .slice (dropA (some ⟨g, 0, none⟩) cap i s) (n - i) (cap - i))
    (h : ∀ w', w'.ownsRow base e s (.slice (some ⟨g, 0, none⟩) i cap) i (xs.take (i * s)) → Below base w w' → (∀ j, j ≠ g → w'.heap[j]? = w.heap[j]?) → w.heap.size ≤ w'.heap.size → wpList P ops Q rest (a.put o.dst (.tuple #[])) w') : wpList P ops Q (o :: rest) a w := by
  obtain ⟨w', hrun, h2, h3, h4, h5⟩ := run_clear_own (ty := o.type) ht hv hz h1 hs hown i hi
  refine wpList_plain hgd fun K hK => ?_
  unfold Oper.wp execOp
  simp only [ho, resolve, invoke, builtin, Sem.run_bind, Sem.run_pure, Result.andThen_ok, List.map_toArray, List.map_cons, List.map_nil, hx, hrun]
  exact hK _ _ (h w' h2 h3 h4 h5)
end Go.Proofs.Ytdphdodjidbngaa

