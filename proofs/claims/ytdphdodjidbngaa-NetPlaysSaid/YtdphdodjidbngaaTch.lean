/- What a call may touch: some blocks, and new ones. An append that tells where the row lies. -/
import Derived.Test.YtdphdodjidbngaaStep
import Derived.Test.YtdphdodjidbngaaKeepW
import Derived.Test.YtdphdodjidbngaaOnly
namespace Go.Proofs.Ytdphdodjidbngaa
open Go.RowKit
set_option linter.unusedVariables false
set_option linter.unusedSimpArgs false

/-- w' is w, but for new blocks and what lies in the blocks of S. -/
structure Tch (S : Nat → Prop) (w w' : World) : Prop where
  size : w.heap.size ≤ w'.heap.size
  keep : ∀ g, ¬ S g → g < w.heap.size → w'.heap[g]? = w.heap[g]?
  below : ∀ base, (∀ g, S g → g < w.heap.size → base ≤ g) → base ≤ w.heap.size → Below base w w'
theorem Tch.refl (S : Nat → Prop) (w : World) : Tch S w w := ⟨Nat.le_refl _, fun _ _ _ => rfl, fun _ _ _ => Below.refl _ _⟩
theorem Tch.of_below {S : Nat → Prop} {w w' : World} (h : Below w.heap.size w w') : Tch S w w' := ⟨h.size, fun g _ hg => h.block g hg, fun base _ hb => h.mono hb⟩
theorem Tch.of_only {S : Nat → Prop} {B : Nat} {w w' : World} (h : Only B w w') (hB : S B) (hl : B < w.heap.size) : Tch S w w' :=
  ⟨h.size, fun g hg hl => h.keep g (fun e => hg (e ▸ hB)) hl, fun base h1 h2 => h.below base (h1 B hB hl) h2⟩
/-- Touched anew: the second one's blocks are of S, or new. -/
theorem Tch.trans {S S' : Nat → Prop} {w w' w2 : World} (h : Tch S w w') (k : Tch S' w' w2) (hs : ∀ g, S' g → g < w.heap.size → S g) : Tch S w w2 :=
  ⟨Nat.le_trans h.size k.size, fun g hg hl => (k.keep g (fun h9 => hg (hs g h9 hl)) (Nat.lt_of_lt_of_le hl h.size)).trans (h.keep g hg hl), fun base h1 h2 => (h.below base h1 h2).trans (k.below base (fun g hg hl => by
    rcases Nat.lt_or_ge g w.heap.size with h9 | h9
    · exact h1 g (hs g hg h9) h9
    · omega) (Nat.le_trans h2 h.size))⟩
theorem Tch.mono {S S' : Nat → Prop} {w w' : World} (h : Tch S w w') (hs : ∀ g, S g → g < w.heap.size → S' g) : Tch S' w w' := (Tch.refl S' w).trans h hs
theorem Tch.grow {S : Nat → Prop} {w w' w2 : World} (h : Tch S w w') (hb : Below w'.heap.size w' w2) : Tch S w w2 := h.trans (Tch.of_below (S := fun _ => False) hb) fun _ h9 => h9.elim
theorem Tch.set {S : Nat → Prop} {w w' : World} (h : Tch S w w') (b i : Nat) (v : Value) (hb : b < w.heap.size → S b) : Tch S w (w'.setCell ⟨b, i, none⟩ v) :=
  ⟨by have := h.size; simpa [World.setCell] using this, fun g hg hl => (Below.heap_setCell _ _ _ _ (fun e : g = b => hg (by rw [e]; exact hb (by omega)))).trans (h.keep g hg hl), fun base h1 h2 => (h.below base h1 h2).setCell (p := ⟨b, i, none⟩) (by
    show base ≤ b
    rcases Nat.lt_or_ge b w.heap.size with h9 | h9
    · exact h1 b (hb h9) h9
    · omega) v⟩
theorem Tch.block {S : Nat → Prop} {g : Nat} {w w' : World} {o : Obj} (h : Tch S w w') (hg : w.heap[g]? = some o) (hn : ¬ S g) : w'.heap[g]? = some o := (h.keep g hn (lt_of_block hg)).trans hg
theorem Tch.own {S : Nat → Prop} {w w' : World} {base e s n : Nat} {v : Value} {xs : List Value} (h : Tch S w w') (ho : w.ownsRow base e s v n xs) (hn : ∀ g, v.ownBlock = some g → ¬ S g) : w'.ownsRow base e s v n xs := by
  refine ⟨ho.1, ?_⟩
  rcases ho.2 with h2 | ⟨g, cap, cur, h3, h4, h5, h6⟩
  · exact .inl h2
  · exact .inr ⟨g, cap, cur, h3, h4, h.block h5 (hn g (by rw [h3]; rfl)), h6⟩
theorem own_lt {w : World} {base e s n : Nat} {v : Value} {xs : List Value} (h : w.ownsRow base e s v n xs) (g : Nat) (hg : v.ownBlock = some g) : base ≤ g ∧ g < w.heap.size ∧ ∃ cur : Array Value, w.heap[g]? = some (.cells cur e (0, 0)) := by
  rcases h.2 with ⟨rfl, _⟩ | ⟨g', cap, cur, rfl, hb, hh, _⟩
  · simp [Value.ownBlock] at hg
  · have : g' = g := by simpa [Value.ownBlock] using hg
    subst this
    exact ⟨hb, lt_of_block hh, cur, hh⟩
/-- Rows of unlike element types lie in unlike blocks. -/
theorem own_apart {w : World} {base base' e e' s s' n n' : Nat} {v v' : Value} {xs xs' : List Value} (h : w.ownsRow base e s v n xs) (h' : w.ownsRow base' e' s' v' n' xs') (hne : e ≠ e') (g : Nat) (hg : v.ownBlock = some g) : v'.ownBlock ≠ some g := by
  intro hg'
  obtain ⟨_, _, c1, h1⟩ := own_lt h g hg
  obtain ⟨_, _, c2, h2⟩ := own_lt h' g hg'
  rw [h1] at h2
  injection h2 with h2
  injection h2 with _ ht
  exact hne ht
theorem own_apart_blk {w : World} {base e s n t b : Nat} {v : Value} {xs : List Value} {cs : Array Value} {fr : Nat × Nat} (h : w.ownsRow base e s v n xs) (hb : w.heap[b]? = some (.cells cs t fr)) (hne : e ≠ t) (g : Nat) (hg : v.ownBlock = some g) : g ≠ b := by
  rintro rfl
  obtain ⟨_, _, c1, h1⟩ := own_lt h g hg
  rw [h1] at hb
  injection hb with hb
  injection hb with _ ht
  exact hne ht
/-- A row of the call's own with nothing in it. -/
def RowW (w : World) (base e s : Nat) (v : Value) (n : Nat) (xs : List Value) : Prop := w.ownsRow base e s v n xs

section
variable {P : Program} {w : World}
theorem wp_append_slw {o : Oper} {a : Act} {K : Act → World → Prop} {Q : Exit → Act → World → Prop} (s x : Operand) (t : TypeId) (ho : o.op = .call { callee := .builtin .append, args := #[s, x], argTypes := #[t, t] })
    (base : Nat) (e : TypeId) {z : Value} {size bytes : Nat} (ht : P.underlying t = some (.slice e)) (hinf : (P.info? e).map (fun i => (i.zero, i.size, i.bytes)) = some (some z, size, bytes)) (hzs : z.cells.size = size) (hsz : 0 < size)
    {v : Value} {n : Nat} {xs : List Value} (hs : a.eval s = v) (hown : w.ownsRow base e size v n xs)
    {A : Option Addr} {m c : Nat} {news : List Value} (hx : a.eval x = .slice A m c) (hsl : Sl w size A m c news) (h1 : ∀ u ∈ news, u.oneCell' = true)
    (h63 : n + m ≤ maxLen) (hbytes : (n + m) * bytes ≤ 140737488355328) (hbase : base ≤ w.heap.size)
    (h : ∀ v' w', w'.ownsRow base e size v' (n + m) (xs ++ news) → Tch (fun g => v.ownBlock = some g) w w' → (v'.ownBlock = v.ownBlock ∨ ∀ g, v'.ownBlock = some g → w.heap.size ≤ g) → K (a.put o.dst v') w') : o.wp P a w K Q := by
  obtain ⟨i, hi, hz, hsize, hby⟩ := info_parts hinf
  by_cases h0 : news.length = 0
  · have hn : news = [] := List.eq_nil_of_length_eq_zero h0
    subst hn
    have hm : m = 0 := by
      have := hsl.1
      simp only [List.length_nil] at this
      rcases Nat.mul_eq_zero.1 this.symm with h | h
      · exact h
      · omega
    subst hm
    have hl0 : ∀ a : Addr, (loadCells a 0).run P w = .ok #[] w := fun a => by simpa using run_loadCells_list (P := P) w a [] (by simp)
    have hrun : (Builtin.append_ #[t, t] o.type #[v, .slice A 0 c]).run P w = .ok v w := by
      rcases hown.2 with ⟨rfl, rfl⟩ | ⟨g, cap, cur, rfl, _, _, hnc, _⟩
      · cases A <;> simp [Builtin.append_, run_underlying ht, sizeOf, typeInfo, hi, Builtin.lenOf, Builtin.firstCells, hl0, storeCells]
      · cases A <;> simp [Builtin.append_, run_underlying ht, sizeOf, typeInfo, hi, Builtin.lenOf, Builtin.firstCells, hnc, hl0, storeCells]
    unfold Oper.wp execOp
    simp only [ho, resolve, invoke, builtin, Sem.run_bind, Sem.run_pure, Result.andThen_ok, List.map_toArray, List.map_cons, List.map_nil, hs, hx, hrun]
    exact h v w (by simpa using hown) (Tch.refl _ _) (.inl rfl)
  · obtain ⟨b, off, rfl, hc⟩ := hsl.2.2.2 (by omega)
    have hnews : ∀ j u, news[j]? = some u → w.cell? ((⟨b, off, none⟩ : Addr).add j) = some u := fun j u hj => by
      rw [add_none, hc j (List.getElem?_eq_some_iff.1 hj).1, hj]
    obtain ⟨v', w', hr, h2, h3, h4⟩ := run_append_own (P := P) w base t o.type e i z size bytes ht hi hz hsize hby hzs hsz v n xs hown ⟨b, off, none⟩ m c news hsl.1 hnews h1 h63 hbytes hbase
    have h5 := run_append_where (P := P) w base t o.type e i z size bytes ht hi hz hsize hby hzs hsz v n xs hown ⟨b, off, none⟩ m c news hsl.1 hnews h1 h63 hbytes hr
    unfold Oper.wp execOp
    simp only [ho, resolve, invoke, builtin, Sem.run_bind, Sem.run_pure, Result.andThen_ok, List.map_toArray, List.map_cons, List.map_nil, hs, hx, hr]
    refine h v' w' h2 ⟨h3.size, fun g hg hl => h3.block g hl fun e => hg e.symm, fun b' hb1 hb2 => ?_⟩ h5
    have hown' : w.ownsRow b' e size v n xs := by
      refine ⟨hown.1, ?_⟩
      rcases hown.2 with h9 | ⟨g, cap, cur, k3, k4, k5, k6⟩
      · exact .inl h9
      · exact .inr ⟨g, cap, cur, k3, hb1 g (by rw [k3]; rfl) (lt_of_block k5), k5, k6⟩
    exact below_grown (Below.refl _ _) hown' h3 hb2

theorem step_append_slw {ops : Array Oper} {o : Oper} {a : Act} {K : Act → World → Prop} {Q : Exit → Act → World → Prop} {E : Prop} (hgd : o.guard = none) (s x : Operand) (t : TypeId) (ho : o.op = .call { callee := .builtin .append, args := #[s, x], argTypes := #[t, t] })
    (base : Nat) (e : TypeId) {z : Value} {size bytes : Nat} (ht : P.underlying t = some (.slice e)) (hinf : (P.info? e).map (fun i => (i.zero, i.size, i.bytes)) = some (some z, size, bytes)) (hzs : z.cells.size = size) (hsz : 0 < size)
    {v : Value} {n : Nat} {xs : List Value} (hs : a.eval s = v) (hown : w.ownsRow base e size v n xs)
    {A : Option Addr} {m c : Nat} {news : List Value} (hx : a.eval x = .slice A m c) (hsl : Sl w size A m c news) (h1 : ∀ u ∈ news, u.oneCell' = true)
    (h63 : n + m ≤ maxLen) (hbytes : (n + m) * bytes ≤ 140737488355328) (hbase : base ≤ w.heap.size)
    (h : ∀ v' w', w'.ownsRow base e size v' (n + m) (xs ++ news) → Tch (fun g => v.ownBlock = some g) w w' → (v'.ownBlock = v.ownBlock ∨ ∀ g, v'.ownBlock = some g → w.heap.size ≤ g) → K (a.put o.dst v') w') :
    if Region.wanted o (yielded ops a.tmps) = true then Oper.wp P o a w K Q else E := by
  have hw : Region.wanted o (yielded ops a.tmps) = true := by simp [Region.wanted, hgd]
  rw [if_pos hw]
  exact wp_append_slw s x t ho base e ht hinf hzs hsz hs hown hx hsl h1 h63 hbytes hbase h
theorem wpList_append_slw {ops : Array Oper} {rest : List Oper} {o : Oper} {a : Act} {Q : Exit → Act → World → Prop} (hgd : o.guard = none) (s x : Operand) (t : TypeId) (ho : o.op = .call { callee := .builtin .append, args := #[s, x], argTypes := #[t, t] })
    (base : Nat) (e : TypeId) {z : Value} {size bytes : Nat} (ht : P.underlying t = some (.slice e)) (hinf : (P.info? e).map (fun i => (i.zero, i.size, i.bytes)) = some (some z, size, bytes)) (hzs : z.cells.size = size) (hsz : 0 < size)
    {v : Value} {n : Nat} {xs : List Value} (hs : a.eval s = v) (hown : w.ownsRow base e size v n xs)
    {A : Option Addr} {m c : Nat} {news : List Value} (hx : a.eval x = .slice A m c) (hsl : Sl w size A m c news) (h1 : ∀ u ∈ news, u.oneCell' = true)
    (h63 : n + m ≤ maxLen) (hbytes : (n + m) * bytes ≤ 140737488355328) (hbase : base ≤ w.heap.size)
    (h : ∀ v' w', w'.ownsRow base e size v' (n + m) (xs ++ news) → Tch (fun g => v.ownBlock = some g) w w' → (v'.ownBlock = v.ownBlock ∨ ∀ g, v'.ownBlock = some g → w.heap.size ≤ g) → wpList P ops Q rest (a.put o.dst v') w') : wpList P ops Q (o :: rest) a w :=
  wpList_plain hgd fun K hK => wp_append_slw s x t ho base e ht hinf hzs hsz hs hown hx hsl h1 h63 hbytes hbase fun v' w' h2 h3 h4 => hK _ _ (h v' w' h2 h3 h4)
end
end Go.Proofs.Ytdphdodjidbngaa

