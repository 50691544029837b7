/- An append of one element that tells what it keeps; rows of other element types stay. -/
import Derived.Test.YtdphdodjidbngaaStep
namespace Go.Proofs.Ytdphdodjidbngaa
open Go.RowKit

theorem wpList_append_1k {P : Program} {W w : World} {ops : Array Oper} {rest : List Oper} {o : Oper} {a : Act} {Q : Exit → Act → World → Prop} (hgd : o.guard = none) (s x : Operand) (t : TypeId) (ho : o.op = .call { callee := .builtin .append, args := #[s, x], argTypes := #[t, t] })
    (base : Nat) (e : TypeId) {z : Value} {size bytes : Nat} (ht : P.underlying t = some (.slice e)) (hinf : (P.info? e).map (fun i => (i.zero, i.size, i.bytes)) = some (some z, size, bytes)) (hzs : z.cells.size = size) (hsz : 0 < size)
    {v : Value} {n : Nat} {xs : List Value} (hs : a.eval s = v) (hown : w.ownsRow base e size v n xs)
    {us : Array Value} (hx : a.eval x = .slice (some ⟨w.heap.size, 0, none⟩) 1 1) (hus : us.size = size) (h1 : ∀ u ∈ us.toList, u.oneCell' = true)
    (h63 : n + 1 ≤ maxLen) (hbytes : (n + 1) * bytes ≤ 140737488355328) (hbase : base ≤ w.heap.size) (hb : Below base W w)
    (h : ∀ v' w', w'.ownsRow base e size v' (n + 1) (xs ++ us.toList) → Below base W w' → w.heap.size < w'.heap.size → (∀ g, base ≤ g → g < w.heap.size → v.ownBlock ≠ some g → w'.heap[g]? = w.heap[g]?) → wpList P ops Q rest (a.put o.dst v') w') : wpList P ops Q (o :: rest) a (w.alloc (.cells us e)) := by
  refine wpList_plain hgd fun K hK => ?_
  refine wp_append_sl (w := w.alloc (.cells us e)) s x t ho base e ht hinf hzs hsz hs (hown.alloc _) hx (m := 1) (c := 1) (news := us.toList) ?_ h1 h63 hbytes (by simp; omega) ?_
  · refine ⟨by simpa using hus, Nat.le_refl _, by simp [maxLen], fun _ => ⟨w.heap.size, 0, rfl, fun i hi => ?_⟩⟩
    rw [cell_of_row _ w.heap.size (0 + i) us e (0, 0) (heap_alloc_new w _)]
    simp
  · intro v' w' h2 h3 h4 h5
    have h6 : w.heap.size + 1 ≤ w'.heap.size := by simpa using h4
    refine hK _ _ (h v' w' h2 ((hb.alloc hbase _).trans h3) (by omega) fun g hg1 hg2 hg3 => ?_)
    rw [h5 g hg1 (by simp; omega) hg3]
    exact Below.heap_alloc _ _ _ hg2
theorem own_other {w w' : World} {base e e' s s' n m : Nat} {v v' : Value} {xs ys : List Value} (h : w.ownsRow base e s v n xs) (k : w.ownsRow base e' s' v' m ys) (hne : e ≠ e')
    (hk : ∀ g, base ≤ g → g < w.heap.size → v'.ownBlock ≠ some g → w'.heap[g]? = w.heap[g]?) : w'.ownsRow base e s v n xs := by
  refine ⟨h.1, ?_⟩
  rcases h.2 with h2 | ⟨g, cap, cur, h3, h4, h5, h6⟩
  · exact .inl h2
  · refine .inr ⟨g, cap, cur, h3, h4, ?_, h6⟩
    rw [hk g h4 (lt_of_block h5) fun hv => ?_]
    · exact h5
    · rcases k.2 with ⟨rfl, _⟩ | ⟨g', cap', cur', rfl, _, hh, _⟩
      · simp [Value.ownBlock] at hv
      · have : g' = g := by simpa [Value.ownBlock] using hv
        subst this
        rw [h5] at hh
        injection hh with hh
        injection hh with _ ht
        exact hne ht
theorem own_set_other {w : World} {base e e' s s' n m L c g : Nat} {v : Value} {xs ys : List Value} (h : w.ownsRow base e s v n xs) (k : w.ownsRow base e' s' (.slice (some ⟨g, 0, none⟩) L c) m ys) (hne : e ≠ e') (i : Nat) (u : Value) : (w.setCell ⟨g, i, none⟩ u).ownsRow base e s v n xs :=
  own_other h k hne fun j _ _ hj => Below.heap_setCell _ _ _ _ fun (e : j = g) => hj (by subst e; rfl)
theorem own_blk_ne {w : World} {base e s n g t : Nat} {v : Value} {xs : List Value} {cs : Array Value} (h : w.ownsRow base e s v n xs) (hg : w.heap[g]? = some (.cells cs t (0, 0))) (hne : e ≠ t) : v.ownBlock ≠ some g := by
  rcases h.2 with ⟨rfl, _⟩ | ⟨g', cap, cur, rfl, _, hh, _⟩
  · simp [Value.ownBlock]
  · intro he
    have : g' = g := by simpa [Value.ownBlock] using he
    subst this
    rw [hg] at hh
    injection hh with hh
    injection hh with _ ht
    exact hne ht.symm
end Go.Proofs.Ytdphdodjidbngaa

