/- An append of one element that tells where the row lies afterwards: where it was, or in new memory. Two rows of one element type. -/
import Derived.Test.YtdphdodjidbngaaKeep
import Derived.Test.YtdphdodjidbngaaPair
namespace Go.Proofs.Ytdphdodjidbngaa
open Go.RowKit

theorem run_append_where {P : Program} (w : World) (base : Nat) (t ty e : TypeId) (i : TypeInfo) (z : Value) (size bytes : Nat) (ht : P.underlying t = some (.slice e)) (hi : P.info? e = some i) (hz : i.zero = some z)
    (hsize : i.size = size) (hby : i.bytes = bytes) (hzs : z.cells.size = size) (hsz : 0 < size)
    (v : Value) (n : Nat) (xs : List Value) (hown : w.ownsRow base e size v n xs)
    (a : Addr) (m c : Nat) (news : List Value) (hl : news.length = m * size) (hnews : ∀ j u, news[j]? = some u → w.cell? (a.add j) = some u) (h1 : ∀ u ∈ news, u.oneCell' = true)
    (h63 : n + m ≤ maxLen) (hbytes : (n + m) * bytes ≤ 140737488355328) {v' : Value} {w' : World}
    (hr : (Builtin.append_ #[t, t] ty #[v, .slice (some a) m c]).run P w = .ok v' w') : v'.ownBlock = v.ownBlock ∨ ∀ g, v'.ownBlock = some g → w.heap.size ≤ g := by
  rcases hown.2 with ⟨rfl, rfl⟩ | ⟨g, cap, cur, rfl, hbg, hg, hnc, hcm, hcs, htake⟩
  · have hx : xs = [] := List.eq_nil_of_length_eq_zero (by simpa using hown.1)
    subst hx
    obtain ⟨v2, w2, hr2, h2, _⟩ := run_append_own (P := P) w w.heap.size t ty e i z size bytes ht hi hz hsize hby hzs hsz _ 0 [] (World.ownsRow_nil w w.heap.size e size) a m c news hl hnews h1 h63 hbytes (Nat.le_refl _)
    rw [hr] at hr2
    injection hr2 with e1 e2
    subst e1
    exact .inr fun g hg => (h2.lt g hg).1
  · subst hsize
    subst hby
    by_cases hroom : n + m ≤ cap
    · have hfit : n * i.size + news.length ≤ cur.size := by rw [hl, hcs, ← Nat.add_mul]; exact Nat.mul_le_mul_right _ hroom
      rw [run_append_room (P := P) w t ty e i ht hi g n cap cur hg a m c news hl hnews h1 hroom hfit] at hr
      injection hr with e1 e2
      subst e1
      exact .inl rfl
    · have hsmall : n + m ≤ 9223372036854775807 := by simp only [maxLen] at h63; omega
      have holds : ∀ j u, xs[j]? = some u → w.cell? ((⟨g, 0, none⟩ : Addr).add j) = some u := hown.cells (g := g) rfl
      rw [run_append_grow (P := P) w t ty e i z ht hi hz ⟨g, 0, none⟩ n cap xs hown.1 holds a m c news hl hnews (by omega) (by omega) (growslice_fits (by omega) hbytes)] at hr
      injection hr with e1 e2
      subst e1
      exact .inr fun g hg => by simp [Value.ownBlock] at hg; omega

theorem wpList_append_1w {P : Program} {W w : World} {ops : Array Oper} {rest : List Oper} {o : Oper} {a : Act} {Q : Exit → Act → World → Prop} (hgd : o.guard = none) (s x : Operand) (t : TypeId) (ho : o.op = .call { callee := .builtin .append, args := #[s, x], argTypes := #[t, t] })
    (base : Nat) (e : TypeId) {z : Value} {size bytes : Nat} (ht : P.underlying t = some (.slice e)) (hinf : (P.info? e).map (fun i => (i.zero, i.size, i.bytes)) = some (some z, size, bytes)) (hzs : z.cells.size = size) (hsz : 0 < size)
    {v : Value} {n : Nat} {xs : List Value} (hs : a.eval s = v) (hown : w.ownsRow base e size v n xs)
    {us : Array Value} (hx : a.eval x = .slice (some ⟨w.heap.size, 0, none⟩) 1 1) (hus : us.size = size) (h1 : ∀ u ∈ us.toList, u.oneCell' = true)
    (h63 : n + 1 ≤ maxLen) (hbytes : (n + 1) * bytes ≤ 140737488355328) (hbase : base ≤ w.heap.size) (hb : Below base W w)
    (h : ∀ v' w', w'.ownsRow base e size v' (n + 1) (xs ++ us.toList) → Below base W w' → w.heap.size < w'.heap.size → (∀ g, base ≤ g → g < w.heap.size → v.ownBlock ≠ some g → w'.heap[g]? = w.heap[g]?) → (v'.ownBlock = v.ownBlock ∨ ∀ g, v'.ownBlock = some g → w.heap.size ≤ g) → wpList P ops Q rest (a.put o.dst v') w') : wpList P ops Q (o :: rest) a (w.alloc (.cells us e)) := by
  refine wpList_plain hgd fun K hK => ?_
  obtain ⟨i, hi, hz, hsize, hby⟩ := info_parts hinf
  have hnews : ∀ j u, us.toList[j]? = some u → (w.alloc (.cells us e)).cell? ((⟨w.heap.size, 0, none⟩ : Addr).add j) = some u := fun j u hj => by
    rw [add_none, cell_of_row _ w.heap.size (0 + j) us e (0, 0) (heap_alloc_new w _)]
    simpa using hj
  have hl : us.toList.length = 1 * size := by simpa using hus
  obtain ⟨v', w', hr, h2, h3, h4⟩ := run_append_own (P := P) (w.alloc (.cells us e)) base t o.type e i z size bytes ht hi hz hsize hby hzs hsz v n xs (hown.alloc _) ⟨w.heap.size, 0, none⟩ 1 1 us.toList hl hnews h1 h63 hbytes (by simp; omega)
  have h5 := run_append_where (P := P) (w.alloc (.cells us e)) base t o.type e i z size bytes ht hi hz hsize hby hzs hsz v n xs (hown.alloc _) ⟨w.heap.size, 0, none⟩ 1 1 us.toList hl hnews h1 h63 hbytes hr
  have h6 : w.heap.size + 1 ≤ w'.heap.size := by simpa using h3.size
  unfold Oper.wp execOp
  simp only [ho, resolve, invoke, builtin, Sem.run_bind, Sem.run_pure, Result.andThen_ok, List.map_toArray, List.map_cons, List.map_nil, hs, hx, hr]
  refine hK _ _ (h v' w' h2 (below_grown (hb.alloc hbase _) (hown.alloc _) h3 (by simp; omega)) (by omega) (fun g hg1 hg2 hg3 => ?_) (h5.imp id fun h g hg => by have := h g hg; simp at this; omega))
  rw [h3.block g (by simp; omega) fun e => hg3 e.symm]
  exact Below.heap_alloc _ _ _ hg2

/-- Two rows of one element type, neither in the other's block. -/
def TwoR (w : World) (B e : Nat) (v1 : Value) (l1 : List (Int × Int)) (v2 : Value) (l2 : List (Int × Int)) : Prop :=
  w.ownsRow B e 2 v1 l1.length (pcells l1) ∧ w.ownsRow B e 2 v2 l2.length (pcells l2) ∧ ∀ g, v1.ownBlock = some g → v2.ownBlock ≠ some g
theorem TwoR.swap {w : World} {B e : Nat} {v1 : Value} {l1 : List (Int × Int)} {v2 : Value} {l2 : List (Int × Int)} (h : TwoR w B e v1 l1 v2 l2) : TwoR w B e v2 l2 v1 l1 := ⟨h.2.1, h.1, fun g h1 h2 => h.2.2 g h2 h1⟩
theorem TwoR.nil (w : World) (B e : Nat) : TwoR w B e (.slice none 0 0) [] (.slice none 0 0) [] := ⟨World.ownsRow_nil _ _ _ _, World.ownsRow_nil _ _ _ _, fun g h => by simp [Value.ownBlock] at h⟩
theorem TwoR.keep {w w' : World} {B e : Nat} {v1 : Value} {l1 : List (Int × Int)} {v2 : Value} {l2 : List (Int × Int)} (h : TwoR w B e v1 l1 v2 l2) (hb : Below w.heap.size w w') : TwoR w' B e v1 l1 v2 l2 := ⟨own_keep h.1 hb, own_keep h.2.1 hb, h.2.2⟩
theorem TwoR.push {w w' : World} {B e : Nat} {v1 v1' : Value} {l1 : List (Int × Int)} {v2 : Value} {l2 : List (Int × Int)} {a b : Int} (h : TwoR w B e v1 l1 v2 l2)
    (h2 : w'.ownsRow B e 2 v1' (l1.length + 1) (pcells l1 ++ [.int .i64 a, .int .i64 b])) (h3 : ∀ g, B ≤ g → g < w.heap.size → v1.ownBlock ≠ some g → w'.heap[g]? = w.heap[g]?)
    (h4 : v1'.ownBlock = v1.ownBlock ∨ ∀ g, v1'.ownBlock = some g → w.heap.size ≤ g) : TwoR w' B e v1' (l1 ++ [(a, b)]) v2 l2 := by
  refine ⟨by rw [List.length_append, pcells_snoc]; exact h2, ⟨h.2.1.1, ?_⟩, fun g hg hg2 => ?_⟩
  · rcases h.2.1.2 with k2 | ⟨g, cap, cur, k3, k4, k5, k6⟩
    · exact .inl k2
    · exact .inr ⟨g, cap, cur, k3, k4, (h3 g k4 (lt_of_block k5) (fun hv => h.2.2 g hv (by rw [k3]; rfl))).trans k5, k6⟩
  · rcases h4 with h4 | h4
    · exact h.2.2 g (h4 ▸ hg) hg2
    · have := h4 g hg
      have := (h.2.1.lt g hg2).2
      omega
end Go.Proofs.Ytdphdodjidbngaa

