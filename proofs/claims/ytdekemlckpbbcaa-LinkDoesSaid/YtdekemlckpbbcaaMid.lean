/- A row of the call's own that may begin inside its block ('s = s[1:]'), and append onto it. -/
import Derived.Test.YtdekemlckpbbcaaSlice
import Derived.Test.YtdekemlckpbbcaaKeep
import Derived.Laws.IdiomCopy
namespace Go.Proofs.Ytdekemlckpbbcaa
open Go.RowKit
set_option linter.unusedVariables false
set_option linter.unusedSimpArgs false

def Mid (w : World) (base : Nat) (e : TypeId) (size : Nat) (v : Value) (n : Nat) (xs : List Value) : Prop :=
  xs.length = n * size ∧ ((v = .slice none 0 0 ∧ n = 0) ∨
    ∃ g off cap cur, v = .slice (some ⟨g, off, none⟩) n cap ∧ base ≤ g ∧ w.heap[g]? = some (.cells cur e (0, 0)) ∧ n ≤ cap ∧ cap ≤ maxLen ∧ off + cap * size ≤ cur.size ∧ (cur.toList.drop off).take (n * size) = xs)
theorem Mid.of_own {w : World} {base e size n : Nat} {v : Value} {xs : List Value} (h : w.ownsRow base e size v n xs) : Mid w base e size v n xs := by
  refine ⟨h.1, ?_⟩
  rcases h.2 with h2 | ⟨g, cap, cur, h3, h4, h5, h6, h7, h8, h9⟩
  · exact .inl h2
  · exact .inr ⟨g, 0, cap, cur, h3, h4, h5, h6, h7, by omega, by simpa using h9⟩
theorem Mid.form {w : World} {base e size n : Nat} {v : Value} {xs : List Value} (h : Mid w base e size v n xs) : ∃ A c, v = .slice A n c ∧ Sl w size A n c xs := by
  rcases h.2 with ⟨rfl, rfl⟩ | ⟨g, off, cap, cur, rfl, hb, hg, hnc, hcm, hcs, ht⟩
  · exact ⟨none, 0, rfl, h.1, Nat.le_refl _, Nat.zero_le _, fun h0 => by have := h.1; omega⟩
  · refine ⟨_, _, rfl, h.1, hnc, hcm, fun _ => ⟨g, off, rfl, fun i hi => ?_⟩⟩
    rw [cell_of_row w g (off + i) cur e (0, 0) hg, ← ht, List.getElem?_take, if_pos (by have := h.1; omega), List.getElem?_drop]
    simp
theorem Mid.sl {w : World} {base e size n : Nat} {A : Option Addr} {c : Nat} {xs : List Value} (h : Mid w base e size (.slice A n c) n xs) : Sl w size A n c xs := by
  obtain ⟨a, c', h1, h2⟩ := h.form
  cases h1
  exact h2
theorem Mid.block {w w' : World} {base e size n : Nat} {v : Value} {xs : List Value} (h : Mid w base e size v n xs) (hb : ∀ g o, base ≤ g → w.heap[g]? = some o → (∃ cs, o = .cells cs e (0, 0)) → v.ownBlock = some g → w'.heap[g]? = some o) : Mid w' base e size v n xs := by
  refine ⟨h.1, ?_⟩
  rcases h.2 with h2 | ⟨g, off, cap, cur, rfl, h4, h5, h6⟩
  · exact .inl h2
  · exact .inr ⟨g, off, cap, cur, rfl, h4, hb g _ h4 h5 ⟨_, rfl⟩ rfl, h6⟩
theorem Mid.keep {w w' : World} {base e size n : Nat} {v : Value} {xs : List Value} (h : Mid w base e size v n xs) (hb : Below w.heap.size w w') : Mid w' base e size v n xs := h.block fun _ _ _ ho _ _ => keep0 ho hb
theorem Mid.drewN {w : World} {base e size n : Nat} {v : Value} {xs : List Value} (h : Mid w base e size v n xs) (k : Nat) : Mid (w.drewN k) base e size v n xs := h
theorem Mid.mono {w : World} {base b' e size n : Nat} {v : Value} {xs : List Value} (h : Mid w base e size v n xs) (hb : b' ≤ base) : Mid w b' e size v n xs := by
  refine ⟨h.1, ?_⟩
  rcases h.2 with h2 | ⟨g, off, cap, cur, h3, h4, h5⟩
  · exact .inl h2
  · exact .inr ⟨g, off, cap, cur, h3, Nat.le_trans hb h4, h5⟩
theorem Mid.setOther {w : World} {base e size n B t : Nat} {v : Value} {xs : List Value} {cs : Array Value} (h : Mid w base e size v n xs) (hB : w.heap[B]? = some (.cells cs t (0, 0))) (hne : e ≠ t) (i : Nat) (u : Value) : Mid (w.setCell ⟨B, i, none⟩ u) base e size v n xs :=
  h.block fun g o _ ho ⟨cs', he⟩ _ => (Below.heap_setCell _ _ _ _ (fun (e2 : g = B) => by
    subst e2
    rw [ho, he] at hB
    injection hB with hB
    injection hB with _ ht
    exact hne ht)).trans ho
theorem Mid.only {w w' : World} {base e size n B t : Nat} {v : Value} {xs : List Value} {cs : Array Value} (h : Mid w base e size v n xs) (hB : w.heap[B]? = some (.cells cs t (0, 0))) (hne : e ≠ t) (hk : ∀ g, g ≠ B → g < w.heap.size → w'.heap[g]? = w.heap[g]?) : Mid w' base e size v n xs :=
  h.block fun g o _ ho ⟨cs', he⟩ _ => (hk g (fun e2 => by
    subst e2
    rw [ho, he] at hB
    injection hB with hB
    injection hB with _ ht
    exact hne ht) (lt_of_block ho)).trans ho
theorem Mid.drop {w : World} {base e size n : Nat} {A : Option Addr} {c : Nat} {xs : List Value} (h : Mid w base e size (.slice A n c) n xs) (k : Nat) (hk : k ≤ n) : Mid w base e size (.slice (dropA A c k size) (n - k) (c - k)) (n - k) (xs.drop (k * size)) := by
  have hl : (xs.drop (k * size)).length = (n - k) * size := by rw [List.length_drop, h.1, Nat.sub_mul]
  refine ⟨hl, ?_⟩
  rcases h.2 with ⟨h1, rfl⟩ | ⟨g, off, cap, cur, h1, h4, h5, h6, h7, h8, h9⟩
  · cases h1
    obtain rfl : k = 0 := by omega
    exact .inl ⟨by simp [dropA], rfl⟩
  · cases h1
    by_cases hc : c = k
    · refine .inr ⟨g, off, 0, cur, by rw [dropA, if_pos hc, hc, Nat.sub_self], h4, h5, by omega, Nat.zero_le _, by omega, ?_⟩
      have h0 : n - k = 0 := by omega
      rw [h0, Nat.zero_mul, List.take_zero]
      rw [h0, Nat.zero_mul] at hl
      exact (List.eq_nil_of_length_eq_zero hl).symm
    · have hm : k * size + (n - k) * size = n * size := by rw [← Nat.add_mul, show k + (n - k) = n by omega]
      have hm2 : k * size + (c - k) * size = c * size := by rw [← Nat.add_mul, show k + (c - k) = c by omega]
      refine .inr ⟨g, off + k * size, c - k, cur, by rw [dropA, if_neg hc]; simp [add_none], h4, h5, by omega, by omega, by omega, ?_⟩
      rw [← h9, List.drop_take, List.drop_drop]
      congr 1
      omega

theorem setCells_row {g : Nat} {e : TypeId} : ∀ (vs : List Value) (o : Nat) (w : World) (cur : Array Value), w.heap[g]? = some (.cells cur e (0, 0)) → ∃ cur' : Array Value, (w.setCells g o vs).heap[g]? = some (.cells cur' e (0, 0)) ∧ cur'.size = cur.size ∧ (∀ i, i < o ∨ o + vs.length ≤ i → cur'[i]? = cur[i]?) ∧ ∀ j, j < vs.length → o + j < cur.size → cur'[o + j]? = vs[j]?
  | [], o, w, cur, h => ⟨cur, h, rfl, fun _ _ => rfl, fun j hj => by simp at hj⟩
  | v :: r, o, w, cur, h => by
    obtain ⟨cur', h1, h2, h3, h4⟩ := setCells_row r (o + 1) (w.setCell ⟨g, o, none⟩ v) _ (heap_setCell_same w g o cur e v h)
    refine ⟨cur', h1, by simpa using h2, fun i hi => ?_, fun j hj hjs => ?_⟩
    · simp only [List.length_cons] at hi
      rw [h3 i (by omega), Array.getElem?_setIfInBounds_ne (by omega)]
    · cases j with
      | zero =>
        rw [Nat.add_zero, h3 o (by omega), Array.getElem?_setIfInBounds_self_of_lt (by omega)]
        rfl
      | succ j =>
        have := h4 j (by simpa using hj) (by simp; omega)
        rw [show o + (j + 1) = o + 1 + j by omega, this]
        simp

theorem append_mid {P : Program} {w : World} {t ty e : TypeId} {z : Value} {size bytes : Nat} (ht : P.underlying t = some (.slice e)) (hinf : (P.info? e).map (fun i => (i.zero, i.size, i.bytes)) = some (some z, size, bytes)) (hzs : z.cells.size = size) (hsz : 0 < size)
    {base n m c : Nat} {v : Value} {xs news : List Value} {A : Option Addr} (h : Mid w base e size v n xs) (hx : Sl w size A m c news) (h1 : ∀ u ∈ news, u.oneCell' = true)
    (h63 : n + m ≤ maxLen) (hbytes : (n + m) * bytes ≤ 140737488355328) (hbase : base ≤ w.heap.size) :
    ∃ v' w', (Builtin.append_ #[t, t] ty #[v, .slice A m c]).run P w = .ok v' w' ∧ Mid w' base e size v' (n + m) (xs ++ news) ∧ Below base w w' ∧ (∀ g, g < w.heap.size → v.ownBlock ≠ some g → w'.heap[g]? = w.heap[g]?) := by
  obtain ⟨i, hi, hz, hsize, hby⟩ := info_parts hinf
  rcases A with _ | ad
  · have h0 : news = [] := by
      rcases Nat.eq_zero_or_pos news.length with h0 | h0
      · exact List.eq_nil_of_length_eq_zero h0
      · obtain ⟨b, off, ha, _⟩ := hx.2.2.2 h0
        cases ha
    subst h0
    have hm : m = 0 := by
      have := hx.1
      simp only [List.length_nil] at this
      rcases Nat.mul_eq_zero.1 this.symm with h | h
      · exact h
      · omega
    subst hm
    refine ⟨v, w, ?_, by simpa using h, Below.refl _ _, fun _ _ _ => rfl⟩
    rcases h.2 with ⟨rfl, rfl⟩ | ⟨g, off, cap, cur, rfl, _, _, hnc, _⟩
    · simp [Builtin.append_, run_underlying ht, sizeOf, typeInfo, hi, Builtin.lenOf, Builtin.firstCells]
    · simp [Builtin.append_, run_underlying ht, sizeOf, typeInfo, hi, Builtin.lenOf, Builtin.firstCells, hnc, storeCells]
  · have hnews : ∀ j u, news[j]? = some u → w.cell? (ad.add j) = some u := by
      intro j u hj
      have hjl := (List.getElem?_eq_some_iff.1 hj).1
      obtain ⟨b, off, ha, hc⟩ := hx.2.2.2 (by omega)
      cases ha
      rw [add_none, hc j hjl, hj]
    rcases h.2 with ⟨rfl, rfl⟩ | ⟨g, off, cap, cur, rfl, hbg, hg, hnc, hcm, hcs, htake⟩
    · have h00 : xs = [] := List.eq_nil_of_length_eq_zero (by simpa using h.1)
      subst h00
      obtain ⟨v', w', hr, h2, h3, _⟩ := run_append_own (P := P) w base t ty e i z size bytes ht hi hz hsize hby hzs hsz _ 0 [] (World.ownsRow_nil w base e size) ad m c news hx.1 hnews h1 h63 hbytes hbase
      exact ⟨v', w', hr, Mid.of_own h2, below_grown (Below.refl _ _) (World.ownsRow_nil w base e size) h3 hbase, fun g hg hne => h3.block g hg fun e => hne e.symm⟩
    · have hlen : (xs ++ news).length = (n + m) * size := by rw [List.length_append, h.1, hx.1, Nat.add_mul]
      by_cases hroom : n + m ≤ cap
      · have hmul : (n + m) * size ≤ cap * size := Nat.mul_le_mul_right _ hroom
        rw [Nat.add_mul] at hmul
        have hf := run_firstCells_some (P := P) w size m ad m c news hx.1 hnews
        have hcell : ∀ j, j < news.length → (w.cell? ⟨g, off + n * size + j, none⟩).isSome = true := fun j hj => by
          have := hx.1
          rw [cell_of_row w g _ cur e (0, 0) hg, Array.getElem?_eq_getElem (by omega)]
          rfl
        have hfr : ∀ j, j < news.length → w.frozen? ⟨g, off + n * size + j, none⟩ = false := fun j _ => frozen_of_row w g _ cur e hg
        have hst := run_storeCells_cells (P := P) g (off + n * size) news 0 w (by simpa using hcell) (by simpa using hfr) h1
        simp only [Nat.add_zero] at hst
        obtain ⟨cur', k1, k2, k3, k4⟩ := setCells_row news (off + n * size) w cur hg
        refine ⟨.slice (some ⟨g, off, none⟩) (n + m) cap, w.setCells g (off + n * size) news, ?_, ⟨hlen, .inr ⟨g, off, cap, cur', rfl, hbg, k1, hroom, hcm, by omega, ?_⟩⟩, ?_, ?_⟩
        · subst hsize
          simp [Builtin.append_, run_underlying ht, sizeOf, typeInfo, hi, Builtin.lenOf, hroom, hf, add_none, hst]
        · have hxl := h.1
          have hnl := hx.1
          apply List.ext_getElem?
          intro j
          rw [List.getElem?_take, List.getElem?_drop, Nat.add_mul]
          by_cases hj1 : j < n * size
          · rw [if_pos (by omega), List.getElem?_append_left (by omega), ← htake, List.getElem?_take, if_pos hj1, List.getElem?_drop]
            have := k3 (off + j) (by omega)
            simpa using this
          · rw [List.getElem?_append_right (by omega), hxl]
            by_cases hj2 : j < n * size + m * size
            · rw [if_pos hj2]
              have := k4 (j - n * size) (by omega) (by omega)
              rw [show off + n * size + (j - n * size) = off + j by omega] at this
              simpa using this
            · rw [if_neg hj2, List.getElem?_eq_none (by omega)]
        · have : ∀ (vs : List Value) (o : Nat) (w0 : World), Below base w w0 → Below base w (w0.setCells g o vs) := by
            intro vs
            induction vs with
            | nil => intro o w0 h; exact h
            | cons v r ih => intro o w0 h; exact ih (o + 1) _ (h.setCell (p := ⟨g, o, none⟩) hbg v)
          exact this _ _ _ (Below.refl _ _)
        · intro j hj hne
          have hjg : j ≠ g := fun e => hne (by rw [e]; rfl)
          have : ∀ (vs : List Value) (o : Nat) (w0 : World), (w0.setCells g o vs).heap[j]? = w0.heap[j]? := by
            intro vs
            induction vs with
            | nil => intro o w0; rfl
            | cons v r ih => intro o w0; rw [World.setCells, ih, Below.heap_setCell _ _ _ _ hjg]
          exact this _ _ _
      · have holds : ∀ j u, xs[j]? = some u → w.cell? ((⟨g, off, none⟩ : Addr).add j) = some u := fun j u hj => by
          rw [← htake, List.getElem?_take] at hj
          split at hj
          · rw [List.getElem?_drop] at hj
            rw [add_none, cell_of_row w g _ cur e (0, 0) hg]
            simpa using hj
          · cases hj
        subst hsize
        subst hby
        have hsmall : n + m ≤ 9223372036854775807 := by simp only [maxLen] at h63; omega
        have hr := run_append_grow (P := P) w t ty e i z ht hi hz ⟨g, off, none⟩ n cap xs h.1 holds ad m c news hx.1 hnews (by omega) (by omega) (growslice_fits (by omega) hbytes)
        have hge := grownCap_ge w (n + m) cap e
        have hgm : grownCap w (n + m) cap e ≤ maxLen := grownCap_le_maxLen w (n + m) cap e h63
        refine ⟨_, _, hr, Mid.of_own ⟨hlen, .inr ⟨w.heap.size, _, _, rfl, hbase, heap_alloc_new w.drew _, hge, hgm, ?_, ?_⟩⟩, ?_, fun k hk _ => Below.heap_alloc w.drew _ k hk⟩
        · simp only [Array.size_append, List.size_toArray, size_zeroCells, hzs, h.1, hx.1, ← Nat.add_mul]
          congr 1
          omega
        · simp only [Array.toList_append, List.append_assoc]
          rw [← List.append_assoc, ← hlen]
          exact List.take_left
        · exact (below_drew (Below.refl _ _)).alloc hbase _
theorem wpList_append_mid {P : Program} {W w : World} {ops : Array Oper} {rest : List Oper} {o : Oper} {a : Act} {Q : Exit → Act → World → Prop} (hgd : o.guard = none) (s x : Operand) (t : TypeId) (ho : o.op = .call { callee := .builtin .append, args := #[s, x], argTypes := #[t, t] })
    (base : Nat) (e : TypeId) {z : Value} {size bytes : Nat} (ht : P.underlying t = some (.slice e)) (hinf : (P.info? e).map (fun i => (i.zero, i.size, i.bytes)) = some (some z, size, bytes)) (hzs : z.cells.size = size) (hsz : 0 < size)
    {v : Value} {n : Nat} {xs : List Value} (hs : a.eval s = v) (hown : Mid w base e size v n xs)
    {A : Option Addr} {m c : Nat} {news : List Value} (hx : a.eval x = .slice A m c) (hsl : Sl w size A m c news) (h1 : ∀ u ∈ news, u.oneCell' = true)
    (h63 : n + m ≤ maxLen) (hbytes : (n + m) * bytes ≤ 140737488355328) (hbase : base ≤ w.heap.size) (hb : Below base W w)
    (h : ∀ v' w', Mid w' base e size v' (n + m) (xs ++ news) → Below base W w' → w.heap.size ≤ w'.heap.size → (∀ g, g < w.heap.size → v.ownBlock ≠ some g → w'.heap[g]? = w.heap[g]?) → wpList P ops Q rest (a.put o.dst v') w') : wpList P ops Q (o :: rest) a w := by
  obtain ⟨v', w', hr, h2, h3, h4⟩ := append_mid (ty := o.type) ht hinf hzs hsz hown hsl h1 h63 hbytes hbase
  refine wpList_plain hgd fun K hK => ?_
  unfold Oper.wp execOp
  simp only [ho, resolve, invoke, builtin, Sem.run_bind, Sem.run_pure, Result.andThen_ok, List.map_toArray, List.map_cons, List.map_nil, hs, hx, hr]
  exact hK _ _ (h v' w' h2 (hb.trans h3) h3.size h4)
end Go.Proofs.Ytdekemlckpbbcaa
