/- queue.Pop, Move, Same. -/
import Derived.Test.YtadjmgmdnekllaaQueD
import Derived.Deep.RegionWith
import Derived.Deep.RegionHeld3
namespace Go.Proofs.Ytadjmgmdnekllaa
open Go.RowKit Go.Sort
set_option linter.unusedVariables false
set_option linter.unusedSimpArgs false

/-- What Move makes of a queue. -/
def moveJ (l : List (Int × Int)) (job s : Int) : List (Int × Int) := l.map fun p => if p.1 = job then (p.1, s) else p
def MovAt (l : List (Int × Int)) (job s : Int) (k : Nat) (ys : List (Int × Int)) : Prop := ys = moveJ (l.take k) job s ++ l.drop k
theorem moveJ_len (l : List (Int × Int)) (job s : Int) : (moveJ l job s).length = l.length := by simp [moveJ]
theorem MovAt.start (l : List (Int × Int)) (job s : Int) : MovAt l job s 0 l := by simp [MovAt, moveJ]
theorem MovAt.done {l : List (Int × Int)} {job s : Int} {ys : List (Int × Int)} (h : MovAt l job s l.length ys) : ys = moveJ l job s := by simpa [MovAt] using h
theorem MovAt.len {l : List (Int × Int)} {job s : Int} {k : Nat} {ys : List (Int × Int)} (h : MovAt l job s k ys) (hk : k ≤ l.length) : ys.length = l.length := by
  rw [h, List.length_append, moveJ_len, List.length_take, List.length_drop]; omega
theorem MovAt.get {l : List (Int × Int)} {job s : Int} {k : Nat} {ys : List (Int × Int)} (h : MovAt l job s k ys) (hk : k < l.length) (hy : k < ys.length) : ys[k] = l[k] := by
  have hl : (moveJ (l.take k) job s).length = k := by rw [moveJ_len, List.length_take]; omega
  subst h
  rw [List.getElem_append_right (by omega)]
  simp [hl]
theorem MovAt.skip {l : List (Int × Int)} {job s : Int} {k : Nat} {ys : List (Int × Int)} (h : MovAt l job s k ys) (hk : k < l.length) (hj : l[k].1 ≠ job) : MovAt l job s (k + 1) ys := by
  unfold MovAt at h ⊢
  rw [h, List.take_add_one, List.getElem?_eq_getElem hk]
  unfold moveJ
  rw [Option.toList_some, List.map_append, List.map_cons, List.map_nil, if_neg hj, List.append_assoc, List.singleton_append, List.getElem_cons_drop]
theorem MovAt.hit {l : List (Int × Int)} {job s : Int} {k : Nat} {ys : List (Int × Int)} (h : MovAt l job s k ys) (hk : k < l.length) (hj : l[k].1 = job) : MovAt l job s (k + 1) (ys.set k (l[k].1, s)) := by
  have hl : (moveJ (l.take k) job s).length = k := by rw [moveJ_len, List.length_take]; omega
  unfold MovAt at h ⊢
  rw [h, List.take_add_one, List.getElem?_eq_getElem hk, List.set_append_right _ _ (by omega), hl, Nat.sub_self]
  unfold moveJ
  rw [Option.toList_some, List.map_append, List.map_cons, List.map_nil, if_pos hj, List.append_assoc, List.singleton_append]
  congr 1
  rw [← List.getElem_cons_drop hk, List.set_cons_zero]
attribute [irreducible] MovAt

set_option maxRecDepth 20000 in
set_option maxHeartbeats 400000 in
theorem move_any (A : Option Addr) (len cap : Nat) (l : List (Int × Int)) (job s : Int) (W : World) (h : Sl W 2 A len cap (pcells l)) (hl : len ≤ 10000) :
    Calls Try.prog 66 #[.slice A len cap, .int .i64 job, .int .i64 s] W fun e w' => ∃ v, e = .returned v ∧ w'.ownsRow W.heap.size 91 2 v l.length (pcells (moveJ l job s)) ∧ Below W.heap.size W w' := by
  obtain rfl := h.plen
  have HC := hid (clone_place A l.length cap (pcells l) W h (pcells_one l) (by omega))
  have hl2 : (l.length : Int) ≤ 10000 := by omega
  clear h
  go_enter Try.func66, Try.ntmps66
  go_wp2_with fail
  refine HC.out.mono ?_
  rintro e w1 ⟨v, rfl, hb1, ho1⟩
  obtain ⟨A1, c1, rfl, _⟩ := Sl.of_own ho1
  have HB1 := hid hb1
  have HO1 := hid ho1
  clear ho1 hb1 HC
  go_wp2
  go_loopw [12] (fun i wr => ∃ (k : Nat) (ys : List (Int × Int)), k ≤ l.length ∧ i = .int .i64 (k : Int) ∧ Hid (MovAt l job s k ys) ∧ Hid (wr.ownsRow W.heap.size 91 2 (.slice A1 l.length c1) l.length (pcells ys)) ∧ Hid (Below W.heap.size W wr)) (fun i _ => l.length - (intOf i).toNat)
  case atStart => exact ⟨0, l, by omega, rfl, MovAt.start l job s, HO1.out, HB1.out⟩
  case round =>
    obtain ⟨k, ys, hk, rfl, HM, HO, HB⟩ := hrel
    by_cases hlt : k < l.length
    · have hlt2 : (k : Int) < (l.length : Int) := by omega
      obtain ⟨g, hg, hgb⟩ : ∃ g, A1 = some ⟨g, 0, none⟩ ∧ W.heap.size ≤ g := by
        rcases HO.out.2 with ⟨_, h⟩ | ⟨g, cap', cur, h, hg, _⟩
        · omega
        · injection h with e1 e2 e3; exact ⟨g, e1, hg⟩
      subst hg
      have hyn := HM.out.len hk
      have hyl := HM.out.get hlt (by omega)
      obtain ⟨d1, d2⟩ := (sl_own HO.out).pair k (by omega)
      rw [hyl] at d1 d2
      simp only [Nat.zero_add] at d1 d2
      have hf2 := HO.out.frozenAt (k * 2 + 1)
      have HSK := hid (fun h => HM.out.skip hlt h)
      have HHT := hid (fun h => HM.out.hit hlt h)
      have hyy := hid hyl
      obtain ⟨x, hxx⟩ : ∃ x, l[k].1 = x := ⟨_, rfl⟩
      rw [hxx] at d1 HSK HHT
      have HXX := hid hxx
      generalize l[k].2 = y at d2
      clear hxx hyl
      by_cases hxj : x = job
      · have hd : (x == job) = true := by simpa using hxj
        have HN := hid (HHT.out hxj)
        have HST := hid ((HO.out.stored (k * 2 + 1) (.int .i64 s)).1)
        rw [pcells_set2 ys k (by omega), hyy.out, HXX.out] at HST
        clear hxj HSK HHT
        go_wp2
        go_roundw
        case rel => exact ⟨k + 1, _, by omega, by go_num, HN.out, HST.out, HB.out.setCell (p := ⟨g, k * 2 + 1, none⟩) hgb _⟩
        case measure => simp [intOf]; omega
      · have hd : (x == job) = false := by simpa using hxj
        have HN := hid (HSK.out hxj)
        clear hxj HSK HHT
        go_wp2
        go_roundw
        case rel => exact ⟨k + 1, ys, by omega, by go_num, HN.out, HO.out, HB.out⟩
        case measure => simp [intOf]; omega
    · obtain rfl : k = l.length := by omega
      have HD := hid HM.out.done
      have hge : ¬ (l.length : Int) < (l.length : Int) := by omega
      go_wp2
      go_ret
      obtain rfl := HD.out
      exact ⟨_, rfl, HO.out, HB.out⟩

set_option maxRecDepth 20000 in
theorem pop_nil (A : Option Addr) (cap : Nat) (W : World) :
    Calls Try.prog 67 #[.slice A 0 cap] W fun e w' => e = .returned (.tuple #[.agg #[.int .i64 0, .int .i64 0], .slice none 0 0, .bool false]) ∧ Below W.heap.size W w' := by
  go_enter Try.func67, Try.ntmps67
  go_wp2
  exact bodyPost_ret (v := .tuple #[.agg #[.int .i64 0, .int .i64 0], .slice none 0 0, .bool false]) (by simp [results, Try.results67, go_sem]) rfl ⟨rfl, (Below.refl _ _).alloc (Nat.le_refl _) _⟩

/-- What stays true in Pop's last region. -/
structure PopR (W U : World) : Prop where
  k : ∃ u v, U.heap[W.heap.size]? = some (.cells #[u, v] 91 (0, 0))
  b : Below W.heap.size W U
theorem PopR.call {W U V : World} (h : PopR W U) (hb : Below U.heap.size U V) : PopR W V := by
  obtain ⟨⟨u, v, k⟩, b⟩ := h
  exact ⟨⟨u, v, keep0 k hb⟩, b.trans (hb.mono b.size)⟩
theorem PopR.store {W U : World} (h : PopR W U) (x y : Value) : PopR W ((U.setCell ⟨W.heap.size, 0, none⟩ x).setCell ⟨W.heap.size, 1, none⟩ y) := by
  obtain ⟨⟨u, v, k⟩, b⟩ := h
  exact ⟨⟨x, y, set_two k x y⟩, (b.setCell (p := ⟨W.heap.size, 0, none⟩) (Nat.le_refl _) x).setCell (p := ⟨W.heap.size, 1, none⟩) (Nat.le_refl _) y⟩
def cvo (b o : Nat) (U : World) : Value := (U.cell? ⟨b, o, none⟩).getD undef

set_option maxRecDepth 20000 in
set_option maxHeartbeats 400000 in
theorem pop_any (A : Option Addr) (cap : Nat) (p : Int × Int) (l : List (Int × Int)) (W : World) (h : Sl W 2 A (l.length + 1) cap (pcells (p :: l))) (hl : l.length ≤ 10000) :
    Calls Try.prog 67 #[.slice A ((l.length + 1 : Nat)) cap] W fun e w' => ∃ v, e = .returned (.tuple #[.agg #[.int .i64 p.1, .int .i64 p.2], v, .bool true]) ∧ w'.ownsRow W.heap.size 91 2 v l.length (pcells l) ∧ Below W.heap.size W w' := by
  have hD := h.drop 1 (by omega)
  have hpd : (pcells (p :: l)).drop (1 * 2) = pcells l := by rw [pcells_cons]; rfl
  rw [hpd, Nat.add_sub_cancel] at hD
  have HC := hid (fun w (hb : Below W.heap.size W w) => clone_place _ l.length _ (pcells l) w (hD.below hb) (pcells_one l) (by omega))
  obtain ⟨b, off, hA⟩ := h.addr (by rw [pcells_cons]; simp)
  subst hA
  have HP := hid (h.pair 0 (by simp))
  simp only [Nat.zero_mul, Nat.add_zero, List.getElem_cons_zero] at HP
  have hrun : ∀ w : World, (Instr.slice 84 (.slice (some ⟨b, off, none⟩) (l.length + 1) cap) (some (.int .i64 1)) none none).run Try.prog w = .ok (.slice (dropA (some ⟨b, off, none⟩) cap 1 2) l.length (cap - 1)) w := fun w => by
    have := run_from Try.underlying84 info_place (some ⟨b, off, none⟩) (l.length + 1) cap 1 (by omega) w
    simpa using this
  obtain ⟨x, y⟩ := p
  simp only at HP
  have hl2 : (l.length : Int) ≤ 10000 := by omega
  have hl3 : (((l.length + 1 : Nat) : Int) == 0) = false := by rw [beq_eq_false_iff_ne]; omega
  have hl4 : (1 : Int) ≤ ((l.length + 1 : Nat) : Int) := by omega
  have hl5 : (0 : Int) < ((l.length + 1 : Nat) : Int) := by omega
  have hl6 : 0 < l.length + 1 := by omega
  have hS : ∀ U, PopR W U → (((U.cell? ⟨b, off, none⟩ = some (.int .i64 x) ∧ U.cell? ⟨b, off + 1, none⟩ = some (.int .i64 y)) ∧ (U.cell? ⟨W.heap.size, 0, none⟩ = some (cvo W.heap.size 0 U) ∧ U.cell? ⟨W.heap.size, 1, none⟩ = some (cvo W.heap.size 1 U) ∧ U.frozen? ⟨W.heap.size, 0, none⟩ = false ∧ U.frozen? ⟨W.heap.size, 1, none⟩ = false)) ∧ PopR W U) := fun U hU => by
    obtain ⟨u, v, k⟩ := hU.k
    obtain ⟨p0, p1, q0, q1⟩ := two_cells k
    exact ⟨⟨⟨cellb hU.b HP.out.1, cellb hU.b HP.out.2⟩, by rw [cvo, p0]; rfl, by rw [cvo, p1]; rfl, q0, q1⟩, hU⟩
  clear h hD hpd
  obtain ⟨n1, hn1⟩ : ∃ n1, n1 = l.length + 1 := ⟨_, rfl⟩
  rw [← hn1] at hrun hl3 hl4 hl5 hl6 ⊢
  have HN := hid hn1
  clear hn1
  go_enter Try.func67, Try.ntmps67
  go_upto_region 3 with (fail)
  refine at_world (fun w => PopR W w) ⟨⟨_, _, heap_alloc_new _ _⟩, (Below.refl _ _).alloc (Nat.le_refl _) _⟩ ?_
  intro w0 hR
  have HR := hid hR
  clear hR
  go_region_held3 (fun U => ((U.cell? ⟨b, off, none⟩ = some (.int .i64 x) ∧ U.cell? ⟨b, off + 1, none⟩ = some (.int .i64 y)) ∧ (U.cell? ⟨W.heap.size, 0, none⟩ = some (cvo W.heap.size 0 U) ∧ U.cell? ⟨W.heap.size, 1, none⟩ = some (cvo W.heap.size 1 U) ∧ U.frozen? ⟨W.heap.size, 0, none⟩ = false ∧ U.frozen? ⟨W.heap.size, 1, none⟩ = false)) ∧ PopR W U)
    (first
      | assumption
      | exact hS _ HR.out
      | exact hS _ (HR.out.call (below_drew (Below.refl _ _)))
      | exact hS _ (PopR.call (And.right (by assumption)) (by assumption))
      | exact hS _ (PopR.store (And.right (by assumption)) _ _))
    (first
      | (go_at_call 117
         refine (HC.out _ (PopR.b (And.right (by assumption)))).mono ?_
         rintro e u1 ⟨v1, rfl, g1, o1⟩))
  have hR2 : PopR W u1 := PopR.call (HR.out.call (below_drew (Below.refl _ _))) g1
  obtain ⟨u, v, k⟩ := hR2.k
  obtain ⟨r0, r1, r2, r3⟩ := two_cells (set_two k (.int .i64 x) (.int .i64 y))
  have HB := hid (PopR.store hR2 (.int .i64 x) (.int .i64 y)).b
  have hlt : W.heap.size < w0.drew.heap.size := by
    obtain ⟨u, v, k⟩ := HR.out.k
    exact lt_of_block k
  have HO := hid (own_mono (own_setOld (own_setOld o1 ⟨W.heap.size, 0, none⟩ (.int .i64 x) hlt) ⟨W.heap.size, 1, none⟩ (.int .i64 y) hlt) (Nat.le_of_lt hlt))
  rename_i hHeld
  clear hHeld hS hR2 k o1 g1 HP HC hrun hlt
  go_wp2
  exact bodyPost_ret (v := .tuple #[.agg #[.int .i64 x, .int .i64 y], v1, .bool true]) (by simp [results, Try.results67, go_sem, r0, r1]) rfl ⟨v1, rfl, HO.out, HB.out⟩

/-! Same -/
set_option maxHeartbeats 1000000 in
theorem equal_pair (A B : Option Addr) (len cap len' cap' : Nat) (l m : List (Int × Int)) (W : World) (hA : Sl W 2 A len cap (pcells l)) (hB : Sl W 2 B len' cap' (pcells m)) (h6 : len ≤ 9223372036854775807) (h7 : len' ≤ 9223372036854775807) :
    Calls Try.prog 121 #[.slice A len cap, .slice B len' cap'] W fun e w' => e = .returned (.bool (l == m)) ∧ ∃ q, w' = W.drewN q := by
  obtain rfl := hA.plen
  obtain rfl := hB.plen
  by_cases hlen : l.length = m.length
  · have HA := hid hA
    have HB := hid hB
    clear hA hB
    have HL := hid hlen
    rw [← hlen]
    clear h7 hlen
    go_enter Try.func121, Try.ntmps121
    go_wp2
    go_loopw [13] (fun i wr => ∃ k q : Nat, k ≤ l.length ∧ i = .int .i64 (k : Int) ∧ wr = W.drewN q ∧ Hid (l.take k = m.take k)) (fun i _ => l.length - (intOf i).toNat)
    case atStart => exact ⟨0, 0, by omega, rfl, rfl, by simp [Hid]⟩
    case round =>
      obtain ⟨k, q, hk, rfl, rfl, HT⟩ := hrel
      by_cases hlt : k < l.length
      · have hltm : k < m.length := by have := HL.out; omega
        obtain ⟨b, off, hA⟩ := HA.out.addr (by rw [pcells_length]; omega)
        subst hA
        obtain ⟨b2, off2, hB⟩ := HB.out.addr (by rw [pcells_length]; omega)
        subst hB
        obtain ⟨c1, c2⟩ := HA.out.pair k hlt
        obtain ⟨d1, d2⟩ := HB.out.pair k hltm
        have HE : Hid (l[k] = m[k] ↔ l.take (k + 1) = m.take (k + 1)) := by
          have h1 : l.take (k + 1) = l.take k ++ [l[k]] := by rw [List.take_add_one, List.getElem?_eq_getElem hlt]; rfl
          have h2 : m.take (k + 1) = m.take k ++ [m[k]] := by rw [List.take_add_one, List.getElem?_eq_getElem hltm]; rfl
          rw [Hid, h1, h2, HT.out]
          exact ⟨fun h => by rw [h], fun h => by simpa using List.append_cancel_left h⟩
        generalize l[k] = x at c1 c2 HE
        generalize m[k] = y at d1 d2 HE
        obtain ⟨x1, x2⟩ := x
        obtain ⟨y1, y2⟩ := y
        simp only at c1 c2 d1 d2
        have hlt2 : (k : Int) < (l.length : Int) := by omega
        by_cases hxy : x1 = y1 ∧ x2 = y2
        · obtain ⟨rfl, rfl⟩ := hxy
          have HE2 := hid (HE.out.1 rfl)
          clear HE
          have e1 : (x1 == x1) = true := by simp
          have e2 : (x2 == x2) = true := by simp
          go_wp2
          go_quiet (fail)
          go_wp2
          go_roundw
          case rel => exact ⟨k + 1, q + nq, by omega, by go_num, rfl, HE2.out⟩
          case measure => simp [intOf]; omega
        · have HF : Hid ((l == m) = false) := by
            simp only [Hid, beq_eq_false_iff_ne, ne_eq]
            intro h
            have := HE.out.2 (by rw [h])
            simp only [Prod.mk.injEq] at this
            exact hxy this
          clear HE
          by_cases h1 : x1 = y1
          · subst h1
            have e1 : (x1 == x1) = true := by simp
            have e2 : (x2 == y2) = false := by rw [beq_eq_false_iff_ne]; exact fun h => hxy ⟨rfl, h⟩
            clear hxy
            go_wp2
            go_quiet (fail)
            go_wp2
            go_ret
            refine ⟨?_, q + nq, by simp⟩
            rw [HF.out]
            rfl
          · have e1 : (x1 == y1) = false := by rw [beq_eq_false_iff_ne]; exact h1
            clear hxy h1
            go_wp2
            go_quiet (fail)
            go_wp2
            go_ret
            refine ⟨?_, q + nq, by simp⟩
            rw [HF.out]
            rfl
      · have HF : Hid ((l == m) = true) := by
          have h1 := HT.out
          rw [List.take_of_length_le (by omega), List.take_of_length_le (by have := HL.out; omega)] at h1
          simp [Hid, h1]
        have hge : ¬ (k : Int) < (l.length : Int) := by omega
        go_wp2
        go_ret
        refine ⟨?_, _, rfl⟩
        rw [HF.out]
        rfl
  · have HF : Hid ((l == m) = false) := by
      simp only [Hid, beq_eq_false_iff_ne, ne_eq]
      intro h
      exact hlen (by rw [h])
    rw [HF.out]
    have hne : ((l.length : Int) != (m.length : Int)) = true := by simp; omega
    clear HF hA hB h6 h7 hlen
    go_enter Try.func121, Try.ntmps121
    go_wp2
    go_ret
    exact ⟨rfl, 0, rfl⟩
theorem qsame_any (A B : Option Addr) (len cap len' cap' : Nat) (l m : List (Int × Int)) (W : World) (hA : Sl W 2 A len cap (pcells l)) (hB : Sl W 2 B len' cap' (pcells m)) (h6 : len ≤ 9223372036854775807) (h7 : len' ≤ 9223372036854775807) :
    Calls Try.prog 73 #[.slice A len cap, .slice B len' cap'] W fun e w' => e = .returned (.bool (l == m)) ∧ ∃ q, w' = W.drewN q := by
  have H := hid (equal_pair A B len cap len' cap' l m W hA hB h6 h7)
  generalize (l == m) = r at *
  clear hA hB
  go_enter Try.func73, Try.ntmps73
  go_wp2_with fail
  refine H.out.mono ?_
  rintro e w1 ⟨rfl, q, rfl⟩
  go_wp2
  go_ret
  exact ⟨rfl, q, rfl⟩
end Go.Proofs.Ytadjmgmdnekllaa
