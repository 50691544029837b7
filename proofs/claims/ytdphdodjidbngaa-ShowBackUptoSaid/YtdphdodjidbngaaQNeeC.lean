/- Needs: a tree as a value; need.joined: contract. -/
import Derived.Test.YtdphdodjidbngaaNeP
import Derived.Test.YtdphdodjidbngaaGaP
import Derived.Deep.Cut
import Derived.Deep.CutRange
import Derived.Deep.RegionHeld3
import Derived.RegionTactic
namespace Go.Proofs.Ytdphdodjidbngaa
open Go.RowKit Go.Sort
set_option linter.unusedVariables false
set_option linter.unusedSimpArgs false

/-- A tree, as a value. -/
def tv : Nt → Value
  | .yes => .iface 219 (.agg #[])
  | .attr n => .iface 183 (.agg #[.int .i64 n])
  | .not t => .iface 221 (.agg #[tv t])
  | .pair op a b => .iface 223 (.agg #[.int .i64 op, tv a, tv b])
def tvs (l : List Nt) : List Value := l.map tv
theorem tvs_append (l m : List Nt) : tvs (l ++ m) = tvs l ++ tvs m := by simp [tvs]
theorem tvs_len (l : List Nt) : (tvs l).length = l.length := by simp [tvs]
theorem tv_one (t : Nt) : (tv t).oneCell' = true := by cases t <;> rfl
theorem tv_iface (t : Nt) : ∃ (T : TypeId) (v : Value), tv t = .iface T v := by cases t <;> exact ⟨_, _, rfl⟩
theorem tvs_one (l : List Nt) : ∀ u ∈ tvs l, u.oneCell' = true := fun u hu => by
  obtain ⟨t, _, rfl⟩ := List.mem_map.1 hu
  exact tv_one t
theorem info_tree : (Try.prog.info? 143).map (fun i => (i.zero, i.size, i.bytes)) = some (some .nilIface, 1, 16) := by kernel_rfl
theorem sl_new1 {w : World} {e x : Nat} (v : Value) (hx : x = w.heap.size) : Sl (w.alloc (.cells #[v] e)) 1 (some ⟨x, 0, none⟩) 1 1 [v] := by
  subst hx
  refine ⟨rfl, Nat.le_refl _, by unfold maxLen; omega, fun _ => ⟨_, 0, rfl, fun i hi => ?_⟩⟩
  rw [cell_of_row _ _ _ _ _ _ (heap_alloc_new w (.cells #[v] e))]
  simp
/-- Trees of the call's own. -/
def OwnT (w : World) (B : Nat) (A : Option Addr) (c : Nat) (l : List Nt) : Prop := w.ownsRow B 143 1 (.slice A l.length c) l.length (tvs l)
theorem OwnT.keep {w w' : World} {B : Nat} {A : Option Addr} {c : Nat} {l : List Nt} (h : OwnT w B A c l) (hb : Below w.heap.size w w') : OwnT w' B A c l := own_keep h hb
theorem OwnT.own {w : World} {B : Nat} {A : Option Addr} {c : Nat} {l : List Nt} (h : OwnT w B A c l) : w.ownsRow B 143 1 (.slice A l.length c) l.length (tvs l) := h
theorem OwnT.sl {w : World} {B : Nat} {A : Option Addr} {c : Nat} {l : List Nt} (h : OwnT w B A c l) : Sl w 1 A l.length c (tvs l) := sl_own h
theorem Sl.tree {w : World} {A : Option Addr} {len cap : Nat} {l : List Nt} (h : Sl w 1 A len cap (tvs l)) (k : Nat) (hk : k < l.length) : ∃ b off, A = some ⟨b, off, none⟩ ∧ w.cell? ⟨b, off + k, none⟩ = some (tv l[k]) := by
  obtain ⟨b, off, ha, hc⟩ := h.2.2.2 (by rw [tvs_len]; omega)
  refine ⟨b, off, ha, ?_⟩
  rw [hc k (by rw [tvs_len]; exact hk)]
  simp [tvs, List.getElem?_eq_getElem hk]
theorem own_take1 {w : World} {base e n cap g : Nat} {xs : List Value} (h : w.ownsRow base e 1 (.slice (some ⟨g, 0, none⟩) n cap) n xs) (i : Nat) (hi : i ≤ n) : w.ownsRow base e 1 (.slice (some ⟨g, 0, none⟩) i cap) i (xs.take i) := by
  have h1 := h.1
  rcases h.2 with ⟨h', _⟩ | ⟨g', cap', cur, h', hb, hg, hnc, hcm, hcs, ht⟩
  · simp at h'
  · simp only [Value.slice.injEq, Option.some.injEq, Addr.mk.injEq, and_true, true_and] at h'
    obtain ⟨rfl, rfl⟩ := h'
    refine ⟨by rw [List.length_take, h1]; omega, .inr ⟨g, cap, cur, rfl, hb, hg, by omega, hcm, hcs, ?_⟩⟩
    rw [← ht, List.take_take, Nat.min_eq_left (by omega), Nat.mul_one]
theorem own_at0 {w : World} {B e s c n : Nat} {A : Option Addr} {xs : List Value} (h : w.ownsRow B e s (.slice A n c) n xs) (h0 : 0 < n) : ∃ g, A = some ⟨g, 0, none⟩ := by
  rcases h.2 with ⟨h', h''⟩ | ⟨g', cap', cur, h', _⟩
  · simp only [Value.slice.injEq] at h'; omega
  · simp only [Value.slice.injEq] at h'; exact ⟨g', h'.1⟩
/-- What becomes of trees that a node is joined to. -/
def JoinR (B : Nat) (r : Option (List Nt)) (W : World) (e : Ending) (w' : World) : Prop :=
  Below B W w' ∧ W.heap.size ≤ w'.heap.size ∧ match r with
    | none => e = .returned (.tuple #[.slice none 0 0, .bool false])
    | some us => ∃ A' c', e = .returned (.tuple #[.slice A' us.length c', .bool true]) ∧ OwnT w' B A' c' us
set_option maxRecDepth 20000 in
set_option maxHeartbeats 2000000 in
theorem joined_attr (B : Nat) (ts : List Nt) (A : Option Addr) (c : Nat) (op n : Int) (W : World) (h : OwnT W B A c ts) (hB : B ≤ W.heap.size) (hl : ts.length ≤ 100) (h2 : op = 2) (h3 : 0 ≤ n) (h4 : n < 16) :
    Calls Try.prog 100 #[.slice A ts.length c, .agg #[.int .i64 op, .int .i64 n]] W (JoinR B (joinT ts (op, n)) W) := by
  have HJ : Hid (joinT ts (op, n) = some (ts ++ [.attr n])) := hid (by simp [joinT, h2, h3, h4])
  rw [HJ.out]
  have HO := hid h
  clear h HJ
  subst h2
  go_enter Try.func100, Try.ntmps100
  go_upto_region 1 with (fail)
  refine at_world (fun w => w.heap[W.heap.size]? = some (.cells #[.int .i64 2, .int .i64 n] 77 (0, 0)) ∧ OwnT w B A c ts ∧ Below B W w ∧ W.heap.size < w.heap.size) ⟨heap_alloc_new _ _, HO.out.keep ((Below.refl _ _).alloc (Nat.le_refl _) _), (Below.refl _ _).alloc hB _, by simp⟩ ?_
  rintro w1 ⟨k1, ho1, hb1, hz1⟩
  obtain ⟨p0, p1, _, _⟩ := two_cells k1
  have HO1 := hid ho1
  have HB1 := hid hb1
  have HZ1 := hid hz1
  have HB0 := hid (Nat.le_trans hB (Nat.le_of_lt hz1))
  clear k1 ho1 hb1 hz1 HO hB
  go_upto_region 3 with (fail)
  go_wp2_with (at_builtin; go_loud (refine wpList_append_1 (W := w1) rfl (.tmp 23) (.tmp 28) 138 rfl B 143 Try.underlying138 info_tree rfl (by omega) rfl HO1.out.own rfl rfl (by simp; rfl) (by unfold maxLen; omega) (by omega) HB0.out (Below.refl _ _) ?_))
  intro v' w2 ho2 hb2 hz2
  obtain ⟨A2, c2, rfl, _⟩ := Sl.of_own ho2
  have HJ2 : Hid (OwnT w2 B A2 c2 (ts ++ [.attr n])) := hid (by
    unfold OwnT
    rw [tvs_append, List.length_append]
    exact ho2)
  have HB2 := hid (HB1.out.trans hb2)
  have HZ2 := hid (Nat.le_trans (Nat.le_of_lt HZ1.out) (Nat.le_of_lt hz2))
  clear ho2 hb2 hz2 p0 p1
  go_wp2
  go_ret2
  exact ⟨HB2.out, HZ2.out, A2, c2, by simp, HJ2.out⟩

set_option maxRecDepth 20000 in
set_option maxHeartbeats 2000000 in
theorem joined_yes (B : Nat) (ts : List Nt) (A : Option Addr) (c : Nat) (op n : Int) (W : World) (h : OwnT W B A c ts) (hB : B ≤ W.heap.size) (hl : ts.length ≤ 100) (h2 : op = 1) (h3 : n = 0) :
    Calls Try.prog 100 #[.slice A ts.length c, .agg #[.int .i64 op, .int .i64 n]] W (JoinR B (joinT ts (op, n)) W) := by
  have HJ : Hid (joinT ts (op, n) = some (ts ++ [.yes])) := hid (by simp [joinT, h2, h3])
  rw [HJ.out]
  have HO := hid h
  clear h HJ
  subst h2
  subst h3
  go_enter Try.func100, Try.ntmps100
  go_upto_region 1 with (fail)
  refine at_world (fun w => w.heap[W.heap.size]? = some (.cells #[.int .i64 1, .int .i64 0] 77 (0, 0)) ∧ OwnT w B A c ts ∧ Below B W w ∧ W.heap.size < w.heap.size) ⟨heap_alloc_new _ _, HO.out.keep ((Below.refl _ _).alloc (Nat.le_refl _) _), (Below.refl _ _).alloc hB _, by simp⟩ ?_
  rintro w1 ⟨k1, ho1, hb1, hz1⟩
  obtain ⟨p0, p1, _, _⟩ := two_cells k1
  have HO1 := hid ho1
  have HB1 := hid hb1
  have HZ1 := hid hz1
  have HB0 := hid (Nat.le_trans hB (Nat.le_of_lt hz1))
  clear k1 ho1 hb1 hz1 HO hB
  go_upto_region 7 with (fail)
  go_wp2_with (at_builtin; go_loud (refine wpList_append_1 (W := w1) rfl (.tmp 38) (.tmp 41) 138 rfl B 143 Try.underlying138 info_tree rfl (by omega) rfl HO1.out.own rfl rfl (by simp; rfl) (by unfold maxLen; omega) (by omega) HB0.out (Below.refl _ _) ?_))
  intro v' w2 ho2 hb2 hz2
  obtain ⟨A2, c2, rfl, _⟩ := Sl.of_own ho2
  have HJ2 : Hid (OwnT w2 B A2 c2 (ts ++ [.yes])) := hid (by
    unfold OwnT
    rw [tvs_append, List.length_append]
    exact ho2)
  have HB2 := hid (HB1.out.trans hb2)
  have HZ2 := hid (Nat.le_trans (Nat.le_of_lt HZ1.out) (Nat.le_of_lt hz2))
  clear ho2 hb2 hz2 p0 p1
  go_wp2
  go_ret2
  exact ⟨HB2.out, HZ2.out, A2, c2, by simp, HJ2.out⟩

set_option maxRecDepth 20000 in
set_option maxHeartbeats 2000000 in
theorem joined_none (B : Nat) (ts : List Nt) (A : Option Addr) (c : Nat) (op n : Int) (W : World) (h : OwnT W B A c ts) (hB : B ≤ W.heap.size) (hl : ts.length ≤ 100) (hj : joinT ts (op, n) = none) :
    Calls Try.prog 100 #[.slice A ts.length c, .agg #[.int .i64 op, .int .i64 n]] W (JoinR B (joinT ts (op, n)) W) := by
  have HJ := hid hj
  rw [HJ.out]
  have hc : ¬ (op = 2 ∧ 0 ≤ n ∧ n < 16) := fun h9 => by simp [joinT, h9] at hj
  by_cases hn : n = 0
  · subst hn
    have h1 : op ≠ 1 := fun h9 => by simp [joinT, h9] at hj
    have h3 : ¬ (op = 3 ∧ (1 : Int) ≤ (ts.length : Int)) := fun h9 => by
      have h8 : 1 ≤ ts.length := by omega
      obtain ⟨rfl, _⟩ := h9
      simp [joinT, h8] at hj
    have h4 : ¬ ((op = 4 ∨ op = 5) ∧ (2 : Int) ≤ (ts.length : Int)) := fun h9 => by
      have h8 : 2 ≤ ts.length := by omega
      obtain ⟨rfl | rfl, _⟩ := h9 <;> simp [joinT, h8] at hj
    have hl2 : (ts.length : Int) ≤ 100 := by omega
    have HO := hid h
    clear h HJ hj hl
    generalize hm : ts.length = m at *
    clear hm
    have hb1 : ∀ o, Below B W (W.alloc o) := fun o => (Below.refl _ _).alloc hB _
    have HBO := hid hb1
    clear hb1 hB HO
    go_enter Try.func100, Try.ntmps100
    go_wp2
    all_goals go_ret2
    all_goals exact ⟨HBO.out _, by simp, rfl⟩
  · have HO := hid h
    have hb1 : ∀ o, Below B W (W.alloc o) := fun o => (Below.refl _ _).alloc hB _
    have HBO := hid hb1
    clear h HJ hj hl hb1 hB HO
    generalize hm : ts.length = m at *
    clear hm
    go_enter Try.func100, Try.ntmps100
    go_wp2
    all_goals go_ret2
    all_goals exact ⟨HBO.out _, by simp, rfl⟩
set_option maxRecDepth 20000 in
set_option maxHeartbeats 4000000 in
theorem joined_not (B : Nat) (us : List Nt) (t : Nt) (m g c : Nat) (W : World) (hm : us.length = m) (h : W.ownsRow B 143 1 (.slice (some ⟨g, 0, none⟩) (m + 1) c) (m + 1) (tvs us ++ [tv t])) (hB : B ≤ W.heap.size) (hl : m ≤ 100) :
    Calls Try.prog 100 #[.slice (some ⟨g, 0, none⟩) (m + 1) c, .agg #[.int .i64 3, .int .i64 0]] W (JoinR B (some (us ++ [.not t])) W) := by
  have HO := hid h
  have HM := hid hm
  have hmc : m + 1 ≤ c := by
    rcases h.2 with ⟨h', _⟩ | ⟨g', cap', cur, h', _, _, hnc, _⟩
    · simp at h'
    · simp only [Value.slice.injEq] at h'; omega
  have hc9 : c ≤ 9223372036854775807 := by
    rcases h.2 with ⟨h', _⟩ | ⟨g', cap', cur, h', _, _, hnc, hcm, _⟩
    · simp at h'
    · simp only [Value.slice.injEq] at h'; unfold maxLen at hcm; omega
  clear h hm
  go_enter Try.func100, Try.ntmps100
  go_upto_region 1 with (fail)
  refine at_world (fun w => w.heap[W.heap.size]? = some (.cells #[.int .i64 3, .int .i64 0] 77 (0, 0)) ∧ w.ownsRow B 143 1 (.slice (some ⟨g, 0, none⟩) (m + 1) c) (m + 1) (tvs us ++ [tv t]) ∧ Below B W w ∧ W.heap.size < w.heap.size) ⟨heap_alloc_new _ _, own_keep HO.out ((Below.refl _ _).alloc (Nat.le_refl _) _), (Below.refl _ _).alloc hB _, by simp⟩ ?_
  rintro w1 ⟨k1, ho1, hb1, hz1⟩
  obtain ⟨p0, p1, _, _⟩ := two_cells k1
  have HO1 := hid ho1
  have HB1 := hid hb1
  have HZ1 := hid hz1
  have HB0 := hid (Nat.le_trans hB (Nat.le_of_lt hz1))
  have HT := hid (own_take1 ho1 m (by omega))
  rw [List.take_left' (by rw [tvs_len]; exact HM.out)] at HT
  have HC := hid (sl_own ho1)
  have q0 : w1.drew.cell? ⟨g, m, none⟩ = some (tv t) := by
    obtain ⟨b, off, ha, hc⟩ := HC.out.2.2.2 (by simp)
    simp only [Option.some.injEq, Addr.mk.injEq, and_true] at ha
    obtain ⟨rfl, rfl⟩ := ha
    have h9 := hc (m) (by simp [tvs_len, HM.out])
    rw [Nat.zero_add] at h9
    show w1.cell? _ = _
    rw [h9, List.getElem?_append_right (by rw [tvs_len, HM.out]; omega)]
    simp [tvs_len, HM.out]
  obtain ⟨T0, v0, ht⟩ := tv_iface t
  rw [ht] at q0
  have HE : Hid (tv (.not t) = .iface 221 (.agg #[.iface T0 v0])) := hid (by rw [tv, ht])
  clear ht
  clear k1 ho1 hb1 hz1 HO hB HC
  have ml : (m : Int) ≤ 100 := by omega
  have mc : ((m : Int) + 1) ≤ (c : Int) := by omega
  have hw0 : IntKind.i64.wrap (m : Int) = (m : Int) := by simp [IntKind.wrap, IntKind.bits, IntKind.signed]; omega
  have hi0 : (m : Int) < (m : Int) + 1 := by omega
  have hs3 : ∀ w : World, (Instr.slice 138 (.slice (some ⟨g, 0, none⟩) (m + 1) c) none (some (.int .i64 (m : Int))) none).run Try.prog w = .ok (.slice (some ⟨g, 0, none⟩) m c) w := run_to Try.underlying138 info_tree (some ⟨g, 0, none⟩) (m + 1) c m (by omega)
  go_upto_region 9 with (fail)
  refine wp_region_held_drew (S := fun U => True ∧ Below B w1 U) (by kernel_rfl) ⟨trivial, below_drew (Below.refl _ _)⟩ (fun hHeld => ?_)
  refine wpAnyH_take (i := 0) (v := ?_) rfl (by kernel_rfl) (by kernel_rfl) (by kernel_rfl) (fun _ _ _ h => h) (Or.inl ⟨by rfl, ?_⟩) (by assumption) ?_
  rotate_left
  focus
    intro U hU
    try dsimp only at hU
    go_simp
    try (with_reducible rfl)
  simp only [List.getElem_toArray, List.getElem_cons_succ, List.getElem_cons_zero, Act.put, List.setIfInBounds_toArray, List.set_cons_zero, List.set_cons_succ]
  refine wpAnyH_take (i := 1) (v := ?_) rfl (by kernel_rfl) (by kernel_rfl) (by kernel_rfl) (fun _ _ _ h => h) (Or.inl ⟨by rfl, ?_⟩) (by assumption) ?_
  rotate_left
  focus
    intro U hU
    try dsimp only at hU
    go_simp
    try (with_reducible rfl)
  simp only [List.getElem_toArray, List.getElem_cons_succ, List.getElem_cons_zero, Act.put, List.setIfInBounds_toArray, List.set_cons_zero, List.set_cons_succ]
  refine wpAnyH_take (i := 2) (v := ?_) rfl (by kernel_rfl) (by kernel_rfl) (by kernel_rfl) (fun _ _ _ h => h) (Or.inl ⟨by rfl, ?_⟩) (by assumption) ?_
  rotate_left
  focus
    intro U hU
    try dsimp only at hU
    go_simp
    try (with_reducible rfl)
  simp only [List.getElem_toArray, List.getElem_cons_succ, List.getElem_cons_zero, Act.put, List.setIfInBounds_toArray, List.set_cons_zero, List.set_cons_succ]
  refine wpAnyH_take (i := 3) (v := ?_) rfl (by kernel_rfl) (by kernel_rfl) (by kernel_rfl) (fun _ _ _ h => h) (Or.inl ⟨by rfl, ?_⟩) (by assumption) ?_
  rotate_left
  focus
    intro U hU
    try dsimp only at hU
    go_simp
    try (with_reducible rfl)
  simp only [List.getElem_toArray, List.getElem_cons_succ, List.getElem_cons_zero, Act.put, List.setIfInBounds_toArray, List.set_cons_zero, List.set_cons_succ]
  refine wpAnyH_take (i := 4) (v := ?_) rfl (by kernel_rfl) (by kernel_rfl) (by kernel_rfl) (fun _ _ _ h => h) (Or.inl ⟨by rfl, ?_⟩) (by assumption) ?_
  rotate_left
  focus
    intro U hU
    try dsimp only at hU
    go_simp
    try (with_reducible rfl)
  simp only [List.getElem_toArray, List.getElem_cons_succ, List.getElem_cons_zero, Act.put, List.setIfInBounds_toArray, List.set_cons_zero, List.set_cons_succ]
  refine wpAnyH_take (i := 5) (v := ?_) rfl (by kernel_rfl) (by kernel_rfl) (by kernel_rfl) (fun _ _ _ h => h) (Or.inl ⟨by rfl, ?_⟩) (by assumption) ?_
  rotate_left
  focus
    intro U hU
    try dsimp only at hU
    go_simp
    try (with_reducible rfl)
  simp only [List.getElem_toArray, List.getElem_cons_succ, List.getElem_cons_zero, Act.put, List.setIfInBounds_toArray, List.set_cons_zero, List.set_cons_succ]
  refine wpAnyH_take (i := 6) (v := ?_) rfl (by kernel_rfl) (by kernel_rfl) (by kernel_rfl) (fun _ _ _ h => h) (Or.inl ⟨by rfl, ?_⟩) (by assumption) ?_
  rotate_left
  focus
    intro U hU
    try dsimp only at hU
    go_simp
    try (with_reducible rfl)
  simp only [List.getElem_toArray, List.getElem_cons_succ, List.getElem_cons_zero, Act.put, List.setIfInBounds_toArray, List.set_cons_zero, List.set_cons_succ]
  refine wpAnyH_take (i := 7) (v := ?_) rfl (by kernel_rfl) (by kernel_rfl) (by kernel_rfl) (fun _ _ _ h => h) (Or.inl ⟨by rfl, ?_⟩) (by assumption) ?_
  rotate_left
  focus
    intro U hU
    try dsimp only at hU
    go_simp
    try (with_reducible rfl)
  simp only [List.getElem_toArray, List.getElem_cons_succ, List.getElem_cons_zero, Act.put, List.setIfInBounds_toArray, List.set_cons_zero, List.set_cons_succ]
  refine wpAnyH_ready (rs := [8]) (by kernel_rfl) (by simp) ?_
  refine AllReadyH.cons rfl (fun K hK => ?_) AllReadyH.nil
  simp only [List.getElem_toArray, List.getElem_cons_succ, List.getElem_cons_zero]
  go_simp
  refine hK.out _ _ ?_ (fun hHeld2 => ?_)
  focus
    exact hHeld
  clear hHeld
  have hHeld := hHeld2
  clear hHeld2 hK K
  try simp only [List.getElem_toArray, List.getElem_cons_succ, List.getElem_cons_zero, Act.put, List.setIfInBounds_toArray, List.set_cons_zero, List.set_cons_succ]
  refine wpAnyH_take (i := 9) (v := ?_) rfl (by kernel_rfl) (by kernel_rfl) (by kernel_rfl) (fun _ _ _ h => h) (Or.inl ⟨by rfl, ?_⟩) (by assumption) ?_
  rotate_left
  focus
    intro U hU
    try dsimp only at hU
    go_simp
    try (with_reducible rfl)
  simp only [List.getElem_toArray, List.getElem_cons_succ, List.getElem_cons_zero, Act.put, List.setIfInBounds_toArray, List.set_cons_zero, List.set_cons_succ]
  refine wpAnyH_take (i := 10) (v := ?_) rfl (by kernel_rfl) (by kernel_rfl) (by kernel_rfl) (fun _ _ _ h => h) (Or.inl ⟨by rfl, ?_⟩) (by assumption) ?_
  rotate_left
  focus
    intro U hU
    try dsimp only at hU
    go_simp
    try (with_reducible rfl)
  simp only [List.getElem_toArray, List.getElem_cons_succ, List.getElem_cons_zero, Act.put, List.setIfInBounds_toArray, List.set_cons_zero, List.set_cons_succ]
  refine wpAnyH_ready (rs := [11]) (by kernel_rfl) (by simp) ?_
  refine AllReadyH.cons rfl (fun K hK => ?_) AllReadyH.nil
  simp only [List.getElem_toArray, List.getElem_cons_succ, List.getElem_cons_zero]
  go_simp
  refine hK.out _ _ ?_ (fun hHeld2 => ?_)
  focus
    exact ⟨trivial, (And.right hHeld).alloc HB0.out _⟩
  clear hHeld
  have hHeld := hHeld2
  clear hHeld2 hK K
  try simp only [List.getElem_toArray, List.getElem_cons_succ, List.getElem_cons_zero, Act.put, List.setIfInBounds_toArray, List.set_cons_zero, List.set_cons_succ]
  have HN : Hid (Sl (w1.drew.alloc (.cells #[.iface 221 (.agg #[.iface T0 v0])] 143)) 1 (some ⟨w1.heap.size, 0, none⟩) 1 1 [.iface 221 (.agg #[.iface T0 v0])]) := hid (sl_new1 _ rfl)
  have HT2 : Hid ((w1.drew.alloc (.cells #[.iface 221 (.agg #[.iface T0 v0])] 143)).ownsRow B 143 1 (.slice (some ⟨g, 0, none⟩) m c) m (tvs us)) := hid (own_keep HT.out (below_drew (Below.refl _ _) |>.alloc (Nat.le_refl _) _))
  have HB2 : Hid (B ≤ (w1.drew.alloc (.cells #[.iface 221 (.agg #[.iface T0 v0])] 143)).heap.size) := hid (Nat.le_trans HB0.out (by simp))
  refine wpAnyH_ready (rs := [12]) (by kernel_rfl) (by simp) ?_
  refine AllReadyH.cons rfl (fun K hK => ?_) AllReadyH.nil
  refine step_append_sl rfl (.tmp 54) (.tmp 62) 138 rfl B 143 Try.underlying138 info_tree rfl (by omega) rfl HT2.out rfl HN.out (by simp; rfl) (by unfold maxLen; omega) (by omega) HB2.out ?_
  intro v5 w5 ho5 hb5 hsz5 hk5
  simp only [List.getElem_toArray, List.getElem_cons_succ, List.getElem_cons_zero]
  refine hK.out _ _ ?_ (fun hHeld2 => ?_)
  focus
    exact ⟨trivial, (And.right hHeld).trans hb5⟩
  clear hHeld
  have hHeld := hHeld2
  clear hHeld2 hK K
  try simp only [List.getElem_toArray, List.getElem_cons_succ, List.getElem_cons_zero, Act.put, List.setIfInBounds_toArray, List.set_cons_zero, List.set_cons_succ]
  refine wpAnyH_take (i := 13) (v := ?_) rfl (by kernel_rfl) (by kernel_rfl) (by kernel_rfl) (fun _ _ _ h => h) (Or.inl ⟨by rfl, ?_⟩) (by assumption) ?_
  rotate_left
  focus
    intro U hU
    try dsimp only at hU
    go_simp
    try (with_reducible rfl)
  simp only [List.getElem_toArray, List.getElem_cons_succ, List.getElem_cons_zero, Act.put, List.setIfInBounds_toArray, List.set_cons_zero, List.set_cons_succ]
  refine wpAnyH_take (i := 14) (v := ?_) rfl (by kernel_rfl) (by kernel_rfl) (by kernel_rfl) (fun _ _ _ h => h) (Or.inl ⟨by rfl, ?_⟩) (by assumption) ?_
  rotate_left
  focus
    intro U hU
    try dsimp only at hU
    go_simp
    try (with_reducible rfl)
  simp only [List.getElem_toArray, List.getElem_cons_succ, List.getElem_cons_zero, Act.put, List.setIfInBounds_toArray, List.set_cons_zero, List.set_cons_succ]
  obtain ⟨A5, c5, rfl, _⟩ := Sl.of_own ho5
  have HF := hid (HB1.out.trans (And.right hHeld))
  have HZ5 := hid (Nat.le_trans (Nat.le_of_lt HZ1.out) (And.right hHeld).size)
  have HO5 : Hid (OwnT w5 B A5 c5 (us ++ [.not t])) := hid (by
    unfold OwnT
    rw [tvs_append, List.length_append, HM.out]
    show w5.ownsRow B _ 1 _ _ (tvs us ++ [tv (.not t)])
    rw [HE.out]
    exact ho5)
  clear ho5 hb5 hsz5 hk5
  refine wpAnyH_done (by kernel_rfl) ?_ _
  clear hHeld
  go_wp2_with fail
  go_ret2
  exact ⟨HF.out, HZ5.out, A5, c5, by rw [List.length_append, HM.out]; rfl, HO5.out⟩
set_option maxRecDepth 20000 in
set_option maxHeartbeats 4000000 in
theorem joined_pair4 (B : Nat) (us : List Nt) (t t2 : Nt) (m g c : Nat) (W : World) (hm : us.length = m) (h : W.ownsRow B 143 1 (.slice (some ⟨g, 0, none⟩) (m + 2) c) (m + 2) (tvs us ++ [tv t, tv t2])) (hB : B ≤ W.heap.size) (hl : m ≤ 100) :
    Calls Try.prog 100 #[.slice (some ⟨g, 0, none⟩) (m + 2) c, .agg #[.int .i64 4, .int .i64 0]] W (JoinR B (some (us ++ [.pair 4 t t2])) W) := by
  have HO := hid h
  have HM := hid hm
  have hmc : m + 2 ≤ c := by
    rcases h.2 with ⟨h', _⟩ | ⟨g', cap', cur, h', _, _, hnc, _⟩
    · simp at h'
    · simp only [Value.slice.injEq] at h'; omega
  have hc9 : c ≤ 9223372036854775807 := by
    rcases h.2 with ⟨h', _⟩ | ⟨g', cap', cur, h', _, _, hnc, hcm, _⟩
    · simp at h'
    · simp only [Value.slice.injEq] at h'; unfold maxLen at hcm; omega
  clear h hm
  go_enter Try.func100, Try.ntmps100
  go_upto_region 1 with (fail)
  refine at_world (fun w => w.heap[W.heap.size]? = some (.cells #[.int .i64 4, .int .i64 0] 77 (0, 0)) ∧ w.ownsRow B 143 1 (.slice (some ⟨g, 0, none⟩) (m + 2) c) (m + 2) (tvs us ++ [tv t, tv t2]) ∧ Below B W w ∧ W.heap.size < w.heap.size) ⟨heap_alloc_new _ _, own_keep HO.out ((Below.refl _ _).alloc (Nat.le_refl _) _), (Below.refl _ _).alloc hB _, by simp⟩ ?_
  rintro w1 ⟨k1, ho1, hb1, hz1⟩
  obtain ⟨p0, p1, _, _⟩ := two_cells k1
  have HO1 := hid ho1
  have HB1 := hid hb1
  have HZ1 := hid hz1
  have HB0 := hid (Nat.le_trans hB (Nat.le_of_lt hz1))
  have HT := hid (own_take1 ho1 m (by omega))
  rw [List.take_left' (by rw [tvs_len]; exact HM.out)] at HT
  have HC := hid (sl_own ho1)
  have q0 : w1.drew.cell? ⟨g, m, none⟩ = some (tv t) := by
    obtain ⟨b, off, ha, hc⟩ := HC.out.2.2.2 (by simp)
    simp only [Option.some.injEq, Addr.mk.injEq, and_true] at ha
    obtain ⟨rfl, rfl⟩ := ha
    have h9 := hc (m) (by simp [tvs_len, HM.out])
    rw [Nat.zero_add] at h9
    show w1.cell? _ = _
    rw [h9, List.getElem?_append_right (by rw [tvs_len, HM.out]; omega)]
    simp [tvs_len, HM.out]
  have q1 : w1.drew.cell? ⟨g, m + 1, none⟩ = some (tv t2) := by
    obtain ⟨b, off, ha, hc⟩ := HC.out.2.2.2 (by simp)
    simp only [Option.some.injEq, Addr.mk.injEq, and_true] at ha
    obtain ⟨rfl, rfl⟩ := ha
    have h9 := hc (m + 1) (by simp [tvs_len, HM.out])
    rw [Nat.zero_add] at h9
    show w1.cell? _ = _
    rw [h9, List.getElem?_append_right (by rw [tvs_len, HM.out]; omega)]
    simp [tvs_len, HM.out]
  obtain ⟨T0, v0, ht⟩ := tv_iface t
  rw [ht] at q0
  obtain ⟨T1, v1, ht2⟩ := tv_iface t2
  rw [ht2] at q1
  have HE : Hid (tv (.pair 4 t t2) = .iface 223 (.agg #[.int .i64 4, .iface T0 v0, .iface T1 v1])) := hid (by rw [tv, ht, ht2])
  clear ht2
  clear ht
  clear k1 ho1 hb1 hz1 HO hB HC
  have ml : (m : Int) ≤ 100 := by omega
  have mc : ((m : Int) + 2) ≤ (c : Int) := by omega
  have hw0 : IntKind.i64.wrap (m : Int) = (m : Int) := by simp [IntKind.wrap, IntKind.bits, IntKind.signed]; omega
  have hw1 : IntKind.i64.wrap ((m : Int) + 2 - 1) = (m : Int) + 1 := by simp [IntKind.wrap, IntKind.bits, IntKind.signed]; omega
  have ht1 : ((m : Int) + 1).toNat = m + 1 := by omega
  have h01 : (0 : Int) ≤ (m : Int) + 1 := by omega
  have hi0 : (m : Int) < (m : Int) + 2 := by omega
  have hi1 : (m : Int) + 1 < (m : Int) + 2 := by omega
  have hs3 : ∀ w : World, (Instr.slice 138 (.slice (some ⟨g, 0, none⟩) (m + 2) c) none (some (.int .i64 (m : Int))) none).run Try.prog w = .ok (.slice (some ⟨g, 0, none⟩) m c) w := run_to Try.underlying138 info_tree (some ⟨g, 0, none⟩) (m + 2) c m (by omega)
  go_upto_region 11 with (fail)
  refine wp_region_held_drew (S := fun U => True ∧ Below B w1 U) (by kernel_rfl) ⟨trivial, below_drew (Below.refl _ _)⟩ (fun hHeld => ?_)
  refine wpAnyH_take (i := 0) (v := ?_) rfl (by kernel_rfl) (by kernel_rfl) (by kernel_rfl) (fun _ _ _ h => h) (Or.inl ⟨by rfl, ?_⟩) (by assumption) ?_
  rotate_left
  focus
    intro U hU
    try dsimp only at hU
    go_simp
    try (with_reducible rfl)
  simp only [List.getElem_toArray, List.getElem_cons_succ, List.getElem_cons_zero, Act.put, List.setIfInBounds_toArray, List.set_cons_zero, List.set_cons_succ]
  refine wpAnyH_take (i := 1) (v := ?_) rfl (by kernel_rfl) (by kernel_rfl) (by kernel_rfl) (fun _ _ _ h => h) (Or.inl ⟨by rfl, ?_⟩) (by assumption) ?_
  rotate_left
  focus
    intro U hU
    try dsimp only at hU
    go_simp
    try (with_reducible rfl)
  simp only [List.getElem_toArray, List.getElem_cons_succ, List.getElem_cons_zero, Act.put, List.setIfInBounds_toArray, List.set_cons_zero, List.set_cons_succ]
  refine wpAnyH_take (i := 2) (v := ?_) rfl (by kernel_rfl) (by kernel_rfl) (by kernel_rfl) (fun _ _ _ h => h) (Or.inl ⟨by rfl, ?_⟩) (by assumption) ?_
  rotate_left
  focus
    intro U hU
    try dsimp only at hU
    go_simp
    try (with_reducible rfl)
  simp only [List.getElem_toArray, List.getElem_cons_succ, List.getElem_cons_zero, Act.put, List.setIfInBounds_toArray, List.set_cons_zero, List.set_cons_succ]
  refine wpAnyH_take (i := 3) (v := ?_) rfl (by kernel_rfl) (by kernel_rfl) (by kernel_rfl) (fun _ _ _ h => h) (Or.inl ⟨by rfl, ?_⟩) (by assumption) ?_
  rotate_left
  focus
    intro U hU
    try dsimp only at hU
    go_simp
    try (with_reducible rfl)
  simp only [List.getElem_toArray, List.getElem_cons_succ, List.getElem_cons_zero, Act.put, List.setIfInBounds_toArray, List.set_cons_zero, List.set_cons_succ]
  refine wpAnyH_take (i := 4) (v := ?_) rfl (by kernel_rfl) (by kernel_rfl) (by kernel_rfl) (fun _ _ _ h => h) (Or.inl ⟨by rfl, ?_⟩) (by assumption) ?_
  rotate_left
  focus
    intro U hU
    try dsimp only at hU
    go_simp
    try (with_reducible rfl)
  simp only [List.getElem_toArray, List.getElem_cons_succ, List.getElem_cons_zero, Act.put, List.setIfInBounds_toArray, List.set_cons_zero, List.set_cons_succ]
  refine wpAnyH_take (i := 6) (v := ?_) rfl (by kernel_rfl) (by kernel_rfl) (by kernel_rfl) (fun _ _ _ h => h) (Or.inl ⟨by rfl, ?_⟩) (by assumption) ?_
  rotate_left
  focus
    intro U hU
    try dsimp only at hU
    go_simp
    try (with_reducible rfl)
  simp only [List.getElem_toArray, List.getElem_cons_succ, List.getElem_cons_zero, Act.put, List.setIfInBounds_toArray, List.set_cons_zero, List.set_cons_succ]
  refine wpAnyH_take (i := 7) (v := ?_) rfl (by kernel_rfl) (by kernel_rfl) (by kernel_rfl) (fun _ _ _ h => h) (Or.inl ⟨by rfl, ?_⟩) (by assumption) ?_
  rotate_left
  focus
    intro U hU
    try dsimp only at hU
    go_simp
    try (with_reducible rfl)
  simp only [List.getElem_toArray, List.getElem_cons_succ, List.getElem_cons_zero, Act.put, List.setIfInBounds_toArray, List.set_cons_zero, List.set_cons_succ]
  refine wpAnyH_take (i := 8) (v := ?_) rfl (by kernel_rfl) (by kernel_rfl) (by kernel_rfl) (fun _ _ _ h => h) (Or.inl ⟨by rfl, ?_⟩) (by assumption) ?_
  rotate_left
  focus
    intro U hU
    try dsimp only at hU
    go_simp
    try (with_reducible rfl)
  simp only [List.getElem_toArray, List.getElem_cons_succ, List.getElem_cons_zero, Act.put, List.setIfInBounds_toArray, List.set_cons_zero, List.set_cons_succ]
  refine wpAnyH_take (i := 9) (v := ?_) rfl (by kernel_rfl) (by kernel_rfl) (by kernel_rfl) (fun _ _ _ h => h) (Or.inl ⟨by rfl, ?_⟩) (by assumption) ?_
  rotate_left
  focus
    intro U hU
    try dsimp only at hU
    go_simp
    try (with_reducible rfl)
  simp only [List.getElem_toArray, List.getElem_cons_succ, List.getElem_cons_zero, Act.put, List.setIfInBounds_toArray, List.set_cons_zero, List.set_cons_succ]
  refine wpAnyH_take (i := 11) (v := ?_) rfl (by kernel_rfl) (by kernel_rfl) (by kernel_rfl) (fun _ _ _ h => h) (Or.inl ⟨by rfl, ?_⟩) (by assumption) ?_
  rotate_left
  focus
    intro U hU
    try dsimp only at hU
    go_simp
    try (with_reducible rfl)
  simp only [List.getElem_toArray, List.getElem_cons_succ, List.getElem_cons_zero, Act.put, List.setIfInBounds_toArray, List.set_cons_zero, List.set_cons_succ]
  refine wpAnyH_take (i := 12) (v := ?_) rfl (by kernel_rfl) (by kernel_rfl) (by kernel_rfl) (fun _ _ _ h => h) (Or.inl ⟨by rfl, ?_⟩) (by assumption) ?_
  rotate_left
  focus
    intro U hU
    try dsimp only at hU
    go_simp
    try (with_reducible rfl)
  simp only [List.getElem_toArray, List.getElem_cons_succ, List.getElem_cons_zero, Act.put, List.setIfInBounds_toArray, List.set_cons_zero, List.set_cons_succ]
  refine wpAnyH_take (i := 13) (v := ?_) rfl (by kernel_rfl) (by kernel_rfl) (by kernel_rfl) (fun _ _ _ h => h) (Or.inl ⟨by rfl, ?_⟩) (by assumption) ?_
  rotate_left
  focus
    intro U hU
    try dsimp only at hU
    go_simp
    try (with_reducible rfl)
  simp only [List.getElem_toArray, List.getElem_cons_succ, List.getElem_cons_zero, Act.put, List.setIfInBounds_toArray, List.set_cons_zero, List.set_cons_succ]
  refine wpAnyH_take (i := 14) (v := ?_) rfl (by kernel_rfl) (by kernel_rfl) (by kernel_rfl) (fun _ _ _ h => h) (Or.inl ⟨by rfl, ?_⟩) (by assumption) ?_
  rotate_left
  focus
    intro U hU
    try dsimp only at hU
    go_simp
    try (with_reducible rfl)
  simp only [List.getElem_toArray, List.getElem_cons_succ, List.getElem_cons_zero, Act.put, List.setIfInBounds_toArray, List.set_cons_zero, List.set_cons_succ]
  refine wpAnyH_ready (rs := [5, 10, 15]) (by kernel_rfl) (by simp) ?_
  refine (AllReadyH.cons rfl (fun K hK => ?_) (AllReadyH.cons rfl (fun K hK => ?_) (AllReadyH.cons rfl (fun K hK => ?_) AllReadyH.nil)))
  · skip
    simp only [List.getElem_toArray, List.getElem_cons_succ, List.getElem_cons_zero]
    go_simp
    refine hK.out _ _ ?_ (fun hHeld2 => ?_)
    focus
      exact hHeld
    clear hHeld
    have hHeld := hHeld2
    clear hHeld2 hK K
    try simp only [List.getElem_toArray, List.getElem_cons_succ, List.getElem_cons_zero, Act.put, List.setIfInBounds_toArray, List.set_cons_zero, List.set_cons_succ]
    refine wpAnyH_ready (rs := [10, 15]) (by kernel_rfl) (by simp) ?_
    refine (AllReadyH.cons rfl (fun K hK => ?_) (AllReadyH.cons rfl (fun K hK => ?_) AllReadyH.nil))
    · skip
      simp only [List.getElem_toArray, List.getElem_cons_succ, List.getElem_cons_zero]
      go_simp
      refine hK.out _ _ ?_ (fun hHeld2 => ?_)
      focus
        exact hHeld
      clear hHeld
      have hHeld := hHeld2
      clear hHeld2 hK K
      try simp only [List.getElem_toArray, List.getElem_cons_succ, List.getElem_cons_zero, Act.put, List.setIfInBounds_toArray, List.set_cons_zero, List.set_cons_succ]
      refine wpAnyH_ready (rs := [15]) (by kernel_rfl) (by simp) ?_
      refine (AllReadyH.cons rfl (fun K hK => ?_) AllReadyH.nil)
      simp only [List.getElem_toArray, List.getElem_cons_succ, List.getElem_cons_zero]
      go_simp
      refine hK.out _ _ ?_ (fun hHeld2 => ?_)
      focus
        exact hHeld
      clear hHeld
      have hHeld := hHeld2
      clear hHeld2 hK K
      try simp only [List.getElem_toArray, List.getElem_cons_succ, List.getElem_cons_zero, Act.put, List.setIfInBounds_toArray, List.set_cons_zero, List.set_cons_succ]
      refine wpAnyH_take (i := 16) (v := ?_) rfl (by kernel_rfl) (by kernel_rfl) (by kernel_rfl) (fun _ _ _ h => h) (Or.inl ⟨by rfl, ?_⟩) (by assumption) ?_
      rotate_left
      focus
        intro U hU
        try dsimp only at hU
        go_simp
        try (with_reducible rfl)
      simp only [List.getElem_toArray, List.getElem_cons_succ, List.getElem_cons_zero, Act.put, List.setIfInBounds_toArray, List.set_cons_zero, List.set_cons_succ]
      refine wpAnyH_take (i := 17) (v := ?_) rfl (by kernel_rfl) (by kernel_rfl) (by kernel_rfl) (fun _ _ _ h => h) (Or.inl ⟨by rfl, ?_⟩) (by assumption) ?_
      rotate_left
      focus
        intro U hU
        try dsimp only at hU
        go_simp
        try (with_reducible rfl)
      simp only [List.getElem_toArray, List.getElem_cons_succ, List.getElem_cons_zero, Act.put, List.setIfInBounds_toArray, List.set_cons_zero, List.set_cons_succ]
      refine wpAnyH_ready (rs := [18]) (by kernel_rfl) (by simp) ?_
      refine AllReadyH.cons rfl (fun K hK => ?_) AllReadyH.nil
      simp only [List.getElem_toArray, List.getElem_cons_succ, List.getElem_cons_zero]
      go_simp
      refine hK.out _ _ ?_ (fun hHeld2 => ?_)
      focus
        exact ⟨True.intro, (And.right hHeld).alloc HB0.out _⟩
      clear hHeld
      have hHeld := hHeld2
      clear hHeld2 hK K
      try simp only [List.getElem_toArray, List.getElem_cons_succ, List.getElem_cons_zero, Act.put, List.setIfInBounds_toArray, List.set_cons_zero, List.set_cons_succ]
      have HN : Hid (Sl (w1.drew.alloc (.cells #[.iface 223 (.agg #[.int .i64 4, .iface T0 v0, .iface T1 v1])] 143)) 1 (some ⟨w1.heap.size, 0, none⟩) 1 1 [.iface 223 (.agg #[.int .i64 4, .iface T0 v0, .iface T1 v1])]) := hid (sl_new1 _ rfl)
      have HT2 : Hid ((w1.drew.alloc (.cells #[.iface 223 (.agg #[.int .i64 4, .iface T0 v0, .iface T1 v1])] 143)).ownsRow B 143 1 (.slice (some ⟨g, 0, none⟩) m c) m (tvs us)) := hid (own_keep HT.out (below_drew (Below.refl _ _) |>.alloc (Nat.le_refl _) _))
      have HB2 : Hid (B ≤ (w1.drew.alloc (.cells #[.iface 223 (.agg #[.int .i64 4, .iface T0 v0, .iface T1 v1])] 143)).heap.size) := hid (Nat.le_trans HB0.out (by simp))
      refine wpAnyH_ready (rs := [19]) (by kernel_rfl) (by simp) ?_
      refine AllReadyH.cons rfl (fun K hK => ?_) AllReadyH.nil
      refine step_append_sl rfl (.tmp 80) (.tmp 95) 138 rfl B 143 Try.underlying138 info_tree rfl (by omega) rfl HT2.out rfl HN.out (by simp; rfl) (by unfold maxLen; omega) (by omega) HB2.out ?_
      intro v5 w5 ho5 hb5 hsz5 hk5
      simp only [List.getElem_toArray, List.getElem_cons_succ, List.getElem_cons_zero]
      refine hK.out _ _ ?_ (fun hHeld2 => ?_)
      focus
        exact ⟨True.intro, (And.right hHeld).trans hb5⟩
      clear hHeld
      have hHeld := hHeld2
      clear hHeld2 hK K
      try simp only [List.getElem_toArray, List.getElem_cons_succ, List.getElem_cons_zero, Act.put, List.setIfInBounds_toArray, List.set_cons_zero, List.set_cons_succ]
      refine wpAnyH_take (i := 20) (v := ?_) rfl (by kernel_rfl) (by kernel_rfl) (by kernel_rfl) (fun _ _ _ h => h) (Or.inl ⟨by rfl, ?_⟩) (by assumption) ?_
      rotate_left
      focus
        intro U hU
        try dsimp only at hU
        go_simp
        try (with_reducible rfl)
      simp only [List.getElem_toArray, List.getElem_cons_succ, List.getElem_cons_zero, Act.put, List.setIfInBounds_toArray, List.set_cons_zero, List.set_cons_succ]
      refine wpAnyH_take (i := 21) (v := ?_) rfl (by kernel_rfl) (by kernel_rfl) (by kernel_rfl) (fun _ _ _ h => h) (Or.inl ⟨by rfl, ?_⟩) (by assumption) ?_
      rotate_left
      focus
        intro U hU
        try dsimp only at hU
        go_simp
        try (with_reducible rfl)
      simp only [List.getElem_toArray, List.getElem_cons_succ, List.getElem_cons_zero, Act.put, List.setIfInBounds_toArray, List.set_cons_zero, List.set_cons_succ]
      obtain ⟨A5, c5, rfl, _⟩ := Sl.of_own ho5
      have HF := hid (HB1.out.trans (And.right hHeld))
      have HZ5 := hid (Nat.le_trans (Nat.le_of_lt HZ1.out) (And.right hHeld).size)
      have HO5 : Hid (OwnT w5 B A5 c5 (us ++ [.pair 4 t t2])) := hid (by
        unfold OwnT
        rw [tvs_append, List.length_append, HM.out]
        show w5.ownsRow B _ 1 _ _ (tvs us ++ [tv (.pair 4 t t2)])
        rw [HE.out]
        exact ho5)
      clear ho5 hb5 hsz5 hk5
      refine wpAnyH_done (by kernel_rfl) ?_ _
      clear hHeld
      go_wp2_with fail
      go_ret2
      exact ⟨HF.out, HZ5.out, A5, c5, by rw [List.length_append, HM.out]; rfl, HO5.out⟩
    · skip
      simp only [List.getElem_toArray, List.getElem_cons_succ, List.getElem_cons_zero]
      go_simp
      refine hK.out _ _ ?_ (fun hHeld2 => ?_)
      focus
        exact hHeld
      clear hHeld
      have hHeld := hHeld2
      clear hHeld2 hK K
      try simp only [List.getElem_toArray, List.getElem_cons_succ, List.getElem_cons_zero, Act.put, List.setIfInBounds_toArray, List.set_cons_zero, List.set_cons_succ]
      refine wpAnyH_ready (rs := [10]) (by kernel_rfl) (by simp) ?_
      refine (AllReadyH.cons rfl (fun K hK => ?_) AllReadyH.nil)
      simp only [List.getElem_toArray, List.getElem_cons_succ, List.getElem_cons_zero]
      go_simp
      refine hK.out _ _ ?_ (fun hHeld2 => ?_)
      focus
        exact hHeld
      clear hHeld
      have hHeld := hHeld2
      clear hHeld2 hK K
      try simp only [List.getElem_toArray, List.getElem_cons_succ, List.getElem_cons_zero, Act.put, List.setIfInBounds_toArray, List.set_cons_zero, List.set_cons_succ]
      refine wpAnyH_take (i := 16) (v := ?_) rfl (by kernel_rfl) (by kernel_rfl) (by kernel_rfl) (fun _ _ _ h => h) (Or.inl ⟨by rfl, ?_⟩) (by assumption) ?_
      rotate_left
      focus
        intro U hU
        try dsimp only at hU
        go_simp
        try (with_reducible rfl)
      simp only [List.getElem_toArray, List.getElem_cons_succ, List.getElem_cons_zero, Act.put, List.setIfInBounds_toArray, List.set_cons_zero, List.set_cons_succ]
      refine wpAnyH_take (i := 17) (v := ?_) rfl (by kernel_rfl) (by kernel_rfl) (by kernel_rfl) (fun _ _ _ h => h) (Or.inl ⟨by rfl, ?_⟩) (by assumption) ?_
      rotate_left
      focus
        intro U hU
        try dsimp only at hU
        go_simp
        try (with_reducible rfl)
      simp only [List.getElem_toArray, List.getElem_cons_succ, List.getElem_cons_zero, Act.put, List.setIfInBounds_toArray, List.set_cons_zero, List.set_cons_succ]
      refine wpAnyH_ready (rs := [18]) (by kernel_rfl) (by simp) ?_
      refine AllReadyH.cons rfl (fun K hK => ?_) AllReadyH.nil
      simp only [List.getElem_toArray, List.getElem_cons_succ, List.getElem_cons_zero]
      go_simp
      refine hK.out _ _ ?_ (fun hHeld2 => ?_)
      focus
        exact ⟨True.intro, (And.right hHeld).alloc HB0.out _⟩
      clear hHeld
      have hHeld := hHeld2
      clear hHeld2 hK K
      try simp only [List.getElem_toArray, List.getElem_cons_succ, List.getElem_cons_zero, Act.put, List.setIfInBounds_toArray, List.set_cons_zero, List.set_cons_succ]
      have HN : Hid (Sl (w1.drew.alloc (.cells #[.iface 223 (.agg #[.int .i64 4, .iface T0 v0, .iface T1 v1])] 143)) 1 (some ⟨w1.heap.size, 0, none⟩) 1 1 [.iface 223 (.agg #[.int .i64 4, .iface T0 v0, .iface T1 v1])]) := hid (sl_new1 _ rfl)
      have HT2 : Hid ((w1.drew.alloc (.cells #[.iface 223 (.agg #[.int .i64 4, .iface T0 v0, .iface T1 v1])] 143)).ownsRow B 143 1 (.slice (some ⟨g, 0, none⟩) m c) m (tvs us)) := hid (own_keep HT.out (below_drew (Below.refl _ _) |>.alloc (Nat.le_refl _) _))
      have HB2 : Hid (B ≤ (w1.drew.alloc (.cells #[.iface 223 (.agg #[.int .i64 4, .iface T0 v0, .iface T1 v1])] 143)).heap.size) := hid (Nat.le_trans HB0.out (by simp))
      refine wpAnyH_ready (rs := [19]) (by kernel_rfl) (by simp) ?_
      refine AllReadyH.cons rfl (fun K hK => ?_) AllReadyH.nil
      refine step_append_sl rfl (.tmp 80) (.tmp 95) 138 rfl B 143 Try.underlying138 info_tree rfl (by omega) rfl HT2.out rfl HN.out (by simp; rfl) (by unfold maxLen; omega) (by omega) HB2.out ?_
      intro v5 w5 ho5 hb5 hsz5 hk5
      simp only [List.getElem_toArray, List.getElem_cons_succ, List.getElem_cons_zero]
      refine hK.out _ _ ?_ (fun hHeld2 => ?_)
      focus
        exact ⟨True.intro, (And.right hHeld).trans hb5⟩
      clear hHeld
      have hHeld := hHeld2
      clear hHeld2 hK K
      try simp only [List.getElem_toArray, List.getElem_cons_succ, List.getElem_cons_zero, Act.put, List.setIfInBounds_toArray, List.set_cons_zero, List.set_cons_succ]
      refine wpAnyH_take (i := 20) (v := ?_) rfl (by kernel_rfl) (by kernel_rfl) (by kernel_rfl) (fun _ _ _ h => h) (Or.inl ⟨by rfl, ?_⟩) (by assumption) ?_
      rotate_left
      focus
        intro U hU
        try dsimp only at hU
        go_simp
        try (with_reducible rfl)
      simp only [List.getElem_toArray, List.getElem_cons_succ, List.getElem_cons_zero, Act.put, List.setIfInBounds_toArray, List.set_cons_zero, List.set_cons_succ]
      refine wpAnyH_take (i := 21) (v := ?_) rfl (by kernel_rfl) (by kernel_rfl) (by kernel_rfl) (fun _ _ _ h => h) (Or.inl ⟨by rfl, ?_⟩) (by assumption) ?_
      rotate_left
      focus
        intro U hU
        try dsimp only at hU
        go_simp
        try (with_reducible rfl)
      simp only [List.getElem_toArray, List.getElem_cons_succ, List.getElem_cons_zero, Act.put, List.setIfInBounds_toArray, List.set_cons_zero, List.set_cons_succ]
      obtain ⟨A5, c5, rfl, _⟩ := Sl.of_own ho5
      have HF := hid (HB1.out.trans (And.right hHeld))
      have HZ5 := hid (Nat.le_trans (Nat.le_of_lt HZ1.out) (And.right hHeld).size)
      have HO5 : Hid (OwnT w5 B A5 c5 (us ++ [.pair 4 t t2])) := hid (by
        unfold OwnT
        rw [tvs_append, List.length_append, HM.out]
        show w5.ownsRow B _ 1 _ _ (tvs us ++ [tv (.pair 4 t t2)])
        rw [HE.out]
        exact ho5)
      clear ho5 hb5 hsz5 hk5
      refine wpAnyH_done (by kernel_rfl) ?_ _
      clear hHeld
      go_wp2_with fail
      go_ret2
      exact ⟨HF.out, HZ5.out, A5, c5, by rw [List.length_append, HM.out]; rfl, HO5.out⟩
  · skip
    simp only [List.getElem_toArray, List.getElem_cons_succ, List.getElem_cons_zero]
    go_simp
    refine hK.out _ _ ?_ (fun hHeld2 => ?_)
    focus
      exact hHeld
    clear hHeld
    have hHeld := hHeld2
    clear hHeld2 hK K
    try simp only [List.getElem_toArray, List.getElem_cons_succ, List.getElem_cons_zero, Act.put, List.setIfInBounds_toArray, List.set_cons_zero, List.set_cons_succ]
    refine wpAnyH_ready (rs := [5, 15]) (by kernel_rfl) (by simp) ?_
    refine (AllReadyH.cons rfl (fun K hK => ?_) (AllReadyH.cons rfl (fun K hK => ?_) AllReadyH.nil))
    · skip
      simp only [List.getElem_toArray, List.getElem_cons_succ, List.getElem_cons_zero]
      go_simp
      refine hK.out _ _ ?_ (fun hHeld2 => ?_)
      focus
        exact hHeld
      clear hHeld
      have hHeld := hHeld2
      clear hHeld2 hK K
      try simp only [List.getElem_toArray, List.getElem_cons_succ, List.getElem_cons_zero, Act.put, List.setIfInBounds_toArray, List.set_cons_zero, List.set_cons_succ]
      refine wpAnyH_ready (rs := [15]) (by kernel_rfl) (by simp) ?_
      refine (AllReadyH.cons rfl (fun K hK => ?_) AllReadyH.nil)
      simp only [List.getElem_toArray, List.getElem_cons_succ, List.getElem_cons_zero]
      go_simp
      refine hK.out _ _ ?_ (fun hHeld2 => ?_)
      focus
        exact hHeld
      clear hHeld
      have hHeld := hHeld2
      clear hHeld2 hK K
      try simp only [List.getElem_toArray, List.getElem_cons_succ, List.getElem_cons_zero, Act.put, List.setIfInBounds_toArray, List.set_cons_zero, List.set_cons_succ]
      refine wpAnyH_take (i := 16) (v := ?_) rfl (by kernel_rfl) (by kernel_rfl) (by kernel_rfl) (fun _ _ _ h => h) (Or.inl ⟨by rfl, ?_⟩) (by assumption) ?_
      rotate_left
      focus
        intro U hU
        try dsimp only at hU
        go_simp
        try (with_reducible rfl)
      simp only [List.getElem_toArray, List.getElem_cons_succ, List.getElem_cons_zero, Act.put, List.setIfInBounds_toArray, List.set_cons_zero, List.set_cons_succ]
      refine wpAnyH_take (i := 17) (v := ?_) rfl (by kernel_rfl) (by kernel_rfl) (by kernel_rfl) (fun _ _ _ h => h) (Or.inl ⟨by rfl, ?_⟩) (by assumption) ?_
      rotate_left
      focus
        intro U hU
        try dsimp only at hU
        go_simp
        try (with_reducible rfl)
      simp only [List.getElem_toArray, List.getElem_cons_succ, List.getElem_cons_zero, Act.put, List.setIfInBounds_toArray, List.set_cons_zero, List.set_cons_succ]
      refine wpAnyH_ready (rs := [18]) (by kernel_rfl) (by simp) ?_
      refine AllReadyH.cons rfl (fun K hK => ?_) AllReadyH.nil
      simp only [List.getElem_toArray, List.getElem_cons_succ, List.getElem_cons_zero]
      go_simp
      refine hK.out _ _ ?_ (fun hHeld2 => ?_)
      focus
        exact ⟨True.intro, (And.right hHeld).alloc HB0.out _⟩
      clear hHeld
      have hHeld := hHeld2
      clear hHeld2 hK K
      try simp only [List.getElem_toArray, List.getElem_cons_succ, List.getElem_cons_zero, Act.put, List.setIfInBounds_toArray, List.set_cons_zero, List.set_cons_succ]
      have HN : Hid (Sl (w1.drew.alloc (.cells #[.iface 223 (.agg #[.int .i64 4, .iface T0 v0, .iface T1 v1])] 143)) 1 (some ⟨w1.heap.size, 0, none⟩) 1 1 [.iface 223 (.agg #[.int .i64 4, .iface T0 v0, .iface T1 v1])]) := hid (sl_new1 _ rfl)
      have HT2 : Hid ((w1.drew.alloc (.cells #[.iface 223 (.agg #[.int .i64 4, .iface T0 v0, .iface T1 v1])] 143)).ownsRow B 143 1 (.slice (some ⟨g, 0, none⟩) m c) m (tvs us)) := hid (own_keep HT.out (below_drew (Below.refl _ _) |>.alloc (Nat.le_refl _) _))
      have HB2 : Hid (B ≤ (w1.drew.alloc (.cells #[.iface 223 (.agg #[.int .i64 4, .iface T0 v0, .iface T1 v1])] 143)).heap.size) := hid (Nat.le_trans HB0.out (by simp))
      refine wpAnyH_ready (rs := [19]) (by kernel_rfl) (by simp) ?_
      refine AllReadyH.cons rfl (fun K hK => ?_) AllReadyH.nil
      refine step_append_sl rfl (.tmp 80) (.tmp 95) 138 rfl B 143 Try.underlying138 info_tree rfl (by omega) rfl HT2.out rfl HN.out (by simp; rfl) (by unfold maxLen; omega) (by omega) HB2.out ?_
      intro v5 w5 ho5 hb5 hsz5 hk5
      simp only [List.getElem_toArray, List.getElem_cons_succ, List.getElem_cons_zero]
      refine hK.out _ _ ?_ (fun hHeld2 => ?_)
      focus
        exact ⟨True.intro, (And.right hHeld).trans hb5⟩
      clear hHeld
      have hHeld := hHeld2
      clear hHeld2 hK K
      try simp only [List.getElem_toArray, List.getElem_cons_succ, List.getElem_cons_zero, Act.put, List.setIfInBounds_toArray, List.set_cons_zero, List.set_cons_succ]
      refine wpAnyH_take (i := 20) (v := ?_) rfl (by kernel_rfl) (by kernel_rfl) (by kernel_rfl) (fun _ _ _ h => h) (Or.inl ⟨by rfl, ?_⟩) (by assumption) ?_
      rotate_left
      focus
        intro U hU
        try dsimp only at hU
        go_simp
        try (with_reducible rfl)
      simp only [List.getElem_toArray, List.getElem_cons_succ, List.getElem_cons_zero, Act.put, List.setIfInBounds_toArray, List.set_cons_zero, List.set_cons_succ]
      refine wpAnyH_take (i := 21) (v := ?_) rfl (by kernel_rfl) (by kernel_rfl) (by kernel_rfl) (fun _ _ _ h => h) (Or.inl ⟨by rfl, ?_⟩) (by assumption) ?_
      rotate_left
      focus
        intro U hU
        try dsimp only at hU
        go_simp
        try (with_reducible rfl)
      simp only [List.getElem_toArray, List.getElem_cons_succ, List.getElem_cons_zero, Act.put, List.setIfInBounds_toArray, List.set_cons_zero, List.set_cons_succ]
      obtain ⟨A5, c5, rfl, _⟩ := Sl.of_own ho5
      have HF := hid (HB1.out.trans (And.right hHeld))
      have HZ5 := hid (Nat.le_trans (Nat.le_of_lt HZ1.out) (And.right hHeld).size)
      have HO5 : Hid (OwnT w5 B A5 c5 (us ++ [.pair 4 t t2])) := hid (by
        unfold OwnT
        rw [tvs_append, List.length_append, HM.out]
        show w5.ownsRow B _ 1 _ _ (tvs us ++ [tv (.pair 4 t t2)])
        rw [HE.out]
        exact ho5)
      clear ho5 hb5 hsz5 hk5
      refine wpAnyH_done (by kernel_rfl) ?_ _
      clear hHeld
      go_wp2_with fail
      go_ret2
      exact ⟨HF.out, HZ5.out, A5, c5, by rw [List.length_append, HM.out]; rfl, HO5.out⟩
    · skip
      simp only [List.getElem_toArray, List.getElem_cons_succ, List.getElem_cons_zero]
      go_simp
      refine hK.out _ _ ?_ (fun hHeld2 => ?_)
      focus
        exact hHeld
      clear hHeld
      have hHeld := hHeld2
      clear hHeld2 hK K
      try simp only [List.getElem_toArray, List.getElem_cons_succ, List.getElem_cons_zero, Act.put, List.setIfInBounds_toArray, List.set_cons_zero, List.set_cons_succ]
      refine wpAnyH_ready (rs := [5]) (by kernel_rfl) (by simp) ?_
      refine (AllReadyH.cons rfl (fun K hK => ?_) AllReadyH.nil)
      simp only [List.getElem_toArray, List.getElem_cons_succ, List.getElem_cons_zero]
      go_simp
      refine hK.out _ _ ?_ (fun hHeld2 => ?_)
      focus
        exact hHeld
      clear hHeld
      have hHeld := hHeld2
      clear hHeld2 hK K
      try simp only [List.getElem_toArray, List.getElem_cons_succ, List.getElem_cons_zero, Act.put, List.setIfInBounds_toArray, List.set_cons_zero, List.set_cons_succ]
      refine wpAnyH_take (i := 16) (v := ?_) rfl (by kernel_rfl) (by kernel_rfl) (by kernel_rfl) (fun _ _ _ h => h) (Or.inl ⟨by rfl, ?_⟩) (by assumption) ?_
      rotate_left
      focus
        intro U hU
        try dsimp only at hU
        go_simp
        try (with_reducible rfl)
      simp only [List.getElem_toArray, List.getElem_cons_succ, List.getElem_cons_zero, Act.put, List.setIfInBounds_toArray, List.set_cons_zero, List.set_cons_succ]
      refine wpAnyH_take (i := 17) (v := ?_) rfl (by kernel_rfl) (by kernel_rfl) (by kernel_rfl) (fun _ _ _ h => h) (Or.inl ⟨by rfl, ?_⟩) (by assumption) ?_
      rotate_left
      focus
        intro U hU
        try dsimp only at hU
        go_simp
        try (with_reducible rfl)
      simp only [List.getElem_toArray, List.getElem_cons_succ, List.getElem_cons_zero, Act.put, List.setIfInBounds_toArray, List.set_cons_zero, List.set_cons_succ]
      refine wpAnyH_ready (rs := [18]) (by kernel_rfl) (by simp) ?_
      refine AllReadyH.cons rfl (fun K hK => ?_) AllReadyH.nil
      simp only [List.getElem_toArray, List.getElem_cons_succ, List.getElem_cons_zero]
      go_simp
      refine hK.out _ _ ?_ (fun hHeld2 => ?_)
      focus
        exact ⟨True.intro, (And.right hHeld).alloc HB0.out _⟩
      clear hHeld
      have hHeld := hHeld2
      clear hHeld2 hK K
      try simp only [List.getElem_toArray, List.getElem_cons_succ, List.getElem_cons_zero, Act.put, List.setIfInBounds_toArray, List.set_cons_zero, List.set_cons_succ]
      have HN : Hid (Sl (w1.drew.alloc (.cells #[.iface 223 (.agg #[.int .i64 4, .iface T0 v0, .iface T1 v1])] 143)) 1 (some ⟨w1.heap.size, 0, none⟩) 1 1 [.iface 223 (.agg #[.int .i64 4, .iface T0 v0, .iface T1 v1])]) := hid (sl_new1 _ rfl)
      have HT2 : Hid ((w1.drew.alloc (.cells #[.iface 223 (.agg #[.int .i64 4, .iface T0 v0, .iface T1 v1])] 143)).ownsRow B 143 1 (.slice (some ⟨g, 0, none⟩) m c) m (tvs us)) := hid (own_keep HT.out (below_drew (Below.refl _ _) |>.alloc (Nat.le_refl _) _))
      have HB2 : Hid (B ≤ (w1.drew.alloc (.cells #[.iface 223 (.agg #[.int .i64 4, .iface T0 v0, .iface T1 v1])] 143)).heap.size) := hid (Nat.le_trans HB0.out (by simp))
      refine wpAnyH_ready (rs := [19]) (by kernel_rfl) (by simp) ?_
      refine AllReadyH.cons rfl (fun K hK => ?_) AllReadyH.nil
      refine step_append_sl rfl (.tmp 80) (.tmp 95) 138 rfl B 143 Try.underlying138 info_tree rfl (by omega) rfl HT2.out rfl HN.out (by simp; rfl) (by unfold maxLen; omega) (by omega) HB2.out ?_
      intro v5 w5 ho5 hb5 hsz5 hk5
      simp only [List.getElem_toArray, List.getElem_cons_succ, List.getElem_cons_zero]
      refine hK.out _ _ ?_ (fun hHeld2 => ?_)
      focus
        exact ⟨True.intro, (And.right hHeld).trans hb5⟩
      clear hHeld
      have hHeld := hHeld2
      clear hHeld2 hK K
      try simp only [List.getElem_toArray, List.getElem_cons_succ, List.getElem_cons_zero, Act.put, List.setIfInBounds_toArray, List.set_cons_zero, List.set_cons_succ]
      refine wpAnyH_take (i := 20) (v := ?_) rfl (by kernel_rfl) (by kernel_rfl) (by kernel_rfl) (fun _ _ _ h => h) (Or.inl ⟨by rfl, ?_⟩) (by assumption) ?_
      rotate_left
      focus
        intro U hU
        try dsimp only at hU
        go_simp
        try (with_reducible rfl)
      simp only [List.getElem_toArray, List.getElem_cons_succ, List.getElem_cons_zero, Act.put, List.setIfInBounds_toArray, List.set_cons_zero, List.set_cons_succ]
      refine wpAnyH_take (i := 21) (v := ?_) rfl (by kernel_rfl) (by kernel_rfl) (by kernel_rfl) (fun _ _ _ h => h) (Or.inl ⟨by rfl, ?_⟩) (by assumption) ?_
      rotate_left
      focus
        intro U hU
        try dsimp only at hU
        go_simp
        try (with_reducible rfl)
      simp only [List.getElem_toArray, List.getElem_cons_succ, List.getElem_cons_zero, Act.put, List.setIfInBounds_toArray, List.set_cons_zero, List.set_cons_succ]
      obtain ⟨A5, c5, rfl, _⟩ := Sl.of_own ho5
      have HF := hid (HB1.out.trans (And.right hHeld))
      have HZ5 := hid (Nat.le_trans (Nat.le_of_lt HZ1.out) (And.right hHeld).size)
      have HO5 : Hid (OwnT w5 B A5 c5 (us ++ [.pair 4 t t2])) := hid (by
        unfold OwnT
        rw [tvs_append, List.length_append, HM.out]
        show w5.ownsRow B _ 1 _ _ (tvs us ++ [tv (.pair 4 t t2)])
        rw [HE.out]
        exact ho5)
      clear ho5 hb5 hsz5 hk5
      refine wpAnyH_done (by kernel_rfl) ?_ _
      clear hHeld
      go_wp2_with fail
      go_ret2
      exact ⟨HF.out, HZ5.out, A5, c5, by rw [List.length_append, HM.out]; rfl, HO5.out⟩
  · skip
    simp only [List.getElem_toArray, List.getElem_cons_succ, List.getElem_cons_zero]
    go_simp
    refine hK.out _ _ ?_ (fun hHeld2 => ?_)
    focus
      exact hHeld
    clear hHeld
    have hHeld := hHeld2
    clear hHeld2 hK K
    try simp only [List.getElem_toArray, List.getElem_cons_succ, List.getElem_cons_zero, Act.put, List.setIfInBounds_toArray, List.set_cons_zero, List.set_cons_succ]
    refine wpAnyH_ready (rs := [5, 10]) (by kernel_rfl) (by simp) ?_
    refine (AllReadyH.cons rfl (fun K hK => ?_) (AllReadyH.cons rfl (fun K hK => ?_) AllReadyH.nil))
    · skip
      simp only [List.getElem_toArray, List.getElem_cons_succ, List.getElem_cons_zero]
      go_simp
      refine hK.out _ _ ?_ (fun hHeld2 => ?_)
      focus
        exact hHeld
      clear hHeld
      have hHeld := hHeld2
      clear hHeld2 hK K
      try simp only [List.getElem_toArray, List.getElem_cons_succ, List.getElem_cons_zero, Act.put, List.setIfInBounds_toArray, List.set_cons_zero, List.set_cons_succ]
      refine wpAnyH_ready (rs := [10]) (by kernel_rfl) (by simp) ?_
      refine (AllReadyH.cons rfl (fun K hK => ?_) AllReadyH.nil)
      simp only [List.getElem_toArray, List.getElem_cons_succ, List.getElem_cons_zero]
      go_simp
      refine hK.out _ _ ?_ (fun hHeld2 => ?_)
      focus
        exact hHeld
      clear hHeld
      have hHeld := hHeld2
      clear hHeld2 hK K
      try simp only [List.getElem_toArray, List.getElem_cons_succ, List.getElem_cons_zero, Act.put, List.setIfInBounds_toArray, List.set_cons_zero, List.set_cons_succ]
      refine wpAnyH_take (i := 16) (v := ?_) rfl (by kernel_rfl) (by kernel_rfl) (by kernel_rfl) (fun _ _ _ h => h) (Or.inl ⟨by rfl, ?_⟩) (by assumption) ?_
      rotate_left
      focus
        intro U hU
        try dsimp only at hU
        go_simp
        try (with_reducible rfl)
      simp only [List.getElem_toArray, List.getElem_cons_succ, List.getElem_cons_zero, Act.put, List.setIfInBounds_toArray, List.set_cons_zero, List.set_cons_succ]
      refine wpAnyH_take (i := 17) (v := ?_) rfl (by kernel_rfl) (by kernel_rfl) (by kernel_rfl) (fun _ _ _ h => h) (Or.inl ⟨by rfl, ?_⟩) (by assumption) ?_
      rotate_left
      focus
        intro U hU
        try dsimp only at hU
        go_simp
        try (with_reducible rfl)
      simp only [List.getElem_toArray, List.getElem_cons_succ, List.getElem_cons_zero, Act.put, List.setIfInBounds_toArray, List.set_cons_zero, List.set_cons_succ]
      refine wpAnyH_ready (rs := [18]) (by kernel_rfl) (by simp) ?_
      refine AllReadyH.cons rfl (fun K hK => ?_) AllReadyH.nil
      simp only [List.getElem_toArray, List.getElem_cons_succ, List.getElem_cons_zero]
      go_simp
      refine hK.out _ _ ?_ (fun hHeld2 => ?_)
      focus
        exact ⟨True.intro, (And.right hHeld).alloc HB0.out _⟩
      clear hHeld
      have hHeld := hHeld2
      clear hHeld2 hK K
      try simp only [List.getElem_toArray, List.getElem_cons_succ, List.getElem_cons_zero, Act.put, List.setIfInBounds_toArray, List.set_cons_zero, List.set_cons_succ]
      have HN : Hid (Sl (w1.drew.alloc (.cells #[.iface 223 (.agg #[.int .i64 4, .iface T0 v0, .iface T1 v1])] 143)) 1 (some ⟨w1.heap.size, 0, none⟩) 1 1 [.iface 223 (.agg #[.int .i64 4, .iface T0 v0, .iface T1 v1])]) := hid (sl_new1 _ rfl)
      have HT2 : Hid ((w1.drew.alloc (.cells #[.iface 223 (.agg #[.int .i64 4, .iface T0 v0, .iface T1 v1])] 143)).ownsRow B 143 1 (.slice (some ⟨g, 0, none⟩) m c) m (tvs us)) := hid (own_keep HT.out (below_drew (Below.refl _ _) |>.alloc (Nat.le_refl _) _))
      have HB2 : Hid (B ≤ (w1.drew.alloc (.cells #[.iface 223 (.agg #[.int .i64 4, .iface T0 v0, .iface T1 v1])] 143)).heap.size) := hid (Nat.le_trans HB0.out (by simp))
      refine wpAnyH_ready (rs := [19]) (by kernel_rfl) (by simp) ?_
      refine AllReadyH.cons rfl (fun K hK => ?_) AllReadyH.nil
      refine step_append_sl rfl (.tmp 80) (.tmp 95) 138 rfl B 143 Try.underlying138 info_tree rfl (by omega) rfl HT2.out rfl HN.out (by simp; rfl) (by unfold maxLen; omega) (by omega) HB2.out ?_
      intro v5 w5 ho5 hb5 hsz5 hk5
      simp only [List.getElem_toArray, List.getElem_cons_succ, List.getElem_cons_zero]
      refine hK.out _ _ ?_ (fun hHeld2 => ?_)
      focus
        exact ⟨True.intro, (And.right hHeld).trans hb5⟩
      clear hHeld
      have hHeld := hHeld2
      clear hHeld2 hK K
      try simp only [List.getElem_toArray, List.getElem_cons_succ, List.getElem_cons_zero, Act.put, List.setIfInBounds_toArray, List.set_cons_zero, List.set_cons_succ]
      refine wpAnyH_take (i := 20) (v := ?_) rfl (by kernel_rfl) (by kernel_rfl) (by kernel_rfl) (fun _ _ _ h => h) (Or.inl ⟨by rfl, ?_⟩) (by assumption) ?_
      rotate_left
      focus
        intro U hU
        try dsimp only at hU
        go_simp
        try (with_reducible rfl)
      simp only [List.getElem_toArray, List.getElem_cons_succ, List.getElem_cons_zero, Act.put, List.setIfInBounds_toArray, List.set_cons_zero, List.set_cons_succ]
      refine wpAnyH_take (i := 21) (v := ?_) rfl (by kernel_rfl) (by kernel_rfl) (by kernel_rfl) (fun _ _ _ h => h) (Or.inl ⟨by rfl, ?_⟩) (by assumption) ?_
      rotate_left
      focus
        intro U hU
        try dsimp only at hU
        go_simp
        try (with_reducible rfl)
      simp only [List.getElem_toArray, List.getElem_cons_succ, List.getElem_cons_zero, Act.put, List.setIfInBounds_toArray, List.set_cons_zero, List.set_cons_succ]
      obtain ⟨A5, c5, rfl, _⟩ := Sl.of_own ho5
      have HF := hid (HB1.out.trans (And.right hHeld))
      have HZ5 := hid (Nat.le_trans (Nat.le_of_lt HZ1.out) (And.right hHeld).size)
      have HO5 : Hid (OwnT w5 B A5 c5 (us ++ [.pair 4 t t2])) := hid (by
        unfold OwnT
        rw [tvs_append, List.length_append, HM.out]
        show w5.ownsRow B _ 1 _ _ (tvs us ++ [tv (.pair 4 t t2)])
        rw [HE.out]
        exact ho5)
      clear ho5 hb5 hsz5 hk5
      refine wpAnyH_done (by kernel_rfl) ?_ _
      clear hHeld
      go_wp2_with fail
      go_ret2
      exact ⟨HF.out, HZ5.out, A5, c5, by rw [List.length_append, HM.out]; rfl, HO5.out⟩
    · skip
      simp only [List.getElem_toArray, List.getElem_cons_succ, List.getElem_cons_zero]
      go_simp
      refine hK.out _ _ ?_ (fun hHeld2 => ?_)
      focus
        exact hHeld
      clear hHeld
      have hHeld := hHeld2
      clear hHeld2 hK K
      try simp only [List.getElem_toArray, List.getElem_cons_succ, List.getElem_cons_zero, Act.put, List.setIfInBounds_toArray, List.set_cons_zero, List.set_cons_succ]
      refine wpAnyH_ready (rs := [5]) (by kernel_rfl) (by simp) ?_
      refine (AllReadyH.cons rfl (fun K hK => ?_) AllReadyH.nil)
      simp only [List.getElem_toArray, List.getElem_cons_succ, List.getElem_cons_zero]
      go_simp
      refine hK.out _ _ ?_ (fun hHeld2 => ?_)
      focus
        exact hHeld
      clear hHeld
      have hHeld := hHeld2
      clear hHeld2 hK K
      try simp only [List.getElem_toArray, List.getElem_cons_succ, List.getElem_cons_zero, Act.put, List.setIfInBounds_toArray, List.set_cons_zero, List.set_cons_succ]
      refine wpAnyH_take (i := 16) (v := ?_) rfl (by kernel_rfl) (by kernel_rfl) (by kernel_rfl) (fun _ _ _ h => h) (Or.inl ⟨by rfl, ?_⟩) (by assumption) ?_
      rotate_left
      focus
        intro U hU
        try dsimp only at hU
        go_simp
        try (with_reducible rfl)
      simp only [List.getElem_toArray, List.getElem_cons_succ, List.getElem_cons_zero, Act.put, List.setIfInBounds_toArray, List.set_cons_zero, List.set_cons_succ]
      refine wpAnyH_take (i := 17) (v := ?_) rfl (by kernel_rfl) (by kernel_rfl) (by kernel_rfl) (fun _ _ _ h => h) (Or.inl ⟨by rfl, ?_⟩) (by assumption) ?_
      rotate_left
      focus
        intro U hU
        try dsimp only at hU
        go_simp
        try (with_reducible rfl)
      simp only [List.getElem_toArray, List.getElem_cons_succ, List.getElem_cons_zero, Act.put, List.setIfInBounds_toArray, List.set_cons_zero, List.set_cons_succ]
      refine wpAnyH_ready (rs := [18]) (by kernel_rfl) (by simp) ?_
      refine AllReadyH.cons rfl (fun K hK => ?_) AllReadyH.nil
      simp only [List.getElem_toArray, List.getElem_cons_succ, List.getElem_cons_zero]
      go_simp
      refine hK.out _ _ ?_ (fun hHeld2 => ?_)
      focus
        exact ⟨True.intro, (And.right hHeld).alloc HB0.out _⟩
      clear hHeld
      have hHeld := hHeld2
      clear hHeld2 hK K
      try simp only [List.getElem_toArray, List.getElem_cons_succ, List.getElem_cons_zero, Act.put, List.setIfInBounds_toArray, List.set_cons_zero, List.set_cons_succ]
      have HN : Hid (Sl (w1.drew.alloc (.cells #[.iface 223 (.agg #[.int .i64 4, .iface T0 v0, .iface T1 v1])] 143)) 1 (some ⟨w1.heap.size, 0, none⟩) 1 1 [.iface 223 (.agg #[.int .i64 4, .iface T0 v0, .iface T1 v1])]) := hid (sl_new1 _ rfl)
      have HT2 : Hid ((w1.drew.alloc (.cells #[.iface 223 (.agg #[.int .i64 4, .iface T0 v0, .iface T1 v1])] 143)).ownsRow B 143 1 (.slice (some ⟨g, 0, none⟩) m c) m (tvs us)) := hid (own_keep HT.out (below_drew (Below.refl _ _) |>.alloc (Nat.le_refl _) _))
      have HB2 : Hid (B ≤ (w1.drew.alloc (.cells #[.iface 223 (.agg #[.int .i64 4, .iface T0 v0, .iface T1 v1])] 143)).heap.size) := hid (Nat.le_trans HB0.out (by simp))
      refine wpAnyH_ready (rs := [19]) (by kernel_rfl) (by simp) ?_
      refine AllReadyH.cons rfl (fun K hK => ?_) AllReadyH.nil
      refine step_append_sl rfl (.tmp 80) (.tmp 95) 138 rfl B 143 Try.underlying138 info_tree rfl (by omega) rfl HT2.out rfl HN.out (by simp; rfl) (by unfold maxLen; omega) (by omega) HB2.out ?_
      intro v5 w5 ho5 hb5 hsz5 hk5
      simp only [List.getElem_toArray, List.getElem_cons_succ, List.getElem_cons_zero]
      refine hK.out _ _ ?_ (fun hHeld2 => ?_)
      focus
        exact ⟨True.intro, (And.right hHeld).trans hb5⟩
      clear hHeld
      have hHeld := hHeld2
      clear hHeld2 hK K
      try simp only [List.getElem_toArray, List.getElem_cons_succ, List.getElem_cons_zero, Act.put, List.setIfInBounds_toArray, List.set_cons_zero, List.set_cons_succ]
      refine wpAnyH_take (i := 20) (v := ?_) rfl (by kernel_rfl) (by kernel_rfl) (by kernel_rfl) (fun _ _ _ h => h) (Or.inl ⟨by rfl, ?_⟩) (by assumption) ?_
      rotate_left
      focus
        intro U hU
        try dsimp only at hU
        go_simp
        try (with_reducible rfl)
      simp only [List.getElem_toArray, List.getElem_cons_succ, List.getElem_cons_zero, Act.put, List.setIfInBounds_toArray, List.set_cons_zero, List.set_cons_succ]
      refine wpAnyH_take (i := 21) (v := ?_) rfl (by kernel_rfl) (by kernel_rfl) (by kernel_rfl) (fun _ _ _ h => h) (Or.inl ⟨by rfl, ?_⟩) (by assumption) ?_
      rotate_left
      focus
        intro U hU
        try dsimp only at hU
        go_simp
        try (with_reducible rfl)
      simp only [List.getElem_toArray, List.getElem_cons_succ, List.getElem_cons_zero, Act.put, List.setIfInBounds_toArray, List.set_cons_zero, List.set_cons_succ]
      obtain ⟨A5, c5, rfl, _⟩ := Sl.of_own ho5
      have HF := hid (HB1.out.trans (And.right hHeld))
      have HZ5 := hid (Nat.le_trans (Nat.le_of_lt HZ1.out) (And.right hHeld).size)
      have HO5 : Hid (OwnT w5 B A5 c5 (us ++ [.pair 4 t t2])) := hid (by
        unfold OwnT
        rw [tvs_append, List.length_append, HM.out]
        show w5.ownsRow B _ 1 _ _ (tvs us ++ [tv (.pair 4 t t2)])
        rw [HE.out]
        exact ho5)
      clear ho5 hb5 hsz5 hk5
      refine wpAnyH_done (by kernel_rfl) ?_ _
      clear hHeld
      go_wp2_with fail
      go_ret2
      exact ⟨HF.out, HZ5.out, A5, c5, by rw [List.length_append, HM.out]; rfl, HO5.out⟩
set_option maxRecDepth 20000 in
set_option maxHeartbeats 4000000 in
theorem joined_pair5 (B : Nat) (us : List Nt) (t t2 : Nt) (m g c : Nat) (W : World) (hm : us.length = m) (h : W.ownsRow B 143 1 (.slice (some ⟨g, 0, none⟩) (m + 2) c) (m + 2) (tvs us ++ [tv t, tv t2])) (hB : B ≤ W.heap.size) (hl : m ≤ 100) :
    Calls Try.prog 100 #[.slice (some ⟨g, 0, none⟩) (m + 2) c, .agg #[.int .i64 5, .int .i64 0]] W (JoinR B (some (us ++ [.pair 5 t t2])) W) := by
  have HO := hid h
  have HM := hid hm
  have hmc : m + 2 ≤ c := by
    rcases h.2 with ⟨h', _⟩ | ⟨g', cap', cur, h', _, _, hnc, _⟩
    · simp at h'
    · simp only [Value.slice.injEq] at h'; omega
  have hc9 : c ≤ 9223372036854775807 := by
    rcases h.2 with ⟨h', _⟩ | ⟨g', cap', cur, h', _, _, hnc, hcm, _⟩
    · simp at h'
    · simp only [Value.slice.injEq] at h'; unfold maxLen at hcm; omega
  clear h hm
  go_enter Try.func100, Try.ntmps100
  go_upto_region 1 with (fail)
  refine at_world (fun w => w.heap[W.heap.size]? = some (.cells #[.int .i64 5, .int .i64 0] 77 (0, 0)) ∧ w.ownsRow B 143 1 (.slice (some ⟨g, 0, none⟩) (m + 2) c) (m + 2) (tvs us ++ [tv t, tv t2]) ∧ Below B W w ∧ W.heap.size < w.heap.size) ⟨heap_alloc_new _ _, own_keep HO.out ((Below.refl _ _).alloc (Nat.le_refl _) _), (Below.refl _ _).alloc hB _, by simp⟩ ?_
  rintro w1 ⟨k1, ho1, hb1, hz1⟩
  obtain ⟨p0, p1, _, _⟩ := two_cells k1
  have HO1 := hid ho1
  have HB1 := hid hb1
  have HZ1 := hid hz1
  have HB0 := hid (Nat.le_trans hB (Nat.le_of_lt hz1))
  have HT := hid (own_take1 ho1 m (by omega))
  rw [List.take_left' (by rw [tvs_len]; exact HM.out)] at HT
  have HC := hid (sl_own ho1)
  have q0 : w1.drew.cell? ⟨g, m, none⟩ = some (tv t) := by
    obtain ⟨b, off, ha, hc⟩ := HC.out.2.2.2 (by simp)
    simp only [Option.some.injEq, Addr.mk.injEq, and_true] at ha
    obtain ⟨rfl, rfl⟩ := ha
    have h9 := hc (m) (by simp [tvs_len, HM.out])
    rw [Nat.zero_add] at h9
    show w1.cell? _ = _
    rw [h9, List.getElem?_append_right (by rw [tvs_len, HM.out]; omega)]
    simp [tvs_len, HM.out]
  have q1 : w1.drew.cell? ⟨g, m + 1, none⟩ = some (tv t2) := by
    obtain ⟨b, off, ha, hc⟩ := HC.out.2.2.2 (by simp)
    simp only [Option.some.injEq, Addr.mk.injEq, and_true] at ha
    obtain ⟨rfl, rfl⟩ := ha
    have h9 := hc (m + 1) (by simp [tvs_len, HM.out])
    rw [Nat.zero_add] at h9
    show w1.cell? _ = _
    rw [h9, List.getElem?_append_right (by rw [tvs_len, HM.out]; omega)]
    simp [tvs_len, HM.out]
  obtain ⟨T0, v0, ht⟩ := tv_iface t
  rw [ht] at q0
  obtain ⟨T1, v1, ht2⟩ := tv_iface t2
  rw [ht2] at q1
  have HE : Hid (tv (.pair 5 t t2) = .iface 223 (.agg #[.int .i64 5, .iface T0 v0, .iface T1 v1])) := hid (by rw [tv, ht, ht2])
  clear ht2
  clear ht
  clear k1 ho1 hb1 hz1 HO hB HC
  have ml : (m : Int) ≤ 100 := by omega
  have mc : ((m : Int) + 2) ≤ (c : Int) := by omega
  have hw0 : IntKind.i64.wrap (m : Int) = (m : Int) := by simp [IntKind.wrap, IntKind.bits, IntKind.signed]; omega
  have hw1 : IntKind.i64.wrap ((m : Int) + 2 - 1) = (m : Int) + 1 := by simp [IntKind.wrap, IntKind.bits, IntKind.signed]; omega
  have ht1 : ((m : Int) + 1).toNat = m + 1 := by omega
  have h01 : (0 : Int) ≤ (m : Int) + 1 := by omega
  have hi0 : (m : Int) < (m : Int) + 2 := by omega
  have hi1 : (m : Int) + 1 < (m : Int) + 2 := by omega
  have hs3 : ∀ w : World, (Instr.slice 138 (.slice (some ⟨g, 0, none⟩) (m + 2) c) none (some (.int .i64 (m : Int))) none).run Try.prog w = .ok (.slice (some ⟨g, 0, none⟩) m c) w := run_to Try.underlying138 info_tree (some ⟨g, 0, none⟩) (m + 2) c m (by omega)
  go_upto_region 11 with (fail)
  refine wp_region_held_drew (S := fun U => True ∧ Below B w1 U) (by kernel_rfl) ⟨trivial, below_drew (Below.refl _ _)⟩ (fun hHeld => ?_)
  refine wpAnyH_take (i := 0) (v := ?_) rfl (by kernel_rfl) (by kernel_rfl) (by kernel_rfl) (fun _ _ _ h => h) (Or.inl ⟨by rfl, ?_⟩) (by assumption) ?_
  rotate_left
  focus
    intro U hU
    try dsimp only at hU
    go_simp
    try (with_reducible rfl)
  simp only [List.getElem_toArray, List.getElem_cons_succ, List.getElem_cons_zero, Act.put, List.setIfInBounds_toArray, List.set_cons_zero, List.set_cons_succ]
  refine wpAnyH_take (i := 1) (v := ?_) rfl (by kernel_rfl) (by kernel_rfl) (by kernel_rfl) (fun _ _ _ h => h) (Or.inl ⟨by rfl, ?_⟩) (by assumption) ?_
  rotate_left
  focus
    intro U hU
    try dsimp only at hU
    go_simp
    try (with_reducible rfl)
  simp only [List.getElem_toArray, List.getElem_cons_succ, List.getElem_cons_zero, Act.put, List.setIfInBounds_toArray, List.set_cons_zero, List.set_cons_succ]
  refine wpAnyH_take (i := 2) (v := ?_) rfl (by kernel_rfl) (by kernel_rfl) (by kernel_rfl) (fun _ _ _ h => h) (Or.inl ⟨by rfl, ?_⟩) (by assumption) ?_
  rotate_left
  focus
    intro U hU
    try dsimp only at hU
    go_simp
    try (with_reducible rfl)
  simp only [List.getElem_toArray, List.getElem_cons_succ, List.getElem_cons_zero, Act.put, List.setIfInBounds_toArray, List.set_cons_zero, List.set_cons_succ]
  refine wpAnyH_take (i := 3) (v := ?_) rfl (by kernel_rfl) (by kernel_rfl) (by kernel_rfl) (fun _ _ _ h => h) (Or.inl ⟨by rfl, ?_⟩) (by assumption) ?_
  rotate_left
  focus
    intro U hU
    try dsimp only at hU
    go_simp
    try (with_reducible rfl)
  simp only [List.getElem_toArray, List.getElem_cons_succ, List.getElem_cons_zero, Act.put, List.setIfInBounds_toArray, List.set_cons_zero, List.set_cons_succ]
  refine wpAnyH_take (i := 4) (v := ?_) rfl (by kernel_rfl) (by kernel_rfl) (by kernel_rfl) (fun _ _ _ h => h) (Or.inl ⟨by rfl, ?_⟩) (by assumption) ?_
  rotate_left
  focus
    intro U hU
    try dsimp only at hU
    go_simp
    try (with_reducible rfl)
  simp only [List.getElem_toArray, List.getElem_cons_succ, List.getElem_cons_zero, Act.put, List.setIfInBounds_toArray, List.set_cons_zero, List.set_cons_succ]
  refine wpAnyH_take (i := 6) (v := ?_) rfl (by kernel_rfl) (by kernel_rfl) (by kernel_rfl) (fun _ _ _ h => h) (Or.inl ⟨by rfl, ?_⟩) (by assumption) ?_
  rotate_left
  focus
    intro U hU
    try dsimp only at hU
    go_simp
    try (with_reducible rfl)
  simp only [List.getElem_toArray, List.getElem_cons_succ, List.getElem_cons_zero, Act.put, List.setIfInBounds_toArray, List.set_cons_zero, List.set_cons_succ]
  refine wpAnyH_take (i := 7) (v := ?_) rfl (by kernel_rfl) (by kernel_rfl) (by kernel_rfl) (fun _ _ _ h => h) (Or.inl ⟨by rfl, ?_⟩) (by assumption) ?_
  rotate_left
  focus
    intro U hU
    try dsimp only at hU
    go_simp
    try (with_reducible rfl)
  simp only [List.getElem_toArray, List.getElem_cons_succ, List.getElem_cons_zero, Act.put, List.setIfInBounds_toArray, List.set_cons_zero, List.set_cons_succ]
  refine wpAnyH_take (i := 8) (v := ?_) rfl (by kernel_rfl) (by kernel_rfl) (by kernel_rfl) (fun _ _ _ h => h) (Or.inl ⟨by rfl, ?_⟩) (by assumption) ?_
  rotate_left
  focus
    intro U hU
    try dsimp only at hU
    go_simp
    try (with_reducible rfl)
  simp only [List.getElem_toArray, List.getElem_cons_succ, List.getElem_cons_zero, Act.put, List.setIfInBounds_toArray, List.set_cons_zero, List.set_cons_succ]
  refine wpAnyH_take (i := 9) (v := ?_) rfl (by kernel_rfl) (by kernel_rfl) (by kernel_rfl) (fun _ _ _ h => h) (Or.inl ⟨by rfl, ?_⟩) (by assumption) ?_
  rotate_left
  focus
    intro U hU
    try dsimp only at hU
    go_simp
    try (with_reducible rfl)
  simp only [List.getElem_toArray, List.getElem_cons_succ, List.getElem_cons_zero, Act.put, List.setIfInBounds_toArray, List.set_cons_zero, List.set_cons_succ]
  refine wpAnyH_take (i := 11) (v := ?_) rfl (by kernel_rfl) (by kernel_rfl) (by kernel_rfl) (fun _ _ _ h => h) (Or.inl ⟨by rfl, ?_⟩) (by assumption) ?_
  rotate_left
  focus
    intro U hU
    try dsimp only at hU
    go_simp
    try (with_reducible rfl)
  simp only [List.getElem_toArray, List.getElem_cons_succ, List.getElem_cons_zero, Act.put, List.setIfInBounds_toArray, List.set_cons_zero, List.set_cons_succ]
  refine wpAnyH_take (i := 12) (v := ?_) rfl (by kernel_rfl) (by kernel_rfl) (by kernel_rfl) (fun _ _ _ h => h) (Or.inl ⟨by rfl, ?_⟩) (by assumption) ?_
  rotate_left
  focus
    intro U hU
    try dsimp only at hU
    go_simp
    try (with_reducible rfl)
  simp only [List.getElem_toArray, List.getElem_cons_succ, List.getElem_cons_zero, Act.put, List.setIfInBounds_toArray, List.set_cons_zero, List.set_cons_succ]
  refine wpAnyH_take (i := 13) (v := ?_) rfl (by kernel_rfl) (by kernel_rfl) (by kernel_rfl) (fun _ _ _ h => h) (Or.inl ⟨by rfl, ?_⟩) (by assumption) ?_
  rotate_left
  focus
    intro U hU
    try dsimp only at hU
    go_simp
    try (with_reducible rfl)
  simp only [List.getElem_toArray, List.getElem_cons_succ, List.getElem_cons_zero, Act.put, List.setIfInBounds_toArray, List.set_cons_zero, List.set_cons_succ]
  refine wpAnyH_take (i := 14) (v := ?_) rfl (by kernel_rfl) (by kernel_rfl) (by kernel_rfl) (fun _ _ _ h => h) (Or.inl ⟨by rfl, ?_⟩) (by assumption) ?_
  rotate_left
  focus
    intro U hU
    try dsimp only at hU
    go_simp
    try (with_reducible rfl)
  simp only [List.getElem_toArray, List.getElem_cons_succ, List.getElem_cons_zero, Act.put, List.setIfInBounds_toArray, List.set_cons_zero, List.set_cons_succ]
  refine wpAnyH_ready (rs := [5, 10, 15]) (by kernel_rfl) (by simp) ?_
  refine (AllReadyH.cons rfl (fun K hK => ?_) (AllReadyH.cons rfl (fun K hK => ?_) (AllReadyH.cons rfl (fun K hK => ?_) AllReadyH.nil)))
  · skip
    simp only [List.getElem_toArray, List.getElem_cons_succ, List.getElem_cons_zero]
    go_simp
    refine hK.out _ _ ?_ (fun hHeld2 => ?_)
    focus
      exact hHeld
    clear hHeld
    have hHeld := hHeld2
    clear hHeld2 hK K
    try simp only [List.getElem_toArray, List.getElem_cons_succ, List.getElem_cons_zero, Act.put, List.setIfInBounds_toArray, List.set_cons_zero, List.set_cons_succ]
    refine wpAnyH_ready (rs := [10, 15]) (by kernel_rfl) (by simp) ?_
    refine (AllReadyH.cons rfl (fun K hK => ?_) (AllReadyH.cons rfl (fun K hK => ?_) AllReadyH.nil))
    · skip
      simp only [List.getElem_toArray, List.getElem_cons_succ, List.getElem_cons_zero]
      go_simp
      refine hK.out _ _ ?_ (fun hHeld2 => ?_)
      focus
        exact hHeld
      clear hHeld
      have hHeld := hHeld2
      clear hHeld2 hK K
      try simp only [List.getElem_toArray, List.getElem_cons_succ, List.getElem_cons_zero, Act.put, List.setIfInBounds_toArray, List.set_cons_zero, List.set_cons_succ]
      refine wpAnyH_ready (rs := [15]) (by kernel_rfl) (by simp) ?_
      refine (AllReadyH.cons rfl (fun K hK => ?_) AllReadyH.nil)
      simp only [List.getElem_toArray, List.getElem_cons_succ, List.getElem_cons_zero]
      go_simp
      refine hK.out _ _ ?_ (fun hHeld2 => ?_)
      focus
        exact hHeld
      clear hHeld
      have hHeld := hHeld2
      clear hHeld2 hK K
      try simp only [List.getElem_toArray, List.getElem_cons_succ, List.getElem_cons_zero, Act.put, List.setIfInBounds_toArray, List.set_cons_zero, List.set_cons_succ]
      refine wpAnyH_take (i := 16) (v := ?_) rfl (by kernel_rfl) (by kernel_rfl) (by kernel_rfl) (fun _ _ _ h => h) (Or.inl ⟨by rfl, ?_⟩) (by assumption) ?_
      rotate_left
      focus
        intro U hU
        try dsimp only at hU
        go_simp
        try (with_reducible rfl)
      simp only [List.getElem_toArray, List.getElem_cons_succ, List.getElem_cons_zero, Act.put, List.setIfInBounds_toArray, List.set_cons_zero, List.set_cons_succ]
      refine wpAnyH_take (i := 17) (v := ?_) rfl (by kernel_rfl) (by kernel_rfl) (by kernel_rfl) (fun _ _ _ h => h) (Or.inl ⟨by rfl, ?_⟩) (by assumption) ?_
      rotate_left
      focus
        intro U hU
        try dsimp only at hU
        go_simp
        try (with_reducible rfl)
      simp only [List.getElem_toArray, List.getElem_cons_succ, List.getElem_cons_zero, Act.put, List.setIfInBounds_toArray, List.set_cons_zero, List.set_cons_succ]
      refine wpAnyH_ready (rs := [18]) (by kernel_rfl) (by simp) ?_
      refine AllReadyH.cons rfl (fun K hK => ?_) AllReadyH.nil
      simp only [List.getElem_toArray, List.getElem_cons_succ, List.getElem_cons_zero]
      go_simp
      refine hK.out _ _ ?_ (fun hHeld2 => ?_)
      focus
        exact ⟨True.intro, (And.right hHeld).alloc HB0.out _⟩
      clear hHeld
      have hHeld := hHeld2
      clear hHeld2 hK K
      try simp only [List.getElem_toArray, List.getElem_cons_succ, List.getElem_cons_zero, Act.put, List.setIfInBounds_toArray, List.set_cons_zero, List.set_cons_succ]
      have HN : Hid (Sl (w1.drew.alloc (.cells #[.iface 223 (.agg #[.int .i64 5, .iface T0 v0, .iface T1 v1])] 143)) 1 (some ⟨w1.heap.size, 0, none⟩) 1 1 [.iface 223 (.agg #[.int .i64 5, .iface T0 v0, .iface T1 v1])]) := hid (sl_new1 _ rfl)
      have HT2 : Hid ((w1.drew.alloc (.cells #[.iface 223 (.agg #[.int .i64 5, .iface T0 v0, .iface T1 v1])] 143)).ownsRow B 143 1 (.slice (some ⟨g, 0, none⟩) m c) m (tvs us)) := hid (own_keep HT.out (below_drew (Below.refl _ _) |>.alloc (Nat.le_refl _) _))
      have HB2 : Hid (B ≤ (w1.drew.alloc (.cells #[.iface 223 (.agg #[.int .i64 5, .iface T0 v0, .iface T1 v1])] 143)).heap.size) := hid (Nat.le_trans HB0.out (by simp))
      refine wpAnyH_ready (rs := [19]) (by kernel_rfl) (by simp) ?_
      refine AllReadyH.cons rfl (fun K hK => ?_) AllReadyH.nil
      refine step_append_sl rfl (.tmp 80) (.tmp 95) 138 rfl B 143 Try.underlying138 info_tree rfl (by omega) rfl HT2.out rfl HN.out (by simp; rfl) (by unfold maxLen; omega) (by omega) HB2.out ?_
      intro v5 w5 ho5 hb5 hsz5 hk5
      simp only [List.getElem_toArray, List.getElem_cons_succ, List.getElem_cons_zero]
      refine hK.out _ _ ?_ (fun hHeld2 => ?_)
      focus
        exact ⟨True.intro, (And.right hHeld).trans hb5⟩
      clear hHeld
      have hHeld := hHeld2
      clear hHeld2 hK K
      try simp only [List.getElem_toArray, List.getElem_cons_succ, List.getElem_cons_zero, Act.put, List.setIfInBounds_toArray, List.set_cons_zero, List.set_cons_succ]
      refine wpAnyH_take (i := 20) (v := ?_) rfl (by kernel_rfl) (by kernel_rfl) (by kernel_rfl) (fun _ _ _ h => h) (Or.inl ⟨by rfl, ?_⟩) (by assumption) ?_
      rotate_left
      focus
        intro U hU
        try dsimp only at hU
        go_simp
        try (with_reducible rfl)
      simp only [List.getElem_toArray, List.getElem_cons_succ, List.getElem_cons_zero, Act.put, List.setIfInBounds_toArray, List.set_cons_zero, List.set_cons_succ]
      refine wpAnyH_take (i := 21) (v := ?_) rfl (by kernel_rfl) (by kernel_rfl) (by kernel_rfl) (fun _ _ _ h => h) (Or.inl ⟨by rfl, ?_⟩) (by assumption) ?_
      rotate_left
      focus
        intro U hU
        try dsimp only at hU
        go_simp
        try (with_reducible rfl)
      simp only [List.getElem_toArray, List.getElem_cons_succ, List.getElem_cons_zero, Act.put, List.setIfInBounds_toArray, List.set_cons_zero, List.set_cons_succ]
      obtain ⟨A5, c5, rfl, _⟩ := Sl.of_own ho5
      have HF := hid (HB1.out.trans (And.right hHeld))
      have HZ5 := hid (Nat.le_trans (Nat.le_of_lt HZ1.out) (And.right hHeld).size)
      have HO5 : Hid (OwnT w5 B A5 c5 (us ++ [.pair 5 t t2])) := hid (by
        unfold OwnT
        rw [tvs_append, List.length_append, HM.out]
        show w5.ownsRow B _ 1 _ _ (tvs us ++ [tv (.pair 5 t t2)])
        rw [HE.out]
        exact ho5)
      clear ho5 hb5 hsz5 hk5
      refine wpAnyH_done (by kernel_rfl) ?_ _
      clear hHeld
      go_wp2_with fail
      go_ret2
      exact ⟨HF.out, HZ5.out, A5, c5, by rw [List.length_append, HM.out]; rfl, HO5.out⟩
    · skip
      simp only [List.getElem_toArray, List.getElem_cons_succ, List.getElem_cons_zero]
      go_simp
      refine hK.out _ _ ?_ (fun hHeld2 => ?_)
      focus
        exact hHeld
      clear hHeld
      have hHeld := hHeld2
      clear hHeld2 hK K
      try simp only [List.getElem_toArray, List.getElem_cons_succ, List.getElem_cons_zero, Act.put, List.setIfInBounds_toArray, List.set_cons_zero, List.set_cons_succ]
      refine wpAnyH_ready (rs := [10]) (by kernel_rfl) (by simp) ?_
      refine (AllReadyH.cons rfl (fun K hK => ?_) AllReadyH.nil)
      simp only [List.getElem_toArray, List.getElem_cons_succ, List.getElem_cons_zero]
      go_simp
      refine hK.out _ _ ?_ (fun hHeld2 => ?_)
      focus
        exact hHeld
      clear hHeld
      have hHeld := hHeld2
      clear hHeld2 hK K
      try simp only [List.getElem_toArray, List.getElem_cons_succ, List.getElem_cons_zero, Act.put, List.setIfInBounds_toArray, List.set_cons_zero, List.set_cons_succ]
      refine wpAnyH_take (i := 16) (v := ?_) rfl (by kernel_rfl) (by kernel_rfl) (by kernel_rfl) (fun _ _ _ h => h) (Or.inl ⟨by rfl, ?_⟩) (by assumption) ?_
      rotate_left
      focus
        intro U hU
        try dsimp only at hU
        go_simp
        try (with_reducible rfl)
      simp only [List.getElem_toArray, List.getElem_cons_succ, List.getElem_cons_zero, Act.put, List.setIfInBounds_toArray, List.set_cons_zero, List.set_cons_succ]
      refine wpAnyH_take (i := 17) (v := ?_) rfl (by kernel_rfl) (by kernel_rfl) (by kernel_rfl) (fun _ _ _ h => h) (Or.inl ⟨by rfl, ?_⟩) (by assumption) ?_
      rotate_left
      focus
        intro U hU
        try dsimp only at hU
        go_simp
        try (with_reducible rfl)
      simp only [List.getElem_toArray, List.getElem_cons_succ, List.getElem_cons_zero, Act.put, List.setIfInBounds_toArray, List.set_cons_zero, List.set_cons_succ]
      refine wpAnyH_ready (rs := [18]) (by kernel_rfl) (by simp) ?_
      refine AllReadyH.cons rfl (fun K hK => ?_) AllReadyH.nil
      simp only [List.getElem_toArray, List.getElem_cons_succ, List.getElem_cons_zero]
      go_simp
      refine hK.out _ _ ?_ (fun hHeld2 => ?_)
      focus
        exact ⟨True.intro, (And.right hHeld).alloc HB0.out _⟩
      clear hHeld
      have hHeld := hHeld2
      clear hHeld2 hK K
      try simp only [List.getElem_toArray, List.getElem_cons_succ, List.getElem_cons_zero, Act.put, List.setIfInBounds_toArray, List.set_cons_zero, List.set_cons_succ]
      have HN : Hid (Sl (w1.drew.alloc (.cells #[.iface 223 (.agg #[.int .i64 5, .iface T0 v0, .iface T1 v1])] 143)) 1 (some ⟨w1.heap.size, 0, none⟩) 1 1 [.iface 223 (.agg #[.int .i64 5, .iface T0 v0, .iface T1 v1])]) := hid (sl_new1 _ rfl)
      have HT2 : Hid ((w1.drew.alloc (.cells #[.iface 223 (.agg #[.int .i64 5, .iface T0 v0, .iface T1 v1])] 143)).ownsRow B 143 1 (.slice (some ⟨g, 0, none⟩) m c) m (tvs us)) := hid (own_keep HT.out (below_drew (Below.refl _ _) |>.alloc (Nat.le_refl _) _))
      have HB2 : Hid (B ≤ (w1.drew.alloc (.cells #[.iface 223 (.agg #[.int .i64 5, .iface T0 v0, .iface T1 v1])] 143)).heap.size) := hid (Nat.le_trans HB0.out (by simp))
      refine wpAnyH_ready (rs := [19]) (by kernel_rfl) (by simp) ?_
      refine AllReadyH.cons rfl (fun K hK => ?_) AllReadyH.nil
      refine step_append_sl rfl (.tmp 80) (.tmp 95) 138 rfl B 143 Try.underlying138 info_tree rfl (by omega) rfl HT2.out rfl HN.out (by simp; rfl) (by unfold maxLen; omega) (by omega) HB2.out ?_
      intro v5 w5 ho5 hb5 hsz5 hk5
      simp only [List.getElem_toArray, List.getElem_cons_succ, List.getElem_cons_zero]
      refine hK.out _ _ ?_ (fun hHeld2 => ?_)
      focus
        exact ⟨True.intro, (And.right hHeld).trans hb5⟩
      clear hHeld
      have hHeld := hHeld2
      clear hHeld2 hK K
      try simp only [List.getElem_toArray, List.getElem_cons_succ, List.getElem_cons_zero, Act.put, List.setIfInBounds_toArray, List.set_cons_zero, List.set_cons_succ]
      refine wpAnyH_take (i := 20) (v := ?_) rfl (by kernel_rfl) (by kernel_rfl) (by kernel_rfl) (fun _ _ _ h => h) (Or.inl ⟨by rfl, ?_⟩) (by assumption) ?_
      rotate_left
      focus
        intro U hU
        try dsimp only at hU
        go_simp
        try (with_reducible rfl)
      simp only [List.getElem_toArray, List.getElem_cons_succ, List.getElem_cons_zero, Act.put, List.setIfInBounds_toArray, List.set_cons_zero, List.set_cons_succ]
      refine wpAnyH_take (i := 21) (v := ?_) rfl (by kernel_rfl) (by kernel_rfl) (by kernel_rfl) (fun _ _ _ h => h) (Or.inl ⟨by rfl, ?_⟩) (by assumption) ?_
      rotate_left
      focus
        intro U hU
        try dsimp only at hU
        go_simp
        try (with_reducible rfl)
      simp only [List.getElem_toArray, List.getElem_cons_succ, List.getElem_cons_zero, Act.put, List.setIfInBounds_toArray, List.set_cons_zero, List.set_cons_succ]
      obtain ⟨A5, c5, rfl, _⟩ := Sl.of_own ho5
      have HF := hid (HB1.out.trans (And.right hHeld))
      have HZ5 := hid (Nat.le_trans (Nat.le_of_lt HZ1.out) (And.right hHeld).size)
      have HO5 : Hid (OwnT w5 B A5 c5 (us ++ [.pair 5 t t2])) := hid (by
        unfold OwnT
        rw [tvs_append, List.length_append, HM.out]
        show w5.ownsRow B _ 1 _ _ (tvs us ++ [tv (.pair 5 t t2)])
        rw [HE.out]
        exact ho5)
      clear ho5 hb5 hsz5 hk5
      refine wpAnyH_done (by kernel_rfl) ?_ _
      clear hHeld
      go_wp2_with fail
      go_ret2
      exact ⟨HF.out, HZ5.out, A5, c5, by rw [List.length_append, HM.out]; rfl, HO5.out⟩
  · skip
    simp only [List.getElem_toArray, List.getElem_cons_succ, List.getElem_cons_zero]
    go_simp
    refine hK.out _ _ ?_ (fun hHeld2 => ?_)
    focus
      exact hHeld
    clear hHeld
    have hHeld := hHeld2
    clear hHeld2 hK K
    try simp only [List.getElem_toArray, List.getElem_cons_succ, List.getElem_cons_zero, Act.put, List.setIfInBounds_toArray, List.set_cons_zero, List.set_cons_succ]
    refine wpAnyH_ready (rs := [5, 15]) (by kernel_rfl) (by simp) ?_
    refine (AllReadyH.cons rfl (fun K hK => ?_) (AllReadyH.cons rfl (fun K hK => ?_) AllReadyH.nil))
    · skip
      simp only [List.getElem_toArray, List.getElem_cons_succ, List.getElem_cons_zero]
      go_simp
      refine hK.out _ _ ?_ (fun hHeld2 => ?_)
      focus
        exact hHeld
      clear hHeld
      have hHeld := hHeld2
      clear hHeld2 hK K
      try simp only [List.getElem_toArray, List.getElem_cons_succ, List.getElem_cons_zero, Act.put, List.setIfInBounds_toArray, List.set_cons_zero, List.set_cons_succ]
      refine wpAnyH_ready (rs := [15]) (by kernel_rfl) (by simp) ?_
      refine (AllReadyH.cons rfl (fun K hK => ?_) AllReadyH.nil)
      simp only [List.getElem_toArray, List.getElem_cons_succ, List.getElem_cons_zero]
      go_simp
      refine hK.out _ _ ?_ (fun hHeld2 => ?_)
      focus
        exact hHeld
      clear hHeld
      have hHeld := hHeld2
      clear hHeld2 hK K
      try simp only [List.getElem_toArray, List.getElem_cons_succ, List.getElem_cons_zero, Act.put, List.setIfInBounds_toArray, List.set_cons_zero, List.set_cons_succ]
      refine wpAnyH_take (i := 16) (v := ?_) rfl (by kernel_rfl) (by kernel_rfl) (by kernel_rfl) (fun _ _ _ h => h) (Or.inl ⟨by rfl, ?_⟩) (by assumption) ?_
      rotate_left
      focus
        intro U hU
        try dsimp only at hU
        go_simp
        try (with_reducible rfl)
      simp only [List.getElem_toArray, List.getElem_cons_succ, List.getElem_cons_zero, Act.put, List.setIfInBounds_toArray, List.set_cons_zero, List.set_cons_succ]
      refine wpAnyH_take (i := 17) (v := ?_) rfl (by kernel_rfl) (by kernel_rfl) (by kernel_rfl) (fun _ _ _ h => h) (Or.inl ⟨by rfl, ?_⟩) (by assumption) ?_
      rotate_left
      focus
        intro U hU
        try dsimp only at hU
        go_simp
        try (with_reducible rfl)
      simp only [List.getElem_toArray, List.getElem_cons_succ, List.getElem_cons_zero, Act.put, List.setIfInBounds_toArray, List.set_cons_zero, List.set_cons_succ]
      refine wpAnyH_ready (rs := [18]) (by kernel_rfl) (by simp) ?_
      refine AllReadyH.cons rfl (fun K hK => ?_) AllReadyH.nil
      simp only [List.getElem_toArray, List.getElem_cons_succ, List.getElem_cons_zero]
      go_simp
      refine hK.out _ _ ?_ (fun hHeld2 => ?_)
      focus
        exact ⟨True.intro, (And.right hHeld).alloc HB0.out _⟩
      clear hHeld
      have hHeld := hHeld2
      clear hHeld2 hK K
      try simp only [List.getElem_toArray, List.getElem_cons_succ, List.getElem_cons_zero, Act.put, List.setIfInBounds_toArray, List.set_cons_zero, List.set_cons_succ]
      have HN : Hid (Sl (w1.drew.alloc (.cells #[.iface 223 (.agg #[.int .i64 5, .iface T0 v0, .iface T1 v1])] 143)) 1 (some ⟨w1.heap.size, 0, none⟩) 1 1 [.iface 223 (.agg #[.int .i64 5, .iface T0 v0, .iface T1 v1])]) := hid (sl_new1 _ rfl)
      have HT2 : Hid ((w1.drew.alloc (.cells #[.iface 223 (.agg #[.int .i64 5, .iface T0 v0, .iface T1 v1])] 143)).ownsRow B 143 1 (.slice (some ⟨g, 0, none⟩) m c) m (tvs us)) := hid (own_keep HT.out (below_drew (Below.refl _ _) |>.alloc (Nat.le_refl _) _))
      have HB2 : Hid (B ≤ (w1.drew.alloc (.cells #[.iface 223 (.agg #[.int .i64 5, .iface T0 v0, .iface T1 v1])] 143)).heap.size) := hid (Nat.le_trans HB0.out (by simp))
      refine wpAnyH_ready (rs := [19]) (by kernel_rfl) (by simp) ?_
      refine AllReadyH.cons rfl (fun K hK => ?_) AllReadyH.nil
      refine step_append_sl rfl (.tmp 80) (.tmp 95) 138 rfl B 143 Try.underlying138 info_tree rfl (by omega) rfl HT2.out rfl HN.out (by simp; rfl) (by unfold maxLen; omega) (by omega) HB2.out ?_
      intro v5 w5 ho5 hb5 hsz5 hk5
      simp only [List.getElem_toArray, List.getElem_cons_succ, List.getElem_cons_zero]
      refine hK.out _ _ ?_ (fun hHeld2 => ?_)
      focus
        exact ⟨True.intro, (And.right hHeld).trans hb5⟩
      clear hHeld
      have hHeld := hHeld2
      clear hHeld2 hK K
      try simp only [List.getElem_toArray, List.getElem_cons_succ, List.getElem_cons_zero, Act.put, List.setIfInBounds_toArray, List.set_cons_zero, List.set_cons_succ]
      refine wpAnyH_take (i := 20) (v := ?_) rfl (by kernel_rfl) (by kernel_rfl) (by kernel_rfl) (fun _ _ _ h => h) (Or.inl ⟨by rfl, ?_⟩) (by assumption) ?_
      rotate_left
      focus
        intro U hU
        try dsimp only at hU
        go_simp
        try (with_reducible rfl)
      simp only [List.getElem_toArray, List.getElem_cons_succ, List.getElem_cons_zero, Act.put, List.setIfInBounds_toArray, List.set_cons_zero, List.set_cons_succ]
      refine wpAnyH_take (i := 21) (v := ?_) rfl (by kernel_rfl) (by kernel_rfl) (by kernel_rfl) (fun _ _ _ h => h) (Or.inl ⟨by rfl, ?_⟩) (by assumption) ?_
      rotate_left
      focus
        intro U hU
        try dsimp only at hU
        go_simp
        try (with_reducible rfl)
      simp only [List.getElem_toArray, List.getElem_cons_succ, List.getElem_cons_zero, Act.put, List.setIfInBounds_toArray, List.set_cons_zero, List.set_cons_succ]
      obtain ⟨A5, c5, rfl, _⟩ := Sl.of_own ho5
      have HF := hid (HB1.out.trans (And.right hHeld))
      have HZ5 := hid (Nat.le_trans (Nat.le_of_lt HZ1.out) (And.right hHeld).size)
      have HO5 : Hid (OwnT w5 B A5 c5 (us ++ [.pair 5 t t2])) := hid (by
        unfold OwnT
        rw [tvs_append, List.length_append, HM.out]
        show w5.ownsRow B _ 1 _ _ (tvs us ++ [tv (.pair 5 t t2)])
        rw [HE.out]
        exact ho5)
      clear ho5 hb5 hsz5 hk5
      refine wpAnyH_done (by kernel_rfl) ?_ _
      clear hHeld
      go_wp2_with fail
      go_ret2
      exact ⟨HF.out, HZ5.out, A5, c5, by rw [List.length_append, HM.out]; rfl, HO5.out⟩
    · skip
      simp only [List.getElem_toArray, List.getElem_cons_succ, List.getElem_cons_zero]
      go_simp
      refine hK.out _ _ ?_ (fun hHeld2 => ?_)
      focus
        exact hHeld
      clear hHeld
      have hHeld := hHeld2
      clear hHeld2 hK K
      try simp only [List.getElem_toArray, List.getElem_cons_succ, List.getElem_cons_zero, Act.put, List.setIfInBounds_toArray, List.set_cons_zero, List.set_cons_succ]
      refine wpAnyH_ready (rs := [5]) (by kernel_rfl) (by simp) ?_
      refine (AllReadyH.cons rfl (fun K hK => ?_) AllReadyH.nil)
      simp only [List.getElem_toArray, List.getElem_cons_succ, List.getElem_cons_zero]
      go_simp
      refine hK.out _ _ ?_ (fun hHeld2 => ?_)
      focus
        exact hHeld
      clear hHeld
      have hHeld := hHeld2
      clear hHeld2 hK K
      try simp only [List.getElem_toArray, List.getElem_cons_succ, List.getElem_cons_zero, Act.put, List.setIfInBounds_toArray, List.set_cons_zero, List.set_cons_succ]
      refine wpAnyH_take (i := 16) (v := ?_) rfl (by kernel_rfl) (by kernel_rfl) (by kernel_rfl) (fun _ _ _ h => h) (Or.inl ⟨by rfl, ?_⟩) (by assumption) ?_
      rotate_left
      focus
        intro U hU
        try dsimp only at hU
        go_simp
        try (with_reducible rfl)
      simp only [List.getElem_toArray, List.getElem_cons_succ, List.getElem_cons_zero, Act.put, List.setIfInBounds_toArray, List.set_cons_zero, List.set_cons_succ]
      refine wpAnyH_take (i := 17) (v := ?_) rfl (by kernel_rfl) (by kernel_rfl) (by kernel_rfl) (fun _ _ _ h => h) (Or.inl ⟨by rfl, ?_⟩) (by assumption) ?_
      rotate_left
      focus
        intro U hU
        try dsimp only at hU
        go_simp
        try (with_reducible rfl)
      simp only [List.getElem_toArray, List.getElem_cons_succ, List.getElem_cons_zero, Act.put, List.setIfInBounds_toArray, List.set_cons_zero, List.set_cons_succ]
      refine wpAnyH_ready (rs := [18]) (by kernel_rfl) (by simp) ?_
      refine AllReadyH.cons rfl (fun K hK => ?_) AllReadyH.nil
      simp only [List.getElem_toArray, List.getElem_cons_succ, List.getElem_cons_zero]
      go_simp
      refine hK.out _ _ ?_ (fun hHeld2 => ?_)
      focus
        exact ⟨True.intro, (And.right hHeld).alloc HB0.out _⟩
      clear hHeld
      have hHeld := hHeld2
      clear hHeld2 hK K
      try simp only [List.getElem_toArray, List.getElem_cons_succ, List.getElem_cons_zero, Act.put, List.setIfInBounds_toArray, List.set_cons_zero, List.set_cons_succ]
      have HN : Hid (Sl (w1.drew.alloc (.cells #[.iface 223 (.agg #[.int .i64 5, .iface T0 v0, .iface T1 v1])] 143)) 1 (some ⟨w1.heap.size, 0, none⟩) 1 1 [.iface 223 (.agg #[.int .i64 5, .iface T0 v0, .iface T1 v1])]) := hid (sl_new1 _ rfl)
      have HT2 : Hid ((w1.drew.alloc (.cells #[.iface 223 (.agg #[.int .i64 5, .iface T0 v0, .iface T1 v1])] 143)).ownsRow B 143 1 (.slice (some ⟨g, 0, none⟩) m c) m (tvs us)) := hid (own_keep HT.out (below_drew (Below.refl _ _) |>.alloc (Nat.le_refl _) _))
      have HB2 : Hid (B ≤ (w1.drew.alloc (.cells #[.iface 223 (.agg #[.int .i64 5, .iface T0 v0, .iface T1 v1])] 143)).heap.size) := hid (Nat.le_trans HB0.out (by simp))
      refine wpAnyH_ready (rs := [19]) (by kernel_rfl) (by simp) ?_
      refine AllReadyH.cons rfl (fun K hK => ?_) AllReadyH.nil
      refine step_append_sl rfl (.tmp 80) (.tmp 95) 138 rfl B 143 Try.underlying138 info_tree rfl (by omega) rfl HT2.out rfl HN.out (by simp; rfl) (by unfold maxLen; omega) (by omega) HB2.out ?_
      intro v5 w5 ho5 hb5 hsz5 hk5
      simp only [List.getElem_toArray, List.getElem_cons_succ, List.getElem_cons_zero]
      refine hK.out _ _ ?_ (fun hHeld2 => ?_)
      focus
        exact ⟨True.intro, (And.right hHeld).trans hb5⟩
      clear hHeld
      have hHeld := hHeld2
      clear hHeld2 hK K
      try simp only [List.getElem_toArray, List.getElem_cons_succ, List.getElem_cons_zero, Act.put, List.setIfInBounds_toArray, List.set_cons_zero, List.set_cons_succ]
      refine wpAnyH_take (i := 20) (v := ?_) rfl (by kernel_rfl) (by kernel_rfl) (by kernel_rfl) (fun _ _ _ h => h) (Or.inl ⟨by rfl, ?_⟩) (by assumption) ?_
      rotate_left
      focus
        intro U hU
        try dsimp only at hU
        go_simp
        try (with_reducible rfl)
      simp only [List.getElem_toArray, List.getElem_cons_succ, List.getElem_cons_zero, Act.put, List.setIfInBounds_toArray, List.set_cons_zero, List.set_cons_succ]
      refine wpAnyH_take (i := 21) (v := ?_) rfl (by kernel_rfl) (by kernel_rfl) (by kernel_rfl) (fun _ _ _ h => h) (Or.inl ⟨by rfl, ?_⟩) (by assumption) ?_
      rotate_left
      focus
        intro U hU
        try dsimp only at hU
        go_simp
        try (with_reducible rfl)
      simp only [List.getElem_toArray, List.getElem_cons_succ, List.getElem_cons_zero, Act.put, List.setIfInBounds_toArray, List.set_cons_zero, List.set_cons_succ]
      obtain ⟨A5, c5, rfl, _⟩ := Sl.of_own ho5
      have HF := hid (HB1.out.trans (And.right hHeld))
      have HZ5 := hid (Nat.le_trans (Nat.le_of_lt HZ1.out) (And.right hHeld).size)
      have HO5 : Hid (OwnT w5 B A5 c5 (us ++ [.pair 5 t t2])) := hid (by
        unfold OwnT
        rw [tvs_append, List.length_append, HM.out]
        show w5.ownsRow B _ 1 _ _ (tvs us ++ [tv (.pair 5 t t2)])
        rw [HE.out]
        exact ho5)
      clear ho5 hb5 hsz5 hk5
      refine wpAnyH_done (by kernel_rfl) ?_ _
      clear hHeld
      go_wp2_with fail
      go_ret2
      exact ⟨HF.out, HZ5.out, A5, c5, by rw [List.length_append, HM.out]; rfl, HO5.out⟩
  · skip
    simp only [List.getElem_toArray, List.getElem_cons_succ, List.getElem_cons_zero]
    go_simp
    refine hK.out _ _ ?_ (fun hHeld2 => ?_)
    focus
      exact hHeld
    clear hHeld
    have hHeld := hHeld2
    clear hHeld2 hK K
    try simp only [List.getElem_toArray, List.getElem_cons_succ, List.getElem_cons_zero, Act.put, List.setIfInBounds_toArray, List.set_cons_zero, List.set_cons_succ]
    refine wpAnyH_ready (rs := [5, 10]) (by kernel_rfl) (by simp) ?_
    refine (AllReadyH.cons rfl (fun K hK => ?_) (AllReadyH.cons rfl (fun K hK => ?_) AllReadyH.nil))
    · skip
      simp only [List.getElem_toArray, List.getElem_cons_succ, List.getElem_cons_zero]
      go_simp
      refine hK.out _ _ ?_ (fun hHeld2 => ?_)
      focus
        exact hHeld
      clear hHeld
      have hHeld := hHeld2
      clear hHeld2 hK K
      try simp only [List.getElem_toArray, List.getElem_cons_succ, List.getElem_cons_zero, Act.put, List.setIfInBounds_toArray, List.set_cons_zero, List.set_cons_succ]
      refine wpAnyH_ready (rs := [10]) (by kernel_rfl) (by simp) ?_
      refine (AllReadyH.cons rfl (fun K hK => ?_) AllReadyH.nil)
      simp only [List.getElem_toArray, List.getElem_cons_succ, List.getElem_cons_zero]
      go_simp
      refine hK.out _ _ ?_ (fun hHeld2 => ?_)
      focus
        exact hHeld
      clear hHeld
      have hHeld := hHeld2
      clear hHeld2 hK K
      try simp only [List.getElem_toArray, List.getElem_cons_succ, List.getElem_cons_zero, Act.put, List.setIfInBounds_toArray, List.set_cons_zero, List.set_cons_succ]
      refine wpAnyH_take (i := 16) (v := ?_) rfl (by kernel_rfl) (by kernel_rfl) (by kernel_rfl) (fun _ _ _ h => h) (Or.inl ⟨by rfl, ?_⟩) (by assumption) ?_
      rotate_left
      focus
        intro U hU
        try dsimp only at hU
        go_simp
        try (with_reducible rfl)
      simp only [List.getElem_toArray, List.getElem_cons_succ, List.getElem_cons_zero, Act.put, List.setIfInBounds_toArray, List.set_cons_zero, List.set_cons_succ]
      refine wpAnyH_take (i := 17) (v := ?_) rfl (by kernel_rfl) (by kernel_rfl) (by kernel_rfl) (fun _ _ _ h => h) (Or.inl ⟨by rfl, ?_⟩) (by assumption) ?_
      rotate_left
      focus
        intro U hU
        try dsimp only at hU
        go_simp
        try (with_reducible rfl)
      simp only [List.getElem_toArray, List.getElem_cons_succ, List.getElem_cons_zero, Act.put, List.setIfInBounds_toArray, List.set_cons_zero, List.set_cons_succ]
      refine wpAnyH_ready (rs := [18]) (by kernel_rfl) (by simp) ?_
      refine AllReadyH.cons rfl (fun K hK => ?_) AllReadyH.nil
      simp only [List.getElem_toArray, List.getElem_cons_succ, List.getElem_cons_zero]
      go_simp
      refine hK.out _ _ ?_ (fun hHeld2 => ?_)
      focus
        exact ⟨True.intro, (And.right hHeld).alloc HB0.out _⟩
      clear hHeld
      have hHeld := hHeld2
      clear hHeld2 hK K
      try simp only [List.getElem_toArray, List.getElem_cons_succ, List.getElem_cons_zero, Act.put, List.setIfInBounds_toArray, List.set_cons_zero, List.set_cons_succ]
      have HN : Hid (Sl (w1.drew.alloc (.cells #[.iface 223 (.agg #[.int .i64 5, .iface T0 v0, .iface T1 v1])] 143)) 1 (some ⟨w1.heap.size, 0, none⟩) 1 1 [.iface 223 (.agg #[.int .i64 5, .iface T0 v0, .iface T1 v1])]) := hid (sl_new1 _ rfl)
      have HT2 : Hid ((w1.drew.alloc (.cells #[.iface 223 (.agg #[.int .i64 5, .iface T0 v0, .iface T1 v1])] 143)).ownsRow B 143 1 (.slice (some ⟨g, 0, none⟩) m c) m (tvs us)) := hid (own_keep HT.out (below_drew (Below.refl _ _) |>.alloc (Nat.le_refl _) _))
      have HB2 : Hid (B ≤ (w1.drew.alloc (.cells #[.iface 223 (.agg #[.int .i64 5, .iface T0 v0, .iface T1 v1])] 143)).heap.size) := hid (Nat.le_trans HB0.out (by simp))
      refine wpAnyH_ready (rs := [19]) (by kernel_rfl) (by simp) ?_
      refine AllReadyH.cons rfl (fun K hK => ?_) AllReadyH.nil
      refine step_append_sl rfl (.tmp 80) (.tmp 95) 138 rfl B 143 Try.underlying138 info_tree rfl (by omega) rfl HT2.out rfl HN.out (by simp; rfl) (by unfold maxLen; omega) (by omega) HB2.out ?_
      intro v5 w5 ho5 hb5 hsz5 hk5
      simp only [List.getElem_toArray, List.getElem_cons_succ, List.getElem_cons_zero]
      refine hK.out _ _ ?_ (fun hHeld2 => ?_)
      focus
        exact ⟨True.intro, (And.right hHeld).trans hb5⟩
      clear hHeld
      have hHeld := hHeld2
      clear hHeld2 hK K
      try simp only [List.getElem_toArray, List.getElem_cons_succ, List.getElem_cons_zero, Act.put, List.setIfInBounds_toArray, List.set_cons_zero, List.set_cons_succ]
      refine wpAnyH_take (i := 20) (v := ?_) rfl (by kernel_rfl) (by kernel_rfl) (by kernel_rfl) (fun _ _ _ h => h) (Or.inl ⟨by rfl, ?_⟩) (by assumption) ?_
      rotate_left
      focus
        intro U hU
        try dsimp only at hU
        go_simp
        try (with_reducible rfl)
      simp only [List.getElem_toArray, List.getElem_cons_succ, List.getElem_cons_zero, Act.put, List.setIfInBounds_toArray, List.set_cons_zero, List.set_cons_succ]
      refine wpAnyH_take (i := 21) (v := ?_) rfl (by kernel_rfl) (by kernel_rfl) (by kernel_rfl) (fun _ _ _ h => h) (Or.inl ⟨by rfl, ?_⟩) (by assumption) ?_
      rotate_left
      focus
        intro U hU
        try dsimp only at hU
        go_simp
        try (with_reducible rfl)
      simp only [List.getElem_toArray, List.getElem_cons_succ, List.getElem_cons_zero, Act.put, List.setIfInBounds_toArray, List.set_cons_zero, List.set_cons_succ]
      obtain ⟨A5, c5, rfl, _⟩ := Sl.of_own ho5
      have HF := hid (HB1.out.trans (And.right hHeld))
      have HZ5 := hid (Nat.le_trans (Nat.le_of_lt HZ1.out) (And.right hHeld).size)
      have HO5 : Hid (OwnT w5 B A5 c5 (us ++ [.pair 5 t t2])) := hid (by
        unfold OwnT
        rw [tvs_append, List.length_append, HM.out]
        show w5.ownsRow B _ 1 _ _ (tvs us ++ [tv (.pair 5 t t2)])
        rw [HE.out]
        exact ho5)
      clear ho5 hb5 hsz5 hk5
      refine wpAnyH_done (by kernel_rfl) ?_ _
      clear hHeld
      go_wp2_with fail
      go_ret2
      exact ⟨HF.out, HZ5.out, A5, c5, by rw [List.length_append, HM.out]; rfl, HO5.out⟩
    · skip
      simp only [List.getElem_toArray, List.getElem_cons_succ, List.getElem_cons_zero]
      go_simp
      refine hK.out _ _ ?_ (fun hHeld2 => ?_)
      focus
        exact hHeld
      clear hHeld
      have hHeld := hHeld2
      clear hHeld2 hK K
      try simp only [List.getElem_toArray, List.getElem_cons_succ, List.getElem_cons_zero, Act.put, List.setIfInBounds_toArray, List.set_cons_zero, List.set_cons_succ]
      refine wpAnyH_ready (rs := [5]) (by kernel_rfl) (by simp) ?_
      refine (AllReadyH.cons rfl (fun K hK => ?_) AllReadyH.nil)
      simp only [List.getElem_toArray, List.getElem_cons_succ, List.getElem_cons_zero]
      go_simp
      refine hK.out _ _ ?_ (fun hHeld2 => ?_)
      focus
        exact hHeld
      clear hHeld
      have hHeld := hHeld2
      clear hHeld2 hK K
      try simp only [List.getElem_toArray, List.getElem_cons_succ, List.getElem_cons_zero, Act.put, List.setIfInBounds_toArray, List.set_cons_zero, List.set_cons_succ]
      refine wpAnyH_take (i := 16) (v := ?_) rfl (by kernel_rfl) (by kernel_rfl) (by kernel_rfl) (fun _ _ _ h => h) (Or.inl ⟨by rfl, ?_⟩) (by assumption) ?_
      rotate_left
      focus
        intro U hU
        try dsimp only at hU
        go_simp
        try (with_reducible rfl)
      simp only [List.getElem_toArray, List.getElem_cons_succ, List.getElem_cons_zero, Act.put, List.setIfInBounds_toArray, List.set_cons_zero, List.set_cons_succ]
      refine wpAnyH_take (i := 17) (v := ?_) rfl (by kernel_rfl) (by kernel_rfl) (by kernel_rfl) (fun _ _ _ h => h) (Or.inl ⟨by rfl, ?_⟩) (by assumption) ?_
      rotate_left
      focus
        intro U hU
        try dsimp only at hU
        go_simp
        try (with_reducible rfl)
      simp only [List.getElem_toArray, List.getElem_cons_succ, List.getElem_cons_zero, Act.put, List.setIfInBounds_toArray, List.set_cons_zero, List.set_cons_succ]
      refine wpAnyH_ready (rs := [18]) (by kernel_rfl) (by simp) ?_
      refine AllReadyH.cons rfl (fun K hK => ?_) AllReadyH.nil
      simp only [List.getElem_toArray, List.getElem_cons_succ, List.getElem_cons_zero]
      go_simp
      refine hK.out _ _ ?_ (fun hHeld2 => ?_)
      focus
        exact ⟨True.intro, (And.right hHeld).alloc HB0.out _⟩
      clear hHeld
      have hHeld := hHeld2
      clear hHeld2 hK K
      try simp only [List.getElem_toArray, List.getElem_cons_succ, List.getElem_cons_zero, Act.put, List.setIfInBounds_toArray, List.set_cons_zero, List.set_cons_succ]
      have HN : Hid (Sl (w1.drew.alloc (.cells #[.iface 223 (.agg #[.int .i64 5, .iface T0 v0, .iface T1 v1])] 143)) 1 (some ⟨w1.heap.size, 0, none⟩) 1 1 [.iface 223 (.agg #[.int .i64 5, .iface T0 v0, .iface T1 v1])]) := hid (sl_new1 _ rfl)
      have HT2 : Hid ((w1.drew.alloc (.cells #[.iface 223 (.agg #[.int .i64 5, .iface T0 v0, .iface T1 v1])] 143)).ownsRow B 143 1 (.slice (some ⟨g, 0, none⟩) m c) m (tvs us)) := hid (own_keep HT.out (below_drew (Below.refl _ _) |>.alloc (Nat.le_refl _) _))
      have HB2 : Hid (B ≤ (w1.drew.alloc (.cells #[.iface 223 (.agg #[.int .i64 5, .iface T0 v0, .iface T1 v1])] 143)).heap.size) := hid (Nat.le_trans HB0.out (by simp))
      refine wpAnyH_ready (rs := [19]) (by kernel_rfl) (by simp) ?_
      refine AllReadyH.cons rfl (fun K hK => ?_) AllReadyH.nil
      refine step_append_sl rfl (.tmp 80) (.tmp 95) 138 rfl B 143 Try.underlying138 info_tree rfl (by omega) rfl HT2.out rfl HN.out (by simp; rfl) (by unfold maxLen; omega) (by omega) HB2.out ?_
      intro v5 w5 ho5 hb5 hsz5 hk5
      simp only [List.getElem_toArray, List.getElem_cons_succ, List.getElem_cons_zero]
      refine hK.out _ _ ?_ (fun hHeld2 => ?_)
      focus
        exact ⟨True.intro, (And.right hHeld).trans hb5⟩
      clear hHeld
      have hHeld := hHeld2
      clear hHeld2 hK K
      try simp only [List.getElem_toArray, List.getElem_cons_succ, List.getElem_cons_zero, Act.put, List.setIfInBounds_toArray, List.set_cons_zero, List.set_cons_succ]
      refine wpAnyH_take (i := 20) (v := ?_) rfl (by kernel_rfl) (by kernel_rfl) (by kernel_rfl) (fun _ _ _ h => h) (Or.inl ⟨by rfl, ?_⟩) (by assumption) ?_
      rotate_left
      focus
        intro U hU
        try dsimp only at hU
        go_simp
        try (with_reducible rfl)
      simp only [List.getElem_toArray, List.getElem_cons_succ, List.getElem_cons_zero, Act.put, List.setIfInBounds_toArray, List.set_cons_zero, List.set_cons_succ]
      refine wpAnyH_take (i := 21) (v := ?_) rfl (by kernel_rfl) (by kernel_rfl) (by kernel_rfl) (fun _ _ _ h => h) (Or.inl ⟨by rfl, ?_⟩) (by assumption) ?_
      rotate_left
      focus
        intro U hU
        try dsimp only at hU
        go_simp
        try (with_reducible rfl)
      simp only [List.getElem_toArray, List.getElem_cons_succ, List.getElem_cons_zero, Act.put, List.setIfInBounds_toArray, List.set_cons_zero, List.set_cons_succ]
      obtain ⟨A5, c5, rfl, _⟩ := Sl.of_own ho5
      have HF := hid (HB1.out.trans (And.right hHeld))
      have HZ5 := hid (Nat.le_trans (Nat.le_of_lt HZ1.out) (And.right hHeld).size)
      have HO5 : Hid (OwnT w5 B A5 c5 (us ++ [.pair 5 t t2])) := hid (by
        unfold OwnT
        rw [tvs_append, List.length_append, HM.out]
        show w5.ownsRow B _ 1 _ _ (tvs us ++ [tv (.pair 5 t t2)])
        rw [HE.out]
        exact ho5)
      clear ho5 hb5 hsz5 hk5
      refine wpAnyH_done (by kernel_rfl) ?_ _
      clear hHeld
      go_wp2_with fail
      go_ret2
      exact ⟨HF.out, HZ5.out, A5, c5, by rw [List.length_append, HM.out]; rfl, HO5.out⟩
end Go.Proofs.Ytdphdodjidbngaa
