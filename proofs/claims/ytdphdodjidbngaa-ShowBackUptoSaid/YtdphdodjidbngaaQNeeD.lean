/- Needs: joined, operands, depth, asks: contracts. -/
import Derived.Test.YtdphdodjidbngaaQNeeC
import Derived.Lib.MinMax
namespace Go.Proofs.Ytdphdodjidbngaa
open Go.RowKit Go.Sort
set_option linter.unusedVariables false
set_option linter.unusedSimpArgs false

theorem joined_any (B : Nat) (ts : List Nt) (A : Option Addr) (c : Nat) (op n : Int) (W : World) (h : OwnT W B A c ts) (hB : B ≤ W.heap.size) (hl : ts.length ≤ 100) :
    Calls Try.prog 100 #[.slice A ts.length c, .agg #[.int .i64 op, .int .i64 n]] W (JoinR B (joinT ts (op, n)) W) := by
  by_cases h1 : op = 2 ∧ 0 ≤ n ∧ n < 16
  · exact joined_attr B ts A c op n W h hB hl h1.1 h1.2.1 h1.2.2
  by_cases h2 : n = 0
  · subst h2
    by_cases h3 : op = 1
    · exact joined_yes B ts A c op 0 W h hB hl h3 rfl
    by_cases h4 : op = 3 ∧ 1 ≤ ts.length
    · obtain ⟨rfl, h4⟩ := h4
      obtain ⟨g, rfl⟩ := own_at0 h h4
      have e := last1 ts .yes h4
      have hj : joinT ts (3, 0) = some (ts.take (ts.length - 1) ++ [.not (ts.getD (ts.length - 1) .yes)]) := by simp [joinT, h4]
      rw [hj]
      have hm : (ts.take (ts.length - 1)).length = ts.length - 1 := by simp
      have h' := joined_not B (ts.take (ts.length - 1)) (ts.getD (ts.length - 1) .yes) (ts.length - 1) g c W hm (by
        have h9 : OwnT W B (some ⟨g, 0, none⟩) c ts := h
        unfold OwnT at h9
        rw [show ts.length - 1 + 1 = ts.length by omega]
        have e2 : tvs (ts.take (ts.length - 1)) ++ [tv (ts.getD (ts.length - 1) .yes)] = tvs ts := by
          conv => rhs; rw [e]
          rw [tvs_append]; rfl
        rw [e2]
        exact h9) hB (by omega)
      rw [show ts.length - 1 + 1 = ts.length by omega] at h'
      exact h'
    by_cases h5 : (op = 4 ∨ op = 5) ∧ 2 ≤ ts.length
    · obtain ⟨ho, h5⟩ := h5
      obtain ⟨g, rfl⟩ := own_at0 h (by omega)
      have e := last2 ts .yes h5
      have hj : joinT ts (op, 0) = some (ts.take (ts.length - 2) ++ [.pair op (ts.getD (ts.length - 2) .yes) (ts.getD (ts.length - 1) .yes)]) := by
        rcases ho with rfl | rfl <;> simp [joinT, h5]
      rw [hj]
      have hm : (ts.take (ts.length - 2)).length = ts.length - 2 := by simp
      have hown : W.ownsRow B 143 1 (.slice (some ⟨g, 0, none⟩) (ts.length - 2 + 2) c) (ts.length - 2 + 2) (tvs (ts.take (ts.length - 2)) ++ [tv (ts.getD (ts.length - 2) .yes), tv (ts.getD (ts.length - 1) .yes)]) := by
        have h9 : OwnT W B (some ⟨g, 0, none⟩) c ts := h
        unfold OwnT at h9
        rw [show ts.length - 2 + 2 = ts.length by omega]
        have e2 : tvs (ts.take (ts.length - 2)) ++ [tv (ts.getD (ts.length - 2) .yes), tv (ts.getD (ts.length - 1) .yes)] = tvs ts := by
          conv => rhs; rw [e]
          rw [tvs_append]; rfl
        rw [e2]
        exact h9
      rcases ho with rfl | rfl
      · have h' := joined_pair4 B (ts.take (ts.length - 2)) (ts.getD (ts.length - 2) .yes) (ts.getD (ts.length - 1) .yes) (ts.length - 2) g c W hm hown hB (by omega)
        rw [show ts.length - 2 + 2 = ts.length by omega] at h'
        exact h'
      · have h' := joined_pair5 B (ts.take (ts.length - 2)) (ts.getD (ts.length - 2) .yes) (ts.getD (ts.length - 1) .yes) (ts.length - 2) g c W hm hown hB (by omega)
        rw [show ts.length - 2 + 2 = ts.length by omega] at h'
        exact h'
    exact joined_none B ts A c op 0 W h hB hl (by
      unfold joinT
      simp only
      rw [if_neg h1, if_neg (by omega), if_neg h3, if_neg h4, if_neg h5])
  · exact joined_none B ts A c op n W h hB hl (by
      unfold joinT
      simp only
      rw [if_neg h1, if_pos h2])

theorem sl_new2 {w : World} {e x : Nat} (u v : Value) (hx : x = w.heap.size) : Sl (w.alloc (.cells #[u, v] e)) 1 (some ⟨x, 0, none⟩) 2 2 [u, v] := by
  subst hx
  refine ⟨rfl, Nat.le_refl _, by unfold maxLen; omega, fun _ => ⟨_, 0, rfl, fun i hi => ?_⟩⟩
  rw [cell_of_row _ _ _ _ _ _ (heap_alloc_new w (.cells #[u, v] e))]
  simp

theorem ta_not (v : Value) (w : World) : (Instr.typeAssert (.iface 221 v) 143 221 true).run Try.prog w = .ok (.tuple #[v, .bool true]) w := by kernel_rfl
theorem ta_not_y (v : Value) (w : World) : (Instr.typeAssert (.iface 219 v) 143 221 true).run Try.prog w = .ok (.tuple #[.agg #[.nilIface], .bool false]) w := by kernel_rfl
theorem ta_not_a (v : Value) (w : World) : (Instr.typeAssert (.iface 183 v) 143 221 true).run Try.prog w = .ok (.tuple #[.agg #[.nilIface], .bool false]) w := by kernel_rfl
theorem ta_not_p (v : Value) (w : World) : (Instr.typeAssert (.iface 223 v) 143 221 true).run Try.prog w = .ok (.tuple #[.agg #[.nilIface], .bool false]) w := by kernel_rfl
theorem ta_pair (v : Value) (w : World) : (Instr.typeAssert (.iface 223 v) 143 223 true).run Try.prog w = .ok (.tuple #[v, .bool true]) w := by kernel_rfl
theorem ta_pair_y (v : Value) (w : World) : (Instr.typeAssert (.iface 219 v) 143 223 true).run Try.prog w = .ok (.tuple #[.agg #[.int .i64 0, .nilIface, .nilIface], .bool false]) w := by kernel_rfl
theorem ta_pair_a (v : Value) (w : World) : (Instr.typeAssert (.iface 183 v) 143 223 true).run Try.prog w = .ok (.tuple #[.agg #[.int .i64 0, .nilIface, .nilIface], .bool false]) w := by kernel_rfl
theorem ta_attr (v : Value) (w : World) : (Instr.typeAssert (.iface 183 v) 143 183 true).run Try.prog w = .ok (.tuple #[v, .bool true]) w := by kernel_rfl
theorem ta_attr_y (v : Value) (w : World) : (Instr.typeAssert (.iface 219 v) 143 183 true).run Try.prog w = .ok (.tuple #[.agg #[.int .i64 0], .bool false]) w := by kernel_rfl
theorem ta_attr_n (v : Value) (w : World) : (Instr.typeAssert (.iface 221 v) 143 183 true).run Try.prog w = .ok (.tuple #[.agg #[.int .i64 0], .bool false]) w := by kernel_rfl
theorem ta_attr_p (v : Value) (w : World) : (Instr.typeAssert (.iface 223 v) 143 183 true).run Try.prog w = .ok (.tuple #[.agg #[.int .i64 0], .bool false]) w := by kernel_rfl

set_option maxRecDepth 20000 in
set_option maxHeartbeats 2000000 in
theorem operands_any (t : Nt) (W : World) :
    Calls Try.prog 103 #[tv t] W fun e w' => ∃ A' c', e = .returned (.slice A' t.kids.length c') ∧ Sl w' 1 A' t.kids.length c' (tvs t.kids) ∧ Below W.heap.size W w' := by
  cases t with
  | yes =>
    simp only [tv]
    have a1 := ta_not_y
    have a2 := ta_pair_y
    go_enter Try.func103, Try.ntmps103
    go_wp2
    go_ret
    exact ⟨none, 0, rfl, Sl.nil _ _ _ _ (Nat.zero_le _), below2 _ _ _⟩
  | attr n =>
    simp only [tv]
    have a1 := ta_not_a
    have a2 := ta_pair_a
    go_enter Try.func103, Try.ntmps103
    go_wp2
    go_ret
    exact ⟨none, 0, rfl, Sl.nil _ _ _ _ (Nat.zero_le _), below2 _ _ _⟩
  | not t =>
    obtain ⟨T, v, ht⟩ := tv_iface t
    simp only [tv, ht]
    have a1 := ta_not
    go_enter Try.func103, Try.ntmps103
    go_wp2
    go_ret
    refine ⟨_, _, rfl, ?_, below2 _ _ _⟩
    rw [show tvs (Nt.not t).kids = [.iface T v] from by simp [tvs, Nt.kids, ht]]
    exact sl_new1 _ (by simp)
  | pair op a b =>
    obtain ⟨T, v, ht⟩ := tv_iface a
    obtain ⟨T2, v2, ht2⟩ := tv_iface b
    simp only [tv, ht, ht2]
    have a1 := ta_not_p
    have a2 := ta_pair
    go_enter Try.func103, Try.ntmps103
    go_wp2
    go_ret
    refine ⟨_, _, rfl, ?_, (below2 _ _ _).alloc (by simp; omega) _⟩
    rw [show tvs (Nt.pair op a b).kids = [.iface T v, .iface T2 v2] from by simp [tvs, Nt.kids, ht, ht2]]
    exact sl_new2 _ _ (by simp)

/-- The greatest depth of the first trees. -/
def maxD (l : List Nt) : Nat → Nat
  | 0 => 0
  | k + 1 => max (maxD l k) (l.getD k .yes).depth
theorem depth_kids (t : Nt) : t.depth = maxD t.kids t.kids.length + 1 := by cases t <;> simp [Nt.depth, Nt.kids, maxD]
theorem kid_depth {t k : Nt} (h : k ∈ t.kids) : k.depth < t.depth := by
  cases t with
  | yes => simp [Nt.kids] at h
  | attr n => simp [Nt.kids] at h
  | not t => simp [Nt.kids] at h; subst h; simp [Nt.depth]
  | pair op a b => simp [Nt.kids] at h; rcases h with rfl | rfl <;> simp [Nt.depth] <;> omega
theorem maxD_le (t : Nt) : ∀ n, n ≤ t.kids.length → maxD t.kids n ≤ t.depth := by
  intro n
  induction n with
  | zero => intro _; simp [maxD]
  | succ n ih =>
    intro h
    have h1 := ih (by omega)
    have h2 : n < t.kids.length := by omega
    have h3 := kid_depth (List.getElem_mem h2)
    rw [maxD, List.getD_eq_getElem?_getD, List.getElem?_eq_getElem h2]
    simp only [Option.getD_some]
    omega
theorem kids_len (t : Nt) : t.kids.length ≤ 2 := by cases t <;> simp [Nt.kids]

set_option maxRecDepth 20000 in
set_option maxHeartbeats 2000000 in
theorem depth_step (t : Nt) (W : World) (hd : t.depth ≤ 1000) (ih : ∀ k ∈ t.kids, ∀ w, Calls Try.prog 101 #[tv k] w fun e w' => e = .returned (.int .i64 (k.depth : Nat)) ∧ Below w.heap.size w w') :
    Calls Try.prog 101 #[tv t] W fun e w' => e = .returned (.int .i64 (t.depth : Nat)) ∧ Below W.heap.size W w' := by
  have HIH := hid ih
  have HOP := hid (operands_any t W)
  have HD := hid (depth_kids t)
  have HML := hid (maxD_le t)
  have hkl := kids_len t
  clear ih
  generalize hks : t.kids = ks at *
  clear hks
  go_enter Try.func101, Try.ntmps101
  go_wp2_with fail
  refine HOP.out.mono ?_
  rintro e w1 ⟨A, c, rfl, hs, hb⟩
  have HS := hid (fun w (hw : Below w1.heap.size w1 w) => hs.below hw)
  have HB := hid hb
  clear hs hb HOP
  go_wp2_with fail
  go_loopw [3, 5, 9] (fun m x i wr => ∃ k : Nat, k ≤ ks.length ∧ i = .int .i64 (k : Int) ∧ m = .int .i64 ((maxD ks k : Nat) : Int) ∧ Hid (Below w1.heap.size w1 wr)) (fun _ _ i _ => ks.length - (intOf i).toNat)
  case atStart => exact ⟨0, by omega, rfl, rfl, Below.refl _ _⟩
  case round =>
    obtain ⟨k, hk, rfl, rfl, HW⟩ := hrel
    have hm1 := HML.out k hk
    by_cases hlt : k < ks.length
    · have hlt2 : (k : Int) < (ks.length : Int) := by omega
      obtain ⟨b, off, rfl, hc⟩ := (HS.out _ HW.out).tree k hlt
      have HC := hid (HIH.out ks[k] (List.getElem_mem hlt) wr)
      have HN : Hid (maxD ks (k + 1) = max (maxD ks k) ks[k].depth) := hid (by rw [maxD, List.getD_eq_getElem?_getD, List.getElem?_eq_getElem hlt]; rfl)
      have hm2 := HML.out (k + 1) hlt
      obtain ⟨T0, v0, ht⟩ := tv_iface ks[k]
      rw [ht] at hc HC
      rw [HN.out] at hm2
      generalize ks[k].depth = d at *
      generalize maxD ks k = m at *
      clear ht
      go_wp2_with fail
      refine HC.out.mono ?_
      rintro e w2 ⟨rfl, hb2⟩
      have HW2 := hid (HW.out.trans (hb2.mono HW.out.size))
      clear hb2 HC HW hc
      go_wp2
      go_roundw
      case rel => exact ⟨k + 1, by omega, by go_num, congrArg (Value.int .i64) (by rw [HN.out]; omega), HW2.out⟩
      case measure => simp [intOf]; omega
    · have hge : ¬ (k : Int) < (ks.length : Int) := by omega
      have he : Hid (t.depth = maxD ks k + 1) := hid (by rw [HD.out, show k = ks.length by omega])
      generalize maxD ks k = m at *
      go_wp2
      go_ret
      exact ⟨by rw [he.out]; rfl, HB.out.trans (HW.out.mono HB.out.size)⟩
theorem depth_any : ∀ (t : Nt) (W : World), t.depth ≤ 1000 → Calls Try.prog 101 #[tv t] W fun e w' => e = .returned (.int .i64 (t.depth : Nat)) ∧ Below W.heap.size W w' := by
  intro t
  induction t with
  | yes => exact fun W h => depth_step _ W h (fun k hk => by simp [Nt.kids] at hk)
  | attr n => exact fun W h => depth_step _ W h (fun k hk => by simp [Nt.kids] at hk)
  | not t ih => exact fun W h => depth_step _ W h (fun k hk w => by
      simp only [Nt.kids, List.mem_singleton] at hk
      subst hk
      exact ih w (by simp only [Nt.depth] at h; omega))
  | pair op a b iha ihb => exact fun W h => depth_step _ W h (fun k hk w => by
      simp only [Nt.kids, List.mem_cons, List.not_mem_nil, or_false] at hk
      simp only [Nt.depth] at h
      rcases hk with rfl | rfl
      · exact iha w (by omega)
      · exact ihb w (by omega))

/-- What the first trees ask. -/
def orA (l : List Nt) : Nat → Nat
  | 0 => 0
  | k + 1 => orA l k ||| (l.getD k .yes).asks
theorem or_lt {a b : Nat} (ha : a < 18446744073709551616) (hb : b < 18446744073709551616) : a ||| b < 18446744073709551616 := Nat.or_lt_two_pow (n := 64) ha hb
theorem asks_lt : ∀ t : Nt, t.asks < 18446744073709551616
  | .yes => by simp [Nt.asks]
  | .attr n => by rw [Nt.asks]; exact ofL_lt _
  | .not t => by rw [Nt.asks]; exact or_lt (by omega) (asks_lt t)
  | .pair op a b => by rw [Nt.asks]; exact or_lt (or_lt (by omega) (asks_lt a)) (asks_lt b)
theorem orA_lt (l : List Nt) : ∀ k, orA l k < 18446744073709551616
  | 0 => by simp [orA]
  | k + 1 => by rw [orA]; exact or_lt (orA_lt l k) (asks_lt _)
theorem asks_kids (t : Nt) (h : ∀ n, t ≠ .attr n) : t.asks = orA t.kids t.kids.length := by
  cases t with
  | yes => rfl
  | attr n => exact absurd rfl (h n)
  | not t => rfl
  | pair op a b => rfl
set_option maxRecDepth 20000 in
set_option maxHeartbeats 2000000 in
theorem asks_attr (n : Int) (W : World) :
    Calls Try.prog 66 #[tv (.attr n)] W fun e w' => e = .returned (.int .u64 ((Nt.attr n).asks : Nat)) ∧ Below W.heap.size W w' := by
  simp only [tv]
  have a1 := ta_attr
  have HC := hid (fun (w : World) (x : Nat) (hx : x = w.heap.size) => of_any (some ⟨x, 0, none⟩) 1 1 [n] (w.alloc (.cells #[.int .i64 n] 3)) (sl_new1 _ hx))
  go_enter Try.func66, Try.ntmps66
  go_wp2_with fail
  refine (HC.out _ _ (by simp)).mono ?_
  rintro e w1 ⟨rfl, rfl⟩
  go_wp2
  go_ret
  exact ⟨rfl, below2 _ _ _⟩
set_option maxRecDepth 20000 in
set_option maxHeartbeats 2000000 in
theorem asks_step (t : Nt) (W : World) (ht : ∀ n, t ≠ .attr n) (ih : ∀ k ∈ t.kids, ∀ w, Calls Try.prog 66 #[tv k] w fun e w' => e = .returned (.int .u64 (k.asks : Nat)) ∧ Below w.heap.size w w') :
    Calls Try.prog 66 #[tv t] W fun e w' => e = .returned (.int .u64 (t.asks : Nat)) ∧ Below W.heap.size W w' := by
  have HIH := hid ih
  have HOP := hid (fun w => operands_any t w)
  have HD := hid (asks_kids t ht)
  have hkl := kids_len t
  have a1 : ∀ w, (Instr.typeAssert (tv t) 143 183 true).run Try.prog w = .ok (.tuple #[.agg #[.int .i64 0], .bool false]) w := by
    cases t with
    | yes => exact ta_attr_y _
    | attr n => exact absurd rfl (ht n)
    | not t => exact ta_attr_n _
    | pair op a b => exact ta_attr_p _
  clear ih
  generalize hks : t.kids = ks at *
  clear hks ht
  go_enter Try.func66, Try.ntmps66
  go_wp2_with fail
  refine (HOP.out _).mono ?_
  rintro e w1 ⟨A, c, rfl, hs, hb⟩
  have HS := hid (fun w (hw : Below w1.heap.size w1 w) => hs.below hw)
  have hb0 : ∀ o, Below W.heap.size W (W.alloc o) := fun o => (Below.refl _ _).alloc (Nat.le_refl _) _
  have HB := hid ((hb0 _).trans (hb.mono (hb0 _).size))
  clear hs hb HOP hb0
  go_wp2_with fail
  go_loopw [5, 7, 21] (fun m x i wr => ∃ k : Nat, k ≤ ks.length ∧ i = .int .i64 (k : Int) ∧ m = .int .u64 ((orA ks k : Nat) : Int) ∧ Hid (Below w1.heap.size w1 wr)) (fun _ _ i _ => ks.length - (intOf i).toNat)
  case atStart => exact ⟨0, by omega, rfl, rfl, Below.refl _ _⟩
  case round =>
    obtain ⟨k, hk, rfl, rfl, HW⟩ := hrel
    by_cases hlt : k < ks.length
    · have hlt2 : (k : Int) < (ks.length : Int) := by omega
      obtain ⟨b, off, rfl, hc⟩ := (HS.out _ HW.out).tree k hlt
      have HC := hid (HIH.out ks[k] (List.getElem_mem hlt) wr)
      have HN : Hid (orA ks (k + 1) = orA ks k ||| ks[k].asks) := hid (by rw [orA, List.getD_eq_getElem?_getD, List.getElem?_eq_getElem hlt]; rfl)
      have HU := hid (u64_or_nat (orA ks k) ks[k].asks (orA_lt _ _) (asks_lt _))
      obtain ⟨T0, v0, ht⟩ := tv_iface ks[k]
      rw [ht] at hc HC
      generalize ks[k].asks = d at *
      clear ht
      go_wp2_with fail
      refine HC.out.mono ?_
      rintro e w2 ⟨rfl, hb2⟩
      have HW2 := hid (HW.out.trans (hb2.mono HW.out.size))
      clear hb2 HC HW hc
      go_wp2
      go_roundw
      case rel => exact ⟨k + 1, by omega, by go_num, congrArg (Value.int .u64) (by rw [HN.out]; exact HU.out), HW2.out⟩
      case measure => simp [intOf]; omega
    · have hge : ¬ (k : Int) < (ks.length : Int) := by omega
      have he : Hid (t.asks = orA ks k) := hid (by rw [HD.out, show k = ks.length by omega])
      generalize orA ks k = m at *
      go_wp2
      go_ret
      exact ⟨by rw [he.out]; rfl, HB.out.trans (HW.out.mono HB.out.size)⟩
theorem asks_any : ∀ (t : Nt) (W : World), Calls Try.prog 66 #[tv t] W fun e w' => e = .returned (.int .u64 (t.asks : Nat)) ∧ Below W.heap.size W w' := by
  intro t
  induction t with
  | yes => exact fun W => asks_step _ W (by simp) (fun k hk => by simp [Nt.kids] at hk)
  | attr n => exact fun W => asks_attr n W
  | not t ih => exact fun W => asks_step _ W (by simp) (fun k hk w => by
      simp only [Nt.kids, List.mem_singleton] at hk
      subst hk
      exact ih w)
  | pair op a b iha ihb => exact fun W => asks_step _ W (by simp) (fun k hk w => by
      simp only [Nt.kids, List.mem_cons, List.not_mem_nil, or_false] at hk
      rcases hk with rfl | rfl
      · exact iha w
      · exact ihb w)

/-- Which function a tree's method is, and what it is handed. -/
def fnH : Nt → FuncId
  | .yes => 193
  | .attr _ => 191
  | .not _ => 195
  | .pair _ _ _ => 197
def fnN : Nt → FuncId
  | .yes => 194
  | .attr _ => 192
  | .not _ => 196
  | .pair _ _ _ => 198
def rcv : Nt → Value
  | .yes => .agg #[]
  | .attr n => .agg #[.int .i64 n]
  | .not t => .agg #[tv t]
  | .pair op a b => .agg #[.int .i64 op, tv a, tv b]
def tyT : Nt → TypeId
  | .yes => 219
  | .attr _ => 183
  | .not _ => 221
  | .pair _ _ _ => 223
theorem tv_eq (t : Nt) : tv t = .iface (tyT t) (rcv t) := by cases t <;> rfl
set_option maxRecDepth 100000 in
theorem mth_nodes (F : Nat) (t : Nt) (w : World) : (method (F + 1) (tyT t) (rcv t) "siskin/need.nodes").run Try.prog w = .ok (fnN t, rcv t) w := by
  cases t with
  | yes => exact (by kernel_rfl : (method (F + 1) 219 (.agg #[]) "siskin/need.nodes").run Try.prog w = .ok (194, .agg #[]) w)
  | attr n => exact (by kernel_rfl : (method (F + 1) 183 (.agg #[.int .i64 n]) "siskin/need.nodes").run Try.prog w = .ok (192, .agg #[.int .i64 n]) w)
  | not t =>
    have h : ∀ v, (method (F + 1) 221 (.agg #[v]) "siskin/need.nodes").run Try.prog w = .ok (196, .agg #[v]) w := fun v => by kernel_rfl
    exact h (tv t)
  | pair op a b =>
    have h : ∀ u v, (method (F + 1) 223 (.agg #[.int .i64 op, u, v]) "siskin/need.nodes").run Try.prog w = .ok (198, .agg #[.int .i64 op, u, v]) w := fun u v => by kernel_rfl
    exact h (tv a) (tv b)
set_option maxRecDepth 100000 in
theorem cf_nodes (t : Nt) (args : Array Value) (w : World) : (callFunc (fnN t) args).run Try.prog w = .ok (.enter (fnN t) args) w := by
  cases t with
  | yes => exact (by kernel_rfl : (callFunc 194 args).run Try.prog w = .ok (.enter 194 args) w)
  | attr n => exact (by kernel_rfl : (callFunc 192 args).run Try.prog w = .ok (.enter 192 args) w)
  | not t => exact (by kernel_rfl : (callFunc 196 args).run Try.prog w = .ok (.enter 196 args) w)
  | pair op a b => exact (by kernel_rfl : (callFunc 198 args).run Try.prog w = .ok (.enter 198 args) w)

end Go.Proofs.Ytdphdodjidbngaa
