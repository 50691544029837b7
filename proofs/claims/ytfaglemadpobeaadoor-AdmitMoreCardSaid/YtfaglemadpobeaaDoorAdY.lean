/- AdmitMore: maths. -/
import Derived.Test.YtfaglemadpobeaaDoorAdX
namespace Go.Proofs.YtfaglemadpobeaaDoor
open Go.RowKit Go.Sort
set_option linter.unusedVariables false
set_option linter.unusedSimpArgs false

theorem chkN_cases (l : List (Int × Int)) : chkN l = 0 ∨ chkN l = 1 ∨ chkN l = 4 := by
  unfold chkN
  split
  · exact .inr (.inr rfl)
  · split
    · split
      · exact .inr (.inr rfl)
      · exact .inl rfl
    · exact .inr (.inl rfl)
theorem rowsT_bit : ∀ k, k < 6 → ∀ i, i < 64 → (rowsT.getD k 0).testBit i = i.testBit k := by decide +kernel
def idxI (s : Nat) : List Int → Nat
  | [] => 0
  | x :: l => 2 * idxI s l + (hasS s x).toNat
theorem idxI_lt (s : Nat) : ∀ l : List Int, idxI s l < 2 ^ l.length
  | [] => by simp [idxI]
  | x :: l => by
    have := idxI_lt s l
    rw [idxI, List.length_cons, Nat.pow_succ]
    cases hasS s x <;> simp <;> omega
theorem idxI_bit (s : Nat) : ∀ (l : List Int) (k : Nat) (hk : k < l.length), (idxI s l).testBit k = hasS s l[k]
  | [], k, hk => absurd hk (by simp)
  | x :: l, 0, hk => by
    rw [idxI, List.getElem_cons_zero, Nat.testBit_zero]
    cases hasS s x <;> simp <;> omega
  | x :: l, k + 1, hk => by
    rw [idxI, List.getElem_cons_succ, Nat.testBit_succ, ← idxI_bit s l k (by simpa using hk)]
    congr 1
    cases hasS s x <;> simp <;> omega
theorem rowR_bit (attrs : List Int) (s : Nat) (h6 : attrs.length ≤ 6) (x : Int) (hx : x ∈ attrs) : (rowR attrs x).testBit (idxI s attrs) = hasS s x := by
  have hk : attrs.idxOf x < attrs.length := List.idxOf_lt_length_of_mem hx
  have hi : idxI s attrs < 64 := Nat.lt_of_lt_of_le (idxI_lt s attrs) (by
    have : 2 ^ attrs.length ≤ 2 ^ 6 := Nat.pow_le_pow_right (by omega) h6
    simpa using this)
  unfold rowR
  rw [if_pos hx, rowsT_bit _ (by omega) _ hi, idxI_bit s attrs _ hk, List.getElem_idxOf hk]
theorem valS_at (r : Int → Nat) (i s : Nat) (hi : i < 64) : ∀ t : Nt, t.wf → (∀ n : Nat, t.asks.testBit n = true → (r (n : Int)).testBit i = hasS s (n : Int)) → (valS r t).testBit i = t.holds s
  | .yes, _, _ => by
    have := Nat.testBit_two_pow_sub_one 64 i
    rw [valS, show (18446744073709551615 : Nat) = 2 ^ 64 - 1 by decide, this]
    simp [Nt.holds]; omega
  | .attr a, hw, h => by
    obtain ⟨n, rfl⟩ := Int.eq_ofNat_of_zero_le hw.1
    have h16 := hw.2
    exact h n (by
      rw [Nt.asks, ofL_bit, decide_eq_true (by omega), decide_eq_true (by simp)]
      rfl)
  | .not t, hw, h => by
    have h1 := Nat.testBit_two_pow_sub_one 64 i
    have ih := valS_at r i s hi t hw (fun n hn => h n (by rw [Nt.asks, Nat.testBit_or, hn]; simp))
    rw [valS, Nat.testBit_xor, ih, show (18446744073709551615 : Nat) = 2 ^ 64 - 1 by decide, h1, Nt.holds, decide_eq_true hi]
    simp
  | .pair op a b, hw, h => by
    have iha := valS_at r i s hi a hw.2.1 (fun n hn => h n (by rw [Nt.asks, Nat.testBit_or, Nat.testBit_or, hn]; simp))
    have ihb := valS_at r i s hi b hw.2.2 (fun n hn => h n (by rw [Nt.asks, Nat.testBit_or, Nat.testBit_or, hn]; simp))
    rw [valS, Nt.holds]
    split
    · rw [Nat.testBit_and, iha, ihb]
    · rw [Nat.testBit_or, iha, ihb]
theorem not_bit {x : Nat} (hx : x < 18446744073709551616) (i : Nat) : (18446744073709551615 - x).testBit i = (decide (i < 64) && !x.testBit i) := by
  have := Nat.testBit_two_pow_sub_succ (n := 64) (x := x) (by simpa using hx) i
  rw [show (18446744073709551615 - x) = 2 ^ 64 - (x + 1) by omega]
  exact this
theorem sub_zero_iff {x y : Nat} (hx : x < 18446744073709551616) (hy : y < 18446744073709551616) : x &&& (18446744073709551615 - y) = 0 ↔ ∀ i, i < 64 → x.testBit i = true → y.testBit i = true := by
  constructor
  · intro h i hi hb
    have h1 : (x &&& (18446744073709551615 - y)).testBit i = false := by rw [h]; simp
    rw [Nat.testBit_and, hb, not_bit hy, decide_eq_true hi] at h1
    simpa using h1
  · intro h
    apply Nat.eq_of_testBit_eq
    intro i
    rw [Nat.testBit_and, not_bit hy, Nat.zero_testBit]
    by_cases hi : i < 64
    · cases hb : x.testBit i with
      | false => rfl
      | true => rw [h i hi hb]; simp
    · rw [decide_eq_false hi]; simp
/-- What a need's row tells of one set of attributes. -/
theorem row_at {l : List (Int × Int)} (hc : chkN l = 0) (attrs : List Int) (s : Nat) (h6 : attrs.length ≤ 6) (hin : ∀ n : Nat, (askN l).testBit n = true → (n : Int) ∈ attrs) : (rowS l attrs).testBit (idxI s attrs) = sayN l s := by
  obtain ⟨t, hw, he, _, _, hr⟩ := chkN_zero hc
  have hi : idxI s attrs < 64 := Nat.lt_of_lt_of_le (idxI_lt s attrs) (by
    have : 2 ^ attrs.length ≤ 2 ^ 6 := Nat.pow_le_pow_right (by omega) h6
    simpa using this)
  unfold rowS valL sayN
  unfold askN at hin
  rw [if_pos hc, hr] at hin
  rw [if_neg (by omega), if_pos hc, if_pos hc, hr]
  exact valS_at _ _ s hi t hw (fun n hn => rowR_bit attrs s h6 n (hin n hn))
theorem impE_zero {a b : List (Int × Int)} (h : impE a b = 0) : chkN a = 0 ∧ chkN b = 0 ∧ (elems (askN a ||| askN b)).length ≤ 6 := by
  unfold impE at h
  split at h
  · split at h
    · split at h
      · simp at h
      · exact ⟨by assumption, by assumption, by omega⟩
    · simp at h
  · simp at h
theorem impE_cases (a b : List (Int × Int)) : impE a b = 0 ∨ impE a b = 1 ∨ impE a b = 4 := by
  unfold impE
  split
  · split
    · split
      · exact .inr (.inr rfl)
      · exact .inl rfl
    · exact .inr (.inl rfl)
  · exact .inr (.inl rfl)
theorem more_workers {a b : List (Int × Int)} (h : impE a b = 0) (hb : impB a b = true) (ws : List Wk) : wkS a ws &&& (18446744073709551615 - wkS b ws) = 0 := by
  obtain ⟨ha, hb0, h6⟩ := impE_zero h
  unfold impB at hb
  rw [if_pos h, beq_iff_eq, sub_zero_iff (rowS_lt _ _) (rowS_lt _ _)] at hb
  rw [sub_zero_iff (wkS_lt _ _) (wkS_lt _ _)]
  intro i hi hbit
  rw [wkS_bit _ _ _ hi] at hbit ⊢
  simp only [Bool.and_eq_true, decide_eq_true_eq] at hbit ⊢
  refine ⟨hbit.1, ?_⟩
  have hz : askN a ||| askN b < 18446744073709551616 := Nat.or_lt_two_pow (n := 64) (asks_u64 a) (asks_u64 b)
  have hmem : ∀ n : Nat, (askN a ||| askN b).testBit n = true → (n : Int) ∈ elems (askN a ||| askN b) := fun n hn => by
    rw [mem_elems]
    refine ⟨by omega, ?_, by simpa using hn⟩
    have : n < 64 := by
      apply Nat.lt_of_not_le
      intro hle
      rw [bit_high hz hle] at hn
      simp at hn
    omega
  have ea := row_at ha (elems (askN a ||| askN b)) (atW ws i) h6 (fun n hn => hmem n (by rw [Nat.testBit_or, hn]; simp))
  have eb := row_at hb0 (elems (askN a ||| askN b)) (atW ws i) h6 (fun n hn => hmem n (by rw [Nat.testBit_or, hn]; simp))
  have hi6 : idxI (atW ws i) (elems (askN a ||| askN b)) < 64 := Nat.lt_of_lt_of_le (idxI_lt _ _) (by
    have : 2 ^ (elems (askN a ||| askN b)).length ≤ 2 ^ 6 := Nat.pow_le_pow_right (by omega) h6
    simpa using this)
  rw [← eb]
  exact hb _ hi6 (by rw [ea]; exact hbit.2)
theorem imp_self {a : List (Int × Int)} (h : impE a a = 0) : impB a a = true := by
  unfold impB
  rw [if_pos h, beq_iff_eq, sub_zero_iff (rowS_lt _ _) (rowS_lt _ _)]
  exact fun i _ h => h
theorem joined_or {a b : List (Int × Int)} (ha : chkN a = 0) (hb : chkN b = 0) (attrs : List Int) (hj : chkN (joinN 5 [a, b]) = 0) (h6 : attrs.length ≤ 6) : rowS (joinN 5 [a, b]) attrs = rowS a attrs ||| rowS b attrs := by
  obtain ⟨t, hw, he, _, _, hr⟩ := chkN_zero ha
  obtain ⟨u, hw2, he2, _, _, hr2⟩ := chkN_zero hb
  have hf : joinN 5 [a, b] = (Nt.pair 5 t u).flat := by
    unfold joinN
    rw [Nt.flat, ← he, ← he2]
    simp
  have hrj : runN [] (joinN 5 [a, b]) = some [Nt.pair 5 t u] := by
    rw [hf]
    exact runN_flat _ [] ⟨.inr rfl, hw, hw2⟩
  unfold rowS valL
  simp only [if_neg (show ¬ 6 < attrs.length by omega), if_pos ha, if_pos hb, if_pos hj, hr, hr2, hrj]
  show valS _ (Nt.pair 5 t u) = valS _ t ||| valS _ u
  rw [valS, if_neg (by decide)]
theorem imp_or {a b : List (Int × Int)} (ha : chkN a = 0) (hb : chkN b = 0) (h : impE a (joinN 5 [a, b]) = 0) : impB a (joinN 5 [a, b]) = true := by
  obtain ⟨_, hj, h6⟩ := impE_zero h
  unfold impB
  rw [if_pos h, beq_iff_eq, sub_zero_iff (rowS_lt _ _) (rowS_lt _ _)]
  intro i _ hbit
  rw [joined_or ha hb _ hj h6, Nat.testBit_or, hbit]
  rfl
theorem elemsU_mono {s t : Nat} (h : ∀ i, s.testBit i = true → t.testBit i = true) : ∀ n, (elemsU s n).length ≤ (elemsU t n).length
  | 0 => by simp [elemsU]
  | n + 1 => by
    have ih := elemsU_mono h n
    cases hs : s.testBit n with
    | false =>
      rw [elemsU_no hs]
      cases ht : t.testBit n with
      | false => rw [elemsU_no ht]; exact ih
      | true => rw [elemsU_yes ht, List.length_append]; exact Nat.le_add_right_of_le ih
    | true =>
      rw [elemsU_yes hs, elemsU_yes (h n hs), List.length_append, List.length_append]
      exact Nat.add_le_add_right ih _
theorem imp_first {a b : List (Int × Int)} (h : impE a b = 0) : impE a a = 0 := by
  obtain ⟨ha, _, h6⟩ := impE_zero h
  have h2 := elemsU_mono (s := askN a ||| askN a) (t := askN a ||| askN b) (fun i hi => by
    rw [Nat.testBit_or] at hi ⊢
    have : (askN a).testBit i = true := by simpa using hi
    rw [this]
    rfl) 64
  rw [← elems_def, ← elems_def] at h2
  unfold impE
  rw [if_pos ha, if_pos ha, if_neg (by omega)]
set_option maxRecDepth 20000 in
set_option maxHeartbeats 2000000 in
theorem rcheck_all (A : Option Addr) (cap : Nat) (l : List (Int × Int)) (W : World) (h : Sl W 2 A l.length cap (pcells l)) :
    Calls Tryd.prog 10 #[.slice A l.length cap] W fun e w' => e = .returned (.int .i64 (chkN l)) ∧ Below W.heap.size W w' := by
  by_cases h31 : 31 < l.length
  · have hm := Nat.le_trans h.2.1 h.2.2.1
    unfold maxLen at hm
    have h2 : (31 : Int) < (l.length : Int) := by omega
    have HC : Hid (chkN l = 4) := hid (by unfold chkN; rw [if_pos h31])
    clear h
    generalize l.length = n at *
    go_enter Tryd.func10, Tryd.ntmps10
    go_wp2
    go_ret
    exact ⟨by rw [HC.out]; rfl, Below.refl _ _⟩
  · exact rcheck09_any A cap l W h (by omega)
end Go.Proofs.YtfaglemadpobeaaDoor
