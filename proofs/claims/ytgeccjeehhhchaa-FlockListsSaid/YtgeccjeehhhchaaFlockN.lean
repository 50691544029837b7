/- FlockNth. -/
import Derived.Test.YtgeccjeehhhchaaFlockL
import Derived.Test.YtgeccjeehhhchaaPopC
namespace Go.Proofs.Ytgeccjeehhhchaa
open Go.RowKit
set_option linter.unusedVariables false
set_option linter.unusedSimpArgs false

theorem elemsU_below (s k : Nat) : ∀ n, k ≤ n → elemsU (s &&& (2 ^ k - 1)) n = elemsU s k := by
  intro n h
  obtain ⟨d, rfl⟩ : ∃ d, n = k + d := ⟨n - k, by omega⟩
  clear h
  induction d with
  | zero =>
    rw [Nat.and_two_pow_sub_one_eq_mod]
    exact (elemsU_mod s k k (Nat.le_refl _)).symm
  | succ d ih =>
    rw [← Nat.add_assoc, elemsU, ih, Nat.testBit_and, Nat.testBit_two_pow_sub_one]
    simp
theorem count_below (s k : Nat) (hk : k < 64) : (elems (s &&& belowS k)).length = (elemsU s k).length := by
  have hb : belowS (k : Int) = 2 ^ k - 1 := by
    unfold belowS
    by_cases h : k = 0
    · subst h; rfl
    · rw [if_neg (by omega), if_neg (by omega)]; simp
  rw [elems_def, hb, elemsU_below s k 64 (by omega)]
/-- The element that has n below it. -/
theorem nth_below (s k : Nat) (hk : k < 64) : (nthS s ((elemsU s k).length : Nat) == (k : Int)) = hasS s k := by
  have h64 := elemsU_pre s (k + 1) 64 (by omega)
  rw [← elems_def] at h64
  obtain ⟨t, ht⟩ := h64
  unfold nthS
  rw [if_neg (by omega), Int.toNat_natCast, hasS_nat s k hk]
  by_cases hb : s.testBit k = true
  · rw [hb, ← ht, elemsU_yes hb, List.getD_eq_getElem?_getD, List.append_assoc, List.getElem?_append_right (Nat.le_refl _)]
    simp
  · have hb' : s.testBit k = false := by simpa using hb
    rw [hb', beq_eq_false_iff_ne]
    intro h
    have hm : (k : Int) ∈ elems s := by
      rw [List.getD_eq_getElem?_getD] at h
      rcases hx : (elems s)[(elemsU s k).length]? with _ | x
      · rw [hx] at h; simp at h
      · rw [hx] at h
        simp at h
        rw [← h]
        exact List.mem_of_getElem? hx
    have := (mem_elems s k).1 hm
    simp [hb'] at this
theorem withS_bit (s : Nat) (k i : Nat) (hk : k < 64) : (withS s k).testBit i = (s.testBit i || decide (i = k)) := by
  rw [withS, Nat.testBit_or, bitN_bit, Bool.eq_iff_iff]
  simp
  constructor
  · rintro (h | h)
    · exact .inl h
    · exact .inr (by omega)
  · rintro (h | h)
    · exact .inl h
    · exact .inr (by omega)
theorem lessS_bit (s : Nat) (k i : Nat) (hs : s < 18446744073709551616) : (lessS s k).testBit i = (s.testBit i && !decide (i = k)) := by
  have e : 18446744073709551615 - bitN k = 2 ^ 64 - (bitN k + 1) := by simp only [Nat.reducePow]; omega
  rw [lessS, Nat.testBit_and, e, Nat.testBit_two_pow_sub_succ (by simpa using bitN_lt k), bitN_bit]
  by_cases h : i < 64
  · simp only [h, decide_true, Bool.true_and]
    congr 2
    rw [decide_eq_decide]
    omega
  · rw [bit_high hs (by omega)]; simp
theorem cnt_more (s k : Nat) (hk : k < 64) (hs : s < 18446744073709551616) : ∀ n, (elemsU (withS s k) n).length = (elemsU (lessS s k) n).length + if k < n then 1 else 0
  | 0 => by simp [elemsU]
  | n + 1 => by
    rw [elemsU, elemsU, List.length_append, List.length_append, cnt_more s k hk hs n, withS_bit s k n hk, lessS_bit s k n hs]
    by_cases h : n = k
    · subst h
      simp
    · have h1 : (n = k) = False := by simp [h]
      by_cases h2 : k < n
      · simp [h1, h2, show k < n + 1 by omega]; omega
      · simp [h1, h2, show ¬ k < n + 1 by omega]
theorem cnt_one (s k : Nat) (hk : k < 64) (hs : s < 18446744073709551616) : (elems (withS s k)).length = (elems (lessS s k)).length + 1 := by
  rw [elems_def, elems_def, cnt_more s k hk hs 64, if_pos hk]

theorem flockNth_any (s : Nat) (k : Int) (w : World) (hs : s < 18446744073709551616) (hk1 : -9223372036854775808 ≤ k) (hk2 : k ≤ 9223372036854775807) :
    Calls Try.prog 7 #[.int .u64 s, .int .i64 k] w fun e w' => e = .returned (.bool true) ∧ Below w.heap.size w w' := by
  have HW := hid works06_any
  by_cases h : k < 0 ∨ 63 < k
  · have H1 := hid (fun w => nth_any s hs (-1) (by omega) w)
    rw [show nthS s (-1) = -1 from rfl] at H1
    rcases h with h | h
    · have hd : decide (k < 0) = true := by simp [h]
      go_enter Try.func7, Try.ntmps7
      go_wp2_with (first
        | (go_at_call 58; refine (H1.out _).mono ?_; rintro e w1 ⟨rfl, hb⟩)
        | (go_at_call 45; refine (HW.out _).mono ?_; rintro e w2 ⟨rfl, hb2⟩))
      go_ret
      exact ⟨rfl, hb.trans (hb2.mono hb.size)⟩
    · have hd : decide (k < 0) = false := by simp; omega
      have hd2 : decide (63 < k) = true := by simp [h]
      go_enter Try.func7, Try.ntmps7
      go_wp2_with (first
        | (go_at_call 58; refine (H1.out _).mono ?_; rintro e w1 ⟨rfl, hb⟩)
        | (go_at_call 45; refine (HW.out _).mono ?_; rintro e w2 ⟨rfl, hb2⟩))
      go_ret
      exact ⟨rfl, hb.trans (hb2.mono hb.size)⟩
  · obtain ⟨n, rfl⟩ := Int.eq_ofNat_of_zero_le (show 0 ≤ k by omega)
    have hn : n < 64 := by omega
    have hd : decide ((n : Int) < 0) = false := by simp
    have hd2 : decide (63 < (n : Int)) = false := by simp; omega
    have hb1 := belowS_lt n
    have hb2 : s &&& belowS n < 18446744073709551616 := Nat.lt_of_le_of_lt Nat.and_le_left hs
    have hl := elemsU_len s n
    have HC := hid (fun w => count_any (s &&& belowS n) w hb2)
    rw [count_below s n hn] at HC
    have HA := hid (u64_and_nat s (belowS n) hs hb1)
    have HN := hid (fun w => nth_any s hs ((elemsU s n).length : Nat) (by omega) w)
    have HE := hid (nth_below s n hn)
    have HB := hid (fun w => below_any n w)
    have HH := hid (fun w => has_any s n w hs)
    have H3 := hid (fun w => with_any s n w hs)
    have H4 := hid (fun w => less_any s n w hs)
    have H5 := hid (fun w => count_any (withS s n) w (withS_lt s n hs))
    have H6 := hid (fun w => count_any (lessS s n) w (lessS_lt s n hs))
    rw [cnt_one s n hn hs] at H5
    have hl2 : (elems (lessS s n)).length ≤ 64 := by rw [elems_def]; exact elemsU_len _ 64
    clear h hk1 hk2 hb1 hs
    generalize nthS s ((elemsU s n).length : Nat) = x1 at *
    generalize (elemsU s n).length = x2 at *
    generalize hasS s n = x3 at *
    generalize (elems (lessS s n)).length = x4 at *
    generalize lessS s n = x5 at *
    generalize withS s n = x6 at *
    generalize s &&& belowS n = x7 at *
    generalize belowS n = x8 at *
    go_enter Try.func7, Try.ntmps7
    go_wp2_with (go_at_call 53; refine (HB.out _).mono ?_; rintro e w1 ⟨rfl, rfl⟩)
    rw [HA.out]
    go_wp2_with (first
      | (go_at_call 57; (with_reducible refine (HC.out _).mono ?_); rintro e w1 ⟨rfl, rfl⟩)
      | (go_at_call 57; (with_reducible refine (H5.out _).mono ?_); rintro e w1 ⟨rfl, rfl⟩)
      | (go_at_call 57; (with_reducible refine (H6.out _).mono ?_); rintro e w1 ⟨rfl, rfl⟩)
      | (go_at_call 58; refine (HN.out _).mono ?_; rintro e w2 ⟨rfl, hb⟩; have he := HE.out)
      | (go_at_call 46; refine (HH.out _).mono ?_; rintro e w1 ⟨rfl, rfl⟩)
      | (go_at_call 48; refine (H3.out _).mono ?_; rintro e w1 ⟨rfl, rfl⟩)
      | (go_at_call 50; refine (H4.out _).mono ?_; rintro e w1 ⟨rfl, rfl⟩)
      | (go_at_call 45; refine (HW.out _).mono ?_; rintro e w3 ⟨rfl, hb2⟩))
    go_ret
    exact ⟨rfl, hb.trans (hb2.mono hb.size)⟩

theorem flockNth_law (a k : Int) (w : World) (ha : (Lit.int .u64 a).wf = true) (hk : (Lit.int .i64 k).wf = true) :
    Calls Try.prog 7 #[.int .u64 a, .int .i64 k] w fun e w' => e = .returned (.bool true) ∧ Below w.heap.size w w' := by
  obtain ⟨s, rfl, hs⟩ := wf_u64 ha
  exact flockNth_any s k w hs (wf_i64 hk).1 (wf_i64 hk).2
end Go.Proofs.Ytgeccjeehhhchaa
