/- pack.Check and the document's Check, as contracts. -/
import Derived.Test.YtdekemlckpbbcaaPacF
namespace Go.Proofs.Ytdekemlckpbbcaa
open Go.RowKit Go.Sort
set_option linter.unusedVariables false
set_option linter.unusedSimpArgs false

theorem kpt_is (k : Nat) (p s : Int) (b : ByteArray) : (kpt k p s b).1 = (if hpP k then p else 0) ∧ (kpt k p s b).2.1 = (if hpS k then s else 0) ∧ (kpt k p s b).2.2 = (if hpB k then b else ⟨#[]⟩) := ⟨rfl, rfl, rfl⟩
theorem pkcheck_any (k f t i p s : Int) (b : ByteArray) (W : World) :
    Calls Try.prog 52 #[.agg #[.int .i64 k, .int .i64 f, .int .i64 t, .int .i64 i, .int .i64 p, .int .i64 s, .string b]] W fun e w' => e = .returned (.bool (okP k f t i p s b.data.toList)) ∧ Below W.heap.size W w' := by
  have hbl : b.data.toList.length = b.size := by rw [Array.length_toList]; rfl
  by_cases hk : 1 ≤ k ∧ k ≤ 4
  case neg =>
    have : okP k f t i p s b.data.toList = false := by rw [okP, decide_eq_false hk]; simp
    rw [this]; exact check_bad0 k f t i p s b W hk
  obtain ⟨n, rfl⟩ : ∃ n : Nat, k = n := ⟨k.toNat, by omega⟩
  have hn : 1 ≤ n ∧ n ≤ 4 := by omega
  obtain ⟨e1, e2, e3⟩ := kpt_is n p s b
  by_cases h1 : (kpt n p s b).1 = p
  case neg =>
    have : okP n f t i p s b.data.toList = false := by
      rw [okP, Int.toNat_natCast]
      cases hp : hpP n with
      | true => rw [hp] at e1; exact absurd (by simpa using e1) h1
      | false =>
        rw [hp] at e1
        have : (p == 0) = false := by rw [beq_eq_false_iff_ne]; intro h; rw [e1] at h1; exact h1 (by simp [h])
        simp [inS, this]
    rw [this]; exact check_bad1a n f t i p s b W hn h1
  by_cases h2 : (kpt n p s b).2.1 = s
  case neg =>
    have : okP n f t i p s b.data.toList = false := by
      rw [okP, Int.toNat_natCast]
      cases hp : hpS n with
      | true => rw [hp] at e2; exact absurd (by simpa using e2) h2
      | false =>
        rw [hp] at e2
        have : (s == 0) = false := by rw [beq_eq_false_iff_ne]; intro h; rw [e2] at h2; exact h2 (by simp [h])
        simp [inS, this]
    rw [this]; exact check_bad1b n f t i p s b W hn ⟨h1, h2⟩
  by_cases h3 : (kpt n p s b).2.2 = b
  case neg =>
    have : okP n f t i p s b.data.toList = false := by
      rw [okP, Int.toNat_natCast]
      cases hp : hpB n with
      | true => rw [hp] at e3; exact absurd (by simpa using e3) h3
      | false =>
        rw [hp] at e3
        have : ¬ b.data.toList.length = 0 := by
          intro h
          have hb0 : b = ⟨#[]⟩ := ByteArray.ext (Array.ext' (by simpa using List.eq_nil_of_length_eq_zero h))
          rw [e3] at h3
          exact h3 (by simpa using hb0.symm)
        simp only [inT, this, decide_false, Bool.false_eq_true, if_false, Bool.and_false]
    rw [this]; exact check_bad1c n f t i p s b W hn ⟨h1, h2, h3⟩
  have hkp : kpt n p s b = (p, s, b) := Prod.ext h1 (Prod.ext h2 h3)
  by_cases hf : 0 ≤ f ∧ f ≤ 71
  case neg =>
    have : okP n f t i p s b.data.toList = false := by rw [okP, decide_eq_false hf]; simp
    rw [this]; exact check_bad2 n f t i p s b W hn hkp hf
  by_cases ht : 0 ≤ t ∧ t ≤ 71
  case neg =>
    have : okP n f t i p s b.data.toList = false := by rw [okP, decide_eq_false ht]; simp
    rw [this]; exact check_bad3 n f t i p s b W hn hkp hf ht
  by_cases hft : f = t
  · have : okP n f t i p s b.data.toList = false := by rw [okP, decide_eq_false (show ¬ f ≠ t by simp [hft])]; simp
    rw [this]; exact check_bad4 n f t i p s b W hn hkp hf hft
  by_cases hi : 1 ≤ i ∧ i ≤ 72057594037927935
  case neg =>
    have : okP n f t i p s b.data.toList = false := by rw [okP, show inS true 1 72057594037927935 i = false from decide_eq_false hi]; simp
    rw [this]; exact check_bad5 n f t i p s b W hn hkp hf ht hft hi
  have : okP n f t i p s b.data.toList = (ck3 n p s && ck5 n b) := by
    rw [okP, decide_eq_true hk, decide_eq_true hf, decide_eq_true ht, decide_eq_true hft, show inS true 1 72057594037927935 i = true from decide_eq_true hi, Int.toNat_natCast, ck3, ck5]
    rw [e1] at h1; rw [e2] at h2; rw [e3] at h3
    have g1 : inS (hpP n) 1 72057594037927935 p = (!hpP n || decide (1 ≤ p ∧ p ≤ 72057594037927935)) := by
      cases hp : hpP n with
      | true => simp [inS]
      | false => rw [hp] at h1; simp at h1; simp [inS, ← h1]
    have g2 : inS (hpS n) 1 72057594037927935 s = (!hpS n || decide (1 ≤ s ∧ s ≤ 72057594037927935)) := by
      cases hp : hpS n with
      | true => simp [inS]
      | false => rw [hp] at h2; simp at h2; simp [inS, ← h2]
    have g3 : inT (hpB n) b.data.toList = (!hpB n || (decide (b.size ≠ 0) && decide (b.size ≤ 32))) := by
      cases hp : hpB n with
      | true =>
        simp only [inT, if_true, hbl, Bool.not_true, Bool.false_or]
        rw [← Bool.decide_and]
        congr 1
        apply propext
        omega
      | false => rw [hp] at h3; simp at h3; simp [inT, ← h3]
    rw [g1, g2, g3]
    simp only [Bool.true_and, Bool.and_assoc]
  rw [this]
  exact check_good n f t i p s b W hn hkp hf ht hft hi

theorem r23num_any (hb : Bool) (n : Int) (w : World) : Calls Try.prog 80 #[.bool hb, .int .i64 n] w fun e w' => e = .returned (.bool (inS hb 1 72057594037927935 n)) ∧ w = w' := by
  cases hb with
  | false =>
    go_enter Try.func80, Try.ntmps80
    go_wp2
    go_ret
    exact ⟨rfl, rfl⟩
  | true =>
    have HI : Hid (inS true 1 72057594037927935 n = decide (1 ≤ n ∧ n ≤ 72057594037927935)) := hid rfl
    by_cases h1 : 0 < n
    · by_cases h2 : n ≤ 72057594037927935
      · have d1 : decide (0 < n) = true := decide_eq_true h1
        have d2 : decide (n ≤ 72057594037927935) = true := decide_eq_true h2
        rw [decide_eq_true (by omega)] at HI
        go_enter Try.func80, Try.ntmps80
        go_wp2
        go_ret
        exact ⟨by rw [HI.out]; rfl, rfl⟩
      · have d1 : decide (0 < n) = true := decide_eq_true h1
        have d2 : decide (n ≤ 72057594037927935) = false := decide_eq_false h2
        have h3 : 72057594037927935 < n := by omega
        rw [decide_eq_false (by omega)] at HI
        clear h2
        go_enter Try.func80, Try.ntmps80
        go_wp2
        go_ret
        exact ⟨by rw [HI.out]; rfl, rfl⟩
    · have d1 : decide (0 < n) = false := decide_eq_false h1
      have h3 : n ≤ 0 := by omega
      rw [decide_eq_false (by omega)] at HI
      clear h1
      go_enter Try.func80, Try.ntmps80
      go_wp2
      go_ret
      exact ⟨by rw [HI.out]; rfl, rfl⟩

theorem rcheck_bad0 (k f t i p s : Int) (b : ByteArray) (W : World) (h : k < 1) : Calls Try.prog 56 #[.agg #[.int .i64 k, .int .i64 f, .int .i64 t, .int .i64 i, .int .i64 p, .int .i64 s, .string b]] W fun e w' => e = .returned (.bool false) ∧ Below W.heap.size W w' := by
  have d_kl : decide (k < 1) = true := decide_eq_true h
  go_enter Try.func56, Try.ntmps56
  go_upto_region 1 with (fail)
  refine at_world (fun w => Pc 50 w W.heap.size k f t i p s b ∧ Below W.heap.size W w) ⟨heap_alloc_new _ _, (Below.refl _ _).alloc (Nat.le_refl _) _⟩ ?_
  rintro w2 ⟨k0, hb⟩
  obtain ⟨⟨p0, p1, p2, p3, p4, p5, p6⟩, f0, f1, f2, f3, f4, f5, f6⟩ := seven_cells k0
  clear k0
  go_wp2
  go_ret
  exact ⟨rfl, hb⟩

theorem rcheck_bad1 (k f t i p s : Int) (b : ByteArray) (W : World) (h0 : 1 ≤ k) (h : 4 < k) : Calls Try.prog 56 #[.agg #[.int .i64 k, .int .i64 f, .int .i64 t, .int .i64 i, .int .i64 p, .int .i64 s, .string b]] W fun e w' => e = .returned (.bool false) ∧ Below W.heap.size W w' := by
  have e_kl : 1 ≤ k := by omega
  have d_kl : decide (k < 1) = false := by simp; omega
  have d_kg : decide (4 < k) = true := decide_eq_true h
  clear h0
  go_enter Try.func56, Try.ntmps56
  go_upto_region 1 with (fail)
  refine at_world (fun w => Pc 50 w W.heap.size k f t i p s b ∧ Below W.heap.size W w) ⟨heap_alloc_new _ _, (Below.refl _ _).alloc (Nat.le_refl _) _⟩ ?_
  rintro w2 ⟨k0, hb⟩
  obtain ⟨⟨p0, p1, p2, p3, p4, p5, p6⟩, f0, f1, f2, f3, f4, f5, f6⟩ := seven_cells k0
  clear k0
  go_wp2
  go_ret
  exact ⟨rfl, hb⟩

theorem rcheck_bad2 (k f t i p s : Int) (b : ByteArray) (W : World) (h0 : 1 ≤ k) (h1 : k ≤ 4) (h : f < 0) : Calls Try.prog 56 #[.agg #[.int .i64 k, .int .i64 f, .int .i64 t, .int .i64 i, .int .i64 p, .int .i64 s, .string b]] W fun e w' => e = .returned (.bool false) ∧ Below W.heap.size W w' := by
  have e_kl : 1 ≤ k := by omega
  have d_kl : decide (k < 1) = false := by simp; omega
  have e_kg : k ≤ 4 := by omega
  have d_kg : decide (4 < k) = false := by simp; omega
  have d_fl : decide (f < 0) = true := decide_eq_true h
  clear h0
  clear h1
  go_enter Try.func56, Try.ntmps56
  go_upto_region 1 with (fail)
  refine at_world (fun w => Pc 50 w W.heap.size k f t i p s b ∧ Below W.heap.size W w) ⟨heap_alloc_new _ _, (Below.refl _ _).alloc (Nat.le_refl _) _⟩ ?_
  rintro w2 ⟨k0, hb⟩
  obtain ⟨⟨p0, p1, p2, p3, p4, p5, p6⟩, f0, f1, f2, f3, f4, f5, f6⟩ := seven_cells k0
  clear k0
  go_wp2
  go_ret
  exact ⟨rfl, hb⟩

theorem rcheck_bad3 (k f t i p s : Int) (b : ByteArray) (W : World) (h0 : 1 ≤ k) (h1 : k ≤ 4) (h2 : 0 ≤ f) (h : 71 < f) : Calls Try.prog 56 #[.agg #[.int .i64 k, .int .i64 f, .int .i64 t, .int .i64 i, .int .i64 p, .int .i64 s, .string b]] W fun e w' => e = .returned (.bool false) ∧ Below W.heap.size W w' := by
  have e_kl : 1 ≤ k := by omega
  have d_kl : decide (k < 1) = false := by simp; omega
  have e_kg : k ≤ 4 := by omega
  have d_kg : decide (4 < k) = false := by simp; omega
  have e_fl : 0 ≤ f := by omega
  have d_fl : decide (f < 0) = false := by simp; omega
  have d_fg : decide (71 < f) = true := decide_eq_true h
  clear h0
  clear h1
  clear h2
  go_enter Try.func56, Try.ntmps56
  go_upto_region 1 with (fail)
  refine at_world (fun w => Pc 50 w W.heap.size k f t i p s b ∧ Below W.heap.size W w) ⟨heap_alloc_new _ _, (Below.refl _ _).alloc (Nat.le_refl _) _⟩ ?_
  rintro w2 ⟨k0, hb⟩
  obtain ⟨⟨p0, p1, p2, p3, p4, p5, p6⟩, f0, f1, f2, f3, f4, f5, f6⟩ := seven_cells k0
  clear k0
  go_wp2
  go_ret
  exact ⟨rfl, hb⟩

theorem rcheck_bad4 (k f t i p s : Int) (b : ByteArray) (W : World) (h0 : 1 ≤ k) (h1 : k ≤ 4) (h2 : 0 ≤ f) (h3 : f ≤ 71) (h : t < 0) : Calls Try.prog 56 #[.agg #[.int .i64 k, .int .i64 f, .int .i64 t, .int .i64 i, .int .i64 p, .int .i64 s, .string b]] W fun e w' => e = .returned (.bool false) ∧ Below W.heap.size W w' := by
  have e_kl : 1 ≤ k := by omega
  have d_kl : decide (k < 1) = false := by simp; omega
  have e_kg : k ≤ 4 := by omega
  have d_kg : decide (4 < k) = false := by simp; omega
  have e_fl : 0 ≤ f := by omega
  have d_fl : decide (f < 0) = false := by simp; omega
  have e_fg : f ≤ 71 := by omega
  have d_fg : decide (71 < f) = false := by simp; omega
  have d_tl : decide (t < 0) = true := decide_eq_true h
  clear h0
  clear h1
  clear h2
  clear h3
  go_enter Try.func56, Try.ntmps56
  go_upto_region 1 with (fail)
  refine at_world (fun w => Pc 50 w W.heap.size k f t i p s b ∧ Below W.heap.size W w) ⟨heap_alloc_new _ _, (Below.refl _ _).alloc (Nat.le_refl _) _⟩ ?_
  rintro w2 ⟨k0, hb⟩
  obtain ⟨⟨p0, p1, p2, p3, p4, p5, p6⟩, f0, f1, f2, f3, f4, f5, f6⟩ := seven_cells k0
  clear k0
  go_wp2
  go_ret
  exact ⟨rfl, hb⟩

theorem rcheck_bad5 (k f t i p s : Int) (b : ByteArray) (W : World) (h0 : 1 ≤ k) (h1 : k ≤ 4) (h2 : 0 ≤ f) (h3 : f ≤ 71) (h4 : 0 ≤ t) (h : 71 < t) : Calls Try.prog 56 #[.agg #[.int .i64 k, .int .i64 f, .int .i64 t, .int .i64 i, .int .i64 p, .int .i64 s, .string b]] W fun e w' => e = .returned (.bool false) ∧ Below W.heap.size W w' := by
  have e_kl : 1 ≤ k := by omega
  have d_kl : decide (k < 1) = false := by simp; omega
  have e_kg : k ≤ 4 := by omega
  have d_kg : decide (4 < k) = false := by simp; omega
  have e_fl : 0 ≤ f := by omega
  have d_fl : decide (f < 0) = false := by simp; omega
  have e_fg : f ≤ 71 := by omega
  have d_fg : decide (71 < f) = false := by simp; omega
  have e_tl : 0 ≤ t := by omega
  have d_tl : decide (t < 0) = false := by simp; omega
  have d_tg : decide (71 < t) = true := decide_eq_true h
  clear h0
  clear h1
  clear h2
  clear h3
  clear h4
  go_enter Try.func56, Try.ntmps56
  go_upto_region 1 with (fail)
  refine at_world (fun w => Pc 50 w W.heap.size k f t i p s b ∧ Below W.heap.size W w) ⟨heap_alloc_new _ _, (Below.refl _ _).alloc (Nat.le_refl _) _⟩ ?_
  rintro w2 ⟨k0, hb⟩
  obtain ⟨⟨p0, p1, p2, p3, p4, p5, p6⟩, f0, f1, f2, f3, f4, f5, f6⟩ := seven_cells k0
  clear k0
  go_wp2
  go_ret
  exact ⟨rfl, hb⟩

theorem rcheck_bad6 (k f t i p s : Int) (b : ByteArray) (W : World) (h0 : 1 ≤ k) (h1 : k ≤ 4) (h2 : 0 ≤ f) (h3 : f ≤ 71) (h4 : 0 ≤ t) (h5 : t ≤ 71) (h : f = t) : Calls Try.prog 56 #[.agg #[.int .i64 k, .int .i64 f, .int .i64 t, .int .i64 i, .int .i64 p, .int .i64 s, .string b]] W fun e w' => e = .returned (.bool false) ∧ Below W.heap.size W w' := by
  have e_kl : 1 ≤ k := by omega
  have d_kl : decide (k < 1) = false := by simp; omega
  have e_kg : k ≤ 4 := by omega
  have d_kg : decide (4 < k) = false := by simp; omega
  have e_fl : 0 ≤ f := by omega
  have d_fl : decide (f < 0) = false := by simp; omega
  have e_fg : f ≤ 71 := by omega
  have d_fg : decide (71 < f) = false := by simp; omega
  have e_tl : 0 ≤ t := by omega
  have d_tl : decide (t < 0) = false := by simp; omega
  have e_tg : t ≤ 71 := by omega
  have d_tg : decide (71 < t) = false := by simp; omega
  have hft : (f == t) = true := by simp [h]
  clear h
  clear h0
  clear h1
  clear h2
  clear h3
  clear h4
  clear h5
  go_enter Try.func56, Try.ntmps56
  go_upto_region 1 with (fail)
  refine at_world (fun w => Pc 50 w W.heap.size k f t i p s b ∧ Below W.heap.size W w) ⟨heap_alloc_new _ _, (Below.refl _ _).alloc (Nat.le_refl _) _⟩ ?_
  rintro w2 ⟨k0, hb⟩
  obtain ⟨⟨p0, p1, p2, p3, p4, p5, p6⟩, f0, f1, f2, f3, f4, f5, f6⟩ := seven_cells k0
  clear k0
  go_wp2
  go_ret
  exact ⟨rfl, hb⟩

set_option maxHeartbeats 2000000 in
theorem rcheck_good1 (f t i p s : Int) (b : ByteArray) (W : World) (h2 : 0 ≤ f) (h3 : f ≤ 71) (h4 : 0 ≤ t) (h5 : t ≤ 71) (h6 : f ≠ t) : Calls Try.prog 56 #[.agg #[.int .i64 1, .int .i64 f, .int .i64 t, .int .i64 i, .int .i64 p, .int .i64 s, .string b]] W fun e w' => e = .returned (.bool (inS true 1 72057594037927935 i && inS true 1 72057594037927935 p && inS true 1 72057594037927935 s && decide (b.size ≤ 32) && (decide (0 < b.size) == true))) ∧ Below W.heap.size W w' := by
  have d_fl : decide (f < 0) = false := by simp; omega
  have d_fg : decide (71 < f) = false := by simp; omega
  have d_tl : decide (t < 0) = false := by simp; omega
  have d_tg : decide (71 < t) = false := by simp; omega
  have hft : (f == t) = false := by simpa using h6
  clear h6
  have H1 := hid (r23num_any true i)
  have H2 := hid (r23num_any true p)
  have H3 := hid (r23num_any true s)
  generalize inS true 1 72057594037927935 i = b1 at *
  generalize inS true 1 72057594037927935 p = b2 at *
  generalize inS true 1 72057594037927935 s = b3 at *
  cases b1
  case' true => cases b2
  case' true.true => cases b3
  case' true.true.true =>
    rcases (by omega : b.size = 0 ∨ (b.size ≠ 0 ∧ b.size ≤ 32) ∨ 32 < b.size) with hz | ⟨hz, hy⟩ | hz
    case' inl =>
      have HV : Hid ((true && true && true && decide (b.size ≤ 32) && (decide (0 < b.size) == true)) = (false == true)) := hid (by rw [hz]; rfl)
      have hz2 : decide (32 < (b.size : Int)) = false := by rw [hz]; rfl
      have hz3 : decide (0 < (b.size : Int)) = false := by rw [hz]; rfl
      have hz4 : (b.size : Int) ≤ 32 := by omega
      have hz5 : (b.size : Int) ≤ 0 := by omega
      have hz6 : decide (0 < b.size) = false := by rw [hz]; rfl
      clear hz
    case' inr.inl =>
      have HV : Hid ((true && true && true && decide (b.size ≤ 32) && (decide (0 < b.size) == true)) = (true == true)) := hid (by rw [decide_eq_true hy, decide_eq_true (by omega : 0 < b.size)]; rfl)
      have hz2 : decide (32 < (b.size : Int)) = false := decide_eq_false (by omega)
      have hz3 : decide (0 < (b.size : Int)) = true := decide_eq_true (by omega)
      have hz4 : (b.size : Int) ≤ 32 := by omega
      have hz5 : 0 < (b.size : Int) := by omega
      have hz6 : decide (0 < b.size) = true := decide_eq_true (by omega)
      clear hz hy
    case' inr.inr =>
      have HV : Hid ((true && true && true && decide (b.size ≤ 32) && (decide (0 < b.size) == true)) = false) := hid (by rw [decide_eq_false (by omega : ¬ b.size ≤ 32)]; rfl)
      have hz2 : decide (32 < (b.size : Int)) = true := decide_eq_true (by omega)
      have hz4 : 32 < (b.size : Int) := by omega
      clear hz
  case' true.true.false => have HV : Hid ((true && true && false && decide (b.size ≤ 32) && (decide (0 < b.size) == true)) = false) := hid rfl
  case' true.false => have HV : Hid ((true && false && b3 && decide (b.size ≤ 32) && (decide (0 < b.size) == true)) = false) := hid rfl
  case' false => have HV : Hid ((false && b2 && b3 && decide (b.size ≤ 32) && (decide (0 < b.size) == true)) = false) := hid rfl
  all_goals
    rw [HV.out]
    clear HV
    go_enter Try.func56, Try.ntmps56
    go_upto_region 1 with (fail)
    refine at_world (fun w => Pc 50 w W.heap.size 1 f t i p s b ∧ Below W.heap.size W w) ⟨heap_alloc_new _ _, (Below.refl _ _).alloc (Nat.le_refl _) _⟩ ?_
    rintro w2 ⟨k0, hb⟩
    obtain ⟨⟨p0, p1, p2, p3, p4, p5, p6⟩, f0, f1, f2, f3, f4, f5, f6⟩ := seven_cells k0
    clear k0
    go_wp2_with (first
      | (go_at_call 80; with_reducible refine (H1.out _).mono ?_; rintro y w' ⟨rfl, rfl⟩)
      | (go_at_call 80; with_reducible refine (H2.out _).mono ?_; rintro y w' ⟨rfl, rfl⟩)
      | (go_at_call 80; with_reducible refine (H3.out _).mono ?_; rintro y w' ⟨rfl, rfl⟩))
    go_ret
    exact ⟨rfl, hb⟩

set_option maxHeartbeats 2000000 in
theorem rcheck_good2 (f t i p s : Int) (b : ByteArray) (W : World) (h2 : 0 ≤ f) (h3 : f ≤ 71) (h4 : 0 ≤ t) (h5 : t ≤ 71) (h6 : f ≠ t) : Calls Try.prog 56 #[.agg #[.int .i64 2, .int .i64 f, .int .i64 t, .int .i64 i, .int .i64 p, .int .i64 s, .string b]] W fun e w' => e = .returned (.bool (inS true 1 72057594037927935 i && inS true 1 72057594037927935 p && inS true 1 72057594037927935 s && decide (b.size ≤ 32) && (decide (0 < b.size) == false))) ∧ Below W.heap.size W w' := by
  have d_fl : decide (f < 0) = false := by simp; omega
  have d_fg : decide (71 < f) = false := by simp; omega
  have d_tl : decide (t < 0) = false := by simp; omega
  have d_tg : decide (71 < t) = false := by simp; omega
  have hft : (f == t) = false := by simpa using h6
  clear h6
  have H1 := hid (r23num_any true i)
  have H2 := hid (r23num_any true p)
  have H3 := hid (r23num_any true s)
  generalize inS true 1 72057594037927935 i = b1 at *
  generalize inS true 1 72057594037927935 p = b2 at *
  generalize inS true 1 72057594037927935 s = b3 at *
  cases b1
  case' true => cases b2
  case' true.true => cases b3
  case' true.true.true =>
    rcases (by omega : b.size = 0 ∨ (b.size ≠ 0 ∧ b.size ≤ 32) ∨ 32 < b.size) with hz | ⟨hz, hy⟩ | hz
    case' inl =>
      have HV : Hid ((true && true && true && decide (b.size ≤ 32) && (decide (0 < b.size) == false)) = (false == false)) := hid (by rw [hz]; rfl)
      have hz2 : decide (32 < (b.size : Int)) = false := by rw [hz]; rfl
      have hz3 : decide (0 < (b.size : Int)) = false := by rw [hz]; rfl
      have hz4 : (b.size : Int) ≤ 32 := by omega
      have hz5 : (b.size : Int) ≤ 0 := by omega
      have hz6 : decide (0 < b.size) = false := by rw [hz]; rfl
      clear hz
    case' inr.inl =>
      have HV : Hid ((true && true && true && decide (b.size ≤ 32) && (decide (0 < b.size) == false)) = (true == false)) := hid (by rw [decide_eq_true hy, decide_eq_true (by omega : 0 < b.size)]; rfl)
      have hz2 : decide (32 < (b.size : Int)) = false := decide_eq_false (by omega)
      have hz3 : decide (0 < (b.size : Int)) = true := decide_eq_true (by omega)
      have hz4 : (b.size : Int) ≤ 32 := by omega
      have hz5 : 0 < (b.size : Int) := by omega
      have hz6 : decide (0 < b.size) = true := decide_eq_true (by omega)
      clear hz hy
    case' inr.inr =>
      have HV : Hid ((true && true && true && decide (b.size ≤ 32) && (decide (0 < b.size) == false)) = false) := hid (by rw [decide_eq_false (by omega : ¬ b.size ≤ 32)]; rfl)
      have hz2 : decide (32 < (b.size : Int)) = true := decide_eq_true (by omega)
      have hz4 : 32 < (b.size : Int) := by omega
      clear hz
  case' true.true.false => have HV : Hid ((true && true && false && decide (b.size ≤ 32) && (decide (0 < b.size) == false)) = false) := hid rfl
  case' true.false => have HV : Hid ((true && false && b3 && decide (b.size ≤ 32) && (decide (0 < b.size) == false)) = false) := hid rfl
  case' false => have HV : Hid ((false && b2 && b3 && decide (b.size ≤ 32) && (decide (0 < b.size) == false)) = false) := hid rfl
  all_goals
    rw [HV.out]
    clear HV
    go_enter Try.func56, Try.ntmps56
    go_upto_region 1 with (fail)
    refine at_world (fun w => Pc 50 w W.heap.size 2 f t i p s b ∧ Below W.heap.size W w) ⟨heap_alloc_new _ _, (Below.refl _ _).alloc (Nat.le_refl _) _⟩ ?_
    rintro w2 ⟨k0, hb⟩
    obtain ⟨⟨p0, p1, p2, p3, p4, p5, p6⟩, f0, f1, f2, f3, f4, f5, f6⟩ := seven_cells k0
    clear k0
    go_wp2_with (first
      | (go_at_call 80; with_reducible refine (H1.out _).mono ?_; rintro y w' ⟨rfl, rfl⟩)
      | (go_at_call 80; with_reducible refine (H2.out _).mono ?_; rintro y w' ⟨rfl, rfl⟩)
      | (go_at_call 80; with_reducible refine (H3.out _).mono ?_; rintro y w' ⟨rfl, rfl⟩))
    go_ret
    exact ⟨rfl, hb⟩

set_option maxHeartbeats 2000000 in
theorem rcheck_good3 (f t i p s : Int) (b : ByteArray) (W : World) (h2 : 0 ≤ f) (h3 : f ≤ 71) (h4 : 0 ≤ t) (h5 : t ≤ 71) (h6 : f ≠ t) : Calls Try.prog 56 #[.agg #[.int .i64 3, .int .i64 f, .int .i64 t, .int .i64 i, .int .i64 p, .int .i64 s, .string b]] W fun e w' => e = .returned (.bool (inS true 1 72057594037927935 i && inS true 1 72057594037927935 p && inS false 1 72057594037927935 s && decide (b.size ≤ 32) && (decide (0 < b.size) == false))) ∧ Below W.heap.size W w' := by
  have d_fl : decide (f < 0) = false := by simp; omega
  have d_fg : decide (71 < f) = false := by simp; omega
  have d_tl : decide (t < 0) = false := by simp; omega
  have d_tg : decide (71 < t) = false := by simp; omega
  have hft : (f == t) = false := by simpa using h6
  clear h6
  have H1 := hid (r23num_any true i)
  have H2 := hid (r23num_any true p)
  have H3 := hid (r23num_any false s)
  generalize inS true 1 72057594037927935 i = b1 at *
  generalize inS true 1 72057594037927935 p = b2 at *
  generalize inS false 1 72057594037927935 s = b3 at *
  cases b1
  case' true => cases b2
  case' true.true => cases b3
  case' true.true.true =>
    rcases (by omega : b.size = 0 ∨ (b.size ≠ 0 ∧ b.size ≤ 32) ∨ 32 < b.size) with hz | ⟨hz, hy⟩ | hz
    case' inl =>
      have HV : Hid ((true && true && true && decide (b.size ≤ 32) && (decide (0 < b.size) == false)) = (false == false)) := hid (by rw [hz]; rfl)
      have hz2 : decide (32 < (b.size : Int)) = false := by rw [hz]; rfl
      have hz3 : decide (0 < (b.size : Int)) = false := by rw [hz]; rfl
      have hz4 : (b.size : Int) ≤ 32 := by omega
      have hz5 : (b.size : Int) ≤ 0 := by omega
      have hz6 : decide (0 < b.size) = false := by rw [hz]; rfl
      clear hz
    case' inr.inl =>
      have HV : Hid ((true && true && true && decide (b.size ≤ 32) && (decide (0 < b.size) == false)) = (true == false)) := hid (by rw [decide_eq_true hy, decide_eq_true (by omega : 0 < b.size)]; rfl)
      have hz2 : decide (32 < (b.size : Int)) = false := decide_eq_false (by omega)
      have hz3 : decide (0 < (b.size : Int)) = true := decide_eq_true (by omega)
      have hz4 : (b.size : Int) ≤ 32 := by omega
      have hz5 : 0 < (b.size : Int) := by omega
      have hz6 : decide (0 < b.size) = true := decide_eq_true (by omega)
      clear hz hy
    case' inr.inr =>
      have HV : Hid ((true && true && true && decide (b.size ≤ 32) && (decide (0 < b.size) == false)) = false) := hid (by rw [decide_eq_false (by omega : ¬ b.size ≤ 32)]; rfl)
      have hz2 : decide (32 < (b.size : Int)) = true := decide_eq_true (by omega)
      have hz4 : 32 < (b.size : Int) := by omega
      clear hz
  case' true.true.false => have HV : Hid ((true && true && false && decide (b.size ≤ 32) && (decide (0 < b.size) == false)) = false) := hid rfl
  case' true.false => have HV : Hid ((true && false && b3 && decide (b.size ≤ 32) && (decide (0 < b.size) == false)) = false) := hid rfl
  case' false => have HV : Hid ((false && b2 && b3 && decide (b.size ≤ 32) && (decide (0 < b.size) == false)) = false) := hid rfl
  all_goals
    rw [HV.out]
    clear HV
    go_enter Try.func56, Try.ntmps56
    go_upto_region 1 with (fail)
    refine at_world (fun w => Pc 50 w W.heap.size 3 f t i p s b ∧ Below W.heap.size W w) ⟨heap_alloc_new _ _, (Below.refl _ _).alloc (Nat.le_refl _) _⟩ ?_
    rintro w2 ⟨k0, hb⟩
    obtain ⟨⟨p0, p1, p2, p3, p4, p5, p6⟩, f0, f1, f2, f3, f4, f5, f6⟩ := seven_cells k0
    clear k0
    go_wp2_with (first
      | (go_at_call 80; with_reducible refine (H1.out _).mono ?_; rintro y w' ⟨rfl, rfl⟩)
      | (go_at_call 80; with_reducible refine (H2.out _).mono ?_; rintro y w' ⟨rfl, rfl⟩)
      | (go_at_call 80; with_reducible refine (H3.out _).mono ?_; rintro y w' ⟨rfl, rfl⟩))
    go_ret
    exact ⟨rfl, hb⟩

set_option maxHeartbeats 2000000 in
theorem rcheck_good4 (f t i p s : Int) (b : ByteArray) (W : World) (h2 : 0 ≤ f) (h3 : f ≤ 71) (h4 : 0 ≤ t) (h5 : t ≤ 71) (h6 : f ≠ t) : Calls Try.prog 56 #[.agg #[.int .i64 4, .int .i64 f, .int .i64 t, .int .i64 i, .int .i64 p, .int .i64 s, .string b]] W fun e w' => e = .returned (.bool (inS true 1 72057594037927935 i && inS false 1 72057594037927935 p && inS false 1 72057594037927935 s && decide (b.size ≤ 32) && (decide (0 < b.size) == true))) ∧ Below W.heap.size W w' := by
  have d_fl : decide (f < 0) = false := by simp; omega
  have d_fg : decide (71 < f) = false := by simp; omega
  have d_tl : decide (t < 0) = false := by simp; omega
  have d_tg : decide (71 < t) = false := by simp; omega
  have hft : (f == t) = false := by simpa using h6
  clear h6
  have H1 := hid (r23num_any true i)
  have H2 := hid (r23num_any false p)
  have H3 := hid (r23num_any false s)
  generalize inS true 1 72057594037927935 i = b1 at *
  generalize inS false 1 72057594037927935 p = b2 at *
  generalize inS false 1 72057594037927935 s = b3 at *
  cases b1
  case' true => cases b2
  case' true.true => cases b3
  case' true.true.true =>
    rcases (by omega : b.size = 0 ∨ (b.size ≠ 0 ∧ b.size ≤ 32) ∨ 32 < b.size) with hz | ⟨hz, hy⟩ | hz
    case' inl =>
      have HV : Hid ((true && true && true && decide (b.size ≤ 32) && (decide (0 < b.size) == true)) = (false == true)) := hid (by rw [hz]; rfl)
      have hz2 : decide (32 < (b.size : Int)) = false := by rw [hz]; rfl
      have hz3 : decide (0 < (b.size : Int)) = false := by rw [hz]; rfl
      have hz4 : (b.size : Int) ≤ 32 := by omega
      have hz5 : (b.size : Int) ≤ 0 := by omega
      have hz6 : decide (0 < b.size) = false := by rw [hz]; rfl
      clear hz
    case' inr.inl =>
      have HV : Hid ((true && true && true && decide (b.size ≤ 32) && (decide (0 < b.size) == true)) = (true == true)) := hid (by rw [decide_eq_true hy, decide_eq_true (by omega : 0 < b.size)]; rfl)
      have hz2 : decide (32 < (b.size : Int)) = false := decide_eq_false (by omega)
      have hz3 : decide (0 < (b.size : Int)) = true := decide_eq_true (by omega)
      have hz4 : (b.size : Int) ≤ 32 := by omega
      have hz5 : 0 < (b.size : Int) := by omega
      have hz6 : decide (0 < b.size) = true := decide_eq_true (by omega)
      clear hz hy
    case' inr.inr =>
      have HV : Hid ((true && true && true && decide (b.size ≤ 32) && (decide (0 < b.size) == true)) = false) := hid (by rw [decide_eq_false (by omega : ¬ b.size ≤ 32)]; rfl)
      have hz2 : decide (32 < (b.size : Int)) = true := decide_eq_true (by omega)
      have hz4 : 32 < (b.size : Int) := by omega
      clear hz
  case' true.true.false => have HV : Hid ((true && true && false && decide (b.size ≤ 32) && (decide (0 < b.size) == true)) = false) := hid rfl
  case' true.false => have HV : Hid ((true && false && b3 && decide (b.size ≤ 32) && (decide (0 < b.size) == true)) = false) := hid rfl
  case' false => have HV : Hid ((false && b2 && b3 && decide (b.size ≤ 32) && (decide (0 < b.size) == true)) = false) := hid rfl
  all_goals
    rw [HV.out]
    clear HV
    go_enter Try.func56, Try.ntmps56
    go_upto_region 1 with (fail)
    refine at_world (fun w => Pc 50 w W.heap.size 4 f t i p s b ∧ Below W.heap.size W w) ⟨heap_alloc_new _ _, (Below.refl _ _).alloc (Nat.le_refl _) _⟩ ?_
    rintro w2 ⟨k0, hb⟩
    obtain ⟨⟨p0, p1, p2, p3, p4, p5, p6⟩, f0, f1, f2, f3, f4, f5, f6⟩ := seven_cells k0
    clear k0
    go_wp2_with (first
      | (go_at_call 80; with_reducible refine (H1.out _).mono ?_; rintro y w' ⟨rfl, rfl⟩)
      | (go_at_call 80; with_reducible refine (H2.out _).mono ?_; rintro y w' ⟨rfl, rfl⟩)
      | (go_at_call 80; with_reducible refine (H3.out _).mono ?_; rintro y w' ⟨rfl, rfl⟩))
    go_ret
    exact ⟨rfl, hb⟩

theorem rcheck_any (k f t i p s : Int) (b : ByteArray) (W : World) :
    Calls Try.prog 56 #[.agg #[.int .i64 k, .int .i64 f, .int .i64 t, .int .i64 i, .int .i64 p, .int .i64 s, .string b]] W fun e w' => e = .returned (.bool (okP k f t i p s b.data.toList)) ∧ Below W.heap.size W w' := by
  have hbl : b.data.toList.length = b.size := by rw [Array.length_toList]; rfl
  by_cases hk : 1 ≤ k ∧ k ≤ 4
  case neg =>
    have : okP k f t i p s b.data.toList = false := by rw [okP, decide_eq_false hk]; simp
    rw [this]
    rcases (by omega : k < 1 ∨ (1 ≤ k ∧ 4 < k)) with h | ⟨h, h'⟩
    · exact rcheck_bad0 k f t i p s b W h
    · exact rcheck_bad1 k f t i p s b W h h'
  by_cases hf : 0 ≤ f ∧ f ≤ 71
  case neg =>
    have : okP k f t i p s b.data.toList = false := by rw [okP, decide_eq_false hf]; simp
    rw [this]
    rcases (by omega : f < 0 ∨ (0 ≤ f ∧ 71 < f)) with h | ⟨h, h'⟩
    · exact rcheck_bad2 k f t i p s b W hk.1 hk.2 h
    · exact rcheck_bad3 k f t i p s b W hk.1 hk.2 h h'
  by_cases ht : 0 ≤ t ∧ t ≤ 71
  case neg =>
    have : okP k f t i p s b.data.toList = false := by rw [okP, decide_eq_false ht]; simp
    rw [this]
    rcases (by omega : t < 0 ∨ (0 ≤ t ∧ 71 < t)) with h | ⟨h, h'⟩
    · exact rcheck_bad4 k f t i p s b W hk.1 hk.2 hf.1 hf.2 h
    · exact rcheck_bad5 k f t i p s b W hk.1 hk.2 hf.1 hf.2 h h'
  by_cases hft : f = t
  · have : okP k f t i p s b.data.toList = false := by rw [okP, decide_eq_false (show ¬ f ≠ t by simp [hft])]; simp
    rw [this]
    exact rcheck_bad6 k f t i p s b W hk.1 hk.2 hf.1 hf.2 ht.1 ht.2 hft
  have g3 : ∀ n : Nat, inT (hpB n) b.data.toList = (decide (b.size ≤ 32) && (decide (0 < b.size) == hpB n)) := fun n => by
    cases hpB n with
    | true =>
      simp only [inT, if_true, hbl]
      rw [Bool.eq_iff_iff]; simp; omega
    | false =>
      by_cases h0 : b.size = 0
      · simp only [inT, hbl, h0]; rfl
      · have h9 : 0 < b.size := by omega
        simp only [inT, hbl, Bool.false_eq_true, if_false]
        rw [decide_eq_false h0, decide_eq_true h9]; simp
  have this : ∀ n : Nat, k = n → okP k f t i p s b.data.toList = (inS true 1 72057594037927935 i && inS (hpP n) 1 72057594037927935 p && inS (hpS n) 1 72057594037927935 s && decide (b.size ≤ 32) && (decide (0 < b.size) == hpB n)) := fun n hn => by
    subst hn
    rw [okP, decide_eq_true hk, decide_eq_true hf, decide_eq_true ht, decide_eq_true hft, Int.toNat_natCast, g3]
    simp only [Bool.true_and, Bool.and_assoc]
  rcases (by omega : k = 1 ∨ k = 2 ∨ k = 3 ∨ k = 4) with rfl | rfl | rfl | rfl
  · rw [this 1 rfl]; exact rcheck_good1 f t i p s b W hf.1 hf.2 ht.1 ht.2 hft
  · rw [this 2 rfl]; exact rcheck_good2 f t i p s b W hf.1 hf.2 ht.1 ht.2 hft
  · rw [this 3 rfl]; exact rcheck_good3 f t i p s b W hf.1 hf.2 ht.1 ht.2 hft
  · rw [this 4 rfl]; exact rcheck_good4 f t i p s b W hf.1 hf.2 ht.1 ht.2 hft
end Go.Proofs.Ytdekemlckpbbcaa
