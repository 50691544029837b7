/- The document's sets of numbers, as contracts. -/
import Derived.Test.YtadjmgmdnekllaaFlockC
import Derived.Test.YtadjmgmdnekllaaIcell
import Derived.Lib.QuietBelow
namespace Go.Proofs.Ytadjmgmdnekllaa
open Go.RowKit
set_option linter.unusedVariables false
set_option linter.unusedSimpArgs false

theorem in06_any (A : Option Addr) (len cap : Nat) (l : List Int) (k : Int) (w : World) (h : Sl w 1 A len cap (icells .i64 l)) :
    Calls Try.prog 75 #[.slice A len cap, .int .i64 k] w fun e w' => e = .returned (.bool (decide (k ∈ l))) ∧ w = w' := by
  obtain rfl : len = l.length := by have := h.1; rw [icells_length] at this; omega
  have hmx : l.length ≤ 9223372036854775807 := by have h1 := h.2.1; have h2 := h.2.2.1; unfold maxLen at h2; omega
  have HS := hid h
  clear h
  go_enter Try.func75, Try.ntmps75
  go_wp2
  go_loop [5] (fun i => ∃ j : Nat, j ≤ l.length ∧ i = .int .i64 (j : Int) ∧ Hid (k ∉ l.take j)) (fun i => l.length - (intOf i).toNat)
  case atStart => exact ⟨0, by omega, rfl, by simp [Hid]⟩
  case round =>
    obtain ⟨j, hj, rfl, HN⟩ := hrel
    by_cases hlt : j < l.length
    · have hlt2 : (j : Int) < (l.length : Int) := by omega
      obtain ⟨b, off, rfl, hc⟩ := Sl.at HS.out j (by rw [icells_length]; exact hlt)
      have e1 : (icells .i64 l)[j]'(by rw [icells_length]; exact hlt) = .int .i64 l[j] := by simp [icells]
      rw [e1] at hc
      have H1 : Hid (l.take (j + 1) = l.take j ++ [l[j]]) := hid (List.take_succ_eq_append_getElem hlt)
      have H2 : Hid (l[j] ∈ l) := hid (List.getElem_mem hlt)
      clear e1
      generalize l[j] = x at hc H1 H2
      by_cases hx : x = k
      · subst hx
        have hb : (x == x) = true := by simp
        go_wp2
        go_ret
        exact ⟨ret_bool (by rw [decide_eq_true H2.out]), rfl⟩
      · have hb : (x == k) = false := by simpa using hx
        have H3 : Hid (k ∉ l.take (j + 1)) := hid (by
          rw [H1.out, List.mem_append, List.mem_singleton]
          rintro (h | h)
          · exact HN.out h
          · exact hx h.symm)
        clear hx
        go_wp2
        go_round
        case rel => exact ⟨j + 1, by omega, by go_num, H3.out⟩
        case measure => simp [intOf]; omega
    · have hge : (l.length : Int) ≤ j := by omega
      have H3 : Hid (k ∉ l) := hid (by have := HN.out; rwa [List.take_of_length_le (by omega)] at this)
      clear HN
      go_wp2
      go_ret
      exact ⟨ret_bool (by rw [decide_eq_false H3.out]), rfl⟩

theorem rof_any (A : Option Addr) (len cap : Nat) (l : List Int) (w : World) (h : Sl w 1 A len cap (icells .i64 l)) :
    Calls Try.prog 23 #[.slice A len cap] w fun e w' => e = .returned (.int .u64 (ofL l : Nat)) ∧ w = w' := by
  have HI := hid (fun k => in06_any A len cap l k w h)
  clear h
  go_enter Try.func23, Try.ntmps23
  go_wp2
  go_loop [3, 4] (fun x i => ∃ k m : Nat, k ≤ 64 ∧ i = .int .i64 (k : Int) ∧ x = .int .u64 (m : Int) ∧ Hid (m = ofU l k)) (fun _ i => 64 - (intOf i).toNat)
  case atStart => exact ⟨0, 0, by omega, rfl, rfl, rfl⟩
  case round =>
    obtain ⟨k, m, hk, rfl, rfl, HM⟩ := hrel
    by_cases hlt : k < 64
    · have hlt2 : (k : Int) < 64 := by omega
      by_cases hm : (k : Int) ∈ l
      · have hd : decide ((k : Int) ∈ l) = true := decide_eq_true hm
        have H1 : Hid (m + p2 k = ofU l (k + 1)) := hid (by rw [HM.out, ofU, if_pos hm]; rfl)
        have hb : m + p2 k < 18446744073709551616 := by
          rw [H1.out]
          have h1 := ofU_lt l (k + 1)
          have h2 : 2 ^ (k + 1) ≤ 2 ^ 64 := Nat.pow_le_pow_right (by omega) (by omega)
          simp only [Nat.reducePow] at h2
          omega
        have H2 := hid (rbit_any k w hlt)
        clear hm HM
        have H3 := hid (HI.out (k : Int))
        rw [hd] at H3
        clear hd
        go_wp2_with (first
          | (go_at_call 75; refine H3.out.mono ?_; rintro e w' ⟨rfl, rfl⟩)
          | (go_at_call 111; refine H2.out.mono ?_; rintro e w' ⟨rfl, rfl⟩))
        go_round
        case rel => exact ⟨k + 1, m + p2 k, by omega, by go_num, by simp, H1.out⟩
        case measure => simp [intOf]; omega
      · have hd : decide ((k : Int) ∈ l) = false := decide_eq_false hm
        have H1 : Hid (m = ofU l (k + 1)) := hid (by rw [HM.out, ofU, if_neg hm]; rfl)
        clear hm HM
        have H3 := hid (HI.out (k : Int))
        rw [hd] at H3
        clear hd
        go_wp2_with (go_at_call 75; refine H3.out.mono ?_; rintro e w' ⟨rfl, rfl⟩)
        go_round
        case rel => exact ⟨k + 1, m, by omega, by go_num, rfl, H1.out⟩
        case measure => simp [intOf]; omega
    · have hge : (64 : Int) ≤ k := by omega
      have H1 : Hid (m = ofL l) := hid (by rw [HM.out, show k = 64 by omega]; rfl)
      clear HM
      go_wp2
      go_ret
      exact ⟨ret_u64 (by rw [H1.out]), rfl⟩

theorem elemsU_len (s : Nat) : ∀ n, (elemsU s n).length ≤ n
  | 0 => by simp [elemsU]
  | n + 1 => by
    have := elemsU_len s n
    unfold elemsU
    rw [List.length_append]
    split <;> simp <;> omega
theorem elemsU_yes {s n : Nat} (h : s.testBit n = true) : elemsU s (n + 1) = elemsU s n ++ [(n : Int)] := by rw [elemsU, if_pos h]
theorem elemsU_no {s n : Nat} (h : s.testBit n = false) : elemsU s (n + 1) = elemsU s n := by rw [elemsU, if_neg (by simp [h])]; simp
theorem hasS_nat (s n : Nat) (h : n < 64) : hasS s (n : Int) = s.testBit n := by unfold hasS; rw [decide_eq_true (by omega)]; simp

set_option maxHeartbeats 1000000 in
theorem rlist_any (s : Nat) (W : World) (hs : s < 18446744073709551616) :
    Calls Try.prog 26 #[.int .u64 s] W fun e w' => ∃ v, e = .returned v ∧ Below W.heap.size W w' ∧ w'.ownsRow W.heap.size 3 1 v (elems s).length (icells .i64 (elems s)) := by
  have HH := hid (fun k w => rhas_any s k w hs)
  clear hs
  go_enter Try.func26, Try.ntmps26
  go_wp2
  go_loopw [3, 4] (fun v i wr => ∃ k : Nat, k ≤ 64 ∧ i = .int .i64 (k : Int) ∧ Hid (wr.ownsRow W.heap.size 3 1 v (elemsU s k).length (icells .i64 (elemsU s k))) ∧ Hid (Below W.heap.size W wr)) (fun _ i _ => 64 - (intOf i).toNat)
  case atStart => exact ⟨0, by omega, rfl, World.ownsRow_nil _ _ _ _, Below.refl _ _⟩
  case round =>
    obtain ⟨k, hk, rfl, HO, HB⟩ := hrel
    by_cases hlt : k < 64
    · have hlt2 : (k : Int) < 64 := by omega
      have H1 := hid (HH.out (k : Int))
      rw [hasS_nat s k hlt] at H1
      have hl := elemsU_len s k
      by_cases hm : s.testBit k = true
      · rw [hm] at H1
        have H2 := hid (elemsU_yes hm)
        clear hm
        go_wp2_with (first
          | (go_at_call 17; refine (H1.out _).mono ?_; rintro e w' ⟨rfl, rfl⟩)
          | (at_builtin; refine wpList_append_1 (W := W) rfl (.tmp 12) (.tmp 14) 23 rfl W.heap.size 3 Try.underlying23 info_int rfl (by omega) rfl HO.out rfl rfl (by simp; rfl) ?c1 ?c2 HB.out.size HB.out ?_))
        case c1 => unfold maxLen; omega
        case c2 => omega
        · intro v' w' h2 h3 h4
          have HO2 := hid h2; clear h2
          go_wp2
          go_roundw
          case rel => exact ⟨k + 1, by omega, by go_num, by rw [Hid, H2.out, icells_append, List.length_append]; exact HO2.out, h3⟩
          case measure => simp [intOf]; omega
      · have hm' : s.testBit k = false := by simpa using hm
        rw [hm'] at H1
        have H2 := hid (elemsU_no hm')
        clear hm hm'
        go_wp2_with (go_at_call 17; refine (H1.out _).mono ?_; rintro e w' ⟨rfl, rfl⟩)
        go_roundw
        case rel => exact ⟨k + 1, by omega, by go_num, by rw [H2.out]; exact HO, HB.out⟩
        case measure => simp [intOf]; omega
    · have hge : (64 : Int) ≤ k := by omega
      obtain rfl : k = 64 := by omega
      rw [← elems_def] at HO
      go_wp2
      go_ret
      exact ⟨_, rfl, HB.out, HO.out⟩

theorem upto_len (n : Int) : ∀ k, (upto n k).length ≤ k
  | 0 => by simp [upto]
  | k + 1 => by
    have := upto_len n k
    unfold upto
    rw [List.length_append]
    split <;> simp <;> omega
theorem upto_yes {n : Int} {k : Nat} (h : (k : Int) < n) : upto n (k + 1) = upto n k ++ [(k : Int)] := by rw [upto, if_pos h]
theorem upto_no {n : Int} {k : Nat} (h : ¬ (k : Int) < n) : upto n (k + 1) = upto n k := by rw [upto, if_neg h]; simp

set_option maxHeartbeats 1000000 in
theorem rbelow_any (n : Int) (W : World) :
    Calls Try.prog 25 #[.int .i64 n] W fun e w' => e = .returned (.int .u64 (belowS n : Nat)) ∧ Below W.heap.size W w' := by
  go_enter Try.func25, Try.ntmps25
  go_wp2
  go_loopw [3, 4] (fun v i wr => ∃ k : Nat, k ≤ 64 ∧ i = .int .i64 (k : Int) ∧ Hid (wr.ownsRow W.heap.size 3 1 v (upto n k).length (icells .i64 (upto n k))) ∧ Hid (Below W.heap.size W wr)) (fun _ i _ => 64 - (intOf i).toNat)
  case atStart => exact ⟨0, by omega, rfl, World.ownsRow_nil _ _ _ _, Below.refl _ _⟩
  case round =>
    obtain ⟨k, hk, rfl, HO, HB⟩ := hrel
    by_cases hlt : k < 64
    · have hlt2 : (k : Int) < 64 := by omega
      have hl := upto_len n k
      by_cases hm : (k : Int) < n
      · have H2 := hid (upto_yes hm)
        go_wp2_with (at_builtin; refine wpList_append_1 (W := W) rfl (.tmp 12) (.tmp 14) 23 rfl W.heap.size 3 Try.underlying23 info_int rfl (by omega) rfl HO.out rfl rfl (by simp; rfl) ?c1 ?c2 HB.out.size HB.out ?_)
        case c1 => unfold maxLen; omega
        case c2 => omega
        · intro v' w' h2 h3 h4
          have HO2 := hid h2; clear h2
          go_wp2
          go_roundw
          case rel => exact ⟨k + 1, by omega, by go_num, by rw [Hid, H2.out, icells_append, List.length_append]; exact HO2.out, h3⟩
          case measure => simp [intOf]; omega
      · have H2 := hid (upto_no hm)
        have hm2 : n ≤ (k : Int) := by omega
        clear hm
        go_wp2
        go_roundw
        case rel => exact ⟨k + 1, by omega, by go_num, by rw [H2.out]; exact HO, HB.out⟩
        case measure => simp [intOf]; omega
    · have hge : (64 : Int) ≤ k := by omega
      obtain rfl : k = 64 := by omega
      obtain ⟨A, c, rfl, hs⟩ := Sl.of_own HO.out
      have HS := hid hs
      clear hs
      go_wp2_with (go_at_call 23; refine (rof_any A _ c _ _ HS.out).mono ?_; rintro e w' ⟨rfl, rfl⟩)
      go_ret
      exact ⟨ret_u64 (by rw [below_eq]), HB.out⟩

set_option maxHeartbeats 1000000 in
theorem rwith_any (s : Nat) (k : Int) (W : World) (hs : s < 18446744073709551616) :
    Calls Try.prog 19 #[.int .u64 s, .int .i64 k] W fun e w' => e = .returned (.int .u64 (withS s k : Nat)) ∧ Below W.heap.size W w' := by
  have HE := hid (with_eq s k hs)
  have HL := hid (rlist_any s W hs)
  have hl := elemsU_len s 64
  have hl' : (elems s).length ≤ 64 := by rw [elems_def]; exact hl
  clear hs hl
  go_enter Try.func19, Try.ntmps19
  go_wp2_with fail
  refine HL.out.mono ?_
  rintro e w1 ⟨v, rfl, hb, ho⟩
  have HB := hid hb
  have HO := hid ho
  clear hb ho
  go_wp2_with (at_builtin; refine wpList_append_1 (W := W) rfl (.tmp 6) (.tmp 8) 23 rfl W.heap.size 3 Try.underlying23 info_int rfl (by omega) rfl HO.out rfl rfl (by simp; rfl) ?c1 ?c2 HB.out.size HB.out ?_)
  case c1 => unfold maxLen; omega
  case c2 => omega
  intro v' w' h2 h3 h4
  obtain ⟨A, c, rfl, hs⟩ := Sl.of_own h2
  have HS : Hid (Sl w' 1 A ((elems s).length + 1) c (icells .i64 (elems s ++ [k]))) := hid (by rw [icells_append]; exact hs)
  have HB3 := hid h3
  clear h2 hs h3 h4
  go_wp2_with fail
  refine (rof_any A _ c _ _ HS.out).mono ?_
  rintro e w' ⟨rfl, rfl⟩
  go_wp2
  go_ret
  exact ⟨ret_u64 (by rw [HE.out]), HB3.out⟩

theorem filt_snoc (l : List Int) (k : Int) (j : Nat) (h : j < l.length) : (l.take (j + 1)).filter (· != k) = (l.take j).filter (· != k) ++ if l[j] != k then [l[j]] else [] := by
  rw [List.take_succ_eq_append_getElem h, List.filter_append]
  congr 1
  by_cases hx : l[j] != k
  · rw [if_pos hx]; simp [List.filter_cons, hx]
  · rw [if_neg hx]; simp [List.filter_cons, hx]
theorem filt_len (l : List Int) (k : Int) (j : Nat) : ((l.take j).filter (· != k)).length ≤ j := Nat.le_trans (List.length_filter_le _ _) (List.length_take_le _ _)

set_option maxHeartbeats 2000000 in
theorem rless_any (s : Nat) (k : Int) (W : World) (hs : s < 18446744073709551616) :
    Calls Try.prog 21 #[.int .u64 s, .int .i64 k] W fun e w' => e = .returned (.int .u64 (lessS s k : Nat)) ∧ Below W.heap.size W w' := by
  have HE := hid (less_eq s k hs)
  have HL := hid (rlist_any s W hs)
  have hl' : (elems s).length ≤ 64 := by rw [elems_def]; exact elemsU_len s 64
  clear hs
  generalize elems s = l at *
  go_enter Try.func21, Try.ntmps21
  go_wp2_with fail
  refine HL.out.mono ?_
  rintro e w1 ⟨v, rfl, hb, ho⟩
  obtain ⟨A, c, rfl, hs⟩ := Sl.of_own ho
  have HB := hid hb
  have HS := hid hs
  clear hb ho hs
  go_wp2
  go_loopw [6, 7] (fun v i wr => ∃ j : Nat, j ≤ l.length ∧ i = .int .i64 (j : Int) ∧ Hid (wr.ownsRow w1.heap.size 3 1 v ((l.take j).filter (· != k)).length (icells .i64 ((l.take j).filter (· != k)))) ∧ Hid (Below w1.heap.size w1 wr)) (fun _ i _ => l.length - (intOf i).toNat)
  case atStart => exact ⟨0, by omega, rfl, World.ownsRow_nil _ _ _ _, Below.refl _ _⟩
  case round =>
    obtain ⟨j, hj, rfl, HO, HBr⟩ := hrel
    by_cases hlt : j < l.length
    · have hlt2 : (j : Int) < (l.length : Int) := by omega
      obtain ⟨b, off, rfl, hc⟩ := Sl.at (HS.out.below HBr.out) j (by rw [icells_length]; exact hlt)
      have e1 : (icells .i64 l)[j]'(by rw [icells_length]; exact hlt) = .int .i64 l[j] := by simp [icells]
      rw [e1] at hc
      clear e1
      have H2 := hid (filt_snoc l k j hlt)
      have hf := filt_len l k j
      generalize l[j] = x at hc H2
      by_cases hx : x = k
      · have hd : (x != k) = false := by simp [hx]
        rw [hd] at H2
        clear hx
        go_wp2
        go_roundw
        case rel => exact ⟨j + 1, by omega, by go_num, by rw [H2.out]; simpa using HO, HBr.out⟩
        case measure => simp [intOf]; omega
      · have hd : (x != k) = true := by simp [hx]
        rw [hd] at H2
        clear hx
        go_wp2_with (at_builtin; refine wpList_append_1 (W := w1) rfl (.tmp 22) (.tmp 27) 23 rfl w1.heap.size 3 Try.underlying23 info_int rfl (by omega) rfl HO.out rfl rfl (by simp; rfl) ?c1 ?c2 HBr.out.size HBr.out ?_)
        case c1 => unfold maxLen; omega
        case c2 => omega
        · intro v' w' h2 h3 h4
          have HO2 := hid h2; clear h2
          go_wp2
          go_roundw
          case rel => exact ⟨j + 1, by omega, by go_num, by rw [Hid, H2.out, if_pos trivial, icells_append, List.length_append]; exact HO2.out, h3⟩
          case measure => simp [intOf]; omega
    · have hge : (l.length : Int) ≤ j := by omega
      have hO := HO.out
      rw [List.take_of_length_le (by omega)] at hO
      obtain ⟨A2, c2, rfl, hs⟩ := Sl.of_own hO
      have HS2 := hid hs
      clear hs hO HO
      go_wp2_with (go_at_call 23; refine (rof_any A2 _ c2 _ _ HS2.out).mono ?_; rintro e w' ⟨rfl, rfl⟩)
      go_ret
      exact ⟨ret_u64 (by rw [HE.out]), HB.out.trans (HBr.out.mono HB.out.size)⟩

def nthS (s : Nat) (k : Int) : Int := if k < 0 then -1 else (elems s).getD k.toNat (-1)
set_option maxHeartbeats 1000000 in
theorem rnth_any (s : Nat) (k : Int) (W : World) (hs : s < 18446744073709551616) :
    Calls Try.prog 32 #[.int .u64 s, .int .i64 k] W fun e w' => e = .returned (.int .i64 (nthS s k)) ∧ Below W.heap.size W w' := by
  have HL := hid (rlist_any s W hs)
  have hl' : (elems s).length ≤ 64 := by rw [elems_def]; exact elemsU_len s 64
  clear hs
  have HN : Hid (nthS s k = if k < 0 then -1 else (elems s).getD k.toNat (-1)) := rfl
  generalize elems s = l at *
  by_cases h0 : k < 0
  · rw [if_pos h0] at HN
    go_enter Try.func32, Try.ntmps32
    go_wp2_with fail
    refine HL.out.mono ?_
    rintro e w1 ⟨v, rfl, hb, ho⟩
    obtain ⟨A, c, rfl, hs⟩ := Sl.of_own ho
    have HB := hid hb
    clear hb ho hs HL
    have hd : decide (k < 0) = true := by simp [h0]
    go_wp2
    go_ret
    exact ⟨ret_i64 (by rw [HN.out]), HB.out⟩
  · rw [if_neg h0] at HN
    obtain ⟨n, rfl⟩ := Int.eq_ofNat_of_zero_le (show 0 ≤ k by omega)
    rw [Int.toNat_natCast] at HN
    have hd : decide ((n : Int) < 0) = false := by simp
    clear h0
    go_enter Try.func32, Try.ntmps32
    go_wp2_with fail
    refine HL.out.mono ?_
    rintro e w1 ⟨v, rfl, hb, ho⟩
    obtain ⟨A, c, rfl, hs⟩ := Sl.of_own ho
    have HB := hid hb
    clear hb ho HL
    by_cases hlt : n < l.length
    · have hlt2 : (n : Int) < (l.length : Int) := by omega
      obtain ⟨b, off, rfl, hc⟩ := Sl.at hs n (by rw [icells_length]; exact hlt)
      have e1 : (icells .i64 l)[n]'(by rw [icells_length]; exact hlt) = .int .i64 l[n] := by simp [icells]
      rw [e1] at hc
      rw [List.getD_eq_getElem?_getD, List.getElem?_eq_getElem hlt] at HN
      clear e1 hs
      generalize l[n] = x at hc HN
      have hd2 : decide (l.length ≤ n) = false := by simp; omega
      go_wp2
      go_ret
      exact ⟨ret_i64 (by rw [HN.out]; rfl), HB.out⟩
    · have hge : (l.length : Int) ≤ n := by omega
      rw [List.getD_eq_getElem?_getD, List.getElem?_eq_none (by omega)] at HN
      have hd2 : decide (l.length ≤ n) = true := by simp; omega
      clear hs hlt
      go_wp2
      go_ret
      exact ⟨ret_i64 (by rw [HN.out]; rfl), HB.out⟩
end Go.Proofs.Ytadjmgmdnekllaa
