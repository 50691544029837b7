/- Messages: the document's Check, Bytes, Down, Word; the program's Down and Word: contracts. -/
import Derived.Test.YtjkaenjegcojhaaDoorMbA
import Derived.BigQuiet
import Derived.Lib.QuietBelow
namespace Go.Proofs.YtjkaenjegcojhaaDoor
open Go.RowKit
set_option linter.unusedVariables false
set_option linter.unusedSimpArgs false

theorem in_any (k f : Nat) (n least most : Int) (hk : k ≤ 11) (hf : f = 1 ∨ f = 2 ∨ f = 3) (w : World) : Calls Tryd.prog 27 #[.int .i64 k, .int .i64 f, .int .i64 n, .int .i64 least, .int .i64 most] w fun e w' => e = .returned (.bool (inS (hasB k f) least most n)) ∧ w = w' := by
  have HH := hid (fun w => has_any k f hk hf w)
  have HI : Hid (inS (hasB k f) least most n = if hasB k f then decide (least ≤ n) && decide (n ≤ most) else n == 0) := hid (by
    unfold inS
    cases hasB k f
    · rfl
    · simp only [if_true]
      rw [Bool.eq_iff_iff]
      simp)
  cases hb : hasB k f with
  | true =>
    rw [hb] at HH HI
    simp only [if_true] at HI
    clear hb
    go_enter Tryd.func27, Tryd.ntmps27
    go_wp2_with fail
    refine (HH.out _).mono ?_
    rintro e w' ⟨rfl, rfl⟩
    by_cases h1 : least ≤ n
    · have d1 : decide (least ≤ n) = true := decide_eq_true h1
      go_wp2
      go_ret
      exact ⟨by rw [HI.out, d1, Bool.true_and]; rfl, rfl⟩
    · have d1 : decide (least ≤ n) = false := decide_eq_false h1
      go_wp2
      go_ret
      exact ⟨by rw [HI.out, d1, Bool.false_and]; rfl, rfl⟩
  | false =>
    rw [hb] at HH HI
    simp only [Bool.false_eq_true, if_false] at HI
    clear hb
    go_enter Tryd.func27, Tryd.ntmps27
    go_wp2_with fail
    refine (HH.out _).mono ?_
    rintro e w' ⟨rfl, rfl⟩
    go_wp2
    go_ret
    exact ⟨by rw [HI.out]; rfl, rfl⟩

set_option maxRecDepth 20000 in
set_option maxHeartbeats 2000000 in
theorem rcheck22_any (k j t p : Int) (W : World) : Calls Tryd.prog 7 #[.agg #[.int .i64 k, .int .i64 j, .int .i64 t, .int .i64 p]] W fun e w' => e = .returned (.bool (chkB k j t p)) ∧ Below W.heap.size W w' := by
  have HB0 : Hid (∀ o, Below W.heap.size W (W.alloc o)) := hid (fun o => (Below.refl _ _).alloc (Nat.le_refl _) _)
  by_cases hk : 1 ≤ k ∧ k ≤ 11
  · obtain ⟨n, rfl⟩ := Int.eq_ofNat_of_zero_le (show 0 ≤ k by omega)
    have hn : n ≤ 11 := by omega
    have hn1 : (1 : Int) ≤ (n : Int) := hk.1
    have hn2 : (n : Int) ≤ 11 := hk.2
    have HC : Hid (chkB (n : Int) j t p = (inS (hasB n 1) 1 72057594037927935 j && inS (hasB n 2) 0 15 t && inS (hasB n 3) 1 9 p)) := hid (by
      unfold chkB
      rw [decide_eq_true hk, Bool.true_and, Int.toNat_natCast])
    have H1 := hid (fun w => in_any n 1 j 1 72057594037927935 hn (.inl rfl) w)
    have H2 := hid (fun w => in_any n 2 t 0 15 hn (.inr (.inl rfl)) w)
    have H3 := hid (fun w => in_any n 3 p 1 9 hn (.inr (.inr rfl)) w)
    clear hk hn
    generalize inS (hasB n 1) 1 72057594037927935 j = b1 at *
    generalize inS (hasB n 2) 0 15 t = b2 at *
    generalize inS (hasB n 3) 1 9 p = b3 at *
    go_enter Tryd.func7, Tryd.ntmps7
    cases b1 with
    | false =>
      go_wp2_with fail
      refine (H1.out _).mono ?_
      rintro e w' ⟨rfl, rfl⟩
      go_wp2
      go_ret
      exact ⟨by rw [HC.out]; rfl, HB0.out _⟩
    | true =>
      cases b2 with
      | false =>
        go_wp2_with fail
        refine (H1.out _).mono ?_
        rintro e w' ⟨rfl, rfl⟩
        go_wp2_with fail
        refine (H2.out _).mono ?_
        rintro e w' ⟨rfl, rfl⟩
        go_wp2
        go_ret
        exact ⟨by rw [HC.out]; rfl, HB0.out _⟩
      | true =>
        go_wp2_with fail
        refine (H1.out _).mono ?_
        rintro e w' ⟨rfl, rfl⟩
        go_wp2_with fail
        refine (H2.out _).mono ?_
        rintro e w' ⟨rfl, rfl⟩
        go_wp2_with fail
        refine (H3.out _).mono ?_
        rintro e w' ⟨rfl, rfl⟩
        go_wp2
        go_ret
        exact ⟨by rw [HC.out]; rfl, HB0.out _⟩
  · have HC : Hid (chkB k j t p = false) := hid (by unfold chkB; rw [decide_eq_false hk]; rfl)
    by_cases h1 : 1 ≤ k
    · have h2 : ¬ k ≤ 11 := by omega
      have d2 : decide (k ≤ 11) = false := decide_eq_false h2
      have d1 : decide (1 ≤ k) = true := decide_eq_true h1
      clear hk
      go_enter Tryd.func7, Tryd.ntmps7
      go_wp2
      go_ret
      exact ⟨by rw [HC.out]; rfl, HB0.out _⟩
    · have d1 : decide (1 ≤ k) = false := decide_eq_false h1
      clear hk
      go_enter Tryd.func7, Tryd.ntmps7
      go_wp2
      go_ret
      exact ⟨by rw [HC.out]; rfl, HB0.out _⟩

/-- What the document's bytes are, up to a field. -/
def mbU (k : Nat) (j t p : Int) : Nat → List UInt8
  | 0 => numB (cl k)
  | 1 => numB (cl k) ++ pt (hasB k 1) j
  | 2 => numB (cl k) ++ pt (hasB k 1) j ++ pt (hasB k 2) t
  | _ => numB (cl k) ++ pt (hasB k 1) j ++ pt (hasB k 2) t ++ pt (hasB k 3) p
def fdN (j t p : Int) : Nat → Int
  | 0 => j
  | 1 => t
  | _ => p
theorem mbU_succ (k : Nat) (j t p : Int) (i : Nat) (h : i < 3) : mbU k j t p (i + 1) = mbU k j t p i ++ pt (hasB k (i + 1)) (fdN j t p i) := by
  match i, h with
  | 0, _ => rfl
  | 1, _ => rfl
  | 2, _ => rfl
theorem mbU_len (k : Nat) (j t p : Int) : ∀ i, (mbU k j t p i).length ≤ 32 := by
  have h0 := (numB_length (cl (k : Int)) (cl_le _)).2
  have h1 := pt_len (hasB k 1) j
  have h2 := pt_len (hasB k 2) t
  have h3 := pt_len (hasB k 3) p
  intro i
  match i with
  | 0 => simp only [mbU]; omega
  | 1 => simp only [mbU, List.length_append]; omega
  | 2 => simp only [mbU, List.length_append]; omega
  | i + 3 => simp only [mbU, List.length_append]; omega

set_option maxRecDepth 20000 in
set_option maxHeartbeats 4000000 in
theorem rbytes22_any (k j t p : Int) (W : World) : Calls Tryd.prog 9 #[.agg #[.int .i64 k, .int .i64 j, .int .i64 t, .int .i64 p]] W fun e w' => e = .returned (.string (if chkB k j t p then str (mb k j t p) else ⟨#[]⟩)) ∧ Below W.heap.size W w' := by
  have HC := hid (fun w => rcheck22_any k j t p w)
  have HB0 : Hid (∀ o, Below W.heap.size W (W.alloc o)) := hid (fun o => (Below.refl _ _).alloc (Nat.le_refl _) _)
  by_cases hc : chkB k j t p = true
  · have hk : 1 ≤ k ∧ k ≤ 11 := by
      unfold chkB at hc
      simp only [Bool.and_eq_true, decide_eq_true_eq] at hc
      exact hc.1.1.1
    obtain ⟨n, rfl⟩ := Int.eq_ofNat_of_zero_le (show 0 ≤ k by omega)
    have hn : n ≤ 11 := by omega
    have HV : Hid ((if chkB (n : Int) j t p then str (mb (n : Int) j t p) else (⟨#[]⟩ : ByteArray)) = str (mbU n j t p 3)) := hid (by
      rw [hc, if_pos rfl]
      simp only [mb, mbU, Int.toNat_natCast])
    rw [HV.out]
    rw [hc] at HC
    have HH := hid (fun f hf w => has_any n f hn hf w)
    have HN0 := hid (fun w => rnum_any (n : Int) w)
    have HNX := hid (fun i w => rnum_any (fdN j t p i) w)
    have HMS := hid (mbU_succ n j t p)
    have HML := hid (mbU_len n j t p)
    have HM0 : Hid (str (numB (cl (n : Int))) = str (mbU n j t p 0)) := hid rfl
    rw [HM0.out] at HN0
    clear hc hk hn HM0 HV
    go_enter Tryd.func9, Tryd.ntmps9
    go_upto_region 1 with (fail)
    refine at_world (fun w => w.heap[W.heap.size]? = some (.cells #[.int .i64 (n : Int), .int .i64 j, .int .i64 t, .int .i64 p] 23 (0, 0)) ∧ Below W.heap.size W w) ⟨heap_alloc_new _ _, (Below.refl _ _).alloc (Nat.le_refl _) _⟩ ?_
    rintro w0 ⟨k0, hb0⟩
    have K0 := hid k0
    have HB1 := hid hb0
    obtain ⟨⟨p0, p1, p2, p3⟩, _⟩ := four_cells k0
    clear k0 hb0
    go_wp2_with fail
    refine (HC.out _).mono ?_
    rintro e w1 ⟨rfl, hb⟩
    have K1 := hid (keep0 K0.out hb)
    have HB2 := hid (HB1.out.trans (hb.mono HB1.out.size))
    clear hb p0 p1 p2 p3 K0 HB1 HC
    obtain ⟨⟨p0, p1, p2, p3⟩, _⟩ := four_cells K1.out
    go_upto_region 4 with (fail)
    refine at_world (fun w => w.heap[W.heap.size]? = some (.cells #[.int .i64 (n : Int), .int .i64 j, .int .i64 t, .int .i64 p] 23 (0, 0)) ∧ w.heap[w1.heap.size]? = some (.cells #[.int .i64 j, .int .i64 t, .int .i64 p] 3 (0, 0)) ∧ Below W.heap.size W w) ⟨keep0 K1.out ((Below.refl _ _).alloc (Nat.le_refl _) _), heap_alloc_new _ _, HB2.out.alloc HB2.out.size _⟩ ?_
    clear p0 p1 p2 p3 K1 HB2
    generalize w1.heap.size = X at *
    rintro w2 ⟨k2, x2, hb2⟩
    have K2 := hid k2
    have X2 := hid x2
    have HB3 := hid hb2
    obtain ⟨⟨p0, p1, p2, p3⟩, _⟩ := four_cells k2
    clear k2 x2 hb2
    go_wp2_with fail
    refine (HN0.out _).mono ?_
    rintro e w3 ⟨rfl, hb⟩
    have K3 := hid (keep0 K2.out hb)
    have X3 := hid (keep0 X2.out hb)
    have HB4 := hid (HB3.out.trans (hb.mono HB3.out.size))
    clear hb K2 X2 HB3 p0 p1 p2 p3
    go_wp2
    go_loopw [4, 5] (fun s i wr => ∃ m : Nat, m ≤ 3 ∧ i = .int .i64 (m : Int) ∧ s = .string (str (mbU n j t p m)) ∧ Hid (Below w3.heap.size w3 wr)) (fun _ i _ => 3 - (intOf i).toNat)
    case atStart => exact ⟨0, by omega, rfl, rfl, Below.refl _ _⟩
    case round =>
      obtain ⟨m, hm, rfl, rfl, HW⟩ := hrel
      by_cases hlt : m < 3
      · have hlt2 : (m : Int) < 3 := by omega
        have kw := keep0 K3.out HW.out
        have xw := keep0 X3.out HW.out
        have HS := hid (HMS.out m hlt)
        have hl1 := HML.out m
        have hl2 := HML.out (m + 1)
        have HF := hid (HH.out (m + 1) (by omega))
        have HX := hid (HNX.out m)
        have hcx : wr.cell? ⟨X, m, none⟩ = some (.int .i64 (fdN j t p m)) := by
          obtain ⟨⟨y0, y1, y2⟩, _⟩ := three_cells xw
          match m, hlt with
          | 0, _ => exact y0
          | 1, _ => exact y1
          | 2, _ => exact y2
        obtain ⟨⟨p0, p1, p2, p3⟩, _⟩ := four_cells kw
        have e9 : ((m + 1 : Nat) : Int) = (m : Int) + 1 := by omega
        rw [e9] at HF
        clear xw e9 p1 p2 p3
        generalize fdN j t p m = y at *
        cases hb : hasB n (m + 1) with
        | true =>
          rw [hb] at HF HS
          have HS2 : Hid (mbU n j t p (m + 1) = mbU n j t p m ++ numB (cl y)) := hid HS.out
          rw [HS2.out, List.length_append] at hl2
          clear hb HS
          generalize hA : mbU n j t p m = U at *
          clear hA
          generalize numB (cl y) = V at *
          have hsz : (str U).size + (str V).size ≤ 9223372036854775807 := by rw [str_size, str_size]; omega
          clear hl1 hl2
          go_wp2_with fail
          refine (HF.out _).mono ?_
          rintro e w' ⟨rfl, rfl⟩
          go_wp2_with fail
          refine (HX.out _).mono ?_
          rintro e w4 ⟨rfl, hb4⟩
          have HW2 := hid (HW.out.trans (hb4.mono HW.out.size))
          clear hb4 kw hcx p0
          go_wp2
          go_roundw
          case rel => exact ⟨m + 1, by omega, by go_num, by rw [HS2.out, ← str_app], HW2.out⟩
          case measure => simp [intOf]; omega
        | false =>
          rw [hb] at HF HS
          have HS2 : Hid (mbU n j t p (m + 1) = mbU n j t p m) := hid (by rw [HS.out]; exact List.append_nil _)
          clear hb HS kw hl1 hl2
          go_wp2_with fail
          refine (HF.out _).mono ?_
          rintro e w' ⟨rfl, rfl⟩
          clear hcx p0
          go_wp2
          go_roundw
          case rel => exact ⟨m + 1, by omega, by go_num, by rw [HS2.out], HW.out⟩
          case measure => simp [intOf]; omega
      · have hge : ¬ (m : Int) < 3 := by omega
        obtain rfl : m = 3 := by omega
        generalize hU : mbU n j t p 3 = U at *
        have HU := hid hU
        have HF := hid (HB4.out.trans (HW.out.mono HB4.out.size))
        clear hU
        go_wp2
        go_ret
        exact ⟨by rw [HU.out]; rfl, HF.out⟩
  · have hc2 : chkB k j t p = false := by simpa using hc
    have HV : Hid ((if chkB k j t p then str (mb k j t p) else (⟨#[]⟩ : ByteArray)) = ⟨#[]⟩) := hid (by rw [hc2]; rfl)
    rw [hc2] at HC
    rw [HV.out]
    clear hc hc2 HV
    go_enter Tryd.func9, Tryd.ntmps9
    go_wp2_with fail
    refine (HC.out _).mono ?_
    rintro e w1 ⟨rfl, hb⟩
    have HB2 := hid ((HB0.out _).trans (hb.mono (HB0.out _).size))
    clear hb HC HB0
    go_wp2
    go_ret
    exact ⟨rfl, HB2.out⟩

def downB (k : Int) : Bool := decide (k = 1 ∨ k = 4 ∨ k = 5 ∨ k = 6 ∨ k = 9 ∨ k = 10)
theorem down_any (k : Int) (w : World) : Calls Tryd.prog 10 #[.int .i64 k] w fun e w' => e = .returned (.bool (downB k)) ∧ w = w' := by
  by_cases h : k = 1 ∨ k = 4 ∨ k = 5 ∨ k = 6 ∨ k = 9 ∨ k = 10
  · rcases h with rfl | rfl | rfl | rfl | rfl | rfl
    all_goals
      go_enter Tryd.func10, Tryd.ntmps10
      go_wp2
      go_ret
      exact ⟨rfl, rfl⟩
  · have HD : Hid (downB k = false) := hid (by unfold downB; exact decide_eq_false h)
    have e1 : (k == 1) = false := by simp; omega
    have e4 : (k == 4) = false := by simp; omega
    have e5 : (k == 5) = false := by simp; omega
    have e6 : (k == 6) = false := by simp; omega
    have e9 : (k == 9) = false := by simp; omega
    have e10 : (k == 10) = false := by simp; omega
    clear h
    go_enter Tryd.func10, Tryd.ntmps10
    go_wp2
    go_ret
    exact ⟨by rw [HD.out]; rfl, rfl⟩
theorem rdown_any (k : Int) (w : World) : Calls Tryd.prog 11 #[.int .i64 k] w fun e w' => e = .returned (.bool (downB k)) ∧ w = w' := by
  by_cases h : k = 1 ∨ k = 4 ∨ k = 5 ∨ k = 6 ∨ k = 9 ∨ k = 10
  · rcases h with rfl | rfl | rfl | rfl | rfl | rfl
    all_goals
      go_enter Tryd.func11, Tryd.ntmps11
      go_wp2
      go_ret
      exact ⟨rfl, rfl⟩
  · have HD : Hid (downB k = false) := hid (by unfold downB; exact decide_eq_false h)
    have e1 : (k == 1) = false := by simp; omega
    have e4 : (k == 4) = false := by simp; omega
    have e5 : (k == 5) = false := by simp; omega
    have e6 : (k == 6) = false := by simp; omega
    have e9 : (k == 9) = false := by simp; omega
    have e10 : (k == 10) = false := by simp; omega
    clear h
    go_enter Tryd.func11, Tryd.ntmps11
    go_wp2
    go_ret
    exact ⟨by rw [HD.out]; rfl, rfl⟩

/-- The words of the kinds. -/
def wordsL : List ByteArray := [⟨#[112, 114, 111, 98, 101]⟩, ⟨#[102, 117, 108, 108]⟩, ⟨#[103, 101, 116]⟩, ⟨#[97, 115, 115, 105, 103, 110]⟩, ⟨#[110, 111, 110, 101]⟩, ⟨#[99, 97, 110, 99, 101, 108]⟩, ⟨#[104, 97, 118, 101]⟩, ⟨#[100, 111, 110, 101]⟩, ⟨#[116, 104, 97, 110, 107, 115]⟩, ⟨#[109, 105, 110, 101]⟩, ⟨#[98, 101, 97, 116]⟩]
def wordV (k : Int) : ByteArray := if 1 ≤ k ∧ k ≤ 11 then wordsL.getD (k.toNat - 1) ⟨#[]⟩ else ⟨#[]⟩
/-- The program's table holds the words. -/
def WordsAt (w : World) : Prop := ∀ i : Nat, i < 11 → w.cell? ⟨0, i, none⟩ = some (.string (wordsL.getD i ⟨#[]⟩))
theorem WordsAt.below {w w' : World} (h : WordsAt w) (hb : Below w.heap.size w w') : WordsAt w' := fun i hi => cellb hb (h i hi)
theorem word_any (k : Int) (w : World) (h : WordsAt w) : Calls Tryd.prog 12 #[.int .i64 k] w fun e w' => e = .returned (.string (wordV k)) ∧ w = w' := by
  by_cases hk : 1 ≤ k ∧ k ≤ 11
  · obtain ⟨n, rfl⟩ := Int.eq_ofNat_of_zero_le (show 0 ≤ k by omega)
    obtain ⟨m, rfl⟩ : ∃ m, n = m + 1 := ⟨n - 1, by omega⟩
    have hm : m < 11 := by omega
    have HK := hid (known_in (m + 1) (by omega) (by omega) w)
    have hc := h m hm
    have HV : Hid (wordV ((m + 1 : Nat) : Int) = wordsL.getD m ⟨#[]⟩) := hid (by
      unfold wordV
      rw [if_pos (by omega), Int.toNat_natCast, Nat.add_sub_cancel])
    rw [show ((m + 1 : Nat) : Int) = (m : Int) + 1 by omega] at *
    generalize wordsL.getD m ⟨#[]⟩ = x at *
    have hm2 : (m : Int) < 11 := by omega
    clear h hk
    go_enter Tryd.func12, Tryd.ntmps12
    go_wp2_with fail
    refine HK.out.mono ?_
    rintro e w' ⟨rfl, rfl⟩
    go_wp2
    go_ret
    exact ⟨by rw [HV.out]; rfl, rfl⟩
  · have HK := hid (known_out k hk w)
    have HV : Hid (wordV k = ⟨#[]⟩) := hid (by unfold wordV; rw [if_neg hk])
    clear hk h
    go_enter Tryd.func12, Tryd.ntmps12
    go_wp2_with fail
    refine HK.out.mono ?_
    rintro e w' ⟨rfl, rfl⟩
    go_wp2
    go_ret
    exact ⟨by rw [HV.out]; rfl, rfl⟩
set_option maxRecDepth 20000 in
set_option maxHeartbeats 2000000 in
theorem rword_any (k : Int) (W : World) : Calls Tryd.prog 13 #[.int .i64 k] W fun e w' => e = .returned (.string (wordV k)) ∧ Below W.heap.size W w' := by
  have HB0 : Hid (∀ o, Below W.heap.size W (W.alloc o)) := hid (fun o => (Below.refl _ _).alloc (Nat.le_refl _) _)
  by_cases hk : 1 ≤ k ∧ k ≤ 11
  · obtain ⟨n, rfl⟩ := Int.eq_ofNat_of_zero_le (show 0 ≤ k by omega)
    have hn : n = 1 ∨ n = 2 ∨ n = 3 ∨ n = 4 ∨ n = 5 ∨ n = 6 ∨ n = 7 ∨ n = 8 ∨ n = 9 ∨ n = 10 ∨ n = 11 := by omega
    clear hk
    rcases hn with rfl | rfl | rfl | rfl | rfl | rfl | rfl | rfl | rfl | rfl | rfl
    all_goals
      go_enter Tryd.func13, Tryd.ntmps13
      go_wp2
      go_ret
      exact ⟨rfl, HB0.out _⟩
  · have HV : Hid (wordV k = ⟨#[]⟩) := hid (by unfold wordV; rw [if_neg hk])
    by_cases h1 : k < 1
    · have d1 : decide (k < 1) = true := decide_eq_true h1
      clear hk
      go_enter Tryd.func13, Tryd.ntmps13
      go_wp2
      go_ret
      exact ⟨by rw [HV.out]; rfl, HB0.out _⟩
    · have d1 : decide (k < 1) = false := decide_eq_false h1
      have h2 : 11 < k := by omega
      have d2 : decide (11 < k) = true := decide_eq_true h2
      clear hk
      go_enter Tryd.func13, Tryd.ntmps13
      go_wp2
      go_ret
      exact ⟨by rw [HV.out]; rfl, HB0.out _⟩
end Go.Proofs.YtjkaenjegcojhaaDoor
