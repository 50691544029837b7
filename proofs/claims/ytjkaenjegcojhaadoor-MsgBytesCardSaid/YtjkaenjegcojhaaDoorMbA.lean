/- Messages: the fields of a kind; Check, Bytes: contracts. -/
import Derived.Test.YtjkaenjegcojhaaDoorOcA
import Derived.Deep.Cut
namespace Go.Proofs.YtjkaenjegcojhaaDoor
open Go.RowKit
set_option linter.unusedVariables false
set_option linter.unusedSimpArgs false

/-- Which fields a kind has. -/
def fld (k : Nat) : Nat := if k = 1 ∨ k = 10 then 5 else if k = 2 ∨ k = 3 ∨ k = 5 ∨ k = 6 then 1 else if k = 4 then 7 else if k = 7 ∨ k = 8 ∨ k = 9 then 3 else 0
theorem fields_any (k : Nat) (hk : k ≤ 11) (w : World) : Calls Tryd.prog 24 #[.int .i64 k] w fun e w' => e = .returned (.int .i64 (fld k : Nat)) ∧ w = w' := by
  rcases (by omega : k = 0 ∨ k = 1 ∨ k = 2 ∨ k = 3 ∨ k = 4 ∨ k = 5 ∨ k = 6 ∨ k = 7 ∨ k = 8 ∨ k = 9 ∨ k = 10 ∨ k = 11) with rfl | rfl | rfl | rfl | rfl | rfl | rfl | rfl | rfl | rfl | rfl | rfl
  all_goals
    clear hk
    go_enter Tryd.func24, Tryd.ntmps24
    go_wp2
    go_ret
    exact ⟨rfl, rfl⟩
theorem four_cells {w : World} {b t : Nat} {x y z u : Value} (h : w.heap[b]? = some (.cells #[x, y, z, u] t (0, 0))) :
    (w.cell? ⟨b, 0, none⟩ = some x ∧ w.cell? ⟨b, 1, none⟩ = some y ∧ w.cell? ⟨b, 2, none⟩ = some z ∧ w.cell? ⟨b, 3, none⟩ = some u) ∧ (w.frozen? ⟨b, 0, none⟩ = false ∧ w.frozen? ⟨b, 1, none⟩ = false ∧ w.frozen? ⟨b, 2, none⟩ = false ∧ w.frozen? ⟨b, 3, none⟩ = false) :=
  ⟨⟨by rw [cell_of_row w b 0 _ t (0, 0) h]; rfl, by rw [cell_of_row w b 1 _ t (0, 0) h]; rfl, by rw [cell_of_row w b 2 _ t (0, 0) h]; rfl, by rw [cell_of_row w b 3 _ t (0, 0) h]; rfl⟩, frozen_of_row w b 0 _ t h, frozen_of_row w b 1 _ t h, frozen_of_row w b 2 _ t h, frozen_of_row w b 3 _ t h⟩
/-- Has a kind a field? -/
def hasB (k f : Nat) : Bool := if f = 1 then decide (1 ≤ k ∧ k ≤ 10) else if f = 2 then decide (k = 4 ∨ (7 ≤ k ∧ k ≤ 9)) else decide (k = 1 ∨ k = 4 ∨ k = 10)
theorem has_any (k f : Nat) (hk : k ≤ 11) (hf : f = 1 ∨ f = 2 ∨ f = 3) (w : World) : Calls Tryd.prog 31 #[.int .i64 k, .int .i64 f] w fun e w' => e = .returned (.bool (hasB k f)) ∧ w = w' := by
  rcases (by omega : k = 0 ∨ k = 1 ∨ k = 2 ∨ k = 3 ∨ k = 4 ∨ k = 5 ∨ k = 6 ∨ k = 7 ∨ k = 8 ∨ k = 9 ∨ k = 10 ∨ k = 11) with rfl | rfl | rfl | rfl | rfl | rfl | rfl | rfl | rfl | rfl | rfl | rfl
  all_goals
    clear hk
    rcases hf with rfl | rfl | rfl
  all_goals
    go_enter Tryd.func31, Tryd.ntmps31
    go_wp2
    go_ret
    exact ⟨rfl, rfl⟩
theorem fld_has (k : Nat) (hk : k ≤ 11) : ((bits .and .i64 (fld k : Nat) 1 == 0) = !hasB k 1) ∧ ((bits .and .i64 (fld k : Nat) 2 == 0) = !hasB k 2) ∧ ((bits .and .i64 (fld k : Nat) 4 == 0) = !hasB k 3) := by
  rcases (by omega : k = 0 ∨ k = 1 ∨ k = 2 ∨ k = 3 ∨ k = 4 ∨ k = 5 ∨ k = 6 ∨ k = 7 ∨ k = 8 ∨ k = 9 ∨ k = 10 ∨ k = 11) with rfl | rfl | rfl | rfl | rfl | rfl | rfl | rfl | rfl | rfl | rfl | rfl
  all_goals decide +kernel
def Mc (w : World) (M : Nat) (k j t p : Int) : Prop := w.heap[M]? = some (.cells #[.int .i64 k, .int .i64 j, .int .i64 t, .int .i64 p] 23 (0, 0))
theorem own_bytes {w : World} {base e n : Nat} {v : Value} {l : List UInt8} (h : w.ownsRow base e 1 v n (bcells l)) : ∃ a cap, v = .slice a l.length cap ∧ IsBytes w a l.length cap l := by
  obtain ⟨a, c, rfl, hs⟩ := Sl.of_own h
  have hn : n = l.length := by have := hs.1; rw [bcells_length] at this; omega
  subst hn
  exact ⟨a, c, rfl, hs⟩
theorem isBytes_nil (w : World) (a : Option Addr) (cap : Nat) (h : cap ≤ maxLen) : IsBytes w a 0 cap [] := Sl.nil _ _ _ _ h
/-- Is a field as it may be? -/
def inS (hb : Bool) (least most n : Int) : Bool := if hb then decide (least ≤ n ∧ n ≤ most) else n == 0
def chkB (k j t p : Int) : Bool := decide (1 ≤ k ∧ k ≤ 11) && inS (hasB k.toNat 1) 1 72057594037927935 j && inS (hasB k.toNat 2) 0 15 t && inS (hasB k.toNat 3) 1 9 p
def pt (hb : Bool) (n : Int) : List UInt8 := if hb then numB (cl n) else []
def mb (k j t p : Int) : List UInt8 := numB (cl k) ++ pt (hasB k.toNat 1) j ++ pt (hasB k.toNat 2) t ++ pt (hasB k.toNat 3) p
theorem pt_len (hb : Bool) (n : Int) : (pt hb n).length ≤ 8 := by
  unfold pt
  split
  · exact (numB_length _ (cl_le n)).2
  · simp
theorem known_in (k : Nat) (h1 : 1 ≤ k) (h2 : k ≤ 11) (w : World) : Calls Tryd.prog 25 #[.int .i64 k] w fun e w' => e = .returned (.bool true) ∧ w = w' := by
  have k1 : (1 : Int) ≤ k := by omega
  have k2 : (k : Int) ≤ 11 := by omega
  clear h1 h2
  go_enter Tryd.func25, Tryd.ntmps25
  go_wp2
  go_ret
  exact ⟨rfl, rfl⟩
theorem known_out (k : Int) (h : ¬ (1 ≤ k ∧ k ≤ 11)) (w : World) : Calls Tryd.prog 25 #[.int .i64 k] w fun e w' => e = .returned (.bool false) ∧ w = w' := by
  by_cases h1 : k < 1
  · clear h
    go_enter Tryd.func25, Tryd.ntmps25
    go_wp2
    go_ret
    exact ⟨rfl, rfl⟩
  · have k1 : (1 : Int) ≤ k := by omega
    have k2 : decide (k ≤ 11) = false := by simp; omega
    have k3 : 11 < k := by omega
    clear h h1
    go_enter Tryd.func25, Tryd.ntmps25
    go_wp2
    go_ret
    exact ⟨rfl, rfl⟩
theorem fields_out (k : Int) (h : ¬ (1 ≤ k ∧ k ≤ 11)) (w : World) : Calls Tryd.prog 24 #[.int .i64 k] w fun e w' => e = .returned (.int .i64 0) ∧ w = w' := by
  have q1 : (k == 1) = false := by simp; omega
  have q2 : (k == 2) = false := by simp; omega
  have q3 : (k == 3) = false := by simp; omega
  have q4 : (k == 4) = false := by simp; omega
  have q5 : (k == 5) = false := by simp; omega
  have q6 : (k == 6) = false := by simp; omega
  have q7 : (k == 7) = false := by simp; omega
  have q8 : (k == 8) = false := by simp; omega
  have q9 : (k == 9) = false := by simp; omega
  have q10 : (k == 10) = false := by simp; omega
  clear h
  go_enter Tryd.func24, Tryd.ntmps24
  go_wp2
  go_ret
  exact ⟨rfl, rfl⟩
theorem fits_any (has n least most : Int) (hb : Bool) (hh : (has == 0) = !hb) (w : World) : Calls Tryd.prog 26 #[.int .i64 has, .int .i64 n, .int .i64 least, .int .i64 most] w fun e w' => e = .returned (.bool (inS hb least most n)) ∧ w = w' := by
  cases hb with
  | false =>
    have hh' : (has == 0) = true := by simpa using hh
    clear hh
    go_enter Tryd.func26, Tryd.ntmps26
    go_wp2
    go_ret
    exact ⟨rfl, rfl⟩
  | true =>
    have hh' : (has == 0) = false := by simpa using hh
    have HI : Hid (inS true least most n = decide (least ≤ n ∧ n ≤ most)) := hid rfl
    clear hh
    by_cases h1 : least ≤ n
    · have d1 : decide (least ≤ n) = true := decide_eq_true h1
      by_cases h2 : n ≤ most
      · have d2 : decide (n ≤ most) = true := decide_eq_true h2
        rw [decide_eq_true ⟨h1, h2⟩] at HI
        go_enter Tryd.func26, Tryd.ntmps26
        go_wp2
        go_ret
        exact ⟨by rw [HI.out]; rfl, rfl⟩
      · have d2 : decide (n ≤ most) = false := decide_eq_false h2
        rw [decide_eq_false (fun h => h2 h.2)] at HI
        have h2' : most < n := by omega
        clear h2
        go_enter Tryd.func26, Tryd.ntmps26
        go_wp2
        go_ret
        exact ⟨by rw [HI.out]; rfl, rfl⟩
    · have d1 : decide (least ≤ n) = false := decide_eq_false h1
      rw [decide_eq_false (fun h => h1 h.1)] at HI
      have h1' : n < least := by omega
      clear h1
      go_enter Tryd.func26, Tryd.ntmps26
      go_wp2
      go_ret
      exact ⟨by rw [HI.out]; rfl, rfl⟩
theorem check_any (k j t p : Int) (W : World) : Calls Tryd.prog 6 #[.agg #[.int .i64 k, .int .i64 j, .int .i64 t, .int .i64 p]] W fun e w' => e = .returned (.bool (chkB k j t p)) ∧ Below W.heap.size W w' := by
  by_cases hk : 1 ≤ k ∧ k ≤ 11
  · obtain ⟨n, rfl⟩ : ∃ n : Nat, k = n := ⟨k.toNat, by omega⟩
    have HI : Hid (chkB n j t p = (inS (hasB n 1) 1 72057594037927935 j && inS (hasB n 2) 0 15 t && inS (hasB n 3) 1 9 p)) := hid (by unfold chkB; rw [decide_eq_true hk, Bool.true_and, Int.toNat_natCast])
    have HK := hid (known_in n (by omega) (by omega))
    have HF := hid (fields_any n (by omega))
    obtain ⟨hb1, hb2, hb3⟩ := fld_has n (by omega)
    have H1 := hid (fits_any _ j 1 72057594037927935 _ hb1)
    have H2 := hid (fits_any _ t 0 15 _ hb2)
    have H3 := hid (fits_any _ p 1 9 _ hb3)
    clear hk hb1 hb2 hb3
    generalize inS (hasB n 1) 1 72057594037927935 j = b1 at *
    generalize inS (hasB n 2) 0 15 t = b2 at *
    generalize inS (hasB n 3) 1 9 p = b3 at *
    generalize fld n = f at *
    have hbe : Below W.heap.size W (W.alloc (.cells #[.int .i64 n, .int .i64 j, .int .i64 t, .int .i64 p] 23)) := (Below.refl _ _).alloc (Nat.le_refl _) _
    have HBE := hid hbe
    clear hbe
    cases b1 <;> cases b2 <;> cases b3
    all_goals
      go_enter Tryd.func6, Tryd.ntmps6
      go_wp2_with (first
        | (go_at_call 24; refine (HF.out _).mono ?_; rintro x w' ⟨rfl, rfl⟩)
        | (go_at_call 25; refine (HK.out _).mono ?_; rintro x w' ⟨rfl, rfl⟩)
        | (go_at_call 26; with_reducible refine (H1.out _).mono ?_; rintro x w' ⟨rfl, rfl⟩)
        | (go_at_call 26; with_reducible refine (H2.out _).mono ?_; rintro x w' ⟨rfl, rfl⟩)
        | (go_at_call 26; with_reducible refine (H3.out _).mono ?_; rintro x w' ⟨rfl, rfl⟩))
      go_ret
      exact ⟨by rw [HI.out]; rfl, HBE.out⟩
  · have HI : Hid (chkB k j t p = false) := hid (by unfold chkB; rw [decide_eq_false hk]; rfl)
    have HK := hid (known_out k hk)
    have HF := hid (fields_out k hk)
    have hbe : Below W.heap.size W (W.alloc (.cells #[.int .i64 k, .int .i64 j, .int .i64 t, .int .i64 p] 23)) := (Below.refl _ _).alloc (Nat.le_refl _) _
    have HBE := hid hbe
    clear hk hbe
    go_enter Tryd.func6, Tryd.ntmps6
    go_wp2_with (first
      | (go_at_call 24; refine (HF.out _).mono ?_; rintro x w' ⟨rfl, rfl⟩)
      | (go_at_call 25; refine (HK.out _).mono ?_; rintro x w' ⟨rfl, rfl⟩))
    go_ret
    exact ⟨by rw [HI.out]; rfl, HBE.out⟩
theorem put_any (A : Option Addr) (cap : Nat) (l : List UInt8) (has n : Int) (hb : Bool) (hh : (has == 0) = !hb) (w : World) (h : IsBytes w A l.length cap l) (hl : l.length ≤ 100000) :
    Calls Tryd.prog 29 #[.slice A l.length cap, .int .i64 has, .int .i64 n] w fun e w' => ∃ A' c', e = .returned (.slice A' (l ++ pt hb n).length c') ∧ IsBytes w' A' (l ++ pt hb n).length c' (l ++ pt hb n) ∧ Below w.heap.size w w' := by
  cases hb with
  | false =>
    have hh' : (has == 0) = true := by simpa using hh
    have H := hid h
    clear hh h
    go_enter Tryd.func29, Tryd.ntmps29
    go_wp2
    go_ret
    refine ⟨A, cap, ?_, ?_, Below.refl _ _⟩
    · simp [pt]
    · simpa [pt] using H.out
  | true =>
    have hh' : (has == 0) = false := by simpa using hh
    have H := hid (num_any A l.length cap l n w h (by omega))
    clear hh h hl
    go_enter Tryd.func29, Tryd.ntmps29
    go_wp2_with fail
    refine H.out.mono ?_
    rintro x w1 ⟨v, rfl, ho, hb⟩
    have HB := hid hb
    obtain ⟨A', c', rfl, hs⟩ := own_bytes ho
    have HS := hid hs
    clear hb ho hs H
    generalize hq : (l ++ numB (cl n)).length = q at *
    go_wp2
    go_ret
    refine ⟨A', c', ?_, ?_, HB.out⟩
    · rw [pt, if_pos rfl, hq]; rfl
    · rw [pt, if_pos rfl, hq]; exact HS.out
theorem convS {w : World} {a : Option Addr} {n cap : Nat} {l : List UInt8} (h : IsBytes w a n cap l) : (convert 46 9 (.slice a n cap)).run Tryd.prog w = .ok (.string (str l)) w :=
  conv_str (P := Tryd.prog) (src := 46) (dst := 9) Tryd.underlying46 Tryd.underlying5 Tryd.underlying9 h
set_option maxHeartbeats 1000000 in
theorem bytes_any (k j t p : Int) (W : World) : Calls Tryd.prog 8 #[.agg #[.int .i64 k, .int .i64 j, .int .i64 t, .int .i64 p]] W fun e w' => e = .returned (.string (if chkB k j t p then str (mb k j t p) else ⟨#[]⟩)) ∧ Below W.heap.size W w' := by
  have HC := hid (fun w => check_any k j t p w)
  have h0 : Mc (W.alloc (.cells #[.int .i64 k, .int .i64 j, .int .i64 t, .int .i64 p] 23)) W.heap.size k j t p := heap_alloc_new _ _
  have hb0 : Below W.heap.size W (W.alloc (.cells #[.int .i64 k, .int .i64 j, .int .i64 t, .int .i64 p] 23)) := (Below.refl _ _).alloc (Nat.le_refl _) _
  by_cases hc : chkB k j t p = true
  · obtain ⟨n, rfl⟩ : ∃ n : Nat, k = n := ⟨k.toNat, by unfold chkB at hc; simp at hc; omega⟩
    have hn : 1 ≤ n ∧ n ≤ 11 := by unfold chkB at hc; simp at hc; omega
    have HV : Hid ((if chkB n j t p then str (mb n j t p) else (⟨#[]⟩ : ByteArray)) = str (numB (cl n) ++ pt (hasB n 1) j ++ pt (hasB n 2) t ++ pt (hasB n 3) p)) := hid (by rw [if_pos hc, mb, Int.toNat_natCast])
    rw [hc] at HC
    have HF := hid (fields_any n (by omega))
    obtain ⟨hb1, hb2, hb3⟩ := fld_has n (by omega)
    have H0 := hid (fun w => num_any none 0 0 [] n w (isBytes_nil w none 0 (Nat.zero_le _)) (by simp))
    rw [List.nil_append] at H0
    have l0 := (numB_length _ (cl_le (n : Int))).2
    have l1 := pt_len (hasB n 1) j
    have l2 := pt_len (hasB n 2) t
    have H1 := hid (fun A c l w h (hl : l.length ≤ 100) => put_any A c l _ j _ hb1 w h (by omega))
    have H2 := hid (fun A c l w h (hl : l.length ≤ 100) => put_any A c l _ t _ hb2 w h (by omega))
    have H3 := hid (fun A c l w h (hl : l.length ≤ 100) => put_any A c l _ p _ hb3 w h (by omega))
    clear hn hb1 hb2 hb3 hc
    generalize numB (cl (n : Int)) = q0 at *
    generalize pt (hasB n 1) j = q1 at *
    generalize pt (hasB n 2) t = q2 at *
    generalize pt (hasB n 3) p = q3 at *
    generalize fld n = f at *
    have HL := hid (And.intro l0 (And.intro l1 l2))
    clear l0 l1 l2
    rw [HV.out]
    clear HV
    generalize hr : str (q0 ++ q1 ++ q2 ++ q3) = r at *
    have HRR := hid hr
    clear hr
    go_enter Tryd.func8, Tryd.ntmps8
    go_upto_region 1 with (fail)
    refine at_world (fun w => Mc w W.heap.size n j t p ∧ Below W.heap.size W w) ⟨h0, hb0⟩ ?_
    clear h0 hb0
    rintro w1 ⟨hm1, hB1⟩
    obtain ⟨⟨p0, p1, p2, p3⟩, f0, f1, f2, f3⟩ := four_cells hm1
    go_wp2_with fail
    refine (HC.out _).mono ?_
    rintro x w2 ⟨rfl, hb2⟩
    have HM2 := hid (show Mc w2 W.heap.size n j t p from keep0 hm1 hb2)
    have HB2 := hid (hB1.trans (hb2.mono hB1.size))
    clear hm1 hB1 hb2 p0 p1 p2 p3 f0 f1 f2 f3
    obtain ⟨⟨p0, p1, p2, p3⟩, f0, f1, f2, f3⟩ := four_cells HM2.out
    go_wp2_with (go_at_call 24; refine (HF.out _).mono ?_; rintro x w' ⟨rfl, rfl⟩)
    refine (H0.out _).mono ?_
    rintro x w3 ⟨v, rfl, ho, hb3⟩
    obtain ⟨A3, c3, rfl, hs3⟩ := own_bytes ho
    have HS3 := hid hs3
    have HM3 := hid (show Mc w3 W.heap.size n j t p from keep0 HM2.out hb3)
    have HB3 := hid (HB2.out.trans (hb3.mono HB2.out.size))
    clear hs3 ho hb3 HM2 HB2 H0 HC HF p0 p1 p2 p3 f0 f1 f2 f3
    obtain ⟨⟨p0, p1, p2, p3⟩, f0, f1, f2, f3⟩ := four_cells HM3.out
    go_wp2_with fail
    refine (H1.out _ _ _ _ HS3.out (by have := HL.out; omega)).mono ?_
    rintro x w4 ⟨A4, c4, rfl, hs4, hb4⟩
    have hl4 : (q0 ++ q1).length ≤ 16 := by have := HL.out; simp; omega
    generalize q0 ++ q1 = L4 at *
    have HS4 := hid hs4
    have HM4 := hid (show Mc w4 W.heap.size n j t p from keep0 HM3.out hb4)
    have HB4 := hid (HB3.out.trans (hb4.mono HB3.out.size))
    clear hs4 hb4 HM3 HB3 HS3 H1 p0 p1 p2 p3 f0 f1 f2 f3
    obtain ⟨⟨p0, p1, p2, p3⟩, f0, f1, f2, f3⟩ := four_cells HM4.out
    go_wp2_with fail
    refine (H2.out _ _ _ _ HS4.out (by omega)).mono ?_
    rintro x w5 ⟨A5, c5, rfl, hs5, hb5⟩
    have hl5 : (L4 ++ q2).length ≤ 24 := by have := HL.out; simp; omega
    generalize L4 ++ q2 = L5 at *
    have HS5 := hid hs5
    have HM5 := hid (show Mc w5 W.heap.size n j t p from keep0 HM4.out hb5)
    have HB5 := hid (HB4.out.trans (hb5.mono HB4.out.size))
    clear hs5 hb5 HM4 HB4 HS4 H2 p0 p1 p2 p3 f0 f1 f2 f3
    obtain ⟨⟨p0, p1, p2, p3⟩, f0, f1, f2, f3⟩ := four_cells HM5.out
    go_wp2_with fail
    refine (H3.out _ _ _ _ HS5.out (by omega)).mono ?_
    rintro x w6 ⟨A6, c6, rfl, hs6, hb6⟩
    generalize L5 ++ q3 = L6 at *
    have hcv := convS hs6
    rw [HRR.out] at hcv
    have HB6 := hid (HB5.out.trans (hb6.mono HB5.out.size))
    clear hs6 hb6 HM5 HB5 HS5 H3 p0 p1 p2 p3 f0 f1 f2 f3 HRR hl4 hl5 HL
    generalize L6.length = q at *
    go_wp2
    go_ret
    exact ⟨rfl, HB6.out⟩
  · have HV : Hid ((if chkB k j t p then str (mb k j t p) else (⟨#[]⟩ : ByteArray)) = ⟨#[]⟩) := hid (if_neg hc)
    rw [Bool.not_eq_true] at hc
    rw [hc] at HC
    clear hc
    rw [HV.out]
    go_enter Tryd.func8, Tryd.ntmps8
    go_upto_region 1 with (fail)
    refine at_world (fun w => Mc w W.heap.size k j t p ∧ Below W.heap.size W w) ⟨h0, hb0⟩ ?_
    clear h0 hb0
    rintro w1 ⟨hm1, hB1⟩
    obtain ⟨⟨p0, p1, p2, p3⟩, f0, f1, f2, f3⟩ := four_cells hm1
    go_wp2_with (go_at_call 6; refine (HC.out _).mono ?_; rintro x w2 ⟨rfl, hb2⟩)
    go_ret
    exact ⟨rfl, hB1.trans (hb2.mono hB1.size)⟩
theorem works22_any (W : World) : Calls Tryd.prog 14 #[] W fun e w' => e = .returned (.bool true) ∧ Below W.heap.size W w' := by
  have HB := hid (fun w => bytes_any 4 5 2 1 w)
  rw [show (if chkB 4 5 2 1 then str (mb 4 5 2 1) else (⟨#[]⟩ : ByteArray)) = ⟨#[4, 5, 2, 1]⟩ by decide +kernel] at HB
  go_enter Tryd.func14, Tryd.ntmps14
  go_wp2_with fail
  refine (HB.out _).mono ?_
  rintro x w1 ⟨rfl, hb⟩
  have HB1 := hid hb
  clear hb HB
  go_wp2
  go_ret
  exact ⟨rfl, HB1.out⟩
end Go.Proofs.YtjkaenjegcojhaaDoor
