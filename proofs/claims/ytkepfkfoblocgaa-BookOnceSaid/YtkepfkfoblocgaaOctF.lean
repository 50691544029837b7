/- octet.joined and octet.first, as contracts. -/
import Derived.Test.YtkepfkfoblocgaaOctN
import Derived.Lib.MinMax
namespace Go.Proofs.Ytkepfkfoblocgaa
open Go.RowKit
set_option linter.unusedVariables false
set_option linter.unusedSimpArgs false

theorem i64_or_nat (a b : Nat) (ha : a < 9223372036854775808) (hb : b < 9223372036854775808) : bits .or .i64 (a : Int) (b : Int) = ((a ||| b : Nat) : Int) := by
  have hx : a ||| b < 2 ^ 63 := Nat.or_lt_two_pow (by omega) (by omega)
  show IntKind.i64.wrap ((BitVec.ofInt 64 (a : Int) ||| BitVec.ofInt 64 (b : Int)).toNat : Int) = _
  rw [BitVec.toNat_or, ofInt_u64 a (by omega), ofInt_u64 b (by omega)]
  simp only [Nat.reducePow] at hx
  generalize a ||| b = x at hx
  simp [IntKind.wrap, IntKind.bits, IntKind.signed]
  omega
theorem or_byte (m c : Nat) (hm : m < 36028797018963968) (hc : c < 256) : bits .or .i64 ((m : Int) * 256) (c : Int) = ((m * 256 + c : Nat) : Int) := by
  rw [show ((m : Int) * 256) = ((m * 256 : Nat) : Int) by omega, i64_or_nat _ _ (by omega) (by omega), nat_join 8 (m * 256) c (by omega) (by omega)]
theorem joinN_snoc : ∀ l acc c, joinN acc (l ++ [c]) = joinN acc l * 256 + c.toNat
  | [], acc, c => rfl
  | d :: l, acc, c => by rw [List.cons_append, joinN, joinN, joinN_snoc l]
theorem joinN_small {l : List UInt8} (h : l.length ≤ 7) : joinN 0 l < 72057594037927936 := by
  have h1 := joinN_lt l 0
  have h2 : 256 ^ l.length ≤ 256 ^ 7 := Nat.pow_le_pow_right (by omega) h
  simp at h1 h2
  omega

set_option maxRecDepth 20000 in
theorem joined_any (a : Option Addr) (len cap : Nat) (l : List UInt8) (w : World) (hb : IsBytes w a len cap l) (hl : l.length ≤ 7) :
    Calls Try.prog 143 #[.slice a len cap] w fun e w' => e = .returned (.int .i64 (joinN 0 l : Nat)) ∧ w = w' := by
  obtain ⟨rfl, _, _⟩ := hb.len
  have HB := hid (fun i hi => hb.at i hi)
  clear hb
  go_enter Try.func143, Try.ntmps143
  go_wp2
  go_loop [3, 8] (fun x i => ∃ k m : Nat, k ≤ l.length ∧ i = .int .i64 (k : Int) ∧ x = .int .i64 (m : Int) ∧ Hid (m = joinN 0 (l.take k))) (fun _ i => l.length - (intOf i).toNat)
  case atStart => exact ⟨0, 0, by omega, rfl, rfl, rfl⟩
  case round =>
    obtain ⟨k, m, hk, rfl, rfl, HM⟩ := hrel
    by_cases hlt : k < l.length
    · have hlt2 : (k : Int) < (l.length : Int) := by omega
      obtain ⟨b, off, rfl, hc⟩ := HB.out k hlt
      have hs := (l.getD k 0).toNat_lt
      have H1 : Hid (m * 256 + (l.getD k 0).toNat = joinN 0 (l.take (k + 1))) := hid (by
        rw [List.take_succ_eq_append_getElem hlt, joinN_snoc, HM.out]
        simp [List.getD_eq_getElem?_getD, hlt])
      have hm : m < 36028797018963968 := by
        have h1 := joinN_lt (l.take k) 0
        have h2 : 256 ^ (l.take k).length ≤ 256 ^ 6 := Nat.pow_le_pow_right (by omega) (by simp; omega)
        rw [HM.out]
        simp at h1 h2 ⊢
        omega
      have HO := hid (or_byte m (l.getD k 0).toNat hm hs)
      generalize (l.getD k 0).toNat = c at *
      have hm2 : (m : Int) * 256 ≤ 9223372036854775807 := by omega
      clear hm
      go_wp2
      refine ⟨⟨k + 1, m * 256 + c, by omega, by go_num, by rw [HO.out], H1⟩, by simp [intOf]; omega⟩
    · have hge : (l.length : Int) ≤ k := by omega
      have H1 : Hid (m = joinN 0 l) := hid (by rw [HM.out, List.take_of_length_le (by omega)])
      clear HM
      go_wp2
      go_ret
      exact ⟨oret_i64 (by rw [H1.out]), rfl⟩

/-- The number with which bytes begin, how many bytes it has, and what is wrong. -/
def chkN (most : Int) (n u : Nat) : Nat × Nat × Nat := if max most 0 < (n : Int) then (0, 0, 4) else (n, u, 0)
def firstN (most : Int) : List UInt8 → Nat × Nat × Nat
  | [] => (0, 0, 2)
  | c :: r => if c.toNat = 255 then (0, 0, 3) else if c.toNat < 248 then chkN most c.toNat 1
    else if r.length < c.toNat - 247 then (0, 0, 2)
    else if joinN 0 (r.take (c.toNat - 247)) < 248 ∨ wd (joinN 0 (r.take (c.toNat - 247))) ≠ c.toNat - 247 then (0, 0, 3)
    else chkN most (joinN 0 (r.take (c.toNat - 247))) (1 + (c.toNat - 247))
def trip (t : Nat × Nat × Nat) : Value := .tuple #[.int .i64 (t.1 : Int), .int .i64 (t.2.1 : Int), .int .i64 (t.2.2 : Int)]

theorem isBytes_mid {w : World} {b off cap : Nat} {l : List UInt8} (h : IsBytes w (some ⟨b, off, none⟩) l.length cap l) (i k : Nat) (hk : i + k ≤ l.length) : IsBytes w (some ⟨b, off + i, none⟩) k (cap - i) ((l.drop i).take k) := by
  obtain ⟨_, hlc, hcm⟩ := h.len
  refine ⟨by simp [bcells]; omega, by omega, by omega, fun h0 => ⟨b, off + i, rfl, fun j hj => ?_⟩⟩
  have hj' : j < k := by simp [bcells] at hj; omega
  obtain ⟨b', off', ha, hc⟩ := Sl.at h (i + j) (by rw [bcells_length]; omega)
  cases ha
  rw [Nat.add_assoc, hc]
  simp [bcells, hj', show i + j < l.length by omega]

set_option maxRecDepth 20000 in
set_option maxHeartbeats 2000000 in
theorem first_any (a : Option Addr) (len cap : Nat) (l : List UInt8) (most : Int) (w : World) (hb : IsBytes w a len cap l) :
    Calls Try.prog 125 #[.slice a len cap, .int .i64 most] w fun e w' => e = .returned (trip (firstN most l)) ∧ w = w' := by
  obtain ⟨rfl, hlc, hcm⟩ := hb.len
  have hcm' : cap ≤ 9223372036854775807 := by unfold maxLen at hcm; omega
  have HB := hid hb
  cases l with
  | nil =>
    clear hb
    go_enter Try.func125, Try.ntmps125
    go_wp2
    go_ret3
    exact ⟨rfl, rfl⟩
  | cons c r =>
    obtain ⟨b, off, rfl, hc⟩ := hb.at 0 (by simp)
    rw [Nat.add_zero] at hc
    simp only [List.getD_cons_zero] at hc
    have hlen : (c :: r).length = r.length + 1 := rfl
    rw [hlen] at hlc ⊢
    have hcl := c.toNat_lt
    clear hb
    by_cases h255 : c.toNat = 255
    · have HR : Hid (firstN most (c :: r) = (0, 0, 3)) := hid (by rw [firstN, if_pos h255])
      rw [h255] at hc
      clear hlen
      have hc' : w.cell? ⟨b, off, none⟩ = some (.int .u8 255) := hc
      clear hc
      go_enter Try.func125, Try.ntmps125
      go_wp2
      go_ret3
      exact ⟨by rw [HR.out]; rfl, rfl⟩
    have hne : ((c.toNat : Int) == 255) = false := by simp; omega
    by_cases h8 : c.toNat < 248
    · have h8' : (c.toNat : Int) < 248 := by omega
      have HR : Hid (firstN most (c :: r) = chkN most c.toNat 1) := hid (by rw [firstN, if_neg h255, if_pos h8])
      clear h255 hlen
      by_cases hm : max most 0 < (c.toNat : Int)
      · have hd : decide (max most 0 < (c.toNat : Int)) = true := decide_eq_true hm
        have HR2 : Hid (firstN most (c :: r) = (0, 0, 4)) := hid (by rw [HR.out, chkN, if_pos hm])
        clear hm HR
        generalize c.toNat = n at *
        go_enter Try.func125, Try.ntmps125
        go_wp2
        go_ret3
        exact ⟨by rw [HR2.out]; rfl, rfl⟩
      · have hd : decide (max most 0 < (c.toNat : Int)) = false := decide_eq_false hm
        have HR2 : Hid (firstN most (c :: r) = (c.toNat, 1, 0)) := hid (by rw [HR.out, chkN, if_neg hm])
        clear hm HR
        generalize c.toNat = n at *
        go_enter Try.func125, Try.ntmps125
        go_wp2
        go_ret3
        exact ⟨by rw [HR2.out]; rfl, rfl⟩
    · obtain ⟨k, hk⟩ : ∃ k, c.toNat = 247 + k := ⟨c.toNat - 247, by omega⟩
      have hk1 : 1 ≤ k := by omega
      have hk7 : k ≤ 7 := by omega
      have HF : Hid (firstN most (c :: r) = if r.length < k then (0, 0, 2) else if joinN 0 (r.take k) < 248 ∨ wd (joinN 0 (r.take k)) ≠ k then (0, 0, 3) else chkN most (joinN 0 (r.take k)) (1 + k)) := hid (by
        rw [firstN, if_neg h255, if_neg h8, show c.toNat - 247 = k by omega])
      rw [hk] at hc
      have hc' : w.cell? ⟨b, off, none⟩ = some (.int .u8 (247 + (k : Int))) := by rw [hc]; simp
      clear hc h255 h8 hne hk hcl hlen
      by_cases hsh : r.length < k
      · have hsh' : (r.length : Int) < k := by omega
        rw [if_pos hsh] at HF
        go_enter Try.func125, Try.ntmps125
        go_wp2
        go_ret3
        exact ⟨by rw [HF.out]; rfl, rfl⟩
      · rw [if_neg hsh] at HF
        have hsh' : (k : Int) ≤ r.length := by omega
        have HJ := hid (fun w' (hw : w = w') => joined_any (some ⟨b, off + 1, none⟩) k (cap - 1) (r.take k) w' (by
          have := isBytes_mid HB.out 1 k (by simp; omega)
          subst hw
          simpa using this) (by simp; omega))
        have hj : joinN 0 (r.take k) < 72057594037927936 := joinN_small (by simp; omega)
        have HW := hid (fun w' => width_any (joinN 0 (r.take k)) w' (by omega))
        generalize joinN 0 (r.take k) = n at *
        clear hsh
        have walk : ∀ (v : Nat × Nat × Nat), firstN most (c :: r) = v → (n < 248 ∧ v = (0, 0, 3) ∨ ¬ n < 248 ∧ wd n ≠ k ∧ v = (0, 0, 3) ∨ ¬ n < 248 ∧ wd n = k ∧ max most 0 < (n : Int) ∧ v = (0, 0, 4) ∨ ¬ n < 248 ∧ wd n = k ∧ ¬ max most 0 < (n : Int) ∧ v = (n, 1 + k, 0)) →
            Calls Try.prog 125 #[.slice (some ⟨b, off, none⟩) (r.length + 1) cap, .int .i64 most] w fun e w' => e = .returned (trip (firstN most (c :: r))) ∧ w = w' := by
          intro v hv hcase
          have HV := hid hv
          clear hv HF
          rcases hcase with ⟨h1, rfl⟩ | ⟨h1, h2, rfl⟩ | ⟨h1, h2, h3, rfl⟩ | ⟨h1, h2, h3, rfl⟩
          · have h1' : (n : Int) < 248 := by omega
            go_enter Try.func125, Try.ntmps125
            go_wp2_with fail
            rw [show (247 + (k : Int) - 247) = (k : Int) by omega]
            refine (HJ.out _ rfl).mono ?_
            rintro e w' ⟨rfl, rfl⟩
            go_wp2
            go_ret3
            exact ⟨by rw [HV.out]; rfl, rfl⟩
          · have h1' : (248 : Int) ≤ n := by omega
            have hd : decide (n < 248) = false := by simp; omega
            have hd2 : decide ((n : Int) < 248) = false := by simp; omega
            have hne : (((wd n : Nat) : Int) != (k : Int)) = true := by simp; omega
            clear h2
            generalize wd n = y at *
            go_enter Try.func125, Try.ntmps125
            go_wp2_with fail
            rw [show (247 + (k : Int) - 247) = (k : Int) by omega]
            refine (HJ.out _ rfl).mono ?_
            rintro e w' ⟨rfl, rfl⟩
            go_wp2_with (go_at_call 118; refine (HW.out _).mono ?_; rintro e w' ⟨rfl, rfl⟩)
            go_ret3
            exact ⟨by rw [HV.out]; rfl, rfl⟩
          · have h1' : (248 : Int) ≤ n := by omega
            have hd2 : decide ((n : Int) < 248) = false := by simp; omega
            have hne : ((k : Int) != (k : Int)) = false := by simp
            have hd : decide (max most 0 < (n : Int)) = true := decide_eq_true h3
            rw [h2] at HW
            clear h2 h3
            go_enter Try.func125, Try.ntmps125
            go_wp2_with fail
            rw [show (247 + (k : Int) - 247) = (k : Int) by omega]
            refine (HJ.out _ rfl).mono ?_
            rintro e w' ⟨rfl, rfl⟩
            go_wp2_with (go_at_call 118; refine (HW.out _).mono ?_; rintro e w' ⟨rfl, rfl⟩)
            go_ret3
            exact ⟨by rw [HV.out]; rfl, rfl⟩
          · have h1' : (248 : Int) ≤ n := by omega
            have hd2 : decide ((n : Int) < 248) = false := by simp; omega
            have hne : ((k : Int) != (k : Int)) = false := by simp
            have hd : decide (max most 0 < (n : Int)) = false := decide_eq_false h3
            rw [h2] at HW
            clear h2 h3
            go_enter Try.func125, Try.ntmps125
            go_wp2_with fail
            rw [show (247 + (k : Int) - 247) = (k : Int) by omega]
            refine (HJ.out _ rfl).mono ?_
            rintro e w' ⟨rfl, rfl⟩
            go_wp2_with (go_at_call 118; refine (HW.out _).mono ?_; rintro e w' ⟨rfl, rfl⟩)
            go_ret3
            refine ⟨?_, rfl⟩
            rw [HV.out]
            simp [trip]
        refine walk _ HF.out ?_
        clear walk HJ HW
        by_cases h1 : n < 248
        · exact .inl ⟨h1, if_pos (.inl h1)⟩
        · by_cases h2 : wd n = k
          · rw [if_neg (by simp [h1, h2])]
            by_cases h3 : max most 0 < (n : Int)
            · exact .inr (.inr (.inl ⟨h1, h2, h3, by rw [chkN, if_pos h3]⟩))
            · exact .inr (.inr (.inr ⟨h1, h2, h3, by rw [chkN, if_neg h3]⟩))
          · exact .inr (.inl ⟨h1, h2, if_pos (.inr h2)⟩)
end Go.Proofs.Ytkepfkfoblocgaa
