/- The document's reader, as contracts. -/
import Derived.Test.YtkepfkfoblocgaaOctR
import Derived.Test.YtkepfkfoblocgaaOctE
namespace Go.Proofs.Ytkepfkfoblocgaa
open Go.RowKit
set_option linter.unusedVariables false
set_option linter.unusedSimpArgs false

theorem str_get {l : List UInt8} {i : Nat} (h : i < l.length) : (str l).data[i]'(by simpa [str] using h) = l[i] := by simp [str]

set_option maxRecDepth 20000 in
set_option maxHeartbeats 2000000 in
theorem rnext_any (l : List UInt8) (most : Int) (W : World) (hl : l.length ≤ 100000) :
    Calls Try.prog 127 #[.string (str l), .int .i64 most] W fun e w' => e = .returned (trip (firstN most l)) ∧ Below W.heap.size W w' := by
  cases l with
  | nil =>
    have hz : (str []).size = 0 := rfl
    go_enter Try.func127, Try.ntmps127
    go_wp2
    go_ret3
    exact ⟨rfl, Below.refl _ _⟩
  | cons c r =>
    have hz : (str (c :: r)).size = r.length + 1 := by rw [str_size]; rfl
    have hcl : c.toNat < 256 := c.toNat_lt
    have hlr : r.length < 100000 := by simp at hl; omega
    have hg : ∀ h : 0 < (str (c :: r)).size, ((str (c :: r))[0]'h).toNat = c.toNat := fun h => rfl
    have hchk : ∀ n u : Nat, chkN most n u = if most < (n : Int) ∧ 0 < n then (0, 0, 4) else (n, u, 0) := by
      intro n u
      unfold chkN
      by_cases h : max most 0 < (n : Int)
      · rw [if_pos h, if_pos (by omega)]
      · rw [if_neg h, if_neg (by omega)]
    have HK := hid hchk
    clear hchk hl
    have hGG : ∀ (k : Nat), k < r.length → ∀ h : k + 1 < (str (c :: r)).size, ((str (c :: r))[k + 1]'h).toNat = (r.getD k 0).toNat := by
      intro k hk h
      have : (str (c :: r))[k + 1]'h = r[k] := by simp [str, ByteArray.getElem_eq_getElem_data]
      rw [this]
      simp [List.getD_eq_getElem?_getD, hk]
    have HG := hid hGG
    clear hGG
    have HF := hid (firstN_cons most c r)
    generalize str (c :: r) = s at *
    generalize c.toNat = n at *
    generalize firstN most (c :: r) = t at *
    by_cases h255 : n = 255
    · subst h255
      rw [if_pos rfl] at HF
      go_enter Try.func127, Try.ntmps127
      go_wp2
      go_ret3
      exact ⟨by rw [HF.out]; rfl, Below.refl _ _⟩
    have hne : ((n : Int) == 255) = false := by simp; omega
    rw [if_neg h255] at HF
    by_cases h8 : n < 248
    · rw [if_pos h8, HK.out] at HF
      have h8' : (n : Int) < 248 := by omega
      clear h255
      by_cases hm : most < (n : Int)
      · have hd : decide (most < (n : Int)) = true := decide_eq_true hm
        by_cases h0 : 0 < n
        · have h0' : (0 : Int) < n := by omega
          rw [if_pos ⟨hm, h0⟩] at HF
          clear hm h0
          go_enter Try.func127, Try.ntmps127
          go_wp2
          go_ret3
          exact ⟨by rw [HF.out]; rfl, Below.refl _ _⟩
        · obtain rfl : n = 0 := by omega
          rw [if_neg (by omega)] at HF
          have hm0 : most < 0 := by omega
          clear hm h0 hd
          go_enter Try.func127, Try.ntmps127
          go_wp2
          go_ret3
          exact ⟨by rw [HF.out]; rfl, Below.refl _ _⟩
      · have hd : decide (most < (n : Int)) = false := decide_eq_false hm
        rw [if_neg (fun h => hm h.1)] at HF
        clear hm
        go_enter Try.func127, Try.ntmps127
        go_wp2
        go_ret3
        exact ⟨by rw [HF.out]; rfl, Below.refl _ _⟩
    · rw [if_neg h8] at HF
      obtain ⟨k, rfl⟩ : ∃ k, n = 247 + k := ⟨n - 247, by omega⟩
      rw [show 247 + k - 247 = k by omega] at HF
      have hk1 : 1 ≤ k := by omega
      have hk7 : k ≤ 7 := by omega
      have hg2 : ∀ h : 0 < s.size, (((s[0]'h).toNat : Nat) : Int) = 247 + (k : Int) := fun h => by rw [hg h]; omega
      clear h255 hne h8 hcl hg
      by_cases hsh : r.length < k
      · rw [if_pos hsh] at HF
        have hsh' : (r.length : Int) + 1 < 1 + (k : Int) := by omega
        go_enter Try.func127, Try.ntmps127
        go_upto_region 10 with (fail)
        rw [show (247 + (k : Int) - 247) = (k : Int) by omega]
        go_wp2
        go_ret3
        exact ⟨by rw [HF.out]; rfl, Below.refl _ _⟩
      · rw [if_neg hsh] at HF
        have hsh' : (k : Int) ≤ r.length := by omega
        go_enter Try.func127, Try.ntmps127
        go_upto_region 10 with (fail)
        rw [show (247 + (k : Int) - 247) = (k : Int) by omega]
        go_wp2
        go_loop [8, 9] (fun x i => ∃ j m : Nat, j ≤ k ∧ i = .int .i64 ((j + 1 : Nat) : Int) ∧ x = .int .i64 (m : Int) ∧ Hid (m = joinN 0 (r.take j))) (fun _ i => (k + 1) - (intOf i).toNat)
        case atStart => exact ⟨0, 0, by omega, rfl, rfl, rfl⟩
        case round =>
          obtain ⟨j, m, hj, rfl, rfl, HM⟩ := hrel
          by_cases hlt : j < k
          · have hlt2 : ((j + 1 : Nat) : Int) ≤ (k : Int) := by omega
            have hr : j < r.length := by omega
            have hgj := HG.out j hr
            have H1 : Hid (m * 256 + (r.getD j 0).toNat = joinN 0 (r.take (j + 1))) := hid (by
              rw [List.take_succ_eq_append_getElem hr, joinN_snoc, HM.out]
              simp [List.getD_eq_getElem?_getD, hr])
            have hc8 := (r.getD j 0).toNat_lt
            have hm : m < 36028797018963968 := by
              have h1 := joinN_lt (r.take j) 0
              have h2 : 256 ^ (r.take j).length ≤ 256 ^ 6 := Nat.pow_le_pow_right (by omega) (by simp; omega)
              rw [HM.out]
              simp at h1 h2 ⊢
              omega
            generalize (r.getD j 0).toNat = y at *
            have hc9 : y < 256 := hc8
            clear hc8
            go_wp2
            refine ⟨⟨j + 1, m * 256 + y, by omega, by go_num, by go_num, H1⟩, by simp [intOf]; omega⟩
          · obtain rfl : j = k := by omega
            have hge : (j : Int) < ((j + 1 : Nat) : Int) := by omega
            have hm : m < 72057594037927936 := by rw [HM.out]; exact joinN_small (by simp; omega)
            rw [← HM.out] at HF
            have hbl : (str (beB (wd m) m)).size = wd m := by rw [str_size, beB_length]
            have HB := hid (fun (h : 1 ≤ m) w => rbytes_any m w h (by omega))
            clear HM
            by_cases h8 : m < 248
            · rw [if_pos (.inl h8)] at HF
              have h8' : (m : Int) < 248 := by omega
              go_wp2
              go_ret3
              exact ⟨by rw [HF.out]; rfl, Below.refl _ _⟩
            have h8' : (248 : Int) ≤ m := by omega
            have hd8 : decide ((m : Int) < 248) = false := by simp; omega
            have HB2 := hid (HB.out (by omega))
            clear HB
            by_cases hw : wd m = j
            · rw [if_neg (by omega), HK.out] at HF
              rw [hw] at hbl HB2
              have hne : ((j : Int) != (j : Int)) = false := by simp
              by_cases hmo : most < (m : Int)
              · have hd : decide (most < (m : Int)) = true := decide_eq_true hmo
                rw [if_pos ⟨hmo, by omega⟩] at HF
                clear hw
                go_wp2_with (go_at_call 119; refine (HB2.out _).mono ?_; rintro e w1 ⟨rfl, hb1⟩)
                go_ret3
                exact ⟨by rw [HF.out]; rfl, hb1⟩
              · have hd : decide (most < (m : Int)) = false := decide_eq_false hmo
                rw [if_neg (fun h => hmo h.1)] at HF
                clear hw
                go_wp2_with (go_at_call 119; refine (HB2.out _).mono ?_; rintro e w1 ⟨rfl, hb1⟩)
                go_ret3
                exact ⟨by rw [HF.out]; simp [trip], hb1⟩
            · rw [if_pos (.inr hw)] at HF
              have hne : (((wd m : Nat) : Int) != (j : Int)) = true := by simp; omega
              clear hw
              generalize str (beB (wd m) m) = q at *
              generalize wd m = z at *
              go_wp2_with (go_at_call 119; refine (HB2.out _).mono ?_; rintro e w1 ⟨rfl, hb1⟩)
              go_ret3
              exact ⟨by rw [HF.out]; rfl, hb1⟩
end Go.Proofs.Ytkepfkfoblocgaa
