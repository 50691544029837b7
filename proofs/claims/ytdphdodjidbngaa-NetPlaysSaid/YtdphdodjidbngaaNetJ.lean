/- The document's Bits of layer 28: a contract. -/
import Derived.Test.YtdphdodjidbngaaNetH
import Derived.Test.YtdphdodjidbngaaIcell
namespace Go.Proofs.Ytdphdodjidbngaa
open Go.RowKit
set_option linter.unusedVariables false
set_option linter.unusedSimpArgs false

theorem pow8 (m : Nat) (h : m < 8) : 2 ^ m ≤ 128 := by
  match m, h with
  | 0, _ => decide
  | 1, _ => decide
  | 2, _ => decide
  | 3, _ => decide
  | 4, _ => decide
  | 5, _ => decide
  | 6, _ => decide
  | 7, _ => decide
set_option maxRecDepth 20000 in
set_option maxHeartbeats 4000000 in
theorem rbits_any (xs : List UInt8) (a bits : Nat) (W : World) (hx : xs.length ≤ 100000) (ha : a ≤ 1000000) (hbt : bits < 4294967296) :
    Calls Try.prog 63 #[.string (str xs), .int .i64 (a : Int), .int .u32 (bits : Int)] W fun e w' => e = .returned (.string (str (trs xs a bits 32))) ∧ Below W.heap.size W w' := by
  obtain ⟨w3, cB, hcv, hB3, hb3, hs3⟩ := bytes_brow W (str xs) (by rw [str_size]; omega)
  rw [show (str xs).data.toList = xs by simp [str]] at hB3
  rw [str_size] at hcv
  have HB3 := hid hB3
  have HL3 := hid hb3
  clear hB3 hb3 hs3
  go_enter Try.func63, Try.ntmps63
  go_upto_region 2 with (fail)
  clear hcv
  go_wp2
  go_loopw [2, 8, 9, 10, 11, 12] (fun q i _ _ _ _ wr => ∃ (n u : Nat), n ≤ 32 ∧ i = .int .i64 (n : Int) ∧ q = .int .u32 (u : Int) ∧ Hid (u = bits / 2 ^ n) ∧ Hid (BRow wr W.heap.size cB (trs xs a bits n)) ∧ Hid (Below W.heap.size W wr)) (fun _ i _ _ _ _ _ => 32 - (intOf i).toNat)
  case atStart => exact ⟨0, bits, by omega, rfl, rfl, by simp [Hid], HB3.out, HL3.out⟩
  case round =>
    obtain ⟨n, u, hn, rfl, rfl, HU, HR, HL⟩ := hrel
    by_cases hlt : n < 32
    · have hlt2 : (n : Int) < 32 := by omega
      have hu32 : u < 4294967296 := by
        rw [HU.out]
        exact Nat.lt_of_le_of_lt (Nat.div_le_self _ _) hbt
      have HNX : Hid (u / 2 = bits / 2 ^ (n + 1)) := hid (by rw [div_next, ← HU.out])
      have HN1 : Hid (trs xs a bits (n + 1) = if u % 2 = 1 ∧ 1 + (a + n) / 8 < xs.length then flB (trs xs a bits n) (a + n) else trs xs a bits n) := hid (by rw [trs, ← HU.out])
      by_cases ho : u % 2 = 1
      · have z1 : ((u : Int) % 2 == 1) = true := by simp; omega
        by_cases hl : 1 + (a + n) / 8 < xs.length
        · have hge : ¬ (1 + ((a : Int) + (n : Int)) / 8 ≥ (xs.length : Int)) := by omega
          go_upto_region 9 with (fail)
          go_wp2
          obtain ⟨p, hp⟩ : ∃ p : Nat, (p : Int) = (a : Int) + (n : Int) := ⟨a + n, by simp⟩
          have hpn : a + n = p := by omega
          rw [hpn] at hl HN1
          rw [← hp] at hge ⊢
          clear hp
          go_loopw [11, 12] (fun bt j wi => ∃ m v : Nat, m ≤ p % 8 ∧ j = .int .i64 (m : Int) ∧ bt = .int .u8 (v : Int) ∧ Hid (v = 2 ^ m) ∧ wi = wr) (fun _ j _ => p % 8 - (intOf j).toNat)
          case atStart => exact ⟨0, 1, by omega, rfl, rfl, rfl, rfl⟩
          case round =>
            obtain ⟨m, v, hm, rfl, rfl, HV, rfl⟩ := hrel
            by_cases hm8 : m < p % 8
            · have hv : v ≤ 64 := by
                rw [HV.out]
                have h9 : 2 ^ (m + 1) ≤ 128 := pow8 (m + 1) (by omega)
                rw [Nat.pow_succ] at h9
                omega
              have hm9 : (m : Int) < (p : Int) % 8 := by omega
              have hvw : ((v : Int) * 2) % 256 = ((v * 2 : Nat) : Int) := by omega
              have HV2 : Hid (v * 2 = 2 ^ (m + 1)) := hid (by rw [Nat.pow_succ, ← HV.out])
              go_wp2
              go_roundw
              case rel => exact ⟨m + 1, v * 2, by omega, by go_num, by first | rfl | go_num | (simp only [hvw]) | (rw [hvw]), HV2.out, by trivial⟩
              case measure => simp [intOf]; omega
            · obtain rfl : m = p % 8 := by omega
              have hm9 : ¬ (((p % 8 : Nat)) : Int) < (p : Int) % 8 := by omega
              have hv : 1 ≤ v ∧ v ≤ 128 := by
                rw [HV.out]
                exact ⟨Nat.one_le_two_pow, pow8 _ (by omega)⟩
              obtain ⟨hv1, hv2⟩ := hv
              obtain ⟨c1, c2⟩ := HR.out.cell (1 + p / 8) (by rw [trs_len]; exact hl)
              generalize hcc : (trs xs a bits n).getD (1 + p / 8) 0 = cc at c1
              have HCC := hid hcc
              clear hcc
              have hcb := cc.toNat_lt
              have HXX := hid (flip_byte cc (p % 8) (by omega))
              have HSO := hid (HR.out.set (1 + p / 8) (UInt8.ofNat (cc.toNat ^^^ 2 ^ (p % 8))) (by rw [trs_len]; exact hl))
              have HFL : Hid (trs xs a bits (n + 1) = (trs xs a bits n).set (1 + p / 8) (UInt8.ofNat (cc.toNat ^^^ 2 ^ (p % 8)))) := hid (by rw [HN1.out, if_pos ⟨ho, hl⟩, flB, HCC.out])
              rw [← HFL.out, HXX.out.1, HXX.out.2.1, ← HV.out] at HSO
              have hxb := HXX.out.2.2
              rw [HXX.out.2.1, ← HV.out] at hxb
              generalize cc.toNat = x at *
              have hv0 : ((v : Int) == 0) = false := by simp; omega
              have hv00 : ¬ (v : Int) = 0 := by omega
              by_cases hxo : x / v % 2 = 1
              · have z2 : ((x : Int) / (v : Int) % 2 == 1) = true := by simp; omega
                rw [if_pos hxo] at HSO hxb
                have hxv : v ≤ x := by
                  rcases Nat.lt_or_ge x v with h | h
                  · rw [Nat.div_eq_of_lt h] at hxo; omega
                  · exact h
                have hW : Hid ((x : Int) - (v : Int) = ((x - v : Nat) : Int)) := hid (by omega)
                go_wp2
                go_roundw
                case rel => exact ⟨n + 1, u / 2, by omega, by go_num, by first | rfl | simp, HNX.out, by rw [hW.out]; exact HSO.out, HL.out.setCell (Nat.le_refl _) _⟩
                case measure => simp [intOf]; omega
              · have z2 : ((x : Int) / (v : Int) % 2 == 1) = false := by simp; omega
                rw [if_neg hxo] at HSO hxb
                have hW : Hid ((x : Int) + (v : Int) = ((x + v : Nat) : Int)) := hid (by omega)
                go_wp2
                go_roundw
                case rel => exact ⟨n + 1, u / 2, by omega, by go_num, by first | rfl | simp, HNX.out, by rw [hW.out]; exact HSO.out, HL.out.setCell (Nat.le_refl _) _⟩
                case measure => simp [intOf]; omega
        · have hge : 1 + ((a : Int) + (n : Int)) / 8 ≥ (xs.length : Int) := by omega
          go_wp2
          go_roundw
          case rel => exact ⟨n + 1, u / 2, by omega, by go_num, by first | rfl | simp, HNX.out, by rw [HN1.out, if_neg (fun h => hl h.2)]; exact HR.out, HL.out⟩
          case measure => simp [intOf]; omega
      · have z1 : ((u : Int) % 2 == 1) = false := by simp; omega
        go_wp2
        go_roundw
        case rel => exact ⟨n + 1, u / 2, by omega, by go_num, by first | rfl | simp, HNX.out, by rw [HN1.out, if_neg (fun h => ho h.1)]; exact HR.out, HL.out⟩
        case measure => simp [intOf]; omega
    · obtain rfl : n = 32 := by omega
      have hge : ¬ ((32 : Nat) : Int) < 32 := by omega
      have hlen := trs_len xs a bits 32
      have hcv := conv_str (P := Try.prog) (src := 85) (dst := 9) Try.underlying85 Try.underlying5 Try.underlying9 HR.out.bytes
      rw [hlen, show (⟨(trs xs a bits 32).toArray⟩ : ByteArray) = str (trs xs a bits 32) from rfl] at hcv
      clear hlen HR HU
      generalize hys : trs xs a bits 32 = ys at *
      have HYS := hid hys
      clear hys
      go_wp2
      go_ret
      exact ⟨by rw [HYS.out]; rfl, HL.out⟩
end Go.Proofs.Ytdphdodjidbngaa
