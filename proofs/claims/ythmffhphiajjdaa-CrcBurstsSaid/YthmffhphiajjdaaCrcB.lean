/- The law CrcBursts, as a walk. -/
import Derived.Test.YthmffhphiajjdaaCrcS
namespace Go.Proofs.Ythmffhphiajjdaa
open Go.RowKit Go.Sort

theorem bcells_set (l : List UInt8) (j : Nat) (d : UInt8) : bcells (l.set j d) = (bcells l).set j (.int .u8 (d.toNat : Int)) := by simp [bcells, List.map_set]

theorem flip_val (c : UInt8) (r : Nat) (h : r < 8) : bits .xor .u8 (c.toNat : Int) (2 ^ r % 256) = (((c ^^^ (1 <<< UInt8.ofNat r)).toNat : Nat) : Int) := by
  have hc := c.toNat_lt
  have h2 : (2 : Nat) ^ r < 256 := Nat.lt_of_lt_of_le (Nat.pow_lt_pow_right (by omega) h) (by decide)
  have e : ((2 : Int) ^ r % 256) = ((2 ^ r : Nat) : Int) := by
    match r, h with
    | 0, _ => rfl
    | 1, _ => rfl
    | 2, _ => rfl
    | 3, _ => rfl
    | 4, _ => rfl
    | 5, _ => rfl
    | 6, _ => rfl
    | 7, _ => rfl
  rw [e, u8_xor_nat _ _ hc h2, UInt8.toNat_xor, bit_u8 r h]

theorem odd_bit (t k : Nat) (ht : t < 4294967296) : bits .and .u32 ((t : Int) / 2 ^ k) 1 = ((t / 2 ^ k % 2 : Nat) : Int) := by
  have h1 : t / 2 ^ k < 4294967296 := Nat.lt_of_le_of_lt (Nat.div_le_self _ _) ht
  have := u32_and_nat (t / 2 ^ k) 1 h1 (by omega)
  rw [Nat.and_one_is_mod] at this
  rw [← this]
  simp

theorem crcBursts_out (a0 : Option Addr) (len0 cap0 : Nat) (l0 : List UInt8) (p t : Int) (w : World) (h0 : IsBytes w a0 len0 cap0 l0) (hout : l0.length > 1000 ∨ t = 0 ∨ p < 0 ∨ p > 8 * l0.length) :
    Calls Try.prog 9 #[.slice a0 len0 cap0, .int .i64 p, .int .u32 t] w fun e w' => e = .returned (.bool true) ∧ Below w.heap.size w w' := by
  obtain ⟨rfl, _, hm⟩ := h0.len
  unfold maxLen at hm
  clear h0
  by_cases g0 : 1000 < l0.length
  · have z0 : (1000 : Int) < l0.length := by omega
    clear hout
    go_enter Try.func9, Try.ntmps9
    go_wp2_with (go_at_call 30; refine (works2_any _).mono ?_; rintro e w' ⟨rfl, hb⟩)
    go_ret
    exact ⟨rfl, hb⟩
  · have z0 : (l0.length : Int) ≤ 1000 := by omega
    by_cases g1 : t = 0
    · subst g1
      clear hout
      go_enter Try.func9, Try.ntmps9
      go_wp2_with (go_at_call 30; refine (works2_any _).mono ?_; rintro e w' ⟨rfl, hb⟩)
      go_ret
      exact ⟨rfl, hb⟩
    · have z1 : (t == 0) = false := by simp [g1]
      by_cases g2 : p < 0
      · clear hout
        go_enter Try.func9, Try.ntmps9
        go_wp2_with (go_at_call 30; refine (works2_any _).mono ?_; rintro e w' ⟨rfl, hb⟩)
        go_ret
        exact ⟨rfl, hb⟩
      · have z2 : 0 ≤ p := by omega
        have z3 : 8 * (l0.length : Int) < p := by rcases hout with h | h | h | h <;> omega
        clear hout
        go_enter Try.func9, Try.ntmps9
        go_wp2_with (go_at_call 30; refine (works2_any _).mono ?_; rintro e w' ⟨rfl, hb⟩)
        go_ret
        exact ⟨rfl, hb⟩

set_option maxHeartbeats 1000000 in
theorem crcBursts_in (a0 : Option Addr) (len0 cap0 : Nat) (l0 : List UInt8) (p t : Nat) (w : World) (h0 : IsBytes w a0 len0 cap0 l0) (g0 : l0.length ≤ 1000) (ht0 : t ≠ 0) (ht1 : t < 4294967296) (hp : p ≤ 8 * l0.length) :
    Calls Try.prog 9 #[.slice a0 len0 cap0, .int .i64 p, .int .u32 t] w fun e w' => e = .returned (.bool true) ∧ Below w.heap.size w w' := by
  obtain ⟨rfl, _, _⟩ := h0.len
  have HA := hid h0
  have HB := hid (burst l0 p t ht0 ht1 hp)
  have z0 : (l0.length : Int) ≤ 1000 := by omega
  have z1 : ((t : Int) == 0) = false := by simp; omega
  have z2 : (p : Int) ≤ 8 * (l0.length : Int) := by omega
  clear h0 ht0
  have HT := hid ht1; clear ht1
  go_enter Try.func9, Try.ntmps9
  go_wp2_with fail
  refine (seal_any a0 _ cap0 l0 _ HA.out (by omega)).mono ?_
  rintro e w1 ⟨v1, rfl, ho1, hb1⟩
  obtain ⟨g, c1, rfl, hgb⟩ : ∃ g c, v1 = .slice (some ⟨g, 0, none⟩) (l0.length + 4) c ∧ w.heap.size ≤ g := by
    rcases ho1.2 with ⟨_, h⟩ | ⟨g, cap, cur, h, hg, _⟩
    · omega
    · exact ⟨g, cap, h, hg⟩
  have HO := hid ho1; clear ho1
  go_wp2_with fail
  go_loopw [8] (fun i wr => ∃ k : Nat, k ≤ 32 ∧ i = .int .i64 k ∧ Hid (wr.ownsRow w.heap.size 5 1 (.slice (some ⟨g, 0, none⟩) (l0.length + 4) c1) (l0.length + 4) (bcells (flips (sealL l0) p t k))) ∧ Below w.heap.size w wr) (fun i _ => 32 - (intOf i).toNat)
  case atStart => exact ⟨0, by omega, rfl, HO, hb1⟩
  case round =>
    obtain ⟨k, hk, rfl, HR, hbr⟩ := hrel
    by_cases hk32 : k < 32
    · by_cases ht : t / 2 ^ k % 2 = 1
      · have z3 : (bits .and .u32 ((t : Int) / 2 ^ k) 1 == 1) = true := by rw [odd_bit t k HT.out, ht]; rfl
        have hc := HR.out.cellAt ((p + k) / 8) (by omega)
        have hfl : (p + k) / 8 < (flips (sealL l0) p t k).length := by rw [flips_length, seal_length]; omega
        have hf := HR.out.frozenAt ((p + k) / 8)
        rw [show (bcells (flips (sealL l0) p t k))[(p + k) / 8]? = some (.int .u8 (((flips (sealL l0) p t k).getD ((p + k) / 8) 0).toNat : Int)) by simp [bcells, hfl]] at hc
        generalize hcc : (flips (sealL l0) p t k).getD ((p + k) / 8) 0 = c at hc
        have HCC := hid hcc; clear hcc hfl
        have HST := hid (HR.out.stored ((p + k) / 8) (.int .u8 (bits .xor .u8 (c.toNat : Int) (2 ^ ((p + k) % 8) % 256))))
        have HF := hid (show bcells (flips (sealL l0) p t (k + 1)) = (bcells (flips (sealL l0) p t k)).set ((p + k) / 8) (.int .u8 (bits .xor .u8 (c.toNat : Int) (2 ^ ((p + k) % 8) % 256))) by
          simp only [flips, ht, if_true, flipL]
          rw [bcells_set, HCC.out, flip_val c _ (by omega)])
        go_wp2
        go_roundw
        case rel => exact ⟨k + 1, by omega, by go_num, by rw [Hid, HF.out]; exact HST.out.1, hbr.setCell hgb _⟩
        case measure => simp [intOf]; omega
      · have z3 : (bits .and .u32 ((t : Int) / 2 ^ k) 1 == 1) = false := by rw [odd_bit t k HT.out, show t / 2 ^ k % 2 = 0 by omega]; rfl
        have HF := hid (show flips (sealL l0) p t (k + 1) = flips (sealL l0) p t k by simp only [flips, ht, if_false])
        go_wp2
        go_roundw
        case rel => exact ⟨k + 1, by omega, by go_num, by rw [Hid, HF.out]; exact HR.out, hbr⟩
        case measure => simp [intOf]; omega
    · obtain rfl : k = 32 := by omega
      have hfl : (flips (sealL l0) p t 32).length = l0.length + 4 := by rw [flips_length, seal_length]
      obtain ⟨_, _, hv, hs2⟩ := Sl.of_own HR.out
      have HS := hid (show IsBytes wr (some ⟨g, 0, none⟩) (l0.length + 4) c1 (flips (sealL l0) p t 32) by injection hv with e1 e2 e3; subst e1 e3; exact hs2)
      clear hv hs2
      go_wp2_with fail
      refine (open_bad (some ⟨g, 0, none⟩) _ c1 (flips (sealL l0) p t 32) _ HS.out (by omega) (fun n hn => (show n = l0.length by omega) ▸ HB.out)).mono ?_
      rintro e w2 ⟨rfl, hb2⟩
      have hb12 := hbr.trans (hb2.mono hbr.size)
      clear hfl
      go_wp2_with (go_at_call 30; refine (works2_any _).mono ?_; rintro e w' ⟨rfl, hb3⟩)
      go_ret
      exact ⟨rfl, hb12.trans (hb3.mono hb12.size)⟩

theorem wf_u32 {n : Int} (h : (Lit.int .u32 n).wf = true) : 0 ≤ n ∧ n < 4294967296 := by
  simp [Lit.wf, IntKind.min, IntKind.max, IntKind.signed, IntKind.bits] at h
  omega

theorem crcBursts_any (a0 : Option Addr) (len0 cap0 : Nat) (l0 : List UInt8) (p t : Int) (w : World) (h0 : IsBytes w a0 len0 cap0 l0) (ht : (Lit.int .u32 t).wf = true) :
    Calls Try.prog 9 #[.slice a0 len0 cap0, .int .i64 p, .int .u32 t] w fun e w' => e = .returned (.bool true) ∧ Below w.heap.size w w' := by
  by_cases h : l0.length > 1000 ∨ t = 0 ∨ p < 0 ∨ p > 8 * l0.length
  · exact crcBursts_out a0 len0 cap0 l0 p t w h0 h
  · have hw := wf_u32 ht
    obtain ⟨q, rfl⟩ := Int.eq_ofNat_of_zero_le (show 0 ≤ p by omega)
    obtain ⟨u, rfl⟩ := Int.eq_ofNat_of_zero_le hw.1
    exact crcBursts_in a0 len0 cap0 l0 q u w h0 (by omega) (by omega) (by omega) (by omega)
end Go.Proofs.Ythmffhphiajjdaa
