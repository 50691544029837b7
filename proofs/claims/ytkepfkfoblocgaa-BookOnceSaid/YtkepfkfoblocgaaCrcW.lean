/- What each function of the checksum package and of its reference does. -/
import Derived.Test.YtkepfkfoblocgaaChecked
import Derived.Test.YtkepfkfoblocgaaBase
import Derived.Test.YtkepfkfoblocgaaCrcM
import Derived.Outline
import Derived.WalkLawsBesides
namespace Go.Proofs.Ytkepfkfoblocgaa
open Go.RowKit

theorem compl32 (x : Nat) (h : x < 4294967296) : bits .xor .u32 IntKind.u32.max (x : Int) = ((4294967295 - x : Nat) : Int) := by
  have e : IntKind.u32.max = ((4294967295 : Nat) : Int) := by simp [IntKind.max, IntKind.signed, IntKind.bits]
  rw [e, u32_xor_nat 4294967295 x (by omega) h]
  congr 1
  have h4 := congrArg BitVec.toNat (@BitVec.allOnes_xor 32 (BitVec.ofNat 32 x))
  simp only [BitVec.toNat_xor, BitVec.toNat_allOnes, BitVec.toNat_ofNat, BitVec.toNat_not] at h4
  simp only [show 2 ^ 32 = 4294967296 from rfl, Nat.mod_eq_of_lt h] at h4
  omega

theorem step_any (n : Nat) (w : World) (h1 : n < 4294967296) : Calls Try.prog 147 #[.int .u32 n] w fun e w' => e = .returned (.int .u32 (stepN n)) ∧ w = w' := by
  have hb : bits .and .u32 n 1 = ((n % 2 : Nat) : Int) := by
    have := u32_and_nat n 1 h1 (by omega); rw [Nat.and_one_is_mod] at this; exact this
  have hx : bits .xor .u32 ((n : Int) / 2) 3988292384 = ((n / 2 ^^^ 3988292384 : Nat) : Int) := by
    have := u32_xor_nat (n / 2) 3988292384 (by omega) (by omega)
    simpa using this
  by_cases h : n % 2 = 1
  · have hs : stepN n = n / 2 ^^^ 3988292384 := by simp [stepN, h]
    have ht : (bits .and .u32 n 1 == 1) = true := by rw [hb, h]; rfl
    rw [hs, ← hx]
    clear hx hb h hs
    go_enter Try.func147, Try.ntmps147
    go_wp2
    go_ret
    exact ⟨rfl, rfl⟩
  · have hs : stepN n = n / 2 := by simp [stepN, h]
    have ht : (bits .and .u32 n 1 == 1) = false := by rw [hb]; have : n % 2 = 0 := by omega
                                                      rw [this]; rfl
    rw [hs]
    clear hx hb h hs
    go_enter Try.func147, Try.ntmps147
    go_wp2
    go_ret
    exact ⟨by simp, rfl⟩

theorem more_any (x : Nat) (a : Option Addr) (len cap : Nat) (l : List UInt8) (w : World) (hx : x < 4294967296) (hb : IsBytes w a len cap l) :
    Calls Try.prog 146 #[.int .u32 x, .slice a len cap] w fun e w' => e = .returned (.int .u32 (moreN x l)) ∧ w = w' := by
  obtain ⟨rfl, hlc, hcm⟩ := hb.len
  unfold maxLen at hcm
  have HC := hid (fun i hi => hb.at i hi); clear hb
  have HR := hid (rawN_take (4294967295 - x) l)
  have HX := hid (compl32 x hx)
  go_enter Try.func146, Try.ntmps146
  go_wp2
  go_loop [0, 11] (fun s i => ∃ k y : Nat, k ≤ l.length ∧ i = .int .i64 k ∧ s = .int .u32 y ∧ Hid (y = rawN (4294967295 - x) (l.take k)) ∧ Hid (y < 4294967296)) (fun _ i => l.length - (intOf i).toNat)
  case atStart => exact ⟨0, 4294967295 - x, Nat.zero_le _, rfl, by rw [HX.out], by simp [Hid, rawN], by unfold Hid; omega⟩
  case round =>
    obtain ⟨k, y, hk, rfl, rfl, HY, hy⟩ := hrel
    clear hx
    by_cases hlt : k < l.length
    · obtain ⟨b, off, ha, hcl⟩ := HC.out k hlt
      have HN := hid (HR.out k hlt)
      subst ha
      generalize l.getD k 0 = c at hcl HN
      have hc : (c.toNat : Int) < 4294967296 := by have := c.toNat_lt; omega
      have HZ := hid (u32_xor_nat y c.toNat hy.out (by have := c.toNat_lt; omega))
      have HZB := hid (xor_lt hy.out (show c.toNat < 4294967296 by have := c.toNat_lt; omega))
      go_wp2
      rw [HZ.out]
      generalize hzz : y ^^^ c.toNat = z at HZ HZB ⊢
      have HZZ := hid hzz; clear hzz hc
      go_loop [0, 19] (fun s i => ∃ j : Nat, j ≤ 8 ∧ i = .int .i64 j ∧ s = .int .u32 (iterN j z)) (fun _ i => 8 - (intOf i).toNat)
      case atStart => exact ⟨0, by omega, rfl, rfl⟩
      case round =>
        obtain ⟨j, hj, rfl, rfl⟩ := hrel
        have H2 := hid (iterN_lt j z HZB.out)
        by_cases hj8 : j < 8
        · go_wp2_with (go_at_call 147; refine (step_any _ _ H2.out).mono ?_; rintro e w' ⟨rfl, rfl⟩)
          go_round
          case rel => exact ⟨j + 1, by omega, by go_num, rfl⟩
          case measure => simp [intOf]; omega
        · obtain rfl : j = 8 := by omega
          go_wp2
          go_round
          case rel => exact ⟨k + 1, iterN 8 z, by omega, by go_num, rfl, by rw [Hid, HN.out, ← HY.out, ← HZZ.out]; rfl, H2⟩
          case measure => simp [intOf]; omega
    · obtain rfl : k = l.length := by omega
      have HF := hid (compl32 y hy.out)
      go_wp2
      go_ret
      exact ⟨by rw [HF.out, HY.out]; simp [moreN], rfl⟩

theorem of_any (a : Option Addr) (len cap : Nat) (l : List UInt8) (w : World) (hb : IsBytes w a len cap l) :
    Calls Try.prog 140 #[.slice a len cap] w fun e w' => e = .returned (.int .u32 (moreN 0 l)) ∧ w = w' := by
  have HB := hid hb; clear hb
  go_enter Try.func140, Try.ntmps140
  go_wp2_with (go_at_call 146; refine (more_any 0 a len cap l _ (by omega) HB.out).mono ?_; rintro e w' ⟨rfl, rfl⟩)
  go_ret
  exact ⟨rfl, rfl⟩

theorem rof_any (s : ByteArray) (w : World) (hs : s.size ≤ maxLen) :
    Calls Try.prog 142 #[.string s] w fun e w' => e = .returned (.int .u32 (moreN 0 s.data.toList)) ∧ w = w' := by
  unfold maxLen at hs
  go_enter Try.func142, Try.ntmps142
  go_wp2
  go_loop [3, 4] (fun s' i => ∃ k y : Nat, k ≤ s.size ∧ i = .int .i64 k ∧ s' = .int .u32 y ∧ Hid (y = rawN 4294967295 (s.data.toList.take k)) ∧ Hid (y < 4294967296)) (fun _ i => s.size - (intOf i).toNat)
  case atStart => exact ⟨0, 4294967295, Nat.zero_le _, rfl, rfl, by simp [Hid, rawN], by unfold Hid; omega⟩
  case round =>
    obtain ⟨k, y, hk, rfl, rfl, HY, hy⟩ := hrel
    by_cases hlt : k < s.size
    · have HN := hid (rawN_take 4294967295 s.data.toList k (by simpa using hlt))
      obtain ⟨c, hcs⟩ : ∃ c, s[k] = c := ⟨_, rfl⟩
      have HCS := hid (show s.data.toList.getD k 0 = c by rw [← hcs]; simp [List.getD_eq_getElem?_getD, List.getElem?_eq_getElem (show k < s.data.toList.length by simpa using hlt)]; rfl)
      have hc : (c.toNat : Int) < 4294967296 := by have := c.toNat_lt; omega
      go_wp2
      clear hcs hc
      go_loop [3, 5, 6] (fun u c' i => ∃ j x d : Nat, j ≤ 8 ∧ i = .int .i64 j ∧ u = .int .u32 x ∧ c' = .int .u32 d ∧ Hid (x < 4294967296 ∧ d = c.toNat / 2 ^ j ∧ x ^^^ d = iterN j (y ^^^ c.toNat))) (fun _ _ i => 8 - (intOf i).toNat)
      case atStart => exact ⟨0, y, c.toNat, by omega, rfl, rfl, rfl, hy.out, by simp, rfl⟩
      case round =>
        obtain ⟨j, x, d, hj, rfl, rfl, rfl, HJ⟩ := hrel
        by_cases hj8 : j < 8
        · obtain ⟨hx, hd, hxd⟩ := HJ.out
          have hi := inner_step x d j (y ^^^ c.toNat) hxd
          have hd' : d / 2 = c.toNat / 2 ^ (j + 1) := by rw [hd, Nat.div_div_eq_div_mul, Nat.pow_succ]
          have hdl : d < 4294967296 := by have h1 := c.toNat_lt; have h2 : d ≤ c.toNat := by rw [hd]; exact Nat.div_le_self _ _
                                          omega
          have hx2 := u32_xor_nat (x / 2) 3988292384 (by omega) (by omega)
          by_cases hodd : x % 2 = d % 2
          · rw [if_pos hodd] at hi
            have H := hid (show x / 2 < 4294967296 ∧ d / 2 = c.toNat / 2 ^ (j + 1) ∧ (x / 2) ^^^ (d / 2) = iterN (j + 1) (y ^^^ c.toNat) from ⟨by omega, hd', hi⟩)
            have ho : (((x : Int) % 2) != ((d : Int) % 2)) = false := by simp; omega
            have HB := hid (And.intro hx hdl)
            clear hd hxd hi hd' hdl hx2 hodd hx
            go_wp2
            go_round
            case rel =>
              obtain ⟨b1, b2⟩ := HB.out
              exact ⟨j + 1, x / 2, d / 2, by omega, by go_num, by go_num, by go_num, H⟩
            case measure => simp [intOf]; omega
          · rw [if_neg hodd] at hi
            have H := hid (show (x / 2) ^^^ 3988292384 < 4294967296 ∧ d / 2 = c.toNat / 2 ^ (j + 1) ∧ ((x / 2) ^^^ 3988292384) ^^^ (d / 2) = iterN (j + 1) (y ^^^ c.toNat) from ⟨xor_lt (by omega) (by omega), hd', hi⟩)
            have ho : (((x : Int) % 2) != ((d : Int) % 2)) = true := by simp; omega
            have HX2 := hid (show bits .xor .u32 ((x : Int) / 2 % 4294967296) 3988292384 = ((x / 2 ^^^ 3988292384 : Nat) : Int) by rw [Int.emod_eq_of_lt (by omega) (by omega)]; simpa using hx2)
            have HB := hid (And.intro hx hdl)
            clear hd hxd hi hd' hdl hx2 hodd hx
            go_wp2
            go_round
            case rel =>
              obtain ⟨b1, b2⟩ := HB.out
              exact ⟨j + 1, (x / 2) ^^^ 3988292384, d / 2, by omega, by go_num, by rw [HX2.out], by go_num, H⟩
            case measure => simp [intOf]; omega
        · obtain rfl : j = 8 := by omega
          obtain ⟨hx, hd, hxd⟩ := HJ.out
          have hd0 : d = 0 := by rw [hd]; have := c.toNat_lt; omega
          have H := hid (show x = rawN 4294967295 (s.data.toList.take (k + 1)) by rw [HN.out, HCS.out, ← HY.out, ← Nat.xor_zero x, ← hd0, hxd]; rfl)
          have HXB := hid hx
          clear hx hd hxd hd0
          go_wp2
          go_round
          case rel => exact ⟨k + 1, x, by omega, by go_num, rfl, H, HXB⟩
          case measure => simp [intOf]; omega
    · obtain rfl : k = s.size := by omega
      have hyl := hy.out
      have HF := hid (show (4294967295 : Int) - y = ((4294967295 - y : Nat) : Int) by omega)
      have hy0 : (y : Int) ≤ 4294967295 := by omega
      clear hyl
      go_wp2
      go_ret
      exact ⟨by rw [HF.out, HY.out]; simp [moreN, List.take_of_length_le], rfl⟩

theorem Try.info5 : (Try.prog.info? 5).map (fun i => (i.zero, i.size, i.bytes)) = some (some (.int .u8 0), 1, 1) := by kernel_rfl

theorem four_take (x k : Nat) (h : k < 4) : (fourL x).take (k + 1) = (fourL x).take k ++ [UInt8.ofNat (x / 256 ^ k % 256)] := by
  match k, h with
  | 0, _ => simp [fourL]
  | 1, _ => simp [fourL]
  | 2, _ => simp [fourL]
  | 3, _ =>
    have : UInt8.ofNat (x / 16777216) = UInt8.ofNat (x / 16777216 % 256) := by apply UInt8.toNat_inj.1; simp
    simp [fourL, this]

set_option maxHeartbeats 1000000 in
theorem seal_any (a : Option Addr) (len cap : Nat) (l : List UInt8) (w : World) (hb : IsBytes w a len cap l) (hl : l.length ≤ 140737488351232) :
    Calls Try.prog 121 #[.slice a len cap] w fun e w' => ∃ v, e = .returned v ∧ w'.ownsRow w.heap.size 5 1 v (l.length + 4) (bcells (sealL l)) ∧ Below w.heap.size w w' := by
  obtain ⟨rfl, hlc, hcm⟩ := hb.len
  have hmk := run_make_1 (P := Try.prog) 24 5 Try.underlying24 Try.info5 rfl l.length (l.length + 4) (by omega) (by omega) (by unfold maxLen; omega)
  rw [show ((l.length + 4 : Nat) : Int) = (l.length : Int) + 4 by omega] at hmk
  have HB := hid hb; clear hb
  have HS := hid (fun i hi => HB.out.at i hi)
  obtain ⟨x, hx⟩ : ∃ x, x = moreN 0 l := ⟨_, rfl⟩
  have HX := hid hx; clear hx
  go_enter Try.func121, Try.ntmps121
  go_wp2_with (with_reducible refine wpList_copy_splice rfl (.tmp 11) (.tmp 12) 24 24 rfl 5 Try.underlying24 (by kernel_rfl) _ _ _ _ _ _ rfl rfl w.heap.size 0 (List.replicate (l.length+4) (.int .u8 0)) 5 ?c1 (bcells l) ?c2 ?c3 ?c4 (bcells_one l) w.heap.size w ?c5 (Nat.le_refl _) ?_)
  case c1 => simpa using heap_alloc_new w _
  case c2 => simp [bcells]
  case c3 => exact HB.out.src ((Below.refl _ _).alloc (Nat.le_refl _) _)
  case c4 => simp [bcells]
  case c5 => exact (Below.refl _ _).alloc (Nat.le_refl _) _
  · intro w2 HG2 hB2
    have HB2 := hid (HB.out.below hB2)
    have hown := own_of_splice HG2.out (Nat.le_refl _) (bcells_length l) (by omega) (by unfold maxLen; omega)
    clear hmk
    go_wp2_with (go_at_call 140; refine (of_any a l.length cap l _ HB2.out).mono ?_; rintro e w' ⟨rfl, rfl⟩)
    rw [← HX.out]
    go_loopw [3, 4, 16] (fun v s i wr => ∃ k y : Nat, k ≤ 4 ∧ i = .int .i64 k ∧ s = .int .u32 y ∧ Hid (y = x / 256 ^ k) ∧ Hid (wr.ownsRow w.heap.size 5 1 v (l.length + k) (bcells (l ++ (fourL x).take k))) ∧ Below w.heap.size w wr) (fun _ _ i _ => 4 - (intOf i).toNat)
    case atStart => exact ⟨0, x, by omega, rfl, rfl, by simp [Hid], by simpa [Hid] using hown, hB2⟩
    case round =>
      obtain ⟨k, y, hk, rfl, rfl, HY, HO, hbr⟩ := hrel
      clear hown hB2
      by_cases hk4 : k < 4
      · have hsz := hbr.size
        have HT := hid (show bcells (l ++ (fourL x).take (k + 1)) = bcells (l ++ (fourL x).take k) ++ [.int .u8 ((y : Int) % 256)] by
          rw [four_take x k hk4, ← List.append_assoc, bcells_append, ← HY.out]
          simp [bcells])
        go_wp2_with (at_builtin; refine wpList_append_1 (W := w) rfl (.tmp 18) (.tmp 21) 24 rfl w.heap.size 5 Try.underlying24 Try.info5 rfl (by omega) rfl HO.out rfl rfl (by simp; rfl) ?c1 ?c2 hsz hbr ?_)
        case c1 => unfold maxLen; omega
        case c2 => omega
        · intro v' w' h2 h3 h4
          have HO2 := hid h2; clear h2
          go_wp2
          go_roundw
          case rel => exact ⟨k + 1, y / 256, by omega, by go_num, by go_num, by rw [Hid, HY.out, Nat.div_div_eq_div_mul, Nat.pow_succ], by rw [Hid, HT.out]; exact HO2.out, h3⟩
          case measure => simp [intOf]; omega
      · obtain rfl : k = 4 := by omega
        go_wp2
        go_ret
        exact ⟨_, rfl, by rw [show sealL l = l ++ (fourL x).take 4 by rw [HX.out]; rfl]; exact HO.out, hbr⟩

end Go.Proofs.Ytkepfkfoblocgaa
