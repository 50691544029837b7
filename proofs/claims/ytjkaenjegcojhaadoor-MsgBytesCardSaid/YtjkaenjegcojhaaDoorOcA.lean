/- octet.Num, and the document s Num: contracts. -/
import Derived.Test.YtjkaenjegcojhaaDoorLenC
import Derived.Test.YtjkaenjegcojhaaDoorRow
import Derived.Test.YtjkaenjegcojhaaDoorText
import Derived.Lib.MinMax
import Derived.Outline
import Derived.Lib.AppendStr
import Derived.Deep.Cut
namespace Go.Proofs.YtjkaenjegcojhaaDoor
open Go.RowKit
set_option linter.unusedVariables false
set_option linter.unusedSimpArgs false

theorem info_u8 : (Tryd.prog.info? 5).map (fun i => (i.zero, i.size, i.bytes)) = some (some (.int .u8 0), 1, 1) := by kernel_rfl
theorem cl_eq (n : Int) : min (max n 0) 72057594037927935 = ((cl n : Nat) : Int) := by unfold cl; omega
theorem cl_le (n : Int) : cl n ≤ 72057594037927935 := by unfold cl; omega
theorem beB_head (k n : Nat) : bcells (beB (k + 1) n) = .int .u8 ((n / 256 ^ k % 256 : Nat) : Int) :: bcells (beB k n) := by
  simp [beB, bcells]
set_option maxRecDepth 20000 in
set_option maxHeartbeats 1000000 in
theorem num_any (a : Option Addr) (len cap : Nat) (l : List UInt8) (n : Int) (w : World) (hb : IsBytes w a len cap l) (hl : l.length ≤ 140737488351232) :
    Calls Tryd.prog 28 #[.slice a len cap, .int .i64 n] w fun e w' => ∃ v, e = .returned v ∧ w'.ownsRow w.heap.size 5 1 v (l.length + (numB (cl n)).length) (bcells (l ++ numB (cl n))) ∧ Below w.heap.size w w' := by
  obtain ⟨rfl, hlc, hcm⟩ := hb.len
  have hc := cl_le n
  have HC := hid (cl_eq n)
  generalize cl n = c at *
  have hw := wd_max hc
  have HW := hid (fun w => width_any c w hc)
  have HP := hid (fun (h : 248 ≤ c) => wd_pos (n := c) (by omega))
  have HN : Hid (numB c = if c < 248 then [UInt8.ofNat c] else UInt8.ofNat (247 + wd c) :: beB (wd c) c) := rfl
  generalize wd c = k at *
  have hmk := run_make_1 (P := Tryd.prog) 46 5 Tryd.underlying46 info_u8 rfl l.length (l.length + 1 + k) (by omega) (by omega) (by unfold maxLen; omega)
  rw [show ((l.length + 1 + k : Nat) : Int) = (l.length : Int) + 1 + (k : Int) by omega] at hmk
  have HB := hid hb; clear hb
  go_enter Tryd.func28, Tryd.ntmps28
  go_upto_region 2 with (fail)
  rw [HC.out]
  go_upto_region 3 with (go_at_call 38; refine (HW.out _).mono ?_; rintro e w' ⟨rfl, rfl⟩)
  go_wp2_with (with_reducible refine wpList_copy_splice rfl (.tmp 21) (.tmp 22) 46 46 rfl 5 Tryd.underlying46 (by kernel_rfl) _ _ _ _ _ _ rfl rfl w.heap.size 0 (List.replicate (l.length+1+k) (.int .u8 0)) 5 ?c1 (bcells l) ?c2 ?c3 ?c4 (bcells_one l) w.heap.size w ?c5 (Nat.le_refl _) ?_)
  case c1 => simpa using heap_alloc_new w _
  case c2 => simp [bcells]
  case c3 => exact HB.out.src ((Below.refl _ _).alloc (Nat.le_refl _) _)
  case c4 => simp [bcells]; omega
  case c5 => exact (Below.refl _ _).alloc (Nat.le_refl _) _
  intro w2 HG2 hB2
  have HO1 := hid (own_of_splice HG2.out (Nat.le_refl _) (bcells_length l) (by omega) (by unfold maxLen; omega))
  have HB2 := hid hB2
  have hsz := hB2.size
  clear hmk hB2
  by_cases h8 : c < 248
  · rw [if_pos h8] at HN
    have hc8 : (c : Int) < 248 := by omega
    have HT : Hid (bcells (l ++ [UInt8.ofNat c]) = bcells l ++ [.int .u8 (c : Int)]) := hid (by rw [bcells_append]; simp [bcells]; omega)
    go_wp2_with (at_builtin; refine wpList_append_1 (W := w) rfl (.tmp 26) (.tmp 29) 46 rfl w.heap.size 5 Tryd.underlying46 info_u8 rfl (by omega) rfl HO1.out rfl rfl (by simp; rfl) ?c1 ?c2 hsz HB2.out ?_)
    case c1 => unfold maxLen; omega
    case c2 => omega
    intro v' w' h2 h3 h4
    have HO2 := hid h2
    clear h2
    go_wp2
    go_ret
    exact ⟨_, rfl, by rw [HN.out, HT.out]; exact HO2.out, h3⟩
  · rw [if_neg h8] at HN
    have hc8 : (248 : Int) ≤ c := by omega
    have hk := HP.out (by omega)
    have HT : Hid (bcells (l ++ [UInt8.ofNat (247 + k)]) = bcells l ++ [.int .u8 (247 + (k : Int))]) := hid (by rw [bcells_append]; simp [bcells]; omega)
    go_wp2_with (at_builtin; refine wpList_append_1 (W := w) rfl (.tmp 31) (.tmp 35) 46 rfl w.heap.size 5 Tryd.underlying46 info_u8 rfl (by omega) rfl HO1.out rfl rfl (by simp; rfl) ?c1 ?c2 hsz HB2.out ?_)
    case c1 => unfold maxLen; omega
    case c2 => omega
    intro v' w' h2 h3 h4
    have HO2 : Hid (w'.ownsRow w.heap.size 5 1 v' (l.length + 1) (bcells (l ++ [UInt8.ofNat (247 + k)]))) := hid (by rw [HT.out]; exact h2)
    clear h2 HT HO1 HB2 h4
    go_wp2
    go_loopw [6, 7] (fun v i wr => ∃ (m : Nat) (pre : List UInt8), m ≤ k ∧ i = .int .i64 ((m : Int) - 1) ∧ Hid (pre ++ beB m c = l ++ UInt8.ofNat (247 + k) :: beB k c) ∧ pre.length = l.length + 1 + (k - m) ∧ Hid (wr.ownsRow w.heap.size 5 1 v pre.length (bcells pre)) ∧ Hid (Below w.heap.size w wr)) (fun _ i _ => (intOf i + 1).toNat)
    case atStart => exact ⟨k, l ++ [UInt8.ofNat (247 + k)], Nat.le_refl _, rfl, by simp [Hid], by simp, by simpa using HO2, h3⟩
    case round =>
      obtain ⟨m, pre, hm, rfl, HE, hpl, HO, HBr⟩ := hrel
      clear HO2 h3
      rcases Nat.eq_zero_or_pos m with h0 | h0
      · subst h0
        have hneg : decide ((0 : Int) ≤ (((0 : Nat) : Int) - 1)) = false := by simp
        go_wp2
        go_ret
        have hE : pre = l ++ UInt8.ofNat (247 + k) :: beB k c := by have := HE.out; simpa [beB] using this
        exact ⟨_, rfl, by rw [HN.out, ← hE, ← List.length_append]; have h := HO.out; rw [hE] at h ⊢; exact h, HBr.out⟩
      · obtain ⟨t, rfl⟩ : ∃ t, m = t + 1 := ⟨m - 1, by omega⟩
        rw [show (((t + 1 : Nat) : Int) - 1) = (t : Int) by omega]
        have ht7 : t < 7 := by omega
        have HT : Hid (bcells (pre ++ [UInt8.ofNat (c / 256 ^ t % 256)]) = bcells pre ++ [.int .u8 ((c : Int) / 2 ^ (8 * t) % 256)]) := hid (by
          rw [bcells_append]
          have : ((c : Int) / 2 ^ (8 * t) % 256) = ((c / 256 ^ t % 256 : Nat) : Int) := by
            rw [pow_256]
            simp
          rw [this]
          simp [bcells])
        have HE2 : Hid ((pre ++ [UInt8.ofNat (c / 256 ^ t % 256)]) ++ beB t c = l ++ UInt8.ofNat (247 + k) :: beB k c) := hid (by
          rw [← HE.out, beB]
          simp)
        clear HE
        go_wp2_with (at_builtin; refine wpList_append_1 (W := w) rfl (.tmp 43) (.tmp 49) 46 rfl w.heap.size 5 Tryd.underlying46 info_u8 rfl (by omega) rfl HO.out rfl rfl (by simp; rfl) ?c1 ?c2 HBr.out.size HBr.out ?_)
        case c1 => unfold maxLen; omega
        case c2 => omega
        intro v'' w'' h2 h3 h4
        have HO3 := hid h2
        clear h2
        go_wp2
        go_roundw
        case rel => exact ⟨t, pre ++ [UInt8.ofNat (c / 256 ^ t % 256)], by omega, rfl, HE2, by simp; omega, by rw [Hid, HT.out, List.length_append, hpl]; exact HO3.out, h3⟩
        case measure => simp [intOf]
theorem str_nonempty {l : List UInt8} (h : 0 < l.length) : (str l).toList.isEmpty = false := by
  rw [ByteArray.toList_eq, str]
  cases l with
  | nil => simp at h
  | cons a l => rfl
theorem conv_one (W : World) (x : Nat) (h : x < 256) : (convert 46 9 (.slice (some ⟨W.heap.size, 0, none⟩) 1 1)).run Tryd.prog (W.alloc (.cells #[.int .u8 (x : Int)] 5)) = .ok (.string (str [UInt8.ofNat x])) (W.alloc (.cells #[.int .u8 (x : Int)] 5)) := by
  have hs := Sl.lit W 5 1 1 #[.int .u8 (x : Int)] rfl (by unfold maxLen; omega)
  exact conv_str (P := Tryd.prog) (src := 46) (dst := 9) Tryd.underlying46 Tryd.underlying5 Tryd.underlying9 (l := [UInt8.ofNat x]) (by
    have e : bcells [UInt8.ofNat x] = [.int .u8 (x : Int)] := by simp [bcells]; omega
    rw [IsBytes, e]; exact hs)
set_option maxRecDepth 20000 in
set_option maxHeartbeats 1000000 in
theorem rbytes_any (n : Nat) (W : World) (h1 : 1 ≤ n) (h2 : n ≤ 72057594037927935) :
    Calls Tryd.prog 39 #[.int .i64 n] W fun e w' => e = .returned (.string (str (beB (wd n) n))) ∧ Below W.heap.size W w' := by
  go_enter Tryd.func39, Tryd.ntmps39
  go_wp2
  go_loopw [0, 3] (fun x s wr => ∃ t m : Nat, x = .int .i64 (m : Int) ∧ s = .string (str (beB t n)) ∧ m ≤ 72057594037927935 ∧ Hid (m = n / 256 ^ t) ∧ Hid (t ≤ wd n) ∧ Hid (Below W.heap.size W wr)) (fun x _ _ => (intOf x).toNat)
  case atStart => exact ⟨0, n, rfl, rfl, h2, by simp [Hid], Nat.zero_le _, Below.refl _ _⟩
  case round =>
    obtain ⟨t, m, rfl, rfl, hm, HM, HT, HB⟩ := hrel
    have HL := hid hm
    clear hm
    by_cases h0 : 0 < m
    · have hm0 : (0 : Int) < m := by omega
      have hcv := conv_one wr (m % 256) (by omega)
      rw [show ((m % 256 : Nat) : Int) = (m : Int) % 256 by omega] at hcv
      have hA : (str [UInt8.ofNat (m % 256)]).size = 1 := by rw [str_size]; rfl
      have hB : (str (beB t n)).size = t := by rw [str_size, beB_length]
      have ht : t ≤ 7 := Nat.le_trans HT.out (wd_max h2)
      have HW : Hid (wrap64 ((m : Int) / 256) = ((m / 256 : Nat) : Int)) := hid (by have := HL.out; unfold wrap64; omega)
      have HT2 : Hid (t + 1 ≤ wd n) := hid (by
        refine wd_gt ?_
        have h := HM.out
        rcases Nat.lt_or_ge n (256 ^ t) with h3 | h3
        · rw [Nat.div_eq_of_lt h3] at h; omega
        · exact h3)
      have HS : Hid (str [UInt8.ofNat (m % 256)] ++ str (beB t n) = str (beB (t + 1) n)) := hid (by rw [str_app, beB, HM.out]; rfl)
      have HM2 : Hid (m / 256 = n / 256 ^ (t + 1)) := hid (by rw [HM.out, Nat.div_div_eq_div_mul, Nat.pow_succ])
      clear h1 h2
      go_wp2
      refine ⟨⟨t + 1, m / 256, by rw [HW.out], by rw [HS.out], by have := HL.out; omega, HM2, HT2, HB.out.alloc HB.out.size _⟩, ?_⟩
      rw [HW.out]
      simp [intOf]
      omega
    · have hm0 : decide (0 < (m : Int)) = false := by simp; omega
      have hm1 : decide (0 < m) = false := by simp; omega
      have HE : Hid (beB t n = beB (wd n) n) := hid (by
        have h := HM.out
        have h3 : n < 256 ^ t := by
          rcases Nat.lt_or_ge n (256 ^ t) with h3 | h3
          · exact h3
          · have := Nat.div_pos h3 (Nat.pow_pos (by omega)); omega
        rw [Nat.le_antisymm HT.out (wd_le h3)])
      have hne : (str (beB t n)).toList.isEmpty = false := by
        have ht : t ≠ 0 := by rintro rfl; have h := HM.out; simp at h; omega
        exact str_nonempty (by rw [beB_length]; omega)
      clear h1 h2
      go_wp2
      go_ret
      exact ⟨by rw [← HE.out]; rfl, HB.out⟩
theorem cl_neg {n : Int} (h : n < 0) : cl n = 0 := by unfold cl; omega
theorem cl_big {n : Int} (h : 72057594037927935 < n) : cl n = 72057594037927935 := by unfold cl; omega
theorem cl_in {n : Nat} (h : n ≤ 72057594037927935) : cl (n : Int) = n := by unfold cl; omega
set_option maxRecDepth 20000 in
set_option maxHeartbeats 1000000 in
theorem rnum_any (x : Int) (W : World) :
    Calls Tryd.prog 30 #[.int .i64 x] W fun e w' => e = .returned (.string (str (numB (cl x)))) ∧ Below W.heap.size W w' := by
  have hA : ∀ m, (str [UInt8.ofNat m]).size = 1 := fun m => by rw [str_size]; rfl
  by_cases hneg : x < 0
  · have HN : Hid (numB (cl x) = [UInt8.ofNat 0]) := hid (by rw [cl_neg hneg]; rfl)
    have hcv := conv_one W 0 (by omega)
    rw [show ((0 : Nat) : Int) = 0 from rfl] at hcv
    go_enter Tryd.func30, Tryd.ntmps30
    go_wp2
    go_ret
    exact ⟨by rw [HN.out]; rfl, (Below.refl _ _).alloc (Nat.le_refl _) _⟩
  by_cases hbig : 72057594037927935 < x
  · have HN : Hid (numB (cl x) = UInt8.ofNat (247 + 7) :: beB 7 72057594037927935) := hid (by
      rw [cl_big hbig, numB, if_neg (by omega), wd_eq (k := 6) (by simp) (by simp)])
    have HR := hid (fun w => rbytes_any 72057594037927935 w (by omega) (by omega))
    rw [wd_eq (k := 6) (by simp) (by simp)] at HR
    have hB : (str (beB 7 72057594037927935)).size = 7 := by rw [str_size, beB_length]
    have hB2 : (str (beB (6 + 1) 72057594037927935)).size = 7 := by rw [str_size, beB_length]
    have HC := hid conv_one
    clear hneg
    go_enter Tryd.func30, Tryd.ntmps30
    go_wp2_with fail
    refine (HR.out _).mono ?_
    rintro e w1 ⟨rfl, hb⟩
    have HB := hid hb
    have hcv := HC.out w1 254 (by omega)
    rw [show ((254 : Nat) : Int) = 254 from rfl] at hcv
    clear hb
    go_wp2
    go_ret
    exact ⟨by rw [HN.out]; rfl, HB.out.alloc HB.out.size _⟩
  obtain ⟨n, rfl⟩ := Int.eq_ofNat_of_zero_le (show 0 ≤ x by omega)
  have hn : n ≤ 72057594037927935 := by omega
  rw [cl_in hn]
  by_cases h8 : n < 248
  · have HN : Hid (numB n = [UInt8.ofNat n]) := hid (by rw [numB, if_pos h8])
    have hcv := conv_one W n (by omega)
    have h8' : (n : Int) < 248 := by omega
    clear hneg hbig
    have h1 : decide ((n : Int) < 0) = false := by simp
    have h2 : decide (72057594037927935 < (n : Int)) = false := by simp; omega
    go_enter Tryd.func30, Tryd.ntmps30
    go_wp2
    go_ret
    exact ⟨by rw [HN.out]; rfl, (Below.refl _ _).alloc (Nat.le_refl _) _⟩
  · have HN : Hid (numB n = UInt8.ofNat (247 + wd n) :: beB (wd n) n) := hid (by rw [numB, if_neg h8])
    have HR := hid (fun w => rbytes_any n w (by omega) hn)
    have hB : (str (beB (wd n) n)).size = wd n := by rw [str_size, beB_length]
    have hw := wd_max hn
    have h8' : (248 : Int) ≤ n := by omega
    have h1 : decide ((n : Int) < 0) = false := by simp
    have h2 : decide (72057594037927935 < (n : Int)) = false := by simp; omega
    have h3 : decide ((n : Int) < 248) = false := by simp; omega
    have HC := hid conv_one
    clear hneg hbig hn h8
    generalize wd n = k at *
    go_enter Tryd.func30, Tryd.ntmps30
    go_wp2_with fail
    refine (HR.out _).mono ?_
    rintro e w1 ⟨rfl, hb⟩
    have HB := hid hb
    have hcv := HC.out w1 (247 + k) (by omega)
    rw [show ((247 + k : Nat) : Int) = 247 + (k : Int) by omega] at hcv
    have hY : ∀ y : UInt8, (str [y]).size = 1 := fun y => by rw [str_size]; rfl
    generalize UInt8.ofNat (247 + k) = y at hcv HN
    have hY := hY y
    clear hb hA
    go_wp2
    go_ret
    exact ⟨by rw [HN.out, str_app]; rfl, HB.out.alloc HB.out.size _⟩
end Go.Proofs.YtjkaenjegcojhaaDoor
