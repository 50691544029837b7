/- octet.Num and octet.Text, as contracts. -/
import Derived.Test.YtkepfkfoblocgaaLenC
import Derived.Test.YtkepfkfoblocgaaRow
import Derived.Lib.MinMax
import Derived.Outline
import Derived.Lib.AppendStr
namespace Go.Proofs.Ytkepfkfoblocgaa
open Go.RowKit
set_option linter.unusedVariables false
set_option linter.unusedSimpArgs false

theorem info_u8 : (Try.prog.info? 5).map (fun i => (i.zero, i.size, i.bytes)) = some (some (.int .u8 0), 1, 1) := by kernel_rfl
theorem cl_eq (n : Int) : min (max n 0) 72057594037927935 = ((cl n : Nat) : Int) := by unfold cl; omega
theorem cl_le (n : Int) : cl n ≤ 72057594037927935 := by unfold cl; omega
theorem beB_head (k n : Nat) : bcells (beB (k + 1) n) = .int .u8 ((n / 256 ^ k % 256 : Nat) : Int) :: bcells (beB k n) := by
  simp [beB, bcells]

set_option maxRecDepth 20000 in
set_option maxHeartbeats 1000000 in
theorem num_any (a : Option Addr) (len cap : Nat) (l : List UInt8) (n : Int) (w : World) (hb : IsBytes w a len cap l) (hl : l.length ≤ 140737488351232) :
    Calls Try.prog 88 #[.slice a len cap, .int .i64 n] w fun e w' => ∃ v, e = .returned v ∧ w'.ownsRow w.heap.size 5 1 v (l.length + (numB (cl n)).length) (bcells (l ++ numB (cl n))) ∧ Below w.heap.size w w' := by
  obtain ⟨rfl, hlc, hcm⟩ := hb.len
  have hc := cl_le n
  have HC := hid (cl_eq n)
  generalize cl n = c at *
  have hw := wd_max hc
  have HW := hid (fun w => width_any c w hc)
  have HP := hid (fun (h : 248 ≤ c) => wd_pos (n := c) (by omega))
  have HN : Hid (numB c = if c < 248 then [UInt8.ofNat c] else UInt8.ofNat (247 + wd c) :: beB (wd c) c) := rfl
  generalize wd c = k at *
  have hmk := run_make_1 (P := Try.prog) 24 5 Try.underlying24 info_u8 rfl l.length (l.length + 1 + k) (by omega) (by omega) (by unfold maxLen; omega)
  rw [show ((l.length + 1 + k : Nat) : Int) = (l.length : Int) + 1 + (k : Int) by omega] at hmk
  have HB := hid hb; clear hb
  go_enter Try.func88, Try.ntmps88
  go_upto_region 2 with (fail)
  rw [HC.out]
  go_upto_region 3 with (go_at_call 118; refine (HW.out _).mono ?_; rintro e w' ⟨rfl, rfl⟩)
  go_wp2_with (with_reducible refine wpList_copy_splice rfl (.tmp 21) (.tmp 22) 24 24 rfl 5 Try.underlying24 (by kernel_rfl) _ _ _ _ _ _ rfl rfl w.heap.size 0 (List.replicate (l.length+1+k) (.int .u8 0)) 5 ?c1 (bcells l) ?c2 ?c3 ?c4 (bcells_one l) w.heap.size w ?c5 (Nat.le_refl _) ?_)
  case c1 => simpa using heap_alloc_new w _
  case c2 => simp [bcells]
  case c3 => exact HB.out.src ((Below.refl _ _).alloc (Nat.le_refl _) _)
  case c4 => simp [bcells]; omega
  case c5 => exact (Below.refl _ _).alloc (Nat.le_refl _) _
  intro w2 HG2 hB2
  have HO1 := hid (own_of_splice HG2.out (Nat.le_refl _) (bcells_length l) (by omega) (by unfold maxLen; omega))
  have HB2 := hid hB2
  have hsz := hB2.size
  clear hmk hB2
  by_cases h8 : c < 248
  · rw [if_pos h8] at HN
    have hc8 : (c : Int) < 248 := by omega
    have HT : Hid (bcells (l ++ [UInt8.ofNat c]) = bcells l ++ [.int .u8 (c : Int)]) := hid (by rw [bcells_append]; simp [bcells]; omega)
    go_wp2_with (at_builtin; refine wpList_append_1 (W := w) rfl (.tmp 26) (.tmp 29) 24 rfl w.heap.size 5 Try.underlying24 info_u8 rfl (by omega) rfl HO1.out rfl rfl (by simp; rfl) ?c1 ?c2 hsz HB2.out ?_)
    case c1 => unfold maxLen; omega
    case c2 => omega
    intro v' w' h2 h3 h4
    have HO2 := hid h2
    clear h2
    go_wp2
    go_ret
    exact ⟨_, rfl, by rw [HN.out, HT.out]; exact HO2.out, h3⟩
  · rw [if_neg h8] at HN
    have hc8 : (248 : Int) ≤ c := by omega
    have hk := HP.out (by omega)
    have HT : Hid (bcells (l ++ [UInt8.ofNat (247 + k)]) = bcells l ++ [.int .u8 (247 + (k : Int))]) := hid (by rw [bcells_append]; simp [bcells]; omega)
    go_wp2_with (at_builtin; refine wpList_append_1 (W := w) rfl (.tmp 31) (.tmp 35) 24 rfl w.heap.size 5 Try.underlying24 info_u8 rfl (by omega) rfl HO1.out rfl rfl (by simp; rfl) ?c1 ?c2 hsz HB2.out ?_)
    case c1 => unfold maxLen; omega
    case c2 => omega
    intro v' w' h2 h3 h4
    have HO2 : Hid (w'.ownsRow w.heap.size 5 1 v' (l.length + 1) (bcells (l ++ [UInt8.ofNat (247 + k)]))) := hid (by rw [HT.out]; exact h2)
    clear h2 HT HO1 HB2 h4
    go_wp2
    go_loopw [6, 7] (fun v i wr => ∃ (m : Nat) (pre : List UInt8), m ≤ k ∧ i = .int .i64 ((m : Int) - 1) ∧ Hid (pre ++ beB m c = l ++ UInt8.ofNat (247 + k) :: beB k c) ∧ pre.length = l.length + 1 + (k - m) ∧ Hid (wr.ownsRow w.heap.size 5 1 v pre.length (bcells pre)) ∧ Hid (Below w.heap.size w wr)) (fun _ i _ => (intOf i + 1).toNat)
    case atStart => exact ⟨k, l ++ [UInt8.ofNat (247 + k)], Nat.le_refl _, rfl, by simp [Hid], by simp, by simpa using HO2, h3⟩
    case round =>
      obtain ⟨m, pre, hm, rfl, HE, hpl, HO, HBr⟩ := hrel
      clear HO2 h3
      rcases Nat.eq_zero_or_pos m with h0 | h0
      · subst h0
        have hneg : decide ((0 : Int) ≤ (((0 : Nat) : Int) - 1)) = false := by simp
        go_wp2
        go_ret
        have hE : pre = l ++ UInt8.ofNat (247 + k) :: beB k c := by have := HE.out; simpa [beB] using this
        exact ⟨_, rfl, by rw [HN.out, ← hE, ← List.length_append]; have h := HO.out; rw [hE] at h ⊢; exact h, HBr.out⟩
      · obtain ⟨t, rfl⟩ : ∃ t, m = t + 1 := ⟨m - 1, by omega⟩
        rw [show (((t + 1 : Nat) : Int) - 1) = (t : Int) by omega]
        have ht7 : t < 7 := by omega
        have HT : Hid (bcells (pre ++ [UInt8.ofNat (c / 256 ^ t % 256)]) = bcells pre ++ [.int .u8 ((c : Int) / 2 ^ (8 * t) % 256)]) := hid (by
          rw [bcells_append]
          have : ((c : Int) / 2 ^ (8 * t) % 256) = ((c / 256 ^ t % 256 : Nat) : Int) := by
            rw [pow_256]
            simp
          rw [this]
          simp [bcells])
        have HE2 : Hid ((pre ++ [UInt8.ofNat (c / 256 ^ t % 256)]) ++ beB t c = l ++ UInt8.ofNat (247 + k) :: beB k c) := hid (by
          rw [← HE.out, beB]
          simp)
        clear HE
        go_wp2_with (at_builtin; refine wpList_append_1 (W := w) rfl (.tmp 43) (.tmp 49) 24 rfl w.heap.size 5 Try.underlying24 info_u8 rfl (by omega) rfl HO.out rfl rfl (by simp; rfl) ?c1 ?c2 HBr.out.size HBr.out ?_)
        case c1 => unfold maxLen; omega
        case c2 => omega
        intro v'' w'' h2 h3 h4
        have HO3 := hid h2
        clear h2
        go_wp2
        go_roundw
        case rel => exact ⟨t, pre ++ [UInt8.ofNat (c / 256 ^ t % 256)], by omega, rfl, HE2, by simp; omega, by rw [Hid, HT.out, List.length_append, hpl]; exact HO3.out, h3⟩
        case measure => simp [intOf]

theorem text_len (s : ByteArray) : (⟨s.data.toList.toArray⟩ : ByteArray) = s := by apply ByteArray.ext; simp

set_option maxHeartbeats 1000000 in
theorem text_any (a : Option Addr) (len cap : Nat) (l : List UInt8) (s : ByteArray) (w : World) (hb : IsBytes w a len cap l) (hl : l.length ≤ 100000) (hs : s.size ≤ 100000) :
    Calls Try.prog 90 #[.slice a len cap, .string s] w fun e w' => ∃ v, e = .returned v ∧ w'.ownsRow w.heap.size 5 1 v (l.length + (numB s.size).length + s.size) (bcells (l ++ numB s.size ++ s.data.toList)) ∧ Below w.heap.size w w' := by
  have HN := hid (num_any a len cap l (s.size : Nat) w hb (by omega))
  rw [show cl ((s.size : Nat) : Int) = s.size by unfold cl; omega] at HN
  have hnl := numB_length s.size (by omega)
  clear hb
  generalize numB s.size = nb at *
  go_enter Try.func90, Try.ntmps90
  go_wp2_with fail
  refine HN.out.mono ?_
  rintro e w1 ⟨v, rfl, ho, hb⟩
  have HO := hid ho
  have HB := hid hb
  clear ho hb
  obtain ⟨i, hi, hz0, hsz, hby⟩ := info_parts info_u8
  go_wp2_with (at_builtin; refine Lib.wpList_append_own_string _ rfl (.tmp 8) (.tmp 9) 24 9 rfl w.heap.size 5 i Try.underlying24 Try.underlying9 hi hz0 hsz hby _ _ _ rfl HO.out _ rfl ?c1 ?c2 HB.out.size ?_)
  case c1 => unfold maxLen; omega
  case c2 => omega
  intro v' w' h2 h3 _
  have HB2 := hid (below_grown HB.out HO.out h3 HB.out.size)
  have HO2 : Hid (w'.ownsRow w.heap.size 5 1 v' (l.length + nb.length + s.size) (bcells (l ++ nb ++ s.data.toList))) := hid (by
    rw [bcells_append]
    have e : Lib.strCells s = bcells s.data.toList := by simp [Lib.strCells, bcells]
    rw [← e]
    exact h2)
  clear h2 h3
  go_wp2
  go_ret
  exact ⟨_, rfl, HO2.out, HB2.out⟩
end Go.Proofs.Ytkepfkfoblocgaa
