/- DiskPlays: the rooms out of range, the long lists; the law. -/
import Derived.Test.YtiemkjinibkclaaDiskI
namespace Go.Proofs.Ytiemkjinibkclaa
open Go.RowKit Go.Sort
set_option linter.unusedVariables false
set_option linter.unusedSimpArgs false

set_option maxRecDepth 20000 in
set_option maxHeartbeats 4000000 in
theorem diskPlays_out (room : Int) (hr : room < 0 ∨ 65536 < room) (A : Option Addr) (len cap : Nat) (g : Nat → ActD) (W : World) (hlen : len ≤ 60) (hA : 0 < len → ∃ b off, A = some ⟨b, off, none⟩ ∧ ∀ i, i < len → ActAt W b (off + i * 3) (g i)) :
    Calls Try.prog 5 #[.int .i64 room, .slice A len cap] W fun e w' => e = .returned (.bool true) ∧ Below W.heap.size W w' := by
  have HW := hid works16_any
  have HAC := hid hA
  have HN := hid (dnew_out room hr W)
  have HRN := hid (fun w => rnew_any room w)
  rw [decide_eq_false (show ¬ ((0 : Int) ≤ room ∧ room ≤ 65536) by omega)] at HRN
  have h1 : decide (60 < (len : Int)) = false := decide_eq_false (by omega)
  have h2 : (len : Int) ≤ 60 := by omega
  clear hA hlen hr
  go_enter Try.func5, Try.ntmps5
  go_wp2_with fail
  go_loop [5] (fun iv => ∃ k : Nat, k ≤ len ∧ iv = .int .i64 (k : Int)) (fun iv => len - (intOf iv).toNat)
  case atStart => exact ⟨0, by omega, rfl⟩
  case round =>
    obtain ⟨k, hk, rfl⟩ := hrel
    by_cases hlt : k < len
    · have hlt2 : (k : Int) < (len : Int) := by omega
      have hk0 : (0 : Int) ≤ (k : Int) := by omega
      obtain ⟨b, off, rfl, hact⟩ := HAC.out (by omega)
      obtain ⟨c0, c1, c2, hB⟩ := hact k hlt
      have hBl := hB.len
      clear hact c0 c1
      generalize g k = x at *
      obtain ⟨d, n, Bp, Bc, bl⟩ := x
      simp only at c2 hB hBl
      by_cases hlong : 2000 < bl.length
      · have h3 : decide (2000 < (bl.length : Int)) = true := decide_eq_true (by omega)
        have h4 : 2000 < (bl.length : Int) := by omega
        have hmx : bl.length ≤ maxLen := by omega
        unfold maxLen at hmx
        clear hlong hBl hB
        go_wp2_with (go_at_call 19; refine (HW.out _).mono ?_; rintro y w' ⟨rfl, hb9⟩)
        go_ret
        exact ⟨rfl, hb9⟩
      · have h3 : decide (2000 < (bl.length : Int)) = false := decide_eq_false (by omega)
        have h4 : (bl.length : Int) ≤ 2000 := by omega
        clear hlong hBl hB
        go_wp2
        go_round
        case rel => exact ⟨k + 1, by omega, by go_num⟩
        case measure => simp [intOf]; omega
    · obtain rfl : k = len := by omega
      have hge : ¬ (k : Int) < (k : Int) := by omega
      clear hlt hk hge HAC
      go_wp2_with fail
      refine HN.out.mono ?_
      rintro y w1 ⟨rfl, rfl⟩
      clear HN
      go_wp2_with fail
      refine (HRN.out _).mono ?_
      rintro y w2 ⟨rfl, hb2⟩
      have HB := hid hb2
      clear hb2 HRN
      go_wp2
      go_loopw [6, 9] (fun dv iv wr => iv = .int .i64 0 ∧ Hid (Below W.heap.size W wr)) (fun _ iv _ => 0)
      case atStart => exact ⟨rfl, HB.out.alloc HB.out.size _⟩
      case round =>
        obtain ⟨rfl, HS⟩ := hrel
        clear HB
        rcases (by omega : 0 < k ∨ k = 0) with hp | hp
        case' inl =>
          have e1 : (0 : Int) < (k : Int) := by omega
          have e2 : decide ((0 : Int) < (k : Int)) = true := decide_eq_true e1
        case' inr =>
          have e1 : (k : Int) ≤ 0 := by omega
          have e2 : decide ((0 : Int) < (k : Int)) = false := decide_eq_false (by omega)
        all_goals
          clear hp
          go_wp2_with (first
            | (go_at_call 24; refine (dfuse0 _ _).mono ?_; rintro y w' ⟨⟨v, rfl⟩, rfl⟩)
            | (go_at_call 22; refine (dappend0 _ _).mono ?_; rintro y w' ⟨rfl, rfl⟩)
            | (go_at_call 25; refine (dcut0 _ _).mono ?_; rintro y w' ⟨rfl, rfl⟩)
            | (go_at_call 28; refine (dbytes0 _).mono ?_; rintro y w' ⟨rfl, rfl⟩)
            | (go_at_call 29; refine (dsize0 _).mono ?_; rintro y w' ⟨rfl, rfl⟩)
            | (go_at_call 30; refine (dfree0 _).mono ?_; rintro y w' ⟨rfl, rfl⟩)
            | (go_at_call 27; refine (dclone0 _).mono ?_; rintro y w' ⟨rfl, rfl⟩)
            | (go_at_call 19; refine (HW.out _).mono ?_; rintro y w' ⟨rfl, hb9⟩))
          go_ret
          exact ⟨rfl, HS.out.trans (hb9.mono HS.out.size)⟩

theorem diskPlays_long (room : Int) (A : Option Addr) (len cap : Nat) (W : World) (hlen : 60 < len) (hm : len ≤ maxLen) :
    Calls Try.prog 5 #[.int .i64 room, .slice A len cap] W fun e w' => e = .returned (.bool true) ∧ Below W.heap.size W w' := by
  have HW := hid works16_any
  have h1 : decide (60 < (len : Int)) = true := decide_eq_true (by omega)
  have h2 : 60 < (len : Int) := by omega
  unfold maxLen at hm
  clear hlen
  go_enter Try.func5, Try.ntmps5
  go_wp2_with (go_at_call 19; refine (HW.out _).mono ?_; rintro y w' ⟨rfl, hb9⟩)
  go_ret
  exact ⟨rfl, hb9⟩
theorem diskPlays_law (room : Int) (A : Option Addr) (len cap : Nat) (W : World) (h : Rd Try.prog W 38 [.slice A len cap]) :
    Calls Try.prog 5 #[.int .i64 room, .slice A len cap] W fun e w' => e = .returned (.bool true) ∧ Below W.heap.size W w' := by
  obtain ⟨h1, h2, g, hg⟩ := acts_open h
  by_cases hl : 60 < len
  · exact diskPlays_long room A len cap W hl (by omega)
  by_cases hr : room < 0 ∨ 65536 < room
  · exact diskPlays_out room hr A len cap g W (by omega) hg
  · obtain ⟨n, rfl⟩ : ∃ n : Nat, room = n := ⟨room.toNat, by omega⟩
    exact diskPlays_in n (by omega) A len cap g W (by omega) hg
end Go.Proofs.Ytiemkjinibkclaa
