/- DiskTorn: no disk; the law. -/
import Derived.Test.YtiemkjinibkclaaDiskF
namespace Go.Proofs.Ytiemkjinibkclaa
open Go.RowKit Go.Sort
set_option linter.unusedVariables false
set_option linter.unusedSimpArgs false

set_option maxRecDepth 20000 in
set_option maxHeartbeats 4000000 in
theorem diskTorn_out (room : Int) (hr : room < 0 ∨ 65536 < room) (A : Option Addr) (len cap : Nat) (g : Nat → ActD) (W : World) (hlen : len ≤ 60) (hA : 0 < len → ∃ b off, A = some ⟨b, off, none⟩ ∧ ∀ i, i < len → ActAt W b (off + i * 3) (g i)) :
    Calls Try.prog 6 #[.int .i64 room, .slice A len cap] W fun e w' => e = .returned (.bool true) ∧ Below W.heap.size W w' := by
  have HW := hid works16_any
  have HAC := hid hA
  have HN := hid (dnew_out room hr W)
  have h1 : decide (60 < (len : Int)) = false := decide_eq_false (by omega)
  have h2 : (len : Int) ≤ 60 := by omega
  clear hA hlen hr
  go_enter Try.func6, Try.ntmps6
  go_wp2_with (go_at_call 20; refine HN.out.mono ?_; rintro x w' ⟨rfl, rfl⟩)
  go_loopw [6] (fun iv wr => ∃ k : Nat, k ≤ len ∧ iv = .int .i64 (k : Int) ∧ Hid (Below W.heap.size W wr)) (fun iv _ => len - (intOf iv).toNat)
  case atStart => exact ⟨0, by omega, rfl, Below.refl _ _⟩
  case round =>
    obtain ⟨k, hk, rfl, HB⟩ := hrel
    by_cases hlt : k < len
    · have hlt2 : (k : Int) < (len : Int) := by omega
      have hk0 : (0 : Int) ≤ (k : Int) := by omega
      obtain ⟨b, off, rfl, hact⟩ := HAC.out (by omega)
      have HACT := hid (fun w (hw : Below W.heap.size W w) => (hact k hlt).below hw)
      clear hact
      generalize g k = x at *
      obtain ⟨d, n, Bp, Bc, bl⟩ := x
      obtain ⟨c0, c1, c2, hB⟩ := HACT.out _ HB.out
      simp only at c0 c1 c2 hB
      have hBl := hB.len
      by_cases hlong : 2000 < bl.length
      · have h3 : decide (2000 < (bl.length : Int)) = true := decide_eq_true (by omega)
        have h4 : 2000 < (bl.length : Int) := by omega
        have hmx : bl.length ≤ maxLen := by omega
        unfold maxLen at hmx
        clear hlong hBl hB
        go_wp2_with (go_at_call 19; refine (HW.out _).mono ?_; rintro y w' ⟨rfl, hb9⟩)
        go_ret
        exact ⟨rfl, HB.out.trans (hb9.mono HB.out.size)⟩
      · have h3 : decide (2000 < (bl.length : Int)) = false := decide_eq_false (by omega)
        have h4 : (bl.length : Int) ≤ 2000 := by omega
        have h0c : 0 ≤ Bc := Nat.zero_le _
        have hB0 := hB.take 0 (Nat.zero_le _)
        have hcv3 : ∀ (d : Nat) (os : Array Obj), (convert 39 9 (.slice Bp 0 Bc)).run Try.prog (grow (redrawn wr d) os) = .ok (.string ⟨#[]⟩) (grow (redrawn wr d) os) := fun d os => convS (hB0.below (below_regrown wr d os))
        have HCV3 := hid hcv3
        have hs3 : ∀ w : World, (Instr.slice 39 (.slice Bp bl.length Bc) none (some (.int .i64 0)) none).run Try.prog w = .ok (.slice Bp 0 Bc) w := fun w => run_to Try.underlying39 info_u8 Bp bl.length Bc 0 (Nat.zero_le _) w
        have HS3 := hid hs3
        have hcv : ∀ w : World, (convert 39 9 (.slice none 0 0)).run Try.prog w = .ok (.string ⟨#[]⟩) w := fun w => convS (isBytes_nil w none 0 (Nat.zero_le _))
        clear hlong hBl hB hB0 hcv3 hs3
        rcases Classical.em (d = 0) with hd | hd
        case' inl => have hd1 : (d != 0) = false := by simp [hd]
        case' inr => have hd1 : (d != 0) = true := by simp [hd]
        all_goals
          clear hd
          go_upto_region 16 with (first
            | (go_at_call 28; refine (dbytes0 _).mono ?_; rintro y w' ⟨rfl, rfl⟩)
            | (go_at_call 24; refine (dfuse0 _ _).mono ?_; rintro y w' ⟨⟨v, rfl⟩, rfl⟩)
            | (go_at_call 22; refine (dappend0 _ _).mono ?_; rintro y w' ⟨rfl, rfl⟩))
          replace c2 := cell_regrown c2
          have hcv3 := HCV3.out
          have hs3 := HS3.out
          have e4 : IntKind.i64.wrap 0 = 0 := by simp [IntKind.wrap, IntKind.bits, IntKind.signed]
          clear c0 c1 hcv h3
          refine wp_region_quiet_below (by kernel_rfl) (by kernel_rfl) ?_
          repeat (go_big_quiet_step (fail))
          refine wpQuiet_nil ?_
          intro _ hw'
          obtain ⟨⟨dq, osq⟩, hw''⟩ := hw'
          subst hw''
          have HB7 := hid (HB.out.trans ((below_regrown wr dq osq).mono HB.out.size))
          clear HB hcv3 hs3 c2
          go_wp2
          go_roundw
          case rel => exact ⟨k + 1, by omega, by go_num, HB7.out⟩
          case measure => simp [intOf]; omega
    · have hge : (len : Int) ≤ (k : Int) := by omega
      go_wp2_with (go_at_call 19; refine (HW.out _).mono ?_; rintro y w' ⟨rfl, hb9⟩)
      go_ret
      exact ⟨rfl, HB.out.trans (hb9.mono HB.out.size)⟩

theorem diskTorn_long (room : Int) (A : Option Addr) (len cap : Nat) (W : World) (hlen : 60 < len) (hm : len ≤ maxLen) :
    Calls Try.prog 6 #[.int .i64 room, .slice A len cap] W fun e w' => e = .returned (.bool true) ∧ Below W.heap.size W w' := by
  have HW := hid works16_any
  have h1 : decide (60 < (len : Int)) = true := decide_eq_true (by omega)
  have h2 : 60 < (len : Int) := by omega
  unfold maxLen at hm
  clear hlen
  go_enter Try.func6, Try.ntmps6
  go_wp2_with (go_at_call 19; refine (HW.out _).mono ?_; rintro y w' ⟨rfl, hb9⟩)
  go_ret
  exact ⟨rfl, hb9⟩
theorem diskTorn_law (room : Int) (A : Option Addr) (len cap : Nat) (W : World) (h : Rd Try.prog W 38 [.slice A len cap]) :
    Calls Try.prog 6 #[.int .i64 room, .slice A len cap] W fun e w' => e = .returned (.bool true) ∧ Below W.heap.size W w' := by
  obtain ⟨h1, h2, g, hg⟩ := acts_open h
  by_cases hl : 60 < len
  · exact diskTorn_long room A len cap W hl (by omega)
  by_cases hr : room < 0 ∨ 65536 < room
  · exact diskTorn_out room hr A len cap g W (by omega) hg
  · obtain ⟨n, rfl⟩ : ∃ n : Nat, room = n := ⟨room.toNat, by omega⟩
    exact diskTorn_in n (by omega) A len cap g W (by omega) hg
end Go.Proofs.Ytiemkjinibkclaa
