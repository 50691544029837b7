/- First: contract. -/
import Derived.Test.YtjkaenjegcojhaaDoorGlyD
import Derived.Laws.Strings
import Derived.Deep.QuietTactic
import Derived.BigQuiet
namespace Go.Proofs.YtjkaenjegcojhaaDoor
open Go.RowKit
set_option linter.unusedVariables false
set_option linter.unusedSimpArgs false

theorem szN_range (l : List UInt8) : szN l = 0 ∨ szN l = 1 ∨ (szN l = 2 ∧ 194 ≤ nb l 0 ∧ 2 ≤ l.length ∧ contN l 1) ∨ (szN l = 3 ∧ 224 ≤ nb l 0 ∧ 3 ≤ l.length ∧ contN l 1 ∧ contN l 2) ∨ (szN l = 4 ∧ 240 ≤ nb l 0 ∧ nb l 0 < 245 ∧ 4 ≤ l.length ∧ contN l 1 ∧ contN l 2 ∧ contN l 3) := by
  unfold szN
  split
  · exact .inr (.inl rfl)
  · split
    · exact .inl rfl
    · rename_i h2
      split
      · rename_i h3
        split
        · exact .inl rfl
        · unfold leadN at *
          split
          · rename_i h4
            rw [if_pos h4] at h2 h3
            exact .inr (.inr (.inl ⟨rfl, h4.1, by omega, h3 1 (by omega) (by omega)⟩))
          · rename_i h4
            rw [if_neg h4] at h2 h3
            split
            · rename_i h5
              rw [if_pos h5] at h2 h3
              exact .inr (.inr (.inr (.inl ⟨rfl, h5.1, by omega, h3 1 (by omega) (by omega), h3 2 (by omega) (by omega)⟩)))
            · rename_i h5
              rw [if_neg h5] at h2 h3
              split
              · rename_i h6
                rw [if_pos h6] at h2 h3
                exact .inr (.inr (.inr (.inr ⟨rfl, h6.1, h6.2, by omega, h3 1 (by omega) (by omega), h3 2 (by omega) (by omega), h3 3 (by omega) (by omega)⟩)))
              · exact .inl rfl
      · exact .inl rfl

set_option maxRecDepth 20000 in
set_option maxHeartbeats 8000000 in
theorem rfirst_is (l : List UInt8) (h : 0 < l.length) (hl : l.length ≤ 1000) (W : World) : Calls Tryd.prog 32 #[.string (str l)] W fun e w' => e = .returned (.tuple #[.int .i64 (codeN l (szN l) : Nat), .int .i64 ((max (szN l) 1 : Nat) : Int)]) ∧ ∃ q, w' = W.drewN q := by
  have HR := hid (rsize_is l h hl W)
  have i0 : ∀ w, (Instr.index 9 (.string (str l)) (.int .i64 0)).run Tryd.prog w = .ok (.int .u8 (nb l 0 : Int)) w := fun w => at_nb l 0 h w
  have HI := hid (fun k hk w => at_nb l k hk w)
  have b0 := nb_lt l 0
  have b1 := nb_lt l 1
  have b2 := nb_lt l 2
  have b3 := nb_lt l 3
  rcases szN_range l with hz | hz | ⟨hz, h0, hn, h1⟩ | ⟨hz, h0, hn, h1, h2⟩ | ⟨hz, h0, h5, hn, h1, h2, h3⟩
  · rw [hz] at HR ⊢
    have HC := hid (codeN_0 l)
    clear hz HI
    go_enter Tryd.func32, Tryd.ntmps32
    go_wp2_with fail
    refine HR.out.mono ?_
    rintro e w' ⟨rfl, rfl⟩
    go_wp2
    go_ret2
    exact ⟨by rw [HC.out]; rfl, 0, rfl⟩
  · rw [hz] at HR ⊢
    have HC := hid (codeN_1 l)
    clear hz HI
    generalize nb l 0 = c0 at *
    have w0 : IntKind.i64.wrap (c0 : Int) = (c0 : Int) := by simp [IntKind.wrap, IntKind.bits, IntKind.signed]; omega
    go_enter Tryd.func32, Tryd.ntmps32
    go_wp2_with fail
    refine HR.out.mono ?_
    rintro e w' ⟨rfl, rfl⟩
    go_wp2
    go_ret2
    exact ⟨by rw [HC.out]; rfl, 0, rfl⟩
  · rw [hz] at HR ⊢
    have HC := hid (show (codeN l 2 : Int) = ((nb l 0 : Int) - 192) * 64 + (nb l 1 : Int) - 128 by unfold contN at h1; rw [codeN_2]; omega)
    have i1 : ∀ w, (Instr.index 9 (.string (str l)) (.int .i64 1)).run Tryd.prog w = .ok (.int .u8 (nb l 1 : Int)) w := fun w => at_nb l 1 (by omega) w
    clear hz HI h1
    generalize nb l 0 = c0 at *
    generalize nb l 1 = c1 at *
    have w0 : IntKind.i64.wrap (c0 : Int) = (c0 : Int) := by simp [IntKind.wrap, IntKind.bits, IntKind.signed]; omega
    have w1 : IntKind.i64.wrap (c1 : Int) = (c1 : Int) := by simp [IntKind.wrap, IntKind.bits, IntKind.signed]; omega
    go_enter Tryd.func32, Tryd.ntmps32
    go_wp2_with fail
    refine HR.out.mono ?_
    rintro e w' ⟨rfl, rfl⟩
    go_wp2
    go_ret2
    exact ⟨by rw [HC.out]; rfl, 0, rfl⟩
  · rw [hz] at HR ⊢
    have HC := hid (show (codeN l 3 : Int) = ((nb l 0 : Int) - 224) * 4096 + ((nb l 1 : Int) - 128) * 64 + (nb l 2 : Int) - 128 by unfold contN at h1 h2; rw [codeN_3]; omega)
    have i1 : ∀ w, (Instr.index 9 (.string (str l)) (.int .i64 1)).run Tryd.prog w = .ok (.int .u8 (nb l 1 : Int)) w := fun w => at_nb l 1 (by omega) w
    have i2 : ∀ w, (Instr.index 9 (.string (str l)) (.int .i64 2)).run Tryd.prog w = .ok (.int .u8 (nb l 2 : Int)) w := fun w => at_nb l 2 (by omega) w
    clear hz HI h1 h2
    generalize nb l 0 = c0 at *
    generalize nb l 1 = c1 at *
    generalize nb l 2 = c2 at *
    have w0 : IntKind.i64.wrap (c0 : Int) = (c0 : Int) := by simp [IntKind.wrap, IntKind.bits, IntKind.signed]; omega
    have w1 : IntKind.i64.wrap (c1 : Int) = (c1 : Int) := by simp [IntKind.wrap, IntKind.bits, IntKind.signed]; omega
    have w2 : IntKind.i64.wrap (c2 : Int) = (c2 : Int) := by simp [IntKind.wrap, IntKind.bits, IntKind.signed]; omega
    go_enter Tryd.func32, Tryd.ntmps32
    go_wp2_with fail
    refine HR.out.mono ?_
    rintro e w' ⟨rfl, rfl⟩
    go_wp2
    go_quiet (fail)
    go_wp2
    go_ret2
    exact ⟨by rw [HC.out]; rfl, _, rfl⟩
  · rw [hz] at HR ⊢
    have HC := hid (show (codeN l 4 : Int) = ((nb l 0 : Int) - 240) * 262144 + ((nb l 1 : Int) - 128) * 4096 + ((nb l 2 : Int) - 128) * 64 + (nb l 3 : Int) - 128 by unfold contN at h1 h2 h3; rw [codeN_4]; omega)
    have i1 : ∀ w, (Instr.index 9 (.string (str l)) (.int .i64 1)).run Tryd.prog w = .ok (.int .u8 (nb l 1 : Int)) w := fun w => at_nb l 1 (by omega) w
    have i2 : ∀ w, (Instr.index 9 (.string (str l)) (.int .i64 2)).run Tryd.prog w = .ok (.int .u8 (nb l 2 : Int)) w := fun w => at_nb l 2 (by omega) w
    have i3 : ∀ w, (Instr.index 9 (.string (str l)) (.int .i64 3)).run Tryd.prog w = .ok (.int .u8 (nb l 3 : Int)) w := fun w => at_nb l 3 (by omega) w
    clear hz HI h1 h2 h3
    generalize nb l 0 = c0 at *
    generalize nb l 1 = c1 at *
    generalize nb l 2 = c2 at *
    generalize nb l 3 = c3 at *
    have w0 : IntKind.i64.wrap (c0 : Int) = (c0 : Int) := by simp [IntKind.wrap, IntKind.bits, IntKind.signed]; omega
    have w1 : IntKind.i64.wrap (c1 : Int) = (c1 : Int) := by simp [IntKind.wrap, IntKind.bits, IntKind.signed]; omega
    have w2 : IntKind.i64.wrap (c2 : Int) = (c2 : Int) := by simp [IntKind.wrap, IntKind.bits, IntKind.signed]; omega
    have w3 : IntKind.i64.wrap (c3 : Int) = (c3 : Int) := by simp [IntKind.wrap, IntKind.bits, IntKind.signed]; omega
    go_enter Tryd.func32, Tryd.ntmps32
    go_wp2_with fail
    refine HR.out.mono ?_
    rintro e w' ⟨rfl, rfl⟩
    go_wp2
    go_quiet (fail)
    go_wp2
    go_ret2
    exact ⟨by rw [HC.out]; rfl, _, rfl⟩
end Go.Proofs.YtjkaenjegcojhaaDoor
