/- glyph.Name: contract. -/
import Derived.Test.YtjkaenjegcojhaaDoorGlyN
namespace Go.Proofs.YtjkaenjegcojhaaDoor
open Go.RowKit
set_option linter.unusedVariables false
set_option linter.unusedSimpArgs false

theorem gN_step (n : Nat) (r : Rn) (rs : List Rn) : gN n (r :: rs) = if ¬ LetP (r.2.1 : Int) ∨ (n = 0 ∧ DigP (r.2.1 : Int)) ∨ n = 16 then false else gN (n + 1) rs := rfl

set_option maxRecDepth 20000 in
set_option maxHeartbeats 4000000 in
theorem name_is (l : List UInt8) (hl : l.length ≤ 1000) (w : World) : Calls Tryd.prog 23 #[.string (str l)] w fun e w' => e = .returned (.bool (gN 0 (rns l 0))) ∧ Below w.heap.size w w' := by
  have HSZ := hid (str_size l)
  generalize hs : str l = s at *
  have HS := hid hs
  clear hs
  go_enter Tryd.func23, Tryd.ntmps23
  go_wp2
  go_loopw [3] (fun n w' => ∃ (pos c : Nat), w' = w.iter s pos ∧ n = .int .i64 (c : Int) ∧ c ≤ 16 ∧ Hid (gN c (rns l pos) = gN 0 (rns l 0))) (fun _ w' => s.size - w'.iterPos w.heap.size)
  case atStart => exact ⟨0, 0, rfl, rfl, by omega, rfl⟩
  case round =>
    obtain ⟨pos, c, rfl, rfl, hc, HG⟩ := hrel
    by_cases hp : pos < s.size
    · have hpl : pos < l.length := by have := HSZ.out; omega
      have hdc : Utf8.decode s pos = (codeN (l.drop pos) (szN (l.drop pos)), max (szN (l.drop pos)) 1) := by
        rw [← HS.out, decode_drop, dec_sz _ (by rw [List.length_drop]; omega)]
      have hnx : ∀ ty, (Instr.next (.pointer (some ⟨w.heap.size, 0, none⟩)) true ty).run Tryd.prog (w.iter s pos) = .ok (.tuple #[.bool true, .int .i64 (pos : Int), .int .i32 ((codeN (l.drop pos) (szN (l.drop pos)) : Nat) : Int)]) (w.iter s (pos + max (szN (l.drop pos)) 1)) := fun ty => by
        rw [run_next_any w s pos ty hp, hdc]
      have hwd : 1 ≤ max (szN (l.drop pos)) 1 := szN_1 _
      have hst := rns_step l pos hpl
      have HG2 : Hid ((if ¬ LetP ((codeN (l.drop pos) (szN (l.drop pos)) : Nat) : Int) ∨ (c = 0 ∧ DigP ((codeN (l.drop pos) (szN (l.drop pos)) : Nat) : Int)) ∨ c = 16 then false else gN (c + 1) (rns l (pos + max (szN (l.drop pos)) 1))) = gN 0 (rns l 0)) := hid (by
        rw [← HG.out, hst, gN_step])
      clear hdc hst HG
      generalize max (szN (l.drop pos)) 1 = mm at *
      generalize codeN (l.drop pos) (szN (l.drop pos)) = cc at *
      have HL := hid (fun W => letter_is (cc : Int) W)
      have HD := hid (fun W => digit_is (cc : Int) W)
      by_cases hL : LetP (cc : Int)
      · rw [decide_eq_true hL] at HL
        by_cases h16 : c = 16
        · subst h16
          have HE := hid (show gN 0 (rns l 0) = false by rw [← HG2.out, if_pos (.inr (.inr rfl))])
          clear HG2 hL
          go_wp2_with (first
            | (go_at_call 36; refine (HL.out _).mono ?_; rintro e w' ⟨rfl, rfl⟩)
            | (go_at_call 37; refine (HD.out _).mono ?_; rintro e w' ⟨rfl, rfl⟩))
          go_ret
          exact ⟨by rw [HE.out]; rfl, (Below.refl _ _).alloc (Nat.le_refl _) _⟩
        · have z16 : ((c : Int) == 16) = false := by rw [beq_eq_false_iff_ne]; omega
          rcases Nat.eq_zero_or_pos c with hc0 | hc0
          · subst hc0
            by_cases hD : DigP (cc : Int)
            · rw [decide_eq_true hD] at HD
              have HE := hid (show gN 0 (rns l 0) = false by rw [← HG2.out, if_pos (.inr (.inl ⟨rfl, hD⟩))])
              clear HG2 hL hD
              go_wp2_with (first
                | (go_at_call 36; refine (HL.out _).mono ?_; rintro e w' ⟨rfl, rfl⟩)
                | (go_at_call 37; refine (HD.out _).mono ?_; rintro e w' ⟨rfl, rfl⟩))
              go_ret
              exact ⟨by rw [HE.out]; rfl, (Below.refl _ _).alloc (Nat.le_refl _) _⟩
            · rw [decide_eq_false hD] at HD
              have HE := hid (show gN 1 (rns l (pos + mm)) = gN 0 (rns l 0) by rw [← HG2.out, if_neg (by rintro (h | h | h); exact h hL; exact hD h.2; omega)])
              clear HG2 hL hD
              go_wp2_with (first
                | (go_at_call 36; refine (HL.out _).mono ?_; rintro e w' ⟨rfl, rfl⟩)
                | (go_at_call 37; refine (HD.out _).mono ?_; rintro e w' ⟨rfl, rfl⟩))
              refine ⟨⟨_, 1, rfl, rfl, by omega, HE.out⟩, ?_⟩
              rw [World.iterPos_iter, World.iterPos_iter]
              omega
          · have z0 : ((c : Int) == 0) = false := by rw [beq_eq_false_iff_ne]; omega
            have HE := hid (show gN (c + 1) (rns l (pos + mm)) = gN 0 (rns l 0) by rw [← HG2.out, if_neg (by rintro (h | h | h); exact h hL; omega; exact h16 h)])
            have hc15 : c + 1 ≤ 16 := by omega
            clear HG2 hL h16
            go_wp2_with (first
              | (go_at_call 36; refine (HL.out _).mono ?_; rintro e w' ⟨rfl, rfl⟩)
              | (go_at_call 37; refine (HD.out _).mono ?_; rintro e w' ⟨rfl, rfl⟩))
            refine ⟨⟨_, c + 1, rfl, by go_num, by omega, HE.out⟩, ?_⟩
            rw [World.iterPos_iter, World.iterPos_iter]
            omega
      · rw [decide_eq_false hL] at HL
        have HE := hid (show gN 0 (rns l 0) = false by rw [← HG2.out, if_pos (.inl hL)])
        clear HG2 hL
        go_wp2_with (first
          | (go_at_call 36; refine (HL.out _).mono ?_; rintro e w' ⟨rfl, rfl⟩)
          | (go_at_call 37; refine (HD.out _).mono ?_; rintro e w' ⟨rfl, rfl⟩))
        go_ret
        exact ⟨by rw [HE.out]; rfl, (Below.refl _ _).alloc (Nat.le_refl _) _⟩
    · have hnx : ∀ ty, (Instr.next (.pointer (some ⟨w.heap.size, 0, none⟩)) true ty).run Tryd.prog (w.iter s pos) = _ := fun ty => run_next_end w s pos ty hp
      have HE := hid (show decide (0 < c) = gN 0 (rns l 0) by rw [← HG.out, rns_end l pos (by have := HSZ.out; omega)]; rfl)
      rcases Nat.eq_zero_or_pos c with hc0 | hc0
      · subst hc0
        clear HG
        go_wp2
        go_ret
        exact ⟨by rw [← HE.out]; rfl, (Below.refl _ _).alloc (Nat.le_refl _) _⟩
      · have e1 : decide ((0 : Int) < (c : Int)) = true := decide_eq_true (by omega)
        have HE2 := hid (show gN 0 (rns l 0) = true by rw [← HE.out]; exact decide_eq_true hc0)
        clear HG HE
        go_wp2
        go_ret
        exact ⟨by rw [HE2.out]; rfl, (Below.refl _ _).alloc (Nat.le_refl _) _⟩
end Go.Proofs.YtjkaenjegcojhaaDoor
