/- frame.All and the document's All, as contracts. -/
import Derived.Test.YtdjcfeglaiihgaaFrmI
import Derived.Test.YtdjcfeglaiihgaaStrC
import Derived.Test.YtdjcfeglaiihgaaSlice
namespace Go.Proofs.Ytdjcfeglaiihgaa
open Go.RowKit
set_option linter.unusedVariables false
set_option linter.unusedSimpArgs false

/-- 'b[g:]' reads as what is left. -/
theorem slice_from {W : World} {a : Option Addr} {cap : Nat} {l : List UInt8} (h : IsBytes W a l.length cap l) (g : Nat) (hg : g ≤ l.length) :
    ∃ A c, (∀ w : World, (Instr.slice 34 (.slice a l.length cap) (some (.int .i64 (g : Int))) none none).run Try.prog w = .ok (.slice A (l.length - g) c) w) ∧ IsBytes W A (l.length - g) c (l.drop g) := by
  obtain ⟨_, hlc, hcm⟩ := h.len
  refine ⟨_, _, run_from Try.underlying34 info_u8 a l.length cap g hg, ?_⟩
  have := Sl.drop h g hg
  rw [IsBytes]
  simpa [bcells] using this
theorem all_bounds (l : List UInt8) {acc : List (List UInt8)} {g : Nat} (h : AllAt l acc g) : acc.length ≤ l.length ∧ g ≤ l.length := ⟨Nat.le_trans h.2.2.2 h.2.2.1, h.2.2.1⟩

set_option maxRecDepth 20000 in
set_option maxHeartbeats 1000000 in
theorem all_any (a : Option Addr) (len cap : Nat) (l : List UInt8) (W : World) (hb : IsBytes W a len cap l) (hl : l.length ≤ 100000) :
    Calls Try.prog 22 #[.slice a len cap] W fun x w' => ∃ A c, x = .returned (.tuple #[.slice A (allS l).1.length c, .int .i64 ((allS l).2 : Nat)]) ∧ w'.ownsRow W.heap.size 9 1 (.slice A (allS l).1.length c) (allS l).1.length (scells (allS l).1) ∧ Below W.heap.size W w' := by
  obtain ⟨rfl, hlc, hcm⟩ := hb.len
  have HM := hid hb
  clear hb hlc hcm
  go_enter Try.func22, Try.ntmps22
  go_wp2
  go_loopw [2, 3] (fun v i wr => ∃ (acc : List (List UInt8)) (g : Nat), g ≤ l.length ∧ i = .int .i64 (g : Int) ∧ Hid (AllAt l acc g) ∧ Hid (wr.ownsRow W.heap.size 9 1 v acc.length (scells acc)) ∧ Hid (Below W.heap.size W wr)) (fun _ i _ => l.length - (intOf i).toNat)
  case atStart => exact ⟨[], 0, by omega, rfl, AllAt.start l, World.ownsRow_nil _ _ _ _, Below.refl _ _⟩
  case round =>
    obtain ⟨acc, g, hg, rfl, HA, HO, HB⟩ := hrel
    obtain ⟨A, c, hrun, hA⟩ := slice_from HM.out g hg
    have hz := all_bounds l HA.out
    have HC := hid (cut_any A _ c (l.drop g) wr (hA.below HB.out) (by rw [List.length_drop]; omega))
    have HN : Hid ((cutS (l.drop g)).2.2 = 0 → AllAt l (acc ++ [(cutS (l.drop g)).1]) (g + (cutS (l.drop g)).2.1) ∧ 5 ≤ (cutS (l.drop g)).2.1 ∧ g + (cutS (l.drop g)).2.1 ≤ l.length) := hid (fun h => ⟨HA.out.next h, (cutS_used _ h).1, by have := (cutS_used _ h).2.1; rw [List.length_drop] at this; omega⟩)
    have HS : Hid ((cutS (l.drop g)).2.2 ≠ 0 → allS l = (acc, g)) := hid (fun h => HA.out.stop h)
    generalize cutS (l.drop g) = cv at HC HN HS
    obtain ⟨p, u, e⟩ := cv
    simp only at HC HN HS
    clear hA
    go_wp2_with fail
    refine HC.out.mono ?_
    rintro x w2 ⟨rfl, hb2⟩
    have HB2 := hid (HB.out.trans (hb2.mono HB.out.size))
    have HO2 := hid (own_keep HO.out hb2)
    clear hb2 HC
    by_cases he : e = 0
    · subst he
      obtain ⟨n1, n2, n3⟩ := HN.out rfl
      have HN1 := hid n1
      clear n1 HN HS
      go_wp2_with (at_builtin; refine wpList_append_1 (W := W) rfl (.tmp 19) (.tmp 21) 42 rfl W.heap.size 9 Try.underlying42 info_str rfl (by omega) rfl HO2.out rfl rfl (by simp; rfl) ?c1 ?c2 HB2.out.size HB2.out ?_)
      case c1 => unfold maxLen; omega
      case c2 => omega
      · intro v' w' h2 h3 h4
        have HO3 := hid h2; clear h2
        go_wp2
        go_roundw
        case rel => exact ⟨acc ++ [p], g + u, by omega, by go_num, HN1.out, by rw [Hid, List.length_append, scells_append]; exact HO3.out, h3⟩
        case measure => simp [intOf]; omega
    · have hne : (((e : Nat) : Int) != 0) = true := by simp; omega
      have HE := hid (HS.out he)
      clear HN HS he
      go_wp2
      go_ret2
      obtain ⟨A9, c9, rfl, _⟩ := Sl.of_own HO2.out
      rw [HE.out]
      exact ⟨A9, c9, rfl, HO2.out, HB2.out⟩

set_option maxRecDepth 20000 in
set_option maxHeartbeats 1000000 in
theorem rall_any (l : List UInt8) (W : World) (hl : l.length ≤ 100000) :
    Calls Try.prog 23 #[.string (str l)] W fun x w' => ∃ A c, x = .returned (.tuple #[.slice A (allS l).1.length c, .int .i64 ((allS l).2 : Nat)]) ∧ w'.ownsRow W.heap.size 9 1 (.slice A (allS l).1.length c) (allS l).1.length (scells (allS l).1) ∧ Below W.heap.size W w' := by
  have hz0 : (str l).size = l.length := str_size l
  go_enter Try.func23, Try.ntmps23
  go_wp2
  go_loopw [4, 5] (fun v i wr => ∃ (acc : List (List UInt8)) (g : Nat), g ≤ l.length ∧ i = .int .i64 (g : Int) ∧ Hid (AllAt l acc g) ∧ Hid (wr.ownsRow W.heap.size 9 1 v acc.length (scells acc)) ∧ Hid (Below W.heap.size W wr)) (fun _ i _ => l.length - (intOf i).toNat)
  case atStart => exact ⟨[], 0, by omega, rfl, AllAt.start l, World.ownsRow_nil _ _ _ _, Below.refl _ _⟩
  case round =>
    obtain ⟨acc, g, hg, rfl, HA, HO, HB⟩ := hrel
    have hz := all_bounds l HA.out
    by_cases hlt : g < l.length
    · have hlt2 : (g : Int) < (l.length : Int) := by omega
      have hs1 : ∀ w : World, (Instr.slice 9 (.string (str l)) (some (.int .i64 (g : Int))) none none).run Try.prog w = .ok (.string (str (l.drop g))) w := fun w => by
        rw [run_slice_string_l (P := Try.prog) w 9 (str l) Try.underlying9 .i64 (g : Int) (by omega) (by rw [hz0]; omega), Int.toNat_natCast, hz0, str_drop _ _ hg]
      have HC := hid (rcut_any (l.drop g) wr (by rw [List.length_drop]; omega))
      have HN : Hid ((cutS (l.drop g)).2.2 = 0 → AllAt l (acc ++ [(cutS (l.drop g)).1]) (g + (cutS (l.drop g)).2.1) ∧ 5 ≤ (cutS (l.drop g)).2.1 ∧ g + (cutS (l.drop g)).2.1 ≤ l.length) := hid (fun h => ⟨HA.out.next h, (cutS_used _ h).1, by have := (cutS_used _ h).2.1; rw [List.length_drop] at this; omega⟩)
      have HS : Hid ((cutS (l.drop g)).2.2 ≠ 0 → allS l = (acc, g)) := hid (fun h => HA.out.stop h)
      generalize cutS (l.drop g) = cv at HC HN HS
      obtain ⟨p, u, e⟩ := cv
      simp only at HC HN HS
      go_wp2_with fail
      refine HC.out.mono ?_
      rintro x w2 ⟨rfl, hb2⟩
      have HB2 := hid (HB.out.trans (hb2.mono HB.out.size))
      have HO2 := hid (own_keep HO.out hb2)
      clear hb2 HC
      by_cases he : e = 0
      · subst he
        obtain ⟨n1, n2, n3⟩ := HN.out rfl
        have HN1 := hid n1
        clear n1 HN HS
        go_wp2_with (at_builtin; refine wpList_append_1 (W := W) rfl (.tmp 25) (.tmp 27) 42 rfl W.heap.size 9 Try.underlying42 info_str rfl (by omega) rfl HO2.out rfl rfl (by simp; rfl) ?c1 ?c2 HB2.out.size HB2.out ?_)
        case c1 => unfold maxLen; omega
        case c2 => omega
        · intro v' w' h2 h3 h4
          have HO3 := hid h2; clear h2
          go_wp2
          go_roundw
          case rel => exact ⟨acc ++ [p], g + u, by omega, by go_num, HN1.out, by rw [Hid, List.length_append, scells_append]; exact HO3.out, h3⟩
          case measure => simp [intOf]; omega
      · have hne : (((e : Nat) : Int) != 0) = true := by simp; omega
        have HE := hid (HS.out he)
        clear HN HS he
        go_wp2
        go_ret2
        obtain ⟨A9, c9, rfl, _⟩ := Sl.of_own HO2.out
        rw [HE.out]
        exact ⟨A9, c9, rfl, HO2.out, HB2.out⟩
    · have hge : ¬ (g : Int) < (l.length : Int) := by omega
      have HE := hid (HA.out.stop (by rw [List.drop_eq_nil_of_le (by omega)]; exact cutS_nil))
      go_wp2
      go_ret2
      obtain ⟨A9, c9, rfl, _⟩ := Sl.of_own HO.out
      rw [HE.out]
      exact ⟨A9, c9, rfl, HO.out, HB.out⟩
end Go.Proofs.Ytdjcfeglaiihgaa
