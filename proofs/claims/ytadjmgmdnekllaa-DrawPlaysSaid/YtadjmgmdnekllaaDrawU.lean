/- New tapes, clones, and what is left, of tapes whose draws lie in one block. -/
import Derived.Test.YtadjmgmdnekllaaDrawJ
import Derived.Test.YtadjmgmdnekllaaDrawP
namespace Go.Proofs.Ytadjmgmdnekllaa
open Go.RowKit
set_option linter.unusedVariables false
set_option linter.unusedSimpArgs false

theorem RowG.mono {w : World} {G : Option Nat} {E B B' : Nat} (h : RowG w G E B) (hb : B' ≤ B) : RowG w G E B' := fun g hg => ⟨Nat.le_trans hb (h g hg).1, (h g hg).2⟩
set_option maxRecDepth 20000 in
theorem newG (A : Option Addr) (len cap : Nat) (l : List Nat) (W : World) (h : Sl W 1 A len cap (ucells l)) (hl : len ≤ 1000) :
    Calls Try.prog 34 #[.slice A len cap] W fun e w' => ∃ T G E, e = .returned (.pointer (some ⟨T, 0, none⟩)) ∧ W.heap.size ≤ T ∧ TapeG w' T G E l ∧ RowG w' G E W.heap.size ∧ Below W.heap.size W w' := by
  obtain rfl : len = l.length := by have := h.1; rw [ucells_length] at this; omega
  have HADD := hid (fun w (hb : Below W.heap.size W w) (hT : w.heap[W.heap.size]? = some (.cells #[.slice none 0 0] 162 (0, 0))) => addG W.heap.size none 0 W.heap.size [] l A l.length cap w ⟨none, 0, hT, Sl.nil _ _ _ _ (Nat.zero_le _), .inl ⟨rfl, rfl, rfl⟩⟩ (fun g hg => by cases hg) hb.size (h.below hb) (by simp; omega) (Nat.le_refl _))
  simp only [List.nil_append] at HADD
  clear h hl
  go_enter Try.func34, Try.ntmps34
  go_wp2_with fail
  refine (HADD.out _ ((Below.refl _ _).alloc (Nat.le_refl _) _) (heap_alloc_new _ _)).mono ?_
  rintro e w1 ⟨⟨v, rfl⟩, ⟨G, E, hT, hR⟩, hb, _⟩
  have HT := hid hT
  have HR := hid hR
  have HB := hid ((((Below.refl W.heap.size W).alloc (Nat.le_refl _) _)).trans hb)
  clear hT hR hb HADD
  go_wp2
  go_ret
  exact ⟨W.heap.size, G, E, rfl, Nat.le_refl _, HT.out, HR.out, HB.out⟩
theorem leftG (T : Nat) (G : Option Nat) (E : Nat) (l : List Nat) (W : World) (h : TapeG W T G E l) (hl : l.length ≤ 1000) :
    Calls Try.prog 44 #[.pointer (some ⟨T, 0, none⟩)] W fun e w' => ∃ A' c', e = .returned (.slice A' l.length c') ∧ w'.ownsRow W.heap.size 22 1 (.slice A' l.length c') l.length (ucells l) ∧ Below W.heap.size W w' := by
  obtain ⟨A, c, hT, hs, _⟩ := h
  exact tleft_any T W.heap.size l W (TapeAt.of hT hs) hl
set_option maxRecDepth 20000 in
theorem cloneG (T : Nat) (G : Option Nat) (E : Nat) (l : List Nat) (W : World) (h : TapeG W T G E l) (hl : l.length ≤ 1000) :
    Calls Try.prog 42 #[.pointer (some ⟨T, 0, none⟩)] W fun e w' => ∃ T' G' E', e = .returned (.pointer (some ⟨T', 0, none⟩)) ∧ W.heap.size ≤ T' ∧ TapeG w' T' G' E' l ∧ RowG w' G' E' W.heap.size ∧ Below W.heap.size W w' := by
  obtain ⟨A, c, hT, hs, hN⟩ := h
  have hc := cell_of_row W T 0 _ _ _ hT
  simp at hc
  have HC := hid (newG A l.length c l W hs hl)
  clear hs hN hT
  go_enter Try.func42, Try.ntmps42
  go_wp2_with fail
  refine HC.out.mono ?_
  rintro e w1 ⟨T', G', E', rfl, hz, hT', hR, hb⟩
  have HT := hid hT'
  have HR := hid hR
  have HB := hid hb
  have HZ := hid hz
  clear hT' hb hz hR HC
  go_wp2
  go_ret
  exact ⟨T', G', E', rfl, HZ.out, HT.out, HR.out, HB.out⟩
end Go.Proofs.Ytadjmgmdnekllaa
