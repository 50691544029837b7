/- Tapes whose draws lie in one block: Add. -/
import Derived.Test.YtadjmgmdnekllaaDrawH
namespace Go.Proofs.Ytadjmgmdnekllaa
open Go.RowKit
set_option linter.unusedVariables false
set_option linter.unusedSimpArgs false

/-- Block G is a row of draws of the call's own, up to E. -/
def RowG (w : World) (G : Option Nat) (E B : Nat) : Prop := ∀ g, G = some g → B ≤ g ∧ ∃ cur, w.heap[g]? = some (.cells cur 22 (0, 0)) ∧ E ≤ cur.size
theorem mid_of {w : World} {A : Option Addr} {c E B : Nat} {G : Option Nat} {l : List Nat} (h : Sl w 1 A l.length c (ucells l)) (hg : InG A c G E) (hr : RowG w G E B) : Mid w B 22 1 (.slice A l.length c) l.length (ucells l) := by
  refine ⟨h.1, ?_⟩
  rcases hg with ⟨rfl, rfl, _⟩ | ⟨g, off, hG, rfl, hE⟩
  · have h0 : l.length = 0 := by have := h.2.1; omega
    exact .inl ⟨by rw [h0], h0⟩
  · obtain ⟨hB, cur, hc, hs⟩ := hr g hG
    refine .inr ⟨g, off, c, cur, rfl, hB, hc, h.2.1, h.2.2.1, by omega, ?_⟩
    apply List.ext_getElem?
    intro i
    have hl1 := ucells_length l
    by_cases hi : i < l.length
    · obtain ⟨b', off', ha, hcell⟩ := h.2.2.2 (by omega)
      cases ha
      have h9 := hcell i (by omega)
      rw [cell_of_row w g (off + i) cur 22 (0, 0) hc] at h9
      rw [List.getElem?_take, if_pos (by omega), List.getElem?_drop]
      simpa using h9
    · rw [List.getElem?_take, if_neg (by omega), List.getElem?_eq_none (by omega)]
theorem of_mid {w : World} {B n : Nat} {v : Value} {l : List Nat} (h : Mid w B 22 1 v n (ucells l)) : ∃ A c G E, v = .slice A n c ∧ Sl w 1 A n c (ucells l) ∧ InG A c G E ∧ RowG w G E B := by
  obtain ⟨A0, c0, hv, hs⟩ := h.form
  rcases h.2 with ⟨h1, h2⟩ | ⟨g, off, cap, cur, h1, h2, h3, h4, h5, h6, h7⟩
  · subst h1
    cases hv
    exact ⟨none, 0, none, 0, rfl, hs, .inl ⟨rfl, rfl, rfl⟩, fun g hg => by cases hg⟩
  · subst h1
    cases hv
    exact ⟨_, _, some g, cur.size, rfl, hs, .inr ⟨g, off, rfl, rfl, by omega⟩, fun g' hg => by cases hg; exact ⟨h2, cur, h3, Nat.le_refl _⟩⟩

set_option maxRecDepth 20000 in
theorem addG (T : Nat) (G : Option Nat) (E B : Nat) (l m : List Nat) (A2 : Option Addr) (len2 cap2 : Nat) (W : World) (h : TapeG W T G E l) (hr : RowG W G E B) (hB : B ≤ W.heap.size) (h2 : Sl W 1 A2 len2 cap2 (ucells m)) (hl : l.length + m.length ≤ 10000) (hT : B ≤ T) :
    Calls Try.prog 41 #[.pointer (some ⟨T, 0, none⟩), .slice A2 len2 cap2] W fun e w' => (∃ v, e = .returned v) ∧ (∃ G' E', TapeG w' T G' E' (l ++ m) ∧ RowG w' G' E' B) ∧ Below B W w' ∧ ∀ g, g < W.heap.size → g ≠ T → G ≠ some g → w'.heap[g]? = W.heap[g]? := by
  obtain rfl : len2 = m.length := by have := h2.1; rw [ucells_length] at this; omega
  obtain ⟨A, c, hTT, hs, hg⟩ := h
  have HMID := hid (mid_of hs hg hr)
  have HBLK : Hid (∀ g, (Value.slice A l.length c).ownBlock = some g → G = some g) := hid (fun g h9 => by
    rcases hg with ⟨rfl, _, _⟩ | ⟨g', off, hG, rfl, _⟩
    · simp [Value.ownBlock] at h9
    · have : g' = g := by simpa [Value.ownBlock] using h9
      rw [hG, this])
  have HA := hid h2
  have HL := hid hl
  have hc := cell_of_row W T 0 _ _ _ hTT
  have hf := frozen_of_row W T 0 _ _ hTT
  have HT := hid hTT
  have HB := hid hB
  have HTB := hid hT
  simp at hc
  clear hs hg hr h2 hl hTT hB hT
  go_enter Try.func41, Try.ntmps41
  go_wp2_with (at_builtin; refine wpList_append_mid (W := W) rfl (.tmp 10) (.tmp 11) 38 rfl B 22 Try.underlying38 info_u64 rfl (by omega) rfl HMID.out rfl HA.out (ucells_one _) (by have := HL.out; unfold maxLen; omega) (by have := HL.out; omega) HB.out (Below.refl _ _) ?_)
  intro v1 w1 hm1 hb1 hz1 hk1
  have hne : (Value.slice A l.length c).ownBlock ≠ some T := fun h9 => by
    rcases HMID.out.2 with ⟨h8, _⟩ | ⟨g, off, cap, cur, h8, _, h7, _⟩
    · rw [h8] at h9; simp [Value.ownBlock] at h9
    · rw [h8] at h9
      have : g = T := by simpa [Value.ownBlock] using h9
      subst this
      rw [HT.out] at h7
      injection h7 with h7
      injection h7 with _ h6
      exact absurd h6 (by decide)
  have hT1 : w1.heap[T]? = some (.cells #[.slice A l.length c] 162 (0, 0)) := (hk1 T (lt_of_block HT.out) hne).trans HT.out
  have hm2 : Mid w1 B 22 1 v1 (l.length + m.length) (ucells (l ++ m)) := by
    have h9 : ucells (l ++ m) = ucells l ++ ucells m := by simp [ucells]
    rw [h9]; exact hm1
  obtain ⟨A3, c3, G3, E3, rfl, hs3, hg3, hr3⟩ := of_mid hm2
  have hc1 := cell_of_row w1 T 0 _ _ _ hT1
  have hf1 := frozen_of_row w1 T 0 _ _ hT1
  simp at hc1
  have HT1 := hid hT1
  have HB1 := hid hb1
  have HK1 := hid hk1
  have HS3 := hid hs3
  have HG3 := hid hg3
  have HR3 := hid hr3
  clear hT1 hm1 hm2 hb1 hk1 hz1 hne hs3 hg3 hr3
  go_wp2
  go_end0
  refine ⟨⟨_, rfl⟩, ⟨G3, E3, ⟨A3, c3, ?_, ?_, HG3.out⟩, fun g hg => ?_⟩, HB1.out.setCell HTB.out _, fun g hg hgT hgG => ?_⟩
  · rw [List.length_append]
    simpa using heap_setCell_same w1 T 0 _ _ (.slice A3 (l.length + m.length) c3) HT1.out
  · rw [List.length_append]
    exact sl_apart HS3.out HT1.out (fun n => by simp) _
  · obtain ⟨h1, cur, h2, h3⟩ := HR3.out g hg
    refine ⟨h1, cur, (Below.heap_setCell _ _ _ _ ?_).trans h2, h3⟩
    rintro rfl
    rw [HT1.out] at h2
    injection h2 with h2
    injection h2 with _ h6
    exact absurd h6 (by decide)
  · exact (Below.heap_setCell _ _ _ _ hgT).trans (HK1.out g hg (fun h9 => hgG (HBLK.out g h9)))
end Go.Proofs.Ytadjmgmdnekllaa
