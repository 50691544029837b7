/- slices.Clone at reservations. -/
import Derived.Test.YtadjmgmdnekllaaQueC
namespace Go.Proofs.Ytadjmgmdnekllaa
open Go.RowKit
set_option linter.unusedVariables false
set_option linter.unusedSimpArgs false

set_option maxRecDepth 20000 in
theorem clone_place (A : Option Addr) (len cap : Nat) (cs : List Value) (W : World) (h : Sl W 2 A len cap cs) (h1 : ∀ u ∈ cs, u.oneCell' = true) (hlen : len ≤ 100000) :
    Calls Try.prog 117 #[.slice A len cap] W fun e w' => ∃ v, e = .returned v ∧ Below W.heap.size W w' ∧ w'.ownsRow W.heap.size 91 2 v len cs := by
  have hl := h.1
  have HL := hid hlen
  clear hlen
  rcases A with _ | ad
  · have h0 : cs = [] := by
      rcases Nat.eq_zero_or_pos cs.length with h0 | h0
      · exact List.eq_nil_of_length_eq_zero h0
      · obtain ⟨b, off, ha, _⟩ := h.2.2.2 h0
        cases ha
    subst h0
    have hz : len = 0 := by simp at hl; omega
    subst hz
    clear hl h h1
    have he : ∀ w : World, (binOp .eql 84 (.slice none 0 cap) (.slice none 0 0)).run Try.prog w = .ok (.bool true) w := fun _ => rfl
    go_enter Try.func117, Try.ntmps117
    go_wp2
    go_ret
    exact ⟨_, rfl, Below.refl _ _, World.ownsRow_nil _ _ _ _⟩
  · have HS := hid h
    have HE := hid (own_empty W 91 2)
    have H1 := hid h1
    clear h h1 hl
    have he : ∀ w : World, (binOp .eql 84 (.slice (some ad) len cap) (.slice none 0 0)).run Try.prog w = .ok (.bool false) w := fun _ => rfl
    go_enter Try.func117, Try.ntmps117
    go_wp2_with (at_builtin; refine wpList_append_sl (W := W) rfl (.tmp 5) (.tmp 6) 84 rfl W.heap.size 91 Try.underlying84 info_place rfl (by omega) rfl HE.out rfl (HS.out.below ((Below.refl _ _).alloc (Nat.le_refl _) _)) H1.out (by have := HL.out; unfold maxLen; omega) (by have := HL.out; omega) (by simp) ((Below.refl _ _).alloc (Nat.le_refl _) _) ?_)
    intro v1 w1 ho1 hb1 _
    go_wp2
    go_ret
    exact ⟨_, rfl, hb1, by simpa using ho1⟩
end Go.Proofs.Ytadjmgmdnekllaa
