/- slices.Clone at []int, as a contract. -/
import Derived.Test.YtgeccjeehhhchaaChecked
import Derived.Test.YtgeccjeehhhchaaRd
namespace Go.Proofs.Ytgeccjeehhhchaa
open Go.RowKit

theorem own_empty (w : World) (e size : Nat) : (w.alloc (.cells #[] e)).ownsRow w.heap.size e size (.slice (some ⟨w.heap.size, 0, none⟩) 0 0) 0 [] :=
  World.ownsRow_lit w #[] 0 (Nat.le_refl _) (Nat.zero_le _) (by simp)
theorem info_int : (Try.prog.info? 3).map (fun i => (i.zero, i.size, i.bytes)) = some (some (.int .i64 0), 1, 8) := by kernel_rfl
def icells (k : IntKind) (l : List Int) : List Value := l.map (.int k)
theorem icells_length (k : IntKind) (l : List Int) : (icells k l).length = l.length := by simp [icells]
theorem icells_one (k : IntKind) (l : List Int) : ∀ u ∈ icells k l, u.oneCell' = true := by
  intro u hu
  simp only [icells, List.mem_map] at hu
  obtain ⟨c, _, rfl⟩ := hu
  rfl
theorem icells_append (k : IntKind) (l m : List Int) : icells k (l ++ m) = icells k l ++ icells k m := by simp [icells]

set_option maxRecDepth 20000 in
theorem clone_int (A : Option Addr) (len cap : Nat) (cs : List Value) (W : World) (h : Sl W 1 A len cap cs) (h1 : ∀ u ∈ cs, u.oneCell' = true) (hlen : len ≤ 1000000) :
    Calls Try.prog 107 #[.slice A len cap] W fun e w' => ∃ v, e = .returned v ∧ Below W.heap.size W w' ∧ w'.ownsRow W.heap.size 3 1 v len cs := by
  have hl := h.1
  have HL := hid hlen
  clear hlen
  rcases A with _ | ad
  · have h0 : cs = [] := by
      rcases Nat.eq_zero_or_pos cs.length with h0 | h0
      · exact List.eq_nil_of_length_eq_zero h0
      · obtain ⟨b, off, ha, _⟩ := h.2.2.2 h0
        cases ha
    subst h0
    have hz : len = 0 := by simpa using hl.symm
    subst hz
    clear hl h h1
    have he : ∀ w : World, (binOp .eql 22 (.slice none 0 cap) (.slice none 0 0)).run Try.prog w = .ok (.bool true) w := fun _ => rfl
    go_enter Try.func107, Try.ntmps107
    go_wp2
    go_ret
    exact ⟨_, rfl, Below.refl _ _, World.ownsRow_nil _ _ _ _⟩
  · have HS := hid h
    have HE := hid (own_empty W 3 1)
    have H1 := hid h1
    clear h h1 hl
    have he : ∀ w : World, (binOp .eql 22 (.slice (some ad) len cap) (.slice none 0 0)).run Try.prog w = .ok (.bool false) w := fun _ => rfl
    go_enter Try.func107, Try.ntmps107
    go_wp2_with (at_builtin; refine wpList_append_sl (W := W) rfl (.tmp 5) (.tmp 6) 22 rfl W.heap.size 3 Try.underlying22 info_int rfl (by omega) rfl HE.out rfl (HS.out.below ((Below.refl _ _).alloc (Nat.le_refl _) _)) H1.out (by have := HL.out; unfold maxLen; omega) (by have := HL.out; omega) (by simp) ((Below.refl _ _).alloc (Nat.le_refl _) _) ?_)
    intro v1 w1 ho1 hb1 _
    go_wp2
    go_ret
    exact ⟨_, rfl, hb1, by simpa using ho1⟩

theorem Sl.cell {w : World} {b off len cap : Nat} {k : IntKind} {l : List Int} (h : Sl w 1 (some ⟨b, off, none⟩) len cap (icells k l)) (i : Nat) (hi : i < l.length) : w.cell? ⟨b, off + i, none⟩ = some (.int k (l.getD i 0)) := by
  obtain ⟨b', off', ha, hc⟩ := Sl.at h i (by simpa [icells] using hi)
  cases ha
  rw [hc]
  simp [icells, hi]
end Go.Proofs.Ytgeccjeehhhchaa
