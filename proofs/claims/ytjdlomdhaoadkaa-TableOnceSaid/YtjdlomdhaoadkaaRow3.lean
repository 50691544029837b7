/- Rows of three numbers that came in. -/
import Derived.Test.YtjdlomdhaoadkaaRd
import Derived.Test.YtjdlomdhaoadkaaChecked
namespace Go.Proofs.Ytjdlomdhaoadkaa
open Go.RowKit
set_option linter.unusedVariables false

theorem rows3 {w : World} {A : Option Addr} {len cap : Nat} (h : Rd Try.prog w 47 [.slice A len cap]) : len ≤ maxLen ∧ ∃ f : Nat → Nat → Int, (∀ i j, -9223372036854775808 ≤ f i j ∧ f i j ≤ 9223372036854775807) ∧ (0 < len → ∃ b off, A = some ⟨b, off, none⟩ ∧ ∀ i, i < len → ∀ j, j < 3 → w.cell? ⟨b, off + i * 3 + j, none⟩ = some (.int .i64 (f i j))) := by
  obtain ⟨h1, h2, h3⟩ := Rd.slice_plain Try.underlying47 (n := 3) (by kernel_rfl) (by omega) h
  refine ⟨by omega, ?_⟩
  by_cases h0 : 0 < len
  · obtain ⟨b, off, rfl, z, hz⟩ := h3 h0
    have key : ∀ i, i < len → ∃ x : Int × Int × Int, z i = [.int .i64 x.1, .int .i64 x.2.1, .int .i64 x.2.2] ∧ (Lit.int .i64 x.1).wf = true ∧ (Lit.int .i64 x.2.1).wf = true ∧ (Lit.int .i64 x.2.2).wf = true := fun i hi => by
      obtain ⟨xs, hx⟩ := Rd.array_ints Try.underlying23 Try.underlying3 (by kernel_rfl) (by kernel_rfl) (hz i hi).2.1
      obtain ⟨a, b, c, e, g1, g2, g3⟩ := ints3 (cs := (z i).toArray) hx
      exact ⟨⟨a, b, c⟩, by simpa using congrArg Array.toList e, g1, g2, g3⟩
    obtain ⟨g, hg⟩ := Go.Deep.choose_lt (α := Int × Int × Int) key
    refine ⟨fun i j => if i < len then (if j = 0 then (g i).1 else if j = 1 then (g i).2.1 else (g i).2.2) else 0, ?_, ?_⟩
    · intro i j
      by_cases hi : i < len
      · simp only [hi, if_true]
        split
        · exact wf_i64 (hg i hi).2.1
        · split
          · exact wf_i64 (hg i hi).2.2.1
          · exact wf_i64 (hg i hi).2.2.2
      · simp only [hi, if_false]; omega
    · refine fun _ => ⟨b, off, rfl, fun i hi j hj => ?_⟩
      rw [(hz i hi).2.2 j hj, (hg i hi).1]
      simp only [hi, if_true]
      match j, hj with
      | 0, _ => rfl
      | 1, _ => rfl
      | 2, _ => rfl
  · exact ⟨fun _ _ => 0, fun _ _ => by show (-9223372036854775808 : Int) ≤ 0 ∧ (0 : Int) ≤ 9223372036854775807; omega, fun h => absurd h h0⟩
end Go.Proofs.Ytjdlomdhaoadkaa
