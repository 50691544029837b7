/- The document: Parts0, May, Begin. -/
import Derived.Test.YthohedadmfbahaaDoorQAdE
import Derived.Lib.MinMax
namespace Go.Proofs.YthohedadmfbahaaDoor
open Go.RowKit Go.Sort
set_option linter.unusedVariables false
set_option linter.unusedSimpArgs false

end Go.Proofs.YthohedadmfbahaaDoor

namespace Go.Proofs.YthohedadmfbahaaDoor
open Go.RowKit Go.Sort
set_option linter.unusedVariables false
set_option linter.unusedSimpArgs false

/-- The node that stands last in a tree's list. -/
def lastN : Nt → Int × Int
  | .yes => (1, 0)
  | .attr n => (2, n)
  | .not _ => (3, 0)
  | .pair op _ _ => (op, 0)
theorem last_at (t : Nt) (pre post : List (Int × Int)) (e : Nat) (he : e + 1 = pre.length + t.flat.length) : ∃ h : e < (pre ++ (t.flat ++ post)).length, (pre ++ (t.flat ++ post))[e] = lastN t := by
  have hp := t.flat_pos
  have h : e < (pre ++ (t.flat ++ post)).length := by simp; omega
  refine ⟨h, ?_⟩
  rw [List.getElem_append_right (by omega)]
  rw [List.getElem_append_left (by omega)]
  cases t with
  | yes => simp only [Nt.flat, List.length_singleton] at he; simp only [Nt.flat, lastN]; simp [show e - pre.length = 0 by omega]
  | attr n => simp only [Nt.flat, List.length_singleton] at he; simp only [Nt.flat, lastN]; simp [show e - pre.length = 0 by omega]
  | not t =>
    simp only [Nt.flat, List.length_append, List.length_singleton] at he
    simp only [Nt.flat, lastN]
    rw [List.getElem_append_right (by omega)]
    simp [show e - pre.length - t.flat.length = 0 by omega]
  | pair op a b =>
    simp only [Nt.flat, List.length_append, List.length_singleton] at he
    simp only [Nt.flat, lastN]
    rw [List.getElem_append_right (by omega), List.getElem_append_right (by omega)]
    simp [show e - pre.length - a.flat.length - b.flat.length = 0 by omega]
theorem Sl.at2 {w : World} {A : Option Addr} {len cap : Nat} {l : List (Int × Int)} (h : Sl w 2 A len cap (pcells l)) (k : Nat) (hk : k < l.length) : ∃ b off, A = some ⟨b, off, none⟩ ∧ w.cell? ⟨b, off + k * 2, none⟩ = some (.int .i64 l[k].1) ∧ w.cell? ⟨b, off + k * 2 + 1, none⟩ = some (.int .i64 l[k].2) := by
  obtain ⟨b, off, rfl⟩ : ∃ b off, A = some ⟨b, off, none⟩ := by
    obtain ⟨b, off, ha, _⟩ := h.2.2.2 (by rw [pcells_length]; omega)
    exact ⟨b, off, ha⟩
  exact ⟨b, off, rfl, h.pair k hk⟩

end Go.Proofs.YthohedadmfbahaaDoor

namespace Go.Proofs.YthohedadmfbahaaDoor
open Go.RowKit Go.Sort
set_option linter.unusedVariables false
set_option linter.unusedSimpArgs false

theorem chkN_bad {l : List (Int × Int)} {k : Nat} (hk : k < l.length) (h : mayN l[k] = false) (hl : ¬ 31 < l.length) : chkN l = 1 :=
  chkN_none (fun t hw he => by
    have h1 := flat_may hw l[k] (by rw [← he]; exact List.getElem_mem hk)
    rw [h] at h1
    exact absurd h1 (by simp)) hl
theorem chkN_begin {l : List (Int × Int)} (h : beginN l l.length ≠ 0) (hl : ¬ 31 < l.length) : chkN l = 1 :=
  chkN_none (fun t hw he => h (by
    have h1 := begin_flat [] [] t hw
    simp only [List.nil_append, List.append_nil, List.length_nil, Nat.zero_add] at h1
    rw [he, h1]
    rfl)) hl
theorem chkN_nil {l : List (Int × Int)} (h : l.length = 0) : chkN l = 1 :=
  chkN_none (fun t hw he => by
    have := t.flat_pos
    rw [← he] at this
    omega) (by omega)

end Go.Proofs.YthohedadmfbahaaDoor
