/- Rows of integers: plain words. -/
import Derived.Test.YtdphdodjidbngaaChecked
import Derived.Test.YtdphdodjidbngaaRd
namespace Go.Proofs.Ytdphdodjidbngaa
open Go.RowKit

theorem own_empty (w : World) (e size : Nat) : (w.alloc (.cells #[] e)).ownsRow w.heap.size e size (.slice (some ⟨w.heap.size, 0, none⟩) 0 0) 0 [] :=
  World.ownsRow_lit w #[] 0 (Nat.le_refl _) (Nat.zero_le _) (by simp)
theorem info_int : (Try.prog.info? 3).map (fun i => (i.zero, i.size, i.bytes)) = some (some (.int .i64 0), 1, 8) := by kernel_rfl
def icells (k : IntKind) (l : List Int) : List Value := l.map (.int k)
theorem icells_length (k : IntKind) (l : List Int) : (icells k l).length = l.length := by simp [icells]
theorem icells_one (k : IntKind) (l : List Int) : ∀ u ∈ icells k l, u.oneCell' = true := by
  intro u hu
  simp only [icells, List.mem_map] at hu
  obtain ⟨c, _, rfl⟩ := hu
  rfl
theorem icells_append (k : IntKind) (l m : List Int) : icells k (l ++ m) = icells k l ++ icells k m := by simp [icells]

theorem Sl.cell {w : World} {b off len cap : Nat} {k : IntKind} {l : List Int} (h : Sl w 1 (some ⟨b, off, none⟩) len cap (icells k l)) (i : Nat) (hi : i < l.length) : w.cell? ⟨b, off + i, none⟩ = some (.int k (l.getD i 0)) := by
  obtain ⟨b', off', ha, hc⟩ := Sl.at h i (by simpa [icells] using hi)
  cases ha
  rw [hc]
  simp [icells, hi]
end Go.Proofs.Ytdphdodjidbngaa

