/- Parts of slices, at any element size. -/
import Derived.Test.YtdphdodjidbngaaRow
namespace Go.Proofs.Ytdphdodjidbngaa
open Go.RowKit

theorem elem_of {P : Program} {t e : TypeId} (h : P.underlying t = some (.slice e)) : P.elem t = e := by
  unfold Program.elem
  rw [h]
theorem size_of_info {P : Program} {e : TypeId} {z : Value} {size bytes : Nat} (hinf : (P.info? e).map (fun i => (i.zero, i.size, i.bytes)) = some (some z, size, bytes)) (w : World) : (sizeOf e).run P w = .ok size w := by
  obtain ⟨i, hi, _, hs, _⟩ := info_parts hinf
  simp [sizeOf, typeInfo, hi, hs]
/-- Where 's[g:]' lies. -/
def dropA (a : Option Addr) (cap g size : Nat) : Option Addr := if cap = g then a else a.map (·.add (g * size))
theorem run_from {P : Program} {t e : TypeId} {z : Value} {size bytes : Nat} (ht : P.underlying t = some (.slice e)) (hinf : (P.info? e).map (fun i => (i.zero, i.size, i.bytes)) = some (some z, size, bytes))
    (a : Option Addr) (len cap g : Nat) (hg : g ≤ len) (w : World) : (Instr.slice t (.slice a len cap) (some (.int .i64 (g : Int))) none none).run P w = .ok (.slice (dropA a cap g size) (len - g) (cap - g)) w := by
  rw [run_slice_l (P := P) w t a len cap (by rw [elem_of ht]; exact ht) .i64 (g : Int) (by omega) (by omega), elem_of ht, size_of_info hinf]
  simp [sliced, Result.andThen, dropA]
theorem run_to {P : Program} {t e : TypeId} {z : Value} {size bytes : Nat} (ht : P.underlying t = some (.slice e)) (hinf : (P.info? e).map (fun i => (i.zero, i.size, i.bytes)) = some (some z, size, bytes))
    (a : Option Addr) (len cap h : Nat) (hh : h ≤ cap) (w : World) : (Instr.slice t (.slice a len cap) none (some (.int .i64 (h : Int))) none).run P w = .ok (.slice a h cap) w := by
  rw [run_slice_h (P := P) w t a len cap (by rw [elem_of ht]; exact ht) .i64 (h : Int) (by omega) (by omega), elem_of ht, size_of_info hinf]
  have h0 : ∀ x : Addr, x.add 0 = x := fun x => by simp [Addr.add]
  have h1 : a.map (fun x => x.add 0) = a := by
    rcases a with _ | x
    · rfl
    · simp [h0]
  simp only [sliced, Result.andThen, Int.toNat_natCast, Nat.zero_mul, Nat.sub_zero, h1, ite_self]
theorem run_mid {P : Program} {t e : TypeId} {z : Value} {size bytes : Nat} (ht : P.underlying t = some (.slice e)) (hinf : (P.info? e).map (fun i => (i.zero, i.size, i.bytes)) = some (some z, size, bytes))
    (a : Option Addr) (len cap g h : Nat) (hg : g ≤ h) (hh : h ≤ cap) (w : World) : (Instr.slice t (.slice a len cap) (some (.int .i64 (g : Int))) (some (.int .i64 (h : Int))) none).run P w = .ok (.slice (dropA a cap g size) (h - g) (cap - g)) w := by
  rw [run_slice_lh (P := P) w t a len cap (by rw [elem_of ht]; exact ht) .i64 .i64 (g : Int) (h : Int) (by omega) (by omega) (by omega), elem_of ht, size_of_info hinf]
  simp [sliced, Result.andThen, dropA]
theorem Sl.drop {w : World} {size : Nat} {a : Option Addr} {len cap : Nat} {xs : List Value} (h : Sl w size a len cap xs) (g : Nat) (hg : g ≤ len) : Sl w size (dropA a cap g size) (len - g) (cap - g) (xs.drop (g * size)) := by
  obtain ⟨h1, h2, h3, h4⟩ := h
  have hm : g * size ≤ len * size := Nat.mul_le_mul_right _ hg
  have hl : (xs.drop (g * size)).length = (len - g) * size := by rw [List.length_drop, h1, Nat.sub_mul]
  refine ⟨hl, by omega, by omega, fun h0 => ?_⟩
  rw [List.length_drop] at h0
  obtain ⟨b, off, ha, hc⟩ := h4 (by omega)
  have hne : cap ≠ g := by
    intro e
    have : len = g := by omega
    rw [this] at h1
    omega
  refine ⟨b, off + g * size, ?_, fun i hi => ?_⟩
  · rw [dropA, if_neg hne, ha]
    simp [add_none]
  · rw [List.length_drop] at hi
    rw [Nat.add_assoc, hc (g * size + i) (by omega), List.getElem?_drop]
end Go.Proofs.Ytdphdodjidbngaa

