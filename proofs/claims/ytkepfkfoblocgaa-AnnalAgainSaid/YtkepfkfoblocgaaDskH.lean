/- disk: Cut. -/
import Derived.Test.YtkepfkfoblocgaaDskD
namespace Go.Proofs.Ytkepfkfoblocgaa
open Go.RowKit Go.Sort
set_option linter.unusedVariables false
set_option linter.unusedSimpArgs false

def cutE (l : List UInt8) (n : Int) : Int := if n < 0 ∨ (l.length : Int) < n then 6 else 0
def cutL (l : List UInt8) (n : Int) : List UInt8 := if n < 0 ∨ (l.length : Int) < n then l else l.take n.toNat
set_option maxRecDepth 20000 in
theorem dcut_any (D room : Nat) (l : List UInt8) (armed : Bool) (fuse : Nat) (n : Int) (W : World) (h : DiskAt W D room l armed fuse) (hl : l.length ≤ 100000) :
    Calls Try.prog 20 #[.pointer (some ⟨D, 0, none⟩), .int .i64 n] W fun e w' => e = .returned (.int .i64 (cutE l n)) ∧ DiskAt w' D room (cutL l n) armed fuse ∧ Only D W w' := by
  obtain ⟨A, c, h1, h2, h3⟩ := h.openT
  have HTB := hid h3
  obtain ⟨⟨p0, p1, p2, p3⟩, f0, f1, f2, f3⟩ := four_cells h1
  have HD := hid h
  have HB := hid h2
  have hl2 : (l.length : Int) ≤ 100000 := by omega
  clear h1 h2 h h3
  by_cases hn : n < 0
  · have HV : Hid (cutE l n = 6 ∧ cutL l n = l) := hid ⟨if_pos (.inl hn), if_pos (.inl hn)⟩
    have d1 : decide (n < 0) = true := decide_eq_true hn
    go_enter Try.func20, Try.ntmps20
    go_wp2
    go_ret
    rw [HV.out.1, HV.out.2]
    exact ⟨rfl, HD.out, Only.refl _ _⟩
  by_cases hn2 : (l.length : Int) < n
  · have HV : Hid (cutE l n = 6 ∧ cutL l n = l) := hid ⟨if_pos (.inr hn2), if_pos (.inr hn2)⟩
    have d1 : decide (n < 0) = false := decide_eq_false hn
    have d2 : decide ((l.length : Int) < n) = true := decide_eq_true hn2
    have d3 : 0 ≤ n := by omega
    clear hn
    go_enter Try.func20, Try.ntmps20
    go_wp2
    go_ret
    rw [HV.out.1, HV.out.2]
    exact ⟨rfl, HD.out, Only.refl _ _⟩
  · obtain ⟨k, rfl⟩ : ∃ k : Nat, n = k := ⟨n.toNat, by omega⟩
    have hkl : k ≤ l.length := by omega
    have HV : Hid (cutE l k = 0 ∧ cutL l k = l.take k) := hid ⟨if_neg (by omega), by rw [cutL, if_neg (by omega), Int.toNat_natCast]⟩
    have d1 : decide ((k : Int) < 0) = false := decide_eq_false hn
    have d2 : decide ((l.length : Int) < (k : Int)) = false := decide_eq_false hn2
    have d3 : (k : Int) ≤ (l.length : Int) := by omega
    have hs3 : ∀ w : World, (Instr.slice 24 (.slice A l.length c) none (some (.int .i64 (k : Int))) none).run Try.prog w = .ok (.slice A k c) w := fun w => run_to Try.underlying24 info_u8K A l.length c k (by have := HB.out.len; omega) w
    have HT := hid (HB.out.take k hkl)
    have HTL : Hid ((l.take k).length = k) := hid (by rw [List.length_take]; omega)
    clear hn hn2
    go_enter Try.func20, Try.ntmps20
    go_wp2
    go_ret
    rw [HV.out.1, HV.out.2]
    refine ⟨rfl, ?_, (Only.refl _ _).set 1 _⟩
    have h9 := HT.out
    have h8 : IsBytes W A (l.take k).length c (l.take k) := by rw [HTL.out]; exact h9
    have h7 := HD.out.setB h8 HTB.out
    rw [HTL.out] at h7
    exact h7

end Go.Proofs.Ytkepfkfoblocgaa
