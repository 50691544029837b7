/- math/bits.OnesCount64, and Count. -/
import Derived.Test.YtadjmgmdnekllaaFlockC
import Derived.Test.YtadjmgmdnekllaaPopM
import Derived.Laws.Bits128
namespace Go.Proofs.Ytadjmgmdnekllaa
open Go.RowKit
set_option linter.unusedVariables false
set_option linter.unusedSimpArgs false

def fA (s : Nat) : Nat := G1 8 s
def fB (s : Nat) : Nat := G2 8 (G1 8 s)
theorem step1 (s : Nat) (hs : s < 18446744073709551616) : IntKind.u64.wrap (bits .and .u64 ((s : Int) / 2) 6148914691236517205 + bits .and .u64 (s : Int) 6148914691236517205) = (G1 8 s : Nat) ∧ G1 8 s < 18446744073709551616 := by
  have e1 : bits .and .u64 ((s : Int) / 2) 6148914691236517205 = ((s / 2 &&& 6148914691236517205 : Nat) : Int) := u64_and_nat (s / 2) 6148914691236517205 (by omega) (by omega)
  have e2 : bits .and .u64 (s : Int) 6148914691236517205 = ((s &&& 6148914691236517205 : Nat) : Int) := u64_and_nat s 6148914691236517205 hs (by omega)
  have l1 : s / 2 &&& 6148914691236517205 ≤ 6148914691236517205 := Nat.and_le_right
  have l2 : s &&& 6148914691236517205 ≤ 6148914691236517205 := Nat.and_le_right
  have e3 : G1 8 s = (s / 2 &&& 6148914691236517205) + (s &&& 6148914691236517205) := by unfold G1; rw [show m0 8 = 6148914691236517205 from rfl]
  rw [e1, e2, e3]
  generalize s / 2 &&& 6148914691236517205 = a at *
  generalize s &&& 6148914691236517205 = b at *
  exact ⟨by rw [← Int.natCast_add]; exact wrap_u64_in _ (by omega) (by omega), by omega⟩
theorem step2 (s : Nat) (hs : s < 18446744073709551616) : IntKind.u64.wrap (bits .and .u64 ((s : Int) / 4) 3689348814741910323 + bits .and .u64 (s : Int) 3689348814741910323) = (G2 8 s : Nat) ∧ G2 8 s < 18446744073709551616 := by
  have e1 : bits .and .u64 ((s : Int) / 4) 3689348814741910323 = ((s / 4 &&& 3689348814741910323 : Nat) : Int) := u64_and_nat (s / 4) 3689348814741910323 (by omega) (by omega)
  have e2 : bits .and .u64 (s : Int) 3689348814741910323 = ((s &&& 3689348814741910323 : Nat) : Int) := u64_and_nat s 3689348814741910323 hs (by omega)
  have l1 : s / 4 &&& 3689348814741910323 ≤ 3689348814741910323 := Nat.and_le_right
  have l2 : s &&& 3689348814741910323 ≤ 3689348814741910323 := Nat.and_le_right
  have e3 : G2 8 s = (s / 4 &&& 3689348814741910323) + (s &&& 3689348814741910323) := by unfold G2; rw [show m1 8 = 3689348814741910323 from rfl]
  rw [e1, e2, e3]
  generalize s / 4 &&& 3689348814741910323 = a at *
  generalize s &&& 3689348814741910323 = b at *
  exact ⟨by rw [← Int.natCast_add]; exact wrap_u64_in _ (by omega) (by omega), by omega⟩
theorem G2_top (s : Nat) : G2 8 s < 7378697629483820647 := by
  have l1 : s / 4 &&& m1 8 ≤ m1 8 := Nat.and_le_right
  have l2 : s &&& m1 8 ≤ m1 8 := Nat.and_le_right
  have e : m1 8 = 3689348814741910323 := rfl
  unfold G2
  omega
theorem step3 (s : Nat) (hs : s < 7378697629483820647) : bits .and .u64 (IntKind.u64.wrap ((s : Int) / 16 + (s : Int))) 1085102592571150095 = (G3 8 s : Nat) := by
  rw [wrap_u64_in _ (by omega) (by omega), show ((s : Int) / 16 + (s : Int)) = ((s / 16 + s : Nat) : Int) by omega]
  exact u64_and_nat (s / 16 + s) 1085102592571150095 (by omega) (by omega)

set_option maxHeartbeats 400000 in
theorem ones_any (s : Nat) (w : World) (hs : s < 18446744073709551616) : Calls Try.prog 113 #[.int .u64 s] w fun e w' => e = .returned (.int .i64 ((elems s).length : Nat)) ∧ w = w' := by
  obtain ⟨a1, a2⟩ := step1 s hs
  obtain ⟨b1, _⟩ := step2 (G1 8 s) a2
  have c1 := step3 (G2 8 (G1 8 s)) (G2_top _)
  rw [G_PC] at c1
  obtain ⟨d1, d2, d3, d4, d5⟩ := last s _ _ _ rfl rfl rfl
  have HD := hid d1
  clear d1
  generalize hx4 : PC 8 s + PC 8 s / 256 = x4 at *
  generalize hx5 : x4 + x4 / 65536 = x5 at *
  generalize hx6 : x5 + x5 / 4294967296 = x6 at *
  have H4 := hid hx4
  have H5 := hid hx5
  have H6 := hid hx6
  have A1 := hid a1
  have B1 := hid b1
  have C1 := hid c1
  clear hx4 hx5 hx6 a1 b1 c1 a2
  generalize G2 8 (G1 8 s) = y2 at *
  generalize G1 8 s = y1 at *
  generalize PC 8 s = y3 at *
  generalize (elems s).length = n at *
  go_enter Try.func113, Try.ntmps113
  go_upto_region 2 with (fail)
  rw [A1.out]
  go_upto_region 3 with (fail)
  rw [B1.out]
  go_upto_region 4 with (fail)
  rw [C1.out]
  go_upto_region 5 with (fail)
  rw [show ((y3 : Int) + (y3 : Int) / 256) = (x4 : Int) by have := H4.out; omega]
  go_upto_region 6 with (fail)
  rw [show ((x4 : Int) + (x4 : Int) / 65536) = (x5 : Int) by have := H5.out; omega]
  go_upto_region 7 with (fail)
  rw [show ((x5 : Int) + (x5 : Int) / 4294967296) = (x6 : Int) by have := H6.out; omega]
  go_wp2
  go_ret
  exact ⟨ret_i64 (by rw [i64_and127]; have := HD.out; omega), rfl⟩
theorem count_any (s : Nat) (w : World) (hs : s < 18446744073709551616) : Calls Try.prog 30 #[.int .u64 s] w fun e w' => e = .returned (.int .i64 ((elems s).length : Nat)) ∧ w = w' := by
  have H := hid (fun w => ones_any s w hs)
  generalize (elems s).length = n at *
  go_enter Try.func30, Try.ntmps30
  go_wp2_with (go_at_call 113; refine (H.out _).mono ?_; rintro e w' ⟨rfl, rfl⟩)
  go_ret
  exact ⟨rfl, rfl⟩
end Go.Proofs.Ytadjmgmdnekllaa
