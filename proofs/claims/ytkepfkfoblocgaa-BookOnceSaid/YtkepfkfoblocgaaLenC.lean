/- math/bits.Len, octet.width. -/
import Derived.Test.YtkepfkfoblocgaaChecked
import Derived.Test.YtkepfkfoblocgaaLenM
import Derived.Deep.Cut
import Derived.Lib.Strings
import Derived.Lib.Slices
import Derived.Lib.Small
import Derived.Lib.Walk
import Derived.Lib.BitFns
namespace Go.Proofs.Ytkepfkfoblocgaa
open Go.RowKit
set_option linter.unusedVariables false
set_option linter.unusedSimpArgs false

theorem oret_u64 {a b : Int} (h : a = b) : Ending.returned (.int .u64 a) = .returned (.int .u64 b) := by rw [h]
theorem oret_i64 {a b : Int} (h : a = b) : Ending.returned (.int .i64 a) = .returned (.int .i64 b) := by rw [h]
theorem oret_bool {a b : Bool} (h : a = b) : Ending.returned (.bool a) = .returned (.bool b) := by rw [h]

set_option maxHeartbeats 400000 in
theorem len8_bl : ∀ b : Fin 256, Lib.bitLen b.val = bl b.val := by decide +kernel
theorem bl_8 {x : Nat} (h : x < 256) : bl x ≤ 8 := bl_ge (k := 8) (by simpa using h)

theorem len_fin (k : Nat) (x y : Int) (hy : y.toNat = x.toNat / 2 ^ k) (hx : 2 ^ k ≤ x.toNat) (h : y.toNat < 256) (hk : k ≤ 56) : wrap64 ((k : Int) + wrap64 ((bl y.toNat : Nat) : Int)) = ((bl x.toNat : Nat) : Int) := by
  have h1 := bl_8 h
  have h2 := bl_shift hx
  rw [← hy] at h2
  unfold wrap64
  omega
theorem len_zero (x : Int) (h : x.toNat < 256) : wrap64 (wrap64 ((bl x.toNat : Nat) : Int)) = ((bl x.toNat : Nat) : Int) := by
  have h1 := bl_8 h
  unfold wrap64
  omega
theorem tab_size : (Lib.len8tab.size : Int) = 256 := by decide +kernel
theorem tab_fin : ∀ j : Fin Lib.len8tab.size, (Lib.len8tab[j.val]'j.isLt).toNat = bl j.val := by decide +kernel
theorem tab_bl (i : Nat) (h : i < Lib.len8tab.size) : (Lib.len8tab[i]'h).toNat = bl i := tab_fin ⟨i, h⟩

set_option maxRecDepth 100000 in
set_option maxHeartbeats 1000000 in
theorem len64_any (x : Int) (w : World) (h0 : 0 ≤ x) (h1 : x ≤ 18446744073709551615) : Calls Try.prog 145 #[.int .u64 x] w fun e w' => e = .returned (.int .i64 (bl x.toNat : Nat)) ∧ w = w' := by
  go_enter Try.func145, Try.ntmps145
  go_wp2
  all_goals first
    | (exfalso; rename_i h; exact h ⟨by omega, by rw [tab_size]; omega⟩)
    | go_ret
  all_goals refine ⟨congrArg Ending.returned (congrArg (Value.int IntKind.i64) ?_), rfl⟩
  all_goals simp only [tab_bl]
  all_goals first
    | exact len_fin 56 x _ (by omega) (by omega) (by omega) (by omega)
    | exact len_fin 48 x _ (by omega) (by omega) (by omega) (by omega)
    | exact len_fin 40 x _ (by omega) (by omega) (by omega) (by omega)
    | exact len_fin 32 x _ (by omega) (by omega) (by omega) (by omega)
    | exact len_fin 24 x _ (by omega) (by omega) (by omega) (by omega)
    | exact len_fin 16 x _ (by omega) (by omega) (by omega) (by omega)
    | exact len_fin 8 x _ (by omega) (by omega) (by omega) (by omega)
    | exact len_zero x (by omega)

theorem len_any (x : Int) (w : World) (h0 : 0 ≤ x) (h1 : x ≤ 18446744073709551615) : Calls Try.prog 139 #[.int .u64 x] w fun e w' => e = .returned (.int .i64 (bl x.toNat : Nat)) ∧ w = w' := by
  have H := hid (fun w => len64_any x w h0 h1)
  go_enter Try.func139, Try.ntmps139
  go_wp2_with (go_at_call 145; refine (H.out _).mono ?_; rintro e w' ⟨rfl, rfl⟩)
  go_ret
  exact ⟨rfl, rfl⟩

theorem width_any (n : Nat) (w : World) (h : n ≤ 72057594037927935) : Calls Try.prog 118 #[.int .i64 n] w fun e w' => e = .returned (.int .i64 (wd n : Nat)) ∧ w = w' := by
  have H := hid (fun w => len_any (n : Int) w (by omega) (by omega))
  rw [Int.toNat_natCast] at H
  have hb : bl n ≤ 64 := bl_ge (by simp; omega)
  have HE : Hid (((bl n + 7) / 8 : Nat) = wd n) := rfl
  generalize bl n = b at *
  go_enter Try.func118, Try.ntmps118
  go_wp2_with (go_at_call 139; refine (H.out _).mono ?_; rintro e w' ⟨rfl, rfl⟩)
  go_ret
  exact ⟨oret_i64 (by rw [← HE.out]; omega), rfl⟩
end Go.Proofs.Ytkepfkfoblocgaa
