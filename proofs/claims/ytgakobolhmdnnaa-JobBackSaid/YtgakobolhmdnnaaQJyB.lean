/- Jobs compared: contracts. -/
import Derived.Test.YtgakobolhmdnnaaQJyA
import Derived.Test.YtgakobolhmdnnaaQEqS
namespace Go.Proofs.Ytgakobolhmdnnaa
open Go.RowKit Go.Sort
set_option linter.unusedVariables false
set_option linter.unusedSimpArgs false

theorem below_drewNJ {n : Nat} {W w : World} (h : Below n W w) (q : Nat) : Below n W (w.drewN q) := ⟨h.os, h.tape, h.output, h.size, h.block⟩
theorem nsame_any (A B : Option Addr) (c d : Nat) (xs ys : List (List UInt8)) (W : World) (hX : TxJ W A c xs) (hY : TxJ W B d ys) :
    Calls Try.prog 72 #[.slice A xs.length c, .slice B ys.length d] W fun e w' => e = .returned (.bool (xs == ys)) ∧ Below W.heap.size W w' := by
  have HE := hid (equal_str A B _ c _ d xs ys W hX.1 hY.1 (len63J hX) (len63J hY))
  clear hX hY
  generalize (xs == ys) = R at *
  generalize xs.length = n at *
  generalize ys.length = m at *
  go_enter Try.func72, Try.ntmps72
  go_wp2_with fail
  refine HE.out.mono ?_
  rintro e w2 ⟨rfl, q, rfl⟩
  clear HE
  go_wp2
  go_ret
  exact ⟨rfl, below_drewNJ (Below.refl _ _) q⟩

set_option maxRecDepth 20000 in
theorem jsame15_any (a : Int) (A : Option Addr) (c : Nat) (xs : List (List UInt8)) (b : Int) (B : Option Addr) (d : Nat) (ys : List (List UInt8)) (W : World) (hX : TxJ W A c xs) (hY : TxJ W B d ys) :
    Calls Try.prog 25 #[.agg #[.int .i64 a, .slice A xs.length c], .agg #[.int .i64 b, .slice B ys.length d]] W fun e w' => e = .returned (.bool ((a == b) && (xs == ys))) ∧ Below W.heap.size W w' := by
  have HE := hid (fun u (hu : Below W.heap.size W u) => nsame_any A B c d xs ys u (hX.below hu) (hY.below hu))
  clear hX hY
  generalize (xs == ys) = R at *
  generalize xs.length = n at *
  generalize ys.length = m at *
  generalize hZ : ((a == b) && R) = Z at *
  have HZ := hid hZ
  clear hZ
  go_enter Try.func25, Try.ntmps25
  go_upto_region 1 with (fail)
  refine at_world (fun u => u.heap[W.heap.size]? = some (.cells #[.int .i64 a, .slice A n c] 27 (0, 0)) ∧ u.heap[W.heap.size + 1]? = some (.cells #[.int .i64 b, .slice B m d] 27 (0, 0)) ∧ Below W.heap.size W u) ⟨(Below.heap_alloc _ _ _ (by simp)).trans (heap_alloc_new _ _), by have := heap_alloc_new (W.alloc (.cells #[.int .i64 a, .slice A n c] 27)) (.cells #[.int .i64 b, .slice B m d] 27); simpa using this, bel_alloc (bel_alloc (Below.refl _ _) _) _⟩ ?_
  rintro w1 ⟨hi, hj, hb⟩
  have HB := hid hb
  obtain ⟨i0, i1⟩ := two_cellsR hi
  obtain ⟨j0, j1⟩ := two_cellsR hj
  clear hi hj hb
  by_cases hab : a = b
  · subst hab
    have HZ2 : Hid (Z = R) := hid (by rw [← HZ.out]; simp)
    obtain rfl := HZ2.out
    clear HZ HZ2
    go_wp2_with fail
    refine (HE.out w1 HB.out).mono ?_
    rintro e w2 ⟨rfl, hb2⟩
    clear HE i0 i1 j0 j1
    go_wp2
    go_ret
    exact ⟨rfl, HB.out.trans (hb2.mono HB.out.size)⟩
  · have hab2 : (a == b) = false := by simpa using hab
    have HZ2 : Hid (Z = false) := hid (by rw [← HZ.out, hab2]; rfl)
    obtain rfl := HZ2.out
    clear HZ HZ2 hab HE
    go_wp2
    go_ret
    exact ⟨rfl, HB.out⟩

set_option maxRecDepth 20000 in
theorem rjsame15_any (a : Int) (A : Option Addr) (c : Nat) (xs : List (List UInt8)) (b : Int) (B : Option Addr) (d : Nat) (ys : List (List UInt8)) (W : World) (hX : TxJ W A c xs) (hY : TxJ W B d ys) :
    Calls Try.prog 24 #[.agg #[.int .i64 a, .slice A xs.length c], .agg #[.int .i64 b, .slice B ys.length d]] W fun e w' => e = .returned (.bool ((a == b) && (xs == ys))) ∧ Below W.heap.size W w' := by
  have HE := hid (fun u (hu : Below W.heap.size W u) => same03 A B _ c _ d xs ys u (hX.below hu).1 (hY.below hu).1 (len63J hX) (len63J hY))
  clear hX hY
  generalize (xs == ys) = R at *
  generalize xs.length = n at *
  generalize ys.length = m at *
  generalize hZ : ((a == b) && R) = Z at *
  have HZ := hid hZ
  clear hZ
  go_enter Try.func24, Try.ntmps24
  go_upto_region 1 with (fail)
  refine at_world (fun u => u.heap[W.heap.size]? = some (.cells #[.int .i64 a, .slice A n c] 27 (0, 0)) ∧ u.heap[W.heap.size + 1]? = some (.cells #[.int .i64 b, .slice B m d] 27 (0, 0)) ∧ Below W.heap.size W u) ⟨(Below.heap_alloc _ _ _ (by simp)).trans (heap_alloc_new _ _), by have := heap_alloc_new (W.alloc (.cells #[.int .i64 a, .slice A n c] 27)) (.cells #[.int .i64 b, .slice B m d] 27); simpa using this, bel_alloc (bel_alloc (Below.refl _ _) _) _⟩ ?_
  rintro w1 ⟨hi, hj, hb⟩
  have HB := hid hb
  obtain ⟨i0, i1⟩ := two_cellsR hi
  obtain ⟨j0, j1⟩ := two_cellsR hj
  clear hi hj hb
  by_cases hab : a = b
  · subst hab
    have HZ2 : Hid (Z = R) := hid (by rw [← HZ.out]; simp)
    obtain rfl := HZ2.out
    clear HZ HZ2
    go_wp2_with fail
    refine (HE.out w1 HB.out).mono ?_
    rintro e w2 ⟨rfl, q, rfl⟩
    clear HE i0 i1 j0 j1
    go_wp2
    go_ret
    exact ⟨rfl, below_drewNJ HB.out q⟩
  · have hab2 : (a == b) = false := by simpa using hab
    have HZ2 : Hid (Z = false) := hid (by rw [← HZ.out, hab2]; rfl)
    obtain rfl := HZ2.out
    clear HZ HZ2 hab HE
    go_wp2
    go_ret
    exact ⟨rfl, HB.out⟩
end Go.Proofs.Ytgakobolhmdnnaa
