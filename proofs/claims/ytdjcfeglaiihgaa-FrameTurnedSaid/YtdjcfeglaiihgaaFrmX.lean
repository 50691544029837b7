/- FrameTurned, at every input. -/
import Derived.Test.YtdjcfeglaiihgaaFrmW
namespace Go.Proofs.Ytdjcfeglaiihgaa
open Go.RowKit Go.Sort
set_option linter.unusedVariables false
set_option linter.unusedSimpArgs false

theorem wf_u32 {n : Int} (h : (Lit.int .u32 n).wf = true) : ∃ m : Nat, n = (m : Int) ∧ m < 4294967296 := by
  simp [Lit.wf, IntKind.min, IntKind.max, IntKind.signed, IntKind.bits] at h
  exact ⟨n.toNat, by omega, by omega⟩

set_option maxRecDepth 20000 in
set_option maxHeartbeats 1000000 in
theorem frameTurned_out (a : Option Addr) (cap : Nat) (l : List (List UInt8)) (wh t0 t1 : Nat) (W : World) (hA : Sl W 1 a l.length cap (scells l)) (hw : ∀ s ∈ l, s.length ≤ maxLen) (h : longB l 20 200 = true ∨ longB l 20 200 = false ∧ (l.length = 0 ∨ 0 < l.length ∧ t1 = 0)) :
    Calls Try.prog 8 #[.slice a l.length cap, .int .u8 (wh : Int), .agg #[.int .u32 (t0 : Int), .int .u32 (t1 : Int)]] W fun e w' => e = .returned (.bool true) ∧ Below W.heap.size W w' := by
  have HL := hid (fun w (h : Below W.heap.size W w) => long_any a l.length cap l 20 200 w (hA.below h) hw)
  clear hA hw
  have HB0 : ∀ o, Below W.heap.size W (W.alloc o) := fun o => (Below.refl _ _).alloc (Nat.le_refl _) _
  have HBB := hid HB0
  clear HB0
  go_enter Try.func8, Try.ntmps8
  go_upto_region 1 with (fail)
  refine at_world (fun w => (∃ T, w.heap[W.heap.size]? = some (.cells #[.int .u32 (t0 : Int), .int .u32 (t1 : Int)] T (0, 0))) ∧ Below W.heap.size W w) ⟨⟨_, heap_alloc_new _ _⟩, HBB.out _⟩ ?_
  rintro w0 ⟨⟨T0, hT0⟩, hB0⟩
  obtain ⟨p0, p1, q0, q1⟩ := two_cells hT0
  have HB0 := hid hB0
  have HL1 := hid (HL.out w0 hB0)
  clear hT0 hB0 HL HBB
  rcases h with h | ⟨h, h2 | ⟨h3, h2⟩⟩
  · rw [h] at HL1
    clear h
    go_wp2_with (first
      | (go_at_call 25; refine HL1.out.mono ?_; rintro e w' ⟨rfl, rfl⟩)
      | (go_at_call 17; refine (works03_any _).mono ?_; rintro e w' ⟨rfl, hb⟩))
    go_ret
    exact ⟨rfl, HB0.out.trans (hb.mono HB0.out.size)⟩
  · rw [h] at HL1
    rw [h2] at HL1 ⊢
    clear h h2
    go_wp2_with (first
      | (go_at_call 25; refine HL1.out.mono ?_; rintro e w' ⟨rfl, rfl⟩)
      | (go_at_call 17; refine (works03_any _).mono ?_; rintro e w' ⟨rfl, hb⟩))
    go_ret
    exact ⟨rfl, HB0.out.trans (hb.mono HB0.out.size)⟩
  · rw [h] at HL1
    subst h2
    have hz0 : ((l.length : Int) == 0) = false := by rw [beq_eq_false_iff_ne]; omega
    clear h h3
    go_wp2_with (first
      | (go_at_call 25; refine HL1.out.mono ?_; rintro e w' ⟨rfl, rfl⟩)
      | (go_at_call 17; refine (works03_any _).mono ?_; rintro e w' ⟨rfl, hb⟩))
    go_ret
    exact ⟨rfl, HB0.out.trans (hb.mono HB0.out.size)⟩

theorem frameTurned_law (a : Option Addr) (len cap : Nat) (z : List ByteArray) (wh : Int) (cs : Array Value) (W : World) (h : IsTexts W a len cap z) (hwh : (Lit.int .u8 wh).wf = true) (hr : Rd Try.prog W 52 cs.toList) :
    Calls Try.prog 8 #[.slice a len cap, .int .u8 wh, .agg cs] W fun e w' => e = .returned (.bool true) ∧ Below W.heap.size W w' := by
  obtain ⟨l, hA, rfl, hw⟩ := Sl.of_texts h
  obtain ⟨xs, hx⟩ := Rd.array_ints Try.underlying52 Try.underlying51 (by kernel_rfl) (by kernel_rfl) hr
  obtain ⟨x, y, rfl, wx, wy⟩ := ints2 hx
  obtain ⟨t0, rfl, ht0⟩ := wf_u32 wx
  obtain ⟨t1, rfl, ht1⟩ := wf_u32 wy
  have hwn := wf_u8 hwh
  obtain ⟨w8, rfl⟩ := Int.eq_ofNat_of_zero_le hwn.1
  cases hb : longB l 20 200 with
  | false =>
    obtain ⟨h1, h2⟩ := longB_no hb
    by_cases h3 : l.length = 0
    · exact frameTurned_out a cap l w8 t0 t1 W hA hw (.inr ⟨hb, .inl h3⟩)
    by_cases h4 : t1 = 0
    · exact frameTurned_out a cap l w8 t0 t1 W hA hw (.inr ⟨hb, .inr ⟨by omega, h4⟩⟩)
    exact frameTurned_small a cap l w8 t0 t1 W hA (fun p hp => by have := h1 p hp; omega) (by omega) (by omega) (by omega) ht0 ht1 h4
  | true => exact frameTurned_out a cap l w8 t0 t1 W hA hw (.inl hb)
end Go.Proofs.Ytdjcfeglaiihgaa
