/- PackBack: the law. -/
import Derived.Test.YtdjcfeglaiihgaaPacO
namespace Go.Proofs.Ytdjcfeglaiihgaa
open Go.RowKit Go.Sort
set_option linter.unusedVariables false
set_option linter.unusedSimpArgs false

theorem packBack_out (k f t i p s : Int) (b x : ByteArray) (t0 t1 : Int) (hb : b.size ≤ maxLen) (hx : x.size ≤ maxLen) (ho : 1000 < x.size ∨ 1000 < b.size) (W : World) :
    Calls Try.prog 11 #[.agg #[.int .i64 k, .int .i64 f, .int .i64 t, .int .i64 i, .int .i64 p, .int .i64 s, .string b], .string x, .agg #[.int .u32 t0, .int .u32 t1]] W fun e w' => e = .returned (.bool true) ∧ Below W.heap.size W w' := by
  have HW := hid works23_any
  unfold maxLen at hb hx
  have hK : Pc 56 ((W.alloc (.cells #[.int .i64 k, .int .i64 f, .int .i64 t, .int .i64 i, .int .i64 p, .int .i64 s, .string b] 56)).alloc (.cells #[.int .u32 t0, .int .u32 t1] 52)) W.heap.size k f t i p s b ∧ Below W.heap.size W ((W.alloc (.cells #[.int .i64 k, .int .i64 f, .int .i64 t, .int .i64 i, .int .i64 p, .int .i64 s, .string b] 56)).alloc (.cells #[.int .u32 t0, .int .u32 t1] 52)) := ⟨heap_first _ _ _, below2 _ _ _⟩
  rcases Nat.lt_or_ge 1000 x.size with h | h
  case' inl =>
    have h1 : decide (1000 < (x.size : Int)) = true := decide_eq_true (by omega)
    have h2 : 1000 < (x.size : Int) := by omega
    have h3 : True := trivial
  case' inr =>
    have h1 : decide (1000 < (x.size : Int)) = false := decide_eq_false (by omega)
    have h2 : (x.size : Int) ≤ 1000 := by omega
    have h4 : decide (1000 < (b.size : Int)) = true := decide_eq_true (by omega)
    have h3 : 1000 < (b.size : Int) := by omega
  all_goals
    clear ho h
    go_enter Try.func11, Try.ntmps11
    go_upto_region 1 with (fail)
    refine at_world (fun w => Pc 56 w W.heap.size k f t i p s b ∧ Below W.heap.size W w) hK ?_
    clear hK
    rintro w0 ⟨hm, hbel⟩
    obtain ⟨⟨p0, p1, p2, p3, p4, p5, p6⟩, f0, f1, f2, f3, f4, f5, f6⟩ := seven_cells hm
    go_wp2_with (go_at_call 26; refine (HW.out _).mono ?_; rintro e w9 ⟨rfl, hb9⟩)
    go_ret
    exact ⟨rfl, hbel.trans (hb9.mono hbel.size)⟩

theorem packBack_rd (a : Array Value) (x : ByteArray) (c : Array Value) (w : World) (hn : a.size = 7) (h : Rd Try.prog w 56 a.toList) (hx : x.size ≤ maxLen) (hr : Rd Try.prog w 52 c.toList) :
    Calls Try.prog 11 #[.agg a, .string x, .agg c] w fun e w' => e = .returned (.bool true) ∧ Below w.heap.size w w' := by
  obtain ⟨k, f, t, i, p, s, b, rfl, hb⟩ := rd_packet hn h
  obtain ⟨xs, hxs⟩ := Rd.array_ints Try.underlying52 Try.underlying51 (by kernel_rfl) (by kernel_rfl) hr
  obtain ⟨x0, y0, rfl, wx, wy⟩ := ints2 hxs
  have h0 := wf_u32 wx
  have h1 := wf_u32 wy
  obtain ⟨t0, rfl⟩ := Int.eq_ofNat_of_zero_le h0.1
  obtain ⟨t1, rfl⟩ := Int.eq_ofNat_of_zero_le h1.1
  by_cases ho : 1000 < x.size ∨ 1000 < b.size
  · exact packBack_out k f t i p s b x t0 t1 hb hx ho w
  · exact packBack_small k f t i p s b x t0 t1 (by omega) (by omega) (by omega) (by omega) w
end Go.Proofs.Ytdjcfeglaiihgaa
