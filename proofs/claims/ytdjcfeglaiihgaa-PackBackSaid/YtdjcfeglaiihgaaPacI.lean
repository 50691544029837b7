/- The document's Bytes of a packet, as a contract; the law's of, works. -/
import Derived.Test.YtdjcfeglaiihgaaPacH
namespace Go.Proofs.Ytdjcfeglaiihgaa
open Go.RowKit Go.Sort
set_option linter.unusedVariables false
set_option linter.unusedSimpArgs false

theorem pbytes_no (k f t i p s : Int) (b : ByteArray) (hc : okP k f t i p s b.data.toList = false) (W : World) :
    Calls Try.prog 30 #[.agg #[.int .i64 k, .int .i64 f, .int .i64 t, .int .i64 i, .int .i64 p, .int .i64 s, .string b]] W (OkStr W ⟨#[]⟩) := by
  have HC := hid (fun w => pcheck_any k f t i p s b w)
  rw [hc] at HC
  clear hc
  go_enter Try.func30, Try.ntmps30
  go_upto_region 1 with (fail)
  refine at_world (fun w => Pc 58 w W.heap.size k f t i p s b ∧ Below W.heap.size W w) ⟨heap_alloc_new _ _, (Below.refl _ _).alloc (Nat.le_refl _) _⟩ ?_
  rintro w1 ⟨hm1, hB1⟩
  obtain ⟨⟨p0, p1, p2, p3, p4, p5, p6⟩, f0, f1, f2, f3, f4, f5, f6⟩ := seven_cells hm1
  go_wp2_with (go_at_call 27; refine (HC.out _).mono ?_; rintro x w2 ⟨rfl, hb2⟩)
  go_ret
  exact ⟨rfl, hB1.trans (hb2.mono hB1.size)⟩
/-- What Bytes tells of a packet. -/
def pbS (k f t i p s : Int) (b : ByteArray) : ByteArray := if okP k f t i p s b.data.toList then str (frP (plB k f t i p s b.data.toList)) else ⟨#[]⟩
theorem pbytes_any (k f t i p s : Int) (b : ByteArray) (hb : b.size ≤ 1000) (W : World) :
    Calls Try.prog 30 #[.agg #[.int .i64 k, .int .i64 f, .int .i64 t, .int .i64 i, .int .i64 p, .int .i64 s, .string b]] W fun e w' => e = .returned (.string (pbS k f t i p s b)) ∧ Below W.heap.size W w' := by
  cases hc : okP k f t i p s b.data.toList with
  | true =>
    rw [pbS, if_pos hc]
    obtain ⟨n, rfl⟩ : ∃ n : Nat, k = n := ⟨k.toNat, by have := (okP_iff hc).1; omega⟩
    exact pbytes_ok n f t i p s b hb hc W
  | false =>
    rw [pbS, if_neg (by simp [hc])]
    exact pbytes_no k f t i p s b hc W
theorem pbS_size (k f t i p s : Int) (b : ByteArray) : (pbS k f t i p s b).size ≤ 200 := by
  unfold pbS
  split
  · rename_i h
    have := plB_len (f := f) (t := t) (i := i) (p := p) (s := s) (okP_iff h).2.2.2.2.2.2.2
    rw [str_size, frP_len1 _ (by omega)]; omega
  · exact (by decide : (⟨#[]⟩ : ByteArray).size ≤ 200)

set_option maxRecDepth 20000 in
theorem pof_any (k f t i p s : Int) (b : ByteArray) (W : World) :
    Calls Try.prog 28 #[.agg #[.int .i64 k, .int .i64 f, .int .i64 t, .int .i64 i, .int .i64 p, .int .i64 s, .string b]] W fun e w' => e = .returned (.agg #[.int .i64 k, .int .i64 f, .int .i64 t, .int .i64 i, .int .i64 p, .int .i64 s, .string b]) ∧ Below W.heap.size W w' := by
  go_enter Try.func28, Try.ntmps28
  go_upto_region 1 with (fail)
  refine at_world (fun w => Pc 56 w W.heap.size k f t i p s b ∧ Pc 58 w (W.heap.size + 1) 0 0 0 0 0 0 ⟨#[]⟩ ∧ Below W.heap.size W w) ⟨heap_first _ _ _, heap_second _ _ _, below2 _ _ _⟩ ?_
  rintro w1 ⟨hA, hR, hB⟩
  obtain ⟨⟨p0, p1, p2, p3, p4, p5, p6⟩, f0, f1, f2, f3, f4, f5, f6⟩ := seven_cells hA
  obtain ⟨⟨q0, q1, q2, q3, q4, q5, q6⟩, g0, g1, g2, g3, g4, g5, g6⟩ := seven_cells hR
  have hge : W.heap.size ≤ W.heap.size + 1 := by omega
  generalize W.heap.size + 1 = R at *
  have HR := hid hR
  have HB := hid hB
  have HG := hid hge
  clear hR hB hA hge
  go_wp2_with fail
  obtain ⟨⟨r0, r1, r2, r3, r4, r5, r6⟩, _⟩ := seven_cells (set_seven HR.out (.int .i64 k) (.int .i64 f) (.int .i64 t) (.int .i64 i) (.int .i64 p) (.int .i64 s) (.string b))
  have hbe := below_set7 HB.out HG.out (.int .i64 k) (.int .i64 f) (.int .i64 t) (.int .i64 i) (.int .i64 p) (.int .i64 s) (.string b)
  unfold set7 at r0 r1 r2 r3 r4 r5 r6 hbe
  exact bodyPost_ret (v := .agg #[.int .i64 k, .int .i64 f, .int .i64 t, .int .i64 i, .int .i64 p, .int .i64 s, .string b]) (by simp [results, Try.results28, go_sem, r0, r1, r2, r3, r4, r5, r6]) rfl ⟨rfl, hbe⟩

theorem works23_any (W : World) : Calls Try.prog 26 #[] W fun e w' => e = .returned (.bool true) ∧ Below W.heap.size W w' := by
  have HB := hid (fun w => pbytes_any 2 0 9 1 2 3 ⟨#[]⟩ (by decide) w)
  obtain ⟨x, hx⟩ : ∃ x, pbS 2 0 9 1 2 3 ⟨#[]⟩ = x := ⟨_, rfl⟩
  have hx1 : x.size = 11 ∧ x.extract 0 7 = ⟨#[6, 2, 0, 9, 1, 2, 3]⟩ := by
    rw [← hx]
    decide +kernel
  rw [hx] at HB
  have h1 : ((x.size : Int) == 11) = true := by rw [hx1.1]; rfl
  have h2 : ∀ w : World, (Instr.slice 9 (.string x) none (some (.int .i64 7)) none).run Try.prog w = .ok (.string ⟨#[6, 2, 0, 9, 1, 2, 3]⟩) w := fun w => by
    rw [run_slice_string_h (P := Try.prog) w 9 x Try.underlying9 .i64 7 (by omega) (by rw [hx1.1]; omega)]
    rw [show (7 : Int).toNat = 7 from rfl, hx1.2]
  clear hx hx1
  go_enter Try.func26, Try.ntmps26
  go_wp2_with fail
  refine (HB.out _).mono ?_
  rintro y w1 ⟨rfl, hb⟩
  have HB1 := hid hb
  clear hb HB
  go_wp2
  go_ret
  exact ⟨rfl, HB1.out⟩
end Go.Proofs.Ytdjcfeglaiihgaa
