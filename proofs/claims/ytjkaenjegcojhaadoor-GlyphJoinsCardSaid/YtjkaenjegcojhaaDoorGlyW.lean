/- GlyphNames: the page's examples; the law. -/
import Derived.Test.YtjkaenjegcojhaaDoorGlyG
import Derived.Test.YtjkaenjegcojhaaDoorGlyQ
import Derived.Test.YtjkaenjegcojhaaDoorGlyR
namespace Go.Proofs.YtjkaenjegcojhaaDoor
open Go.RowKit Go.Sort
set_option linter.unusedVariables false
set_option linter.unusedSimpArgs false

theorem at_ff (W : World) : Calls Tryd.prog 18 #[.string ⟨#[255]⟩, .int .i64 0] W fun e w' => e = .returned (.tuple #[.int .i32 65533, .int .i64 0]) ∧ Below W.heap.size W w' := by
  have hnx : ∀ ty, (Instr.next (.pointer (some ⟨W.heap.size, 0, none⟩)) true ty).run Tryd.prog (W.iter ⟨#[255]⟩ 0) = .ok (.tuple #[.bool true, .int .i64 0, .int .i32 65533]) (W.iter ⟨#[255]⟩ 1) := fun ty => by
    rw [run_next_any W ⟨#[255]⟩ 0 ty (by decide)]
    rfl
  go_enter Tryd.func18, Tryd.ntmps18
  go_wp2_with fail
  refine wp_loop_rounds 1 ?_
  rw [rounds_succ]
  go_wp2
  go_ret2
  exact ⟨rfl, (Below.refl _ _).alloc (Nat.le_refl _) _⟩

set_option maxRecDepth 20000 in
theorem count_is (l : List UInt8) (hl : l.length ≤ 1000) (w : World) : Calls Tryd.prog 19 #[.string (str l)] w fun e w' => e = .returned (.int .i64 ((rns l 0).length : Nat)) ∧ Below w.heap.size w w' := by
  have HSZ := hid (str_size l)
  have hn : (rns l 0).length ≤ 1000 := by have := rns_le l 0; omega
  generalize hs : str l = s at *
  have HS := hid hs
  clear hs
  go_enter Tryd.func19, Tryd.ntmps19
  go_wp2
  go_loopw [3] (fun n w' => ∃ (pos c : Nat), w' = w.iter s pos ∧ n = .int .i64 (c : Int) ∧ Hid (c + (rns l pos).length = (rns l 0).length)) (fun _ w' => s.size - w'.iterPos w.heap.size)
  case atStart => exact ⟨0, 0, rfl, rfl, Nat.zero_add _⟩
  case round =>
    obtain ⟨pos, c, rfl, rfl, HG⟩ := hrel
    have hc : c ≤ 1000 := by have := HG.out; omega
    by_cases hp : pos < s.size
    · have hpl : pos < l.length := by have := HSZ.out; omega
      have hdc : Utf8.decode s pos = (codeN (l.drop pos) (szN (l.drop pos)), max (szN (l.drop pos)) 1) := by
        rw [← HS.out, decode_drop, dec_sz _ (by rw [List.length_drop]; omega)]
      have hnx : ∀ ty, (Instr.next (.pointer (some ⟨w.heap.size, 0, none⟩)) true ty).run Tryd.prog (w.iter s pos) = .ok (.tuple #[.bool true, .int .i64 (pos : Int), .int .i32 ((codeN (l.drop pos) (szN (l.drop pos)) : Nat) : Int)]) (w.iter s (pos + max (szN (l.drop pos)) 1)) := fun ty => by
        rw [run_next_any w s pos ty hp, hdc]
      have hwd : 1 ≤ max (szN (l.drop pos)) 1 := szN_1 _
      have hst := rns_step l pos hpl
      have HG2 : Hid (c + 1 + (rns l (pos + max (szN (l.drop pos)) 1)).length = (rns l 0).length) := hid (by
        have h1 := HG.out
        rw [hst, List.length_cons] at h1
        omega)
      clear hdc hst HG
      generalize max (szN (l.drop pos)) 1 = mm at *
      generalize codeN (l.drop pos) (szN (l.drop pos)) = cc at *
      go_wp2
      refine ⟨⟨_, c + 1, rfl, by go_num, HG2.out⟩, ?_⟩
      rw [World.iterPos_iter, World.iterPos_iter]
      omega
    · have hnx : ∀ ty, (Instr.next (.pointer (some ⟨w.heap.size, 0, none⟩)) true ty).run Tryd.prog (w.iter s pos) = _ := fun ty => run_next_end w s pos ty hp
      have HE := hid (show (rns l 0).length = c by have h1 := HG.out; rw [rns_end l pos (by have := HSZ.out; omega)] at h1; exact h1.symm)
      clear HG
      go_wp2
      go_ret
      exact ⟨by rw [HE.out]; rfl, (Below.refl _ _).alloc (Nat.le_refl _) _⟩

theorem ex_count : (rns [103, 114, 195, 182, 195, 159, 101] 0).length = 5 := by kernel_rfl
theorem ex_name : gN 0 (rns [103, 114, 195, 182, 195, 159, 101] 0) = true := by kernel_rfl
theorem ex_name2 : gN 0 (rns [50, 97] 0) = false := by kernel_rfl

theorem s_word : str [103, 114, 195, 182, 195, 159, 101] = ⟨#[103, 114, 195, 182, 195, 159, 101]⟩ := rfl
theorem s_two : str [50, 97] = ⟨#[50, 97]⟩ := rfl
theorem ct_word (w : World) : Calls Tryd.prog 19 #[.string ⟨#[103, 114, 195, 182, 195, 159, 101]⟩] w fun e w' => e = .returned (.int .i64 5) ∧ Below w.heap.size w w' := by
  have h := count_is [103, 114, 195, 182, 195, 159, 101] (by simp) w
  rw [ex_count, s_word] at h
  exact h
theorem nm_word (w : World) : Calls Tryd.prog 23 #[.string ⟨#[103, 114, 195, 182, 195, 159, 101]⟩] w fun e w' => e = .returned (.bool true) ∧ Below w.heap.size w w' := by
  have h := name_is [103, 114, 195, 182, 195, 159, 101] (by simp) w
  rw [ex_name, s_word] at h
  exact h
theorem nm_two (w : World) : Calls Tryd.prog 23 #[.string ⟨#[50, 97]⟩] w fun e w' => e = .returned (.bool false) ∧ Below w.heap.size w w' := by
  have h := name_is [50, 97] (by simp) w
  rw [ex_name2, s_two] at h
  exact h

set_option maxRecDepth 20000 in
set_option maxHeartbeats 1000000 in
theorem works04_any (W : World) : Calls Tryd.prog 15 #[] W fun e w' => e = .returned (.bool true) ∧ Below W.heap.size W w' := by
  go_enter Tryd.func15, Tryd.ntmps15
  go_wp2_with (first
    | (go_at_call 18; with_reducible refine (at_ff _).mono ?_; rintro e w1 ⟨rfl, hb1⟩)
    | (go_at_call 19; with_reducible refine (ct_word _).mono ?_; rintro e w2 ⟨rfl, hb2⟩)
    | (go_at_call 23; with_reducible refine (nm_two _).mono ?_; rintro e w4 ⟨rfl, hb4⟩)
    | (go_at_call 23; with_reducible refine (nm_word _).mono ?_; rintro e w3 ⟨rfl, hb3⟩))
  go_ret
  have g2 := hb1.trans (hb2.mono hb1.size)
  have g3 := g2.trans (hb3.mono g2.size)
  exact ⟨rfl, g3.trans (hb4.mono g3.size)⟩
end Go.Proofs.YtjkaenjegcojhaaDoor
