/- the document's disk. -/
import Derived.Test.YtkepfkfoblocgaaGreatDkP
namespace Go.Proofs.YtkepfkfoblocgaaGreat
open Go.RowKit Go.Sort
set_option linter.unusedVariables false
set_option linter.unusedSimpArgs false

def RkAt (w : World) (R room : Nat) (l : List UInt8) (fu : Int) : Prop := w.heap[R]? = some (.cells #[.string (str l), .int .i64 (room : Int), .int .i64 fu] 28 (0, 0))
theorem rnew_any (room : Int) (W : World) : Calls Tryz.prog 5 #[.int .i64 room] W fun e w' => e = .returned (.tuple #[.agg #[.string ⟨#[]⟩, .int .i64 room, .int .i64 (-1)], .bool (decide (0 ≤ room ∧ room ≤ 65536))]) ∧ Below W.heap.size W w' := by
  rcases (by omega : (0 ≤ room ∧ room ≤ 65536) ∨ room < 0 ∨ (0 ≤ room ∧ 65536 < room)) with h | h | h
  case' inl =>
    have HV : Hid (decide (0 ≤ room ∧ room ≤ 65536) = true) := hid (decide_eq_true h)
    have d1 : decide (0 ≤ room) = true := decide_eq_true h.1
    have d2 : decide (room ≤ 65536) = true := decide_eq_true h.2
  case' inr.inl =>
    have HV : Hid (decide (0 ≤ room ∧ room ≤ 65536) = false) := hid (decide_eq_false (by omega))
    have d1 : decide (0 ≤ room) = false := decide_eq_false (by omega)
    have d2 : True := trivial
  case' inr.inr =>
    have HV : Hid (decide (0 ≤ room ∧ room ≤ 65536) = false) := hid (decide_eq_false (by omega))
    have d1 : decide (0 ≤ room) = true := decide_eq_true h.1
    have d2 : decide (room ≤ 65536) = false := decide_eq_false (by omega)
  all_goals
    have hR : (W.alloc (.cells #[.string ⟨#[]⟩, .int .i64 0, .int .i64 0] 28)).heap[W.heap.size]? = some (.cells #[.string ⟨#[]⟩, .int .i64 0, .int .i64 0] 28 (0, 0)) := heap_alloc_new _ _
    have hb : Below W.heap.size W (W.alloc (.cells #[.string ⟨#[]⟩, .int .i64 0, .int .i64 0] 28)) := (Below.refl _ _).alloc (Nat.le_refl _) _
    clear h
    go_enter Tryz.func5, Tryz.ntmps5
    go_upto_region 1 with (fail)
    refine at_world (fun w => w.heap[W.heap.size]? = some (.cells #[.string ⟨#[]⟩, .int .i64 0, .int .i64 0] 28 (0, 0)) ∧ Below W.heap.size W w) ⟨hR, hb⟩ ?_
    clear hR hb
    rintro w1 ⟨hR, hB⟩
    obtain ⟨⟨p0, p1, p2⟩, f0, f1, f2⟩ := three_cells hR
    go_wp2_with fail
    obtain ⟨⟨r0, r1, r2⟩, _⟩ := three_cells (set_three hR (.string ⟨#[]⟩) (.int .i64 room) (.int .i64 (-1)))
    have hbe := ((hB.setCell (p := ⟨W.heap.size, 0, none⟩) (Nat.le_refl _) (.string ⟨#[]⟩)).setCell (p := ⟨W.heap.size, 1, none⟩) (Nat.le_refl _) (.int .i64 room)).setCell (p := ⟨W.heap.size, 2, none⟩) (Nat.le_refl _) (.int .i64 (-1))
    rw [HV.out]
    refine bodyPost_ret (v := .tuple #[.agg #[.string ⟨#[]⟩, .int .i64 room, .int .i64 (-1)], .bool _]) (by simp [results, Tryz.results5, go_sem, r0, r1, r2]) rfl ⟨rfl, hbe⟩

theorem rk_fin {W w1 : World} {R room : Nat} {l l2 : List UInt8} {fu : Int} {z : ByteArray} (h : RkAt w1 R room l fu) (hB : Below W.heap.size W w1) (hz : z = str l2) :
    RkAt ((w1.setCell ⟨R, 0, none⟩ (.string z)).setCell ⟨R, 2, none⟩ (.int .i64 (-1))).drew R room l2 (-1) ∧ Only R W ((w1.setCell ⟨R, 0, none⟩ (.string z)).setCell ⟨R, 2, none⟩ (.int .i64 (-1))).drew := by
  subst hz
  refine ⟨?_, ?_⟩
  · have h1 := heap_setCell_same w1 R 0 _ _ (.string (str l2)) h
    exact heap_setCell_same _ R 2 _ _ (.int .i64 (-1)) h1
  · exact (((Only.of_below hB).set 0 _).set 2 _).trans (Only.of_below (below_drew (Below.refl _ _)))
def fuN (room : Nat) (l m : List UInt8) (fu : Int) : Int := if room < l.length + m.length then fu else if 0 ≤ fu then -1 else fu
set_option maxRecDepth 20000 in
set_option maxHeartbeats 1000000 in
theorem rappend_any (R room : Nat) (l m : List UInt8) (fu : Int) (W : World) (h : RkAt W R room l fu) (hr : room ≤ 65536) (hl : l.length ≤ room) (hm : m.length ≤ 100000) :
    Calls Tryz.prog 9 #[.pointer (some ⟨R, 0, none⟩), .string (str m)] W fun e w' => e = .returned (.int .i64 (apE room l m (decide (0 ≤ fu)))) ∧ RkAt w' R room (apL room l m (decide (0 ≤ fu)) fu.toNat) (fuN room l m fu) ∧ Only R W w' := by
  obtain ⟨⟨p0, p1, p2⟩, f0, f1, f2⟩ := three_cells h
  have HR := hid h
  obtain ⟨s0, hs0⟩ : ∃ s0, str l = s0 := ⟨_, rfl⟩
  obtain ⟨x, hx⟩ : ∃ x, str m = x := ⟨_, rfl⟩
  have z0 : s0.size = l.length := by rw [← hs0]; exact str_size l
  have z1 : x.size = m.length := by rw [← hx]; exact str_size m
  rw [hs0] at p0
  rw [hx]
  have HS0 := hid hs0
  have HX := hid hx
  have hw : IntKind.i64.wrap ((room : Int) - (s0.size : Int)) = (room : Int) - (s0.size : Int) := by simp [IntKind.wrap, IntKind.bits, IntKind.signed]; omega
  have hbd : s0.size + x.size ≤ 200000 := by omega
  clear hs0 hx h
  by_cases hfull : room < l.length + m.length
  · have d1 : decide ((room : Int) - (s0.size : Int) < (x.size : Int)) = true := decide_eq_true (by omega)
    have d2 : (room : Int) - (s0.size : Int) < (x.size : Int) := by omega
    have HV : Hid (apE room l m (decide (0 ≤ fu)) = 7 ∧ apL room l m (decide (0 ≤ fu)) fu.toNat = l ∧ fuN room l m fu = fu) := hid ⟨if_pos hfull, if_pos hfull, if_pos hfull⟩
    clear hfull hr hl hm z0 z1
    go_enter Tryz.func9, Tryz.ntmps9
    go_wp2
    go_quiet (fail)
    go_wp2
    go_ret
    rw [HV.out.1, HV.out.2.1, HV.out.2.2]
    exact ⟨rfl, keep0 HR.out (below_drewN0 _ _), Only.of_below (below_drewN0 _ _)⟩
  · have d1 : decide ((room : Int) - (s0.size : Int) < (x.size : Int)) = false := decide_eq_false (by omega)
    have d2 : (x.size : Int) ≤ (room : Int) - (s0.size : Int) := by omega
    by_cases hfu : 0 ≤ fu
    · obtain ⟨k, rfl⟩ : ∃ k : Nat, fu = k := ⟨fu.toNat, by omega⟩
      have d3 : decide ((k : Int) < 0) = false := decide_eq_false (by omega)
      have HV : Hid (apE room l m (decide (0 ≤ (k : Int))) = 14 ∧ apL room l m (decide (0 ≤ (k : Int))) (k : Int).toNat = l ++ m.take k ∧ fuN room l m k = -1) := hid ⟨by rw [apE, if_neg hfull, decide_eq_true hfu]; rfl, by rw [apL, if_neg hfull, decide_eq_true hfu, Int.toNat_natCast]; rfl, by rw [fuN, if_neg hfull, if_pos hfu]⟩
      have hxm : x.size = m.length := z1
      obtain ⟨j, hj⟩ : ∃ j, min k m.length = j := ⟨_, rfl⟩
      have htk : m.take k = m.take j := by
        rcases Nat.le_total k m.length with h | h
        · rw [← hj, Nat.min_eq_left h]
        · rw [← hj, Nat.min_eq_right h, List.take_length, List.take_of_length_le h]
      have hs1 : ∀ w : World, (Instr.slice 9 (.string x) none (some (.int .i64 (j : Int))) none).run Tryz.prog w = .ok (.string (str (m.take j))) w := fun w => by
        rw [run_slice_string_h (P := Tryz.prog) w 9 x Tryz.underlying9 .i64 (j : Int) (by omega) (by omega), Int.toNat_natCast, ← HX.out]
        congr 2
        apply ByteArray.ext
        simp [str, ByteArray.data_extract]
      obtain ⟨y, hy⟩ : ∃ y, str (m.take j) = y := ⟨_, rfl⟩
      have z2 : y.size ≤ 100000 := by rw [← hy, str_size, List.length_take]; omega
      have hbd2 : s0.size + y.size ≤ 200000 := by omega
      rw [hy] at hs1
      have HY := hid hy
      have HTK := hid htk
      have HS1 := hid hs1
      have hjk : (m.length < k ∧ j = m.length) ∨ (k ≤ m.length ∧ j = k) := by omega
      clear hy htk hs1 hj hfull hr hl hm hfu z2
      have hjk2 : ((x.size : Int) < (k : Int) ∧ j = x.size) ∨ ((k : Int) ≤ (x.size : Int) ∧ j = k) := by omega
      clear hjk z0 z1 hxm
      rcases hjk2 with ⟨e1, rfl⟩ | ⟨e1, rfl⟩
      case' inl => have e2 : decide ((x.size : Int) < (k : Int)) = true := decide_eq_true e1
      case' inr => have e2 : decide ((x.size : Int) < (j : Int)) = false := decide_eq_false (by omega)
      all_goals
        go_enter Tryz.func9, Tryz.ntmps9
        go_wp2
        go_quiet (fail)
        go_upto_region 9 with (fail)
        refine at_world (fun w => RkAt w R room l _ ∧ Below W.heap.size W w) ⟨keep0 HR.out (below_drewN0 _ _), below_drewN0 _ _⟩ ?_
        clear p0 p1 p2 f0 f1 f2
        rintro w1 ⟨hR1, hB1⟩
        obtain ⟨⟨p0, p1, p2⟩, f0, f1, f2⟩ := three_cells hR1
        rw [HS0.out] at p0
        have hs1 := HS1.out
        have HR1 := hid hR1
        have HB1 := hid hB1
        clear hR1 hB1
        go_region
        all_goals go_wp2
        all_goals go_ret
        all_goals rw [HV.out.1, HV.out.2.1, HV.out.2.2]
        all_goals (first | rw [HTK.out] | skip)
        all_goals exact ⟨rfl, rk_fin HR1.out HB1.out (by rw [← HS0.out, ← HY.out, str_app])⟩
    · have d3 : decide (fu < 0) = true := decide_eq_true (by omega)
      have HV : Hid (apE room l m (decide (0 ≤ fu)) = 0 ∧ apL room l m (decide (0 ≤ fu)) fu.toNat = l ++ m ∧ fuN room l m fu = fu) := hid ⟨by rw [apE, if_neg hfull, decide_eq_false hfu]; rfl, by rw [apL, if_neg hfull, decide_eq_false hfu]; rfl, by rw [fuN, if_neg hfull, if_neg hfu]⟩
      have d4 : fu < 0 := by omega
      clear hfull hr hl hm hfu z0 z1
      go_enter Tryz.func9, Tryz.ntmps9
      go_wp2
      go_quiet (fail)
      go_upto_region 4 with (fail)
      refine at_world (fun w => RkAt w R room l fu ∧ Below W.heap.size W w) ⟨keep0 HR.out (below_drewN0 _ _), below_drewN0 _ _⟩ ?_
      clear p0 p1 p2 f0 f1 f2
      rintro w1 ⟨hR1, hB1⟩
      obtain ⟨⟨p0, p1, p2⟩, f0, f1, f2⟩ := three_cells hR1
      rw [HS0.out] at p0
      have HR1 := hid hR1
      have HB1 := hid hB1
      clear hR1 hB1
      go_wp2
      go_ret
      rw [HV.out.1, HV.out.2.1, HV.out.2.2]
      refine ⟨rfl, ?_, (Only.of_below HB1.out).set 0 _⟩
      have h9 := heap_setCell_same w1 R 0 _ _ (.string (s0 ++ x)) HR1.out
      rw [← HS0.out, ← HX.out, str_app] at h9
      rw [← HS0.out, ← HX.out, str_app]
      exact h9

set_option maxRecDepth 20000 in
theorem rdcut_any (R room : Nat) (l : List UInt8) (fu n : Int) (W : World) (h : RkAt W R room l fu) (hl : l.length ≤ 100000) :
    Calls Tryz.prog 54 #[.pointer (some ⟨R, 0, none⟩), .int .i64 n] W fun e w' => e = .returned (.int .i64 (cutE l n)) ∧ RkAt w' R room (cutL l n) fu ∧ Only R W w' := by
  obtain ⟨⟨p0, p1, p2⟩, f0, f1, f2⟩ := three_cells h
  have HR := hid h
  obtain ⟨s0, hs0⟩ : ∃ s0, str l = s0 := ⟨_, rfl⟩
  have z0 : s0.size = l.length := by rw [← hs0]; exact str_size l
  rw [hs0] at p0
  have HS0 := hid hs0
  have hl2 : (s0.size : Int) ≤ 100000 := by omega
  clear hs0 h
  by_cases hn : n < 0
  · have HV : Hid (cutE l n = 6 ∧ cutL l n = l) := hid ⟨if_pos (.inl hn), if_pos (.inl hn)⟩
    have d1 : decide (n < 0) = true := decide_eq_true hn
    clear z0
    go_enter Tryz.func54, Tryz.ntmps54
    go_wp2
    go_ret
    rw [HV.out.1, HV.out.2]
    exact ⟨rfl, HR.out, Only.refl _ _⟩
  by_cases hn2 : (l.length : Int) < n
  · have HV : Hid (cutE l n = 6 ∧ cutL l n = l) := hid ⟨if_pos (.inr hn2), if_pos (.inr hn2)⟩
    have d1 : decide (n < 0) = false := decide_eq_false hn
    have d2 : decide ((s0.size : Int) < n) = true := decide_eq_true (by omega)
    have d4 : (s0.size : Int) < n := by omega
    have d3 : 0 ≤ n := by omega
    clear hn z0 hn2
    go_enter Tryz.func54, Tryz.ntmps54
    go_wp2
    go_ret
    rw [HV.out.1, HV.out.2]
    exact ⟨rfl, HR.out, Only.refl _ _⟩
  · obtain ⟨k, rfl⟩ : ∃ k : Nat, n = k := ⟨n.toNat, by omega⟩
    have HV : Hid (cutE l k = 0 ∧ cutL l k = l.take k) := hid ⟨if_neg (by omega), by rw [cutL, if_neg (by omega), Int.toNat_natCast]⟩
    have d1 : decide ((k : Int) < 0) = false := decide_eq_false hn
    have d2 : decide ((s0.size : Int) < (k : Int)) = false := decide_eq_false (by omega)
    have d3 : (k : Int) ≤ (s0.size : Int) := by omega
    have hs3 : ∀ w : World, (Instr.slice 9 (.string s0) none (some (.int .i64 (k : Int))) none).run Tryz.prog w = .ok (.string (str (l.take k))) w := fun w => by
      rw [run_slice_string_h (P := Tryz.prog) w 9 s0 Tryz.underlying9 .i64 (k : Int) (by omega) (by omega), Int.toNat_natCast, ← HS0.out]
      congr 2
      apply ByteArray.ext
      simp [str, ByteArray.data_extract]
    clear hn hn2 z0
    go_enter Tryz.func54, Tryz.ntmps54
    go_wp2
    go_ret
    rw [HV.out.1, HV.out.2]
    exact ⟨rfl, heap_setCell_same W R 0 _ _ _ HR.out, (Only.refl _ _).set 0 _⟩
end Go.Proofs.YtkepfkfoblocgaaGreat
