/- The document's net: Turn. -/
import Derived.Test.YtdphdodjidbngaaNetM
namespace Go.Proofs.Ytdphdodjidbngaa
open Go.RowKit
set_option linter.unusedVariables false
set_option linter.unusedSimpArgs false

theorem set_same {α : Type} {l : List α} {i : Nat} {v : α} (h : l[i]? = some v) : l.set i v = l := by
  refine List.ext_getElem? fun j => ?_
  rw [List.getElem?_set]
  split
  · rename_i e
    subst e
    split
    · exact h.symm
    · rename_i h9
      rw [List.getElem?_eq_none (by omega)] at h
      cases h
  · rfl
set_option maxRecDepth 20000 in
set_option maxHeartbeats 4000000 in
theorem rturn_out (B c : Nat) (m : Int) (l : List Tg) (k a bits : Int) (W : World) (h : RnAt B c m l W) (hk : k < 0 ∨ (l.length : Int) ≤ k) : Calls Try.prog 33 #[.pointer (some ⟨c, 0, none⟩), .int .i64 k, .int .i64 a, .int .u32 bits] W fun e w' => e = .returned (.int .i64 6) ∧ W = w' := by
  obtain ⟨h0, A, cap, h1, h2⟩ := h
  obtain ⟨n0, n1, nf0, nf1⟩ := two_cells h1
  clear h0 h1 h2
  by_cases hk0 : k < 0
  · have hk9 : ¬ k ≥ 0 := by omega
    go_enter Try.func33, Try.ntmps33
    go_wp2
    go_ret
    exact ⟨rfl, rfl⟩
  · have hk1 : k ≥ (l.length : Int) := by omega
    have hk2 : ¬ k < (l.length : Int) := by omega
    go_enter Try.func33, Try.ntmps33
    go_wp2
    go_ret
    exact ⟨rfl, rfl⟩
set_option maxRecDepth 20000 in
set_option maxHeartbeats 4000000 in
theorem rturn_there (B c : Nat) (m : Int) (l : List Tg) (k : Nat) (a bits : Int) (W : World) (h : RnAt B c m l W) (hk : k < l.length) (ht : l[k].t = true) : Calls Try.prog 33 #[.pointer (some ⟨c, 0, none⟩), .int .i64 (k : Int), .int .i64 a, .int .u32 bits] W fun e w' => e = .returned (.int .i64 9) ∧ W = w' := by
  obtain ⟨g, cap, h1, hcap, hsl, hel⟩ := h.el k hk
  obtain ⟨n0, n1, nf0, nf1⟩ := two_cells h1
  obtain ⟨y0, y1, y2, y3⟩ := hel W (Tch.refl _ _)
  rw [ht] at y3
  have hk2 : (k : Int) < (l.length : Int) := by omega
  have hk9 : (k : Int) ≥ 0 := by omega
  clear h h1 hsl hel ht y0 y1 y2
  go_enter Try.func33, Try.ntmps33
  go_wp2
  go_ret
  exact ⟨rfl, rfl⟩
set_option maxRecDepth 20000 in
set_option maxHeartbeats 4000000 in
theorem rturn_range (B c : Nat) (m : Int) (l : List Tg) (k : Nat) (a bits : Int) (W : World) (h : RnAt B c m l W) (hk : k < l.length) (ht : l[k].t = false) (hl : l[k].s.length ≤ 100000) (ha : a < 0 ∨ 8 * ((l[k].s.length : Int) - 1) ≤ a) (ha2 : a ≤ 9223372036854775807) : Calls Try.prog 33 #[.pointer (some ⟨c, 0, none⟩), .int .i64 (k : Int), .int .i64 a, .int .u32 bits] W fun e w' => e = .returned (.int .i64 6) ∧ W = w' := by
  obtain ⟨g, cap, h1, hcap, hsl, hel⟩ := h.el k hk
  obtain ⟨n0, n1, nf0, nf1⟩ := two_cells h1
  obtain ⟨y0, y1, y2, y3⟩ := hel W (Tch.refl _ _)
  rw [ht] at y3
  have hk2 : (k : Int) < (l.length : Int) := by omega
  have hk9 : (k : Int) ≥ 0 := by omega
  have hk0 : ¬ (k : Int) < 0 := by omega
  have hkg : ¬ (k : Int) ≥ (l.length : Int) := by omega
  clear h h1 hsl hel ht y0 y1
  generalize l[k].s = xs at *
  by_cases ha0 : a < 0
  · go_enter Try.func33, Try.ntmps33
    go_wp2
    go_ret
    exact ⟨rfl, rfl⟩
  · obtain ⟨an, rfl⟩ := Int.eq_ofNat_of_zero_le (show 0 ≤ a by omega)
    by_cases hz : xs.length = 0
    · have hz1 : (((str xs).size : Nat) : Int) = 0 := by rw [str_size, hz]; rfl
      clear ha hl hz
      go_enter Try.func33, Try.ntmps33
      go_wp2
      go_ret
      exact ⟨rfl, rfl⟩
    · have hz1 : (((str xs).size : Nat) : Int) = (xs.length : Int) := by rw [str_size]
      have hz2 : ((xs.length : Int) == 0) = false := by rw [beq_eq_false_iff_ne]; omega
      have hw : IntKind.i64.wrap ((xs.length : Int) - 1) = (xs.length : Int) - 1 := by simp [IntKind.wrap, IntKind.bits, IntKind.signed]; omega
      have hge : ((an : Int) / 8) ≥ (xs.length : Int) - 1 := by omega
      have hq : wrap64 ((an : Int) / 8) = (an : Int) / 8 := by unfold wrap64; omega
      clear ha2 ha
      go_enter Try.func33, Try.ntmps33
      go_wp2
      go_ret
      exact ⟨rfl, rfl⟩

set_option maxRecDepth 20000 in
set_option maxHeartbeats 4000000 in
theorem rturn_ok (B c : Nat) (m : Int) (l : List Tg) (k a bits : Nat) (W : World) (h : RnAt B c m l W) (hB : B ≤ W.heap.size) (hll : l.length ≤ 100000) (hk : k < l.length) (ht : l[k].t = false) (hl : l[k].s.length ≤ 100000) (ha : 1 + a / 8 < l[k].s.length) (hbt : bits < 4294967296) : Calls Try.prog 33 #[.pointer (some ⟨c, 0, none⟩), .int .i64 (k : Int), .int .i64 (a : Int), .int .u32 (bits : Int)] W fun e w' => e = .returned (.int .i64 0) ∧ RnAt B c m (l.set k ⟨l[k].from', l[k].to', trs l[k].s a bits 32, true⟩) w' ∧ Tch (fun g => g = c) W w' := by
  have HCB := hid h.1
  obtain ⟨g, cap, h1, hcap, hsl, hel⟩ := h.el k hk
  obtain ⟨n0, n1, nf0, nf1⟩ := two_cells h1
  have HC := hid h1
  have HSL := hid (hsl W (Below.refl _ _))
  obtain ⟨y0, y1, y2, y3⟩ := hel W (Tch.refl _ _)
  rw [ht] at y3
  have hk2 : (k : Int) < (l.length : Int) := by omega
  have hk9 : (k : Int) ≥ 0 := by omega
  have hk0 : ¬ (k : Int) < 0 := by omega
  have hkg : ¬ (k : Int) ≥ (l.length : Int) := by omega
  have HX4 := hid (tcells_get l k hk)
  have HPUT := hid (tcells_set4 l k ⟨l[k].from', l[k].to', trs l[k].s a bits 32, true⟩ hk)
  have HBI := hid (fun u => rbits_any l[k].s a bits u hl (by omega) hbt)
  obtain ⟨x, hx⟩ : ∃ x, l[k] = x := ⟨_, rfl⟩
  rw [hx] at y0 y1 y2 HX4 HPUT HBI hl ha ⊢
  clear h h1 hsl hel ht hx
  obtain ⟨f, t, xs, tb⟩ := x
  simp only at y0 y1 y2 HX4 HPUT HBI hl ha
  have hz1 : (((str xs).size : Nat) : Int) = (xs.length : Int) := by rw [str_size]
  have hz2 : ((xs.length : Int) == 0) = false := by rw [beq_eq_false_iff_ne]; omega
  have hw : IntKind.i64.wrap ((xs.length : Int) - 1) = (xs.length : Int) - 1 := by simp [IntKind.wrap, IntKind.bits, IntKind.signed]; omega
  have hge : ¬ ((a : Int) / 8) ≥ (xs.length : Int) - 1 := by omega
  have ha0 : ¬ (a : Int) < 0 := by omega
  go_enter Try.func33, Try.ntmps33
  go_upto_region 5 with (fail)
  clear n0 n1 nf0 nf1 y0 y1 y2 y3
  obtain ⟨n0, n1, nf0, nf1⟩ := two_cells HC.out
  have hc0 : ∀ o : Obj, (W.alloc o).cell? ⟨c, 0, none⟩ = some (.slice (some ⟨g, 0, none⟩) l.length cap) := fun o => cellb (bel_alloc (Below.refl W.heap.size W) o) n0
  have HE := hid (own_empty W 64 4)
  have hal : Below W.heap.size W (W.alloc (.cells #[] 64)) := bel_alloc (Below.refl _ _) _
  have HSA := hid (HSL.out.below hal)
  have HAS := hid hal.size
  have HALB := hid hal
  clear hal
  go_wp2_with (at_builtin; refine wpList_append_slw rfl (.tmp 73) (.tmp 77) 51 rfl W.heap.size 64 Try.underlying51 info_rthing rfl (by omega) rfl HE.out rfl HSA.out (tcells_one l) (by unfold maxLen; omega) (by omega) HAS.out ?_)
  intro v' w3 h2 ht h4
  have HB3 := hid (HALB.out.trans (ht.below W.heap.size (fun g hg _ => (own_lt HE.out g hg).1) HAS.out))
  obtain ⟨A3, c3, rfl, h99⟩ := Sl.of_own h2
  have HO3 : Hid (w3.ownsRow W.heap.size 64 4 (.slice A3 (0 + l.length) c3) (0 + l.length) (tcells l)) := hid (by simpa using h2)
  clear h2 ht h4 h99 n0 n1 nf0 nf1 hc0 HE HSA HAS HALB HSL
  rw [Nat.zero_add] at HO3
  try simp only [Nat.zero_add]
  obtain ⟨g3, c9, hA, hg3, hn3, hm3, hcl, hob, hgl⟩ := own_open HO3.out (by omega) (by omega)
  cases hA
  obtain ⟨e2, f2⟩ := hcl (k * 4 + 2) (by rw [tcells_length]; omega)
  have hx4 := HX4.out
  rw [List.getElem?_eq_getElem (by rw [tcells_length]; omega), List.getElem?_eq_getElem (by rw [tcells_length]; omega), List.getElem?_eq_getElem (by rw [tcells_length]; omega), List.getElem?_eq_getElem (by rw [tcells_length]; omega)] at hx4
  rw [Option.some.inj hx4.2.2.1] at e2
  clear hob hcl hn3 hm3 hgl hx4
  go_upto_region 6 with (fail)
  go_wp2_with fail
  refine (HBI.out _).mono ?_
  rintro e w5 ⟨rfl, hb⟩
  obtain ⟨ys, hys⟩ : ∃ ys, trs xs a bits 32 = ys := ⟨_, rfl⟩
  rw [hys] at HPUT ⊢
  have HYS := hid hys
  clear hys e2 f2
  have HO5 := hid (own_keep HO3.out hb)
  have HB5 := hid (HB3.out.trans (hb.mono HB3.out.size))
  clear hb HO3 HB3
  obtain ⟨g4, c4, hA, hg4, hn4, hm4, hcl, hob, hgl⟩ := own_open HO5.out (by omega) (by omega)
  cases hA
  obtain ⟨e2, f2⟩ := hcl (k * 4 + 2) (by rw [tcells_length]; omega)
  have HST := hid (And.intro (hob (k * 4 + 2) (.string (str ys))) (show Below W.heap.size W (w5.setCell ⟨g3, k * 4 + 2, none⟩ (.string (str ys))) from HB5.out.setCell hg3 _))
  clear hcl hob hn4 hm4 hgl hg4 HO5
  go_upto_region 7 with (fail)
  refine at_world (fun u => u.ownsRow W.heap.size 64 4 (.slice (some ⟨g3, 0, none⟩) l.length c3) l.length ((tcells l).set (k * 4 + 2) (.string (str ys))) ∧ Below W.heap.size W u) HST.out ?_
  clear e2 f2 HST HB5
  rintro w6 ⟨ho6, hb6⟩
  obtain ⟨g4, c4, hA, hg4, hn4, hm4, hcl, hob, hgl⟩ := own_open ho6 (by omega) (by omega)
  cases hA
  obtain ⟨e3, f3⟩ := hcl (k * 4 + 3) (by rw [List.length_set, tcells_length]; omega)
  have HST := hid (And.intro (hob (k * 4 + 3) (.bool true)) (show Below W.heap.size W (w6.setCell ⟨g3, k * 4 + 3, none⟩ (.bool true)) from hb6.setCell hg3 _))
  clear hcl hob hn4 hm4 hgl hg4 ho6 hb6
  go_upto_region 8 with (fail)
  refine at_world (fun u => u.ownsRow W.heap.size 64 4 (.slice (some ⟨g3, 0, none⟩) l.length c3) l.length (((tcells l).set (k * 4 + 2) (.string (str ys))).set (k * 4 + 3) (.bool true)) ∧ Below W.heap.size W u) HST.out ?_
  clear e3 f3 HST
  rintro w7 ⟨ho7, hb7⟩
  have h9 : ((tcells l).set (k * 4 + 2) (.string (str ys))).set (k * 4 + 3) (.bool true) = tcells (l.set k ⟨f, t, ys, true⟩) := by
    rw [HPUT.out, set_same HX4.out.1, set_same HX4.out.2.1]
  rw [h9] at ho7
  have HF := hid (rnAt_set (keep0 HC.out hb7) ho7 hB HCB.out (by rw [List.length_set]) rfl)
  have HT := hid ((Tch.of_below (S := fun g => g = c) hb7).set c 0 (.slice (some ⟨g3, 0, none⟩) l.length c3) (fun _ => rfl))
  obtain ⟨n0, n1, nf0, nf1⟩ := two_cells (keep0 HC.out hb7)
  clear h9 ho7 hb7 HPUT HX4
  go_wp2
  go_ret
  exact ⟨rfl, by rw [HYS.out]; exact HF.out, HT.out⟩
end Go.Proofs.Ytdphdodjidbngaa
