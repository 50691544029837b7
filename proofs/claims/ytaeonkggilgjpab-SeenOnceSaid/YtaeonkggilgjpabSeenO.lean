/- SeenOnce, as a walk. -/
import Derived.Test.YtaeonkggilgjpabSeenL
import Derived.Test.YtaeonkggilgjpabRd
import Derived.Deep.RegionHeld3
set_option linter.unusedSimpArgs false
namespace Go.Proofs.Ytaeonkggilgjpab
open Go.RowKit Go.Sort

theorem fresh_step {m p l i me s : Int} (hl : 0 ≤ l) (h : gC m p l i me s = 1) : ¬ i < p ∧ m = me ∧ s = gL p l i + 1 ∧ gP p i = i ∧ gN m p l i me s = s := by
  rcases g_case (m := m) (p := p) (inc := i) (me := me) (seq := s) hl with ⟨a, c, _⟩ | ⟨_, _, c, _⟩ | ⟨_, _, c, _⟩ | ⟨a, b, c, d, e⟩ | ⟨_, _, _, _, c, _⟩ | ⟨_, _, _, c, _⟩
  · omega
  · omega
  · omega
  · refine ⟨a, b, c, ?_, e⟩
    unfold gP; split <;> omega
  · omega
  · omega
theorem stale_step {m p l i me s : Int} (hl : 0 ≤ l) (hl2 : l ≤ 9223372036854775807) (h : ¬ gC m p l i me s = 1) : 0 ≤ gN m p l i me s ∧ gN m p l i me s ≤ 9223372036854775807 ∧ ((gN m p l i me s = l ∧ gP p i = p) ∨ (gN m p l i me s = 0 ∧ p < gP p i)) := by
  have hL : (gL p l i = l ∧ gP p i = p) ∨ (gL p l i = 0 ∧ p < gP p i) := by
    unfold gL gP
    by_cases h : p < i
    · right; simp [h]
    · left; simp [h]
  rcases g_case (m := m) (p := p) (inc := i) (me := me) (seq := s) hl with ⟨a, c, d, e⟩ | ⟨_, _, c, d⟩ | ⟨_, _, c, d⟩ | ⟨a, b, c, d, e⟩ | ⟨_, _, _, _, c, d⟩ | ⟨_, _, _, c, d⟩
  · rw [d, e]; omega
  · rw [d]; omega
  · rw [d]; omega
  · omega
  · rw [d]; omega
  · rw [d]; omega

theorem seenOnce_big (me : Int) (a : Option Addr) (len cap : Nat) (W : World) (h : 200 < len) (hm : len ≤ maxLen) :
    Calls Try.prog 4 #[.int .i64 me, .slice a len cap] W fun e w' => e = .returned (.bool true) ∧ Below W.heap.size W w' := by
  unfold maxLen at hm
  go_enter Try.func4, Try.ntmps4
  go_wp2_with fail
  refine (works25_any _).mono ?_
  rintro e w1 ⟨rfl, hb⟩
  go_wp2
  go_ret
  exact ⟨rfl, hb⟩

set_option maxHeartbeats 2000000 in
set_option maxRecDepth 20000 in
theorem seenOnce_small (me : Int) (A : Option Addr) (len cap : Nat) (W : World) (h : len ≤ 200) (f : Nat → Nat → Int)
    (hw : ∀ i j, -9223372036854775808 ≤ f i j ∧ f i j ≤ 9223372036854775807)
    (hz : 0 < len → ∃ b off, A = some ⟨b, off, none⟩ ∧ ∀ i, i < len → ∀ j, j < 3 → W.cell? ⟨b, off + i * 3 + j, none⟩ = some (.int .i64 (f i j))) :
    Calls Try.prog 4 #[.int .i64 me, .slice A len cap] W fun e w' => e = .returned (.bool true) ∧ Below W.heap.size W w' := by
  have HT := hid take_any
  have HW := hid hw
  have HZ := hid hz
  clear hw hz
  go_enter Try.func4, Try.ntmps4
  go_wp2_with fail
  refine (snew_any me _).mono ?_
  rintro e w1 ⟨rfl, hb⟩
  have k6 := heap_alloc_new w1 (.cells #[.int .i64 me, .int .i64 1, .int .i64 0] 26)
  have b6 := hb.alloc hb.size (.cells #[.int .i64 me, .int .i64 1, .int .i64 0] 26)
  have HS := hid (And.intro b6 k6); clear b6 k6
  have hWX : W.heap.size ≤ w1.heap.size := hb.size
  clear hb
  go_upto_region 6 with (fail)
  go_loopw [6, 7, 8] (fun c t i wr => ∃ (k : Nat) (inc last p l : Int), k ≤ len ∧ i = .int .i64 (k : Int) ∧ c = .int .i64 inc ∧ t = .int .i64 last ∧ Below W.heap.size W wr ∧ Hid (wr.heap[w1.heap.size]? = some (.cells #[.int .i64 me, .int .i64 p, .int .i64 l] 26 (0, 0)) ∧ 0 ≤ l ∧ l ≤ 9223372036854775807 ∧ ((inc = p ∧ last = l) ∨ (inc < p ∧ l = 0)))) (fun _ _ i _ => len - (intOf i).toNat)
  case atStart => exact ⟨0, 0, 0, 1, 0, by omega, rfl, rfl, rfl, HS.out.1, HS.out.2, by omega, by omega, .inr ⟨by omega, rfl⟩⟩
  case round =>
    obtain ⟨k, inc, last, p, l, hk, rfl, rfl, rfl, hbr, HK⟩ := hrel
    by_cases hlt : k < len
    · obtain ⟨hblk, h0, h1, hor⟩ := HK.out
      obtain ⟨⟨p0, p1, p2⟩, f0, f1, f2⟩ := three_cells hblk
      obtain ⟨b, off, rfl, hcl⟩ := HZ.out (by omega)
      have c0 := hcl k hlt 0 (by omega)
      have c1 := hcl k hlt 1 (by omega)
      have c2 := hcl k hlt 2 (by omega)
      simp only [Nat.add_zero] at c0
      have hbW : b < W.heap.size := lt_of_cell (a := ⟨b, _, none⟩) c0
      have d0 := (hbr.cell (p := ⟨b, off + k * 3, none⟩) hbW).trans c0
      have d1 := (hbr.cell (p := ⟨b, off + k * 3 + 1, none⟩) hbW).trans c1
      have d2 := (hbr.cell (p := ⟨b, off + k * 3 + 2, none⟩) hbW).trans c2
      have HC := hid (And.intro c0 (And.intro c1 c2))
      have HK2 := hid (And.intro h0 (And.intro h1 hor))
      clear hor hcl h0 h1 c0 c1 c2 hblk
      have hX : w1.heap.size < wr.heap.size := lt_of_cell p0
      have hBb : b < wr.heap.size := by omega
      have hY := World.new_ne wr _ p0
      have hY2 := World.new_ne wr _ d0
      go_upto_region 8 with (fail)
      go_region_held3 (fun w' => (w'.cell? ⟨w1.heap.size, 0, none⟩ = some (.int .i64 me) ∧ w'.cell? ⟨w1.heap.size, 1, none⟩ = some (.int .i64 p) ∧ w'.cell? ⟨w1.heap.size, 2, none⟩ = some (.int .i64 l)) ∧ w'.cell? ⟨b, off + k * 3, none⟩ = some (.int .i64 (f k 0)) ∧ w'.cell? ⟨b, off + k * 3 + 1, none⟩ = some (.int .i64 (f k 1)) ∧ w'.cell? ⟨b, off + k * 3 + 2, none⟩ = some (.int .i64 (f k 2)))
        (first
          | exact ⟨⟨p0, p1, p2⟩, d0, d1, d2⟩
          | exact ⟨⟨g0, g1, g2⟩, g3, g4, g5⟩
          | (simp [World.cell?_alloc_some, p0, p1, p2, d0, d1, d2]; done)
          | (simp [World.cell?_alloc_some, World.cell?_setCell_far, g0, g1, g2, g3, g4, g5, n6, n7, hY, hY2]; done))
        (first | (go_at_call 15; refine (HT.out me p l (f k 0) (f k 1) (f k 2) _ ?_ ?_ ?_ ?_).mono ?_; (exact HK2.out.1); (exact (HW.out k 2).2); (exact (HW.out k 2).1); (exact HK2.out.2.1); rintro e w6 ⟨rfl, hb6⟩; have n6 : w6.heap.size ≠ w1.heap.size := (by have := hb6.size; simp at this; omega); have n7 : w6.heap.size ≠ b := (by have := hb6.size; simp at this; omega)
                  have g0 := cellb hb6 (a := ⟨w1.heap.size, 0, none⟩) (v := .int .i64 me) (by simp [World.cell?_alloc_some, p0])
                  have g1 := cellb hb6 (a := ⟨w1.heap.size, 1, none⟩) (v := .int .i64 p) (by simp [World.cell?_alloc_some, p1])
                  have g2 := cellb hb6 (a := ⟨w1.heap.size, 2, none⟩) (v := .int .i64 l) (by simp [World.cell?_alloc_some, p2])
                  have g3 := cellb hb6 (a := ⟨b, off + k * 3, none⟩) (v := .int .i64 (f k 0)) (by simp [World.cell?_alloc_some, d0])
                  have g4 := cellb hb6 (a := ⟨b, off + k * 3 + 1, none⟩) (v := .int .i64 (f k 1)) (by simp [World.cell?_alloc_some, d1])
                  have g5 := cellb hb6 (a := ⟨b, off + k * 3 + 2, none⟩) (v := .int .i64 (f k 2)) (by simp [World.cell?_alloc_some, d2])
                  try (have y0 := keep0 (w := World.drew (wr.alloc (.cells #[.int .i64 0, .int .i64 0, .int .i64 0] 26))) (heap_alloc_new wr _) hb6; obtain ⟨⟨y0, y1, y2⟩, y3, y4, y5⟩ := three_cells y0)))
      · have hb7 := undrew hb6
        refine at_world (fun w => w.heap[w6.heap.size]? = some (.cells #[.int .i64 me, .int .i64 (gP p (f k 0)), .int .i64 (gN me p l (f k 0) (f k 1) (f k 2))] 26 (0, 0)) ∧ w.heap[w1.heap.size]? = some (.cells #[.int .i64 me, .int .i64 p, .int .i64 l] 26 (0, 0)) ∧ Below W.heap.size W w) ⟨heap_alloc_new _ _, keep1 (HK.out.1) hb7, (hbr.trans (hb7.mono hbr.size)).alloc ((hbr.trans (hb7.mono hbr.size)).size) _⟩ ?_
        obtain ⟨Z, hZ⟩ : ∃ Z, Z = w6.heap.size := ⟨_, rfl⟩
        rw [← hZ] at n6 ⊢
        clear hb6 hb7 HT g0 g1 g2 g3 g4 g5 n7 d0 d1 d2 p0 p1 p2 f0 f1 f2 hZ
        rintro w7 ⟨kz, kx, hb8⟩
        obtain ⟨⟨s0, s1, s2⟩, t0, t1, t2⟩ := three_cells kz
        obtain ⟨⟨q0, q1, q2⟩, v0, v1, v2⟩ := three_cells kx
        have KZ := hid (And.intro kz kx)
        clear kz kx
        go_upto_region 10 with (fail)
        refine at_world (fun w => w.heap[w1.heap.size]? = some (.cells #[.int .i64 me, .int .i64 (gP p (f k 0)), .int .i64 (gN me p l (f k 0) (f k 1) (f k 2))] 26 (0, 0)) ∧ Below W.heap.size W w) ⟨set_three KZ.out.2 _ _ _, ((hb8.setCell (by exact hWX) _).setCell (by exact hWX) _).setCell (by exact hWX) _⟩ ?_
        clear KZ s0 s1 s2 t0 t1 t2 q0 q1 q2 v0 v1 v2 hb8
        rintro w8 ⟨kx, hb9⟩
        have KX := hid kx
        clear kx
        have c0 := (hb9.cell (p := ⟨b, off + k * 3, none⟩) hbW).trans HC.out.1
        have c1 := (hb9.cell (p := ⟨b, off + k * 3 + 1, none⟩) hbW).trans HC.out.2.1
        have c2 := (hb9.cell (p := ⟨b, off + k * 3 + 2, none⟩) hbW).trans HC.out.2.2
        by_cases hc : gC me p l (f k 0) (f k 1) (f k 2) = 1
        · obtain ⟨F1, F2, F3, F4, F5⟩ := fresh_step HK2.out.1 hc
          rw [hc]
          rw [F4, F5] at KX
          have F6 : ¬ f k 0 < inc := by have := HK2.out; omega
          have HF := hid F3
          have F9 := HW.out k 2
          have F8 : 1 ≤ f k 2 := by
            have := HK2.out
            have : gL p l (f k 0) = l ∨ gL p l (f k 0) = 0 := by unfold gL; split <;> simp
            omega
          have F10 := hid (And.intro F8 F9)
          rw [← F2] at c1
          by_cases hlt2 : inc < f k 0
          · have F7 : f k 2 = 1 := by
              have h1 := HK2.out
              have : gL p l (f k 0) = 0 := by
                unfold gL
                split
                · rfl
                · omega
              omega
            rw [F7] at c2 KX
            clear F3 F4 F5 F1 hc F7 F8 F9
            go_wp2
            go_roundw
            case rel => exact ⟨k + 1, f k 0, 1, f k 0, 1, by omega, by go_num, rfl, rfl, hb9, KX.out, by omega, by omega, .inl ⟨rfl, rfl⟩⟩
            case measure => simp [intOf]; omega
          · have F7 : f k 2 - 1 = last := by
              have h1 := HK2.out
              have : gL p l (f k 0) = l := by
                unfold gL
                split
                · omega
                · rfl
              omega
            have F11 : f k 2 = last + 1 := by omega
            have F12 : f k 0 = inc := by
              have h1 := HK2.out
              omega
            clear F3 F4 F5 F1 hc
            go_wp2
            go_roundw
            case rel => exact ⟨k + 1, inc, f k 2, f k 0, f k 2, by omega, by go_num, rfl, by rw [F11], hb9, KX.out, by have := F10.out; omega, F10.out.2.2, .inl ⟨F12.symm, rfl⟩⟩
            case measure => simp [intOf]; omega
        · have F := stale_step (me := f k 1) HK2.out.1 HK2.out.2.1 hc
          have HF := hid F
          have hc2 : (gC me p l (f k 0) (f k 1) (f k 2) == 1) = false := by simp [hc]
          clear F hc
          go_wp2
          go_roundw
          case rel =>
            obtain ⟨h1, h2, h3⟩ := HF.out
            have h4 := HK2.out
            exact ⟨k + 1, inc, last, _, _, by omega, by go_num, rfl, rfl, hb9, KX.out, h1, h2, by omega⟩
          case measure => simp [intOf]; omega
      · have hb7 := unalloc hb6
        have hz : wr.heap.size ≠ w1.heap.size := hY
        refine at_world (fun w => w.heap[wr.heap.size]? = some (.cells #[.int .i64 me, .int .i64 (gP p (f k 0)), .int .i64 (gN me p l (f k 0) (f k 1) (f k 2))] 26 (0, 0)) ∧ w.heap[w1.heap.size]? = some (.cells #[.int .i64 me, .int .i64 p, .int .i64 l] 26 (0, 0)) ∧ Below W.heap.size W w) ⟨set_three hb7.2 _ _ _, ?_, ?_⟩ ?_
        · rw [Below.heap_setCell _ _ _ _ (by simp; omega), Below.heap_setCell _ _ _ _ (by simp; omega), Below.heap_setCell _ _ _ _ (by simp; omega)]
          exact keep0 HK.out.1 hb7.1
        · have hb8 := hbr.trans (hb7.1.mono hbr.size)
          exact ((hb8.setCell (by exact hbr.size) _).setCell (by exact hbr.size) _).setCell (by exact hbr.size) _
        obtain ⟨Z, hZ⟩ : ∃ Z, Z = wr.heap.size := ⟨_, rfl⟩
        clear n6
        have n6 := hz
        rw [← hZ] at n6 ⊢
        clear hb6 hb7 HT g0 g1 g2 g3 g4 g5 n7 d0 d1 d2 p0 p1 p2 f0 f1 f2 hZ
        rintro w7 ⟨kz, kx, hb8⟩
        obtain ⟨⟨s0, s1, s2⟩, t0, t1, t2⟩ := three_cells kz
        obtain ⟨⟨q0, q1, q2⟩, v0, v1, v2⟩ := three_cells kx
        have KZ := hid (And.intro kz kx)
        clear kz kx
        go_upto_region 10 with (fail)
        refine at_world (fun w => w.heap[w1.heap.size]? = some (.cells #[.int .i64 me, .int .i64 (gP p (f k 0)), .int .i64 (gN me p l (f k 0) (f k 1) (f k 2))] 26 (0, 0)) ∧ Below W.heap.size W w) ⟨set_three KZ.out.2 _ _ _, ((hb8.setCell (by exact hWX) _).setCell (by exact hWX) _).setCell (by exact hWX) _⟩ ?_
        clear KZ s0 s1 s2 t0 t1 t2 q0 q1 q2 v0 v1 v2 hb8
        rintro w8 ⟨kx, hb9⟩
        have KX := hid kx
        clear kx
        have c0 := (hb9.cell (p := ⟨b, off + k * 3, none⟩) hbW).trans HC.out.1
        have c1 := (hb9.cell (p := ⟨b, off + k * 3 + 1, none⟩) hbW).trans HC.out.2.1
        have c2 := (hb9.cell (p := ⟨b, off + k * 3 + 2, none⟩) hbW).trans HC.out.2.2
        by_cases hc : gC me p l (f k 0) (f k 1) (f k 2) = 1
        · obtain ⟨F1, F2, F3, F4, F5⟩ := fresh_step HK2.out.1 hc
          rw [hc]
          rw [F4, F5] at KX
          have F6 : ¬ f k 0 < inc := by have := HK2.out; omega
          have HF := hid F3
          have F9 := HW.out k 2
          have F8 : 1 ≤ f k 2 := by
            have := HK2.out
            have : gL p l (f k 0) = l ∨ gL p l (f k 0) = 0 := by unfold gL; split <;> simp
            omega
          have F10 := hid (And.intro F8 F9)
          rw [← F2] at c1
          by_cases hlt2 : inc < f k 0
          · have F7 : f k 2 = 1 := by
              have h1 := HK2.out
              have : gL p l (f k 0) = 0 := by
                unfold gL
                split
                · rfl
                · omega
              omega
            rw [F7] at c2 KX
            clear F3 F4 F5 F1 hc F7 F8 F9
            go_wp2
            go_roundw
            case rel => exact ⟨k + 1, f k 0, 1, f k 0, 1, by omega, by go_num, rfl, rfl, hb9, KX.out, by omega, by omega, .inl ⟨rfl, rfl⟩⟩
            case measure => simp [intOf]; omega
          · have F7 : f k 2 - 1 = last := by
              have h1 := HK2.out
              have : gL p l (f k 0) = l := by
                unfold gL
                split
                · omega
                · rfl
              omega
            have F11 : f k 2 = last + 1 := by omega
            have F12 : f k 0 = inc := by
              have h1 := HK2.out
              omega
            clear F3 F4 F5 F1 hc
            go_wp2
            go_roundw
            case rel => exact ⟨k + 1, inc, f k 2, f k 0, f k 2, by omega, by go_num, rfl, by rw [F11], hb9, KX.out, by have := F10.out; omega, F10.out.2.2, .inl ⟨F12.symm, rfl⟩⟩
            case measure => simp [intOf]; omega
        · have F := stale_step (me := f k 1) HK2.out.1 HK2.out.2.1 hc
          have HF := hid F
          have hc2 : (gC me p l (f k 0) (f k 1) (f k 2) == 1) = false := by simp [hc]
          clear F hc
          go_wp2
          go_roundw
          case rel =>
            obtain ⟨h1, h2, h3⟩ := HF.out
            have h4 := HK2.out
            exact ⟨k + 1, inc, last, _, _, by omega, by go_num, rfl, rfl, hb9, KX.out, h1, h2, by omega⟩
          case measure => simp [intOf]; omega
    · have hkl : k = len := by omega
      subst hkl
      go_wp2_with fail
      refine (works25_any _).mono ?_
      rintro e w9 ⟨rfl, hb9⟩
      go_wp2
      go_ret
      exact ⟨rfl, hbr.trans (hb9.mono hbr.size)⟩

theorem seenOnce_any (me : Int) (A : Option Addr) (len cap : Nat) (W : World) (w1 : Rd Try.prog W 35 [.slice A len cap]) :
    Calls Try.prog 4 #[.int .i64 me, .slice A len cap] W fun e w' => e = .returned (.bool true) ∧ Below W.heap.size W w' := by
  obtain ⟨h1, h2, h3⟩ := Rd.slice_plain Try.underlying35 (n := 3) (by kernel_rfl) (by omega) w1
  by_cases h : len ≤ 200
  · by_cases h0 : 0 < len
    · obtain ⟨b, off, rfl, z, hz⟩ := h3 h0
      have key : ∀ i, i < len → ∃ x : Int × Int × Int, z i = [.int .i64 x.1, .int .i64 x.2.1, .int .i64 x.2.2] ∧ (Lit.int .i64 x.1).wf = true ∧ (Lit.int .i64 x.2.1).wf = true ∧ (Lit.int .i64 x.2.2).wf = true := fun i hi => by
        obtain ⟨xs, hx⟩ := Rd.array_ints Try.underlying24 Try.underlying3 (by kernel_rfl) (by kernel_rfl) (hz i hi).2.1
        obtain ⟨a, b, c, e, g1, g2, g3⟩ := ints3 (cs := (z i).toArray) hx
        exact ⟨⟨a, b, c⟩, by simpa using congrArg Array.toList e, g1, g2, g3⟩
      obtain ⟨g, hg⟩ := Go.Deep.choose_lt (α := Int × Int × Int) key
      refine seenOnce_small me _ len cap W h (fun i j => if i < len then (if j = 0 then (g i).1 else if j = 1 then (g i).2.1 else (g i).2.2) else 0) ?_ ?_
      · intro i j
        by_cases hi : i < len
        · simp only [hi, if_true]
          split
          · exact wf_i64 (hg i hi).2.1
          · split
            · exact wf_i64 (hg i hi).2.2.1
            · exact wf_i64 (hg i hi).2.2.2
        · simp only [hi, if_false]; omega
      · refine fun _ => ⟨b, off, rfl, fun i hi j hj => ?_⟩
        rw [(hz i hi).2.2 j hj, (hg i hi).1]
        simp only [hi, if_true]
        match j, hj with
        | 0, _ => rfl
        | 1, _ => rfl
        | 2, _ => rfl
    · exact seenOnce_small me A len cap W h (fun _ _ => 0) (fun _ _ => by omega) (fun h => absurd h h0)
  · exact seenOnce_big me A len cap W (by omega) (by omega)
end Go.Proofs.Ytaeonkggilgjpab
