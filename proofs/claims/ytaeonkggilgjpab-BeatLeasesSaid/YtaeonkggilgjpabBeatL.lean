/- BeatLeases, as a walk. -/
import Derived.Test.YtaeonkggilgjpabBeatD
namespace Go.Proofs.Ytaeonkggilgjpab
open Go.RowKit Go.Sort
set_option linter.unusedVariables false
set_option linter.unusedSimpArgs false

def ft (t a : Int) : Int := if a < t then a + 1 else a
theorem ft_nn {t a : Int} (h : 0 ≤ a) : 0 ≤ ft t a := by unfold ft; split <;> omega
theorem tk3 (t a b c : Int) : tk t [a, b, c] = [ft t a, ft t b, ft t c] := rfl
theorem ft_lt {t a : Int} (h : a < t) : ft t a = a + 1 := by simp [ft, h]
theorem mod_step (i n : Nat) (hi : 1 ≤ i) (hn : 0 < n) : (i % n = 0 ∧ (i - 1) % n + 1 = n) ∨ (i % n ≠ 0 ∧ i % n = (i - 1) % n + 1) := by
  obtain ⟨j, rfl⟩ : ∃ j, i = j + 1 := ⟨i - 1, by omega⟩
  have h1 := Nat.div_add_mod j n
  have h2 := Nat.mod_lt j hn
  rw [Nat.add_sub_cancel]
  rcases Nat.lt_or_ge (j % n + 1) n with h | h
  · right
    have : (j + 1) % n = j % n + 1 := by
      rw [show j + 1 = n * (j / n) + (j % n + 1) by omega, Nat.mul_add_mod, Nat.mod_eq_of_lt h]
    omega
  · left
    have : (j + 1) % n = 0 := by
      rw [show j + 1 = n * (j / n) + (j % n + 1) by omega, show j % n + 1 = n by omega, Nat.mul_add_mod, Nat.mod_self]
    omega

/-- What the law's own variable holds: an ear of three, in block Y. -/
def Ear3 (W wr : World) (Y L : Nat) (a b c : Int) : Prop :=
  ∃ A cp, wr.heap[Y]? = some (.cells #[.int .i64 0, .int .i64 L, .slice A 3 cp] 133 (0, 0)) ∧ Sl wr 1 A 3 cp (icells .i64 [a, b, c]) ∧ Below W.heap.size W wr

theorem ear_store {W w w2 : World} {Y L : Nat} {A0 A : Option Addr} {c0 cp : Nat} {a b c : Int} (h0 : w.heap[Y]? = some (.cells #[.int .i64 0, .int .i64 L, .slice A0 3 c0] 133 (0, 0))) (hb0 : Below W.heap.size W w) (hb : Below w.heap.size w w2) (hY : W.heap.size ≤ Y)
    (ho : w2.ownsRow w.heap.size 3 1 (.slice A 3 cp) 3 (icells .i64 [a, b, c])) :
    Ear3 W (((w2.setCell ⟨Y, 0, none⟩ (.int .i64 0)).setCell ⟨Y, 1, none⟩ (.int .i64 L)).setCell ⟨Y, 2, none⟩ (.slice A 3 cp)) Y L a b c := by
  have hlt := lt_of_block h0
  have h1 := keep0 h0 hb
  exact ⟨A, cp, set_three h1 _ _ _, sl_own (own_setOld (own_setOld (own_setOld ho _ _ (by simpa using hlt)) _ _ (by simpa using hlt)) _ _ (by simpa using hlt)), (((hb0.trans (hb.mono hb0.size)).setCell (by exact hY) _).setCell (by exact hY) _).setCell (by exact hY) _⟩

set_option maxHeartbeats 1000000 in
theorem beatLeases_pos (L n T : Nat) (W : World) (hL0 : 0 < L) (hL : L < 256) (hn : n < 256) (hT : T < 256) :
    Calls Try.prog 13 #[.int .u8 L, .int .u8 n, .int .u8 T] W fun e w' => e = .returned (.bool true) ∧ Below W.heap.size W w' := by
  have HN := hid (bnew_any 3 0 L)
  rw [show nw 3 = 3 from rfl] at HN
  have HT := hid (fun A c w (a b d : Int) (h : Sl w 1 A 3 c (icells .i64 [a, b, d])) (ha : 0 ≤ a) (hb : 0 ≤ b) (hd : 0 ≤ d) => btick_any 0 L A 3 c [a, b, d] w h (by omega) (by omega) (by intro x hx; simp only [List.mem_cons, List.not_mem_nil, or_false] at hx; omega))
  have HS := hid (fun A c w (a b d : Int) k (h : Sl w 1 A 3 c (icells .i64 [a, b, d])) => silent_any 0 L A 3 c [a, b, d] k w h)
  have HH := hid (fun A c w (a b d : Int) k (h : Sl w 1 A 3 c (icells .i64 [a, b, d])) => bhear_any 0 L A 3 c [a, b, d] k w h (by omega))
  simp only [tk3] at HT
  have e0 : ((L : Int) == 0) = false := by simp; omega
  go_enter Try.func13, Try.ntmps13
  go_wp2_with fail
  refine (HN.out _).mono ?_
  rintro e w1 ⟨v, rfl, hb, ho⟩
  obtain ⟨A1, c1, rfl, hs⟩ := Sl.of_own ho
  have K1 : Hid (Ear3 W (w1.alloc (.cells #[.int .i64 0, .int .i64 L, .slice A1 3 c1] 133)) w1.heap.size L 0 0 0) := ⟨A1, c1, heap_alloc_new _ _, hs.below ((Below.refl _ _).alloc (Nat.le_refl _) _), hb.alloc hb.size _⟩
  have hY : W.heap.size ≤ w1.heap.size := hb.size
  clear hs ho hb
  go_upto_region 5 with (fail)
  go_loopw [8] (fun s wr => ∃ (i : Nat) (a c : Int), 1 ≤ i ∧ i ≤ T + 1 ∧ s = .int .i64 (i : Int) ∧ 0 ≤ a ∧ 0 ≤ c ∧ Hid (Ear3 W wr w1.heap.size L a (((i - 1) % n : Nat) : Int) c)) (fun s _ => T + 1 - (intOf s).toNat)
  case atStart => exact ⟨1, 0, 0, by omega, by omega, rfl, by omega, by omega, by simpa using K1⟩
  case round =>
    obtain ⟨i, a, c, hi1, hi2, rfl, ha, hc, HK⟩ := hrel
    clear K1
    by_cases hcond : i ≤ T ∧ 0 < n ∧ n < L
    · obtain ⟨h1, h2, h3⟩ := hcond
      obtain ⟨A, cp, k0, hs, hb⟩ := HK.out
      obtain ⟨⟨p0, p1, p2⟩, f0, f1, f2⟩ := three_cells k0
      have hm := Nat.mod_lt (i - 1) h2
      have hstep := mod_step i n hi1 h2
      have HM : Hid (((i + 1 - 1) % n : Nat) = i % n) := by rw [Nat.add_sub_cancel]; rfl
      generalize (i - 1) % n = m at *
      have H1 : (i : Int) ≤ T := by omega
      have H2 : (0 : Int) < n := by omega
      have H3 : (n : Int) < L := by omega
      have H4 : ¬ (n : Int) = 0 := by omega
      have HMS := hid hstep
      clear hstep
      go_wp2_with fail
      refine (HT.out _ _ _ a m c hs ha (by omega) hc).mono ?_
      rintro e w2 ⟨v2, rfl, hb2, ho2⟩
      obtain ⟨A2, c2, rfl, _⟩ := Sl.of_own ho2
      have K2 := hid (ear_store k0 hb hb2 hY ho2)
      rw [ft_lt (show (m : Int) < L by omega)] at K2
      have k02 := keep0 k0 hb2
      clear hs hb hb2 ho2 p0 p1 p2 f0 f1 f2 k0
      obtain ⟨⟨p0, p1, p2⟩, f0, f1, f2⟩ := three_cells k02
      go_upto_region 8 with (fail)
      refine at_world (fun w => Ear3 W w w1.heap.size L (ft L a) ((m : Int) + 1) (ft L c)) K2.out ?_
      clear K2 k02 p0 p1 p2 f0 f1 f2
      rintro w3 ⟨A3, c3, k3, hs3, hb3⟩
      obtain ⟨⟨p0, p1, p2⟩, f0, f1, f2⟩ := three_cells k3
      have hsil : sil 0 L 1 [ft L a, (m : Int) + 1, ft L c] = false := by simp [sil]; omega
      have HS1 := HS.out A3 c3 w3 (ft L a) ((m : Int) + 1) (ft L c) 1 hs3
      rw [hsil] at HS1
      have HS1' := hid HS1
      clear HS1 hsil
      go_wp2_with fail
      refine HS1'.out.mono ?_
      rintro e w4 ⟨rfl, hb4⟩
      have K4 := hid (And.intro (keep0 k3 hb4) (And.intro (hs3.below hb4) (hb3.trans (hb4.mono hb3.size))))
      clear k3 hs3 hb3 hb4 p0 p1 p2 f0 f1 f2 HS1'
      obtain ⟨k4, hs4, hb4⟩ := K4.out
      obtain ⟨⟨p0, p1, p2⟩, f0, f1, f2⟩ := three_cells k4
      rcases HMS.out with ⟨h5, h6⟩ | ⟨h5, h6⟩
      · have e5 : ((i : Int) % (n : Int) == 0) = true := by
          have : ((i : Int) % (n : Int)) = ((i % n : Nat) : Int) := rfl
          rw [this, h5]; rfl
        have H5 := hid h5
        clear h5 h6
        go_wp2_with fail
        refine (HH.out _ _ _ _ _ _ 1 hs4).mono ?_
        rintro e w5 ⟨v5, rfl, hb5, ho5⟩
        obtain ⟨A5, c5, rfl, _⟩ := Sl.of_own ho5
        rw [show hr 1 [ft L a, (m : Int) + 1, ft L c] = [ft L a, 0, ft L c] from rfl] at ho5
        have K5 := hid (ear_store k4 hb4 hb5 hY ho5)
        have k05 := keep0 k4 hb5
        clear hs4 hb4 hb5 ho5 p0 p1 p2 f0 f1 f2 k4 K4
        obtain ⟨⟨p0, p1, p2⟩, f0, f1, f2⟩ := three_cells k05
        go_wp2
        go_roundw
        case rel => exact ⟨i + 1, ft L a, ft L c, by omega, by omega, by go_num, ft_nn ha, ft_nn hc, by rw [HM.out, H5.out]; exact K5.out⟩
        case measure => simp [intOf]; omega
      · have e5 : ((i : Int) % (n : Int) == 0) = false := by
          have : ((i : Int) % (n : Int)) = ((i % n : Nat) : Int) := rfl
          rw [this]; simp; omega
        have H6 := hid h6
        clear h5 h6 k4 hs4 hb4
        go_wp2
        go_roundw
        case rel => exact ⟨i + 1, ft L a, ft L c, by omega, by omega, by go_num, ft_nn ha, ft_nn hc, by rw [HM.out, H6.out]; exact ⟨A3, c3, K4.out⟩⟩
        case measure => simp [intOf]; omega
    · by_cases H1 : (i : Int) ≤ T
      · by_cases H2 : (0 : Int) < n
        · have H3 : ¬ (n : Int) < L := by omega
          obtain ⟨A, cp, k0, hs, hb⟩ := HK.out
          obtain ⟨⟨p0, p1, p2⟩, f0, f1, f2⟩ := three_cells k0
          have hbn : (0 : Int) ≤ (((i - 1) % n : Nat) : Int) := by omega
          generalize (((i - 1) % n : Nat) : Int) = b at *
          clear HK
          go_wp2_with fail
          refine (HH.out _ _ _ a b c 2 hs).mono ?_
          rintro e w2 ⟨v2, rfl, hb2, ho2⟩
          obtain ⟨A2, c2, rfl, _⟩ := Sl.of_own ho2
          rw [show hr 2 [a, b, c] = [a, b, 0] from rfl] at ho2
          have K2 := hid (ear_store k0 hb hb2 hY ho2)
          have k02 := keep0 k0 hb2
          clear hs hb hb2 ho2 p0 p1 p2 f0 f1 f2 k0
          obtain ⟨⟨p0, p1, p2⟩, f0, f1, f2⟩ := three_cells k02
          go_upto_region 14 with (fail)
          refine at_world (fun w => Ear3 W w w1.heap.size L a b 0) K2.out ?_
          clear K2 k02 p0 p1 p2 f0 f1 f2 hc H1
          rintro w3 K3
          have K3' := hid K3
          clear K3
          go_loopw [9] (fun s wr => ∃ (j : Nat) (a b : Int), 1 ≤ j ∧ j ≤ L + 1 ∧ s = .int .i64 (j : Int) ∧ 0 ≤ a ∧ 0 ≤ b ∧ Hid (Ear3 W wr w1.heap.size L a b ((j - 1 : Nat) : Int))) (fun s _ => L + 1 - (intOf s).toNat)
          case atStart => exact ⟨1, a, b, by omega, by omega, rfl, ha, hbn, by simpa using K3'⟩
          case round =>
            obtain ⟨j, a', b', hj1, hj2, rfl, ha', hb', HK⟩ := hrel
            clear K3'
            have hjj : (((j - 1 : Nat) : Int)) = (j : Int) - 1 := by omega
            by_cases hjL : j ≤ L
            · have G1 : (j : Int) ≤ L := by omega
              obtain ⟨A, cp, k0, hs, hb⟩ := HK.out
              rw [hjj] at hs
              clear hjj
              obtain ⟨⟨p0, p1, p2⟩, f0, f1, f2⟩ := three_cells k0
              have hsil : sil 0 L 2 [a', b', (j : Int) - 1] = false := by simp [sil]; omega
              have HS1 := HS.out A cp _ a' b' ((j : Int) - 1) 2 hs
              rw [hsil] at HS1
              have HS1' := hid HS1
              clear HS1 hsil
              go_wp2_with fail
              refine HS1'.out.mono ?_
              rintro e w4 ⟨rfl, hb4⟩
              have K4 := hid (And.intro (keep0 k0 hb4) (And.intro (hs.below hb4) (hb.trans (hb4.mono hb.size))))
              clear k0 hs hb hb4 p0 p1 p2 f0 f1 f2 HS1'
              obtain ⟨k4, hs4, hb4⟩ := K4.out
              obtain ⟨⟨p0, p1, p2⟩, f0, f1, f2⟩ := three_cells k4
              go_wp2_with fail
              refine (HT.out _ _ _ a' b' ((j : Int) - 1) hs4 ha' hb' (by omega)).mono ?_
              rintro e w5 ⟨v5, rfl, hb5, ho5⟩
              obtain ⟨A5, c5, rfl, _⟩ := Sl.of_own ho5
              rw [ft_lt (show (j : Int) - 1 < L by omega), show (j : Int) - 1 + 1 = j by omega] at ho5
              have K5 := hid (ear_store k4 hb4 hb5 hY ho5)
              have k05 := keep0 k4 hb5
              clear hs4 hb4 hb5 ho5 p0 p1 p2 f0 f1 f2 k4 K4
              obtain ⟨⟨p0, p1, p2⟩, f0, f1, f2⟩ := three_cells k05
              go_wp2
              go_roundw
              case rel => exact ⟨j + 1, ft L a', ft L b', by omega, by omega, by go_num, ft_nn ha', ft_nn hb', by rw [Nat.add_sub_cancel]; exact K5.out⟩
              case measure => simp [intOf]; omega
            · obtain rfl : j = L + 1 := by omega
              rw [Nat.add_sub_cancel] at HK
              obtain ⟨A, cp, k0, hs, hb⟩ := HK.out
              clear hjj
              have G1 : ¬ ((L + 1 : Nat) : Int) ≤ L := by omega
              have G2 : ¬ ((L : Int) + 1) ≤ L := by omega
              obtain ⟨⟨p0, p1, p2⟩, f0, f1, f2⟩ := three_cells k0
              have hsil : sil 0 L 2 [a', b', (L : Int)] = true := by simp [sil]
              have HS1 := HS.out A cp _ a' b' (L : Int) 2 hs
              rw [hsil] at HS1
              have HS1' := hid HS1
              clear HS1 hsil
              go_wp2_with fail
              refine HS1'.out.mono ?_
              rintro e w4 ⟨rfl, hb4⟩
              have hb6 := hb.trans (hb4.mono hb.size)
              clear k0 hs hb hb4 p0 p1 p2 f0 f1 f2 HS1'
              go_wp2_with fail
              refine (works37_any _).mono ?_
              rintro e w6 ⟨rfl, hb7⟩
              go_wp2
              go_ret
              exact ⟨rfl, hb6.trans (hb7.mono hb6.size)⟩
        · have hn0 : n = 0 := by omega
          obtain ⟨A, cp, k0, hs, hb⟩ := HK.out
          obtain ⟨⟨p0, p1, p2⟩, f0, f1, f2⟩ := three_cells k0
          have hbn : (0 : Int) ≤ (((i - 1) % n : Nat) : Int) := by omega
          generalize (((i - 1) % n : Nat) : Int) = b at *
          clear HK
          go_wp2_with fail
          refine (HH.out _ _ _ a b c 2 hs).mono ?_
          rintro e w2 ⟨v2, rfl, hb2, ho2⟩
          obtain ⟨A2, c2, rfl, _⟩ := Sl.of_own ho2
          rw [show hr 2 [a, b, c] = [a, b, 0] from rfl] at ho2
          have K2 := hid (ear_store k0 hb hb2 hY ho2)
          have k02 := keep0 k0 hb2
          clear hs hb hb2 ho2 p0 p1 p2 f0 f1 f2 k0
          obtain ⟨⟨p0, p1, p2⟩, f0, f1, f2⟩ := three_cells k02
          go_upto_region 14 with (fail)
          refine at_world (fun w => Ear3 W w w1.heap.size L a b 0) K2.out ?_
          clear K2 k02 p0 p1 p2 f0 f1 f2 hc H1
          rintro w3 K3
          have K3' := hid K3
          clear K3
          go_loopw [9] (fun s wr => ∃ (j : Nat) (a b : Int), 1 ≤ j ∧ j ≤ L + 1 ∧ s = .int .i64 (j : Int) ∧ 0 ≤ a ∧ 0 ≤ b ∧ Hid (Ear3 W wr w1.heap.size L a b ((j - 1 : Nat) : Int))) (fun s _ => L + 1 - (intOf s).toNat)
          case atStart => exact ⟨1, a, b, by omega, by omega, rfl, ha, hbn, by simpa using K3'⟩
          case round =>
            obtain ⟨j, a', b', hj1, hj2, rfl, ha', hb', HK⟩ := hrel
            clear K3'
            have hjj : (((j - 1 : Nat) : Int)) = (j : Int) - 1 := by omega
            by_cases hjL : j ≤ L
            · have G1 : (j : Int) ≤ L := by omega
              obtain ⟨A, cp, k0, hs, hb⟩ := HK.out
              rw [hjj] at hs
              clear hjj
              obtain ⟨⟨p0, p1, p2⟩, f0, f1, f2⟩ := three_cells k0
              have hsil : sil 0 L 2 [a', b', (j : Int) - 1] = false := by simp [sil]; omega
              have HS1 := HS.out A cp _ a' b' ((j : Int) - 1) 2 hs
              rw [hsil] at HS1
              have HS1' := hid HS1
              clear HS1 hsil
              go_wp2_with fail
              refine HS1'.out.mono ?_
              rintro e w4 ⟨rfl, hb4⟩
              have K4 := hid (And.intro (keep0 k0 hb4) (And.intro (hs.below hb4) (hb.trans (hb4.mono hb.size))))
              clear k0 hs hb hb4 p0 p1 p2 f0 f1 f2 HS1'
              obtain ⟨k4, hs4, hb4⟩ := K4.out
              obtain ⟨⟨p0, p1, p2⟩, f0, f1, f2⟩ := three_cells k4
              go_wp2_with fail
              refine (HT.out _ _ _ a' b' ((j : Int) - 1) hs4 ha' hb' (by omega)).mono ?_
              rintro e w5 ⟨v5, rfl, hb5, ho5⟩
              obtain ⟨A5, c5, rfl, _⟩ := Sl.of_own ho5
              rw [ft_lt (show (j : Int) - 1 < L by omega), show (j : Int) - 1 + 1 = j by omega] at ho5
              have K5 := hid (ear_store k4 hb4 hb5 hY ho5)
              have k05 := keep0 k4 hb5
              clear hs4 hb4 hb5 ho5 p0 p1 p2 f0 f1 f2 k4 K4
              obtain ⟨⟨p0, p1, p2⟩, f0, f1, f2⟩ := three_cells k05
              go_wp2
              go_roundw
              case rel => exact ⟨j + 1, ft L a', ft L b', by omega, by omega, by go_num, ft_nn ha', ft_nn hb', by rw [Nat.add_sub_cancel]; exact K5.out⟩
              case measure => simp [intOf]; omega
            · obtain rfl : j = L + 1 := by omega
              rw [Nat.add_sub_cancel] at HK
              obtain ⟨A, cp, k0, hs, hb⟩ := HK.out
              clear hjj
              have G1 : ¬ ((L + 1 : Nat) : Int) ≤ L := by omega
              have G2 : ¬ ((L : Int) + 1) ≤ L := by omega
              obtain ⟨⟨p0, p1, p2⟩, f0, f1, f2⟩ := three_cells k0
              have hsil : sil 0 L 2 [a', b', (L : Int)] = true := by simp [sil]
              have HS1 := HS.out A cp _ a' b' (L : Int) 2 hs
              rw [hsil] at HS1
              have HS1' := hid HS1
              clear HS1 hsil
              go_wp2_with fail
              refine HS1'.out.mono ?_
              rintro e w4 ⟨rfl, hb4⟩
              have hb6 := hb.trans (hb4.mono hb.size)
              clear k0 hs hb hb4 p0 p1 p2 f0 f1 f2 HS1'
              go_wp2_with fail
              refine (works37_any _).mono ?_
              rintro e w6 ⟨rfl, hb7⟩
              go_wp2
              go_ret
              exact ⟨rfl, hb6.trans (hb7.mono hb6.size)⟩
      · skip
        obtain ⟨A, cp, k0, hs, hb⟩ := HK.out
        obtain ⟨⟨p0, p1, p2⟩, f0, f1, f2⟩ := three_cells k0
        have hbn : (0 : Int) ≤ (((i - 1) % n : Nat) : Int) := by omega
        generalize (((i - 1) % n : Nat) : Int) = b at *
        clear HK
        go_wp2_with fail
        refine (HH.out _ _ _ a b c 2 hs).mono ?_
        rintro e w2 ⟨v2, rfl, hb2, ho2⟩
        obtain ⟨A2, c2, rfl, _⟩ := Sl.of_own ho2
        rw [show hr 2 [a, b, c] = [a, b, 0] from rfl] at ho2
        have K2 := hid (ear_store k0 hb hb2 hY ho2)
        have k02 := keep0 k0 hb2
        clear hs hb hb2 ho2 p0 p1 p2 f0 f1 f2 k0
        obtain ⟨⟨p0, p1, p2⟩, f0, f1, f2⟩ := three_cells k02
        go_upto_region 14 with (fail)
        refine at_world (fun w => Ear3 W w w1.heap.size L a b 0) K2.out ?_
        clear K2 k02 p0 p1 p2 f0 f1 f2 hc H1
        rintro w3 K3
        have K3' := hid K3
        clear K3
        go_loopw [9] (fun s wr => ∃ (j : Nat) (a b : Int), 1 ≤ j ∧ j ≤ L + 1 ∧ s = .int .i64 (j : Int) ∧ 0 ≤ a ∧ 0 ≤ b ∧ Hid (Ear3 W wr w1.heap.size L a b ((j - 1 : Nat) : Int))) (fun s _ => L + 1 - (intOf s).toNat)
        case atStart => exact ⟨1, a, b, by omega, by omega, rfl, ha, hbn, by simpa using K3'⟩
        case round =>
          obtain ⟨j, a', b', hj1, hj2, rfl, ha', hb', HK⟩ := hrel
          clear K3'
          have hjj : (((j - 1 : Nat) : Int)) = (j : Int) - 1 := by omega
          by_cases hjL : j ≤ L
          · have G1 : (j : Int) ≤ L := by omega
            obtain ⟨A, cp, k0, hs, hb⟩ := HK.out
            rw [hjj] at hs
            clear hjj
            obtain ⟨⟨p0, p1, p2⟩, f0, f1, f2⟩ := three_cells k0
            have hsil : sil 0 L 2 [a', b', (j : Int) - 1] = false := by simp [sil]; omega
            have HS1 := HS.out A cp _ a' b' ((j : Int) - 1) 2 hs
            rw [hsil] at HS1
            have HS1' := hid HS1
            clear HS1 hsil
            go_wp2_with fail
            refine HS1'.out.mono ?_
            rintro e w4 ⟨rfl, hb4⟩
            have K4 := hid (And.intro (keep0 k0 hb4) (And.intro (hs.below hb4) (hb.trans (hb4.mono hb.size))))
            clear k0 hs hb hb4 p0 p1 p2 f0 f1 f2 HS1'
            obtain ⟨k4, hs4, hb4⟩ := K4.out
            obtain ⟨⟨p0, p1, p2⟩, f0, f1, f2⟩ := three_cells k4
            go_wp2_with fail
            refine (HT.out _ _ _ a' b' ((j : Int) - 1) hs4 ha' hb' (by omega)).mono ?_
            rintro e w5 ⟨v5, rfl, hb5, ho5⟩
            obtain ⟨A5, c5, rfl, _⟩ := Sl.of_own ho5
            rw [ft_lt (show (j : Int) - 1 < L by omega), show (j : Int) - 1 + 1 = j by omega] at ho5
            have K5 := hid (ear_store k4 hb4 hb5 hY ho5)
            have k05 := keep0 k4 hb5
            clear hs4 hb4 hb5 ho5 p0 p1 p2 f0 f1 f2 k4 K4
            obtain ⟨⟨p0, p1, p2⟩, f0, f1, f2⟩ := three_cells k05
            go_wp2
            go_roundw
            case rel => exact ⟨j + 1, ft L a', ft L b', by omega, by omega, by go_num, ft_nn ha', ft_nn hb', by rw [Nat.add_sub_cancel]; exact K5.out⟩
            case measure => simp [intOf]; omega
          · obtain rfl : j = L + 1 := by omega
            rw [Nat.add_sub_cancel] at HK
            obtain ⟨A, cp, k0, hs, hb⟩ := HK.out
            clear hjj
            have G1 : ¬ ((L + 1 : Nat) : Int) ≤ L := by omega
            have G2 : ¬ ((L : Int) + 1) ≤ L := by omega
            obtain ⟨⟨p0, p1, p2⟩, f0, f1, f2⟩ := three_cells k0
            have hsil : sil 0 L 2 [a', b', (L : Int)] = true := by simp [sil]
            have HS1 := HS.out A cp _ a' b' (L : Int) 2 hs
            rw [hsil] at HS1
            have HS1' := hid HS1
            clear HS1 hsil
            go_wp2_with fail
            refine HS1'.out.mono ?_
            rintro e w4 ⟨rfl, hb4⟩
            have hb6 := hb.trans (hb4.mono hb.size)
            clear k0 hs hb hb4 p0 p1 p2 f0 f1 f2 HS1'
            go_wp2_with fail
            refine (works37_any _).mono ?_
            rintro e w6 ⟨rfl, hb7⟩
            go_wp2
            go_ret
            exact ⟨rfl, hb6.trans (hb7.mono hb6.size)⟩

theorem beatLeases_any (l n t : Int) (W : World) (hl : (Lit.int .u8 l).wf = true) (hn : (Lit.int .u8 n).wf = true) (ht : (Lit.int .u8 t).wf = true) :
    Calls Try.prog 13 #[.int .u8 l, .int .u8 n, .int .u8 t] W fun e w' => e = .returned (.bool true) ∧ Below W.heap.size W w' := by
  have h1 := wf_u8 hl
  have h2 := wf_u8 hn
  have h3 := wf_u8 ht
  obtain ⟨L, rfl⟩ := Int.eq_ofNat_of_zero_le h1.1
  obtain ⟨N, rfl⟩ := Int.eq_ofNat_of_zero_le h2.1
  obtain ⟨T, rfl⟩ := Int.eq_ofNat_of_zero_le h3.1
  by_cases h0 : 0 < L
  · exact beatLeases_pos L N T W h0 (by omega) (by omega) (by omega)
  · obtain rfl : L = 0 := by omega
    clear h1 h2 h3 hl hn ht h0
    go_enter Try.func13, Try.ntmps13
    go_wp2_with fail
    refine (works37_any _).mono ?_
    rintro e w6 ⟨rfl, hb7⟩
    go_wp2
    go_ret
    exact ⟨rfl, hb7⟩
end Go.Proofs.Ytaeonkggilgjpab
