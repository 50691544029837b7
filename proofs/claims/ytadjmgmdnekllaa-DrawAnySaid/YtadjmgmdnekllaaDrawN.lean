/- DrawAny. -/
import Derived.Test.YtadjmgmdnekllaaDrawL
namespace Go.Proofs.Ytadjmgmdnekllaa
open Go.RowKit Go.Sort
set_option linter.unusedVariables false
set_option linter.unusedSimpArgs false

/-- These draws tell acc of the set, and leave s. -/
def DA (s0 i : Nat) (l : List Nat) (s : Nat) (acc : List Int) : Prop :=
  l.length = i ∧ acc.length = i ∧ s < 18446744073709551616 ∧ (∀ x ∈ l, x < 18446744073709551616) ∧ ∀ m l2, pk (i + m) (l ++ l2) (elems s0) = (acc ++ (pk m l2 (elems s)).1, (pk m l2 (elems s)).2)
theorem DA.start (s0 : Nat) (h : s0 < 18446744073709551616) : DA s0 0 [] s0 [] := ⟨rfl, rfl, h, by simp, fun m l2 => by simp⟩
theorem count_at (s : Nat) (x : Nat) (hx : x < 64) (h : hasS s (x : Int) = true) : (elemsU s x).length < (elems s).length ∧ (elems s).getD (elemsU s x).length 0 = (x : Int) := by
  have h1 := nth_below s x hx
  rw [h] at h1
  have h2 : nthS s ((elemsU s x).length : Nat) = (x : Int) := by simpa using h1
  have h3 : (elemsU s x).length < (elems s).length := by
    rcases Nat.lt_or_ge (elemsU s x).length (elems s).length with h4 | h4
    · exact h4
    · unfold nthS at h2
      rw [if_neg (by omega), Int.toNat_natCast, List.getD_eq_getElem?_getD, List.getElem?_eq_none h4] at h2
      simp at h2
  refine ⟨h3, ?_⟩
  rw [← (nthS_at s _ h3).1]
  exact h2
theorem DA.next {s0 i : Nat} {l : List Nat} {s : Nat} {acc : List Int} (h : DA s0 i l s acc) (x : Nat) (hx : x < 64) (hh : hasS s (x : Int) = true) : DA s0 (i + 1) (l ++ [(elemsU s x).length]) (lessS s (x : Int)) (acc ++ [(x : Int)]) := by
  obtain ⟨h1, h2, h3, h4, h5⟩ := h
  obtain ⟨c1, c2⟩ := count_at s x hx hh
  have hl : (elemsU s x).length ≤ x := elemsU_len s x
  refine ⟨by simp [h1], by simp [h2], lessS_lt _ _ h3, fun y hy => ?_, fun m l2 => ?_⟩
  · rw [List.mem_append, List.mem_singleton] at hy
    rcases hy with hy | rfl
    · exact h4 y hy
    · omega
  · have h6 := h5 (m + 1) ((elemsU s x).length :: l2)
    rw [pk_step m _ _ (by omega)] at h6
    have h7 : (((elemsU s x).length :: l2).headD 0) % (elems s).length = (elemsU s x).length := by
      simp only [List.headD_cons]
      exact Nat.mod_eq_of_lt c1
    rw [h7, c2, List.tail_cons, ← elems_without s _ h3 c1, (nthS_at s _ c1).1, c2] at h6
    rw [show i + 1 + m = i + (m + 1) by omega, List.append_assoc, List.singleton_append, h6]
    simp
theorem DA.done {s0 n : Nat} {l : List Nat} {s : Nat} {acc : List Int} (h : DA s0 n l s acc) : pk n l (elems s0) = (acc, []) := by
  have := h.2.2.2.2 0 []
  simpa [pk_zero] using this
attribute [irreducible] DA
theorem DA.facts {s0 i : Nat} {l : List Nat} {s : Nat} {acc : List Int} (h : DA s0 i l s acc) : l.length = i ∧ acc.length = i ∧ s < 18446744073709551616 ∧ (∀ x ∈ l, x < 18446744073709551616) := by
  unfold DA at h
  exact ⟨h.1, h.2.1, h.2.2.1, h.2.2.2.1⟩
theorem ucells_snoc (l : List Nat) (x : Nat) : ucells (l ++ [x]) = ucells l ++ [.int .u64 (x : Int)] := by simp [ucells]

set_option maxRecDepth 20000 in
set_option maxHeartbeats 2000000 in
theorem drawAny_small (A : Option Addr) (cap : Nat) (l : List Int) (s : Nat) (W : World) (h : Sl W 1 A l.length cap (icells .i64 l)) (hl : l.length ≤ 64) (hs : s < 18446744073709551616) :
    Calls Try.prog 7 #[.int .u64 (s : Int), .slice A l.length cap] W fun e w' => e = .returned (.bool true) ∧ Below W.heap.size W w' := by
  have HA := hid h
  have HS0 := hid hs
  have HHAS := hid (fun (x : Int) s w (h : s < 18446744073709551616) => rhas_any s x w h)
  have HLESS := hid (fun (x : Int) s w (h : s < 18446744073709551616) => rless_any s x w h)
  have hd : decide ((64 : Int) < (l.length : Int)) = false := by simp; omega
  have hl2 : (l.length : Int) ≤ 64 := by omega
  clear h hs
  go_enter Try.func7, Try.ntmps7
  go_wp2
  go_loopw [5, 6, 7] (fun z v i wr => ∃ (j : Nat) (q : List Nat) (s' : Nat), j ≤ l.length ∧ i = .int .i64 (j : Int) ∧ z = .int .u64 (s' : Int) ∧ Hid (DA s j q s' (l.take j)) ∧ Hid (wr.ownsRow W.heap.size 22 1 v j (ucells q)) ∧ Hid (Below W.heap.size W wr)) (fun _ _ i _ => l.length - (intOf i).toNat)
  case atStart => exact ⟨0, [], s, by omega, rfl, rfl, DA.start s HS0.out, World.ownsRow_nil _ _ _ _, Below.refl _ _⟩
  case round =>
    obtain ⟨j, q, s', hj, rfl, rfl, HD, HO, HB⟩ := hrel
    have HSL := hid (HD.out.facts.2.2.1)
    by_cases hlt : j < l.length
    · have hlt2 : (j : Int) < (l.length : Int) := by omega
      have HAr := hid (HA.out.below HB.out)
      obtain ⟨b, off, rfl, hjunk⟩ := Sl.at HAr.out j (by rw [icells_length]; exact hlt)
      clear hjunk
      have hc := Sl.cell HAr.out j hlt
      have hgd : l.getD j 0 = l[j] := by rw [List.getD_eq_getElem?_getD, List.getElem?_eq_getElem hlt]; rfl
      have HTK : Hid (l.take (j + 1) = l.take j ++ [l[j]]) := hid (by rw [List.take_add_one, List.getElem?_eq_getElem hlt]; rfl)
      rw [hgd] at hc
      clear hgd HAr
      generalize hy : l[j] = y at hc HTK
      have HY := hid hy
      clear hy
      have HH1 := hid (fun w => HHAS.out y s' w HSL.out)
      cases hb : hasS s' y with
      | false =>
        rw [hb] at HH1
        clear hb
        go_wp2_with (first
          | (go_at_call 17; (with_reducible refine (HH1.out _).mono ?_); rintro e w' ⟨rfl, rfl⟩)
          | (go_at_call 33; refine (works07_any _).mono ?_; rintro e w4 ⟨rfl, hb4⟩))
        go_ret
        exact ⟨rfl, HB.out.trans (hb4.mono HB.out.size)⟩
      | true =>
        rw [hb] at HH1
        have hr : 0 ≤ y ∧ y < 64 := by
          unfold hasS at hb
          simp at hb
          omega
        obtain ⟨x, rfl⟩ := Int.eq_ofNat_of_zero_le hr.1
        have hx : x < 64 := by omega
        have HNX := hid (HD.out.next x hx hb)
        have HHK := hid (fun (k : Nat) (hk : k < 64) w => HHAS.out (k : Int) s' w HSL.out)
        have HL1 := hid (fun w => HLESS.out (x : Int) s' w HSL.out)
        rw [← HTK.out] at HNX
        clear hb hr HTK
        go_wp2_with (go_at_call 17; (with_reducible refine (HH1.out _).mono ?_); rintro e w' ⟨rfl, rfl⟩)
        clear HH1
        obtain ⟨wo, hwo⟩ : ∃ wo : World, wo = wr := ⟨_, rfl⟩
        subst hwo
        go_loop [8, 9] (fun c k => ∃ i : Nat, i ≤ x ∧ k = .int .i64 (i : Int) ∧ c = .int .i64 ((elemsU s' i).length : Nat)) (fun _ k => x - (intOf k).toNat)
        case atStart => exact ⟨0, by omega, rfl, rfl⟩
        case round =>
          obtain ⟨i, hi, rfl, rfl⟩ := hrel
          have hcl : (elemsU s' i).length ≤ i := elemsU_len s' i
          by_cases hix : i < x
          · have hix2 : (i : Int) < (x : Int) := by omega
            have HC := hid (fun w => HHK.out i (by omega) w)
            have HY := hid (fun h => elemsU_yes (s := s') (n := i) h)
            have HNO := hid (fun h => elemsU_no (s := s') (n := i) h)
            rw [hasS_nat s' i (by omega)] at HC
            generalize hl9 : (elemsU s' i).length = c at *
            have HL9 := hid hl9
            clear hl9
            cases hbt : s'.testBit i with
            | false =>
              rw [hbt] at HC
              have HE := hid (HNO.out hbt)
              clear hbt
              go_wp2_with (go_at_call 17; (with_reducible refine (HC.out _).mono ?_); rintro e w' ⟨rfl, rfl⟩)
              go_round
              case rel => exact ⟨i + 1, by omega, by go_num, by rw [HE.out, HL9.out]⟩
              case measure => simp [intOf]; omega
            | true =>
              rw [hbt] at HC
              have HE := hid (HY.out hbt)
              clear hbt
              go_wp2_with (go_at_call 17; (with_reducible refine (HC.out _).mono ?_); rintro e w' ⟨rfl, rfl⟩)
              go_round
              case rel => exact ⟨i + 1, by omega, by go_num, by rw [HE.out, List.length_append, HL9.out]; go_num⟩
              case measure => simp [intOf]; omega
          · obtain rfl : i = x := by omega
            generalize (elemsU s' i).length = c at *
            have hsz := HB.out.size
            have hj64 : j < 64 := by omega
            go_wp2_with (at_builtin; refine wpList_append_1 (W := W) rfl (.tmp 42) (.tmp 45) 38 rfl W.heap.size 22 Try.underlying38 info_u64 rfl (by omega) rfl HO.out rfl rfl (by simp; rfl) ?c1 ?c2 hsz HB.out ?_)
            case c1 => unfold maxLen; omega
            case c2 => omega
            · intro v' w' h2 h3 h4
              have HO2 := hid h2
              have HB2 := hid h3
              have hc2 := Sl.cell (HA.out.below h3) j hlt
              rw [show l.getD j 0 = (i : Int) by rw [List.getD_eq_getElem?_getD, List.getElem?_eq_getElem hlt]; exact HY.out] at hc2
              clear h2 h3 h4 hc HB HO hsz
              go_wp2_with fail
              refine (HL1.out _).mono ?_
              rintro e w5 ⟨rfl, hb5⟩
              have HO3 := hid (own_keep HO2.out hb5)
              have HB3 := hid (HB2.out.trans (hb5.mono HB2.out.size))
              clear hb5 HO2 HB2 HL1 hc2
              go_wp2
              go_roundw
              case rel => exact ⟨j + 1, q ++ [c], lessS s' (i : Int), by omega, by go_num, rfl, HNX.out, by rw [Hid, ucells_snoc]; exact HO3.out, HB3.out⟩
              case measure => simp [intOf]; omega
    · obtain rfl : j = l.length := by omega
      have HF := hid HD.out.facts
      have HP := hid HD.out.done
      rw [List.take_length] at HP
      obtain ⟨Aq, cq, rfl, hsq⟩ := Sl.of_own HO.out
      have HSQ := hid hsq
      have HNEW := hid (tnew_any Aq l.length cq q wr HSQ.out (by omega))
      have HSOME := hid (fun T w (h : TapeAt w T w.heap.size q) => some_any T w.heap.size q s (l.length : Nat) w h (Nat.le_refl _) (by have := HF.out.1; omega) HF.out.2.2.2 HS0.out (by omega))
      rw [Int.toNat_natCast, HP.out] at HSOME
      simp only at HSOME
      have hge : ¬ (l.length : Int) < (l.length : Int) := by omega
      have HBr := hid HB.out
      have HAr := hid (HA.out.below HB.out)
      clear hlt hj HD HO HB hsq HP HHAS HLESS HSL HSQ HF
      go_wp2_with fail
      refine HNEW.out.mono ?_
      rintro e w1 ⟨T, rfl, hWT, hT, hb1⟩
      have HB1 := hid (HBr.out.trans (hb1.mono HBr.out.size))
      have HWT : Hid (W.heap.size ≤ T) := hid (by have := HBr.out.size; omega)
      have HT := hid hT
      have HA1 := hid (HAr.out.below hb1)
      clear hWT hT hb1 HNEW HAr HBr
      go_wp2_with fail
      refine (HSOME.out _ _ HT.out).mono ?_
      rintro e w2 ⟨v, rfl, ho, _, hO⟩
      obtain ⟨A2, c2, rfl, hs2⟩ := Sl.of_own ho
      have HB2 := hid (HB1.out.trans (hO.below W.heap.size HWT.out HB1.out.size))
      have HA2 := hid (HA.out.below HB2.out)
      have HQ := hid (same06 A2 A l.length c2 l.length cap l l w2 hs2 HA2.out (by omega) (by omega))
      rw [show (l == l) = true by simp] at HQ
      clear ho hs2 hO HSOME HT HB1 HWT HA1 HA2
      go_wp2_with fail
      refine HQ.out.mono ?_
      rintro e w3 ⟨rfl, q3, rfl⟩
      have HB3 := hid (below_drewN (k := q3) HB2.out)
      clear HQ HB2
      go_wp2_with (go_at_call 33; refine (works07_any _).mono ?_; rintro e w4 ⟨rfl, hb4⟩)
      go_ret
      exact ⟨rfl, HB3.out.trans (hb4.mono HB3.out.size)⟩

theorem drawAny_law (a : Int) (A : Option Addr) (len cap : Nat) (z : List Int) (W : World) (ha : (Lit.int .u64 a).wf = true) (h : IsRow .i64 W A len cap z) :
    Calls Try.prog 7 #[.int .u64 a, .slice A len cap] W fun e w' => e = .returned (.bool true) ∧ Below W.heap.size W w' := by
  obtain ⟨s, rfl, hs64⟩ := wf_u64 ha
  have hr := Sl.of_row h
  obtain ⟨l, hl⟩ : ∃ l, z.take len = l := ⟨_, rfl⟩
  rw [hl] at hr
  obtain ⟨hs, rfl⟩ := hr
  by_cases h1 : l.length ≤ 64
  · exact drawAny_small A cap l s W hs h1 hs64
  · have h2 : (64 : Int) < l.length := by omega
    have hd : decide ((64 : Int) < l.length) = true := by simp; omega
    have hc9 : l.length ≤ 9223372036854775807 := by have h3 := hs.2.1; have h4 := hs.2.2.1; unfold maxLen at h4; omega
    clear hs h ha hs64 hl
    go_enter Try.func7, Try.ntmps7
    go_wp2_with (go_at_call 33; refine (works07_any _).mono ?_; rintro e w4 ⟨rfl, hb4⟩)
    go_ret
    exact ⟨rfl, hb4⟩
end Go.Proofs.Ytadjmgmdnekllaa
