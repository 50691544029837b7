/- DrawOnce. -/
import Derived.Test.YtadjmgmdnekllaaDrawS
import Derived.Test.YtadjmgmdnekllaaSame06
namespace Go.Proofs.Ytadjmgmdnekllaa
open Go.RowKit Go.Sort
set_option linter.unusedVariables false
set_option linter.unusedSimpArgs false

theorem below_drewN {n k : Nat} {W w : World} (h : Below n W w) : Below n W (w.drewN k) := ⟨h.os, h.tape, h.output, h.size, h.block⟩
theorem lit_cells (W : World) (e : Nat) (xs : Array Value) (n : Nat) (hs : xs.size = n) (hm : n ≤ 1000) : Sl (W.alloc (.cells xs e)) 1 (some ⟨W.heap.size, 0, none⟩) n n xs.toList := Sl.lit W e 1 n xs (by omega) (by unfold maxLen; omega)

set_option maxRecDepth 20000 in
theorem works07_any (W : World) : Calls Try.prog 33 #[] W fun e w' => e = .returned (.bool true) ∧ Below W.heap.size W w' := by
  have HN := hid (fun A c w (h : Sl w 1 A 2 c (ucells [7, 3])) => tnew_any A 2 c [7, 3] w h (by omega))
  have HS := hid (fun T w (h : TapeAt w T w.heap.size [7, 3]) => some_any T w.heap.size [7, 3] 13 2 w h (Nat.le_refl _) (by simp) (by simp) (by omega) (by omega))
  have hpk : pk (2 : Int).toNat [7, 3] (elems 13) = ([2, 3], []) := by unfold pk; decide +kernel
  rw [hpk] at HS
  simp only at HS
  have HQ := hid (fun A c A2 c2 w (h : Sl w 1 A 2 c (icells .i64 [2, 3])) (h2 : Sl w 1 A2 2 c2 (icells .i64 [2, 3])) => same06 A A2 2 c 2 c2 [2, 3] [2, 3] w h h2 (by omega) (by omega))
  clear hpk
  go_enter Try.func33, Try.ntmps33
  go_wp2_with fail
  refine (HN.out _ _ _ (lit_cells W _ #[.int .u64 7, .int .u64 3] 2 rfl (by omega))).mono ?_
  rintro e w1 ⟨T, rfl, hWT, hT, hb1⟩
  have HB1 := hid (((Below.refl W.heap.size W).alloc (Nat.le_refl _) (.cells #[.int .u64 7, .int .u64 3] 22)).trans (hb1.mono (by simp)))
  have HWT : Hid (W.heap.size ≤ T) := hid (by simp at hWT; omega)
  have HT := hid hT
  clear hWT hT hb1 HN
  go_wp2_with fail
  refine (HS.out _ _ HT.out).mono ?_
  rintro e w2 ⟨v, rfl, ho, _, hO⟩
  obtain ⟨A, c, rfl, hs⟩ := Sl.of_own ho
  have HB2 := hid (HB1.out.trans (hO.below W.heap.size HWT.out HB1.out.size))
  have HS2 := hid (hs.below ((Below.refl _ _).alloc (Nat.le_refl _) (.cells #[.int .i64 2, .int .i64 3] 3)))
  have HL2 := hid (lit_cells w2 3 #[.int .i64 2, .int .i64 3] 2 rfl (by omega))
  clear ho hs hO HS HT HB1 HWT
  go_wp2_with fail
  refine (HQ.out _ _ _ _ _ HS2.out HL2.out).mono ?_
  rintro e w3 ⟨rfl, q, rfl⟩
  clear HS2 HL2 HQ
  go_wp2
  go_ret
  exact ⟨rfl, below_drewN (HB2.out.alloc HB2.out.size _)⟩

/-- The set of what is in a list. -/
def InS (seen : Nat) (l : List Int) : Prop := seen < 18446744073709551616 ∧ ∀ x : Int, 0 ≤ x → x < 64 → (hasS seen x = true ↔ x ∈ l)
theorem InS.start : InS 0 [] := ⟨by omega, fun x _ _ => by simp [hasS]⟩
theorem InS.next {seen : Nat} {l : List Int} (h : InS seen l) (x : Int) (h0 : 0 ≤ x) (h1 : x < 64) : InS (withS seen x) (l ++ [x]) := by
  obtain ⟨n, rfl⟩ := Int.eq_ofNat_of_zero_le h0
  refine ⟨withS_lt _ _ h.1, fun y y0 y1 => ?_⟩
  obtain ⟨m, rfl⟩ := Int.eq_ofNat_of_zero_le y0
  have h2 := h.2 (m : Int) y0 y1
  rw [hasS_nat _ m (by omega)] at h2 ⊢
  rw [withS_bit seen n m (by omega), Bool.or_eq_true, h2, decide_eq_true_eq, List.mem_append, List.mem_singleton, Int.natCast_inj]
theorem hasS_mem (s : Nat) (x : Int) (h : x ∈ elems s) : hasS s x = true ∧ 0 ≤ x ∧ x < 64 := by
  obtain ⟨h0, h1, h2⟩ := (mem_elems s x).1 h
  refine ⟨?_, h0, h1⟩
  obtain ⟨n, rfl⟩ := Int.eq_ofNat_of_zero_le h0
  rw [hasS_nat _ n (by omega)]
  exact h2
attribute [irreducible] InS

set_option maxRecDepth 20000 in
set_option maxHeartbeats 2000000 in
theorem drawOnce_small (A : Option Addr) (cap : Nat) (l : List Nat) (s : Nat) (k : Int) (W : World) (h : Sl W 1 A l.length cap (ucells l)) (hl : l.length ≤ 100) (hu : ∀ x ∈ l, x < 18446744073709551616) (hs : s < 18446744073709551616) (hk : k ≤ 9223372036854775807) :
    Calls Try.prog 6 #[.slice A l.length cap, .int .u64 (s : Int), .int .i64 k] W fun e w' => e = .returned (.bool true) ∧ Below W.heap.size W w' := by
  have HN := hid (tnew_any A l.length cap l W h (by omega))
  have HS := hid (fun T w (h : TapeAt w T w.heap.size l) => some_any T w.heap.size l s k w h (Nat.le_refl _) (by omega) hu hs hk)
  have HL := hid (fun w => rlist_any s w hs)
  have HH := hid (fun x w => rhas_any s x w hs)
  have HH2 := hid (fun (x : Int) seen w (h : seen < 18446744073709551616) => rhas_any seen x w h)
  have HW2 := hid (fun (x : Int) seen w (h : seen < 18446744073709551616) => rwith_any seen x w h)
  have hlen := pk_len k.toNat l (elems s)
  have HM := hid (fun x (hx : x ∈ (pk k.toNat l (elems s)).1) => hasS_mem s x (pk_mem _ _ _ x hx))
  have HND := hid (pk_nodup k.toNat l (elems s) (elems_nodup s))
  have hn64 : (elems s).length ≤ 64 := by rw [elems_def]; exact elemsU_len s 64
  have hd : decide ((100 : Int) < (l.length : Int)) = false := by simp; omega
  have hl2 : (l.length : Int) ≤ 100 := by omega
  generalize elems s = es at *
  generalize hg : pk k.toNat l es = r at *
  obtain ⟨got, rest⟩ := r
  simp only at hlen HM HND HS
  clear h hl hu hs hg
  have hmn : min (max k 0) (es.length : Int) = (got.length : Int) := by omega
  have HMN := hid hmn
  have hg64 : got.length ≤ 64 := by omega
  clear hlen hmn
  go_enter Try.func6, Try.ntmps6
  go_wp2_with fail
  refine HN.out.mono ?_
  rintro e w1 ⟨T, rfl, hWT, hT, hb1⟩
  have HB1 := hid hb1
  have HWT := hid hWT
  have HT := hid hT
  clear hWT hT hb1 HN
  go_wp2_with fail
  refine (HS.out _ _ HT.out).mono ?_
  rintro e w2 ⟨v, rfl, ho, _, hO⟩
  obtain ⟨A2, c2, rfl, hs2⟩ := Sl.of_own ho
  have HB2 := hid (HB1.out.trans (hO.below W.heap.size HWT.out HB1.out.size))
  have HG := hid hs2
  clear ho hs2 hO HS HT HB1 HWT
  go_wp2
  go_loopw [8, 9] (fun z i wr => ∃ (j : Nat) (seen : Nat), j ≤ got.length ∧ i = .int .i64 (j : Int) ∧ z = .int .u64 (seen : Int) ∧ Hid (InS seen (got.take j)) ∧ Hid (Below w2.heap.size w2 wr)) (fun _ i _ => got.length - (intOf i).toNat)
  case atStart => exact ⟨0, 0, by omega, rfl, rfl, InS.start, Below.refl _ _⟩
  case round =>
    obtain ⟨j, seen, hj, rfl, rfl, HI, HB⟩ := hrel
    have HGr := hid (HG.out.below HB.out)
    by_cases hlt : j < got.length
    · have hlt2 : (j : Int) < (got.length : Int) := by omega
      obtain ⟨b, off, rfl, _⟩ := Sl.at HG.out j (by rw [icells_length]; exact hlt)
      have hc := Sl.cell HGr.out j hlt
      have hgd : got.getD j 0 = got[j] := by rw [List.getD_eq_getElem?_getD, List.getElem?_eq_getElem hlt]; rfl
      rw [hgd] at hc
      obtain ⟨m1, m2, m3⟩ := HM.out _ (List.getElem_mem hlt)
      have hns : hasS seen got[j] = false := by
        have h1 := HI.out
        unfold InS at h1
        have h2 := h1.2 _ m2 m3
        cases hx : hasS seen got[j] with
        | false => rfl
        | true =>
          rw [hx] at h2
          have h3 := h2.1 rfl
          obtain ⟨i, hi, he⟩ := List.getElem_of_mem h3
          rw [List.length_take] at hi
          rw [List.getElem_take] at he
          have := (List.getElem_inj HND.out).1 he
          omega
      have hsl : seen < 18446744073709551616 := by have h1 := HI.out; unfold InS at h1; exact h1.1
      have HC1 := hid (fun w => HH.out got[j] w)
      have HC2 := hid (fun w => HH2.out got[j] seen w hsl)
      have HC3 := hid (fun w => HW2.out got[j] seen w hsl)
      rw [m1] at HC1
      rw [hns] at HC2
      have HIN : Hid (InS (withS seen got[j]) (got.take (j + 1))) := hid (by
        rw [List.take_add_one, List.getElem?_eq_getElem hlt]
        exact HI.out.next _ m2 m3)
      clear hns hgd m1 m2 m3 hsl
      generalize got[j] = x at *
      generalize withS seen x = seen2 at *
      go_wp2_with (first
        | (go_at_call 17; (with_reducible refine (HC1.out _).mono ?_); rintro e w' ⟨rfl, rfl⟩)
        | (go_at_call 17; (with_reducible refine (HC2.out _).mono ?_); rintro e w' ⟨rfl, rfl⟩)
        | (go_at_call 19; (with_reducible refine (HC3.out _).mono ?_); rintro e w9 ⟨rfl, hb9⟩))
      go_roundw
      case rel => exact ⟨j + 1, seen2, by omega, by go_num, rfl, HIN.out, HB.out.trans (hb9.mono HB.out.size)⟩
      case measure => simp [intOf]; omega
    · have hge : ¬ (j : Int) < (got.length : Int) := by omega
      have HBW := hid (HB2.out.trans (HB.out.mono HB2.out.size))
      have hmn := HMN.out
      have hmn2 : ((got.length : Int) == (got.length : Int)) = true := by simp
      obtain ⟨AG, hAG⟩ : ∃ AG, A2 = AG := ⟨_, rfl⟩
      clear HI HB HGr HH HH2 HW2 HM HND HMN
      go_wp2_with fail
      refine (HL.out _).mono ?_
      rintro e w3 ⟨v3, rfl, hb3, ho3⟩
      obtain ⟨A3, c3, rfl, _⟩ := Sl.of_own ho3
      have HB3 := hid (HBW.out.trans (hb3.mono HBW.out.size))
      clear ho3 hb3 HL HBW hAG
      go_wp2_with (go_at_call 33; refine (works07_any _).mono ?_; rintro e w4 ⟨rfl, hb4⟩)
      go_ret
      exact ⟨rfl, HB3.out.trans (hb4.mono HB3.out.size)⟩

theorem wf_u64s {l : List Int} (h : ∀ n ∈ l, (Lit.int .u64 n).wf = true) : ∃ m : List Nat, l.map (Value.int .u64) = ucells m ∧ m.length = l.length ∧ ∀ x ∈ m, x < 18446744073709551616 := by
  induction l with
  | nil => exact ⟨[], rfl, rfl, by simp⟩
  | cons a l ih =>
    obtain ⟨m, h1, h2, h3⟩ := ih fun n hn => h n (by simp [hn])
    obtain ⟨x, rfl, hx⟩ := wf_u64 (h a (by simp))
    refine ⟨x :: m, ?_, by simp [h2], ?_⟩
    · simp only [List.map_cons, h1, ucells]
    · intro y hy
      rcases List.mem_cons.1 hy with rfl | hy
      · exact hx
      · exact h3 y hy
theorem of_u64s {w : World} {a : Option Addr} {len cap : Nat} {zs : List Int} (h : IsRow .u64 w a len cap zs) : ∃ m, Sl w 1 a len cap (ucells m) ∧ m.length = len ∧ ∀ x ∈ m, x < 18446744073709551616 := by
  have h1 := Sl.of_row h
  have hw : ∀ n ∈ zs.take len, (Lit.int .u64 n).wf = true := by
    rcases h with ⟨_, _, _, rfl⟩ | ⟨x, _, _, _, _, _, hw⟩
    · intro n hn; simp at hn
    · exact fun n hn => hw n (List.mem_of_mem_take hn)
  obtain ⟨m, e1, e2, e3⟩ := wf_u64s hw
  rw [e1] at h1
  exact ⟨m, h1.1, by rw [e2]; exact h1.2, e3⟩

theorem drawOnce_law (A : Option Addr) (len cap : Nat) (z : List Int) (a k : Int) (W : World) (h : IsRow .u64 W A len cap z) (ha : (Lit.int .u64 a).wf = true) (hk : (Lit.int .i64 k).wf = true) :
    Calls Try.prog 6 #[.slice A len cap, .int .u64 a, .int .i64 k] W fun e w' => e = .returned (.bool true) ∧ Below W.heap.size W w' := by
  obtain ⟨l, hs, rfl, hu⟩ := of_u64s h
  obtain ⟨s, rfl, hs64⟩ := wf_u64 ha
  by_cases h1 : l.length ≤ 100
  · exact drawOnce_small A cap l s k W hs h1 hu hs64 (wf_i64 hk).2
  · have h2 : (100 : Int) < l.length := by omega
    have hd : decide ((100 : Int) < l.length) = true := by simp; omega
    have hc9 : l.length ≤ 9223372036854775807 := by have h3 := hs.2.1; have h4 := hs.2.2.1; unfold maxLen at h4; omega
    clear hs h hu hk ha hs64
    go_enter Try.func6, Try.ntmps6
    go_wp2_with (go_at_call 33; refine (works07_any _).mono ?_; rintro e w4 ⟨rfl, hb4⟩)
    go_ret
    exact ⟨rfl, hb4⟩
end Go.Proofs.Ytadjmgmdnekllaa
