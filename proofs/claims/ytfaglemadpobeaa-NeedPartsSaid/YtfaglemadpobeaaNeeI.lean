/- Needs: the document's Depth, Says, Asks; Same; the page's example: contracts. -/
import Derived.Test.YtfaglemadpobeaaNeeH
namespace Go.Proofs.Ytfaglemadpobeaa
open Go.RowKit Go.Sort
set_option linter.unusedVariables false
set_option linter.unusedSimpArgs false

def attrsL (l : List (Int × Int)) : List Int := (l.filter (fun x => x.1 == 2)).map (·.2)
theorem attrsL_append (a b : List (Int × Int)) : attrsL (a ++ b) = attrsL a ++ attrsL b := by simp [attrsL]
theorem ofL_append (a b : List Int) : ofL (a ++ b) = ofL a ||| ofL b := by
  apply Nat.eq_of_testBit_eq
  intro i
  rw [Nat.testBit_or, ofL_bit, ofL_bit, ofL_bit, Bool.eq_iff_iff]
  simp only [List.mem_append, Bool.and_eq_true, Bool.or_eq_true, decide_eq_true_eq]
  constructor
  · rintro ⟨h1, h2 | h2⟩
    · exact .inl ⟨h1, h2⟩
    · exact .inr ⟨h1, h2⟩
  · rintro (⟨h1, h2⟩ | ⟨h1, h2⟩)
    · exact ⟨h1, .inl h2⟩
    · exact ⟨h1, .inr h2⟩
theorem ofL_nil : ofL [] = 0 := by decide
theorem asks_of : ∀ t : Nt, t.wf → t.asks = ofL (attrsL t.flat)
  | .yes, _ => ofL_nil.symm
  | .attr n, _ => by rw [Nt.asks, Nt.flat]; simp [attrsL]
  | .not t, h => by
    rw [Nt.asks, Nt.flat, attrsL_append, ofL_append, asks_of t h, Nat.zero_or]
    have : attrsL [((3 : Int), (0 : Int))] = [] := by simp [attrsL]
    rw [this, ofL_nil, Nat.or_zero]
  | .pair op a b, h => by
    rw [Nt.asks, Nt.flat, attrsL_append, ofL_append, attrsL_append, ofL_append, asks_of a h.2.1, asks_of b h.2.2, Nat.zero_or]
    have : attrsL [(op, (0 : Int))] = [] := by rcases h.1 with rfl | rfl <;> simp [attrsL]
    rw [this, ofL_nil, Nat.or_zero]
theorem attrsL_take {l : List (Int × Int)} {k : Nat} (hk : k < l.length) : attrsL (l.take (k + 1)) = attrsL (l.take k) ++ if l[k].1 = 2 then [l[k].2] else [] := by
  rw [List.take_succ_eq_append_getElem hk, attrsL_append]
  congr 1
  by_cases h : l[k].1 = 2 <;> simp [attrsL, h]
theorem attrsL_len (l : List (Int × Int)) : (attrsL l).length ≤ l.length := by
  unfold attrsL
  rw [List.length_map]
  exact List.length_filter_le _ _

set_option maxRecDepth 20000 in
set_option maxHeartbeats 2000000 in
theorem rdepth09_any (A : Option Addr) (cap : Nat) (l : List (Int × Int)) (W : World) (h : Sl W 2 A l.length cap (pcells l)) (hl : l.length ≤ 1000) :
    Calls Try.prog 14 #[.slice A l.length cap] W fun e w' => e = .returned (.int .i64 (depN l)) ∧ Below W.heap.size W w' := by
  have HC := hid (rcheck09_any A cap l W h hl)
  have HL := hid hl
  have hl9 : (l.length : Int) ≤ 1000 := by omega
  by_cases hc : chkN l = 0
  · obtain ⟨t, hw, hl0, hd, h31, hr⟩ := chkN_zero hc
    have hp := t.flat_pos
    obtain ⟨e, he⟩ : ∃ e, l.length = e + 1 := ⟨l.length - 1, by rw [hl0]; omega⟩
    have HD := hid (fun w (hb : Below W.heap.size W w) => depth0_any A cap l w (h.below hb) HL.out t [] [] e hw (by simpa using hl0) (by simp; rw [← hl0]; omega))
    have HV : Hid (depN l = (t.depth : Int)) := hid (by rw [hl0] at hc ⊢; exact depN_tree hw hc)
    rw [hc] at HC
    clear h hl hc hw hl0 hr
    generalize t.depth = d at *
    generalize hm : l.length = m at *
    clear hm
    subst he
    rw [show ((e + 1 : Nat) : Int) = (e : Int) + 1 by omega] at *
    go_enter Try.func14, Try.ntmps14
    go_wp2_with fail
    refine HC.out.mono ?_
    rintro x w1 ⟨rfl, hb⟩
    have HB := hid hb
    clear hb HC
    go_wp2_with fail
    refine (HD.out _ HB.out).mono ?_
    rintro x w2 ⟨rfl, rfl⟩
    go_wp2
    go_ret
    exact ⟨by rw [HV.out]; rfl, HB.out⟩
  · have HV : Hid (depN l = 0) := hid (by unfold depN; rw [if_neg hc])
    generalize chkN l = k at *
    clear h hl HL
    generalize l.length = m at *
    go_enter Try.func14, Try.ntmps14
    go_wp2_with fail
    refine HC.out.mono ?_
    rintro x w1 ⟨rfl, hb⟩
    have HB := hid hb
    clear hb HC
    go_wp2
    go_ret
    exact ⟨by rw [HV.out]; rfl, HB.out⟩
set_option maxRecDepth 20000 in
set_option maxHeartbeats 2000000 in
theorem rsays09_any (A : Option Addr) (cap : Nat) (l : List (Int × Int)) (s : Nat) (W : World) (h : Sl W 2 A l.length cap (pcells l)) (hl : l.length ≤ 1000) (hs : s < 18446744073709551616) :
    Calls Try.prog 16 #[.slice A l.length cap, .int .u64 (s : Int)] W fun e w' => e = .returned (.bool (sayN l s)) ∧ Below W.heap.size W w' := by
  have HC := hid (rcheck09_any A cap l W h hl)
  have HL := hid hl
  have HSS := hid hs
  have hl9 : (l.length : Int) ≤ 1000 := by omega
  by_cases hc : chkN l = 0
  · obtain ⟨t, hw, hl0, hd, h31, hr⟩ := chkN_zero hc
    have hp := t.flat_pos
    obtain ⟨e, he⟩ : ∃ e, l.length = e + 1 := ⟨l.length - 1, by rw [hl0]; omega⟩
    have HD := hid (fun w (hb : Below W.heap.size W w) => says0_any A cap l s W h HL.out HSS.out t [] [] e w hb hw (by simpa using hl0) (by simp; rw [← hl0]; omega))
    have HV : Hid (sayN l s = t.holds s) := hid (by rw [hl0] at hc ⊢; exact sayN_tree hw hc s)
    rw [hc] at HC
    clear h hl hc hw hl0 hr hs
    generalize t.holds s = d at *
    generalize hm : l.length = m at *
    clear hm
    subst he
    rw [show ((e + 1 : Nat) : Int) = (e : Int) + 1 by omega] at *
    go_enter Try.func16, Try.ntmps16
    go_wp2_with fail
    refine HC.out.mono ?_
    rintro x w1 ⟨rfl, hb⟩
    have HB := hid hb
    clear hb HC
    go_wp2_with fail
    refine (HD.out _ HB.out).mono ?_
    rintro x w2 ⟨rfl, hb2⟩
    have HB2 := hid (HB.out.trans (hb2.mono HB.out.size))
    clear hb2
    go_wp2
    go_ret
    exact ⟨by rw [HV.out]; rfl, HB2.out⟩
  · have HV : Hid (sayN l s = false) := hid (by unfold sayN; rw [if_neg hc])
    generalize chkN l = k at *
    have hk0 : (k == 0) = false := by simp [hc]
    clear h hl HL hs
    generalize l.length = m at *
    go_enter Try.func16, Try.ntmps16
    go_wp2_with fail
    refine HC.out.mono ?_
    rintro x w1 ⟨rfl, hb⟩
    have HB := hid hb
    clear hb HC
    go_wp2
    go_ret
    exact ⟨by rw [HV.out]; rfl, HB.out⟩
set_option maxRecDepth 20000 in
set_option maxHeartbeats 4000000 in
theorem rasks09_any (A : Option Addr) (cap : Nat) (l : List (Int × Int)) (W : World) (h : Sl W 2 A l.length cap (pcells l)) (hl : l.length ≤ 1000) :
    Calls Try.prog 18 #[.slice A l.length cap] W fun e w' => e = .returned (.int .u64 (askN l : Nat)) ∧ Below W.heap.size W w' := by
  have HC := hid (rcheck09_any A cap l W h hl)
  have hl9 : (l.length : Int) ≤ 1000 := by omega
  by_cases hc : chkN l = 0
  · obtain ⟨t, hw, hl0, hd, h31, hr⟩ := chkN_zero hc
    have HS := hid (fun w (hb : Below W.heap.size W w) => h.below hb)
    have HV : Hid (askN l = ofL (attrsL l)) := hid (by rw [hl0] at hc ⊢; rw [askN_tree hw hc, asks_of t hw])
    rw [hc] at HC
    clear h hc hw hl0 hr
    go_enter Try.func18, Try.ntmps18
    go_wp2_with fail
    refine HC.out.mono ?_
    rintro x w1 ⟨rfl, hb⟩
    have HB := hid hb
    clear hb HC
    go_wp2_with fail
    go_loopw [3, 4] (fun s i wr => ∃ (k : Nat) (B : Option Addr) (c : Nat), k ≤ l.length ∧ i = .int .i64 (k : Int) ∧ s = .slice B (attrsL (l.take k)).length c ∧ Hid (wr.ownsRow w1.heap.size 3 1 (.slice B (attrsL (l.take k)).length c) (attrsL (l.take k)).length (icells .i64 (attrsL (l.take k))) ∧ Below w1.heap.size w1 wr)) (fun _ i _ => l.length - (intOf i).toNat)
    case atStart => exact ⟨0, none, 0, by omega, rfl, rfl, World.ownsRow_nil _ _ _ _, Below.refl _ _⟩
    case round =>
      obtain ⟨k, B, c, hk, rfl, rfl, HR⟩ := hrel
      by_cases hlt : k < l.length
      · have hlt2 : (k : Int) < (l.length : Int) := by omega
        have hbw := HB.out.trans (HR.out.2.mono HB.out.size)
        obtain ⟨bb, off, rfl, hc0, hc1⟩ := (HS.out _ hbw).at2 k hlt
        have HT := hid (attrsL_take hlt)
        have hal := attrsL_len (l.take k)
        rw [List.length_take] at hal
        have HO := hid HR.out.1
        have HBR := hid HR.out.2
        generalize l[k] = x at *
        obtain ⟨op, n⟩ := x
        simp only at HT hc0 hc1
        generalize attrsL (l.take k) = us at *
        clear hbw HR
        by_cases h2 : op = 2
        · subst h2
          have HT2 : Hid (attrsL (l.take (k + 1)) = us ++ [n]) := hid (by rw [HT.out, if_pos rfl])
          clear HT
          go_wp2_with (at_builtin; refine wpList_append_1 (W := w1) rfl (.tmp 20) (.tmp 26) 53 rfl w1.heap.size 3 Try.underlying53 info_int rfl (by omega) rfl HO.out rfl rfl (by simp; rfl) (by unfold maxLen; omega) (by omega) HBR.out.size HBR.out ?_)
          intro v' w2 ho2 hb2 hz2
          obtain ⟨A2, c2, rfl, _⟩ := Sl.of_own ho2
          have HO2 := hid ho2
          have HB2 := hid hb2
          have hlen : us.length + 1 = (attrsL (l.take (k + 1))).length := by rw [HT2.out]; simp
          clear ho2 hb2 hz2 hc0 hc1
          go_wp2
          go_roundw
          case rel => exact ⟨k + 1, A2, c2, by omega, by go_num, by rw [← hlen], by
            rw [← hlen, HT2.out]
            simp only [icells, List.map_append]
            exact ⟨HO2.out, HB2.out⟩⟩
          case measure => simp [intOf]; omega
        · have HT2 : Hid (attrsL (l.take (k + 1)) = us) := hid (by rw [HT.out, if_neg h2, List.append_nil])
          clear HT
          go_wp2
          go_roundw
          case rel => exact ⟨k + 1, B, c, by omega, by go_num, by rw [HT2.out], by rw [HT2.out]; exact ⟨HO.out, HBR.out⟩⟩
          case measure => simp [intOf]; omega
      · have hge : ¬ (k : Int) < (l.length : Int) := by omega
        have he : l.take k = l := List.take_of_length_le (by omega)
        have HOF := hid (rof_any B (attrsL (l.take k)).length c (attrsL (l.take k)) wr (sl_own HR.out.1))
        have HBW := hid (HB.out.trans (HR.out.2.mono HB.out.size))
        have HV2 : Hid (askN l = ofL (attrsL (l.take k))) := hid (by rw [he]; exact HV.out)
        clear HR HV he
        generalize attrsL (l.take k) = us at *
        go_wp2_with fail
        refine HOF.out.mono ?_
        rintro x w2 ⟨rfl, rfl⟩
        go_wp2
        go_ret
        exact ⟨by rw [HV2.out]; rfl, HBW.out⟩
  · have HV : Hid (askN l = 0) := hid (by unfold askN; rw [if_neg hc])
    generalize chkN l = k at *
    clear h hl
    generalize l.length = m at *
    go_enter Try.func18, Try.ntmps18
    go_wp2_with fail
    refine HC.out.mono ?_
    rintro x w1 ⟨rfl, hb⟩
    have HB := hid hb
    clear hb HC
    go_wp2
    go_ret
    exact ⟨by rw [HV.out]; rfl, HB.out⟩
end Go.Proofs.Ytfaglemadpobeaa
