/- The document's Some, as a contract. -/
import Derived.Test.YtadjmgmdnekllaaDrawP
import Derived.Test.YtadjmgmdnekllaaFlockD
namespace Go.Proofs.Ytadjmgmdnekllaa
open Go.RowKit
set_option linter.unusedVariables false
set_option linter.unusedSimpArgs false

theorem own_blk_lt {w : World} {base e s n g : Nat} {v : Value} {xs : List Value} (h : w.ownsRow base e s v n xs) (hg : v.ownBlock = some g) : g < w.heap.size := by
  rcases h.2 with ⟨rfl, _⟩ | ⟨g', cap, cur, rfl, _, hh, _⟩
  · simp [Value.ownBlock] at hg
  · have : g' = g := by simpa [Value.ownBlock] using hg
    subst this
    exact lt_of_block hh
def lenV : Value → Nat
  | .slice _ n _ => n
  | _ => 0
def lessI (e : List Int) (i j : Nat) : List Int := (e.take j).eraseIdx i
theorem lessI_hit (e : List Int) (i : Nat) (hi : i < e.length) : lessI e i (i + 1) = lessI e i i := by
  unfold lessI
  have e1 : e.take (i + 1) = e.take i ++ [e[i]] := by rw [List.take_add_one, List.getElem?_eq_getElem hi]; rfl
  have e2 : (e.take i).length = i := by simp; omega
  have h1 : (e.take i ++ [e[i]]).eraseIdx i = e.take i := by
    rw [List.eraseIdx_append_of_length_le (by omega), e2, Nat.sub_self]
    simp
  rw [e1, h1, List.eraseIdx_of_length_le (by omega)]
theorem lessI_step (e : List Int) (i j : Nat) (hj : j < e.length) (hne : j ≠ i) : lessI e i (j + 1) = lessI e i j ++ [e[j]] := by
  unfold lessI
  have e1 : e.take (j + 1) = e.take j ++ [e[j]] := by rw [List.take_add_one, List.getElem?_eq_getElem hj]; rfl
  have e2 : (e.take j).length = j := by simp; omega
  rw [e1]
  rcases Nat.lt_or_ge j i with h | h
  · rw [List.eraseIdx_of_length_le (by simp; omega), List.eraseIdx_of_length_le (by omega)]
  · rw [List.eraseIdx_append_of_lt_length (by omega)]
theorem lessI_len (e : List Int) (i j : Nat) : (lessI e i j).length ≤ j := by
  unfold lessI
  exact Nat.le_trans (List.length_eraseIdx_le _ _) (by simp; omega)
/-- What the outer loop holds. -/
def SomeAt (l : List Nat) (e0 : List Int) (k : Nat) (ls : List Nat) (out e : List Int) : Prop :=
  ∃ m, out.length + m = k ∧ pk k l e0 = (out ++ (pk m ls e).1, (pk m ls e).2) ∧ out.length + e.length = e0.length ∧ ls.length ≤ l.length ∧ (∀ x ∈ ls, x ∈ l)
theorem SomeAt.start (l : List Nat) (e0 : List Int) (k : Nat) : SomeAt l e0 k l [] e0 := ⟨k, by simp, by simp, by simp, Nat.le_refl _, fun _ h => h⟩
theorem SomeAt.next {l ls : List Nat} {e0 out e : List Int} {k : Nat} (h : SomeAt l e0 k ls out e) (h1 : out.length < k) (h2 : e.length ≠ 0) : SomeAt l e0 k ls.tail (out ++ [e.getD (ls.headD 0 % e.length) 0]) (e.eraseIdx (ls.headD 0 % e.length)) := by
  obtain ⟨m, a1, a2, a3, a4, a5⟩ := h
  obtain ⟨m, rfl⟩ : ∃ n, m = n + 1 := ⟨m - 1, by omega⟩
  refine ⟨m, by simp; omega, ?_, ?_, ?_, ?_⟩
  · rw [a2, pk_step m ls e h2]
    simp
  · rw [erase_len _ _ (idx_lt ls e h2)]; simp; omega
  · rw [List.length_tail]; omega
  · exact fun x hx => a5 x (List.mem_of_mem_tail hx)
theorem SomeAt.stop {l ls : List Nat} {e0 out e : List Int} {k : Nat} (h : SomeAt l e0 k ls out e) (h1 : k ≤ out.length ∨ e.length = 0) : pk k l e0 = (out, ls) := by
  obtain ⟨m, a1, a2, a3, a4, a5⟩ := h
  rcases h1 with h1 | h1
  · obtain rfl : m = 0 := by omega
    rw [a2, pk_zero]; simp
  · obtain rfl := List.eq_nil_of_length_eq_zero h1
    rw [a2, pk_nil]; simp

set_option maxRecDepth 20000 in
set_option maxHeartbeats 4000000 in
theorem rsome_any (A : Option Addr) (len cap : Nat) (l : List Nat) (s : Nat) (k : Int) (W : World) (h : Sl W 1 A len cap (ucells l)) (hl : len ≤ 1000) (hu : ∀ x ∈ l, x < 18446744073709551616) (hs : s < 18446744073709551616) (hk : k ≤ 9223372036854775807) :
    Calls Try.prog 39 #[.slice A len cap, .int .u64 (s : Int), .int .i64 k] W fun e w' => ∃ A1 c1 A2 c2, e = .returned (.tuple #[.slice A1 (pk k.toNat l (elems s)).1.length c1, .slice A2 (pk k.toNat l (elems s)).2.length c2]) ∧ w'.ownsRow W.heap.size 3 1 (.slice A1 (pk k.toNat l (elems s)).1.length c1) (pk k.toNat l (elems s)).1.length (icells .i64 (pk k.toNat l (elems s)).1) ∧ Sl w' 1 A2 (pk k.toNat l (elems s)).2.length c2 (ucells (pk k.toNat l (elems s)).2) ∧ Fro A A2 ∧ Below W.heap.size W w' := by
  obtain rfl : len = l.length := by have := h.1; rw [ucells_length] at this; omega
  have HSL := hid h
  have HU := hid hu
  have HLI := hid (rlist_any s W hs)
  have hn64 : (elems s).length ≤ 64 := by rw [elems_def]; exact elemsU_len s 64
  have HL := hid hl
  clear h hu
  have HK := hid (show k.toNat = k.toNat from rfl)
  generalize elems s = e0 at *
  go_enter Try.func39, Try.ntmps39
  go_wp2_with fail
  refine HLI.out.mono ?_
  rintro x w1 ⟨v, rfl, hb1, ho1⟩
  have HB1 := hid hb1
  have HO1 := hid ho1
  have HS1 := hid (HSL.out.below hb1)
  clear ho1 hb1 HLI
  go_wp2
  go_loopw [0, 8, 9] (fun lv ov ev wr => ∃ (AA : Option Addr) (c : Nat) (ls : List Nat) (out e : List Int), lv = .slice AA ls.length c ∧ Hid (SomeAt l e0 k.toNat ls out e) ∧ Hid (Sl W 1 AA ls.length c (ucells ls) ∧ Fro A AA) ∧ Hid (wr.ownsRow W.heap.size 3 1 ov out.length (icells .i64 out)) ∧ Hid (∃ N, W.heap.size ≤ N ∧ N ≤ wr.heap.size ∧ wr.ownsRow N 3 1 ev e.length (icells .i64 e) ∧ ∀ g, ov.ownBlock = some g → g < N) ∧ Hid (Below W.heap.size W wr)) (fun _ _ ev _ => lenV ev)
  case atStart => exact ⟨A, cap, l, [], e0, rfl, SomeAt.start _ _ _, ⟨HSL.out, Fro.refl _⟩, World.ownsRow_nil _ _ _ _, ⟨W.heap.size, Nat.le_refl _, HB1.out.size, HO1.out, fun g hg => by simp [Value.ownBlock] at hg⟩, HB1.out⟩
  case round =>
    obtain ⟨A0, c0, ls, out, e, rfl, HAT, HS, HOO, HOE, HB⟩ := hrel
    obtain ⟨Ao, co, rfl, jo⟩ := Sl.of_own HOO.out
    obtain ⟨N, hN1, hN2, hoe, hblk⟩ := HOE.out
    obtain ⟨Ae, ce, rfl, je⟩ := Sl.of_own hoe
    have HE := hid hoe
    have HBK := hid hblk
    have HN := hid (And.intro hN1 hN2)
    clear hoe hblk HOE hN1 hN2
    have hel : out.length + e.length = e0.length := by obtain ⟨_, _, _, h9, _⟩ := HAT.out; exact h9
    have hll : ls.length ≤ l.length := by obtain ⟨_, _, _, _, h9, _⟩ := HAT.out; exact h9
    have HLU : Hid (∀ x ∈ ls, x < 18446744073709551616) := hid (by obtain ⟨_, _, _, _, _, h9⟩ := HAT.out; exact fun x hx => HU.out x (h9 x hx))
    clear jo je
    by_cases hgo : 0 < e.length ∧ (out.length : Int) < k
    · obtain ⟨g1, g2⟩ := hgo
      have g1' : (0 : Int) < (e.length : Int) := by omega
      have hd1 : decide ((0 : Int) < (e.length : Int)) = true := decide_eq_true g1'
      have hd2 : decide ((out.length : Int) < k) = true := decide_eq_true g2
      have HNX := hid (HAT.out.next (by omega) (by omega))
      have HBW := hid (rdbelow_any A0 ls.length c0 ls (e.length : Int) W wr HB.out HS.out.1 HLU.out (by omega))
      have hb : blw (e.length : Int) ls = ls.headD 0 % e.length := by rw [blw, if_neg (by omega), Int.toNat_natCast]
      have hi0 := idx_lt ls e (by omega)
      rw [hb, if_neg (show ¬ (e.length : Int) < 1 by omega)] at HBW
      clear hb
      generalize ls.headD 0 % e.length = i0 at *
      generalize htl : ls.tail = tl at *
      clear htl
      have hi0' : (i0 : Int) < (e.length : Int) := by omega
      go_wp2_with fail
      refine HBW.out.mono ?_
      rintro x w2 ⟨A', c', rfl, hs', hfr, q, rfl⟩
      have hb2 : Below wr.heap.size wr (wr.drewN q) := ⟨rfl, rfl, rfl, Nat.le_refl _, fun _ _ => rfl⟩
      refine at_world (fun w => Below wr.heap.size wr w) hb2 ?_
      rintro w2 hb2
      have HB2 := hid (HB.out.trans (hb2.mono HB.out.size))
      have HS2 := hid (And.intro hs' (HS.out.2.trans hfr))
      clear hfr
      have HOO2 := hid (own_keep HOO.out hb2)
      have HE2 := hid (own_keep HE.out hb2)
      have HN2 := hid (Nat.le_trans HN.out.2 hb2.size)
      obtain ⟨ge, oe, rfl, hce⟩ := Sl.at (sl_own HE2.out) i0 (by rw [icells_length]; exact hi0)
      have e1 : (icells .i64 e)[i0]'(by rw [icells_length]; exact hi0) = .int .i64 (e.getD i0 0) := by simp [icells, List.getD_eq_getElem?_getD, List.getElem?_eq_getElem hi0]
      rw [e1] at hce
      generalize e.getD i0 0 = x0 at *
      clear e1 hs' hb2 HBW HOO HE HS
      go_wp2_with (at_builtin; refine wpList_append_1k (W := W) rfl (.tmp 33) (.tmp 38) 23 rfl W.heap.size 3 Try.underlying23 info_int rfl (by omega) rfl HOO2.out rfl rfl (by simp; rfl) ?c1 ?c2 HB2.out.size HB2.out ?_)
      case c1 => unfold maxLen; omega
      case c2 => omega
      · intro v3 w3 ho3 hb3 hsz3 hkp3
        have HE3 := hid (own_block HE2.out fun g c hg ho => (hkp3 g (Nat.le_trans HN.out.1 hg) (lt_of_block ho) (fun e9 => by have := HBK.out g e9; omega)).trans ho)
        have HO3 := hid ho3
        have HB3 := hid hb3
        have HLW : Hid (lessI e i0 e.length = e.eraseIdx i0) := hid (by unfold lessI; rw [List.take_length])
        have hnl : (e.eraseIdx i0).length = e.length - 1 := erase_len e i0 hi0
        have HNL := hid hnl
        have HI0 := hid hi0
        clear ho3 hb3 hkp3 HE2 HOO2 hce hnl
        go_wp2
        go_loopw [12, 13] (fun vv i wr' => ∃ j : Nat, j ≤ e.length ∧ i = .int .i64 (j : Int) ∧ Hid (wr'.ownsRow w3.heap.size 3 1 vv (lessI e i0 j).length (icells .i64 (lessI e i0 j))) ∧ Hid (Below w3.heap.size w3 wr')) (fun _ i _ => e.length - (intOf i).toNat)
        case atStart => exact ⟨0, by omega, rfl, by
          have h9 : lessI e i0 0 = [] := by simp [lessI]
          rw [Hid, h9]
          exact World.ownsRow_nil _ _ _ _, Below.refl _ _⟩
        case round =>
          obtain ⟨j, hj, rfl, HLO, HLB⟩ := hrel
          by_cases hlj : j < e.length
          · have hlj2 : (j : Int) < (e.length : Int) := by omega
            obtain ⟨ge2, oe2, hge, hce⟩ := Sl.at ((sl_own HE3.out).below HLB.out) j (by rw [icells_length]; exact hlj)
            cases hge
            have e1 : (icells .i64 e)[j]'(by rw [icells_length]; exact hlj) = .int .i64 (e[j]'hlj) := by simp [icells]
            rw [e1] at hce
            have HST := hid (fun h => lessI_step e i0 j hlj h)
            have hlz := lessI_len e i0 j
            generalize e[j]'hlj = y at hce HST
            clear e1
            by_cases hji : j = i0
            · have hd : ((j : Int) != (i0 : Int)) = false := by rw [hji]; simp
              have HX : Hid (lessI e i0 (j + 1) = lessI e i0 j) := hid (by rw [hji]; exact lessI_hit e i0 HI0.out)
              clear hji HST
              go_wp2
              go_roundw
              case rel => exact ⟨j + 1, by omega, by go_num, by rw [Hid, HX.out]; exact HLO.out, HLB.out⟩
              case measure => simp [intOf]; omega
            · have hd : ((j : Int) != (i0 : Int)) = true := by rw [bne_iff_ne]; omega
              have HX := hid (HST.out hji)
              clear hji HST
              generalize lessI e i0 j = le at *
              go_wp2_with (at_builtin; refine wpList_append_1 (W := w3) rfl (.tmp 49) (.tmp 54) 23 rfl w3.heap.size 3 Try.underlying23 info_int rfl (by omega) rfl HLO.out rfl rfl (by simp; rfl) ?c1 ?c2 HLB.out.size HLB.out ?_)
              case c1 => unfold maxLen; omega
              case c2 => omega
              · intro v' w' h2 h3 h4
                have HO5 := hid h2; clear h2
                go_wp2
                go_roundw
                case rel => exact ⟨j + 1, by omega, by go_num, by rw [Hid, HX.out, List.length_append, icells_append]; exact HO5.out, h3⟩
                case measure => simp [intOf]; omega
          · have hge : ¬ (j : Int) < (e.length : Int) := by omega
            have HLO2 : Hid (_) := hid HLO.out
            have hje : j = e.length := by omega
            have hlo := HLO.out
            rw [hje, HLW.out] at hlo
            obtain ⟨A9, c9, rfl, _⟩ := Sl.of_own hlo
            have HLO3 := hid hlo
            have HO4 := hid (own_keep HO3.out HLB.out)
            have HS4 := hid HS2.out
            clear hlo HLO HLO2 hje
            go_wp2
            go_roundw
            case rel => exact ⟨A', c', tl, out ++ [x0], e.eraseIdx i0, rfl, HNX.out, HS4.out, by rw [Hid, List.length_append, icells_append]; exact HO4.out, ⟨w3.heap.size, HB3.out.size, HLB.out.size, HLO3.out, fun g hg => own_blk_lt HO3.out hg⟩, HB3.out.trans (HLB.out.mono HB3.out.size)⟩
            case measure => have := HNL.out; simp only [lenV, Array.getD]; simp; omega
    · have HST : Hid (pk k.toNat l e0 = (out, ls)) := hid (HAT.out.stop (by omega))
      by_cases g1 : 0 < e.length
      · have g1' : (0 : Int) < (e.length : Int) := by omega
        have g2 : ¬ (out.length : Int) < k := fun h9 => hgo ⟨g1, h9⟩
        go_wp2
        go_ret2
        rw [HST.out]
        exact ⟨Ao, co, A0, c0, rfl, HOO.out, HS.out.1.below HB.out, HS.out.2, HB.out⟩
      · have g1' : ¬ (0 : Int) < (e.length : Int) := by omega
        have g3 : ¬ 0 < e.length := g1
        go_wp2
        go_ret2
        rw [HST.out]
        exact ⟨Ao, co, A0, c0, rfl, HOO.out, HS.out.1.below HB.out, HS.out.2, HB.out⟩
end Go.Proofs.Ytadjmgmdnekllaa
