/- Needs: the document's functions: contracts. -/
import Derived.Test.YtdphdodjidbngaaQNeeE
import Derived.Lib.MinMax
import Derived.Test.YtdphdodjidbngaaGaP
namespace Go.Proofs.Ytdphdodjidbngaa
open Go.RowKit Go.Sort
set_option linter.unusedVariables false
set_option linter.unusedSimpArgs false

set_option maxHeartbeats 1000000 in
theorem rnsame_any (A B : Option Addr) (len cap len' cap' : Nat) (l m : List (Int × Int)) (W : World) (hA : Sl W 2 A len cap (pcells l)) (hB : Sl W 2 B len' cap' (pcells m)) (h6 : len ≤ 9223372036854775807) (h7 : len' ≤ 9223372036854775807) :
    Calls Try.prog 14 #[.slice A len cap, .slice B len' cap'] W fun e w' => e = .returned (.bool (l == m)) ∧ ∃ q, w' = W.drewN q := by
  obtain rfl := hA.plen
  obtain rfl := hB.plen
  by_cases hlen : l.length = m.length
  · have HA := hid hA
    have HB := hid hB
    clear hA hB
    have HL := hid hlen
    rw [← hlen]
    clear h7 hlen
    go_enter Try.func14, Try.ntmps14
    go_wp2
    go_loopw [5] (fun i wr => ∃ k q : Nat, k ≤ l.length ∧ i = .int .i64 (k : Int) ∧ wr = W.drewN q ∧ Hid (l.take k = m.take k)) (fun i _ => l.length - (intOf i).toNat)
    case atStart => exact ⟨0, 0, by omega, rfl, rfl, by simp [Hid]⟩
    case round =>
      obtain ⟨k, q, hk, rfl, rfl, HT⟩ := hrel
      by_cases hlt : k < l.length
      · have hltm : k < m.length := by have := HL.out; omega
        obtain ⟨b, off, hA⟩ := HA.out.addr (by rw [pcells_length]; omega)
        subst hA
        obtain ⟨b2, off2, hB⟩ := HB.out.addr (by rw [pcells_length]; omega)
        subst hB
        obtain ⟨c1, c2⟩ := HA.out.pair k hlt
        obtain ⟨d1, d2⟩ := HB.out.pair k hltm
        have HE : Hid (l[k] = m[k] ↔ l.take (k + 1) = m.take (k + 1)) := by
          have h1 : l.take (k + 1) = l.take k ++ [l[k]] := by rw [List.take_add_one, List.getElem?_eq_getElem hlt]; rfl
          have h2 : m.take (k + 1) = m.take k ++ [m[k]] := by rw [List.take_add_one, List.getElem?_eq_getElem hltm]; rfl
          rw [Hid, h1, h2, HT.out]
          exact ⟨fun h => by rw [h], fun h => by simpa using List.append_cancel_left h⟩
        generalize l[k] = x at c1 c2 HE
        generalize m[k] = y at d1 d2 HE
        obtain ⟨x1, x2⟩ := x
        obtain ⟨y1, y2⟩ := y
        simp only at c1 c2 d1 d2
        have hlt2 : (k : Int) < (l.length : Int) := by omega
        by_cases hxy : x1 = y1 ∧ x2 = y2
        · obtain ⟨rfl, rfl⟩ := hxy
          have HE2 := hid (HE.out.1 rfl)
          clear HE
          have e1 : (x1 == x1) = true := by simp
          have e2 : (x2 == x2) = true := by simp
          go_wp2
          go_quiet (fail)
          go_wp2
          go_roundw
          case rel => exact ⟨k + 1, q + nq, by omega, by go_num, rfl, HE2.out⟩
          case measure => simp [intOf]; omega
        · have HF : Hid ((l == m) = false) := by
            simp only [Hid, beq_eq_false_iff_ne, ne_eq]
            intro h
            have := HE.out.2 (by rw [h])
            simp only [Prod.mk.injEq] at this
            exact hxy this
          clear HE
          by_cases h1 : x1 = y1
          · subst h1
            have e1 : (x1 == x1) = true := by simp
            have e2 : (x2 == y2) = false := by rw [beq_eq_false_iff_ne]; exact fun h => hxy ⟨rfl, h⟩
            clear hxy
            go_wp2
            go_quiet (fail)
            go_wp2
            go_ret
            refine ⟨?_, q + nq, by simp⟩
            rw [HF.out]
            rfl
          · have e1 : (x1 == y1) = false := by rw [beq_eq_false_iff_ne]; exact h1
            clear hxy h1
            go_wp2
            go_quiet (fail)
            go_wp2
            go_ret
            refine ⟨?_, q + nq, by simp⟩
            rw [HF.out]
            rfl
      · have HF : Hid ((l == m) = true) := by
          have h1 := HT.out
          rw [List.take_of_length_le (by omega), List.take_of_length_le (by have := HL.out; omega)] at h1
          simp [Hid, h1]
        have hge : ¬ (k : Int) < (l.length : Int) := by omega
        go_wp2
        go_ret
        refine ⟨?_, _, rfl⟩
        rw [HF.out]
        rfl
  · have HF : Hid ((l == m) = false) := by
      simp only [Hid, beq_eq_false_iff_ne, ne_eq]
      intro h
      exact hlen (by rw [h])
    rw [HF.out]
    have hne : ((l.length : Int) != (m.length : Int)) = true := by simp; omega
    clear HF hA hB h6 h7 hlen
    go_enter Try.func14, Try.ntmps14
    go_wp2
    go_ret
    exact ⟨rfl, 0, rfl⟩




theorem parts0_any (op : Int) (w : World) : Calls Try.prog 73 #[.int .i64 op] w fun e w' => e = .returned (.int .i64 ((arN op : Nat) : Int)) ∧ w = w' := by
  by_cases h3 : op = 3
  · subst h3
    go_enter Try.func73, Try.ntmps73
    go_wp2
    go_ret
    exact ⟨rfl, rfl⟩
  by_cases h4 : op = 4
  · subst h4
    go_enter Try.func73, Try.ntmps73
    go_wp2
    go_ret
    exact ⟨rfl, rfl⟩
  by_cases h5 : op = 5
  · subst h5
    go_enter Try.func73, Try.ntmps73
    go_wp2
    go_ret
    exact ⟨rfl, rfl⟩
  have HA : Hid (arN op = 0) := hid (by simp [arN, h3, h4, h5])
  have e3 : (op == 3) = false := by simp [h3]
  have e4 : (op == 4) = false := by simp [h4]
  have e5 : (op == 5) = false := by simp [h5]
  go_enter Try.func73, Try.ntmps73
  go_wp2
  go_ret
  exact ⟨by rw [HA.out]; rfl, rfl⟩
theorem may_any (op n : Int) (W : World) : Calls Try.prog 47 #[.agg #[.int .i64 op, .int .i64 n]] W fun e w' => e = .returned (.bool (mayN (op, n))) ∧ Below W.heap.size W w' := by
  have HM : Hid (mayN (op, n) = if op = 2 then decide (0 ≤ n) && decide (n < 16) else (decide (1 ≤ op) && decide (op ≤ 5)) && decide (n = 0)) := hid rfl
  have HB : Hid (∀ o, Below W.heap.size W (W.alloc o)) := hid (fun o => (Below.refl _ _).alloc (Nat.le_refl _) _)
  go_enter Try.func47, Try.ntmps47
  go_wp2
  all_goals go_ret
  all_goals
    refine ⟨?_, HB.out _⟩
    rw [HM.out]
    congr 2
    simp_all
    try (first | omega | (rw [Bool.eq_iff_iff]; simp))

set_option maxRecDepth 20000 in
set_option maxHeartbeats 2000000 in
theorem begin_any (A : Option Addr) (cap : Nat) (l : List (Int × Int)) (e : Nat) (W : World) (h : Sl W 2 A l.length cap (pcells l)) (hl : l.length ≤ 1000) (he : e < l.length) :
    Calls Try.prog 48 #[.slice A l.length cap, .int .i64 (e : Int)] W fun x w' => x = .returned (.int .i64 (beginN l (e + 1))) ∧ W = w' := by
  have HS := hid h
  have hl9 : (l.length : Int) ≤ 1000 := by omega
  have HP := hid parts0_any
  clear h
  go_enter Try.func48, Try.ntmps48
  go_wp2
  go_loop [5, 6] (fun s i => ∃ j m : Nat, j ≤ e + 1 ∧ m ≤ 2 * (e + 1 - j) ∧ i = .int .i64 ((j : Int) - 1) ∧ s = .int .i64 ((m : Int) + 1) ∧ Hid (bkN l j (m + 1) = beginN l (e + 1))) (fun _ i => (intOf i + 1).toNat)
  case atStart => exact ⟨e + 1, 0, by omega, by omega, congrArg (Value.int .i64) (by omega), rfl, rfl⟩
  case round =>
    obtain ⟨j, m, hj, hm, rfl, rfl, HK⟩ := hrel
    cases j with
    | zero =>
      have HV : Hid (beginN l (e + 1) = -1) := hid (by rw [← HK.out]; rfl)
      clear HK
      go_wp2
      go_ret
      exact ⟨by rw [HV.out]; rfl, rfl⟩
    | succ j =>
      rw [show ((j + 1 : Nat) : Int) - 1 = (j : Int) by omega]
      have hj2 : j < l.length := by omega
      have hj3 : (j : Int) < (l.length : Int) := by omega
      obtain ⟨bb, off, rfl⟩ : ∃ b off, A = some ⟨b, off, none⟩ := by
        obtain ⟨b, off, ha, _⟩ := HS.out.2.2.2 (by rw [pcells_length]; omega)
        exact ⟨b, off, ha⟩
      obtain ⟨hc0, hc1⟩ := HS.out.pair j hj2
      have hk := HK.out
      rw [bkN, List.getD_eq_getElem?_getD, List.getElem?_eq_getElem hj2] at hk
      simp only [Option.getD_some] at hk
      have HK2 := hid hk
      generalize l[j] = x at *
      obtain ⟨op, n⟩ := x
      simp only at HK2
      have har : arN op ≤ 2 := by unfold arN; split; omega; split <;> omega
      have HPC := hid (HP.out op W)
      clear hk HK
      generalize arN op = a at *
      have har2 : (a : Int) ≤ 2 := by omega
      have hm9 : (m : Int) ≤ 2100 := by omega
      by_cases h0 : m + a = 0
      · have hm0 : m = 0 := by omega
        have ha0 : a = 0 := by omega
        subst hm0
        subst ha0
        have HV : Hid (beginN l (e + 1) = (j : Int)) := hid (by rw [← HK2.out]; simp)
        clear HK2
        go_wp2_with (go_at_call 73; refine HPC.out.mono ?_; rintro x w' ⟨rfl, rfl⟩)
        go_ret
        exact ⟨by rw [HV.out]; rfl, rfl⟩
      · have h0' : ¬ ((m : Int) + (a : Int) = 0) := by omega
        obtain ⟨d, hd⟩ : ∃ d, m + a = d + 1 := ⟨m + a - 1, by omega⟩
        have HV : Hid (bkN l j (d + 1) = beginN l (e + 1)) := hid (by
          have := HK2.out
          rw [if_neg (by omega), show m + 1 - 1 + a = d + 1 by omega] at this
          exact this)
        clear HK2
        go_wp2_with (go_at_call 73; refine HPC.out.mono ?_; rintro x w' ⟨rfl, rfl⟩)
        go_round
        case rel => exact ⟨j, d, by omega, by omega, rfl, congrArg (Value.int .i64) (by omega), HV.out⟩
        case measure => simp [intOf]
end Go.Proofs.Ytdphdodjidbngaa

namespace Go.Proofs.Ytdphdodjidbngaa
open Go.RowKit Go.Sort
set_option linter.unusedVariables false
set_option linter.unusedSimpArgs false

/-- The node that stands last in a tree's list. -/
def lastN : Nt → Int × Int
  | .yes => (1, 0)
  | .attr n => (2, n)
  | .not _ => (3, 0)
  | .pair op _ _ => (op, 0)
theorem last_at (t : Nt) (pre post : List (Int × Int)) (e : Nat) (he : e + 1 = pre.length + t.flat.length) : ∃ h : e < (pre ++ (t.flat ++ post)).length, (pre ++ (t.flat ++ post))[e] = lastN t := by
  have hp := t.flat_pos
  have h : e < (pre ++ (t.flat ++ post)).length := by simp; omega
  refine ⟨h, ?_⟩
  rw [List.getElem_append_right (by omega)]
  rw [List.getElem_append_left (by omega)]
  cases t with
  | yes => simp only [Nt.flat, List.length_singleton] at he; simp only [Nt.flat, lastN]; simp [show e - pre.length = 0 by omega]
  | attr n => simp only [Nt.flat, List.length_singleton] at he; simp only [Nt.flat, lastN]; simp [show e - pre.length = 0 by omega]
  | not t =>
    simp only [Nt.flat, List.length_append, List.length_singleton] at he
    simp only [Nt.flat, lastN]
    rw [List.getElem_append_right (by omega)]
    simp [show e - pre.length - t.flat.length = 0 by omega]
  | pair op a b =>
    simp only [Nt.flat, List.length_append, List.length_singleton] at he
    simp only [Nt.flat, lastN]
    rw [List.getElem_append_right (by omega), List.getElem_append_right (by omega)]
    simp [show e - pre.length - a.flat.length - b.flat.length = 0 by omega]
theorem Sl.at2 {w : World} {A : Option Addr} {len cap : Nat} {l : List (Int × Int)} (h : Sl w 2 A len cap (pcells l)) (k : Nat) (hk : k < l.length) : ∃ b off, A = some ⟨b, off, none⟩ ∧ w.cell? ⟨b, off + k * 2, none⟩ = some (.int .i64 l[k].1) ∧ w.cell? ⟨b, off + k * 2 + 1, none⟩ = some (.int .i64 l[k].2) := by
  obtain ⟨b, off, rfl⟩ : ∃ b off, A = some ⟨b, off, none⟩ := by
    obtain ⟨b, off, ha, _⟩ := h.2.2.2 (by rw [pcells_length]; omega)
    exact ⟨b, off, ha⟩
  exact ⟨b, off, rfl, h.pair k hk⟩

set_option maxRecDepth 20000 in
set_option maxHeartbeats 4000000 in
theorem depth0_any (A : Option Addr) (cap : Nat) (l : List (Int × Int)) (W : World) (h : Sl W 2 A l.length cap (pcells l)) (hl : l.length ≤ 1000) :
    ∀ (t : Nt) (pre post : List (Int × Int)) (e : Nat), t.wf → l = pre ++ (t.flat ++ post) → e + 1 = pre.length + t.flat.length →
    Calls Try.prog 49 #[.slice A l.length cap, .int .i64 (e : Int)] W fun x w' => x = .returned (.int .i64 (t.depth : Nat)) ∧ W = w' := by
  intro t
  have HS := hid h
  have HP := hid parts0_any
  have hl9 : (l.length : Int) ≤ 1000 := by omega
  have leaf : ∀ (op n : Int) (e : Nat) (he : e < l.length), l[e] = (op, n) → arN op = 0 → Calls Try.prog 49 #[.slice A l.length cap, .int .i64 (e : Int)] W fun x w' => x = .returned (.int .i64 1) ∧ W = w' := by
    intro op n e he hx ha
    obtain ⟨bb, off, rfl, hc0, hc1⟩ := HS.out.at2 e he
    rw [hx] at hc0 hc1
    simp only at hc0 hc1
    have he3 : (e : Int) < (l.length : Int) := by omega
    have HPC := hid (HP.out op W)
    rw [ha] at HPC
    clear hx HS h
    go_enter Try.func49, Try.ntmps49
    go_wp2_with (go_at_call 73; refine HPC.out.mono ?_; rintro x w' ⟨rfl, rfl⟩)
    go_ret
    exact ⟨rfl, rfl⟩
  have LEAF := hid leaf
  clear leaf
  induction t with
  | yes =>
    intro pre post e hw hl0 he
    obtain ⟨h1, h2⟩ := last_at .yes pre post e he
    exact LEAF.out 1 0 e (by rw [hl0]; exact h1) (by simp only [hl0]; exact h2) rfl
  | attr n =>
    intro pre post e hw hl0 he
    obtain ⟨h1, h2⟩ := last_at (.attr n) pre post e he
    exact LEAF.out 2 n e (by rw [hl0]; exact h1) (by simp only [hl0]; exact h2) rfl
  | not t ih =>
    intro pre post e hw hl0 he
    obtain ⟨h1, h2⟩ := last_at (.not t) pre post e he
    have hp := t.flat_pos
    obtain ⟨e', rfl⟩ : ∃ e', e = e' + 1 := ⟨e - 1, by simp [Nt.flat] at he; omega⟩
    have HR := hid (ih pre ([(3, 0)] ++ post) e' hw (by rw [hl0]; simp [Nt.flat]) (by simp [Nt.flat] at he; omega))
    have hlt : e' + 1 < l.length := by rw [hl0]; exact h1
    obtain ⟨bb, off, rfl, hc0, hc1⟩ := HS.out.at2 (e' + 1) hlt
    have hx : l[e' + 1] = (3, 0) := by simp only [hl0]; exact h2
    rw [hx] at hc0 hc1
    simp only at hc0 hc1
    have he3 : (e' : Int) + 1 < (l.length : Int) := by omega
    have hd9 : t.depth ≤ 1000 := by have := t.depth_le; have : t.flat.length ≤ l.length := by rw [hl0]; simp [Nt.flat]; omega
                                    omega
    have HPC := hid (HP.out 3 W)
    rw [show arN 3 = 1 from rfl] at HPC
    have HV : Hid ((Nt.not t).depth = t.depth + 1) := hid rfl
    generalize (Nt.not t).depth = d2 at *
    generalize t.depth = d at *
    clear hx HS h hl0 h2 ih LEAF h1 hlt hw
    rw [show ((e' + 1 : Nat) : Int) = (e' : Int) + 1 by omega]
    have hw0 : ((e' : Int) + 1).toNat = e' + 1 := by omega
    have h00 : (0 : Int) ≤ (e' : Int) + 1 := by omega
    have hd8 : (d : Int) ≤ 1000 := by omega
    go_enter Try.func49, Try.ntmps49
    go_wp2_with fail
    refine HPC.out.mono ?_
    rintro x w' ⟨rfl, rfl⟩
    go_wp2_with fail
    refine HR.out.mono ?_
    rintro x w' ⟨rfl, rfl⟩
    go_wp2_with fail
    go_ret
    exact ⟨by rw [HV.out]; rfl, rfl⟩
  | pair op a b iha ihb =>
    intro pre post e hw hl0 he
    obtain ⟨h1, h2⟩ := last_at (.pair op a b) pre post e he
    have hp := a.flat_pos
    have hq := b.flat_pos
    obtain ⟨e2, rfl⟩ : ∃ e', e = e' + 1 := ⟨e - 1, by simp [Nt.flat] at he; omega⟩
    obtain ⟨e1, he1⟩ : ∃ e1, e1 + 1 = pre.length + a.flat.length := ⟨pre.length + a.flat.length - 1, by omega⟩
    have he2 : e2 + 1 = (pre ++ a.flat).length + b.flat.length := by simp [Nt.flat] at he ⊢; omega
    have HRb := hid (ihb (pre ++ a.flat) ([(op, 0)] ++ post) e2 hw.2.2 (by rw [hl0]; simp [Nt.flat]) he2)
    have HRa := hid (iha pre (b.flat ++ ([(op, 0)] ++ post)) e1 hw.2.1 (by rw [hl0]; simp [Nt.flat]) he1)
    have hlt : e2 + 1 < l.length := by rw [hl0]; exact h1
    have HBG := hid (begin_any A cap l e2 W HS.out hl (by omega))
    have hbg : beginN l (e2 + 1) = ((e1 + 1 : Nat) : Int) := by
      rw [hl0, show pre ++ ((Nt.pair op a b).flat ++ post) = (pre ++ a.flat) ++ (b.flat ++ ([(op, 0)] ++ post)) by simp [Nt.flat], he2, begin_flat _ _ _ hw.2.2, he1]
      simp
    rw [hbg] at HBG
    obtain ⟨bb, off, rfl, hc0, hc1⟩ := HS.out.at2 (e2 + 1) hlt
    have hx : l[e2 + 1] = (op, 0) := by simp only [hl0]; exact h2
    rw [hx] at hc0 hc1
    simp only at hc0 hc1
    have he3 : (e2 : Int) + 1 < (l.length : Int) := by omega
    have hla : a.flat.length + b.flat.length ≤ l.length := by rw [hl0]; simp [Nt.flat]; omega
    have hd9 : a.depth ≤ 1000 := by have := a.depth_le; omega
    have hd7 : b.depth ≤ 1000 := by have := b.depth_le; omega
    have he19 : e1 ≤ 1000 := by have : e1 + 1 ≤ l.length := by rw [hl0]; simp [Nt.flat]; omega
                                omega
    have ho : arN op = 2 := by rcases hw.1 with rfl | rfl <;> rfl
    have HPC := hid (HP.out op W)
    rw [ho] at HPC
    have HV : Hid ((Nt.pair op a b).depth = max a.depth b.depth + 1) := hid rfl
    generalize (Nt.pair op a b).depth = d2 at *
    generalize a.depth = da at *
    generalize b.depth = db at *
    clear hx HS h hl0 h2 iha ihb LEAF h1 hlt hw ho hbg he he1 he2 hla
    rw [show ((e2 + 1 : Nat) : Int) = (e2 : Int) + 1 by omega]
    rw [show ((e1 + 1 : Nat) : Int) = (e1 : Int) + 1 by omega] at HBG
    have hw0 : ((e2 : Int) + 1).toNat = e2 + 1 := by omega
    have h00 : (0 : Int) ≤ (e2 : Int) + 1 := by omega
    have hd8 : (da : Int) ≤ 1000 := by omega
    have hd6 : (db : Int) ≤ 1000 := by omega
    have he18 : (e1 : Int) ≤ 1000 := by omega
    go_enter Try.func49, Try.ntmps49
    go_wp2_with fail
    refine HPC.out.mono ?_
    rintro x w' ⟨rfl, rfl⟩
    go_wp2_with fail
    refine HRb.out.mono ?_
    rintro x w' ⟨rfl, rfl⟩
    go_wp2_with fail
    refine HBG.out.mono ?_
    rintro x w' ⟨rfl, rfl⟩
    go_wp2_with fail
    refine HRa.out.mono ?_
    rintro x w' ⟨rfl, rfl⟩
    go_wp2_with fail
    go_ret
    exact ⟨by
      rw [HV.out]
      have e9 : (((max da db + 1 : Nat)) : Int) = max (db : Int) (da : Int) + 1 := by omega
      rw [e9]
      rfl, rfl⟩

end Go.Proofs.Ytdphdodjidbngaa

namespace Go.Proofs.Ytdphdodjidbngaa
open Go.RowKit Go.Sort
set_option linter.unusedVariables false
set_option linter.unusedSimpArgs false

theorem chkN_bad {l : List (Int × Int)} {k : Nat} (hk : k < l.length) (h : mayN l[k] = false) (hl : ¬ 31 < l.length) : chkN l = 1 :=
  chkN_none (fun t hw he => by
    have h1 := flat_may hw l[k] (by rw [← he]; exact List.getElem_mem hk)
    rw [h] at h1
    exact absurd h1 (by simp)) hl
theorem chkN_begin {l : List (Int × Int)} (h : beginN l l.length ≠ 0) (hl : ¬ 31 < l.length) : chkN l = 1 :=
  chkN_none (fun t hw he => h (by
    have h1 := begin_flat [] [] t hw
    simp only [List.nil_append, List.append_nil, List.length_nil, Nat.zero_add] at h1
    rw [he, h1]
    rfl)) hl
theorem chkN_nil {l : List (Int × Int)} (h : l.length = 0) : chkN l = 1 :=
  chkN_none (fun t hw he => by
    have := t.flat_pos
    rw [← he] at this
    omega) (by omega)

set_option maxRecDepth 20000 in
set_option maxHeartbeats 4000000 in
theorem rcheck09_any (A : Option Addr) (cap : Nat) (l : List (Int × Int)) (W : World) (h : Sl W 2 A l.length cap (pcells l)) (hl : l.length ≤ 1000) :
    Calls Try.prog 13 #[.slice A l.length cap] W fun e w' => e = .returned (.int .i64 (chkN l)) ∧ Below W.heap.size W w' := by
  by_cases h31 : 31 < l.length
  · have h2 : (31 : Int) < (l.length : Int) := by omega
    have HC : Hid (chkN l = 4) := hid (by unfold chkN; rw [if_pos h31])
    have hl9 : (l.length : Int) ≤ 1000 := by omega
    clear h
    generalize hm : l.length = m at *
    clear hm
    go_enter Try.func13, Try.ntmps13
    go_wp2_with fail
    go_ret
    exact ⟨by rw [HC.out]; rfl, Below.refl _ _⟩
  have hl31 : (l.length : Int) ≤ 31 := by omega
  have HS := hid (fun w (hw : Below W.heap.size W w) => h.below hw)
  have HL := hid hl
  clear h hl
  go_enter Try.func13, Try.ntmps13
  go_wp2_with fail
  go_loopw [3] (fun i wr => ∃ k : Nat, k ≤ l.length ∧ i = .int .i64 (k : Int) ∧ Hid ((∀ x ∈ l.take k, mayN x = true) ∧ Below W.heap.size W wr)) (fun i _ => l.length - (intOf i).toNat)
  case atStart => exact ⟨0, by omega, rfl, by simp, Below.refl _ _⟩
  case round =>
    obtain ⟨k, hk, rfl, HR⟩ := hrel
    by_cases hlt : k < l.length
    · have hlt2 : (k : Int) < (l.length : Int) := by omega
      obtain ⟨bb, off, rfl, hc0, hc1⟩ := (HS.out _ HR.out.2).at2 k hlt
      have HM := hid (fun w => may_any l[k].1 l[k].2 w)
      cases hm : mayN l[k] with
      | false =>
        have HB := hid (chkN_bad hlt hm h31)
        rw [show (l[k].1, l[k].2) = l[k] from rfl, hm] at HM
        have HBW := hid HR.out.2
        generalize l[k] = x at *
        obtain ⟨op, n⟩ := x
        simp only at *
        clear hm HR HS
        go_wp2_with fail
        refine (HM.out _).mono ?_
        rintro e w2 ⟨rfl, hb2⟩
        have HB2 := hid (HBW.out.trans (hb2.mono HBW.out.size))
        clear hb2 HBW hc0 hc1 HM
        go_wp2
        go_ret
        exact ⟨by rw [HB.out]; rfl, HB2.out⟩
      | true =>
        have HN : Hid (∀ x ∈ l.take (k + 1), mayN x = true) := hid (fun x hx => by
          rw [List.take_succ_eq_append_getElem hlt] at hx
          rcases List.mem_append.1 hx with hx | hx
          · exact HR.out.1 x hx
          · rw [List.mem_singleton.1 hx]; exact hm)
        rw [show (l[k].1, l[k].2) = l[k] from rfl, hm] at HM
        have HBW := hid HR.out.2
        generalize l[k] = x at *
        obtain ⟨op, n⟩ := x
        simp only at *
        clear hm HR HS
        go_wp2_with fail
        refine (HM.out _).mono ?_
        rintro e w2 ⟨rfl, hb2⟩
        have HB2 := hid (HBW.out.trans (hb2.mono HBW.out.size))
        clear hb2 HBW hc0 hc1 HM
        go_wp2
        go_roundw
        case rel => exact ⟨k + 1, by omega, by go_num, HN.out, HB2.out⟩
        case measure => simp [intOf]; omega
    · have hge : ¬ (k : Int) < (l.length : Int) := by omega
      have HMY : Hid (∀ x ∈ l, mayN x = true) := hid (by have := HR.out.1; rw [List.take_of_length_le (by omega)] at this; exact this)
      have HBW := hid HR.out.2
      clear HR
      by_cases h0 : l.length = 0
      · have HV := hid (chkN_nil h0)
        have h0' : (l.length : Int) = 0 := by omega
        generalize hm : l.length = m at *
        clear hm
        obtain rfl : m = 0 := h0
        obtain rfl : k = 0 := by omega
        go_wp2_with fail
        go_ret
        exact ⟨by rw [HV.out]; rfl, HBW.out⟩
      · obtain ⟨e, he⟩ : ∃ e, l.length = e + 1 := ⟨l.length - 1, by omega⟩
        have HSW := hid (HS.out _ HBW.out)
        have HBG := hid (begin_any A cap l e wr HSW.out HL.out (by omega))
        have HD0 := hid (fun (t : Nt) (hw : t.wf) (hl0 : l = t.flat) => depth0_any A cap l wr HSW.out HL.out t [] [] e hw (by simpa using hl0) (by simp; rw [← hl0]; omega))
        rw [← he] at HBG
        have HTR := hid (fun hb => begin_tree HMY.out hb)
        have HNB := hid (fun hb => chkN_begin (l := l) hb h31)
        have HCT := hid (fun (t : Nt) (hw : t.wf) (hl0 : l = t.flat) => (by rw [hl0]; rw [chkN_tree hw, ← hl0, if_neg h31] : chkN l = if 8 < t.depth then 4 else 0))
        have hfl := fun (t : Nt) (hl0 : l = t.flat) => (by have := t.depth_le; rw [← hl0] at this; omega : t.depth ≤ 31)
        have HFL := hid hfl
        clear HSW HS HMY hfl HL
        have hz : ¬ ((l.length : Int) = 0) := by omega
        have hee : (l.length : Int) = (e : Int) + 1 := by omega
        generalize beginN l l.length = b at *
        generalize hm : l.length = m at *
        clear hm
        subst he
        rw [show ((e + 1 : Nat) : Int) = (e : Int) + 1 by omega] at *
        have hz2 : ((e : Int) + 1 == 0) = false := by simp; omega
        by_cases hb0 : b = 0
        · obtain ⟨t, hw, hl0⟩ := HTR.out hb0
          have HDT := hid (HD0.out t hw hl0)
          have HVT := hid (HCT.out t hw hl0)
          have hd := HFL.out t hl0
          subst hb0
          clear HTR HNB HCT HFL HD0 hl0 hw
          generalize t.depth = d at *
          go_wp2_with fail
          refine HBG.out.mono ?_
          rintro x w2 ⟨rfl, rfl⟩
          go_wp2_with fail
          refine HDT.out.mono ?_
          rintro x w2 ⟨rfl, rfl⟩
          by_cases h8 : 8 < d
          · have h8' : (8 : Int) < (d : Int) := by omega
            have HV : Hid (chkN l = 4) := hid (by rw [HVT.out, if_pos h8])
            go_wp2
            go_ret
            exact ⟨by rw [HV.out]; rfl, HBW.out⟩
          · have h8' : ¬ (8 : Int) < (d : Int) := by omega
            have HV : Hid (chkN l = 0) := hid (by rw [HVT.out, if_neg h8])
            go_wp2
            go_ret
            exact ⟨by rw [HV.out]; rfl, HBW.out⟩
        · have HV := hid (HNB.out hb0)
          have hb1 : (b != 0) = true := by simp [hb0]
          have hb2 : (b == 0) = false := by simp [hb0]
          clear HTR HNB HCT HFL HD0
          go_wp2_with fail
          refine HBG.out.mono ?_
          rintro x w2 ⟨rfl, rfl⟩
          go_wp2
          go_ret
          exact ⟨by rw [HV.out]; rfl, HBW.out⟩
end Go.Proofs.Ytdphdodjidbngaa

namespace Go.Proofs.Ytdphdodjidbngaa
open Go.RowKit Go.Sort
set_option linter.unusedVariables false
set_option linter.unusedSimpArgs false

def attrsL (l : List (Int × Int)) : List Int := (l.filter (fun x => x.1 == 2)).map (·.2)
theorem attrsL_append (a b : List (Int × Int)) : attrsL (a ++ b) = attrsL a ++ attrsL b := by simp [attrsL]
theorem ofL_append (a b : List Int) : ofL (a ++ b) = ofL a ||| ofL b := by
  apply Nat.eq_of_testBit_eq
  intro i
  rw [Nat.testBit_or, ofL_bit, ofL_bit, ofL_bit, Bool.eq_iff_iff]
  simp only [List.mem_append, Bool.and_eq_true, Bool.or_eq_true, decide_eq_true_eq]
  constructor
  · rintro ⟨h1, h2 | h2⟩
    · exact .inl ⟨h1, h2⟩
    · exact .inr ⟨h1, h2⟩
  · rintro (⟨h1, h2⟩ | ⟨h1, h2⟩)
    · exact ⟨h1, .inl h2⟩
    · exact ⟨h1, .inr h2⟩
theorem ofL_nil : ofL [] = 0 := by decide
theorem asks_of : ∀ t : Nt, t.wf → t.asks = ofL (attrsL t.flat)
  | .yes, _ => ofL_nil.symm
  | .attr n, _ => by rw [Nt.asks, Nt.flat]; simp [attrsL]
  | .not t, h => by
    rw [Nt.asks, Nt.flat, attrsL_append, ofL_append, asks_of t h, Nat.zero_or]
    have : attrsL [((3 : Int), (0 : Int))] = [] := by simp [attrsL]
    rw [this, ofL_nil, Nat.or_zero]
  | .pair op a b, h => by
    rw [Nt.asks, Nt.flat, attrsL_append, ofL_append, attrsL_append, ofL_append, asks_of a h.2.1, asks_of b h.2.2, Nat.zero_or]
    have : attrsL [(op, (0 : Int))] = [] := by rcases h.1 with rfl | rfl <;> simp [attrsL]
    rw [this, ofL_nil, Nat.or_zero]
theorem attrsL_take {l : List (Int × Int)} {k : Nat} (hk : k < l.length) : attrsL (l.take (k + 1)) = attrsL (l.take k) ++ if l[k].1 = 2 then [l[k].2] else [] := by
  rw [List.take_succ_eq_append_getElem hk, attrsL_append]
  congr 1
  by_cases h : l[k].1 = 2 <;> simp [attrsL, h]
theorem attrsL_len (l : List (Int × Int)) : (attrsL l).length ≤ l.length := by
  unfold attrsL
  rw [List.length_map]
  exact List.length_filter_le _ _

end Go.Proofs.Ytdphdodjidbngaa

namespace Go.Proofs.Ytdphdodjidbngaa
open Go.RowKit Go.Sort
set_option linter.unusedVariables false
set_option linter.unusedSimpArgs false

theorem drewN_below {W : World} (q : Nat) : Below W.heap.size W (W.drewN q) := by
  have h := Below.refl W.heap.size W
  exact ⟨h.os, h.tape, h.output, h.size, h.block⟩
theorem Sl.len63 {w : World} {n len cap : Nat} {A : Option Addr} {cs : List Value} (h : Sl w n A len cap cs) : len ≤ 9223372036854775807 := by
  have h1 := h.2.1; have h2 := h.2.2.1; unfold maxLen at h2; omega
theorem rnsame_bel (A B : Option Addr) (cap cap' : Nat) (l m : List (Int × Int)) (W : World) (hA : Sl W 2 A l.length cap (pcells l)) (hB : Sl W 2 B m.length cap' (pcells m)) :
    Calls Try.prog 14 #[.slice A l.length cap, .slice B m.length cap'] W fun e w' => e = .returned (.bool (l == m)) ∧ Below W.heap.size W w' :=
  (rnsame_any A B l.length cap m.length cap' l m W hA hB hA.len63 hB.len63).mono fun _ _ ⟨h1, q, h2⟩ => ⟨h1, h2 ▸ drewN_below q⟩
theorem two_of {l : List Value} (h : l.length = 2) : ∃ u v, l = [u, v] := by
  match l, h with
  | [u, v], _ => exact ⟨u, v, rfl⟩
def exN : List (Int × Int) := [(2, 1), (3, 0)]
theorem exNs : sayN exN 2 = false ∧ sayN exN 0 = true ∧ depN exN = 2 := ⟨by kernel_rfl, by kernel_rfl, by kernel_rfl⟩
/-- Pairs that came in. -/
theorem nodes_in {w : World} {A : Option Addr} {len cap : Nat} (h : Rd Try.prog w 23 [.slice A len cap]) : ∃ l : List (Int × Int), Sl w 2 A len cap (pcells l) ∧ l.length = len := by
  have hc3 : Try.prog.cellsOf 3 = 1 := by kernel_rfl
  obtain ⟨h1, h2, h3⟩ := Rd.slice_plain Try.underlying23 (n := 2) (by kernel_rfl) (by omega) h
  by_cases h0 : 0 < len
  · obtain ⟨b, off, rfl, z, hz⟩ := h3 h0
    have key : ∀ i, i < len → ∃ x : Int × Int, z i = [.int .i64 x.1, .int .i64 x.2] := fun i hi => by
      obtain ⟨hl, hr, _⟩ := hz i hi
      obtain ⟨_, hf⟩ := Rd.struct Try.underlying77 hr
      have f0 : Rd Try.prog w 3 (((z i).drop 0).take (Try.prog.cellsOf 3)) := hf 0 _ rfl
      have f1 : Rd Try.prog w 3 (((z i).drop 1).take (Try.prog.cellsOf 3)) := hf 1 _ rfl
      rw [hc3] at f0 f1
      obtain ⟨a, ea, _⟩ := Rd.int Try.underlying3 f0
      obtain ⟨c, ec, _⟩ := Rd.int Try.underlying3 f1
      obtain ⟨u, v, huv⟩ := two_of hl
      rw [huv] at ea ec
      simp at ea ec
      exact ⟨(a, c), by rw [huv, ea, ec]⟩
    obtain ⟨g, hg⟩ := Go.Deep.choose_lt (α := Int × Int) key
    have hll : ((List.range len).map g).length = len := by simp
    refine ⟨(List.range len).map g, ⟨by rw [pcells_length, hll], h1, h2, fun _ => ⟨b, off, rfl, fun i hi => ?_⟩⟩, hll⟩
    rw [pcells_length, hll] at hi
    have hk : i / 2 < ((List.range len).map g).length := by rw [hll]; omega
    obtain ⟨e1, e2⟩ := pcells_get ((List.range len).map g) (i / 2) hk
    have hgk : ((List.range len).map g)[i / 2] = g (i / 2) := by simp
    rw [hgk] at e1 e2
    have hzk := hz (i / 2) (by omega)
    rcases Nat.mod_two_eq_zero_or_one i with hm | hm
    · have h9 := hzk.2.2 0 (by omega)
      rw [hg (i / 2) (by omega)] at h9
      rw [show off + i / 2 * 2 + 0 = off + i by omega] at h9
      rw [show i / 2 * 2 = i by omega] at e1
      rw [h9, e1]
      rfl
    · have h9 := hzk.2.2 1 (by omega)
      rw [hg (i / 2) (by omega)] at h9
      rw [show off + i / 2 * 2 + 1 = off + i by omega] at h9
      rw [show i / 2 * 2 + 1 = i by omega] at e2
      rw [h9, e2]
      rfl
  · obtain rfl : len = 0 := by omega
    exact ⟨[], ⟨rfl, h1, h2, fun h => by simp [pcells] at h⟩, rfl⟩

end Go.Proofs.Ytdphdodjidbngaa
