/- The document's Next, Below, Same of draws; what is left of a tape, as contracts. -/
import Derived.Test.YtadjmgmdnekllaaDrawT
import Derived.Test.YtadjmgmdnekllaaKeep
import Derived.BigQuiet
import Derived.Deep.QuietTactic
namespace Go.Proofs.Ytadjmgmdnekllaa
open Go.RowKit
set_option linter.unusedVariables false
set_option linter.unusedSimpArgs false

theorem ucell_at {W : World} {A : Option Addr} {len cap : Nat} {l : List Nat} (h : Sl W 1 A len cap (ucells l)) (k : Nat) (hk : k < l.length) : ∃ b off, A = some ⟨b, off, none⟩ ∧ W.cell? ⟨b, off + k, none⟩ = some (.int .u64 (l[k] : Nat)) := by
  obtain ⟨b, off, rfl, hc⟩ := Sl.at h k (by rw [ucells_length]; exact hk)
  have e1 : (ucells l)[k]'(by rw [ucells_length]; exact hk) = .int .u64 ((l[k]'hk : Nat) : Int) := by simp [ucells]
  rw [e1] at hc
  exact ⟨b, off, rfl, hc⟩

set_option maxHeartbeats 400000 in
theorem rdsame_any (A B : Option Addr) (len cap len' cap' : Nat) (l m : List Nat) (W : World) (hA : Sl W 1 A len cap (ucells l)) (hB : Sl W 1 B len' cap' (ucells m)) (h6 : len ≤ 9223372036854775807) (h7 : len' ≤ 9223372036854775807) :
    Calls Try.prog 43 #[.slice A len cap, .slice B len' cap'] W fun e w' => e = .returned (.bool (l == m)) ∧ ∃ q, w' = W.drewN q := by
  obtain rfl : len = l.length := by have := hA.1; rw [ucells_length] at this; omega
  obtain rfl : len' = m.length := by have := hB.1; rw [ucells_length] at this; omega
  by_cases hlen : l.length = m.length
  · have HA := hid hA
    have HB := hid hB
    clear hA hB
    have HL := hid hlen
    rw [← hlen]
    clear h7 hlen
    go_enter Try.func43, Try.ntmps43
    go_wp2
    go_loopw [5] (fun i wr => ∃ k q : Nat, k ≤ l.length ∧ i = .int .i64 (k : Int) ∧ wr = W.drewN q ∧ Hid (l.take k = m.take k)) (fun i _ => l.length - (intOf i).toNat)
    case atStart => exact ⟨0, 0, by omega, rfl, rfl, by simp [Hid]⟩
    case round =>
      obtain ⟨k, q, hk, rfl, rfl, HT⟩ := hrel
      by_cases hlt : k < l.length
      · have hltm : k < m.length := by have := HL.out; omega
        obtain ⟨b, off, rfl, hc⟩ := ucell_at HA.out k hlt
        obtain ⟨b2, off2, rfl, hc2⟩ := ucell_at HB.out k hltm
        have HE : Hid (l[k] = m[k] ↔ l.take (k + 1) = m.take (k + 1)) := by
          have h1 : l.take (k + 1) = l.take k ++ [l[k]] := by rw [List.take_add_one, List.getElem?_eq_getElem hlt]; rfl
          have h2 : m.take (k + 1) = m.take k ++ [m[k]] := by rw [List.take_add_one, List.getElem?_eq_getElem hltm]; rfl
          rw [Hid, h1, h2, HT.out]
          exact ⟨fun h => by rw [h], fun h => by simpa using List.append_cancel_left h⟩
        generalize l[k] = x at hc HE
        generalize m[k] = y at hc2 HE
        have hlt2 : (k : Int) < (l.length : Int) := by omega
        by_cases hxy : x = y
        · have HE2 := hid (HE.out.1 hxy)
          clear HE
          subst hxy
          have hne : (((x : Nat) : Int) != (x : Int)) = false := by simp
          go_wp2
          go_quiet (fail)
          go_wp2
          go_roundw
          case rel => exact ⟨k + 1, q + nq, by omega, by go_num, rfl, HE2.out⟩
          case measure => simp [intOf]; omega
        · have hz : (((x : Nat) : Int) != (y : Int)) = true := by rw [bne_iff_ne]; omega
          have HF : Hid ((l == m) = false) := by
            simp only [Hid, beq_eq_false_iff_ne, ne_eq]
            intro h
            exact hxy (HE.out.2 (by rw [h]))
          clear HE hxy
          go_wp2
          go_quiet (fail)
          go_wp2
          go_ret
          refine ⟨?_, q + nq, by simp⟩
          rw [HF.out]
          rfl
      · have HF : Hid ((l == m) = true) := by
          have h1 := HT.out
          rw [List.take_of_length_le (by omega), List.take_of_length_le (by have := HL.out; omega)] at h1
          simp [Hid, h1]
        have hge : ¬ (k : Int) < (l.length : Int) := by omega
        go_wp2
        go_ret
        refine ⟨?_, _, rfl⟩
        rw [HF.out]
        rfl
  · have HF : Hid ((l == m) = false) := by
      simp only [Hid, beq_eq_false_iff_ne, ne_eq]
      intro h
      exact hlen (by rw [h])
    rw [HF.out]
    have hne : ((l.length : Int) != (m.length : Int)) = true := by simp; omega
    clear HF hA hB h6 h7 hlen
    go_enter Try.func43, Try.ntmps43
    go_wp2
    go_ret
    exact ⟨rfl, 0, rfl⟩

/-- A slice that lies in the same block as another one, or nowhere. -/
def Fro (A A' : Option Addr) : Prop := ∀ b off, A' = some ⟨b, off, none⟩ → ∃ o2, A = some ⟨b, o2, none⟩
theorem Fro.refl (A : Option Addr) : Fro A A := fun b off h => ⟨off, h⟩
theorem Fro.trans {A B C : Option Addr} (h : Fro A B) (h2 : Fro B C) : Fro A C := fun b off h3 => by
  obtain ⟨o, h4⟩ := h2 b off h3
  exact h b o h4
theorem Fro.nil (A : Option Addr) : Fro A none := fun b off h => by cases h
theorem Fro.drop (b off cap k n : Nat) : Fro (some ⟨b, off, none⟩) (dropA (some ⟨b, off, none⟩) cap k n) := fun b2 o2 h => by
  unfold dropA at h
  split at h
  · cases h
    exact ⟨off, rfl⟩
  · rw [Option.map_some, add_none] at h
    cases h
    exact ⟨off, rfl⟩
theorem rdnext_any (A : Option Addr) (len cap : Nat) (l : List Nat) (V W : World) (hV : Below V.heap.size V W) (h : Sl V 1 A len cap (ucells l)) :
    Calls Try.prog 35 #[.slice A len cap] W fun e w' => ∃ A' c', e = .returned (.tuple #[.int .u64 ((l.headD 0 : Nat) : Int), .slice A' l.tail.length c']) ∧ Sl V 1 A' l.tail.length c' (ucells l.tail) ∧ Fro A A' ∧ ∃ q, w' = W.drewN q := by
  obtain rfl : len = l.length := by have := h.1; rw [ucells_length] at this; omega
  match l, h with
  | [], h =>
    clear h hV
    go_enter Try.func35, Try.ntmps35
    go_wp2
    go_ret2
    exact ⟨none, 0, rfl, Sl.nil _ _ _ _ (Nat.zero_le _), Fro.nil _, 0, rfl⟩
  | x :: l, h =>
    have hD := h.drop 1 (by simp)
    have e1 : (ucells (x :: l)).drop (1 * 1) = ucells l := rfl
    rw [e1] at hD
    have hrun := run_from Try.underlying38 info_u64 A (x :: l).length cap 1 (by simp)
    obtain ⟨b, off, rfl, c0⟩ := ucell_at (h.below hV) 0 (by simp)
    have e2 : (x :: l).length - 1 = l.length := by simp
    rw [e2] at hD hrun
    simp only [Int.natCast_one] at hrun
    simp only [List.getElem_cons_zero, Nat.add_zero] at c0
    have HD := hid hD
    obtain ⟨n, hn⟩ : ∃ n, n = (x :: l).length := ⟨_, rfl⟩
    have hn1 : 1 ≤ n := by rw [hn]; simp
    have hn2 : (1 : Int) ≤ (n : Int) := by omega
    have hn3 : (0 : Int) < (n : Int) := by omega
    have hn4 : ((n : Int) == 0) = false := by rw [beq_eq_false_iff_ne]; omega
    rw [← hn] at hrun ⊢
    have HN := hid hn
    clear hn h hD e1 e2 hV
    have HFR := hid (Fro.drop b off cap 1 1)
    generalize dropA (some ⟨b, off, none⟩) cap 1 1 = A9 at *
    go_enter Try.func35, Try.ntmps35
    go_wp2
    go_quiet (fail)
    go_wp2
    go_ret2
    exact ⟨A9, cap - 1, rfl, HD.out, HFR.out, nq, rfl⟩

set_option maxRecDepth 20000 in
theorem rdbelow_any (A : Option Addr) (len cap : Nat) (l : List Nat) (n : Int) (V W : World) (hV : Below V.heap.size V W) (h : Sl V 1 A len cap (ucells l)) (hu : ∀ x ∈ l, x < 18446744073709551616) (hn : n ≤ 9223372036854775807) :
    Calls Try.prog 37 #[.slice A len cap, .int .i64 n] W fun e w' => ∃ A' c', e = .returned (.tuple #[.int .i64 (blw n l : Nat), .slice A' (if n < 1 then l else l.tail).length c']) ∧ Sl V 1 A' (if n < 1 then l else l.tail).length c' (ucells (if n < 1 then l else l.tail)) ∧ Fro A A' ∧ ∃ q, w' = W.drewN q := by
  obtain rfl : len = l.length := by have := h.1; rw [ucells_length] at this; omega
  have H := hid h
  have HX := hid (rdnext_any A l.length cap l V W hV h)
  clear h hV
  by_cases h1 : n < 1
  · have hb : blw n l = 0 := by rw [blw, if_pos h1]
    rw [hb, if_pos h1]
    clear hb HX hu
    go_enter Try.func37, Try.ntmps37
    go_wp2
    go_ret2
    exact ⟨A, cap, rfl, H.out, Fro.refl _, 0, rfl⟩
  · obtain ⟨m, rfl⟩ : ∃ m : Nat, n = (m : Int) := ⟨n.toNat, by omega⟩
    have hb : blw (m : Int) l = l.headD 0 % m := by rw [blw, if_neg h1, Int.toNat_natCast]
    have hx : l.headD 0 < 18446744073709551616 := by
      cases l with
      | nil => simp
      | cons x r => exact hu x (by simp)
    have hm : (1 : Int) ≤ (m : Int) := by omega
    have hmod := Nat.mod_lt (l.headD 0) (show 0 < m by omega)
    have hz : ((m : Int) == 0) = false := by rw [beq_eq_false_iff_ne]; omega
    rw [hb, if_neg h1]
    generalize l.headD 0 = x at *
    generalize l.tail = tl at *
    clear hu hb h1
    have hq : ((x : Int) % (m : Int)) = ((x % m : Nat) : Int) := rfl
    have hq2 : ((x : Int).tmod (m : Int)) = ((x % m : Nat) : Int) := rfl
    generalize x % m = y at *
    go_enter Try.func37, Try.ntmps37
    go_wp2_with fail
    refine HX.out.mono ?_
    rintro e w1 ⟨A', c', rfl, hs, hfr, q, rfl⟩
    have HS := hid hs
    have HFR := hid hfr
    clear hs hfr HX
    go_wp2
    go_ret2
    exact ⟨A', c', rfl, HS.out, HFR.out, q, rfl⟩

set_option maxRecDepth 20000 in
theorem tleft_any (T N : Nat) (l : List Nat) (W : World) (h : TapeAt W T N l) (hl : l.length ≤ 1000) :
    Calls Try.prog 44 #[.pointer (some ⟨T, 0, none⟩)] W fun e w' => ∃ A' c', e = .returned (.slice A' l.length c') ∧ w'.ownsRow W.heap.size 22 1 (.slice A' l.length c') l.length (ucells l) ∧ Below W.heap.size W w' := by
  obtain ⟨A, c, hT, hs, hN⟩ := h
  have hc := cell_of_row W T 0 _ _ _ hT
  simp at hc
  have HS := hid hs
  clear hs hN hT
  go_enter Try.func44, Try.ntmps44
  go_wp2_with (at_builtin; refine wpList_append_sl (W := W) rfl _ (.tmp 8) 38 rfl W.heap.size 22 Try.underlying38 info_u64 rfl (by omega) rfl (World.ownsRow_nil _ _ _ _) rfl HS.out (ucells_one _) (by unfold maxLen; omega) (by omega) (Nat.le_refl _) (Below.refl _ _) ?_)
  intro v1 w1 ho1 hb1 _
  obtain ⟨A1, c1, rfl, _⟩ := Sl.of_own ho1
  have HO := hid ho1
  have HB := hid hb1
  clear ho1 hb1
  go_wp2
  go_ret
  exact ⟨A1, c1, rfl, HO.out, HB.out⟩

set_option maxRecDepth 20000 in
theorem tclone_any (T N : Nat) (l : List Nat) (W : World) (h : TapeAt W T N l) (hl : l.length ≤ 1000) :
    Calls Try.prog 42 #[.pointer (some ⟨T, 0, none⟩)] W fun e w' => ∃ T', e = .returned (.pointer (some ⟨T', 0, none⟩)) ∧ W.heap.size ≤ T' ∧ TapeAt w' T' w'.heap.size l ∧ Below W.heap.size W w' := by
  obtain ⟨A, c, hT, hs, hN⟩ := h
  have hc := cell_of_row W T 0 _ _ _ hT
  simp at hc
  have HC := hid (tnew_any A l.length c l W hs hl)
  clear hs hN hT
  go_enter Try.func42, Try.ntmps42
  go_wp2_with fail
  refine HC.out.mono ?_
  rintro e w1 ⟨T', rfl, hz, hT', hb⟩
  have HT := hid hT'
  have HB := hid hb
  have HZ := hid hz
  clear hT' hb hz HC
  go_wp2
  go_ret
  exact ⟨T', rfl, HZ.out, HT.out, HB.out⟩
end Go.Proofs.Ytadjmgmdnekllaa
