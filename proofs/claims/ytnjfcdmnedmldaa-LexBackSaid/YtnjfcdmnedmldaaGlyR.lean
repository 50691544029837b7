/- The document's Name: contract. -/
import Derived.Test.YtnjfcdmnedmldaaGlyO
namespace Go.Proofs.Ytnjfcdmnedmldaa
open Go.RowKit
set_option linter.unusedVariables false
set_option linter.unusedSimpArgs false

theorem nameR_bad (rs : List Rn) (k : Nat) (hk : k < rs.length) (h : okR rs[k] = false) : nameR rs = false := by
  have : rs.all okR = false := by
    rw [Bool.eq_false_iff]
    intro h2
    rw [List.all_eq_true] at h2
    have := h2 _ (List.getElem_mem hk)
    rw [h] at this
    cases this
  rw [nameR.eq_def, this, Bool.false_and]
theorem nameR_long (rs : List Rn) (h : 16 < rs.length) : nameR rs = false := by
  rw [nameR.eq_def, decide_eq_false (show ¬ rs.length ≤ 16 by omega), Bool.and_false, Bool.false_and, Bool.and_false]
theorem nameR_ok (rs : List Rn) (h0 : 0 < rs.length) (h : rs.length ≤ 16) (ho : ∀ j (hj : j < rs.length), okR rs[j] = true) : nameR rs = decide (57 < (rs[0]).2.1) := by
  have : rs.all okR = true := by
    rw [List.all_eq_true]
    intro r hr
    obtain ⟨j, hj, rfl⟩ := List.getElem_of_mem hr
    exact ho j hj
  cases rs with
  | nil => exact absurd h0 (by simp)
  | cons r rs => rw [nameR, this, decide_eq_true h0, decide_eq_true h]; rfl
theorem Sl.rune {w : World} {b off len cap : Nat} {l : List Rn} (h : Sl w 3 (some ⟨b, off, none⟩) len cap (rcells l)) (k : Nat) (hk : k < l.length) :
    w.cell? ⟨b, off + k * 3 + 1, none⟩ = some (.int .i64 (l[k].2.1 : Nat)) ∧ w.cell? ⟨b, off + k * 3 + 2, none⟩ = some (.bool l[k].2.2) := by
  have hl := rcells_length l
  obtain ⟨b', off', ha, hc⟩ := h.2.2.2 (by omega)
  cases ha
  obtain ⟨g1, g2⟩ := rcells_get l k hk
  exact ⟨by rw [Nat.add_assoc, hc _ (by omega), g1], by rw [Nat.add_assoc, hc _ (by omega), g2]⟩
theorem Sl.addr3 {w : World} {size : Nat} {A : Option Addr} {len cap : Nat} {xs : List Value} (h : Sl w size A len cap xs) (h0 : 0 < xs.length) : ∃ b off, A = some ⟨b, off, none⟩ := by
  obtain ⟨b, off, h1, _⟩ := h.2.2.2 h0
  exact ⟨b, off, h1⟩

set_option maxRecDepth 20000 in
set_option maxHeartbeats 4000000 in
theorem rname_is (l : List UInt8) (hl : l.length ≤ 1000) (W : World) : Calls Try.prog 23 #[.string (str l)] W fun e w' => e = .returned (.bool (nameR (rns l 0))) ∧ Below W.heap.size W w' := by
  have HC := hid (rrunes_is l hl W)
  have hn : (rns l 0).length ≤ 1000 := by have := rns_le l 0; omega
  generalize rns l 0 = rs at *
  go_enter Try.func23, Try.ntmps23
  go_wp2_with fail
  refine HC.out.mono ?_
  rintro e w1 ⟨A, c, rfl, ho, hb⟩
  obtain ⟨A', c', hAc, hs⟩ := Sl.of_own ho
  cases hAc
  have HS := hid hs
  have HB := hid hb
  have HOK := hid (nameR_ok rs)
  have HLG := hid (nameR_long rs)
  have HBAD := hid (nameR_bad rs)
  clear ho hb hs HC
  go_wp2
  go_loop [4] (fun i => ∃ k : Nat, k ≤ rs.length ∧ i = .int .i64 (k : Int) ∧ Hid (∀ j (hj : j < rs.length), j < k → okR rs[j] = true)) (fun i => rs.length - (intOf i).toNat)
  case atStart => exact ⟨0, by omega, rfl, fun j hj h => absurd h (by omega)⟩
  case round =>
    obtain ⟨k, hk, rfl, HT⟩ := hrel
    by_cases hlt : k < rs.length
    · have hlt2 : (k : Int) < (rs.length : Int) := by omega
      obtain ⟨b, off, hA⟩ := HS.out.addr3 (by rw [rcells_length]; omega)
      subst hA
      obtain ⟨c1, c2⟩ := HS.out.rune k hlt
      have HY := hid (HBAD.out k hlt)
      have HT2 : Hid (okR rs[k] = true → ∀ j (hj : j < rs.length), j < k + 1 → okR rs[j] = true) := hid (fun h j hj hjk => by
        by_cases e : j = k
        · subst e; exact h
        · exact HT.out j hj (by omega))
      clear HT HBAD
      unfold okR at HY
      generalize hq : rs[k] = q at c1 c2 HY
      have HQ := hid hq
      clear hq
      obtain ⟨q1, q2, q3⟩ := q
      simp only at c1 c2 HY
      cases q3 with
      | false =>
        have HE := hid (HY.out rfl)
        clear HY
        go_wp2
        go_ret
        exact ⟨by rw [HE.out]; rfl, HB.out⟩
      | true =>
        have HL := hid (fun W => rletter_is (q2 : Int) W)
        by_cases hL : LetP (q2 : Int)
        · have HOQ : Hid (okR rs[k] = true) := hid (by rw [HQ.out, okR]; exact decide_eq_true hL)
          rw [decide_eq_true hL] at HL
          clear HY hL
          go_wp2_with (go_at_call 21; refine (HL.out _).mono ?_; rintro e w' ⟨rfl, rfl⟩)
          go_round
          case rel => exact ⟨k + 1, by omega, by go_num, HT2.out HOQ.out⟩
          case measure => simp [intOf]; omega
        · have HE := hid (HY.out (decide_eq_false hL))
          rw [decide_eq_false hL] at HL
          clear HY hL
          go_wp2_with (go_at_call 21; refine (HL.out _).mono ?_; rintro e w' ⟨rfl, rfl⟩)
          go_ret
          exact ⟨by rw [HE.out]; rfl, HB.out⟩
    · obtain rfl : k = rs.length := by omega
      have hge : ¬ ((rs.length : Nat) : Int) < ((rs.length : Nat) : Int) := by omega
      rcases (by omega : rs.length = 0 ∨ (0 < rs.length ∧ rs.length ≤ 16) ∨ 16 < rs.length) with h0 | ⟨h0, h16⟩ | h16
      · have HE := hid (show nameR rs = false by rw [List.eq_nil_of_length_eq_zero h0]; rfl)
        have e1 : ((rs.length : Nat) : Int) ≤ 0 := by omega
        clear HOK HLG HBAD HT hlt hk h0 hge
        go_wp2
        go_ret
        exact ⟨by rw [HE.out]; rfl, HB.out⟩
      · have hz : ((rs.length : Nat) : Int) ≤ 16 := by omega
        have hp : (0 : Int) < ((rs.length : Nat) : Int) := by omega
        have HE := hid (HOK.out h0 h16 (fun j hj => HT.out j hj hj))
        obtain ⟨b, off, hA⟩ := HS.out.addr3 (by rw [rcells_length]; omega)
        subst hA
        have c1 := (HS.out.rune 0 h0).1
        rw [Nat.zero_mul, Nat.add_zero] at c1
        clear HOK HLG HBAD HT hlt hk hge
        generalize (rs[0]).2.1 = q at c1 HE
        by_cases h57 : 57 < q
        · rw [decide_eq_true h57] at HE
          have e1 : decide ((57 : Int) < (q : Int)) = true := decide_eq_true (by omega)
          clear h57
          go_wp2
          go_ret
          exact ⟨by rw [HE.out]; rfl, HB.out⟩
        · rw [decide_eq_false h57] at HE
          have e1 : decide ((57 : Int) < (q : Int)) = false := decide_eq_false (by omega)
          clear h57
          go_wp2
          go_ret
          exact ⟨by rw [HE.out]; rfl, HB.out⟩
      · have hz : (16 : Int) < ((rs.length : Nat) : Int) := by omega
        have HE := hid (HLG.out h16)
        clear HOK HLG HBAD HT hlt hk hge
        go_wp2
        go_ret
        exact ⟨by rw [HE.out]; rfl, HB.out⟩
end Go.Proofs.Ytnjfcdmnedmldaa
