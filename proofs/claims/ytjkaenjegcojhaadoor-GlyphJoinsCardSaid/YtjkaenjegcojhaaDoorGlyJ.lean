/- glyph.Whole and the document's: contracts. -/
import Derived.Test.YtjkaenjegcojhaaDoorGlyI
import Derived.Test.YtjkaenjegcojhaaDoorShelf
import Derived.Shelf.Unicode.DecodeSlow
namespace Go.Proofs.YtjkaenjegcojhaaDoor
open Go.RowKit
set_option linter.unusedVariables false
set_option linter.unusedSimpArgs false

/-- Utf8's tables, wherever the world has gone on. -/
def TabsAt (w : World) : Prop := Lib.Utf8Tabs 1 2 w
theorem TabsAt.below {W w : World} (h : TabsAt W) (hb : Below W.heap.size W w) : TabsAt w :=
  ⟨fun c hc => cellb hb (h.1 c hc), fun i hi => ⟨cellb hb (h.2 i hi).1, cellb hb (h.2 i hi).2⟩⟩
def whN (l : List UInt8) (p : Nat) : Bool := (rns l p).all fun r => r.2.2
theorem whN_step {l : List UInt8} {p : Nat} (h : p < l.length) : whN l p = (decide (0 < szN (l.drop p)) && whN l (p + max (szN (l.drop p)) 1)) := by
  unfold whN
  rw [rns_step l p h, List.all_cons]
theorem whN_end {l : List UInt8} {p : Nat} (h : l.length ≤ p) : whN l p = true := by unfold whN; rw [rns_end l p h]; rfl
/-- A rune that is the wrong one's number: it is none, or of more than one byte. -/
theorem wrong_sz (l : List UInt8) (h : codeN l (szN l) = 65533) : szN l = 0 ∨ 1 < szN l := by
  rcases Nat.lt_trichotomy (szN l) 1 with h1 | h1 | h1
  · exact .inl (by omega)
  · rw [h1, codeN_1] at h
    have := nb_lt l 0
    omega
  · exact .inr h1

set_option maxRecDepth 20000 in
set_option maxHeartbeats 2000000 in
theorem whole_is (l : List UInt8) (hl : l.length ≤ 1000) (W : World) (hT : TabsAt W) : Calls Tryd.prog 20 #[.string (str l)] W fun e w' => e = .returned (.bool (whN l 0)) ∧ Below W.heap.size W w' := by
  have HSZ := hid (str_size l)
  have HT := hid hT
  have HG : Hid (whN l 0 = whN l 0) := hid rfl
  clear hT
  go_enter Tryd.func20, Tryd.ntmps20
  go_wp2
  go_loopw [3] (fun _ wr => ∃ p : Nat, Hid (wr.heap[W.heap.size]? = some (.stringIter (str l) p)) ∧ p ≤ l.length ∧ Hid (whN l p = whN l 0) ∧ Hid (Below W.heap.size W wr)) (fun _ wr => l.length - wr.iterPos W.heap.size)
  case atStart => exact ⟨0, heap_alloc_new _ _, Nat.zero_le _, rfl, (Below.refl _ _).alloc (Nat.le_refl _) _⟩
  case round =>
    obtain ⟨p, HIT, hp, HW, HB⟩ := hrel
    by_cases hlt : p < l.length
    · have hpl : p < (str l).size := by rw [HSZ.out]; exact hlt
      have hdc : Utf8.decode (str l) p = (codeN (l.drop p) (szN (l.drop p)), max (szN (l.drop p)) 1) := by
        rw [decode_drop, dec_sz _ (by rw [List.length_drop]; omega)]
      have hnx : ∀ ty, (Instr.next (.pointer (some ⟨W.heap.size, 0, none⟩)) true ty).run Tryd.prog wr = .ok (.tuple #[.bool true, .int .i64 (p : Int), .int .i32 ((codeN (l.drop p) (szN (l.drop p)) : Nat) : Int)]) (wr.iterAt W.heap.size (str l) (p + max (szN (l.drop p)) 1)) := fun ty => by
        rw [Lib.run_next_any_at wr W.heap.size (str l) p ty HIT.out hpl, hdc]
      have hsl := sl_str l p hp
      have HDG : Hid (Lib.decodeGo (str (l.drop p)) = (codeN (l.drop p) (szN (l.drop p)), max (szN (l.drop p)) 1)) := hid (by
        unfold Lib.decodeGo
        rw [if_neg (by rw [str_size, List.length_drop]; omega)]
        have := decode_drop (l.drop p) 0
        rw [this, List.drop_zero, dec_sz _ (by rw [List.length_drop]; omega)])
      have hmx : p + max (szN (l.drop p)) 1 ≤ l.length := by
        have := (szN_le (l.drop p) (by rw [List.length_drop]; omega)).1
        rw [List.length_drop] at this
        omega
      have hwd : 1 ≤ max (szN (l.drop p)) 1 := szN_1 _
      have HST := hid (whN_step hlt)
      have HWR := hid (wrong_sz (l.drop p))
      have HNW : Hid (codeN (l.drop p) (szN (l.drop p)) ≠ 65533 → 0 < szN (l.drop p)) := hid (fun h => by
        rcases Nat.eq_zero_or_pos (szN (l.drop p)) with h0 | h0
        · rw [h0] at h
          exact absurd (codeN_0 _) h
        · exact h0)
      have HIT2 := hid (Lib.iterAt_heap wr W.heap.size (str l) p (p + max (szN (l.drop p)) 1) HIT.out)
      have HB2 := hid (Lib.below_iterAt HB.out (Nat.le_refl _) (str l) (p + max (szN (l.drop p)) 1))
      have HM0 := hid (iterPos_is HIT.out)
      have HMM : Hid (max (szN (l.drop p)) 1 = if 0 < szN (l.drop p) then szN (l.drop p) else 1) := hid (by split <;> omega)
      have HCW := hid (fun U (hU : Below W.heap.size W U) => Tryd.utf8_DecodeRuneInString (str (l.drop p)) U (HT.out.below hU))
      rw [HDG.out] at HCW
      clear hdc HIT HB hpl HDG
      generalize szN (l.drop p) = sz at *
      generalize max sz 1 = mm at *
      generalize codeN (l.drop p) sz = cc at *
      generalize str (l.drop p) = sd at *
      by_cases hcc : cc = 65533
      · have e1 : ((cc : Int) != 65533) = false := by rw [hcc]; rfl
        have HZ := hid (HWR.out hcc)
        clear hcc HNW HWR
        obtain ⟨w2, hw2⟩ : ∃ w2, w2 = wr.iterAt W.heap.size (str l) (p + mm) := ⟨_, rfl⟩
        have HCW2 := hid (HCW.out (wr.iterAt W.heap.size (str l) (p + mm)) HB2.out)
        clear hw2 HCW
        go_wp2_with fail
        refine HCW2.out.mono ?_
        rintro e w3 ⟨rfl, hb3⟩
        have HIT3 := hid (keep0 HIT2.out hb3)
        have HB3 := hid (HB2.out.trans (hb3.mono HB2.out.size))
        clear hb3 HCW2 HIT2 HB2 hnx
        rcases HZ.out with h0 | h0
        · have hm1 : mm = 1 := by rw [HMM.out, if_neg (by omega)]
          subst hm1
          have HE : Hid (whN l 0 = false) := hid (by rw [← HW.out, HST.out, decide_eq_false (by omega)]; rfl)
          clear h0 HST HW HMM HZ
          go_wp2
          go_ret
          exact ⟨by rw [HE.out]; rfl, HB3.out⟩
        · have hm1 : mm = sz := by rw [HMM.out, if_pos (by omega)]
          have e2 : ((mm : Int) == 1) = false := by rw [beq_eq_false_iff_ne]; omega
          have HW2 : Hid (whN l (p + mm) = whN l 0) := hid (by rw [← HW.out, HST.out, decide_eq_true (by omega)]; rfl)
          clear hm1 h0 HST HW HMM HZ
          go_wp2
          go_roundw
          case rel => exact ⟨p + mm, HIT3, hmx, HW2, HB3⟩
          case measure => rw [iterPos_is HIT3.out, HM0.out]; omega
      · have e1 : ((cc : Int) != 65533) = true := by simp; omega
        have HW2 : Hid (whN l (p + mm) = whN l 0) := hid (by rw [← HW.out, HST.out, decide_eq_true (HNW.out hcc)]; rfl)
        clear hcc HNW HWR HST HW HMM HCW
        go_wp2
        go_roundw
        case rel => exact ⟨p + mm, HIT2, hmx, HW2, HB2⟩
        case measure => rw [iterPos_is HIT2.out, HM0.out]; omega
    · have hnx : ∀ ty, (Instr.next (.pointer (some ⟨W.heap.size, 0, none⟩)) true ty).run Tryd.prog wr = .ok (.tuple #[.bool false]) wr := fun ty => Lib.run_next_end_at wr W.heap.size (str l) p ty HIT.out (by rw [HSZ.out]; exact hlt)
      have HE : Hid (whN l 0 = true) := hid (by rw [← HW.out, whN_end (by omega)])
      clear HW
      go_wp2
      go_ret
      exact ⟨by rw [HE.out]; rfl, HB.out⟩

set_option maxRecDepth 20000 in
set_option maxHeartbeats 2000000 in
theorem rwhole_is (l : List UInt8) (hl : l.length ≤ 1000) (W : World) : Calls Tryd.prog 21 #[.string (str l)] W fun e w' => e = .returned (.bool (whN l 0)) ∧ Below W.heap.size W w' := by
  have HRR := hid (rrunes_is l hl W)
  have HLE := hid (rns_le l 0)
  have HWD : Hid (whN l 0 = (rns l 0).all fun r => r.2.2) := hid rfl
  generalize whN l 0 = wh at *
  generalize rns l 0 = rs at *
  have hle : rs.length ≤ 1000 := by have := HLE.out; omega
  have hle2 : (rs.length : Int) ≤ 1000 := by omega
  go_enter Tryd.func21, Tryd.ntmps21
  go_wp2_with fail
  refine HRR.out.mono ?_
  rintro e w2 ⟨A, c, rfl, ho, hb⟩
  have HO := hid (sl_own ho)
  have HB2 := hid hb
  clear ho hb HRR
  go_wp2
  go_loop [4] (fun i => ∃ k : Nat, k ≤ rs.length ∧ i = .int .i64 (k : Int) ∧ Hid (∀ j (hj : j < rs.length), j < k → rs[j].2.2 = true)) (fun i => rs.length - (intOf i).toNat)
  case atStart => exact ⟨0, by omega, rfl, fun j hj h => absurd h (by omega)⟩
  case round =>
    obtain ⟨k, hk, rfl, HT⟩ := hrel
    by_cases hlt : k < rs.length
    · have hlt2 : (k : Int) < (rs.length : Int) := by omega
      obtain ⟨b, off, hA⟩ := Sl.addr3 HO.out (by rw [rcells_length]; omega)
      subst hA
      have hc := (Sl.rune HO.out k hlt).2
      have HK : Hid (rs[k].2.2 = false → wh = false) := hid (fun h => by
        rw [HWD.out, List.all_eq_false]
        exact ⟨rs[k], List.getElem_mem hlt, by rw [h]; simp⟩)
      have HN : Hid (rs[k].2.2 = true → ∀ j (hj : j < rs.length), j < k + 1 → rs[j].2.2 = true) := hid (fun h j hj hjk => by
        by_cases hjk2 : j < k
        · exact HT.out j hj hjk2
        · obtain rfl : j = k := by omega
          exact h)
      clear HT
      generalize rs[k].2.2 = b9 at *
      cases b9 with
      | true =>
        have HN2 := hid (HN.out rfl)
        clear HN HK
        go_wp2
        go_round
        case rel => exact ⟨k + 1, by omega, by go_num, HN2.out⟩
        case measure => simp [intOf]; omega
      | false =>
        have HE := hid (HK.out rfl)
        clear HN HK
        go_wp2
        go_ret
        exact ⟨by rw [HE.out]; rfl, HB2.out⟩
    · have hge : ¬ (k : Int) < (rs.length : Int) := by omega
      have HE : Hid (wh = true) := hid (by
        rw [HWD.out, List.all_eq_true]
        intro x hx
        obtain ⟨j, hj, rfl⟩ := List.getElem_of_mem hx
        exact HT.out j hj (by omega))
      clear HT
      go_wp2
      go_ret
      exact ⟨by rw [HE.out]; rfl, HB2.out⟩
end Go.Proofs.YtjkaenjegcojhaaDoor
