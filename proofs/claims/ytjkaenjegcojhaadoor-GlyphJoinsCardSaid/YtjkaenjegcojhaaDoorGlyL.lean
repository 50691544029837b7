/- glyph.At: contract; how large a rune's number is. -/
import Derived.Test.YtjkaenjegcojhaaDoorGlyJ
namespace Go.Proofs.YtjkaenjegcojhaaDoor
open Go.RowKit
set_option linter.unusedVariables false
set_option linter.unusedSimpArgs false

theorem codeN_lt (l : List UInt8) (n : Nat) : codeN l n < 2147483648 := by
  have h0 := nb_lt l 0
  have h1 := nb_lt l 1
  have h2 := nb_lt l 2
  have h3 := nb_lt l 3
  unfold codeN
  repeat' split
  all_goals omega
theorem rnF_lt (l : List UInt8) : ∀ (f i : Nat), ∀ r ∈ rnF f l i, r.2.1 < 2147483648
  | 0, _, r, h => by simp [rnF] at h
  | f + 1, i, r, h => by
    rw [rnF] at h
    split at h
    · rcases List.mem_cons.1 h with rfl | h
      · exact codeN_lt _ _
      · exact rnF_lt l f _ r h
    · simp at h
theorem rns_lt (l : List UInt8) (i : Nat) : ∀ r ∈ rns l i, r.2.1 < 2147483648 := rnF_lt l _ i
/-- What At's counter holds when n runes have come. -/
def CntG (k : Int) (n : Nat) (d : Int) : Prop := -9223372036854775808 ≤ d ∧ d ≤ 9223372036854775807 ∧ (0 ≤ k → (n : Int) ≤ k) ∧ (d = k - n ∨ (k < 0 ∧ d = k - n + 18446744073709551616))
theorem cntg_step {k d : Int} {n : Nat} (hk : -9223372036854775808 ≤ k) (hn : n ≤ 1000) (h : CntG k n d) (h0 : d ≠ 0) : CntG k (n + 1) (wrap64 (d - 1)) := by
  unfold CntG at *
  have e : wrap64 (d - 1) = if d = -9223372036854775808 then 9223372036854775807 else d - 1 := by
    unfold wrap64
    split <;> omega
  rw [e]
  split <;> omega
/-- What At answers. -/
def atF (rs : List Rn) (k : Int) : Int × Int := if 0 ≤ k ∧ k < rs.length then (((rs.getD k.toNat (0, 0, false)).2.1 : Int), ((rs.getD k.toNat (0, 0, false)).1 : Int)) else (0, -1)

set_option maxRecDepth 20000 in
set_option maxHeartbeats 2000000 in
theorem at_is (l : List UInt8) (hl : l.length ≤ 1000) (k : Int) (hk : -9223372036854775808 ≤ k ∧ k ≤ 9223372036854775807) (W : World) : Calls Tryd.prog 18 #[.string (str l), .int .i64 k] W fun e w' => e = .returned (.tuple #[.int .i32 (atF (rns l 0) k).1, .int .i64 (atF (rns l 0) k).2]) ∧ Below W.heap.size W w' := by
  have HSZ := hid (str_size l)
  have HV : Hid (atF (rns l 0) k = if 0 ≤ k ∧ k < (rns l 0).length then ((((rns l 0).getD k.toNat (0, 0, false)).2.1 : Int), (((rns l 0).getD k.toNat (0, 0, false)).1 : Int)) else (0, -1)) := hid rfl
  have HLE := hid (rns_le l 0)
  generalize atF (rns l 0) k = av at *
  obtain ⟨hk1, hk2⟩ := hk
  go_enter Tryd.func18, Tryd.ntmps18
  go_wp2
  go_loopw [1] (fun v wr => ∃ (p n : Nat) (d : Int) (pre : List Rn), Hid (wr.heap[W.heap.size]? = some (.stringIter (str l) p)) ∧ p ≤ l.length ∧ v = .int .i64 d ∧ Hid (CntG k n d) ∧ Hid (rns l 0 = pre ++ rns l p ∧ pre.length = n) ∧ Hid (Below W.heap.size W wr)) (fun _ wr => l.length - wr.iterPos W.heap.size)
  case atStart => exact ⟨0, 0, k, [], heap_alloc_new _ _, Nat.zero_le _, rfl, (by unfold Hid CntG; omega), ⟨rfl, rfl⟩, (Below.refl _ _).alloc (Nat.le_refl _) _⟩
  case round =>
    obtain ⟨p, n, d, pre, HIT, hp, rfl, HC, HR, HB⟩ := hrel
    have hn : n ≤ 1000 := by
      have h1 := congrArg List.length HR.out.1
      rw [List.length_append, HR.out.2] at h1
      have := HLE.out
      omega
    by_cases hlt : p < l.length
    · have hpl : p < (str l).size := by rw [HSZ.out]; exact hlt
      have hdc : Utf8.decode (str l) p = (codeN (l.drop p) (szN (l.drop p)), max (szN (l.drop p)) 1) := by
        rw [decode_drop, dec_sz _ (by rw [List.length_drop]; omega)]
      have hnx : ∀ ty, (Instr.next (.pointer (some ⟨W.heap.size, 0, none⟩)) true ty).run Tryd.prog wr = .ok (.tuple #[.bool true, .int .i64 (p : Int), .int .i32 ((codeN (l.drop p) (szN (l.drop p)) : Nat) : Int)]) (wr.iterAt W.heap.size (str l) (p + max (szN (l.drop p)) 1)) := fun ty => by
        rw [Lib.run_next_any_at wr W.heap.size (str l) p ty HIT.out hpl, hdc]
      have hmx : p + max (szN (l.drop p)) 1 ≤ l.length := by
        have := (szN_le (l.drop p) (by rw [List.length_drop]; omega)).1
        rw [List.length_drop] at this
        omega
      have hwd : 1 ≤ max (szN (l.drop p)) 1 := szN_1 _
      have hst := rns_step l p hlt
      have HR2 : Hid (rns l 0 = (pre ++ [(p, codeN (l.drop p) (szN (l.drop p)), decide (0 < szN (l.drop p)))]) ++ rns l (p + max (szN (l.drop p)) 1) ∧ (pre ++ [(p, codeN (l.drop p) (szN (l.drop p)), decide (0 < szN (l.drop p)))]).length = n + 1) := hid (by
        refine ⟨by rw [HR.out.1, hst]; simp, by rw [List.length_append, HR.out.2]; rfl⟩)
      have HG : Hid ((rns l 0).getD n (0, 0, false) = (p, codeN (l.drop p) (szN (l.drop p)), decide (0 < szN (l.drop p))) ∧ n < (rns l 0).length) := hid (by
        rw [HR.out.1, hst, List.getD_eq_getElem?_getD, List.getElem?_append_right (by rw [HR.out.2]; exact Nat.le_refl _), HR.out.2, Nat.sub_self]
        refine ⟨rfl, ?_⟩
        rw [List.length_append, HR.out.2, List.length_cons]
        omega)
      have HIT2 := hid (Lib.iterAt_heap wr W.heap.size (str l) p (p + max (szN (l.drop p)) 1) HIT.out)
      have HB2 := hid (Lib.below_iterAt HB.out (Nat.le_refl _) (str l) (p + max (szN (l.drop p)) 1))
      have HM0 := hid (iterPos_is HIT.out)
      clear hdc hst HR HIT HB hpl
      generalize decide (0 < szN (l.drop p)) = ww at *
      generalize max (szN (l.drop p)) 1 = mm at *
      generalize codeN (l.drop p) (szN (l.drop p)) = cc at *
      by_cases h0 : d = 0
      · subst h0
        have HE : Hid (av = ((cc : Int), (p : Int))) := hid (by
          have h9 := HC.out
          unfold CntG at h9
          have hkn : k = (n : Int) := by omega
          rw [HV.out, if_pos (by rw [hkn]; have := HG.out.2; omega), hkn, Int.toNat_natCast, HG.out.1])
        clear HC HG HV HR2
        go_wp2
        go_ret2
        exact ⟨by rw [HE.out]; rfl, HB2.out⟩
      · have e0 : (d == 0) = false := by rw [beq_eq_false_iff_ne]; exact h0
        have HC2 := hid (cntg_step hk1 hn HC.out h0)
        have hdb : -9223372036854775808 ≤ d ∧ d ≤ 9223372036854775807 := by have h9 := HC.out; unfold CntG at h9; omega
        obtain ⟨hdb1, hdb2⟩ := hdb
        clear HC HG h0
        go_wp2
        go_roundw
        case rel => exact ⟨p + mm, n + 1, _, _, HIT2, hmx, rfl, HC2, HR2, HB2⟩
        case measure => rw [iterPos_is HIT2.out, HM0.out]; omega
    · have hnx : ∀ ty, (Instr.next (.pointer (some ⟨W.heap.size, 0, none⟩)) true ty).run Tryd.prog wr = .ok (.tuple #[.bool false]) wr := fun ty => Lib.run_next_end_at wr W.heap.size (str l) p ty HIT.out (by rw [HSZ.out]; exact hlt)
      have HE : Hid (av = (0, -1)) := hid (by
        have h9 := HC.out
        unfold CntG at h9
        have h8 : (rns l 0).length = n := by
          rw [HR.out.1, rns_end l p (by omega), List.append_nil, HR.out.2]
        rw [HV.out, if_neg (by omega)])
      clear HC HV HR
      go_wp2
      go_ret2
      exact ⟨by rw [HE.out]; rfl, HB.out⟩
end Go.Proofs.YtjkaenjegcojhaaDoor
