/- The document's Cut, as a contract. -/
import Derived.Test.YtkepfkfoblocgaaFrmD
import Derived.Deep.RegionWith
import Derived.Deep.RegionHeld3
import Derived.BigQuiet
import Derived.Deep.QuietTactic
namespace Go.Proofs.Ytkepfkfoblocgaa
open Go.RowKit Go.Sort
set_option linter.unusedVariables false
set_option linter.unusedSimpArgs false

/-- A length is read of eight bytes at most. -/
theorem firstN_take8 (most : Int) (l : List UInt8) : firstN most (l.take 8) = firstN most l := by
  cases l with
  | nil => rfl
  | cons c r =>
    have hc := c.toNat_lt
    rw [List.take_succ_cons, firstN_cons, firstN_cons]
    by_cases h1 : c.toNat = 255
    · rw [if_pos h1, if_pos h1]
    rw [if_neg h1, if_neg h1]
    by_cases h2 : c.toNat < 248
    · rw [if_pos h2, if_pos h2]
    rw [if_neg h2, if_neg h2]
    have h3 : (r.take 7).take (c.toNat - 247) = r.take (c.toNat - 247) := by rw [List.take_take, Nat.min_eq_left (by omega)]
    have h4 : (r.take 7).length < c.toNat - 247 ↔ r.length < c.toNat - 247 := by rw [List.length_take]; omega
    rw [h3]
    simp only [h4]
theorem seal_iff (l : List UInt8) (k : Nat) (h : k + 4 ≤ l.length) : (l.take (k + 4)).drop k = fourL (moreN 0 (l.take k)) ↔ sealL (l.take k) = l.take (k + 4) := by
  have h1 : l.take (k + 4) = l.take k ++ (l.take (k + 4)).drop k := by
    have := List.take_append_drop k (l.take (k + 4))
    rw [List.take_take, Nat.min_eq_left (by omega)] at this
    exact this.symm
  constructor
  · intro h2
    rw [h1, h2]
    rfl
  · intro h2
    rw [← h2, sealL]
    have : (l.take k).length = k := by rw [List.length_take]; omega
    conv => lhs; arg 1; rw [← this]
    simp

set_option maxRecDepth 20000 in
set_option maxHeartbeats 2000000 in
theorem rcut_any (l : List UInt8) (W : World) (hl : l.length ≤ 100000) :
    Calls Try.prog 108 #[.string (str l)] W fun x w' => x = .returned (.tuple #[.string (str (cutS l).1), .int .i64 ((cutS l).2.1 : Nat), .int .i64 ((cutS l).2.2 : Nat)]) ∧ Below W.heap.size W w' := by
  have HT := hid (fun B w h => rrText_any B l 0 4096 w h hl)
  have HR : Hid (rdText 4096 l 0 = if (firstN 4096 l).2.2 = 0 then (if l.length - (firstN 4096 l).2.1 < (firstN 4096 l).1 then ([], l, (2 : Int)) else ((l.drop (firstN 4096 l).2.1).take (firstN 4096 l).1, l.drop ((firstN 4096 l).2.1 + (firstN 4096 l).1), (0 : Int))) else ([], l, (((firstN 4096 l).2.2 : Nat) : Int))) := hid rfl
  have HV : Hid (cutS l = cutS l) := hid rfl
  conv at HV => arg 1; rhs; unfold cutS
  rw [firstN_take8] at HV
  have hFU := firstN_used 4096 l
  have hz : (str l).size = l.length := str_size l
  generalize firstN 4096 l = f at *
  obtain ⟨n, u, x⟩ := f
  simp only at hFU HR HV
  generalize hcv : cutS l = cv at *
  clear hcv
  obtain ⟨p, q, x2⟩ := cv
  go_enter Try.func108, Try.ntmps108
  go_upto_region 2 with (fail)
  refine at_world (fun w => RRdr w W.heap.size l 0 ∧ Below W.heap.size W w) ⟨heap_alloc_new _ _, (Below.refl _ _).alloc (Nat.le_refl _) _⟩ ?_
  rintro w1 ⟨hR1, hb1⟩
  have HC := hid (HT.out _ _ hR1)
  have HB1 := hid hb1
  clear hR1 hb1 HT
  go_wp2_with fail
  refine HC.out.mono ?_
  rintro e w2 ⟨rfl, hR2, hO2⟩
  have HB2 := hid (HB1.out.trans (hO2.below W.heap.size (Nat.le_refl _) HB1.out.size))
  clear HC HB1 hO2
  rw [HR.out] at hR2 ⊢
  clear HR
  by_cases hx : x = 0
  · subst hx
    rw [if_pos rfl] at hR2 ⊢ HV
    obtain ⟨u1, u2, n1, n2⟩ := hFU rfl
    by_cases hsh : l.length - u < n
    · rw [if_pos hsh] at hR2 ⊢
      rw [if_pos (by omega)] at HV
      obtain ⟨rfl, rfl, rfl⟩ : p = [] ∧ q = 0 ∧ x2 = 2 := by have := HV.out; simp at this; exact this
      obtain ⟨c0, c1, f0, f1⟩ := two_cells hR2
      clear HV hFU hsh hR2
      go_wp2_with fail
      all_goals go_quiet (fail)
      all_goals go_wp2
      all_goals go_ret3
      all_goals exact ⟨rfl, HB2.out.os, HB2.out.tape, HB2.out.output, HB2.out.size, HB2.out.block⟩
    · rw [if_neg hsh] at hR2 ⊢
      obtain ⟨k, hk⟩ : ∃ k, u + n = k := ⟨_, rfl⟩
      rw [hk] at hR2 HV
      obtain ⟨c0, c1, f0, f1⟩ := two_cells hR2
      have hzd : (str (l.drop k)).size = l.length - k := by rw [str_size, List.length_drop]
      have hkl : k ≤ l.length := by omega
      have ht : (l.drop u).take n = (l.take k).drop u := by rw [← hk, List.drop_take]; congr 1; omega
      rw [ht]
      clear hR2 hFU hsh ht hk
      go_upto_region 6 with (fail)
      rw [show (l.length : Int) - ((l.length - k : Nat) : Int) = (k : Int) by omega]
      have hkl' : (k : Int) ≤ 100000 := by omega
      by_cases hlm : l.length < k + 4
      · have hlm' : (l.length : Int) < (k : Int) + 4 := by omega
        have hd : decide ((l.length : Int) < (k : Int) + 4) = true := decide_eq_true hlm'
        rw [if_pos hlm] at HV
        obtain ⟨rfl, rfl, rfl⟩ : p = [] ∧ q = 0 ∧ x2 = 2 := by have := HV.out; simp at this; exact this
        clear HV hlm
        go_wp2_with fail
        go_ret3
        exact ⟨rfl, HB2.out⟩
      · have hlm' : (k : Int) + 4 ≤ (l.length : Int) := by omega
        have hd : decide ((l.length : Int) < (k : Int) + 4) = false := decide_eq_false (by omega)
        rw [if_neg hlm] at HV
        have hs1 : ∀ w : World, (Instr.slice 9 (.string (str l)) none (some (.int .i64 (k : Int))) none).run Try.prog w = .ok (.string (str (l.take k))) w := fun w => by
          rw [run_slice_string_h (P := Try.prog) w 9 (str l) Try.underlying9 .i64 (k : Int) (by omega) (by rw [hz]; omega), Int.toNat_natCast]
          have := str_mid l 0 k
          simp at this
          rw [this]
        have hs2 : ∀ w : World, (Instr.slice 9 (.string (str l)) none (some (.int .i64 ((k : Int) + 4))) none).run Try.prog w = .ok (.string (str (l.take (k + 4)))) w := fun w => by
          rw [run_slice_string_h (P := Try.prog) w 9 (str l) Try.underlying9 .i64 ((k : Int) + 4) (by omega) (by rw [hz]; omega), show ((k : Int) + 4).toNat = k + 4 by omega]
          have := str_mid l 0 (k + 4)
          simp at this
          rw [this]
        have HS := hid (fun w => rseal_any (str (l.take k)) w (by rw [str_size, List.length_take]; omega))
        have hdt : (str (l.take k)).data.toList = l.take k := by simp [str]
        rw [hdt] at HS
        have hdA : (⟨(sealL (l.take k)).toArray⟩ : ByteArray) = str (sealL (l.take k)) := rfl
        rw [hdA] at HS
        have hbD : Below w2.heap.size w2 w2.drew := below_drew (Below.refl _ _)
        have hwr : IntKind.i64.wrap ((k : Int) + 4) = (k : Int) + 4 := by simp [IntKind.wrap, IntKind.bits, IntKind.signed]; omega
        by_cases hop : (l.take (k + 4)).drop k = fourL (moreN 0 (l.take k))
        · rw [if_pos hop] at HV
          obtain ⟨rfl, rfl, rfl⟩ : p = (l.take k).drop u ∧ q = k + 4 ∧ x2 = 0 := by have := HV.out; simp at this; exact this
          rw [(seal_iff l k (by omega)).1 hop] at HS
          clear HV hlm hop hdt hdA
          go_upto_region 8 with (fail)
          go_region_with (go_at_call 122; refine (HS.out _).mono ?_; rintro e u1 ⟨rfl, g1⟩)
          all_goals go_wp2
          all_goals go_ret3
          all_goals exact ⟨by simp, HB2.out.trans ((hbD.trans (g1.mono (Nat.le_refl _))).mono HB2.out.size)⟩
        · rw [if_neg hop] at HV
          obtain ⟨rfl, rfl, rfl⟩ : p = [] ∧ q = 0 ∧ x2 = 16 := by have := HV.out; simp at this; exact this
          have hz2 : ¬ (str (sealL (l.take k))).toList = (str (l.take (k + 4))).toList := fun h => hop ((seal_iff l k (by omega)).2 (by
            rw [ByteArray.toList_eq, ByteArray.toList_eq] at h
            simpa [str] using h))
          have hz3 : ((str (sealL (l.take k))).toList == (str (l.take (k + 4))).toList) = false := by simpa using hz2
          clear HV hlm hop hdt hdA
          generalize str (sealL (l.take k)) = y1 at *
          generalize str (l.take (k + 4)) = y2 at *
          go_upto_region 8 with (fail)
          go_region_with (go_at_call 122; refine (HS.out _).mono ?_; rintro e u1 ⟨rfl, g1⟩)
          all_goals go_wp2
          all_goals go_ret3
          all_goals exact ⟨rfl, HB2.out.trans ((hbD.trans (g1.mono (Nat.le_refl _))).mono HB2.out.size)⟩
  · rw [if_neg hx] at hR2 ⊢ HV
    have hne : (((x : Nat) : Int) != 0) = true := by simp; omega
    obtain ⟨rfl, rfl, rfl⟩ : p = [] ∧ q = 0 ∧ x2 = x := by have := HV.out; simp at this; exact this
    obtain ⟨c0, c1, f0, f1⟩ := two_cells hR2
    clear HV hR2 hFU
    go_wp2_with fail
    all_goals go_quiet (fail)
    all_goals go_wp2
    all_goals go_ret3
    all_goals exact ⟨rfl, HB2.out.os, HB2.out.tape, HB2.out.output, HB2.out.size, HB2.out.block⟩
end Go.Proofs.Ytkepfkfoblocgaa
