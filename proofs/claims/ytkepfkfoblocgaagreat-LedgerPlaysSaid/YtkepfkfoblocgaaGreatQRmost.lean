/- rec.Most: a contract. -/
import Derived.Test.YtkepfkfoblocgaaGreatRcP
namespace Go.Proofs.YtkepfkfoblocgaaGreat
open Go.RowKit
set_option linter.unusedVariables false
set_option linter.unusedSimpArgs false

theorem chk_bind (j : Int) (h1 : 1 ≤ j) (h2 : j ≤ 72057594037927935) : chkR ⟨2, j, 0, 0, 0, 1, []⟩ = true ∧ chkR ⟨3, j, 0, 0, 0, 0, []⟩ = true ∧ chkR ⟨4, j, 0, 0, 0, 1, []⟩ = true := by
  unfold chkR
  simp only [decide_eq_true h1, decide_eq_true h2]
  decide +kernel
theorem size_bind (j : Int) (h1 : 1 ≤ j) (h2 : j ≤ 72057594037927935) : sizeR ⟨2, j, 0, 0, 0, 1, []⟩ = (numB (cl j)).length + 9 ∧ sizeR ⟨3, j, 0, 0, 0, 0, []⟩ = (numB (cl j)).length + 7 ∧ sizeR ⟨4, j, 0, 0, 0, 1, []⟩ = (numB (cl j)).length + 8 := by
  obtain ⟨c1, c2, c3⟩ := chk_bind j h1 h2
  have l1 := numB_length _ (cl_le j)
  have f : ∀ x : Rc, chkR x = true → x.k ≠ 1 → x.j = j → (numB (cl x.k)).length = 1 → sizeR x = 6 + (numB (cl j)).length + ((if hasR x.k 1 then 1 else 0) + (if hasR x.k 2 then 1 else 0) + (if hasR x.k 3 then 1 else 0) + (if hasR x.k 4 then 1 else 0)) := fun x hc hk hj hkl => by
    have e := rb_len_k x hc hk
    rw [hj, hkl] at e
    have hsm : (rb x).length < 248 := by
      rw [e]
      split <;> split <;> split <;> split <;> omega
    unfold sizeR
    rw [if_pos hc, frP_len _ (by omega), numB_one _ hsm, e]
    omega
  refine ⟨?_, ?_, ?_⟩
  · rw [f _ c1 (by show (2 : Int) ≠ 1; decide) rfl (by show (numB (cl 2)).length = 1; decide +kernel)]
    simp [hasR]; omega
  · rw [f _ c2 (by show (3 : Int) ≠ 1; decide) rfl (by show (numB (cl 3)).length = 1; decide +kernel)]
    simp [hasR]; omega
  · rw [f _ c3 (by show (4 : Int) ≠ 1; decide) rfl (by show (numB (cl 4)).length = 1; decide +kernel)]
    simp [hasR]; omega
/-- How many bytes a job needs at most. -/
def mostR (j s : Int) (ns : List (List UInt8)) : Nat :=
  if sizeR ⟨1, j, 0, 0, s, 0, ns⟩ = 0 then 0 else sizeR ⟨1, j, 0, 0, s, 0, ns⟩ + ns.length * ((numB (cl j)).length + 9 + (numB (cl j)).length + 7) + 8 * ((numB (cl j)).length + 8)
theorem size_le (x : Rc) : sizeR x ≤ 4000 := by
  unfold sizeR
  split
  · rename_i h
    have h1 := rb_len x h
    have h2 := (numB_length (rb x).length (by omega)).2
    rw [frP_len _ (by omega)]
    omega
  · omega
theorem size_chk {x : Rc} (h : ¬ sizeR x = 0) : chkR x = true := by
  rcases Bool.eq_false_or_eq_true (chkR x) with h1 | h1
  · exact h1
  · exact absurd (by unfold sizeR; rw [h1]; rfl) h
set_option maxRecDepth 20000 in
set_option maxHeartbeats 4000000 in
theorem recmost_any (j s : Int) (ns : List (List UInt8)) (A : Option Addr) (c : Nat) (W : World) (hx : TxAt W A c ns) : Calls Tryz.prog 32 #[.int .i64 j, .int .i64 s, .slice A ns.length c] W fun e w' => e = .returned (.int .i64 (mostR j s ns : Nat)) ∧ RowKit.Below W.heap.size W w' := by
  have HA := hid (recsize_any ⟨1, j, 0, 0, s, 0, ns⟩ A c W hx)
  have hll := hx.len
  simp only [rcc] at HA
  by_cases h0 : sizeR ⟨1, j, 0, 0, s, 0, ns⟩ = 0
  · have HV : Hid (mostR j s ns = 0) := hid (if_pos h0)
    rw [h0] at HA
    rw [HV.out]
    clear h0 HV hx
    go_enter Tryz.func32, Tryz.ntmps32
    go_wp2_with fail
    refine HA.out.mono ?_
    rintro e w1 ⟨rfl, hb1⟩
    have HB1 := hid hb1
    clear hb1
    go_wp2
    go_ret
    exact ⟨rfl, HB1.out⟩
  · have HV : Hid (mostR j s ns = sizeR ⟨1, j, 0, 0, s, 0, ns⟩ + ns.length * ((numB (cl j)).length + 9 + (numB (cl j)).length + 7) + 8 * ((numB (cl j)).length + 8)) := hid (if_neg h0)
    have hc := size_chk h0
    have hns := (chkR_ns hc).1
    obtain ⟨_, hj1, hj2, _⟩ := chkR_parts hc
    obtain ⟨e1, e2, e3⟩ := size_bind j hj1 hj2
    have hnil : ∀ w, TxAt w none 0 [] := fun w => ⟨Sl.nil _ _ _ _ (Nat.zero_le _), by simp⟩
    have H2 : Hid (∀ w, Calls Tryz.prog 52 #[.agg #[.int .i64 2, .int .i64 j, .int .i64 0, .int .i64 0, .int .i64 0, .int .i64 1, .slice none 0 0]] w fun e w' => e = .returned (.int .i64 (((numB (cl j)).length + 9 : Nat) : Int)) ∧ RowKit.Below w.heap.size w w') := hid (fun w => by have h9 := recsize_any ⟨2, j, 0, 0, 0, 1, []⟩ none 0 w (hnil w); rw [e1] at h9; exact h9)
    have H3 : Hid (∀ w, Calls Tryz.prog 52 #[.agg #[.int .i64 3, .int .i64 j, .int .i64 0, .int .i64 0, .int .i64 0, .int .i64 0, .slice none 0 0]] w fun e w' => e = .returned (.int .i64 (((numB (cl j)).length + 7 : Nat) : Int)) ∧ RowKit.Below w.heap.size w w') := hid (fun w => by have h9 := recsize_any ⟨3, j, 0, 0, 0, 0, []⟩ none 0 w (hnil w); rw [e2] at h9; exact h9)
    have H4 : Hid (∀ w, Calls Tryz.prog 52 #[.agg #[.int .i64 4, .int .i64 j, .int .i64 0, .int .i64 0, .int .i64 0, .int .i64 1, .slice none 0 0]] w fun e w' => e = .returned (.int .i64 (((numB (cl j)).length + 8 : Nat) : Int)) ∧ RowKit.Below w.heap.size w w') := hid (fun w => by have h9 := recsize_any ⟨4, j, 0, 0, 0, 1, []⟩ none 0 w (hnil w); rw [e3] at h9; exact h9)
    have hle := size_le ⟨1, j, 0, 0, s, 0, ns⟩
    have hql := (numB_length _ (cl_le j)).2
    rw [HV.out]
    clear hc hj1 hj2 e1 e2 e3 hnil hx HV
    generalize sizeR ⟨1, j, 0, 0, s, 0, ns⟩ = a at *
    generalize (numB (cl j)).length = q at *
    generalize hN : ns.length = n at *
    clear hN
    have ha : ¬ ((a : Nat) : Int) = 0 := by omega
    have ha2 : (((a : Nat) : Int) == 0) = false := by simpa using ha
    have hp : (n : Int) * (((q + 9 : Nat) : Int) + ((q + 7 : Nat) : Int)) = ((n * (q + 9 + q + 7) : Nat) : Int) := by
      rw [show q + 9 + q + 7 = (q + 9) + (q + 7) by omega]
      push_cast
      rfl
    have hpb : n * (q + 9 + q + 7) ≤ 16 * 32 := Nat.mul_le_mul hns (by omega)
    have HP := hid hp
    generalize hP : n * (q + 9 + q + 7) = P at *
    clear hP
    go_enter Tryz.func32, Tryz.ntmps32
    go_wp2_with fail
    refine HA.out.mono ?_
    rintro e w1 ⟨rfl, hb1⟩
    have HB1 := hid hb1
    clear hb1
    go_wp2_with fail
    refine (H2.out _).mono ?_
    rintro e w2 ⟨rfl, hb2⟩
    have HB2 := hid (HB1.out.trans (hb2.mono HB1.out.size))
    clear hb2 HB1
    go_wp2_with fail
    refine (H3.out _).mono ?_
    rintro e w3 ⟨rfl, hb3⟩
    have HB3 := hid (HB2.out.trans (hb3.mono HB2.out.size))
    clear hb3 HB2
    go_wp2_with fail
    refine (H4.out _).mono ?_
    rintro e w4 ⟨rfl, hb4⟩
    have HB4 := hid (HB3.out.trans (hb4.mono HB3.out.size))
    clear hb4 HB3
    have hmul : (n : Int) * ((q : Int) + 9 + ((q : Int) + 7)) = (P : Int) := by
      rw [← HP.out]
      push_cast
      rfl
    have hval : wrap64 (wrap64 ((a : Int) + wrap64 ((n : Int) * ((q : Int) + 9 + ((q : Int) + 7)))) + 8 * ((q : Int) + 8)) = ((a + P + 8 * (q + 8) : Nat) : Int) := by
      rw [hmul]
      unfold wrap64
      omega
    have HVAL := hid hval
    clear hval hmul hp
    go_wp2
    go_ret
    exact ⟨by rw [← HVAL.out]; rfl, HB4.out⟩
end Go.Proofs.YtkepfkfoblocgaaGreat
