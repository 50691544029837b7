/- show.inner, given the text of the operand. -/
import Derived.Test.YtdphdodjidbngaaShwM
import Derived.Test.YtdphdodjidbngaaStrA
namespace Go.Proofs.Ytdphdodjidbngaa
open Go.RowKit
set_option linter.unusedVariables false
set_option linter.unusedSimpArgs false

theorem icells_at (k : IntKind) (l : List Int) (i : Nat) (h : i < l.length) : (icells k l)[i]? = some (.int k l[i]) := by simp [icells, h]
theorem Sl.ints {w : World} {A : Option Addr} {len cap : Nat} {k : IntKind} {l : List Int} (h : Sl w 1 A len cap (icells k l)) (i : Nat) (hi : i < l.length) : ∃ b off, A = some ⟨b, off, none⟩ ∧ w.cell? ⟨b, off + i, none⟩ = some (.int k l[i]) := by
  obtain ⟨b, off, hA, hc⟩ := h.2.2.2 (by simp [icells]; omega)
  exact ⟨b, off, hA, by rw [hc i (by simp [icells]; exact hi), icells_at k l i hi]⟩
theorem par_eq (s : List UInt8) : (⟨#[40]⟩ : ByteArray) ++ str s ++ (⟨#[41]⟩ : ByteArray) = str (40 :: (s ++ [41])) := by
  rw [show (⟨#[40]⟩ : ByteArray) = str [40] from rfl, show (⟨#[41]⟩ : ByteArray) = str [41] from rfl, str_cat, str_cat]
  rfl
set_option maxRecDepth 20000 in
set_option maxHeartbeats 2000000 in
theorem inner_step (TA : Option Addr) (tc tn : Nat) (T : List (List UInt8)) (t : Nt) (ops : List Int) (A : Option Addr) (cap : Nat) (O : Option Addr) (oc : Nat) (W : World) (hA : Sl W 2 A t.flat.length cap (pcells t.flat)) (hO : Sl W 1 O ops.length oc (icells .i64 ops)) (hl : t.flat.length ≤ 1000) (hs : (txt T t).length ≤ 1000000)
    (hT : Calls Try.prog 41 #[.slice TA tn tc, .slice A t.flat.length cap] W fun e w' => e = .returned (.string (str (txt T t))) ∧ Below W.heap.size W w') :
    Calls Try.prog 68 #[.slice TA tn tc, .slice A t.flat.length cap, .slice O ops.length oc] W fun e w' => e = .returned (.string (str (parS (lastN t).1 ops (txt T t)))) ∧ Below W.heap.size W w' := by
  have hp := t.flat_pos
  have HT := hid hT
  have HLS := hid (fun u (hu : Below W.heap.size W u) => (hA.below hu).at2 (t.flat.length - 1) (by omega))
  have HLA := hid (last_at t [] [] (t.flat.length - 1) (by simp; omega))
  have HOI := hid (fun u (hu : Below W.heap.size W u) k (hk : k < ops.length) => (hO.below hu).ints k hk)
  have hol : ops.length ≤ maxLen := Nat.le_trans hO.2.1 hO.2.2.1
  unfold maxLen at hol
  obtain ⟨op, hop⟩ : ∃ op, (lastN t).1 = op := ⟨_, rfl⟩
  have HL9 : Hid (∀ u, Below W.heap.size W u → ∃ b off, A = some ⟨b, off, none⟩ ∧ u.cell? ⟨b, off + (t.flat.length - 1) * 2, none⟩ = some (.int .i64 op)) := hid (fun u hu => by
    obtain ⟨b, off, h1, h2, _⟩ := HLS.out u hu
    obtain ⟨h3, h4⟩ := HLA.out
    simp only [List.nil_append, List.append_nil] at h4
    rw [h4, hop] at h2
    exact ⟨b, off, h1, h2⟩)
  rw [hop]
  have HV : Hid (∀ s, op ∈ ops → parS op ops s = 40 :: (s ++ [41])) := hid (fun s h => by unfold parS; rw [if_pos h])
  have HV2 : Hid (∀ s, (∀ k (hk : k < ops.length), ops[k] ≠ op) → parS op ops s = s) := hid (fun s h => by
    unfold parS
    rw [if_neg]
    intro h9
    obtain ⟨k, hk, h8⟩ := List.getElem_of_mem h9
    exact h k hk h8)
  clear hA hO hT HLS HLA hop
  generalize txt T t = s at *
  obtain ⟨R, hR⟩ : ∃ R, parS op ops s = R := ⟨_, rfl⟩
  have HR := hid hR
  rw [hR]
  clear hR
  obtain ⟨fl, hfl⟩ : ∃ fl, t.flat.length = fl + 1 := ⟨t.flat.length - 1, by omega⟩
  rw [hfl] at HT HL9 hl ⊢
  rw [Nat.add_sub_cancel] at HL9
  clear hfl hp
  go_enter Try.func68, Try.ntmps68
  go_wp2_with fail
  refine HT.out.mono ?_
  rintro e w1 ⟨rfl, hb⟩
  have HB := hid hb
  obtain ⟨bA, oA, hAe, q0⟩ := HL9.out w1 hb
  subst hAe
  clear hb HT HL9
  have hsz1 : (⟨#[40]⟩ : ByteArray).size + (str s).size ≤ 9223372036854775807 := by rw [str_size]; show 1 + s.length ≤ _; omega
  have hsz2 : ((⟨#[40]⟩ : ByteArray) ++ str s).size + (⟨#[41]⟩ : ByteArray).size ≤ 9223372036854775807 := by
    rw [show (⟨#[40]⟩ : ByteArray) = str [40] from rfl, str_cat, str_size]
    show (40 :: s).length + 1 ≤ _
    rw [List.length_cons]; omega
  go_wp2
  go_loopw [9, 15] (fun _ i wr => ∃ n : Nat, n ≤ ops.length ∧ i = .int .i64 (n : Int) ∧ Hid (∀ k (hk : k < ops.length), k < n → ops[k] ≠ op) ∧ wr = w1) (fun _ i _ => ops.length - (intOf i).toNat)
  case atStart => exact ⟨0, by omega, rfl, fun k hk h => absurd h (by omega), rfl⟩
  case round =>
    obtain ⟨n, hn9, rfl, HN, rfl⟩ := hrel
    by_cases hlt : n < ops.length
    · have hlt2 : (n : Int) < (ops.length : Int) := by omega
      have hn0 : ¬ (n : Int) < 0 := by omega
      obtain ⟨bO, oO, hOe, o0⟩ := HOI.out wr HB.out n hlt
      subst hOe
      have HMM := hid (List.getElem_mem hlt)
      have HN2 := hid (fun (h : ops[n] ≠ op) => show ∀ k (hk : k < ops.length), k < n + 1 → ops[k] ≠ op from fun k hk hkn => by
        rcases Nat.lt_or_ge k n with h1 | h1
        · exact HN.out k hk h1
        · obtain rfl : k = n := by omega
          exact h)
      generalize ops[n] = o at *
      by_cases ho : op = o
      · subst ho
        have HE : Hid (R = 40 :: (s ++ [41])) := hid (by rw [← HR.out]; exact HV.out s HMM.out)
        clear HN2 HMM
        go_wp2
        go_ret
        exact ⟨by rw [HE.out, ← par_eq]; rfl, HB.out⟩
      · have hoe : (op == o) = false := by simpa using ho
        have HN3 := hid (HN2.out (fun h => ho h.symm))
        clear HN2 HMM
        go_wp2
        go_roundw
        case rel => exact ⟨n + 1, by omega, by go_num, HN3.out, by trivial⟩
        case measure => simp [intOf]; omega
    · obtain rfl : n = ops.length := by omega
      have hge : ¬ (ops.length : Int) < (ops.length : Int) := by omega
      have HE : Hid (R = s) := hid (by rw [← HR.out]; exact HV2.out s (fun k hk => HN.out k hk hk))
      go_wp2
      go_ret
      exact ⟨by rw [HE.out]; rfl, HB.out⟩
end Go.Proofs.Ytdphdodjidbngaa

