/- The document's Run, Long of layer 39: contracts. -/
import Derived.Test.YthohedadmfbahaaDoorQEvG
namespace Go.Proofs.YthohedadmfbahaaDoor
open Go.RowKit Go.Sort
set_option linter.unusedVariables false
set_option linter.unusedSimpArgs false

/-- Are jobs more than are looked at, or longer? -/
def longJs (js : List Jo) : Bool := js.any (fun x => longB x.ns 20 300) || decide (20 < js.length)
theorem longJs_yes {js : List Jo} {k : Nat} (hk : k < js.length) (h : longB js[k].ns 20 300 = true) : longJs js = true := by
  unfold longJs
  rw [Bool.or_eq_true]
  exact .inl (List.any_eq_true.2 ⟨_, List.getElem_mem hk, h⟩)
theorem longJs_end {js : List Jo} (h : ∀ k (hk : k < js.length), longB js[k].ns 20 300 = false) : longJs js = decide (20 < js.length) := by
  unfold longJs
  have h9 : js.any (fun x => longB x.ns 20 300) = false := by
    rw [List.any_eq_false]
    intro x hx
    obtain ⟨k, hk, rfl⟩ := List.getElem_of_mem hx
    rw [h k hk]; simp
  rw [h9, Bool.false_or]
theorem longJs_sm {js : List Jo} (h : longJs js = false) : js.length ≤ 20 ∧ SmJ js := by
  unfold longJs at h
  rw [Bool.or_eq_false_iff, decide_eq_false_iff_not, List.any_eq_false] at h
  refine ⟨by omega, fun y hy => ?_⟩
  have h9 := h.1 y hy
  obtain ⟨h1, h2⟩ := longB_no (l := y.ns) (most := 20) (each := 300) (by simpa using h9)
  exact ⟨by omega, fun s hs => by have := h1 s hs; omega⟩

set_option maxRecDepth 20000 in
set_option maxHeartbeats 1000000 in
theorem long39_any (J : Option Addr) (jc : Nat) (js : List Jo) (W : World) (hJ : InJs W J jc js) :
    Calls Tryd.prog 5 #[.slice J js.length jc] W fun e w' => e = .returned (.bool (longJs js)) ∧ W = w' := by
  have HJ := hid hJ
  have hjl : js.length ≤ 9223372036854775807 := by have := hJ.len; unfold maxLen at this; omega
  have HY := hid (fun k (hk : k < js.length) h => longJs_yes (js := js) hk h)
  have HE := hid (fun h => longJs_end (js := js) h)
  obtain ⟨R, hR⟩ : ∃ R, longJs js = R := ⟨_, rfl⟩
  rw [hR] at HY HE ⊢
  clear hJ hR
  go_enter Tryd.func5, Tryd.ntmps5
  go_wp2
  go_loopw [3] (fun i wr => ∃ n : Nat, n ≤ js.length ∧ i = .int .i64 (n : Int) ∧ Hid (∀ k (hk : k < js.length), k < n → longB js[k].ns 20 300 = false) ∧ W = wr) (fun i _ => js.length - (intOf i).toNat)
  case atStart => exact ⟨0, by omega, rfl, fun k hk h => absurd h (by omega), rfl⟩
  case round =>
    obtain ⟨n, hn9, rfl, HT, rfl⟩ := hrel
    by_cases hlt : n < js.length
    · have hlt2 : (n : Int) < (js.length : Int) := by omega
      have hn0 : ¬ (n : Int) < 0 := by omega
      obtain ⟨b, off, hA, q0, q1⟩ := HJ.out.el n hlt
      subst hA
      have HL := hid (long_any js[n].A js[n].ns.length js[n].c js[n].ns 20 300 W (HJ.out.2 _ (List.getElem_mem hlt)).1 (HJ.out.2 _ (List.getElem_mem hlt)).2)
      have HY2 := hid (fun h => HY.out n hlt h)
      have HT2 := hid (fun (h : longB js[n].ns 20 300 = false) => show ∀ k (hk : k < js.length), k < n + 1 → longB js[k].ns 20 300 = false from fun k hk hkn => by
        by_cases h9 : k < n
        · exact HT.out k hk h9
        · obtain rfl : k = n := by omega
          exact h)
      generalize longB js[n].ns 20 300 = lb at *
      generalize js[n].ns.length = nn at *
      generalize js[n].A = Aj at *
      generalize js[n].c = cj at *
      generalize js[n].id = ij at *
      go_wp2_with fail
      refine HL.out.mono ?_
      rintro e w2 ⟨rfl, rfl⟩
      clear HL q0 q1
      cases lb with
      | true =>
        have HR9 := hid (HY2.out (by first | rfl | trivial))
        clear HY2 HT2
        go_wp2
        go_ret
        exact ⟨by rw [HR9.out]; rfl, rfl⟩
      | false =>
        have HT3 := hid (HT2.out (by first | rfl | trivial))
        clear HY2 HT2
        go_wp2
        go_roundw
        case rel => exact ⟨n + 1, by omega, by go_num, HT3.out, by trivial⟩
        case measure => simp [intOf]; omega
    · have hge : ¬ (n : Int) < (js.length : Int) := by omega
      have HR9 := hid (HE.out (fun k hk => HT.out k hk (by omega)))
      go_wp2
      go_ret
      exact ⟨by rw [HR9.out]; simp; omega, rfl⟩
end Go.Proofs.YthohedadmfbahaaDoor
