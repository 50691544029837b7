/- ScanGood. -/
import Derived.Test.YtejeffnolglhoaaScnE
import Derived.Deep.RegionHeld3
namespace Go.Proofs.Ytejeffnolglhoaa
open Go.RowKit Go.Sort
set_option linter.unusedVariables false
set_option linter.unusedSimpArgs false

set_option maxRecDepth 20000 in
set_option maxHeartbeats 8000000 in
theorem scanGood_law (Ab : Option Addr) (len cb : Nat) (b : List UInt8) (W : World) (hb : IsBytes W Ab len cb b) :
    Calls Try.prog 9 #[.slice Ab len cb] W fun e w' => e = .returned (.bool true) ∧ RowKit.Below W.heap.size W w' := by
  have HW := hid works18_any
  obtain ⟨rfl, h1, h2⟩ := hb.len
  have hb9 : b.length ≤ 9223372036854775807 := by unfold maxLen at h2; omega
  clear h1 h2
  by_cases hbig : 4000 < b.length
  case pos =>
    have hbig2 : (4000 : Int) < (b.length : Int) := by omega
    clear hb
    generalize b.length = bl at *
    go_enter Try.func9, Try.ntmps9
    go_wp2_with (go_at_call 25; refine (HW.out _).mono ?_; rintro e w7 ⟨rfl, hb7⟩)
    go_ret
    exact ⟨rfl, hb7⟩
  have hsm : (b.length : Int) ≤ 4000 := by omega
  have HR := hid (records_any Ab b.length cb b W hb (by omega))
  have hle := recS_le b.length b (Nat.le_refl _)
  have HRB := hid (rec_back b.length b (Nat.le_refl _))
  have hgl := hle.1
  have HSL := hid (slice_to12 hb (recS b).2 hle.1)
  have HCV := hid (fun w (hw : RowKit.Below W.heap.size W w) => convS ((slice_to12 hb (recS b).2 hle.1).2.below hw))
  clear hb hbig
  generalize recS b = rs at *
  obtain ⟨acc, g⟩ := rs
  simp only at *
  have hal : acc.length ≤ 4000 := by omega
  have hg0 : ¬ (g : Int) < 0 := by omega
  have hg1 : ¬ (b.length : Int) < (g : Int) := by omega
  have hslr := HSL.out.1
  clear HSL hle
  have HTL : Hid ((b.take g).length = g) := hid (by rw [List.length_take]; omega)
  generalize b.take g = L at *
  generalize b.length = bl at *
  go_enter Try.func9, Try.ntmps9
  go_wp2_with fail
  refine HR.out.mono ?_
  rintro q w3 ⟨v, els, rfl, hm, hr, hb3⟩
  have hel : els.length ≤ 100000 := by
    have h1 := congrArg List.length hm
    rw [List.length_map] at h1
    omega
  obtain ⟨A, c, rfl, _⟩ := Sl.of_own hr.1
  have HBY := hid (fun w (hw : RowKit.Below w3.heap.size w3 w) => sbytes_any A c els w (hr.inR.below hw) hel)
  simp only [hm, HRB.out, HTL.out] at HBY
  have HU := hid (fun U (h : RowKit.Below w3.heap.size w3 U) => hb3.trans (h.mono hb3.size))
  clear HR hm hr hb3 hal hel
  generalize els.length = en at *
  go_upto_region 6 with (fail)
  have hS : ∀ U, RowKit.Below w3.heap.size w3 U → RowKit.Below w3.heap.size w3 U := fun U h => h
  have hu0 : RowKit.Below w3.heap.size w3 w3.drew := below_drew (Below.refl _ _)
  have e98 : ((str L).toList == (str L).toList) = true := by simp
  refine wp_region_held_drew (S := fun U => RowKit.Below w3.heap.size w3 U) (by kernel_rfl) (hS _ hu0) (fun hHeld => ?_)
  refine wpAnyH_take (i := 0) (v := ?_) rfl (by kernel_rfl) (by kernel_rfl) (by kernel_rfl) (fun _ _ _ h => h) (Or.inl ⟨by rfl, ?_⟩) (by assumption) ?_
  rotate_left
  focus
    intro U hU
    try dsimp only at hU
    go_simp
    try (with_reducible rfl)
  simp only [List.getElem_toArray, List.getElem_cons_succ, List.getElem_cons_zero, Act.put, List.setIfInBounds_toArray, List.set_cons_zero, List.set_cons_succ]
  refine wpAnyH_take (i := 3) (v := ?_) rfl (by kernel_rfl) (by kernel_rfl) (by kernel_rfl) (fun _ _ _ h => h) (Or.inl ⟨by rfl, ?_⟩) (by assumption) ?_
  rotate_left
  focus
    intro U hU
    try dsimp only at hU
    go_simp
    try (with_reducible rfl)
  simp only [List.getElem_toArray, List.getElem_cons_succ, List.getElem_cons_zero, Act.put, List.setIfInBounds_toArray, List.set_cons_zero, List.set_cons_succ]
  refine wpAnyH_take (i := 4) (v := ?_) rfl (by kernel_rfl) (by kernel_rfl) (by kernel_rfl) (fun _ _ _ h => h) (Or.inl ⟨by rfl, ?_⟩) (by assumption) ?_
  rotate_left
  focus
    intro U hU
    try dsimp only at hU
    go_simp
    try (with_reducible rfl)
  simp only [List.getElem_toArray, List.getElem_cons_succ, List.getElem_cons_zero, Act.put, List.setIfInBounds_toArray, List.set_cons_zero, List.set_cons_succ]
  refine wpAnyH_take (i := 5) (v := ?_) rfl (by kernel_rfl) (by kernel_rfl) (by kernel_rfl) (fun _ _ _ h => h) (Or.inl ⟨by rfl, ?_⟩) (by assumption) ?_
  rotate_left
  focus
    intro U hU
    try dsimp only at hU
    go_simp
    try (with_reducible rfl)
  simp only [List.getElem_toArray, List.getElem_cons_succ, List.getElem_cons_zero, Act.put, List.setIfInBounds_toArray, List.set_cons_zero, List.set_cons_succ]
  refine wpAnyH_take (i := 6) (v := ?_) rfl (by kernel_rfl) (by kernel_rfl) (by kernel_rfl) (fun _ _ _ h => h) (Or.inl ⟨by rfl, ?_⟩) (by assumption) ?_
  rotate_left
  focus
    intro U hU
    try dsimp only at hU
    have hcvb := HCV.out U (HU.out U hU)
    go_simp
    try (with_reducible rfl)
  simp only [List.getElem_toArray, List.getElem_cons_succ, List.getElem_cons_zero, Act.put, List.setIfInBounds_toArray, List.set_cons_zero, List.set_cons_succ]
  refine wpAnyH_ready (rs := [1]) (by kernel_rfl) (by simp) ?_
  refine AllReadyH.cons rfl (fun K hK => ?_) AllReadyH.nil
  simp only [List.getElem_toArray, List.getElem_cons_succ, List.getElem_cons_zero]
  go_simp
  refine (HBY.out _ hu0).mono ?_
  rintro q u1' ⟨A3, c3, rfl, ho3, hb3⟩
  have hu1 : RowKit.Below w3.heap.size w3 u1' := hu0.trans (hb3.mono hu0.size)
  have hcv := convS ho3.bytes
  rw [HTL.out] at hcv
  clear hb3 ho3
  go_wp2_with fail
  refine hK.out _ _ ?_ (fun hHeld2 => ?_)
  focus
    exact hS _ (by with_reducible assumption)
  clear hHeld
  have hHeld := hHeld2
  clear hHeld2 hK K
  try simp only [List.getElem_toArray, List.getElem_cons_succ, List.getElem_cons_zero, Act.put, List.setIfInBounds_toArray, List.set_cons_zero, List.set_cons_succ]
  refine wpAnyH_ready (rs := [2]) (by kernel_rfl) (by simp) ?_
  refine AllReadyH.cons rfl (fun K hK => ?_) AllReadyH.nil
  simp only [List.getElem_toArray, List.getElem_cons_succ, List.getElem_cons_zero]
  go_simp
  refine hK.out _ _ ?_ (fun hHeld2 => ?_)
  focus
    exact hS _ (by with_reducible assumption)
  clear hHeld
  have hHeld := hHeld2
  clear hHeld2 hK K
  try simp only [List.getElem_toArray, List.getElem_cons_succ, List.getElem_cons_zero, Act.put, List.setIfInBounds_toArray, List.set_cons_zero, List.set_cons_succ]
  refine wpAnyH_take (i := 7) (v := ?_) rfl (by kernel_rfl) (by kernel_rfl) (by kernel_rfl) (fun _ _ _ h => h) (Or.inl ⟨by rfl, ?_⟩) (by assumption) ?_
  rotate_left
  focus
    intro U hU
    try dsimp only at hU
    go_simp
    try (with_reducible rfl)
  simp only [List.getElem_toArray, List.getElem_cons_succ, List.getElem_cons_zero, Act.put, List.setIfInBounds_toArray, List.set_cons_zero, List.set_cons_succ]
  refine wpAnyH_take (i := 8) (v := ?_) rfl (by kernel_rfl) (by kernel_rfl) (by kernel_rfl) (fun _ _ _ h => h) (Or.inl ⟨by rfl, ?_⟩) (by assumption) ?_
  rotate_left
  focus
    intro U hU
    try dsimp only at hU
    go_simp
    try (with_reducible rfl)
  simp only [List.getElem_toArray, List.getElem_cons_succ, List.getElem_cons_zero, Act.put, List.setIfInBounds_toArray, List.set_cons_zero, List.set_cons_succ]
  refine wpAnyH_ready (rs := [9]) (by kernel_rfl) (by simp) ?_
  refine AllReadyH.cons rfl (fun K hK => ?_) AllReadyH.nil
  simp only [List.getElem_toArray, List.getElem_cons_succ, List.getElem_cons_zero]
  go_simp
  refine (HW.out _).mono ?_
  rintro q u2' ⟨rfl, hb4⟩
  have hu2 : RowKit.Below w3.heap.size w3 u2' := hu1.trans (hb4.mono hu1.size)
  clear hb4
  go_wp2_with fail
  refine hK.out _ _ ?_ (fun hHeld2 => ?_)
  focus
    exact hS _ (by with_reducible assumption)
  clear hHeld
  have hHeld := hHeld2
  clear hHeld2 hK K
  try simp only [List.getElem_toArray, List.getElem_cons_succ, List.getElem_cons_zero, Act.put, List.setIfInBounds_toArray, List.set_cons_zero, List.set_cons_succ]
  refine wpAnyH_take (i := 10) (v := ?_) rfl (by kernel_rfl) (by kernel_rfl) (by kernel_rfl) (fun _ _ _ h => h) (Or.inl ⟨by rfl, ?_⟩) (by assumption) ?_
  rotate_left
  focus
    intro U hU
    try dsimp only at hU
    go_simp
    try (with_reducible rfl)
  simp only [List.getElem_toArray, List.getElem_cons_succ, List.getElem_cons_zero, Act.put, List.setIfInBounds_toArray, List.set_cons_zero, List.set_cons_succ]
  refine wpAnyH_take (i := 11) (v := ?_) rfl (by kernel_rfl) (by kernel_rfl) (by kernel_rfl) (fun _ _ _ h => h) (Or.inl ⟨by rfl, ?_⟩) (by assumption) ?_
  rotate_left
  focus
    intro U hU
    try dsimp only at hU
    go_simp
    try (with_reducible rfl)
  simp only [List.getElem_toArray, List.getElem_cons_succ, List.getElem_cons_zero, Act.put, List.setIfInBounds_toArray, List.set_cons_zero, List.set_cons_succ]
  refine wpAnyH_done (by kernel_rfl) ?_ _
  clear hHeld hcv hS
  go_wp2
  go_ret
  exact ⟨rfl, HU.out _ hu2⟩
end Go.Proofs.Ytejeffnolglhoaa
