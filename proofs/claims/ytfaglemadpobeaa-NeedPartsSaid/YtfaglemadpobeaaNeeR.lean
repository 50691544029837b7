/- NeedParts: the law, for lists of any length. -/
import Derived.Test.YtfaglemadpobeaaNeeQ
namespace Go.Proofs.Ytfaglemadpobeaa
open Go.RowKit Go.Sort
set_option linter.unusedVariables false
set_option linter.unusedSimpArgs false

set_option maxRecDepth 20000 in
theorem rcheck09_all (A : Option Addr) (cap : Nat) (l : List (Int × Int)) (W : World) (h : Sl W 2 A l.length cap (pcells l)) :
    Calls Try.prog 10 #[.slice A l.length cap] W fun e w' => e = .returned (.int .i64 (chkN l)) ∧ Below W.heap.size W w' := by
  by_cases hl : l.length ≤ 1000
  · exact rcheck09_any A cap l W h hl
  · have h9 := h.len63
    have h2 : (31 : Int) < (l.length : Int) := by omega
    have hl9 : (l.length : Int) ≤ 9223372036854775807 := by omega
    have HC : Hid (chkN l = 4) := hid (by unfold chkN; rw [if_pos (by omega)])
    clear h h9 hl
    generalize hm : l.length = m at *
    clear hm
    go_enter Try.func10, Try.ntmps10
    go_wp2_with fail
    go_ret
    exact ⟨by rw [HC.out]; rfl, Below.refl _ _⟩
set_option maxRecDepth 20000 in
set_option maxHeartbeats 2000000 in
theorem needParts_no (A B : Option Addr) (ca cb : Nat) (l m : List (Int × Int)) (s : Int) (W : World) (hA : Sl W 2 A l.length ca (pcells l)) (hB : Sl W 2 B m.length cb (pcells m)) (h : chkN l ≠ 0 ∨ chkN m ≠ 0) :
    Calls Try.prog 6 #[.slice A l.length ca, .slice B m.length cb, .int .u64 s] W fun e w' => e = .returned (.bool true) ∧ Below W.heap.size W w' := by
  have HCA := hid (fun w (hw : Below W.heap.size W w) => rcheck09_all A ca l w (hA.below hw))
  have HCB := hid (fun w (hw : Below W.heap.size W w) => rcheck09_all B cb m w (hB.below hw))
  clear hA hB
  generalize chkN l = k at *
  generalize chkN m = j at *
  generalize l.length = x at *
  generalize m.length = y at *
  by_cases hk : k = 0
  · subst hk
    have hj : j ≠ 0 := by
      rcases h with h | h
      · exact absurd rfl h
      · exact h
    have ej : (j != 0) = true := by simp [hj]
    clear h
    go_enter Try.func6, Try.ntmps6
    go_wp2_with fail
    refine (HCA.out _ (Below.refl _ _)).mono ?_
    rintro e w1 ⟨rfl, hb⟩
    have HB1 := hid hb
    clear hb HCA
    go_wp2_with fail
    refine (HCB.out _ HB1.out).mono ?_
    rintro e w2 ⟨rfl, hb⟩
    have HB2 := hid (HB1.out.trans (hb.mono HB1.out.size))
    clear hb HCB HB1
    go_wp2_with fail
    refine (works09_any _).mono ?_
    rintro e vf ⟨rfl, hb⟩
    have HB := hid (HB2.out.trans (hb.mono HB2.out.size))
    clear hb HB2
    go_wp2
    go_ret
    exact ⟨rfl, HB.out⟩
  · have ek : (k != 0) = true := by simp [hk]
    clear h
    go_enter Try.func6, Try.ntmps6
    go_wp2_with fail
    refine (HCA.out _ (Below.refl _ _)).mono ?_
    rintro e w1 ⟨rfl, hb⟩
    have HB1 := hid hb
    clear hb HCA
    go_wp2_with fail
    refine (works09_any _).mono ?_
    rintro e vf ⟨rfl, hb⟩
    have HB := hid (HB1.out.trans (hb.mono HB1.out.size))
    clear hb HB1
    go_wp2
    go_ret
    exact ⟨rfl, HB.out⟩
theorem needParts_law (A B : Option Addr) (x y ca cb : Nat) (s : Int) (W : World) (hA : Rd Try.prog W 22 [.slice A x ca]) (hB : Rd Try.prog W 22 [.slice B y cb]) (hs : (Lit.int .u64 s).wf = true) :
    Calls Try.prog 6 #[.slice A x ca, .slice B y cb, .int .u64 s] W fun e w' => e = .returned (.bool true) ∧ Below W.heap.size W w' := by
  obtain ⟨l, sl, rfl⟩ := nodes_in hA
  obtain ⟨m, sm, rfl⟩ := nodes_in hB
  by_cases h : chkN l ≠ 0 ∨ chkN m ≠ 0
  · exact needParts_no A B ca cb l m s W sl sm h
  · have h1 : chkN l = 0 := Classical.byContradiction fun h9 => h (.inl h9)
    have h2 : chkN m = 0 := Classical.byContradiction fun h9 => h (.inr h9)
    obtain ⟨s, rfl, hs9⟩ := wf_u64m hs
    obtain ⟨a, hwa, rfl, _⟩ := chkN_zero h1
    obtain ⟨b, hwb, rfl, _⟩ := chkN_zero h2
    exact needParts_trees A B ca cb a b s W sl sm hs9 hwa hwb h1 h2
end Go.Proofs.Ytfaglemadpobeaa
