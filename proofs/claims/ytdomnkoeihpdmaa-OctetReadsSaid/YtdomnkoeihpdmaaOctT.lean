/- OctetReads: the law. -/
import Derived.Test.YtdomnkoeihpdmaaOctS
namespace Go.Proofs.Ytdomnkoeihpdmaa
open Go.RowKit Go.Sort
set_option linter.unusedVariables false
set_option linter.unusedSimpArgs false

theorem octetReads_out (a : Option Addr) (cap : Nat) (l : List UInt8) (A : Option Addr) (len cap2 : Nat) (W : World) (hb : IsBytes W a l.length cap l) (hm : len ≤ maxLen) (ho : 2000 < l.length ∨ 60 < len) :
    Calls Try.prog 4 #[.slice a l.length cap, .slice A len cap2] W fun e w' => e = .returned (.bool true) ∧ Below W.heap.size W w' := by
  have HW := hid (fun w => works01_any w)
  have hl := hb.len
  unfold maxLen at hl hm
  rcases Nat.lt_or_ge 2000 l.length with h | h
  case' inl =>
    have h1 : decide (2000 < (l.length : Int)) = true := decide_eq_true (by omega)
    have h2 : 2000 < (l.length : Int) := by omega
    have h3 : True := trivial
    have h4 : True := trivial
  case' inr =>
    have h1 : decide (2000 < (l.length : Int)) = false := decide_eq_false (by omega)
    have h2 : (l.length : Int) ≤ 2000 := by omega
    have h3 : decide (60 < (len : Int)) = true := decide_eq_true (by omega)
    have h4 : 60 < (len : Int) := by omega
  all_goals
    clear ho h hb hl hm
    go_enter Try.func4, Try.ntmps4
    go_wp2_with (go_at_call 5; refine (HW.out _).mono ?_; rintro e w9 ⟨rfl, hb9⟩)
    go_ret
    exact ⟨rfl, hb9⟩
theorem one3 {cs : List Value} {i : Nat} {v : Value} (h : (cs.drop i).take 1 = [v]) : cs[i]? = some v := by
  have h9 : ((cs.drop i).take 1)[0]? = some v := by rw [h]; rfl
  rw [List.getElem?_take, if_pos (by omega), List.getElem?_drop, Nat.add_zero] at h9
  exact h9
theorem octetReads_law (a : Option Addr) (len cap : Nat) (z : List Int) (A : Option Addr) (len2 cap2 : Nat) (W : World) (h : IsRow .u8 W a len cap z) (hr : Rd Try.prog W 29 [.slice A len2 cap2]) :
    Calls Try.prog 4 #[.slice a len cap, .slice A len2 cap2] W fun e w' => e = .returned (.bool true) ∧ Below W.heap.size W w' := by
  obtain ⟨l, hb⟩ := IsBytes.of_row h
  obtain ⟨rfl, _, _⟩ := hb.len
  have hc : Try.prog.cellsOf 3 = 1 := by kernel_rfl
  have hc3 : Try.prog.cellsOf 36 = 3 := by kernel_rfl
  obtain ⟨h1, h2, hz⟩ := Rd.slice_plain Try.underlying29 hc3 (by omega) hr
  by_cases ho : 2000 < l.length ∨ 60 < len2
  · exact octetReads_out a cap l A len2 cap2 W hb (by omega) ho
  rcases Nat.eq_zero_or_pos len2 with h0 | h0
  · exact octetReads_small a cap l A len2 cap2 (fun _ _ => 0) W hb (by omega) (by omega) (fun h9 => by omega)
  · obtain ⟨b, off, rfl, zz, hzz⟩ := hz h0
    have key : ∀ i, i < len2 → ∃ x : Int × Int × Int, (zz i)[0]? = some (.int .i64 x.1) ∧ (zz i)[1]? = some (.int .i64 x.2.1) ∧ (zz i)[2]? = some (.int .i64 x.2.2) := fun i hi => by
      obtain ⟨hl, hrr, _⟩ := hzz i hi
      obtain ⟨_, hf⟩ := Rd.struct Try.underlying36 hrr
      have f0 : Rd Try.prog W 3 (((zz i).drop 0).take (Try.prog.cellsOf 3)) := hf 0 _ rfl
      have f1 : Rd Try.prog W 3 (((zz i).drop 1).take (Try.prog.cellsOf 3)) := hf 1 _ rfl
      have f2 : Rd Try.prog W 3 (((zz i).drop 2).take (Try.prog.cellsOf 3)) := hf 2 _ rfl
      rw [hc] at f0 f1 f2
      obtain ⟨x, e0, _⟩ := Rd.int Try.underlying3 f0
      obtain ⟨y, e1, _⟩ := Rd.int Try.underlying3 f1
      obtain ⟨u, e2, _⟩ := Rd.int Try.underlying3 f2
      exact ⟨(x, y, u), one3 e0, one3 e1, one3 e2⟩
    obtain ⟨g, hg⟩ := Go.Deep.choose_lt (α := Int × Int × Int) key
    refine octetReads_small a cap l _ len2 cap2 (fun i j => if j = 0 then (g i).1 else if j = 1 then (g i).2.1 else (g i).2.2) W hb (by omega) (by omega) (fun _ => ⟨b, off, rfl, fun i hi j hj => ?_⟩)
    obtain ⟨_, _, hcell⟩ := hzz i hi
    obtain ⟨g0, g1, g2⟩ := hg i hi
    rw [hcell j hj]
    rcases (by omega : j = 0 ∨ j = 1 ∨ j = 2) with rfl | rfl | rfl
    · rw [g0]; rfl
    · rw [g1]; rfl
    · rw [g2]; rfl
end Go.Proofs.Ytdomnkoeihpdmaa
