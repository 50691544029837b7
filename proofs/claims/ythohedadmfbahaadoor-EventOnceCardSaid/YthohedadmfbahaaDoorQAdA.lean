/- Admit: Workers and its closure; the document's Workers; both Any: contracts. -/
import Derived.Test.YthohedadmfbahaaDoorQAdM
import Derived.Test.YthohedadmfbahaaDoorQAdW
import Derived.Test.YthohedadmfbahaaDoorGaP
import Derived.Lib.MinMax
import Derived.Deep.Cut
import Derived.Deep.CutRange
import Derived.Deep.RegionHeld3
namespace Go.Proofs.YthohedadmfbahaaDoor
open Go.RowKit Go.Sort
set_option linter.unusedVariables false
set_option linter.unusedSimpArgs false

set_option maxRecDepth 20000 in
set_option maxHeartbeats 2000000 in
theorem having_any (fs : List Wk) (A : Option Addr) (cap P : Nat) (a : Int) (W : World) (hp : W.cell? ⟨P, 0, none⟩ = some (.slice A fs.length cap)) (h : Sl W 3 A fs.length cap (gcells wkc fs)) (h64 : fs.length ≤ 64) (hws : ∀ x ∈ fs, x.2.2 < 18446744073709551616) :
    Calls Tryd.prog 55 #[.int .i64 a, .pointer (some ⟨P, 0, none⟩)] W fun e w' => e = .returned (.int .u64 (hvU fs a fs.length : Nat)) ∧ Below W.heap.size W w' := by
  have HS := hid (fun w (hw : Below W.heap.size W w) => h.below hw)
  have HW := hid hws
  have hn2 : (fs.length : Int) ≤ 64 := by omega
  clear h hws
  go_enter Tryd.func55, Tryd.ntmps55
  go_wp2_with fail
  clear hp
  go_loopw [4, 5, 6, 9] (fun s _ _ i wr => ∃ k : Nat, k ≤ fs.length ∧ i = .int .i64 (k : Int) ∧ s = .int .u64 (hvU fs a k : Nat) ∧ Hid (Below W.heap.size W wr)) (fun _ _ _ i _ => fs.length - (intOf i).toNat)
  case atStart => exact ⟨0, by omega, rfl, rfl, Below.refl _ _⟩
  case round =>
    obtain ⟨k, hk, rfl, rfl, HB⟩ := hrel
    by_cases hlt : k < fs.length
    · have hlt2 : (k : Int) < (fs.length : Int) := by omega
      obtain ⟨b, off, rfl, hcl⟩ := Sl.gat (f := wkc) (n := 3) (fun _ => rfl) (HS.out _ HB.out) k hlt (by omega)
      have c0 := hcl 0 _ rfl
      have c1 := hcl 1 _ rfl
      have c2 := hcl 2 _ rfl
      have hka := HW.out fs[k] (List.getElem_mem hlt)
      have HAT : Hid (atW fs k = (fs[k]).2.2) := hid (by unfold atW; rw [List.getD_eq_getElem?_getD, List.getElem?_eq_getElem hlt]; rfl)
      have HV : Hid (hvU fs a (k + 1) = if hasS (atW fs k) a then withS (hvU fs a k) (k : Nat) else hvU fs a k) := hid rfl
      rw [HAT.out] at HV
      have hvl := hvU_lt fs a k
      simp only [Nat.add_zero] at c0
      clear hcl HAT
      generalize fs[k] = x at *
      obtain ⟨x0, x1, x2⟩ := x
      simp only at c0 c1 c2 hka HV
      generalize hvU fs a k = v0 at *
      have HH := hid (fun w => has_any x2 a w hka)
      have HWT := hid (fun w => with_any v0 (k : Int) w hvl)
      have HB2 := hid (fun o => HB.out.alloc (o := o) HB.out.size)
      generalize hhs : hasS x2 a = hs at *
      go_wp2_with fail
      refine (HH.out _).mono ?_
      rintro e w2 ⟨rfl, rfl⟩
      cases hs with
      | true =>
        go_wp2_with fail
        refine (HWT.out _).mono ?_
        rintro e w3 ⟨rfl, rfl⟩
        go_wp2
        go_roundw
        case rel => exact ⟨k + 1, by omega, by go_num, by rw [HV.out]; rfl, HB2.out _⟩
        case measure => simp [intOf]; omega
      | false =>
        go_wp2_with fail
        go_roundw
        case rel => exact ⟨k + 1, by omega, by go_num, by rw [HV.out]; rfl, HB2.out _⟩
        case measure => simp [intOf]; omega
    · have hge : ¬ (k : Int) < (fs.length : Int) := by omega
      obtain rfl : k = fs.length := by omega
      go_wp2
      go_ret
      exact ⟨rfl, HB.out⟩
end Go.Proofs.YthohedadmfbahaaDoor
