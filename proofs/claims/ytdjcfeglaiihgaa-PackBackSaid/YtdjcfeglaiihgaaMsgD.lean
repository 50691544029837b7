/- The document's Has and Field, as contracts. -/
import Derived.Test.YtdjcfeglaiihgaaMsgC
namespace Go.Proofs.Ytdjcfeglaiihgaa
open Go.RowKit
set_option linter.unusedVariables false
set_option linter.unusedSimpArgs false

theorem four_cells {w : World} {b t : Nat} {x y z u : Value} (h : w.heap[b]? = some (.cells #[x, y, z, u] t (0, 0))) :
    (w.cell? ⟨b, 0, none⟩ = some x ∧ w.cell? ⟨b, 1, none⟩ = some y ∧ w.cell? ⟨b, 2, none⟩ = some z ∧ w.cell? ⟨b, 3, none⟩ = some u) ∧ (w.frozen? ⟨b, 0, none⟩ = false ∧ w.frozen? ⟨b, 1, none⟩ = false ∧ w.frozen? ⟨b, 2, none⟩ = false ∧ w.frozen? ⟨b, 3, none⟩ = false) :=
  ⟨⟨by rw [cell_of_row w b 0 _ t (0, 0) h]; rfl, by rw [cell_of_row w b 1 _ t (0, 0) h]; rfl, by rw [cell_of_row w b 2 _ t (0, 0) h]; rfl, by rw [cell_of_row w b 3 _ t (0, 0) h]; rfl⟩, frozen_of_row w b 0 _ t h, frozen_of_row w b 1 _ t h, frozen_of_row w b 2 _ t h, frozen_of_row w b 3 _ t h⟩
theorem set_four {w : World} {b t : Nat} {x y z u : Value} (h : w.heap[b]? = some (.cells #[x, y, z, u] t (0, 0))) (x' y' z' u' : Value) :
    ((((w.setCell ⟨b, 0, none⟩ x').setCell ⟨b, 1, none⟩ y').setCell ⟨b, 2, none⟩ z').setCell ⟨b, 3, none⟩ u').heap[b]? = some (.cells #[x', y', z', u'] t (0, 0)) := by
  have h1 := heap_setCell_same w b 0 #[x, y, z, u] t x' h
  have h2 := heap_setCell_same _ b 1 _ t y' h1
  have h3 := heap_setCell_same _ b 2 _ t z' h2
  have h4 := heap_setCell_same _ b 3 _ t u' h3
  rw [h4]
  rfl

/-- Has a kind a field? -/
def hasB (k f : Nat) : Bool := if f = 1 then decide (1 ≤ k ∧ k ≤ 10) else if f = 2 then decide (k = 4 ∨ (7 ≤ k ∧ k ≤ 9)) else decide (k = 1 ∨ k = 4 ∨ k = 10)
theorem has_any (k f : Nat) (hk : k ≤ 11) (hf : f = 1 ∨ f = 2 ∨ f = 3) (w : World) : Calls Try.prog 69 #[.int .i64 k, .int .i64 f] w fun e w' => e = .returned (.bool (hasB k f)) ∧ w = w' := by
  rcases (by omega : k = 0 ∨ k = 1 ∨ k = 2 ∨ k = 3 ∨ k = 4 ∨ k = 5 ∨ k = 6 ∨ k = 7 ∨ k = 8 ∨ k = 9 ∨ k = 10 ∨ k = 11) with rfl | rfl | rfl | rfl | rfl | rfl | rfl | rfl | rfl | rfl | rfl | rfl
  all_goals
    clear hk
    rcases hf with rfl | rfl | rfl
  all_goals
    go_enter Try.func69, Try.ntmps69
    go_wp2
    go_ret
    exact ⟨rfl, rfl⟩
theorem rdNum_max (most : Int) (l : List UInt8) (e : Int) : ((rdNum most l e).1 : Int) ≤ max most 0 := by
  unfold rdNum
  by_cases he : e = 0
  · rw [if_pos he]
    by_cases h : (firstN most l).2.2 = 0
    · rw [if_pos h]; exact (firstN_used most l h).2.2.2
    · rw [if_neg h]; simp; omega
  · rw [if_neg he]; simp; omega
theorem takeS_max (hb : Bool) (least most : Int) (l : List UInt8) (e : Int) : ((takeS hb least most l e).1 : Int) ≤ max most 0 := by
  have h := rdNum_max most l e
  unfold takeS
  repeat' split
  all_goals first | exact h | (simp; omega)

theorem field_any (B k f : Nat) (least most : Int) (l : List UInt8) (e : Int) (W : World) (h : RRdr W B l e) (hl : l.length ≤ 100000) (hk : k ≤ 11) (hf : f = 1 ∨ f = 2 ∨ f = 3) :
    Calls Try.prog 40 #[.pointer (some ⟨B, 0, none⟩), .int .i64 k, .int .i64 f, .int .i64 least, .int .i64 most] W fun x w' => x = .returned (.int .i64 ((takeS (hasB k f) least most l e).1 : Nat)) ∧ RRdr w' B (takeS (hasB k f) least most l e).2.1 (takeS (hasB k f) least most l e).2.2 ∧ Only B W w' := by
  have HH := hid (has_any k f hk hf)
  clear hk hf
  generalize hasB k f = hb at *
  cases hb with
  | false =>
    have H := hid h
    clear h
    go_enter Try.func40, Try.ntmps40
    go_wp2_with (refine (HH.out _).mono ?_; rintro x w1 ⟨rfl, rfl⟩)
    go_ret
    exact ⟨rfl, H.out, Only.refl B W⟩
  | true =>
    have HR : Hid (takeS true least most l e = if ((rdNum most l e).1 : Int) < least then ((rdNum most l e).1, (rdNum most l e).2.1, rdFail 3 (rdNum most l e).2.2) else rdNum most l e) := hid rfl
    have HN := hid (rrNum_any B l e most W h hl)
    clear h
    generalize rdNum most l e = t at *
    obtain ⟨n, l2, e2⟩ := t
    simp only at HR HN
    by_cases hlt : (n : Int) < least
    · have hd : decide ((n : Int) < least) = true := decide_eq_true hlt
      rw [if_pos hlt] at HR
      go_enter Try.func40, Try.ntmps40
      go_wp2_with (go_at_call 69; refine (HH.out _).mono ?_; rintro x w1 ⟨rfl, rfl⟩)
      refine HN.out.mono ?_
      rintro x w1 ⟨rfl, hR, hO⟩
      have HF := hid (rrFail_any B l2 e2 3 w1 hR)
      have HO := hid hO
      clear hR hO
      go_wp2_with fail
      refine HF.out.mono ?_
      rintro x w2 ⟨⟨v, rfl⟩, hR2, hO2⟩
      have HR2 := hid hR2
      have HO2 := hid hO2
      clear hR2 hO2
      go_wp2
      go_ret
      rw [HR.out]
      exact ⟨rfl, HR2.out, HO.out.trans HO2.out⟩
    · have hd : decide ((n : Int) < least) = false := decide_eq_false hlt
      rw [if_neg hlt] at HR
      have hlt' : least ≤ (n : Int) := by omega
      go_enter Try.func40, Try.ntmps40
      go_wp2_with (go_at_call 69; refine (HH.out _).mono ?_; rintro x w1 ⟨rfl, rfl⟩)
      refine HN.out.mono ?_
      rintro x w1 ⟨rfl, hR, hO⟩
      have HRR := hid hR
      have HO := hid hO
      clear hR hO
      go_wp2
      go_ret
      rw [HR.out]
      exact ⟨rfl, HRR.out, HO.out⟩
end Go.Proofs.Ytdjcfeglaiihgaa
