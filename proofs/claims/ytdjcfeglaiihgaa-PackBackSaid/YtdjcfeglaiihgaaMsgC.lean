/- msg.Parse and the document's Parse, as contracts. -/
import Derived.Test.YtdjcfeglaiihgaaOctH
import Derived.Deep.Cut
namespace Go.Proofs.Ytdjcfeglaiihgaa
open Go.RowKit
set_option linter.unusedVariables false
set_option linter.unusedSimpArgs false

theorem bytes_of (W : World) (s : ByteArray) (hs : s.size ≤ 100000) : ∃ w' A c, (convert 9 34 (.string s)).run Try.prog W = .ok (.slice A s.size c) w' ∧ IsBytes w' A s.size c s.data.toList ∧ Below W.heap.size W w' := by
  refine ⟨_, _, _, run_bytes_of_string (P := Try.prog) W 9 34 5 s Try.underlying9 Try.underlying34 Try.underlying5, ?_, ?_⟩
  · have hc := grownCap_ge W s.size 0 5
    have hm := grownCap_le_maxLen W s.size 0 5 (by unfold maxLen; omega)
    have hsz : s.data.toList.length = s.size := by rw [Array.length_toList]; rfl
    refine ⟨by rw [bcells_length, hsz, Nat.mul_one], hc, hm, fun _ => ⟨W.heap.size, 0, rfl, fun i hi => ?_⟩⟩
    rw [bcells_length, hsz] at hi
    have h1 : (W.drew.alloc (.cells (bytesRow s (grownCap W s.size 0 5)) 5 ((bytesRow s (grownCap W s.size 0 5)).size, (bytesRow s (grownCap W s.size 0 5)).size + 1))).heap[W.heap.size]? = some (.cells (bytesRow s (grownCap W s.size 0 5)) 5 ((bytesRow s (grownCap W s.size 0 5)).size, (bytesRow s (grownCap W s.size 0 5)).size + 1)) := by
      have := heap_alloc_new W.drew (.cells (bytesRow s (grownCap W s.size 0 5)) 5 ((bytesRow s (grownCap W s.size 0 5)).size, (bytesRow s (grownCap W s.size 0 5)).size + 1))
      simpa using this
    rw [cell_of_row _ W.heap.size (0 + i) _ _ _ h1, Nat.zero_add, bytesRow_at s _ i hi]
    simp [bcells, hsz, hi]
  · exact Below.trans (⟨rfl, rfl, rfl, Nat.le_refl _, fun _ _ => rfl⟩ : Below W.heap.size W W.drew) ((Below.refl W.heap.size W.drew).alloc (Nat.le_refl W.heap.size) _)

/-- Which fields a kind has. -/
def fld (k : Nat) : Nat := if k = 1 ∨ k = 10 then 5 else if k = 2 ∨ k = 3 ∨ k = 5 ∨ k = 6 then 1 else if k = 4 then 7 else if k = 7 ∨ k = 8 ∨ k = 9 then 3 else 0
theorem fields_any (k : Nat) (hk : k ≤ 11) (w : World) : Calls Try.prog 36 #[.int .i64 k] w fun e w' => e = .returned (.int .i64 (fld k : Nat)) ∧ w = w' := by
  rcases (by omega : k = 0 ∨ k = 1 ∨ k = 2 ∨ k = 3 ∨ k = 4 ∨ k = 5 ∨ k = 6 ∨ k = 7 ∨ k = 8 ∨ k = 9 ∨ k = 10 ∨ k = 11) with rfl | rfl | rfl | rfl | rfl | rfl | rfl | rfl | rfl | rfl | rfl | rfl
  all_goals
    clear hk
    go_enter Try.func36, Try.ntmps36
    go_wp2
    go_ret
    exact ⟨rfl, rfl⟩

/-- One field that is read. -/
def takeS (hb : Bool) (least : Int) (most : Int) (l : List UInt8) (e : Int) : Nat × List UInt8 × Int :=
  if hb then (if ((rdNum most l e).1 : Int) < least then ((rdNum most l e).1, (rdNum most l e).2.1, rdFail 3 (rdNum most l e).2.2) else rdNum most l e) else (0, l, e)
theorem takeS_short (hb : Bool) (least most : Int) (l : List UInt8) (e : Int) : (takeS hb least most l e).2.1.length ≤ l.length := by
  have h : (rdNum most l e).2.1.length ≤ l.length := by
    unfold rdNum
    repeat' split
    all_goals simp
  unfold takeS
  repeat' split
  all_goals first | exact h | simp

theorem take_any (B : Nat) (has least most : Int) (l : List UInt8) (e : Int) (W : World) (h : RdrAt W B l e) (hb : Bool) (hh : (has == 0) = !hb) :
    Calls Try.prog 35 #[.pointer (some ⟨B, 0, none⟩), .int .i64 has, .int .i64 least, .int .i64 most] W fun x w' => x = .returned (.int .i64 ((takeS hb least most l e).1 : Nat)) ∧ RdrAt w' B (takeS hb least most l e).2.1 (takeS hb least most l e).2.2 ∧ Only B W w' := by
  cases hb with
  | false =>
    have hh' : (has == 0) = true := by simpa using hh
    clear hh
    have H := hid h
    clear h
    go_enter Try.func35, Try.ntmps35
    go_wp2
    go_ret
    exact ⟨rfl, H.out, Only.refl B W⟩
  | true =>
    have hh' : (has == 0) = false := by simpa using hh
    have HR : Hid (takeS true least most l e = if ((rdNum most l e).1 : Int) < least then ((rdNum most l e).1, (rdNum most l e).2.1, rdFail 3 (rdNum most l e).2.2) else rdNum most l e) := hid rfl
    have HN := hid (rdNum_any B l e most W h)
    clear hh h
    generalize rdNum most l e = t at *
    obtain ⟨n, l2, e2⟩ := t
    simp only at HR HN
    by_cases hlt : (n : Int) < least
    · have hd : decide ((n : Int) < least) = true := decide_eq_true hlt
      rw [if_pos hlt] at HR
      go_enter Try.func35, Try.ntmps35
      go_wp2_with fail
      refine HN.out.mono ?_
      rintro x w1 ⟨rfl, hR, hO⟩
      have HF := hid (rdFail_any B l2 e2 3 w1 hR)
      have HO := hid hO
      clear hR hO
      go_wp2_with fail
      refine HF.out.mono ?_
      rintro x w2 ⟨⟨v, rfl⟩, hR2, hO2⟩
      have HR2 := hid hR2
      have HO2 := hid hO2
      clear hR2 hO2
      go_wp2
      go_ret
      rw [HR.out]
      exact ⟨rfl, HR2.out, HO.out.trans HO2.out⟩
    · have hd : decide ((n : Int) < least) = false := decide_eq_false hlt
      rw [if_neg hlt] at HR
      have hlt' : least ≤ (n : Int) := by omega
      go_enter Try.func35, Try.ntmps35
      go_wp2_with fail
      refine HN.out.mono ?_
      rintro x w1 ⟨rfl, hR, hO⟩
      have HRR := hid hR
      have HO := hid hO
      clear hR hO
      go_wp2
      go_ret
      rw [HR.out]
      exact ⟨rfl, HRR.out, HO.out⟩
end Go.Proofs.Ytdjcfeglaiihgaa
