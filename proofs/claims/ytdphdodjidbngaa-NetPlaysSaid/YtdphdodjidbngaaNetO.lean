/- siskinlaw28.same of equal lists. -/
import Derived.Test.YtdphdodjidbngaaNetN
import Derived.Test.YtdphdodjidbngaaNetI
namespace Go.Proofs.Ytdphdodjidbngaa
open Go.RowKit
set_option linter.unusedVariables false
set_option linter.unusedSimpArgs false

theorem Sl.tg {w : World} {A : Option Addr} {len cap : Nat} {l : List Tg} (h : Sl w 4 A len cap (tcells l)) (k : Nat) (hk : k < l.length) : ∃ b off, A = some ⟨b, off, none⟩ ∧ w.cell? ⟨b, off + k * 4, none⟩ = some (.int .i64 l[k].from') ∧ w.cell? ⟨b, off + (k * 4 + 1), none⟩ = some (.int .i64 l[k].to') ∧ w.cell? ⟨b, off + (k * 4 + 2), none⟩ = some (.string (str l[k].s)) ∧ w.cell? ⟨b, off + (k * 4 + 3), none⟩ = some (.bool l[k].t) := by
  obtain ⟨b, off, hA, hc⟩ := h.2.2.2 (by rw [tcells_length]; omega)
  have hx := tcells_get l k hk
  refine ⟨b, off, hA, ?_, ?_, ?_, ?_⟩
  · rw [hc (k * 4) (by rw [tcells_length]; omega), hx.1]
  · rw [hc (k * 4 + 1) (by rw [tcells_length]; omega), hx.2.1]
  · rw [hc (k * 4 + 2) (by rw [tcells_length]; omega), hx.2.2.1]
  · rw [hc (k * 4 + 3) (by rw [tcells_length]; omega), hx.2.2.2]
set_option maxRecDepth 20000 in
set_option maxHeartbeats 4000000 in
theorem same_yes (A A' : Option Addr) (c c' : Nat) (l : List Tg) (W : World) (h : Sl W 4 A l.length c (tcells l)) (h' : Sl W 4 A' l.length c' (tcells l)) : Calls Try.prog 29 #[.slice A l.length c, .slice A' l.length c'] W fun e w' => e = .returned (.bool true) ∧ Below W.heap.size W w' := by
  have HE := hid (fun u (hu : Below W.heap.size W u) k (hk : k < l.length) => (h.below hu).tg k hk)
  have HE' := hid (fun u (hu : Below W.heap.size W u) k (hk : k < l.length) => (h'.below hu).tg k hk)
  have hdl : l.length ≤ maxLen := Nat.le_trans h.2.1 h.2.2.1
  unfold maxLen at hdl
  clear h h'
  go_enter Try.func29, Try.ntmps29
  go_wp2
  go_loopw [5] (fun i wr => ∃ n : Nat, n ≤ l.length ∧ i = .int .i64 (n : Int) ∧ Hid (Below W.heap.size W wr)) (fun i _ => l.length - (intOf i).toNat)
  case atStart => exact ⟨0, by omega, rfl, Below.refl _ _⟩
  case round =>
    obtain ⟨n, hn9, rfl, HB⟩ := hrel
    by_cases hlt : n < l.length
    · have hlt2 : (n : Int) < (l.length : Int) := by omega
      have hn0 : ¬ (n : Int) < 0 := by omega
      obtain ⟨b, off, hA, a0, a1, a2, a3⟩ := HE.out wr HB.out n hlt
      obtain ⟨b', off', hA', b0, b1, b2, b3⟩ := HE'.out wr HB.out n hlt
      subst hA hA'
      generalize l[n] = x at *
      obtain ⟨f, t, s, tb⟩ := x
      simp only [← Nat.add_assoc] at a0 a1 a2 a3 b0 b1 b2 b3
      have e1 : ((str s).toList != (str s).toList) = false := by simp
      have e2 : ((str s).toList == (str s).toList) = true := by simp
      have e3 : (tb != tb) = false := by simp
      have e4 : (tb == tb) = true := by simp
      have e5 : (f != f) = false := by simp
      have e6 : (t != t) = false := by simp
      go_upto_region 6 with (fail)
      go_quiet (fail)
      go_wp2
      go_roundw
      case rel => exact ⟨n + 1, by omega, by go_num, hid (HB.out.trans ((below_drewN1 wr _).mono HB.out.size))⟩
      case measure => simp [intOf]; omega
    · obtain rfl : n = l.length := by omega
      have hge : ¬ (l.length : Int) < (l.length : Int) := by omega
      go_wp2
      go_ret
      exact ⟨rfl, HB.out⟩
end Go.Proofs.Ytdphdodjidbngaa
