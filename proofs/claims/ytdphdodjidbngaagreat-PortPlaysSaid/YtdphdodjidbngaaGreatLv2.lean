/- Outboxes compared: contracts. -/
import Derived.Test.YtdphdodjidbngaaGreatLv1
import Derived.Test.YtdphdodjidbngaaGreatGaP
import Derived.Deep.QuietTactic
import Derived.BigQuiet
import Derived.Test.YtdphdodjidbngaaGreatQGt
import Derived.Test.YtdphdodjidbngaaGreatQLnkE
namespace Go.Proofs.YtdphdodjidbngaaGreat
open Go.RowKit Go.Sort
set_option linter.unusedVariables false
set_option linter.unusedSimpArgs false

end Go.Proofs.YtdphdodjidbngaaGreat

namespace Go.Proofs.YtdphdodjidbngaaGreat
open Go.RowKit Go.Sort
set_option linter.unusedVariables false
set_option linter.unusedSimpArgs false

end Go.Proofs.YtdphdodjidbngaaGreat

namespace Go.Proofs.YtdphdodjidbngaaGreat
open Go.RowKit Go.Sort
set_option linter.unusedVariables false
set_option linter.unusedSimpArgs false

end Go.Proofs.YtdphdodjidbngaaGreat

namespace Go.Proofs.YtdphdodjidbngaaGreat
open Go.RowKit Go.Sort
set_option linter.unusedVariables false
set_option linter.unusedSimpArgs false

/-- A row of the document's packets of the call's own. -/
def OwnR (W w : World) (v : Value) (l : List Pk) : Prop := w.ownsRow W.heap.size 30 7 v l.length (gcells pkc l)
theorem ownR_nil (W w : World) : OwnR W w (.slice none 0 0) [] := ⟨rfl, .inl ⟨rfl, rfl⟩⟩
theorem ownR_one {W w' : World} {x : Pk} {g : Nat} (hb : W.heap.size ≤ g) (h : w'.heap[g]? = some (.cells (pkc x).toArray 30 (0, 0))) : OwnR W w' (.slice (some ⟨g, 0, none⟩) 1 1) [x] := by
  refine ⟨by simp [gcells, pkc], .inr ⟨g, 1, (pkc x).toArray, rfl, hb, h, by simp, by unfold maxLen; omega, by simp [pkc], by simp [gcells, pkc]⟩⟩

set_option maxRecDepth 20000 in
set_option maxHeartbeats 4000000 in
theorem data26_any (e : Ev) (b : Bool) (hb : b = true → e.o.l ≠ []) (A : Option Addr) (c : Nat) (W : World) (h : Sl W 1 A e.o.l.length c (scells e.o.l)) :
    Calls Tryz.prog 48 #[.agg (ec e A c), .bool b] W fun x w' => ∃ B d, x = .returned (.slice B (dataV e b).length d) ∧ OwnR W w' (.slice B (dataV e b).length d) (dataV e b) ∧ Below W.heap.size W w' := by
  cases b with
  | false =>
    obtain ⟨f, t, i, ⟨p, q, l, wt, fl⟩, m, gp, gl⟩ := e
    simp only [ec]
    clear h hb
    go_enter Tryz.func48, Tryz.ntmps48
    go_wp2
    go_ret
    exact ⟨none, 0, rfl, ownR_nil _ _, (Below.refl _ _).alloc (Nat.le_refl _) _⟩
  | true =>
    have hne := hb rfl
    obtain ⟨f, t, i, ⟨p, q, l, wt, fl⟩, m, gp, gl⟩ := e
    cases l with
    | nil => exact absurd rfl hne
    | cons y r =>
    clear hne hb
    simp only [ec]
    obtain ⟨bl, off, rfl, hc⟩ := Sl.at h 0 (by rw [scells_length]; simp)
    have hcb : W.cell? ⟨bl, off, none⟩ = some (.string (str y)) := by simpa [scells] using hc
    have hcB : ∀ U, Below W.heap.size W U → U.cell? ⟨bl, off, none⟩ = some (.string (str y)) := fun U hU => by
      obtain ⟨b9, o9, hA9, hc9⟩ := Sl.at (h.below hU) 0 (by rw [scells_length]; simp)
      cases hA9
      simpa [scells] using hc9
    have HC := hid hcB
    have HV : Hid (dataV ⟨f, t, i, ⟨p, q, y :: r, wt, fl⟩, m, gp, gl⟩ true = [⟨1, f, t, i, p, q, y⟩]) := hid rfl
    rw [HV.out]
    clear h hc hcb hcB HV
    obtain ⟨L, hL⟩ : ∃ L, L = (y :: r).length := ⟨_, rfl⟩
    rw [← hL]
    have hL0 : 0 < L := by rw [hL]; simp
    have hL1 : (0 : Int) < (L : Int) := by omega
    clear hL
    go_enter Tryz.func48, Tryz.ntmps48
    go_upto_region 3 with (fail)
    refine at_world (fun u => u.heap[W.heap.size]? = some (.cells #[.int .i64 f, .int .i64 t, .int .i64 i, .int .i64 p, .int .i64 q, .slice (some ⟨bl, off, none⟩) L c, .int .i64 wt, .int .i64 fl, .int .i64 m, .int .i64 gp, .int .i64 gl] 82 (0, 0)) ∧ Below W.heap.size W u) ⟨heap_alloc_new _ _, (Below.refl _ _).alloc (Nat.le_refl _) _⟩ ?_
    rintro w1 ⟨hx, hb⟩
    have HX := hid hx
    have HB := hid hb
    have hS : ∀ U, Below w1.heap.size w1 U → (((U.cell? ⟨W.heap.size, 0, none⟩ = some (.int .i64 f) ∧ U.cell? ⟨W.heap.size, 1, none⟩ = some (.int .i64 t) ∧ U.cell? ⟨W.heap.size, 2, none⟩ = some (.int .i64 i) ∧ U.cell? ⟨W.heap.size, 3, none⟩ = some (.int .i64 p) ∧ U.cell? ⟨W.heap.size, 4, none⟩ = some (.int .i64 q) ∧ U.cell? ⟨W.heap.size, 5, none⟩ = some (.slice (some ⟨bl, off, none⟩) L c) ∧ U.cell? ⟨W.heap.size, 6, none⟩ = some (.int .i64 wt) ∧ U.cell? ⟨W.heap.size, 7, none⟩ = some (.int .i64 fl) ∧ U.cell? ⟨W.heap.size, 8, none⟩ = some (.int .i64 m) ∧ U.cell? ⟨W.heap.size, 9, none⟩ = some (.int .i64 gp) ∧ U.cell? ⟨W.heap.size, 10, none⟩ = some (.int .i64 gl)) ∧ U.cell? ⟨bl, off, none⟩ = some (.string (str y))) ∧ Below W.heap.size W U) := fun U hU => ⟨⟨(eleven_cells (keep0 HX.out hU)).1, HC.out U (HB.out.trans (hU.mono HB.out.size))⟩, HB.out.trans (hU.mono HB.out.size)⟩
    have hk0 : Below w1.heap.size w1 w1.drew := below_drew (Below.refl _ _)
    clear hx hb
    go_upto_region 3 with (fail)
    refine wp_region_held_drew (S := fun U => ((U.cell? ⟨W.heap.size, 0, none⟩ = some (.int .i64 f) ∧ U.cell? ⟨W.heap.size, 1, none⟩ = some (.int .i64 t) ∧ U.cell? ⟨W.heap.size, 2, none⟩ = some (.int .i64 i) ∧ U.cell? ⟨W.heap.size, 3, none⟩ = some (.int .i64 p) ∧ U.cell? ⟨W.heap.size, 4, none⟩ = some (.int .i64 q) ∧ U.cell? ⟨W.heap.size, 5, none⟩ = some (.slice (some ⟨bl, off, none⟩) L c) ∧ U.cell? ⟨W.heap.size, 6, none⟩ = some (.int .i64 wt) ∧ U.cell? ⟨W.heap.size, 7, none⟩ = some (.int .i64 fl) ∧ U.cell? ⟨W.heap.size, 8, none⟩ = some (.int .i64 m) ∧ U.cell? ⟨W.heap.size, 9, none⟩ = some (.int .i64 gp) ∧ U.cell? ⟨W.heap.size, 10, none⟩ = some (.int .i64 gl)) ∧ U.cell? ⟨bl, off, none⟩ = some (.string (str y))) ∧ Below W.heap.size W U) (by kernel_rfl) (hS _ hk0) (fun hHeld => ?_)
    generalize w1.drew = k0 at *
    refine tkA 0 ?_ rfl ?_ (by assumption) ?_; rotate_left; focus (intro U hU; (try dsimp only at hU); go_simp; try (with_reducible rfl))
    simp only [gt6, Act.put]
    refine tkA 1 ?_ rfl ?_ (by assumption) ?_; rotate_left; focus (intro U hU; (try dsimp only at hU); go_simp; try (with_reducible rfl))
    simp only [gt6, Act.put]
    refine tkA 2 ?_ rfl ?_ (by assumption) ?_; rotate_left; focus (intro U hU; (try dsimp only at hU); go_simp; try (with_reducible rfl))
    simp only [gt6, Act.put]
    refine tkA 3 ?_ rfl ?_ (by assumption) ?_; rotate_left; focus (intro U hU; (try dsimp only at hU); go_simp; try (with_reducible rfl))
    simp only [gt6, Act.put]
    refine tkA 4 ?_ rfl ?_ (by assumption) ?_; rotate_left; focus (intro U hU; (try dsimp only at hU); go_simp; try (with_reducible rfl))
    simp only [gt6, Act.put]
    refine tkA 5 ?_ rfl ?_ (by assumption) ?_; rotate_left; focus (intro U hU; (try dsimp only at hU); go_simp; try (with_reducible rfl))
    simp only [gt6, Act.put]
    refine tkA 6 ?_ rfl ?_ (by assumption) ?_; rotate_left; focus (intro U hU; (try dsimp only at hU); go_simp; try (with_reducible rfl))
    simp only [gt6, Act.put]
    refine tkA 7 ?_ rfl ?_ (by assumption) ?_; rotate_left; focus (intro U hU; (try dsimp only at hU); go_simp; try (with_reducible rfl))
    simp only [gt6, Act.put]
    refine tkA 8 ?_ rfl ?_ (by assumption) ?_; rotate_left; focus (intro U hU; (try dsimp only at hU); go_simp; try (with_reducible rfl))
    simp only [gt6, Act.put]
    refine tkA 9 ?_ rfl ?_ (by assumption) ?_; rotate_left; focus (intro U hU; (try dsimp only at hU); go_simp; try (with_reducible rfl))
    simp only [gt6, Act.put]
    refine tkA 10 ?_ rfl ?_ (by assumption) ?_; rotate_left; focus (intro U hU; (try dsimp only at hU); go_simp; try (with_reducible rfl))
    simp only [gt6, Act.put]
    refine tkA 11 ?_ rfl ?_ (by assumption) ?_; rotate_left; focus (intro U hU; (try dsimp only at hU); go_simp; try (with_reducible rfl))
    simp only [gt6, Act.put]
    refine tkA 12 ?_ rfl ?_ (by assumption) ?_; rotate_left; focus (intro U hU; (try dsimp only at hU); go_simp; try (with_reducible rfl))
    simp only [gt6, Act.put]
    refine tkA 13 ?_ rfl ?_ (by assumption) ?_; rotate_left; focus (intro U hU; (try dsimp only at hU); go_simp; try (with_reducible rfl))
    simp only [gt6, Act.put]
    refine tkA 14 ?_ rfl ?_ (by assumption) ?_; rotate_left; focus (intro U hU; (try dsimp only at hU); go_simp; try (with_reducible rfl))
    simp only [gt6, Act.put]
    refine tkA 15 ?_ rfl ?_ (by assumption) ?_; rotate_left; focus (intro U hU; (try dsimp only at hU); go_simp; try (with_reducible rfl))
    simp only [gt6, Act.put]
    refine tkA 16 ?_ rfl ?_ (by assumption) ?_; rotate_left; focus (intro U hU; (try dsimp only at hU); go_simp; try (with_reducible rfl))
    simp only [gt6, Act.put]
    refine tkA 17 ?_ rfl ?_ (by assumption) ?_; rotate_left; focus (intro U hU; (try dsimp only at hU); go_simp; try (with_reducible rfl))
    simp only [gt6, Act.put]
    refine wpAnyH_ready (rs := [18]) (by kernel_rfl) (by simp) ?_
    refine (AllReadyH.cons rfl (fun K hK => ?_) AllReadyH.nil)
    have hbs : Below (World.heap k0).size k0 (World.alloc k0 (.cells #[.int .i64 1, .int .i64 f, .int .i64 t, .int .i64 i, .int .i64 p, .int .i64 q, .string (str y)] 30)) := (Below.refl _ _).alloc (Nat.le_refl _) _
    have hk2 := hk0.trans (hbs.mono hk0.size)
    clear hbs
    simp only [gt3]
    go_simp
    refine hK.out _ _ ?_ (fun hHeld2 => ?_)
    focus
      exact hS _ hk2
    clear hHeld
    have hHeld := hHeld2
    clear hHeld2 hK K
    try simp only [gt6, Act.put]
    refine tkA 19 ?_ rfl ?_ (by assumption) ?_; rotate_left; focus (intro U hU; (try dsimp only at hU); go_simp; try (with_reducible rfl))
    simp only [gt6, Act.put]
    refine wpAnyH_done (by kernel_rfl) ?_ _
    clear hHeld hS
    have hb9 := HB.out.trans (hk2.mono HB.out.size)
    go_wp2
    go_ret
    exact ⟨_, _, rfl, ownR_one (x := ⟨1, f, t, i, p, q, y⟩) (Nat.le_trans HB.out.size hk0.size) (heap_alloc_new k0 _), hb9⟩
end Go.Proofs.YtdphdodjidbngaaGreat

namespace Go.Proofs.YtdphdodjidbngaaGreat
open Go.RowKit Go.Sort
set_option linter.unusedVariables false
set_option linter.unusedSimpArgs false

end Go.Proofs.YtdphdodjidbngaaGreat

