/- Packets compared: contract. -/
import Derived.Test.YtdekemlckpbbcaaLdH
namespace Go.Proofs.Ytdekemlckpbbcaa
open Go.RowKit Go.Sort
set_option linter.unusedVariables false
set_option linter.unusedSimpArgs false

theorem pk_at {u : World} {A : Option Addr} {c len : Nat} {l : List Pk} (h : Sl u 7 A len c (gcells pkc l)) (k : Nat) (hk : k < l.length) : ∃ b o, A = some ⟨b, o, none⟩ ∧ (u.cell? ⟨b, o + k * 7, none⟩ = some (.int .i64 l[k].k) ∧ u.cell? ⟨b, o + k * 7 + 1, none⟩ = some (.int .i64 l[k].f) ∧ u.cell? ⟨b, o + k * 7 + 2, none⟩ = some (.int .i64 l[k].t) ∧ u.cell? ⟨b, o + k * 7 + 3, none⟩ = some (.int .i64 l[k].i) ∧ u.cell? ⟨b, o + k * 7 + 4, none⟩ = some (.int .i64 l[k].p) ∧ u.cell? ⟨b, o + k * 7 + 5, none⟩ = some (.int .i64 l[k].s) ∧ u.cell? ⟨b, o + k * 7 + 6, none⟩ = some (.string (str l[k].b))) := by
  obtain ⟨b, o, hA, hc⟩ := Sl.gat pkc_len h k hk (by decide)
  have c0 := hc 0 _ rfl
  rw [Nat.add_zero] at c0
  exact ⟨b, o, hA, c0, hc 1 _ rfl, hc 2 _ rfl, hc 3 _ rfl, hc 4 _ rfl, hc 5 _ rfl, hc 6 _ rfl⟩

set_option maxRecDepth 20000 in
set_option maxHeartbeats 4000000 in
theorem alike_any (l : List Pk) (A B : Option Addr) (c d : Nat) (W : World) (hA : Sl W 7 A l.length c (gcells pkc l)) (hB : Sl W 7 B l.length d (gcells pkc l)) (hl : l.length ≤ 1000) :
    Calls Try.prog 22 #[.slice A l.length c, .slice B l.length d] W fun e w' => e = .returned (.bool true) ∧ Below W.heap.size W w' := by
  have HA := hid (fun u (hu : Below W.heap.size W u) k hk => pk_at (hA.below hu) k hk)
  have HB := hid (fun u (hu : Below W.heap.size W u) k hk => pk_at (hB.below hu) k hk)
  have HPK := hid (fun x w => packet26_any x w)
  clear hA hB
  go_enter Try.func22, Try.ntmps22
  go_wp2
  go_loopw [5] (fun i wr => ∃ k : Nat, k ≤ l.length ∧ i = .int .i64 (k : Int) ∧ Hid (Below W.heap.size W wr)) (fun i _ => l.length - (intOf i).toNat)
  case atStart => exact ⟨0, by omega, rfl, hid (Below.refl _ _)⟩
  case round =>
    obtain ⟨k, hk, rfl, HBW⟩ := hrel
    by_cases hlt : k < l.length
    · have i1 : (k : Int) < (l.length : Int) := by omega
      have i3 : ¬ ((k : Int) < 0) := by omega
      obtain ⟨b1, o1, rfl, hc1⟩ := HA.out wr HBW.out k hlt
      obtain ⟨b2, o2, rfl, hc2⟩ := HB.out wr HBW.out k hlt
      have hS : ∀ U, Below wr.heap.size wr U → ((U.cell? ⟨b1, o1 + k * 7, none⟩ = some (.int .i64 l[k].k) ∧ U.cell? ⟨b1, o1 + k * 7 + 1, none⟩ = some (.int .i64 l[k].f) ∧ U.cell? ⟨b1, o1 + k * 7 + 2, none⟩ = some (.int .i64 l[k].t) ∧ U.cell? ⟨b1, o1 + k * 7 + 3, none⟩ = some (.int .i64 l[k].i) ∧ U.cell? ⟨b1, o1 + k * 7 + 4, none⟩ = some (.int .i64 l[k].p) ∧ U.cell? ⟨b1, o1 + k * 7 + 5, none⟩ = some (.int .i64 l[k].s) ∧ U.cell? ⟨b1, o1 + k * 7 + 6, none⟩ = some (.string (str l[k].b))) ∧ (U.cell? ⟨b2, o2 + k * 7, none⟩ = some (.int .i64 l[k].k) ∧ U.cell? ⟨b2, o2 + k * 7 + 1, none⟩ = some (.int .i64 l[k].f) ∧ U.cell? ⟨b2, o2 + k * 7 + 2, none⟩ = some (.int .i64 l[k].t) ∧ U.cell? ⟨b2, o2 + k * 7 + 3, none⟩ = some (.int .i64 l[k].i) ∧ U.cell? ⟨b2, o2 + k * 7 + 4, none⟩ = some (.int .i64 l[k].p) ∧ U.cell? ⟨b2, o2 + k * 7 + 5, none⟩ = some (.int .i64 l[k].s) ∧ U.cell? ⟨b2, o2 + k * 7 + 6, none⟩ = some (.string (str l[k].b)))) ∧ Below W.heap.size W U := fun U hU => by
        have hu := HBW.out.trans (hU.mono HBW.out.size)
        obtain ⟨b3, o3, h3, hd1⟩ := HA.out U hu k hlt
        obtain ⟨b4, o4, h4, hd2⟩ := HB.out U hu k hlt
        cases h3
        cases h4
        exact ⟨⟨hd1, hd2⟩, hu⟩
      generalize hpk : l[k] = x at *
      obtain ⟨kd, f, t, i, p, s, y⟩ := x
      simp only at hS
      have HPX := hid (HPK.out ⟨kd, f, t, i, p, s, y⟩)
      simp only [pca] at HPX
      have hbe : ((str y).toList == (str y).toList) = true := by simp
      have hbn : ((str y).toList != (str y).toList) = false := by simp
      have hk0 : Below wr.heap.size wr wr.drew := below_drew (Below.refl _ _)
      clear hc1 hc2 hpk
      go_upto_region 6 with (fail)
      refine wp_region_held_drew (S := fun U => ((U.cell? ⟨b1, o1 + k * 7, none⟩ = some (.int .i64 kd) ∧ U.cell? ⟨b1, o1 + k * 7 + 1, none⟩ = some (.int .i64 f) ∧ U.cell? ⟨b1, o1 + k * 7 + 2, none⟩ = some (.int .i64 t) ∧ U.cell? ⟨b1, o1 + k * 7 + 3, none⟩ = some (.int .i64 i) ∧ U.cell? ⟨b1, o1 + k * 7 + 4, none⟩ = some (.int .i64 p) ∧ U.cell? ⟨b1, o1 + k * 7 + 5, none⟩ = some (.int .i64 s) ∧ U.cell? ⟨b1, o1 + k * 7 + 6, none⟩ = some (.string (str y))) ∧ (U.cell? ⟨b2, o2 + k * 7, none⟩ = some (.int .i64 kd) ∧ U.cell? ⟨b2, o2 + k * 7 + 1, none⟩ = some (.int .i64 f) ∧ U.cell? ⟨b2, o2 + k * 7 + 2, none⟩ = some (.int .i64 t) ∧ U.cell? ⟨b2, o2 + k * 7 + 3, none⟩ = some (.int .i64 i) ∧ U.cell? ⟨b2, o2 + k * 7 + 4, none⟩ = some (.int .i64 p) ∧ U.cell? ⟨b2, o2 + k * 7 + 5, none⟩ = some (.int .i64 s) ∧ U.cell? ⟨b2, o2 + k * 7 + 6, none⟩ = some (.string (str y)))) ∧ Below W.heap.size W U) (by kernel_rfl) (hS _ hk0) (fun hHeld => ?_)
      generalize wr.drew = k0 at *
      refine wpAnyH_take (i := 0) (v := ?_) rfl (by kernel_rfl) (by kernel_rfl) (by kernel_rfl) (fun _ _ _ h => h) (Or.inl ⟨by rfl, ?_⟩) (by assumption) ?_
      rotate_left
      focus
        intro U hU
        try dsimp only at hU
        go_simp
        try (with_reducible rfl)
      simp only [List.getElem_toArray, List.getElem_cons_succ, List.getElem_cons_zero, Act.put, List.setIfInBounds_toArray, List.set_cons_zero, List.set_cons_succ]
      refine wpAnyH_take (i := 1) (v := ?_) rfl (by kernel_rfl) (by kernel_rfl) (by kernel_rfl) (fun _ _ _ h => h) (Or.inl ⟨by rfl, ?_⟩) (by assumption) ?_
      rotate_left
      focus
        intro U hU
        try dsimp only at hU
        go_simp
        try (with_reducible rfl)
      simp only [List.getElem_toArray, List.getElem_cons_succ, List.getElem_cons_zero, Act.put, List.setIfInBounds_toArray, List.set_cons_zero, List.set_cons_succ]
      refine wpAnyH_take (i := 2) (v := ?_) rfl (by kernel_rfl) (by kernel_rfl) (by kernel_rfl) (fun _ _ _ h => h) (Or.inl ⟨by rfl, ?_⟩) (by assumption) ?_
      rotate_left
      focus
        intro U hU
        try dsimp only at hU
        go_simp
        try (with_reducible rfl)
      simp only [List.getElem_toArray, List.getElem_cons_succ, List.getElem_cons_zero, Act.put, List.setIfInBounds_toArray, List.set_cons_zero, List.set_cons_succ]
      refine wpAnyH_take (i := 3) (v := ?_) rfl (by kernel_rfl) (by kernel_rfl) (by kernel_rfl) (fun _ _ _ h => h) (Or.inl ⟨by rfl, ?_⟩) (by assumption) ?_
      rotate_left
      focus
        intro U hU
        try dsimp only at hU
        go_simp
        try (with_reducible rfl)
      simp only [List.getElem_toArray, List.getElem_cons_succ, List.getElem_cons_zero, Act.put, List.setIfInBounds_toArray, List.set_cons_zero, List.set_cons_succ]
      refine wpAnyH_take (i := 4) (v := ?_) rfl (by kernel_rfl) (by kernel_rfl) (by kernel_rfl) (fun _ _ _ h => h) (Or.inl ⟨by rfl, ?_⟩) (by assumption) ?_
      rotate_left
      focus
        intro U hU
        try dsimp only at hU
        go_simp
        try (with_reducible rfl)
      simp only [List.getElem_toArray, List.getElem_cons_succ, List.getElem_cons_zero, Act.put, List.setIfInBounds_toArray, List.set_cons_zero, List.set_cons_succ]
      refine wpAnyH_take (i := 5) (v := ?_) rfl (by kernel_rfl) (by kernel_rfl) (by kernel_rfl) (fun _ _ _ h => h) (Or.inl ⟨by rfl, ?_⟩) (by assumption) ?_
      rotate_left
      focus
        intro U hU
        try dsimp only at hU
        go_simp
        try (with_reducible rfl)
      simp only [List.getElem_toArray, List.getElem_cons_succ, List.getElem_cons_zero, Act.put, List.setIfInBounds_toArray, List.set_cons_zero, List.set_cons_succ]
      refine wpAnyH_take (i := 6) (v := ?_) rfl (by kernel_rfl) (by kernel_rfl) (by kernel_rfl) (fun _ _ _ h => h) (Or.inl ⟨by rfl, ?_⟩) (by assumption) ?_
      rotate_left
      focus
        intro U hU
        try dsimp only at hU
        go_simp
        try (with_reducible rfl)
      simp only [List.getElem_toArray, List.getElem_cons_succ, List.getElem_cons_zero, Act.put, List.setIfInBounds_toArray, List.set_cons_zero, List.set_cons_succ]
      refine wpAnyH_take (i := 7) (v := ?_) rfl (by kernel_rfl) (by kernel_rfl) (by kernel_rfl) (fun _ _ _ h => h) (Or.inl ⟨by rfl, ?_⟩) (by assumption) ?_
      rotate_left
      focus
        intro U hU
        try dsimp only at hU
        go_simp
        try (with_reducible rfl)
      simp only [List.getElem_toArray, List.getElem_cons_succ, List.getElem_cons_zero, Act.put, List.setIfInBounds_toArray, List.set_cons_zero, List.set_cons_succ]
      refine wpAnyH_ready (rs := [8]) (by kernel_rfl) (by simp) ?_
      refine (AllReadyH.cons rfl (fun K hK => ?_) AllReadyH.nil)
      simp only [List.getElem_toArray, List.getElem_cons_succ, List.getElem_cons_zero]
      go_simp
      refine (HPX.out _).mono ?_
      rintro e w5 ⟨rfl, hb5⟩
      have hk3 := hk0.trans (hb5.mono hk0.size)
      go_wp2_with fail
      refine hK.out _ _ ?_ (fun hHeld2 => ?_)
      focus
        exact hS _ hk3
      clear hHeld
      have hHeld := hHeld2
      clear hHeld2 hK K
      try simp only [List.getElem_toArray, List.getElem_cons_succ, List.getElem_cons_zero, Act.put, List.setIfInBounds_toArray, List.set_cons_zero, List.set_cons_succ]
      refine wpAnyH_take (i := 9) (v := ?_) rfl (by kernel_rfl) (by kernel_rfl) (by kernel_rfl) (fun _ _ _ h => h) (Or.inl ⟨by rfl, ?_⟩) (by assumption) ?_
      rotate_left
      focus
        intro U hU
        try dsimp only at hU
        go_simp
        try (with_reducible rfl)
      simp only [List.getElem_toArray, List.getElem_cons_succ, List.getElem_cons_zero, Act.put, List.setIfInBounds_toArray, List.set_cons_zero, List.set_cons_succ]
      refine wpAnyH_done (by kernel_rfl) ?_ _
      clear hHeld
      have HB9 := hid (HBW.out.trans (hk3.mono HBW.out.size))
      clear hS hk0 hk3 hb5
      go_wp2
      go_roundw
      case rel => exact ⟨k + 1, by omega, by go_num, HB9⟩
      case measure => simp [intOf]; omega
    · have i1 : ¬ ((k : Int) < (l.length : Int)) := by omega
      have HB9 := HBW
      go_wp2
      go_ret
      exact ⟨rfl, HB9.out⟩
end Go.Proofs.Ytdekemlckpbbcaa
