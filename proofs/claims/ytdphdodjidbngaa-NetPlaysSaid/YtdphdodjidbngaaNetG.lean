/- net: List, Clone, the calls that are refused, and those at no net. -/
import Derived.Test.YtdphdodjidbngaaNetF
import Derived.Test.YtdphdodjidbngaaIcell
namespace Go.Proofs.Ytdphdodjidbngaa
open Go.RowKit
set_option linter.unusedVariables false
set_option linter.unusedSimpArgs false

set_option maxRecDepth 20000 in
theorem clone_thing (A : Option Addr) (len cap : Nat) (cs : List Value) (W : World) (h : Sl W 4 A len cap cs) (h1 : ∀ u ∈ cs, u.oneCell' = true) (hlen : len ≤ 100000) :
    Calls Try.prog 64 #[.slice A len cap] W fun e w' => ∃ v, e = .returned v ∧ Below W.heap.size W w' ∧ w'.ownsRow W.heap.size 60 4 v len cs := by
  have hl := h.1
  have HL := hid hlen
  clear hlen
  rcases A with _ | ad
  · have h0 : cs = [] := by
      rcases Nat.eq_zero_or_pos cs.length with h0 | h0
      · exact List.eq_nil_of_length_eq_zero h0
      · obtain ⟨b, off, ha, _⟩ := h.2.2.2 h0
        cases ha
    subst h0
    have hz : len = 0 := by simp at hl; omega
    subst hz
    clear hl h h1
    have he : ∀ w : World, (binOp .eql 68 (.slice none 0 cap) (.slice none 0 0)).run Try.prog w = .ok (.bool true) w := fun _ => rfl
    go_enter Try.func64, Try.ntmps64
    go_wp2
    go_ret
    exact ⟨_, rfl, Below.refl _ _, World.ownsRow_nil _ _ _ _⟩
  · have HS := hid h
    have HE := hid (own_empty W 60 4)
    have H1 := hid h1
    clear h h1 hl
    have he : ∀ w : World, (binOp .eql 68 (.slice (some ad) len cap) (.slice none 0 0)).run Try.prog w = .ok (.bool false) w := fun _ => rfl
    go_enter Try.func64, Try.ntmps64
    go_wp2_with (at_builtin; refine wpList_append_sl (W := W) rfl (.tmp 5) (.tmp 6) 68 rfl W.heap.size 60 Try.underlying68 info_thing rfl (by omega) rfl HE.out rfl (HS.out.below ((Below.refl _ _).alloc (Nat.le_refl _) _)) H1.out (by have := HL.out; unfold maxLen; omega) (by have := HL.out; omega) (by simp) ((Below.refl _ _).alloc (Nat.le_refl _) _) ?_)
    intro v1 w1 ho1 hb1 _
    go_wp2
    go_ret
    exact ⟨_, rfl, hb1, by simpa using ho1⟩

set_option maxRecDepth 20000 in
theorem nlist_any (B b : Nat) (m : Int) (l : List Tg) (W : World) (h : NetAt B b m l W) (hl : l.length ≤ 100000) : Calls Try.prog 35 #[.pointer (some ⟨b, 0, none⟩)] W fun e w' => ∃ A c, e = .returned (.slice A l.length c) ∧ Below W.heap.size W w' ∧ w'.ownsRow W.heap.size 60 4 (.slice A l.length c) l.length (tcells l) := by
  obtain ⟨h0, A, c, h1, h2⟩ := h
  obtain ⟨c0, c1, _, _⟩ := two_cells h1
  have HC := hid (clone_thing A l.length c (tcells l) W (sl_own h2) (tcells_one l) hl)
  clear h0 h1 h2
  generalize tcells l = tl at *
  generalize l.length = ln at *
  go_enter Try.func35, Try.ntmps35
  go_wp2_with fail
  refine HC.out.mono ?_
  rintro e w1 ⟨v, rfl, hb, ho⟩
  obtain ⟨A9, c9, rfl, _⟩ := Sl.of_own ho
  have HB := hid hb
  have HO := hid ho
  clear hb ho HC c0 c1
  go_wp2
  go_ret
  exact ⟨_, _, rfl, HB.out, HO.out⟩

set_option maxRecDepth 20000 in
theorem nlist_nil (W : World) : Calls Try.prog 35 #[.pointer none] W fun e w' => e = .returned (.slice none 0 0) ∧ W = w' := by
  go_enter Try.func35, Try.ntmps35
  go_wp2
  go_ret
  exact ⟨rfl, rfl⟩
theorem nclone_nil (W : World) : Calls Try.prog 34 #[.pointer none] W fun e w' => e = .returned (.pointer none) ∧ W = w' := by
  go_enter Try.func34, Try.ntmps34
  go_wp2
  go_ret
  exact ⟨rfl, rfl⟩
theorem nlen_nil (W : World) : Calls Try.prog 36 #[.pointer none] W fun e w' => e = .returned (.int .i64 0) ∧ W = w' := by
  go_enter Try.func36, Try.ntmps36
  go_wp2
  go_ret
  exact ⟨rfl, rfl⟩
theorem nfind_nil (k : Int) (W : World) : Calls Try.prog 62 #[.pointer none, .int .i64 k] W fun e w' => e = .returned (.int .i64 1) ∧ W = w' := by
  go_enter Try.func62, Try.ntmps62
  go_wp2
  go_ret
  exact ⟨rfl, rfl⟩
theorem nsend_nil (f t : Int) (A : Option Addr) (n c : Nat) (W : World) : Calls Try.prog 25 #[.pointer none, .int .i64 f, .int .i64 t, .slice A n c] W fun e w' => e = .returned (.int .i64 0) ∧ W = w' := by
  go_enter Try.func25, Try.ntmps25
  go_wp2
  go_ret
  exact ⟨rfl, rfl⟩
theorem ntwice_nil (k : Int) (W : World) : Calls Try.prog 30 #[.pointer none, .int .i64 k] W fun e w' => e = .returned (.int .i64 1) ∧ W = w' := by
  have HF := hid (nfind_nil k W)
  go_enter Try.func30, Try.ntmps30
  go_wp2_with fail
  refine HF.out.mono ?_
  rintro e w1 ⟨rfl, rfl⟩
  go_wp2
  go_ret
  exact ⟨rfl, rfl⟩
theorem nturn_nil (k a : Int) (bits : Int) (W : World) : Calls Try.prog 32 #[.pointer none, .int .i64 k, .int .i64 a, .int .u32 bits] W fun e w' => e = .returned (.int .i64 1) ∧ W = w' := by
  have HF := hid (nfind_nil k W)
  go_enter Try.func32, Try.ntmps32
  go_wp2_with fail
  refine HF.out.mono ?_
  rintro e w1 ⟨rfl, rfl⟩
  go_wp2
  go_ret
  exact ⟨rfl, rfl⟩
theorem ntwice_out (B b : Nat) (m : Int) (l : List Tg) (k : Int) (W : World) (h : NetAt B b m l W) (hk : k < 0 ∨ (l.length : Int) ≤ k) : Calls Try.prog 30 #[.pointer (some ⟨b, 0, none⟩), .int .i64 k] W fun e w' => e = .returned (.int .i64 6) ∧ W = w' := by
  have HF := hid (nfind_any B b m l k W h)
  rw [if_pos hk] at HF
  clear h hk
  go_enter Try.func30, Try.ntmps30
  go_wp2_with fail
  refine HF.out.mono ?_
  rintro e w1 ⟨rfl, rfl⟩
  go_wp2
  go_ret
  exact ⟨rfl, rfl⟩
theorem nturn_out (B b : Nat) (m : Int) (l : List Tg) (k a : Int) (bits : Int) (W : World) (h : NetAt B b m l W) (hk : k < 0 ∨ (l.length : Int) ≤ k) : Calls Try.prog 32 #[.pointer (some ⟨b, 0, none⟩), .int .i64 k, .int .i64 a, .int .u32 bits] W fun e w' => e = .returned (.int .i64 6) ∧ W = w' := by
  have HF := hid (nfind_any B b m l k W h)
  rw [if_pos hk] at HF
  clear h hk
  go_enter Try.func32, Try.ntmps32
  go_wp2_with fail
  refine HF.out.mono ?_
  rintro e w1 ⟨rfl, rfl⟩
  go_wp2
  go_ret
  exact ⟨rfl, rfl⟩
set_option maxRecDepth 20000 in
theorem ntake_nil (k : Int) (W : World) : Calls Try.prog 27 #[.pointer none, .int .i64 k] W fun e w' => e = .returned (.tuple #[.agg #[.int .i64 0, .int .i64 0, .string ⟨#[]⟩, .bool false], .int .i64 1]) ∧ Below W.heap.size W w' := by
  have HF := hid (fun w => nfind_nil k w)
  go_enter Try.func27, Try.ntmps27
  go_wp2_with fail
  refine (HF.out _).mono ?_
  rintro e w1 ⟨rfl, rfl⟩
  have hb0 : Below W.heap.size W (W.alloc (.cells #[.int .i64 0, .int .i64 0, .string ⟨#[]⟩, .bool false] 60)) := (Below.refl W.heap.size W).alloc (Nat.le_refl _) _
  obtain ⟨⟨q0, q1, q2, q3⟩, _⟩ := four_cells (heap_alloc_new W (.cells #[.int .i64 0, .int .i64 0, .string ⟨#[]⟩, .bool false] 60))
  go_wp2
  exact bodyPost_ret (v := .tuple #[.agg #[.int .i64 0, .int .i64 0, .string ⟨#[]⟩, .bool false], .int .i64 1]) (by simp [results, Try.results27, go_sem, q0, q1, q2, q3]) rfl ⟨rfl, hb0⟩

set_option maxRecDepth 20000 in
set_option maxHeartbeats 2000000 in
theorem nclone_any (B b : Nat) (m : Int) (l : List Tg) (W : World) (h : NetAt B b m l W) (hB : B ≤ W.heap.size) (hl : l.length ≤ 100000) : Calls Try.prog 34 #[.pointer (some ⟨b, 0, none⟩)] W fun e w' => ∃ b', W.heap.size ≤ b' ∧ e = .returned (.pointer (some ⟨b', 0, none⟩)) ∧ Below W.heap.size W w' ∧ NetAt B b' m l w' := by
  have HL := hid (fun u (hu : Below W.heap.size W u) => nlist_any B b m l u (h.below hu) hl)
  obtain ⟨h0, A, c, h1, h2⟩ := h
  have H1 := hid h1
  clear h0 h1 h2
  have HB0 := hid hB
  go_enter Try.func34, Try.ntmps34
  have hS : ∀ U, Below W.heap.size W U → (U.cell? ⟨b, 0, none⟩ = some (.int .i64 m)) ∧ Below W.heap.size W U := fun U hU => ⟨(two_cells (keep0 H1.out hU)).1, hU⟩
  go_upto_region 3 with (fail)
  have hu0 : Below W.heap.size W W.drew := below_drew (Below.refl _ _)
  refine wp_region_held_drew (S := fun U => (U.cell? ⟨b, 0, none⟩ = some (.int .i64 m)) ∧ Below W.heap.size W U) (by kernel_rfl) (hS _ hu0) (fun hHeld => ?_)
  generalize W.drew = u0 at *
  refine wpAnyH_take (i := 0) (v := ?_) rfl (by kernel_rfl) (by kernel_rfl) (by kernel_rfl) (fun _ _ _ h => h) (Or.inl ⟨by rfl, ?_⟩) (by assumption) ?_
  rotate_left
  focus
    intro U hU
    try dsimp only at hU
    go_simp
    try (with_reducible rfl)
  simp only [List.getElem_toArray, List.getElem_cons_succ, List.getElem_cons_zero, Act.put, List.setIfInBounds_toArray, List.set_cons_zero, List.set_cons_succ]
  refine wpAnyH_take (i := 1) (v := ?_) rfl (by kernel_rfl) (by kernel_rfl) (by kernel_rfl) (fun _ _ _ h => h) (Or.inl ⟨by rfl, ?_⟩) (by assumption) ?_
  rotate_left
  focus
    intro U hU
    try dsimp only at hU
    go_simp
    try (with_reducible rfl)
  simp only [List.getElem_toArray, List.getElem_cons_succ, List.getElem_cons_zero, Act.put, List.setIfInBounds_toArray, List.set_cons_zero, List.set_cons_succ]
  refine wpAnyH_take (i := 2) (v := ?_) rfl (by kernel_rfl) (by kernel_rfl) (by kernel_rfl) (fun _ _ _ h => h) (Or.inl ⟨by rfl, ?_⟩) (by assumption) ?_
  rotate_left
  focus
    intro U hU
    try dsimp only at hU
    go_simp
    try (with_reducible rfl)
  simp only [List.getElem_toArray, List.getElem_cons_succ, List.getElem_cons_zero, Act.put, List.setIfInBounds_toArray, List.set_cons_zero, List.set_cons_succ]
  refine wpAnyH_take (i := 3) (v := ?_) rfl (by kernel_rfl) (by kernel_rfl) (by kernel_rfl) (fun _ _ _ h => h) (Or.inl ⟨by rfl, ?_⟩) (by assumption) ?_
  rotate_left
  focus
    intro U hU
    try dsimp only at hU
    go_simp
    try (with_reducible rfl)
  simp only [List.getElem_toArray, List.getElem_cons_succ, List.getElem_cons_zero, Act.put, List.setIfInBounds_toArray, List.set_cons_zero, List.set_cons_succ]
  refine wpAnyH_take (i := 4) (v := ?_) rfl (by kernel_rfl) (by kernel_rfl) (by kernel_rfl) (fun _ _ _ h => h) (Or.inl ⟨by rfl, ?_⟩) (by assumption) ?_
  rotate_left
  focus
    intro U hU
    try dsimp only at hU
    go_simp
    try (with_reducible rfl)
  simp only [List.getElem_toArray, List.getElem_cons_succ, List.getElem_cons_zero, Act.put, List.setIfInBounds_toArray, List.set_cons_zero, List.set_cons_succ]
  refine wpAnyH_ready (rs := [5]) (by kernel_rfl) (by simp) ?_
  refine AllReadyH.cons rfl (fun K hK => ?_) AllReadyH.nil
  simp only [List.getElem_toArray, List.getElem_cons_succ, List.getElem_cons_zero]
  go_simp
  refine (HL.out _ hu0).mono ?_
  rintro q u1 ⟨A5, c5, rfl, hb1, ho⟩
  have hu1 : Below W.heap.size W u1 := hu0.trans (hb1.mono hu0.size)
  have HO := hid (own_mono ho (show B ≤ u0.heap.size from Nat.le_trans HB0.out hu0.size))
  clear hb1 ho
  go_wp2_with fail
  refine hK.out _ _ ?_ (fun hHeld2 => ?_)
  focus
    exact hS _ (by first | with_reducible assumption | exact bel_alloc hu1 _)
  clear hHeld
  have hHeld := hHeld2
  clear hHeld2 hK K
  try simp only [List.getElem_toArray, List.getElem_cons_succ, List.getElem_cons_zero, Act.put, List.setIfInBounds_toArray, List.set_cons_zero, List.set_cons_succ]
  refine wpAnyH_take (i := 6) (v := ?_) rfl (by kernel_rfl) (by kernel_rfl) (by kernel_rfl) (fun _ _ _ h => h) (Or.inl ⟨by rfl, ?_⟩) (by assumption) ?_
  rotate_left
  focus
    intro U hU
    try dsimp only at hU
    go_simp
    try (with_reducible rfl)
  simp only [List.getElem_toArray, List.getElem_cons_succ, List.getElem_cons_zero, Act.put, List.setIfInBounds_toArray, List.set_cons_zero, List.set_cons_succ]
  refine wpAnyH_ready (rs := [7]) (by kernel_rfl) (by simp) ?_
  refine AllReadyH.cons rfl (fun K hK => ?_) AllReadyH.nil
  simp only [List.getElem_toArray, List.getElem_cons_succ, List.getElem_cons_zero]
  go_simp
  refine hK.out _ _ ?_ (fun hHeld2 => ?_)
  focus
    exact hS _ (by first | with_reducible assumption | exact bel_alloc hu1 _)
  clear hHeld
  have hHeld := hHeld2
  clear hHeld2 hK K
  try simp only [List.getElem_toArray, List.getElem_cons_succ, List.getElem_cons_zero, Act.put, List.setIfInBounds_toArray, List.set_cons_zero, List.set_cons_succ]
  refine wpAnyH_take (i := 8) (v := ?_) rfl (by kernel_rfl) (by kernel_rfl) (by kernel_rfl) (fun _ _ _ h => h) (Or.inl ⟨by rfl, ?_⟩) (by assumption) ?_
  rotate_left
  focus
    intro U hU
    try dsimp only at hU
    go_simp
    try (with_reducible rfl)
  simp only [List.getElem_toArray, List.getElem_cons_succ, List.getElem_cons_zero, Act.put, List.setIfInBounds_toArray, List.set_cons_zero, List.set_cons_succ]
  refine wpAnyH_done (by kernel_rfl) ?_ _
  clear hHeld hS
  have hal : Below u1.heap.size u1 (u1.alloc (.cells #[.int .i64 m, .slice A5 l.length c5] 133)) := bel_alloc (Below.refl _ _) _
  have HR := hid (And.intro (heap_alloc_new u1 (.cells #[.int .i64 m, .slice A5 l.length c5] 133)) (And.intro (own_keep HO.out hal) (hu1.trans (hal.mono hu1.size))))
  have HSZ := hid (And.intro hu1.size (Nat.le_trans HB0.out hu1.size))
  clear hal hu0 hu1 HO HL H1
  go_wp2
  go_ret
  exact ⟨_, HSZ.out.1, rfl, HR.out.2.2, HSZ.out.2, _, _, HR.out.1, HR.out.2.1⟩
end Go.Proofs.Ytdphdodjidbngaa
