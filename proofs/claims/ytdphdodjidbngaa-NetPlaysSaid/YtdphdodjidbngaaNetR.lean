/- NetPlays: the law. -/
import Derived.Test.YtdphdodjidbngaaNetU
namespace Go.Proofs.Ytdphdodjidbngaa
open Go.RowKit
set_option linter.unusedVariables false
set_option linter.unusedSimpArgs false

set_option maxRecDepth 20000 in
set_option maxHeartbeats 8000000 in
theorem netPlays_law (m : Int) (L : Option Addr) (lc : Nat) (acts : List Ac) (W : World) (hL : Sl W 5 L acts.length lc (gcells acl acts)) (hA : ∀ x ∈ acts, AcOk W x) :
    Calls Try.prog 6 #[.int .i64 m, .slice L acts.length lc] W fun e w' => e = .returned (.bool true) ∧ Below W.heap.size W w' := by
  have HEL := hid (fun u (hu : Below W.heap.size W u) k (hk : k < acts.length) => Sl.gat (f := acl) (n := 5) acl_len (hL.below hu) k hk (by omega))
  have HAO := hid (fun u (hu : Below W.heap.size W u) k (hk : k < acts.length) => show AcOk u acts[k] from ⟨(hA _ (List.getElem_mem hk)).1.below hu, (hA _ (List.getElem_mem hk)).2⟩)
  have hal : acts.length ≤ maxLen := Nat.le_trans hL.2.1 hL.2.2.1
  unfold maxLen at hal
  clear hL hA
  go_enter Try.func6, Try.ntmps6
  by_cases hm : 1 ≤ m ∧ m ≤ 1024
  · obtain ⟨hm1, hm2⟩ := hm
    have hm3 : m ≥ 1 := hm1
    have HNW := hid (nnew_in m hm1 hm2 W)
    go_wp2_with fail
    refine HNW.out.mono ?_
    rintro e w1 ⟨rfl, hn, hb⟩
    have HN1 := hid hn
    have HB1 := hid hb
    clear hn hb HNW
    go_upto_region 3 with (fail)
    have hal1 := bel_alloc (Below.refl _ w1) (.cells #[.slice none 0 0, .int .i64 m] 53)
    refine at_world (fun u => NetAt W.heap.size W.heap.size m [] u ∧ RnAt W.heap.size w1.heap.size m [] u ∧ Below W.heap.size W u) ⟨HN1.out.below hal1, ⟨HB1.out.size, none, 0, heap_alloc_new _ _, World.ownsRow_nil _ _ _ _⟩, HB1.out.trans (hal1.mono HB1.out.size)⟩ ?_
    clear hal1
    rintro w2 ⟨hn, hr, hb⟩
    have HN2 := hid hn
    have HR2 := hid hr
    have HB2 := hid hb
    have HWC := hid HB1.out.size
    clear hn hr hb HN1 HB1
    generalize w1.heap.size = c at *
    go_wp2
    go_loopw [5, 8, 9, 10, 11, 12, 13, 14, 15, 16] (fun p i _ _ _ _ _ _ _ _ wr => ∃ (n b : Nat) (l : List Tg), n ≤ acts.length ∧ n ≤ 60 ∧ i = .int .i64 (n : Int) ∧ p = .pointer (some ⟨b, 0, none⟩) ∧ Hid (NetAt W.heap.size b m l wr ∧ RnAt W.heap.size c m l wr ∧ OkN m l) ∧ Hid (Below W.heap.size W wr)) (fun _ i _ _ _ _ _ _ _ _ _ => 60 - (intOf i).toNat)
    case atStart => exact ⟨0, _, [], by omega, by omega, rfl, rfl, hid ⟨HN2.out, HR2.out, OkN.nil (by omega)⟩, HB2⟩
    case round =>
      obtain ⟨n, b, l, hn9, hn60, rfl, rfl, HI, HB⟩ := hrel
      by_cases hlt : n < acts.length
      · have hlt2 : (n : Int) < (acts.length : Int) := by omega
        by_cases h60 : n < 60
        · have h62 : (n : Int) < 60 := by omega
          have HLN := hid (fun u (hu : Below W.heap.size W u) => HEL.out u hu n hlt)
          have HAK := hid (fun u (hu : Below W.heap.size W u) => HAO.out u hu n hlt)
          obtain ⟨bL, oL, hLA, hc⟩ := HLN.out wr HB.out
          subst hLA
          obtain ⟨ac, hac⟩ : ∃ ac, acts[n] = ac := ⟨_, rfl⟩
          rw [hac] at hc HAK
          clear hac HLN
          obtain ⟨d, k, at', bits, A, cA, ss⟩ := ac
          have q0 := hc 0 _ rfl
          have q1 := hc 1 _ rfl
          have q2 := hc 2 _ rfl
          have q3 := hc 3 _ rfl
          have q4 := hc 4 _ rfl
          simp only [Nat.add_zero] at q0
          simp only at q0 q1 q2 q3 q4
          clear hc
          go_upto_region 10 with (fail)
          refine at_world (fun u => u.heap[wr.heap.size]? = some (.cells #[.int .i64 d, .int .i64 k, .int .i64 at', .int .u32 (bits : Int), .slice A ss.length cA] 56 (0, 0)) ∧ Below wr.heap.size wr u) ⟨heap_alloc_new _ _, bel_alloc (Below.refl _ _) _⟩ ?_
          clear q0 q1 q2 q3 q4
          rintro w1 ⟨hx, hb⟩
          have HX := hid hx
          have HB1 := hid (HB.out.trans (hb.mono HB.out.size))
          have HI1 := hid (show NetAt W.heap.size b m l w1 ∧ RnAt W.heap.size c m l w1 ∧ OkN m l from ⟨HI.out.1.below hb, HI.out.2.1.below hb, HI.out.2.2⟩)
          have HXb : Hid (wr.heap.size ≠ b) := hid (Nat.ne_of_gt HI.out.1.lt)
          have HXc : Hid (wr.heap.size ≠ c) := hid (Nat.ne_of_gt HI.out.2.1.lt)
          clear hx hb HB
          generalize wr.heap.size = X at *
          have hbt : bits < 4294967296 := (HAK.out w1 HB1.out).2.1
          have hat : at' ≤ 9223372036854775807 := (HAK.out w1 HB1.out).2.2
          have HAT := hid hat
          clear hat
          have HLO := hid (long_any A ss.length cA ss 20 100 w1 ((HAK.out w1 HB1.out).1.1) ((HAK.out w1 HB1.out).1.2))
          have HLB := hid (fun h => longB_no (l := ss) (most := 20) (each := 100) h)
          obtain ⟨lb, hlb⟩ : ∃ lb, longB ss 20 100 = lb := ⟨_, rfl⟩
          rw [hlb] at HLO HLB
          clear hlb
          obtain ⟨x0, x1, x2, x3, x4⟩ := five_cells HX.out
          go_wp2_with fail
          refine HLO.out.mono ?_
          rintro e w9 ⟨rfl, rfl⟩
          clear HLO
          cases lb with
          | true =>
            clear HLB
            go_wp2
            go_roundw
            case rel => exact ⟨n + 1, b, l, by omega, by omega, by go_num, rfl, HI1, HB1⟩
            case measure => simp [intOf]; omega
          | false =>
            have hlb := HLB.out rfl
            have hss : ∀ s ∈ ss, s.length ≤ 100 := fun s hs => by have := hlb.1 s hs; omega
            have hsl : ss.length ≤ 20 := by have := hlb.2; omega
            have HSS := hid HI1.out.2.2.2
            have hlm : l.length ≤ 1024 := by have := HI1.out.2.2.1; omega
            clear hlb HLB
            by_cases hd0 : d = 0
            · skip
              as_aux_lemma =>
              obtain rfl : d = 0 := hd0
              obtain ⟨l9, hl9⟩ : ∃ l9, sendL m 1 2 l ss = l9 := ⟨_, rfl⟩
              have HOK9 : Hid (OkN m l9) := hid (by rw [← hl9]; exact OkN.send ss HI1.out.2.2 hss)
              have HLQ := hid hl9
              clear hl9
              go_upto_region 13 with (fail)
              clear x0 x1 x2 x3 x4
              have hu0 : Below w1.heap.size w1 w1.drew := below_drew (Below.refl _ _)
              have hS : ∀ U : World, U.heap[X]? = some (.cells #[.int .i64 0, .int .i64 k, .int .i64 at', .int .u32 (bits : Int), .slice A ss.length cA] 56 (0, 0)) → (U.cell? ⟨X, 0, none⟩ = some (.int .i64 0) ∧ U.cell? ⟨X, 1, none⟩ = some (.int .i64 k) ∧ U.cell? ⟨X, 2, none⟩ = some (.int .i64 at') ∧ U.cell? ⟨X, 3, none⟩ = some (.int .u32 (bits : Int)) ∧ U.cell? ⟨X, 4, none⟩ = some (.slice A ss.length cA)) := fun U hU => five_cells hU
              have hx0 := keep0 HX.out hu0
              have HN0 := hid (HI1.out.1.below hu0)
              have HR0 := hid (HI1.out.2.1.below hu0)
              have HB0 := hid (HB1.out.trans (hu0.mono HB1.out.size))
              refine wp_region_held_drew (S := fun U => (U.cell? ⟨X, 0, none⟩ = some (.int .i64 0) ∧ U.cell? ⟨X, 1, none⟩ = some (.int .i64 k) ∧ U.cell? ⟨X, 2, none⟩ = some (.int .i64 at') ∧ U.cell? ⟨X, 3, none⟩ = some (.int .u32 (bits : Int)) ∧ U.cell? ⟨X, 4, none⟩ = some (.slice A ss.length cA))) (by kernel_rfl) (hS _ hx0) (fun hHeld => ?_)
              generalize w1.drew = u0 at *
              refine wpAnyH_take (i := 0) (v := ?_) rfl (by kernel_rfl) (by kernel_rfl) (by kernel_rfl) (fun _ _ _ h => h) (Or.inl ⟨by rfl, ?_⟩) (by assumption) ?_
              rotate_left
              focus
                intro U hU
                try dsimp only at hU
                go_simp
                try (with_reducible rfl)
              simp only [List.getElem_toArray, List.getElem_cons_succ, List.getElem_cons_zero, Act.put, List.setIfInBounds_toArray, List.set_cons_zero, List.set_cons_succ]
              refine wpAnyH_take (i := 1) (v := ?_) rfl (by kernel_rfl) (by kernel_rfl) (by kernel_rfl) (fun _ _ _ h => h) (Or.inl ⟨by rfl, ?_⟩) (by assumption) ?_
              rotate_left
              focus
                intro U hU
                try dsimp only at hU
                go_simp
                try (with_reducible rfl)
              simp only [List.getElem_toArray, List.getElem_cons_succ, List.getElem_cons_zero, Act.put, List.setIfInBounds_toArray, List.set_cons_zero, List.set_cons_succ]
              refine wpAnyH_take (i := 2) (v := ?_) rfl (by kernel_rfl) (by kernel_rfl) (by kernel_rfl) (fun _ _ _ h => h) (Or.inl ⟨by rfl, ?_⟩) (by assumption) ?_
              rotate_left
              focus
                intro U hU
                try dsimp only at hU
                go_simp
                try (with_reducible rfl)
              simp only [List.getElem_toArray, List.getElem_cons_succ, List.getElem_cons_zero, Act.put, List.setIfInBounds_toArray, List.set_cons_zero, List.set_cons_succ]
              refine wpAnyH_take (i := 4) (v := ?_) rfl (by kernel_rfl) (by kernel_rfl) (by kernel_rfl) (fun _ _ _ h => h) (Or.inl ⟨by rfl, ?_⟩) (by assumption) ?_
              rotate_left
              focus
                intro U hU
                try dsimp only at hU
                go_simp
                try (with_reducible rfl)
              simp only [List.getElem_toArray, List.getElem_cons_succ, List.getElem_cons_zero, Act.put, List.setIfInBounds_toArray, List.set_cons_zero, List.set_cons_succ]
              refine wpAnyH_take (i := 5) (v := ?_) rfl (by kernel_rfl) (by kernel_rfl) (by kernel_rfl) (fun _ _ _ h => h) (Or.inl ⟨by rfl, ?_⟩) (by assumption) ?_
              rotate_left
              focus
                intro U hU
                try dsimp only at hU
                go_simp
                try (with_reducible rfl)
              simp only [List.getElem_toArray, List.getElem_cons_succ, List.getElem_cons_zero, Act.put, List.setIfInBounds_toArray, List.set_cons_zero, List.set_cons_succ]
              refine wpAnyH_take (i := 6) (v := ?_) rfl (by kernel_rfl) (by kernel_rfl) (by kernel_rfl) (fun _ _ _ h => h) (Or.inl ⟨by rfl, ?_⟩) (by assumption) ?_
              rotate_left
              focus
                intro U hU
                try dsimp only at hU
                go_simp
                try (with_reducible rfl)
              simp only [List.getElem_toArray, List.getElem_cons_succ, List.getElem_cons_zero, Act.put, List.setIfInBounds_toArray, List.set_cons_zero, List.set_cons_succ]
              refine wpAnyH_ready (rs := [3]) (by kernel_rfl) (by simp) ?_
              refine AllReadyH.cons rfl (fun K hK => ?_) AllReadyH.nil
              simp only [List.getElem_toArray, List.getElem_cons_succ, List.getElem_cons_zero]
              go_simp
              refine (nsend_any W.heap.size b m 1 2 l A cA ss u0 HN0.out ((HAK.out u0 HB0.out).1.1) (fun w hb _ => (HAK.out w (HB0.out.trans hb)).1.1) HB0.out.size (by omega) (by omega)).mono ?_
              rw [HLQ.out]
              rintro q u1 ⟨rfl, hn1, hb1, ho1⟩
              have hx1 := ho1 X _ _ _ HXb.out (by decide) hx0
              have HR1 := hid (HR0.out.othr HN0.out ho1)
              have HN1 := hid hn1
              have HBa := hid (HB0.out.trans hb1)
              clear hn1 hb1 ho1
              go_wp2_with fail
              refine hK.out _ _ ?_ (fun hHeld2 => ?_)
              focus
                exact hS _ (by with_reducible assumption)
              clear hHeld
              have hHeld := hHeld2
              clear hHeld2 hK K
              try simp only [List.getElem_toArray, List.getElem_cons_succ, List.getElem_cons_zero, Act.put, List.setIfInBounds_toArray, List.set_cons_zero, List.set_cons_succ]
              refine wpAnyH_ready (rs := [7]) (by kernel_rfl) (by simp) ?_
              refine AllReadyH.cons rfl (fun K hK => ?_) AllReadyH.nil
              simp only [List.getElem_toArray, List.getElem_cons_succ, List.getElem_cons_zero]
              go_simp
              refine (rsend_any W.heap.size c m 1 2 l A cA ss u1 HR1.out (fun w ht => (HAK.out w (HBa.out.trans (ht.below W.heap.size (fun g hg _ => by rw [hg]; exact HWC.out) HBa.out.size))).1.1) HBa.out.size (by omega) (by omega)).mono ?_
              rw [HLQ.out]
              rintro q u9 ⟨rfl, hr2, ht2⟩
              have hx2 := ht2.block hx1 HXc.out
              have HN9 := hid (HN1.out.tch HR1.out ht2)
              have HR9 := hid hr2
              have HBU9 := hid (HBa.out.trans (ht2.below W.heap.size (fun g hg _ => by rw [hg]; exact HWC.out) HBa.out.size))
              clear hr2 ht2
              go_wp2_with fail
              refine hK.out _ _ ?_ (fun hHeld2 => ?_)
              focus
                exact hS _ (by with_reducible assumption)
              clear hHeld
              have hHeld := hHeld2
              clear hHeld2 hK K
              try simp only [List.getElem_toArray, List.getElem_cons_succ, List.getElem_cons_zero, Act.put, List.setIfInBounds_toArray, List.set_cons_zero, List.set_cons_succ]
              refine wpAnyH_take (i := 8) (v := ?_) rfl (by kernel_rfl) (by kernel_rfl) (by kernel_rfl) (fun _ _ _ h => h) (Or.inl ⟨by rfl, ?_⟩) (by assumption) ?_
              rotate_left
              focus
                intro U hU
                try dsimp only at hU
                go_simp
                try (with_reducible rfl)
              simp only [List.getElem_toArray, List.getElem_cons_succ, List.getElem_cons_zero, Act.put, List.setIfInBounds_toArray, List.set_cons_zero, List.set_cons_succ]
              refine wpAnyH_take (i := 9) (v := ?_) rfl (by kernel_rfl) (by kernel_rfl) (by kernel_rfl) (fun _ _ _ h => h) (Or.inl ⟨by rfl, ?_⟩) (by assumption) ?_
              rotate_left
              focus
                intro U hU
                try dsimp only at hU
                go_simp
                try (with_reducible rfl)
              simp only [List.getElem_toArray, List.getElem_cons_succ, List.getElem_cons_zero, Act.put, List.setIfInBounds_toArray, List.set_cons_zero, List.set_cons_succ]
              refine wpAnyH_done (by kernel_rfl) ?_ _
              clear hHeld hS hx0 hx1 hx2 hu0 HN0 HR0 HB0 HN1 HR1 HBa HX HI1 HI HAK
              clear HLQ
              have b9e : ∃ b9, b9 = b := ⟨_, rfl⟩
              obtain ⟨b9, rfl⟩ := b9e
              have hll : l9.length ≤ 100000 := by have := HOK9.out.1; omega
              obtain ⟨hBc9, A9, cap9, hc9, ho9⟩ := HR9.out
              have HC9 := hid hc9
              have HSL9 := hid (fun U (hU : Below u9.heap.size u9 U) => (sl_own ho9).below hU)
              have HLI9 := hid (fun U (hU : Below u9.heap.size u9 U) => nlist_any W.heap.size b9 m l9 U (HN9.out.below hU) hll)
              have HLE9 := hid (fun U (hU : Below u9.heap.size u9 U) => nlen_any W.heap.size b9 m l9 U (HN9.out.below hU))
              have hS9 : ∀ U, Below u9.heap.size u9 U → (U.cell? ⟨c, 0, none⟩ = some (.slice A9 l9.length cap9) ∧ Below u9.heap.size u9 U) := fun U hU => ⟨(two_cells (keep0 HC9.out hU)).1, hU⟩
              clear hBc9 hc9 ho9
              go_upto_region 28 with (fail)
              have hu0 : Below u9.heap.size u9 u9.drew := below_drew (Below.refl _ _)
              refine wp_region_held_drew (S := fun U => U.cell? ⟨c, 0, none⟩ = some (.slice A9 l9.length cap9) ∧ Below u9.heap.size u9 U) (by kernel_rfl) (hS9 _ hu0) (fun hHeld => ?_)
              generalize u9.drew = u0 at *
              refine wpAnyH_take (i := 0) (v := ?_) rfl (by kernel_rfl) (by kernel_rfl) (by kernel_rfl) (fun _ _ _ h => h) (Or.inl ⟨by rfl, ?_⟩) (by assumption) ?_
              rotate_left
              focus
                intro U hU
                try dsimp only at hU
                go_simp
                try (with_reducible rfl)
              simp only [List.getElem_toArray, List.getElem_cons_succ, List.getElem_cons_zero, Act.put, List.setIfInBounds_toArray, List.set_cons_zero, List.set_cons_succ]
              refine wpAnyH_take (i := 1) (v := ?_) rfl (by kernel_rfl) (by kernel_rfl) (by kernel_rfl) (fun _ _ _ h => h) (Or.inl ⟨by rfl, ?_⟩) (by assumption) ?_
              rotate_left
              focus
                intro U hU
                try dsimp only at hU
                go_simp
                try (with_reducible rfl)
              simp only [List.getElem_toArray, List.getElem_cons_succ, List.getElem_cons_zero, Act.put, List.setIfInBounds_toArray, List.set_cons_zero, List.set_cons_succ]
              refine wpAnyH_take (i := 2) (v := ?_) rfl (by kernel_rfl) (by kernel_rfl) (by kernel_rfl) (fun _ _ _ h => h) (Or.inl ⟨by rfl, ?_⟩) (by assumption) ?_
              rotate_left
              focus
                intro U hU
                try dsimp only at hU
                go_simp
                try (with_reducible rfl)
              simp only [List.getElem_toArray, List.getElem_cons_succ, List.getElem_cons_zero, Act.put, List.setIfInBounds_toArray, List.set_cons_zero, List.set_cons_succ]
              refine wpAnyH_take (i := 3) (v := ?_) rfl (by kernel_rfl) (by kernel_rfl) (by kernel_rfl) (fun _ _ _ h => h) (Or.inl ⟨by rfl, ?_⟩) (by assumption) ?_
              rotate_left
              focus
                intro U hU
                try dsimp only at hU
                go_simp
                try (with_reducible rfl)
              simp only [List.getElem_toArray, List.getElem_cons_succ, List.getElem_cons_zero, Act.put, List.setIfInBounds_toArray, List.set_cons_zero, List.set_cons_succ]
              refine wpAnyH_take (i := 4) (v := ?_) rfl (by kernel_rfl) (by kernel_rfl) (by kernel_rfl) (fun _ _ _ h => h) (Or.inl ⟨by rfl, ?_⟩) (by assumption) ?_
              rotate_left
              focus
                intro U hU
                try dsimp only at hU
                go_simp
                try (with_reducible rfl)
              simp only [List.getElem_toArray, List.getElem_cons_succ, List.getElem_cons_zero, Act.put, List.setIfInBounds_toArray, List.set_cons_zero, List.set_cons_succ]
              refine wpAnyH_take (i := 6) (v := ?_) rfl (by kernel_rfl) (by kernel_rfl) (by kernel_rfl) (fun _ _ _ h => h) (Or.inl ⟨by rfl, ?_⟩) (by assumption) ?_
              rotate_left
              focus
                intro U hU
                try dsimp only at hU
                go_simp
                try (with_reducible rfl)
              simp only [List.getElem_toArray, List.getElem_cons_succ, List.getElem_cons_zero, Act.put, List.setIfInBounds_toArray, List.set_cons_zero, List.set_cons_succ]
              refine wpAnyH_take (i := 7) (v := ?_) rfl (by kernel_rfl) (by kernel_rfl) (by kernel_rfl) (fun _ _ _ h => h) (Or.inl ⟨by rfl, ?_⟩) (by assumption) ?_
              rotate_left
              focus
                intro U hU
                try dsimp only at hU
                go_simp
                try (with_reducible rfl)
              simp only [List.getElem_toArray, List.getElem_cons_succ, List.getElem_cons_zero, Act.put, List.setIfInBounds_toArray, List.set_cons_zero, List.set_cons_succ]
              refine wpAnyH_take (i := 8) (v := ?_) rfl (by kernel_rfl) (by kernel_rfl) (by kernel_rfl) (fun _ _ _ h => h) (Or.inl ⟨by rfl, ?_⟩) (by assumption) ?_
              rotate_left
              focus
                intro U hU
                try dsimp only at hU
                go_simp
                try (with_reducible rfl)
              simp only [List.getElem_toArray, List.getElem_cons_succ, List.getElem_cons_zero, Act.put, List.setIfInBounds_toArray, List.set_cons_zero, List.set_cons_succ]
              refine wpAnyH_take (i := 9) (v := ?_) rfl (by kernel_rfl) (by kernel_rfl) (by kernel_rfl) (fun _ _ _ h => h) (Or.inl ⟨by rfl, ?_⟩) (by assumption) ?_
              rotate_left
              focus
                intro U hU
                try dsimp only at hU
                go_simp
                try (with_reducible rfl)
              simp only [List.getElem_toArray, List.getElem_cons_succ, List.getElem_cons_zero, Act.put, List.setIfInBounds_toArray, List.set_cons_zero, List.set_cons_succ]
              refine wpAnyH_ready (rs := [5]) (by kernel_rfl) (by simp) ?_
              refine AllReadyH.cons rfl (fun K hK => ?_) AllReadyH.nil
              simp only [List.getElem_toArray, List.getElem_cons_succ, List.getElem_cons_zero]
              go_simp
              refine (HLI9.out _ hu0).mono ?_
              rintro q u1 ⟨A5, c5, rfl, hb1, ho1⟩
              have hu1 : Below u9.heap.size u9 u1 := hu0.trans (hb1.mono hu0.size)
              have HSA := hid (same_yes A5 A9 c5 cap9 l9 u1 (sl_own ho1) (HSL9.out u1 hu1))
              clear hb1 ho1
              go_wp2_with fail
              refine hK.out _ _ ?_ (fun hHeld2 => ?_)
              focus
                exact hS9 _ (by with_reducible assumption)
              clear hHeld
              have hHeld := hHeld2
              clear hHeld2 hK K
              try simp only [List.getElem_toArray, List.getElem_cons_succ, List.getElem_cons_zero, Act.put, List.setIfInBounds_toArray, List.set_cons_zero, List.set_cons_succ]
              refine wpAnyH_ready (rs := [10]) (by kernel_rfl) (by simp) ?_
              refine AllReadyH.cons rfl (fun K hK => ?_) AllReadyH.nil
              simp only [List.getElem_toArray, List.getElem_cons_succ, List.getElem_cons_zero]
              go_simp
              refine HSA.out.mono ?_
              rintro q u2 ⟨rfl, hb2⟩
              have hu2 : Below u9.heap.size u9 u2 := hu1.trans (hb2.mono hu1.size)
              clear hb2
              go_wp2_with fail
              refine hK.out _ _ ?_ (fun hHeld2 => ?_)
              focus
                exact hS9 _ (by with_reducible assumption)
              clear hHeld
              have hHeld := hHeld2
              clear hHeld2 hK K
              try simp only [List.getElem_toArray, List.getElem_cons_succ, List.getElem_cons_zero, Act.put, List.setIfInBounds_toArray, List.set_cons_zero, List.set_cons_succ]
              refine wpAnyH_take (i := 11) (v := ?_) rfl (by kernel_rfl) (by kernel_rfl) (by kernel_rfl) (fun _ _ _ h => h) (Or.inl ⟨by rfl, ?_⟩) (by assumption) ?_
              rotate_left
              focus
                intro U hU
                try dsimp only at hU
                go_simp
                try (with_reducible rfl)
              simp only [List.getElem_toArray, List.getElem_cons_succ, List.getElem_cons_zero, Act.put, List.setIfInBounds_toArray, List.set_cons_zero, List.set_cons_succ]
              refine wpAnyH_take (i := 12) (v := ?_) rfl (by kernel_rfl) (by kernel_rfl) (by kernel_rfl) (fun _ _ _ h => h) (Or.inl ⟨by rfl, ?_⟩) (by assumption) ?_
              rotate_left
              focus
                intro U hU
                try dsimp only at hU
                go_simp
                try (with_reducible rfl)
              simp only [List.getElem_toArray, List.getElem_cons_succ, List.getElem_cons_zero, Act.put, List.setIfInBounds_toArray, List.set_cons_zero, List.set_cons_succ]
              refine wpAnyH_take (i := 13) (v := ?_) rfl (by kernel_rfl) (by kernel_rfl) (by kernel_rfl) (fun _ _ _ h => h) (Or.inl ⟨by rfl, ?_⟩) (by assumption) ?_
              rotate_left
              focus
                intro U hU
                try dsimp only at hU
                go_simp
                try (with_reducible rfl)
              simp only [List.getElem_toArray, List.getElem_cons_succ, List.getElem_cons_zero, Act.put, List.setIfInBounds_toArray, List.set_cons_zero, List.set_cons_succ]
              refine wpAnyH_take (i := 14) (v := ?_) rfl (by kernel_rfl) (by kernel_rfl) (by kernel_rfl) (fun _ _ _ h => h) (Or.inl ⟨by rfl, ?_⟩) (by assumption) ?_
              rotate_left
              focus
                intro U hU
                try dsimp only at hU
                go_simp
                try (with_reducible rfl)
              simp only [List.getElem_toArray, List.getElem_cons_succ, List.getElem_cons_zero, Act.put, List.setIfInBounds_toArray, List.set_cons_zero, List.set_cons_succ]
              refine wpAnyH_take (i := 16) (v := ?_) rfl (by kernel_rfl) (by kernel_rfl) (by kernel_rfl) (fun _ _ _ h => h) (Or.inl ⟨by rfl, ?_⟩) (by assumption) ?_
              rotate_left
              focus
                intro U hU
                try dsimp only at hU
                go_simp
                try (with_reducible rfl)
              simp only [List.getElem_toArray, List.getElem_cons_succ, List.getElem_cons_zero, Act.put, List.setIfInBounds_toArray, List.set_cons_zero, List.set_cons_succ]
              refine wpAnyH_take (i := 17) (v := ?_) rfl (by kernel_rfl) (by kernel_rfl) (by kernel_rfl) (fun _ _ _ h => h) (Or.inl ⟨by rfl, ?_⟩) (by assumption) ?_
              rotate_left
              focus
                intro U hU
                try dsimp only at hU
                go_simp
                try (with_reducible rfl)
              simp only [List.getElem_toArray, List.getElem_cons_succ, List.getElem_cons_zero, Act.put, List.setIfInBounds_toArray, List.set_cons_zero, List.set_cons_succ]
              refine wpAnyH_take (i := 18) (v := ?_) rfl (by kernel_rfl) (by kernel_rfl) (by kernel_rfl) (fun _ _ _ h => h) (Or.inl ⟨by rfl, ?_⟩) (by assumption) ?_
              rotate_left
              focus
                intro U hU
                try dsimp only at hU
                go_simp
                try (with_reducible rfl)
              simp only [List.getElem_toArray, List.getElem_cons_succ, List.getElem_cons_zero, Act.put, List.setIfInBounds_toArray, List.set_cons_zero, List.set_cons_succ]
              refine wpAnyH_take (i := 19) (v := ?_) rfl (by kernel_rfl) (by kernel_rfl) (by kernel_rfl) (fun _ _ _ h => h) (Or.inl ⟨by rfl, ?_⟩) (by assumption) ?_
              rotate_left
              focus
                intro U hU
                try dsimp only at hU
                go_simp
                try (with_reducible rfl)
              simp only [List.getElem_toArray, List.getElem_cons_succ, List.getElem_cons_zero, Act.put, List.setIfInBounds_toArray, List.set_cons_zero, List.set_cons_succ]
              refine wpAnyH_take (i := 20) (v := ?_) rfl (by kernel_rfl) (by kernel_rfl) (by kernel_rfl) (fun _ _ _ h => h) (Or.inl ⟨by rfl, ?_⟩) (by assumption) ?_
              rotate_left
              focus
                intro U hU
                try dsimp only at hU
                go_simp
                try (with_reducible rfl)
              simp only [List.getElem_toArray, List.getElem_cons_succ, List.getElem_cons_zero, Act.put, List.setIfInBounds_toArray, List.set_cons_zero, List.set_cons_succ]
              refine wpAnyH_ready (rs := [15]) (by kernel_rfl) (by simp) ?_
              refine AllReadyH.cons rfl (fun K hK => ?_) AllReadyH.nil
              simp only [List.getElem_toArray, List.getElem_cons_succ, List.getElem_cons_zero]
              go_simp
              refine (HLE9.out _ hu2).mono ?_
              rintro q u3 ⟨rfl, rfl⟩
              go_wp2_with fail
              refine hK.out _ _ ?_ (fun hHeld2 => ?_)
              focus
                exact hS9 _ (by with_reducible assumption)
              clear hHeld
              have hHeld := hHeld2
              clear hHeld2 hK K
              try simp only [List.getElem_toArray, List.getElem_cons_succ, List.getElem_cons_zero, Act.put, List.setIfInBounds_toArray, List.set_cons_zero, List.set_cons_succ]
              refine wpAnyH_take (i := 21) (v := ?_) rfl (by kernel_rfl) (by kernel_rfl) (by kernel_rfl) (fun _ _ _ h => h) (Or.inl ⟨by rfl, ?_⟩) (by assumption) ?_
              rotate_left
              focus
                intro U hU
                try dsimp only at hU
                go_simp
                try (with_reducible rfl)
              simp only [List.getElem_toArray, List.getElem_cons_succ, List.getElem_cons_zero, Act.put, List.setIfInBounds_toArray, List.set_cons_zero, List.set_cons_succ]
              refine wpAnyH_take (i := 22) (v := ?_) rfl (by kernel_rfl) (by kernel_rfl) (by kernel_rfl) (fun _ _ _ h => h) (Or.inl ⟨by rfl, ?_⟩) (by assumption) ?_
              rotate_left
              focus
                intro U hU
                try dsimp only at hU
                go_simp
                try (with_reducible rfl)
              simp only [List.getElem_toArray, List.getElem_cons_succ, List.getElem_cons_zero, Act.put, List.setIfInBounds_toArray, List.set_cons_zero, List.set_cons_succ]
              refine wpAnyH_done (by kernel_rfl) ?_ _
              clear hHeld hS9
              have HU9 := hid hu2
              clear hu0 hu1 hu2 HSL9 HLI9 HLE9 HC9 HSA
              go_wp2
              go_roundw
              case rel => exact ⟨n + 1, b9, l9, by omega, by omega, by go_num, rfl, hid ⟨HN9.out.below HU9.out, HR9.out.below HU9.out, HOK9.out⟩, hid (HBU9.out.trans (HU9.out.mono HBU9.out.size))⟩
              case measure => simp [intOf]; omega
            · have hd00 : (d == 0) = false := by simpa using hd0
              by_cases hd1 : d = 1
              · skip
                as_aux_lemma =>
                obtain rfl : d = 1 := hd1
                obtain ⟨xx, r, l9, hl9⟩ : ∃ xx r l9, tkV l k = (xx, r, l9) := ⟨_, _, _, rfl⟩
                have HOK9 : Hid (OkN m l9) := hid (by have h9 := HI1.out.2.2.take k; rw [hl9] at h9; exact h9)
                have HT1 := hid (ntk_any W.heap.size b m l k w1 HI1.out.1 HB1.out.size (by omega))
                have HT2 := hid (fun u (hr : RnAt W.heap.size c m l u) (hB : W.heap.size ≤ u.heap.size) => rtk_any W.heap.size c m l k u hr hB (by omega))
                rw [hl9] at HT1 HT2
                simp only at HT1 HT2
                clear hl9
                obtain ⟨xf, xt, xs, xb⟩ := xx
                simp only [tc] at HT1 HT2
                go_wp2_with fail
                refine HT1.out.mono ?_
                rintro e u1 ⟨rfl, hn1, hb1, ho1⟩
                have HX1 := hid (ho1 X _ _ _ HXb.out (by decide) HX.out)
                have HR1 := hid (HI1.out.2.1.othr HI1.out.1 ho1)
                have HN1 := hid hn1
                have HBa := hid (HB1.out.trans hb1)
                clear hn1 hb1 ho1 HT1 HI1 HX x0 x1 x2 x3 x4
                go_upto_region 16 with (fail)
                refine at_world (fun u => u.heap[u1.heap.size]? = some (.cells #[.int .i64 xf, .int .i64 xt, .string (str xs), .bool xb] 60 (0, 0)) ∧ Below u1.heap.size u1 u) ⟨heap_alloc_new _ _, bel_alloc (Below.refl _ _) _⟩ ?_
                rintro u2 ⟨hy, hb⟩
                have HY2 := hid hy
                have HX2 := hid (keep0 HX1.out hb)
                have HR2 := hid (HR1.out.below hb)
                have HN2 := hid (HN1.out.below hb)
                have HBb := hid (HBa.out.trans (hb.mono HBa.out.size))
                have HYc : Hid (u1.heap.size ≠ c) := hid (Nat.ne_of_gt HR1.out.lt)
                clear hy hb HX1 HR1 HN1 HBa
                generalize u1.heap.size = Y at *
                obtain ⟨x0, x1, x2, x3, x4⟩ := five_cells HX2.out
                go_wp2_with fail
                refine (HT2.out u2 HR2.out HBb.out.size).mono ?_
                rintro e u3 ⟨rfl, hr3, ht3⟩
                have HY3 := hid (ht3.block HY2.out HYc.out)
                have HN3 := hid (HN2.out.tch HR2.out ht3)
                have HR3 := hid hr3
                have HBc := hid (HBb.out.trans (ht3.below W.heap.size (fun g hg _ => by rw [hg]; exact HWC.out) HBb.out.size))
                clear hr3 ht3 HT2 HX2 HY2 HN2 HR2 HBb x0 x1 x2 x3 x4
                go_upto_region 17 with (fail)
                refine at_world (fun u => u.heap[u3.heap.size]? = some (.cells #[.int .i64 xf, .int .i64 xt, .string (str xs), .bool xb] 64 (0, 0)) ∧ Below u3.heap.size u3 u) ⟨heap_alloc_new _ _, bel_alloc (Below.refl _ _) _⟩ ?_
                rintro u4 ⟨hz, hb⟩
                have HZ4 := hid hz
                have HY4 := hid (keep0 HY3.out hb)
                have HN4 := hid (HN3.out.below hb)
                have HR4 := hid (HR3.out.below hb)
                have HBd := hid (HBc.out.trans (hb.mono HBc.out.size))
                clear hz hb HY3 HN3 HR3 HBc
                generalize u3.heap.size = Z at *
                obtain ⟨⟨y0, y1, y2, y3⟩, yf⟩ := four_cells HY4.out
                obtain ⟨⟨z0, z1, z2, z3⟩, zf⟩ := four_cells HZ4.out
                clear yf zf
                have hz0 : ∀ o : Obj, (u4.alloc o).cell? ⟨Z, 0, none⟩ = some (.int .i64 xf) := fun o => cellb (bel_alloc (Below.refl _ _) o) z0
                have hz1 : ∀ o : Obj, (u4.alloc o).cell? ⟨Z, 1, none⟩ = some (.int .i64 xt) := fun o => cellb (bel_alloc (Below.refl _ _) o) z1
                have hz2 : ∀ o : Obj, (u4.alloc o).cell? ⟨Z, 2, none⟩ = some (.string (str xs)) := fun o => cellb (bel_alloc (Below.refl _ _) o) z2
                have hz3 : ∀ o : Obj, (u4.alloc o).cell? ⟨Z, 3, none⟩ = some (.bool xb) := fun o => cellb (bel_alloc (Below.refl _ _) o) z3
                go_wp2_with fail
                refine (same_one ⟨xf, xt, xs, xb⟩ _ _ 1 1 _ (heap_first _ _ _) (heap_second _ _ _)).mono ?_
                rintro e u9 ⟨rfl, hb⟩
                have hb9 : Below u4.heap.size u4 u9 := (bel_alloc (bel_alloc (Below.refl _ _) _) _).trans (hb.mono (bel_alloc (bel_alloc (Below.refl u4.heap.size u4) _) _).size)
                have HN9 := hid (HN4.out.below hb9)
                have HR9 := hid (HR4.out.below hb9)
                have HBU9 := hid (HBd.out.trans (hb9.mono HBd.out.size))
                clear hb hb9 HN4 HR4 HBd HY4 HZ4 y0 y1 y2 y3 z0 z1 z2 z3 hz0 hz1 hz2 hz3 HI HAK
                have b9e : ∃ b9, b9 = b := ⟨_, rfl⟩
                obtain ⟨b9, rfl⟩ := b9e
                have hll : l9.length ≤ 100000 := by have := HOK9.out.1; omega
                obtain ⟨hBc9, A9, cap9, hc9, ho9⟩ := HR9.out
                have HC9 := hid hc9
                have HSL9 := hid (fun U (hU : Below u9.heap.size u9 U) => (sl_own ho9).below hU)
                have HLI9 := hid (fun U (hU : Below u9.heap.size u9 U) => nlist_any W.heap.size b9 m l9 U (HN9.out.below hU) hll)
                have HLE9 := hid (fun U (hU : Below u9.heap.size u9 U) => nlen_any W.heap.size b9 m l9 U (HN9.out.below hU))
                have hS9 : ∀ U, Below u9.heap.size u9 U → (U.cell? ⟨c, 0, none⟩ = some (.slice A9 l9.length cap9) ∧ Below u9.heap.size u9 U) := fun U hU => ⟨(two_cells (keep0 HC9.out hU)).1, hU⟩
                clear hBc9 hc9 ho9
                go_upto_region 28 with (fail)
                have hu0 : Below u9.heap.size u9 u9.drew := below_drew (Below.refl _ _)
                refine wp_region_held_drew (S := fun U => U.cell? ⟨c, 0, none⟩ = some (.slice A9 l9.length cap9) ∧ Below u9.heap.size u9 U) (by kernel_rfl) (hS9 _ hu0) (fun hHeld => ?_)
                generalize u9.drew = u0 at *
                refine wpAnyH_take (i := 0) (v := ?_) rfl (by kernel_rfl) (by kernel_rfl) (by kernel_rfl) (fun _ _ _ h => h) (Or.inl ⟨by rfl, ?_⟩) (by assumption) ?_
                rotate_left
                focus
                  intro U hU
                  try dsimp only at hU
                  go_simp
                  try (with_reducible rfl)
                simp only [List.getElem_toArray, List.getElem_cons_succ, List.getElem_cons_zero, Act.put, List.setIfInBounds_toArray, List.set_cons_zero, List.set_cons_succ]
                refine wpAnyH_take (i := 1) (v := ?_) rfl (by kernel_rfl) (by kernel_rfl) (by kernel_rfl) (fun _ _ _ h => h) (Or.inl ⟨by rfl, ?_⟩) (by assumption) ?_
                rotate_left
                focus
                  intro U hU
                  try dsimp only at hU
                  go_simp
                  try (with_reducible rfl)
                simp only [List.getElem_toArray, List.getElem_cons_succ, List.getElem_cons_zero, Act.put, List.setIfInBounds_toArray, List.set_cons_zero, List.set_cons_succ]
                refine wpAnyH_take (i := 2) (v := ?_) rfl (by kernel_rfl) (by kernel_rfl) (by kernel_rfl) (fun _ _ _ h => h) (Or.inl ⟨by rfl, ?_⟩) (by assumption) ?_
                rotate_left
                focus
                  intro U hU
                  try dsimp only at hU
                  go_simp
                  try (with_reducible rfl)
                simp only [List.getElem_toArray, List.getElem_cons_succ, List.getElem_cons_zero, Act.put, List.setIfInBounds_toArray, List.set_cons_zero, List.set_cons_succ]
                refine wpAnyH_take (i := 3) (v := ?_) rfl (by kernel_rfl) (by kernel_rfl) (by kernel_rfl) (fun _ _ _ h => h) (Or.inl ⟨by rfl, ?_⟩) (by assumption) ?_
                rotate_left
                focus
                  intro U hU
                  try dsimp only at hU
                  go_simp
                  try (with_reducible rfl)
                simp only [List.getElem_toArray, List.getElem_cons_succ, List.getElem_cons_zero, Act.put, List.setIfInBounds_toArray, List.set_cons_zero, List.set_cons_succ]
                refine wpAnyH_take (i := 4) (v := ?_) rfl (by kernel_rfl) (by kernel_rfl) (by kernel_rfl) (fun _ _ _ h => h) (Or.inl ⟨by rfl, ?_⟩) (by assumption) ?_
                rotate_left
                focus
                  intro U hU
                  try dsimp only at hU
                  go_simp
                  try (with_reducible rfl)
                simp only [List.getElem_toArray, List.getElem_cons_succ, List.getElem_cons_zero, Act.put, List.setIfInBounds_toArray, List.set_cons_zero, List.set_cons_succ]
                refine wpAnyH_take (i := 6) (v := ?_) rfl (by kernel_rfl) (by kernel_rfl) (by kernel_rfl) (fun _ _ _ h => h) (Or.inl ⟨by rfl, ?_⟩) (by assumption) ?_
                rotate_left
                focus
                  intro U hU
                  try dsimp only at hU
                  go_simp
                  try (with_reducible rfl)
                simp only [List.getElem_toArray, List.getElem_cons_succ, List.getElem_cons_zero, Act.put, List.setIfInBounds_toArray, List.set_cons_zero, List.set_cons_succ]
                refine wpAnyH_take (i := 7) (v := ?_) rfl (by kernel_rfl) (by kernel_rfl) (by kernel_rfl) (fun _ _ _ h => h) (Or.inl ⟨by rfl, ?_⟩) (by assumption) ?_
                rotate_left
                focus
                  intro U hU
                  try dsimp only at hU
                  go_simp
                  try (with_reducible rfl)
                simp only [List.getElem_toArray, List.getElem_cons_succ, List.getElem_cons_zero, Act.put, List.setIfInBounds_toArray, List.set_cons_zero, List.set_cons_succ]
                refine wpAnyH_take (i := 8) (v := ?_) rfl (by kernel_rfl) (by kernel_rfl) (by kernel_rfl) (fun _ _ _ h => h) (Or.inl ⟨by rfl, ?_⟩) (by assumption) ?_
                rotate_left
                focus
                  intro U hU
                  try dsimp only at hU
                  go_simp
                  try (with_reducible rfl)
                simp only [List.getElem_toArray, List.getElem_cons_succ, List.getElem_cons_zero, Act.put, List.setIfInBounds_toArray, List.set_cons_zero, List.set_cons_succ]
                refine wpAnyH_take (i := 9) (v := ?_) rfl (by kernel_rfl) (by kernel_rfl) (by kernel_rfl) (fun _ _ _ h => h) (Or.inl ⟨by rfl, ?_⟩) (by assumption) ?_
                rotate_left
                focus
                  intro U hU
                  try dsimp only at hU
                  go_simp
                  try (with_reducible rfl)
                simp only [List.getElem_toArray, List.getElem_cons_succ, List.getElem_cons_zero, Act.put, List.setIfInBounds_toArray, List.set_cons_zero, List.set_cons_succ]
                refine wpAnyH_ready (rs := [5]) (by kernel_rfl) (by simp) ?_
                refine AllReadyH.cons rfl (fun K hK => ?_) AllReadyH.nil
                simp only [List.getElem_toArray, List.getElem_cons_succ, List.getElem_cons_zero]
                go_simp
                refine (HLI9.out _ hu0).mono ?_
                rintro q u1 ⟨A5, c5, rfl, hb1, ho1⟩
                have hu1 : Below u9.heap.size u9 u1 := hu0.trans (hb1.mono hu0.size)
                have HSA := hid (same_yes A5 A9 c5 cap9 l9 u1 (sl_own ho1) (HSL9.out u1 hu1))
                clear hb1 ho1
                go_wp2_with fail
                refine hK.out _ _ ?_ (fun hHeld2 => ?_)
                focus
                  exact hS9 _ (by with_reducible assumption)
                clear hHeld
                have hHeld := hHeld2
                clear hHeld2 hK K
                try simp only [List.getElem_toArray, List.getElem_cons_succ, List.getElem_cons_zero, Act.put, List.setIfInBounds_toArray, List.set_cons_zero, List.set_cons_succ]
                refine wpAnyH_ready (rs := [10]) (by kernel_rfl) (by simp) ?_
                refine AllReadyH.cons rfl (fun K hK => ?_) AllReadyH.nil
                simp only [List.getElem_toArray, List.getElem_cons_succ, List.getElem_cons_zero]
                go_simp
                refine HSA.out.mono ?_
                rintro q u2 ⟨rfl, hb2⟩
                have hu2 : Below u9.heap.size u9 u2 := hu1.trans (hb2.mono hu1.size)
                clear hb2
                go_wp2_with fail
                refine hK.out _ _ ?_ (fun hHeld2 => ?_)
                focus
                  exact hS9 _ (by with_reducible assumption)
                clear hHeld
                have hHeld := hHeld2
                clear hHeld2 hK K
                try simp only [List.getElem_toArray, List.getElem_cons_succ, List.getElem_cons_zero, Act.put, List.setIfInBounds_toArray, List.set_cons_zero, List.set_cons_succ]
                refine wpAnyH_take (i := 11) (v := ?_) rfl (by kernel_rfl) (by kernel_rfl) (by kernel_rfl) (fun _ _ _ h => h) (Or.inl ⟨by rfl, ?_⟩) (by assumption) ?_
                rotate_left
                focus
                  intro U hU
                  try dsimp only at hU
                  go_simp
                  try (with_reducible rfl)
                simp only [List.getElem_toArray, List.getElem_cons_succ, List.getElem_cons_zero, Act.put, List.setIfInBounds_toArray, List.set_cons_zero, List.set_cons_succ]
                refine wpAnyH_take (i := 12) (v := ?_) rfl (by kernel_rfl) (by kernel_rfl) (by kernel_rfl) (fun _ _ _ h => h) (Or.inl ⟨by rfl, ?_⟩) (by assumption) ?_
                rotate_left
                focus
                  intro U hU
                  try dsimp only at hU
                  go_simp
                  try (with_reducible rfl)
                simp only [List.getElem_toArray, List.getElem_cons_succ, List.getElem_cons_zero, Act.put, List.setIfInBounds_toArray, List.set_cons_zero, List.set_cons_succ]
                refine wpAnyH_take (i := 13) (v := ?_) rfl (by kernel_rfl) (by kernel_rfl) (by kernel_rfl) (fun _ _ _ h => h) (Or.inl ⟨by rfl, ?_⟩) (by assumption) ?_
                rotate_left
                focus
                  intro U hU
                  try dsimp only at hU
                  go_simp
                  try (with_reducible rfl)
                simp only [List.getElem_toArray, List.getElem_cons_succ, List.getElem_cons_zero, Act.put, List.setIfInBounds_toArray, List.set_cons_zero, List.set_cons_succ]
                refine wpAnyH_take (i := 14) (v := ?_) rfl (by kernel_rfl) (by kernel_rfl) (by kernel_rfl) (fun _ _ _ h => h) (Or.inl ⟨by rfl, ?_⟩) (by assumption) ?_
                rotate_left
                focus
                  intro U hU
                  try dsimp only at hU
                  go_simp
                  try (with_reducible rfl)
                simp only [List.getElem_toArray, List.getElem_cons_succ, List.getElem_cons_zero, Act.put, List.setIfInBounds_toArray, List.set_cons_zero, List.set_cons_succ]
                refine wpAnyH_take (i := 16) (v := ?_) rfl (by kernel_rfl) (by kernel_rfl) (by kernel_rfl) (fun _ _ _ h => h) (Or.inl ⟨by rfl, ?_⟩) (by assumption) ?_
                rotate_left
                focus
                  intro U hU
                  try dsimp only at hU
                  go_simp
                  try (with_reducible rfl)
                simp only [List.getElem_toArray, List.getElem_cons_succ, List.getElem_cons_zero, Act.put, List.setIfInBounds_toArray, List.set_cons_zero, List.set_cons_succ]
                refine wpAnyH_take (i := 17) (v := ?_) rfl (by kernel_rfl) (by kernel_rfl) (by kernel_rfl) (fun _ _ _ h => h) (Or.inl ⟨by rfl, ?_⟩) (by assumption) ?_
                rotate_left
                focus
                  intro U hU
                  try dsimp only at hU
                  go_simp
                  try (with_reducible rfl)
                simp only [List.getElem_toArray, List.getElem_cons_succ, List.getElem_cons_zero, Act.put, List.setIfInBounds_toArray, List.set_cons_zero, List.set_cons_succ]
                refine wpAnyH_take (i := 18) (v := ?_) rfl (by kernel_rfl) (by kernel_rfl) (by kernel_rfl) (fun _ _ _ h => h) (Or.inl ⟨by rfl, ?_⟩) (by assumption) ?_
                rotate_left
                focus
                  intro U hU
                  try dsimp only at hU
                  go_simp
                  try (with_reducible rfl)
                simp only [List.getElem_toArray, List.getElem_cons_succ, List.getElem_cons_zero, Act.put, List.setIfInBounds_toArray, List.set_cons_zero, List.set_cons_succ]
                refine wpAnyH_take (i := 19) (v := ?_) rfl (by kernel_rfl) (by kernel_rfl) (by kernel_rfl) (fun _ _ _ h => h) (Or.inl ⟨by rfl, ?_⟩) (by assumption) ?_
                rotate_left
                focus
                  intro U hU
                  try dsimp only at hU
                  go_simp
                  try (with_reducible rfl)
                simp only [List.getElem_toArray, List.getElem_cons_succ, List.getElem_cons_zero, Act.put, List.setIfInBounds_toArray, List.set_cons_zero, List.set_cons_succ]
                refine wpAnyH_take (i := 20) (v := ?_) rfl (by kernel_rfl) (by kernel_rfl) (by kernel_rfl) (fun _ _ _ h => h) (Or.inl ⟨by rfl, ?_⟩) (by assumption) ?_
                rotate_left
                focus
                  intro U hU
                  try dsimp only at hU
                  go_simp
                  try (with_reducible rfl)
                simp only [List.getElem_toArray, List.getElem_cons_succ, List.getElem_cons_zero, Act.put, List.setIfInBounds_toArray, List.set_cons_zero, List.set_cons_succ]
                refine wpAnyH_ready (rs := [15]) (by kernel_rfl) (by simp) ?_
                refine AllReadyH.cons rfl (fun K hK => ?_) AllReadyH.nil
                simp only [List.getElem_toArray, List.getElem_cons_succ, List.getElem_cons_zero]
                go_simp
                refine (HLE9.out _ hu2).mono ?_
                rintro q u3 ⟨rfl, rfl⟩
                go_wp2_with fail
                refine hK.out _ _ ?_ (fun hHeld2 => ?_)
                focus
                  exact hS9 _ (by with_reducible assumption)
                clear hHeld
                have hHeld := hHeld2
                clear hHeld2 hK K
                try simp only [List.getElem_toArray, List.getElem_cons_succ, List.getElem_cons_zero, Act.put, List.setIfInBounds_toArray, List.set_cons_zero, List.set_cons_succ]
                refine wpAnyH_take (i := 21) (v := ?_) rfl (by kernel_rfl) (by kernel_rfl) (by kernel_rfl) (fun _ _ _ h => h) (Or.inl ⟨by rfl, ?_⟩) (by assumption) ?_
                rotate_left
                focus
                  intro U hU
                  try dsimp only at hU
                  go_simp
                  try (with_reducible rfl)
                simp only [List.getElem_toArray, List.getElem_cons_succ, List.getElem_cons_zero, Act.put, List.setIfInBounds_toArray, List.set_cons_zero, List.set_cons_succ]
                refine wpAnyH_take (i := 22) (v := ?_) rfl (by kernel_rfl) (by kernel_rfl) (by kernel_rfl) (fun _ _ _ h => h) (Or.inl ⟨by rfl, ?_⟩) (by assumption) ?_
                rotate_left
                focus
                  intro U hU
                  try dsimp only at hU
                  go_simp
                  try (with_reducible rfl)
                simp only [List.getElem_toArray, List.getElem_cons_succ, List.getElem_cons_zero, Act.put, List.setIfInBounds_toArray, List.set_cons_zero, List.set_cons_succ]
                refine wpAnyH_done (by kernel_rfl) ?_ _
                clear hHeld hS9
                have HU9 := hid hu2
                clear hu0 hu1 hu2 HSL9 HLI9 HLE9 HC9 HSA
                go_wp2
                go_roundw
                case rel => exact ⟨n + 1, b9, l9, by omega, by omega, by go_num, rfl, hid ⟨HN9.out.below HU9.out, HR9.out.below HU9.out, HOK9.out⟩, hid (HBU9.out.trans (HU9.out.mono HBU9.out.size))⟩
                case measure => simp [intOf]; omega
              · have hd10 : (d == 1) = false := by simpa using hd1
                by_cases hd2 : d = 2
                · skip
                  as_aux_lemma =>
                  obtain rfl : d = 2 := hd2
                  obtain ⟨r, l9, hl9⟩ : ∃ r l9, twV m l k = (r, l9) := ⟨_, _, rfl⟩
                  have HOK9 : Hid (OkN m l9) := hid (by have h9 := HI1.out.2.2.twice k; rw [hl9] at h9; exact h9)
                  have HLQ := hid hl9
                  clear hl9
                  go_upto_region 21 with (fail)
                  clear x0 x1 x2 x3 x4
                  have hu0 : Below w1.heap.size w1 w1.drew := below_drew (Below.refl _ _)
                  have hS : ∀ U : World, U.heap[X]? = some (.cells #[.int .i64 2, .int .i64 k, .int .i64 at', .int .u32 (bits : Int), .slice A ss.length cA] 56 (0, 0)) → (U.cell? ⟨X, 0, none⟩ = some (.int .i64 2) ∧ U.cell? ⟨X, 1, none⟩ = some (.int .i64 k) ∧ U.cell? ⟨X, 2, none⟩ = some (.int .i64 at') ∧ U.cell? ⟨X, 3, none⟩ = some (.int .u32 (bits : Int)) ∧ U.cell? ⟨X, 4, none⟩ = some (.slice A ss.length cA)) := fun U hU => five_cells hU
                  have hx0 := keep0 HX.out hu0
                  have HN0 := hid (HI1.out.1.below hu0)
                  have HR0 := hid (HI1.out.2.1.below hu0)
                  have HB0 := hid (HB1.out.trans (hu0.mono HB1.out.size))
                  refine wp_region_held_drew (S := fun U => (U.cell? ⟨X, 0, none⟩ = some (.int .i64 2) ∧ U.cell? ⟨X, 1, none⟩ = some (.int .i64 k) ∧ U.cell? ⟨X, 2, none⟩ = some (.int .i64 at') ∧ U.cell? ⟨X, 3, none⟩ = some (.int .u32 (bits : Int)) ∧ U.cell? ⟨X, 4, none⟩ = some (.slice A ss.length cA))) (by kernel_rfl) (hS _ hx0) (fun hHeld => ?_)
                  generalize w1.drew = u0 at *
                  refine wpAnyH_take (i := 0) (v := ?_) rfl (by kernel_rfl) (by kernel_rfl) (by kernel_rfl) (fun _ _ _ h => h) (Or.inl ⟨by rfl, ?_⟩) (by assumption) ?_
                  rotate_left
                  focus
                    intro U hU
                    try dsimp only at hU
                    go_simp
                    try (with_reducible rfl)
                  simp only [List.getElem_toArray, List.getElem_cons_succ, List.getElem_cons_zero, Act.put, List.setIfInBounds_toArray, List.set_cons_zero, List.set_cons_succ]
                  refine wpAnyH_take (i := 1) (v := ?_) rfl (by kernel_rfl) (by kernel_rfl) (by kernel_rfl) (fun _ _ _ h => h) (Or.inl ⟨by rfl, ?_⟩) (by assumption) ?_
                  rotate_left
                  focus
                    intro U hU
                    try dsimp only at hU
                    go_simp
                    try (with_reducible rfl)
                  simp only [List.getElem_toArray, List.getElem_cons_succ, List.getElem_cons_zero, Act.put, List.setIfInBounds_toArray, List.set_cons_zero, List.set_cons_succ]
                  refine wpAnyH_take (i := 2) (v := ?_) rfl (by kernel_rfl) (by kernel_rfl) (by kernel_rfl) (fun _ _ _ h => h) (Or.inl ⟨by rfl, ?_⟩) (by assumption) ?_
                  rotate_left
                  focus
                    intro U hU
                    try dsimp only at hU
                    go_simp
                    try (with_reducible rfl)
                  simp only [List.getElem_toArray, List.getElem_cons_succ, List.getElem_cons_zero, Act.put, List.setIfInBounds_toArray, List.set_cons_zero, List.set_cons_succ]
                  refine wpAnyH_take (i := 4) (v := ?_) rfl (by kernel_rfl) (by kernel_rfl) (by kernel_rfl) (fun _ _ _ h => h) (Or.inl ⟨by rfl, ?_⟩) (by assumption) ?_
                  rotate_left
                  focus
                    intro U hU
                    try dsimp only at hU
                    go_simp
                    try (with_reducible rfl)
                  simp only [List.getElem_toArray, List.getElem_cons_succ, List.getElem_cons_zero, Act.put, List.setIfInBounds_toArray, List.set_cons_zero, List.set_cons_succ]
                  refine wpAnyH_take (i := 5) (v := ?_) rfl (by kernel_rfl) (by kernel_rfl) (by kernel_rfl) (fun _ _ _ h => h) (Or.inl ⟨by rfl, ?_⟩) (by assumption) ?_
                  rotate_left
                  focus
                    intro U hU
                    try dsimp only at hU
                    go_simp
                    try (with_reducible rfl)
                  simp only [List.getElem_toArray, List.getElem_cons_succ, List.getElem_cons_zero, Act.put, List.setIfInBounds_toArray, List.set_cons_zero, List.set_cons_succ]
                  refine wpAnyH_take (i := 6) (v := ?_) rfl (by kernel_rfl) (by kernel_rfl) (by kernel_rfl) (fun _ _ _ h => h) (Or.inl ⟨by rfl, ?_⟩) (by assumption) ?_
                  rotate_left
                  focus
                    intro U hU
                    try dsimp only at hU
                    go_simp
                    try (with_reducible rfl)
                  simp only [List.getElem_toArray, List.getElem_cons_succ, List.getElem_cons_zero, Act.put, List.setIfInBounds_toArray, List.set_cons_zero, List.set_cons_succ]
                  refine wpAnyH_ready (rs := [3]) (by kernel_rfl) (by simp) ?_
                  refine AllReadyH.cons rfl (fun K hK => ?_) AllReadyH.nil
                  simp only [List.getElem_toArray, List.getElem_cons_succ, List.getElem_cons_zero]
                  go_simp
                  have h9 := ntw_any W.heap.size b m l k u0 HN0.out HB0.out.size (by omega)
                  rw [HLQ.out] at h9
                  refine h9.mono ?_
                  clear h9
                  rintro q u1 ⟨rfl, hn1, hb1, ho1⟩
                  have hx1 := ho1 X _ _ _ HXb.out (by decide) hx0
                  have HR1 := hid (HR0.out.othr HN0.out ho1)
                  have HN1 := hid hn1
                  have HBa := hid (HB0.out.trans hb1)
                  clear hn1 hb1 ho1
                  go_wp2_with fail
                  refine hK.out _ _ ?_ (fun hHeld2 => ?_)
                  focus
                    exact hS _ (by with_reducible assumption)
                  clear hHeld
                  have hHeld := hHeld2
                  clear hHeld2 hK K
                  try simp only [List.getElem_toArray, List.getElem_cons_succ, List.getElem_cons_zero, Act.put, List.setIfInBounds_toArray, List.set_cons_zero, List.set_cons_succ]
                  refine wpAnyH_ready (rs := [7]) (by kernel_rfl) (by simp) ?_
                  refine AllReadyH.cons rfl (fun K hK => ?_) AllReadyH.nil
                  simp only [List.getElem_toArray, List.getElem_cons_succ, List.getElem_cons_zero]
                  go_simp
                  have h9 := rtw_any W.heap.size c m l k u1 HR1.out HBa.out.size (by omega)
                  rw [HLQ.out] at h9
                  refine h9.mono ?_
                  clear h9
                  rintro q u9 ⟨rfl, hr2, ht2⟩
                  have hx2 := ht2.block hx1 HXc.out
                  have HN9 := hid (HN1.out.tch HR1.out ht2)
                  have HR9 := hid hr2
                  have HBU9 := hid (HBa.out.trans (ht2.below W.heap.size (fun g hg _ => by rw [hg]; exact HWC.out) HBa.out.size))
                  clear hr2 ht2
                  go_wp2_with fail
                  refine hK.out _ _ ?_ (fun hHeld2 => ?_)
                  focus
                    exact hS _ (by with_reducible assumption)
                  clear hHeld
                  have hHeld := hHeld2
                  clear hHeld2 hK K
                  try simp only [List.getElem_toArray, List.getElem_cons_succ, List.getElem_cons_zero, Act.put, List.setIfInBounds_toArray, List.set_cons_zero, List.set_cons_succ]
                  refine wpAnyH_take (i := 8) (v := ?_) rfl (by kernel_rfl) (by kernel_rfl) (by kernel_rfl) (fun _ _ _ h => h) (Or.inl ⟨by rfl, ?_⟩) (by assumption) ?_
                  rotate_left
                  focus
                    intro U hU
                    try dsimp only at hU
                    go_simp
                    try (with_reducible rfl)
                  simp only [List.getElem_toArray, List.getElem_cons_succ, List.getElem_cons_zero, Act.put, List.setIfInBounds_toArray, List.set_cons_zero, List.set_cons_succ]
                  refine wpAnyH_take (i := 9) (v := ?_) rfl (by kernel_rfl) (by kernel_rfl) (by kernel_rfl) (fun _ _ _ h => h) (Or.inl ⟨by rfl, ?_⟩) (by assumption) ?_
                  rotate_left
                  focus
                    intro U hU
                    try dsimp only at hU
                    go_simp
                    try (with_reducible rfl)
                  simp only [List.getElem_toArray, List.getElem_cons_succ, List.getElem_cons_zero, Act.put, List.setIfInBounds_toArray, List.set_cons_zero, List.set_cons_succ]
                  refine wpAnyH_done (by kernel_rfl) ?_ _
                  clear hHeld hS hx0 hx1 hx2 hu0 HN0 HR0 HB0 HN1 HR1 HBa HX HI1 HI HAK
                  clear HLQ
                  have b9e : ∃ b9, b9 = b := ⟨_, rfl⟩
                  obtain ⟨b9, rfl⟩ := b9e
                  have hll : l9.length ≤ 100000 := by have := HOK9.out.1; omega
                  obtain ⟨hBc9, A9, cap9, hc9, ho9⟩ := HR9.out
                  have HC9 := hid hc9
                  have HSL9 := hid (fun U (hU : Below u9.heap.size u9 U) => (sl_own ho9).below hU)
                  have HLI9 := hid (fun U (hU : Below u9.heap.size u9 U) => nlist_any W.heap.size b9 m l9 U (HN9.out.below hU) hll)
                  have HLE9 := hid (fun U (hU : Below u9.heap.size u9 U) => nlen_any W.heap.size b9 m l9 U (HN9.out.below hU))
                  have hS9 : ∀ U, Below u9.heap.size u9 U → (U.cell? ⟨c, 0, none⟩ = some (.slice A9 l9.length cap9) ∧ Below u9.heap.size u9 U) := fun U hU => ⟨(two_cells (keep0 HC9.out hU)).1, hU⟩
                  clear hBc9 hc9 ho9
                  go_upto_region 28 with (fail)
                  have hu0 : Below u9.heap.size u9 u9.drew := below_drew (Below.refl _ _)
                  refine wp_region_held_drew (S := fun U => U.cell? ⟨c, 0, none⟩ = some (.slice A9 l9.length cap9) ∧ Below u9.heap.size u9 U) (by kernel_rfl) (hS9 _ hu0) (fun hHeld => ?_)
                  generalize u9.drew = u0 at *
                  refine wpAnyH_take (i := 0) (v := ?_) rfl (by kernel_rfl) (by kernel_rfl) (by kernel_rfl) (fun _ _ _ h => h) (Or.inl ⟨by rfl, ?_⟩) (by assumption) ?_
                  rotate_left
                  focus
                    intro U hU
                    try dsimp only at hU
                    go_simp
                    try (with_reducible rfl)
                  simp only [List.getElem_toArray, List.getElem_cons_succ, List.getElem_cons_zero, Act.put, List.setIfInBounds_toArray, List.set_cons_zero, List.set_cons_succ]
                  refine wpAnyH_take (i := 1) (v := ?_) rfl (by kernel_rfl) (by kernel_rfl) (by kernel_rfl) (fun _ _ _ h => h) (Or.inl ⟨by rfl, ?_⟩) (by assumption) ?_
                  rotate_left
                  focus
                    intro U hU
                    try dsimp only at hU
                    go_simp
                    try (with_reducible rfl)
                  simp only [List.getElem_toArray, List.getElem_cons_succ, List.getElem_cons_zero, Act.put, List.setIfInBounds_toArray, List.set_cons_zero, List.set_cons_succ]
                  refine wpAnyH_take (i := 2) (v := ?_) rfl (by kernel_rfl) (by kernel_rfl) (by kernel_rfl) (fun _ _ _ h => h) (Or.inl ⟨by rfl, ?_⟩) (by assumption) ?_
                  rotate_left
                  focus
                    intro U hU
                    try dsimp only at hU
                    go_simp
                    try (with_reducible rfl)
                  simp only [List.getElem_toArray, List.getElem_cons_succ, List.getElem_cons_zero, Act.put, List.setIfInBounds_toArray, List.set_cons_zero, List.set_cons_succ]
                  refine wpAnyH_take (i := 3) (v := ?_) rfl (by kernel_rfl) (by kernel_rfl) (by kernel_rfl) (fun _ _ _ h => h) (Or.inl ⟨by rfl, ?_⟩) (by assumption) ?_
                  rotate_left
                  focus
                    intro U hU
                    try dsimp only at hU
                    go_simp
                    try (with_reducible rfl)
                  simp only [List.getElem_toArray, List.getElem_cons_succ, List.getElem_cons_zero, Act.put, List.setIfInBounds_toArray, List.set_cons_zero, List.set_cons_succ]
                  refine wpAnyH_take (i := 4) (v := ?_) rfl (by kernel_rfl) (by kernel_rfl) (by kernel_rfl) (fun _ _ _ h => h) (Or.inl ⟨by rfl, ?_⟩) (by assumption) ?_
                  rotate_left
                  focus
                    intro U hU
                    try dsimp only at hU
                    go_simp
                    try (with_reducible rfl)
                  simp only [List.getElem_toArray, List.getElem_cons_succ, List.getElem_cons_zero, Act.put, List.setIfInBounds_toArray, List.set_cons_zero, List.set_cons_succ]
                  refine wpAnyH_take (i := 6) (v := ?_) rfl (by kernel_rfl) (by kernel_rfl) (by kernel_rfl) (fun _ _ _ h => h) (Or.inl ⟨by rfl, ?_⟩) (by assumption) ?_
                  rotate_left
                  focus
                    intro U hU
                    try dsimp only at hU
                    go_simp
                    try (with_reducible rfl)
                  simp only [List.getElem_toArray, List.getElem_cons_succ, List.getElem_cons_zero, Act.put, List.setIfInBounds_toArray, List.set_cons_zero, List.set_cons_succ]
                  refine wpAnyH_take (i := 7) (v := ?_) rfl (by kernel_rfl) (by kernel_rfl) (by kernel_rfl) (fun _ _ _ h => h) (Or.inl ⟨by rfl, ?_⟩) (by assumption) ?_
                  rotate_left
                  focus
                    intro U hU
                    try dsimp only at hU
                    go_simp
                    try (with_reducible rfl)
                  simp only [List.getElem_toArray, List.getElem_cons_succ, List.getElem_cons_zero, Act.put, List.setIfInBounds_toArray, List.set_cons_zero, List.set_cons_succ]
                  refine wpAnyH_take (i := 8) (v := ?_) rfl (by kernel_rfl) (by kernel_rfl) (by kernel_rfl) (fun _ _ _ h => h) (Or.inl ⟨by rfl, ?_⟩) (by assumption) ?_
                  rotate_left
                  focus
                    intro U hU
                    try dsimp only at hU
                    go_simp
                    try (with_reducible rfl)
                  simp only [List.getElem_toArray, List.getElem_cons_succ, List.getElem_cons_zero, Act.put, List.setIfInBounds_toArray, List.set_cons_zero, List.set_cons_succ]
                  refine wpAnyH_take (i := 9) (v := ?_) rfl (by kernel_rfl) (by kernel_rfl) (by kernel_rfl) (fun _ _ _ h => h) (Or.inl ⟨by rfl, ?_⟩) (by assumption) ?_
                  rotate_left
                  focus
                    intro U hU
                    try dsimp only at hU
                    go_simp
                    try (with_reducible rfl)
                  simp only [List.getElem_toArray, List.getElem_cons_succ, List.getElem_cons_zero, Act.put, List.setIfInBounds_toArray, List.set_cons_zero, List.set_cons_succ]
                  refine wpAnyH_ready (rs := [5]) (by kernel_rfl) (by simp) ?_
                  refine AllReadyH.cons rfl (fun K hK => ?_) AllReadyH.nil
                  simp only [List.getElem_toArray, List.getElem_cons_succ, List.getElem_cons_zero]
                  go_simp
                  refine (HLI9.out _ hu0).mono ?_
                  rintro q u1 ⟨A5, c5, rfl, hb1, ho1⟩
                  have hu1 : Below u9.heap.size u9 u1 := hu0.trans (hb1.mono hu0.size)
                  have HSA := hid (same_yes A5 A9 c5 cap9 l9 u1 (sl_own ho1) (HSL9.out u1 hu1))
                  clear hb1 ho1
                  go_wp2_with fail
                  refine hK.out _ _ ?_ (fun hHeld2 => ?_)
                  focus
                    exact hS9 _ (by with_reducible assumption)
                  clear hHeld
                  have hHeld := hHeld2
                  clear hHeld2 hK K
                  try simp only [List.getElem_toArray, List.getElem_cons_succ, List.getElem_cons_zero, Act.put, List.setIfInBounds_toArray, List.set_cons_zero, List.set_cons_succ]
                  refine wpAnyH_ready (rs := [10]) (by kernel_rfl) (by simp) ?_
                  refine AllReadyH.cons rfl (fun K hK => ?_) AllReadyH.nil
                  simp only [List.getElem_toArray, List.getElem_cons_succ, List.getElem_cons_zero]
                  go_simp
                  refine HSA.out.mono ?_
                  rintro q u2 ⟨rfl, hb2⟩
                  have hu2 : Below u9.heap.size u9 u2 := hu1.trans (hb2.mono hu1.size)
                  clear hb2
                  go_wp2_with fail
                  refine hK.out _ _ ?_ (fun hHeld2 => ?_)
                  focus
                    exact hS9 _ (by with_reducible assumption)
                  clear hHeld
                  have hHeld := hHeld2
                  clear hHeld2 hK K
                  try simp only [List.getElem_toArray, List.getElem_cons_succ, List.getElem_cons_zero, Act.put, List.setIfInBounds_toArray, List.set_cons_zero, List.set_cons_succ]
                  refine wpAnyH_take (i := 11) (v := ?_) rfl (by kernel_rfl) (by kernel_rfl) (by kernel_rfl) (fun _ _ _ h => h) (Or.inl ⟨by rfl, ?_⟩) (by assumption) ?_
                  rotate_left
                  focus
                    intro U hU
                    try dsimp only at hU
                    go_simp
                    try (with_reducible rfl)
                  simp only [List.getElem_toArray, List.getElem_cons_succ, List.getElem_cons_zero, Act.put, List.setIfInBounds_toArray, List.set_cons_zero, List.set_cons_succ]
                  refine wpAnyH_take (i := 12) (v := ?_) rfl (by kernel_rfl) (by kernel_rfl) (by kernel_rfl) (fun _ _ _ h => h) (Or.inl ⟨by rfl, ?_⟩) (by assumption) ?_
                  rotate_left
                  focus
                    intro U hU
                    try dsimp only at hU
                    go_simp
                    try (with_reducible rfl)
                  simp only [List.getElem_toArray, List.getElem_cons_succ, List.getElem_cons_zero, Act.put, List.setIfInBounds_toArray, List.set_cons_zero, List.set_cons_succ]
                  refine wpAnyH_take (i := 13) (v := ?_) rfl (by kernel_rfl) (by kernel_rfl) (by kernel_rfl) (fun _ _ _ h => h) (Or.inl ⟨by rfl, ?_⟩) (by assumption) ?_
                  rotate_left
                  focus
                    intro U hU
                    try dsimp only at hU
                    go_simp
                    try (with_reducible rfl)
                  simp only [List.getElem_toArray, List.getElem_cons_succ, List.getElem_cons_zero, Act.put, List.setIfInBounds_toArray, List.set_cons_zero, List.set_cons_succ]
                  refine wpAnyH_take (i := 14) (v := ?_) rfl (by kernel_rfl) (by kernel_rfl) (by kernel_rfl) (fun _ _ _ h => h) (Or.inl ⟨by rfl, ?_⟩) (by assumption) ?_
                  rotate_left
                  focus
                    intro U hU
                    try dsimp only at hU
                    go_simp
                    try (with_reducible rfl)
                  simp only [List.getElem_toArray, List.getElem_cons_succ, List.getElem_cons_zero, Act.put, List.setIfInBounds_toArray, List.set_cons_zero, List.set_cons_succ]
                  refine wpAnyH_take (i := 16) (v := ?_) rfl (by kernel_rfl) (by kernel_rfl) (by kernel_rfl) (fun _ _ _ h => h) (Or.inl ⟨by rfl, ?_⟩) (by assumption) ?_
                  rotate_left
                  focus
                    intro U hU
                    try dsimp only at hU
                    go_simp
                    try (with_reducible rfl)
                  simp only [List.getElem_toArray, List.getElem_cons_succ, List.getElem_cons_zero, Act.put, List.setIfInBounds_toArray, List.set_cons_zero, List.set_cons_succ]
                  refine wpAnyH_take (i := 17) (v := ?_) rfl (by kernel_rfl) (by kernel_rfl) (by kernel_rfl) (fun _ _ _ h => h) (Or.inl ⟨by rfl, ?_⟩) (by assumption) ?_
                  rotate_left
                  focus
                    intro U hU
                    try dsimp only at hU
                    go_simp
                    try (with_reducible rfl)
                  simp only [List.getElem_toArray, List.getElem_cons_succ, List.getElem_cons_zero, Act.put, List.setIfInBounds_toArray, List.set_cons_zero, List.set_cons_succ]
                  refine wpAnyH_take (i := 18) (v := ?_) rfl (by kernel_rfl) (by kernel_rfl) (by kernel_rfl) (fun _ _ _ h => h) (Or.inl ⟨by rfl, ?_⟩) (by assumption) ?_
                  rotate_left
                  focus
                    intro U hU
                    try dsimp only at hU
                    go_simp
                    try (with_reducible rfl)
                  simp only [List.getElem_toArray, List.getElem_cons_succ, List.getElem_cons_zero, Act.put, List.setIfInBounds_toArray, List.set_cons_zero, List.set_cons_succ]
                  refine wpAnyH_take (i := 19) (v := ?_) rfl (by kernel_rfl) (by kernel_rfl) (by kernel_rfl) (fun _ _ _ h => h) (Or.inl ⟨by rfl, ?_⟩) (by assumption) ?_
                  rotate_left
                  focus
                    intro U hU
                    try dsimp only at hU
                    go_simp
                    try (with_reducible rfl)
                  simp only [List.getElem_toArray, List.getElem_cons_succ, List.getElem_cons_zero, Act.put, List.setIfInBounds_toArray, List.set_cons_zero, List.set_cons_succ]
                  refine wpAnyH_take (i := 20) (v := ?_) rfl (by kernel_rfl) (by kernel_rfl) (by kernel_rfl) (fun _ _ _ h => h) (Or.inl ⟨by rfl, ?_⟩) (by assumption) ?_
                  rotate_left
                  focus
                    intro U hU
                    try dsimp only at hU
                    go_simp
                    try (with_reducible rfl)
                  simp only [List.getElem_toArray, List.getElem_cons_succ, List.getElem_cons_zero, Act.put, List.setIfInBounds_toArray, List.set_cons_zero, List.set_cons_succ]
                  refine wpAnyH_ready (rs := [15]) (by kernel_rfl) (by simp) ?_
                  refine AllReadyH.cons rfl (fun K hK => ?_) AllReadyH.nil
                  simp only [List.getElem_toArray, List.getElem_cons_succ, List.getElem_cons_zero]
                  go_simp
                  refine (HLE9.out _ hu2).mono ?_
                  rintro q u3 ⟨rfl, rfl⟩
                  go_wp2_with fail
                  refine hK.out _ _ ?_ (fun hHeld2 => ?_)
                  focus
                    exact hS9 _ (by with_reducible assumption)
                  clear hHeld
                  have hHeld := hHeld2
                  clear hHeld2 hK K
                  try simp only [List.getElem_toArray, List.getElem_cons_succ, List.getElem_cons_zero, Act.put, List.setIfInBounds_toArray, List.set_cons_zero, List.set_cons_succ]
                  refine wpAnyH_take (i := 21) (v := ?_) rfl (by kernel_rfl) (by kernel_rfl) (by kernel_rfl) (fun _ _ _ h => h) (Or.inl ⟨by rfl, ?_⟩) (by assumption) ?_
                  rotate_left
                  focus
                    intro U hU
                    try dsimp only at hU
                    go_simp
                    try (with_reducible rfl)
                  simp only [List.getElem_toArray, List.getElem_cons_succ, List.getElem_cons_zero, Act.put, List.setIfInBounds_toArray, List.set_cons_zero, List.set_cons_succ]
                  refine wpAnyH_take (i := 22) (v := ?_) rfl (by kernel_rfl) (by kernel_rfl) (by kernel_rfl) (fun _ _ _ h => h) (Or.inl ⟨by rfl, ?_⟩) (by assumption) ?_
                  rotate_left
                  focus
                    intro U hU
                    try dsimp only at hU
                    go_simp
                    try (with_reducible rfl)
                  simp only [List.getElem_toArray, List.getElem_cons_succ, List.getElem_cons_zero, Act.put, List.setIfInBounds_toArray, List.set_cons_zero, List.set_cons_succ]
                  refine wpAnyH_done (by kernel_rfl) ?_ _
                  clear hHeld hS9
                  have HU9 := hid hu2
                  clear hu0 hu1 hu2 HSL9 HLI9 HLE9 HC9 HSA
                  go_wp2
                  go_roundw
                  case rel => exact ⟨n + 1, b9, l9, by omega, by omega, by go_num, rfl, hid ⟨HN9.out.below HU9.out, HR9.out.below HU9.out, HOK9.out⟩, hid (HBU9.out.trans (HU9.out.mono HBU9.out.size))⟩
                  case measure => simp [intOf]; omega
                · have hd20 : (d == 2) = false := by simpa using hd2
                  by_cases hd3 : d = 3
                  · skip
                    as_aux_lemma =>
                    obtain rfl : d = 3 := hd3
                    obtain ⟨r, l9, hl9⟩ : ∃ r l9, tuV l k at' bits = (r, l9) := ⟨_, _, rfl⟩
                    have HOK9 : Hid (OkN m l9) := hid (by have h9 := HI1.out.2.2.turn k at' bits; rw [hl9] at h9; exact h9)
                    have HLQ := hid hl9
                    clear hl9
                    go_upto_region 23 with (fail)
                    clear x0 x1 x2 x3 x4
                    have hu0 : Below w1.heap.size w1 w1.drew := below_drew (Below.refl _ _)
                    have hS : ∀ U : World, U.heap[X]? = some (.cells #[.int .i64 3, .int .i64 k, .int .i64 at', .int .u32 (bits : Int), .slice A ss.length cA] 56 (0, 0)) → (U.cell? ⟨X, 0, none⟩ = some (.int .i64 3) ∧ U.cell? ⟨X, 1, none⟩ = some (.int .i64 k) ∧ U.cell? ⟨X, 2, none⟩ = some (.int .i64 at') ∧ U.cell? ⟨X, 3, none⟩ = some (.int .u32 (bits : Int)) ∧ U.cell? ⟨X, 4, none⟩ = some (.slice A ss.length cA)) := fun U hU => five_cells hU
                    have hx0 := keep0 HX.out hu0
                    have HN0 := hid (HI1.out.1.below hu0)
                    have HR0 := hid (HI1.out.2.1.below hu0)
                    have HB0 := hid (HB1.out.trans (hu0.mono HB1.out.size))
                    refine wp_region_held_drew (S := fun U => (U.cell? ⟨X, 0, none⟩ = some (.int .i64 3) ∧ U.cell? ⟨X, 1, none⟩ = some (.int .i64 k) ∧ U.cell? ⟨X, 2, none⟩ = some (.int .i64 at') ∧ U.cell? ⟨X, 3, none⟩ = some (.int .u32 (bits : Int)) ∧ U.cell? ⟨X, 4, none⟩ = some (.slice A ss.length cA))) (by kernel_rfl) (hS _ hx0) (fun hHeld => ?_)
                    generalize w1.drew = u0 at *
                    refine wpAnyH_take (i := 0) (v := ?_) rfl (by kernel_rfl) (by kernel_rfl) (by kernel_rfl) (fun _ _ _ h => h) (Or.inl ⟨by rfl, ?_⟩) (by assumption) ?_
                    rotate_left
                    focus
                      intro U hU
                      try dsimp only at hU
                      go_simp
                      try (with_reducible rfl)
                    simp only [List.getElem_toArray, List.getElem_cons_succ, List.getElem_cons_zero, Act.put, List.setIfInBounds_toArray, List.set_cons_zero, List.set_cons_succ]
                    refine wpAnyH_take (i := 1) (v := ?_) rfl (by kernel_rfl) (by kernel_rfl) (by kernel_rfl) (fun _ _ _ h => h) (Or.inl ⟨by rfl, ?_⟩) (by assumption) ?_
                    rotate_left
                    focus
                      intro U hU
                      try dsimp only at hU
                      go_simp
                      try (with_reducible rfl)
                    simp only [List.getElem_toArray, List.getElem_cons_succ, List.getElem_cons_zero, Act.put, List.setIfInBounds_toArray, List.set_cons_zero, List.set_cons_succ]
                    refine wpAnyH_take (i := 2) (v := ?_) rfl (by kernel_rfl) (by kernel_rfl) (by kernel_rfl) (fun _ _ _ h => h) (Or.inl ⟨by rfl, ?_⟩) (by assumption) ?_
                    rotate_left
                    focus
                      intro U hU
                      try dsimp only at hU
                      go_simp
                      try (with_reducible rfl)
                    simp only [List.getElem_toArray, List.getElem_cons_succ, List.getElem_cons_zero, Act.put, List.setIfInBounds_toArray, List.set_cons_zero, List.set_cons_succ]
                    refine wpAnyH_take (i := 3) (v := ?_) rfl (by kernel_rfl) (by kernel_rfl) (by kernel_rfl) (fun _ _ _ h => h) (Or.inl ⟨by rfl, ?_⟩) (by assumption) ?_
                    rotate_left
                    focus
                      intro U hU
                      try dsimp only at hU
                      go_simp
                      try (with_reducible rfl)
                    simp only [List.getElem_toArray, List.getElem_cons_succ, List.getElem_cons_zero, Act.put, List.setIfInBounds_toArray, List.set_cons_zero, List.set_cons_succ]
                    refine wpAnyH_take (i := 4) (v := ?_) rfl (by kernel_rfl) (by kernel_rfl) (by kernel_rfl) (fun _ _ _ h => h) (Or.inl ⟨by rfl, ?_⟩) (by assumption) ?_
                    rotate_left
                    focus
                      intro U hU
                      try dsimp only at hU
                      go_simp
                      try (with_reducible rfl)
                    simp only [List.getElem_toArray, List.getElem_cons_succ, List.getElem_cons_zero, Act.put, List.setIfInBounds_toArray, List.set_cons_zero, List.set_cons_succ]
                    refine wpAnyH_take (i := 5) (v := ?_) rfl (by kernel_rfl) (by kernel_rfl) (by kernel_rfl) (fun _ _ _ h => h) (Or.inl ⟨by rfl, ?_⟩) (by assumption) ?_
                    rotate_left
                    focus
                      intro U hU
                      try dsimp only at hU
                      go_simp
                      try (with_reducible rfl)
                    simp only [List.getElem_toArray, List.getElem_cons_succ, List.getElem_cons_zero, Act.put, List.setIfInBounds_toArray, List.set_cons_zero, List.set_cons_succ]
                    refine wpAnyH_take (i := 6) (v := ?_) rfl (by kernel_rfl) (by kernel_rfl) (by kernel_rfl) (fun _ _ _ h => h) (Or.inl ⟨by rfl, ?_⟩) (by assumption) ?_
                    rotate_left
                    focus
                      intro U hU
                      try dsimp only at hU
                      go_simp
                      try (with_reducible rfl)
                    simp only [List.getElem_toArray, List.getElem_cons_succ, List.getElem_cons_zero, Act.put, List.setIfInBounds_toArray, List.set_cons_zero, List.set_cons_succ]
                    refine wpAnyH_take (i := 8) (v := ?_) rfl (by kernel_rfl) (by kernel_rfl) (by kernel_rfl) (fun _ _ _ h => h) (Or.inl ⟨by rfl, ?_⟩) (by assumption) ?_
                    rotate_left
                    focus
                      intro U hU
                      try dsimp only at hU
                      go_simp
                      try (with_reducible rfl)
                    simp only [List.getElem_toArray, List.getElem_cons_succ, List.getElem_cons_zero, Act.put, List.setIfInBounds_toArray, List.set_cons_zero, List.set_cons_succ]
                    refine wpAnyH_take (i := 9) (v := ?_) rfl (by kernel_rfl) (by kernel_rfl) (by kernel_rfl) (fun _ _ _ h => h) (Or.inl ⟨by rfl, ?_⟩) (by assumption) ?_
                    rotate_left
                    focus
                      intro U hU
                      try dsimp only at hU
                      go_simp
                      try (with_reducible rfl)
                    simp only [List.getElem_toArray, List.getElem_cons_succ, List.getElem_cons_zero, Act.put, List.setIfInBounds_toArray, List.set_cons_zero, List.set_cons_succ]
                    refine wpAnyH_take (i := 10) (v := ?_) rfl (by kernel_rfl) (by kernel_rfl) (by kernel_rfl) (fun _ _ _ h => h) (Or.inl ⟨by rfl, ?_⟩) (by assumption) ?_
                    rotate_left
                    focus
                      intro U hU
                      try dsimp only at hU
                      go_simp
                      try (with_reducible rfl)
                    simp only [List.getElem_toArray, List.getElem_cons_succ, List.getElem_cons_zero, Act.put, List.setIfInBounds_toArray, List.set_cons_zero, List.set_cons_succ]
                    refine wpAnyH_take (i := 11) (v := ?_) rfl (by kernel_rfl) (by kernel_rfl) (by kernel_rfl) (fun _ _ _ h => h) (Or.inl ⟨by rfl, ?_⟩) (by assumption) ?_
                    rotate_left
                    focus
                      intro U hU
                      try dsimp only at hU
                      go_simp
                      try (with_reducible rfl)
                    simp only [List.getElem_toArray, List.getElem_cons_succ, List.getElem_cons_zero, Act.put, List.setIfInBounds_toArray, List.set_cons_zero, List.set_cons_succ]
                    refine wpAnyH_take (i := 12) (v := ?_) rfl (by kernel_rfl) (by kernel_rfl) (by kernel_rfl) (fun _ _ _ h => h) (Or.inl ⟨by rfl, ?_⟩) (by assumption) ?_
                    rotate_left
                    focus
                      intro U hU
                      try dsimp only at hU
                      go_simp
                      try (with_reducible rfl)
                    simp only [List.getElem_toArray, List.getElem_cons_succ, List.getElem_cons_zero, Act.put, List.setIfInBounds_toArray, List.set_cons_zero, List.set_cons_succ]
                    refine wpAnyH_take (i := 13) (v := ?_) rfl (by kernel_rfl) (by kernel_rfl) (by kernel_rfl) (fun _ _ _ h => h) (Or.inl ⟨by rfl, ?_⟩) (by assumption) ?_
                    rotate_left
                    focus
                      intro U hU
                      try dsimp only at hU
                      go_simp
                      try (with_reducible rfl)
                    simp only [List.getElem_toArray, List.getElem_cons_succ, List.getElem_cons_zero, Act.put, List.setIfInBounds_toArray, List.set_cons_zero, List.set_cons_succ]
                    refine wpAnyH_take (i := 14) (v := ?_) rfl (by kernel_rfl) (by kernel_rfl) (by kernel_rfl) (fun _ _ _ h => h) (Or.inl ⟨by rfl, ?_⟩) (by assumption) ?_
                    rotate_left
                    focus
                      intro U hU
                      try dsimp only at hU
                      go_simp
                      try (with_reducible rfl)
                    simp only [List.getElem_toArray, List.getElem_cons_succ, List.getElem_cons_zero, Act.put, List.setIfInBounds_toArray, List.set_cons_zero, List.set_cons_succ]
                    refine wpAnyH_ready (rs := [7]) (by kernel_rfl) (by simp) ?_
                    refine AllReadyH.cons rfl (fun K hK => ?_) AllReadyH.nil
                    simp only [List.getElem_toArray, List.getElem_cons_succ, List.getElem_cons_zero]
                    go_simp
                    have h9 := ntu_any W.heap.size b m l k at' bits u0 HN0.out HB0.out.size HSS.out hbt
                    rw [HLQ.out] at h9
                    refine h9.mono ?_
                    clear h9
                    rintro q u1 ⟨rfl, hn1, hb1, ho1⟩
                    have hx1 := ho1 X _ _ _ HXb.out (by decide) hx0
                    have HR1 := hid (HR0.out.othr HN0.out ho1)
                    have HN1 := hid hn1
                    have HBa := hid (HB0.out.trans hb1)
                    clear hn1 hb1 ho1
                    go_wp2_with fail
                    refine hK.out _ _ ?_ (fun hHeld2 => ?_)
                    focus
                      exact hS _ (by with_reducible assumption)
                    clear hHeld
                    have hHeld := hHeld2
                    clear hHeld2 hK K
                    try simp only [List.getElem_toArray, List.getElem_cons_succ, List.getElem_cons_zero, Act.put, List.setIfInBounds_toArray, List.set_cons_zero, List.set_cons_succ]
                    refine wpAnyH_ready (rs := [15]) (by kernel_rfl) (by simp) ?_
                    refine AllReadyH.cons rfl (fun K hK => ?_) AllReadyH.nil
                    simp only [List.getElem_toArray, List.getElem_cons_succ, List.getElem_cons_zero]
                    go_simp
                    have h9 := rtu_any W.heap.size c m l k at' bits u1 HR1.out HBa.out.size (by omega) HSS.out hbt HAT.out
                    rw [HLQ.out] at h9
                    refine h9.mono ?_
                    clear h9
                    rintro q u9 ⟨rfl, hr2, ht2⟩
                    have hx2 := ht2.block hx1 HXc.out
                    have HN9 := hid (HN1.out.tch HR1.out ht2)
                    have HR9 := hid hr2
                    have HBU9 := hid (HBa.out.trans (ht2.below W.heap.size (fun g hg _ => by rw [hg]; exact HWC.out) HBa.out.size))
                    clear hr2 ht2
                    go_wp2_with fail
                    refine hK.out _ _ ?_ (fun hHeld2 => ?_)
                    focus
                      exact hS _ (by with_reducible assumption)
                    clear hHeld
                    have hHeld := hHeld2
                    clear hHeld2 hK K
                    try simp only [List.getElem_toArray, List.getElem_cons_succ, List.getElem_cons_zero, Act.put, List.setIfInBounds_toArray, List.set_cons_zero, List.set_cons_succ]
                    refine wpAnyH_take (i := 16) (v := ?_) rfl (by kernel_rfl) (by kernel_rfl) (by kernel_rfl) (fun _ _ _ h => h) (Or.inl ⟨by rfl, ?_⟩) (by assumption) ?_
                    rotate_left
                    focus
                      intro U hU
                      try dsimp only at hU
                      go_simp
                      try (with_reducible rfl)
                    simp only [List.getElem_toArray, List.getElem_cons_succ, List.getElem_cons_zero, Act.put, List.setIfInBounds_toArray, List.set_cons_zero, List.set_cons_succ]
                    refine wpAnyH_take (i := 17) (v := ?_) rfl (by kernel_rfl) (by kernel_rfl) (by kernel_rfl) (fun _ _ _ h => h) (Or.inl ⟨by rfl, ?_⟩) (by assumption) ?_
                    rotate_left
                    focus
                      intro U hU
                      try dsimp only at hU
                      go_simp
                      try (with_reducible rfl)
                    simp only [List.getElem_toArray, List.getElem_cons_succ, List.getElem_cons_zero, Act.put, List.setIfInBounds_toArray, List.set_cons_zero, List.set_cons_succ]
                    refine wpAnyH_done (by kernel_rfl) ?_ _
                    clear hHeld hS hx0 hx1 hx2 hu0 HN0 HR0 HB0 HN1 HR1 HBa HX HI1 HI HAK
                    clear HLQ
                    have b9e : ∃ b9, b9 = b := ⟨_, rfl⟩
                    obtain ⟨b9, rfl⟩ := b9e
                    have hll : l9.length ≤ 100000 := by have := HOK9.out.1; omega
                    obtain ⟨hBc9, A9, cap9, hc9, ho9⟩ := HR9.out
                    have HC9 := hid hc9
                    have HSL9 := hid (fun U (hU : Below u9.heap.size u9 U) => (sl_own ho9).below hU)
                    have HLI9 := hid (fun U (hU : Below u9.heap.size u9 U) => nlist_any W.heap.size b9 m l9 U (HN9.out.below hU) hll)
                    have HLE9 := hid (fun U (hU : Below u9.heap.size u9 U) => nlen_any W.heap.size b9 m l9 U (HN9.out.below hU))
                    have hS9 : ∀ U, Below u9.heap.size u9 U → (U.cell? ⟨c, 0, none⟩ = some (.slice A9 l9.length cap9) ∧ Below u9.heap.size u9 U) := fun U hU => ⟨(two_cells (keep0 HC9.out hU)).1, hU⟩
                    clear hBc9 hc9 ho9
                    go_upto_region 28 with (fail)
                    have hu0 : Below u9.heap.size u9 u9.drew := below_drew (Below.refl _ _)
                    refine wp_region_held_drew (S := fun U => U.cell? ⟨c, 0, none⟩ = some (.slice A9 l9.length cap9) ∧ Below u9.heap.size u9 U) (by kernel_rfl) (hS9 _ hu0) (fun hHeld => ?_)
                    generalize u9.drew = u0 at *
                    refine wpAnyH_take (i := 0) (v := ?_) rfl (by kernel_rfl) (by kernel_rfl) (by kernel_rfl) (fun _ _ _ h => h) (Or.inl ⟨by rfl, ?_⟩) (by assumption) ?_
                    rotate_left
                    focus
                      intro U hU
                      try dsimp only at hU
                      go_simp
                      try (with_reducible rfl)
                    simp only [List.getElem_toArray, List.getElem_cons_succ, List.getElem_cons_zero, Act.put, List.setIfInBounds_toArray, List.set_cons_zero, List.set_cons_succ]
                    refine wpAnyH_take (i := 1) (v := ?_) rfl (by kernel_rfl) (by kernel_rfl) (by kernel_rfl) (fun _ _ _ h => h) (Or.inl ⟨by rfl, ?_⟩) (by assumption) ?_
                    rotate_left
                    focus
                      intro U hU
                      try dsimp only at hU
                      go_simp
                      try (with_reducible rfl)
                    simp only [List.getElem_toArray, List.getElem_cons_succ, List.getElem_cons_zero, Act.put, List.setIfInBounds_toArray, List.set_cons_zero, List.set_cons_succ]
                    refine wpAnyH_take (i := 2) (v := ?_) rfl (by kernel_rfl) (by kernel_rfl) (by kernel_rfl) (fun _ _ _ h => h) (Or.inl ⟨by rfl, ?_⟩) (by assumption) ?_
                    rotate_left
                    focus
                      intro U hU
                      try dsimp only at hU
                      go_simp
                      try (with_reducible rfl)
                    simp only [List.getElem_toArray, List.getElem_cons_succ, List.getElem_cons_zero, Act.put, List.setIfInBounds_toArray, List.set_cons_zero, List.set_cons_succ]
                    refine wpAnyH_take (i := 3) (v := ?_) rfl (by kernel_rfl) (by kernel_rfl) (by kernel_rfl) (fun _ _ _ h => h) (Or.inl ⟨by rfl, ?_⟩) (by assumption) ?_
                    rotate_left
                    focus
                      intro U hU
                      try dsimp only at hU
                      go_simp
                      try (with_reducible rfl)
                    simp only [List.getElem_toArray, List.getElem_cons_succ, List.getElem_cons_zero, Act.put, List.setIfInBounds_toArray, List.set_cons_zero, List.set_cons_succ]
                    refine wpAnyH_take (i := 4) (v := ?_) rfl (by kernel_rfl) (by kernel_rfl) (by kernel_rfl) (fun _ _ _ h => h) (Or.inl ⟨by rfl, ?_⟩) (by assumption) ?_
                    rotate_left
                    focus
                      intro U hU
                      try dsimp only at hU
                      go_simp
                      try (with_reducible rfl)
                    simp only [List.getElem_toArray, List.getElem_cons_succ, List.getElem_cons_zero, Act.put, List.setIfInBounds_toArray, List.set_cons_zero, List.set_cons_succ]
                    refine wpAnyH_take (i := 6) (v := ?_) rfl (by kernel_rfl) (by kernel_rfl) (by kernel_rfl) (fun _ _ _ h => h) (Or.inl ⟨by rfl, ?_⟩) (by assumption) ?_
                    rotate_left
                    focus
                      intro U hU
                      try dsimp only at hU
                      go_simp
                      try (with_reducible rfl)
                    simp only [List.getElem_toArray, List.getElem_cons_succ, List.getElem_cons_zero, Act.put, List.setIfInBounds_toArray, List.set_cons_zero, List.set_cons_succ]
                    refine wpAnyH_take (i := 7) (v := ?_) rfl (by kernel_rfl) (by kernel_rfl) (by kernel_rfl) (fun _ _ _ h => h) (Or.inl ⟨by rfl, ?_⟩) (by assumption) ?_
                    rotate_left
                    focus
                      intro U hU
                      try dsimp only at hU
                      go_simp
                      try (with_reducible rfl)
                    simp only [List.getElem_toArray, List.getElem_cons_succ, List.getElem_cons_zero, Act.put, List.setIfInBounds_toArray, List.set_cons_zero, List.set_cons_succ]
                    refine wpAnyH_take (i := 8) (v := ?_) rfl (by kernel_rfl) (by kernel_rfl) (by kernel_rfl) (fun _ _ _ h => h) (Or.inl ⟨by rfl, ?_⟩) (by assumption) ?_
                    rotate_left
                    focus
                      intro U hU
                      try dsimp only at hU
                      go_simp
                      try (with_reducible rfl)
                    simp only [List.getElem_toArray, List.getElem_cons_succ, List.getElem_cons_zero, Act.put, List.setIfInBounds_toArray, List.set_cons_zero, List.set_cons_succ]
                    refine wpAnyH_take (i := 9) (v := ?_) rfl (by kernel_rfl) (by kernel_rfl) (by kernel_rfl) (fun _ _ _ h => h) (Or.inl ⟨by rfl, ?_⟩) (by assumption) ?_
                    rotate_left
                    focus
                      intro U hU
                      try dsimp only at hU
                      go_simp
                      try (with_reducible rfl)
                    simp only [List.getElem_toArray, List.getElem_cons_succ, List.getElem_cons_zero, Act.put, List.setIfInBounds_toArray, List.set_cons_zero, List.set_cons_succ]
                    refine wpAnyH_ready (rs := [5]) (by kernel_rfl) (by simp) ?_
                    refine AllReadyH.cons rfl (fun K hK => ?_) AllReadyH.nil
                    simp only [List.getElem_toArray, List.getElem_cons_succ, List.getElem_cons_zero]
                    go_simp
                    refine (HLI9.out _ hu0).mono ?_
                    rintro q u1 ⟨A5, c5, rfl, hb1, ho1⟩
                    have hu1 : Below u9.heap.size u9 u1 := hu0.trans (hb1.mono hu0.size)
                    have HSA := hid (same_yes A5 A9 c5 cap9 l9 u1 (sl_own ho1) (HSL9.out u1 hu1))
                    clear hb1 ho1
                    go_wp2_with fail
                    refine hK.out _ _ ?_ (fun hHeld2 => ?_)
                    focus
                      exact hS9 _ (by with_reducible assumption)
                    clear hHeld
                    have hHeld := hHeld2
                    clear hHeld2 hK K
                    try simp only [List.getElem_toArray, List.getElem_cons_succ, List.getElem_cons_zero, Act.put, List.setIfInBounds_toArray, List.set_cons_zero, List.set_cons_succ]
                    refine wpAnyH_ready (rs := [10]) (by kernel_rfl) (by simp) ?_
                    refine AllReadyH.cons rfl (fun K hK => ?_) AllReadyH.nil
                    simp only [List.getElem_toArray, List.getElem_cons_succ, List.getElem_cons_zero]
                    go_simp
                    refine HSA.out.mono ?_
                    rintro q u2 ⟨rfl, hb2⟩
                    have hu2 : Below u9.heap.size u9 u2 := hu1.trans (hb2.mono hu1.size)
                    clear hb2
                    go_wp2_with fail
                    refine hK.out _ _ ?_ (fun hHeld2 => ?_)
                    focus
                      exact hS9 _ (by with_reducible assumption)
                    clear hHeld
                    have hHeld := hHeld2
                    clear hHeld2 hK K
                    try simp only [List.getElem_toArray, List.getElem_cons_succ, List.getElem_cons_zero, Act.put, List.setIfInBounds_toArray, List.set_cons_zero, List.set_cons_succ]
                    refine wpAnyH_take (i := 11) (v := ?_) rfl (by kernel_rfl) (by kernel_rfl) (by kernel_rfl) (fun _ _ _ h => h) (Or.inl ⟨by rfl, ?_⟩) (by assumption) ?_
                    rotate_left
                    focus
                      intro U hU
                      try dsimp only at hU
                      go_simp
                      try (with_reducible rfl)
                    simp only [List.getElem_toArray, List.getElem_cons_succ, List.getElem_cons_zero, Act.put, List.setIfInBounds_toArray, List.set_cons_zero, List.set_cons_succ]
                    refine wpAnyH_take (i := 12) (v := ?_) rfl (by kernel_rfl) (by kernel_rfl) (by kernel_rfl) (fun _ _ _ h => h) (Or.inl ⟨by rfl, ?_⟩) (by assumption) ?_
                    rotate_left
                    focus
                      intro U hU
                      try dsimp only at hU
                      go_simp
                      try (with_reducible rfl)
                    simp only [List.getElem_toArray, List.getElem_cons_succ, List.getElem_cons_zero, Act.put, List.setIfInBounds_toArray, List.set_cons_zero, List.set_cons_succ]
                    refine wpAnyH_take (i := 13) (v := ?_) rfl (by kernel_rfl) (by kernel_rfl) (by kernel_rfl) (fun _ _ _ h => h) (Or.inl ⟨by rfl, ?_⟩) (by assumption) ?_
                    rotate_left
                    focus
                      intro U hU
                      try dsimp only at hU
                      go_simp
                      try (with_reducible rfl)
                    simp only [List.getElem_toArray, List.getElem_cons_succ, List.getElem_cons_zero, Act.put, List.setIfInBounds_toArray, List.set_cons_zero, List.set_cons_succ]
                    refine wpAnyH_take (i := 14) (v := ?_) rfl (by kernel_rfl) (by kernel_rfl) (by kernel_rfl) (fun _ _ _ h => h) (Or.inl ⟨by rfl, ?_⟩) (by assumption) ?_
                    rotate_left
                    focus
                      intro U hU
                      try dsimp only at hU
                      go_simp
                      try (with_reducible rfl)
                    simp only [List.getElem_toArray, List.getElem_cons_succ, List.getElem_cons_zero, Act.put, List.setIfInBounds_toArray, List.set_cons_zero, List.set_cons_succ]
                    refine wpAnyH_take (i := 16) (v := ?_) rfl (by kernel_rfl) (by kernel_rfl) (by kernel_rfl) (fun _ _ _ h => h) (Or.inl ⟨by rfl, ?_⟩) (by assumption) ?_
                    rotate_left
                    focus
                      intro U hU
                      try dsimp only at hU
                      go_simp
                      try (with_reducible rfl)
                    simp only [List.getElem_toArray, List.getElem_cons_succ, List.getElem_cons_zero, Act.put, List.setIfInBounds_toArray, List.set_cons_zero, List.set_cons_succ]
                    refine wpAnyH_take (i := 17) (v := ?_) rfl (by kernel_rfl) (by kernel_rfl) (by kernel_rfl) (fun _ _ _ h => h) (Or.inl ⟨by rfl, ?_⟩) (by assumption) ?_
                    rotate_left
                    focus
                      intro U hU
                      try dsimp only at hU
                      go_simp
                      try (with_reducible rfl)
                    simp only [List.getElem_toArray, List.getElem_cons_succ, List.getElem_cons_zero, Act.put, List.setIfInBounds_toArray, List.set_cons_zero, List.set_cons_succ]
                    refine wpAnyH_take (i := 18) (v := ?_) rfl (by kernel_rfl) (by kernel_rfl) (by kernel_rfl) (fun _ _ _ h => h) (Or.inl ⟨by rfl, ?_⟩) (by assumption) ?_
                    rotate_left
                    focus
                      intro U hU
                      try dsimp only at hU
                      go_simp
                      try (with_reducible rfl)
                    simp only [List.getElem_toArray, List.getElem_cons_succ, List.getElem_cons_zero, Act.put, List.setIfInBounds_toArray, List.set_cons_zero, List.set_cons_succ]
                    refine wpAnyH_take (i := 19) (v := ?_) rfl (by kernel_rfl) (by kernel_rfl) (by kernel_rfl) (fun _ _ _ h => h) (Or.inl ⟨by rfl, ?_⟩) (by assumption) ?_
                    rotate_left
                    focus
                      intro U hU
                      try dsimp only at hU
                      go_simp
                      try (with_reducible rfl)
                    simp only [List.getElem_toArray, List.getElem_cons_succ, List.getElem_cons_zero, Act.put, List.setIfInBounds_toArray, List.set_cons_zero, List.set_cons_succ]
                    refine wpAnyH_take (i := 20) (v := ?_) rfl (by kernel_rfl) (by kernel_rfl) (by kernel_rfl) (fun _ _ _ h => h) (Or.inl ⟨by rfl, ?_⟩) (by assumption) ?_
                    rotate_left
                    focus
                      intro U hU
                      try dsimp only at hU
                      go_simp
                      try (with_reducible rfl)
                    simp only [List.getElem_toArray, List.getElem_cons_succ, List.getElem_cons_zero, Act.put, List.setIfInBounds_toArray, List.set_cons_zero, List.set_cons_succ]
                    refine wpAnyH_ready (rs := [15]) (by kernel_rfl) (by simp) ?_
                    refine AllReadyH.cons rfl (fun K hK => ?_) AllReadyH.nil
                    simp only [List.getElem_toArray, List.getElem_cons_succ, List.getElem_cons_zero]
                    go_simp
                    refine (HLE9.out _ hu2).mono ?_
                    rintro q u3 ⟨rfl, rfl⟩
                    go_wp2_with fail
                    refine hK.out _ _ ?_ (fun hHeld2 => ?_)
                    focus
                      exact hS9 _ (by with_reducible assumption)
                    clear hHeld
                    have hHeld := hHeld2
                    clear hHeld2 hK K
                    try simp only [List.getElem_toArray, List.getElem_cons_succ, List.getElem_cons_zero, Act.put, List.setIfInBounds_toArray, List.set_cons_zero, List.set_cons_succ]
                    refine wpAnyH_take (i := 21) (v := ?_) rfl (by kernel_rfl) (by kernel_rfl) (by kernel_rfl) (fun _ _ _ h => h) (Or.inl ⟨by rfl, ?_⟩) (by assumption) ?_
                    rotate_left
                    focus
                      intro U hU
                      try dsimp only at hU
                      go_simp
                      try (with_reducible rfl)
                    simp only [List.getElem_toArray, List.getElem_cons_succ, List.getElem_cons_zero, Act.put, List.setIfInBounds_toArray, List.set_cons_zero, List.set_cons_succ]
                    refine wpAnyH_take (i := 22) (v := ?_) rfl (by kernel_rfl) (by kernel_rfl) (by kernel_rfl) (fun _ _ _ h => h) (Or.inl ⟨by rfl, ?_⟩) (by assumption) ?_
                    rotate_left
                    focus
                      intro U hU
                      try dsimp only at hU
                      go_simp
                      try (with_reducible rfl)
                    simp only [List.getElem_toArray, List.getElem_cons_succ, List.getElem_cons_zero, Act.put, List.setIfInBounds_toArray, List.set_cons_zero, List.set_cons_succ]
                    refine wpAnyH_done (by kernel_rfl) ?_ _
                    clear hHeld hS9
                    have HU9 := hid hu2
                    clear hu0 hu1 hu2 HSL9 HLI9 HLE9 HC9 HSA
                    go_wp2
                    go_roundw
                    case rel => exact ⟨n + 1, b9, l9, by omega, by omega, by go_num, rfl, hid ⟨HN9.out.below HU9.out, HR9.out.below HU9.out, HOK9.out⟩, hid (HBU9.out.trans (HU9.out.mono HBU9.out.size))⟩
                    case measure => simp [intOf]; omega
                  · have hd30 : (d == 3) = false := by simpa using hd3
                    clear x0 x1 x2 x3 x4
                    obtain ⟨x0, x1, x2, x3, x4⟩ := five_cells HX.out
                    go_upto_region 24 with (fail)
                    clear x0 x1 x2 x3 x4
                    go_wp2_with fail
                    refine (nclone_far W.heap.size b m l w1 HI1.out.1 HB1.out.size (by omega)).mono ?_
                    rintro e u1 ⟨b9, hb9, rfl, hbl, hn9, hfar⟩
                    have hal : Below u1.heap.size u1 (u1.alloc (.cells #[.string ⟨#[120]⟩] 9)) := bel_alloc (Below.refl _ _) _
                    have hua : Below w1.heap.size w1 (u1.alloc (.cells #[.string ⟨#[120]⟩] 9)) := hbl.trans (hal.mono hbl.size)
                    have HNA := hid (HI1.out.1.below hua)
                    have HRA := hid (HI1.out.2.1.below hua)
                    have HNB := hid (hn9.below hal)
                    have HBA := hid (HB1.out.trans (hua.mono HB1.out.size))
                    have HBE : Hid (b9 ≠ b) := hid (fun h => by have h1 := HI1.out.1.lt; omega)
                    have HNE : Hid (u1.heap.size ≠ b) := hid (fun h => by have h1 := HI1.out.1.lt; have h2 := hbl.size; omega)
                    have HNK := hid (heap_alloc_new u1 (.cells #[.string ⟨#[120]⟩] 9))
                    have HSEP : Hid (∀ v v' kk, (u1.alloc (.cells #[.string ⟨#[120]⟩] 9)).cell? ⟨b, 1, none⟩ = some v → (u1.alloc (.cells #[.string ⟨#[120]⟩] 9)).cell? ⟨b9, 1, none⟩ = some v' → v.ownBlock = some kk → v'.ownBlock ≠ some kk) := hid (fun v v' kk h1 h2 h3 h4 => by
                      have h5 := hfar v' kk ((hal.cell (p := ⟨b9, 1, none⟩) hn9.lt).symm.trans h2) h4
                      have h6 := rowlt HI1.out.1 hua v kk h1 h3
                      omega)
                    have HOK9 : Hid (OkN m l) := hid HI1.out.2.2
                    clear hal hua hbl hn9 hfar hb9 HI HI1 HX HAK HB1
                    go_wp2_with fail
                    generalize u1.alloc (.cells #[.string ⟨#[120]⟩] 9) = ua at HNA HRA HNB HBA HNK HSEP ⊢
                    generalize u1.heap.size = N9 at HNE HNK ⊢
                    refine (nsend_x W.heap.size b N9 m l ua HNA.out HNK.out HNE.out HBA.out.size (by omega)).mono ?_
                    rintro e u2 ⟨r, rfl, hn2, hb2, ho2⟩
                    have HN2s := hid hn2
                    have HB2s := hid (HBA.out.trans hb2)
                    have HO2s := hid ho2
                    have HSX := hid (OkN.send (m := m) (f := 3) (t := 4) [[120]] HOK9.out (by simp)).2
                    clear hn2 hb2 ho2
                    generalize sendL m 3 4 l [[120]] = l2 at HN2s HSX
                    go_wp2_with fail
                    refine (ntu_oth W.heap.size b m l2 0 0 1 u2 HN2s.out HB2s.out.size HSX.out (by decide)).mono ?_
                    rintro e u9 ⟨rfl, hn3, hb3, ho3⟩
                    have HO := hid (HO2s.out.trans ho3)
                    have HN9 := hid (NetAt.oth HNA.out HNB.out HBE.out HSEP.out HO.out)
                    have HR9 := hid (HRA.out.oth HNA.out HO.out)
                    have HBU9 := hid (HB2s.out.trans hb3)
                    clear hn3 hb3 ho3 HO HN2s HB2s HO2s HSX HNA HRA HNB HBA HNK HSEP HBE HNE
                    have l9e : ∃ l9, l9 = l := ⟨_, rfl⟩
                    obtain ⟨l9, rfl⟩ := l9e
                    have hll : l9.length ≤ 100000 := by have := HOK9.out.1; omega
                    obtain ⟨hBc9, A9, cap9, hc9, ho9⟩ := HR9.out
                    have HC9 := hid hc9
                    have HSL9 := hid (fun U (hU : Below u9.heap.size u9 U) => (sl_own ho9).below hU)
                    have HLI9 := hid (fun U (hU : Below u9.heap.size u9 U) => nlist_any W.heap.size b9 m l9 U (HN9.out.below hU) hll)
                    have HLE9 := hid (fun U (hU : Below u9.heap.size u9 U) => nlen_any W.heap.size b9 m l9 U (HN9.out.below hU))
                    have hS9 : ∀ U, Below u9.heap.size u9 U → (U.cell? ⟨c, 0, none⟩ = some (.slice A9 l9.length cap9) ∧ Below u9.heap.size u9 U) := fun U hU => ⟨(two_cells (keep0 HC9.out hU)).1, hU⟩
                    clear hBc9 hc9 ho9
                    go_upto_region 28 with (fail)
                    have hu0 : Below u9.heap.size u9 u9.drew := below_drew (Below.refl _ _)
                    refine wp_region_held_drew (S := fun U => U.cell? ⟨c, 0, none⟩ = some (.slice A9 l9.length cap9) ∧ Below u9.heap.size u9 U) (by kernel_rfl) (hS9 _ hu0) (fun hHeld => ?_)
                    generalize u9.drew = u0 at *
                    refine wpAnyH_take (i := 0) (v := ?_) rfl (by kernel_rfl) (by kernel_rfl) (by kernel_rfl) (fun _ _ _ h => h) (Or.inl ⟨by rfl, ?_⟩) (by assumption) ?_
                    rotate_left
                    focus
                      intro U hU
                      try dsimp only at hU
                      go_simp
                      try (with_reducible rfl)
                    simp only [List.getElem_toArray, List.getElem_cons_succ, List.getElem_cons_zero, Act.put, List.setIfInBounds_toArray, List.set_cons_zero, List.set_cons_succ]
                    refine wpAnyH_take (i := 1) (v := ?_) rfl (by kernel_rfl) (by kernel_rfl) (by kernel_rfl) (fun _ _ _ h => h) (Or.inl ⟨by rfl, ?_⟩) (by assumption) ?_
                    rotate_left
                    focus
                      intro U hU
                      try dsimp only at hU
                      go_simp
                      try (with_reducible rfl)
                    simp only [List.getElem_toArray, List.getElem_cons_succ, List.getElem_cons_zero, Act.put, List.setIfInBounds_toArray, List.set_cons_zero, List.set_cons_succ]
                    refine wpAnyH_take (i := 2) (v := ?_) rfl (by kernel_rfl) (by kernel_rfl) (by kernel_rfl) (fun _ _ _ h => h) (Or.inl ⟨by rfl, ?_⟩) (by assumption) ?_
                    rotate_left
                    focus
                      intro U hU
                      try dsimp only at hU
                      go_simp
                      try (with_reducible rfl)
                    simp only [List.getElem_toArray, List.getElem_cons_succ, List.getElem_cons_zero, Act.put, List.setIfInBounds_toArray, List.set_cons_zero, List.set_cons_succ]
                    refine wpAnyH_take (i := 3) (v := ?_) rfl (by kernel_rfl) (by kernel_rfl) (by kernel_rfl) (fun _ _ _ h => h) (Or.inl ⟨by rfl, ?_⟩) (by assumption) ?_
                    rotate_left
                    focus
                      intro U hU
                      try dsimp only at hU
                      go_simp
                      try (with_reducible rfl)
                    simp only [List.getElem_toArray, List.getElem_cons_succ, List.getElem_cons_zero, Act.put, List.setIfInBounds_toArray, List.set_cons_zero, List.set_cons_succ]
                    refine wpAnyH_take (i := 4) (v := ?_) rfl (by kernel_rfl) (by kernel_rfl) (by kernel_rfl) (fun _ _ _ h => h) (Or.inl ⟨by rfl, ?_⟩) (by assumption) ?_
                    rotate_left
                    focus
                      intro U hU
                      try dsimp only at hU
                      go_simp
                      try (with_reducible rfl)
                    simp only [List.getElem_toArray, List.getElem_cons_succ, List.getElem_cons_zero, Act.put, List.setIfInBounds_toArray, List.set_cons_zero, List.set_cons_succ]
                    refine wpAnyH_take (i := 6) (v := ?_) rfl (by kernel_rfl) (by kernel_rfl) (by kernel_rfl) (fun _ _ _ h => h) (Or.inl ⟨by rfl, ?_⟩) (by assumption) ?_
                    rotate_left
                    focus
                      intro U hU
                      try dsimp only at hU
                      go_simp
                      try (with_reducible rfl)
                    simp only [List.getElem_toArray, List.getElem_cons_succ, List.getElem_cons_zero, Act.put, List.setIfInBounds_toArray, List.set_cons_zero, List.set_cons_succ]
                    refine wpAnyH_take (i := 7) (v := ?_) rfl (by kernel_rfl) (by kernel_rfl) (by kernel_rfl) (fun _ _ _ h => h) (Or.inl ⟨by rfl, ?_⟩) (by assumption) ?_
                    rotate_left
                    focus
                      intro U hU
                      try dsimp only at hU
                      go_simp
                      try (with_reducible rfl)
                    simp only [List.getElem_toArray, List.getElem_cons_succ, List.getElem_cons_zero, Act.put, List.setIfInBounds_toArray, List.set_cons_zero, List.set_cons_succ]
                    refine wpAnyH_take (i := 8) (v := ?_) rfl (by kernel_rfl) (by kernel_rfl) (by kernel_rfl) (fun _ _ _ h => h) (Or.inl ⟨by rfl, ?_⟩) (by assumption) ?_
                    rotate_left
                    focus
                      intro U hU
                      try dsimp only at hU
                      go_simp
                      try (with_reducible rfl)
                    simp only [List.getElem_toArray, List.getElem_cons_succ, List.getElem_cons_zero, Act.put, List.setIfInBounds_toArray, List.set_cons_zero, List.set_cons_succ]
                    refine wpAnyH_take (i := 9) (v := ?_) rfl (by kernel_rfl) (by kernel_rfl) (by kernel_rfl) (fun _ _ _ h => h) (Or.inl ⟨by rfl, ?_⟩) (by assumption) ?_
                    rotate_left
                    focus
                      intro U hU
                      try dsimp only at hU
                      go_simp
                      try (with_reducible rfl)
                    simp only [List.getElem_toArray, List.getElem_cons_succ, List.getElem_cons_zero, Act.put, List.setIfInBounds_toArray, List.set_cons_zero, List.set_cons_succ]
                    refine wpAnyH_ready (rs := [5]) (by kernel_rfl) (by simp) ?_
                    refine AllReadyH.cons rfl (fun K hK => ?_) AllReadyH.nil
                    simp only [List.getElem_toArray, List.getElem_cons_succ, List.getElem_cons_zero]
                    go_simp
                    refine (HLI9.out _ hu0).mono ?_
                    rintro q u1 ⟨A5, c5, rfl, hb1, ho1⟩
                    have hu1 : Below u9.heap.size u9 u1 := hu0.trans (hb1.mono hu0.size)
                    have HSA := hid (same_yes A5 A9 c5 cap9 l9 u1 (sl_own ho1) (HSL9.out u1 hu1))
                    clear hb1 ho1
                    go_wp2_with fail
                    refine hK.out _ _ ?_ (fun hHeld2 => ?_)
                    focus
                      exact hS9 _ (by with_reducible assumption)
                    clear hHeld
                    have hHeld := hHeld2
                    clear hHeld2 hK K
                    try simp only [List.getElem_toArray, List.getElem_cons_succ, List.getElem_cons_zero, Act.put, List.setIfInBounds_toArray, List.set_cons_zero, List.set_cons_succ]
                    refine wpAnyH_ready (rs := [10]) (by kernel_rfl) (by simp) ?_
                    refine AllReadyH.cons rfl (fun K hK => ?_) AllReadyH.nil
                    simp only [List.getElem_toArray, List.getElem_cons_succ, List.getElem_cons_zero]
                    go_simp
                    refine HSA.out.mono ?_
                    rintro q u2 ⟨rfl, hb2⟩
                    have hu2 : Below u9.heap.size u9 u2 := hu1.trans (hb2.mono hu1.size)
                    clear hb2
                    go_wp2_with fail
                    refine hK.out _ _ ?_ (fun hHeld2 => ?_)
                    focus
                      exact hS9 _ (by with_reducible assumption)
                    clear hHeld
                    have hHeld := hHeld2
                    clear hHeld2 hK K
                    try simp only [List.getElem_toArray, List.getElem_cons_succ, List.getElem_cons_zero, Act.put, List.setIfInBounds_toArray, List.set_cons_zero, List.set_cons_succ]
                    refine wpAnyH_take (i := 11) (v := ?_) rfl (by kernel_rfl) (by kernel_rfl) (by kernel_rfl) (fun _ _ _ h => h) (Or.inl ⟨by rfl, ?_⟩) (by assumption) ?_
                    rotate_left
                    focus
                      intro U hU
                      try dsimp only at hU
                      go_simp
                      try (with_reducible rfl)
                    simp only [List.getElem_toArray, List.getElem_cons_succ, List.getElem_cons_zero, Act.put, List.setIfInBounds_toArray, List.set_cons_zero, List.set_cons_succ]
                    refine wpAnyH_take (i := 12) (v := ?_) rfl (by kernel_rfl) (by kernel_rfl) (by kernel_rfl) (fun _ _ _ h => h) (Or.inl ⟨by rfl, ?_⟩) (by assumption) ?_
                    rotate_left
                    focus
                      intro U hU
                      try dsimp only at hU
                      go_simp
                      try (with_reducible rfl)
                    simp only [List.getElem_toArray, List.getElem_cons_succ, List.getElem_cons_zero, Act.put, List.setIfInBounds_toArray, List.set_cons_zero, List.set_cons_succ]
                    refine wpAnyH_take (i := 13) (v := ?_) rfl (by kernel_rfl) (by kernel_rfl) (by kernel_rfl) (fun _ _ _ h => h) (Or.inl ⟨by rfl, ?_⟩) (by assumption) ?_
                    rotate_left
                    focus
                      intro U hU
                      try dsimp only at hU
                      go_simp
                      try (with_reducible rfl)
                    simp only [List.getElem_toArray, List.getElem_cons_succ, List.getElem_cons_zero, Act.put, List.setIfInBounds_toArray, List.set_cons_zero, List.set_cons_succ]
                    refine wpAnyH_take (i := 14) (v := ?_) rfl (by kernel_rfl) (by kernel_rfl) (by kernel_rfl) (fun _ _ _ h => h) (Or.inl ⟨by rfl, ?_⟩) (by assumption) ?_
                    rotate_left
                    focus
                      intro U hU
                      try dsimp only at hU
                      go_simp
                      try (with_reducible rfl)
                    simp only [List.getElem_toArray, List.getElem_cons_succ, List.getElem_cons_zero, Act.put, List.setIfInBounds_toArray, List.set_cons_zero, List.set_cons_succ]
                    refine wpAnyH_take (i := 16) (v := ?_) rfl (by kernel_rfl) (by kernel_rfl) (by kernel_rfl) (fun _ _ _ h => h) (Or.inl ⟨by rfl, ?_⟩) (by assumption) ?_
                    rotate_left
                    focus
                      intro U hU
                      try dsimp only at hU
                      go_simp
                      try (with_reducible rfl)
                    simp only [List.getElem_toArray, List.getElem_cons_succ, List.getElem_cons_zero, Act.put, List.setIfInBounds_toArray, List.set_cons_zero, List.set_cons_succ]
                    refine wpAnyH_take (i := 17) (v := ?_) rfl (by kernel_rfl) (by kernel_rfl) (by kernel_rfl) (fun _ _ _ h => h) (Or.inl ⟨by rfl, ?_⟩) (by assumption) ?_
                    rotate_left
                    focus
                      intro U hU
                      try dsimp only at hU
                      go_simp
                      try (with_reducible rfl)
                    simp only [List.getElem_toArray, List.getElem_cons_succ, List.getElem_cons_zero, Act.put, List.setIfInBounds_toArray, List.set_cons_zero, List.set_cons_succ]
                    refine wpAnyH_take (i := 18) (v := ?_) rfl (by kernel_rfl) (by kernel_rfl) (by kernel_rfl) (fun _ _ _ h => h) (Or.inl ⟨by rfl, ?_⟩) (by assumption) ?_
                    rotate_left
                    focus
                      intro U hU
                      try dsimp only at hU
                      go_simp
                      try (with_reducible rfl)
                    simp only [List.getElem_toArray, List.getElem_cons_succ, List.getElem_cons_zero, Act.put, List.setIfInBounds_toArray, List.set_cons_zero, List.set_cons_succ]
                    refine wpAnyH_take (i := 19) (v := ?_) rfl (by kernel_rfl) (by kernel_rfl) (by kernel_rfl) (fun _ _ _ h => h) (Or.inl ⟨by rfl, ?_⟩) (by assumption) ?_
                    rotate_left
                    focus
                      intro U hU
                      try dsimp only at hU
                      go_simp
                      try (with_reducible rfl)
                    simp only [List.getElem_toArray, List.getElem_cons_succ, List.getElem_cons_zero, Act.put, List.setIfInBounds_toArray, List.set_cons_zero, List.set_cons_succ]
                    refine wpAnyH_take (i := 20) (v := ?_) rfl (by kernel_rfl) (by kernel_rfl) (by kernel_rfl) (fun _ _ _ h => h) (Or.inl ⟨by rfl, ?_⟩) (by assumption) ?_
                    rotate_left
                    focus
                      intro U hU
                      try dsimp only at hU
                      go_simp
                      try (with_reducible rfl)
                    simp only [List.getElem_toArray, List.getElem_cons_succ, List.getElem_cons_zero, Act.put, List.setIfInBounds_toArray, List.set_cons_zero, List.set_cons_succ]
                    refine wpAnyH_ready (rs := [15]) (by kernel_rfl) (by simp) ?_
                    refine AllReadyH.cons rfl (fun K hK => ?_) AllReadyH.nil
                    simp only [List.getElem_toArray, List.getElem_cons_succ, List.getElem_cons_zero]
                    go_simp
                    refine (HLE9.out _ hu2).mono ?_
                    rintro q u3 ⟨rfl, rfl⟩
                    go_wp2_with fail
                    refine hK.out _ _ ?_ (fun hHeld2 => ?_)
                    focus
                      exact hS9 _ (by with_reducible assumption)
                    clear hHeld
                    have hHeld := hHeld2
                    clear hHeld2 hK K
                    try simp only [List.getElem_toArray, List.getElem_cons_succ, List.getElem_cons_zero, Act.put, List.setIfInBounds_toArray, List.set_cons_zero, List.set_cons_succ]
                    refine wpAnyH_take (i := 21) (v := ?_) rfl (by kernel_rfl) (by kernel_rfl) (by kernel_rfl) (fun _ _ _ h => h) (Or.inl ⟨by rfl, ?_⟩) (by assumption) ?_
                    rotate_left
                    focus
                      intro U hU
                      try dsimp only at hU
                      go_simp
                      try (with_reducible rfl)
                    simp only [List.getElem_toArray, List.getElem_cons_succ, List.getElem_cons_zero, Act.put, List.setIfInBounds_toArray, List.set_cons_zero, List.set_cons_succ]
                    refine wpAnyH_take (i := 22) (v := ?_) rfl (by kernel_rfl) (by kernel_rfl) (by kernel_rfl) (fun _ _ _ h => h) (Or.inl ⟨by rfl, ?_⟩) (by assumption) ?_
                    rotate_left
                    focus
                      intro U hU
                      try dsimp only at hU
                      go_simp
                      try (with_reducible rfl)
                    simp only [List.getElem_toArray, List.getElem_cons_succ, List.getElem_cons_zero, Act.put, List.setIfInBounds_toArray, List.set_cons_zero, List.set_cons_succ]
                    refine wpAnyH_done (by kernel_rfl) ?_ _
                    clear hHeld hS9
                    have HU9 := hid hu2
                    clear hu0 hu1 hu2 HSL9 HLI9 HLE9 HC9 HSA
                    go_wp2
                    go_roundw
                    case rel => exact ⟨n + 1, b9, l9, by omega, by omega, by go_num, rfl, hid ⟨HN9.out.below HU9.out, HR9.out.below HU9.out, HOK9.out⟩, hid (HBU9.out.trans (HU9.out.mono HBU9.out.size))⟩
                    case measure => simp [intOf]; omega
        · have h62 : ¬ (n : Int) < 60 := by omega
          go_wp2_with fail
          refine (ntake_nil 0 _).mono ?_
          rintro e z1 ⟨rfl, hb⟩
          have HZ1 := hid (HB.out.trans (hb.mono HB.out.size))
          clear hb
          go_upto_region 32 with (fail)
          refine at_world (fun u => Below W.heap.size W u) (bel_alloc HZ1.out _) ?_
          rintro z2 hb
          have HZ2 := hid hb
          clear hb HZ1
          go_wp2_with fail
          refine (nsend_nil 1 2 _ 1 1 _).mono ?_
          rintro e z3 ⟨rfl, rfl⟩
          go_wp2_with fail
          refine (nlen_nil _).mono ?_
          rintro e z3 ⟨rfl, rfl⟩
          go_wp2_with fail
          refine (nlist_nil _).mono ?_
          rintro e z3 ⟨rfl, rfl⟩
          go_wp2_with fail
          refine (ntwice_nil 0 _).mono ?_
          rintro e z3 ⟨rfl, rfl⟩
          go_wp2_with fail
          refine (nturn_nil 0 0 1 _).mono ?_
          rintro e z3 ⟨rfl, rfl⟩
          go_wp2_with fail
          refine (nclone_nil _).mono ?_
          rintro e z3 ⟨rfl, rfl⟩
          go_wp2_with fail
          refine (works28_any _).mono ?_
          rintro e z4 ⟨rfl, hb⟩
          have HZ4 := hid ((bel_alloc HZ2.out _).trans (hb.mono (bel_alloc HZ2.out _).size))
          clear hb
          go_wp2
          go_ret
          exact ⟨rfl, HZ4.out⟩
      · have hlt2 : ¬ (n : Int) < (acts.length : Int) := by omega
        go_wp2_with fail
        refine (ntake_nil 0 _).mono ?_
        rintro e z1 ⟨rfl, hb⟩
        have HZ1 := hid (HB.out.trans (hb.mono HB.out.size))
        clear hb
        go_upto_region 32 with (fail)
        refine at_world (fun u => Below W.heap.size W u) (bel_alloc HZ1.out _) ?_
        rintro z2 hb
        have HZ2 := hid hb
        clear hb HZ1
        go_wp2_with fail
        refine (nsend_nil 1 2 _ 1 1 _).mono ?_
        rintro e z3 ⟨rfl, rfl⟩
        go_wp2_with fail
        refine (nlen_nil _).mono ?_
        rintro e z3 ⟨rfl, rfl⟩
        go_wp2_with fail
        refine (nlist_nil _).mono ?_
        rintro e z3 ⟨rfl, rfl⟩
        go_wp2_with fail
        refine (ntwice_nil 0 _).mono ?_
        rintro e z3 ⟨rfl, rfl⟩
        go_wp2_with fail
        refine (nturn_nil 0 0 1 _).mono ?_
        rintro e z3 ⟨rfl, rfl⟩
        go_wp2_with fail
        refine (nclone_nil _).mono ?_
        rintro e z3 ⟨rfl, rfl⟩
        go_wp2_with fail
        refine (works28_any _).mono ?_
        rintro e z4 ⟨rfl, hb⟩
        have HZ4 := hid ((bel_alloc HZ2.out _).trans (hb.mono (bel_alloc HZ2.out _).size))
        clear hb
        go_wp2
        go_ret
        exact ⟨rfl, HZ4.out⟩
  · have HNW := hid (nnew_out m (by omega) W)
    by_cases hm1 : m ≥ 1
    · have hm2 : ¬ m ≤ 1024 := fun h => hm ⟨hm1, h⟩
      clear hm
      go_wp2_with fail
      refine HNW.out.mono ?_
      rintro e w1 ⟨rfl, rfl⟩
      clear HNW
      go_upto_region 3 with (fail)
      refine at_world (fun u => Below W.heap.size W u) (bel_alloc (Below.refl _ _) _) ?_
      rintro w2 hb
      have HB := hid hb
      clear hb
      go_wp2
      refine wp_loop_rounds 1 ?_
      rw [rounds_succ]
      go_wp2_with fail
      refine (ntake_nil 0 _).mono ?_
      rintro e z1 ⟨rfl, hb⟩
      have HZ1 := hid (HB.out.trans (hb.mono HB.out.size))
      clear hb
      go_upto_region 32 with (fail)
      refine at_world (fun u => Below W.heap.size W u) (bel_alloc HZ1.out _) ?_
      rintro z2 hb
      have HZ2 := hid hb
      clear hb HZ1
      go_wp2_with fail
      refine (nsend_nil 1 2 _ 1 1 _).mono ?_
      rintro e z3 ⟨rfl, rfl⟩
      go_wp2_with fail
      refine (nlen_nil _).mono ?_
      rintro e z3 ⟨rfl, rfl⟩
      go_wp2_with fail
      refine (nlist_nil _).mono ?_
      rintro e z3 ⟨rfl, rfl⟩
      go_wp2_with fail
      refine (ntwice_nil 0 _).mono ?_
      rintro e z3 ⟨rfl, rfl⟩
      go_wp2_with fail
      refine (nturn_nil 0 0 1 _).mono ?_
      rintro e z3 ⟨rfl, rfl⟩
      go_wp2_with fail
      refine (nclone_nil _).mono ?_
      rintro e z3 ⟨rfl, rfl⟩
      go_wp2_with fail
      refine (works28_any _).mono ?_
      rintro e z4 ⟨rfl, hb⟩
      have HZ4 := hid ((bel_alloc HZ2.out _).trans (hb.mono (bel_alloc HZ2.out _).size))
      clear hb
      go_wp2
      go_ret
      exact ⟨rfl, HZ4.out⟩
    · clear hm
      go_wp2_with fail
      refine HNW.out.mono ?_
      rintro e w1 ⟨rfl, rfl⟩
      clear HNW
      go_upto_region 3 with (fail)
      refine at_world (fun u => Below W.heap.size W u) (bel_alloc (Below.refl _ _) _) ?_
      rintro w2 hb
      have HB := hid hb
      clear hb
      go_wp2
      refine wp_loop_rounds 1 ?_
      rw [rounds_succ]
      go_wp2_with fail
      refine (ntake_nil 0 _).mono ?_
      rintro e z1 ⟨rfl, hb⟩
      have HZ1 := hid (HB.out.trans (hb.mono HB.out.size))
      clear hb
      go_upto_region 32 with (fail)
      refine at_world (fun u => Below W.heap.size W u) (bel_alloc HZ1.out _) ?_
      rintro z2 hb
      have HZ2 := hid hb
      clear hb HZ1
      go_wp2_with fail
      refine (nsend_nil 1 2 _ 1 1 _).mono ?_
      rintro e z3 ⟨rfl, rfl⟩
      go_wp2_with fail
      refine (nlen_nil _).mono ?_
      rintro e z3 ⟨rfl, rfl⟩
      go_wp2_with fail
      refine (nlist_nil _).mono ?_
      rintro e z3 ⟨rfl, rfl⟩
      go_wp2_with fail
      refine (ntwice_nil 0 _).mono ?_
      rintro e z3 ⟨rfl, rfl⟩
      go_wp2_with fail
      refine (nturn_nil 0 0 1 _).mono ?_
      rintro e z3 ⟨rfl, rfl⟩
      go_wp2_with fail
      refine (nclone_nil _).mono ?_
      rintro e z3 ⟨rfl, rfl⟩
      go_wp2_with fail
      refine (works28_any _).mono ?_
      rintro e z4 ⟨rfl, hb⟩
      have HZ4 := hid ((bel_alloc HZ2.out _).trans (hb.mono (bel_alloc HZ2.out _).size))
      clear hb
      go_wp2
      go_ret
      exact ⟨rfl, HZ4.out⟩
end Go.Proofs.Ytdphdodjidbngaa
