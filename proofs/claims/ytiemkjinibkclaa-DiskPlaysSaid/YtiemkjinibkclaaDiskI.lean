/- DiskPlays. -/
import Derived.Test.YtiemkjinibkclaaDiskH
namespace Go.Proofs.Ytiemkjinibkclaa
open Go.RowKit Go.Sort
set_option linter.unusedVariables false
set_option linter.unusedSimpArgs false

theorem isBytes_onlyB {w w' : World} {a : Option Addr} {n cap R : Nat} {m : List UInt8} {cs : Array Value} {T : TypeId} (h : IsBytes w a n cap m) (hR : w.heap[R]? = some (.cells cs T (0, 0))) (hx : ∀ (i : Nat) (n : Int), cs[i]? ≠ some (.int .u8 n)) (ho : Only R w w') : IsBytes w' a n cap m := by
  refine ⟨h.1, h.2.1, h.2.2.1, fun h0 => ?_⟩
  obtain ⟨c, off, rfl, hc⟩ := h.2.2.2 h0
  have hne : c ≠ R := by
    rintro rfl
    have h9 := hc 0 h0
    rw [Nat.add_zero, cell_of_row w c off _ _ (0, 0) hR, List.getElem?_eq_getElem h0] at h9
    simp only [bcells, List.getElem_map] at h9
    exact hx _ _ h9
  refine ⟨c, off, rfl, fun i hi => ?_⟩
  have h4 := hc i hi
  rw [List.getElem?_eq_getElem hi] at h4 ⊢
  rw [World.cell?_of_block (ho.keep c hne (lt_of_cell h4))]
  exact h4
theorem rk_no (s : ByteArray) (a b : Int) (i : Nat) (x : Int) : (#[.string s, .int .i64 a, .int .i64 b] : Array Value)[i]? ≠ some (.int .u8 x) := by
  match i with
  | 0 => simp
  | 1 => simp
  | 2 => simp
  | m + 3 => simp
theorem DiskAt.onlyR {w w' : World} {D R room room' : Nat} {l l' : List UInt8} {armed : Bool} {fuse : Nat} {fu : Int} (h : DiskAt w D room l armed fuse) (hR : RkAt w R room' l' fu) (hne : D ≠ R) (ho : Only R w w') : DiskAt w' D room l armed fuse := by
  obtain ⟨A, c, h1, h2⟩ := h
  exact ⟨A, c, ho.block h1 hne, isBytes_onlyB h2 hR (rk_no _ _ _) ho⟩
theorem DiskAt.onlyD {w w' : World} {D D' room room' : Nat} {l l' : List UInt8} {armed armed' : Bool} {fuse fuse' : Nat} (h : DiskAt w D room l armed fuse) (hD : DiskAt w D' room' l' armed' fuse') (hne : D ≠ D') (ho : Only D' w w') : DiskAt w' D room l armed fuse := by
  obtain ⟨A, c, h1, h2⟩ := h
  exact ⟨A, c, ho.block h1 hne, isBytes_disk h2 hD ho⟩
theorem apL_len (room : Nat) (l m : List UInt8) (armed : Bool) (fuse : Nat) : (apL room l m armed fuse).length ≤ l.length + m.length := by
  unfold apL
  split
  · omega
  · split
    · rw [List.length_append, List.length_take]; omega
    · rw [List.length_append]; omega
theorem apL_room (room : Nat) (l m : List UInt8) (armed : Bool) (fuse : Nat) (hl : l.length ≤ room) : (apL room l m armed fuse).length ≤ room := by
  unfold apL
  split
  · exact hl
  · split
    · rw [List.length_append, List.length_take]; omega
    · rw [List.length_append]; omega
theorem cutL_len (l : List UInt8) (n : Int) : (cutL l n).length ≤ l.length := by
  unfold cutL
  split
  · omega
  · rw [List.length_take]; omega
/-- The law's two disks. -/
structure PSt (W w : World) (D R room : Nat) (l : List UInt8) (armed : Bool) (fuse : Nat) (fu : Int) : Prop where
  d : DiskAt w D room l armed fuse
  r : RkAt w R room l fu
  bel : Below W.heap.size W w
  hD : W.heap.size ≤ D
  hR : W.heap.size ≤ R
  ne : D ≠ R
  ar : armed = decide (0 ≤ fu)
  fs : 0 ≤ fu → fuse = fu.toNat
  lr : l.length ≤ room
theorem PSt.below {W w w' : World} {D R room : Nat} {l : List UInt8} {armed : Bool} {fuse : Nat} {fu : Int} (h : PSt W w D R room l armed fuse fu) (hb : Below w.heap.size w w') : PSt W w' D R room l armed fuse fu :=
  ⟨h.d.below hb, keep0 h.r hb, h.bel.trans (hb.mono h.bel.size), h.hD, h.hR, h.ne, h.ar, h.fs, h.lr⟩
/-- An act's copy in the law's own block. -/
def AbAt (w : World) (B : Nat) (d n : Int) (Bp : Option Addr) (Bn Bc : Nat) : Prop := w.heap[B]? = some (.cells #[.int .i64 d, .int .i64 n, .slice Bp Bn Bc] 41 (0, 0))

set_option maxRecDepth 20000 in
set_option maxHeartbeats 8000000 in
theorem diskPlays_in (room : Nat) (hr : room ≤ 65536) (A : Option Addr) (len cap : Nat) (g : Nat → ActD) (W : World) (hlen : len ≤ 60) (hA : 0 < len → ∃ b off, A = some ⟨b, off, none⟩ ∧ ∀ i, i < len → ActAt W b (off + i * 3) (g i)) :
    Calls Try.prog 5 #[.int .i64 (room : Int), .slice A len cap] W fun e w' => e = .returned (.bool true) ∧ Below W.heap.size W w' := by
  have HW := hid works16_any
  have HAC := hid hA
  have HN := hid (fun w => dnew_in room hr w)
  have HRN := hid (fun w => rnew_any (room : Int) w)
  rw [decide_eq_true (show (0 : Int) ≤ (room : Int) ∧ (room : Int) ≤ 65536 by omega)] at HRN
  have h1 : decide (60 < (len : Int)) = false := decide_eq_false (by omega)
  have h2 : (len : Int) ≤ 60 := by omega
  clear hA hlen
  go_enter Try.func5, Try.ntmps5
  go_wp2_with fail
  go_loop [5] (fun iv => ∃ k : Nat, k ≤ len ∧ iv = .int .i64 (k : Int) ∧ Hid (∀ i, i < k → (g i).2.2.2.2.length ≤ 2000)) (fun iv => len - (intOf iv).toNat)
  case atStart => exact ⟨0, by omega, rfl, fun i hi => by omega⟩
  case round =>
    obtain ⟨k, hk, rfl, HLE⟩ := hrel
    by_cases hlt : k < len
    · have hlt2 : (k : Int) < (len : Int) := by omega
      have hk0 : (0 : Int) ≤ (k : Int) := by omega
      obtain ⟨b, off, rfl, hact⟩ := HAC.out (by omega)
      obtain ⟨c0, c1, c2, hB⟩ := hact k hlt
      have hBl := hB.len
      have HGK : Hid ((g k).2.2.2.2.length ≤ 2000 → ∀ i, i < k + 1 → (g i).2.2.2.2.length ≤ 2000) := hid (fun h9 i hi => by
        by_cases e : i = k
        · rw [e]; exact h9
        · exact HLE.out i (by omega))
      clear hact c0 c1
      generalize g k = x at *
      obtain ⟨d, n, Bp, Bc, bl⟩ := x
      simp only at c2 hB hBl HGK
      by_cases hlong : 2000 < bl.length
      · have h3 : decide (2000 < (bl.length : Int)) = true := decide_eq_true (by omega)
        have h4 : 2000 < (bl.length : Int) := by omega
        have hmx : bl.length ≤ maxLen := by omega
        unfold maxLen at hmx
        clear hlong hBl hB
        go_wp2_with (go_at_call 19; refine (HW.out _).mono ?_; rintro y w' ⟨rfl, hb9⟩)
        go_ret
        exact ⟨rfl, hb9⟩
      · have h3 : decide (2000 < (bl.length : Int)) = false := decide_eq_false (by omega)
        have h4 : (bl.length : Int) ≤ 2000 := by omega
        have HG2 := hid (HGK.out (by omega))
        clear hlong hBl hB HGK
        go_wp2
        go_round
        case rel => exact ⟨k + 1, by omega, by go_num, HG2.out⟩
        case measure => simp [intOf]; omega
    · obtain rfl : k = len := by omega
      have hge : ¬ (k : Int) < (k : Int) := by omega
      clear hlt hk hge
      have HLEN := hid HLE.out
      clear HLE
      go_wp2_with fail
      refine (HN.out _).mono ?_
      rintro y w1 ⟨rfl, hD1, hb1⟩
      have HD1 := hid hD1
      have HB1 := hid hb1
      have HDL := hid hD1.lt
      clear hD1 hb1 HN
      generalize hDD : W.heap.size = D at HD1 HDL ⊢
      have HDD := hid hDD
      clear hDD
      go_wp2_with fail
      refine (HRN.out _).mono ?_
      rintro y w2 ⟨rfl, hb2⟩
      have KS : PSt W (w2.alloc (.cells #[.string ⟨#[]⟩, .int .i64 (room : Int), .int .i64 (-1)] 45)) D w2.heap.size room [] false 0 (-1) :=
        ⟨(HD1.out.below hb2).below (bl1 _ _), heap_alloc_new _ _, (HB1.out.trans (hb2.mono HB1.out.size)).alloc (Nat.le_trans HB1.out.size hb2.size) _, by rw [HDD.out]; exact Nat.le_refl _, Nat.le_trans HB1.out.size hb2.size, by have := HDL.out; have := hb2.size; omega, by decide, fun h9 => absurd h9 (by decide), by simp⟩
      have HKS := hid KS
      clear KS hb2 HD1 HB1 HRN HDL
      go_upto_region 12 with (fail)
      have KS := HKS.out
      clear HKS
      generalize w2.heap.size = R at KS ⊢
      refine at_world (fun w => PSt W w D R room [] false 0 (-1)) KS ?_
      clear KS
      rintro w3 KS
      have HKS := hid KS
      clear KS HDD
      go_wp2
      go_loopw [6, 9] (fun dv iv wr => ∃ (j D : Nat) (l : List UInt8) (armed : Bool) (fuse : Nat) (fu : Int), j ≤ k ∧ iv = .int .i64 (j : Int) ∧ dv = .pointer (some ⟨D, 0, none⟩) ∧ Hid (PSt W wr D R room l armed fuse fu)) (fun _ iv _ => k - (intOf iv).toNat)
      case atStart => exact ⟨0, D, [], false, 0, -1, by omega, rfl, rfl, HKS.out⟩
      case round =>
        obtain ⟨j, D, l, armed, fuse, fu, hj, rfl, rfl, HS⟩ := hrel
        clear HKS
        by_cases hlt : j < k
        · have hlt2 : (j : Int) < (k : Int) := by omega
          have hd2 : decide ((j : Int) < (k : Int)) = true := decide_eq_true hlt2
          have hk0 : (0 : Int) ≤ (j : Int) := by omega
          obtain ⟨b, off, rfl, hact⟩ := HAC.out (by omega)
          have HACT := hid (fun w (hw : Below W.heap.size W w) => (hact j hlt).below hw)
          have hbl := HLEN.out j hlt
          clear hact
          generalize g j = x at *
          obtain ⟨d, n, Bp, Bc, bl⟩ := x
          obtain ⟨c0, c1, c2, hB⟩ := HACT.out _ HS.out.bel
          simp only at c0 c1 c2 hB hbl
          have hmc := hB.len
          have KAB : AbAt (wr.alloc (.cells #[.int .i64 d, .int .i64 n, .slice Bp bl.length Bc] 41)) wr.heap.size d n Bp bl.length Bc ∧ PSt W (wr.alloc (.cells #[.int .i64 d, .int .i64 n, .slice Bp bl.length Bc] 41)) D R room l armed fuse fu ∧ wr.heap.size ≠ D ∧ wr.heap.size ≠ R :=
            ⟨heap_alloc_new _ _, HS.out.below (bl1 _ _), fun e => by have := HS.out.d.lt; omega, fun e => by have := lt_of_block HS.out.r; omega⟩
          have HKAB := hid KAB
          clear KAB hB HS
          go_upto_region 17 with (fail)
          have KAB := HKAB.out
          clear HKAB c0 c1 c2
          generalize wr.heap.size = AB at KAB ⊢
          obtain ⟨k1, k2, k3, k4⟩ := KAB
          refine at_world (fun w => AbAt w AB d n Bp bl.length Bc ∧ PSt W w D R room l armed fuse fu) ⟨k1, k2⟩ ?_
          clear k1 k2
          rintro w4 ⟨hab, hs⟩
          have HAB := hid hab
          have HS := hid hs
          have HNE := hid (And.intro k3 k4)
          obtain ⟨⟨a0, a1, a2⟩, _⟩ := three_cells hab
          clear hab hs k3 k4
          rcases (by omega : d = 0 ∨ d = 1 ∨ d = 2 ∨ (d ≠ 0 ∧ d ≠ 1 ∧ d ≠ 2)) with hd | hd | hd | ⟨hd0, hd1, hd2x⟩
          case' inl =>
            subst hd
            have HAP := hid (fun w (h : PSt W w D R room l armed fuse fu) => dappend_any D room l bl armed fuse Bp Bc w h.d ((HACT.out w h.bel).2.2.2) hr h.lr (by omega))
            have HRA := hid (fun w (h : RkAt w R room l fu) => rappend_any R room l bl fu w h hr HS.out.lr (by omega))
            have hSS : ∀ U, Below W.heap.size W U → AbAt U AB 0 n Bp bl.length Bc → (U.cell? ⟨AB, 2, none⟩ = some (.slice Bp bl.length Bc) ∧ (convert 39 9 (.slice Bp bl.length Bc)).run Try.prog U = .ok (.string (str bl)) U) := fun U hU hA => ⟨(three_cells hA).1.2.2, convS ((HACT.out U hU).2.2.2)⟩
            have hSa := hSS w4.drew (below_drew HS.out.bel) HAB.out
            go_upto_region 18 with (fail)
            clear a0 a1 a2
            refine wp_region_held_drew (S := fun U => U.cell? ⟨AB, 2, none⟩ = some (.slice Bp bl.length Bc) ∧ (convert 39 9 (.slice Bp bl.length Bc)).run Try.prog U = .ok (.string (str bl)) U) (by kernel_rfl) hSa (fun hHeld => ?_)
            refine wpAnyH_take (i := 0) (v := ?_) rfl (by kernel_rfl) (by kernel_rfl) (by kernel_rfl) (fun _ _ _ h => h) (Or.inl ⟨by rfl, ?_⟩) (by assumption) ?_
            rotate_left
            focus
              intro U hU
              try dsimp only at hU
              go_simp
              try (with_reducible rfl)
            simp only [List.getElem_toArray, List.getElem_cons_succ, List.getElem_cons_zero, Act.put, List.setIfInBounds_toArray, List.set_cons_zero, List.set_cons_succ]
            refine wpAnyH_take (i := 1) (v := ?_) rfl (by kernel_rfl) (by kernel_rfl) (by kernel_rfl) (fun _ _ _ h => h) (Or.inl ⟨by rfl, ?_⟩) (by assumption) ?_
            rotate_left
            focus
              intro U hU
              try dsimp only at hU
              go_simp
              try (with_reducible rfl)
            simp only [List.getElem_toArray, List.getElem_cons_succ, List.getElem_cons_zero, Act.put, List.setIfInBounds_toArray, List.set_cons_zero, List.set_cons_succ]
            refine wpAnyH_take (i := 2) (v := ?_) rfl (by kernel_rfl) (by kernel_rfl) (by kernel_rfl) (fun _ _ _ h => h) (Or.inl ⟨by rfl, ?_⟩) (by assumption) ?_
            rotate_left
            focus
              intro U hU
              try dsimp only at hU
              go_simp
              try (with_reducible rfl)
            simp only [List.getElem_toArray, List.getElem_cons_succ, List.getElem_cons_zero, Act.put, List.setIfInBounds_toArray, List.set_cons_zero, List.set_cons_succ]
            refine wpAnyH_take (i := 4) (v := ?_) rfl (by kernel_rfl) (by kernel_rfl) (by kernel_rfl) (fun _ _ _ h => h) (Or.inl ⟨by rfl, ?_⟩) (by assumption) ?_
            rotate_left
            focus
              intro U hU
              try dsimp only at hU
              go_simp
              try (with_reducible rfl)
            simp only [List.getElem_toArray, List.getElem_cons_succ, List.getElem_cons_zero, Act.put, List.setIfInBounds_toArray, List.set_cons_zero, List.set_cons_succ]
            refine wpAnyH_take (i := 5) (v := ?_) rfl (by kernel_rfl) (by kernel_rfl) (by kernel_rfl) (fun _ _ _ h => h) (Or.inl ⟨by rfl, ?_⟩) (by assumption) ?_
            rotate_left
            focus
              intro U hU
              try dsimp only at hU
              go_simp
              try (with_reducible rfl)
            simp only [List.getElem_toArray, List.getElem_cons_succ, List.getElem_cons_zero, Act.put, List.setIfInBounds_toArray, List.set_cons_zero, List.set_cons_succ]
            refine wpAnyH_take (i := 6) (v := ?_) rfl (by kernel_rfl) (by kernel_rfl) (by kernel_rfl) (fun _ _ _ h => h) (Or.inl ⟨by rfl, ?_⟩) (by assumption) ?_
            rotate_left
            focus
              intro U hU
              try dsimp only at hU
              go_simp
              try (with_reducible rfl)
            simp only [List.getElem_toArray, List.getElem_cons_succ, List.getElem_cons_zero, Act.put, List.setIfInBounds_toArray, List.set_cons_zero, List.set_cons_succ]
            refine wpAnyH_ready (rs := [3]) (by kernel_rfl) (by simp) ?_
            refine AllReadyH.cons rfl (fun K hK => ?_) AllReadyH.nil
            simp only [List.getElem_toArray, List.getElem_cons_succ, List.getElem_cons_zero]
            go_simp
            refine (HAP.out _ (HS.out.below (below_drew (Below.refl _ _)))).mono ?_
            rintro e u1 ⟨rfl, hD5, hO5⟩
            have hb5 : Below W.heap.size W u1 := (below_drew HS.out.bel).trans (hO5.below W.heap.size HS.out.hD HS.out.bel.size)
            have hab5 : AbAt u1 AB 0 n Bp bl.length Bc := hO5.block HAB.out HNE.out.1
            have hr5 : RkAt u1 R room l fu := hO5.block HS.out.r (fun e => HS.out.ne e.symm)
            have hSb := hSS u1 hb5 hab5
            go_wp2_with fail
            refine hK.out _ _ ?_ (fun hHeld2 => ?_)
            focus
              first | exact hSc | exact hSb | exact hSa
            clear hHeld
            have hHeld := hHeld2
            clear hHeld2 hK K
            try simp only [List.getElem_toArray, List.getElem_cons_succ, List.getElem_cons_zero, Act.put, List.setIfInBounds_toArray, List.set_cons_zero, List.set_cons_succ]
            refine wpAnyH_ready (rs := [7]) (by kernel_rfl) (by simp) ?_
            refine AllReadyH.cons rfl (fun K hK => ?_) AllReadyH.nil
            simp only [List.getElem_toArray, List.getElem_cons_succ, List.getElem_cons_zero]
            go_simp
            refine (HRA.out _ hr5).mono ?_
            rintro e u2 ⟨rfl, hR6, hO6⟩
            have hab6 : AbAt u2 AB 0 n Bp bl.length Bc := hO6.block hab5 HNE.out.2
            have hb6 : Below W.heap.size W u2 := hb5.trans (hO6.below W.heap.size HS.out.hR hb5.size)
            have hSc := hSS u2 hb6 hab6
            have hd6 := hD5.onlyR hr5 HS.out.ne hO6
            have hle : apL room l bl armed fuse = apL room l bl (decide (0 ≤ fu)) fu.toNat := by
              rw [HS.out.ar]
              by_cases h9 : 0 ≤ fu
              · rw [HS.out.fs h9]
              · rw [decide_eq_false h9]; unfold apL; rfl
            have hee : apE room l bl armed = apE room l bl (decide (0 ≤ fu)) := by rw [HS.out.ar]
            have haf : apA room l bl armed = decide (0 ≤ fuN room l bl fu) := by
              rw [HS.out.ar]
              unfold apA fuN
              split
              · rfl
              · by_cases h9 : 0 ≤ fu
                · rw [if_pos h9]; rfl
                · rw [if_neg h9, decide_eq_false h9]
            have hfs : 0 ≤ fuN room l bl fu → fuse = (fuN room l bl fu).toNat := fun h9 => by
              unfold fuN at h9 ⊢
              split
              · rename_i h8; rw [if_pos h8] at h9; exact HS.out.fs h9
              · rename_i h8
                rw [if_neg h8] at h9
                split
                · rename_i h7; rw [if_pos h7] at h9; omega
                · rename_i h7; rw [if_neg h7] at h9; omega
            have HP2 : Hid (PSt W u2 D R room (apL room l bl armed fuse) (apA room l bl armed) fuse (fuN room l bl fu)) := hid ⟨hd6, by rw [hle]; exact hR6, hb6, HS.out.hD, HS.out.hR, HS.out.ne, haf, hfs, apL_room _ _ _ _ _ HS.out.lr⟩
            rw [← hee]
            clear hD5 hO5 hb5 hab5 hr5 hR6 hO6 hab6 hb6 hd6 hle hee haf hfs
            generalize apE room l bl armed = ee at *
            have hne : (ee != ee) = false := by simp
            have HNEE := hid hne
            clear hne
            go_wp2_with fail
            refine hK.out _ _ ?_ (fun hHeld2 => ?_)
            focus
              first | exact hSc | exact hSb | exact hSa
            clear hHeld
            have hHeld := hHeld2
            clear hHeld2 hK K
            try simp only [List.getElem_toArray, List.getElem_cons_succ, List.getElem_cons_zero, Act.put, List.setIfInBounds_toArray, List.set_cons_zero, List.set_cons_succ]
            refine wpAnyH_take (i := 8) (v := ?_) rfl (by kernel_rfl) (by kernel_rfl) (by kernel_rfl) (fun _ _ _ h => h) (Or.inl ⟨by rfl, ?_⟩) (by assumption) ?_
            rotate_left
            focus
              intro U hU
              try dsimp only at hU
              go_simp
              try (with_reducible rfl)
            simp only [List.getElem_toArray, List.getElem_cons_succ, List.getElem_cons_zero, Act.put, List.setIfInBounds_toArray, List.set_cons_zero, List.set_cons_succ]
            refine wpAnyH_take (i := 9) (v := ?_) rfl (by kernel_rfl) (by kernel_rfl) (by kernel_rfl) (fun _ _ _ h => h) (Or.inl ⟨by rfl, ?_⟩) (by assumption) ?_
            rotate_left
            focus
              intro U hU
              try dsimp only at hU
              go_simp
              try (with_reducible rfl)
            simp only [List.getElem_toArray, List.getElem_cons_succ, List.getElem_cons_zero, Act.put, List.setIfInBounds_toArray, List.set_cons_zero, List.set_cons_succ]
            refine wpAnyH_done (by kernel_rfl) ?_ _
            clear hHeld hSS hSa hSb hSc HAP HRA
            go_upto_region 28 with (fail)
            refine at_world (fun w => ∃ l2 armed2 fuse2 fu2, PSt W w D R room l2 armed2 fuse2 fu2) ⟨_, _, _, _, HP2.out⟩ ?_
            clear HP2 HAB HS
          case' inr.inl =>
            subst hd
            have HFU := hid (dfuse_any D room l armed fuse n w4 HS.out.d)
            go_wp2_with fail
            refine HFU.out.mono ?_
            rintro y w5 ⟨⟨v, rfl⟩, hD5, hO5⟩
            have hab5 : AbAt w5 AB 1 n Bp bl.length Bc := hO5.block HAB.out HNE.out.1
            have hr5 : RkAt w5 R room l fu := hO5.block HS.out.r (fun e => HS.out.ne e.symm)
            obtain ⟨⟨b0, b1, b2⟩, g0, g1, g2⟩ := three_cells hab5
            obtain ⟨⟨r0, r1, r2⟩, q0, q1, q2⟩ := three_cells hr5
            have hO6 : Only R w5 (w5.setCell ⟨R, 2, none⟩ (.int .i64 n)) := (Only.refl _ _).set 2 _
            have HP2 : Hid (PSt W (w5.setCell ⟨R, 2, none⟩ (.int .i64 n)) D R room l (decide (0 ≤ n)) n.toNat n) := hid
              ⟨hD5.onlyR hr5 HS.out.ne hO6, heap_setCell_same w5 R 2 _ _ _ hr5, (HS.out.bel.trans (hO5.below W.heap.size HS.out.hD HS.out.bel.size)).setCell HS.out.hR _, HS.out.hD, HS.out.hR, HS.out.ne, rfl, fun _ => rfl, HS.out.lr⟩
            clear hD5 hO5 hab5 hr5 hO6 HFU HAB HS a0 a1 a2
            go_upto_region 28 with (fail)
            refine at_world (fun w => ∃ l2 armed2 fuse2 fu2, PSt W w D R room l2 armed2 fuse2 fu2) ⟨_, _, _, _, HP2.out⟩ ?_
            clear HP2 b0 b1 b2 g0 g1 g2 r0 r1 r2 q0 q1 q2
          case' inr.inr.inl =>
            subst hd
            have HCU := hid (fun w (h : PSt W w D R room l armed fuse fu) => dcut_any D room l armed fuse n w h.d (by have := h.lr; omega))
            have HRC := hid (fun w (h : RkAt w R room l fu) => rcut_any R room l fu n w h (by have := HS.out.lr; omega))
            have hSS : ∀ U, AbAt U AB 2 n Bp bl.length Bc → U.cell? ⟨AB, 1, none⟩ = some (.int .i64 n) := fun U hA => (three_cells hA).1.2.1
            have hSa := hSS w4.drew HAB.out
            clear a1 a2
            go_upto_region 23 with (fail)
            clear a0
            refine wp_region_held_drew (S := fun U => U.cell? ⟨AB, 1, none⟩ = some (.int .i64 n)) (by kernel_rfl) hSa (fun hHeld => ?_)
            refine wpAnyH_take (i := 0) (v := ?_) rfl (by kernel_rfl) (by kernel_rfl) (by kernel_rfl) (fun _ _ _ h => h) (Or.inl ⟨by rfl, ?_⟩) (by assumption) ?_
            rotate_left
            focus
              intro U hU
              try dsimp only at hU
              go_simp
              try (with_reducible rfl)
            simp only [List.getElem_toArray, List.getElem_cons_succ, List.getElem_cons_zero, Act.put, List.setIfInBounds_toArray, List.set_cons_zero, List.set_cons_succ]
            refine wpAnyH_take (i := 1) (v := ?_) rfl (by kernel_rfl) (by kernel_rfl) (by kernel_rfl) (fun _ _ _ h => h) (Or.inl ⟨by rfl, ?_⟩) (by assumption) ?_
            rotate_left
            focus
              intro U hU
              try dsimp only at hU
              go_simp
              try (with_reducible rfl)
            simp only [List.getElem_toArray, List.getElem_cons_succ, List.getElem_cons_zero, Act.put, List.setIfInBounds_toArray, List.set_cons_zero, List.set_cons_succ]
            refine wpAnyH_take (i := 2) (v := ?_) rfl (by kernel_rfl) (by kernel_rfl) (by kernel_rfl) (fun _ _ _ h => h) (Or.inl ⟨by rfl, ?_⟩) (by assumption) ?_
            rotate_left
            focus
              intro U hU
              try dsimp only at hU
              go_simp
              try (with_reducible rfl)
            simp only [List.getElem_toArray, List.getElem_cons_succ, List.getElem_cons_zero, Act.put, List.setIfInBounds_toArray, List.set_cons_zero, List.set_cons_succ]
            refine wpAnyH_take (i := 4) (v := ?_) rfl (by kernel_rfl) (by kernel_rfl) (by kernel_rfl) (fun _ _ _ h => h) (Or.inl ⟨by rfl, ?_⟩) (by assumption) ?_
            rotate_left
            focus
              intro U hU
              try dsimp only at hU
              go_simp
              try (with_reducible rfl)
            simp only [List.getElem_toArray, List.getElem_cons_succ, List.getElem_cons_zero, Act.put, List.setIfInBounds_toArray, List.set_cons_zero, List.set_cons_succ]
            refine wpAnyH_take (i := 5) (v := ?_) rfl (by kernel_rfl) (by kernel_rfl) (by kernel_rfl) (fun _ _ _ h => h) (Or.inl ⟨by rfl, ?_⟩) (by assumption) ?_
            rotate_left
            focus
              intro U hU
              try dsimp only at hU
              go_simp
              try (with_reducible rfl)
            simp only [List.getElem_toArray, List.getElem_cons_succ, List.getElem_cons_zero, Act.put, List.setIfInBounds_toArray, List.set_cons_zero, List.set_cons_succ]
            refine wpAnyH_ready (rs := [3]) (by kernel_rfl) (by simp) ?_
            refine AllReadyH.cons rfl (fun K hK => ?_) AllReadyH.nil
            simp only [List.getElem_toArray, List.getElem_cons_succ, List.getElem_cons_zero]
            go_simp
            refine (HCU.out _ (HS.out.below (below_drew (Below.refl _ _)))).mono ?_
            rintro e u1 ⟨rfl, hD5, hO5⟩
            have hb5 : Below W.heap.size W u1 := (below_drew HS.out.bel).trans (hO5.below W.heap.size HS.out.hD HS.out.bel.size)
            have hab5 : AbAt u1 AB 2 n Bp bl.length Bc := hO5.block HAB.out HNE.out.1
            have hr5 : RkAt u1 R room l fu := hO5.block HS.out.r (fun e => HS.out.ne e.symm)
            have hSb := hSS u1 hab5
            go_wp2_with fail
            refine hK.out _ _ ?_ (fun hHeld2 => ?_)
            focus
              first | exact hSc | exact hSb | exact hSa
            clear hHeld
            have hHeld := hHeld2
            clear hHeld2 hK K
            try simp only [List.getElem_toArray, List.getElem_cons_succ, List.getElem_cons_zero, Act.put, List.setIfInBounds_toArray, List.set_cons_zero, List.set_cons_succ]
            refine wpAnyH_ready (rs := [6]) (by kernel_rfl) (by simp) ?_
            refine AllReadyH.cons rfl (fun K hK => ?_) AllReadyH.nil
            simp only [List.getElem_toArray, List.getElem_cons_succ, List.getElem_cons_zero]
            go_simp
            refine (HRC.out _ hr5).mono ?_
            rintro e u2 ⟨rfl, hR6, hO6⟩
            have hab6 : AbAt u2 AB 2 n Bp bl.length Bc := hO6.block hab5 HNE.out.2
            have hb6 : Below W.heap.size W u2 := hb5.trans (hO6.below W.heap.size HS.out.hR hb5.size)
            have hSc := hSS u2 hab6
            have HP2 : Hid (PSt W u2 D R room (cutL l n) armed fuse fu) := hid ⟨hD5.onlyR hr5 HS.out.ne hO6, hR6, hb6, HS.out.hD, HS.out.hR, HS.out.ne, HS.out.ar, HS.out.fs, Nat.le_trans (cutL_len _ _) HS.out.lr⟩
            clear hD5 hO5 hb5 hab5 hr5 hR6 hO6 hab6 hb6
            generalize cutE l n = ee at *
            go_wp2_with fail
            refine hK.out _ _ ?_ (fun hHeld2 => ?_)
            focus
              first | exact hSc | exact hSb | exact hSa
            clear hHeld
            have hHeld := hHeld2
            clear hHeld2 hK K
            try simp only [List.getElem_toArray, List.getElem_cons_succ, List.getElem_cons_zero, Act.put, List.setIfInBounds_toArray, List.set_cons_zero, List.set_cons_succ]
            refine wpAnyH_take (i := 7) (v := ?_) rfl (by kernel_rfl) (by kernel_rfl) (by kernel_rfl) (fun _ _ _ h => h) (Or.inl ⟨by rfl, ?_⟩) (by assumption) ?_
            rotate_left
            focus
              intro U hU
              try dsimp only at hU
              go_simp
              try (with_reducible rfl)
            simp only [List.getElem_toArray, List.getElem_cons_succ, List.getElem_cons_zero, Act.put, List.setIfInBounds_toArray, List.set_cons_zero, List.set_cons_succ]
            refine wpAnyH_take (i := 8) (v := ?_) rfl (by kernel_rfl) (by kernel_rfl) (by kernel_rfl) (fun _ _ _ h => h) (Or.inl ⟨by rfl, ?_⟩) (by assumption) ?_
            rotate_left
            focus
              intro U hU
              try dsimp only at hU
              go_simp
              try (with_reducible rfl)
            simp only [List.getElem_toArray, List.getElem_cons_succ, List.getElem_cons_zero, Act.put, List.setIfInBounds_toArray, List.set_cons_zero, List.set_cons_succ]
            refine wpAnyH_done (by kernel_rfl) ?_ _
            clear hHeld hSS hSa hSb hSc HCU HRC
            go_upto_region 28 with (fail)
            refine at_world (fun w => ∃ l2 armed2 fuse2 fu2, PSt W w D R room l2 armed2 fuse2 fu2) ⟨_, _, _, _, HP2.out⟩ ?_
            clear HP2 HAB HS
          case' inr.inr.inr =>
            have e0 : (d == 0) = false := by simp [hd0]
            have e1 : (d == 1) = false := by simp [hd1]
            have e2 : (d == 2) = false := by simp [hd2x]
            have HCL := hid (dclone_any D room l armed fuse w4 HS.out.d (by have := HS.out.lr; omega))
            clear hd0 hd1 hd2x
            go_wp2_with fail
            refine HCL.out.mono ?_
            rintro y w5 ⟨D2, rfl, hD2, hd2c, hb5⟩
            have HS5 := hid (HS.out.below hb5)
            have HD5 := hid (hd2c.below (bl1 w5 (.cells #[.int .u8 7] 5)))
            have HS6 := hid (HS5.out.below (bl1 w5 (.cells #[.int .u8 7] 5)))
            have hl7 : IsBytes (w5.alloc (.cells #[.int .u8 7] 5)) (some ⟨w5.heap.size, 0, none⟩) 1 1 [7] := Sl.lit w5 5 1 1 #[.int .u8 7] rfl (by unfold maxLen; omega)
            have HA7 := hid (dappend_any D room l [7] armed fuse (some ⟨w5.heap.size, 0, none⟩) 1 _ HS6.out.d hl7 hr HS.out.lr (by simp))
            have HDR := hid (And.intro (show D2 ≠ D from fun e => by have := HS.out.d.lt; omega) (show D2 ≠ R from fun e => by have := lt_of_block HS.out.r; omega))
            have HWD := hid (Nat.le_trans HS.out.bel.size hD2)
            clear HCL hd2c hb5 hD2 hl7 HAB HS HS5 a0 a1 a2 e0 e1 e2
            go_wp2_with fail
            refine HA7.out.mono ?_
            rintro y w7 ⟨rfl, hD7, hO7⟩
            have HC7 := hid (dcut_any D room _ _ fuse 0 w7 hD7 (by have h8 := apL_len room l [7] armed fuse; have h9 := HS6.out.lr; rw [show ([7] : List UInt8).length = 1 from rfl] at h8; omega))
            have HD7 := hid hD7
            have HO7 := hid hO7
            clear hD7 hO7 HA7
            go_wp2_with fail
            refine HC7.out.mono ?_
            rintro y w8 ⟨rfl, hD8, hO8⟩
            have hO := HO7.out.trans hO8
            have HP2 : Hid (PSt W w8 D2 R room l armed fuse fu) := hid
              ⟨HD5.out.onlyD HS6.out.d HDR.out.1 hO, hO.block HS6.out.r (fun e => HS6.out.ne e.symm), HS6.out.bel.trans (hO.below W.heap.size HS6.out.hD HS6.out.bel.size), HWD.out, HS6.out.hR, HDR.out.2, HS6.out.ar, HS6.out.fs, HS6.out.lr⟩
            clear hD8 hO8 hO HC7 HD7 HO7 HD5 HS6 HDR HWD
            obtain ⟨D, rfl⟩ : ∃ D, D = D2 := ⟨_, rfl⟩
            go_upto_region 28 with (fail)
            refine at_world (fun w => ∃ l2 armed2 fuse2 fu2, PSt W w D R room l2 armed2 fuse2 fu2) ⟨_, _, _, _, HP2.out⟩ ?_
            clear HP2
          all_goals
            rintro w9 ⟨l2, armed2, fuse2, fu2, hP⟩
            have HP := hid hP
            have HBY := hid (dbytes_any D room l2 armed2 fuse2 w9.drew (hP.d.below (below_drew (Below.refl _ _))) (by have := hP.lr; omega))
            have HSZ := hid (fun w (h : Below w9.heap.size w9 w) => dsize_any D room l2 armed2 fuse2 w (hP.d.below h))
            have HFR := hid (fun w (h : Below w9.heap.size w9 w) => dfree_any D room l2 armed2 fuse2 w (hP.d.below h) hr hP.lr)
            obtain ⟨s, hsx⟩ : ∃ s, str l2 = s := ⟨_, rfl⟩
            have hz : (s.size : Int) = (l2.length : Int) := by rw [← hsx, str_size]
            have hS : ∀ U, Below w9.heap.size w9 U → ((U.cell? ⟨R, 0, none⟩ = some (.string s) ∧ U.cell? ⟨R, 1, none⟩ = some (.int .i64 (room : Int))) ∧ Below w9.heap.size w9 U) := fun U hU => by
              obtain ⟨⟨p0, p1, p2⟩, _⟩ := three_cells (keep0 hP.r hU)
              rw [hsx] at p0
              exact ⟨⟨p0, p1⟩, hU⟩
            have HSX := hid hsx
            have hw : IntKind.i64.wrap ((room : Int) - (l2.length : Int)) = (room : Int) - (l2.length : Int) := by have := hP.lr; simp [IntKind.wrap, IntKind.bits, IntKind.signed]; omega
            have g1 : (s.toList != s.toList) = false := by simp
            have g1' : (s.toList == s.toList) = true := by simp
            have g2 : ((l2.length : Int) != (l2.length : Int)) = false := by simp
            have g3 : ((room : Int) - (l2.length : Int) != (room : Int) - (l2.length : Int)) = false := by simp
            clear hP hsx
            refine wp_region_held_drew (S := fun U => (U.cell? ⟨R, 0, none⟩ = some (.string s) ∧ U.cell? ⟨R, 1, none⟩ = some (.int .i64 (room : Int))) ∧ Below w9.heap.size w9 U) (by kernel_rfl) (hS _ (below_drew (Below.refl _ _))) (fun hHeld => ?_)
            refine wpAnyH_take (i := 0) (v := ?_) rfl (by kernel_rfl) (by kernel_rfl) (by kernel_rfl) (fun _ _ _ h => h) (Or.inl ⟨by rfl, ?_⟩) (by assumption) ?_
            rotate_left
            focus
              intro U hU
              try dsimp only at hU
              go_simp
              try (with_reducible rfl)
            simp only [List.getElem_toArray, List.getElem_cons_succ, List.getElem_cons_zero, Act.put, List.setIfInBounds_toArray, List.set_cons_zero, List.set_cons_succ]
            refine wpAnyH_take (i := 1) (v := ?_) rfl (by kernel_rfl) (by kernel_rfl) (by kernel_rfl) (fun _ _ _ h => h) (Or.inl ⟨by rfl, ?_⟩) (by assumption) ?_
            rotate_left
            focus
              intro U hU
              try dsimp only at hU
              go_simp
              try (with_reducible rfl)
            simp only [List.getElem_toArray, List.getElem_cons_succ, List.getElem_cons_zero, Act.put, List.setIfInBounds_toArray, List.set_cons_zero, List.set_cons_succ]
            refine wpAnyH_take (i := 2) (v := ?_) rfl (by kernel_rfl) (by kernel_rfl) (by kernel_rfl) (fun _ _ _ h => h) (Or.inl ⟨by rfl, ?_⟩) (by assumption) ?_
            rotate_left
            focus
              intro U hU
              try dsimp only at hU
              go_simp
              try (with_reducible rfl)
            simp only [List.getElem_toArray, List.getElem_cons_succ, List.getElem_cons_zero, Act.put, List.setIfInBounds_toArray, List.set_cons_zero, List.set_cons_succ]
            refine wpAnyH_take (i := 3) (v := ?_) rfl (by kernel_rfl) (by kernel_rfl) (by kernel_rfl) (fun _ _ _ h => h) (Or.inl ⟨by rfl, ?_⟩) (by assumption) ?_
            rotate_left
            focus
              intro U hU
              try dsimp only at hU
              go_simp
              try (with_reducible rfl)
            simp only [List.getElem_toArray, List.getElem_cons_succ, List.getElem_cons_zero, Act.put, List.setIfInBounds_toArray, List.set_cons_zero, List.set_cons_succ]
            refine wpAnyH_take (i := 4) (v := ?_) rfl (by kernel_rfl) (by kernel_rfl) (by kernel_rfl) (fun _ _ _ h => h) (Or.inl ⟨by rfl, ?_⟩) (by assumption) ?_
            rotate_left
            focus
              intro U hU
              try dsimp only at hU
              go_simp
              try (with_reducible rfl)
            simp only [List.getElem_toArray, List.getElem_cons_succ, List.getElem_cons_zero, Act.put, List.setIfInBounds_toArray, List.set_cons_zero, List.set_cons_succ]
            refine wpAnyH_take (i := 7) (v := ?_) rfl (by kernel_rfl) (by kernel_rfl) (by kernel_rfl) (fun _ _ _ h => h) (Or.inl ⟨by rfl, ?_⟩) (by assumption) ?_
            rotate_left
            focus
              intro U hU
              try dsimp only at hU
              go_simp
              try (with_reducible rfl)
            simp only [List.getElem_toArray, List.getElem_cons_succ, List.getElem_cons_zero, Act.put, List.setIfInBounds_toArray, List.set_cons_zero, List.set_cons_succ]
            refine wpAnyH_take (i := 8) (v := ?_) rfl (by kernel_rfl) (by kernel_rfl) (by kernel_rfl) (fun _ _ _ h => h) (Or.inl ⟨by rfl, ?_⟩) (by assumption) ?_
            rotate_left
            focus
              intro U hU
              try dsimp only at hU
              go_simp
              try (with_reducible rfl)
            simp only [List.getElem_toArray, List.getElem_cons_succ, List.getElem_cons_zero, Act.put, List.setIfInBounds_toArray, List.set_cons_zero, List.set_cons_succ]
            refine wpAnyH_ready (rs := [5]) (by kernel_rfl) (by simp) ?_
            refine AllReadyH.cons rfl (fun K hK => ?_) AllReadyH.nil
            simp only [List.getElem_toArray, List.getElem_cons_succ, List.getElem_cons_zero]
            go_simp
            refine HBY.out.mono ?_
            rintro e u1 ⟨A2, c2, rfl, hs2, hb2⟩
            have hu1 : Below w9.heap.size w9 u1 := (below_drew (Below.refl w9.heap.size w9)).trans hb2
            have hcv := convS hs2
            rw [HSX.out] at hcv
            clear hs2 hb2
            go_wp2_with fail
            refine hK.out _ _ ?_ (fun hHeld2 => ?_)
            focus
              exact hS _ (by first | with_reducible exact hu2 | with_reducible exact hu1)
            clear hHeld
            have hHeld := hHeld2
            clear hHeld2 hK K
            try simp only [List.getElem_toArray, List.getElem_cons_succ, List.getElem_cons_zero, Act.put, List.setIfInBounds_toArray, List.set_cons_zero, List.set_cons_succ]
            refine wpAnyH_ready (rs := [6]) (by kernel_rfl) (by simp) ?_
            refine AllReadyH.cons rfl (fun K hK => ?_) AllReadyH.nil
            simp only [List.getElem_toArray, List.getElem_cons_succ, List.getElem_cons_zero]
            go_simp
            refine hK.out _ _ ?_ (fun hHeld2 => ?_)
            focus
              exact hS _ (by first | with_reducible exact hu2 | with_reducible exact hu1)
            clear hHeld
            have hHeld := hHeld2
            clear hHeld2 hK K
            try simp only [List.getElem_toArray, List.getElem_cons_succ, List.getElem_cons_zero, Act.put, List.setIfInBounds_toArray, List.set_cons_zero, List.set_cons_succ]
            refine wpAnyH_take (i := 9) (v := ?_) rfl (by kernel_rfl) (by kernel_rfl) (by kernel_rfl) (fun _ _ _ h => h) (Or.inl ⟨by rfl, ?_⟩) (by assumption) ?_
            rotate_left
            focus
              intro U hU
              try dsimp only at hU
              go_simp
              try (with_reducible rfl)
            simp only [List.getElem_toArray, List.getElem_cons_succ, List.getElem_cons_zero, Act.put, List.setIfInBounds_toArray, List.set_cons_zero, List.set_cons_succ]
            refine wpAnyH_take (i := 10) (v := ?_) rfl (by kernel_rfl) (by kernel_rfl) (by kernel_rfl) (fun _ _ _ h => h) (Or.inl ⟨by rfl, ?_⟩) (by assumption) ?_
            rotate_left
            focus
              intro U hU
              try dsimp only at hU
              go_simp
              try (with_reducible rfl)
            simp only [List.getElem_toArray, List.getElem_cons_succ, List.getElem_cons_zero, Act.put, List.setIfInBounds_toArray, List.set_cons_zero, List.set_cons_succ]
            refine wpAnyH_take (i := 11) (v := ?_) rfl (by kernel_rfl) (by kernel_rfl) (by kernel_rfl) (fun _ _ _ h => h) (Or.inl ⟨by rfl, ?_⟩) (by assumption) ?_
            rotate_left
            focus
              intro U hU
              try dsimp only at hU
              go_simp
              try (with_reducible rfl)
            simp only [List.getElem_toArray, List.getElem_cons_succ, List.getElem_cons_zero, Act.put, List.setIfInBounds_toArray, List.set_cons_zero, List.set_cons_succ]
            refine wpAnyH_take (i := 12) (v := ?_) rfl (by kernel_rfl) (by kernel_rfl) (by kernel_rfl) (fun _ _ _ h => h) (Or.inl ⟨by rfl, ?_⟩) (by assumption) ?_
            rotate_left
            focus
              intro U hU
              try dsimp only at hU
              go_simp
              try (with_reducible rfl)
            simp only [List.getElem_toArray, List.getElem_cons_succ, List.getElem_cons_zero, Act.put, List.setIfInBounds_toArray, List.set_cons_zero, List.set_cons_succ]
            refine wpAnyH_take (i := 14) (v := ?_) rfl (by kernel_rfl) (by kernel_rfl) (by kernel_rfl) (fun _ _ _ h => h) (Or.inl ⟨by rfl, ?_⟩) (by assumption) ?_
            rotate_left
            focus
              intro U hU
              try dsimp only at hU
              go_simp
              try (with_reducible rfl)
            simp only [List.getElem_toArray, List.getElem_cons_succ, List.getElem_cons_zero, Act.put, List.setIfInBounds_toArray, List.set_cons_zero, List.set_cons_succ]
            refine wpAnyH_take (i := 15) (v := ?_) rfl (by kernel_rfl) (by kernel_rfl) (by kernel_rfl) (fun _ _ _ h => h) (Or.inl ⟨by rfl, ?_⟩) (by assumption) ?_
            rotate_left
            focus
              intro U hU
              try dsimp only at hU
              go_simp
              try (with_reducible rfl)
            simp only [List.getElem_toArray, List.getElem_cons_succ, List.getElem_cons_zero, Act.put, List.setIfInBounds_toArray, List.set_cons_zero, List.set_cons_succ]
            refine wpAnyH_take (i := 16) (v := ?_) rfl (by kernel_rfl) (by kernel_rfl) (by kernel_rfl) (fun _ _ _ h => h) (Or.inl ⟨by rfl, ?_⟩) (by assumption) ?_
            rotate_left
            focus
              intro U hU
              try dsimp only at hU
              go_simp
              try (with_reducible rfl)
            simp only [List.getElem_toArray, List.getElem_cons_succ, List.getElem_cons_zero, Act.put, List.setIfInBounds_toArray, List.set_cons_zero, List.set_cons_succ]
            refine wpAnyH_ready (rs := [13]) (by kernel_rfl) (by simp) ?_
            refine AllReadyH.cons rfl (fun K hK => ?_) AllReadyH.nil
            simp only [List.getElem_toArray, List.getElem_cons_succ, List.getElem_cons_zero]
            go_simp
            refine (HSZ.out _ hu1).mono ?_
            rintro e u2 ⟨rfl, rfl⟩
            go_wp2_with fail
            refine hK.out _ _ ?_ (fun hHeld2 => ?_)
            focus
              exact hS _ (by first | with_reducible exact hu2 | with_reducible exact hu1)
            clear hHeld
            have hHeld := hHeld2
            clear hHeld2 hK K
            try simp only [List.getElem_toArray, List.getElem_cons_succ, List.getElem_cons_zero, Act.put, List.setIfInBounds_toArray, List.set_cons_zero, List.set_cons_succ]
            refine wpAnyH_take (i := 17) (v := ?_) rfl (by kernel_rfl) (by kernel_rfl) (by kernel_rfl) (fun _ _ _ h => h) (Or.inl ⟨by rfl, ?_⟩) (by assumption) ?_
            rotate_left
            focus
              intro U hU
              try dsimp only at hU
              go_simp
              try (with_reducible rfl)
            simp only [List.getElem_toArray, List.getElem_cons_succ, List.getElem_cons_zero, Act.put, List.setIfInBounds_toArray, List.set_cons_zero, List.set_cons_succ]
            refine wpAnyH_take (i := 18) (v := ?_) rfl (by kernel_rfl) (by kernel_rfl) (by kernel_rfl) (fun _ _ _ h => h) (Or.inl ⟨by rfl, ?_⟩) (by assumption) ?_
            rotate_left
            focus
              intro U hU
              try dsimp only at hU
              go_simp
              try (with_reducible rfl)
            simp only [List.getElem_toArray, List.getElem_cons_succ, List.getElem_cons_zero, Act.put, List.setIfInBounds_toArray, List.set_cons_zero, List.set_cons_succ]
            refine wpAnyH_take (i := 19) (v := ?_) rfl (by kernel_rfl) (by kernel_rfl) (by kernel_rfl) (fun _ _ _ h => h) (Or.inl ⟨by rfl, ?_⟩) (by assumption) ?_
            rotate_left
            focus
              intro U hU
              try dsimp only at hU
              go_simp
              try (with_reducible rfl)
            simp only [List.getElem_toArray, List.getElem_cons_succ, List.getElem_cons_zero, Act.put, List.setIfInBounds_toArray, List.set_cons_zero, List.set_cons_succ]
            refine wpAnyH_take (i := 20) (v := ?_) rfl (by kernel_rfl) (by kernel_rfl) (by kernel_rfl) (fun _ _ _ h => h) (Or.inl ⟨by rfl, ?_⟩) (by assumption) ?_
            rotate_left
            focus
              intro U hU
              try dsimp only at hU
              go_simp
              try (with_reducible rfl)
            simp only [List.getElem_toArray, List.getElem_cons_succ, List.getElem_cons_zero, Act.put, List.setIfInBounds_toArray, List.set_cons_zero, List.set_cons_succ]
            refine wpAnyH_take (i := 22) (v := ?_) rfl (by kernel_rfl) (by kernel_rfl) (by kernel_rfl) (fun _ _ _ h => h) (Or.inl ⟨by rfl, ?_⟩) (by assumption) ?_
            rotate_left
            focus
              intro U hU
              try dsimp only at hU
              go_simp
              try (with_reducible rfl)
            simp only [List.getElem_toArray, List.getElem_cons_succ, List.getElem_cons_zero, Act.put, List.setIfInBounds_toArray, List.set_cons_zero, List.set_cons_succ]
            refine wpAnyH_take (i := 23) (v := ?_) rfl (by kernel_rfl) (by kernel_rfl) (by kernel_rfl) (fun _ _ _ h => h) (Or.inl ⟨by rfl, ?_⟩) (by assumption) ?_
            rotate_left
            focus
              intro U hU
              try dsimp only at hU
              go_simp
              try (with_reducible rfl)
            simp only [List.getElem_toArray, List.getElem_cons_succ, List.getElem_cons_zero, Act.put, List.setIfInBounds_toArray, List.set_cons_zero, List.set_cons_succ]
            refine wpAnyH_take (i := 24) (v := ?_) rfl (by kernel_rfl) (by kernel_rfl) (by kernel_rfl) (fun _ _ _ h => h) (Or.inl ⟨by rfl, ?_⟩) (by assumption) ?_
            rotate_left
            focus
              intro U hU
              try dsimp only at hU
              go_simp
              try (with_reducible rfl)
            simp only [List.getElem_toArray, List.getElem_cons_succ, List.getElem_cons_zero, Act.put, List.setIfInBounds_toArray, List.set_cons_zero, List.set_cons_succ]
            refine wpAnyH_take (i := 25) (v := ?_) rfl (by kernel_rfl) (by kernel_rfl) (by kernel_rfl) (fun _ _ _ h => h) (Or.inl ⟨by rfl, ?_⟩) (by assumption) ?_
            rotate_left
            focus
              intro U hU
              try dsimp only at hU
              go_simp
              try (with_reducible rfl)
            simp only [List.getElem_toArray, List.getElem_cons_succ, List.getElem_cons_zero, Act.put, List.setIfInBounds_toArray, List.set_cons_zero, List.set_cons_succ]
            refine wpAnyH_take (i := 26) (v := ?_) rfl (by kernel_rfl) (by kernel_rfl) (by kernel_rfl) (fun _ _ _ h => h) (Or.inl ⟨by rfl, ?_⟩) (by assumption) ?_
            rotate_left
            focus
              intro U hU
              try dsimp only at hU
              go_simp
              try (with_reducible rfl)
            simp only [List.getElem_toArray, List.getElem_cons_succ, List.getElem_cons_zero, Act.put, List.setIfInBounds_toArray, List.set_cons_zero, List.set_cons_succ]
            refine wpAnyH_take (i := 27) (v := ?_) rfl (by kernel_rfl) (by kernel_rfl) (by kernel_rfl) (fun _ _ _ h => h) (Or.inl ⟨by rfl, ?_⟩) (by assumption) ?_
            rotate_left
            focus
              intro U hU
              try dsimp only at hU
              go_simp
              try (with_reducible rfl)
            simp only [List.getElem_toArray, List.getElem_cons_succ, List.getElem_cons_zero, Act.put, List.setIfInBounds_toArray, List.set_cons_zero, List.set_cons_succ]
            refine wpAnyH_ready (rs := [21]) (by kernel_rfl) (by simp) ?_
            refine AllReadyH.cons rfl (fun K hK => ?_) AllReadyH.nil
            simp only [List.getElem_toArray, List.getElem_cons_succ, List.getElem_cons_zero]
            go_simp
            refine (HFR.out _ hu1).mono ?_
            rintro e u2 ⟨rfl, q, rfl⟩
            have hu2 : Below w9.heap.size w9 (u1.drewN q) := hu1.trans ((below_drewN0 u1 q).mono hu1.size)
            go_wp2_with fail
            refine hK.out _ _ ?_ (fun hHeld2 => ?_)
            focus
              exact hS _ (by first | with_reducible exact hu2 | with_reducible exact hu1)
            clear hHeld
            have hHeld := hHeld2
            clear hHeld2 hK K
            try simp only [List.getElem_toArray, List.getElem_cons_succ, List.getElem_cons_zero, Act.put, List.setIfInBounds_toArray, List.set_cons_zero, List.set_cons_succ]
            refine wpAnyH_take (i := 28) (v := ?_) rfl (by kernel_rfl) (by kernel_rfl) (by kernel_rfl) (fun _ _ _ h => h) (Or.inl ⟨by rfl, ?_⟩) (by assumption) ?_
            rotate_left
            focus
              intro U hU
              try dsimp only at hU
              go_simp
              try (with_reducible rfl)
            simp only [List.getElem_toArray, List.getElem_cons_succ, List.getElem_cons_zero, Act.put, List.setIfInBounds_toArray, List.set_cons_zero, List.set_cons_succ]
            refine wpAnyH_take (i := 29) (v := ?_) rfl (by kernel_rfl) (by kernel_rfl) (by kernel_rfl) (fun _ _ _ h => h) (Or.inl ⟨by rfl, ?_⟩) (by assumption) ?_
            rotate_left
            focus
              intro U hU
              try dsimp only at hU
              go_simp
              try (with_reducible rfl)
            simp only [List.getElem_toArray, List.getElem_cons_succ, List.getElem_cons_zero, Act.put, List.setIfInBounds_toArray, List.set_cons_zero, List.set_cons_succ]
            refine wpAnyH_done (by kernel_rfl) ?_ _
            have HPF := hid (HP.out.below hu2)
            clear hHeld hS HBY HSZ HFR hu1 hu2 hcv HP hz hw g1 g1' g2 g3
            go_wp2
            go_roundw
            case rel => exact ⟨j + 1, D, l2, armed2, fuse2, fu2, by omega, by go_num, rfl, HPF.out⟩
            case measure => simp [intOf]; omega
        · have hge : (k : Int) ≤ (j : Int) := by omega
          have hd2 : decide ((j : Int) < (k : Int)) = false := decide_eq_false (by omega)
          go_wp2_with (first
            | (go_at_call 24; refine (dfuse0 _ _).mono ?_; rintro y w' ⟨⟨v, rfl⟩, rfl⟩)
            | (go_at_call 22; refine (dappend0 _ _).mono ?_; rintro y w' ⟨rfl, rfl⟩)
            | (go_at_call 25; refine (dcut0 _ _).mono ?_; rintro y w' ⟨rfl, rfl⟩)
            | (go_at_call 28; refine (dbytes0 _).mono ?_; rintro y w' ⟨rfl, rfl⟩)
            | (go_at_call 29; refine (dsize0 _).mono ?_; rintro y w' ⟨rfl, rfl⟩)
            | (go_at_call 30; refine (dfree0 _).mono ?_; rintro y w' ⟨rfl, rfl⟩)
            | (go_at_call 27; refine (dclone0 _).mono ?_; rintro y w' ⟨rfl, rfl⟩)
            | (go_at_call 19; refine (HW.out _).mono ?_; rintro y w' ⟨rfl, hb9⟩))
          go_ret
          exact ⟨rfl, (HS.out.below hb9).bel⟩
end Go.Proofs.Ytiemkjinibkclaa
