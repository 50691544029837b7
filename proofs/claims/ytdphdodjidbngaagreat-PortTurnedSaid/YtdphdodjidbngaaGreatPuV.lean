/- PortTurned: the law. -/
import Derived.Test.YtdphdodjidbngaaGreatPuP
import Derived.Test.YtdphdodjidbngaaGreatPaR
import Derived.Deep.CutRange
import Derived.Deep.CutBlock
import Derived.Lib.BitFns
namespace Go.Proofs.YtdphdodjidbngaaGreat
open Go.RowKit Go.Sort
set_option linter.unusedVariables false
set_option linter.unusedSimpArgs false

theorem mod_pow_succP (t i : Nat) : t % 2 ^ (i + 1) = t % 2 ^ i + 2 ^ i * (t / 2 ^ i % 2) := by rw [Nat.pow_succ, Nat.mod_mul]
/-- The law's state: its arguments, a port. -/
structure US (W w : World) (A B t0 t1 : Nat) (k f t i p s : Int) (b : ByteArray) (P M m : Nat) (L : List Ev) : Prop where
  ks : KSt W w A B t0 t1 k f t i p s b
  pt : PortAt w P M 0 1 4 L
  gi : ∀ e ∈ L, GI m e
  ma : A ≠ M
  mb : B ≠ M
  mw : W.heap.size ≤ M
theorem US.below {W w w' : World} {A B t0 t1 : Nat} {k f t i p s : Int} {b : ByteArray} {P M m : Nat} {L : List Ev} (h : US W w A B t0 t1 k f t i p s b P M m L) (hb : Below w.heap.size w w') : US W w' A B t0 t1 k f t i p s b P M m L :=
  ⟨h.ks.below hb, h.pt.below hb, h.gi, h.ma, h.mb, h.mw⟩
theorem US.call {W w w' : World} {A B t0 t1 : Nat} {k f t i p s : Int} {b : ByteArray} {P M m m' : Nat} {L L' : List Ev} (h : US W w A B t0 t1 k f t i p s b P M m L) (hp : PortAt w' P M 0 1 4 L') (hg : ∀ e ∈ L', GI m' e) (ho : Only M w w') : US W w' A B t0 t1 k f t i p s b P M m' L' :=
  ⟨⟨(ho.keep A h.ma (lt_of_block h.ks.a)).trans h.ks.a, (ho.keep B h.mb (lt_of_block h.ks.b)).trans h.ks.b, h.ks.bel.trans (ho.below _ h.mw h.ks.bel.size)⟩, hp, hg, h.ma, h.mb, h.mw⟩
theorem US.other {W w w' : World} {A B t0 t1 : Nat} {k f t i p s : Int} {b : ByteArray} {P M M2 m : Nat} {L : List Ev} (h : US W w A B t0 t1 k f t i p s b P M m L) (ho : Only M2 w w') (hm : ∃ es clock, w.heap[M2]? = some (.map es clock)) (h1 : M ≠ M2) (h2 : A ≠ M2) (h3 : B ≠ M2) (h4 : W.heap.size ≤ M2) : US W w' A B t0 t1 k f t i p s b P M m L := by
  obtain ⟨es, clock, hm⟩ := hm
  exact ⟨⟨(ho.keep A h2 (lt_of_block h.ks.a)).trans h.ks.a, (ho.keep B h3 (lt_of_block h.ks.b)).trans h.ks.b, h.ks.bel.trans (ho.below _ h4 h.ks.bel.size)⟩, h.pt.other ho hm h1, h.gi, h.ma, h.mb, h.mw⟩
theorem US.store {W w : World} {A B t0 t1 : Nat} {k f t i p s : Int} {b : ByteArray} {P M m G : Nat} {L : List Ev} (h : US W w A B t0 t1 k f t i p s b P M m L) (hf : PFar w M L G) (h1 : G ≠ A) (h2 : G ≠ B) (h3 : W.heap.size ≤ G) (h4 : G ≠ P) (h5 : G ≠ M) (j : Nat) (v : Value) : US W (w.setCell ⟨G, j, none⟩ v) A B t0 t1 k f t i p s b P M m L ∧ PFar (w.setCell ⟨G, j, none⟩ v) M L G := by
  have hk : ∀ g, g < w.heap.size → ¬ g = G → (w.setCell ⟨G, j, none⟩ v).heap[g]? = w.heap[g]? := fun g _ hn => Below.heap_setCell _ _ _ _ hn
  refine ⟨⟨⟨(Below.heap_setCell _ _ _ _ (fun e => h1 e.symm)).trans h.ks.a, (Below.heap_setCell _ _ _ _ (fun e => h2 e.symm)).trans h.ks.b, h.ks.bel.setCell (p := ⟨G, j, none⟩) h3 v⟩, h.pt.but (S := fun g => g = G) hk (fun e => h4 e.symm) (fun e => h5 e.symm) (fun gg hg => by subst hg; exact hf), h.gi, h.ma, h.mb, h.mw⟩, hf.blk (Below.heap_setCell _ _ _ _ (fun e => h5 e.symm))⟩
theorem str_data (b : ByteArray) : str b.data.toList = b := by simp [str]
set_option maxRecDepth 20000 in
set_option maxHeartbeats 16000000 in
theorem portTurned_law (AA : Option Addr) (cap : Nat) (l : List Ap) (k f t i p s : Int) (b : ByteArray) (t0 t1 : Nat) (ht0 : t0 < 4294967296) (ht1 : t1 < 4294967296) (hb : b.size ≤ maxLen) (W : World) (hA : Sl W 10 AA l.length cap (gcells apl l)) (hok : ∀ x ∈ l, ApOk x) :
    Calls Tryz.prog 4 #[.slice AA l.length cap, .agg #[.int .i64 k, .int .i64 f, .int .i64 t, .int .i64 i, .int .i64 p, .int .i64 s, .string b], .agg #[.int .u32 (t0 : Int), .int .u32 (t1 : Int)]] W fun e w' => e = .returned (.bool true) ∧ Below W.heap.size W w' := by
  have HA := hid hA
  have HOK := hid hok
  have hlm : (l.length : Int) ≤ 9223372036854775807 := by have h3 := hA.2.1; have h2 := hA.2.2.1; unfold maxLen at h2; omega
  have hbm : (b.size : Int) ≤ 9223372036854775807 := by unfold maxLen at hb; omega
  have HWK := hid works27_any
  have HNW := hid (fun w => ptNew_any 0 1 4 (by decide) (by decide) (by decide) (by decide) (by decide) w)
  have HT1 := hid ht1
  have HT0 := hid ht0
  have hK : KSt W ((W.alloc (.cells #[.int .i64 k, .int .i64 f, .int .i64 t, .int .i64 i, .int .i64 p, .int .i64 s, .string b] 30)).alloc (.cells #[.int .u32 (t0 : Int), .int .u32 (t1 : Int)] 52)) W.heap.size (W.heap.size + 1) t0 t1 k f t i p s b := ⟨heap_first _ _ _, heap_second _ _ _, below2 _ _ _⟩
  clear hA hok ht0 ht1 hb
  go_enter Tryz.func4, Tryz.ntmps4
  go_upto_region 1 with (fail)
  have hne : W.heap.size ≠ W.heap.size + 1 := by omega
  generalize W.heap.size + 1 = B at hK ⊢ hne
  generalize hAA : W.heap.size = A at hK ⊢ hne
  refine at_world (fun w => KSt W w A B t0 t1 k f t i p s b) hK ?_
  clear hK
  rintro w0 hK
  have HK := hid hK
  have hlA := lt_of_block hK.a
  have hlB := lt_of_block hK.b
  have hlW := hK.bel.size
  clear hK
  go_wp2_with fail
  refine (HNW.out _).mono ?_
  rintro e w1 ⟨P, M, rfl, -, hM, hp1, hb1⟩
  have HU1 : Hid (US W w1 A B t0 t1 k f t i p s b P M 0 []) := hid ⟨HK.out.below hb1, hp1, fun e he => by simp at he, by omega, by omega, by omega⟩
  clear HNW HK hlA hlB hlW hM hp1 hb1 hne hAA
  go_upto_block 0 with (fail)
  go_cut [8] from 22 to 84 (fun _ wx => ∃ L, US W wx A B t0 t1 k f t i p s b P M 30 L)
  case first =>
    go_wp2_with fail
    go_loopw [8] (fun v8 wr => ∃ (j : Nat) (L : List Ev), j ≤ 30 ∧ j ≤ l.length ∧ v8 = .int .i64 (j : Int) ∧ Hid (US W wr A B t0 t1 k f t i p s b P M j L)) (fun v8 _ => 30 - (intOf v8).toNat)
    case atStart => exact ⟨0, [], by omega, by omega, rfl, HU1.out⟩
    case round =>
      clear HU1
      obtain ⟨j, L, hj, hjl, rfl, HU⟩ := hrel
      by_cases hlt : j < l.length ∧ j < 30
      · obtain ⟨hlt, hj30⟩ := hlt
        have e1 : (j : Int) < (l.length : Int) := by omega
        have e2 : (j : Int) < 30 := by omega
        have e3 : decide ((j : Int) < (l.length : Int)) = true := decide_eq_true e1
        have e4 : decide ((j : Int) < 30) = true := decide_eq_true e2
        have hw : IntKind.i64.wrap ((j : Int) + 1) = (j : Int) + 1 := IntWalk.i64_in _ (by omega)
        obtain ⟨bA, oA, rfl, c0, c1, c2, c3, c4, c5, c6, c7, c8, c9⟩ := HA.out.ap j hlt
        have HLC := hid (fun (U : World) (hU : Below W.heap.size W U) => And.intro (cellb hU c1) (cellb hU c2))
        have c0 := cellb HU.out.ks.bel c0
        have c1 := cellb HU.out.ks.bel c1
        have c2 := cellb HU.out.ks.bel c2
        have c3 := cellb HU.out.ks.bel c3
        have c4 := cellb HU.out.ks.bel c4
        have c5 := cellb HU.out.ks.bel c5
        have c6 := cellb HU.out.ks.bel c6
        have c7 := cellb HU.out.ks.bel c7
        have c8 := cellb HU.out.ks.bel c8
        have c9 := cellb HU.out.ks.bel c9
        have hxo := HOK.out l[j] (List.getElem_mem hlt)
        have hx1 : (l[j].tx.size : Int) ≤ 9223372036854775807 := by have := hxo.1; unfold maxLen at this; omega
        have hx2 : (l[j].b.size : Int) ≤ 9223372036854775807 := by have := hxo.2; unfold maxLen at this; omega
        clear hxo
        generalize l[j] = x at *
        obtain ⟨xd, xt, xtx, xk, xf, xto, xi, xp, xs, xb⟩ := x
        simp only at c0 c1 c2 c3 c4 c5 c6 c7 c8 c9 hx1 hx2 HLC
        have HTK := hid (ptick_any wr HU.out.pt (fun e he => (HU.out.gi e he).gd (by omega)))
        have HGT := hid (gi_ptick HU.out.gi)
        by_cases hd0 : xd = 0
        · subst hd0
          by_cases htx : xtx.size ≤ 200
          · have f1 : (xtx.size : Int) ≤ 200 := by omega
            have f2 : decide ((xtx.size : Int) ≤ 200) = true := decide_eq_true f1
            have HPU := hid (fun U (h : PortAt U P M 0 1 4 L) => pput_any xt xtx.data.toList U h (fun e he => (HU.out.gi e he).gd (by omega)) (by rw [Array.length_toList]; show xtx.size ≤ _; unfold maxLen; omega))
            rw [str_data] at HPU
            have HGP := hid (gi_pput HU.out.gi xt xtx.data.toList)
            generalize pputV 0 1 4 L xt xtx.data.toList = rv at *
            clear HTK HGT htx
            go_upto_region 6 with (fail)
            have hk0 : Below wr.heap.size wr wr.drew := below_drew (Below.refl _ _)
            have hS : ∀ U, Below W.heap.size W U → (U.cell? ⟨bA, oA + j * 10 + 1, none⟩ = some (.int .i64 xt) ∧ U.cell? ⟨bA, oA + j * 10 + 2, none⟩ = some (.string xtx)) := fun U hU => HLC.out U hU
            clear c0 c1 c2 c3 c4 c5 c6 c7 c8 c9
            refine wp_region_held_drew (S := fun U => U.cell? ⟨bA, oA + j * 10 + 1, none⟩ = some (.int .i64 xt) ∧ U.cell? ⟨bA, oA + j * 10 + 2, none⟩ = some (.string xtx)) (by kernel_rfl) (hS _ (HU.out.below hk0).ks.bel) (fun hHeld => ?_)
            have HU0 := hid (HU.out.below hk0)
            clear HU
            generalize wr.drew = k0 at *
            refine wpAnyH_take (i := 0) (v := ?_) rfl (by kernel_rfl) (by kernel_rfl) (by kernel_rfl) (fun _ _ _ h => h) (Or.inl ⟨by rfl, ?_⟩) (by assumption) ?_
            rotate_left
            focus
              intro U hU
              try dsimp only at hU
              go_simp
              try (with_reducible rfl)
            simp only [List.getElem_toArray, List.getElem_cons_succ, List.getElem_cons_zero, Act.put, List.setIfInBounds_toArray, List.set_cons_zero, List.set_cons_succ]
            refine wpAnyH_take (i := 1) (v := ?_) rfl (by kernel_rfl) (by kernel_rfl) (by kernel_rfl) (fun _ _ _ h => h) (Or.inl ⟨by rfl, ?_⟩) (by assumption) ?_
            rotate_left
            focus
              intro U hU
              try dsimp only at hU
              go_simp
              try (with_reducible rfl)
            simp only [List.getElem_toArray, List.getElem_cons_succ, List.getElem_cons_zero, Act.put, List.setIfInBounds_toArray, List.set_cons_zero, List.set_cons_succ]
            refine wpAnyH_take (i := 2) (v := ?_) rfl (by kernel_rfl) (by kernel_rfl) (by kernel_rfl) (fun _ _ _ h => h) (Or.inl ⟨by rfl, ?_⟩) (by assumption) ?_
            rotate_left
            focus
              intro U hU
              try dsimp only at hU
              go_simp
              try (with_reducible rfl)
            simp only [List.getElem_toArray, List.getElem_cons_succ, List.getElem_cons_zero, Act.put, List.setIfInBounds_toArray, List.set_cons_zero, List.set_cons_succ]
            refine wpAnyH_take (i := 3) (v := ?_) rfl (by kernel_rfl) (by kernel_rfl) (by kernel_rfl) (fun _ _ _ h => h) (Or.inl ⟨by rfl, ?_⟩) (by assumption) ?_
            rotate_left
            focus
              intro U hU
              try dsimp only at hU
              go_simp
              try (with_reducible rfl)
            simp only [List.getElem_toArray, List.getElem_cons_succ, List.getElem_cons_zero, Act.put, List.setIfInBounds_toArray, List.set_cons_zero, List.set_cons_succ]
            refine wpAnyH_take (i := 4) (v := ?_) rfl (by kernel_rfl) (by kernel_rfl) (by kernel_rfl) (fun _ _ _ h => h) (Or.inl ⟨by rfl, ?_⟩) (by assumption) ?_
            rotate_left
            focus
              intro U hU
              try dsimp only at hU
              go_simp
              try (with_reducible rfl)
            simp only [List.getElem_toArray, List.getElem_cons_succ, List.getElem_cons_zero, Act.put, List.setIfInBounds_toArray, List.set_cons_zero, List.set_cons_succ]
            refine wpAnyH_take (i := 5) (v := ?_) rfl (by kernel_rfl) (by kernel_rfl) (by kernel_rfl) (fun _ _ _ h => h) (Or.inl ⟨by rfl, ?_⟩) (by assumption) ?_
            rotate_left
            focus
              intro U hU
              try dsimp only at hU
              go_simp
              try (with_reducible rfl)
            simp only [List.getElem_toArray, List.getElem_cons_succ, List.getElem_cons_zero, Act.put, List.setIfInBounds_toArray, List.set_cons_zero, List.set_cons_succ]
            refine wpAnyH_take (i := 6) (v := ?_) rfl (by kernel_rfl) (by kernel_rfl) (by kernel_rfl) (fun _ _ _ h => h) (Or.inl ⟨by rfl, ?_⟩) (by assumption) ?_
            rotate_left
            focus
              intro U hU
              try dsimp only at hU
              go_simp
              try (with_reducible rfl)
            simp only [List.getElem_toArray, List.getElem_cons_succ, List.getElem_cons_zero, Act.put, List.setIfInBounds_toArray, List.set_cons_zero, List.set_cons_succ]
            refine wpAnyH_take (i := 7) (v := ?_) rfl (by kernel_rfl) (by kernel_rfl) (by kernel_rfl) (fun _ _ _ h => h) (Or.inl ⟨by rfl, ?_⟩) (by assumption) ?_
            rotate_left
            focus
              intro U hU
              try dsimp only at hU
              go_simp
              try (with_reducible rfl)
            simp only [List.getElem_toArray, List.getElem_cons_succ, List.getElem_cons_zero, Act.put, List.setIfInBounds_toArray, List.set_cons_zero, List.set_cons_succ]
            refine wpAnyH_take (i := 8) (v := ?_) rfl (by kernel_rfl) (by kernel_rfl) (by kernel_rfl) (fun _ _ _ h => h) (Or.inl ⟨by rfl, ?_⟩) (by assumption) ?_
            rotate_left
            focus
              intro U hU
              try dsimp only at hU
              go_simp
              try (with_reducible rfl)
            simp only [List.getElem_toArray, List.getElem_cons_succ, List.getElem_cons_zero, Act.put, List.setIfInBounds_toArray, List.set_cons_zero, List.set_cons_succ]
            refine wpAnyH_take (i := 9) (v := ?_) rfl (by kernel_rfl) (by kernel_rfl) (by kernel_rfl) (fun _ _ _ h => h) (Or.inl ⟨by rfl, ?_⟩) (by assumption) ?_
            rotate_left
            focus
              intro U hU
              try dsimp only at hU
              go_simp
              try (with_reducible rfl)
            simp only [List.getElem_toArray, List.getElem_cons_succ, List.getElem_cons_zero, Act.put, List.setIfInBounds_toArray, List.set_cons_zero, List.set_cons_succ]
            refine wpAnyH_take (i := 10) (v := ?_) rfl (by kernel_rfl) (by kernel_rfl) (by kernel_rfl) (fun _ _ _ h => h) (Or.inl ⟨by rfl, ?_⟩) (by assumption) ?_
            rotate_left
            focus
              intro U hU
              try dsimp only at hU
              go_simp
              try (with_reducible rfl)
            simp only [List.getElem_toArray, List.getElem_cons_succ, List.getElem_cons_zero, Act.put, List.setIfInBounds_toArray, List.set_cons_zero, List.set_cons_succ]
            refine wpAnyH_ready (rs := [11]) (by kernel_rfl) (by simp) ?_
            refine AllReadyH.cons rfl (fun K hK => ?_) AllReadyH.nil
            simp only [List.getElem_toArray, List.getElem_cons_succ, List.getElem_cons_zero]
            go_simp
            refine (HPU.out k0 HU0.out.pt).mono ?_
            rintro e k1 ⟨Ax, cx, rfl, -, hpx, hox, -⟩
            have HU2 := hid (HU0.out.call hpx (fun e he => (HGP.out e he).mono (Nat.le_succ j)) hox)
            clear hpx hox
            go_wp2_with fail
            refine hK.out _ _ ?_ (fun hHeld2 => ?_)
            focus
              exact hS _ HU2.out.ks.bel
            clear hHeld
            have hHeld := hHeld2
            clear hHeld2 hK K
            try simp only [List.getElem_toArray, List.getElem_cons_succ, List.getElem_cons_zero, Act.put, List.setIfInBounds_toArray, List.set_cons_zero, List.set_cons_succ]
            refine wpAnyH_done (by kernel_rfl) ?_ _
            clear hHeld hS HPU
            go_wp2
            go_roundw
            case rel => exact ⟨j + 1, rv.1, by omega, by omega, by go_num, HU2.out⟩
            case measure => simp [intOf]; omega
          · have f1 : ¬ (xtx.size : Int) ≤ 200 := by omega
            have f2 : decide ((xtx.size : Int) ≤ 200) = false := decide_eq_false f1
            have f3 : (200 : Int) < (xtx.size : Int) := by omega
            clear htx
            clear c1 c2 c3 c4 c5 c6 c7 c8
            go_wp2_with fail
            refine HTK.out.mono ?_
            rintro e w2 ⟨Ax, cx, rfl, -, hpx, hox, -⟩
            have HU2 := hid (HU.out.call hpx (fun e he => (HGT.out e he).mono (Nat.le_succ j)) hox)
            clear HU HTK hpx hox c0 c9
            go_wp2
            go_roundw
            case rel => exact ⟨j + 1, _, by omega, by omega, by go_num, HU2.out⟩
            case measure => simp [intOf]; omega
        have hd0b : (xd == 0) = false := by simpa using hd0
        by_cases hd4 : xd = 4
        · subst hd4
          clear hd0 hd0b
          by_cases hxb : xb.size ≤ 200
          · have f1 : (xb.size : Int) ≤ 200 := by omega
            have f2 : decide ((xb.size : Int) ≤ 200) = true := decide_eq_true f1
            have HRB := hid (fun w => rpbytes_any xk xf xto xi xp xs xb (by omega) w)
            have HTA := hid (fun U (h : PortAt U P M 0 1 4 L) => ptake_any (pbL ⟨xk, xf, xto, xi, xp, xs, xb.data.toList⟩) U h (fun e he => (HU.out.gi e he).gd (by omega)) (pbL_len2 _))
            rw [pbL_str] at HTA
            simp only [str_data] at HTA
            have HGP := hid (gi_ptake HU.out.gi (pbL ⟨xk, xf, xto, xi, xp, xs, xb.data.toList⟩))
            generalize ptakV 0 1 L (pbL ⟨xk, xf, xto, xi, xp, xs, xb.data.toList⟩) = rv at *
            generalize pbS xk xf xto xi xp xs xb = sb at *
            clear HTK HGT hxb
            go_wp2_with fail
            refine (HRB.out _).mono ?_
            rintro e w2 ⟨rfl, hb2⟩
            have HU2 := hid (HU.out.below hb2)
            have HTA2 := hid (HTA.out w2 HU2.out.pt)
            clear HU HTA HRB hb2 c0 c1 c2 c3 c4 c5 c6 c7 c8 c9
            go_wp2_with fail
            refine HTA2.out.mono ?_
            rintro e w3 ⟨Ax, cx, rfl, -, hpx, hox, -⟩
            have HU3 := hid (HU2.out.call hpx HGP.out hox)
            clear HTA2 HU2 hpx hox
            go_wp2
            go_roundw
            case rel => exact ⟨j + 1, rv.1, by omega, by omega, by go_num, HU3.out⟩
            case measure => simp [intOf]; omega
          · have f1 : ¬ (xb.size : Int) ≤ 200 := by omega
            have f2 : decide ((xb.size : Int) ≤ 200) = false := decide_eq_false f1
            have f3 : (200 : Int) < (xb.size : Int) := by omega
            clear hxb
            clear c1 c2 c3 c4 c5 c6 c7 c8
            go_wp2_with fail
            refine HTK.out.mono ?_
            rintro e w2 ⟨Ax, cx, rfl, -, hpx, hox, -⟩
            have HU2 := hid (HU.out.call hpx (fun e he => (HGT.out e he).mono (Nat.le_succ j)) hox)
            clear HU HTK hpx hox c0 c9
            go_wp2
            go_roundw
            case rel => exact ⟨j + 1, _, by omega, by omega, by go_num, HU2.out⟩
            case measure => simp [intOf]; omega
        · have hd4b : (xd == 4) = false := by simpa using hd4
          clear c1 c2 c3 c4 c5 c6 c7 c8
          go_wp2_with fail
          refine HTK.out.mono ?_
          rintro e w2 ⟨Ax, cx, rfl, -, hpx, hox, -⟩
          have HU2 := hid (HU.out.call hpx (fun e he => (HGT.out e he).mono (Nat.le_succ j)) hox)
          clear HU HTK hpx hox c0 c9
          go_wp2
          go_roundw
          case rel => exact ⟨j + 1, _, by omega, by omega, by go_num, HU2.out⟩
          case measure => simp [intOf]; omega
      · have HU9 : Hid (US W wr A B t0 t1 k f t i p s b P M 30 L) := hid ⟨HU.out.ks, HU.out.pt, fun e he => (HU.out.gi e he).mono hj, HU.out.ma, HU.out.mb, HU.out.mw⟩
        have hex : (j : Int) < (l.length : Int) ∧ ¬ (j : Int) < 30 ∨ ¬ (j : Int) < (l.length : Int) := by omega
        clear HU hlt
        rcases hex with ⟨e1, e2⟩ | e1
        · have e2' : (30 : Int) ≤ (j : Int) := by omega
          have e3 : decide ((j : Int) < (l.length : Int)) = true := decide_eq_true e1
          have e4 : decide ((j : Int) < 30) = false := decide_eq_false e2
          clear e2
          go_wp2_with fail
          go_meet
          exact ⟨L, HU9.out⟩
        · have e1' : (l.length : Int) ≤ (j : Int) := by omega
          have e3 : decide ((j : Int) < (l.length : Int)) = false := decide_eq_false e1
          clear e1
          go_wp2_with fail
          go_meet
          exact ⟨L, HU9.out⟩
  case rest =>
    clear HU1 HOK HA
    obtain ⟨L, hu⟩ := hcut
    have HU := hid hu
    clear hu
    obtain ⟨⟨p0, p1, p2, p3, p4, p5, p6⟩, _⟩ := seven_cells HU.out.ks.a
    by_cases hbz : b.size ≤ 200
    case neg =>
      have f1 : ¬ (b.size : Int) ≤ 200 := by omega
      have f2 : (200 : Int) < (b.size : Int) := by omega
      have f3 : decide ((200 : Int) < (b.size : Int)) = true := decide_eq_true f2
      clear hbz
      go_wp2_with fail
      refine (HWK.out _).mono ?_
      rintro e w2 ⟨rfl, hb2⟩
      have HB2 := hid (HU.out.ks.bel.trans (hb2.mono HU.out.ks.bel.size))
      clear hb2
      go_wp2
      go_ret
      exact ⟨rfl, HB2.out⟩
    have f1 : (b.size : Int) ≤ 200 := by omega
    have f2 : decide ((200 : Int) < (b.size : Int)) = false := decide_eq_false (by omega)
    have HCK := hid (fun w => rcheck_any k f t i p s b w)
    have HRB := hid (fun w => rpbytes_any k f t i p s b (by omega) w)
    clear hbz
    cases hok : okP k f t i p s b.data.toList
    case false =>
      rw [hok] at HCK
      clear hok HRB
      go_wp2_with fail
      refine (HCK.out _).mono ?_
      rintro e w2 ⟨rfl, hb2⟩
      have HU2 := hid (HU.out.below hb2)
      clear HU hb2 HCK
      go_wp2_with fail
      refine (HWK.out _).mono ?_
      rintro e w3 ⟨rfl, hb2⟩
      have HB2 := hid (HU2.out.ks.bel.trans (hb2.mono HU2.out.ks.bel.size))
      clear hb2
      go_wp2
      go_ret
      exact ⟨rfl, HB2.out⟩
    case true =>
      rw [hok] at HCK
      have hy : pbS k f t i p s b = str (frP (plB k f t i p s b.data.toList)) := by rw [pbS, if_pos hok]
      rw [hy] at HRB
      have hpl := plB_len (f := f) (t := t) (i := i) (p := p) (s := s) (okP_iff hok).2.2.2.2.2.2.2
      generalize plB k f t i p s b.data.toList = pl at *
      have hfl : (frP pl).length = pl.length + 5 := frP_len1 pl (by omega)
      have HCT := hid (fun a m hm hm2 ha h1 => opE_cut (cut_turned2 pl a t1 m (by omega) hm hm2 ha h1))
      obtain ⟨n, hn⟩ : ∃ n, pl.length = n := ⟨_, rfl⟩
      rw [hn] at hfl hpl HCT
      clear hy hok hn
      generalize frP pl = fr at *
      have hst : (str fr).data.toList = fr := by simp [str]
      have hsz : (str fr).size = n + 5 := by rw [str_size]; exact hfl
      have HFL := hid hfl
      have HPL := hid hpl
      clear hfl
      go_wp2_with fail
      refine (HCK.out _).mono ?_
      rintro e w2 ⟨rfl, hb2⟩
      have HU2 := hid (HU.out.below hb2)
      clear HU hb2 HCK p0 p1 p2 p3 p4 p5 p6
      obtain ⟨⟨p0, p1, p2, p3, p4, p5, p6⟩, _⟩ := seven_cells HU2.out.ks.a
      go_wp2_with fail
      refine (HRB.out _).mono ?_
      rintro e w9 ⟨rfl, hb9⟩
      have HU9 := hid (HU2.out.below hb9)
      obtain ⟨w10, c, hcv, hrow, hb10, hz10⟩ := bytes_brow w9 (str fr) (by rw [hsz]; omega)
      rw [hst] at hrow
      rw [hsz] at hcv
      have HU10 : Hid (US W w10 A B t0 t1 k f t i p s b P M 30 L ∧ PFar w10 M L w9.heap.size) := hid ⟨HU9.out.below hb10, (HU9.out.pt.ends.far (Nat.le_refl _)).blk (hb10.block M HU9.out.pt.ends.lt)⟩
      have HROW := hid hrow
      have hGB : Hid (w9.heap.size ≠ A ∧ w9.heap.size ≠ B ∧ W.heap.size ≤ w9.heap.size ∧ w9.heap.size ≠ P ∧ w9.heap.size ≠ M) := hid ⟨fun e => by have := lt_of_block HU9.out.ks.a; omega, fun e => by have := lt_of_block HU9.out.ks.b; omega, HU9.out.ks.bel.size, fun e => by have := lt_of_block HU9.out.pt.blk; omega, fun e => by have := HU9.out.pt.ends.lt; omega⟩
      clear HRB HU2 hb9 HU9 hrow hb10 hz10 p0 p1 p2 p3 p4 p5 p6 hst hsz
      generalize w9.heap.size = G at *
      generalize str fr = sf at *
      go_upto_region 13 with (fail)
      refine at_world (fun w => (US W w A B t0 t1 k f t i p s b P M 30 L ∧ PFar w M L G) ∧ BRow w G c fr) ⟨HU10.out, HROW.out⟩ ?_
      clear hcv HU10 HROW
      rintro w13 ⟨hu13, hR13⟩
      have HU13 := hid hu13
      have HR13 := hid hR13
      clear hu13 hR13
      have hn7 : ((n + 5 : Nat) : Int) = (n : Int) + 5 := by omega
      have hn8 : (1 : Int) ≤ (n : Int) := by omega
      have hn9 : (n : Int) ≤ 81 := by omega
      obtain ⟨q0, q1, g0, g1⟩ := two_cells HU13.out.1.ks.b
      have ht0' : (t0 : Int) < 4294967296 := by have := HT0.out; omega
      go_upto_region 14 with (fail)
      obtain ⟨N, hN⟩ : ∃ N : Nat, N = 8 * (n + 4) := ⟨_, rfl⟩
      rw [show (8 : Int) * ((n : Int) + 5 - 1) = (N : Int) by omega]
      have hN1 : (1 : Int) ≤ (N : Int) := by omega
      have hN2 : (N : Int) ≤ 680 := by omega
      obtain ⟨aa, haa⟩ : ∃ aa : Nat, t0 % N = aa := ⟨_, rfl⟩
      have haN : aa < N := by rw [← haa]; exact Nat.mod_lt _ (by omega)
      have hm : ((t0 : Int) % (N : Int)) = (aa : Int) := by rw [← haa]; rfl
      have HM := hid hm
      have HNN := hid hN
      clear haa hm hN
      go_upto_region 15 with (fail)
      rw [HM.out]
      obtain ⟨m, hm⟩ : ∃ m : Nat, min 32 (N - aa) = m := ⟨_, rfl⟩
      have hm1 : m ≤ 32 := by omega
      have hm2 : aa + m ≤ N := by omega
      have hm3 : m = 32 ∨ aa + m = N := by omega
      have hla : (aa : Int) < (N : Int) := by omega
      have HMM := hid (And.intro hm1 (And.intro hm2 hm3))
      have HB5 : Hid (8 + aa + m ≤ 8 * (n + 5) ∧ N = 8 * (n + 4)) := hid (by have := HNN.out; omega)
      have HLK := hid (fun j => show (flips fr (8 + aa) t1 j).length = n + 5 by rw [flips_length]; exact HFL.out)
      clear hm hm1 hm2 hm3 HM HNN q0 q1 g0 g1 haN
      go_upto_block 2 with (fail)
      go_cut [12, 13] from 107 to 146 (fun v12 _ wx => v12 = .bool (decide (t1 % 2 ^ m ≠ 0)) ∧ (US W wx A B t0 t1 k f t i p s b P M 30 L ∧ PFar wx M L G) ∧ BRow wx G c (flips fr (8 + aa) t1 m))
      case first =>
        go_wp2_with fail
        go_loopw [12, 13] (fun tv iv wr => ∃ j : Nat, j ≤ m ∧ iv = .int .i64 (j : Int) ∧ tv = .bool (decide (t1 % 2 ^ j ≠ 0)) ∧ Hid (US W wr A B t0 t1 k f t i p s b P M 30 L ∧ PFar wr M L G) ∧ Hid (BRow wr G c (flips fr (8 + aa) t1 j))) (fun _ iv _ => 32 - (intOf iv).toNat)
        case atStart => exact ⟨0, by omega, rfl, by simp [Nat.mod_one], HU13.out, HR13.out⟩
        case round =>
          obtain ⟨j, hj, rfl, rfl, HK2, HR2⟩ := hrel
          have hj32 : (j : Int) ≤ 32 := by have := HMM.out.1; omega
          by_cases hlt : j < m
          · have e1 : (j : Int) < 32 := by have := HMM.out.1; omega
            have e2 : (aa : Int) + (j : Int) < (N : Int) := by have := HMM.out.2.1; omega
            have e3 : decide ((j : Int) < 32) = true := decide_eq_true e1
            have e4 : decide ((aa : Int) + (j : Int) < (N : Int)) = true := decide_eq_true e2
            obtain ⟨q0, q1, g0, g1⟩ := two_cells HK2.out.1.ks.b
            have HS := hid (mod_pow_succP t1 j)
            have hjm : j + 1 ≤ m := hlt
            clear hlt
            by_cases ht : t1 / 2 ^ j % 2 = 1
            · have z3 : (bits .and .u32 ((t1 : Int) / 2 ^ j) 1 == 1) = true := by rw [odd_bit t1 j HT1.out, ht]; rfl
              have hix : 1 + (aa + j) / 8 < n + 5 := by have := HB5.out; omega
              have hix2 : (8 + aa + j) / 8 = 1 + (aa + j) / 8 := by omega
              have hix3 : (8 + aa + j) % 8 = (aa + j) % 8 := by omega
              obtain ⟨hc, hf⟩ := HR2.out.cell (1 + (aa + j) / 8) (by rw [HLK.out]; exact hix)
              generalize hcc : (flips fr (8 + aa) t1 j).getD (1 + (aa + j) / 8) 0 = ch at hc
              have HCC := hid hcc
              have HST := hid (HR2.out.set (1 + (aa + j) / 8) (ch ^^^ (1 <<< UInt8.ofNat ((aa + j) % 8))) (by rw [HLK.out]; exact hix))
              rw [← flip_val ch _ (by omega)] at HST
              have HFS := hid (show flips fr (8 + aa) t1 (j + 1) = (flips fr (8 + aa) t1 j).set (1 + (aa + j) / 8) (ch ^^^ (1 <<< UInt8.ofNat ((aa + j) % 8))) by
                simp only [flips, ht, if_true, flipL]
                rw [hix2, hix3, HCC.out])
              have HTT : Hid (decide (t1 % 2 ^ (j + 1) ≠ 0) = true) := hid (by
                rw [HS.out, ht]
                have := Nat.two_pow_pos j
                exact decide_eq_true (by omega))
              clear hcc hix2 hix3 HS
              have hix' : 1 + ((aa : Int) + (j : Int)) / 8 < (n : Int) + 5 := by omega
              go_wp2
              go_roundw
              case rel =>
                refine ⟨j + 1, hjm, by go_num, by rw [HTT.out], ?_, ?_⟩
                · exact HK2.out.1.store HK2.out.2 hGB.out.1 hGB.out.2.1 hGB.out.2.2.1 hGB.out.2.2.2.1 hGB.out.2.2.2.2 _ _
                · rw [Hid, HFS.out]; exact HST.out
              case measure => simp [intOf]; omega
            · have z3 : (bits .and .u32 ((t1 : Int) / 2 ^ j) 1 == 1) = false := by rw [odd_bit t1 j HT1.out, show t1 / 2 ^ j % 2 = 0 by omega]; rfl
              have HFS := hid (show flips fr (8 + aa) t1 (j + 1) = flips fr (8 + aa) t1 j by simp only [flips, ht, if_false])
              have HTT : Hid (decide (t1 % 2 ^ (j + 1) ≠ 0) = decide (t1 % 2 ^ j ≠ 0)) := hid (by rw [HS.out, show t1 / 2 ^ j % 2 = 0 by omega, Nat.mul_zero, Nat.add_zero])
              clear HS
              go_wp2
              go_roundw
              case rel => exact ⟨j + 1, hjm, by go_num, by rw [HTT.out], HK2.out, by rw [Hid, HFS.out]; exact HR2.out⟩
              case measure => simp [intOf]; omega
          · obtain rfl : j = m := by omega
            have hex : (j : Int) < 32 ∧ ¬ (aa : Int) + (j : Int) < (N : Int) ∨ ¬ (j : Int) < 32 := by have := HMM.out; omega
            generalize decide (t1 % 2 ^ j ≠ 0) = tv at *
            clear hlt
            rcases hex with ⟨e1, e2⟩ | e1
            · have e2' : (N : Int) ≤ (aa : Int) + (j : Int) := by omega
              have e3 : decide ((j : Int) < 32) = true := decide_eq_true e1
              have e4 : decide ((aa : Int) + (j : Int) < (N : Int)) = false := decide_eq_false e2
              clear e2
              go_wp2_with fail
              go_meet
              exact ⟨rfl, HK2.out, HR2.out⟩
            · have e1' : (32 : Int) ≤ (j : Int) := by omega
              have e3 : decide ((j : Int) < 32) = false := decide_eq_false e1
              clear e1
              go_wp2_with fail
              go_meet
              exact ⟨rfl, HK2.out, HR2.out⟩
      case rest =>
        obtain ⟨rfl, hu14, hr14⟩ := hcut
        obtain ⟨tv, htv⟩ : ∃ tv, decide (t1 % 2 ^ m ≠ 0) = tv := ⟨_, rfl⟩
        have HTV := hid htv
        rw [htv]
        clear htv
        clear HU13 HR13 hn7 hn8 hn9 hN1 hN2 hla ht0'
        have HU14 := hid hu14.1
        have HR14 := hid hr14
        have HCL := hid (fun w (h : US W w A B t0 t1 k f t i p s b P M 30 L) => pclone_any w h.pt (by decide) (by decide) (by decide) (by decide) (by decide) (fun e he => by have := (h.gi e he).1; omega))
        have HCTT : Hid (t1 % 2 ^ m ≠ 0 → opE (flips fr (8 + aa) t1 m) ≠ 0) := hid (fun h0 => HCT.out aa m HMM.out.1 (by have := HMM.out.2.2; have := HB5.out; omega) HB5.out.1 h0)
        have HLL := hid (HLK.out m)
        clear hu14 hr14 HCT HLK HB5 HMM
        go_wp2_with fail
        refine (HCL.out _ HU14.out).mono ?_
        rintro e w15 ⟨P2, M2, rfl, hP2, hM2, hp2, hb15⟩
        have HU15 := hid (HU14.out.below hb15)
        have HR15 := hid (HR14.out.below hb15)
        have HP15 := hid hp2
        have HMQ : Hid (M ≠ M2 ∧ A ≠ M2 ∧ B ≠ M2 ∧ W.heap.size ≤ M2) := hid ⟨by have := HU14.out.pt.ends.lt; omega, by have := lt_of_block HU14.out.ks.a; omega, by have := lt_of_block HU14.out.ks.b; omega, by have := HU14.out.ks.bel.size; omega⟩
        clear HCL HU14 HR14 hp2 hb15 hP2 hM2
        go_upto_if 149 with (fail)
        go_cut [15, 16, 17, 18] from 150 to 173 (fun _ _ _ _ wx => US W wx A B t0 t1 k f t i p s b P M 30 L ∧ PortAt wx P2 M2 0 1 4 L)
        case first =>
          cases tv
          case false =>
            go_wp2_with fail
            go_meet
            exact ⟨HU15.out, HP15.out⟩
          case true =>
            have hoe := HCTT.out (of_decide_eq_true HTV.out)
            have hcv2 := convS3 (HR15.out.bytes)
            have HTA := hid (ptake_any (flips fr (8 + aa) t1 m) w15 HP15.out (fun e he => (HU15.out.gi e he).gd (by omega)) (by have := HLL.out; have := HPL.out; omega))
            have hpt : ptakV 0 1 L (flips fr (8 + aa) t1 m) = (L, (-1, ⟨#[]⟩), [], opE (flips fr (8 + aa) t1 m)) := by rw [ptakV, if_pos hoe]
            rw [hpt] at HTA
            rw [HLL.out] at hcv2
            have hoe2 : (opE (flips fr (8 + aa) t1 m) == 0) = false := by simpa using hoe
            clear hpt hoe
            generalize opE (flips fr (8 + aa) t1 m) = oe at *
            generalize str (flips fr (8 + aa) t1 m) = sf2 at *
            go_wp2_with fail
            refine HTA.out.mono ?_
            rintro e w16 ⟨Ax, cx, rfl, -, hpx, hox, -⟩
            have HU16 := hid (HU15.out.other hox (HP15.out.ends.block) HMQ.out.1 HMQ.out.2.1 HMQ.out.2.2.1 HMQ.out.2.2.2)
            have HP16 := hid hpx
            clear HTA hpx hox hcv2 HU15 HP15
            simp only [List.length_nil]
            go_wp2_with fail
            go_meet
            exact ⟨HU16.out, HP16.out⟩
        case rest =>
          obtain ⟨hu16, hp16⟩ := hcut
          clear HU15 HP15 HR15 HCTT HLL
          have HU16 := hid hu16
          have HP16 := hid hp16
          clear hu16 hp16
          go_wp2
          go_loopw [19] (fun v19 wr => ∃ (n : Nat) (L2 : List Ev), n ≤ 20 ∧ v19 = .int .i64 (n : Int) ∧ Hid (US W wr A B t0 t1 k f t i p s b P M 30 L2) ∧ Hid (PortAt wr P2 M2 0 1 4 L2)) (fun v19 _ => 20 - (intOf v19).toNat)
          case atStart => exact ⟨0, L, by omega, rfl, HU16.out, HP16.out⟩
          case round =>
            clear HU16 HP16
            obtain ⟨n2, L2, hn2, rfl, HU, HP⟩ := hrel
            by_cases hlt : n2 < 20
            · have e1 : (n2 : Int) < 20 := by omega
              have hw : IntKind.i64.wrap ((n2 : Int) + 1) = (n2 : Int) + 1 := IntWalk.i64_in _ (by omega)
              have hgd : ∀ e ∈ L2, GdE e := fun e he => (HU.out.gi e he).gd (by omega)
              have HTA := hid (ptick_any wr HU.out.pt hgd)
              have HTB := hid (fun w (h : PortAt w P2 M2 0 1 4 L2) => ptick_any w h hgd)
              have HGT := hid (gi_ptick HU.out.gi)
              have hln : (ptickV L2).2.length ≤ 72 := tick_len L2 (by have := sorted_len L2 0 HU.out.pt.ends.1 HU.out.pt.ends.2.1 (by omega); omega)
              clear hgd
              generalize ptickV L2 = rv at *
              obtain ⟨L3, xs⟩ := rv
              simp only at hln HGT
              go_wp2_with fail
              refine HTA.out.mono ?_
              rintro e w2 ⟨Ax, cx, rfl, hox, hpx, hux, -⟩
              have HU2 := hid (HU.out.call hpx HGT.out hux)
              have HP2 := hid (HP.out.other hux HU.out.pt.ends.block.choose_spec.choose_spec HMQ.out.1.symm)
              have HTB2 := hid (HTB.out w2 HP2.out)
              have HX2 := hid hox
              clear HTA HTB HU HP hox hpx hux
              dsimp only
              go_wp2_with fail
              refine HTB2.out.mono ?_
              rintro e w3 ⟨Ay, cy, rfl, hoy, hpy, huy, -⟩
              have HU3 := hid (HU2.out.other huy HP2.out.ends.block HMQ.out.1 HMQ.out.2.1 HMQ.out.2.2.1 HMQ.out.2.2.2)
              have HP3 := hid hpy
              have HX3 := hid (own_map HX2.out HP2.out.ends.block.choose_spec.choose_spec huy.keep)
              have HSM := hid (same03 Ax Ay xs.length cx xs.length cy xs xs w3 (sl_own HX3.out) (sl_own hoy) (by omega) (by omega))
              rw [beq_self_eq_true] at HSM
              clear HTB2 HU2 HP2 HX2 hoy hpy huy HX3
              dsimp only
              go_wp2_with fail
              refine HSM.out.mono ?_
              rintro e w4 ⟨rfl, q, rfl⟩
              have HU4 := hid (HU3.out.below (⟨rfl, rfl, rfl, Nat.le_refl _, fun _ _ => rfl⟩ : Below w3.heap.size w3 (w3.drewN q)))
              have HP4 := hid (HP3.out.below (⟨rfl, rfl, rfl, Nat.le_refl _, fun _ _ => rfl⟩ : Below w3.heap.size w3 (w3.drewN q)))
              clear HSM HU3 HP3
              go_wp2
              go_roundw
              case rel => exact ⟨n2 + 1, L3, by omega, by go_num, HU4.out, HP4.out⟩
              case measure => simp [intOf]; omega
            · have hge : ¬ (n2 : Int) < 20 := by omega
              go_wp2
              go_loopw [20] (fun v20 wr => ∃ (n : Nat), n ≤ 72 ∧ v20 = .int .i64 (n : Int) ∧ Hid (US W wr A B t0 t1 k f t i p s b P M 30 L2) ∧ Hid (PortAt wr P2 M2 0 1 4 L2)) (fun v20 _ => 72 - (intOf v20).toNat)
              case atStart => exact ⟨0, by omega, rfl, HU.out, HP.out⟩
              case round =>
                clear HU HP
                obtain ⟨n3, hn3, rfl, HU, HP⟩ := hrel
                by_cases hlt3 : n3 < 72
                · have e1 : (n3 : Int) < 72 := by omega
                  have hw : IntKind.i64.wrap ((n3 : Int) + 1) = (n3 : Int) + 1 := IntWalk.i64_in _ (by omega)
                  have HW1 := hid (pwaits_any (n3 : Int) wr HU.out.pt (by omega) (by omega))
                  have HW2 := hid (pwaits_any (n3 : Int) wr HP.out (by omega) (by omega))
                  generalize pwaitV L2 (n3 : Int) = pw at *
                  go_wp2_with fail
                  refine HW1.out.mono ?_
                  rintro e w2 ⟨rfl, rfl⟩
                  go_wp2_with fail
                  refine HW2.out.mono ?_
                  rintro e w2 ⟨rfl, rfl⟩
                  go_wp2
                  go_roundw
                  case rel => exact ⟨n3 + 1, by omega, by go_num, HU.out, HP.out⟩
                  case measure => simp [intOf]; omega
                · have hge3 : ¬ (n3 : Int) < 72 := by omega
                  go_wp2_with fail
                  refine (HWK.out _).mono ?_
                  rintro e w2 ⟨rfl, hb2⟩
                  have HB2 := hid (HU.out.ks.bel.trans (hb2.mono HU.out.ks.bel.size))
                  clear hb2
                  go_wp2
                  go_ret
                  exact ⟨rfl, HB2.out⟩
end Go.Proofs.YtdphdodjidbngaaGreat

namespace Go.Proofs.YtdphdodjidbngaaGreat
open Go.RowKit Go.Sort
set_option linter.unusedVariables false
set_option linter.unusedSimpArgs false

theorem wf_u32P {n : Int} (h : (Lit.int .u32 n).wf = true) : 0 ≤ n ∧ n < 4294967296 := by
  simp [Lit.wf, IntKind.min, IntKind.max, IntKind.signed, IntKind.bits] at h
  omega
theorem portTurned_rd (A : Option Addr) (cap : Nat) (l : List Ap) (a c : Array Value) (w : World) (hA : Sl w 10 A l.length cap (gcells apl l)) (hok : ∀ x ∈ l, ApOk x) (hn : a.size = 7) (h : Rd Tryz.prog w 30 a.toList) (hr : Rd Tryz.prog w 52 c.toList) :
    Calls Tryz.prog 4 #[.slice A l.length cap, .agg a, .agg c] w fun e w' => e = .returned (.bool true) ∧ Below w.heap.size w w' := by
  obtain ⟨k, f, t, i, p, s, b, rfl, hb⟩ := rd_packet hn h
  obtain ⟨xs, hx⟩ := Rd.array_ints Tryz.underlying52 Tryz.underlying51 (by kernel_rfl) (by kernel_rfl) hr
  obtain ⟨u, v, rfl, hu, hv⟩ := ints2 hx
  have hu := wf_u32P hu
  have hv := wf_u32P hv
  obtain ⟨t0, rfl⟩ := Int.eq_ofNat_of_zero_le hu.1
  obtain ⟨t1, rfl⟩ := Int.eq_ofNat_of_zero_le hv.1
  exact portTurned_law A cap l k f t i p s b t0 t1 (by omega) (by omega) hb w hA hok
end Go.Proofs.YtdphdodjidbngaaGreat
