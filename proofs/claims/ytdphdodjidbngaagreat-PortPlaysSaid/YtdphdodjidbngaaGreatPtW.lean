/- ports that talk: the protocol where nothing is lost. -/
import Derived.Test.YtdphdodjidbngaaGreatPtU
import Derived.Test.YtdphdodjidbngaaGreatQGt
import Derived.Test.YtdphdodjidbngaaGreatGaP
namespace Go.Proofs.YtdphdodjidbngaaGreat
open Go.RowKit Go.Sort
set_option linter.unusedVariables false
set_option linter.unusedSimpArgs false

theorem opP_pb {x : Pk} (h : chkP x = true) : opE (pbL x) = 0 ∧ opP (pbL x) = x := by
  have hp : pbL x = frP (plB x.k x.f x.t x.i x.p x.s x.b) := by
    rw [pbL, pbS, str_list, if_pos (show okP x.k x.f x.t x.i x.p x.s x.b = true from h)]
    exact str_list _
  rw [hp]
  refine ⟨opE_put h, ?_⟩
  obtain ⟨-, h1, h2, h3, h4, h5, h6, h7⟩ := qz_put h
  obtain ⟨k, f, t, i, p, s, b⟩ := x
  simp only [opP, cut_put h, h1, h2, h3, h4, h5, h6, h7]
theorem pbL_len {x : Pk} (h : chkP x = true) : (pbL x).length ≤ 1000 := by
  have hp : pbL x = frP (plB x.k x.f x.t x.i x.p x.s x.b) := by
    rw [pbL, pbS, str_list, if_pos (show okP x.k x.f x.t x.i x.p x.s x.b = true from h)]
    exact str_list _
  have hl := (plB_len (k := x.k) (f := x.f) (t := x.t) (i := x.i) (p := x.p) (s := x.s) (b := x.b) (okP_iff h).2.2.2.2.2.2.2).1
  rw [hp]
  unfold frP
  split
  · simp
  · rw [seal_len, List.length_append]
    have := (numB_length (plB x.k x.f x.t x.i x.p x.s x.b).length (by omega)).2
    omega
theorem ptakV_pb (nd inc : Int) (L : List Ev) {x : Pk} (h : chkP x = true) : ptakV nd inc L (pbL x) = if x.t ≠ nd then (L, (-1, ⟨#[]⟩), [], 1)
    else (keepL (takV (endP nd inc L x.f) x).1.1 L, (x.f, (takV (endP nd inc L x.f) x).2.1), (takV (endP nd inc L x.f) x).1.2.map pbL, 0) := by
  obtain ⟨h1, h2⟩ := opP_pb h
  rw [ptakV, if_neg (by simp [h1]), h2]

inductive Ph where
  | d1 | h | d (j : Nat) | k (j : Nat) | e
section
variable (ia ib : Int) (T : List (List UInt8))
def eA (p : Int) (j : Nat) : Ev := ⟨0, 8, ia, ⟨p, (j : Int) + 1, T.drop j, 1, if j < T.length then 1 else 0⟩, ia, p, 0⟩
def eB (j : Nat) : Ev := ⟨8, 0, ib, ⟨ia, 1, [], 1, 0⟩, ib, ia, (j : Int)⟩
def dtP (p : Int) (j : Nat) : Pk := ⟨1, 0, 8, ia, p, (j : Int) + 1, T.getD j []⟩
def akP (j : Nat) : Pk := ⟨2, 8, 0, ib, ia, (j : Int), []⟩
def hlP : Pk := ⟨3, 8, 0, ib, ia, 0, []⟩
def phA : Ph → List Ev
  | .d1 => [eA ia T 1 0]
  | .h => [eA ia T 1 0]
  | .d j => [eA ia T ib j]
  | .k j => [eA ia T ib (j - 1)]
  | .e => [eA ia T ib T.length]
def phB : Ph → List Ev
  | .d1 => []
  | .h => [eB ia ib 0]
  | .d j => [eB ia ib j]
  | .k j => [eB ia ib j]
  | .e => [eB ia ib T.length]
def phW : Ph → List Pk
  | .d1 => [dtP ia T 1 0]
  | .h => [hlP ia ib]
  | .d j => [dtP ia T ib j]
  | .k j => [akP ia ib j]
  | .e => []
def phG : Ph → Nat
  | .d1 => 0
  | .h => 0
  | .d j => j
  | .k j => j
  | .e => T.length
def phN : Ph → Ph
  | .d1 => if ib = 1 then .k 1 else .h
  | .h => .d 0
  | .d j => .k (j + 1)
  | .k j => if j < T.length then .d j else .e
  | .e => .e
/-- What is asked of the numbers and the texts. -/
structure TkH : Prop where
  a1 : 1 ≤ ia
  a2 : ia ≤ 256
  b1 : 1 ≤ ib
  b2 : ib ≤ 256
  n1 : 1 ≤ T.length
  n2 : T.length ≤ 16
  tx : ∀ y ∈ T, y ≠ [] ∧ y.length ≤ 32
  nd : T.Nodup
end
variable {ia ib : Int} {T : List (List UInt8)}
theorem TkH.gt (H : TkH ia ib T) (j : Nat) (h : j < T.length) : T.getD j [] ≠ [] ∧ (T.getD j []).length ≤ 32 := by
  rw [List.getD_eq_getElem?_getD, List.getElem?_eq_getElem h]
  exact H.tx _ (List.getElem_mem h)
theorem inS_yes (n : Int) (h1 : 1 ≤ n) (h2 : n ≤ 1000) : inS true 1 72057594037927935 n = true := by
  unfold inS
  rw [if_pos rfl, decide_eq_true_eq]
  omega
theorem okP_of {k f t i p s : Int} {b : List UInt8} (h1 : 1 ≤ k ∧ k ≤ 4) (h2 : 0 ≤ f ∧ f ≤ 71) (h3 : 0 ≤ t ∧ t ≤ 71) (h4 : f ≠ t) (h5 : inS true 1 72057594037927935 i = true) (h6 : inS (hpP k.toNat) 1 72057594037927935 p = true) (h7 : inS (hpS k.toNat) 1 72057594037927935 s = true) (h8 : inT (hpB k.toNat) b = true) : okP k f t i p s b = true := by
  simp only [okP, Bool.and_eq_true, decide_eq_true_eq]
  exact ⟨⟨⟨⟨⟨⟨⟨h1, h2⟩, h3⟩, h4⟩, h5⟩, h6⟩, h7⟩, h8⟩
theorem chk_dt (H : TkH ia ib T) (p : Int) (h1 : 1 ≤ p) (h2 : p ≤ 256) (j : Nat) (h : j < T.length) : chkP (dtP ia T p j) = true := by
  obtain ⟨g1, g2⟩ := H.gt j h
  have hn : 1 ≤ (T.getD j []).length := List.length_pos_iff.2 g1
  have := H.n2
  have := H.a1
  have := H.a2
  show okP 1 0 8 ia p ((j : Int) + 1) (T.getD j []) = true
  refine okP_of (by decide) (by decide) (by decide) (by decide) (inS_yes _ (by omega) (by omega)) (inS_yes p h1 (by omega)) (inS_yes _ (by omega) (by omega)) ?_
  show decide (1 ≤ (T.getD j []).length ∧ (T.getD j []).length ≤ 32) = true
  rw [decide_eq_true_eq]
  exact ⟨hn, g2⟩
/-- A step where the packet goes to the second port. -/
def StB (ia ib : Int) (T : List (List UInt8)) (ph : Ph) (x : Pk) : Prop :=
  x.t = 8 ∧ x.f = 0 ∧ chkP x = true ∧ keepL (takV (endP 8 ib (phB ia ib T ph) 0) x).1.1 (phB ia ib T ph) = phB ia ib T (phN ib T ph) ∧ (takV (endP 8 ib (phB ia ib T ph) 0) x).1.2 = phW ia ib T (phN ib T ph) ∧ phA ia ib T (phN ib T ph) = phA ia ib T ph ∧
  (((takV (endP 8 ib (phB ia ib T ph) 0) x).2.1 = ⟨#[]⟩ ∧ phG T (phN ib T ph) = phG T ph) ∨ (phG T ph < T.length ∧ (takV (endP 8 ib (phB ia ib T ph) 0) x).2.1 = str (T.getD (phG T ph) []) ∧ phG T (phN ib T ph) = phG T ph + 1))
theorem takV_dt (e : Ev) (x : Pk) (hc : chkP x = true) (h1 : x.f = e.t) (h2 : x.t = e.f) (h3 : e.p ≤ x.i) (hk : x.k = 1) : takV e x = (datE e x, (if clsD e x = 1 then str x.b else ⟨#[]⟩), decide (clsD e x = 1)) := by
  unfold takV
  rw [if_neg, if_pos hk]
  unfold badT
  simp [hc, h1, h2]
  exact h3
theorem step_d1 (H : TkH ia ib T) : StB ia ib T .d1 (dtP ia T 1 0) := by
  have hc := chk_dt H 1 (by omega) (by omega) 0 (by have := H.n1; omega)
  have he : endP 8 ib (phB ia ib T .d1) 0 = newE 8 0 ib := rfl
  have a1 := H.a1
  have ht := takV_dt (newE 8 0 ib) (dtP ia T 1 0) hc rfl rfl a1 rfl
  have hl : lrnV ⟨1, 1, [], 1, 0⟩ ia = (⟨ia, 1, [], 1, 0⟩, false) := by
    unfold lrnV
    split
    · rename_i h9
      have h8 : ia ≤ 1 := h9
      have : ia = 1 := by omega
      subst this
      rfl
    · simp [begV]
  have hp : gP 1 ia = ia := by unfold gP; split <;> omega
  have hq : gL 1 0 ia = 0 := by unfold gL; split <;> rfl
  have hp2 : gP ia ia = ia := by simp [gP]
  have hq2 : gL ia 0 ia = 0 := by simp [gL]
  by_cases hb : ib = 1
  · subst hb
    have hn : phN 1 T .d1 = .k 1 := by simp [phN]
    have hcl : clsD (newE 8 0 1) (dtP ia T 1 0) = 1 := by
      simp [clsD, newE, dtP, gC, hp, hq, hq2]
    refine ⟨rfl, rfl, hc, ?_, ?_, ?_, .inr ⟨by have := H.n1; show 0 < T.length; omega, ?_, ?_⟩⟩
    · rw [he, ht, hn]
      show keepL (dend (newE 8 0 1) (dtP ia T 1 0)) [] = [eB ia 1 1]
      simp only [keepL]
      simp [dend, newE, eB, dtP, hl, gN, gC, hp, hq, hp2, hq2]
    · rw [he, ht, hn]
      show (lrnE (newE 8 0 1) (dtP ia T 1 0).i).2 ++ ansD (newE 8 0 1) (dtP ia T 1 0) = [akP ia 1 1]
      rw [ansD, if_pos (.inl hcl)]
      simp [lrnE, newE, dtP, hl, dataV, akP]
    · rw [hn]
      rfl
    · rw [he, ht, hcl]
      rfl
    · rw [hn]
      rfl
  · have hn : phN ib T .d1 = .h := by simp [phN, hb]
    have b1 := H.b1
    have hcl : clsD (newE 8 0 ib) (dtP ia T 1 0) = 3 := by
      simp [clsD, newE, dtP, gC, hp]
      omega
    refine ⟨rfl, rfl, hc, ?_, ?_, ?_, .inl ⟨?_, ?_⟩⟩
    · rw [he, ht, hn]
      show keepL (dend (newE 8 0 ib) (dtP ia T 1 0)) [] = [eB ia ib 0]
      simp only [keepL]
      have : gN ib ia 0 ia 1 1 = 0 := by simp [gN, gC, hq2]; omega
      simp [dend, newE, eB, dtP, hl, hp, hq, hp2, this]
    · rw [he, ht, hn]
      show (lrnE (newE 8 0 ib) (dtP ia T 1 0).i).2 ++ ansD (newE 8 0 ib) (dtP ia T 1 0) = [hlP ia ib]
      rw [ansD, if_neg (by rw [hcl]; decide), if_pos hcl]
      simp [lrnE, newE, dtP, hl, dataV, hlP]
    · rw [hn]
      rfl
    · rw [he, ht, hcl]
      rfl
    · rw [hn]
      rfl
end Go.Proofs.YtdphdodjidbngaaGreat

namespace Go.Proofs.YtdphdodjidbngaaGreat
open Go.RowKit Go.Sort
set_option linter.unusedVariables false
set_option linter.unusedSimpArgs false

variable {ia ib : Int} {T : List (List UInt8)}
theorem stB_tak {ph : Ph} {x : Pk} (h : StB ia ib T ph x) : ptakV 0 ia (phA ia ib T ph) (pbL x) = (phA ia ib T ph, (-1, ⟨#[]⟩), [], 1) ∧
    ptakV 8 ib (phB ia ib T ph) (pbL x) = (phB ia ib T (phN ib T ph), (0, (takV (endP 8 ib (phB ia ib T ph) 0) x).2.1), (phW ia ib T (phN ib T ph)).map pbL, 0) := by
  obtain ⟨h1, h2, h3, h4, h5, h6, h7⟩ := h
  refine ⟨?_, ?_⟩
  · rw [ptakV_pb 0 ia _ h3, if_pos (by simp [h1])]
  · rw [ptakV_pb 8 ib _ h3, if_neg (by simp [h1]), h2, h4, h5]
end Go.Proofs.YtdphdodjidbngaaGreat

namespace Go.Proofs.YtdphdodjidbngaaGreat
open Go.RowKit Go.Sort
set_option linter.unusedVariables false
set_option linter.unusedSimpArgs false

theorem pends_empty {w : World} {g : Nat} (h : w.heap[g]? = some (.map #[] 0)) : PEnds w g [] := by
  refine ⟨List.Pairwise.nil, fun _ h9 => by simp at h9, .map [], ?_, rfl, fun k => rfl, fun _ h9 => by simp at h9⟩
  obtain ⟨es, clock, h1, h2, h3, h4⟩ := nmap_new w
  have h5 : (w.alloc (.map #[] 0)).heap[w.heap.size]? = some (.map #[] 0) := heap_alloc_new _ _
  rw [h5] at h1
  cases h1
  exact ⟨#[], 0, h, h2, Nat.zero_le _, h4⟩
theorem ptNew_any (n inc b : Int) (hn : nodeB n = true) (h1 : 1 ≤ inc) (h2 : inc ≤ 72057594037927935) (h3 : 1 ≤ b) (h4 : b ≤ 16) (W : World) :
    Calls Tryz.prog 5 #[.int .i64 n, .int .i64 inc, .int .i64 b] W fun e w' => ∃ P M, e = .returned (.pointer (some ⟨P, 0, none⟩)) ∧ W.heap.size ≤ P ∧ W.heap.size ≤ M ∧ PortAt w' P M n inc b [] ∧ Below W.heap.size W w' := by
  refine (ptnew_any n inc b hn h1 h2 h3 h4 W).mono ?_
  rintro e w' ⟨gp, gm, rfl, g1, g2, -, g3, g4, g5⟩
  exact ⟨gp, gm, rfl, g1, g2, ⟨g3, pends_empty g4⟩, g5⟩
theorem exH : TkH 1 1 [[120]] := ⟨by decide, by decide, by decide, by decide, by decide, by decide, by decide, by decide⟩
theorem exPut : pputV 0 1 4 [] 8 [120] = ([⟨0, 8, 1, ⟨1, 1, [[120]], 1, 1⟩, 1, 1, 0⟩], [pbL (dtP 1 [[120]] 1 0)], 0) := by rfl
theorem exTake : ∃ L z, ptakV 8 1 [] (pbL (dtP 1 [[120]] 1 0)) = (L, (0, str [120]), [z], 0) := by
  have hs := step_d1 exH
  obtain ⟨-, h2⟩ := stB_tak hs
  refine ⟨phB 1 1 [[120]] (phN 1 [[120]] .d1), pbL (akP 1 1 1), h2.trans ?_⟩
  rcases hs.2.2.2.2.2.2 with ⟨-, h9⟩ | ⟨-, h8, -⟩
  · exact absurd h9 (by decide)
  · rw [h8]
    rfl
set_option maxRecDepth 20000 in
set_option maxHeartbeats 4000000 in
theorem works27_any (W : World) : Calls Tryz.prog 20 #[] W fun e w' => e = .returned (.bool true) ∧ Below W.heap.size W w' := by
  have HN1 := hid (fun w => ptNew_any 0 1 4 (by decide) (by decide) (by decide) (by decide) (by decide) w)
  have HN2 := hid (fun w => ptNew_any 8 1 4 (by decide) (by decide) (by decide) (by decide) (by decide) w)
  have HPU := hid (fun P M w (h : PortAt w P M 0 1 4 []) => pput_any 8 [120] w h (fun e he => by simp at he) (by unfold maxLen; simp))
  rw [exPut] at HPU
  have HTA := hid (fun P M w (h : PortAt w P M 8 1 4 []) => ptake_any (pbL (dtP 1 [[120]] 1 0)) w h (fun e he => by simp at he) (pbL_len (chk_dt exH 1 (by decide) (by decide) 0 (by decide))))
  obtain ⟨L9, z9, hz9⟩ := exTake
  rw [hz9] at HTA
  clear hz9
  generalize pbL (dtP 1 [[120]] 1 0) = s at *
  have hx : str [120] = ⟨#[120]⟩ := rfl
  rw [hx] at HPU HTA
  clear hx
  go_enter Tryz.func20, Tryz.ntmps20
  go_wp2_with fail
  refine (HN1.out _).mono ?_
  rintro e w1 ⟨P, M, rfl, hP, hM, hp1, hb1⟩
  have HP1 := hid (HPU.out P M w1 hp1)
  have HB1 := hid hb1
  have HM1 : Hid (W.heap.size ≤ M) := hid hM
  clear HN1 HPU hp1 hb1 hM hP
  go_wp2_with fail
  refine HP1.out.mono ?_
  rintro e w2 ⟨A, c, rfl, ho2, -, hu2, -⟩
  obtain ⟨b, off, rfl, hc⟩ := (sl_own ho2).at 0 (by rw [scells_length]; exact Nat.zero_lt_one)
  have HB2 : Hid (Below W.heap.size W w2) := hid (HB1.out.trans (hu2.below _ HM1.out HB1.out.size))
  have hc : w2.cell? ⟨b, off, none⟩ = some (.string (str s)) := hc
  have HC := hid hc
  clear HP1 HB1 HM1 ho2 hu2 hc
  simp only [List.length_cons, List.length_nil]
  go_upto_region 4 with (fail)
  have hk0 : Below w2.heap.size w2 w2.drew := below_drew (Below.refl _ _)
  have hS : ∀ U, Below w2.heap.size w2 U → U.cell? ⟨b, off, none⟩ = some (.string (str s)) := fun U hU => (hU.cell (lt_of_cell HC.out)).trans HC.out
  refine wp_region_held_drew (S := fun U => U.cell? ⟨b, off, none⟩ = some (.string (str s))) (by kernel_rfl) (hS _ hk0) (fun hHeld => ?_)
  generalize w2.drew = k0 at *
  refine tkA 1 ?_ rfl ?_ (by assumption) ?_; rotate_left; focus (intro U hU; (try dsimp only at hU); go_simp; try (with_reducible rfl))
  simp only [gt6, Act.put]
  refine tkA 2 ?_ rfl ?_ (by assumption) ?_; rotate_left; focus (intro U hU; (try dsimp only at hU); go_simp; try (with_reducible rfl))
  simp only [gt6, Act.put]
  refine tkA 3 ?_ rfl ?_ (by assumption) ?_; rotate_left; focus (intro U hU; (try dsimp only at hU); go_simp; try (with_reducible rfl))
  simp only [gt6, Act.put]
  refine wpAnyH_ready (rs := [0]) (by kernel_rfl) (by simp) ?_
  refine AllReadyH.cons rfl (fun K hK => ?_) AllReadyH.nil
  simp only [gt3]
  go_simp
  refine (HN2.out k0).mono ?_
  rintro e k1 ⟨P2, M2, rfl, hP2, hM2, hp2, hb2⟩
  have HT := hid (HTA.out P2 M2 k1 hp2)
  have HM2 : Hid (w2.heap.size ≤ M2) := hid (Nat.le_trans hk0.size hM2)
  have hk1 := hk0.trans (hb2.mono hk0.size)
  clear HN2 hp2 hb2 hM2 hP2
  go_wp2_with fail
  refine hK.out _ _ ?_ (fun hHeld2 => ?_)
  focus
    exact hS _ hk1
  clear hHeld
  have hHeld := hHeld2
  clear hHeld2 hK K
  try simp only [gt6, Act.put]
  refine wpAnyH_ready (rs := [4]) (by kernel_rfl) (by simp) ?_
  refine AllReadyH.cons rfl (fun K hK => ?_) AllReadyH.nil
  simp only [gt3]
  go_simp
  refine HT.out.mono ?_
  rintro e k2 ⟨A3, c3, rfl, ho3, -, hu3, -⟩
  have hk2 := hk1.trans (hu3.below _ HM2.out hk1.size)
  clear HT ho3 hu3 HM2
  go_wp2_with fail
  refine hK.out _ _ ?_ (fun hHeld2 => ?_)
  focus
    exact hS _ hk2
  clear hHeld
  have hHeld := hHeld2
  clear hHeld2 hK K
  try simp only [gt6, Act.put]
  refine tkA 5 ?_ rfl ?_ (by assumption) ?_; rotate_left; focus (intro U hU; (try dsimp only at hU); go_simp; try (with_reducible rfl))
  simp only [gt6, Act.put]
  refine tkA 6 ?_ rfl ?_ (by assumption) ?_; rotate_left; focus (intro U hU; (try dsimp only at hU); go_simp; try (with_reducible rfl))
  simp only [gt6, Act.put]
  refine tkA 7 ?_ rfl ?_ (by assumption) ?_; rotate_left; focus (intro U hU; (try dsimp only at hU); go_simp; try (with_reducible rfl))
  simp only [gt6, Act.put]
  refine tkA 8 ?_ rfl ?_ (by assumption) ?_; rotate_left; focus (intro U hU; (try dsimp only at hU); go_simp; try (with_reducible rfl))
  simp only [gt6, Act.put]
  refine tkA 9 ?_ rfl ?_ (by assumption) ?_; rotate_left; focus (intro U hU; (try dsimp only at hU); go_simp; try (with_reducible rfl))
  simp only [gt6, Act.put]
  refine tkA 10 ?_ rfl ?_ (by assumption) ?_; rotate_left; focus (intro U hU; (try dsimp only at hU); go_simp; try (with_reducible rfl))
  simp only [gt6, Act.put]
  refine tkA 11 ?_ rfl ?_ (by assumption) ?_; rotate_left; focus (intro U hU; (try dsimp only at hU); go_simp; try (with_reducible rfl))
  simp only [gt6, Act.put]
  refine tkA 12 ?_ rfl ?_ (by assumption) ?_; rotate_left; focus (intro U hU; (try dsimp only at hU); go_simp; try (with_reducible rfl))
  simp only [gt6, Act.put]
  refine tkA 13 ?_ rfl ?_ (by assumption) ?_; rotate_left; focus (intro U hU; (try dsimp only at hU); go_simp; try (with_reducible rfl))
  simp only [gt6, Act.put]
  refine wpAnyH_done (by kernel_rfl) ?_ _
  clear hHeld hS
  have HB9 := hid (HB2.out.trans (hk2.mono HB2.out.size))
  clear hk2 HB2 HC
  try simp only [List.length_cons, List.length_nil]
  go_wp2
  go_ret
  exact ⟨rfl, HB9.out⟩
end Go.Proofs.YtdphdodjidbngaaGreat

namespace Go.Proofs.YtdphdodjidbngaaGreat
open Go.RowKit Go.Sort
set_option linter.unusedVariables false
set_option linter.unusedSimpArgs false

theorem PortAt.but {w w' : World} {S : Nat → Prop} {P M : Nat} {nd inc bd : Int} {L : List Ev} (h : PortAt w P M nd inc bd L) (hk : ∀ g, g < w.heap.size → ¬ S g → w'.heap[g]? = w.heap[g]?) (hP : ¬ S P) (hM : ¬ S M) (hf : ∀ gg, S gg → PFar w M L gg) : PortAt w' P M nd inc bd L := by
  obtain ⟨es, clock, hm⟩ := h.ends.block
  have hMM : w'.heap[M]? = w.heap[M]? := hk M (lt_of_block hm) hM
  refine ⟨(hk P (lt_of_block h.blk) hP).trans h.blk, ?_⟩
  obtain ⟨g1, g2, D, g3, g4, g5, g6⟩ := h.ends
  refine ⟨g1, g2, D, nmap_blk g3 hMM, g4, g5, fun e he => ?_⟩
  obtain ⟨A, c, h7, h8⟩ := g6 e he
  refine ⟨A, c, h7, ?_⟩
  obtain ⟨s1, s2, s3, s4⟩ := h8
  refine ⟨s1, s2, s3, fun h0 => ?_⟩
  obtain ⟨b, off, hA, hc⟩ := s4 h0
  refine ⟨b, off, hA, fun i hi => ?_⟩
  have h9 := hc i hi
  rw [List.getElem?_eq_getElem hi] at h9
  have hb : ¬ S b := by
    intro e1
    obtain ⟨D', f1, f2⟩ := hf b e1
    obtain rfl := nmap_uniq g3 f1
    obtain ⟨A', c', h7', h8'⟩ := f2 e he
    have h10 := (h7 (.held (.bool true))).symm.trans (h7' _)
    have hAA : A = A' := by
      simp only [DataW.held.injEq, Value.agg.injEq, ec] at h10
      simp at h10
      exact h10.1
    rw [scells_length] at h0
    exact h8' h0 b off (hAA ▸ hA) rfl
  rw [World.cell?_of_block (w := w) (a := ⟨b, off + i, none⟩) (hk b (lt_of_cell h9) hb), List.getElem?_eq_getElem hi]
  exact h9
theorem Mid.blk {w : World} {base e size n : Nat} {v : Value} {xs : List Value} (h : Mid w base e size v n xs) (g : Nat) (hg : v.ownBlock = some g) : base ≤ g ∧ g < w.heap.size ∧ ∃ cur : Array Value, w.heap[g]? = some (.cells cur e (0, 0)) := by
  rcases h.2 with ⟨rfl, _⟩ | ⟨b, off, cap, cur, rfl, hb, hh, _⟩
  · simp [Value.ownBlock] at hg
  · have : b = g := by simpa [Value.ownBlock] using hg
    subst this
    exact ⟨hb, lt_of_block hh, cur, hh⟩
theorem Mid.far {w : World} {base n P M : Nat} {v : Value} {xs : List Value} {nd inc bd : Int} {L : List Ev} (h : Mid w base 9 1 v n xs) (hp : PortAt w P M nd inc bd L) : v.ownBlock ≠ some P ∧ v.ownBlock ≠ some M := by
  refine ⟨fun e => ?_, fun e => ?_⟩
  · obtain ⟨_, _, cur, h9⟩ := h.blk P e
    rw [hp.blk] at h9
    injection h9 with h9
    injection h9 with _ ht
    exact absurd ht (by decide)
  · obtain ⟨es, clock, hm⟩ := hp.ends.block
    obtain ⟨_, _, cur, h9⟩ := h.blk M e
    rw [hm] at h9
    cases h9
theorem Mid.onlyM {w w' : World} {base e size n M : Nat} {v : Value} {xs : List Value} {es : Array MapEntry} {clock : Nat} (h : Mid w base e size v n xs) (hm : w.heap[M]? = some (.map es clock)) (ho : Only M w w') : Mid w' base e size v n xs :=
  h.block fun g o _ hg ⟨cs, hc⟩ _ => (ho.keep g (fun e1 => by subst e1; rw [hm] at hg; cases hg; cases hc) (lt_of_block hg)).trans hg

structure TS (W w : World) (Pa Ma Pb Mb : Nat) (ia ib : Int) (La Lb : List Ev) (v8 : Value) (way : List (List UInt8)) (v9 : Value) (got : List (List UInt8)) : Prop where
  a : PortAt w Pa Ma 0 ia 16 La
  b : PortAt w Pb Mb 8 ib 16 Lb
  ne : Ma ≠ Mb
  ma : W.heap.size ≤ Ma
  mb : W.heap.size ≤ Mb
  way : Mid w W.heap.size 9 1 v8 way.length (scells way)
  got : Mid w W.heap.size 9 1 v9 got.length (scells got)
  fa : ∀ gg, v8.ownBlock = some gg ∨ v9.ownBlock = some gg → PFar w Ma La gg
  fb : ∀ gg, v8.ownBlock = some gg ∨ v9.ownBlock = some gg → PFar w Mb Lb gg
  ap : ∀ g, v8.ownBlock = some g → v9.ownBlock ≠ some g
  u : Below W.heap.size W w
variable {W w w' : World} {Pa Ma Pb Mb : Nat} {ia ib : Int} {La Lb La' Lb' : List Ev} {v8 v9 v' : Value} {way got : List (List UInt8)}
theorem TS.lt (h : TS W w Pa Ma Pb Mb ia ib La Lb v8 way v9 got) (gg : Nat) (hg : v8.ownBlock = some gg ∨ v9.ownBlock = some gg) : gg < w.heap.size := by
  rcases hg with hg | hg
  · exact (h.way.blk gg hg).2.1
  · exact (h.got.blk gg hg).2.1
theorem TS.keep (h : TS W w Pa Ma Pb Mb ia ib La Lb v8 way v9 got) (hb : Below w.heap.size w w') : TS W w' Pa Ma Pb Mb ia ib La Lb v8 way v9 got :=
  ⟨h.a.below hb, h.b.below hb, h.ne, h.ma, h.mb, h.way.keep hb, h.got.keep hb, fun gg hg => (h.fa gg hg).blk (hb.block Ma h.a.ends.lt), fun gg hg => (h.fb gg hg).blk (hb.block Mb h.b.ends.lt), h.ap, h.u.trans (hb.mono h.u.size)⟩
end Go.Proofs.YtdphdodjidbngaaGreat

