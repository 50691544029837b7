/- Needs: nodes, grown, Check, Depth, Says, Asks: contracts. -/
import Derived.Test.YtdphdodjidbngaaQNeeD
import Derived.Test.YtdphdodjidbngaaGaP
namespace Go.Proofs.Ytdphdodjidbngaa
open Go.RowKit Go.Sort
set_option linter.unusedVariables false
set_option linter.unusedSimpArgs false

set_option maxRecDepth 20000 in
set_option maxHeartbeats 2000000 in
theorem nodes_not (t : Nt) (W : World) (hl : t.flat.length ≤ 100000) (ih : ∀ w, Calls Try.prog (fnN t) #[rcv t] w fun e w' => e = .returned (.int .i64 (t.flat.length : Nat)) ∧ Below w.heap.size w w') :
    Calls Try.prog 196 #[.agg #[tv t]] W fun e w' => e = .returned (.int .i64 ((Nt.not t).flat.length : Nat)) ∧ Below W.heap.size W w' := by
  have HI := hid ih
  have HL : Hid ((Nt.not t).flat.length = t.flat.length + 1) := hid (by simp [Nt.flat])
  clear ih
  have hm := fun (F : Nat) => mth_nodes F t
  have hcf := cf_nodes t
  rw [tv_eq t]
  generalize tyT t = T at *
  generalize rcv t = v at *
  generalize fnN t = f at *
  generalize t.flat.length = b at *
  have hb9 : (b : Int) ≤ 100000 := by omega
  have HB0 : Hid (∀ o, Below W.heap.size W (W.alloc o)) := hid (fun o => (Below.refl _ _).alloc (Nat.le_refl _) _)
  go_enter Try.func196, Try.ntmps196
  go_wp2_with fail
  refine (HI.out _).mono ?_
  rintro e w1 ⟨rfl, hb⟩
  have HB := hid ((HB0.out _).trans (hb.mono (HB0.out _).size))
  clear hb HI
  go_wp2
  go_ret
  exact ⟨by rw [HL.out]; rfl, HB.out⟩
set_option maxRecDepth 20000 in
set_option maxHeartbeats 2000000 in
theorem nodes_leaf (W : World) : (∀ n : Int, Calls Try.prog 192 #[.agg #[.int .i64 n]] W fun e w' => e = .returned (.int .i64 1) ∧ Below W.heap.size W w') ∧ Calls Try.prog 194 #[.agg #[]] W fun e w' => e = .returned (.int .i64 1) ∧ Below W.heap.size W w' := by
  refine ⟨fun n => ?_, ?_⟩
  · go_enter Try.func192, Try.ntmps192
    go_wp2
    go_ret
    exact ⟨rfl, (Below.refl _ _).alloc (Nat.le_refl _) _⟩
  · go_enter Try.func194, Try.ntmps194
    go_wp2
    go_ret
    exact ⟨rfl, (Below.refl _ _).alloc (Nat.le_refl _) _⟩
set_option maxRecDepth 20000 in
set_option maxHeartbeats 4000000 in
theorem nodes_pair (op : Int) (t u : Nt) (W : World) (hl : t.flat.length ≤ 100000 ∧ u.flat.length ≤ 100000) (iht : ∀ w, Calls Try.prog (fnN t) #[rcv t] w fun e w' => e = .returned (.int .i64 (t.flat.length : Nat)) ∧ Below w.heap.size w w') (ihu : ∀ w, Calls Try.prog (fnN u) #[rcv u] w fun e w' => e = .returned (.int .i64 (u.flat.length : Nat)) ∧ Below w.heap.size w w') :
    Calls Try.prog 198 #[.agg #[.int .i64 op, tv t, tv u]] W fun e w' => e = .returned (.int .i64 ((Nt.pair op t u).flat.length : Nat)) ∧ Below W.heap.size W w' := by
  have HI := hid iht
  have HJ := hid ihu
  have HL : Hid ((Nt.pair op t u).flat.length = t.flat.length + u.flat.length + 1) := hid (by simp [Nt.flat]; omega)
  clear iht ihu
  have hm := fun (F : Nat) => mth_nodes F t
  have hcf := cf_nodes t
  have hm2 := fun (F : Nat) => mth_nodes F u
  have hcf2 := cf_nodes u
  rw [tv_eq t, tv_eq u]
  generalize tyT t = T at *
  generalize rcv t = v at *
  generalize fnN t = f at *
  generalize t.flat.length = b at *
  generalize tyT u = T2 at *
  generalize rcv u = v2 at *
  generalize fnN u = f2 at *
  generalize u.flat.length = b2 at *
  obtain ⟨l1, l2⟩ := hl
  have hb9 : (b : Int) ≤ 100000 := by omega
  have hb8 : (b2 : Int) ≤ 100000 := by omega
  have hw1 : IntKind.i64.wrap ((b : Int) + (b2 : Int)) = (b : Int) + (b2 : Int) := by simp [IntKind.wrap, IntKind.bits, IntKind.signed]; omega
  have hw2 : IntKind.i64.wrap ((b : Int) + (b2 : Int) + 1) = (b : Int) + (b2 : Int) + 1 := by simp [IntKind.wrap, IntKind.bits, IntKind.signed]; omega
  go_enter Try.func198, Try.ntmps198
  go_upto_region 1 with (fail)
  refine at_world (fun w => w.heap[W.heap.size]? = some (.cells #[.int .i64 op, .iface T v, .iface T2 v2] 223 (0, 0)) ∧ Below W.heap.size W w) ⟨heap_alloc_new _ _, (Below.refl _ _).alloc (Nat.le_refl _) _⟩ ?_
  rintro w0 ⟨k0, hb0⟩
  have K0 := hid k0
  have HB0 := hid hb0
  have hS : ∀ U, Below w0.heap.size w0 U → ((U.cell? ⟨W.heap.size, 0, none⟩ = some (.int .i64 op) ∧ U.cell? ⟨W.heap.size, 1, none⟩ = some (.iface T v) ∧ U.cell? ⟨W.heap.size, 2, none⟩ = some (.iface T2 v2)) ∧ Below w0.heap.size w0 U) := fun U hU => ⟨(three_cells (keep0 K0.out hU)).1, hU⟩
  have hu0 : Below w0.heap.size w0 w0.drew := below_drew (Below.refl _ _)
  clear k0 hb0
  refine wp_region_held_drew (S := fun U => ((U.cell? ⟨W.heap.size, 0, none⟩ = some (.int .i64 op) ∧ U.cell? ⟨W.heap.size, 1, none⟩ = some (.iface T v) ∧ U.cell? ⟨W.heap.size, 2, none⟩ = some (.iface T2 v2)) ∧ Below w0.heap.size w0 U)) (by kernel_rfl) (hS _ hu0) (fun hHeld => ?_)
  refine wpAnyH_take (i := 0) (v := ?_) rfl (by kernel_rfl) (by kernel_rfl) (by kernel_rfl) (fun _ _ _ h => h) (Or.inl ⟨by rfl, ?_⟩) (by assumption) ?_
  rotate_left
  focus
    intro U hU
    try dsimp only at hU
    go_simp
    try (with_reducible rfl)
  simp only [List.getElem_toArray, List.getElem_cons_succ, List.getElem_cons_zero, Act.put, List.setIfInBounds_toArray, List.set_cons_zero, List.set_cons_succ]
  refine wpAnyH_take (i := 1) (v := ?_) rfl (by kernel_rfl) (by kernel_rfl) (by kernel_rfl) (fun _ _ _ h => h) (Or.inl ⟨by rfl, ?_⟩) (by assumption) ?_
  rotate_left
  focus
    intro U hU
    try dsimp only at hU
    go_simp
    try (with_reducible rfl)
  simp only [List.getElem_toArray, List.getElem_cons_succ, List.getElem_cons_zero, Act.put, List.setIfInBounds_toArray, List.set_cons_zero, List.set_cons_succ]
  refine wpAnyH_take (i := 3) (v := ?_) rfl (by kernel_rfl) (by kernel_rfl) (by kernel_rfl) (fun _ _ _ h => h) (Or.inl ⟨by rfl, ?_⟩) (by assumption) ?_
  rotate_left
  focus
    intro U hU
    try dsimp only at hU
    go_simp
    try (with_reducible rfl)
  simp only [List.getElem_toArray, List.getElem_cons_succ, List.getElem_cons_zero, Act.put, List.setIfInBounds_toArray, List.set_cons_zero, List.set_cons_succ]
  refine wpAnyH_take (i := 4) (v := ?_) rfl (by kernel_rfl) (by kernel_rfl) (by kernel_rfl) (fun _ _ _ h => h) (Or.inl ⟨by rfl, ?_⟩) (by assumption) ?_
  rotate_left
  focus
    intro U hU
    try dsimp only at hU
    go_simp
    try (with_reducible rfl)
  simp only [List.getElem_toArray, List.getElem_cons_succ, List.getElem_cons_zero, Act.put, List.setIfInBounds_toArray, List.set_cons_zero, List.set_cons_succ]
  refine wpAnyH_ready (rs := [2]) (by kernel_rfl) (by simp) ?_
  refine AllReadyH.cons rfl (fun K hK => ?_) AllReadyH.nil
  simp only [List.getElem_toArray, List.getElem_cons_succ, List.getElem_cons_zero]
  go_simp
  refine (HI.out _).mono ?_
  rintro e u1 ⟨rfl, hb1⟩
  have hu1 := hu0.trans (hb1.mono hu0.size)
  go_wp2_with fail
  refine hK.out _ _ ?_ (fun hHeld2 => ?_)
  focus
    exact hS _ hu1
  clear hHeld
  have hHeld := hHeld2
  clear hHeld2 hK K
  try simp only [List.getElem_toArray, List.getElem_cons_succ, List.getElem_cons_zero, Act.put, List.setIfInBounds_toArray, List.set_cons_zero, List.set_cons_succ]
  refine wpAnyH_ready (rs := [5]) (by kernel_rfl) (by simp) ?_
  refine AllReadyH.cons rfl (fun K hK => ?_) AllReadyH.nil
  simp only [List.getElem_toArray, List.getElem_cons_succ, List.getElem_cons_zero]
  go_simp
  refine (HJ.out _).mono ?_
  rintro e u2 ⟨rfl, hb2⟩
  have hu2 := hu1.trans (hb2.mono hu1.size)
  go_wp2_with fail
  refine hK.out _ _ ?_ (fun hHeld2 => ?_)
  focus
    exact hS _ hu2
  clear hHeld
  have hHeld := hHeld2
  clear hHeld2 hK K
  try simp only [List.getElem_toArray, List.getElem_cons_succ, List.getElem_cons_zero, Act.put, List.setIfInBounds_toArray, List.set_cons_zero, List.set_cons_succ]
  refine wpAnyH_take (i := 6) (v := ?_) rfl (by kernel_rfl) (by kernel_rfl) (by kernel_rfl) (fun _ _ _ h => h) (Or.inl ⟨by rfl, ?_⟩) (by assumption) ?_
  rotate_left
  focus
    intro U hU
    try dsimp only at hU
    go_simp
    try (with_reducible rfl)
  simp only [List.getElem_toArray, List.getElem_cons_succ, List.getElem_cons_zero, Act.put, List.setIfInBounds_toArray, List.set_cons_zero, List.set_cons_succ]
  refine wpAnyH_take (i := 7) (v := ?_) rfl (by kernel_rfl) (by kernel_rfl) (by kernel_rfl) (fun _ _ _ h => h) (Or.inl ⟨by rfl, ?_⟩) (by assumption) ?_
  rotate_left
  focus
    intro U hU
    try dsimp only at hU
    go_simp
    try (with_reducible rfl)
  simp only [List.getElem_toArray, List.getElem_cons_succ, List.getElem_cons_zero, Act.put, List.setIfInBounds_toArray, List.set_cons_zero, List.set_cons_succ]
  refine wpAnyH_take (i := 8) (v := ?_) rfl (by kernel_rfl) (by kernel_rfl) (by kernel_rfl) (fun _ _ _ h => h) (Or.inl ⟨by rfl, ?_⟩) (by assumption) ?_
  rotate_left
  focus
    intro U hU
    try dsimp only at hU
    go_simp
    try (with_reducible rfl)
  simp only [List.getElem_toArray, List.getElem_cons_succ, List.getElem_cons_zero, Act.put, List.setIfInBounds_toArray, List.set_cons_zero, List.set_cons_succ]
  refine wpAnyH_done (by kernel_rfl) ?_ _
  clear hHeld hS
  have HF := hid (HB0.out.trans (hu2.mono HB0.out.size))
  go_wp2_with fail
  go_ret
  exact ⟨by rw [HL.out]; rfl, HF.out⟩
theorem nodes_any : ∀ (t : Nt) (W : World), t.flat.length ≤ 100000 → Calls Try.prog (fnN t) #[rcv t] W fun e w' => e = .returned (.int .i64 (t.flat.length : Nat)) ∧ Below W.heap.size W w' := by
  intro t
  induction t with
  | yes => exact fun W _ => (nodes_leaf W).2
  | attr n => exact fun W _ => (nodes_leaf W).1 n
  | not t ih => exact fun W h => nodes_not t W (by simp [Nt.flat] at h; omega) (fun w => ih w (by simp [Nt.flat] at h; omega))
  | pair op a b iha ihb => exact fun W h => nodes_pair op a b W (by simp [Nt.flat] at h; omega) (fun w => iha w (by simp [Nt.flat] at h; omega)) (fun w => ihb w (by simp [Nt.flat] at h; omega))

theorem flats_len : ∀ ts : List Nt, ts.length ≤ (flats ts).length
  | [] => by simp
  | t :: ts => by
    have := flats_len ts
    have := t.flat_pos
    simp only [flats, List.map_cons, List.flatten_cons, List.length_append, List.length_cons] at *
    omega
theorem runN_len {l : List (Int × Int)} {ts : List Nt} (h : runN [] l = some ts) : ts.length ≤ l.length := by
  have h1 := (runN_sound l [] ts h (fun t ht => by simp at ht)).1
  have h2 := flats_len ts
  rw [h1] at h2
  simpa [flats] using h2
theorem runN_take {l : List (Int × Int)} {k : Nat} (hk : k < l.length) {ts : List Nt} (h : runN [] (l.take k) = some ts) : runN [] (l.take (k + 1)) = joinT ts l[k] := by
  rw [List.take_succ_eq_append_getElem hk, runN_append, h]
  simp only [runN]
  cases joinT ts l[k] <;> rfl
theorem runN_bad {l : List (Int × Int)} {k : Nat} (h : runN [] (l.take k) = none) : runN [] l = none := by
  have e := List.take_append_drop k l
  rw [← e, runN_append, h]
/-- What grown answers. -/
def GrR (l : List (Int × Int)) (W : World) (e : Ending) (w' : World) : Prop :=
  Below W.heap.size W w' ∧ ((chkN l ≠ 0 ∧ e = .returned (.tuple #[.slice none 0 0, .int .i64 (chkN l)])) ∨ (∃ t g c, t.wf ∧ l = t.flat ∧ t.depth ≤ 8 ∧ chkN l = 0 ∧ e = .returned (.tuple #[.slice (some ⟨g, 0, none⟩) 1 c, .int .i64 0]) ∧ w'.cell? ⟨g, 0, none⟩ = some (tv t)))

set_option maxRecDepth 20000 in
set_option maxHeartbeats 4000000 in
theorem grown_any (A : Option Addr) (cap : Nat) (l : List (Int × Int)) (W : World) (h : Sl W 2 A l.length cap (pcells l)) (hl : l.length ≤ 1000) :
    Calls Try.prog 65 #[.slice A l.length cap] W (GrR l W) := by
  by_cases h31 : 31 < l.length
  · have h2 : (31 : Int) < (l.length : Int) := by omega
    have HC : Hid (chkN l = 4) := hid (by unfold chkN; rw [if_pos h31])
    clear h
    go_enter Try.func65, Try.ntmps65
    go_wp2_with fail
    go_ret2
    exact ⟨Below.refl _ _, .inl ⟨by rw [HC.out]; decide, by rw [HC.out]; rfl⟩⟩
  have hl31 : (l.length : Int) ≤ 31 := by omega
  have HS := hid (fun w (hw : Below W.heap.size W w) => h.below hw)
  have HNB : Hid (runN [] l = none → chkN l = 1) := hid (fun h9 => by unfold chkN; rw [if_neg h31, h9])
  clear h hl
  go_enter Try.func65, Try.ntmps65
  go_wp2_with fail
  go_loopw [4, 6, 7, 8, 14] (fun s _ _ _ i wr => ∃ (k : Nat) (ts : List Nt) (B : Option Addr) (c : Nat), k ≤ l.length ∧ i = .int .i64 (k : Int) ∧ s = .slice B ts.length c ∧ Hid (runN [] (l.take k) = some ts ∧ OwnT wr W.heap.size B c ts ∧ Below W.heap.size W wr)) (fun _ _ _ _ i _ => l.length - (intOf i).toNat)
  case atStart => exact ⟨0, [], none, 0, by omega, rfl, rfl, by simp [runN], World.ownsRow_nil _ _ _ _, Below.refl _ _⟩
  case round =>
    obtain ⟨k, ts, B, c, hk, rfl, rfl, HR⟩ := hrel
    obtain ⟨hr1, ho1, hb1⟩ := HR.out
    have hlen : ts.length ≤ 31 := by have := runN_len hr1; rw [List.length_take] at this; omega
    by_cases hlt : k < l.length
    · have hlt2 : (k : Int) < (l.length : Int) := by omega
      obtain ⟨bb, off, rfl⟩ : ∃ b off, A = some ⟨b, off, none⟩ := by
        obtain ⟨b, off, ha, _⟩ := (HS.out _ hb1).2.2.2 (by rw [pcells_length]; omega)
        exact ⟨b, off, ha⟩
      obtain ⟨hc0, hc1⟩ := (HS.out _ hb1).pair k hlt
      have HT := hid (runN_take hlt hr1)
      have HJC := hid (fun w (ho : OwnT w W.heap.size B c ts) hB => joined_any W.heap.size ts B c l[k].1 l[k].2 w ho hB (by omega))
      have HO := hid ho1
      have HB := hid hb1
      generalize l[k] = x at *
      obtain ⟨op, n⟩ := x
      simp only at HT HJC
      have HBA := hid (fun o => hb1.alloc (o := o) hb1.size)
      clear hr1 ho1 hb1 HR
      have HAL : Hid (∀ o, Below wr.heap.size wr (wr.alloc o)) := hid (fun o => (Below.refl _ _).alloc (Nat.le_refl _) _)
      go_wp2_with fail
      refine (HJC.out _ (HO.out.keep (HAL.out _)) (Nat.le_trans HB.out.size (HAL.out _).size)).mono ?_
      rintro e w2 ⟨hb2, hz2, hres⟩
      have HB2 := hid ((HBA.out _).trans hb2)
      clear hb2 hz2 HBA HJC HO HAL HB hc0 hc1
      cases hj : joinT ts (op, n) with
      | none =>
        rw [hj] at hres
        simp only at hres
        subst hres
        have HC := hid (HNB.out (runN_bad (HT.out.trans hj)))
        clear hj HT HNB
        go_wp2
        go_ret2
        exact ⟨HB2.out, .inl ⟨by rw [HC.out]; decide, by rw [HC.out]; rfl⟩⟩
      | some us =>
        rw [hj] at hres
        obtain ⟨A2, c2, rfl, ho2⟩ := hres
        have HO2 := hid ho2
        have HT2 := hid (HT.out.trans hj)
        clear ho2 hj HT HNB
        go_wp2
        go_roundw
        case rel => exact ⟨k + 1, us, A2, c2, by omega, by go_num, rfl, HT2.out, HO2.out, HB2.out⟩
        case measure => simp [intOf]; omega
    · have hge : ¬ (k : Int) < (l.length : Int) := by omega
      have hr2 : runN [] l = some ts := by rw [List.take_of_length_le (by omega)] at hr1; exact hr1
      by_cases h1 : ts.length = 1
      · obtain ⟨t, rfl⟩ : ∃ t, ts = [t] := by
          match ts, h1 with
          | [t], _ => exact ⟨t, rfl⟩
        obtain ⟨he, hwf⟩ := runN_one.1 hr2
        obtain ⟨g, rfl⟩ := own_at0 ho1.own (by simp)
        have hd : t.depth ≤ 31 := by have := t.depth_le; rw [← he] at this; omega
        have hck : chkN l = if 31 < t.flat.length then 4 else if 8 < t.depth then 4 else 0 := by rw [he]; exact chkN_tree hwf
        rw [← he, if_neg h31] at hck
        obtain ⟨b0, off0, hb0, hc⟩ := ho1.sl.tree 0 (by simp)
        simp only [Option.some.injEq, Addr.mk.injEq, and_true] at hb0
        obtain ⟨rfl, rfl⟩ := hb0
        have HDP := hid (depth_any t wr (by omega))
        have HC := hid hc
        have HCK := hid hck
        have HWF := hid hwf
        have HE := hid he
        have HB := hid hb1
        obtain ⟨T0, v0, ht⟩ := tv_iface t
        have hc9 : wr.cell? ⟨g, 0, none⟩ = some (.iface T0 v0) := by rw [← ht]; exact hc
        rw [ht] at HDP
        simp only [List.length_cons, List.length_nil, Nat.zero_add]
        have HD := hid hd
        clear hc hck hwf he hb1 hr1 hr2 ho1 HR h1 hlen hd HNB ht
        generalize hdt : t.depth = d at *
        have HDT := hid hdt
        clear hdt
        go_wp2_with fail
        refine HDP.out.mono ?_
        rintro e w2 ⟨rfl, hb2⟩
        have HB2 := hid (HB.out.trans (hb2.mono HB.out.size))
        have HC2 := hid (cellb hb2 HC.out)
        clear hb2 HDP HC
        by_cases h8 : 8 < d
        · have h8' : (8 : Int) < (d : Int) := by omega
          have HCC : Hid (chkN l = 4) := hid (by rw [HCK.out, if_pos h8])
          go_wp2
          go_ret2
          exact ⟨HB2.out, .inl ⟨by rw [HCC.out]; decide, by rw [HCC.out]; rfl⟩⟩
        · have h8' : ¬ (8 : Int) < (d : Int) := by omega
          have HCC : Hid (chkN l = 0) := hid (by rw [HCK.out, if_neg h8])
          go_wp2
          go_ret2
          exact ⟨HB2.out, .inr ⟨t, g, c, HWF.out, HE.out, by rw [HDT.out]; omega, HCC.out, rfl, HC2.out⟩⟩
      · have h1' : ¬ ((ts.length : Int) = 1) := by omega
        have HCC : Hid (chkN l = 1) := hid (by
          unfold chkN
          rw [if_neg h31, hr2]
          match ts, h1 with
          | [], _ => rfl
          | [t], h1 => exact absurd rfl h1
          | t :: u :: ts, _ => rfl)
        have HB := hid hb1
        clear hb1 hr1 hr2 ho1 HR HNB
        generalize ts.length = m at *
        go_wp2
        go_ret2
        exact ⟨HB.out, .inl ⟨by rw [HCC.out]; decide, by rw [HCC.out]; rfl⟩⟩

set_option maxRecDepth 20000 in
set_option maxHeartbeats 2000000 in
theorem ncheck_any (A : Option Addr) (cap : Nat) (l : List (Int × Int)) (W : World) (h : Sl W 2 A l.length cap (pcells l)) (hl : l.length ≤ 1000) :
    Calls Try.prog 38 #[.slice A l.length cap] W fun e w' => e = .returned (.int .i64 (chkN l)) ∧ Below W.heap.size W w' := by
  have HG := hid (grown_any A cap l W h hl)
  clear h hl
  generalize l.length = m at *
  go_enter Try.func38, Try.ntmps38
  go_wp2_with fail
  refine HG.out.mono ?_
  rintro e w1 ⟨hb, ⟨hc, rfl⟩ | ⟨t, g, c, hw, he, hd, hc, rfl, hcell⟩⟩
  · have HB := hid hb
    generalize hk : chkN l = k at *
    have HK := hid hk
    clear hb hc HG hk
    go_wp2
    go_ret
    exact ⟨by rw [HK.out]; rfl, HB.out⟩
  · have HB := hid hb
    have HC := hid hc
    clear hb hc HG hw he hd hcell
    go_wp2
    go_ret
    exact ⟨by rw [HC.out]; rfl, HB.out⟩

def depN (l : List (Int × Int)) : Int := if chkN l = 0 then (match runN [] l with | some [t] => (t.depth : Int) | _ => 0) else 0
def sayN (l : List (Int × Int)) (s : Nat) : Bool := if chkN l = 0 then (match runN [] l with | some [t] => t.holds s | _ => false) else false
def askN (l : List (Int × Int)) : Nat := if chkN l = 0 then (match runN [] l with | some [t] => t.asks | _ => 0) else 0
theorem depN_tree {t : Nt} (h : t.wf) (hc : chkN t.flat = 0) : depN t.flat = (t.depth : Int) := by unfold depN; rw [if_pos hc, runN_flat t [] h]; rfl
theorem sayN_tree {t : Nt} (h : t.wf) (hc : chkN t.flat = 0) (s : Nat) : sayN t.flat s = t.holds s := by unfold sayN; rw [if_pos hc, runN_flat t [] h]; rfl
theorem askN_tree {t : Nt} (h : t.wf) (hc : chkN t.flat = 0) : askN t.flat = t.asks := by unfold askN; rw [if_pos hc, runN_flat t [] h]; rfl

set_option maxRecDepth 20000 in
set_option maxHeartbeats 2000000 in
theorem nasks_any (A : Option Addr) (cap : Nat) (l : List (Int × Int)) (W : World) (h : Sl W 2 A l.length cap (pcells l)) (hl : l.length ≤ 1000) :
    Calls Try.prog 39 #[.slice A l.length cap] W fun e w' => e = .returned (.int .u64 (askN l : Nat)) ∧ Below W.heap.size W w' := by
  have HG := hid (grown_any A cap l W h hl)
  clear h hl
  generalize l.length = m at *
  go_enter Try.func39, Try.ntmps39
  go_wp2_with fail
  refine HG.out.mono ?_
  rintro e w1 ⟨hb, ⟨hc, rfl⟩ | ⟨t, g, c, hw, he, hd, hc, rfl, hcell⟩⟩
  · have HB := hid hb
    have HV : Hid (askN l = 0) := hid (by unfold askN; rw [if_neg hc])
    generalize chkN l = k at *
    clear hb HG
    go_wp2
    go_ret
    exact ⟨by rw [HV.out]; rfl, HB.out⟩
  · have HB := hid hb
    have HV : Hid (askN l = t.asks) := hid (by rw [he] at hc ⊢; exact askN_tree hw hc)
    have HDP := hid (asks_any t w1)
    obtain ⟨T0, v0, ht⟩ := tv_iface t
    rw [ht] at hcell HDP
    generalize t.asks = d at *
    clear hb hc HG hw he hd ht
    go_wp2_with fail
    refine HDP.out.mono ?_
    rintro e w2 ⟨rfl, hb2⟩
    have HB2 := hid (HB.out.trans (hb2.mono HB.out.size))
    clear hb2 HDP hcell
    go_wp2
    go_ret
    exact ⟨by rw [HV.out]; rfl, HB2.out⟩
end Go.Proofs.Ytdphdodjidbngaa
