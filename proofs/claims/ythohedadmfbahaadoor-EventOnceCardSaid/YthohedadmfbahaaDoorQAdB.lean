/- Admit: Workers; the document's Workers; both Any: contracts. -/
import Derived.Test.YthohedadmfbahaaDoorQAdA
import Derived.Test.YthohedadmfbahaaDoorGaP
import Derived.Test.YthohedadmfbahaaDoorQAdL
import Derived.Lib.QuietBelow
namespace Go.Proofs.YthohedadmfbahaaDoor
open Go.RowKit Go.Sort
set_option linter.unusedVariables false
set_option linter.unusedSimpArgs false

theorem gcells_take {α : Type} {f : α → List Value} {n : Nat} (hf : ∀ x, (f x).length = n) : ∀ (l : List α) (k : Nat), (gcells f l).take (k * n) = gcells f (l.take k)
  | l, 0 => by simp [gcells]
  | [], k + 1 => by simp [gcells]
  | x :: l, k + 1 => by
    rw [List.take_succ_cons, gcells_cons, gcells_cons, ← gcells_take hf l k]
    rw [show (k + 1) * n = (f x).length + k * n by rw [hf, Nat.succ_mul]; omega, List.take_length_add_append]
theorem Sl.gtake {α : Type} {f : α → List Value} {n : Nat} (hf : ∀ x, (f x).length = n) {w : World} {A : Option Addr} {len cap : Nat} {l : List α} (h : Sl w n A len cap (gcells f l)) (h0 : 0 < n) (k : Nat) : Sl w n A (l.take k).length cap (gcells f (l.take k)) := by
  have hlen := h.glen hf h0
  obtain ⟨h1, h2, h3, h4⟩ := h
  have hle : (l.take k).length ≤ l.length := by rw [List.length_take]; omega
  refine ⟨gcells_length hf _, by omega, h3, fun hp => ?_⟩
  have e := gcells_take hf l k
  have hp2 : 0 < (gcells f l).length := by
    rw [← e, List.length_take] at hp
    omega
  obtain ⟨b, off, ha, hc⟩ := h4 hp2
  refine ⟨b, off, ha, fun i hi => ?_⟩
  rw [← e, List.length_take] at hi
  rw [hc i (by omega), ← e, List.getElem?_take, if_pos (by omega)]
theorem info_worker : (Tryd.prog.info? 40).map (fun i => (i.zero, i.size, i.bytes)) = some (some (.agg #[.int .i64 0, .int .i64 0, .int .u64 0]), 3, 24) := by kernel_rfl

set_option maxRecDepth 20000 in
set_option maxHeartbeats 4000000 in
theorem workers_any (A : Option Addr) (cap : Nat) (l : List (Int × Int)) (B : Option Addr) (cw : Nat) (ws : List Wk) (W : World) (h : Sl W 2 A l.length cap (pcells l)) (hl : l.length ≤ 1000) (hw : Sl W 3 B ws.length cw (gcells wkc ws)) (hws : ∀ x ∈ ws, x.2.2 < 18446744073709551616) (hwl : ws.length ≤ 1000) :
    Calls Tryd.prog 45 #[.slice A l.length cap, .slice B ws.length cw] W fun e w' => e = .returned (.int .u64 (wkS l ws : Nat)) ∧ Below W.heap.size W w' := by
  have HF := hid (hw.gtake (f := wkc) (n := 3) (fun _ => rfl) (by omega) 64)
  have hcw := hw.2.1
  have hm64 : (ws.take 64).length ≤ 64 := by rw [List.length_take]; omega
  have hmc : (ws.take 64).length ≤ cw := by rw [List.length_take]; omega
  have HMT : Hid ((min (ws.length : Int) 64).toNat = (ws.take 64).length) := hid (by rw [List.length_take]; omega)
  have HWS : Hid (∀ x ∈ ws.take 64, x.2.2 < 18446744073709551616) := hid (fun x hx => hws x (List.mem_of_mem_take hx))
  have HK : Hid (wkS l ws = valL (fun a => hvU (ws.take 64) a (ws.take 64).length) l &&& belowS ((ws.take 64).length : Nat)) := hid rfl
  have HVL := hid (valL_lt (r := fun a => hvU (ws.take 64) a (ws.take 64).length) (fun a => hvU_lt (ws.take 64) a _) l)
  have HBL := hid (belowS_lt ((ws.take 64).length : Nat))
  have HV := hid (fun (P : Nat) (w w1 : World) (hb : Below W.heap.size W w) (hp : w.cell? ⟨P, 0, none⟩ = some (.slice B (ws.take 64).length cw)) (hb1 : Below w.heap.size w w1) =>
    values_any (fun a => hvU (ws.take 64) a (ws.take 64).length) (fun a => hvU_lt (ws.take 64) a _) 55 ⟨P, 0, none⟩ A cap l w1 ((h.below hb).below hb1) hl (fun _ _ => by kernel_rfl)
      (fun n w2 _ _ hb2 => having_any (ws.take 64) B cw P n w2 (cellb hb2 (cellb hb1 hp)) (((HF.out.below hb).below hb1).below hb2) hm64 HWS.out))
  generalize valL (fun a => hvU (ws.take 64) a (ws.take 64).length) l = vl at *
  have HBW := hid (fun w => below_any ((ws.take 64).length : Nat) w)
  generalize belowS ((ws.take 64).length : Nat) = bl at *
  have hmi : ((ws.take 64).length : Int) ≤ 64 := by omega
  generalize (ws.take 64).length = m at *
  generalize wkS l ws = r at *
  clear HF HWS h hl hw hws hm64
  have hres : bits .and .u64 ((vl : Nat) : Int) ((bl : Nat) : Int) = ((r : Nat) : Int) := by
    rw [HK.out]
    exact u64_and_nat vl bl HVL.out HBL.out
  have HRES := hid hres
  clear hres HK HVL HBL
  have hmf : ∀ (fn : Fn) (first cap : Array Value) (w : World), (Instr.makeFunc fn first cap).run Tryd.prog w = .ok (.func fn first cap) w := fun _ _ _ _ => rfl
  · skip
    generalize ws.length = n at *
    go_enter Tryd.func45, Tryd.ntmps45
    go_upto_region 2 with (fail)
    refine at_world (fun w => w.cell? ⟨W.heap.size, 0, none⟩ = some (.slice B m cw) ∧ Below W.heap.size W w) ⟨by rw [HMT.out]; exact cell_one_new W _ _ 0 _ rfl, (Below.refl _ _).alloc (Nat.le_refl _) _⟩ ?_
    rintro w1 ⟨hp, hb1⟩
    have HB1 := hid hb1
    have HVC := hid (fun w => HV.out W.heap.size w1 w HB1.out hp)
    clear HV hb1
    go_upto_region 3 with (fail)
    have hS : ∀ U, Below w1.heap.size w1 U → U.cell? ⟨W.heap.size, 0, none⟩ = some (.slice B m cw) ∧ Below w1.heap.size w1 U := fun U hU => ⟨cellb hU hp, hU⟩
    have hu0 : Below w1.heap.size w1 w1.drew := below_drew (Below.refl _ _)
    refine wp_region_held_drew (S := fun U => U.cell? ⟨W.heap.size, 0, none⟩ = some (.slice B m cw) ∧ Below w1.heap.size w1 U) (by kernel_rfl) (hS _ hu0) (fun hHeld => ?_)
    refine wpAnyH_take (i := 0) (v := ?_) rfl (by kernel_rfl) (by kernel_rfl) (by kernel_rfl) (fun _ _ _ h => h) (Or.inl ⟨by rfl, ?_⟩) (by assumption) ?_
    rotate_left
    focus
      intro U hU
      try dsimp only at hU
      go_simp
      try (with_reducible rfl)
    simp only [List.getElem_toArray, List.getElem_cons_succ, List.getElem_cons_zero, Act.put, List.setIfInBounds_toArray, List.set_cons_zero, List.set_cons_succ]
    refine wpAnyH_take (i := 1) (v := ?_) rfl (by kernel_rfl) (by kernel_rfl) (by kernel_rfl) (fun _ _ _ h => h) (Or.inl ⟨by rfl, ?_⟩) (by assumption) ?_
    rotate_left
    focus
      intro U hU
      try dsimp only at hU
      go_simp
      try (with_reducible rfl)
    simp only [List.getElem_toArray, List.getElem_cons_succ, List.getElem_cons_zero, Act.put, List.setIfInBounds_toArray, List.set_cons_zero, List.set_cons_succ]
    refine wpAnyH_take (i := 3) (v := ?_) rfl (by kernel_rfl) (by kernel_rfl) (by kernel_rfl) (fun _ _ _ h => h) (Or.inl ⟨by rfl, ?_⟩) (by assumption) ?_
    rotate_left
    focus
      intro U hU
      try dsimp only at hU
      have hcell := And.left hU
      go_simp
      try (with_reducible rfl)
    simp only [List.getElem_toArray, List.getElem_cons_succ, List.getElem_cons_zero, Act.put, List.setIfInBounds_toArray, List.set_cons_zero, List.set_cons_succ]
    refine wpAnyH_take (i := 4) (v := ?_) rfl (by kernel_rfl) (by kernel_rfl) (by kernel_rfl) (fun _ _ _ h => h) (Or.inl ⟨by rfl, ?_⟩) (by assumption) ?_
    rotate_left
    focus
      intro U hU
      try dsimp only at hU
      go_simp
      try (with_reducible rfl)
    simp only [List.getElem_toArray, List.getElem_cons_succ, List.getElem_cons_zero, Act.put, List.setIfInBounds_toArray, List.set_cons_zero, List.set_cons_succ]
    refine wpAnyH_ready (rs := [2]) (by kernel_rfl) (by simp) ?_
    refine AllReadyH.cons rfl (fun K hK => ?_) AllReadyH.nil
    simp only [List.getElem_toArray, List.getElem_cons_succ, List.getElem_cons_zero]
    go_simp
    refine (HVC.out _ hu0).mono ?_
    rintro e u1 ⟨rfl, hb2⟩
    have hu1 : Below w1.heap.size w1 u1 := hu0.trans (hb2.mono hu0.size)
    go_wp2_with fail
    refine hK.out _ _ ?_ (fun hHeld2 => ?_)
    focus
      exact hS _ (by with_reducible assumption)
    clear hHeld
    have hHeld := hHeld2
    clear hHeld2 hK K
    try simp only [List.getElem_toArray, List.getElem_cons_succ, List.getElem_cons_zero, Act.put, List.setIfInBounds_toArray, List.set_cons_zero, List.set_cons_succ]
    refine wpAnyH_ready (rs := [5]) (by kernel_rfl) (by simp) ?_
    refine AllReadyH.cons rfl (fun K hK => ?_) AllReadyH.nil
    simp only [List.getElem_toArray, List.getElem_cons_succ, List.getElem_cons_zero]
    go_simp
    refine (HBW.out _).mono ?_
    rintro e u2 ⟨rfl, rfl⟩
    go_wp2_with fail
    refine hK.out _ _ ?_ (fun hHeld2 => ?_)
    focus
      exact hS _ (by with_reducible assumption)
    clear hHeld
    have hHeld := hHeld2
    clear hHeld2 hK K
    try simp only [List.getElem_toArray, List.getElem_cons_succ, List.getElem_cons_zero, Act.put, List.setIfInBounds_toArray, List.set_cons_zero, List.set_cons_succ]
    refine wpAnyH_take (i := 6) (v := ?_) rfl (by kernel_rfl) (by kernel_rfl) (by kernel_rfl) (fun _ _ _ h => h) (Or.inl ⟨by rfl, ?_⟩) (by assumption) ?_
    rotate_left
    focus
      intro U hU
      try dsimp only at hU
      go_simp
      try (with_reducible rfl)
    simp only [List.getElem_toArray, List.getElem_cons_succ, List.getElem_cons_zero, Act.put, List.setIfInBounds_toArray, List.set_cons_zero, List.set_cons_succ]
    refine wpAnyH_take (i := 7) (v := ?_) rfl (by kernel_rfl) (by kernel_rfl) (by kernel_rfl) (fun _ _ _ h => h) (Or.inl ⟨by rfl, ?_⟩) (by assumption) ?_
    rotate_left
    focus
      intro U hU
      try dsimp only at hU
      go_simp
      try (with_reducible rfl)
    simp only [List.getElem_toArray, List.getElem_cons_succ, List.getElem_cons_zero, Act.put, List.setIfInBounds_toArray, List.set_cons_zero, List.set_cons_succ]
    refine wpAnyH_done (by kernel_rfl) ?_ _
    clear hHeld
    go_wp2_with fail
    go_ret
    refine ⟨?_, HB1.out.trans (hu1.mono HB1.out.size)⟩
    rw [HRES.out]
    rfl
end Go.Proofs.YthohedadmfbahaaDoor
