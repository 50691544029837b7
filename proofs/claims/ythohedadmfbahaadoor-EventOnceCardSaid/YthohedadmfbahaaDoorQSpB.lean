/- Rows of jobs that are read; event.listed, event.acceptable: contracts. -/
import Derived.Test.YthohedadmfbahaaDoorQSpA
import Derived.Test.YthohedadmfbahaaDoorQJbD
import Derived.BigQuiet
namespace Go.Proofs.YthohedadmfbahaaDoor
open Go.RowKit Go.Sort
set_option linter.unusedVariables false
set_option linter.unusedSimpArgs false

/-- A job, and where its texts lie. -/
structure Jo where
  id : Int
  ns : List (List UInt8)
  A : Option Addr
  c : Nat
instance : Inhabited Jo := ⟨⟨0, [], none, 0⟩⟩
def jbl (x : Jo) : List Value := [.int .i64 x.id, .slice x.A x.ns.length x.c]
theorem jbl_len (x : Jo) : (jbl x).length = 2 := rfl
/-- A row of jobs that is read. -/
def InJs (w : World) (A : Option Addr) (c : Nat) (js : List Jo) : Prop := Sl w 2 A js.length c (gcells jbl js) ∧ ∀ x ∈ js, TxJ w x.A x.c x.ns
theorem InJs.below {w w' : World} {A : Option Addr} {c : Nat} {js : List Jo} (h : InJs w A c js) (hb : Below w.heap.size w w') : InJs w' A c js := ⟨h.1.below hb, fun x hx => (h.2 x hx).below hb⟩
theorem InJs.len {w : World} {A : Option Addr} {c : Nat} {js : List Jo} (h : InJs w A c js) : js.length ≤ maxLen := Nat.le_trans h.1.2.1 h.1.2.2.1
theorem InJs.el {w : World} {A : Option Addr} {c : Nat} {js : List Jo} (h : InJs w A c js) (k : Nat) (hk : k < js.length) : ∃ b off, A = some ⟨b, off, none⟩ ∧
    w.cell? ⟨b, off + k * 2, none⟩ = some (.int .i64 js[k].id) ∧ w.cell? ⟨b, off + k * 2 + 1, none⟩ = some (.slice js[k].A js[k].ns.length js[k].c) := by
  obtain ⟨b, off, rfl, hc⟩ := Sl.gat (f := jbl) (n := 2) jbl_len h.1 k hk (by omega)
  exact ⟨b, off, rfl, hc 0 _ rfl, hc 1 _ rfl⟩
/-- Where the first job with that number is. -/
def ljB (js : List Jo) (j : Int) : Option Nat := js.findIdx? (fun x => x.id == j)
theorem ljB_some {b : List Jo} {j : Int} {k : Nat} (h : ljB b j = some k) : ∃ hk : k < b.length, b[k].id = j ∧ ∀ i (hi : i < k), (b[i]'(Nat.lt_trans hi hk)).id ≠ j := by
  unfold ljB at h
  rw [List.findIdx?_eq_some_iff_getElem] at h
  obtain ⟨hk, h1, h2⟩ := h
  exact ⟨hk, by simpa using h1, fun i hi => by simpa using h2 i hi⟩
theorem ljB_none {b : List Jo} {j : Int} (h : ljB b j = none) : ∀ e ∈ b, e.id ≠ j := by
  unfold ljB at h
  rw [List.findIdx?_eq_none_iff] at h
  exact fun e he => by simpa using h e he
theorem ljB_of {b : List Jo} {j : Int} {k : Nat} (hk : k < b.length) (h1 : b[k].id = j) (h2 : ∀ i (hi : i < k), (b[i]'(Nat.lt_trans hi hk)).id ≠ j) : ljB b j = some k := by
  unfold ljB
  rw [List.findIdx?_eq_some_iff_getElem]
  exact ⟨hk, by simpa using h1, fun i hi => by simpa using h2 i hi⟩
theorem ljB_of_none {b : List Jo} {j : Int} (h : ∀ e ∈ b, e.id ≠ j) : ljB b j = none := by
  unfold ljB
  rw [List.findIdx?_eq_none_iff]
  exact fun e he => by simpa using h e he
def ljI (b : List Jo) (j : Int) : Int := match ljB b j with | some k => (k : Int) | none => -1

set_option maxRecDepth 20000 in
theorem listed1_any (e : Jo) (B : Nat) (job : Int) (W : World) (hB : W.cell? ⟨B, 0, none⟩ = some (.int .i64 job)) :
    Calls Tryd.prog 39 #[.agg #[.int .i64 e.id, .slice e.A e.ns.length e.c], .pointer (some ⟨B, 0, none⟩)] W fun x w' => x = .returned (.bool (e.id == job)) ∧ Below W.heap.size W w' := by
  obtain ⟨id, ns, A, c⟩ := e
  simp only
  generalize ns.length = n
  go_enter Tryd.func39, Tryd.ntmps39
  go_upto_region 1 with (fail)
  refine at_world (fun u => u.heap[W.heap.size]? = some (.cells #[.int .i64 id, .slice A n c] 45 (0, 0)) ∧ Below W.heap.size W u) ⟨heap_alloc_new _ _, (Below.refl _ _).alloc (Nat.le_refl _) _⟩ ?_
  rintro w1 ⟨hx1, hb1⟩
  obtain ⟨p0, p1⟩ := two_cellsR hx1
  have hB1 := cellb hb1 hB
  have HB := hid hb1
  clear hx1 hb1
  go_wp2
  go_ret
  exact ⟨rfl, HB.out⟩
set_option maxRecDepth 20000 in
set_option maxHeartbeats 1000000 in
theorem lindex_any (A : Option Addr) (c : Nat) (xs : List Jo) (B : Nat) (job : Int) (W : World) (h : InJs W A c xs) (hB : W.cell? ⟨B, 0, none⟩ = some (.int .i64 job)) :
    Calls Tryd.prog 38 #[.slice A xs.length c, .func (.func 39) #[] #[.pointer (some ⟨B, 0, none⟩)]] W fun e w' => e = .returned (.int .i64 (ljI xs job)) ∧ Below W.heap.size W w' := by
  have HA := hid h
  have HB := hid hB
  have hm : xs.length ≤ 9223372036854775807 := by have := h.len; unfold maxLen at this; omega
  have HY := hid (fun k (hk : k < xs.length) (h1 : xs[k].id = job) (h2 : ∀ j (hj : j < xs.length), j < k → xs[j].id ≠ job) => show ljI xs job = (k : Int) by
    unfold ljI
    rw [ljB_of (k := k) hk h1 (fun i hi => h2 i (by omega) hi)])
  have HN := hid (fun (h2 : ∀ j (hj : j < xs.length), xs[j].id ≠ job) => show ljI xs job = -1 by
    unfold ljI
    rw [ljB_of_none (fun e he => by
      obtain ⟨j, hj, rfl⟩ := List.getElem_of_mem he
      exact h2 j hj)])
  clear h hB
  go_enter Tryd.func38, Tryd.ntmps38
  go_wp2
  go_loopw [8] (fun i wr => ∃ k : Nat, k ≤ xs.length ∧ i = .int .i64 (k : Int) ∧ Hid (∀ j (hj : j < xs.length), j < k → xs[j].id ≠ job) ∧ Hid (Below W.heap.size W wr)) (fun i _ => xs.length - (intOf i).toNat)
  case atStart => exact ⟨0, by omega, rfl, fun j hj h => absurd h (by omega), Below.refl _ _⟩
  case round =>
    obtain ⟨k, hk, rfl, HT, HR⟩ := hrel
    by_cases hlt : k < xs.length
    · have hlt2 : (k : Int) < (xs.length : Int) := by omega
      obtain ⟨b, off, rfl, q0, q1⟩ := (HA.out.below HR.out).el k hlt
      have HC := hid (listed1_any xs[k] B job wr (cellb HR.out HB.out))
      have HY2 := hid (fun h => HY.out k hlt h HT.out)
      have HXX : Hid (xs[k].id = xs[k].id) := hid rfl
      generalize hx : xs[k] = x at q0 q1 HC HY2
      have HX := hid hx
      clear hx HXX
      obtain ⟨id, ns, A1, ca⟩ := x
      simp only at q0 q1 HY2 HC
      generalize ns.length = nn at *
      go_wp2_with fail
      refine HC.out.mono ?_
      rintro e w2 ⟨rfl, hb2⟩
      have HR2 := hid (HR.out.trans (hb2.mono HR.out.size))
      clear hb2 HC q0 q1
      by_cases hxy : id = job
      · have hd : (id == job) = true := by simpa using hxy
        have HE := hid (HY2.out hxy)
        go_wp2
        go_ret
        exact ⟨by rw [HE.out]; rfl, HR2.out⟩
      · have hd : (id == job) = false := by simpa using hxy
        have HT2 : Hid (∀ j (hj : j < xs.length), j < k + 1 → xs[j].id ≠ job) := hid (fun j hj hjk => by
          by_cases hjk2 : j < k
          · exact HT.out j hj hjk2
          · obtain rfl : j = k := by omega
            rw [HX.out]; exact hxy)
        clear hxy
        go_wp2
        go_roundw
        case rel => exact ⟨k + 1, by omega, by go_num, HT2.out, HR2.out⟩
        case measure => simp [intOf]; omega
    · have hge : ¬ (k : Int) < (xs.length : Int) := by omega
      have HE := hid (HN.out (fun j hj => HT.out j hj (by omega)))
      go_wp2
      go_ret
      exact ⟨by rw [HE.out]; rfl, HR.out⟩
set_option maxRecDepth 20000 in
theorem listed_any (A : Option Addr) (c : Nat) (xs : List Jo) (job : Int) (W : World) (h : InJs W A c xs) :
    Calls Tryd.prog 25 #[.slice A xs.length c, .int .i64 job] W fun e w' => e = .returned (.int .i64 (ljI xs job)) ∧ Below W.heap.size W w' := by
  have HA := hid h
  clear h
  go_enter Tryd.func25, Tryd.ntmps25
  go_upto_region 1 with (fail)
  refine at_world (fun u => u.heap[W.heap.size]? = some (.cells #[.int .i64 job] 3 (0, 0)) ∧ Below W.heap.size W u) ⟨heap_alloc_new _ _, (Below.refl _ _).alloc (Nat.le_refl _) _⟩ ?_
  rintro w1 ⟨hx1, hb1⟩
  have hc : w1.cell? ⟨W.heap.size, 0, none⟩ = some (.int .i64 job) := by rw [cell_of_row w1 W.heap.size 0 _ _ _ hx1]; rfl
  have HC := hid (lindex_any A c xs W.heap.size job w1 (HA.out.below hb1) hc)
  have HB := hid hb1
  clear hx1 hb1 hc
  go_wp2_with fail
  refine HC.out.mono ?_
  rintro e w2 ⟨rfl, hb2⟩
  have HB2 := hid (HB.out.trans (hb2.mono HB.out.size))
  clear hb2
  go_wp2
  go_ret
  exact ⟨rfl, HB2.out⟩

theorem lay2E (W : World) (C E : Obj) : ((W.alloc C).alloc E).heap[W.heap.size]? = some C ∧ ((W.alloc C).alloc E).heap[W.heap.size + 1]? = some E ∧ Below W.heap.size W ((W.alloc C).alloc E) :=
  ⟨heap_first _ _ _, heap_second _ _ _, bel_alloc (bel_alloc (Below.refl _ _) _) _⟩
theorem four_cellsE {w : World} {b t : Nat} {x y z u : Value} (h : w.heap[b]? = some (.cells #[x, y, z, u] t (0, 0))) :
    w.cell? ⟨b, 0, none⟩ = some x ∧ w.cell? ⟨b, 1, none⟩ = some y ∧ w.cell? ⟨b, 2, none⟩ = some z ∧ w.cell? ⟨b, 3, none⟩ = some u :=
  ⟨by rw [cell_of_row w b 0 _ _ _ h]; rfl, by rw [cell_of_row w b 1 _ _ _ h]; rfl, by rw [cell_of_row w b 2 _ _ _ h]; rfl, by rw [cell_of_row w b 3 _ _ _ h]; rfl⟩
/-- May a job be accepted? -/
def accB (x : Cf) (js : List Jo) (b : List En) (j t w : Int) : Bool :=
  if t ≠ 0 ∨ w ≠ 0 ∨ ljI js j < 0 ∨ 0 ≤ plI b j then false else decide ((chkJ (js.getD (ljI js j).toNat default).id x.T x.ws (js.getD (ljI js j).toNat default).ns).2.2 = 0)
theorem ljI_in {js : List Jo} {j : Int} (h : ¬ ljI js j < 0) : ∃ k : Nat, ljI js j = (k : Int) ∧ ∃ hk : k < js.length, js[k].id = j := by
  unfold ljI at h ⊢
  split
  · rename_i k hk
    obtain ⟨h1, h2, _⟩ := ljB_some hk
    exact ⟨k, rfl, h1, h2⟩
  · rename_i hk
    rw [hk] at h
    simp at h

set_option maxRecDepth 20000 in
set_option maxHeartbeats 4000000 in
theorem accept_any (x : Cf) (N : Option Addr) (nc : Nat) (K : Option Addr) (kc : Nat) (J : Option Addr) (jc : Nat) (js : List Jo) (S : Option Addr) (sc : Nat) (xs : List Ee) (kd j t w : Int) (W : World) (hC : CfAt W x N nc K kc) (hJ : InJs W J jc js) (hS : InBk W S sc xs) (hs : ∀ y ∈ js, ∀ s ∈ y.ns, s.length ≤ 1000) (hw : x.ws.length ≤ 1000) :
    Calls Tryd.prog 19 #[.agg (cfc x N nc K kc), .slice J js.length jc, .slice S xs.length sc, .agg #[.int .i64 kd, .int .i64 j, .int .i64 t, .int .i64 w]] W fun e w' => e = .returned (.bool (accB x js (xs.map (·.1)) j t w)) ∧ Below W.heap.size W w' := by
  have HLI := hid (fun u (hu : Below W.heap.size W u) => listed_any J jc js j u (hJ.below hu))
  have HPL := hid (fun u (hu : Below W.heap.size W u) => eplace_any S sc xs j u (hS.below hu))
  have HNO := hid (fun (h : t ≠ 0 ∨ w ≠ 0 ∨ ljI js j < 0 ∨ 0 ≤ plI (xs.map (·.1)) j) => show accB x js (xs.map (·.1)) j t w = false by unfold accB; rw [if_pos h])
  have HYE := hid (fun (h : ¬ (t ≠ 0 ∨ w ≠ 0 ∨ ljI js j < 0 ∨ 0 ≤ plI (xs.map (·.1)) j)) (k : Nat) (hk : ljI js j = (k : Int)) (hk2 : k < js.length) => show accB x js (xs.map (·.1)) j t w = decide ((chkJ js[k].id x.T x.ws js[k].ns).2.2 = 0) by
    unfold accB
    rw [if_neg h, hk]
    simp [List.getD, hk2])
  have HIN := hid (fun (h : ¬ ljI js j < 0) => ljI_in h)
  have HCK := hid (fun k (hk : k < js.length) u (hu : Below W.heap.size W u) => jcheck_any x N nc K kc js[k].id js[k].A js[k].c js[k].ns u (hC.below hu) ((hJ.2 _ (List.getElem_mem hk)).below hu) (hs _ (List.getElem_mem hk)) hw)
  have HEL := hid (fun k (hk : k < js.length) u (hu : Below W.heap.size W u) => (hJ.below hu).el k hk)
  have hjl : js.length ≤ 9223372036854775807 := by have := hJ.len; unfold maxLen at this; omega
  clear hC hJ hS hs hw
  generalize accB x js (xs.map (·.1)) j t w = R at *
  obtain ⟨c0, le, ag, ro, ou, T, ws⟩ := x
  simp only [cfc] at *
  generalize plI (xs.map (·.1)) j = pl at *
  generalize ljI js j = li at *
  generalize xs.length = xn at *
  generalize T.length = tn at *
  generalize ws.length = wn at *
  go_enter Tryd.func19, Tryd.ntmps19
  go_upto_region 1 with (fail)
  refine at_world (fun u => u.heap[W.heap.size]? = some (.cells #[.int .i64 c0, .int .i64 le, .int .i64 ag, .int .i64 ro, .int .i64 ou, .slice N tn nc, .slice K wn kc] 25 (0, 0)) ∧ u.heap[W.heap.size + 1]? = some (.cells #[.int .i64 kd, .int .i64 j, .int .i64 t, .int .i64 w] 37 (0, 0)) ∧ Below W.heap.size W u) (lay2E W _ _) ?_
  rintro w1 ⟨hq, hj, hb⟩
  have HB := hid hb
  have HQ := hid hq
  have HJ := hid hj
  clear hq hj hb
  generalize W.heap.size + 1 = Ev at *
  generalize hQ : W.heap.size = Q at HQ
  clear hQ
  obtain ⟨p0, p1, p2, p3⟩ := four_cellsE HJ.out
  go_wp2_with fail
  refine (HLI.out _ HB.out).mono ?_
  rintro e w2 ⟨rfl, hb⟩
  have HB2 := hid (HB.out.trans (hb.mono HB.out.size))
  have HQ2 := hid (keep0 HQ.out hb)
  have HJ2 := hid (keep0 HJ.out hb)
  clear hb p0 p1 p2 p3 HB HQ HJ HLI
  obtain ⟨p0, p1, p2, p3⟩ := four_cellsE HJ2.out
  by_cases ht : t = 0
  case neg =>
    have hd : (t != 0) = true := by simpa using ht
    obtain rfl : R = false := HNO.out (.inl ht)
    clear HNO HYE HPL HIN HCK HEL
    go_wp2
    go_ret
    exact ⟨rfl, HB2.out⟩
  subst ht
  by_cases hww : w = 0
  case neg =>
    have hd : (w != 0) = true := by simpa using hww
    obtain rfl : R = false := HNO.out (.inr (.inl hww))
    clear HNO HYE HPL HIN HCK HEL
    go_wp2
    go_ret
    exact ⟨rfl, HB2.out⟩
  subst hww
  by_cases hlt : li < 0
  · obtain rfl : R = false := HNO.out (.inr (.inr (.inl hlt)))
    clear HNO HYE HPL HIN HCK HEL
    go_wp2
    go_ret
    exact ⟨rfl, HB2.out⟩
  go_wp2_with fail
  refine (HPL.out _ HB2.out).mono ?_
  rintro e w3 ⟨rfl, hb⟩
  have HB3 := hid (HB2.out.trans (hb.mono HB2.out.size))
  have HQ3 := hid (keep0 HQ2.out hb)
  have HJ3 := hid (keep0 HJ2.out hb)
  clear hb p0 p1 p2 p3 HB2 HQ2 HJ2 HPL
  by_cases hpl : 0 ≤ pl
  · have hpl2 : pl ≥ 0 := hpl
    obtain rfl : R = false := HNO.out (.inr (.inr (.inr hpl)))
    clear HNO HYE HIN HCK HEL
    go_wp2
    go_ret
    exact ⟨rfl, HB3.out⟩
  have hpl2 : ¬ pl ≥ 0 := hpl
  obtain ⟨k, rfl, hk, hid9⟩ := HIN.out hlt
  have hR := HYE.out (by omega) k rfl hk
  have HCK2 := hid (HCK.out k hk)
  obtain ⟨jb, joff, hJ9, e0, e1⟩ := HEL.out k hk w3 HB3.out
  subst hJ9
  have HR := hid hR
  generalize chkJ js[k].id T ws js[k].ns = ck at *
  obtain ⟨ck1, ck2, ck3⟩ := ck
  simp only [Ck] at HR HCK2
  generalize js[k].id = ji at *
  generalize js[k].A = jA at *
  generalize js[k].c = jC at *
  generalize js[k].ns.length = jL at *
  have hkj : (k : Int) < (js.length : Int) := by omega
  have hk0 : ¬ (k : Int) < 0 := by omega
  obtain ⟨q0, q1, q2, q3, q4, q5, q6⟩ := seven_cellsJ HQ3.out
  clear HNO HYE HIN HCK HEL hR hid9 HJ3
  go_upto_region 4 with (fail)
  replace q0 := cell_regrown q0
  replace q1 := cell_regrown q1
  replace q2 := cell_regrown q2
  replace q3 := cell_regrown q3
  replace q4 := cell_regrown q4
  replace q5 := cell_regrown q5
  replace q6 := cell_regrown q6
  replace e0 := cell_regrown e0
  replace e1 := cell_regrown e1
  have ck := reg (w := w3) (fun W' hW' => HCK2.out W' (HB3.out.trans (hW'.mono HB3.out.size)))
  refine wp_region_quiet_below (by kernel_rfl) (by kernel_rfl) ?_
  repeat (go_big_quiet_step ((go_at_call 32; with_reducible exact ck _ _)))
  refine wpQuiet_nil ?_
  intro _ hw'
  obtain ⟨⟨dq, osq⟩, hw''⟩ := hw'
  subst hw''
  have hbR := below_regrown w3 dq osq
  refine at_world (fun u => Below W.heap.size W u) (HB3.out.trans (hbR.mono HB3.out.size)) ?_
  clear hbR q0 q1 q2 q3 q4 q5 q6 e0 e1 ck
  rintro w4 hB4
  have HB4 := hid hB4
  clear hB4 HB3 HQ3 HCK2
  by_cases h0 : ck3 = 0
  · have hd : (ck3 == 0) = true := by simpa using h0
    have hRR : R = true := by rw [HR.out]; simpa using h0
    clear HR
    subst hRR
    go_wp2
    go_ret
    exact ⟨rfl, HB4.out⟩
  · have hd : (ck3 == 0) = false := by simpa using h0
    have hRR : R = false := by rw [HR.out]; simpa using h0
    clear HR
    subst hRR
    go_wp2
    go_ret
    exact ⟨rfl, HB4.out⟩
end Go.Proofs.YthohedadmfbahaaDoor
