/- AnnalAgain: the law. -/
import Derived.Test.YtkepfkfoblocgaaAnnE
import Derived.Test.YtkepfkfoblocgaaRlong
import Derived.Test.YtkepfkfoblocgaaRsame
import Derived.Test.YtkepfkfoblocgaaRecF
import Derived.Deep.RegionHeld3
namespace Go.Proofs.Ytkepfkfoblocgaa
open Go.RowKit Go.Sort
set_option linter.unusedVariables false
set_option linter.unusedSimpArgs false
theorem slice_to12 {W : World} {a : Option Addr} {cap n : Nat} {l : List UInt8} (h : IsBytes W a n cap l) (g : Nat) (hg : g ≤ n) :
    (∀ w : World, (Instr.slice 24 (.slice a n cap) none (some (.int .i64 (g : Int))) none).run Try.prog w = .ok (.slice a g cap) w) ∧ IsBytes W a g cap (l.take g) := by
  obtain ⟨rfl, hlc, hcm⟩ := h.len
  refine ⟨run_to Try.underlying24 info_u8 a l.length cap g (by omega), ?_⟩
  exact h.take g hg
theorem dk_fresh (b : List UInt8) (h : b.length ≤ 65536) : apE 65536 [] b false = 0 ∧ apL 65536 [] b false 0 = b ∧ apA 65536 [] b false = false := by
  have h1 : ¬ (65536 < ([] : List UInt8).length + b.length) := by simp; omega
  exact ⟨by rw [apE, if_neg h1]; rfl, by rw [apL, if_neg h1]; rfl, by rw [apA, if_neg h1]⟩
theorem dk_app (l1 : List UInt8) (x : Rc) (hx : chkR x = true) (h : l1.length ≤ 2000) : anE 65536 l1 false false x = 0 ∧ anB 65536 l1 false 0 false x = l1 ++ fR x ∧ anA 65536 l1 false false x = false := by
  have h1 : ¬ chkR x = false := by rw [hx]; simp
  have h2 := fR_len x
  have h3 : ¬ (65536 < l1.length + (fR x).length) := by omega
  refine ⟨?_, ?_, ?_⟩
  · rw [anE, if_neg h1]
    show apE 65536 l1 (fR x) false = 0
    rw [apE, if_neg h3]; rfl
  · rw [anB, if_neg h1]
    show apL 65536 l1 (fR x) false 0 = _
    rw [apL, if_neg h3]; rfl
  · rw [anA, if_neg h1]
    show apA 65536 l1 (fR x) false = false
    rw [apA, if_neg h3]
theorem dk_bad (l1 : List UInt8) (x : Rc) (hx : chkR x = false) : anE 65536 l1 false false x = 1 ∧ anB 65536 l1 false 0 false x = l1 ∧ anA 65536 l1 false false x = false :=
  ⟨if_pos hx, if_pos hx, if_pos hx⟩
theorem els_ns2 {els : List El} {M : List Rc} (h : els.map (·.1) = M) (hM : ∀ y ∈ M, y.ns.length ≤ 100000) : ∀ e ∈ els, e.1.ns.length ≤ 100000 := fun e he => hM e.1 (by rw [← h]; exact List.mem_map_of_mem he)
theorem RowR.later {w w' : World} {B : Nat} {v : Value} {els : List El} (h : RowR w B v els) (hb : ∀ g o, B ≤ g → w.heap[g]? = some o → w'.heap[g]? = some o) : RowR w' B v els := ⟨own_block h.1 hb, fun e he => ⟨own_block (h.2 e he).1 hb, (h.2 e he).2⟩⟩
theorem map_len {els : List El} {L : List Rc} (h : els.map (·.1) = L) : els.length = L.length := by rw [← h, List.length_map]
theorem InR.snoc {w : World} {A : Option Addr} {c : Nat} {els : List El} {x : Rc} {Ax : Option Addr} {cx B : Nat} (ho : w.ownsRow B 45 7 (.slice A (els.length + 1) c) (els.length + 1) (ecells els ++ (rcc x Ax cx).toList)) (he : ∀ e ∈ els, TxAt w e.2.1 e.2.2 e.1.ns) (hx : TxAt w Ax cx x.ns) : InR w A c (els ++ [(x, Ax, cx)]) := by
  refine ⟨?_, fun e h => ?_⟩
  · have h1 := sl_own ho
    rw [← ecells_snoc els (x, Ax, cx)] at h1
    rw [List.length_append]
    exact h1
  · rcases List.mem_append.1 h with h | h
    · exact he e h
    · obtain rfl : e = (x, Ax, cx) := by simpa using h
      exact hx

set_option maxRecDepth 20000 in
set_option maxHeartbeats 8000000 in
theorem annalAgain_law (A : Option Addr) (cap : Nat) (b : List UInt8) (x : Rc) (Ax : Option Addr) (cx : Nat) (W : World) (hb : IsBytes W A b.length cap b) (hx : TxAt W Ax cx x.ns) :
    Calls Try.prog 9 #[.slice A b.length cap, .agg (rcc x Ax cx)] W fun e w' => e = .returned (.bool true) ∧ Below W.heap.size W w' := by
  have HK := hid (fun w => works19_any w)
  have HLO := hid (fun w (hw : Below W.heap.size W w) => r17long_any x Ax cx w (hx.below hw))
  have HCK := hid (fun w (hw : Below W.heap.size W w) => rcheck_any x Ax cx w (hx.below hw))
  obtain ⟨_, hbc, hcm⟩ := hb.len
  have hbl : b.length ≤ 9223372036854775807 := by unfold maxLen at hcm; omega
  have HBB := hid hb
  have HXT := hid hx
  clear hb hx hbc hcm
  generalize hLB : longB x.ns 20 300 = lb at *
  generalize hCB : chkR x = cb at *
  have HCB := hid hCB
  clear hLB hCB
  obtain ⟨k, j, t, wk, s, ep, ns⟩ := x
  simp only [rcc] at HLO HCK
  simp only [rcc]
  go_enter Try.func9, Try.ntmps9
  go_upto_region 1 with (fail)
  refine at_world (fun u => u.heap[W.heap.size]? = some (.cells #[.int .i64 k, .int .i64 j, .int .i64 t, .int .i64 wk, .int .i64 s, .int .i64 ep, .slice Ax ns.length cx] 45 (0, 0)) ∧ Below W.heap.size W u) ⟨heap_alloc_new _ _, (Below.refl _ _).alloc (Nat.le_refl _) _⟩ ?_
  rintro w1 ⟨hx1, hb1⟩
  obtain ⟨p0, p1, p2, p3, p4, p5, p6⟩ := seven_cells hx1
  have HX1 := hid hx1
  have HB1 := hid hb1
  clear hx1 hb1
  rcases Nat.lt_or_ge 2000 b.length with hbig | hsm
  case inl =>
    have hbig2 : (2000 : Int) < (b.length : Int) := by omega
    have dbig : decide ((2000 : Int) < (b.length : Int)) = true := decide_eq_true hbig2
    go_wp2_with fail
    refine (HK.out _).mono ?_
    rintro e w2 ⟨rfl, hb2⟩
    have HB9 := hid (HB1.out.trans (hb2.mono HB1.out.size))
    clear hb2
    go_wp2
    go_ret
    exact ⟨rfl, HB9.out⟩
  have hsm2 : ¬ (2000 : Int) < (b.length : Int) := by omega
  have dsm : decide ((2000 : Int) < (b.length : Int)) = false := decide_eq_false hsm2
  go_wp2_with fail
  refine (HLO.out w1 HB1.out).mono ?_
  rintro e w2 ⟨rfl, hb2⟩
  have HB2 := hid (HB1.out.trans (hb2.mono HB1.out.size))
  have HX2 := hid (keep0 HX1.out hb2)
  clear hb2 HB1 HX1 HLO p0 p1 p2 p3 p4 p5 p6
  cases lb
  case true =>
    go_wp2_with fail
    refine (HK.out _).mono ?_
    rintro e w2 ⟨rfl, hb2⟩
    have HB9 := hid (HB2.out.trans (hb2.mono HB2.out.size))
    clear hb2
    go_wp2
    go_ret
    exact ⟨rfl, HB9.out⟩
  clear hsm2 dsm
  have hRle := recS_le b.length b (Nat.le_refl _)
  have HPRE := hid (recS_pre b)
  have HPL := hid (recS_len2 b)
  have HAPP := hid (recS_app b ⟨k, j, t, wk, s, ep, ns⟩)
  have HNL := hid (recS_ns b)
  have HEN := hid (fun (els : List El) (h : els.map (·.1) = (recS b).1) => And.intro (els_ns h) (els_len h))
  have HFI := hid (dk_fresh b (by omega))
  have HN := hid (fun w => dnew_in 65536 (by decide) w)
  have HDA := hid (fun D w (hd : DiskAt w D 65536 [] false 0) (hbb : IsBytes w A b.length cap b) => dappend_any D 65536 [] b false 0 A cap w hd hbb (by decide) (by decide) (by omega))
  rw [HFI.out.1, HFI.out.2.1, HFI.out.2.2] at HDA
  have HO1 := hid (fun D w (h : DiskAt w D 65536 b false 0) => aopen_any w h (by omega))
  have HSL := hid (slice_to12 HBB.out (recS b).2 hRle.1)
  have HCV := hid (fun w (hw : Below W.heap.size W w) => convSK ((slice_to12 HBB.out (recS b).2 hRle.1).2.below hw))
  generalize recS b = rs at *
  obtain ⟨L, g⟩ := rs
  simp only at HPRE HPL HAPP HEN HO1 HSL HCV hRle HNL
  have HO2 := hid (fun D w (h : DiskAt w D 65536 (b.take g) false 0) => aopen_any w h (by rw [HPL.out]; omega))
  rw [HPRE.out] at HO2
  simp only [List.take_take, Nat.min_self] at HO2
  generalize hL1 : b.take g = l1 at *
  clear hL1
  have hgl : g ≤ b.length := hRle.1
  have hg2 : g ≤ 2000 := by omega
  have hLg : L.length ≤ 2000 := by have := hRle.2; omega
  clear hRle HFI
  rw [show ((65536 : Nat) : Int) = 65536 from rfl] at HN
  go_wp2_with fail
  refine (HN.out _).mono ?_
  rintro e w3 ⟨rfl, hd3, hb3⟩
  have HB3 := hid (HB2.out.trans (hb3.mono HB2.out.size))
  have HX3 := hid (keep0 HX2.out hb3)
  have HD3 := hid hd3
  have hWD : W.heap.size ≤ w2.heap.size := HB2.out.size
  have hDl := hd3.lt
  have hXD : W.heap.size ≠ w2.heap.size := by have := lt_of_block HX2.out; omega
  generalize w2.heap.size = D at *
  clear hd3 hb3 HN HB2 HX2
  go_wp2_with fail
  refine (HDA.out D w3 HD3.out (HBB.out.below HB3.out)).mono ?_
  rintro e w4 ⟨rfl, hd4, ho4⟩
  have HD4 := hid hd4
  have HB4 := hid (HB3.out.trans (ho4.below W.heap.size hWD HB3.out.size))
  have HX4 := hid (ho4.block HX3.out hXD)
  have hs4 := ho4.size
  clear hd4 ho4 HDA HB3 HX3 HD3
  go_wp2_with fail
  refine (HO1.out D w4 HD4.out).mono ?_
  rintro e w5 ⟨A5, c5, els5, rfl, he5, ha5, ho5⟩
  have HB5 := hid (HB4.out.trans (ho5.below W.heap.size hWD HB4.out.size))
  have HX5 := hid (ho5.block HX4.out hXD)
  have HA5 := hid ha5
  have hn5 := HEN.out els5 he5
  have hs5 := ho5.size
  have hG5 := HB4.out.size
  clear ha5 ho5 HO1 HD4 HB4 HX4
  generalize w4.heap.size = G5 at *
  go_wp2_with fail
  refine (arecords_any w5 HA5.out (by have := hn5.2; omega) hn5.1).mono ?_
  rintro e w6 ⟨A6, c6, els6, rfl, he6, hr6, hb6⟩
  have HE6 := hid (he6.trans he5)
  have HLL6 := hid (map_len (he6.trans he5))
  have HB6 := hid (HB5.out.trans (hb6.mono HB5.out.size))
  have HX6 := hid (keep0 HX5.out hb6)
  have HD6 := hid (HA5.out.2.1.below hb6)
  have HR6 := hid hr6
  have hB6 := HB5.out.size
  have hs6 := hb6.size
  clear hr6 hb6 HA5 HB5 HX5 hn5 he5 he6
  generalize w5.heap.size = B6 at *
  go_wp2_with fail
  refine (dsize_any D 65536 l1 false 0 w6 HD6.out).mono ?_
  rintro e w7 ⟨rfl, rfl⟩
  rw [HPL.out]
  go_wp2_with fail
  refine (HO2.out D w6 HD6.out).mono ?_
  rintro e w7 ⟨A7, c7, els7, rfl, he7, ha7, ho7⟩
  have HB7 := hid (HB6.out.trans (ho7.below W.heap.size hWD HB6.out.size))
  have HX7 := hid (ho7.block HX6.out hXD)
  have HR7 := hid (HR6.out.only HD6.out ho7)
  have hlt6 := (fun q hq => (own_lt HR6.out.1 q hq).2.1)
  have HA7 := hid ha7
  have hn7 := HEN.out els7 he7
  have HE7 := hid he7
  have HLL7 := hid <| map_len he7
  have hs7 := ho7.size
  have hG7 := HB6.out.size
  have hDG : w6.heap.size ≠ D := by omega
  have HLT6 := hid hlt6
  clear ha7 ho7 HD6 HB6 HX6 HR6 he7 hlt6
  generalize w6.heap.size = G at *
  go_upto_region 8 with (fail)
  have HT := HSL.out.1
  have dgb : ¬ (b.length : Int) < (g : Int) := by omega
  have dgb2 : decide ((b.length : Int) < (g : Int)) = false := decide_eq_false dgb
  have dgb3 : decide (b.length < g) = false := decide_eq_false (by omega)
  have es1 : ((str l1).toList != (str l1).toList) = false := by simp
  have es2 : ((str l1).toList == (str l1).toList) = true := by simp
  have hS : ∀ U, Below w7.heap.size w7 U → Below w7.heap.size w7 U := fun U h => h
  have hu0 : Below w7.heap.size w7 w7.drew := below_drew (Below.refl _ _)
  have HU := hid (fun U (h : Below w7.heap.size w7 U) => HB7.out.trans (h.mono HB7.out.size))
  refine wp_region_held_drew (S := fun U => Below w7.heap.size w7 U) (by kernel_rfl) (hS _ hu0) (fun hHeld => ?_)
  generalize w7.drew = k0 at *
  refine wpAnyH_take (i := 0) (v := ?_) rfl (by kernel_rfl) (by kernel_rfl) (by kernel_rfl) (fun _ _ _ h => h) (Or.inl ⟨by rfl, ?_⟩) (by assumption) ?_
  rotate_left
  focus
    intro U hU
    try dsimp only at hU
    go_simp
    try (with_reducible rfl)
  simp only [List.getElem_toArray, List.getElem_cons_succ, List.getElem_cons_zero, Act.put, List.setIfInBounds_toArray, List.set_cons_zero, List.set_cons_succ]
  refine wpAnyH_take (i := 2) (v := ?_) rfl (by kernel_rfl) (by kernel_rfl) (by kernel_rfl) (fun _ _ _ h => h) (Or.inl ⟨by rfl, ?_⟩) (by assumption) ?_
  rotate_left
  focus
    intro U hU
    try dsimp only at hU
    go_simp
    try (with_reducible rfl)
  simp only [List.getElem_toArray, List.getElem_cons_succ, List.getElem_cons_zero, Act.put, List.setIfInBounds_toArray, List.set_cons_zero, List.set_cons_succ]
  refine wpAnyH_ready (rs := [1]) (by kernel_rfl) (by simp) ?_
  refine AllReadyH.cons rfl (fun K hK => ?_) AllReadyH.nil
  simp only [List.getElem_toArray, List.getElem_cons_succ, List.getElem_cons_zero]
  go_simp
  refine (arecords_any k0 (HA7.out.below hu0) (by have := HLL7.out; omega) hn7.1).mono ?_
  rintro q k1 ⟨A8, c8, els8, rfl, he8, hr8, hb8⟩
  have hu1 : Below w7.heap.size w7 k1 := hu0.trans (hb8.mono hu0.size)
  have HLL8 := hid <| map_len (he8.trans HE7.out)
  clear hb8
  go_wp2_with fail
  refine hK.out _ _ ?_ (fun hHeld2 => ?_)
  focus
    exact hS _ hu1
  clear hHeld
  have hHeld := hHeld2
  clear hHeld2 hK K
  try simp only [List.getElem_toArray, List.getElem_cons_succ, List.getElem_cons_zero, Act.put, List.setIfInBounds_toArray, List.set_cons_zero, List.set_cons_succ]
  refine wpAnyH_ready (rs := [3]) (by kernel_rfl) (by simp) ?_
  refine AllReadyH.cons rfl (fun K hK => ?_) AllReadyH.nil
  simp only [List.getElem_toArray, List.getElem_cons_succ, List.getElem_cons_zero]
  go_simp
  refine (r18same_any A8 A6 c8 c6 els8 els6 k1 hr8.inR (HR7.out.keep hu1).inR ((he8.trans HE7.out).trans HE6.out.symm) (by have := HLL8.out; omega)).mono ?_
  rintro q k2 ⟨rfl, hb8⟩
  have hu2 : Below w7.heap.size w7 k2 := hu1.trans (hb8.mono hu1.size)
  clear hb8 hr8 he8
  go_wp2_with fail
  refine hK.out _ _ ?_ (fun hHeld2 => ?_)
  focus
    exact hS _ hu2
  clear hHeld
  have hHeld := hHeld2
  clear hHeld2 hK K
  try simp only [List.getElem_toArray, List.getElem_cons_succ, List.getElem_cons_zero, Act.put, List.setIfInBounds_toArray, List.set_cons_zero, List.set_cons_succ]
  refine wpAnyH_take (i := 4) (v := ?_) rfl (by kernel_rfl) (by kernel_rfl) (by kernel_rfl) (fun _ _ _ h => h) (Or.inl ⟨by rfl, ?_⟩) (by assumption) ?_
  rotate_left
  focus
    intro U hU
    try dsimp only at hU
    go_simp
    try (with_reducible rfl)
  simp only [List.getElem_toArray, List.getElem_cons_succ, List.getElem_cons_zero, Act.put, List.setIfInBounds_toArray, List.set_cons_zero, List.set_cons_succ]
  refine wpAnyH_take (i := 5) (v := ?_) rfl (by kernel_rfl) (by kernel_rfl) (by kernel_rfl) (fun _ _ _ h => h) (Or.inl ⟨by rfl, ?_⟩) (by assumption) ?_
  rotate_left
  focus
    intro U hU
    try dsimp only at hU
    go_simp
    try (with_reducible rfl)
  simp only [List.getElem_toArray, List.getElem_cons_succ, List.getElem_cons_zero, Act.put, List.setIfInBounds_toArray, List.set_cons_zero, List.set_cons_succ]
  refine wpAnyH_take (i := 6) (v := ?_) rfl (by kernel_rfl) (by kernel_rfl) (by kernel_rfl) (fun _ _ _ h => h) (Or.inl ⟨by rfl, ?_⟩) (by assumption) ?_
  rotate_left
  focus
    intro U hU
    try dsimp only at hU
    go_simp
    try (with_reducible rfl)
  simp only [List.getElem_toArray, List.getElem_cons_succ, List.getElem_cons_zero, Act.put, List.setIfInBounds_toArray, List.set_cons_zero, List.set_cons_succ]
  refine wpAnyH_take (i := 8) (v := ?_) rfl (by kernel_rfl) (by kernel_rfl) (by kernel_rfl) (fun _ _ _ h => h) (Or.inl ⟨by rfl, ?_⟩) (by assumption) ?_
  rotate_left
  focus
    intro U hU
    try dsimp only at hU
    go_simp
    try (with_reducible rfl)
  simp only [List.getElem_toArray, List.getElem_cons_succ, List.getElem_cons_zero, Act.put, List.setIfInBounds_toArray, List.set_cons_zero, List.set_cons_succ]
  refine wpAnyH_ready (rs := [7]) (by kernel_rfl) (by simp) ?_
  refine AllReadyH.cons rfl (fun K hK => ?_) AllReadyH.nil
  simp only [List.getElem_toArray, List.getElem_cons_succ, List.getElem_cons_zero]
  go_simp
  refine (dsize_any D 65536 l1 false 0 k2 (HA7.out.2.1.below hu2)).mono ?_
  rintro q k3 ⟨rfl, rfl⟩
  rw [HPL.out]
  go_wp2_with fail
  refine hK.out _ _ ?_ (fun hHeld2 => ?_)
  focus
    exact hS _ hu2
  clear hHeld
  have hHeld := hHeld2
  clear hHeld2 hK K
  try simp only [List.getElem_toArray, List.getElem_cons_succ, List.getElem_cons_zero, Act.put, List.setIfInBounds_toArray, List.set_cons_zero, List.set_cons_succ]
  refine wpAnyH_take (i := 9) (v := ?_) rfl (by kernel_rfl) (by kernel_rfl) (by kernel_rfl) (fun _ _ _ h => h) (Or.inl ⟨by rfl, ?_⟩) (by assumption) ?_
  rotate_left
  focus
    intro U hU
    try dsimp only at hU
    go_simp
    try (with_reducible rfl)
  simp only [List.getElem_toArray, List.getElem_cons_succ, List.getElem_cons_zero, Act.put, List.setIfInBounds_toArray, List.set_cons_zero, List.set_cons_succ]
  refine wpAnyH_take (i := 10) (v := ?_) rfl (by kernel_rfl) (by kernel_rfl) (by kernel_rfl) (fun _ _ _ h => h) (Or.inl ⟨by rfl, ?_⟩) (by assumption) ?_
  rotate_left
  focus
    intro U hU
    try dsimp only at hU
    go_simp
    try (with_reducible rfl)
  simp only [List.getElem_toArray, List.getElem_cons_succ, List.getElem_cons_zero, Act.put, List.setIfInBounds_toArray, List.set_cons_zero, List.set_cons_succ]
  refine wpAnyH_take (i := 11) (v := ?_) rfl (by kernel_rfl) (by kernel_rfl) (by kernel_rfl) (fun _ _ _ h => h) (Or.inl ⟨by rfl, ?_⟩) (by assumption) ?_
  rotate_left
  focus
    intro U hU
    try dsimp only at hU
    go_simp
    try (with_reducible rfl)
  simp only [List.getElem_toArray, List.getElem_cons_succ, List.getElem_cons_zero, Act.put, List.setIfInBounds_toArray, List.set_cons_zero, List.set_cons_succ]
  refine wpAnyH_take (i := 12) (v := ?_) rfl (by kernel_rfl) (by kernel_rfl) (by kernel_rfl) (fun _ _ _ h => h) (Or.inl ⟨by rfl, ?_⟩) (by assumption) ?_
  rotate_left
  focus
    intro U hU
    try dsimp only at hU
    go_simp
    try (with_reducible rfl)
  simp only [List.getElem_toArray, List.getElem_cons_succ, List.getElem_cons_zero, Act.put, List.setIfInBounds_toArray, List.set_cons_zero, List.set_cons_succ]
  refine wpAnyH_take (i := 13) (v := ?_) rfl (by kernel_rfl) (by kernel_rfl) (by kernel_rfl) (fun _ _ _ h => h) (Or.inl ⟨by rfl, ?_⟩) (by assumption) ?_
  rotate_left
  focus
    intro U hU
    try dsimp only at hU
    go_simp
    try (with_reducible rfl)
  simp only [List.getElem_toArray, List.getElem_cons_succ, List.getElem_cons_zero, Act.put, List.setIfInBounds_toArray, List.set_cons_zero, List.set_cons_succ]
  refine wpAnyH_take (i := 14) (v := ?_) rfl (by kernel_rfl) (by kernel_rfl) (by kernel_rfl) (fun _ _ _ h => h) (Or.inl ⟨by rfl, ?_⟩) (by assumption) ?_
  rotate_left
  focus
    intro U hU
    try dsimp only at hU
    go_simp
    try (with_reducible rfl)
  simp only [List.getElem_toArray, List.getElem_cons_succ, List.getElem_cons_zero, Act.put, List.setIfInBounds_toArray, List.set_cons_zero, List.set_cons_succ]
  refine wpAnyH_take (i := 15) (v := ?_) rfl (by kernel_rfl) (by kernel_rfl) (by kernel_rfl) (fun _ _ _ h => h) (Or.inl ⟨by rfl, ?_⟩) (by assumption) ?_
  rotate_left
  focus
    intro U hU
    try dsimp only at hU
    go_simp
    try (with_reducible rfl)
  simp only [List.getElem_toArray, List.getElem_cons_succ, List.getElem_cons_zero, Act.put, List.setIfInBounds_toArray, List.set_cons_zero, List.set_cons_succ]
  refine wpAnyH_take (i := 16) (v := ?_) rfl (by kernel_rfl) (by kernel_rfl) (by kernel_rfl) (fun _ _ _ h => h) (Or.inl ⟨by rfl, ?_⟩) (by assumption) ?_
  rotate_left
  focus
    intro U hU
    try dsimp only at hU
    go_simp
    try (with_reducible rfl)
  simp only [List.getElem_toArray, List.getElem_cons_succ, List.getElem_cons_zero, Act.put, List.setIfInBounds_toArray, List.set_cons_zero, List.set_cons_succ]
  refine wpAnyH_take (i := 17) (v := ?_) rfl (by kernel_rfl) (by kernel_rfl) (by kernel_rfl) (fun _ _ _ h => h) (Or.inl ⟨by rfl, ?_⟩) (by assumption) ?_
  rotate_left
  focus
    intro U hU
    try dsimp only at hU
    go_simp
    try (with_reducible rfl)
  simp only [List.getElem_toArray, List.getElem_cons_succ, List.getElem_cons_zero, Act.put, List.setIfInBounds_toArray, List.set_cons_zero, List.set_cons_succ]
  refine wpAnyH_take (i := 18) (v := ?_) rfl (by kernel_rfl) (by kernel_rfl) (by kernel_rfl) (fun _ _ _ h => h) (Or.inl ⟨by rfl, ?_⟩) (by assumption) ?_
  rotate_left
  focus
    intro U hU
    try dsimp only at hU
    go_simp
    try (with_reducible rfl)
  simp only [List.getElem_toArray, List.getElem_cons_succ, List.getElem_cons_zero, Act.put, List.setIfInBounds_toArray, List.set_cons_zero, List.set_cons_succ]
  refine wpAnyH_take (i := 21) (v := ?_) rfl (by kernel_rfl) (by kernel_rfl) (by kernel_rfl) (fun _ _ _ h => h) (Or.inl ⟨by rfl, ?_⟩) (by assumption) ?_
  rotate_left
  focus
    intro U hU
    try dsimp only at hU
    go_simp
    try (with_reducible rfl)
  simp only [List.getElem_toArray, List.getElem_cons_succ, List.getElem_cons_zero, Act.put, List.setIfInBounds_toArray, List.set_cons_zero, List.set_cons_succ]
  refine wpAnyH_take (i := 22) (v := ?_) rfl (by kernel_rfl) (by kernel_rfl) (by kernel_rfl) (fun _ _ _ h => h) (Or.inl ⟨by rfl, ?_⟩) (by assumption) ?_
  rotate_left
  focus
    intro U hU
    try dsimp only at hU
    go_simp
    try (with_reducible rfl)
  simp only [List.getElem_toArray, List.getElem_cons_succ, List.getElem_cons_zero, Act.put, List.setIfInBounds_toArray, List.set_cons_zero, List.set_cons_succ]
  refine wpAnyH_take (i := 23) (v := ?_) rfl (by kernel_rfl) (by kernel_rfl) (by kernel_rfl) (fun _ _ _ h => h) (Or.inl ⟨by rfl, ?_⟩) (by assumption) ?_
  rotate_left
  focus
    intro U hU
    try dsimp only at hU
    go_simp
    try (with_reducible rfl)
  simp only [List.getElem_toArray, List.getElem_cons_succ, List.getElem_cons_zero, Act.put, List.setIfInBounds_toArray, List.set_cons_zero, List.set_cons_succ]
  refine wpAnyH_take (i := 24) (v := ?_) rfl (by kernel_rfl) (by kernel_rfl) (by kernel_rfl) (fun _ _ _ h => h) (Or.inl ⟨by rfl, ?_⟩) (by assumption) ?_
  rotate_left
  focus
    intro U hU
    try dsimp only at hU
    have hcvb := HCV.out U (HU.out U hU)
    go_simp
    try (with_reducible rfl)
  simp only [List.getElem_toArray, List.getElem_cons_succ, List.getElem_cons_zero, Act.put, List.setIfInBounds_toArray, List.set_cons_zero, List.set_cons_succ]
  refine wpAnyH_ready (rs := [19]) (by kernel_rfl) (by simp) ?_
  refine AllReadyH.cons rfl (fun K hK => ?_) AllReadyH.nil
  simp only [List.getElem_toArray, List.getElem_cons_succ, List.getElem_cons_zero]
  go_simp
  refine (dbytes_any D 65536 l1 false 0 k2 (HA7.out.2.1.below hu2) (by rw [HPL.out]; omega)).mono ?_
  rintro q k4 ⟨A10, c10, rfl, hby, hb8⟩
  have hu4 : Below w7.heap.size w7 k4 := hu2.trans (hb8.mono hu2.size)
  have hcv := convSK hby
  rw [HPL.out] at hcv
  clear hb8 hby
  rw [HPL.out]
  go_wp2_with fail
  refine hK.out _ _ ?_ (fun hHeld2 => ?_)
  focus
    exact hS _ hu4
  clear hHeld
  have hHeld := hHeld2
  clear hHeld2 hK K
  try simp only [List.getElem_toArray, List.getElem_cons_succ, List.getElem_cons_zero, Act.put, List.setIfInBounds_toArray, List.set_cons_zero, List.set_cons_succ]
  refine wpAnyH_ready (rs := [20]) (by kernel_rfl) (by simp) ?_
  refine AllReadyH.cons rfl (fun K hK => ?_) AllReadyH.nil
  simp only [List.getElem_toArray, List.getElem_cons_succ, List.getElem_cons_zero]
  go_simp
  refine hK.out _ _ ?_ (fun hHeld2 => ?_)
  focus
    exact hS _ hu4
  clear hHeld
  have hHeld := hHeld2
  clear hHeld2 hK K
  try simp only [List.getElem_toArray, List.getElem_cons_succ, List.getElem_cons_zero, Act.put, List.setIfInBounds_toArray, List.set_cons_zero, List.set_cons_succ]
  refine wpAnyH_take (i := 25) (v := ?_) rfl (by kernel_rfl) (by kernel_rfl) (by kernel_rfl) (fun _ _ _ h => h) (Or.inl ⟨by rfl, ?_⟩) (by assumption) ?_
  rotate_left
  focus
    intro U hU
    try dsimp only at hU
    go_simp
    try (with_reducible rfl)
  simp only [List.getElem_toArray, List.getElem_cons_succ, List.getElem_cons_zero, Act.put, List.setIfInBounds_toArray, List.set_cons_zero, List.set_cons_succ]
  refine wpAnyH_take (i := 26) (v := ?_) rfl (by kernel_rfl) (by kernel_rfl) (by kernel_rfl) (fun _ _ _ h => h) (Or.inl ⟨by rfl, ?_⟩) (by assumption) ?_
  rotate_left
  focus
    intro U hU
    try dsimp only at hU
    go_simp
    try (with_reducible rfl)
  simp only [List.getElem_toArray, List.getElem_cons_succ, List.getElem_cons_zero, Act.put, List.setIfInBounds_toArray, List.set_cons_zero, List.set_cons_succ]
  refine wpAnyH_done (by kernel_rfl) ?_ _
  have HU4 := hid hu4
  clear hHeld hcv hS hu0 hu1 hu2 hu4 HT dgb dgb2 dgb3 es1 es2 HSL HCV HU
  go_upto_region 10 with (fail)
  have HB8 := hid (HB7.out.trans (HU4.out.mono HB7.out.size))
  have HX8 := hid (keep0 HX7.out HU4.out)
  have HA8 := hid (HA7.out.below HU4.out)
  have HR8 := hid (HR7.out.keep HU4.out)
  have hs8 := HU4.out.size
  clear HB7 HX7 HA7 HR7 HU4
  refine at_world (fun u => u = k4) rfl ?_
  rintro v8 rfl
  have hGv : G ≤ v8.heap.size := by omega
  have HAP := hid (aappend_any ⟨k, j, t, wk, s, ep, ns⟩ Ax cx v8 HA8.out (HXT.out.below HB8.out) hGv hDG (by decide) (by rw [HPL.out]; omega) (by have := HLL7.out; omega))
  have HSEP := hid (fun q hq => own_sep HR8.out.1 HLT6.out HA8.out.2.2.1 q hq)
  obtain ⟨p0, p1, p2, p3, p4, p5, p6⟩ := seven_cells HX8.out
  cases cb
  case false =>
    unfold AppR at HAP
    simp only [(dk_bad l1 ⟨k, j, t, wk, s, ep, ns⟩ HCB.out).1, (dk_bad l1 ⟨k, j, t, wk, s, ep, ns⟩ HCB.out).2.1, (dk_bad l1 ⟨k, j, t, wk, s, ep, ns⟩ HCB.out).2.2] at HAP
    simp only [rcc] at HAP
    go_wp2_with fail
    refine HAP.out.mono ?_
    rintro e v9 ⟨rfl, A9, c9, els9, hm9, ha9, ht9, _⟩
    have HD9 := hid ha9.2.1
    have HR9 := hid (HR8.out.append HA8.out HSEP.out ht9)
    have HB9 := hid (HB8.out.trans (ht9.below W.heap.size (fun q hq _ => by
      rcases hq with h1 | h1 | h1
      · omega
      · omega
      · have := (own_lt HA8.out.2.2.1 q h1).1
        omega) HB8.out.size))
    have HX9 := hid (ht9.block HX8.out (fun hq => by
      rcases hq with h1 | h1 | h1
      · exact hXD h1
      · omega
      · have := (own_lt HA8.out.2.2.1 _ h1).1
        omega))
    have hs9 := ht9.size
    clear hm9 ha9 ht9 HAP HA8 HB8 HX8 HR8 p0 p1 p2 p3 p4 p5 p6
    go_wp2_with fail
    refine (HO2.out D v9 HD9.out).mono ?_
    rintro e v10 ⟨A10, c10, els10, rfl, he10, ha10, ho10⟩
    have HB10 := hid (HB9.out.trans (ho10.below W.heap.size hWD HB9.out.size))
    have HX10 := hid (ho10.block HX9.out hXD)
    have HR10 := hid (HR9.out.only HD9.out ho10)
    have HM10 := hid he10
    have HA10 := hid ha10
    have hs10 := ho10.size
    have hn10 := (HEN.out els10 he10).1
    have HLL10 := hid <| map_len he10
    clear ha10 ho10 HD9 HB9 HX9 HR9 he10
    go_wp2_with fail
    refine (arecords_any v10 HA10.out (by have := HLL10.out; omega) hn10).mono ?_
    rintro e v11 ⟨A11, c11, els11, rfl, he11, hr11, hb11⟩
    have HM11 := hid (he11.trans HM10.out)
    have HLL11 := hid <| map_len (he11.trans HM10.out)
    have HN11 := hid hr11
    have HB11 := hid (HB10.out.trans (hb11.mono HB10.out.size))
    have HX11 := hid (keep0 HX10.out hb11)
    have HR11 := hid (HR10.out.keep hb11)
    have hB11 := HB10.out.size
    have hs11 := hb11.size
    clear hr11 hb11 HA10 HB10 HX10 HR10 he11 hn10
    generalize v10.heap.size = B11 at *
    obtain ⟨p0, p1, p2, p3, p4, p5, p6⟩ := seven_cells HX11.out
    go_wp2_with fail
    refine (HCK.out v11 HB11.out).mono ?_
    rintro e v12 ⟨rfl, hb12⟩
    have HB12 := hid (HB11.out.trans (hb12.mono HB11.out.size))
    have HR12 := hid (HR11.out.keep hb12)
    have HN12 := hid (HN11.out.keep hb12)
    clear hb12 HB11 HR11 HN11 HX11 HCK p0 p1 p2 p3 p4 p5 p6
    go_wp2_with fail
    refine (r18same_any A11 A6 c11 c6 els11 els6 v12 HN12.out.inR HR12.out.inR (HM11.out.trans HE6.out.symm) (by have := HLL11.out; omega)).mono ?_
    rintro e v13 ⟨rfl, hb13⟩
    have HB13 := hid (HB12.out.trans (hb13.mono HB12.out.size))
    clear hb13 HB12 HR12 HN12
    go_wp2_with fail
    refine (HK.out v13).mono ?_
    rintro e v14 ⟨rfl, hb14⟩
    have HB14 := hid (HB13.out.trans (hb14.mono HB13.out.size))
    clear hb14
    go_wp2
    go_ret
    exact ⟨rfl, HB14.out⟩
  case true =>
    have HRA := hid (HAPP.out HCB.out)
    have hlx : (l1 ++ fR ⟨k, j, t, wk, s, ep, ns⟩).length ≤ 100000 := by
      have h9 := fR_len ⟨k, j, t, wk, s, ep, ns⟩
      rw [List.length_append, HPL.out]
      omega
    unfold AppR at HAP
    simp only [(dk_app l1 ⟨k, j, t, wk, s, ep, ns⟩ HCB.out (by rw [HPL.out]; exact hg2)).1, (dk_app l1 ⟨k, j, t, wk, s, ep, ns⟩ HCB.out (by rw [HPL.out]; exact hg2)).2.1, (dk_app l1 ⟨k, j, t, wk, s, ep, ns⟩ HCB.out (by rw [HPL.out]; exact hg2)).2.2] at HAP
    simp only [rcc] at HAP
    have HEN2 : Hid (∀ y ∈ L ++ [Rc.mk k j t wk s ep ns], y.ns.length ≤ 100000) := hid (fun y hy => by
      rcases List.mem_append.1 hy with hy | hy
      · have h9 := HNL.out y hy
        omega
      · obtain rfl : y = Rc.mk k j t wk s ep ns := by simpa using hy
        exact Nat.le_trans (chkR_ns HCB.out).1 (by omega))
    have HO3 := hid (fun D w (h : DiskAt w D 65536 (l1 ++ fR ⟨k, j, t, wk, s, ep, ns⟩) false 0) => aopen_any w h hlx)
    rw [HRA.out] at HO3
    generalize l1 ++ fR ⟨k, j, t, wk, s, ep, ns⟩ = l3 at *
    go_wp2_with fail
    refine HAP.out.mono ?_
    rintro e v9 ⟨rfl, A9, c9, els9, hm9, ha9, ht9, _⟩
    have HD9 := hid ha9.2.1
    have HR9 := hid (HR8.out.append HA8.out HSEP.out ht9)
    have HB9 := hid (HB8.out.trans (ht9.below W.heap.size (fun q hq _ => by
      rcases hq with h1 | h1 | h1
      · omega
      · omega
      · have := (own_lt HA8.out.2.2.1 q h1).1
        omega) HB8.out.size))
    have HX9 := hid (ht9.block HX8.out (fun hq => by
      rcases hq with h1 | h1 | h1
      · exact hXD h1
      · omega
      · have := (own_lt HA8.out.2.2.1 _ h1).1
        omega))
    have hs9 := ht9.size
    clear hm9 ha9 ht9 HAP HA8 HB8 HX8 HR8 p0 p1 p2 p3 p4 p5 p6
    go_wp2_with fail
    refine (HO3.out D v9 HD9.out).mono ?_
    rintro e v10 ⟨A10, c10, els10, rfl, he10, ha10, ho10⟩
    have HB10 := hid (HB9.out.trans (ho10.below W.heap.size hWD HB9.out.size))
    have HX10 := hid (ho10.block HX9.out hXD)
    have HR10 := hid (HR9.out.only HD9.out ho10)
    have HM10 := hid he10
    have HA10 := hid ha10
    have hs10 := ho10.size
    have hn10 := els_ns2 he10 HEN2.out
    have HLL10 := hid <| map_len he10
    rw [List.length_append, List.length_singleton] at HLL10
    clear ha10 ho10 HD9 HB9 HX9 HR9 he10
    go_wp2_with fail
    refine (arecords_any v10 HA10.out (by have := HLL10.out; omega) hn10).mono ?_
    rintro e v11 ⟨A11, c11, els11, rfl, he11, hr11, hb11⟩
    have HM11 := hid (he11.trans HM10.out)
    have HLL11 := hid <| map_len (he11.trans HM10.out)
    rw [List.length_append, List.length_singleton] at HLL11
    have HN11 := hid hr11
    have HB11 := hid (HB10.out.trans (hb11.mono HB10.out.size))
    have HX11 := hid (keep0 HX10.out hb11)
    have HR11 := hid (HR10.out.keep hb11)
    have hB11 := HB10.out.size
    have hs11 := hb11.size
    clear hr11 hb11 HA10 HB10 HX10 HR10 he11 hn10
    generalize v10.heap.size = B11 at *
    obtain ⟨p0, p1, p2, p3, p4, p5, p6⟩ := seven_cells HX11.out
    go_wp2_with fail
    refine (HCK.out v11 HB11.out).mono ?_
    rintro e v12 ⟨rfl, hb12⟩
    have HB12 := hid (HB11.out.trans (hb12.mono HB11.out.size))
    have HR12 := hid (HR11.out.keep hb12)
    have HN12 := hid (HN11.out.keep hb12)
    have HX12 := hid (keep0 HX11.out hb12)
    clear hb12 HB11 HR11 HN11 HX11 HCK p0 p1 p2 p3 p4 p5 p6
    obtain ⟨p0, p1, p2, p3, p4, p5, p6⟩ := seven_cells HX12.out
    go_upto_region 14 with (fail)
    go_wp2_with (at_builtin; refine wpList_append_1k (W := v12) rfl (.tmp 76) (.tmp 78) 57 rfl W.heap.size 45 Try.underlying57 info_rec rfl (by omega) rfl (own_mono HR12.out.1 (show W.heap.size ≤ B6 by omega)) rfl (by rfl) (by simp [Value.oneCell']) ?c1 ?c2 HB12.out.size (Below.refl _ _) ?_)
    case c1 => have := HLL6.out; unfold maxLen; omega
    case c2 => have := HLL6.out; omega
    intro v5 v13 ho13 hb13 _ hk13
    obtain ⟨A13, c13, rfl, _⟩ := Sl.of_own ho13
    have HB13 := hid (HB12.out.trans hb13)
    have HM13 : Hid ((els6 ++ [(Rc.mk k j t wk s ep ns, Ax, cx)]).map (·.1) = L ++ [Rc.mk k j t wk s ep ns]) := hid (by rw [List.map_append, HE6.out]; rfl)
    have HI13 : Hid (InR v13 A13 c13 (els6 ++ [(Rc.mk k j t wk s ep ns, Ax, cx)])) := hid (InR.snoc (by simpa [rcc] using ho13) (fun e he => OwnS.tx (B := W.heap.size) ⟨own_other (own_mono (HR12.out.2 e he).1 (show W.heap.size ≤ B6 by omega)) (own_mono HR12.out.1 (show W.heap.size ≤ B6 by omega)) (by decide) hk13, (HR12.out.2 e he).2⟩) (HXT.out.below HB13.out))
    have HN13 : Hid (RowR v13 B11 (.slice A11 els11.length c11) els11) := hid (HN12.out.later fun q o hq ho => (hk13 q (by omega) (lt_of_block ho) (fun h9 => by have := HLT6.out q h9; omega)).trans ho)
    have HS13 := hid (r18same_any A11 A13 c11 c13 els11 (els6 ++ [(Rc.mk k j t wk s ep ns, Ax, cx)]) v13 HN13.out.inR HI13.out (HM11.out.trans HM13.out.symm) (by have := HLL11.out; omega))
    rw [show (els6 ++ [(Rc.mk k j t wk s ep ns, Ax, cx)]).length = els6.length + 1 by rw [List.length_append]; rfl] at HS13
    clear ho13 hb13 hk13 HB12 HR12 HN12 HX12 HI13 HN13 p0 p1 p2 p3 p4 p5 p6
    go_wp2_with fail
    refine HS13.out.mono ?_
    rintro e v14 ⟨rfl, hb14⟩
    have HB14 := hid (HB13.out.trans (hb14.mono HB13.out.size))
    clear hb14 HB13 HS13
    go_wp2_with fail
    refine (HK.out v14).mono ?_
    rintro e v15 ⟨rfl, hb15⟩
    have HB15 := hid (HB14.out.trans (hb15.mono HB14.out.size))
    clear hb15
    go_wp2
    go_ret
    exact ⟨rfl, HB15.out⟩
theorem annalAgain_rd (Ab : Option Addr) (len cap : Nat) (b : List UInt8) (a : Array Value) (w : World) (hb : IsBytes w Ab len cap b) (hn : a.size = 7) (h : Rd Try.prog w 45 a.toList) :
    Calls Try.prog 9 #[.slice Ab len cap, .agg a] w fun e w' => e = .returned (.bool true) ∧ RowKit.Below w.heap.size w w' := by
  obtain ⟨x, A, c, rfl, hx⟩ := rd_rec hn h
  obtain ⟨rfl, _⟩ := hb.len
  exact annalAgain_law Ab cap b x A c w hb hx
end Go.Proofs.Ytkepfkfoblocgaa
