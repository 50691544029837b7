/- does, with a packet under way: contract. -/
import Derived.Test.YtdekemlckpbbcaaLnkS
import Derived.BigQuiet
namespace Go.Proofs.Ytdekemlckpbbcaa
open Go.RowKit Go.Sort
set_option linter.unusedVariables false
set_option linter.unusedSimpArgs false

theorem act_cells {w : World} {b t : Nat} {x0 x1 : Value} (h : w.heap[b]? = some (.cells #[x0, x1] t (0, 0))) : w.cell? ⟨b, 0, none⟩ = some x0 ∧ w.cell? ⟨b, 1, none⟩ = some x1 :=
  ⟨by rw [cell_of_row w b 0 _ _ _ h]; rfl, by rw [cell_of_row w b 1 _ _ _ h]; rfl⟩
theorem PX.setWay {W u : World} {g : Nat} {x : Pr} {A : Option Addr} {ca : Nat} {B : Option Addr} {cb : Nat} {D : Option Addr} {cd : Nat} (h : PX W u g x A ca B cb D cd) {l : List Pk} {n : Nat} {D' : Option Addr} {cd' : Nat} (hn : n = l.length)
    (h2 : Mid u W.heap.size 71 7 (.slice D' n cd') n (gcells pkc l)) : PX W (u.setCell ⟨g, 22, none⟩ (.slice D' n cd')) g (setW x l) A ca B cb D' cd' := by
  subst hn
  obtain ⟨hg, hW, ha, hb, hw, hbl⟩ := h
  exact ⟨by rw [heap_setCell_same u g 22 _ _ _ hg]; rfl, hW, own_at ha hg (by decide) fun j hj => Below.heap_setCell _ _ _ _ hj, own_at hb hg (by decide) fun j hj => Below.heap_setCell _ _ _ _ hj, mid_at (e := 71) h2 hg (by decide) fun j hj => Below.heap_setCell _ _ _ _ hj, hbl.setCell (p := ⟨g, 22, none⟩) hW _⟩
/-- An unsigned number's remainder as an index. -/
theorem idx_any (n : Int) (l : Nat) (h0 : 0 < l) (hl : l ≤ 100000) : ∃ k : Nat, k < l ∧ wrap64 ((IntKind.u64.wrap n).tmod (l : Int)) = (k : Int) := by
  have h1 : 0 ≤ IntKind.u64.wrap n := by
    simp only [IntKind.wrap, IntKind.bits, IntKind.signed]
    simp
    omega
  obtain ⟨m, hm⟩ := Int.eq_ofNat_of_zero_le h1
  rw [hm]
  have h2 : ((m : Int)).tmod (l : Int) = ((m % l : Nat) : Int) := rfl
  rw [h2]
  have h3 := Nat.mod_lt m h0
  refine ⟨m % l, h3, ?_⟩
  generalize m % l = r at *
  unfold wrap64
  omega
theorem gcells_take {l : List Pk} (k : Nat) : (gcells pkc l).take (k * 7) = gcells pkc (l.take k) := by
  induction l generalizing k with
  | nil => simp [gcells]
  | cons x l ih =>
    cases k with
    | zero => simp [gcells]
    | succ k =>
      rw [List.take_succ_cons, gcells_cons, gcells_cons, ← ih, List.take_append, pkc_len]
      rw [show (k + 1) * 7 - 7 = k * 7 by omega, List.take_of_length_le (by rw [pkc_len]; omega)]
theorem gcells_drop {l : List Pk} (k : Nat) : (gcells pkc l).drop (k * 7) = gcells pkc (l.drop k) := by
  induction l generalizing k with
  | nil => simp [gcells]
  | cons x l ih =>
    cases k with
    | zero => simp
    | succ k =>
      rw [List.drop_succ_cons, gcells_cons, ← ih, List.drop_append, pkc_len]
      rw [show (k + 1) * 7 - 7 = k * 7 by omega, List.drop_of_length_le (by rw [pkc_len]; omega), List.nil_append]

set_option maxRecDepth 20000 in
set_option maxHeartbeats 8000000 in
theorem doesL_any {N M : Nat} {a b : Sd} {w : List Pk} (hI : InvS N M a b w) (hN : N ≤ 1000) (hM : M ≤ 10000) (d n : Int) (hd : d < 0) (g : Nat) (W u : World) (A : Option Addr) (ca : Nat) (B : Option Addr) (cb : Nat) (D : Option Addr) (cd : Nat) (h : PX W u g (mkP a b w) A ca B cb D cd) :
    Calls Try.prog 32 #[.pointer (some ⟨g, 0, none⟩), .agg #[.int .i64 d, .int .i64 n]] u (DoR N (M + 1) W g) := by
  have HI := hid hI
  have HNM := hid (And.intro hN hM)
  have hk := h.keep ((Below.refl _ _).alloc (Nat.le_refl _) (.cells #[.int .i64 d, .int .i64 n] 84))
  have hal := heap_alloc_new u (.cells #[.int .i64 d, .int .i64 n] 84)
  have HX := hid hk
  have HA := hid hal
  have hg := hk.1
  simp only [prc] at hg
  have hg22 := (pair_cells hg).1.2.2.2.2.2.2.2.2.2.2.2.2.2.2.2.2.2.2.2.2.2.2.1
  have hwl : (mkP a b w).w.length ≤ 100000 := by
    have := hI.wl
    show w.length ≤ 100000
    omega
  have HWX := hid (show (mkP a b w).w.length ≤ 10000 by have := hI.wl; show w.length ≤ 10000; omega)
  generalize hXX : mkP a b w = x at *
  have HXX := hid hXX
  clear hk h hal hg hI hN hM hXX
  have d1 : decide (0 ≤ d) = false := decide_eq_false (by omega)
  have d2 : (d == 2) = false := by simp; omega
  have d3 : (d == 3) = false := by simp; omega
  have d4 : (d == 4) = false := by simp; omega
  have d5 : (d == 5) = false := by simp; omega
  have d6 : (d != 5) = true := by simp; omega
  clear hd
  go_enter Try.func32, Try.ntmps32
  rcases Nat.eq_zero_or_pos x.w.length with h0 | h0
  case inl =>
    rw [h0] at hg22
    clear h0
    go_wp2
    refine bodyPost_ret (results_none rfl _ _ _) rfl ?_
    exact ⟨⟨_, rfl⟩, a, b, w, A, ca, B, cb, D, cd, by rw [HXX.out]; exact HX.out, HI.out.up (Nat.le_refl _) (Nat.le_succ _)⟩
  have e0 : ((x.w.length : Int) == 0) = false := beq_eq_false_iff_ne.2 (by omega)
  go_upto_region 6 with (fail)
  go_quiet (fail)
  go_upto_region 7 with (fail)
  obtain ⟨k, hkl, hke⟩ := idx_any n x.w.length h0 hwl
  rw [hke]
  have HKL := hid hkl
  clear hke h0 e0 hg22 hwl hkl
  refine at_world (fun v => v.heap[u.heap.size]? = some (.cells #[.int .i64 d, .int .i64 n] 84 (0, 0)) ∧ PX W v g x A ca B cb D cd) ⟨HA.out, HX.out.keep ⟨rfl, rfl, rfl, Nat.le_refl _, fun _ _ => rfl⟩⟩ ?_
  clear HA HX
  generalize u.heap.size = Bx at *
  rintro u1 ⟨ha1, hx1⟩
  have hg1 := hx1.1
  simp only [prc] at hg1
  have hg22 := (pair_cells hg1).1.2.2.2.2.2.2.2.2.2.2.2.2.2.2.2.2.2.2.2.2.2.2.1
  have HX1 := hid hx1
  have HA1 := hid ha1
  obtain ⟨bD, oD, rfl, hcD⟩ := Sl.gat pkc_len (Mid.sl hx1.2.2.2.2.1) k HKL.out (by decide)
  have c0 := hcD 0 _ rfl
  rw [Nat.add_zero] at c0
  have c1 := hcD 1 _ rfl
  have c2 := hcD 2 _ rfl
  have c3 := hcD 3 _ rfl
  have c4 := hcD 4 _ rfl
  have c5 := hcD 5 _ rfl
  have c6 := hcD 6 _ rfl
  have hki : ¬ ((k : Int) < 0) := by omega
  have hkj : (k : Int) < (x.w.length : Int) := by have := HKL.out; omega
  have hkn : k < x.w.length := HKL.out
  clear ha1 hx1 hg1 hcD
  go_upto_region 8 with (fail)
  refine at_world (fun v => v.heap[Bx]? = some (.cells #[.int .i64 d, .int .i64 n] 84 (0, 0)) ∧ v.heap[u1.heap.size]? = some (.cells (pca x.w[k]) 71 (0, 0)) ∧ PX W v g x A ca B cb (some ⟨bD, oD, none⟩) cd) ⟨(Below.heap_alloc _ _ _ (lt_of_block HA1.out)).trans HA1.out, heap_alloc_new _ _, HX1.out.keep ((Below.refl _ _).alloc (Nat.le_refl _) _)⟩ ?_
  clear HA1 HX1 hg22 c0 c1 c2 c3 c4 c5 c6 hki hkj
  generalize u1.heap.size = Pb at *
  rintro u2 ⟨ha2, hp2, hx2⟩
  have hac := act_cells ha2
  obtain ⟨ac0, ac1⟩ := hac
  have hUn : Und a b x.w[k] := by
    obtain rfl := HXX.out
    exact HI.out.wu _ (List.getElem_mem hkn)
  have hIv := HI.out
  have HEQ := HXX
  generalize x.w[k] = p at *
  have hg2 := hx2.1
  simp only [prc] at hg2
  have hg22 := (pair_cells hg2).1.2.2.2.2.2.2.2.2.2.2.2.2.2.2.2.2.2.2.2.2.2.2.1
  obtain ⟨⟨y0, y1, y2, y3, y4, y5, y6⟩, _⟩ := seven_cells hp2
  have HX2 := hid hx2
  have HAC := hid ha2
  clear hg2 hx2 hp2 ha2
  have HCM := hid (fun u (D : Option Addr) (cd : Nat) (h : PX W u g x A ca B cb D cd) => comes_any hIv hUn (by have := HNM.out; omega) (by have := HNM.out; omega) g W u A ca B cb D cd (by rw [HEQ.out]; exact h))
  simp only [pca] at HCM
  have HCV := hid (inv_come hIv hUn (by have := HNM.out; omega))
  have HIV := hid hIv
  clear hIv hUn
  by_cases hl4 : (x.w.length : Int) < 400
  case neg =>
    have hl5 : decide ((x.w.length : Int) < 400) = false := decide_eq_false hl4
    clear hl4
    go_wp2
    refine bodyPost_ret (results_none rfl _ _ _) rfl ?_
    exact ⟨⟨_, rfl⟩, a, b, _, A, ca, B, cb, _, _, by rw [HEQ.out]; exact HX2.out, HIV.out.up (Nat.le_refl _) (Nat.le_succ _)⟩
  have hl5 : decide ((x.w.length : Int) < 400) = true := decide_eq_true hl4
  clear hl4
  go_wp2_with fail
  refine (HCM.out _ _ _ HX2.out).mono ?_
  rintro e u4 ⟨⟨v, rfl⟩, A', ca', B', cb', D', cd', hx4⟩
  obtain ⟨a', b', l', hv', hi'⟩ := HCV.out
  rw [hv'] at hx4
  have HX4 := hid hx4
  have HI4 := hid hi'
  clear hx4 hi' hv'
  go_wp2
  refine bodyPost_ret (results_none rfl _ _ _) rfl ?_
  exact ⟨⟨_, rfl⟩, a', b', _, A', ca', B', cb', D', cd', HX4.out, HI4.out⟩

set_option maxRecDepth 20000 in
set_option maxHeartbeats 8000000 in
theorem doesG_any {N M : Nat} {a b : Sd} {w : List Pk} (hI : InvS N M a b w) (hN : N ≤ 1000) (hM : M ≤ 10000) (d n : Int) (hd : 5 < d) (g : Nat) (W u : World) (A : Option Addr) (ca : Nat) (B : Option Addr) (cb : Nat) (D : Option Addr) (cd : Nat) (h : PX W u g (mkP a b w) A ca B cb D cd) :
    Calls Try.prog 32 #[.pointer (some ⟨g, 0, none⟩), .agg #[.int .i64 d, .int .i64 n]] u (DoR N (M + 1) W g) := by
  have HI := hid hI
  have HNM := hid (And.intro hN hM)
  have hk := h.keep ((Below.refl _ _).alloc (Nat.le_refl _) (.cells #[.int .i64 d, .int .i64 n] 84))
  have hal := heap_alloc_new u (.cells #[.int .i64 d, .int .i64 n] 84)
  have HX := hid hk
  have HA := hid hal
  have hg := hk.1
  simp only [prc] at hg
  have hg22 := (pair_cells hg).1.2.2.2.2.2.2.2.2.2.2.2.2.2.2.2.2.2.2.2.2.2.2.1
  have hwl : (mkP a b w).w.length ≤ 100000 := by
    have := hI.wl
    show w.length ≤ 100000
    omega
  have HWX := hid (show (mkP a b w).w.length ≤ 10000 by have := hI.wl; show w.length ≤ 10000; omega)
  generalize hXX : mkP a b w = x at *
  have HXX := hid hXX
  clear hk h hal hg hI hN hM hXX
  have d1 : decide (0 ≤ d) = true := decide_eq_true (by omega)
  have d1b : decide (d < 2) = false := decide_eq_false (by omega)
  have d2 : (d == 2) = false := by simp; omega
  have d3 : (d == 3) = false := by simp; omega
  have d4 : (d == 4) = false := by simp; omega
  have d5 : (d == 5) = false := by simp; omega
  have d6 : (d != 5) = true := by simp; omega
  clear hd
  go_enter Try.func32, Try.ntmps32
  rcases Nat.eq_zero_or_pos x.w.length with h0 | h0
  case inl =>
    rw [h0] at hg22
    clear h0
    go_wp2
    refine bodyPost_ret (results_none rfl _ _ _) rfl ?_
    exact ⟨⟨_, rfl⟩, a, b, w, A, ca, B, cb, D, cd, by rw [HXX.out]; exact HX.out, HI.out.up (Nat.le_refl _) (Nat.le_succ _)⟩
  have e0 : ((x.w.length : Int) == 0) = false := beq_eq_false_iff_ne.2 (by omega)
  go_upto_region 6 with (fail)
  go_quiet (fail)
  go_upto_region 7 with (fail)
  obtain ⟨k, hkl, hke⟩ := idx_any n x.w.length h0 hwl
  rw [hke]
  have HKL := hid hkl
  clear hke h0 e0 hg22 hwl hkl
  refine at_world (fun v => v.heap[u.heap.size]? = some (.cells #[.int .i64 d, .int .i64 n] 84 (0, 0)) ∧ PX W v g x A ca B cb D cd) ⟨HA.out, HX.out.keep ⟨rfl, rfl, rfl, Nat.le_refl _, fun _ _ => rfl⟩⟩ ?_
  clear HA HX
  generalize u.heap.size = Bx at *
  rintro u1 ⟨ha1, hx1⟩
  have hg1 := hx1.1
  simp only [prc] at hg1
  have hg22 := (pair_cells hg1).1.2.2.2.2.2.2.2.2.2.2.2.2.2.2.2.2.2.2.2.2.2.2.1
  have HX1 := hid hx1
  have HA1 := hid ha1
  obtain ⟨bD, oD, rfl, hcD⟩ := Sl.gat pkc_len (Mid.sl hx1.2.2.2.2.1) k HKL.out (by decide)
  have c0 := hcD 0 _ rfl
  rw [Nat.add_zero] at c0
  have c1 := hcD 1 _ rfl
  have c2 := hcD 2 _ rfl
  have c3 := hcD 3 _ rfl
  have c4 := hcD 4 _ rfl
  have c5 := hcD 5 _ rfl
  have c6 := hcD 6 _ rfl
  have hki : ¬ ((k : Int) < 0) := by omega
  have hkj : (k : Int) < (x.w.length : Int) := by have := HKL.out; omega
  have hkn : k < x.w.length := HKL.out
  clear ha1 hx1 hg1 hcD
  go_upto_region 8 with (fail)
  refine at_world (fun v => v.heap[Bx]? = some (.cells #[.int .i64 d, .int .i64 n] 84 (0, 0)) ∧ v.heap[u1.heap.size]? = some (.cells (pca x.w[k]) 71 (0, 0)) ∧ PX W v g x A ca B cb (some ⟨bD, oD, none⟩) cd) ⟨(Below.heap_alloc _ _ _ (lt_of_block HA1.out)).trans HA1.out, heap_alloc_new _ _, HX1.out.keep ((Below.refl _ _).alloc (Nat.le_refl _) _)⟩ ?_
  clear HA1 HX1 hg22 c0 c1 c2 c3 c4 c5 c6 hki hkj
  generalize u1.heap.size = Pb at *
  rintro u2 ⟨ha2, hp2, hx2⟩
  have hac := act_cells ha2
  obtain ⟨ac0, ac1⟩ := hac
  have hUn : Und a b x.w[k] := by
    obtain rfl := HXX.out
    exact HI.out.wu _ (List.getElem_mem hkn)
  have hIv := HI.out
  have HEQ := HXX
  generalize x.w[k] = p at *
  have hg2 := hx2.1
  simp only [prc] at hg2
  have hg22 := (pair_cells hg2).1.2.2.2.2.2.2.2.2.2.2.2.2.2.2.2.2.2.2.2.2.2.2.1
  obtain ⟨⟨y0, y1, y2, y3, y4, y5, y6⟩, _⟩ := seven_cells hp2
  have HX2 := hid hx2
  have HAC := hid ha2
  clear hg2 hx2 hp2 ha2
  have HCM := hid (fun u (D : Option Addr) (cd : Nat) (h : PX W u g x A ca B cb D cd) => comes_any hIv hUn (by have := HNM.out; omega) (by have := HNM.out; omega) g W u A ca B cb D cd (by rw [HEQ.out]; exact h))
  simp only [pca] at HCM
  have HCV := hid (inv_come hIv hUn (by have := HNM.out; omega))
  have HIV := hid hIv
  clear hIv hUn
  by_cases hl4 : (x.w.length : Int) < 400
  case neg =>
    have hl5 : decide ((x.w.length : Int) < 400) = false := decide_eq_false hl4
    clear hl4
    go_wp2
    refine bodyPost_ret (results_none rfl _ _ _) rfl ?_
    exact ⟨⟨_, rfl⟩, a, b, _, A, ca, B, cb, _, _, by rw [HEQ.out]; exact HX2.out, HIV.out.up (Nat.le_refl _) (Nat.le_succ _)⟩
  have hl5 : decide ((x.w.length : Int) < 400) = true := decide_eq_true hl4
  clear hl4
  go_wp2_with fail
  refine (HCM.out _ _ _ HX2.out).mono ?_
  rintro e u4 ⟨⟨v, rfl⟩, A', ca', B', cb', D', cd', hx4⟩
  obtain ⟨a', b', l', hv', hi'⟩ := HCV.out
  rw [hv'] at hx4
  have HX4 := hid hx4
  have HI4 := hid hi'
  clear hx4 hi' hv'
  go_wp2
  refine bodyPost_ret (results_none rfl _ _ _) rfl ?_
  exact ⟨⟨_, rfl⟩, a', b', _, A', ca', B', cb', D', cd', HX4.out, HI4.out⟩
end Go.Proofs.Ytdekemlckpbbcaa
