/- LinkComes: the law. -/
import Derived.Test.YtdekemlckpbbcaaLnkW
import Derived.Test.YtdekemlckpbbcaaLnkV
import Derived.BigQuiet
import Derived.ChangeKeysEq
namespace Go.Proofs.Ytdekemlckpbbcaa
open Go.RowKit Go.Lib Go.Sort
set_option linter.unusedVariables false
set_option linter.unusedSimpArgs false

/-- What holds with n rounds to go. -/
def KR (W u : World) (g n0 n1 n : Nat) : Prop := ∃ a b w A ca B cb D cd m, PX W u g (mkP a b w) A ca B cb D cd ∧ RS 100 100 m a b w ∧ a.n = n0 ∧ b.n = n1 ∧ (m = 0 ∨ m + (n0 + n1 + 10) ≤ n + 9)
/-- What holds with n rounds to go, behind k packets of this one. -/
def KC (W u : World) (g n0 n1 n k : Nat) : Prop := ∃ a b w A ca B cb D cd m, PX W u g (mkP a b w) A ca B cb D cd ∧ RS 100 100 m a b w ∧ a.n = n0 ∧ b.n = n1 ∧ (m = 0 ∨ m + (n0 + n1 + 10) ≤ n + 9) ∧ Phi a b w + k ≤ 3000
theorem KR.start {W u : World} {g n0 n1 n : Nat} (h : KR W u g n0 n1 n) : KC W u g n0 n1 n 0 := by
  obtain ⟨a, b, w, A, ca, B, cb, D, cd, m, h1, h2, h3, h4, h5⟩ := h
  exact ⟨a, b, w, A, ca, B, cb, D, cd, m, h1, h2, h3, h4, h5, by have := phi_le h2; omega⟩
/-- The packets' row without its first one. -/
theorem PX.tail {W u : World} {g : Nat} {a b : Sd} {p : Pk} {r : List Pk} {A : Option Addr} {ca : Nat} {B : Option Addr} {cb : Nat} {D : Option Addr} {cd : Nat} (h : PX W u g (mkP a b (p :: r)) A ca B cb D cd) : PX W (u.setCell ⟨g, 22, none⟩ (.slice (dropA D cd 1 7) (r.length + 1 - 1) (cd - 1))) g (mkP a b r) A ca B cb (dropA D cd 1 7) (cd - 1) := by
  have hm : Mid u W.heap.size 71 7 (.slice D (r.length + 1) cd) (r.length + 1) (gcells pkc (p :: r)) := h.2.2.2.2.1
  have h1 := hm.drop 1 (by omega)
  have h2 : (gcells pkc (p :: r)).drop (1 * 7) = gcells pkc r := gcells_drop 1
  rw [h2] at h1
  exact h.setWay (l := r) (n := r.length + 1 - 1) (by omega) h1
theorem int_eq (d : Nat) (x : Int) (w : World) : (Op.equalIn (d + 1) 3 (.int .i64 x) (.int .i64 x)).run Try.prog w = .ok true w := by
  simp [Op.equalIn, run_underlying Try.underlying3]
theorem arr_eq (x y : Int) (w : World) : (binOp .eql 85 (.agg #[.int .i64 x, .int .i64 y]) (.agg #[.int .i64 x, .int .i64 y])).run Try.prog w = .ok (.bool true) w := by
  have hpk : Try.prog.plainKey 3 = true := by kernel_rfl
  have hc1 : Try.prog.cellsOf 3 = 1 := by kernel_rfl
  obtain ⟨i, hi⟩ : ∃ i, Try.prog.info? 3 = some i := by
    have : (Try.prog.info? 3).isSome = true := by kernel_rfl
    exact Option.isSome_iff_exists.1 this
  have h1 := run_equalIn_array (P := Try.prog) w 9999 #[.int .i64 x, .int .i64 y] #[.int .i64 x, .int .i64 y] Try.underlying85 hi
  rw [hc1, show List.range 2 = [0, 1] from rfl] at h1
  have p0 := run_part_plain (P := Try.prog) w hpk (xs := #[.int .i64 x, .int .i64 y]) (off := 0) (v := .int .i64 x) rfl
  have p1 := run_part_plain (P := Try.prog) w hpk (xs := #[.int .i64 x, .int .i64 y]) (off := 1) (v := .int .i64 y) rfl
  simp [Op.eqItems, p0, p1, int_eq 9998] at h1
  have h2 : (Op.equal 85 (.agg #[.int .i64 x, .int .i64 y]) (.agg #[.int .i64 x, .int .i64 y])).run Try.prog w = .ok true w := h1
  simp [binOp, go_sem, h2]

set_option maxRecDepth 20000 in
set_option maxHeartbeats 8000000 in
theorem linkComes_law (A : Option Addr) (len cap : Nat) (W : World) (h : Rd Try.prog W 79 [.slice A len cap]) :
    Calls Try.prog 6 #[.slice A len cap] W fun e w' => e = .returned (.bool true) ∧ Below W.heap.size W w' := by
  obtain ⟨l, hA, rfl⟩ := acts_in h
  have HA := hid hA
  have HLM := hid (Nat.le_trans hA.2.1 hA.2.2.1)
  clear hA h
  go_enter Try.func6, Try.ntmps6
  go_wp2_with fail
  refine (begunP_any _).mono ?_
  rintro e w1 ⟨g, hg, rfl, hc, hb⟩
  have HK := hid (KL.begun hg hc hb)
  have HG := hid hg
  clear hg hc hb
  go_wp2
  go_loopw [4] (fun i wr => ∃ k : Nat, k ≤ l.length ∧ k ≤ 100 ∧ i = .int .i64 (k : Int) ∧ Hid (KL W wr g k)) (fun i _ => l.length - (intOf i).toNat)
  case atStart => exact ⟨0, by omega, by omega, rfl, HK⟩
  case round =>
    obtain ⟨k, hk, hk2, rfl, HK⟩ := hrel
    by_cases hlt : k < l.length ∧ k < 100
    · obtain ⟨i4, i5⟩ := hlt
      have i1 : (k : Int) < (l.length : Int) := by omega
      have i2 : (k : Int) < 100 := by omega
      have i3 : ¬ ((k : Int) < 0) := by omega
      obtain ⟨b, off, rfl, hcl⟩ := Sl.gat (f := acc) (n := 2) (fun _ => rfl) (HA.out.below (HK.out.below)) k i4 (by omega)
      have c0 := hcl 0 _ rfl
      have c1' := hcl 1 _ rfl
      simp only [Nat.add_zero] at c0
      clear hcl
      go_wp2_with fail
      refine (HK.out.doit (by omega) _ _).mono ?_
      rintro e w2 ⟨⟨v, rfl⟩, hk3⟩
      have HK3 := hid hk3
      clear hk3
      go_wp2
      go_roundw
      case rel => exact ⟨k + 1, by omega, by omega, by go_num, HK3⟩
      case measure => simp [intOf]; omega
    · obtain ⟨a, b, w, A1, ca, B1, cb, D1, cd, hx, hi⟩ := HK.out
      have hi2 := hi.up (show k ≤ 100 by omega) (show k ≤ 100 by omega)
      have HX := hid hx
      have HI := hid hi2
      have hg9 := hx.1
      simp only [prc, mkP] at hg9
      obtain ⟨⟨p0, p1, p2, p3, p4, p5, p6, p7, p8, p9, p10, p11, p12, p13, p14, p15, p16, p17, p18, p19, p20, p21, p22, p23, p24, p25, p26, p27⟩, _⟩ := pair_cells hg9
      have hna : a.n ≤ 100 := hi2.na
      have hnb : b.n ≤ 100 := hi2.nb
      have hw1 : IntKind.i64.wrap ((a.n : Int) + (b.n : Int)) = ((a.n + b.n : Nat) : Int) := by
        simp [IntKind.wrap, IntKind.bits, IntKind.signed]; omega
      have hw2 : IntKind.i64.wrap (((a.n + b.n : Nat) : Int) + 8) = ((a.n + b.n + 8 : Nat) : Int) := by
        simp [IntKind.wrap, IntKind.bits, IntKind.signed]; omega
      have hw3 : IntKind.i64.wrap (((a.n + b.n + 8 : Nat) : Int) + 2) = ((a.n + b.n + 10 : Nat) : Int) := by
        simp [IntKind.wrap, IntKind.bits, IntKind.signed]; omega
      clear hg9 hx hi hi2 HK
      rcases (by omega : l.length ≤ k ∨ (k < l.length ∧ 100 ≤ k)) with h9 | ⟨h9, h8⟩
      · have d1 : decide ((k : Int) < (l.length : Int)) = false := decide_eq_false (by omega)
        have i1 : ¬ ((k : Int) < (l.length : Int)) := by omega
        clear h9
        go_upto_region 6 with (fail)
        go_quiet (fail)
        go_upto_region 7 with (fail)
        refine at_world (fun u => KR W u g a.n b.n (a.n + b.n + 10)) ⟨a, b, w, A1, ca, B1, cb, D1, cd, 9, HX.out.keep ⟨rfl, rfl, rfl, Nat.le_refl _, fun _ _ => rfl⟩, rs_0 HI.out, rfl, rfl, .inr (by omega)⟩ ?_
        clear p0 p1 p2 p3 p4 p5 p6 p7 p8 p9 p10 p11 p12 p13 p14 p15 p16 p17 p18 p19 p20 p21 p22 p23 p24 p25 p26 p27 HX HI hw1 hw2 hw3
        rintro w5 hk5
        have HK5 := hid hk5
        clear hk5
        generalize a.n = n0 at *
        generalize b.n = n1 at *
        go_loopw [5] (fun v wr => ∃ n : Nat, n ≤ n0 + n1 + 10 ∧ v = .int .i64 (n : Int) ∧ Hid (KR W wr g n0 n1 n)) (fun v _ => (intOf v).toNat)
        case atStart => exact ⟨_, Nat.le_refl _, rfl, HK5⟩
        case round =>
          obtain ⟨n, hn, rfl, HK⟩ := hrel
          rcases Nat.eq_zero_or_pos n with rfl | hn0
          · skip
            obtain ⟨a, b, w, A, ca, B, cb, D, cd, m, hx, hr, h3, h4, h5⟩ := HK.out
            obtain rfl : m = 0 := by omega
            obtain ⟨r1, r2, r3, r4⟩ := rs_end hr
            have l1 : namesT a.q a.n = [] := namesT_nil r3
            have l2 : namesT b.q b.n = [] := namesT_nil r4
            have hg9 := hx.1
            simp only [prc, mkP, mkE, l1, l2, List.length_nil, r1, r2] at hg9
            have HB := hid hx.2.2.2.2.2
            have heq : ∀ w : World, (binOp .eql 85 (.agg #[.int .i64 (a.n : Int), .int .i64 (b.n : Int)]) (.agg #[.int .i64 (a.n : Int), .int .i64 (b.n : Int)])).run Try.prog w = .ok (.bool true) w := fun w => arr_eq _ _ w
            have hSF : ∀ U, Below wr.heap.size wr U → (((U.cell? ⟨g, 5, none⟩ = some (.slice A 0 ca) ∧ U.cell? ⟨g, 16, none⟩ = some (.slice B 0 cb)) ∧ (U.cell? ⟨g, 23, none⟩ = some (.int .i64 (a.n : Int)) ∧ U.cell? ⟨g, 24, none⟩ = some (.int .i64 (b.n : Int)) ∧ U.cell? ⟨g, 25, none⟩ = some (.int .i64 (a.n : Int)) ∧ U.cell? ⟨g, 26, none⟩ = some (.int .i64 (b.n : Int)) ∧ U.cell? ⟨g, 27, none⟩ = some (.bool true))) ∧ Below wr.heap.size wr U) := fun U hU => by
              have h8 := (pair_cells (keep0 hg9 hU)).1
              exact ⟨⟨⟨h8.2.2.2.2.2.1, h8.2.2.2.2.2.2.2.2.2.2.2.2.2.2.2.2.1⟩, h8.2.2.2.2.2.2.2.2.2.2.2.2.2.2.2.2.2.2.2.2.2.2.2.1, h8.2.2.2.2.2.2.2.2.2.2.2.2.2.2.2.2.2.2.2.2.2.2.2.2.1, h8.2.2.2.2.2.2.2.2.2.2.2.2.2.2.2.2.2.2.2.2.2.2.2.2.2.1, h8.2.2.2.2.2.2.2.2.2.2.2.2.2.2.2.2.2.2.2.2.2.2.2.2.2.2.1, h8.2.2.2.2.2.2.2.2.2.2.2.2.2.2.2.2.2.2.2.2.2.2.2.2.2.2.2⟩, hU⟩
            have hk0 : Below wr.heap.size wr wr.drew := below_drew (Below.refl _ _)
            clear hg9 hx hr h3 h4 h5 r1 r2 r3 r4 l1 l2 HK
            go_upto_region 17 with (fail)
            refine wp_region_held_drew (S := fun U => ((U.cell? ⟨g, 5, none⟩ = some (.slice A 0 ca) ∧ U.cell? ⟨g, 16, none⟩ = some (.slice B 0 cb)) ∧ (U.cell? ⟨g, 23, none⟩ = some (.int .i64 (a.n : Int)) ∧ U.cell? ⟨g, 24, none⟩ = some (.int .i64 (b.n : Int)) ∧ U.cell? ⟨g, 25, none⟩ = some (.int .i64 (a.n : Int)) ∧ U.cell? ⟨g, 26, none⟩ = some (.int .i64 (b.n : Int)) ∧ U.cell? ⟨g, 27, none⟩ = some (.bool true))) ∧ Below wr.heap.size wr U) (by kernel_rfl) (hSF _ hk0) (fun hHeld => ?_)
            generalize wr.drew = q0 at *
            refine wpAnyH_take (i := 0) (v := ?_) rfl (by kernel_rfl) (by kernel_rfl) (by kernel_rfl) (fun _ _ _ h => h) (Or.inl ⟨by rfl, ?_⟩) (by assumption) ?_
            rotate_left
            focus
              intro U hU
              try dsimp only at hU
              go_simp
              try (with_reducible rfl)
            simp only [List.getElem_toArray, List.getElem_cons_succ, List.getElem_cons_zero, Act.put, List.setIfInBounds_toArray, List.set_cons_zero, List.set_cons_succ]
            refine wpAnyH_take (i := 1) (v := ?_) rfl (by kernel_rfl) (by kernel_rfl) (by kernel_rfl) (fun _ _ _ h => h) (Or.inl ⟨by rfl, ?_⟩) (by assumption) ?_
            rotate_left
            focus
              intro U hU
              try dsimp only at hU
              go_simp
              try (with_reducible rfl)
            simp only [List.getElem_toArray, List.getElem_cons_succ, List.getElem_cons_zero, Act.put, List.setIfInBounds_toArray, List.set_cons_zero, List.set_cons_succ]
            refine wpAnyH_take (i := 2) (v := ?_) rfl (by kernel_rfl) (by kernel_rfl) (by kernel_rfl) (fun _ _ _ h => h) (Or.inl ⟨by rfl, ?_⟩) (by assumption) ?_
            rotate_left
            focus
              intro U hU
              try dsimp only at hU
              go_simp
              try (with_reducible rfl)
            simp only [List.getElem_toArray, List.getElem_cons_succ, List.getElem_cons_zero, Act.put, List.setIfInBounds_toArray, List.set_cons_zero, List.set_cons_succ]
            refine wpAnyH_take (i := 3) (v := ?_) rfl (by kernel_rfl) (by kernel_rfl) (by kernel_rfl) (fun _ _ _ h => h) (Or.inl ⟨by rfl, ?_⟩) (by assumption) ?_
            rotate_left
            focus
              intro U hU
              try dsimp only at hU
              go_simp
              try (with_reducible rfl)
            simp only [List.getElem_toArray, List.getElem_cons_succ, List.getElem_cons_zero, Act.put, List.setIfInBounds_toArray, List.set_cons_zero, List.set_cons_succ]
            refine wpAnyH_take (i := 4) (v := ?_) rfl (by kernel_rfl) (by kernel_rfl) (by kernel_rfl) (fun _ _ _ h => h) (Or.inl ⟨by rfl, ?_⟩) (by assumption) ?_
            rotate_left
            focus
              intro U hU
              try dsimp only at hU
              go_simp
              try (with_reducible rfl)
            simp only [List.getElem_toArray, List.getElem_cons_succ, List.getElem_cons_zero, Act.put, List.setIfInBounds_toArray, List.set_cons_zero, List.set_cons_succ]
            refine wpAnyH_take (i := 5) (v := ?_) rfl (by kernel_rfl) (by kernel_rfl) (by kernel_rfl) (fun _ _ _ h => h) (Or.inl ⟨by rfl, ?_⟩) (by assumption) ?_
            rotate_left
            focus
              intro U hU
              try dsimp only at hU
              go_simp
              try (with_reducible rfl)
            simp only [List.getElem_toArray, List.getElem_cons_succ, List.getElem_cons_zero, Act.put, List.setIfInBounds_toArray, List.set_cons_zero, List.set_cons_succ]
            refine wpAnyH_take (i := 6) (v := ?_) rfl (by kernel_rfl) (by kernel_rfl) (by kernel_rfl) (fun _ _ _ h => h) (Or.inl ⟨by rfl, ?_⟩) (by assumption) ?_
            rotate_left
            focus
              intro U hU
              try dsimp only at hU
              go_simp
              try (with_reducible rfl)
            simp only [List.getElem_toArray, List.getElem_cons_succ, List.getElem_cons_zero, Act.put, List.setIfInBounds_toArray, List.set_cons_zero, List.set_cons_succ]
            refine wpAnyH_take (i := 7) (v := ?_) rfl (by kernel_rfl) (by kernel_rfl) (by kernel_rfl) (fun _ _ _ h => h) (Or.inl ⟨by rfl, ?_⟩) (by assumption) ?_
            rotate_left
            focus
              intro U hU
              try dsimp only at hU
              go_simp
              try (with_reducible rfl)
            simp only [List.getElem_toArray, List.getElem_cons_succ, List.getElem_cons_zero, Act.put, List.setIfInBounds_toArray, List.set_cons_zero, List.set_cons_succ]
            refine wpAnyH_take (i := 8) (v := ?_) rfl (by kernel_rfl) (by kernel_rfl) (by kernel_rfl) (fun _ _ _ h => h) (Or.inl ⟨by rfl, ?_⟩) (by assumption) ?_
            rotate_left
            focus
              intro U hU
              try dsimp only at hU
              go_simp
              try (with_reducible rfl)
            simp only [List.getElem_toArray, List.getElem_cons_succ, List.getElem_cons_zero, Act.put, List.setIfInBounds_toArray, List.set_cons_zero, List.set_cons_succ]
            refine wpAnyH_take (i := 9) (v := ?_) rfl (by kernel_rfl) (by kernel_rfl) (by kernel_rfl) (fun _ _ _ h => h) (Or.inl ⟨by rfl, ?_⟩) (by assumption) ?_
            rotate_left
            focus
              intro U hU
              try dsimp only at hU
              go_simp
              try (with_reducible rfl)
            simp only [List.getElem_toArray, List.getElem_cons_succ, List.getElem_cons_zero, Act.put, List.setIfInBounds_toArray, List.set_cons_zero, List.set_cons_succ]
            refine wpAnyH_take (i := 10) (v := ?_) rfl (by kernel_rfl) (by kernel_rfl) (by kernel_rfl) (fun _ _ _ h => h) (Or.inl ⟨by rfl, ?_⟩) (by assumption) ?_
            rotate_left
            focus
              intro U hU
              try dsimp only at hU
              go_simp
              try (with_reducible rfl)
            simp only [List.getElem_toArray, List.getElem_cons_succ, List.getElem_cons_zero, Act.put, List.setIfInBounds_toArray, List.set_cons_zero, List.set_cons_succ]
            refine wpAnyH_take (i := 11) (v := ?_) rfl (by kernel_rfl) (by kernel_rfl) (by kernel_rfl) (fun _ _ _ h => h) (Or.inl ⟨by rfl, ?_⟩) (by assumption) ?_
            rotate_left
            focus
              intro U hU
              try dsimp only at hU
              go_simp
              try (with_reducible rfl)
            simp only [List.getElem_toArray, List.getElem_cons_succ, List.getElem_cons_zero, Act.put, List.setIfInBounds_toArray, List.set_cons_zero, List.set_cons_succ]
            refine wpAnyH_take (i := 12) (v := ?_) rfl (by kernel_rfl) (by kernel_rfl) (by kernel_rfl) (fun _ _ _ h => h) (Or.inl ⟨by rfl, ?_⟩) (by assumption) ?_
            rotate_left
            focus
              intro U hU
              try dsimp only at hU
              go_simp
              try (with_reducible rfl)
            simp only [List.getElem_toArray, List.getElem_cons_succ, List.getElem_cons_zero, Act.put, List.setIfInBounds_toArray, List.set_cons_zero, List.set_cons_succ]
            refine wpAnyH_take (i := 13) (v := ?_) rfl (by kernel_rfl) (by kernel_rfl) (by kernel_rfl) (fun _ _ _ h => h) (Or.inl ⟨by rfl, ?_⟩) (by assumption) ?_
            rotate_left
            focus
              intro U hU
              try dsimp only at hU
              go_simp
              try (with_reducible rfl)
            simp only [List.getElem_toArray, List.getElem_cons_succ, List.getElem_cons_zero, Act.put, List.setIfInBounds_toArray, List.set_cons_zero, List.set_cons_succ]
            refine wpAnyH_take (i := 14) (v := ?_) rfl (by kernel_rfl) (by kernel_rfl) (by kernel_rfl) (fun _ _ _ h => h) (Or.inl ⟨by rfl, ?_⟩) (by assumption) ?_
            rotate_left
            focus
              intro U hU
              try dsimp only at hU
              go_simp
              try (with_reducible rfl)
            simp only [List.getElem_toArray, List.getElem_cons_succ, List.getElem_cons_zero, Act.put, List.setIfInBounds_toArray, List.set_cons_zero, List.set_cons_succ]
            refine wpAnyH_take (i := 15) (v := ?_) rfl (by kernel_rfl) (by kernel_rfl) (by kernel_rfl) (fun _ _ _ h => h) (Or.inl ⟨by rfl, ?_⟩) (by assumption) ?_
            rotate_left
            focus
              intro U hU
              try dsimp only at hU
              go_simp
              try (with_reducible rfl)
            simp only [List.getElem_toArray, List.getElem_cons_succ, List.getElem_cons_zero, Act.put, List.setIfInBounds_toArray, List.set_cons_zero, List.set_cons_succ]
            refine wpAnyH_take (i := 16) (v := ?_) rfl (by kernel_rfl) (by kernel_rfl) (by kernel_rfl) (fun _ _ _ h => h) (Or.inl ⟨by rfl, ?_⟩) (by assumption) ?_
            rotate_left
            focus
              intro U hU
              try dsimp only at hU
              go_simp
              try (with_reducible rfl)
            simp only [List.getElem_toArray, List.getElem_cons_succ, List.getElem_cons_zero, Act.put, List.setIfInBounds_toArray, List.set_cons_zero, List.set_cons_succ]
            refine wpAnyH_take (i := 17) (v := ?_) rfl (by kernel_rfl) (by kernel_rfl) (by kernel_rfl) (fun _ _ _ h => h) (Or.inl ⟨by rfl, ?_⟩) (by assumption) ?_
            rotate_left
            focus
              intro U hU
              try dsimp only at hU
              go_simp
              try (with_reducible rfl)
            simp only [List.getElem_toArray, List.getElem_cons_succ, List.getElem_cons_zero, Act.put, List.setIfInBounds_toArray, List.set_cons_zero, List.set_cons_succ]
            refine wpAnyH_take (i := 18) (v := ?_) rfl (by kernel_rfl) (by kernel_rfl) (by kernel_rfl) (fun _ _ _ h => h) (Or.inl ⟨by rfl, ?_⟩) (by assumption) ?_
            rotate_left
            focus
              intro U hU
              try dsimp only at hU
              go_simp
              try (with_reducible rfl)
            simp only [List.getElem_toArray, List.getElem_cons_succ, List.getElem_cons_zero, Act.put, List.setIfInBounds_toArray, List.set_cons_zero, List.set_cons_succ]
            refine wpAnyH_take (i := 19) (v := ?_) rfl (by kernel_rfl) (by kernel_rfl) (by kernel_rfl) (fun _ _ _ h => h) (Or.inl ⟨by rfl, ?_⟩) (by assumption) ?_
            rotate_left
            focus
              intro U hU
              try dsimp only at hU
              go_simp
              try (with_reducible rfl)
            simp only [List.getElem_toArray, List.getElem_cons_succ, List.getElem_cons_zero, Act.put, List.setIfInBounds_toArray, List.set_cons_zero, List.set_cons_succ]
            refine wpAnyH_take (i := 20) (v := ?_) rfl (by kernel_rfl) (by kernel_rfl) (by kernel_rfl) (fun _ _ _ h => h) (Or.inl ⟨by rfl, ?_⟩) (by assumption) ?_
            rotate_left
            focus
              intro U hU
              try dsimp only at hU
              go_simp
              try (with_reducible rfl)
            simp only [List.getElem_toArray, List.getElem_cons_succ, List.getElem_cons_zero, Act.put, List.setIfInBounds_toArray, List.set_cons_zero, List.set_cons_succ]
            refine wpAnyH_take (i := 21) (v := ?_) rfl (by kernel_rfl) (by kernel_rfl) (by kernel_rfl) (fun _ _ _ h => h) (Or.inl ⟨by rfl, ?_⟩) (by assumption) ?_
            rotate_left
            focus
              intro U hU
              try dsimp only at hU
              go_simp
              try (with_reducible rfl)
            simp only [List.getElem_toArray, List.getElem_cons_succ, List.getElem_cons_zero, Act.put, List.setIfInBounds_toArray, List.set_cons_zero, List.set_cons_succ]
            refine wpAnyH_take (i := 22) (v := ?_) rfl (by kernel_rfl) (by kernel_rfl) (by kernel_rfl) (fun _ _ _ h => h) (Or.inl ⟨by rfl, ?_⟩) (by assumption) ?_
            rotate_left
            focus
              intro U hU
              try dsimp only at hU
              go_simp
              try (with_reducible rfl)
            simp only [List.getElem_toArray, List.getElem_cons_succ, List.getElem_cons_zero, Act.put, List.setIfInBounds_toArray, List.set_cons_zero, List.set_cons_succ]
            refine wpAnyH_take (i := 23) (v := ?_) rfl (by kernel_rfl) (by kernel_rfl) (by kernel_rfl) (fun _ _ _ h => h) (Or.inl ⟨by rfl, ?_⟩) (by assumption) ?_
            rotate_left
            focus
              intro U hU
              try dsimp only at hU
              go_simp
              try (with_reducible rfl)
            simp only [List.getElem_toArray, List.getElem_cons_succ, List.getElem_cons_zero, Act.put, List.setIfInBounds_toArray, List.set_cons_zero, List.set_cons_succ]
            refine wpAnyH_take (i := 24) (v := ?_) rfl (by kernel_rfl) (by kernel_rfl) (by kernel_rfl) (fun _ _ _ h => h) (Or.inl ⟨by rfl, ?_⟩) (by assumption) ?_
            rotate_left
            focus
              intro U hU
              try dsimp only at hU
              go_simp
              try (with_reducible rfl)
            simp only [List.getElem_toArray, List.getElem_cons_succ, List.getElem_cons_zero, Act.put, List.setIfInBounds_toArray, List.set_cons_zero, List.set_cons_succ]
            refine wpAnyH_take (i := 25) (v := ?_) rfl (by kernel_rfl) (by kernel_rfl) (by kernel_rfl) (fun _ _ _ h => h) (Or.inl ⟨by rfl, ?_⟩) (by assumption) ?_
            rotate_left
            focus
              intro U hU
              try dsimp only at hU
              go_simp
              try (with_reducible rfl)
            simp only [List.getElem_toArray, List.getElem_cons_succ, List.getElem_cons_zero, Act.put, List.setIfInBounds_toArray, List.set_cons_zero, List.set_cons_succ]
            refine wpAnyH_take (i := 26) (v := ?_) rfl (by kernel_rfl) (by kernel_rfl) (by kernel_rfl) (fun _ _ _ h => h) (Or.inl ⟨by rfl, ?_⟩) (by assumption) ?_
            rotate_left
            focus
              intro U hU
              try dsimp only at hU
              go_simp
              try (with_reducible rfl)
            simp only [List.getElem_toArray, List.getElem_cons_succ, List.getElem_cons_zero, Act.put, List.setIfInBounds_toArray, List.set_cons_zero, List.set_cons_succ]
            refine wpAnyH_take (i := 27) (v := ?_) rfl (by kernel_rfl) (by kernel_rfl) (by kernel_rfl) (fun _ _ _ h => h) (Or.inl ⟨by rfl, ?_⟩) (by assumption) ?_
            rotate_left
            focus
              intro U hU
              try dsimp only at hU
              go_simp
              try (with_reducible rfl)
            simp only [List.getElem_toArray, List.getElem_cons_succ, List.getElem_cons_zero, Act.put, List.setIfInBounds_toArray, List.set_cons_zero, List.set_cons_succ]
            refine wpAnyH_take (i := 28) (v := ?_) rfl (by kernel_rfl) (by kernel_rfl) (by kernel_rfl) (fun _ _ _ h => h) (Or.inl ⟨by rfl, ?_⟩) (by assumption) ?_
            rotate_left
            focus
              intro U hU
              try dsimp only at hU
              go_simp
              try (with_reducible rfl)
            simp only [List.getElem_toArray, List.getElem_cons_succ, List.getElem_cons_zero, Act.put, List.setIfInBounds_toArray, List.set_cons_zero, List.set_cons_succ]
            refine wpAnyH_take (i := 29) (v := ?_) rfl (by kernel_rfl) (by kernel_rfl) (by kernel_rfl) (fun _ _ _ h => h) (Or.inl ⟨by rfl, ?_⟩) (by assumption) ?_
            rotate_left
            focus
              intro U hU
              try dsimp only at hU
              go_simp
              try (with_reducible rfl)
            simp only [List.getElem_toArray, List.getElem_cons_succ, List.getElem_cons_zero, Act.put, List.setIfInBounds_toArray, List.set_cons_zero, List.set_cons_succ]
            refine wpAnyH_take (i := 30) (v := ?_) rfl (by kernel_rfl) (by kernel_rfl) (by kernel_rfl) (fun _ _ _ h => h) (Or.inl ⟨by rfl, ?_⟩) (by assumption) ?_
            rotate_left
            focus
              intro U hU
              try dsimp only at hU
              go_simp
              try (with_reducible rfl)
            simp only [List.getElem_toArray, List.getElem_cons_succ, List.getElem_cons_zero, Act.put, List.setIfInBounds_toArray, List.set_cons_zero, List.set_cons_succ]
            refine wpAnyH_take (i := 31) (v := ?_) rfl (by kernel_rfl) (by kernel_rfl) (by kernel_rfl) (fun _ _ _ h => h) (Or.inl ⟨by rfl, ?_⟩) (by assumption) ?_
            rotate_left
            focus
              intro U hU
              try dsimp only at hU
              go_simp
              try (with_reducible rfl)
            simp only [List.getElem_toArray, List.getElem_cons_succ, List.getElem_cons_zero, Act.put, List.setIfInBounds_toArray, List.set_cons_zero, List.set_cons_succ]
            refine wpAnyH_take (i := 32) (v := ?_) rfl (by kernel_rfl) (by kernel_rfl) (by kernel_rfl) (fun _ _ _ h => h) (Or.inl ⟨by rfl, ?_⟩) (by assumption) ?_
            rotate_left
            focus
              intro U hU
              try dsimp only at hU
              go_simp
              try (with_reducible rfl)
            simp only [List.getElem_toArray, List.getElem_cons_succ, List.getElem_cons_zero, Act.put, List.setIfInBounds_toArray, List.set_cons_zero, List.set_cons_succ]
            refine wpAnyH_take (i := 33) (v := ?_) rfl (by kernel_rfl) (by kernel_rfl) (by kernel_rfl) (fun _ _ _ h => h) (Or.inl ⟨by rfl, ?_⟩) (by assumption) ?_
            rotate_left
            focus
              intro U hU
              try dsimp only at hU
              go_simp
              try (with_reducible rfl)
            simp only [List.getElem_toArray, List.getElem_cons_succ, List.getElem_cons_zero, Act.put, List.setIfInBounds_toArray, List.set_cons_zero, List.set_cons_succ]
            refine wpAnyH_ready (rs := [34]) (by kernel_rfl) (by simp) ?_
            refine AllReadyH.cons rfl (fun K hK => ?_) AllReadyH.nil
            simp only [List.getElem_toArray, List.getElem_cons_succ, List.getElem_cons_zero]
            go_simp
            refine (works26_any _).mono ?_
            rintro e u5 ⟨rfl, hq5⟩
            have hk5 := hk0.trans (hq5.mono hk0.size)
            go_wp2_with fail
            refine hK.out _ _ ?_ (fun hHeld2 => ?_)
            focus
              exact hSF _ hk5
            clear hHeld
            have hHeld := hHeld2
            clear hHeld2 hK K
            try simp only [List.getElem_toArray, List.getElem_cons_succ, List.getElem_cons_zero, Act.put, List.setIfInBounds_toArray, List.set_cons_zero, List.set_cons_succ]
            refine wpAnyH_take (i := 35) (v := ?_) rfl (by kernel_rfl) (by kernel_rfl) (by kernel_rfl) (fun _ _ _ h => h) (Or.inl ⟨by rfl, ?_⟩) (by assumption) ?_
            rotate_left
            focus
              intro U hU
              try dsimp only at hU
              go_simp
              try (with_reducible rfl)
            simp only [List.getElem_toArray, List.getElem_cons_succ, List.getElem_cons_zero, Act.put, List.setIfInBounds_toArray, List.set_cons_zero, List.set_cons_succ]
            refine wpAnyH_take (i := 36) (v := ?_) rfl (by kernel_rfl) (by kernel_rfl) (by kernel_rfl) (fun _ _ _ h => h) (Or.inl ⟨by rfl, ?_⟩) (by assumption) ?_
            rotate_left
            focus
              intro U hU
              try dsimp only at hU
              go_simp
              try (with_reducible rfl)
            simp only [List.getElem_toArray, List.getElem_cons_succ, List.getElem_cons_zero, Act.put, List.setIfInBounds_toArray, List.set_cons_zero, List.set_cons_succ]
            refine wpAnyH_done (by kernel_rfl) ?_ _
            clear hHeld
            have HB5 := hid (HB.out.trans (hk5.mono HB.out.size))
            clear hSF hk5 hk0 hq5
            go_wp2
            go_ret
            exact ⟨rfl, HB5.out⟩
          · have e1 : decide ((0 : Int) < (n : Int)) = true := decide_eq_true (by omega)
            have e2 : (0 : Int) < (n : Int) := by omega
            obtain ⟨n, rfl⟩ : ∃ n', n = n' + 1 := ⟨n - 1, by omega⟩
            clear hn0
            go_wp2
            go_loopw [6] (fun v wr2 => ∃ k : Nat, k ≤ 3000 ∧ v = .int .i64 (k : Int) ∧ Hid (KC W wr2 g n0 n1 (n + 1) k)) (fun v _ => 4000 - (intOf v).toNat)
            case atStart => exact ⟨0, by omega, rfl, hid HK.out.start⟩
            case round =>
              obtain ⟨k, hk, rfl, HC⟩ := hrel
              have k1 : (k : Int) < 4000 := by omega
              obtain ⟨a, b, w, A, ca, B, cb, D, cd, m, hx, hr, h3, h4, h5, h6⟩ := HC.out
              clear HC HK
              cases w with
              | nil =>
                have hg9 := hx.1
                simp only [prc, mkP, List.length_nil] at hg9
                have hg22 := (pair_cells hg9).1.2.2.2.2.2.2.2.2.2.2.2.2.2.2.2.2.2.2.2.2.2.2.1
                have q1 := hr.i.1.h4
                have q2 := hr.i.2.h4
                have HX := hid hx
                have HR := hid hr
                have HM := hid h5
                have HE1 := hid h3
                have HE2 := hid h4
                have HT0 := hid (fun w h => ticks0_any (mkP a b []) g W w A ca B cb D cd h (by show (namesT a.q a.n).length ≤ 1000; rw [namesT_len]; omega) (by show 0 ≤ 100000; omega))
                rw [ticks0_mk] at HT0
                have HT1 := hid (fun w (A : Option Addr) (ca : Nat) (B : Option Addr) (cb : Nat) (D : Option Addr) (cd : Nat) h => ticks1_any (mkP (tikS a) b ([] ++ tikL 0 8 a)) g W w A ca B cb D cd h (by show (namesT b.q b.n).length ≤ 1000; rw [namesT_len]; omega) (by show ([] ++ tikL 0 8 a).length ≤ 100000; have := tikL_len 0 8 a; rw [List.nil_append]; omega))
                rw [ticks1_mk] at HT1
                clear hg9 hx hr h3 h4 h5 h6 q1 q2
                go_wp2_with fail
                refine (HT0.out _ HX.out).mono ?_
                rintro e w6 ⟨⟨v, rfl⟩, A, ca, B, cb, D, cd, hx6⟩
                have HX6 := hid hx6
                clear hx6 HT0 HX hg22
                go_wp2_with fail
                refine (HT1.out _ A ca B cb D cd HX6.out).mono ?_
                rintro e w7 ⟨⟨v, rfl⟩, A, ca, B, cb, D, cd, hx7⟩
                have HX7 := hid hx7
                clear hx7 HT1 HX6
                go_wp2
                go_roundw
                case rel =>
                  refine ⟨n, by omega, by go_num, ?_⟩
                  have q1 := tikS_q a
                  have q2 := tikS_q b
                  have q3 := HE1.out
                  have q4 := HE2.out
                  rcases HM.out with rfl | hm
                  · exact hid ⟨_, _, _, A, ca, B, cb, D, cd, 0, HX7.out, rs_tick (rs_done HR.out 1) (by omega), by omega, by omega, .inl rfl⟩
                  · cases m with
                    | zero => exact hid ⟨_, _, _, A, ca, B, cb, D, cd, 0, HX7.out, rs_tick (rs_done HR.out 1) (by omega), by omega, by omega, .inl rfl⟩
                    | succ m => exact hid ⟨_, _, _, A, ca, B, cb, D, cd, m, HX7.out, rs_tick HR.out (by omega), by omega, by omega, .inr (by omega)⟩
                case measure => simp [intOf]
              | cons p r =>
                obtain ⟨L, hL⟩ : ∃ L, L = r.length + 1 := ⟨_, rfl⟩
                have hg9 := hx.1
                simp only [prc, mkP, List.length_cons, ← hL] at hg9
                have hg22 := (pair_cells hg9).1.2.2.2.2.2.2.2.2.2.2.2.2.2.2.2.2.2.2.2.2.2.2.1
                have e3 : (0 : Int) < (L : Int) := by omega
                have e4 : ¬ ((L : Int) ≤ 0) := by omega
                have hL0 : 0 < L := by omega
                obtain ⟨bD, oD, rfl, hcD⟩ := Sl.gat pkc_len (Mid.sl hx.2.2.2.2.1) 0 (Nat.succ_pos _) (by decide)
                have c0 := hcD 0 _ rfl
                have c1 := hcD 1 _ rfl
                have c2 := hcD 2 _ rfl
                have c3 := hcD 3 _ rfl
                have c4 := hcD 4 _ rfl
                have c5 := hcD 5 _ rfl
                have c6 := hcD 6 _ rfl
                simp only [mkP, List.getElem_cons_zero, Nat.zero_mul, Nat.add_zero] at c0 c1 c2 c3 c4 c5 c6
                have HX := hid hx
                have HCC := hid (rs_come hr (by omega))
                have HCM := hid (fun w (A : Option Addr) (ca : Nat) (B : Option Addr) (cb : Nat) (D : Option Addr) (cd : Nat) h => comes_any (inv_sub hr.i (fun x hx => List.mem_cons_of_mem _ hx) (by have := hr.i.5; simp at this; omega) : InvS 100 100 a b r) (hr.i.6 p (List.mem_cons_self ..)) (by omega) (by omega) g W w A ca B cb D cd h)
                simp only [pca] at HCM
                have HM := hid h5
                have HE1 := hid h3
                have HE2 := hid h4
                have HP := hid h6
                have HL := hid hL
                clear hg9 hx hr h3 h4 h5 h6 hcD hL
                go_upto_region 13 with (fail)
                refine at_world (fun u => u.heap[wr.heap.size]? = some (.cells (pca p) 71 (0, 0)) ∧ PX W u g (mkP a b (p :: r)) A ca B cb (some ⟨bD, oD, none⟩) cd) ⟨heap_alloc_new _ _, HX.out.keep ((Below.refl _ _).alloc (Nat.le_refl _) _)⟩ ?_
                clear HX c0 c1 c2 c3 c4 c5 c6 hg22
                generalize wr.heap.size = Pb at *
                rintro w6 ⟨hp6, hx6⟩
                have HP6 := hid hp6
                have HX6 := hid hx6
                have hg9 := hx6.1
                simp only [prc, mkP, List.length_cons, ← HL.out] at hg9
                have hg22 := (pair_cells hg9).1.2.2.2.2.2.2.2.2.2.2.2.2.2.2.2.2.2.2.2.2.2.2.1
                have cg22 := (pair_cells hg9).2.2.2.2.2.2.2.2.2.2.2.2.2.2.2.2.2.2.2.2.2.2.2.1
                clear hg9 hp6 hx6
                have hrun : ∀ w : World, (Instr.slice 56 (.slice (some ⟨bD, oD, none⟩) L cd) (some (.int .i64 1)) none none).run Try.prog w = .ok (.slice (dropA (some ⟨bD, oD, none⟩) cd 1 7) (L - 1) (cd - 1)) w := fun w => run_from Try.underlying56 info_pkt (some ⟨bD, oD, none⟩) L cd 1 (by omega) w
                go_upto_region 14 with (fail)
                refine at_world (fun u => u.heap[Pb]? = some (.cells (pca p) 71 (0, 0)) ∧ ∃ D cd, PX W u g (mkP a b r) A ca B cb D cd) ⟨(Below.heap_setCell _ _ _ Pb (blk_ne HX6.out.1 HP6.out (by decide))).trans HP6.out, _, _, by rw [HL.out]; exact HX6.out.tail⟩ ?_
                clear HP6 HX6 hg22 cg22 hrun
                rintro w7 ⟨hp7, D, cd, hx7⟩
                obtain ⟨⟨y0, y1, y2, y3, y4, y5, y6⟩, _⟩ := seven_cells hp7
                have HX7 := hid hx7
                clear hp7 hx7
                go_wp2_with fail
                refine (HCM.out _ A ca B cb D cd HX7.out).mono ?_
                rintro e w8 ⟨⟨v, rfl⟩, A, ca, B, cb, D, cd, hx8⟩
                have HX8 := hid hx8
                clear hx8 HX7 HCM y0 y1 y2 y3 y4 y5 y6
                go_wp2
                go_roundw
                case rel =>
                  obtain ⟨a', b', l', hv, hr', hph, hna', hnb'⟩ := HCC.out
                  have h9 := HX8.out
                  rw [hv] at h9
                  have q1 := HP.out
                  have q2 := HE1.out
                  have q3 := HE2.out
                  (repeat apply Exists.intro)
                  refine ⟨?_, rfl⟩
                  refine ⟨k + 1, by omega, by go_num, hid ⟨a', b', _, A, ca, B, cb, D, cd, m, h9, hr', by omega, by omega, HM.out, by omega⟩⟩
                case measure => simp [intOf]; omega
      · have i1 : (k : Int) < (l.length : Int) := by omega
        have i2 : ¬ ((k : Int) < 100) := by omega
        have d1 : decide ((k : Int) < (l.length : Int)) = true := decide_eq_true i1
        have d2 : decide ((k : Int) < 100) = false := decide_eq_false i2
        clear h9 h8
        go_upto_region 6 with (fail)
        go_quiet (fail)
        go_upto_region 7 with (fail)
        refine at_world (fun u => KR W u g a.n b.n (a.n + b.n + 10)) ⟨a, b, w, A1, ca, B1, cb, D1, cd, 9, HX.out.keep ⟨rfl, rfl, rfl, Nat.le_refl _, fun _ _ => rfl⟩, rs_0 HI.out, rfl, rfl, .inr (by omega)⟩ ?_
        clear p0 p1 p2 p3 p4 p5 p6 p7 p8 p9 p10 p11 p12 p13 p14 p15 p16 p17 p18 p19 p20 p21 p22 p23 p24 p25 p26 p27 HX HI hw1 hw2 hw3
        rintro w5 hk5
        have HK5 := hid hk5
        clear hk5
        generalize a.n = n0 at *
        generalize b.n = n1 at *
        go_loopw [5] (fun v wr => ∃ n : Nat, n ≤ n0 + n1 + 10 ∧ v = .int .i64 (n : Int) ∧ Hid (KR W wr g n0 n1 n)) (fun v _ => (intOf v).toNat)
        case atStart => exact ⟨_, Nat.le_refl _, rfl, HK5⟩
        case round =>
          obtain ⟨n, hn, rfl, HK⟩ := hrel
          rcases Nat.eq_zero_or_pos n with rfl | hn0
          · skip
            obtain ⟨a, b, w, A, ca, B, cb, D, cd, m, hx, hr, h3, h4, h5⟩ := HK.out
            obtain rfl : m = 0 := by omega
            obtain ⟨r1, r2, r3, r4⟩ := rs_end hr
            have l1 : namesT a.q a.n = [] := namesT_nil r3
            have l2 : namesT b.q b.n = [] := namesT_nil r4
            have hg9 := hx.1
            simp only [prc, mkP, mkE, l1, l2, List.length_nil, r1, r2] at hg9
            have HB := hid hx.2.2.2.2.2
            have heq : ∀ w : World, (binOp .eql 85 (.agg #[.int .i64 (a.n : Int), .int .i64 (b.n : Int)]) (.agg #[.int .i64 (a.n : Int), .int .i64 (b.n : Int)])).run Try.prog w = .ok (.bool true) w := fun w => arr_eq _ _ w
            have hSF : ∀ U, Below wr.heap.size wr U → (((U.cell? ⟨g, 5, none⟩ = some (.slice A 0 ca) ∧ U.cell? ⟨g, 16, none⟩ = some (.slice B 0 cb)) ∧ (U.cell? ⟨g, 23, none⟩ = some (.int .i64 (a.n : Int)) ∧ U.cell? ⟨g, 24, none⟩ = some (.int .i64 (b.n : Int)) ∧ U.cell? ⟨g, 25, none⟩ = some (.int .i64 (a.n : Int)) ∧ U.cell? ⟨g, 26, none⟩ = some (.int .i64 (b.n : Int)) ∧ U.cell? ⟨g, 27, none⟩ = some (.bool true))) ∧ Below wr.heap.size wr U) := fun U hU => by
              have h8 := (pair_cells (keep0 hg9 hU)).1
              exact ⟨⟨⟨h8.2.2.2.2.2.1, h8.2.2.2.2.2.2.2.2.2.2.2.2.2.2.2.2.1⟩, h8.2.2.2.2.2.2.2.2.2.2.2.2.2.2.2.2.2.2.2.2.2.2.2.1, h8.2.2.2.2.2.2.2.2.2.2.2.2.2.2.2.2.2.2.2.2.2.2.2.2.1, h8.2.2.2.2.2.2.2.2.2.2.2.2.2.2.2.2.2.2.2.2.2.2.2.2.2.1, h8.2.2.2.2.2.2.2.2.2.2.2.2.2.2.2.2.2.2.2.2.2.2.2.2.2.2.1, h8.2.2.2.2.2.2.2.2.2.2.2.2.2.2.2.2.2.2.2.2.2.2.2.2.2.2.2⟩, hU⟩
            have hk0 : Below wr.heap.size wr wr.drew := below_drew (Below.refl _ _)
            clear hg9 hx hr h3 h4 h5 r1 r2 r3 r4 l1 l2 HK
            go_upto_region 17 with (fail)
            refine wp_region_held_drew (S := fun U => ((U.cell? ⟨g, 5, none⟩ = some (.slice A 0 ca) ∧ U.cell? ⟨g, 16, none⟩ = some (.slice B 0 cb)) ∧ (U.cell? ⟨g, 23, none⟩ = some (.int .i64 (a.n : Int)) ∧ U.cell? ⟨g, 24, none⟩ = some (.int .i64 (b.n : Int)) ∧ U.cell? ⟨g, 25, none⟩ = some (.int .i64 (a.n : Int)) ∧ U.cell? ⟨g, 26, none⟩ = some (.int .i64 (b.n : Int)) ∧ U.cell? ⟨g, 27, none⟩ = some (.bool true))) ∧ Below wr.heap.size wr U) (by kernel_rfl) (hSF _ hk0) (fun hHeld => ?_)
            generalize wr.drew = q0 at *
            refine wpAnyH_take (i := 0) (v := ?_) rfl (by kernel_rfl) (by kernel_rfl) (by kernel_rfl) (fun _ _ _ h => h) (Or.inl ⟨by rfl, ?_⟩) (by assumption) ?_
            rotate_left
            focus
              intro U hU
              try dsimp only at hU
              go_simp
              try (with_reducible rfl)
            simp only [List.getElem_toArray, List.getElem_cons_succ, List.getElem_cons_zero, Act.put, List.setIfInBounds_toArray, List.set_cons_zero, List.set_cons_succ]
            refine wpAnyH_take (i := 1) (v := ?_) rfl (by kernel_rfl) (by kernel_rfl) (by kernel_rfl) (fun _ _ _ h => h) (Or.inl ⟨by rfl, ?_⟩) (by assumption) ?_
            rotate_left
            focus
              intro U hU
              try dsimp only at hU
              go_simp
              try (with_reducible rfl)
            simp only [List.getElem_toArray, List.getElem_cons_succ, List.getElem_cons_zero, Act.put, List.setIfInBounds_toArray, List.set_cons_zero, List.set_cons_succ]
            refine wpAnyH_take (i := 2) (v := ?_) rfl (by kernel_rfl) (by kernel_rfl) (by kernel_rfl) (fun _ _ _ h => h) (Or.inl ⟨by rfl, ?_⟩) (by assumption) ?_
            rotate_left
            focus
              intro U hU
              try dsimp only at hU
              go_simp
              try (with_reducible rfl)
            simp only [List.getElem_toArray, List.getElem_cons_succ, List.getElem_cons_zero, Act.put, List.setIfInBounds_toArray, List.set_cons_zero, List.set_cons_succ]
            refine wpAnyH_take (i := 3) (v := ?_) rfl (by kernel_rfl) (by kernel_rfl) (by kernel_rfl) (fun _ _ _ h => h) (Or.inl ⟨by rfl, ?_⟩) (by assumption) ?_
            rotate_left
            focus
              intro U hU
              try dsimp only at hU
              go_simp
              try (with_reducible rfl)
            simp only [List.getElem_toArray, List.getElem_cons_succ, List.getElem_cons_zero, Act.put, List.setIfInBounds_toArray, List.set_cons_zero, List.set_cons_succ]
            refine wpAnyH_take (i := 4) (v := ?_) rfl (by kernel_rfl) (by kernel_rfl) (by kernel_rfl) (fun _ _ _ h => h) (Or.inl ⟨by rfl, ?_⟩) (by assumption) ?_
            rotate_left
            focus
              intro U hU
              try dsimp only at hU
              go_simp
              try (with_reducible rfl)
            simp only [List.getElem_toArray, List.getElem_cons_succ, List.getElem_cons_zero, Act.put, List.setIfInBounds_toArray, List.set_cons_zero, List.set_cons_succ]
            refine wpAnyH_take (i := 5) (v := ?_) rfl (by kernel_rfl) (by kernel_rfl) (by kernel_rfl) (fun _ _ _ h => h) (Or.inl ⟨by rfl, ?_⟩) (by assumption) ?_
            rotate_left
            focus
              intro U hU
              try dsimp only at hU
              go_simp
              try (with_reducible rfl)
            simp only [List.getElem_toArray, List.getElem_cons_succ, List.getElem_cons_zero, Act.put, List.setIfInBounds_toArray, List.set_cons_zero, List.set_cons_succ]
            refine wpAnyH_take (i := 6) (v := ?_) rfl (by kernel_rfl) (by kernel_rfl) (by kernel_rfl) (fun _ _ _ h => h) (Or.inl ⟨by rfl, ?_⟩) (by assumption) ?_
            rotate_left
            focus
              intro U hU
              try dsimp only at hU
              go_simp
              try (with_reducible rfl)
            simp only [List.getElem_toArray, List.getElem_cons_succ, List.getElem_cons_zero, Act.put, List.setIfInBounds_toArray, List.set_cons_zero, List.set_cons_succ]
            refine wpAnyH_take (i := 7) (v := ?_) rfl (by kernel_rfl) (by kernel_rfl) (by kernel_rfl) (fun _ _ _ h => h) (Or.inl ⟨by rfl, ?_⟩) (by assumption) ?_
            rotate_left
            focus
              intro U hU
              try dsimp only at hU
              go_simp
              try (with_reducible rfl)
            simp only [List.getElem_toArray, List.getElem_cons_succ, List.getElem_cons_zero, Act.put, List.setIfInBounds_toArray, List.set_cons_zero, List.set_cons_succ]
            refine wpAnyH_take (i := 8) (v := ?_) rfl (by kernel_rfl) (by kernel_rfl) (by kernel_rfl) (fun _ _ _ h => h) (Or.inl ⟨by rfl, ?_⟩) (by assumption) ?_
            rotate_left
            focus
              intro U hU
              try dsimp only at hU
              go_simp
              try (with_reducible rfl)
            simp only [List.getElem_toArray, List.getElem_cons_succ, List.getElem_cons_zero, Act.put, List.setIfInBounds_toArray, List.set_cons_zero, List.set_cons_succ]
            refine wpAnyH_take (i := 9) (v := ?_) rfl (by kernel_rfl) (by kernel_rfl) (by kernel_rfl) (fun _ _ _ h => h) (Or.inl ⟨by rfl, ?_⟩) (by assumption) ?_
            rotate_left
            focus
              intro U hU
              try dsimp only at hU
              go_simp
              try (with_reducible rfl)
            simp only [List.getElem_toArray, List.getElem_cons_succ, List.getElem_cons_zero, Act.put, List.setIfInBounds_toArray, List.set_cons_zero, List.set_cons_succ]
            refine wpAnyH_take (i := 10) (v := ?_) rfl (by kernel_rfl) (by kernel_rfl) (by kernel_rfl) (fun _ _ _ h => h) (Or.inl ⟨by rfl, ?_⟩) (by assumption) ?_
            rotate_left
            focus
              intro U hU
              try dsimp only at hU
              go_simp
              try (with_reducible rfl)
            simp only [List.getElem_toArray, List.getElem_cons_succ, List.getElem_cons_zero, Act.put, List.setIfInBounds_toArray, List.set_cons_zero, List.set_cons_succ]
            refine wpAnyH_take (i := 11) (v := ?_) rfl (by kernel_rfl) (by kernel_rfl) (by kernel_rfl) (fun _ _ _ h => h) (Or.inl ⟨by rfl, ?_⟩) (by assumption) ?_
            rotate_left
            focus
              intro U hU
              try dsimp only at hU
              go_simp
              try (with_reducible rfl)
            simp only [List.getElem_toArray, List.getElem_cons_succ, List.getElem_cons_zero, Act.put, List.setIfInBounds_toArray, List.set_cons_zero, List.set_cons_succ]
            refine wpAnyH_take (i := 12) (v := ?_) rfl (by kernel_rfl) (by kernel_rfl) (by kernel_rfl) (fun _ _ _ h => h) (Or.inl ⟨by rfl, ?_⟩) (by assumption) ?_
            rotate_left
            focus
              intro U hU
              try dsimp only at hU
              go_simp
              try (with_reducible rfl)
            simp only [List.getElem_toArray, List.getElem_cons_succ, List.getElem_cons_zero, Act.put, List.setIfInBounds_toArray, List.set_cons_zero, List.set_cons_succ]
            refine wpAnyH_take (i := 13) (v := ?_) rfl (by kernel_rfl) (by kernel_rfl) (by kernel_rfl) (fun _ _ _ h => h) (Or.inl ⟨by rfl, ?_⟩) (by assumption) ?_
            rotate_left
            focus
              intro U hU
              try dsimp only at hU
              go_simp
              try (with_reducible rfl)
            simp only [List.getElem_toArray, List.getElem_cons_succ, List.getElem_cons_zero, Act.put, List.setIfInBounds_toArray, List.set_cons_zero, List.set_cons_succ]
            refine wpAnyH_take (i := 14) (v := ?_) rfl (by kernel_rfl) (by kernel_rfl) (by kernel_rfl) (fun _ _ _ h => h) (Or.inl ⟨by rfl, ?_⟩) (by assumption) ?_
            rotate_left
            focus
              intro U hU
              try dsimp only at hU
              go_simp
              try (with_reducible rfl)
            simp only [List.getElem_toArray, List.getElem_cons_succ, List.getElem_cons_zero, Act.put, List.setIfInBounds_toArray, List.set_cons_zero, List.set_cons_succ]
            refine wpAnyH_take (i := 15) (v := ?_) rfl (by kernel_rfl) (by kernel_rfl) (by kernel_rfl) (fun _ _ _ h => h) (Or.inl ⟨by rfl, ?_⟩) (by assumption) ?_
            rotate_left
            focus
              intro U hU
              try dsimp only at hU
              go_simp
              try (with_reducible rfl)
            simp only [List.getElem_toArray, List.getElem_cons_succ, List.getElem_cons_zero, Act.put, List.setIfInBounds_toArray, List.set_cons_zero, List.set_cons_succ]
            refine wpAnyH_take (i := 16) (v := ?_) rfl (by kernel_rfl) (by kernel_rfl) (by kernel_rfl) (fun _ _ _ h => h) (Or.inl ⟨by rfl, ?_⟩) (by assumption) ?_
            rotate_left
            focus
              intro U hU
              try dsimp only at hU
              go_simp
              try (with_reducible rfl)
            simp only [List.getElem_toArray, List.getElem_cons_succ, List.getElem_cons_zero, Act.put, List.setIfInBounds_toArray, List.set_cons_zero, List.set_cons_succ]
            refine wpAnyH_take (i := 17) (v := ?_) rfl (by kernel_rfl) (by kernel_rfl) (by kernel_rfl) (fun _ _ _ h => h) (Or.inl ⟨by rfl, ?_⟩) (by assumption) ?_
            rotate_left
            focus
              intro U hU
              try dsimp only at hU
              go_simp
              try (with_reducible rfl)
            simp only [List.getElem_toArray, List.getElem_cons_succ, List.getElem_cons_zero, Act.put, List.setIfInBounds_toArray, List.set_cons_zero, List.set_cons_succ]
            refine wpAnyH_take (i := 18) (v := ?_) rfl (by kernel_rfl) (by kernel_rfl) (by kernel_rfl) (fun _ _ _ h => h) (Or.inl ⟨by rfl, ?_⟩) (by assumption) ?_
            rotate_left
            focus
              intro U hU
              try dsimp only at hU
              go_simp
              try (with_reducible rfl)
            simp only [List.getElem_toArray, List.getElem_cons_succ, List.getElem_cons_zero, Act.put, List.setIfInBounds_toArray, List.set_cons_zero, List.set_cons_succ]
            refine wpAnyH_take (i := 19) (v := ?_) rfl (by kernel_rfl) (by kernel_rfl) (by kernel_rfl) (fun _ _ _ h => h) (Or.inl ⟨by rfl, ?_⟩) (by assumption) ?_
            rotate_left
            focus
              intro U hU
              try dsimp only at hU
              go_simp
              try (with_reducible rfl)
            simp only [List.getElem_toArray, List.getElem_cons_succ, List.getElem_cons_zero, Act.put, List.setIfInBounds_toArray, List.set_cons_zero, List.set_cons_succ]
            refine wpAnyH_take (i := 20) (v := ?_) rfl (by kernel_rfl) (by kernel_rfl) (by kernel_rfl) (fun _ _ _ h => h) (Or.inl ⟨by rfl, ?_⟩) (by assumption) ?_
            rotate_left
            focus
              intro U hU
              try dsimp only at hU
              go_simp
              try (with_reducible rfl)
            simp only [List.getElem_toArray, List.getElem_cons_succ, List.getElem_cons_zero, Act.put, List.setIfInBounds_toArray, List.set_cons_zero, List.set_cons_succ]
            refine wpAnyH_take (i := 21) (v := ?_) rfl (by kernel_rfl) (by kernel_rfl) (by kernel_rfl) (fun _ _ _ h => h) (Or.inl ⟨by rfl, ?_⟩) (by assumption) ?_
            rotate_left
            focus
              intro U hU
              try dsimp only at hU
              go_simp
              try (with_reducible rfl)
            simp only [List.getElem_toArray, List.getElem_cons_succ, List.getElem_cons_zero, Act.put, List.setIfInBounds_toArray, List.set_cons_zero, List.set_cons_succ]
            refine wpAnyH_take (i := 22) (v := ?_) rfl (by kernel_rfl) (by kernel_rfl) (by kernel_rfl) (fun _ _ _ h => h) (Or.inl ⟨by rfl, ?_⟩) (by assumption) ?_
            rotate_left
            focus
              intro U hU
              try dsimp only at hU
              go_simp
              try (with_reducible rfl)
            simp only [List.getElem_toArray, List.getElem_cons_succ, List.getElem_cons_zero, Act.put, List.setIfInBounds_toArray, List.set_cons_zero, List.set_cons_succ]
            refine wpAnyH_take (i := 23) (v := ?_) rfl (by kernel_rfl) (by kernel_rfl) (by kernel_rfl) (fun _ _ _ h => h) (Or.inl ⟨by rfl, ?_⟩) (by assumption) ?_
            rotate_left
            focus
              intro U hU
              try dsimp only at hU
              go_simp
              try (with_reducible rfl)
            simp only [List.getElem_toArray, List.getElem_cons_succ, List.getElem_cons_zero, Act.put, List.setIfInBounds_toArray, List.set_cons_zero, List.set_cons_succ]
            refine wpAnyH_take (i := 24) (v := ?_) rfl (by kernel_rfl) (by kernel_rfl) (by kernel_rfl) (fun _ _ _ h => h) (Or.inl ⟨by rfl, ?_⟩) (by assumption) ?_
            rotate_left
            focus
              intro U hU
              try dsimp only at hU
              go_simp
              try (with_reducible rfl)
            simp only [List.getElem_toArray, List.getElem_cons_succ, List.getElem_cons_zero, Act.put, List.setIfInBounds_toArray, List.set_cons_zero, List.set_cons_succ]
            refine wpAnyH_take (i := 25) (v := ?_) rfl (by kernel_rfl) (by kernel_rfl) (by kernel_rfl) (fun _ _ _ h => h) (Or.inl ⟨by rfl, ?_⟩) (by assumption) ?_
            rotate_left
            focus
              intro U hU
              try dsimp only at hU
              go_simp
              try (with_reducible rfl)
            simp only [List.getElem_toArray, List.getElem_cons_succ, List.getElem_cons_zero, Act.put, List.setIfInBounds_toArray, List.set_cons_zero, List.set_cons_succ]
            refine wpAnyH_take (i := 26) (v := ?_) rfl (by kernel_rfl) (by kernel_rfl) (by kernel_rfl) (fun _ _ _ h => h) (Or.inl ⟨by rfl, ?_⟩) (by assumption) ?_
            rotate_left
            focus
              intro U hU
              try dsimp only at hU
              go_simp
              try (with_reducible rfl)
            simp only [List.getElem_toArray, List.getElem_cons_succ, List.getElem_cons_zero, Act.put, List.setIfInBounds_toArray, List.set_cons_zero, List.set_cons_succ]
            refine wpAnyH_take (i := 27) (v := ?_) rfl (by kernel_rfl) (by kernel_rfl) (by kernel_rfl) (fun _ _ _ h => h) (Or.inl ⟨by rfl, ?_⟩) (by assumption) ?_
            rotate_left
            focus
              intro U hU
              try dsimp only at hU
              go_simp
              try (with_reducible rfl)
            simp only [List.getElem_toArray, List.getElem_cons_succ, List.getElem_cons_zero, Act.put, List.setIfInBounds_toArray, List.set_cons_zero, List.set_cons_succ]
            refine wpAnyH_take (i := 28) (v := ?_) rfl (by kernel_rfl) (by kernel_rfl) (by kernel_rfl) (fun _ _ _ h => h) (Or.inl ⟨by rfl, ?_⟩) (by assumption) ?_
            rotate_left
            focus
              intro U hU
              try dsimp only at hU
              go_simp
              try (with_reducible rfl)
            simp only [List.getElem_toArray, List.getElem_cons_succ, List.getElem_cons_zero, Act.put, List.setIfInBounds_toArray, List.set_cons_zero, List.set_cons_succ]
            refine wpAnyH_take (i := 29) (v := ?_) rfl (by kernel_rfl) (by kernel_rfl) (by kernel_rfl) (fun _ _ _ h => h) (Or.inl ⟨by rfl, ?_⟩) (by assumption) ?_
            rotate_left
            focus
              intro U hU
              try dsimp only at hU
              go_simp
              try (with_reducible rfl)
            simp only [List.getElem_toArray, List.getElem_cons_succ, List.getElem_cons_zero, Act.put, List.setIfInBounds_toArray, List.set_cons_zero, List.set_cons_succ]
            refine wpAnyH_take (i := 30) (v := ?_) rfl (by kernel_rfl) (by kernel_rfl) (by kernel_rfl) (fun _ _ _ h => h) (Or.inl ⟨by rfl, ?_⟩) (by assumption) ?_
            rotate_left
            focus
              intro U hU
              try dsimp only at hU
              go_simp
              try (with_reducible rfl)
            simp only [List.getElem_toArray, List.getElem_cons_succ, List.getElem_cons_zero, Act.put, List.setIfInBounds_toArray, List.set_cons_zero, List.set_cons_succ]
            refine wpAnyH_take (i := 31) (v := ?_) rfl (by kernel_rfl) (by kernel_rfl) (by kernel_rfl) (fun _ _ _ h => h) (Or.inl ⟨by rfl, ?_⟩) (by assumption) ?_
            rotate_left
            focus
              intro U hU
              try dsimp only at hU
              go_simp
              try (with_reducible rfl)
            simp only [List.getElem_toArray, List.getElem_cons_succ, List.getElem_cons_zero, Act.put, List.setIfInBounds_toArray, List.set_cons_zero, List.set_cons_succ]
            refine wpAnyH_take (i := 32) (v := ?_) rfl (by kernel_rfl) (by kernel_rfl) (by kernel_rfl) (fun _ _ _ h => h) (Or.inl ⟨by rfl, ?_⟩) (by assumption) ?_
            rotate_left
            focus
              intro U hU
              try dsimp only at hU
              go_simp
              try (with_reducible rfl)
            simp only [List.getElem_toArray, List.getElem_cons_succ, List.getElem_cons_zero, Act.put, List.setIfInBounds_toArray, List.set_cons_zero, List.set_cons_succ]
            refine wpAnyH_take (i := 33) (v := ?_) rfl (by kernel_rfl) (by kernel_rfl) (by kernel_rfl) (fun _ _ _ h => h) (Or.inl ⟨by rfl, ?_⟩) (by assumption) ?_
            rotate_left
            focus
              intro U hU
              try dsimp only at hU
              go_simp
              try (with_reducible rfl)
            simp only [List.getElem_toArray, List.getElem_cons_succ, List.getElem_cons_zero, Act.put, List.setIfInBounds_toArray, List.set_cons_zero, List.set_cons_succ]
            refine wpAnyH_ready (rs := [34]) (by kernel_rfl) (by simp) ?_
            refine AllReadyH.cons rfl (fun K hK => ?_) AllReadyH.nil
            simp only [List.getElem_toArray, List.getElem_cons_succ, List.getElem_cons_zero]
            go_simp
            refine (works26_any _).mono ?_
            rintro e u5 ⟨rfl, hq5⟩
            have hk5 := hk0.trans (hq5.mono hk0.size)
            go_wp2_with fail
            refine hK.out _ _ ?_ (fun hHeld2 => ?_)
            focus
              exact hSF _ hk5
            clear hHeld
            have hHeld := hHeld2
            clear hHeld2 hK K
            try simp only [List.getElem_toArray, List.getElem_cons_succ, List.getElem_cons_zero, Act.put, List.setIfInBounds_toArray, List.set_cons_zero, List.set_cons_succ]
            refine wpAnyH_take (i := 35) (v := ?_) rfl (by kernel_rfl) (by kernel_rfl) (by kernel_rfl) (fun _ _ _ h => h) (Or.inl ⟨by rfl, ?_⟩) (by assumption) ?_
            rotate_left
            focus
              intro U hU
              try dsimp only at hU
              go_simp
              try (with_reducible rfl)
            simp only [List.getElem_toArray, List.getElem_cons_succ, List.getElem_cons_zero, Act.put, List.setIfInBounds_toArray, List.set_cons_zero, List.set_cons_succ]
            refine wpAnyH_take (i := 36) (v := ?_) rfl (by kernel_rfl) (by kernel_rfl) (by kernel_rfl) (fun _ _ _ h => h) (Or.inl ⟨by rfl, ?_⟩) (by assumption) ?_
            rotate_left
            focus
              intro U hU
              try dsimp only at hU
              go_simp
              try (with_reducible rfl)
            simp only [List.getElem_toArray, List.getElem_cons_succ, List.getElem_cons_zero, Act.put, List.setIfInBounds_toArray, List.set_cons_zero, List.set_cons_succ]
            refine wpAnyH_done (by kernel_rfl) ?_ _
            clear hHeld
            have HB5 := hid (HB.out.trans (hk5.mono HB.out.size))
            clear hSF hk5 hk0 hq5
            go_wp2
            go_ret
            exact ⟨rfl, HB5.out⟩
          · have e1 : decide ((0 : Int) < (n : Int)) = true := decide_eq_true (by omega)
            have e2 : (0 : Int) < (n : Int) := by omega
            obtain ⟨n, rfl⟩ : ∃ n', n = n' + 1 := ⟨n - 1, by omega⟩
            clear hn0
            go_wp2
            go_loopw [6] (fun v wr2 => ∃ k : Nat, k ≤ 3000 ∧ v = .int .i64 (k : Int) ∧ Hid (KC W wr2 g n0 n1 (n + 1) k)) (fun v _ => 4000 - (intOf v).toNat)
            case atStart => exact ⟨0, by omega, rfl, hid HK.out.start⟩
            case round =>
              obtain ⟨k, hk, rfl, HC⟩ := hrel
              have k1 : (k : Int) < 4000 := by omega
              obtain ⟨a, b, w, A, ca, B, cb, D, cd, m, hx, hr, h3, h4, h5, h6⟩ := HC.out
              clear HC HK
              cases w with
              | nil =>
                have hg9 := hx.1
                simp only [prc, mkP, List.length_nil] at hg9
                have hg22 := (pair_cells hg9).1.2.2.2.2.2.2.2.2.2.2.2.2.2.2.2.2.2.2.2.2.2.2.1
                have q1 := hr.i.1.h4
                have q2 := hr.i.2.h4
                have HX := hid hx
                have HR := hid hr
                have HM := hid h5
                have HE1 := hid h3
                have HE2 := hid h4
                have HT0 := hid (fun w h => ticks0_any (mkP a b []) g W w A ca B cb D cd h (by show (namesT a.q a.n).length ≤ 1000; rw [namesT_len]; omega) (by show 0 ≤ 100000; omega))
                rw [ticks0_mk] at HT0
                have HT1 := hid (fun w (A : Option Addr) (ca : Nat) (B : Option Addr) (cb : Nat) (D : Option Addr) (cd : Nat) h => ticks1_any (mkP (tikS a) b ([] ++ tikL 0 8 a)) g W w A ca B cb D cd h (by show (namesT b.q b.n).length ≤ 1000; rw [namesT_len]; omega) (by show ([] ++ tikL 0 8 a).length ≤ 100000; have := tikL_len 0 8 a; rw [List.nil_append]; omega))
                rw [ticks1_mk] at HT1
                clear hg9 hx hr h3 h4 h5 h6 q1 q2
                go_wp2_with fail
                refine (HT0.out _ HX.out).mono ?_
                rintro e w6 ⟨⟨v, rfl⟩, A, ca, B, cb, D, cd, hx6⟩
                have HX6 := hid hx6
                clear hx6 HT0 HX hg22
                go_wp2_with fail
                refine (HT1.out _ A ca B cb D cd HX6.out).mono ?_
                rintro e w7 ⟨⟨v, rfl⟩, A, ca, B, cb, D, cd, hx7⟩
                have HX7 := hid hx7
                clear hx7 HT1 HX6
                go_wp2
                go_roundw
                case rel =>
                  refine ⟨n, by omega, by go_num, ?_⟩
                  have q1 := tikS_q a
                  have q2 := tikS_q b
                  have q3 := HE1.out
                  have q4 := HE2.out
                  rcases HM.out with rfl | hm
                  · exact hid ⟨_, _, _, A, ca, B, cb, D, cd, 0, HX7.out, rs_tick (rs_done HR.out 1) (by omega), by omega, by omega, .inl rfl⟩
                  · cases m with
                    | zero => exact hid ⟨_, _, _, A, ca, B, cb, D, cd, 0, HX7.out, rs_tick (rs_done HR.out 1) (by omega), by omega, by omega, .inl rfl⟩
                    | succ m => exact hid ⟨_, _, _, A, ca, B, cb, D, cd, m, HX7.out, rs_tick HR.out (by omega), by omega, by omega, .inr (by omega)⟩
                case measure => simp [intOf]
              | cons p r =>
                obtain ⟨L, hL⟩ : ∃ L, L = r.length + 1 := ⟨_, rfl⟩
                have hg9 := hx.1
                simp only [prc, mkP, List.length_cons, ← hL] at hg9
                have hg22 := (pair_cells hg9).1.2.2.2.2.2.2.2.2.2.2.2.2.2.2.2.2.2.2.2.2.2.2.1
                have e3 : (0 : Int) < (L : Int) := by omega
                have e4 : ¬ ((L : Int) ≤ 0) := by omega
                have hL0 : 0 < L := by omega
                obtain ⟨bD, oD, rfl, hcD⟩ := Sl.gat pkc_len (Mid.sl hx.2.2.2.2.1) 0 (Nat.succ_pos _) (by decide)
                have c0 := hcD 0 _ rfl
                have c1 := hcD 1 _ rfl
                have c2 := hcD 2 _ rfl
                have c3 := hcD 3 _ rfl
                have c4 := hcD 4 _ rfl
                have c5 := hcD 5 _ rfl
                have c6 := hcD 6 _ rfl
                simp only [mkP, List.getElem_cons_zero, Nat.zero_mul, Nat.add_zero] at c0 c1 c2 c3 c4 c5 c6
                have HX := hid hx
                have HCC := hid (rs_come hr (by omega))
                have HCM := hid (fun w (A : Option Addr) (ca : Nat) (B : Option Addr) (cb : Nat) (D : Option Addr) (cd : Nat) h => comes_any (inv_sub hr.i (fun x hx => List.mem_cons_of_mem _ hx) (by have := hr.i.5; simp at this; omega) : InvS 100 100 a b r) (hr.i.6 p (List.mem_cons_self ..)) (by omega) (by omega) g W w A ca B cb D cd h)
                simp only [pca] at HCM
                have HM := hid h5
                have HE1 := hid h3
                have HE2 := hid h4
                have HP := hid h6
                have HL := hid hL
                clear hg9 hx hr h3 h4 h5 h6 hcD hL
                go_upto_region 13 with (fail)
                refine at_world (fun u => u.heap[wr.heap.size]? = some (.cells (pca p) 71 (0, 0)) ∧ PX W u g (mkP a b (p :: r)) A ca B cb (some ⟨bD, oD, none⟩) cd) ⟨heap_alloc_new _ _, HX.out.keep ((Below.refl _ _).alloc (Nat.le_refl _) _)⟩ ?_
                clear HX c0 c1 c2 c3 c4 c5 c6 hg22
                generalize wr.heap.size = Pb at *
                rintro w6 ⟨hp6, hx6⟩
                have HP6 := hid hp6
                have HX6 := hid hx6
                have hg9 := hx6.1
                simp only [prc, mkP, List.length_cons, ← HL.out] at hg9
                have hg22 := (pair_cells hg9).1.2.2.2.2.2.2.2.2.2.2.2.2.2.2.2.2.2.2.2.2.2.2.1
                have cg22 := (pair_cells hg9).2.2.2.2.2.2.2.2.2.2.2.2.2.2.2.2.2.2.2.2.2.2.2.1
                clear hg9 hp6 hx6
                have hrun : ∀ w : World, (Instr.slice 56 (.slice (some ⟨bD, oD, none⟩) L cd) (some (.int .i64 1)) none none).run Try.prog w = .ok (.slice (dropA (some ⟨bD, oD, none⟩) cd 1 7) (L - 1) (cd - 1)) w := fun w => run_from Try.underlying56 info_pkt (some ⟨bD, oD, none⟩) L cd 1 (by omega) w
                go_upto_region 14 with (fail)
                refine at_world (fun u => u.heap[Pb]? = some (.cells (pca p) 71 (0, 0)) ∧ ∃ D cd, PX W u g (mkP a b r) A ca B cb D cd) ⟨(Below.heap_setCell _ _ _ Pb (blk_ne HX6.out.1 HP6.out (by decide))).trans HP6.out, _, _, by rw [HL.out]; exact HX6.out.tail⟩ ?_
                clear HP6 HX6 hg22 cg22 hrun
                rintro w7 ⟨hp7, D, cd, hx7⟩
                obtain ⟨⟨y0, y1, y2, y3, y4, y5, y6⟩, _⟩ := seven_cells hp7
                have HX7 := hid hx7
                clear hp7 hx7
                go_wp2_with fail
                refine (HCM.out _ A ca B cb D cd HX7.out).mono ?_
                rintro e w8 ⟨⟨v, rfl⟩, A, ca, B, cb, D, cd, hx8⟩
                have HX8 := hid hx8
                clear hx8 HX7 HCM y0 y1 y2 y3 y4 y5 y6
                go_wp2
                go_roundw
                case rel =>
                  obtain ⟨a', b', l', hv, hr', hph, hna', hnb'⟩ := HCC.out
                  have h9 := HX8.out
                  rw [hv] at h9
                  have q1 := HP.out
                  have q2 := HE1.out
                  have q3 := HE2.out
                  (repeat apply Exists.intro)
                  refine ⟨?_, rfl⟩
                  refine ⟨k + 1, by omega, by go_num, hid ⟨a', b', _, A, ca, B, cb, D, cd, m, h9, hr', by omega, by omega, HM.out, by omega⟩⟩
                case measure => simp [intOf]; omega
end Go.Proofs.Ytdekemlckpbbcaa
