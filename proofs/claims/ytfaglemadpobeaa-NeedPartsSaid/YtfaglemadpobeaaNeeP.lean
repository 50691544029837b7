/- NeedTells, NeedJoins: the laws. -/
import Derived.Test.YtfaglemadpobeaaNeeO
namespace Go.Proofs.Ytfaglemadpobeaa
open Go.RowKit Go.Sort
set_option linter.unusedVariables false
set_option linter.unusedSimpArgs false

theorem wf_u64m {n : Int} (h : (Lit.int .u64 n).wf = true) : ∃ s : Nat, n = (s : Int) ∧ s < 18446744073709551616 := by
  simp [Lit.wf, IntKind.min, IntKind.max, IntKind.signed, IntKind.bits] at h
  exact ⟨n.toNat, by omega, by omega⟩
set_option maxRecDepth 20000 in
set_option maxHeartbeats 4000000 in
theorem needTells_small (A : Option Addr) (cap : Nat) (l : List (Int × Int)) (s : Nat) (W : World) (hA : Sl W 2 A l.length cap (pcells l)) (hl : l.length ≤ 100) (hs : s < 18446744073709551616) :
    Calls Try.prog 4 #[.slice A l.length cap, .int .u64 (s : Int)] W fun e w' => e = .returned (.bool true) ∧ Below W.heap.size W w' := by
  have HD := hid (fun w (hb : Below W.heap.size W w) => ndepth_any A cap l w (hA.below hb) (by omega))
  have HD2 := hid (fun w (hb : Below W.heap.size W w) => rdepth09_any A cap l w (hA.below hb) (by omega))
  have HS := hid (fun w (hb : Below W.heap.size W w) => nsays_any A cap l s w (hA.below hb) (by omega) hs)
  have HS2 := hid (fun w (hb : Below W.heap.size W w) => rsays09_any A cap l s w (hA.below hb) (by omega) hs)
  have HK := hid (fun w (hb : Below W.heap.size W w) => nasks_any A cap l w (hA.below hb) (by omega))
  have HK2 := hid (fun w (hb : Below W.heap.size W w) => rasks09_any A cap l w (hA.below hb) (by omega))
  have HP := hid (fun w (hb : Below W.heap.size W w) => nparts_any A cap l w (hA.below hb) (by omega))
  have HP2 := hid (fun w (hb : Below W.heap.size W w) => rparts_any A cap l w (hA.below hb) (by omega))
  have i1 : ¬ (100 : Int) < (l.length : Int) := by omega
  have d1 : decide ((100 : Int) < (l.length : Int)) = false := decide_eq_false i1
  clear hA hl hs
  generalize depN l = k1 at *
  generalize sayN l s = k2 at *
  generalize askN l = k3 at *
  generalize partsN l = ps at *
  generalize l.length = x at *
  have e1 : (k1 == k1) = true := by simp
  have e2 : (k2 == k2) = true := by simp
  have e3 : ((k3 : Int) == (k3 : Int)) = true := by simp
  have HB0 : Hid (Below W.heap.size W W) := hid (Below.refl _ _)
  go_enter Try.func4, Try.ntmps4
  go_wp2_with fail
  refine (HD.out _ HB0.out).mono ?_
  rintro e w1 ⟨rfl, hb⟩
  have HB1 := hid (HB0.out.trans (hb.mono HB0.out.size))
  clear hb HB0 HD
  go_wp2_with fail
  refine (HD2.out _ HB1.out).mono ?_
  rintro e w2 ⟨rfl, hb⟩
  have HB2 := hid (HB1.out.trans (hb.mono HB1.out.size))
  clear hb HB1 HD2
  go_wp2_with fail
  refine (HS.out _ HB2.out).mono ?_
  rintro e w3 ⟨rfl, hb⟩
  have HB3 := hid (HB2.out.trans (hb.mono HB2.out.size))
  clear hb HB2 HS
  go_wp2_with fail
  refine (HS2.out _ HB3.out).mono ?_
  rintro e w4 ⟨rfl, hb⟩
  have HB4 := hid (HB3.out.trans (hb.mono HB3.out.size))
  clear hb HB3 HS2
  go_wp2_with fail
  refine (HK.out _ HB4.out).mono ?_
  rintro e w5 ⟨rfl, hb⟩
  have HB5 := hid (HB4.out.trans (hb.mono HB4.out.size))
  clear hb HB4 HK
  go_wp2_with fail
  refine (HK2.out _ HB5.out).mono ?_
  rintro e w6 ⟨rfl, hb⟩
  have HB6 := hid (HB5.out.trans (hb.mono HB5.out.size))
  clear hb HB5 HK2
  go_wp2_with fail
  refine (HP.out _ HB6.out).mono ?_
  rintro e w7 ⟨A7, c7, ys, hy, rfl, h7, hb⟩
  have HB7 := hid (HB6.out.trans (hb.mono HB6.out.size))
  have H7 := hid h7
  have HY := hid hy
  clear hb h7 hy HB6 HP
  go_wp2_with fail
  refine (HP2.out _ HB7.out).mono ?_
  rintro e w8 ⟨A8, c8, zs, hz, rfl, h8, hb⟩
  have HB8 := hid (HB7.out.trans (hb.mono HB7.out.size))
  have HL := hid (rlists_any A7 A8 c7 c8 ys zs w8 (H7.out.below hb) h8)
  rw [show (pls ys == pls zs) = true by rw [HY.out, hz]; simp] at HL
  clear hb h8 hz HB7 HP2 H7 HY
  generalize ys.length = y1 at *
  generalize zs.length = z1 at *
  go_wp2_with fail
  refine (HL.out).mono ?_
  rintro e w9 ⟨rfl, hb⟩
  have HB9 := hid (HB8.out.trans (hb.mono HB8.out.size))
  clear hb HB8 HL
  go_wp2_with fail
  refine (works09_any _).mono ?_
  rintro e w10 ⟨rfl, hb⟩
  have HB10 := hid (HB9.out.trans (hb.mono HB9.out.size))
  clear hb HB9
  go_wp2
  go_ret
  exact ⟨rfl, HB10.out⟩
set_option maxRecDepth 20000 in
theorem needTells_big (A : Option Addr) (x cap : Nat) (s : Int) (W : World) (hx : x ≤ maxLen) (h : 100 < x) :
    Calls Try.prog 4 #[.slice A x cap, .int .u64 s] W fun e w' => e = .returned (.bool true) ∧ Below W.heap.size W w' := by
  unfold maxLen at hx
  have i1 : (100 : Int) < (x : Int) := by omega
  have d1 : decide ((100 : Int) < (x : Int)) = true := decide_eq_true i1
  clear h
  go_enter Try.func4, Try.ntmps4
  go_wp2_with fail
  refine (works09_any _).mono ?_
  rintro e w6 ⟨rfl, hb⟩
  go_wp2
  go_ret
  exact ⟨rfl, hb⟩
theorem needTells_law (A : Option Addr) (x cap : Nat) (s : Int) (W : World) (hA : Rd Try.prog W 22 [.slice A x cap]) (hs : (Lit.int .u64 s).wf = true) :
    Calls Try.prog 4 #[.slice A x cap, .int .u64 s] W fun e w' => e = .returned (.bool true) ∧ Below W.heap.size W w' := by
  obtain ⟨l, sl, rfl⟩ := nodes_in hA
  obtain ⟨s, rfl, hs9⟩ := wf_u64m hs
  by_cases h : 100 < l.length
  · exact needTells_big A _ cap _ W (Nat.le_trans sl.2.1 sl.2.2.1) h
  · exact needTells_small A cap l s W sl (by omega) hs9

/-- Lists that came in. -/
theorem lists_in {w : World} {A : Option Addr} {len cap : Nat} (h : Rd Try.prog w 32 [.slice A len cap]) : ∃ ys : List Pl, LsAt w A cap ys ∧ ys.length = len := by
  obtain ⟨ys, h1, h2, h3⟩ := rows_in (α := Pl) (f := fun p => [p.cell]) (fun p => Sl w 2 p.A p.l.length p.c (pcells p.l)) Try.underlying32 (n := 1) (by kernel_rfl) (by omega) (fun _ => rfl) (fun cs hl hr => by
    obtain ⟨B, len2, cap2, rfl⟩ : ∃ A len cap, cs = [.slice A len cap] := by
      rcases Rd.slice Try.underlying22 hr with h1 | ⟨ad, len, cap, _, h1, _⟩
      · exact ⟨_, _, _, h1⟩
      · exact ⟨_, _, _, h1⟩
    obtain ⟨l, sl, rfl⟩ := nodes_in hr
    exact ⟨⟨l, B, cap2⟩, rfl, sl⟩) h
  have e : gcells (fun p : Pl => [p.cell]) ys = plc ys := by
    unfold gcells plc
    clear h1 h2 h3
    induction ys with
    | nil => rfl
    | cons x l ih => rw [List.map_cons, List.flatten_cons, ih, List.map_cons]; rfl
  rw [e] at h1
  subst h2
  exact ⟨ys, ⟨h1, h3⟩, rfl⟩

set_option maxRecDepth 20000 in
set_option maxHeartbeats 4000000 in
theorem needJoins_small (op : Int) (A : Option Addr) (cap : Nat) (ys : List Pl) (W : World) (h : LsAt W A cap ys) (hl : ys.length ≤ 5) :
    Calls Try.prog 5 #[.int .i64 op, .slice A ys.length cap] W fun e w' => e = .returned (.bool true) ∧ Below W.heap.size W w' := by
  have HA := hid (fun w (hb : Below W.heap.size W w) => h.below hb)
  have HJ := hid (fun (hm : ∀ y ∈ ys, y.l.length ≤ 100) w (hb : Below W.heap.size W w) => njoin_any op A cap ys w (h.below hb) hl hm)
  have HR := hid (fun (hm : ∀ y ∈ ys, y.l.length ≤ 100) w (hb : Below W.heap.size W w) => rjoin_any op A cap ys w (h.below hb) hl hm)
  have i1 : (ys.length : Int) ≤ 5 := by omega
  clear h hl
  go_enter Try.func5, Try.ntmps5
  go_wp2_with fail
  go_loopw [5] (fun i wr => ∃ k : Nat, k ≤ ys.length ∧ i = .int .i64 (k : Int) ∧ Hid ((∀ j (hj : j < ys.length), j < k → ys[j].l.length ≤ 50) ∧ Below W.heap.size W wr)) (fun i _ => ys.length - (intOf i).toNat)
  case atStart => exact ⟨0, by omega, rfl, fun j _ h => absurd h (by omega), Below.refl _ _⟩
  case round =>
    obtain ⟨k, hk, rfl, HK⟩ := hrel
    by_cases hlt : k < ys.length
    · have hlt2 : (k : Int) < (ys.length : Int) := by omega
      obtain ⟨b1, o1, rfl, hc1, hs1⟩ := (HA.out _ HK.out.2).get k hlt
      have h9 := hs1.len63
      have HBW := hid HK.out.2
      by_cases h50 : 50 < ys[k].l.length
      · have h50' : (50 : Int) < (ys[k].l.length : Int) := by omega
        clear hs1 HK HA HJ HR
        generalize ys[k].l.length = m at *
        go_wp2_with fail
        refine (works09_any _).mono ?_
        rintro e w2 ⟨rfl, hb⟩
        have HB2 := hid (HBW.out.trans (hb.mono HBW.out.size))
        clear hb HBW hc1
        go_wp2
        go_ret
        exact ⟨rfl, HB2.out⟩
      · have h50' : ¬ (50 : Int) < (ys[k].l.length : Int) := by omega
        have HN : Hid (∀ j (hj : j < ys.length), j < k + 1 → ys[j].l.length ≤ 50) := hid (fun j hj hjk => by
          by_cases hj2 : j < k
          · exact HK.out.1 j hj hj2
          · obtain rfl : j = k := by omega
            omega)
        clear hs1 HK HA HJ HR h50
        generalize ys[k].l.length = m at *
        go_wp2
        go_roundw
        case rel => exact ⟨k + 1, by omega, by go_num, HN.out, HBW.out⟩
        case measure => simp [intOf]; omega
    · have hge : ¬ (k : Int) < (ys.length : Int) := by omega
      have hm : ∀ y ∈ ys, y.l.length ≤ 100 := fun y hy => by
        obtain ⟨j, hj, rfl⟩ := List.getElem_of_mem hy
        have := HK.out.1 j hj (by omega)
        omega
      have HBW := hid HK.out.2
      have HJ2 := hid (HJ.out hm)
      have HR2 := hid (HR.out hm)
      clear HK hm HJ HR HA
      generalize joinN op (pls ys) = js at *
      go_wp2_with fail
      refine (HJ2.out _ HBW.out).mono ?_
      rintro e w2 ⟨A2, c2, rfl, ho2, hb⟩
      have HB2 := hid (HBW.out.trans (hb.mono HBW.out.size))
      have H2 := hid (sl_own ho2)
      clear ho2 hb HBW HJ2
      go_wp2_with fail
      refine (HR2.out _ HB2.out).mono ?_
      rintro e w3 ⟨A3, c3, rfl, ho3, hb⟩
      have HB3 := hid (HB2.out.trans (hb.mono HB2.out.size))
      have HSM := hid (rnsame_bel A2 A3 c2 c3 js js w3 (H2.out.below hb) (sl_own ho3))
      rw [show (js == js) = true by simp] at HSM
      clear ho3 hb HB2 HR2 H2
      generalize js.length = y at *
      go_wp2_with fail
      refine HSM.out.mono ?_
      rintro e w4 ⟨rfl, hb⟩
      have HB4 := hid (HB3.out.trans (hb.mono HB3.out.size))
      clear hb HB3 HSM
      go_wp2_with fail
      refine (works09_any _).mono ?_
      rintro e w5 ⟨rfl, hb⟩
      have HB5 := hid (HB4.out.trans (hb.mono HB4.out.size))
      clear hb HB4
      go_wp2
      go_ret
      exact ⟨rfl, HB5.out⟩
set_option maxRecDepth 20000 in
theorem needJoins_big (op : Int) (A : Option Addr) (x cap : Nat) (W : World) (hx : x ≤ maxLen) (h : 5 < x) :
    Calls Try.prog 5 #[.int .i64 op, .slice A x cap] W fun e w' => e = .returned (.bool true) ∧ Below W.heap.size W w' := by
  unfold maxLen at hx
  have i1 : (5 : Int) < (x : Int) := by omega
  have d1 : decide ((5 : Int) < (x : Int)) = true := decide_eq_true i1
  clear h
  go_enter Try.func5, Try.ntmps5
  go_wp2_with fail
  refine (works09_any _).mono ?_
  rintro e w6 ⟨rfl, hb⟩
  go_wp2
  go_ret
  exact ⟨rfl, hb⟩
theorem needJoins_law (op : Int) (A : Option Addr) (x cap : Nat) (W : World) (hA : Rd Try.prog W 32 [.slice A x cap]) :
    Calls Try.prog 5 #[.int .i64 op, .slice A x cap] W fun e w' => e = .returned (.bool true) ∧ Below W.heap.size W w' := by
  obtain ⟨ys, h, rfl⟩ := lists_in hA
  by_cases h5 : 5 < ys.length
  · exact needJoins_big op A _ cap W (Nat.le_trans h.1.2.1 h.1.2.2.1) h5
  · exact needJoins_small op A cap ys W h (by omega)
end Go.Proofs.Ytfaglemadpobeaa
