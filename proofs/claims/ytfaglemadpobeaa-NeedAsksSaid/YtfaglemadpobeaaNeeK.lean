/- NeedAsks: what a need does not ask does not matter. -/
import Derived.Test.YtfaglemadpobeaaNeeJ
import Derived.BigQuiet
import Derived.Lib.QuietBelow
namespace Go.Proofs.Ytfaglemadpobeaa
open Go.RowKit Go.Sort
set_option linter.unusedVariables false
set_option linter.unusedSimpArgs false

theorem holds_same (s s' : Nat) : ∀ t : Nt, t.wf → (∀ i : Nat, i < 64 → t.asks.testBit i = true → s.testBit i = s'.testBit i) → t.holds s = t.holds s'
  | .yes, _, _ => rfl
  | .attr n, hw, h => by
    obtain ⟨h0, h1⟩ := hw
    simp only [Nt.holds, hasS]
    have h2 := h n.toNat (by omega) (by rw [Nt.asks, ofL_bit]; simp; omega)
    rw [h2]
  | .not t, hw, h => by
    simp only [Nt.holds]
    rw [holds_same s s' t hw (fun i hi ha => h i hi (by rw [Nt.asks, Nat.zero_or]; exact ha))]
  | .pair op a b, hw, h => by
    simp only [Nt.holds]
    rw [holds_same s s' a hw.2.1 (fun i hi ha => h i hi (by rw [Nt.asks, Nat.testBit_or, Nat.zero_or, ha, Bool.true_or])), holds_same s s' b hw.2.2 (fun i hi ha => h i hi (by rw [Nt.asks, Nat.testBit_or, ha, Bool.or_true]))]
def mixS (s s2 k : Nat) : Nat := (s &&& k) ||| (s2 &&& (18446744073709551615 - k))
theorem mixS_lt {s s2 k : Nat} (hs : s < 18446744073709551616) (h2 : s2 < 18446744073709551616) : mixS s s2 k < 18446744073709551616 :=
  or_lt (Nat.lt_of_le_of_lt Nat.and_le_left hs) (Nat.lt_of_le_of_lt Nat.and_le_left h2)
theorem say_mix (l : List (Int × Int)) (s s2 : Nat) : sayN l (mixS s s2 (askN l)) = sayN l s := by
  by_cases hc : chkN l = 0
  · obtain ⟨t, hw, hl0, _⟩ := chkN_zero hc
    have hk : askN l = t.asks := by rw [hl0] at hc ⊢; exact askN_tree hw hc
    rw [hk]
    have h1 : ∀ u, sayN l u = t.holds u := fun u => by rw [hl0] at hc ⊢; exact sayN_tree hw hc u
    rw [h1, h1]
    refine holds_same _ _ t hw (fun i hi ha => ?_)
    have hlt := asks_lt t
    have e : 18446744073709551615 - t.asks = 2 ^ 64 - (t.asks + 1) := by simp only [Nat.reducePow]; omega
    unfold mixS
    rw [Nat.testBit_or, Nat.testBit_and, Nat.testBit_and, ha, e, Nat.testBit_two_pow_sub_succ (by simpa using hlt), ha]
    simp
  · unfold sayN
    rw [if_neg hc, if_neg hc]

set_option maxRecDepth 20000 in
set_option maxHeartbeats 4000000 in
theorem needAsks_small (A : Option Addr) (cap : Nat) (l : List (Int × Int)) (s s2 : Nat) (W : World) (hA : Sl W 2 A l.length cap (pcells l)) (hl : l.length ≤ 100) (hs : s < 18446744073709551616) (h2 : s2 < 18446744073709551616) :
    Calls Try.prog 7 #[.slice A l.length cap, .agg #[.int .u64 (s : Int), .int .u64 (s2 : Int)]] W fun e w' => e = .returned (.bool true) ∧ Below W.heap.size W w' := by
  have HK := hid (fun w (hb : Below W.heap.size W w) => nasks_any A cap l w (hA.below hb) (by omega))
  have HS1 := hid (fun w (hb : Below W.heap.size W w) => nsays_any A cap l s w (hA.below hb) (by omega) hs)
  have HS2 := hid (fun w (hb : Below W.heap.size W w) => nsays_any A cap l (mixS s s2 (askN l)) w (hA.below hb) (by omega) (mixS_lt hs h2))
  rw [say_mix] at HS2
  have hk : askN l < 18446744073709551616 := by
    unfold askN
    split
    · split
      · exact asks_lt _
      · omega
    · omega
  have e1 := u64_and_nat s (askN l) hs hk
  have e2 := u64_andNot_nat s2 (askN l) h2 hk
  have e3 := u64_or_nat (s &&& askN l) (s2 &&& (18446744073709551615 - askN l)) (Nat.lt_of_le_of_lt Nat.and_le_left hs) (Nat.lt_of_le_of_lt Nat.and_le_left h2)
  rw [show (s &&& askN l) ||| (s2 &&& (18446744073709551615 - askN l)) = mixS s s2 (askN l) from rfl] at e3
  have i1 : ¬ (100 : Int) < (l.length : Int) := by omega
  have d1 : decide ((100 : Int) < (l.length : Int)) = false := decide_eq_false i1
  clear hA hl hk
  generalize mixS s s2 (askN l) = mx at *
  generalize sayN l s = r at *
  generalize l.length = x at *
  have er : (r == r) = true := by simp
  go_enter Try.func7, Try.ntmps7
  go_upto_region 1 with (fail)
  refine at_world (fun w => w.heap[W.heap.size]? = some (.cells #[.int .u64 (s : Int), .int .u64 (s2 : Int)] 38 (0, 0)) ∧ Below W.heap.size W w) ⟨heap_alloc_new _ _, (Below.refl _ _).alloc (Nat.le_refl _) _⟩ ?_
  rintro w0 ⟨k0, hb0⟩
  have K0 := hid k0
  have HB0 := hid hb0
  clear k0 hb0
  go_wp2_with fail
  refine (HK.out _ HB0.out).mono ?_
  rintro e w1 ⟨rfl, hb⟩
  have K1 := hid (keep0 K0.out hb)
  have HB1 := hid (HB0.out.trans (hb.mono HB0.out.size))
  clear hb K0 HB0 HK i1 d1
  obtain ⟨p0, p1, _, _⟩ := two_cells K1.out
  go_upto_region 4 with (fail)
  have cA := reg (w := w1) (fun W' hW => HS1.out W' (HB1.out.trans (hW.mono HB1.out.size)))
  have cB := reg (w := w1) (fun W' hW => HS2.out W' (HB1.out.trans (hW.mono HB1.out.size)))
  have cW := reg (w := w1) (fun W' _ => works09_any W')
  replace p0 := cell_regrown p0
  replace p1 := cell_regrown p1
  generalize askN l = k at *
  refine wp_region_quiet_below (by kernel_rfl) (by kernel_rfl) ?_
  repeat (go_big_quiet_step (first | (go_at_call 15; with_reducible exact cA _ _) | (go_at_call 15; with_reducible exact cB _ _) | (go_at_call 8; with_reducible exact cW _ _)))
  refine wpQuiet_nil ?_
  intro _ hw'
  obtain ⟨⟨dq, osq⟩, hw''⟩ := hw'
  subst hw''
  have HF := hid (HB1.out.trans ((below_regrown w1 dq osq).mono HB1.out.size))
  clear p0 p1 cA cB cW
  go_wp2
  go_ret
  exact ⟨rfl, HF.out⟩
set_option maxRecDepth 20000 in
theorem needAsks_big (A : Option Addr) (x cap : Nat) (u v : Int) (W : World) (hx : x ≤ maxLen) (h : 100 < x) :
    Calls Try.prog 7 #[.slice A x cap, .agg #[.int .u64 u, .int .u64 v]] W fun e w' => e = .returned (.bool true) ∧ Below W.heap.size W w' := by
  unfold maxLen at hx
  have i1 : (100 : Int) < (x : Int) := by omega
  have d1 : decide ((100 : Int) < (x : Int)) = true := decide_eq_true i1
  have HB0 : Hid (∀ o, Below W.heap.size W (W.alloc o)) := hid (fun o => (Below.refl _ _).alloc (Nat.le_refl _) _)
  clear h
  go_enter Try.func7, Try.ntmps7
  go_wp2_with fail
  refine (works09_any _).mono ?_
  rintro e w6 ⟨rfl, hb⟩
  have HB := hid ((HB0.out _).trans (hb.mono (HB0.out _).size))
  clear hb
  go_wp2
  go_ret
  exact ⟨rfl, HB.out⟩
theorem wf_u64n {n : Int} (h : (Lit.int .u64 n).wf = true) : ∃ s : Nat, n = (s : Int) ∧ s < 18446744073709551616 := by
  simp [Lit.wf, IntKind.min, IntKind.max, IntKind.signed, IntKind.bits] at h
  exact ⟨n.toNat, by omega, by omega⟩
theorem needAsks_law (A : Option Addr) (x cap : Nat) (a1 : Array Value) (W : World) (hA : Rd Try.prog W 22 [.slice A x cap]) (hn : a1.size = 2) (h2 : Rd Try.prog W 38 a1.toList) :
    Calls Try.prog 7 #[.slice A x cap, .agg a1] W fun e w' => e = .returned (.bool true) ∧ Below W.heap.size W w' := by
  obtain ⟨l, sl, rfl⟩ := nodes_in hA
  obtain ⟨xs, hx⟩ := Rd.array_ints Try.underlying38 Try.underlying28 (by kernel_rfl) (by kernel_rfl) h2
  obtain ⟨a, b, rfl, ha, hb⟩ := ints2 hx
  obtain ⟨s, rfl, hs⟩ := wf_u64n ha
  obtain ⟨s2, rfl, hs2⟩ := wf_u64n hb
  by_cases h : 100 < l.length
  · exact needAsks_big A _ cap _ _ W (Nat.le_trans sl.2.1 sl.2.2.1) h
  · exact needAsks_small A cap l s s2 W sl (by omega) hs hs2
end Go.Proofs.Ytfaglemadpobeaa
