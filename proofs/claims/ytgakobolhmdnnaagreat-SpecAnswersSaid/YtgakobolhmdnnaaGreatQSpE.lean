/- The example of layer 40; SpecAccepts: the law. -/
import Derived.Test.YtgakobolhmdnnaaGreatQSpD
import Derived.Test.YtgakobolhmdnnaaGreatQHdL
import Derived.Test.YtgakobolhmdnnaaGreatQSpM
namespace Go.Proofs.YtgakobolhmdnnaaGreat
open Go.RowKit Go.Sort
set_option linter.unusedVariables false
set_option linter.unusedSimpArgs false

theorem ex40a : ansB (⟨0, 0, 0, 200, 0, [], [(1, 0, 0)]⟩ : Cf) [] 1 [[42]] = 0 := by kernel_rfl
theorem ex40b : ansB (⟨0, 0, 0, 200, 0, [], [(1, 0, 0)]⟩ : Cf) [⟨2, 0, 0, [[42]], [], []⟩] 1 [[42]] = 7 := by kernel_rfl
theorem lay40a (W : World) : CfAt ((W.alloc (.cells #[.int .i64 1, .int .i64 0, .int .u64 0] 76)).alloc (.cells (#[.int .i64 0, .int .i64 0, .int .i64 0, .int .i64 200, .int .i64 0, .slice none 0 0, .slice (some ⟨W.heap.size, 0, none⟩) 1 1]) 25)) (⟨0, 0, 0, 200, 0, [], [(1, 0, 0)]⟩ : Cf) none 0 (some ⟨W.heap.size, 0, none⟩) 1 ∧ ((W.alloc (.cells #[.int .i64 1, .int .i64 0, .int .u64 0] 76)).alloc (.cells (#[.int .i64 0, .int .i64 0, .int .i64 0, .int .i64 200, .int .i64 0, .slice none 0 0, .slice (some ⟨W.heap.size, 0, none⟩) 1 1]) 25)).heap[W.heap.size + 1]? = some (.cells (#[.int .i64 0, .int .i64 0, .int .i64 0, .int .i64 200, .int .i64 0, .slice none 0 0, .slice (some ⟨W.heap.size, 0, none⟩) 1 1]) 25 (0, 0)) ∧ RowKit.Below W.heap.size W ((W.alloc (.cells #[.int .i64 1, .int .i64 0, .int .u64 0] 76)).alloc (.cells (#[.int .i64 0, .int .i64 0, .int .i64 0, .int .i64 200, .int .i64 0, .slice none 0 0, .slice (some ⟨W.heap.size, 0, none⟩) 1 1]) 25)) := by
  refine ⟨⟨⟨Sl.nil _ _ _ _ (Nat.zero_le _), by simp⟩, ?_, ?_⟩, ?_, bel_alloc (bel_alloc (RowKit.Below.refl _ _) _) _⟩
  · exact ((Sl.lit W 76 3 1 #[.int .i64 1, .int .i64 0, .int .u64 0] rfl (by unfold maxLen; omega)).below (bel_alloc (RowKit.Below.refl _ _) _) : Sl _ 3 _ 1 1 (gcells wkc [(1, 0, 0)]))
  · intro y h; simp at h; subst h; simp
  · have h9 := heap_alloc_new (W.alloc (.cells #[.int .i64 1, .int .i64 0, .int .u64 0] 76)) (.cells (#[.int .i64 0, .int .i64 0, .int .i64 0, .int .i64 200, .int .i64 0, .slice none 0 0, .slice (some ⟨W.heap.size, 0, none⟩) 1 1]) 25)
    rw [World.size_alloc] at h9
    exact h9
theorem lay40b (W : World) : TxJ ((W.alloc (.cells #[.string ⟨#[42]⟩] 9)).alloc (.cells #[.int .i64 1, .slice (some ⟨W.heap.size, 0, none⟩) 1 1] 53)) (some ⟨W.heap.size, 0, none⟩) 1 [[42]] ∧ ((W.alloc (.cells #[.string ⟨#[42]⟩] 9)).alloc (.cells #[.int .i64 1, .slice (some ⟨W.heap.size, 0, none⟩) 1 1] 53)).heap[W.heap.size + 1]? = some (.cells #[.int .i64 1, .slice (some ⟨W.heap.size, 0, none⟩) 1 1] 53 (0, 0)) ∧ RowKit.Below W.heap.size W ((W.alloc (.cells #[.string ⟨#[42]⟩] 9)).alloc (.cells #[.int .i64 1, .slice (some ⟨W.heap.size, 0, none⟩) 1 1] 53)) := by
  refine ⟨⟨?_, ?_⟩, ?_, bel_alloc (bel_alloc (RowKit.Below.refl _ _) _) _⟩
  · exact ((Sl.lit W 9 1 1 #[.string ⟨#[42]⟩] rfl (by unfold maxLen; omega)).below (bel_alloc (RowKit.Below.refl _ _) _) : Sl _ 1 _ 1 1 (scells [[42]]))
  · intro s h; simp at h; subst h; unfold maxLen; simp
  · have h9 := heap_alloc_new (W.alloc (.cells #[.string ⟨#[42]⟩] 9)) (.cells #[.int .i64 1, .slice (some ⟨W.heap.size, 0, none⟩) 1 1] 53)
    rw [World.size_alloc] at h9
    exact h9

set_option maxRecDepth 20000 in
set_option maxHeartbeats 4000000 in
theorem works40_any (W : World) : Calls Tryz.prog 21 #[] W fun e w' => e = .returned (.bool true) ∧ RowKit.Below W.heap.size W w' := by
  have HA := hid (fun u K A (hC : CfAt u (⟨0, 0, 0, 200, 0, [], [(1, 0, 0)]⟩ : Cf) none 0 K 1) (hX : TxJ u A 1 [[42]]) => answer_any (⟨0, 0, 0, 200, 0, [], [(1, 0, 0)]⟩ : Cf) none 0 K 1 none 0 [] 1 A 1 [[42]] u hC ⟨Sl.nil _ _ _ _ (Nat.zero_le _), by simp⟩ hX (by simp) (by intro s h; simp at h; subst h; simp) (by simp))
  have HB9 := hid (fun u K A B (hC : CfAt u (⟨0, 0, 0, 200, 0, [], [(1, 0, 0)]⟩ : Cf) none 0 K 1) (hX : TxJ u A 1 [[42]]) (hB : Sl u 6 B 1 1 (gcells ebl [((⟨2, 0, 0, [[42]], [], []⟩ : En), (⟨A, 1, none, 0, none, 0⟩ : Pt))])) => answer_any (⟨0, 0, 0, 200, 0, [], [(1, 0, 0)]⟩ : Cf) none 0 K 1 B 1 [((⟨2, 0, 0, [[42]], [], []⟩ : En), (⟨A, 1, none, 0, none, 0⟩ : Pt))] 1 A 1 [[42]] u hC ⟨hB, by intro y h; obtain rfl := List.mem_singleton.1 h; exact ⟨hX, Sl.nil _ _ _ _ (Nat.zero_le _), Sl.nil _ _ _ _ (Nat.zero_le _)⟩⟩ hX (by simp) (by intro s h; simp at h; subst h; simp) (by simp))
  simp only [ex40a, ex40b, cfc, List.length_cons, List.length_nil, Nat.zero_add, Nat.reduceAdd, List.map_cons, List.map_nil] at HA HB9
  go_enter Tryz.func21, Tryz.ntmps21
  go_upto_region 2 with (fail)
  refine at_world (fun u => CfAt u (⟨0, 0, 0, 200, 0, [], [(1, 0, 0)]⟩ : Cf) none 0 (some ⟨W.heap.size, 0, none⟩) 1 ∧ u.heap[W.heap.size + 1]? = some (.cells (#[.int .i64 0, .int .i64 0, .int .i64 0, .int .i64 200, .int .i64 0, .slice none 0 0, .slice (some ⟨W.heap.size, 0, none⟩) 1 1]) 25 (0, 0)) ∧ RowKit.Below W.heap.size W u) (lay40a W) ?_
  generalize (some (⟨W.heap.size, 0, none⟩ : Addr)) = K at *
  generalize W.heap.size + 1 = Q at *
  rintro w1 ⟨hC, hq, hb⟩
  have HB := hid hb
  have HC := hid hC
  have HQ := hid hq
  clear hC hq hb
  go_upto_region 3 with (fail)
  refine at_world (fun u => TxJ u (some ⟨w1.heap.size, 0, none⟩) 1 [[42]] ∧ u.heap[w1.heap.size + 1]? = some (.cells #[.int .i64 1, .slice (some ⟨w1.heap.size, 0, none⟩) 1 1] 53 (0, 0)) ∧ RowKit.Below w1.heap.size w1 u) (lay40b w1) ?_
  generalize (some (⟨w1.heap.size, 0, none⟩ : Addr)) = A at *
  generalize w1.heap.size + 1 = J at *
  rintro w2 ⟨hE, hj, hb⟩
  have HB2 := hid (HB.out.trans (hb.mono HB.out.size))
  have HC2 := hid (HC.out.below hb)
  have HQ2 := hid (keep0 HQ.out hb)
  have HE2 := hid hE
  have HJ2 := hid hj
  clear hE hj hb HB HC HQ
  obtain ⟨p0, p1⟩ := two_cellsR HJ2.out
  obtain ⟨q0, q1, q2, q3, q4, q5, q6⟩ := seven_cellsJ HQ2.out
  go_wp2_with fail
  refine (HA.out w2 K A HC2.out HE2.out).mono ?_
  rintro e w3 ⟨rfl, hb⟩
  have HB3 := hid (HB2.out.trans (hb.mono HB2.out.size))
  have HC3 := hid (HC2.out.below hb)
  have HQ3 := hid (keep0 HQ2.out hb)
  have HE3 := hid (HE2.out.below hb)
  have HJ3 := hid (keep0 HJ2.out hb)
  clear hb HB2 HC2 HQ2 HE2 HJ2 p0 p1 q0 q1 q2 q3 q4 q5 q6 HA
  obtain ⟨p0, p1⟩ := two_cellsR HJ3.out
  obtain ⟨q0, q1, q2, q3, q4, q5, q6⟩ := seven_cellsJ HQ3.out
  have hal : RowKit.Below w3.heap.size w3 (w3.alloc (.cells #[.int .i64 2, .int .i64 0, .int .i64 0, .slice A 1 1, .slice none 0 0, .slice none 0 0] 29)) := bel_alloc (RowKit.Below.refl _ _) _
  have HL9 := hid (HB9.out _ K A _ (HC3.out.below hal) (HE3.out.below hal) (Sl.lit w3 29 6 1 #[.int .i64 2, .int .i64 0, .int .i64 0, .slice A 1 1, .slice none 0 0, .slice none 0 0] rfl (by unfold maxLen; omega)))
  have HB4 := hid (HB3.out.trans (hal.mono HB3.out.size))
  obtain ⟨r0, r1⟩ := two_cellsR (keep0 HJ3.out hal)
  clear hal HB9
  go_wp2_with fail
  refine HL9.out.mono ?_
  rintro e w4 ⟨rfl, hb⟩
  have HB5 := hid (HB4.out.trans (hb.mono HB4.out.size))
  clear hb p0 p1 q0 q1 q2 q3 q4 q5 q6 r0 r1
  go_wp2
  go_ret
  exact ⟨rfl, HB5.out⟩

theorem acc_ans (x : Cf) (b : List En) (id : Int) (ns : List (List UInt8)) (A : Option Addr) (c : Nat) : accB x [⟨id, ns, A, c⟩] b id 0 0 = (ansB x b id ns == 0 || ansB x b id ns == 7) := by
  have hl : ljI [(⟨id, ns, A, c⟩ : Jo)] id = 0 := by simp [ljI, ljB, List.findIdx?_cons]
  obtain ⟨h7, h9⟩ := chkJ_e id x.T ns x.ws
  unfold accB ansB
  rw [hl, show ([(⟨id, ns, A, c⟩ : Jo)].getD (Int.toNat 0) default) = ⟨id, ns, A, c⟩ from rfl]
  simp only
  generalize chkJ id x.T x.ws ns = ck at *
  by_cases hp : 0 ≤ plI b id
  · rw [if_pos (by omega), if_pos hp]
    split
    · rename_i h
      have e1 : (ck.2.2 == 0) = false := by simpa using h
      have e2 : (ck.2.2 == 7) = false := by simpa using h7
      rw [e1, e2]; rfl
    · rfl
  · rw [if_neg (by omega), if_neg hp]
    show decide (ck.2.2 = 0) = _
    by_cases h : ck.2.2 = 0
    · rw [if_neg (by simpa using h), decide_eq_true h]
      split <;> rfl
    · rw [if_pos h, decide_eq_false h]
      have e1 : (ck.2.2 == 0) = false := by simpa using h
      have e2 : (ck.2.2 == 7) = false := by simpa using h7
      rw [e1, e2]; rfl

instance : Inhabited Ee := ⟨(⟨0, 0, 0, [], [], []⟩, ⟨none, 0, none, 0, none, 0⟩)⟩
theorem books_in {w : World} {A : Option Addr} {len cap : Nat} (h : Rd Tryz.prog w 33 [.slice A len cap]) : ∃ xs : List Ee, xs.length = len ∧ InBk w A cap xs := by
  obtain ⟨l, h1, h2, h3⟩ := rows_in (α := Ee) (f := ebl) (fun x => InE w x) Tryz.underlying33 (n := 6) (by kernel_rfl) (by omega) ebl_len (fun cs hl hr => by
    obtain ⟨x, e, hx⟩ := rd_entry (a := cs.toArray) (by simpa using hl) (by simpa using hr)
    exact ⟨x, by simpa using e, hx⟩) h
  subst h2
  exact ⟨l, rfl, h1, h3⟩

end Go.Proofs.YtgakobolhmdnnaaGreat
