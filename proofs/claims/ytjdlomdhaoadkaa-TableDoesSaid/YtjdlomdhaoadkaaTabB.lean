/- Table: the search's comparison, State, permitted, Clone: contracts. -/
import Derived.Test.YtjdlomdhaoadkaaTabA
import Derived.Test.YtjdlomdhaoadkaaSlice
import Derived.Test.YtjdlomdhaoadkaaIcell
namespace Go.Proofs.Ytjdlomdhaoadkaa
open Go.RowKit
set_option linter.unusedVariables false
set_option linter.unusedSimpArgs false

abbrev Tr := Int × Int × Int
def r3 (x : Tr) : List Value := [.int .i64 x.1, .int .i64 x.2.1, .int .i64 x.2.2]
def cmpR (x : Tr) (c d : Int) : Int := cmpT x.1 x.2.1 c d
theorem set1_any (a b s c d : Int) (W : World) : Calls Try.prog 24 #[.agg #[.int .i64 a, .int .i64 b, .int .i64 s], .agg #[.int .i64 c, .int .i64 d]] W fun e w' => e = .returned (.int .i64 (cmpT a b c d)) ∧ Below W.heap.size W w' := by
  have HC := hid (fun w => compared_any a b c d w)
  have HB : Hid (∀ o o', Below W.heap.size W ((W.alloc o).alloc o')) := hid (fun o o' => ((Below.refl _ _).alloc (Nat.le_refl _) _).alloc (by simp) _)
  generalize cmpT a b c d = r at *
  go_enter Try.func24, Try.ntmps24
  go_wp2_with fail
  refine (HC.out _).mono ?_
  rintro e w2 ⟨rfl, hb2⟩
  have HB2 := hid ((HB.out _ _).trans (hb2.mono (HB.out _ _).size))
  clear hb2
  go_wp2
  go_ret
  exact ⟨rfl, HB2.out⟩
def stF (c d : Int) : List Tr → Int
  | [] => 0
  | x :: l => if x.1 = c ∧ x.2.1 = d then x.2.2 else stF c d l
theorem stF_hit (c d : Int) : ∀ (l : List Tr) (k : Nat) (hk : k < l.length), (∀ j (hj : j < l.length), j < k → ¬ (l[j].1 = c ∧ l[j].2.1 = d)) → (l[k].1 = c ∧ l[k].2.1 = d) → stF c d l = l[k].2.2
  | [], k, hk, _, _ => absurd hk (by simp)
  | y :: l, 0, hk, _, h => by
    simp only [List.getElem_cons_zero] at h ⊢
    rw [stF, if_pos h]
  | y :: l, k + 1, hk, hn, h => by
    have h0 : ¬ (y.1 = c ∧ y.2.1 = d) := hn 0 (by simp) (by omega)
    rw [stF, if_neg h0]
    exact stF_hit c d l k (by simpa using hk) (fun j hj hjk => hn (j + 1) (by simpa using hj) (by omega)) (by simpa using h)
theorem stF_none (c d : Int) : ∀ (l : List Tr), (∀ j (hj : j < l.length), ¬ (l[j].1 = c ∧ l[j].2.1 = d)) → stF c d l = 0
  | [], _ => rfl
  | y :: l, h => by
    have h0 : ¬ (y.1 = c ∧ y.2.1 = d) := h 0 (by simp)
    rw [stF, if_neg h0]
    exact stF_none c d l (fun j hj => h (j + 1) (by simpa using hj))
set_option maxRecDepth 20000 in
set_option maxHeartbeats 2000000 in
theorem state_any (A : Option Addr) (cap : Nat) (l : List Tr) (c d : Int) (W : World) (h : Sl W 3 A l.length cap (gcells r3 l)) :
    Calls Try.prog 12 #[.slice A l.length cap, .agg #[.int .i64 c, .int .i64 d]] W fun e w' => e = .returned (.int .i64 (stF c d l)) ∧ Below W.heap.size W w' := by
  have HA := hid h
  have hm : l.length ≤ 9223372036854775807 := by have h1 := h.2.1; have h2 := h.2.2.1; unfold maxLen at h2; omega
  have HY := hid (fun k (hk : k < l.length) h hy => stF_hit c d l k hk h hy)
  have HN := hid (fun h => stF_none c d l h)
  generalize stF c d l = r at *
  clear h
  go_enter Try.func12, Try.ntmps12
  go_upto_region 1 with (fail)
  refine at_world (fun u => u.heap[W.heap.size]? = some (.cells #[.int .i64 c, .int .i64 d] 28 (0, 0)) ∧ Below W.heap.size W u) ⟨heap_alloc_new _ _, (Below.refl _ _).alloc (Nat.le_refl _) _⟩ ?_
  rintro w1 ⟨hx1, hb1⟩
  have HX1 := hid hx1
  have HB1 := hid hb1
  clear hx1 hb1
  go_wp2
  go_loopw [6, 9] (fun _ i wr => ∃ k : Nat, k ≤ l.length ∧ i = .int .i64 (k : Int) ∧ Hid (Below w1.heap.size w1 wr) ∧ Hid (∀ j (hj : j < l.length), j < k → ¬ (l[j].1 = c ∧ l[j].2.1 = d))) (fun _ i _ => l.length - (intOf i).toNat)
  case atStart => exact ⟨0, by omega, rfl, Below.refl _ _, fun j hj h => absurd h (by omega)⟩
  case round =>
    obtain ⟨k, hk, rfl, HB, HT⟩ := hrel
    have HBW := hid (HB1.out.trans (HB.out.mono HB1.out.size))
    by_cases hlt : k < l.length
    · have hlt2 : (k : Int) < (l.length : Int) := by omega
      obtain ⟨b, off, rfl, hcl⟩ := Sl.gat (f := r3) (n := 3) (fun _ => rfl) (HA.out.below HBW.out) k hlt (by omega)
      have c0 := hcl 0 _ rfl
      have c1 := hcl 1 _ rfl
      have c2 := hcl 2 _ rfl
      simp only [Nat.add_zero] at c0
      have HY2 := hid (HY.out k hlt HT.out)
      have HTN : Hid (¬ (l[k].1 = c ∧ l[k].2.1 = d) → ∀ j (hj : j < l.length), j < k + 1 → ¬ (l[j].1 = c ∧ l[j].2.1 = d)) := hid (fun hne j hj hjk => by
        by_cases hjk2 : j < k
        · exact HT.out j hj hjk2
        · obtain rfl : j = k := by omega
          exact hne)
      have HBO : Hid (∀ o, Below w1.heap.size w1 (wr.alloc o)) := hid (fun o => HB.out.alloc HB.out.size _)
      have p0 : ∀ o, (wr.alloc o).cell? ⟨W.heap.size, 0, none⟩ = some (.int .i64 c) := fun o => (two_cells (keep0 HX1.out (HBO.out o))).1
      have p1 : ∀ o, (wr.alloc o).cell? ⟨W.heap.size, 1, none⟩ = some (.int .i64 d) := fun o => (two_cells (keep0 HX1.out (HBO.out o))).2.1
      clear hcl
      generalize l[k] = z at *
      obtain ⟨z0, z1, z2⟩ := z
      simp only at c0 c1 c2 HY2 HTN
      by_cases h1 : z0 = c
      · subst h1
        have e1 : (z0 == z0) = true := by simp
        by_cases h2 : z1 = d
        · subst h2
          have e2 : (z1 == z1) = true := by simp
          have HE := hid (HY2.out ⟨rfl, rfl⟩)
          clear HTN HY2
          go_wp2
          go_ret
          exact ⟨by rw [HE.out]; rfl, HBW.out.trans ((Below.refl _ _).alloc (Nat.le_refl _) _ |>.mono HBW.out.size)⟩
        · have e2 : (z1 == d) = false := by rw [beq_eq_false_iff_ne]; exact h2
          have HT2 := hid (HTN.out (fun h9 => h2 h9.2))
          clear HTN HY2 h2
          go_wp2
          go_roundw
          case rel => exact ⟨k + 1, by omega, by go_num, HBO.out _, HT2.out⟩
          case measure => simp [intOf]; omega
      · have e1 : (z0 == c) = false := by rw [beq_eq_false_iff_ne]; exact h1
        have HT2 := hid (HTN.out (fun h9 => h1 h9.1))
        clear HTN HY2 h1
        go_wp2
        go_roundw
        case rel => exact ⟨k + 1, by omega, by go_num, HBO.out _, HT2.out⟩
        case measure => simp [intOf]; omega
    · have hge : ¬ (k : Int) < (l.length : Int) := by omega
      have HE := hid (HN.out (fun j hj => HT.out j hj (by omega)))
      go_wp2
      go_ret
      exact ⟨by rw [HE.out]; rfl, HBW.out⟩
def permB (f t : Int) : Bool := if f = 0 then (decide (t = 1) || decide (t = 2)) else if f = 1 then decide (t = 2) else if f = 2 then decide (t = 3) else if f = 3 then decide (t = 4) else false
theorem perm_any (f t : Int) (W : World) : Calls Try.prog 22 #[.int .i64 f, .int .i64 t] W fun e w' => e = .returned (.bool (permB f t)) ∧ W = w' := by
  have HV : Hid (permB f t = if f = 0 then (decide (t = 1) || decide (t = 2)) else if f = 1 then decide (t = 2) else if f = 2 then decide (t = 3) else if f = 3 then decide (t = 4) else false) := hid rfl
  by_cases h0 : f = 0
  · subst h0
    by_cases h1 : t = 1
    · subst h1
      go_enter Try.func22, Try.ntmps22
      go_wp2
      go_ret
      exact ⟨rfl, rfl⟩
    · by_cases h2 : t = 2
      · subst h2
        go_enter Try.func22, Try.ntmps22
        go_wp2
        go_ret
        exact ⟨rfl, rfl⟩
      · have HF : Hid (permB 0 t = false) := hid (by rw [HV.out, if_pos rfl, decide_eq_false h1, decide_eq_false h2]; rfl)
        have d1 : (t == 1) = false := by simpa using h1
        have d2 : (t == 2) = false := by simpa using h2
        go_enter Try.func22, Try.ntmps22
        go_wp2
        go_ret
        exact ⟨by rw [HF.out]; rfl, rfl⟩
  · have HG : Hid (permB f t = if f = 1 then decide (t = 2) else if f = 2 then decide (t = 3) else if f = 3 then decide (t = 4) else false) := hid (by rw [HV.out, if_neg h0])
    clear HV
    have d0 : (f == 0) = false := by simpa using h0
    by_cases h1 : f = 1
    · subst h1
      have HF : Hid (permB 1 t = (t == 2)) := hid (by rw [HG.out, if_pos rfl]; exact Bool.eq_iff_iff.2 (by simp))
      go_enter Try.func22, Try.ntmps22
      go_wp2
      go_ret
      exact ⟨by rw [HF.out]; rfl, rfl⟩
    · by_cases h2 : f = 2
      · subst h2
        have HF : Hid (permB 2 t = (t == 3)) := hid (by rw [HG.out, if_neg h1, if_pos rfl]; exact Bool.eq_iff_iff.2 (by simp))
        go_enter Try.func22, Try.ntmps22
        go_wp2
        go_ret
        exact ⟨by rw [HF.out]; rfl, rfl⟩
      · by_cases h3 : f = 3
        · subst h3
          have HF : Hid (permB 3 t = (t == 4)) := hid (by rw [HG.out, if_neg h1, if_neg h2, if_pos rfl]; exact Bool.eq_iff_iff.2 (by simp))
          go_enter Try.func22, Try.ntmps22
          go_wp2
          go_ret
          exact ⟨by rw [HF.out]; rfl, rfl⟩
        · have HF : Hid (permB f t = false) := hid (by rw [HG.out, if_neg h1, if_neg h2, if_neg h3])
          go_enter Try.func22, Try.ntmps22
          go_wp2
          go_ret
          exact ⟨by rw [HF.out]; rfl, rfl⟩
theorem info_trow : (Try.prog.info? 51).map (fun i => (i.zero, i.size, i.bytes)) = some (some (.agg #[.int .i64 0, .int .i64 0, .int .i64 0]), 3, 24) := by kernel_rfl
theorem gcells_r3_one (l : List Tr) : ∀ u ∈ gcells r3 l, u.oneCell' = true := by
  induction l with
  | nil => intro u hu; simp [gcells] at hu
  | cons x l ih =>
    intro u hu
    rw [gcells_cons, List.mem_append] at hu
    rcases hu with hu | hu
    · simp [r3] at hu
      rcases hu with rfl | rfl | rfl <;> rfl
    · exact ih u hu
set_option maxRecDepth 20000 in
theorem clone_trow (A : Option Addr) (len cap : Nat) (cs : List Value) (W : World) (h : Sl W 3 A len cap cs) (h1 : ∀ u ∈ cs, u.oneCell' = true) (hlen : len ≤ 100000) :
    Calls Try.prog 21 #[.slice A len cap] W fun e w' => ∃ v, e = .returned v ∧ Below W.heap.size W w' ∧ w'.ownsRow W.heap.size 51 3 v len cs := by
  have hl := h.1
  have HL := hid hlen
  clear hlen
  rcases A with _ | ad
  · have h0 : cs = [] := by
      rcases Nat.eq_zero_or_pos cs.length with h0 | h0
      · exact List.eq_nil_of_length_eq_zero h0
      · obtain ⟨b, off, ha, _⟩ := h.2.2.2 h0
        cases ha
    subst h0
    have hz : len = 0 := by simp at hl; omega
    subst hz
    clear hl h h1
    have he : ∀ w : World, (binOp .eql 25 (.slice none 0 cap) (.slice none 0 0)).run Try.prog w = .ok (.bool true) w := fun _ => rfl
    go_enter Try.func21, Try.ntmps21
    go_wp2
    go_ret
    exact ⟨_, rfl, Below.refl _ _, World.ownsRow_nil _ _ _ _⟩
  · have HS := hid h
    have HE := hid (own_empty W 51 3)
    have H1 := hid h1
    clear h h1 hl
    have he : ∀ w : World, (binOp .eql 25 (.slice (some ad) len cap) (.slice none 0 0)).run Try.prog w = .ok (.bool false) w := fun _ => rfl
    go_enter Try.func21, Try.ntmps21
    go_wp2_with (at_builtin; refine wpList_append_sl (W := W) rfl (.tmp 5) (.tmp 6) 25 rfl W.heap.size 51 Try.underlying25 info_trow rfl (by omega) rfl HE.out rfl (HS.out.below ((Below.refl _ _).alloc (Nat.le_refl _) _)) H1.out (by have := HL.out; unfold maxLen; omega) (by have := HL.out; omega) (by simp) ((Below.refl _ _).alloc (Nat.le_refl _) _) ?_)
    intro v1 w1 ho1 hb1 _
    go_wp2
    go_ret
    exact ⟨_, rfl, hb1, by simpa using ho1⟩
end Go.Proofs.Ytjdlomdhaoadkaa
