/- Rows of a table compared. -/
import Derived.Test.YtjdlomdhaoadkaaTabE
import Derived.Deep.QuietTactic
import Derived.BigQuiet
namespace Go.Proofs.Ytjdlomdhaoadkaa
open Go.RowKit
set_option linter.unusedVariables false
set_option linter.unusedSimpArgs false

set_option maxRecDepth 20000 in
set_option maxHeartbeats 2000000 in
theorem equal_trow (A B : Option Addr) (cap cap' : Nat) (l m : List Tr) (W : World) (hA : Sl W 3 A l.length cap (gcells r3 l)) (hB : Sl W 3 B m.length cap' (gcells r3 m)) (h6 : l.length ≤ 1000) (h7 : m.length ≤ 1000) :
    Calls Try.prog 28 #[.slice A l.length cap, .slice B m.length cap'] W fun e w' => e = .returned (.bool (l == m)) ∧ ∃ q, w' = W.drewN q := by
  by_cases hlen : l.length = m.length
  · have HA := hid hA
    have HB := hid hB
    clear hA hB
    have HL := hid hlen
    rw [← hlen]
    clear h7 hlen
    go_enter Try.func28, Try.ntmps28
    go_wp2
    go_loopw [13] (fun i wr => ∃ k q : Nat, k ≤ l.length ∧ i = .int .i64 (k : Int) ∧ wr = W.drewN q ∧ Hid (l.take k = m.take k)) (fun i _ => l.length - (intOf i).toNat)
    case atStart => exact ⟨0, 0, by omega, rfl, rfl, by simp [Hid]⟩
    case round =>
      obtain ⟨k, q, hk, rfl, rfl, HT⟩ := hrel
      by_cases hlt : k < l.length
      · have hltm : k < m.length := by have := HL.out; omega
        obtain ⟨b, off, rfl, hcl⟩ := Sl.gat (f := r3) (n := 3) (fun _ => rfl) HA.out k hlt (by omega)
        obtain ⟨b2, off2, rfl, hcl2⟩ := Sl.gat (f := r3) (n := 3) (fun _ => rfl) HB.out k hltm (by omega)
        have c0 := hcl 0 _ rfl
        have c1 := hcl 1 _ rfl
        have c2 := hcl 2 _ rfl
        have d0 := hcl2 0 _ rfl
        have d1 := hcl2 1 _ rfl
        have d2 := hcl2 2 _ rfl
        simp only [Nat.add_zero] at c0 d0
        clear hcl hcl2
        have HE : Hid (l[k] = m[k] ↔ l.take (k + 1) = m.take (k + 1)) := by
          have h1 : l.take (k + 1) = l.take k ++ [l[k]] := by rw [List.take_add_one, List.getElem?_eq_getElem hlt]; rfl
          have h2 : m.take (k + 1) = m.take k ++ [m[k]] := by rw [List.take_add_one, List.getElem?_eq_getElem hltm]; rfl
          rw [Hid, h1, h2, HT.out]
          exact ⟨fun h => by rw [h], fun h => by simpa using List.append_cancel_left h⟩
        generalize l[k] = x at c0 c1 c2 HE
        generalize m[k] = y at d0 d1 d2 HE
        obtain ⟨x0, x1, x2⟩ := x
        obtain ⟨y0, y1, y2⟩ := y
        simp only at c0 c1 c2 d0 d1 d2
        have hlt2 : (k : Int) < (l.length : Int) := by omega
        by_cases h0 : x0 = y0
        · subst h0
          have e0 : (x0 == x0) = true := by simp
          have f0 : (x0 != x0) = false := by simp
          by_cases h1 : x1 = y1
          · subst h1
            have e1 : (x1 == x1) = true := by simp
            have f1 : (x1 != x1) = false := by simp
            by_cases h2 : x2 = y2
            · subst h2
              have e2 : (x2 == x2) = true := by simp
              have f2 : (x2 != x2) = false := by simp
              have HE2 := hid (HE.out.1 rfl)
              clear HE
              go_wp2
              go_quiet (fail)
              go_wp2
              go_roundw
              case rel => exact ⟨k + 1, q + nq, by omega, by go_num, rfl, HE2.out⟩
              case measure => simp [intOf]; omega
            · have e2 : (x2 == y2) = false := by rw [beq_eq_false_iff_ne]; exact h2
              have f2 : (x2 != y2) = true := by simpa using h2
              have hne9 : ¬ (x0 = x0 ∧ x1 = x1 ∧ x2 = y2) := fun h9 => h2 h9.2.2
              clear h2
              have HF : Hid ((l == m) = false) := by
                simp only [Hid, beq_eq_false_iff_ne, ne_eq]
                intro h
                have := HE.out.2 (by rw [h])
                simp only [Prod.mk.injEq] at this
                exact hne9 (by simpa using this)
              clear HE hne9
              go_wp2
              go_quiet (fail)
              go_wp2
              go_ret
              refine ⟨?_, q + nq, by simp⟩
              rw [HF.out]
              rfl
          · have e1 : (x1 == y1) = false := by rw [beq_eq_false_iff_ne]; exact h1
            have f1 : (x1 != y1) = true := by simpa using h1
            have hne9 : ¬ (x0 = x0 ∧ x1 = y1 ∧ x2 = y2) := fun h9 => h1 h9.2.1
            clear h1
            have HF : Hid ((l == m) = false) := by
              simp only [Hid, beq_eq_false_iff_ne, ne_eq]
              intro h
              have := HE.out.2 (by rw [h])
              simp only [Prod.mk.injEq] at this
              exact hne9 (by simpa using this)
            clear HE hne9
            go_wp2
            go_quiet (fail)
            go_wp2
            go_ret
            refine ⟨?_, q + nq, by simp⟩
            rw [HF.out]
            rfl
        · have e0 : (x0 == y0) = false := by rw [beq_eq_false_iff_ne]; exact h0
          have f0 : (x0 != y0) = true := by simpa using h0
          have hne9 : ¬ (x0 = y0 ∧ x1 = y1 ∧ x2 = y2) := fun h9 => h0 h9.1
          clear h0
          have HF : Hid ((l == m) = false) := by
            simp only [Hid, beq_eq_false_iff_ne, ne_eq]
            intro h
            have := HE.out.2 (by rw [h])
            simp only [Prod.mk.injEq] at this
            exact hne9 (by simpa using this)
          clear HE hne9
          go_wp2
          go_quiet (fail)
          go_wp2
          go_ret
          refine ⟨?_, q + nq, by simp⟩
          rw [HF.out]
          rfl
      · have HF : Hid ((l == m) = true) := by
          have h1 := HT.out
          rw [List.take_of_length_le (by omega), List.take_of_length_le (by have := HL.out; omega)] at h1
          simp [Hid, h1]
        have hge : ¬ (k : Int) < (l.length : Int) := by omega
        go_wp2
        go_ret
        refine ⟨?_, _, rfl⟩
        rw [HF.out]
        rfl
  · have HF : Hid ((l == m) = false) := by
      simp only [Hid, beq_eq_false_iff_ne, ne_eq]
      intro h
      exact hlen (by rw [h])
    rw [HF.out]
    have hne : ((l.length : Int) != (m.length : Int)) = true := by simp; omega
    clear HF hA hB h6 h7 hlen
    go_enter Try.func28, Try.ntmps28
    go_wp2
    go_ret
    exact ⟨rfl, 0, rfl⟩

set_option maxRecDepth 20000 in
set_option maxHeartbeats 2000000 in
theorem same31_any (A B : Option Addr) (cap cap' : Nat) (l m : List Tr) (W : World) (hA : Sl W 3 A l.length cap (gcells r3 l)) (hB : Sl W 3 B m.length cap' (gcells r3 m)) (h6 : l.length ≤ 1000) (h7 : m.length ≤ 1000) :
    Calls Try.prog 20 #[.slice A l.length cap, .slice B m.length cap'] W fun e w' => e = .returned (.bool (l == m)) ∧ ∃ q, w' = W.drewN q := by
  by_cases hlen : l.length = m.length
  · have HA := hid hA
    have HB := hid hB
    clear hA hB
    have HL := hid hlen
    rw [← hlen]
    clear h7 hlen
    go_enter Try.func20, Try.ntmps20
    go_wp2
    go_loopw [5] (fun i wr => ∃ k q : Nat, k ≤ l.length ∧ i = .int .i64 (k : Int) ∧ wr = W.drewN q ∧ Hid (l.take k = m.take k)) (fun i _ => l.length - (intOf i).toNat)
    case atStart => exact ⟨0, 0, by omega, rfl, rfl, by simp [Hid]⟩
    case round =>
      obtain ⟨k, q, hk, rfl, rfl, HT⟩ := hrel
      by_cases hlt : k < l.length
      · have hltm : k < m.length := by have := HL.out; omega
        obtain ⟨b, off, rfl, hcl⟩ := Sl.gat (f := r3) (n := 3) (fun _ => rfl) HA.out k hlt (by omega)
        obtain ⟨b2, off2, rfl, hcl2⟩ := Sl.gat (f := r3) (n := 3) (fun _ => rfl) HB.out k hltm (by omega)
        have c0 := hcl 0 _ rfl
        have c1 := hcl 1 _ rfl
        have c2 := hcl 2 _ rfl
        have d0 := hcl2 0 _ rfl
        have d1 := hcl2 1 _ rfl
        have d2 := hcl2 2 _ rfl
        simp only [Nat.add_zero] at c0 d0
        clear hcl hcl2
        have HE : Hid (l[k] = m[k] ↔ l.take (k + 1) = m.take (k + 1)) := by
          have h1 : l.take (k + 1) = l.take k ++ [l[k]] := by rw [List.take_add_one, List.getElem?_eq_getElem hlt]; rfl
          have h2 : m.take (k + 1) = m.take k ++ [m[k]] := by rw [List.take_add_one, List.getElem?_eq_getElem hltm]; rfl
          rw [Hid, h1, h2, HT.out]
          exact ⟨fun h => by rw [h], fun h => by simpa using List.append_cancel_left h⟩
        generalize l[k] = x at c0 c1 c2 HE
        generalize m[k] = y at d0 d1 d2 HE
        obtain ⟨x0, x1, x2⟩ := x
        obtain ⟨y0, y1, y2⟩ := y
        simp only at c0 c1 c2 d0 d1 d2
        have hlt2 : (k : Int) < (l.length : Int) := by omega
        by_cases h0 : x0 = y0
        · subst h0
          have e0 : (x0 == x0) = true := by simp
          have f0 : (x0 != x0) = false := by simp
          by_cases h1 : x1 = y1
          · subst h1
            have e1 : (x1 == x1) = true := by simp
            have f1 : (x1 != x1) = false := by simp
            by_cases h2 : x2 = y2
            · subst h2
              have e2 : (x2 == x2) = true := by simp
              have f2 : (x2 != x2) = false := by simp
              have HE2 := hid (HE.out.1 rfl)
              clear HE
              go_wp2
              go_quiet (fail)
              go_wp2
              go_roundw
              case rel => exact ⟨k + 1, q + nq, by omega, by go_num, rfl, HE2.out⟩
              case measure => simp [intOf]; omega
            · have e2 : (x2 == y2) = false := by rw [beq_eq_false_iff_ne]; exact h2
              have f2 : (x2 != y2) = true := by simpa using h2
              have hne9 : ¬ (x0 = x0 ∧ x1 = x1 ∧ x2 = y2) := fun h9 => h2 h9.2.2
              clear h2
              have HF : Hid ((l == m) = false) := by
                simp only [Hid, beq_eq_false_iff_ne, ne_eq]
                intro h
                have := HE.out.2 (by rw [h])
                simp only [Prod.mk.injEq] at this
                exact hne9 (by simpa using this)
              clear HE hne9
              go_wp2
              go_quiet (fail)
              go_wp2
              go_ret
              refine ⟨?_, q + nq, by simp⟩
              rw [HF.out]
              rfl
          · have e1 : (x1 == y1) = false := by rw [beq_eq_false_iff_ne]; exact h1
            have f1 : (x1 != y1) = true := by simpa using h1
            have hne9 : ¬ (x0 = x0 ∧ x1 = y1 ∧ x2 = y2) := fun h9 => h1 h9.2.1
            clear h1
            have HF : Hid ((l == m) = false) := by
              simp only [Hid, beq_eq_false_iff_ne, ne_eq]
              intro h
              have := HE.out.2 (by rw [h])
              simp only [Prod.mk.injEq] at this
              exact hne9 (by simpa using this)
            clear HE hne9
            go_wp2
            go_quiet (fail)
            go_wp2
            go_ret
            refine ⟨?_, q + nq, by simp⟩
            rw [HF.out]
            rfl
        · have e0 : (x0 == y0) = false := by rw [beq_eq_false_iff_ne]; exact h0
          have f0 : (x0 != y0) = true := by simpa using h0
          have hne9 : ¬ (x0 = y0 ∧ x1 = y1 ∧ x2 = y2) := fun h9 => h0 h9.1
          clear h0
          have HF : Hid ((l == m) = false) := by
            simp only [Hid, beq_eq_false_iff_ne, ne_eq]
            intro h
            have := HE.out.2 (by rw [h])
            simp only [Prod.mk.injEq] at this
            exact hne9 (by simpa using this)
          clear HE hne9
          go_wp2
          go_quiet (fail)
          go_wp2
          go_ret
          refine ⟨?_, q + nq, by simp⟩
          rw [HF.out]
          rfl
      · have HF : Hid ((l == m) = true) := by
          have h1 := HT.out
          rw [List.take_of_length_le (by omega), List.take_of_length_le (by have := HL.out; omega)] at h1
          simp [Hid, h1]
        have hge : ¬ (k : Int) < (l.length : Int) := by omega
        go_wp2
        go_ret
        refine ⟨?_, _, rfl⟩
        rw [HF.out]
        rfl
  · have HF : Hid ((l == m) = false) := by
      simp only [Hid, beq_eq_false_iff_ne, ne_eq]
      intro h
      exact hlen (by rw [h])
    rw [HF.out]
    have hne : ((l.length : Int) != (m.length : Int)) = true := by simp; omega
    clear HF hA hB h6 h7 hlen
    go_enter Try.func20, Try.ntmps20
    go_wp2
    go_ret
    exact ⟨rfl, 0, rfl⟩

set_option maxRecDepth 20000 in
set_option maxHeartbeats 2000000 in
theorem is31_any (A B : Option Addr) (cap cap' : Nat) (l m : List Tr) (W : World) (hA : Sl W 3 A l.length cap (gcells r3 l)) (hB : Sl W 3 B m.length cap' (gcells r3 m)) (h6 : l.length ≤ 1000) (h7 : m.length ≤ 1000) :
    Calls Try.prog 9 #[.slice A l.length cap, .slice B m.length cap'] W fun e w' => e = .returned (.bool (l == m)) ∧ ∃ q, w' = W.drewN q := by
  by_cases hlen : l.length = m.length
  · have HA := hid hA
    have HB := hid hB
    clear hA hB
    have HL := hid hlen
    rw [← hlen]
    clear h7 hlen
    go_enter Try.func9, Try.ntmps9
    go_wp2
    go_loopw [5] (fun i wr => ∃ k q : Nat, k ≤ l.length ∧ i = .int .i64 (k : Int) ∧ wr = W.drewN q ∧ Hid (l.take k = m.take k)) (fun i _ => l.length - (intOf i).toNat)
    case atStart => exact ⟨0, 0, by omega, rfl, rfl, by simp [Hid]⟩
    case round =>
      obtain ⟨k, q, hk, rfl, rfl, HT⟩ := hrel
      by_cases hlt : k < l.length
      · have hltm : k < m.length := by have := HL.out; omega
        obtain ⟨b, off, rfl, hcl⟩ := Sl.gat (f := r3) (n := 3) (fun _ => rfl) HA.out k hlt (by omega)
        obtain ⟨b2, off2, rfl, hcl2⟩ := Sl.gat (f := r3) (n := 3) (fun _ => rfl) HB.out k hltm (by omega)
        have c0 := hcl 0 _ rfl
        have c1 := hcl 1 _ rfl
        have c2 := hcl 2 _ rfl
        have d0 := hcl2 0 _ rfl
        have d1 := hcl2 1 _ rfl
        have d2 := hcl2 2 _ rfl
        simp only [Nat.add_zero] at c0 d0
        clear hcl hcl2
        have HE : Hid (l[k] = m[k] ↔ l.take (k + 1) = m.take (k + 1)) := by
          have h1 : l.take (k + 1) = l.take k ++ [l[k]] := by rw [List.take_add_one, List.getElem?_eq_getElem hlt]; rfl
          have h2 : m.take (k + 1) = m.take k ++ [m[k]] := by rw [List.take_add_one, List.getElem?_eq_getElem hltm]; rfl
          rw [Hid, h1, h2, HT.out]
          exact ⟨fun h => by rw [h], fun h => by simpa using List.append_cancel_left h⟩
        generalize l[k] = x at c0 c1 c2 HE
        generalize m[k] = y at d0 d1 d2 HE
        obtain ⟨x0, x1, x2⟩ := x
        obtain ⟨y0, y1, y2⟩ := y
        simp only at c0 c1 c2 d0 d1 d2
        have hlt2 : (k : Int) < (l.length : Int) := by omega
        by_cases h0 : x0 = y0
        · subst h0
          have e0 : (x0 == x0) = true := by simp
          have f0 : (x0 != x0) = false := by simp
          by_cases h1 : x1 = y1
          · subst h1
            have e1 : (x1 == x1) = true := by simp
            have f1 : (x1 != x1) = false := by simp
            by_cases h2 : x2 = y2
            · subst h2
              have e2 : (x2 == x2) = true := by simp
              have f2 : (x2 != x2) = false := by simp
              have HE2 := hid (HE.out.1 rfl)
              clear HE
              go_wp2
              go_quiet (fail)
              go_wp2
              go_roundw
              case rel => exact ⟨k + 1, q + nq, by omega, by go_num, rfl, HE2.out⟩
              case measure => simp [intOf]; omega
            · have e2 : (x2 == y2) = false := by rw [beq_eq_false_iff_ne]; exact h2
              have f2 : (x2 != y2) = true := by simpa using h2
              have hne9 : ¬ (x0 = x0 ∧ x1 = x1 ∧ x2 = y2) := fun h9 => h2 h9.2.2
              clear h2
              have HF : Hid ((l == m) = false) := by
                simp only [Hid, beq_eq_false_iff_ne, ne_eq]
                intro h
                have := HE.out.2 (by rw [h])
                simp only [Prod.mk.injEq] at this
                exact hne9 (by simpa using this)
              clear HE hne9
              go_wp2
              go_quiet (fail)
              go_wp2
              go_ret
              refine ⟨?_, q + nq, by simp⟩
              rw [HF.out]
              rfl
          · have e1 : (x1 == y1) = false := by rw [beq_eq_false_iff_ne]; exact h1
            have f1 : (x1 != y1) = true := by simpa using h1
            have hne9 : ¬ (x0 = x0 ∧ x1 = y1 ∧ x2 = y2) := fun h9 => h1 h9.2.1
            clear h1
            have HF : Hid ((l == m) = false) := by
              simp only [Hid, beq_eq_false_iff_ne, ne_eq]
              intro h
              have := HE.out.2 (by rw [h])
              simp only [Prod.mk.injEq] at this
              exact hne9 (by simpa using this)
            clear HE hne9
            go_wp2
            go_quiet (fail)
            go_wp2
            go_ret
            refine ⟨?_, q + nq, by simp⟩
            rw [HF.out]
            rfl
        · have e0 : (x0 == y0) = false := by rw [beq_eq_false_iff_ne]; exact h0
          have f0 : (x0 != y0) = true := by simpa using h0
          have hne9 : ¬ (x0 = y0 ∧ x1 = y1 ∧ x2 = y2) := fun h9 => h0 h9.1
          clear h0
          have HF : Hid ((l == m) = false) := by
            simp only [Hid, beq_eq_false_iff_ne, ne_eq]
            intro h
            have := HE.out.2 (by rw [h])
            simp only [Prod.mk.injEq] at this
            exact hne9 (by simpa using this)
          clear HE hne9
          go_wp2
          go_quiet (fail)
          go_wp2
          go_ret
          refine ⟨?_, q + nq, by simp⟩
          rw [HF.out]
          rfl
      · have HF : Hid ((l == m) = true) := by
          have h1 := HT.out
          rw [List.take_of_length_le (by omega), List.take_of_length_le (by have := HL.out; omega)] at h1
          simp [Hid, h1]
        have hge : ¬ (k : Int) < (l.length : Int) := by omega
        go_wp2
        go_ret
        refine ⟨?_, _, rfl⟩
        rw [HF.out]
        rfl
  · have HF : Hid ((l == m) = false) := by
      simp only [Hid, beq_eq_false_iff_ne, ne_eq]
      intro h
      exact hlen (by rw [h])
    rw [HF.out]
    have hne : ((l.length : Int) != (m.length : Int)) = true := by simp; omega
    clear HF hA hB h6 h7 hlen
    go_enter Try.func9, Try.ntmps9
    go_wp2
    go_ret
    exact ⟨rfl, 0, rfl⟩

theorem tsame_any (A B : Option Addr) (cap cap' : Nat) (l m : List Tr) (W : World) (hA : Sl W 3 A l.length cap (gcells r3 l)) (hB : Sl W 3 B m.length cap' (gcells r3 m)) (h6 : l.length ≤ 1000) (h7 : m.length ≤ 1000) :
    Calls Try.prog 19 #[.slice A l.length cap, .slice B m.length cap'] W fun e w' => e = .returned (.bool (l == m)) ∧ ∃ q, w' = W.drewN q := by
  have H := hid (equal_trow A B cap cap' l m W hA hB h6 h7)
  clear hA hB h6 h7
  go_enter Try.func19, Try.ntmps19
  go_wp2_with fail
  refine H.out.mono ?_
  rintro e w1 ⟨rfl, q, rfl⟩
  go_wp2
  go_ret
  exact ⟨rfl, q, rfl⟩
end Go.Proofs.Ytjdlomdhaoadkaa
