/- slices.Index at tasks: contract. -/
import Derived.Test.YtadjmgmdnekllaaSltD
namespace Go.Proofs.Ytadjmgmdnekllaa
open Go.RowKit Go.Sort
set_option linter.unusedVariables false
set_option linter.unusedSimpArgs false

def idxT (l : List (Int × Int)) (t : Int × Int) : Int := match l.findIdx? (fun p => p == t) with | some i => (i : Int) | none => -1
theorem idxT_yes {l : List (Int × Int)} {t : Int × Int} {k : Nat} (hk : k < l.length) (h : ∀ j (hj : j < l.length), j < k → l[j] ≠ t) (hy : l[k] = t) : idxT l t = (k : Int) := by
  have : l.findIdx? (fun p => p == t) = some k := by
    rw [List.findIdx?_eq_some_iff_getElem]
    exact ⟨hk, by simp [hy], fun j hj => by simpa using h j (by omega) hj⟩
  rw [idxT, this]
theorem idxT_no {l : List (Int × Int)} {t : Int × Int} (h : ∀ j (hj : j < l.length), l[j] ≠ t) : idxT l t = -1 := by
  have : l.findIdx? (fun p => p == t) = none := by
    rw [List.findIdx?_eq_none_iff]
    intro x hx
    obtain ⟨j, hj, rfl⟩ := List.getElem_of_mem hx
    simpa using h j hj
  rw [idxT, this]
theorem idxT_cases (l : List (Int × Int)) (t : Int × Int) : idxT l t = -1 ∨ ∃ k : Nat, idxT l t = (k : Int) ∧ k < l.length := by
  unfold idxT
  cases h : l.findIdx? (fun p => p == t) with
  | none => exact .inl rfl
  | some k => exact .inr ⟨k, rfl, (List.findIdx?_eq_some_iff_getElem.1 h).1⟩
attribute [irreducible] idxT

set_option maxRecDepth 20000 in
set_option maxHeartbeats 2000000 in
theorem index_any (A : Option Addr) (len cap : Nat) (l : List (Int × Int)) (x y : Int) (W : World) (h : Sl W 2 A len cap (pcells l)) :
    Calls Try.prog 125 #[.slice A len cap, .agg #[.int .i64 x, .int .i64 y]] W fun e w' => e = .returned (.int .i64 (idxT l (x, y))) ∧ Below W.heap.size W w' := by
  obtain rfl := h.plen
  have HA := hid h
  have hm : l.length ≤ 9223372036854775807 := by have h1 := h.2.1; have h2 := h.2.2.1; unfold maxLen at h2; omega
  have HY := hid (fun k (hk : k < l.length) h hy => idxT_yes (t := (x, y)) hk h hy)
  have HN := hid (fun h => idxT_no (l := l) (t := (x, y)) h)
  generalize idxT l (x, y) = ix at *
  clear h
  go_enter Try.func125, Try.ntmps125
  go_upto_region 1 with (fail)
  refine at_world (fun u => u.heap[W.heap.size]? = some (.cells #[.int .i64 x, .int .i64 y] 119 (0, 0)) ∧ Below W.heap.size W u) ⟨heap_alloc_new _ _, (Below.refl _ _).alloc (Nat.le_refl _) _⟩ ?_
  rintro w1 ⟨hx1, hb1⟩
  have HX1 := hid hx1
  have HB1 := hid hb1
  clear hx1 hb1
  go_wp2
  go_loopw [5, 8] (fun _ i wr => ∃ k q : Nat, k ≤ l.length ∧ i = .int .i64 (k : Int) ∧ wr = w1.drewN q ∧ Hid (∀ j (hj : j < l.length), j < k → l[j] ≠ (x, y))) (fun _ i _ => l.length - (intOf i).toNat)
  case atStart => exact ⟨0, 0, by omega, rfl, rfl, fun j hj h => absurd h (by omega)⟩
  case round =>
    obtain ⟨k, q, hk, rfl, rfl, HT⟩ := hrel
    have hbq : Below W.heap.size W (w1.drewN q) := ⟨HB1.out.os, HB1.out.tape, HB1.out.output, HB1.out.size, HB1.out.block⟩
    have HBQ := hid hbq
    by_cases hlt : k < l.length
    · have hlt2 : (k : Int) < (l.length : Int) := by omega
      obtain ⟨b, off, hA⟩ := HA.out.addr (by rw [pcells_length]; omega)
      subst hA
      obtain ⟨p0, p1, _, _⟩ := two_cells HX1.out
      obtain ⟨c1, c2⟩ := (HA.out.below HB1.out).pair k hlt
      have HY2 := hid (HY.out k hlt HT.out)
      have HTN : Hid (l[k] ≠ (x, y) → ∀ j (hj : j < l.length), j < k + 1 → l[j] ≠ (x, y)) := hid (fun hne j hj hjk => by
        by_cases hjk2 : j < k
        · exact HT.out j hj hjk2
        · obtain rfl : j = k := by omega
          exact hne)
      clear hbq
      generalize l[k] = z at *
      obtain ⟨z1, z2⟩ := z
      simp only at c1 c2
      by_cases hxy : x = z1 ∧ y = z2
      · obtain ⟨rfl, rfl⟩ := hxy
        have HE := hid (HY2.out rfl)
        have e1 : (x == x) = true := by simp
        have e2 : (y == y) = true := by simp
        clear HTN HY2
        go_wp2
        go_quiet (fail)
        go_wp2
        go_ret
        exact ⟨by rw [HE.out]; rfl, ⟨HBQ.out.os, HBQ.out.tape, HBQ.out.output, HBQ.out.size, HBQ.out.block⟩⟩
      · have HT2 := hid (HTN.out (fun h9 => hxy (by simp only [Prod.mk.injEq] at h9; exact ⟨h9.1.symm, h9.2.symm⟩)))
        clear HTN HY2
        by_cases h1 : x = z1
        · subst h1
          have e1 : (x == x) = true := by simp
          have e2 : (y == z2) = false := by rw [beq_eq_false_iff_ne]; exact fun h => hxy ⟨rfl, h⟩
          clear hxy
          go_wp2
          go_quiet (fail)
          go_wp2
          go_roundw
          case rel => exact ⟨k + 1, q + nq, by omega, by go_num, rfl, HT2.out⟩
          case measure => simp [intOf]; omega
        · have e1 : (x == z1) = false := by rw [beq_eq_false_iff_ne]; exact h1
          clear hxy h1
          go_wp2
          go_quiet (fail)
          go_wp2
          go_roundw
          case rel => exact ⟨k + 1, q + nq, by omega, by go_num, rfl, HT2.out⟩
          case measure => simp [intOf]; omega
    · have hge : ¬ (k : Int) < (l.length : Int) := by omega
      have HE := hid (HN.out (fun j hj => HT.out j hj (by omega)))
      go_wp2
      go_ret
      exact ⟨by rw [HE.out]; rfl, HBQ.out⟩
end Go.Proofs.Ytadjmgmdnekllaa
