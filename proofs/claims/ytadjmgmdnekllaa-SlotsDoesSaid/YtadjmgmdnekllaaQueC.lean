/- A worker's queue: what a job's reservations are; Has, Push, as contracts. -/
import Derived.Test.YtadjmgmdnekllaaPair
import Derived.BigQuiet
import Derived.Deep.QuietTactic
import Derived.Deep.Cut
namespace Go.Proofs.Ytadjmgmdnekllaa
open Go.RowKit Go.Sort
set_option linter.unusedVariables false
set_option linter.unusedSimpArgs false

theorem info_place : (Try.prog.info? 91).map (fun i => (i.zero, i.size, i.bytes)) = some (some (.agg #[.int .i64 0, .int .i64 0]), 2, 16) := by kernel_rfl

def idxJ (l : List (Int × Int)) (job : Int) : Int := match l.findIdx? (fun p => p.1 == job) with | some i => (i : Int) | none => -1
def hasJ (l : List (Int × Int)) (job : Int) : Bool := l.any fun p => p.1 == job
def dropJ (l : List (Int × Int)) (job : Int) : List (Int × Int) := l.filter fun p => p.1 != job
theorem idxJ_yes {l : List (Int × Int)} {job : Int} {k : Nat} (hk : k < l.length) (h : ∀ j (hj : j < l.length), j < k → l[j].1 ≠ job) (hy : l[k].1 = job) : idxJ l job = (k : Int) := by
  have : l.findIdx? (fun p => p.1 == job) = some k := by
    rw [List.findIdx?_eq_some_iff_getElem]
    exact ⟨hk, by simp [hy], fun j hj => by simpa using h j (by omega) hj⟩
  rw [idxJ, this]
theorem idxJ_no {l : List (Int × Int)} {job : Int} (h : ∀ j (hj : j < l.length), l[j].1 ≠ job) : idxJ l job = -1 := by
  have : l.findIdx? (fun p => p.1 == job) = none := by
    rw [List.findIdx?_eq_none_iff]
    intro x hx
    obtain ⟨j, hj, rfl⟩ := List.getElem_of_mem hx
    simpa using h j hj
  rw [idxJ, this]
theorem hasJ_iff (l : List (Int × Int)) (job : Int) : hasJ l job = true ↔ ∃ j, ∃ hj : j < l.length, l[j].1 = job := by
  unfold hasJ
  rw [List.any_eq_true]
  constructor
  · rintro ⟨x, hx, h⟩
    obtain ⟨j, hj, rfl⟩ := List.getElem_of_mem hx
    exact ⟨j, hj, by simpa using h⟩
  · rintro ⟨j, hj, h⟩
    exact ⟨_, List.getElem_mem hj, by simpa using h⟩
theorem idxJ_has (l : List (Int × Int)) (job : Int) : decide (0 ≤ idxJ l job) = hasJ l job := by
  rw [Bool.eq_iff_iff, decide_eq_true_eq, hasJ_iff]
  unfold idxJ
  cases h : l.findIdx? (fun p => p.1 == job) with
  | none =>
    rw [List.findIdx?_eq_none_iff] at h
    refine ⟨fun h2 => by simp at h2, ?_⟩
    rintro ⟨j, hj, h2⟩
    have := h _ (List.getElem_mem hj)
    simp [h2] at this
  | some k =>
    obtain ⟨hk, h1, _⟩ := List.findIdx?_eq_some_iff_getElem.1 h
    exact ⟨fun _ => ⟨k, hk, by simpa using h1⟩, fun _ => by simp⟩
theorem dropJ_no {l : List (Int × Int)} {job : Int} (h : ∀ j (hj : j < l.length), l[j].1 ≠ job) : dropJ l job = l := by
  unfold dropJ
  rw [List.filter_eq_self]
  intro x hx
  obtain ⟨j, hj, rfl⟩ := List.getElem_of_mem hx
  simpa using h j hj
theorem dropJ_len (l : List (Int × Int)) (job : Int) : (dropJ l job).length ≤ l.length := List.length_filter_le _ _
attribute [irreducible] idxJ hasJ

set_option maxRecDepth 20000 in
theorem of1_any (B : Nat) (x y job : Int) (W : World) (hB : W.cell? ⟨B, 0, none⟩ = some (.int .i64 job)) :
    Calls Try.prog 136 #[.agg #[.int .i64 x, .int .i64 y], .pointer (some ⟨B, 0, none⟩)] W fun e w' => e = .returned (.bool (x == job)) ∧ Below W.heap.size W w' := by
  have hlt := lt_of_cell hB
  have hB2 : ∀ o, (W.alloc o).cell? ⟨B, 0, none⟩ = some (.int .i64 job) := fun o => (World.cell?_alloc_lt W o _ hlt).trans hB
  clear hB hlt
  go_enter Try.func136, Try.ntmps136
  go_wp2
  go_ret
  exact ⟨rfl, (Below.refl _ _).alloc (Nat.le_refl _) _⟩

set_option maxRecDepth 20000 in
theorem idx_any (A : Option Addr) (len cap : Nat) (l : List (Int × Int)) (B : Nat) (job : Int) (W : World) (h : Sl W 2 A len cap (pcells l)) (hB : W.cell? ⟨B, 0, none⟩ = some (.int .i64 job)) :
    Calls Try.prog 135 #[.slice A len cap, .func (.func 136) #[] #[.pointer (some ⟨B, 0, none⟩)]] W fun e w' => e = .returned (.int .i64 (idxJ l job)) ∧ Below W.heap.size W w' := by
  obtain rfl := h.plen
  have HA := hid h
  have HB := hid hB
  have hm : l.length ≤ 9223372036854775807 := by have h1 := h.2.1; have h2 := h.2.2.1; unfold maxLen at h2; omega
  have HY := hid (fun k (hk : k < l.length) h hy => idxJ_yes (job := job) hk h hy)
  have HN := hid (fun h => idxJ_no (l := l) (job := job) h)
  clear h hB
  go_enter Try.func135, Try.ntmps135
  go_wp2
  go_loopw [8] (fun i wr => ∃ k : Nat, k ≤ l.length ∧ i = .int .i64 (k : Int) ∧ Hid (∀ j (hj : j < l.length), j < k → l[j].1 ≠ job) ∧ Hid (Below W.heap.size W wr)) (fun i _ => l.length - (intOf i).toNat)
  case atStart => exact ⟨0, by omega, rfl, fun j hj h => absurd h (by omega), Below.refl _ _⟩
  case round =>
    obtain ⟨k, hk, rfl, HT, HR⟩ := hrel
    by_cases hlt : k < l.length
    · have hlt2 : (k : Int) < (l.length : Int) := by omega
      obtain ⟨b, off, hA⟩ := HA.out.addr (by rw [pcells_length]; omega)
      subst hA
      obtain ⟨c1, c2⟩ := (HA.out.below HR.out).pair k hlt
      have HC := hid (of1_any B l[k].1 l[k].2 job wr (cellb HR.out HB.out))
      have HY2 := hid (HY.out k hlt HT.out)
      have HX := hid (show ∀ v, l[k].1 = v → l[k].1 = v from fun _ h => h)
      generalize hx : l[k].1 = x at c1 HC HY2
      have HXX := hid hx
      clear hx
      generalize l[k].2 = y at c2 HC
      go_wp2_with fail
      refine HC.out.mono ?_
      rintro e w2 ⟨rfl, hb2⟩
      have HR2 := hid (HR.out.trans (hb2.mono HR.out.size))
      clear hb2 HC c1 c2
      by_cases hxy : x = job
      · have hd : (x == job) = true := by simpa using hxy
        have HE := hid (HY2.out hxy)
        go_wp2
        go_ret
        exact ⟨by rw [HE.out]; rfl, HR2.out⟩
      · have hd : (x == job) = false := by simpa using hxy
        have HT2 : Hid (∀ j (hj : j < l.length), j < k + 1 → l[j].1 ≠ job) := hid (fun j hj hjk => by
          by_cases hjk2 : j < k
          · exact HT.out j hj hjk2
          · obtain rfl : j = k := by omega
            rw [HXX.out]; exact hxy)
        clear hxy
        go_wp2
        go_roundw
        case rel => exact ⟨k + 1, by omega, by go_num, HT2.out, HR2.out⟩
        case measure => simp [intOf]; omega
    · have hge : ¬ (k : Int) < (l.length : Int) := by omega
      have HE := hid (HN.out (fun j hj => HT.out j hj (by omega)))
      go_wp2
      go_ret
      exact ⟨by rw [HE.out]; rfl, HR.out⟩

set_option maxRecDepth 20000 in
theorem qhas_any (A : Option Addr) (len cap : Nat) (l : List (Int × Int)) (job : Int) (W : World) (h : Sl W 2 A len cap (pcells l)) :
    Calls Try.prog 72 #[.slice A len cap, .int .i64 job] W fun e w' => e = .returned (.bool (hasJ l job)) ∧ Below W.heap.size W w' := by
  have HOF : Hid (∀ w : World, Calls Try.prog 119 #[.int .i64 job] w fun e w' => e = .returned (.func (.func 136) #[] #[.pointer (some ⟨w.heap.size, 0, none⟩)]) ∧ w' = w.alloc (.cells #[.int .i64 job] 3)) := hid (by
    intro w
    go_enter Try.func119, Try.ntmps119
    go_wp2
    go_ret
    exact ⟨rfl, rfl⟩)
  have hb0 : Below W.heap.size W (W.alloc (.cells #[.int .i64 job] 3)) := (Below.refl _ _).alloc (Nat.le_refl _) _
  have HI := hid (idx_any A len cap l W.heap.size job _ (h.below hb0) (by have := heap_alloc_new W (.cells #[.int .i64 job] 3); rw [cell_of_row _ _ 0 _ _ _ this]; rfl))
  have HC : Hid (∀ w, (W.alloc (.cells #[.int .i64 job] 3)) = w → Calls Try.prog 120 #[.slice A len cap, .func (.func 136) #[] #[.pointer (some ⟨W.heap.size, 0, none⟩)]] w fun e w' => e = .returned (.bool (hasJ l job)) ∧ Below W.heap.size W w') := hid (by
    rintro w rfl
    have HD := hid (idxJ_has l job)
    generalize idxJ l job = ix at *
    generalize hasJ l job = hb at *
    go_enter Try.func120, Try.ntmps120
    go_wp2_with fail
    refine HI.out.mono ?_
    rintro e w2 ⟨rfl, hb2⟩
    have HB2 := hid (hb0.trans (hb2.mono hb0.size))
    clear hb2
    go_wp2
    go_ret
    exact ⟨by rw [HD.out]; rfl, HB2.out⟩)
  clear HI h hb0
  go_enter Try.func72, Try.ntmps72
  go_wp2_with fail
  refine (HOF.out _).mono ?_
  rintro e w1 ⟨rfl, rfl⟩
  go_wp2_with fail
  refine (HC.out _ rfl).mono ?_
  rintro e w2 ⟨rfl, hb⟩
  have HB := hid hb
  clear hb HC HOF
  go_wp2
  go_ret
  exact ⟨rfl, HB.out⟩
end Go.Proofs.Ytadjmgmdnekllaa
