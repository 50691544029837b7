/- hand: bound, noted, pending, Pending, admitted: contracts. -/
import Derived.Test.YtgakobolhmdnnaaGreatQHdA
import Derived.Deep.RegionHeld3
import Derived.Test.YtgakobolhmdnnaaGreatQHdL
import Derived.BigQuiet
import Derived.Test.YtgakobolhmdnnaaGreatGaP
import Derived.Test.YtgakobolhmdnnaaGreatQSame06
namespace Go.Proofs.YtgakobolhmdnnaaGreat
open Go.RowKit Go.Sort
set_option linter.unusedVariables false
set_option linter.unusedSimpArgs false

@[go_sem high] theorem run_min3 {P : Program} (w : World) (ts : Array TypeId) (t : TypeId) (k k' k'' : IntKind) (x y z : Int) :
    (Builtin.min_ ts t #[.int k x, .int k' y, .int k'' z]).run P w = .ok (.int k (min (min x y) z)) w := by
  have e : ∀ a b : Int, (if b < a then b else a) = min a b := fun a b => by
    rw [Int.min_def]
    split <;> split <;> omega
  simp [Builtin.min_, Builtin.min2, e]
/-- The numbers below k of a kind. -/
def fk (p : Nat → Bool) (k : Nat) : List Int := ((List.range k).filter p).map Int.ofNat
theorem fk_yes {p : Nat → Bool} {k : Nat} (h : p k = true) : fk p (k + 1) = fk p k ++ [(k : Int)] := by
  unfold fk
  rw [List.range_succ, List.filter_append, List.map_append]
  simp only [List.filter_cons, List.filter_nil, h, if_true, List.map_cons, List.map_nil]
  rfl
theorem fk_no {p : Nat → Bool} {k : Nat} (h : p k = false) : fk p (k + 1) = fk p k := by
  unfold fk
  rw [List.range_succ, List.filter_append, List.map_append]
  simp only [List.filter_cons, List.filter_nil, h, Bool.false_eq_true, if_false, List.map_nil, List.append_nil]
theorem fk_len (p : Nat → Bool) (k : Nat) : (fk p k).length ≤ k := by
  unfold fk
  rw [List.length_map]
  exact Nat.le_trans (List.length_filter_le _ _) (by simp)
theorem fk_mem {p : Nat → Bool} {k : Nat} {x : Int} (h : x ∈ fk p k) : ∃ i : Nat, x = (i : Int) ∧ i < k ∧ p i = true := by
  unfold fk at h
  obtain ⟨i, hi, rfl⟩ := List.mem_map.1 h
  obtain ⟨h1, h2⟩ := List.mem_filter.1 hi
  exact ⟨i, rfl, by simpa using h1, h2⟩
theorem ftk_yes {l : List Int} {p : Int → Bool} {k : Nat} (hk : k < l.length) (h : p (l.getD k 0) = true) : (l.take (k + 1)).filter p = (l.take k).filter p ++ [l.getD k 0] := by
  have e : l.getD k 0 = l[k] := by simp [List.getD, hk]
  rw [e] at h ⊢
  rw [List.take_succ_eq_append_getElem hk, List.filter_append]
  simp [List.filter_cons, h]
theorem ftk_no {l : List Int} {p : Int → Bool} {k : Nat} (hk : k < l.length) (h : p (l.getD k 0) = false) : (l.take (k + 1)).filter p = (l.take k).filter p := by
  have e : l.getD k 0 = l[k] := by simp [List.getD, hk]
  rw [e] at h
  rw [List.take_succ_eq_append_getElem hk, List.filter_append]
  simp [List.filter_cons, h]
theorem getD_mem {l : List Int} {k : Nat} (hk : k < l.length) : l.getD k 0 ∈ l := by
  have e : l.getD k 0 = l[k] := by simp [List.getD, hk]
  rw [e]; exact List.getElem_mem hk
def notB (h : List Bool) (i : Nat) : Bool := decide (i < h.length) && h.getD i false
def pndB (e : En) (h : List Bool) (i : Nat) : Bool := decide (1 ≤ e.bd.getD i 0) && !e.dn.getD i false && !notB h i
/-- The tasks that are pending; those of a worker. -/
def pndL (e : En) (h : List Bool) : List Int := fk (pndB e h) (min e.ns.length (min e.bd.length e.dn.length))
def pndW (e : En) (h : List Bool) (w : Int) : List Int := (pndL e h).filter fun i => e.bd.getD i.toNat 0 - 1 == w
theorem pnd_mem {e : En} {h : List Bool} {x : Int} (hx : x ∈ pndL e h) : ∃ i : Nat, x = (i : Int) ∧ i < e.ns.length ∧ i < e.bd.length ∧ i < e.dn.length ∧ 1 ≤ e.bd.getD i 0 ∧ e.dn.getD i false = false ∧ notB h i = false := by
  obtain ⟨i, rfl, h1, h2⟩ := fk_mem hx
  unfold pndB at h2
  simp only [Bool.and_eq_true, decide_eq_true_eq, Bool.not_eq_true'] at h2
  exact ⟨i, rfl, by omega, by omega, by omega, h2.1.1, h2.1.2, h2.2⟩
def HadAt (w : World) (H : Option Addr) (hc : Nat) (h : List Bool) : Prop := Sl w 1 H h.length hc (blcells h)
def BdOk (e : En) : Prop := ∀ i, 0 ≤ e.bd.getD i 0 ∧ e.bd.getD i 0 ≤ 64

end Go.Proofs.YtgakobolhmdnnaaGreat

namespace Go.Proofs.YtgakobolhmdnnaaGreat
open Go.RowKit Go.Sort
set_option linter.unusedVariables false
set_option linter.unusedSimpArgs false

theorem fnd_yes {l : List Int} {p : Int → Bool} {k : Nat} (hk : k < l.length) (h : (l.take k).find? p = none) (hp : p (l.getD k 0) = true) : l.find? p = some (l.getD k 0) := by
  have e : l.getD k 0 = l[k] := by simp [List.getD, hk]
  rw [e] at hp ⊢
  have e2 : l = l.take k ++ l.drop k := (List.take_append_drop k l).symm
  have e3 : l.find? p = (l.take k ++ l.drop k).find? p := by rw [← e2]
  rw [e3, List.find?_append, h, List.drop_eq_getElem_cons hk]
  simp only [List.find?_cons, hp, Option.none_or]
theorem fnd_no {l : List Int} {p : Int → Bool} {k : Nat} (hk : k < l.length) (h : (l.take k).find? p = none) (hp : p (l.getD k 0) = false) : (l.take (k + 1)).find? p = none := by
  have e : l.getD k 0 = l[k] := by simp [List.getD, hk]
  rw [e] at hp
  rw [List.take_succ_eq_append_getElem hk, List.find?_append, h]
  simp [List.find?_cons, hp]
theorem open_mem {e : En} {x : Int} (hx : x ∈ openB e) : ∃ i : Nat, x = (i : Int) ∧ i < e.ns.length ∧ i < e.bd.length ∧ e.bd.getD i 0 = 0 := by
  unfold openB opk at hx
  obtain ⟨i, hi, rfl⟩ := List.mem_map.1 hx
  obtain ⟨h1, h2⟩ := List.mem_filter.1 hi
  have h3 : i < min e.ns.length e.bd.length := by simpa using h1
  exact ⟨i, rfl, by omega, by omega, by simpa using h2⟩
/-- The task that a worker is assigned; is it fresh; is there one. -/
def mayF (e : En) (T : List (List UInt8)) (ws : List Wk) (wk : Int) : Int → Bool := fun i => hasS (setJ T ws (e.ns.getD i.toNat [])) wk
def pickB (e : En) (T : List (List UInt8)) (ws : List Wk) (wk : Int) (h : List Bool) : Int × Bool × Bool :=
  match pndW e h wk with
  | t :: _ => (t, false, true)
  | [] => match (openB e).find? (mayF e T ws wk) with
    | some i => (i, true, true)
    | none => (-1, false, false)
theorem pick_old {e : En} {T ws wk h t r} (h1 : pndW e h wk = t :: r) : pickB e T ws wk h = (t, false, true) := by unfold pickB; rw [h1]
theorem pick_new {e : En} {T ws wk h i} (h1 : pndW e h wk = []) (h2 : (openB e).find? (mayF e T ws wk) = some i) : pickB e T ws wk h = (i, true, true) := by unfold pickB; rw [h1]; simp only [h2]
theorem pick_none {e : En} {T ws wk h} (h1 : pndW e h wk = []) (h2 : (openB e).find? (mayF e T ws wk) = none) : pickB e T ws wk h = (-1, false, false) := by unfold pickB; rw [h1]; simp only [h2]

/-- The law's bound. -/
def okb (e : En) : Bool := (e.bd.all fun z => decide (0 ≤ z ∧ z ≤ 64)) && !longBk [e]
theorem okb_bd {e : En} (h : okb e = true) : BdOk e := by
  unfold okb at h
  rw [Bool.and_eq_true] at h
  intro i
  by_cases hi : i < e.bd.length
  · have h2 := List.all_eq_true.1 h.1 e.bd[i] (List.getElem_mem hi)
    have e2 : e.bd.getD i 0 = e.bd[i] := by simp [List.getD, hi]
    rw [e2]
    simpa using h2
  · have e2 : e.bd.getD i 0 = 0 := by simp [List.getD, List.getElem?_eq_none (Nat.le_of_not_lt hi)]
    rw [e2]; omega
theorem okb_len {e : En} (h : okb e = true) : e.ns.length ≤ 30 ∧ e.bd.length ≤ 30 ∧ e.dn.length ≤ 30 ∧ ∀ s ∈ e.ns, s.length ≤ 1000 := by
  unfold okb at h
  rw [Bool.and_eq_true, Bool.not_eq_true'] at h
  obtain ⟨h1, h2⟩ := longBk_sm (xs := [((e, ⟨none, 0, none, 0, none, 0⟩) : Ee)]) (by simpa using h.2)
  obtain ⟨h3, h4, h5⟩ := h2 _ (List.mem_singleton.2 rfl)
  simp only at h3 h4 h5
  obtain ⟨h6, h7⟩ := longB_no h5
  exact ⟨by omega, h3, h4, fun s hs => by have := h6 s hs; omega⟩
theorem okb_no {e : En} {k : Nat} (hk : k < e.bd.length) (h : ¬ (0 ≤ e.bd.getD k 0 ∧ e.bd.getD k 0 ≤ 64)) : okb e = false := by
  have e2 : e.bd.getD k 0 = e.bd[k] := by simp [List.getD, hk]
  rw [e2] at h
  unfold okb
  have : (e.bd.all fun z => decide (0 ≤ z ∧ z ≤ 64)) = false := by
    rw [List.all_eq_false]
    exact ⟨_, List.getElem_mem hk, by simpa using h⟩
  rw [this, Bool.false_and]
theorem okb_end {e : En} (h : ∀ k, k < e.bd.length → 0 ≤ e.bd.getD k 0 ∧ e.bd.getD k 0 ≤ 64) : okb e = !longBk [e] := by
  unfold okb
  have : (e.bd.all fun z => decide (0 ≤ z ∧ z ≤ 64)) = true := by
    rw [List.all_eq_true]
    intro z hz
    obtain ⟨k, hk, rfl⟩ := List.getElem_of_mem hz
    have h2 := h k hk
    have e2 : e.bd.getD k 0 = e.bd[k] := by simp [List.getD, hk]
    rw [e2] at h2
    simpa using h2
  rw [this, Bool.true_and]

theorem make_wk3 : ∀ W : World, (Instr.makeSlice 23 (.int .i64 3) (.int .i64 3)).run Tryz.prog W = .ok (.slice (some ⟨W.heap.size, 0, none⟩) 3 3) (W.alloc (.cells #[.int .i64 0, .int .i64 0, .int .u64 0, .int .i64 0, .int .i64 0, .int .u64 0, .int .i64 0, .int .i64 0, .int .u64 0] 76)) := by
  intro W
  obtain ⟨i, hi, hz0, hsize, hby⟩ := info_parts info_worker
  have hr := run_make (P := Tryz.prog) W 23 76 i _ Tryz.underlying23 hi hz0 .i64 .i64 3 3 (by omega) (by omega) (by rw [hby]; omega) (by omega)
  have hm : madeCells (Value.agg #[.int .i64 0, .int .i64 0, .int .u64 0]).cells (Int.toNat 3 * 3) = #[.int .i64 0, .int .i64 0, .int .u64 0, .int .i64 0, .int .i64 0, .int .u64 0, .int .i64 0, .int .i64 0, .int .u64 0] := by kernel_rfl
  rw [hr, hsize, hm]
  rfl
theorem info_boolH : (Tryz.prog.info? 4).map (fun i => (i.zero, i.size, i.bytes)) = some (some (.bool false), 1, 1) := by kernel_rfl
theorem make_bl3 : ∀ W : World, (Instr.makeSlice 27 (.int .i64 3) (.int .i64 3)).run Tryz.prog W = .ok (.slice (some ⟨W.heap.size, 0, none⟩) 3 3) (W.alloc (.cells #[.bool false, .bool false, .bool false] 4)) :=
  fun W => run_make_1 27 4 Tryz.underlying27 info_boolH rfl 3 3 (Nat.le_refl _) (by omega) (by unfold maxLen; omega) W
theorem lay34a (W : World) : CfAt ((W.alloc (.cells #[.int .i64 0, .int .i64 0, .int .u64 0, .int .i64 0, .int .i64 0, .int .u64 0, .int .i64 0, .int .i64 0, .int .u64 0] 76)).alloc (.cells (#[.int .i64 0, .int .i64 0, .int .i64 0, .int .i64 0, .int .i64 0, .slice none 0 0, .slice (some ⟨W.heap.size, 0, none⟩) 3 3]) 25)) (⟨0, 0, 0, 0, 0, [], [(0, 0, 0), (0, 0, 0), (0, 0, 0)]⟩ : Cf) none 0 (some ⟨W.heap.size, 0, none⟩) 3 ∧ ((W.alloc (.cells #[.int .i64 0, .int .i64 0, .int .u64 0, .int .i64 0, .int .i64 0, .int .u64 0, .int .i64 0, .int .i64 0, .int .u64 0] 76)).alloc (.cells (#[.int .i64 0, .int .i64 0, .int .i64 0, .int .i64 0, .int .i64 0, .slice none 0 0, .slice (some ⟨W.heap.size, 0, none⟩) 3 3]) 25)).heap[W.heap.size + 1]? = some (.cells (#[.int .i64 0, .int .i64 0, .int .i64 0, .int .i64 0, .int .i64 0, .slice none 0 0, .slice (some ⟨W.heap.size, 0, none⟩) 3 3]) 25 (0, 0)) ∧ RowKit.Below W.heap.size W ((W.alloc (.cells #[.int .i64 0, .int .i64 0, .int .u64 0, .int .i64 0, .int .i64 0, .int .u64 0, .int .i64 0, .int .i64 0, .int .u64 0] 76)).alloc (.cells (#[.int .i64 0, .int .i64 0, .int .i64 0, .int .i64 0, .int .i64 0, .slice none 0 0, .slice (some ⟨W.heap.size, 0, none⟩) 3 3]) 25)) := by
  refine ⟨⟨⟨Sl.nil _ _ _ _ (Nat.zero_le _), by simp⟩, ?_, ?_⟩, ?_, bel_alloc (bel_alloc (RowKit.Below.refl _ _) _) _⟩
  · exact ((Sl.lit W 76 3 3 #[.int .i64 0, .int .i64 0, .int .u64 0, .int .i64 0, .int .i64 0, .int .u64 0, .int .i64 0, .int .i64 0, .int .u64 0] rfl (by unfold maxLen; omega)).below (bel_alloc (RowKit.Below.refl _ _) _) : Sl _ 3 _ 3 3 (gcells wkc [(0, 0, 0), (0, 0, 0), (0, 0, 0)]))
  · intro y h; simp at h; subst h; simp
  · have h9 := heap_alloc_new (W.alloc (.cells #[.int .i64 0, .int .i64 0, .int .u64 0, .int .i64 0, .int .i64 0, .int .u64 0, .int .i64 0, .int .i64 0, .int .u64 0] 76)) (.cells (#[.int .i64 0, .int .i64 0, .int .i64 0, .int .i64 0, .int .i64 0, .slice none 0 0, .slice (some ⟨W.heap.size, 0, none⟩) 3 3]) 25)
    rw [World.size_alloc] at h9
    exact h9
theorem lay34b (W : World) (S I B E : Obj) (hS : S = .cells #[.string ⟨#[42]⟩, .string ⟨#[42]⟩, .string ⟨#[42]⟩] 9) (hI : I = .cells #[.int .i64 0, .int .i64 3, .int .i64 0] 3) (hB : B = .cells #[.bool false, .bool false, .bool false] 4) (hE : E = .cells (#[.int .i64 1, .int .i64 0, .int .i64 0, .slice (some ⟨W.heap.size, 0, none⟩) 3 3, .slice (some ⟨W.heap.size + 1, 0, none⟩) 3 3, .slice (some ⟨W.heap.size + 1 + 1, 0, none⟩) 3 3]) 29) :
    InE ((((W.alloc S).alloc I).alloc B).alloc E) ((⟨1, 0, 0, [[42], [42], [42]], [0, 3, 0], [false, false, false]⟩ : En), ⟨some ⟨W.heap.size, 0, none⟩, 3, some ⟨W.heap.size + 1, 0, none⟩, 3, some ⟨W.heap.size + 1 + 1, 0, none⟩, 3⟩) ∧ ((((W.alloc S).alloc I).alloc B).alloc E).heap[W.heap.size + 1 + 1 + 1]? = some (.cells (#[.int .i64 1, .int .i64 0, .int .i64 0, .slice (some ⟨W.heap.size, 0, none⟩) 3 3, .slice (some ⟨W.heap.size + 1, 0, none⟩) 3 3, .slice (some ⟨W.heap.size + 1 + 1, 0, none⟩) 3 3]) 29 (0, 0)) ∧ RowKit.Below W.heap.size W ((((W.alloc S).alloc I).alloc B).alloc E) := by
  refine ⟨⟨⟨?_, ?_⟩, ?_, ?_⟩, ?_, bel_alloc (bel_alloc (bel_alloc (bel_alloc (RowKit.Below.refl _ _) _) _) _) _⟩
  · subst hS
    exact ((Sl.lit W 9 1 3 #[.string ⟨#[42]⟩, .string ⟨#[42]⟩, .string ⟨#[42]⟩] rfl (by unfold maxLen; omega)).below (bel_alloc (bel_alloc (bel_alloc (RowKit.Below.refl _ _) I) B) E) : Sl _ 1 _ 3 3 (scells [[42], [42], [42]]))
  · intro s h; simp at h; subst h; unfold maxLen; simp
  · subst hI
    have h9 : Sl _ 1 _ 3 3 (icells .i64 [0, 3, 0]) := (Sl.lit (W.alloc S) 3 1 3 #[.int .i64 0, .int .i64 3, .int .i64 0] rfl (by unfold maxLen; omega)).below (bel_alloc (bel_alloc (RowKit.Below.refl _ _) B) E)
    rw [World.size_alloc] at h9
    exact h9
  · subst hB
    have h9 : Sl _ 1 _ 3 3 (blcells [false, false, false]) := (Sl.lit ((W.alloc S).alloc I) 4 1 3 #[.bool false, .bool false, .bool false] rfl (by unfold maxLen; omega)).below (bel_alloc (RowKit.Below.refl _ _) E)
    rw [World.size_alloc, World.size_alloc] at h9
    exact h9
  · subst hE
    have h9 := heap_alloc_new (((W.alloc S).alloc I).alloc B) (.cells (#[.int .i64 1, .int .i64 0, .int .i64 0, .slice (some ⟨W.heap.size, 0, none⟩) 3 3, .slice (some ⟨W.heap.size + 1, 0, none⟩) 3 3, .slice (some ⟨W.heap.size + 1 + 1, 0, none⟩) 3 3]) 29)
    rw [World.size_alloc, World.size_alloc, World.size_alloc] at h9
    exact h9
theorem ex34a : pickB (⟨1, 0, 0, [[42], [42], [42]], [0, 3, 0], [false, false, false]⟩ : En) [] [(0, 0, 0), (0, 0, 0), (0, 0, 0)] 2 [] = (1, false, true) := by kernel_rfl
theorem ex34b : pickB (⟨1, 0, 0, [[42], [42], [42]], [0, 3, 0], [false, false, false]⟩ : En) [] [(0, 0, 0), (0, 0, 0), (0, 0, 0)] 2 [false, true] = (0, true, true) := by kernel_rfl

end Go.Proofs.YtgakobolhmdnnaaGreat

namespace Go.Proofs.YtgakobolhmdnnaaGreat
open Go.RowKit Go.Sort
set_option linter.unusedVariables false
set_option linter.unusedSimpArgs false

theorem lay2 (W : World) (C E : Obj) : ((W.alloc C).alloc E).heap[W.heap.size]? = some C ∧ ((W.alloc C).alloc E).heap[W.heap.size + 1]? = some E ∧ RowKit.Below W.heap.size W ((W.alloc C).alloc E) := by
  have h2 := heap_alloc_new (W.alloc C) E
  rw [World.size_alloc] at h2
  exact ⟨keep0 (heap_alloc_new W C) (bel_alloc (RowKit.Below.refl _ _) E), h2, bel_alloc (bel_alloc (RowKit.Below.refl _ _) _) _⟩
theorem fk_splitF {p : Nat → Bool} {i : Nat} (hp : p i = true) : ∀ m, i < m → ∃ r, fk p m = fk p i ++ (i : Int) :: r
  | 0, h => absurd h (by omega)
  | k + 1, h => by
    by_cases hk : i = k
    · subst hk
      exact ⟨[], fk_yes hp⟩
    · obtain ⟨r, hr⟩ := fk_splitF hp k (by omega)
      by_cases h9 : p k = true
      · exact ⟨r ++ [(k : Int)], by rw [fk_yes h9, hr]; simp⟩
      · exact ⟨r, by rw [fk_no (by simpa using h9), hr]⟩
def pndQ (e : En) (h : List Bool) (wk : Int) (i : Nat) : Bool := pndB e h i && (e.bd.getD i 0 - 1 == wk)
theorem pndW_fk (e : En) (h : List Bool) (wk : Int) : pndW e h wk = fk (pndQ e h wk) (min e.ns.length (min e.bd.length e.dn.length)) := by
  unfold pndW pndL fk
  rw [List.filter_map, List.filter_filter]
  congr 2
  funext a
  simp [pndQ, Function.comp, Bool.and_comm]
theorem openB_fk (e : En) : openB e = fk (fun i => e.bd.getD i 0 == 0) (min e.ns.length e.bd.length) := rfl
def mayB (e : En) (T : List (List UInt8)) (ws : List Wk) (wk : Int) (i : Int) : Bool := decide (i ∈ openB e) && mayF e T ws wk i
theorem may_yes {e : En} {T ws wk} {n : Nat} (h : mayB e T ws wk n = true) (hf : ∀ k : Nat, k < n → mayB e T ws wk k = false) : (openB e).find? (mayF e T ws wk) = some (n : Int) := by
  unfold mayB at h
  rw [Bool.and_eq_true, decide_eq_true_eq] at h
  obtain ⟨j, hj, a1, a2, a3⟩ := open_mem h.1
  have hj2 : n = j := by omega
  subst hj2
  obtain ⟨r, hr⟩ := fk_splitF (p := fun i => e.bd.getD i 0 == 0) (i := n) (by simpa using a3) (min e.ns.length e.bd.length) (by omega)
  rw [openB_fk, hr, List.find?_append]
  have h0 : (fk (fun i => e.bd.getD i 0 == 0) n).find? (mayF e T ws wk) = none := by
    rw [List.find?_eq_none]
    intro x hx
    obtain ⟨i, rfl, hi, hp⟩ := fk_mem hx
    have h1 := hf i hi
    unfold mayB at h1
    have hin : (i : Int) ∈ openB e := by
      obtain ⟨r2, hr2⟩ := fk_splitF (p := fun i => e.bd.getD i 0 == 0) (i := i) hp (min e.ns.length e.bd.length) (by omega)
      rw [openB_fk, hr2]; simp
    rw [decide_eq_true hin, Bool.true_and] at h1
    simp [h1]
  rw [h0]
  simp only [List.find?_cons, h.2, Option.none_or]
theorem may_none {e : En} {T ws wk} (hf : ∀ k : Nat, k < e.ns.length → mayB e T ws wk k = false) : (openB e).find? (mayF e T ws wk) = none := by
  rw [List.find?_eq_none]
  intro x hx
  obtain ⟨i, rfl, a1, a2, a3⟩ := open_mem hx
  have h1 := hf i a1
  unfold mayB at h1
  rw [decide_eq_true hx, Bool.true_and] at h1
  simp [h1]

theorem take_mem {l : List Int} {v : Int} {n : Nat} (hn : n < l.length) (h : v ∉ l.take n) (h2 : v ≠ l.getD n 0) : v ∉ l.take (n + 1) := by
  have e : l.getD n 0 = l[n] := by simp [List.getD, hn]
  rw [e] at h2
  rw [List.take_succ_eq_append_getElem hn, List.mem_append, List.mem_singleton]
  exact fun h9 => h9.elim h h2
end Go.Proofs.YtgakobolhmdnnaaGreat

namespace Go.Proofs.YtgakobolhmdnnaaGreat
open Go.RowKit Go.Sort
set_option linter.unusedVariables false
set_option linter.unusedSimpArgs false

theorem pick_cases (e : En) (T : List (List UInt8)) (ws : List Wk) (wk : Int) (h : List Bool) :
    pickB e T ws wk h = (-1, false, false) ∨
    (∃ j : Nat, pickB e T ws wk h = ((j : Int), true, true) ∧ pndW e h wk = [] ∧ j < e.ns.length ∧ j < e.bd.length ∧ e.bd.getD j 0 = 0 ∧ hasS (setJ T ws (e.ns.getD j [])) wk = true) ∨
    (∃ j : Nat, pickB e T ws wk h = ((j : Int), false, true) ∧ j < e.ns.length ∧ j < e.bd.length ∧ j < e.dn.length ∧ e.bd.getD j 0 = wk + 1 ∧ 1 ≤ e.bd.getD j 0 ∧ e.dn.getD j false = false ∧ notB h j = false) := by
  cases hp : pndW e h wk with
  | cons t r =>
    have hm : t ∈ pndW e h wk := by rw [hp]; exact List.mem_cons_self
    unfold pndW at hm
    obtain ⟨h1, h2⟩ := List.mem_filter.1 hm
    obtain ⟨j, rfl, a1, a2, a3, a4, a5, a6⟩ := pnd_mem h1
    refine .inr (.inr ⟨j, pick_old hp, a1, a2, a3, ?_, a4, a5, a6⟩)
    have h3 : e.bd.getD j 0 - 1 = wk := by simpa using h2
    omega
  | nil =>
    cases hf : (openB e).find? (mayF e T ws wk) with
    | none => exact .inl (pick_none hp hf)
    | some i =>
      have h1 := List.find?_some hf
      have h2 := List.mem_of_find?_eq_some hf
      obtain ⟨j, rfl, a1, a2, a3⟩ := open_mem h2
      exact .inr (.inl ⟨j, pick_new hp hf, rfl, a1, a2, a3, h1⟩)
theorem lay3 (W : World) (C E O : Obj) : (((W.alloc C).alloc E).alloc O).heap[W.heap.size]? = some C ∧ (((W.alloc C).alloc E).alloc O).heap[W.heap.size + 1]? = some E ∧ (((W.alloc C).alloc E).alloc O).heap[W.heap.size + 1 + 1]? = some O ∧ RowKit.Below W.heap.size W (((W.alloc C).alloc E).alloc O) := by
  have h2 := heap_alloc_new (W.alloc C) E
  have h3 := heap_alloc_new ((W.alloc C).alloc E) O
  rw [World.size_alloc] at h2
  rw [World.size_alloc, World.size_alloc] at h3
  exact ⟨keep0 (keep0 (heap_alloc_new W C) (bel_alloc (RowKit.Below.refl _ _) E)) (bel_alloc (RowKit.Below.refl _ _) O), keep0 h2 (bel_alloc (RowKit.Below.refl _ _) O), h3, bel_alloc (bel_alloc (bel_alloc (RowKit.Below.refl _ _) _) _) _⟩
theorem entry_in {w : World} {a : Array Value} (hn : a.size = 6) (h : Rd Tryz.prog w 29 a.toList) : ∃ x : Ee, a = ecE x ∧ InE w x := by
  obtain ⟨x, h1, h2⟩ := rd_entry hn h
  exact ⟨x, Array.toList_inj.1 h1, h2⟩
end Go.Proofs.YtgakobolhmdnnaaGreat

namespace Go.Proofs.YtgakobolhmdnnaaGreat
open Go.RowKit Go.Sort
set_option linter.unusedVariables false
set_option linter.unusedSimpArgs false

structure Ou where
  o : Int
  k : Int
  j : Int
  t : Int
  p : Int
def ocl (x : Ou) : List Value := [.int .i64 x.o, .int .i64 x.k, .int .i64 x.j, .int .i64 x.t, .int .i64 x.p]
theorem ocl_len (x : Ou) : (ocl x).length = 5 := rfl
def tellO (e : En) (i : Int) : Ou := ⟨7 + e.bd.getD i.toNat 0, 4, e.id, i, e.ep⟩
def allL (e : En) (h : List Bool) : List Ou := (pndL e h).map (tellO e)
theorem mtk {α : Type} {l : List Int} {f : Int → α} {k : Nat} (hk : k < l.length) : (l.take (k + 1)).map f = (l.take k).map f ++ [f (l.getD k 0)] := by
  have e : l.getD k 0 = l[k] := by simp [List.getD, hk]
  rw [e, List.take_succ_eq_append_getElem hk, List.map_append]
  rfl
theorem info_out : (Tryz.prog.info? 74).map (fun i => (i.zero, i.size, i.bytes)) = some (some (.agg #[.int .i64 0, .int .i64 0, .int .i64 0, .int .i64 0, .int .i64 0]), 5, 40) := by kernel_rfl
theorem below_drewNH {n : Nat} {W w : World} (h : RowKit.Below n W w) (q : Nat) : RowKit.Below n W (w.drewN q) := ⟨h.os, h.tape, h.output, h.size, h.block⟩
theorem fk_split {p : Nat → Bool} {i : Nat} (hp : p i = true) : ∀ m, i < m → ∃ r, fk p m = fk p i ++ (i : Int) :: r
  | 0, h => absurd h (by omega)
  | k + 1, h => by
    by_cases hk : i = k
    · subst hk
      exact ⟨[], fk_yes hp⟩
    · obtain ⟨r, hr⟩ := fk_split hp k (by omega)
      by_cases h9 : p k = true
      · exact ⟨r ++ [(k : Int)], by rw [fk_yes h9, hr]; simp⟩
      · exact ⟨r, by rw [fk_no (by simpa using h9), hr]⟩
theorem all_at {e : En} {h : List Bool} {i : Nat} (hp : pndB e h i = true) (hi : i < min e.ns.length (min e.bd.length e.dn.length)) : (allL e h)[(fk (pndB e h) i).length]? = some (tellO e i) := by
  obtain ⟨r, hr⟩ := fk_split hp _ hi
  have h1 : allL e h = (fk (pndB e h) i).map (tellO e) ++ tellO e i :: r.map (tellO e) := by
    unfold allL pndL
    rw [hr, List.map_append, List.map_cons]
  rw [h1, List.getElem?_append_right (by simp)]
  simp

theorem entry_inE {w : World} {a : Array Value} (hn : a.size = 6) (h : Rd Tryz.prog w 29 a.toList) : ∃ x : Ee, a = ecE x ∧ InE w x := by
  obtain ⟨x, h1, h2⟩ := rd_entry hn h
  exact ⟨x, Array.toList_inj.1 h1, h2⟩
theorem had_in {w : World} {A : Option Addr} {len cap : Nat} (h : Rd Tryz.prog w 27 [.slice A len cap]) : ∃ l : List Bool, l.length = len ∧ HadAt w A cap l := by
  obtain ⟨l, h1, rfl⟩ := bools_inB h
  exact ⟨l, rfl, h1⟩
end Go.Proofs.YtgakobolhmdnnaaGreat

namespace Go.Proofs.YtgakobolhmdnnaaGreat
open Go.RowKit Go.Sort
set_option linter.unusedVariables false
set_option linter.unusedSimpArgs false

theorem ocl_one (x : Ou) : ∀ u ∈ ocl x, u.oneCell' = true := by
  intro u hu
  simp only [ocl, List.mem_cons, List.not_mem_nil, or_false] at hu
  rcases hu with rfl | rfl | rfl | rfl | rfl <;> rfl
theorem fk_map {α : Type} {p : Nat → Bool} {f : Int → α} {k : Nat} (h : p k = true) : (fk p (k + 1)).map f = (fk p k).map f ++ [f (k : Int)] := by rw [fk_yes h, List.map_append]; rfl
set_option maxRecDepth 20000 in
set_option maxHeartbeats 4000000 in
theorem outs_any (A B : Option Addr) (c c2 : Nat) (l : List Ou) (W : World) (hA : Sl W 5 A l.length c (gcells ocl l)) (hB : Sl W 5 B l.length c2 (gcells ocl l)) :
    Calls Tryz.prog 17 #[.slice A l.length c, .slice B l.length c2] W fun e w' => e = .returned (.bool true) ∧ RowKit.Below W.heap.size W w' := by
  have HA := hid hA
  have HB := hid hB
  have hl := sl_len64 hA
  clear hA hB
  generalize hm : l.length = m at *
  have HM := hid hm
  clear hm
  go_enter Tryz.func17, Tryz.ntmps17
  go_wp2
  go_loopw [5] (fun i wr => ∃ k : Nat, k ≤ m ∧ i = .int .i64 (k : Int) ∧ Hid (RowKit.Below W.heap.size W wr)) (fun i _ => m - (intOf i).toNat)
  case atStart => exact ⟨0, by omega, rfl, RowKit.Below.refl _ _⟩
  case round =>
    obtain ⟨k, hk, rfl, HW⟩ := hrel
    by_cases hlt : k < m
    · have hlt2 : (k : Int) < (m : Int) := by omega
      have i0 : ¬ (k : Int) < 0 := by omega
      have hkl : k < l.length := by rw [HM.out]; exact hlt
      obtain ⟨b, off, hA9, hc⟩ := Sl.gat (f := ocl) (n := 5) ocl_len (HA.out.below HW.out) k hkl (by omega)
      obtain ⟨b2, off2, hB9, hc2⟩ := Sl.gat (f := ocl) (n := 5) ocl_len (HB.out.below HW.out) k hkl (by omega)
      subst hA9
      subst hB9
      generalize l[k] = y at *
      have a0 := hc 0 _ rfl
      have a1 := hc 1 _ rfl
      have a2 := hc 2 _ rfl
      have a3 := hc 3 _ rfl
      have a4 := hc 4 _ rfl
      have d0 := hc2 0 _ rfl
      have d1 := hc2 1 _ rfl
      have d2 := hc2 2 _ rfl
      have d3 := hc2 3 _ rfl
      have d4 := hc2 4 _ rfl
      rw [Nat.add_zero] at a0 d0
      obtain ⟨y0, y1, y2, y3, y4⟩ := y
      simp only at a0 a1 a2 a3 a4 d0 d1 d2 d3 d4
      clear hc hc2 hkl
      go_wp2
      go_quiet (fail)
      go_wp2
      go_roundw
      case rel => exact ⟨k + 1, by omega, by go_num, hid (below_drewNH HW.out _)⟩
      case measure => simp [intOf]; omega
    · have hge : ¬ (k : Int) < (m : Int) := by omega
      go_wp2
      go_ret
      exact ⟨rfl, HW.out⟩

end Go.Proofs.YtgakobolhmdnnaaGreat
