/- the document's ends as a list: how Keep goes; both lists of ends compared. -/
import Derived.Test.YtdphdodjidbngaaGreatWv1
import Derived.Test.YtdphdodjidbngaaGreatPuP
import Derived.Test.YtdphdodjidbngaaGreatGaP
import Derived.BigQuiet
import Derived.Test.YtdphdodjidbngaaGreatPtY
namespace Go.Proofs.YtdphdodjidbngaaGreat
open Go.RowKit Go.Sort
set_option linter.unusedVariables false
set_option linter.unusedSimpArgs false

/-- An end is kept, in order. -/
def keepA (e : Ea) : List Ea → List Ea
  | [] => [e]
  | x :: l => if x.1.t < e.1.t then x :: keepA e l else if x.1.t = e.1.t then e :: l else e :: x :: l
theorem keepA_map (e : Ea) : ∀ X : List Ea, (keepA e X).map (·.1) = keepL e.1 (X.map (·.1))
  | [] => rfl
  | x :: l => by
    simp only [keepA, keepL, List.map_cons]
    split
    · rw [List.map_cons, keepA_map e l]
    · split <;> rfl
theorem keepA_mem (e x : Ea) : ∀ X : List Ea, x ∈ keepA e X → x = e ∨ x ∈ X
  | [], h => by
    left
    simpa [keepA] using h
  | y :: l, h => by
    unfold keepA at h
    split at h
    · rcases List.mem_cons.1 h with rfl | h9
      · exact .inr (List.mem_cons_self ..)
      · rcases keepA_mem e x l h9 with h8 | h8
        · exact .inl h8
        · exact .inr (List.mem_cons_of_mem _ h8)
    · split at h
      · rcases List.mem_cons.1 h with h9 | h9
        · exact .inl h9
        · exact .inr (List.mem_cons_of_mem _ h9)
      · rcases List.mem_cons.1 h with h9 | h9
        · exact .inl h9
        · exact .inr h9
/-- Whether an end is there that is not before it. -/
def metA (e : Ea) (l : List Ea) : Bool := l.any (fun x => decide (e.1.t ≤ x.1.t))
def outA (e : Ea) (l : List Ea) : List Ea := if metA e l then keepA e l else l
abbrev Rise (l : List Ea) : Prop := l.Pairwise (fun a b => a.1.t < b.1.t)
theorem keepA_low (e : Ea) (m : List Ea) : ∀ l : List Ea, metA e l = false → keepA e (l ++ m) = l ++ keepA e m
  | [], _ => rfl
  | x :: l, h => by
    simp only [metA, List.any_cons, Bool.or_eq_false_iff, decide_eq_false_iff_not] at h
    rw [List.cons_append]
    simp only [keepA]
    rw [if_pos (by omega), keepA_low e m l (by simpa [metA] using h.2)]
    rfl
theorem keepA_met (e x : Ea) : ∀ l : List Ea, Rise (l ++ [x]) → metA e l = true → keepA e (l ++ [x]) = keepA e l ++ [x]
  | [], _, h => by simp [metA] at h
  | y :: l, hr, h => by
    have hr' := List.pairwise_cons.1 hr
    rw [List.cons_append]
    simp only [keepA]
    split
    · rename_i h1
      rw [keepA_met e x l hr'.2 (by
        simp only [metA, List.any_cons, Bool.or_eq_true, decide_eq_true_eq] at h
        rcases h with h | h
        · omega
        · exact h)]
      rfl
    · split <;> rfl
theorem met_snoc (e x : Ea) (l : List Ea) : metA e (l ++ [x]) = (metA e l || decide (e.1.t ≤ x.1.t)) := by simp [metA]
theorem met_after (e x : Ea) (l : List Ea) (hr : Rise (l ++ [x])) (h : metA e l = true) : e.1.t < x.1.t := by
  obtain ⟨y, hy, h9⟩ := List.any_eq_true.1 h
  have := (List.pairwise_append.1 hr).2.2 y hy x (List.mem_singleton.2 rfl)
  simp only [decide_eq_true_eq] at h9
  omega
theorem out_low (e x : Ea) (l : List Ea) (hr : Rise (l ++ [x])) (h : x.1.t < e.1.t) : metA e l = false ∧ metA e (l ++ [x]) = false ∧ outA e (l ++ [x]) = outA e l ++ [x] := by
  have h1 : metA e l = false := by
    cases hm : metA e l with
    | false => rfl
    | true => have := met_after e x l hr hm; omega
  have h2 : metA e (l ++ [x]) = false := by rw [met_snoc, h1]; simp; omega
  exact ⟨h1, h2, by rw [outA, h2, outA, h1]; rfl⟩
theorem out_eq (e x : Ea) (l : List Ea) (hr : Rise (l ++ [x])) (h : x.1.t = e.1.t) : metA e l = false ∧ metA e (l ++ [x]) = true ∧ outA e (l ++ [x]) = outA e l ++ [e] := by
  have h1 : metA e l = false := by
    cases hm : metA e l with
    | false => rfl
    | true => have := met_after e x l hr hm; omega
  have h2 : metA e (l ++ [x]) = true := by rw [met_snoc, h1]; simp; omega
  refine ⟨h1, h2, ?_⟩
  rw [outA, h2, outA, h1, if_pos rfl, if_neg (by simp), keepA_low e [x] l h1]
  simp only [keepA]
  rw [if_neg (by omega), if_pos h]
theorem out_new (e x : Ea) (l : List Ea) (hm : metA e l = false) (h : e.1.t < x.1.t) : metA e (l ++ [x]) = true ∧ outA e (l ++ [x]) = outA e l ++ [e] ++ [x] := by
  have h2 : metA e (l ++ [x]) = true := by rw [met_snoc, hm]; simp; omega
  refine ⟨h2, ?_⟩
  rw [outA, h2, outA, hm, if_pos rfl, if_neg (by simp), keepA_low e [x] l hm]
  simp only [keepA]
  rw [if_neg (by omega), if_neg (by omega)]
  simp
theorem out_met (e x : Ea) (l : List Ea) (hr : Rise (l ++ [x])) (hm : metA e l = true) : metA e (l ++ [x]) = true ∧ outA e (l ++ [x]) = outA e l ++ [x] := by
  have h2 : metA e (l ++ [x]) = true := by rw [met_snoc, hm]; rfl
  exact ⟨h2, by rw [outA, h2, outA, hm, if_pos rfl, if_pos rfl, keepA_met e x l hr hm]⟩
theorem out_end (e : Ea) (l : List Ea) (hm : metA e l = false) : keepA e l = outA e l ++ [e] := by
  have := keepA_low e [] l hm
  rw [List.append_nil] at this
  rw [this, outA, hm]
  rfl
theorem map_rise {X : List Ea} (h : (X.map (·.1)).Pairwise (fun a b => a.t < b.t)) : Rise X := by simpa [List.pairwise_map] using h
theorem rise_take {X : List Ea} (h : Rise X) (k : Nat) (hk : k < X.length) : Rise (X.take k ++ [X[k]]) := by
  rw [← List.take_succ_eq_append_getElem hk]
  exact h.take

/-- What is kept is found. -/
theorem endP_keep (nd inc : Int) (e : Ev) (L : List Ev) (hL : L.Pairwise (fun a b => a.t < b.t)) (k : Int) : endP nd inc (keepL e L) k = if e.t = k then e else endP nd inc L k := by
  unfold endP
  rw [find_keep e k L hL]
  split <;> rfl
/-- What a rising list of ends gives, node by node. -/
theorem flat_ends {α : Type} (nd inc : Int) (g : Ev → List α) (hg : ∀ t, g (newE nd t inc) = []) : ∀ (n : Nat) (lo : Int) (L : List Ev), L.Pairwise (fun a b => a.t < b.t) → (∀ e ∈ L, lo ≤ e.t ∧ e.t < lo + n) → L.flatMap g = (List.range n).flatMap (fun (i : Nat) => g (endP nd inc L (lo + i)))
  | 0, lo, L, hp, hr => by
    cases L with
    | nil => rfl
    | cons x l => have := hr x (List.mem_cons_self ..); omega
  | n + 1, lo, L, hp, hr => by
    rw [List.range_succ_eq_map, List.flatMap_cons, List.flatMap_map]
    cases L with
    | nil =>
      have h0 : ∀ k, endP nd inc [] k = newE nd k inc := fun k => rfl
      simp [h0, hg]
    | cons x l =>
      have hp' := List.pairwise_cons.1 hp
      have hx := hr x (List.mem_cons_self ..)
      have hsh : ∀ i : Nat, lo + ((i + 1 : Nat) : Int) = (lo + 1) + i := fun i => by omega
      by_cases h : x.t = lo
      · have h0 : endP nd inc (x :: l) (lo + ((0 : Nat) : Int)) = x := by
          unfold endP
          rw [List.find?_cons, show (x.t == lo + ((0 : Nat) : Int)) = true by simp; omega]
          rfl
        have h1 : ∀ i : Nat, endP nd inc (x :: l) (lo + ((i + 1 : Nat) : Int)) = endP nd inc l (lo + 1 + i) := fun i => by
          unfold endP
          rw [List.find?_cons, show (x.t == lo + ((i + 1 : Nat) : Int)) = false by simp; omega, hsh]
        rw [h0]
        simp only [Nat.succ_eq_add_one, h1]
        rw [← flat_ends nd inc g hg n (lo + 1) l hp'.2 fun e he => by have := hp'.1 e he; have := hr e (List.mem_cons_of_mem _ he); omega]
        rfl
      · have h0 : endP nd inc (x :: l) (lo + ((0 : Nat) : Int)) = newE nd (lo + ((0 : Nat) : Int)) inc := by
          have hf : (x :: l).find? (fun e => e.t == lo + ((0 : Nat) : Int)) = none := by
            rw [List.find?_eq_none]
            intro z hz
            rcases List.mem_cons.1 hz with rfl | h9
            · simp; omega
            · have := hp'.1 z h9
              simp; omega
          unfold endP
          rw [hf]
          rfl
        rw [h0, hg, List.nil_append]
        simp only [Nat.succ_eq_add_one, hsh]
        exact flat_ends nd inc g hg n (lo + 1) (x :: l) hp fun e he => by
          rcases List.mem_cons.1 he with rfl | h9
          · omega
          · have := hp'.1 e h9
            have := hr e he
            omega
/-- Two lists of ends that are the same for whoever asks. -/
structure SameP (nd inc : Int) (L M : List Ev) : Prop where
  l : L.Pairwise (fun a b => a.t < b.t)
  m : M.Pairwise (fun a b => a.t < b.t)
  rl : ∀ e ∈ L, 0 ≤ e.t ∧ e.t < 72
  rm : ∀ e ∈ M, 0 ≤ e.t ∧ e.t < 72
  eq : ∀ k, endP nd inc L k = endP nd inc M k
theorem SameP.nil (nd inc : Int) : SameP nd inc [] [] := ⟨List.Pairwise.nil, List.Pairwise.nil, fun _ h => by simp at h, fun _ h => by simp at h, fun _ => rfl⟩
theorem SameP.keep {nd inc : Int} {L M : List Ev} (h : SameP nd inc L M) (e : Ev) (h0 : 0 ≤ e.t) (h1 : e.t < 72) : SameP nd inc (keepL e L) (keepL e M) := by
  refine ⟨sorted_keep e _ h.l, sorted_keep e _ h.m, fun x hx => ?_, fun x hx => ?_, fun k => ?_⟩
  · rcases mem_keep e x L h.l hx with rfl | h9
    · exact ⟨h0, h1⟩
    · exact h.rl x h9.1
  · rcases mem_keep e x M h.m hx with rfl | h9
    · exact ⟨h0, h1⟩
    · exact h.rm x h9.1
  · rw [endP_keep _ _ _ _ h.l, endP_keep _ _ _ _ h.m, h.eq]
/-- The document keeps an end that is as it was. -/
theorem SameP.keepR {nd inc : Int} {L M : List Ev} (h : SameP nd inc L M) (e : Ev) (h0 : 0 ≤ e.t) (h1 : e.t < 72) (he : endP nd inc M e.t = e) : SameP nd inc L (keepL e M) := by
  refine ⟨h.l, sorted_keep e _ h.m, h.rl, fun x hx => ?_, fun k => ?_⟩
  · rcases mem_keep e x M h.m hx with rfl | h9
    · exact ⟨h0, h1⟩
    · exact h.rm x h9.1
  · rw [endP_keep _ _ _ _ h.m, h.eq]
    split
    · rename_i h9
      rw [← h9, he]
    · rfl
theorem endP_map (nd inc : Int) (f : Ev → Ev) (ht : ∀ e, (f e).t = e.t) (hn : ∀ t, f (newE nd t inc) = newE nd t inc) (L : List Ev) (k : Int) : endP nd inc (L.map f) k = f (endP nd inc L k) := by
  unfold endP
  rw [List.find?_map]
  simp only [Function.comp_def, ht]
  cases L.find? (fun e => e.t == k) with
  | none => exact (hn k).symm
  | some e => rfl
theorem SameP.map {nd inc : Int} {L M : List Ev} (h : SameP nd inc L M) (f : Ev → Ev) (ht : ∀ e, (f e).t = e.t) (hn : ∀ t, f (newE nd t inc) = newE nd t inc) : SameP nd inc (L.map f) (M.map f) := by
  have key : ∀ N : List Ev, N.Pairwise (fun a b => a.t < b.t) → (N.map f).Pairwise (fun a b => a.t < b.t) := fun N hN => List.pairwise_map.2 (hN.imp fun {a b} h9 => by rw [ht, ht]; exact h9)
  have key2 : ∀ N : List Ev, (∀ e ∈ N, 0 ≤ e.t ∧ e.t < 72) → ∀ e ∈ N.map f, 0 ≤ e.t ∧ e.t < 72 := fun N hN e he => by
    obtain ⟨x, hx, rfl⟩ := List.mem_map.1 he
    rw [ht]
    exact hN x hx
  exact ⟨key _ h.l, key _ h.m, key2 _ h.rl, key2 _ h.rm, fun k => by rw [endP_map nd inc f ht hn, endP_map nd inc f ht hn, h.eq]⟩
theorem SameP.flat {α : Type} {nd inc : Int} {L M : List Ev} (h : SameP nd inc L M) (g : Ev → List α) (hg : ∀ t, g (newE nd t inc) = []) : L.flatMap g = M.flatMap g := by
  rw [flat_ends nd inc g hg 72 0 L h.l fun e he => by have := h.rl e he; omega, flat_ends nd inc g hg 72 0 M h.m fun e he => by have := h.rm e he; omega]
  simp only [h.eq]
end Go.Proofs.YtdphdodjidbngaaGreat

namespace Go.Proofs.YtdphdodjidbngaaGreat
open Go.RowKit Go.Sort
set_option linter.unusedVariables false
set_option linter.unusedSimpArgs false
theorem info_rend : (Tryz.prog.info? 82).map (fun i => (i.zero, i.size, i.bytes)) = some (some (.agg ez), 11, 104) := by kernel_rfl
theorem outA_len (e : Ea) (l : List Ea) : (outA e l).length ≤ l.length + 1 := by
  have h : ∀ l : List Ea, (keepA e l).length ≤ l.length + 1 := fun l => by
    induction l with
    | nil => simp [keepA]
    | cons x l ih =>
      simp only [keepA]
      split
      · simp only [List.length_cons]; omega
      · split <;> simp
  unfold outA
  split
  · exact h l
  · omega
theorem p7_ns (nd inc bd : Int) (A : Option Addr) (n c : Nat) : ∀ (i : Nat) (s : ByteArray), (#[.int .i64 nd, .int .i64 inc, .int .i64 bd, .slice A n c] : Array Value)[i]? ≠ some (.string s) := by
  intro i s h
  have hi : i < 4 := by
    rcases Nat.lt_or_ge i 4 with h9 | h9
    · exact h9
    · rw [Array.getElem?_eq_none (by simpa using h9)] at h
      cases h
  rcases (by omega : i = 0 ∨ i = 1 ∨ i = 2 ∨ i = 3) with rfl | rfl | rfl | rfl <;> simp at h
set_option maxRecDepth 20000 in
set_option maxHeartbeats 8000000 in
theorem p7keep_any {base g : Nat} {nd inc bd : Int} {X : List Ea} (e : Ev) (A : Option Addr) (c : Nat) (W : World) (h : P7 W base g nd inc bd X) (hR : Rise X) (hX : X.length ≤ 1000) (hT : Sl W 1 A e.o.l.length c (scells e.o.l)) (hbW : base ≤ W.heap.size) :
    Calls Tryz.prog 28 #[.pointer (some ⟨g, 0, none⟩), .agg (ec e A c)] W fun x w' => x = .returned (.tuple #[]) ∧ P7 w' base g nd inc bd (keepA (e, A, c) X) ∧ Only g W w' := by
  obtain ⟨⟨A0, c0, hb, hr⟩, htx⟩ := h
  have hg := lt_of_block hb
  have HR := hid (sl_own hr)
  have HTX := hid htx
  have HTE := hid hT
  have HRI := hid hR
  have HL := hid hX
  have HG := hid (And.intro hb (And.intro hg hbW))
  have p3 : W.cell? ⟨g, 3, none⟩ = some (.slice A0 X.length c0) := by rw [cell_of_row W g 3 _ _ _ hb]; rfl
  have pf : W.frozen? ⟨g, 3, none⟩ = false := frozen_of_row W g 3 _ _ hb
  have HP := hid (And.intro p3 pf)
  have HOL := hid (fun (l : List Ea) => outA_len (e, A, c) l)
  clear hb hr htx p3 pf hT hR hX hg hbW
  have HE := hid (rfl : (e, A, c) = (e, A, c))
  go_enter Tryz.func28, Tryz.ntmps28
  go_upto_region 1 with (fail)
  refine at_world (fun u => u.heap[W.heap.size]? = some (.cells (ec e A c) 82 (0, 0)) ∧ Below W.heap.size W u ∧ u.heap.size = W.heap.size + 1) ⟨heap_alloc_new _ _, (Below.refl _ _).alloc (Nat.le_refl _) _, by simp⟩ ?_
  rintro w1 ⟨hz1, hb1, hs1⟩
  have HZ1 := hid hz1
  have HB1 := hid hb1
  have HS1 := hid hs1
  clear hz1 hb1 hs1
  go_wp2
  go_loopw [4, 5, 6] (fun v4 v5 v6 wr => ∃ (k : Nat), k ≤ X.length ∧ v6 = .int .i64 (k : Int) ∧ v5 = .bool (metA (e, A, c) (X.take k)) ∧ ∃ v, v = v4 ∧ Hid (wr.ownsRow (W.heap.size + 1) 82 11 v (outA (e, A, c) (X.take k)).length (gcells e7 (outA (e, A, c) (X.take k)))) ∧ Hid (wr.heap[W.heap.size]? = some (.cells (ec e A c) 82 (0, 0))) ∧ Hid (Below W.heap.size W wr) ∧ Hid (W.heap.size + 1 ≤ wr.heap.size)) (fun v4 v5 v6 _ => X.length - (intOf v6).toNat)
  case atStart => exact ⟨0, by omega, rfl, rfl, _, rfl, World.ownsRow_nil _ _ _ _, HZ1.out, HB1.out, Nat.le_of_eq HS1.out.symm⟩
  case round =>
    clear HZ1 HB1 HS1
    obtain ⟨k, hk, rfl, rfl, v4, rfl, HO, HZ, HB, HSZ⟩ := hrel
    have c3 := cellb HB.out HP.out.1
    have hlm : X.length ≤ 9223372036854775807 := by have := HL.out; omega
    by_cases hlt : k < X.length
    · have hlt2 : (k : Int) < (X.length : Int) := by omega
      obtain ⟨b, off, rfl, d0, d1, d2, d3, d4, d5, d6, d7, d8, d9, d10⟩ := HR.out.e7 k hlt
      have D0 := hid d0
      have D1 := hid d1
      have D2 := hid d2
      have D3 := hid d3
      have D4 := hid d4
      have D5 := hid d5
      have D6 := hid d6
      have D7 := hid d7
      have D8 := hid d8
      have D9 := hid d9
      have D10 := hid d10
      replace d0 := cellb HB.out d0
      replace d1 := cellb HB.out d1
      replace d2 := cellb HB.out d2
      replace d3 := cellb HB.out d3
      replace d4 := cellb HB.out d4
      replace d5 := cellb HB.out d5
      replace d6 := cellb HB.out d6
      replace d7 := cellb HB.out d7
      replace d8 := cellb HB.out d8
      replace d9 := cellb HB.out d9
      replace d10 := cellb HB.out d10
      obtain ⟨⟨e0, e1, e2, e3, e4, e5, e6, e7', e8, e9, e10⟩, -⟩ := eleven_cells HZ.out
      have hw : IntKind.i64.wrap ((k : Int) + 1) = (k : Int) + 1 := IntWalk.i64_in _ (by omega)
      have HRT := rise_take HRI.out k hlt
      have HLL := HOL.out (X.take k)
      have hk9 : (X.take k).length = k := by simp; omega
      rw [hk9] at HLL
      have HNX : Hid (X.take (k + 1) = X.take k ++ [X[k]]) := hid (List.take_succ_eq_append_getElem hlt)
      have hM := HL.out
      by_cases ht : X[k].1.t < e.t
      · obtain ⟨o1, o2, o3⟩ := out_low (e, A, c) X[k] (X.take k) HRT ht
        have q1 : decide (e.t ≤ X[k].1.t) = false := decide_eq_false (by omega)
        have q2 : (X[k].1.t != e.t) = true := by simp; omega
        rw [o1]
        generalize X[k] = x at *
        try clear ht
        go_wp2_with fail
        go_quiet (fail)
        go_upto_region 9 with (fail)
        refine at_world (fun u => u.ownsRow (W.heap.size + 1) 82 11 v4 (outA (e, A, c) (X.take k)).length (gcells e7 (outA (e, A, c) (X.take k))) ∧ u.heap[W.heap.size]? = some (.cells (ec e A c) 82 (0, 0)) ∧ Below W.heap.size W u ∧ W.heap.size + 1 ≤ u.heap.size) ⟨HO.out, HZ.out, HB.out.trans ⟨rfl, rfl, rfl, Nat.le_refl _, fun _ _ => rfl⟩, HSZ.out⟩ ?_
        clear HO HZ HB HSZ
        try clear c3 d0 d1 d2 d3 d4 d5 d6 d7 d8 d9 d10 e0 e1 e2 e3 e4 e5 e6 e7' e8 e9 e10
        rintro u2 ⟨hO, hZ, hB, hS⟩
        have HO := hid hO
        have HZ := hid hZ
        have HB := hid hB
        have HSZ := hid hS
        clear hO hZ hB hS
        have c3 := cellb HB.out HP.out.1
        have d0 := cellb HB.out D0.out
        have d1 := cellb HB.out D1.out
        have d2 := cellb HB.out D2.out
        have d3 := cellb HB.out D3.out
        have d4 := cellb HB.out D4.out
        have d5 := cellb HB.out D5.out
        have d6 := cellb HB.out D6.out
        have d7 := cellb HB.out D7.out
        have d8 := cellb HB.out D8.out
        have d9 := cellb HB.out D9.out
        have d10 := cellb HB.out D10.out
        obtain ⟨⟨e0, e1, e2, e3, e4, e5, e6, e7', e8, e9, e10⟩, -⟩ := eleven_cells HZ.out
        go_quiet (fail)
        go_upto_region 10 with (fail)
        refine at_world (fun u => u.ownsRow (W.heap.size + 1) 82 11 v4 (outA (e, A, c) (X.take k)).length (gcells e7 (outA (e, A, c) (X.take k))) ∧ u.heap[W.heap.size]? = some (.cells (ec e A c) 82 (0, 0)) ∧ Below W.heap.size W u ∧ W.heap.size + 1 ≤ u.heap.size) ⟨HO.out, HZ.out, HB.out.trans ⟨rfl, rfl, rfl, Nat.le_refl _, fun _ _ => rfl⟩, HSZ.out⟩ ?_
        clear HO HZ HB HSZ
        try clear c3 d0 d1 d2 d3 d4 d5 d6 d7 d8 d9 d10 e0 e1 e2 e3 e4 e5 e6 e7' e8 e9 e10
        rintro u4 ⟨hO, hZ, hB, hS⟩
        have HO := hid hO
        have HZ := hid hZ
        have HB := hid hB
        have HSZ := hid hS
        clear hO hZ hB hS
        have c3 := cellb HB.out HP.out.1
        have d0 := cellb HB.out D0.out
        have d1 := cellb HB.out D1.out
        have d2 := cellb HB.out D2.out
        have d3 := cellb HB.out D3.out
        have d4 := cellb HB.out D4.out
        have d5 := cellb HB.out D5.out
        have d6 := cellb HB.out D6.out
        have d7 := cellb HB.out D7.out
        have d8 := cellb HB.out D8.out
        have d9 := cellb HB.out D9.out
        have d10 := cellb HB.out D10.out
        go_wp2_with (at_builtin; refine wpList_append_1 (W := u4) rfl (.tmp 46) (.tmp 54) 61 rfl (W.heap.size + 1) 82 Tryz.underlying61 info_rend rfl (by omega) rfl HO.out rfl rfl (by simp [Value.oneCell']) ?c1 ?c2 HSZ.out (Below.refl _ _) ?_)
        case c1 => unfold maxLen; (try simp only [List.length_append, List.length_singleton]); omega
        case c2 => (try simp only [List.length_append, List.length_singleton]); omega
        intro v4 w4 h2 h3 h4
        have hO : w4.ownsRow (W.heap.size + 1) 82 11 v4 (outA (e, A, c) (X.take k) ++ [x]).length (gcells e7 (outA (e, A, c) (X.take k) ++ [x])) := by rw [gcells_snoc]; simp only [List.length_append, List.length_singleton]; exact h2
        have hZ : w4.heap[W.heap.size]? = some (.cells (ec e A c) 82 (0, 0)) := (h3.block W.heap.size (by omega)).trans HZ.out
        have hB : Below W.heap.size W w4 := HB.out.trans (h3.mono (by omega))
        have hS : W.heap.size + 1 ≤ w4.heap.size := by have := HSZ.out; omega
        clear h2 h3 h4 HO HZ HB HSZ
        try clear c3 d0 d1 d2 d3 d4 d5 d6 d7 d8 d9 d10 e0 e1 e2 e3 e4 e5 e6 e7' e8 e9 e10
        have HO := hid hO
        have HZ := hid hZ
        have HB := hid hB
        have HSZ := hid hS
        clear hO hZ hB hS
        go_wp2
        go_roundw
        case rel => exact ⟨k + 1, by omega, by go_num, by rw [HNX.out, o2], _, rfl, by rw [Hid, HNX.out, o3]; exact HO.out, HZ.out, HB.out.trans ⟨rfl, rfl, rfl, Nat.le_refl _, fun _ _ => rfl⟩, HSZ.out⟩
        case measure => simp [intOf]; omega
      · by_cases hm : metA (e, A, c) (X.take k) = true
        · have hgt := met_after (e, A, c) X[k] (X.take k) HRT hm
          obtain ⟨o2, o3⟩ := out_met (e, A, c) X[k] (X.take k) HRT hm
          have o1 := hm
          have q1 : decide (e.t ≤ X[k].1.t) = true := decide_eq_true (by omega)
          have q2 : (X[k].1.t != e.t) = true := by simp; simp only at hgt; omega
          clear hm hgt
          rw [o1]
          generalize X[k] = x at *
          try clear ht
          go_wp2_with fail
          go_quiet (fail)
          go_upto_region 9 with (fail)
          refine at_world (fun u => u.ownsRow (W.heap.size + 1) 82 11 v4 (outA (e, A, c) (X.take k)).length (gcells e7 (outA (e, A, c) (X.take k))) ∧ u.heap[W.heap.size]? = some (.cells (ec e A c) 82 (0, 0)) ∧ Below W.heap.size W u ∧ W.heap.size + 1 ≤ u.heap.size) ⟨HO.out, HZ.out, HB.out.trans ⟨rfl, rfl, rfl, Nat.le_refl _, fun _ _ => rfl⟩, HSZ.out⟩ ?_
          clear HO HZ HB HSZ
          try clear c3 d0 d1 d2 d3 d4 d5 d6 d7 d8 d9 d10 e0 e1 e2 e3 e4 e5 e6 e7' e8 e9 e10
          rintro u2 ⟨hO, hZ, hB, hS⟩
          have HO := hid hO
          have HZ := hid hZ
          have HB := hid hB
          have HSZ := hid hS
          clear hO hZ hB hS
          have c3 := cellb HB.out HP.out.1
          have d0 := cellb HB.out D0.out
          have d1 := cellb HB.out D1.out
          have d2 := cellb HB.out D2.out
          have d3 := cellb HB.out D3.out
          have d4 := cellb HB.out D4.out
          have d5 := cellb HB.out D5.out
          have d6 := cellb HB.out D6.out
          have d7 := cellb HB.out D7.out
          have d8 := cellb HB.out D8.out
          have d9 := cellb HB.out D9.out
          have d10 := cellb HB.out D10.out
          obtain ⟨⟨e0, e1, e2, e3, e4, e5, e6, e7', e8, e9, e10⟩, -⟩ := eleven_cells HZ.out
          go_quiet (fail)
          go_upto_region 10 with (fail)
          refine at_world (fun u => u.ownsRow (W.heap.size + 1) 82 11 v4 (outA (e, A, c) (X.take k)).length (gcells e7 (outA (e, A, c) (X.take k))) ∧ u.heap[W.heap.size]? = some (.cells (ec e A c) 82 (0, 0)) ∧ Below W.heap.size W u ∧ W.heap.size + 1 ≤ u.heap.size) ⟨HO.out, HZ.out, HB.out.trans ⟨rfl, rfl, rfl, Nat.le_refl _, fun _ _ => rfl⟩, HSZ.out⟩ ?_
          clear HO HZ HB HSZ
          try clear c3 d0 d1 d2 d3 d4 d5 d6 d7 d8 d9 d10 e0 e1 e2 e3 e4 e5 e6 e7' e8 e9 e10
          rintro u4 ⟨hO, hZ, hB, hS⟩
          have HO := hid hO
          have HZ := hid hZ
          have HB := hid hB
          have HSZ := hid hS
          clear hO hZ hB hS
          have c3 := cellb HB.out HP.out.1
          have d0 := cellb HB.out D0.out
          have d1 := cellb HB.out D1.out
          have d2 := cellb HB.out D2.out
          have d3 := cellb HB.out D3.out
          have d4 := cellb HB.out D4.out
          have d5 := cellb HB.out D5.out
          have d6 := cellb HB.out D6.out
          have d7 := cellb HB.out D7.out
          have d8 := cellb HB.out D8.out
          have d9 := cellb HB.out D9.out
          have d10 := cellb HB.out D10.out
          go_wp2_with (at_builtin; refine wpList_append_1 (W := u4) rfl (.tmp 46) (.tmp 54) 61 rfl (W.heap.size + 1) 82 Tryz.underlying61 info_rend rfl (by omega) rfl HO.out rfl rfl (by simp [Value.oneCell']) ?c1 ?c2 HSZ.out (Below.refl _ _) ?_)
          case c1 => unfold maxLen; (try simp only [List.length_append, List.length_singleton]); omega
          case c2 => (try simp only [List.length_append, List.length_singleton]); omega
          intro v4 w4 h2 h3 h4
          have hO : w4.ownsRow (W.heap.size + 1) 82 11 v4 (outA (e, A, c) (X.take k) ++ [x]).length (gcells e7 (outA (e, A, c) (X.take k) ++ [x])) := by rw [gcells_snoc]; simp only [List.length_append, List.length_singleton]; exact h2
          have hZ : w4.heap[W.heap.size]? = some (.cells (ec e A c) 82 (0, 0)) := (h3.block W.heap.size (by omega)).trans HZ.out
          have hB : Below W.heap.size W w4 := HB.out.trans (h3.mono (by omega))
          have hS : W.heap.size + 1 ≤ w4.heap.size := by have := HSZ.out; omega
          clear h2 h3 h4 HO HZ HB HSZ
          try clear c3 d0 d1 d2 d3 d4 d5 d6 d7 d8 d9 d10 e0 e1 e2 e3 e4 e5 e6 e7' e8 e9 e10
          have HO := hid hO
          have HZ := hid hZ
          have HB := hid hB
          have HSZ := hid hS
          clear hO hZ hB hS
          go_wp2
          go_roundw
          case rel => exact ⟨k + 1, by omega, by go_num, by rw [HNX.out, o2], _, rfl, by rw [Hid, HNX.out, o3]; exact HO.out, HZ.out, HB.out.trans ⟨rfl, rfl, rfl, Nat.le_refl _, fun _ _ => rfl⟩, HSZ.out⟩
          case measure => simp [intOf]; omega
        · have hm : metA (e, A, c) (X.take k) = false := by simpa using hm
          by_cases hte : X[k].1.t = e.t
          · obtain ⟨o1, o2, o3⟩ := out_eq (e, A, c) X[k] (X.take k) HRT hte
            have q1 : decide (e.t ≤ X[k].1.t) = true := decide_eq_true (by omega)
            have q2 : (X[k].1.t != e.t) = false := by simp; omega
            clear hm hte
            rw [o1]
            generalize X[k] = x at *
            try clear ht
            go_wp2_with fail
            go_quiet (fail)
            go_upto_region 7 with (fail)
            refine at_world (fun u => u.ownsRow (W.heap.size + 1) 82 11 v4 (outA (e, A, c) (X.take k)).length (gcells e7 (outA (e, A, c) (X.take k))) ∧ u.heap[W.heap.size]? = some (.cells (ec e A c) 82 (0, 0)) ∧ Below W.heap.size W u ∧ W.heap.size + 1 ≤ u.heap.size) ⟨HO.out, HZ.out, HB.out.trans ⟨rfl, rfl, rfl, Nat.le_refl _, fun _ _ => rfl⟩, HSZ.out⟩ ?_
            clear HO HZ HB HSZ
            try clear c3 d0 d1 d2 d3 d4 d5 d6 d7 d8 d9 d10 e0 e1 e2 e3 e4 e5 e6 e7' e8 e9 e10
            rintro u2 ⟨hO, hZ, hB, hS⟩
            have HO := hid hO
            have HZ := hid hZ
            have HB := hid hB
            have HSZ := hid hS
            clear hO hZ hB hS
            obtain ⟨⟨e0, e1, e2, e3, e4, e5, e6, e7', e8, e9, e10⟩, -⟩ := eleven_cells HZ.out
            go_wp2_with (at_builtin; refine wpList_append_1 (W := u2) rfl (.tmp 31) (.tmp 33) 61 rfl (W.heap.size + 1) 82 Tryz.underlying61 info_rend rfl (by omega) rfl HO.out rfl rfl (by simp [Value.oneCell']) ?c1 ?c2 HSZ.out (Below.refl _ _) ?_)
            case c1 => unfold maxLen; (try simp only [List.length_append, List.length_singleton]); omega
            case c2 => (try simp only [List.length_append, List.length_singleton]); omega
            intro v4 w4 h2 h3 h4
            have hO : w4.ownsRow (W.heap.size + 1) 82 11 v4 (outA (e, A, c) (X.take k) ++ [(e, A, c)]).length (gcells e7 (outA (e, A, c) (X.take k) ++ [(e, A, c)])) := by rw [gcells_snoc]; simp only [List.length_append, List.length_singleton]; exact h2
            have hZ : w4.heap[W.heap.size]? = some (.cells (ec e A c) 82 (0, 0)) := (h3.block W.heap.size (by omega)).trans HZ.out
            have hB : Below W.heap.size W w4 := HB.out.trans (h3.mono (by omega))
            have hS : W.heap.size + 1 ≤ w4.heap.size := by have := HSZ.out; omega
            clear h2 h3 h4 HO HZ HB HSZ
            try clear c3 d0 d1 d2 d3 d4 d5 d6 d7 d8 d9 d10 e0 e1 e2 e3 e4 e5 e6 e7' e8 e9 e10
            have HO := hid hO
            have HZ := hid hZ
            have HB := hid hB
            have HSZ := hid hS
            clear hO hZ hB hS
            go_upto_region 9 with (fail)
            refine at_world (fun u => u.ownsRow (W.heap.size + 1) 82 11 v4 (outA (e, A, c) (X.take k) ++ [(e, A, c)]).length (gcells e7 (outA (e, A, c) (X.take k) ++ [(e, A, c)])) ∧ u.heap[W.heap.size]? = some (.cells (ec e A c) 82 (0, 0)) ∧ Below W.heap.size W u ∧ W.heap.size + 1 ≤ u.heap.size) ⟨HO.out, HZ.out, HB.out.trans ⟨rfl, rfl, rfl, Nat.le_refl _, fun _ _ => rfl⟩, HSZ.out⟩ ?_
            clear HO HZ HB HSZ
            try clear c3 d0 d1 d2 d3 d4 d5 d6 d7 d8 d9 d10 e0 e1 e2 e3 e4 e5 e6 e7' e8 e9 e10
            rintro u3 ⟨hO, hZ, hB, hS⟩
            have HO := hid hO
            have HZ := hid hZ
            have HB := hid hB
            have HSZ := hid hS
            clear hO hZ hB hS
            have c3 := cellb HB.out HP.out.1
            have d0 := cellb HB.out D0.out
            have d1 := cellb HB.out D1.out
            have d2 := cellb HB.out D2.out
            have d3 := cellb HB.out D3.out
            have d4 := cellb HB.out D4.out
            have d5 := cellb HB.out D5.out
            have d6 := cellb HB.out D6.out
            have d7 := cellb HB.out D7.out
            have d8 := cellb HB.out D8.out
            have d9 := cellb HB.out D9.out
            have d10 := cellb HB.out D10.out
            obtain ⟨⟨e0, e1, e2, e3, e4, e5, e6, e7', e8, e9, e10⟩, -⟩ := eleven_cells HZ.out
            go_quiet (fail)
            go_wp2
            go_roundw
            case rel => exact ⟨k + 1, by omega, by go_num, by rw [HNX.out, o2], _, rfl, by rw [Hid, HNX.out, o3]; exact HO.out, HZ.out, HB.out.trans ⟨rfl, rfl, rfl, Nat.le_refl _, fun _ _ => rfl⟩, HSZ.out⟩
            case measure => simp [intOf]; omega
          · obtain ⟨o2, o3⟩ := out_new (e, A, c) X[k] (X.take k) hm (by simp only; omega)
            have o1 := hm
            have q1 : decide (e.t ≤ X[k].1.t) = true := decide_eq_true (by omega)
            have q2 : (X[k].1.t != e.t) = true := by simp; omega
            clear hm hte
            rw [o1]
            generalize X[k] = x at *
            try clear ht
            go_wp2_with fail
            go_quiet (fail)
            go_upto_region 7 with (fail)
            refine at_world (fun u => u.ownsRow (W.heap.size + 1) 82 11 v4 (outA (e, A, c) (X.take k)).length (gcells e7 (outA (e, A, c) (X.take k))) ∧ u.heap[W.heap.size]? = some (.cells (ec e A c) 82 (0, 0)) ∧ Below W.heap.size W u ∧ W.heap.size + 1 ≤ u.heap.size) ⟨HO.out, HZ.out, HB.out.trans ⟨rfl, rfl, rfl, Nat.le_refl _, fun _ _ => rfl⟩, HSZ.out⟩ ?_
            clear HO HZ HB HSZ
            try clear c3 d0 d1 d2 d3 d4 d5 d6 d7 d8 d9 d10 e0 e1 e2 e3 e4 e5 e6 e7' e8 e9 e10
            rintro u2 ⟨hO, hZ, hB, hS⟩
            have HO := hid hO
            have HZ := hid hZ
            have HB := hid hB
            have HSZ := hid hS
            clear hO hZ hB hS
            obtain ⟨⟨e0, e1, e2, e3, e4, e5, e6, e7', e8, e9, e10⟩, -⟩ := eleven_cells HZ.out
            go_wp2_with (at_builtin; refine wpList_append_1 (W := u2) rfl (.tmp 31) (.tmp 33) 61 rfl (W.heap.size + 1) 82 Tryz.underlying61 info_rend rfl (by omega) rfl HO.out rfl rfl (by simp [Value.oneCell']) ?c1 ?c2 HSZ.out (Below.refl _ _) ?_)
            case c1 => unfold maxLen; (try simp only [List.length_append, List.length_singleton]); omega
            case c2 => (try simp only [List.length_append, List.length_singleton]); omega
            intro v4 w4 h2 h3 h4
            have hO : w4.ownsRow (W.heap.size + 1) 82 11 v4 (outA (e, A, c) (X.take k) ++ [(e, A, c)]).length (gcells e7 (outA (e, A, c) (X.take k) ++ [(e, A, c)])) := by rw [gcells_snoc]; simp only [List.length_append, List.length_singleton]; exact h2
            have hZ : w4.heap[W.heap.size]? = some (.cells (ec e A c) 82 (0, 0)) := (h3.block W.heap.size (by omega)).trans HZ.out
            have hB : Below W.heap.size W w4 := HB.out.trans (h3.mono (by omega))
            have hS : W.heap.size + 1 ≤ w4.heap.size := by have := HSZ.out; omega
            clear h2 h3 h4 HO HZ HB HSZ
            try clear c3 d0 d1 d2 d3 d4 d5 d6 d7 d8 d9 d10 e0 e1 e2 e3 e4 e5 e6 e7' e8 e9 e10
            have HO := hid hO
            have HZ := hid hZ
            have HB := hid hB
            have HSZ := hid hS
            clear hO hZ hB hS
            go_upto_region 9 with (fail)
            refine at_world (fun u => u.ownsRow (W.heap.size + 1) 82 11 v4 (outA (e, A, c) (X.take k) ++ [(e, A, c)]).length (gcells e7 (outA (e, A, c) (X.take k) ++ [(e, A, c)])) ∧ u.heap[W.heap.size]? = some (.cells (ec e A c) 82 (0, 0)) ∧ Below W.heap.size W u ∧ W.heap.size + 1 ≤ u.heap.size) ⟨HO.out, HZ.out, HB.out.trans ⟨rfl, rfl, rfl, Nat.le_refl _, fun _ _ => rfl⟩, HSZ.out⟩ ?_
            clear HO HZ HB HSZ
            try clear c3 d0 d1 d2 d3 d4 d5 d6 d7 d8 d9 d10 e0 e1 e2 e3 e4 e5 e6 e7' e8 e9 e10
            rintro u3 ⟨hO, hZ, hB, hS⟩
            have HO := hid hO
            have HZ := hid hZ
            have HB := hid hB
            have HSZ := hid hS
            clear hO hZ hB hS
            have c3 := cellb HB.out HP.out.1
            have d0 := cellb HB.out D0.out
            have d1 := cellb HB.out D1.out
            have d2 := cellb HB.out D2.out
            have d3 := cellb HB.out D3.out
            have d4 := cellb HB.out D4.out
            have d5 := cellb HB.out D5.out
            have d6 := cellb HB.out D6.out
            have d7 := cellb HB.out D7.out
            have d8 := cellb HB.out D8.out
            have d9 := cellb HB.out D9.out
            have d10 := cellb HB.out D10.out
            obtain ⟨⟨e0, e1, e2, e3, e4, e5, e6, e7', e8, e9, e10⟩, -⟩ := eleven_cells HZ.out
            go_quiet (fail)
            go_upto_region 10 with (fail)
            refine at_world (fun u => u.ownsRow (W.heap.size + 1) 82 11 v4 (outA (e, A, c) (X.take k) ++ [(e, A, c)]).length (gcells e7 (outA (e, A, c) (X.take k) ++ [(e, A, c)])) ∧ u.heap[W.heap.size]? = some (.cells (ec e A c) 82 (0, 0)) ∧ Below W.heap.size W u ∧ W.heap.size + 1 ≤ u.heap.size) ⟨HO.out, HZ.out, HB.out.trans ⟨rfl, rfl, rfl, Nat.le_refl _, fun _ _ => rfl⟩, HSZ.out⟩ ?_
            clear HO HZ HB HSZ
            try clear c3 d0 d1 d2 d3 d4 d5 d6 d7 d8 d9 d10 e0 e1 e2 e3 e4 e5 e6 e7' e8 e9 e10
            rintro u4 ⟨hO, hZ, hB, hS⟩
            have HO := hid hO
            have HZ := hid hZ
            have HB := hid hB
            have HSZ := hid hS
            clear hO hZ hB hS
            have c3 := cellb HB.out HP.out.1
            have d0 := cellb HB.out D0.out
            have d1 := cellb HB.out D1.out
            have d2 := cellb HB.out D2.out
            have d3 := cellb HB.out D3.out
            have d4 := cellb HB.out D4.out
            have d5 := cellb HB.out D5.out
            have d6 := cellb HB.out D6.out
            have d7 := cellb HB.out D7.out
            have d8 := cellb HB.out D8.out
            have d9 := cellb HB.out D9.out
            have d10 := cellb HB.out D10.out
            go_wp2_with (at_builtin; refine wpList_append_1 (W := u4) rfl (.tmp 46) (.tmp 54) 61 rfl (W.heap.size + 1) 82 Tryz.underlying61 info_rend rfl (by omega) rfl HO.out rfl rfl (by simp [Value.oneCell']) ?c1 ?c2 HSZ.out (Below.refl _ _) ?_)
            case c1 => unfold maxLen; (try simp only [List.length_append, List.length_singleton]); omega
            case c2 => (try simp only [List.length_append, List.length_singleton]); omega
            intro v4 w4 h2 h3 h4
            have hO : w4.ownsRow (W.heap.size + 1) 82 11 v4 (outA (e, A, c) (X.take k) ++ [(e, A, c)] ++ [x]).length (gcells e7 (outA (e, A, c) (X.take k) ++ [(e, A, c)] ++ [x])) := by rw [gcells_snoc]; simp only [List.length_append, List.length_singleton]; exact h2
            have hZ : w4.heap[W.heap.size]? = some (.cells (ec e A c) 82 (0, 0)) := (h3.block W.heap.size (by omega)).trans HZ.out
            have hB : Below W.heap.size W w4 := HB.out.trans (h3.mono (by omega))
            have hS : W.heap.size + 1 ≤ w4.heap.size := by have := HSZ.out; omega
            clear h2 h3 h4 HO HZ HB HSZ
            try clear c3 d0 d1 d2 d3 d4 d5 d6 d7 d8 d9 d10 e0 e1 e2 e3 e4 e5 e6 e7' e8 e9 e10
            have HO := hid hO
            have HZ := hid hZ
            have HB := hid hB
            have HSZ := hid hS
            clear hO hZ hB hS
            go_wp2
            go_roundw
            case rel => exact ⟨k + 1, by omega, by go_num, by rw [HNX.out, o2], _, rfl, by rw [Hid, HNX.out, o3]; exact HO.out, HZ.out, HB.out.trans ⟨rfl, rfl, rfl, Nat.le_refl _, fun _ _ => rfl⟩, HSZ.out⟩
            case measure => simp [intOf]; omega
    · have hge : ¬ (k : Int) < (X.length : Int) := by omega
      obtain rfl : k = X.length := by omega
      rw [List.take_of_length_le (Nat.le_refl _)] at HO ⊢
      cases hm : metA (e, A, c) X with
      | true =>
        have HK : Hid (outA (e, A, c) X = keepA (e, A, c) X) := hid (by rw [outA, hm]; rfl)
        have hz := keep0 HG.out.1 HB.out
        rw [HK.out] at HO
        have hO9 := HO.out
        clear HO
        obtain ⟨Aq, cq, rfl, -⟩ := Sl.of_own hO9
        have HO := hid hO9
        clear hO9
        clear HZ HR
        have pf := frozen_of_row _ g 3 _ _ hz
        have c3 := cellb HB.out HP.out.1
        go_wp2
        go_end0
        refine ⟨rfl, ?_, (Only.of_below HB.out).set 3 _⟩
        refine ⟨⟨Aq, cq, heap_setCell_same _ g 3 _ _ _ hz, own_mono (own_setOld HO.out _ _ (by have := HG.out.2.1; simp only; omega)) (by have := HG.out.2.2; omega)⟩, fun x hx => ?_⟩
        have hns := p7_ns nd inc bd A0 X.length c0
        rcases keepA_mem _ x _ hx with rfl | h9
        · exact sl_st (HTE.out.below HB.out) hz hns fun g9 hg9 => Below.heap_setCell _ _ _ _ hg9
        · exact sl_st ((HTX.out x h9).below HB.out) hz hns fun g9 hg9 => Below.heap_setCell _ _ _ _ hg9
      | false =>
        have HK : Hid (outA (e, A, c) X ++ [(e, A, c)] = keepA (e, A, c) X) := hid (out_end _ _ hm).symm
        have HLL := HOL.out X
        have hM := HL.out
        go_upto_region 12 with (fail)
        refine at_world (fun u => u.ownsRow (W.heap.size + 1) 82 11 v4 (outA (e, A, c) X).length (gcells e7 (outA (e, A, c) X)) ∧ u.heap[W.heap.size]? = some (.cells (ec e A c) 82 (0, 0)) ∧ Below W.heap.size W u ∧ W.heap.size + 1 ≤ u.heap.size) ⟨HO.out, HZ.out, HB.out.trans ⟨rfl, rfl, rfl, Nat.le_refl _, fun _ _ => rfl⟩, HSZ.out⟩ ?_
        clear HO HZ HB HSZ
        try clear c3 d0 d1 d2 d3 d4 d5 d6 d7 d8 d9 d10 e0 e1 e2 e3 e4 e5 e6 e7' e8 e9 e10
        rintro u2 ⟨hO, hZ, hB, hS⟩
        have HO := hid hO
        have HZ := hid hZ
        have HB := hid hB
        have HSZ := hid hS
        clear hO hZ hB hS
        obtain ⟨⟨e0, e1, e2, e3, e4, e5, e6, e7', e8, e9, e10⟩, -⟩ := eleven_cells HZ.out
        go_wp2_with (at_builtin; refine wpList_append_1 (W := u2) rfl (.tmp 58) (.tmp 60) 61 rfl (W.heap.size + 1) 82 Tryz.underlying61 info_rend rfl (by omega) rfl HO.out rfl rfl (by simp [Value.oneCell']) ?c1 ?c2 HSZ.out (Below.refl _ _) ?_)
        case c1 => unfold maxLen; (try simp only [List.length_append, List.length_singleton]); omega
        case c2 => (try simp only [List.length_append, List.length_singleton]); omega
        intro v4 w4 h2 h3 h4
        have hO : w4.ownsRow (W.heap.size + 1) 82 11 v4 (outA (e, A, c) X ++ [(e, A, c)]).length (gcells e7 (outA (e, A, c) X ++ [(e, A, c)])) := by rw [gcells_snoc]; simp only [List.length_append, List.length_singleton]; exact h2
        have hZ : w4.heap[W.heap.size]? = some (.cells (ec e A c) 82 (0, 0)) := (h3.block W.heap.size (by omega)).trans HZ.out
        have hB : Below W.heap.size W w4 := HB.out.trans (h3.mono (by omega))
        have hS : W.heap.size + 1 ≤ w4.heap.size := by have := HSZ.out; omega
        clear h2 h3 h4 HO HZ HB HSZ
        try clear c3 d0 d1 d2 d3 d4 d5 d6 d7 d8 d9 d10 e0 e1 e2 e3 e4 e5 e6 e7' e8 e9 e10
        have HO := hid hO
        have HZ := hid hZ
        have HB := hid hB
        have HSZ := hid hS
        clear hO hZ hB hS
        have hz := keep0 HG.out.1 HB.out
        rw [HK.out] at HO
        have hO9 := HO.out
        clear HO
        obtain ⟨Aq, cq, rfl, -⟩ := Sl.of_own hO9
        have HO := hid hO9
        clear hO9
        clear HZ HR
        have pf := frozen_of_row _ g 3 _ _ hz
        have c3 := cellb HB.out HP.out.1
        go_wp2
        go_end0
        refine ⟨rfl, ?_, (Only.of_below HB.out).set 3 _⟩
        refine ⟨⟨Aq, cq, heap_setCell_same _ g 3 _ _ _ hz, own_mono (own_setOld HO.out _ _ (by have := HG.out.2.1; simp only; omega)) (by have := HG.out.2.2; omega)⟩, fun x hx => ?_⟩
        have hns := p7_ns nd inc bd A0 X.length c0
        rcases keepA_mem _ x _ hx with rfl | h9
        · exact sl_st (HTE.out.below HB.out) hz hns fun g9 hg9 => Below.heap_setCell _ _ _ _ hg9
        · exact sl_st ((HTX.out x h9).below HB.out) hz hns fun g9 hg9 => Below.heap_setCell _ _ _ _ hg9
end Go.Proofs.YtdphdodjidbngaaGreat

namespace Go.Proofs.YtdphdodjidbngaaGreat
open Go.RowKit Go.Sort
set_option linter.unusedVariables false
set_option linter.unusedSimpArgs false

/-- Texts, maps, and blocks of other types stay. -/
structure StS (w w' : World) : Prop where
  size : w.heap.size ≤ w'.heap.size
  map : ∀ (b : Nat) (es : Array MapEntry) (c : Nat), w.heap[b]? = some (.map es c) → w'.heap[b]? = some (.map es c)
  oth : ∀ (b : Nat) (cs : Array Value) (t : TypeId) (o : Nat × Nat), t ≠ 63 → t ≠ 82 → w.heap[b]? = some (.cells cs t o) → w'.heap[b]? = some (.cells cs t o)
  str : ∀ (b i : Nat) (s : ByteArray), w.cell? ⟨b, i, none⟩ = some (.string s) → w'.cell? ⟨b, i, none⟩ = some (.string s)
theorem StS.refl (w : World) : StS w w := ⟨Nat.le_refl _, fun _ _ _ h => h, fun _ _ _ _ _ _ h => h, fun _ _ _ h => h⟩
theorem StS.trans {w w' w2 : World} (h : StS w w') (k : StS w' w2) : StS w w2 := ⟨Nat.le_trans h.size k.size, fun b es c e => k.map _ _ _ (h.map _ _ _ e), fun b cs t o h1 h2 e => k.oth _ _ _ _ h1 h2 (h.oth _ _ _ _ h1 h2 e), fun b i s e => k.str _ _ _ (h.str _ _ _ e)⟩
theorem StS.of_below {w w' : World} (h : Below w.heap.size w w') : StS w w' := ⟨h.size, fun b es c e => keep0 e h, fun b cs t o _ _ e => keep0 e h, fun b i s e => cellb h e⟩
theorem StS.only {g : Nat} {w w' : World} {cs : Array Value} (ho : Only g w w') (hg : w.heap[g]? = some (.cells cs 63 (0, 0))) (hns : NoS cs) : StS w w' := by
  refine ⟨ho.size, fun b es c e => ?_, fun b cs2 t o h1 _ e => ?_, fun b i s e => ?_⟩
  · refine (ho.keep b ?_ (lt_of_block e)).trans e
    rintro rfl
    rw [hg] at e
    cases e
  · refine (ho.keep b ?_ (lt_of_block e)).trans e
    rintro rfl
    rw [hg] at e
    cases e
    exact h1 rfl
  · have hb : b ≠ g := by
      rintro rfl
      rw [cell_of_row w b i cs _ (0, 0) hg] at e
      exact hns _ _ e
    rw [World.cell?_of_block (w := w) (a := ⟨b, i, none⟩) (ho.keep b hb (lt_of_cell e))]
    exact e
/-- A cell that holds no text is written, in a block of ends. -/
theorem StS.cell {w : World} {b i : Nat} {v u : Value} {cs : Array Value} (hb : w.heap[b]? = some (.cells cs 82 (0, 0))) (hc : w.cell? ⟨b, i, none⟩ = some v) (hv : ∀ s, v ≠ .string s) : StS w (w.setCell ⟨b, i, none⟩ u) := by
  refine ⟨Nat.le_of_eq (by simp [World.setCell]), fun b2 es c e => ?_, fun b2 cs2 t o _ h2 e => ?_, fun b2 i2 s e => ?_⟩
  · refine (Below.heap_setCell _ _ _ _ ?_).trans e
    rintro rfl
    rw [hb] at e
    cases e
  · refine (Below.heap_setCell _ _ _ _ ?_).trans e
    rintro rfl
    rw [hb] at e
    cases e
    exact h2 rfl
  · by_cases hbb : b2 = b
    · subst hbb
      have hi : i2 ≠ i := by
        rintro rfl
        rw [hc] at e
        cases e
        exact hv _ rfl
      rw [cell_of_row _ b2 i2 _ _ (0, 0) (heap_setCell_same w b2 i cs _ u hb)]
      rw [cell_of_row w b2 i2 cs _ (0, 0) hb] at e
      simpa [Array.getElem?_setIfInBounds, Ne.symm hi] using e
    · rw [World.cell?_of_block (w := w) (a := ⟨b2, i2, none⟩) (Below.heap_setCell _ _ _ _ hbb)]
      exact e
theorem Sl.sts {w w' : World} {A : Option Addr} {n c : Nat} {l : List (List UInt8)} (h : Sl w 1 A n c (scells l)) (hs : StS w w') : Sl w' 1 A n c (scells l) := by
  obtain ⟨h1, h2, h3, h4⟩ := h
  refine ⟨h1, h2, h3, fun h0 => ?_⟩
  obtain ⟨b, off, hA, hc⟩ := h4 h0
  refine ⟨b, off, hA, fun i hi => ?_⟩
  have h9 := hc i hi
  rw [List.getElem?_eq_getElem hi] at h9 ⊢
  have h7 : ∃ s, (scells l)[i] = .string s := by
    have : (scells l)[i] ∈ scells l := List.getElem_mem hi
    obtain ⟨x, _, hx⟩ := List.mem_map.1 this
    exact ⟨_, hx.symm⟩
  obtain ⟨s, hs7⟩ := h7
  rw [hs7] at h9 ⊢
  exact hs.str _ _ _ h9
theorem own_sts {w w' : World} {base e s n : Nat} {v : Value} {xs : List Value} (h : w.ownsRow base e s v n xs) (hs : StS w w') (h1 : e ≠ 63) (h2 : e ≠ 82) : w'.ownsRow base e s v n xs := by
  refine ⟨h.1, ?_⟩
  rcases h.2 with h9 | ⟨b, cap, cur, h3, h4, h5, h6⟩
  · exact .inl h9
  · exact .inr ⟨b, cap, cur, h3, h4, hs.oth _ _ _ _ h1 h2 h5, h6⟩
theorem PEnds.sts {w w' : World} {g : Nat} {L : List Ev} (h : PEnds w g L) (hs : StS w w') : PEnds w' g L := by
  obtain ⟨es, clock, hm⟩ := h.block
  obtain ⟨h1, h2, D, h3, h4, h5, h6⟩ := h
  refine ⟨h1, h2, D, nmap_blk h3 ((hs.map _ _ _ hm).trans hm.symm), h4, h5, fun e he => ?_⟩
  obtain ⟨A, c, h7, h8⟩ := h6 e he
  exact ⟨A, c, h7, h8.sts hs⟩
theorem PortAt.sts {w w' : World} {P M : Nat} {nd inc bd : Int} {L : List Ev} (h : PortAt w P M nd inc bd L) (hs : StS w w') : PortAt w' P M nd inc bd L :=
  ⟨hs.oth _ _ _ _ (by decide) (by decide) h.blk, h.ends.sts hs⟩
/-- The document's port, by its list of ends. -/
def P7M (w : World) (base g : Nat) (nd inc bd : Int) (M : List Ev) : Prop := ∃ X, X.map (·.1) = M ∧ P7 w base g nd inc bd X
theorem P7M.below {w w' : World} {base g : Nat} {nd inc bd : Int} {M : List Ev} (h : P7M w base g nd inc bd M) (hb : Below w.heap.size w w') : P7M w' base g nd inc bd M := by
  obtain ⟨X, h1, h2⟩ := h
  exact ⟨X, h1, h2.below hb⟩
theorem P7.lt {w : World} {base g : Nat} {nd inc bd : Int} {X : List Ea} (h : P7 w base g nd inc bd X) : g < w.heap.size := by
  obtain ⟨⟨A, c, h1, h2⟩, h3⟩ := h
  exact lt_of_block h1
/-- The program's port is written. -/
theorem P7M.onlyM {w w' : World} {base g m : Nat} {nd inc bd : Int} {M : List Ev} {es : Array MapEntry} {clock : Nat} (h : P7M w base g nd inc bd M) (ho : Only m w w') (hm : w.heap[m]? = some (.map es clock)) : P7M w' base g nd inc bd M := by
  obtain ⟨X, h1, ⟨A, c, h2, h3⟩, h4⟩ := h
  have hg : g ≠ m := by
    rintro rfl
    rw [hm] at h2
    cases h2
  exact ⟨X, h1, ⟨A, c, (ho.keep g hg (lt_of_block h2)).trans h2, own_map h3 hm ho.keep⟩, fun x hx => sl_map (h4 x hx) hm ho.keep⟩
/-- What a call at the document's port leaves. -/
structure R7 (w w' : World) (base g : Nat) (nd inc bd : Int) (M : List Ev) : Prop where
  p : P7M w' base g nd inc bd M
  b : Below base w w'
  s : StS w w'
theorem R7.then {w w' w2 : World} {base g : Nat} {nd inc bd : Int} {M : List Ev} (h : R7 w w' base g nd inc bd M) (hb : Below w'.heap.size w' w2) (hbw : base ≤ w.heap.size) : R7 w w2 base g nd inc bd M :=
  ⟨h.p.below hb, h.b.trans (hb.mono (Nat.le_trans hbw h.s.size)), h.s.trans (StS.of_below hb)⟩
theorem R7.after {w0 w w' : World} {base g : Nat} {nd inc bd : Int} {M : List Ev} (h : R7 w w' base g nd inc bd M) (hb : Below w0.heap.size w0 w) (hbw : base ≤ w0.heap.size) : R7 w0 w' base g nd inc bd M :=
  ⟨h.p, (hb.mono hbw).trans h.b, (StS.of_below hb).trans h.s⟩
theorem R7.keep {w : World} {base g : Nat} {nd inc bd : Int} {M : List Ev} (h : P7M w base g nd inc bd M) : R7 w w base g nd inc bd M := ⟨h, Below.refl _ _, StS.refl _⟩
theorem p7kept {base g : Nat} {nd inc bd : Int} {M : List Ev} (e : Ev) (A : Option Addr) (c : Nat) (W : World) (h : P7M W base g nd inc bd M) (hR : M.Pairwise (fun a b => a.t < b.t)) (hX : M.length ≤ 1000) (hT : Sl W 1 A e.o.l.length c (scells e.o.l)) (hbW : base ≤ W.heap.size) (hbg : base ≤ g) :
    Calls Tryz.prog 28 #[.pointer (some ⟨g, 0, none⟩), .agg (ec e A c)] W fun x w' => x = .returned (.tuple #[]) ∧ R7 W w' base g nd inc bd (keepL e M) := by
  obtain ⟨X, rfl, h1⟩ := h
  refine (p7keep_any e A c W h1 (map_rise hR) (by simpa using hX) hT hbW).mono ?_
  rintro x w' ⟨rfl, h2, h3⟩
  obtain ⟨⟨A0, c0, hb, hr⟩, htx⟩ := h1
  exact ⟨rfl, ⟨_, keepA_map _ _, h2⟩, h3.below _ hbg hbW, StS.only h3 hb (p7_ns _ _ _ _ _ _)⟩
theorem p7keptO {base g : Nat} {nd inc bd : Int} {M : List Ev} (e : Ev) (A : Option Addr) (c : Nat) (W : World) (h : P7M W base g nd inc bd M) (hR : M.Pairwise (fun a b => a.t < b.t)) (hX : M.length ≤ 1000) (hT : Sl W 1 A e.o.l.length c (scells e.o.l)) (hbW : base ≤ W.heap.size) (hbg : base ≤ g) :
    Calls Tryz.prog 28 #[.pointer (some ⟨g, 0, none⟩), .agg (ec e A c)] W fun x w' => x = .returned (.tuple #[]) ∧ R7 W w' base g nd inc bd (keepL e M) ∧ Only g W w' := by
  obtain ⟨X, rfl, h1⟩ := h
  refine (p7keep_any e A c W h1 (map_rise hR) (by simpa using hX) hT hbW).mono ?_
  rintro x w' ⟨rfl, h2, h3⟩
  obtain ⟨⟨A0, c0, hb, hr⟩, htx⟩ := h1
  exact ⟨rfl, ⟨⟨_, keepA_map _ _, h2⟩, h3.below _ hbg hbW, StS.only h3 hb (p7_ns _ _ _ _ _ _)⟩, h3⟩
theorem P7M.cells {w : World} {base g : Nat} {nd inc bd : Int} {M : List Ev} (h : P7M w base g nd inc bd M) : ∃ A c, w.heap[g]? = some (.cells #[.int .i64 nd, .int .i64 inc, .int .i64 bd, .slice A M.length c] 63 (0, 0)) := by
  obtain ⟨X, rfl, ⟨A, c, h1, h2⟩, h3⟩ := h
  exact ⟨A, c, by simpa using h1⟩
theorem P7M.at {w : World} {base g : Nat} {nd inc bd : Int} {M : List Ev} (h : P7M w base g nd inc bd M) : g < w.heap.size ∧ w.cell? ⟨g, 0, none⟩ = some (.int .i64 nd) ∧ w.cell? ⟨g, 1, none⟩ = some (.int .i64 inc) ∧ w.cell? ⟨g, 2, none⟩ = some (.int .i64 bd) := by
  obtain ⟨A, c, h1⟩ := h.cells
  refine ⟨lt_of_block h1, ?_, ?_, ?_⟩
  · rw [cell_of_row w g 0 _ _ _ h1]; rfl
  · rw [cell_of_row w g 1 _ _ _ h1]; rfl
  · rw [cell_of_row w g 2 _ _ _ h1]; rfl
theorem p7end {base g : Nat} {nd inc bd : Int} {M : List Ev} (kk : Int) (W : World) (h : P7M W base g nd inc bd M) :
    Calls Tryz.prog 27 #[.pointer (some ⟨g, 0, none⟩), .int .i64 kk] W fun e w' => ∃ A c, e = .returned (.agg (ec (endP nd inc M kk) A c)) ∧ Sl w' 1 A (endP nd inc M kk).o.l.length c (scells (endP nd inc M kk).o.l) ∧ Below W.heap.size W w' := by
  obtain ⟨X, rfl, h1⟩ := h
  exact p7end_any kk W h1
theorem p7waits {base g : Nat} {nd inc bd : Int} {M : List Ev} (kk : Int) (W : World) (h : P7M W base g nd inc bd M) :
    Calls Tryz.prog 19 #[.pointer (some ⟨g, 0, none⟩), .int .i64 kk] W fun e w' => e = .returned (.int .i64 ((endP nd inc M kk).o.l.length : Nat)) ∧ Below W.heap.size W w' := by
  obtain ⟨X, rfl, h1⟩ := h
  exact r27waits_any kk W h1
/-- Whether there is such a port. -/
def okN (nd inc bd : Int) : Bool := nodeB nd && (decide (1 ≤ inc) && decide (inc ≤ 72057594037927935)) && (decide (1 ≤ bd) && decide (bd ≤ 16))
set_option maxRecDepth 20000 in
set_option maxHeartbeats 4000000 in
theorem r27new_any (nd inc bd : Int) (W : World) :
    Calls Tryz.prog 6 #[.int .i64 nd, .int .i64 inc, .int .i64 bd] W fun e w' => ∃ g, e = .returned (.tuple #[.pointer (some ⟨g, 0, none⟩), .bool (okN nd inc bd)]) ∧ W.heap.size ≤ g ∧ P7M w' W.heap.size g nd inc bd [] ∧ Below W.heap.size W w' := by
  have hfin : W.heap.size ≤ W.heap.size ∧ P7M (W.alloc (.cells #[.int .i64 nd, .int .i64 inc, .int .i64 bd, .slice none 0 0] 63)) W.heap.size W.heap.size nd inc bd [] ∧ Below W.heap.size W (W.alloc (.cells #[.int .i64 nd, .int .i64 inc, .int .i64 bd, .slice none 0 0] 63)) :=
    ⟨Nat.le_refl _, ⟨[], rfl, ⟨none, 0, heap_alloc_new _ _, World.ownsRow_nil _ _ _ _⟩, fun x hx => by simp at hx⟩, (Below.refl _ _).alloc (Nat.le_refl _) _⟩
  have HF := hid hfin
  clear hfin
  by_cases h0 : 0 ≤ nd
  · by_cases h1 : nd < 72
    · by_cases h2 : 1 ≤ inc
      · by_cases h3 : inc ≤ 72057594037927935
        · by_cases h4 : 1 ≤ bd
          · by_cases h5 : bd ≤ 16
            · have HE : Hid (okN nd inc bd = true) := hid (by simp [okN, nodeB, h0, h1, h2, h3, h4, h5])
              go_enter Tryz.func6, Tryz.ntmps6
              go_wp2
              exact bodyPost_ret (v := .tuple #[.pointer (some ⟨W.heap.size, 0, none⟩), .bool true]) (by simp [results, Tryz.results6, go_sem]) rfl ⟨_, by rw [HE.out], HF.out⟩
            · have HE : Hid (okN nd inc bd = false) := hid (by simp [okN, nodeB, h0, h1, h2, h3, h4, h5])
              go_enter Tryz.func6, Tryz.ntmps6
              go_wp2
              exact bodyPost_ret (v := .tuple #[.pointer (some ⟨W.heap.size, 0, none⟩), .bool false]) (by simp [results, Tryz.results6, go_sem]) rfl ⟨_, by rw [HE.out], HF.out⟩
          · have HE : Hid (okN nd inc bd = false) := hid (by simp [okN, nodeB, h0, h1, h2, h3, h4])
            go_enter Tryz.func6, Tryz.ntmps6
            go_wp2
            exact bodyPost_ret (v := .tuple #[.pointer (some ⟨W.heap.size, 0, none⟩), .bool false]) (by simp [results, Tryz.results6, go_sem]) rfl ⟨_, by rw [HE.out], HF.out⟩
        · have HE : Hid (okN nd inc bd = false) := hid (by simp [okN, nodeB, h0, h1, h2, h3])
          go_enter Tryz.func6, Tryz.ntmps6
          go_wp2
          exact bodyPost_ret (v := .tuple #[.pointer (some ⟨W.heap.size, 0, none⟩), .bool false]) (by simp [results, Tryz.results6, go_sem]) rfl ⟨_, by rw [HE.out], HF.out⟩
      · have HE : Hid (okN nd inc bd = false) := hid (by simp [okN, nodeB, h0, h1, h2])
        go_enter Tryz.func6, Tryz.ntmps6
        go_wp2
        exact bodyPost_ret (v := .tuple #[.pointer (some ⟨W.heap.size, 0, none⟩), .bool false]) (by simp [results, Tryz.results6, go_sem]) rfl ⟨_, by rw [HE.out], HF.out⟩
    · have HE : Hid (okN nd inc bd = false) := hid (by simp [okN, nodeB, h0, h1])
      go_enter Tryz.func6, Tryz.ntmps6
      go_wp2
      exact bodyPost_ret (v := .tuple #[.pointer (some ⟨W.heap.size, 0, none⟩), .bool false]) (by simp [results, Tryz.results6, go_sem]) rfl ⟨_, by rw [HE.out], HF.out⟩
  · have HE : Hid (okN nd inc bd = false) := hid (by simp [okN, nodeB, h0])
    go_enter Tryz.func6, Tryz.ntmps6
    go_wp2
    exact bodyPost_ret (v := .tuple #[.pointer (some ⟨W.heap.size, 0, none⟩), .bool false]) (by simp [results, Tryz.results6, go_sem]) rfl ⟨_, by rw [HE.out], HF.out⟩
end Go.Proofs.YtdphdodjidbngaaGreat

