/- both ports in mathematics: what stays alike, whatever is put, comes, and ticks. -/
import Derived.Test.YtdphdodjidbngaaGreatWv3
import Derived.Test.YtdphdodjidbngaaGreatQPvF
import Derived.Test.YtdphdodjidbngaaGreatPtU
import Derived.Test.YtdphdodjidbngaaGreatPtY
import Derived.Test.YtdphdodjidbngaaGreatPuP
import Derived.Test.YtdphdodjidbngaaGreatWv2
import Derived.Test.YtdphdodjidbngaaGreatQGt
namespace Go.Proofs.YtdphdodjidbngaaGreat
open Go.RowKit Go.Sort
set_option linter.unusedVariables false
set_option linter.unusedSimpArgs false

/-- Few texts, each of 32 bytes at most, and none empty; numbers in range. -/
def GJ (m : Nat) (e : Ev) : Prop := e.o.l.length ≤ 16 ∧ (∀ y ∈ e.o.l, y.length ≤ 32 ∧ y ≠ []) ∧ 1 ≤ e.o.q ∧ e.o.q ≤ (m : Int) + 1 ∧ 0 ≤ e.l ∧ e.l ≤ 72057594037927935
theorem GJ.gd {m : Nat} {e : Ev} (h : GJ m e) (hm : m ≤ 1000) : GdE e := by
  obtain ⟨h1, h2, h3, h4, h5, h6⟩ := h
  exact ⟨by omega, h5, by omega, by omega, by omega, fun y hy => by have := (h2 y hy).1; omega⟩
theorem GJ.ne {m : Nat} {e : Ev} (h : GJ m e) : ∀ y ∈ e.o.l, y ≠ [] := fun y hy => (h.2.1 y hy).2
theorem GJ.mono {m m' : Nat} {e : Ev} (h : GJ m e) (hm : m ≤ m') : GJ m' e := by
  obtain ⟨h1, h2, h3, h4, h5, h6⟩ := h
  exact ⟨h1, h2, h3, by omega, h5, h6⟩
theorem gj_new (m : Nat) (f t i : Int) : GJ m (newE f t i) := ⟨by simp [newE], fun y hy => by simp [newE] at hy, by simp [newE], by simp [newE]; omega, by simp [newE], by simp [newE]⟩
theorem gj_end {m : Nat} {L : List Ev} (h : ∀ e ∈ L, GJ m e) (nd inc k : Int) : GJ m (endP nd inc L k) := by
  unfold endP
  cases hf : L.find? (fun e => e.t == k) with
  | none => exact gj_new _ _ _ _
  | some e => exact h e (List.mem_of_find?_eq_some hf)
theorem gj_put {m : Nat} {e : Ev} (h : GJ m e) (bd : Int) (hbd : bd ≤ 16) (y : List UInt8) : GJ m (putE e bd y).1.1 := by
  obtain ⟨h1, h2, h3, h4, h5, h6⟩ := h
  unfold putE
  split
  · exact ⟨h1, h2, h3, h4, h5, h6⟩
  · rename_i hy
    have key : (putV e.o bd y).1.1.q = e.o.q ∧ (putV e.o bd y).1.1.l.length ≤ 16 ∧ ∀ z ∈ (putV e.o bd y).1.1.l, z.length ≤ 32 ∧ z ≠ [] := by
      unfold putV
      split
      · exact ⟨rfl, h1, h2⟩
      · rename_i h0
        split
        · exact ⟨rfl, h1, h2⟩
        · split
          · exact ⟨rfl, h1, h2⟩
          · rename_i h9
            split
            · refine ⟨rfl, by simp, fun z hz => ?_⟩
              rw [List.mem_singleton.1 hz]
              exact ⟨by omega, h0⟩
            · refine ⟨rfl, ?_, fun z hz => ?_⟩
              · simp only [List.length_append, List.length_cons, List.length_nil]
                omega
              · rcases List.mem_append.1 hz with h8 | h8
                · exact h2 z h8
                · rw [List.mem_singleton.1 h8]
                  exact ⟨by omega, h0⟩
    obtain ⟨hq, hl, ht⟩ := key
    exact ⟨hl, ht, by show 1 ≤ (putV e.o bd y).1.1.q; omega, by show (putV e.o bd y).1.1.q ≤ _; omega, h5, h6⟩
theorem gj_tick {m : Nat} {e : Ev} (h : GJ m e) : GJ m (tikE e).1 := by
  obtain ⟨h1, h2, h3, h4, h5, h6⟩ := h
  have hl : (tikV e.o).1.l = e.o.l := tikV_l _
  have hq : (tikV e.o).1.q = e.o.q := by unfold tikV; split <;> rfl
  refine ⟨by show (tikV e.o).1.l.length ≤ 16; rw [hl]; exact h1, fun y hy => h2 y (hl ▸ hy), by show 1 ≤ (tikV e.o).1.q; omega, by show (tikV e.o).1.q ≤ _; omega, h5, h6⟩
theorem gj_lrn {m : Nat} {e : Ev} (h : GJ m e) (i : Int) : GJ m (lrnE e i).1 := by
  obtain ⟨h1, h2, h3, h4, h5, h6⟩ := h
  have hl : (lrnV e.o i).1.l = e.o.l := lrnV_l _ _
  have hq := lrnV_q e.o i
  refine ⟨by show (lrnV e.o i).1.l.length ≤ 16; rw [hl]; exact h1, fun y hy => h2 y (hl ▸ hy), by show 1 ≤ (lrnV e.o i).1.q; omega, by show (lrnV e.o i).1.q ≤ _; omega, ?_, ?_⟩
  · show 0 ≤ gL e.p e.l i
    unfold gL
    split <;> omega
  · show gL e.p e.l i ≤ _
    unfold gL
    split <;> omega
theorem gj_take {m : Nat} {e : Ev} {x : Pk} (h : GJ m e) (hx : chkP x = true) : GJ (m + 1) (takV e x).1.1 := by
  have hk := okP_iff hx
  have hxs : 0 ≤ x.s ∧ x.s ≤ 72057594037927935 := by
    have h9 := hk.2.2.2.2.2.2.1
    unfold inS at h9
    split at h9
    · simp only [decide_eq_true_eq] at h9; omega
    · simp only [beq_iff_eq] at h9; omega
  have h0 := h.mono (Nat.le_succ m)
  have hlr := (gj_lrn h x.i).mono (Nat.le_succ m)
  unfold takV
  split
  · exact h0
  · split
    · obtain ⟨h1, h2, h3, h4, h5, h6⟩ := hlr
      have hg := gN_range e.m (gP e.p x.i) (gL e.p e.l x.i) x.i x.p x.s ⟨h5, h6⟩ hxs
      exact ⟨h1, h2, h3, h4, hg.1, hg.2⟩
    · split
      · split
        · have hlr2 := gj_lrn h x.i
          obtain ⟨h1, h2, h3, h4, h5, h6⟩ := hlr2
          have hm := ackV_mem (lrnE e x.i).1.o x.i x.s
          have hn := ackV_len (lrnE e x.i).1.o x.i x.s
          have hq : (ackV (lrnE e x.i).1.o x.i x.s).1.q = (lrnE e x.i).1.o.q ∨ (ackV (lrnE e x.i).1.o x.i x.s).1.q = (lrnE e x.i).1.o.q + 1 := by
            unfold ackV
            split
            · exact .inl rfl
            · refine .inr ?_
              unfold begV
              split <;> rfl
          refine ⟨by show (ackV (lrnE e x.i).1.o x.i x.s).1.l.length ≤ 16; omega, fun y hy => h2 y (hm y hy), by show 1 ≤ (ackV (lrnE e x.i).1.o x.i x.s).1.q; omega, by show (ackV (lrnE e x.i).1.o x.i x.s).1.q ≤ _; omega, h5, h6⟩
        · exact h0
      · split
        · split
          · exact hlr
          · exact h0
        · exact h0
theorem gj_pput {m : Nat} {L : List Ev} (h : ∀ e ∈ L, GJ m e) (nd inc bd : Int) (hbd : bd ≤ 16) (k : Int) (y : List UInt8) : ∀ e ∈ (pputV nd inc bd L k y).1, GJ m e := by
  intro e he
  unfold pputV at he
  split at he
  · exact h e he
  · split at he
    · rcases mem_keepW _ _ _ he with rfl | h9
      · exact gj_put (gj_end h _ _ _) bd hbd y
      · exact h e h9
    · exact h e he
theorem gj_rput {m : Nat} {L : List Ev} (h : ∀ e ∈ L, GJ m e) (nd inc bd : Int) (hbd : bd ≤ 16) (k : Int) (y : List UInt8) : ∀ e ∈ (rputV nd inc bd L k y).1, GJ m e := by
  intro e he
  unfold rputV at he
  split at he
  · exact h e he
  · rcases mem_keepW _ _ _ he with rfl | h9
    · exact gj_put (gj_end h _ _ _) bd hbd y
    · exact h e h9
theorem gj_ptake {m : Nat} {L : List Ev} (h : ∀ e ∈ L, GJ m e) (nd inc : Int) (s : List UInt8) : ∀ e ∈ (ptakV nd inc L s).1, GJ (m + 1) e := by
  intro e he
  unfold ptakV at he
  split at he
  · exact (h e he).mono (Nat.le_succ m)
  · rename_i h8
    split at he
    · exact (h e he).mono (Nat.le_succ m)
    · rcases mem_keepW _ _ _ he with rfl | h9
      · exact gj_take (gj_end h _ _ _) (opP_ok (by simpa using h8))
      · exact (h e h9).mono (Nat.le_succ m)
theorem gj_ptick {m : Nat} {L : List Ev} (h : ∀ e ∈ L, GJ m e) : ∀ e ∈ (ptickV L).1, GJ m e := by
  intro e he
  simp only [ptickV, List.mem_map] at he
  obtain ⟨e0, h0, rfl⟩ := he
  exact gj_tick (h e0 h0)
/-- A text that is refused leaves the end as it was, and sends nothing. -/
theorem put_no (e : Ev) (bd : Int) (y : List UInt8) (h : (putE e bd y).2 ≠ 0) : (putE e bd y).1 = (e, []) := by
  unfold putE at h ⊢
  split
  · rfl
  · rename_i h9
    rw [if_neg h9] at h
    simp only at h
    have key : (putV e.o bd y).1 = (e.o, false) := by
      revert h
      unfold putV
      split
      · intro _; rfl
      · split
        · intro _; rfl
        · split
          · intro _; rfl
          · split <;> simp
    rw [key]
    rfl
theorem nodeB_in {k : Int} (h : nodeB k = true) : 0 ≤ k ∧ k < 72 := by simpa [nodeB] using h
theorem same_put {nd inc : Int} {L M : List Ev} (h : SameP nd inc L M) (bd k : Int) (y : List UInt8) : SameP nd inc (pputV nd inc bd L k y).1 (rputV nd inc bd M k y).1 ∧ (pputV nd inc bd L k y).2 = (rputV nd inc bd M k y).2 := by
  unfold pputV rputV
  by_cases h0 : nodeB k = false ∨ k = nd
  · rw [if_pos h0, if_pos h0]
    exact ⟨h, rfl⟩
  · rw [if_neg h0, if_neg h0]
    have hk := nodeB_in (k := k) (by simpa using fun h9 => h0 (.inl h9))
    rw [h.eq k]
    have ht : (putE (endP nd inc M k) bd y).1.1.t = k := (putE_t _ _ _).trans (endP_t _ _ _ _)
    by_cases h1 : (putE (endP nd inc M k) bd y).2 = 0
    · rw [if_pos h1]
      exact ⟨h.keep _ (by omega) (by omega), by simp [h1]⟩
    · rw [if_neg h1]
      have h2 := put_no _ _ _ h1
      rw [h2] at ht ⊢
      refine ⟨h.keepR _ (by omega) (by omega) ?_, by simp⟩
      show endP nd inc M (endP nd inc M k).t = endP nd inc M k
      rw [endP_t]
theorem same_take {nd inc : Int} {L M : List Ev} (h : SameP nd inc L M) (s : List UInt8) : SameP nd inc (ptakV nd inc L s).1 (ptakV nd inc M s).1 ∧ (ptakV nd inc L s).2 = (ptakV nd inc M s).2 := by
  unfold ptakV
  by_cases h0 : opE s ≠ 0
  · rw [if_pos h0, if_pos h0]
    exact ⟨h, rfl⟩
  · rw [if_neg h0, if_neg h0]
    split
    · exact ⟨h, rfl⟩
    · rw [h.eq]
      have hk := (okP_iff (opP_ok (by simpa using h0))).2.1
      have ht : (takV (endP nd inc M (opP s).f) (opP s)).1.1.t = (opP s).f := (takV_t _ _).trans (endP_t _ _ _ _)
      exact ⟨h.keep _ (by omega) (by omega), rfl⟩
theorem same_tick {nd inc : Int} {L M : List Ev} (h : SameP nd inc L M) : SameP nd inc (ptickV L).1 (ptickV M).1 ∧ (ptickV L).2 = (ptickV M).2 := by
  refine ⟨h.map tkF tkF_t fun t => rfl, ?_⟩
  have := h.flat tkT fun t => rfl
  rw [List.flatMap_def, List.flatMap_def] at this
  exact this
theorem waits_end (nd inc : Int) (L : List Ev) (k : Int) : pwaitV L k = ((endP nd inc L k).o.l.length : Nat) := by
  unfold pwaitV endP
  cases hf : L.find? (fun e => e.t == k) with
  | none => rfl
  | some e => rfl
theorem same_waits {nd inc : Int} {L M : List Ev} (h : SameP nd inc L M) (k : Int) : pwaitV L k = ((endP nd inc M k).o.l.length : Nat) := by rw [waits_end nd inc, h.eq]
/-- Both ports, in mathematics. -/
structure TwoP (nd inc : Int) (m : Nat) (L M : List Ev) : Prop where
  s : SameP nd inc L M
  gl : ∀ e ∈ L, GJ m e
  gm : ∀ e ∈ M, GJ m e
theorem TwoP.nil (nd inc : Int) (m : Nat) : TwoP nd inc m [] [] := ⟨SameP.nil _ _, fun _ h => by simp at h, fun _ h => by simp at h⟩
theorem TwoP.mono {nd inc : Int} {m m' : Nat} {L M : List Ev} (h : TwoP nd inc m L M) (hm : m ≤ m') : TwoP nd inc m' L M := ⟨h.s, fun e he => (h.gl e he).mono hm, fun e he => (h.gm e he).mono hm⟩
theorem TwoP.put {nd inc : Int} {m : Nat} {L M : List Ev} (h : TwoP nd inc m L M) (bd : Int) (hbd : bd ≤ 16) (k : Int) (y : List UInt8) : TwoP nd inc (m + 1) (pputV nd inc bd L k y).1 (rputV nd inc bd M k y).1 :=
  TwoP.mono ⟨(same_put h.s bd k y).1, gj_pput h.gl _ _ _ hbd _ _, gj_rput h.gm _ _ _ hbd _ _⟩ (Nat.le_succ m)
theorem TwoP.take {nd inc : Int} {m : Nat} {L M : List Ev} (h : TwoP nd inc m L M) (s : List UInt8) : TwoP nd inc (m + 1) (ptakV nd inc L s).1 (ptakV nd inc M s).1 := ⟨(same_take h.s s).1, gj_ptake h.gl _ _ _, gj_ptake h.gm _ _ _⟩
theorem TwoP.tick {nd inc : Int} {m : Nat} {L M : List Ev} (h : TwoP nd inc m L M) : TwoP nd inc (m + 1) (ptickV L).1 (ptickV M).1 :=
  TwoP.mono ⟨(same_tick h.s).1, gj_ptick h.gl, gj_ptick h.gm⟩ (Nat.le_succ m)
theorem TwoP.len {nd inc : Int} {m : Nat} {L M : List Ev} (h : TwoP nd inc m L M) : L.length ≤ 72 ∧ M.length ≤ 72 := by
  have h1 := sorted_len L 0 h.s.l h.s.rl (by omega)
  have h2 := sorted_len M 0 h.s.m h.s.rm (by omega)
  omega
end Go.Proofs.YtdphdodjidbngaaGreat

namespace Go.Proofs.YtdphdodjidbngaaGreat
open Go.RowKit Go.Sort
set_option linter.unusedVariables false
set_option linter.unusedSimpArgs false

/-- An act whose numbers and texts are in range. -/
def ApO2 (x : Ap) : Prop := ApOk x ∧ -9223372036854775808 ≤ x.t ∧ x.t ≤ 9223372036854775807
theorem rd_ap2 {w : World} {cs : List Value} (hn : cs.length = 10) (h : Rd Tryz.prog w 32 cs) : ∃ x : Ap, cs = apl x ∧ ApO2 x := by
  obtain ⟨x, rfl, hx⟩ := rd_ap hn h
  refine ⟨x, rfl, hx, ?_⟩
  have hc : Tryz.prog.cellsOf 3 = 1 := by kernel_rfl
  obtain ⟨_, hf⟩ := Rd.struct Tryz.underlying32 h
  have f1 : Rd Tryz.prog w 3 (((apl x).drop 1).take (Tryz.prog.cellsOf 3)) := hf 1 _ rfl
  rw [hc] at f1
  obtain ⟨t, e1, hw⟩ := Rd.int Tryz.underlying3 f1
  simp [apl] at e1
  rw [← e1] at hw
  exact wf_i64 hw
theorem acts_in27b {w : World} {A : Option Addr} {len cap : Nat} (h : Rd Tryz.prog w 23 [.slice A len cap]) : ∃ l : List Ap, l.length = len ∧ Sl w 10 A l.length cap (gcells apl l) ∧ ∀ x ∈ l, ApO2 x := by
  obtain ⟨l, h1, h2, h3⟩ := rows_in (α := Ap) (f := apl) (fun x => ApO2 x) Tryz.underlying23 (n := 10) (by kernel_rfl) (by omega) apl_len (fun cs hl hr => rd_ap2 hl hr) h
  subst h2
  exact ⟨l, rfl, h1, h3⟩

set_option maxRecDepth 20000 in
theorem pwaits_all {P M : Nat} {nd inc bd : Int} {L : List Ev} (k : Int) (W : World) (h : PortAt W P M nd inc bd L) (h0 : -9223372036854775808 ≤ k) (h1 : k ≤ 9223372036854775807) :
    Calls Tryz.prog 18 #[.pointer (some ⟨P, 0, none⟩), .int .i64 k] W fun e w' => e = .returned (.int .i64 (pwaitV L k)) ∧ W = w' := by
  cases ha : (L.any fun x => x.t == k) with
  | true =>
    obtain ⟨x, hx, hk⟩ := List.any_eq_true.1 ha
    have hr := h.ends.2.1 x hx
    have hk : x.t = k := by simpa using hk
    exact pwaits_any k W h (by omega) (by omega)
  | false =>
    obtain ⟨c0, c1, c2, c3⟩ := h.cells
    obtain ⟨-, hl0, hE⟩ := pends_no h.ends h0 h1 ha
    have hl := hl0 W (Below.refl _ _)
    clear hl0
    have HV : Hid (pwaitV L k = 0) := hid (by rw [pwaitV, hE]; rfl)
    simp only [ez] at hl
    generalize pwaitV L k = rv at *
    clear ha h h0 h1 hE
    go_enter Tryz.func18, Tryz.ntmps18
    have hf1 := fun x0 x1 x2 x3 x4 x5 x6 x7 x8 x9 x10 => fld_out x0 x1 x2 x3 x4 x5 x6 x7 x8 x9 x10
    have hf2 := fun x3 x4 x6 x7 A n c => fld_texts x3 x4 x6 x7 A n c
    go_wp2
    go_ret
    exact ⟨by rw [HV.out]; rfl, rfl⟩
set_option maxRecDepth 20000 in
theorem pnil_put (k : Int) (s : ByteArray) (W : World) : Calls Tryz.prog 7 #[.pointer none, .int .i64 k, .string s] W fun e w' => e = .returned (.tuple #[.slice none 0 0, .int .i64 1]) ∧ Below W.heap.size W w' := by
  go_enter Tryz.func7, Tryz.ntmps7
  go_wp2
  exact bodyPost_ret (v := .tuple #[.slice none 0 0, .int .i64 1]) (by simp [results, Tryz.results7, go_sem]) rfl ⟨rfl, Below.refl _ _⟩
set_option maxRecDepth 20000 in
theorem pnil_take (s : ByteArray) (W : World) : Calls Tryz.prog 13 #[.pointer none, .string s] W fun e w' => e = .returned (.tuple #[.int .i64 (-1), .string ⟨#[]⟩, .slice none 0 0, .int .i64 1]) ∧ Below W.heap.size W w' := by
  go_enter Tryz.func13, Tryz.ntmps13
  go_wp2
  exact bodyPost_ret (v := .tuple #[.int .i64 (-1), .string ⟨#[]⟩, .slice none 0 0, .int .i64 1]) (by simp [results, Tryz.results13, go_sem]) rfl ⟨rfl, Below.refl _ _⟩
set_option maxRecDepth 20000 in
theorem pnil_bare (k : Int) (s : ByteArray) (W : World) : Calls Tryz.prog 10 #[.pointer none, .int .i64 k, .string s] W fun e w' => e = .returned (.slice none 0 0) ∧ Below W.heap.size W w' := by
  go_enter Tryz.func10, Tryz.ntmps10
  go_wp2
  go_ret
  exact ⟨rfl, Below.refl _ _⟩
set_option maxRecDepth 20000 in
theorem pnil_tick  (W : World) : Calls Tryz.prog 15 #[.pointer none] W fun e w' => e = .returned (.slice none 0 0) ∧ Below W.heap.size W w' := by
  go_enter Tryz.func15, Tryz.ntmps15
  go_wp2
  go_ret
  exact ⟨rfl, Below.refl _ _⟩
set_option maxRecDepth 20000 in
theorem pnil_waits (k : Int) (W : World) : Calls Tryz.prog 18 #[.pointer none, .int .i64 k] W fun e w' => e = .returned (.int .i64 0) ∧ Below W.heap.size W w' := by
  go_enter Tryz.func18, Tryz.ntmps18
  go_wp2
  go_ret
  exact ⟨rfl, Below.refl _ _⟩
set_option maxRecDepth 20000 in
theorem pnil_clone  (W : World) : Calls Tryz.prog 17 #[.pointer none] W fun e w' => e = .returned (.pointer none) ∧ Below W.heap.size W w' := by
  go_enter Tryz.func17, Tryz.ntmps17
  go_wp2
  go_ret
  exact ⟨rfl, Below.refl _ _⟩
set_option maxRecDepth 20000 in
theorem ptnew_no (n inc b : Int) (h : okN n inc b = false) (W : World) :
    Calls Tryz.prog 5 #[.int .i64 n, .int .i64 inc, .int .i64 b] W fun e w' => e = .returned (.pointer none) ∧ Below W.heap.size W w' := by
  have HN := hid (fun u => pnode_any n u)
  cases hn : nodeB n with
  | false =>
    rw [hn] at HN
    clear h hn
    go_enter Tryz.func5, Tryz.ntmps5
    go_wp2_with (go_at_call 22; refine (HN.out _).mono ?_; rintro e w' ⟨rfl, rfl⟩)
    go_ret
    exact ⟨rfl, Below.refl _ _⟩
  | true =>
    rw [hn] at HN
    rw [okN, hn] at h
    simp only [Bool.true_and] at h
    have hc : inc < 1 ∨ (1 ≤ inc ∧ 72057594037927935 < inc) ∨ (1 ≤ inc ∧ inc ≤ 72057594037927935 ∧ b < 1) ∨ (1 ≤ inc ∧ inc ≤ 72057594037927935 ∧ 1 ≤ b ∧ 16 < b) := by
      rcases Int.lt_or_le inc 1 with h1 | h1
      · exact .inl h1
      · rcases Int.lt_or_le 72057594037927935 inc with h2 | h2
        · exact .inr (.inl ⟨h1, h2⟩)
        · rcases Int.lt_or_le b 1 with h3 | h3
          · exact .inr (.inr (.inl ⟨h1, h2, h3⟩))
          · rcases Int.lt_or_le 16 b with h4 | h4
            · exact .inr (.inr (.inr ⟨h1, h2, h3, h4⟩))
            · simp [h1, h2, h3, h4] at h
    clear h hn
    rcases hc with h1 | ⟨h1, h2⟩ | ⟨h1, h2, h3⟩ | ⟨h1, h2, h3, h4⟩
    · have e1 : decide (inc < 1) = true := decide_eq_true h1
      go_enter Tryz.func5, Tryz.ntmps5
      go_wp2_with (go_at_call 22; refine (HN.out _).mono ?_; rintro e w' ⟨rfl, rfl⟩)
      go_ret
      exact ⟨rfl, Below.refl _ _⟩
    · have e1 : decide (inc < 1) = false := decide_eq_false (by omega)
      have e2 : decide (72057594037927935 < inc) = true := decide_eq_true h2
      go_enter Tryz.func5, Tryz.ntmps5
      go_wp2_with (go_at_call 22; refine (HN.out _).mono ?_; rintro e w' ⟨rfl, rfl⟩)
      go_ret
      exact ⟨rfl, Below.refl _ _⟩
    · have e1 : decide (inc < 1) = false := decide_eq_false (by omega)
      have e2 : decide (72057594037927935 < inc) = false := decide_eq_false (by omega)
      have e3 : decide (b < 1) = true := decide_eq_true h3
      go_enter Tryz.func5, Tryz.ntmps5
      go_wp2_with (go_at_call 22; refine (HN.out _).mono ?_; rintro e w' ⟨rfl, rfl⟩)
      go_ret
      exact ⟨rfl, Below.refl _ _⟩
    · have e1 : decide (inc < 1) = false := decide_eq_false (by omega)
      have e2 : decide (72057594037927935 < inc) = false := decide_eq_false (by omega)
      have e3 : decide (b < 1) = false := decide_eq_false (by omega)
      have e4 : decide (16 < b) = true := decide_eq_true h4
      go_enter Tryz.func5, Tryz.ntmps5
      go_wp2_with (go_at_call 22; refine (HN.out _).mono ?_; rintro e w' ⟨rfl, rfl⟩)
      go_ret
      exact ⟨rfl, Below.refl _ _⟩
end Go.Proofs.YtdphdodjidbngaaGreat

namespace Go.Proofs.YtdphdodjidbngaaGreat
open Go.RowKit Go.Sort
set_option linter.unusedVariables false
set_option linter.unusedSimpArgs false

theorem P7M.mono {w : World} {base b' g : Nat} {nd inc bd : Int} {M : List Ev} (h : P7M w base g nd inc bd M) (hb : b' ≤ base) : P7M w b' g nd inc bd M := by
  obtain ⟨X, h1, ⟨A, c, h2, h3⟩, h4⟩ := h
  exact ⟨X, h1, ⟨A, c, h2, own_mono h3 hb⟩, h4⟩
/-- Both ports. -/
structure PS (W w : World) (nd inc bd : Int) (P Mp g : Nat) (L M : List Ev) : Prop where
  pt : PortAt w P Mp nd inc bd L
  p7 : P7M w W.heap.size g nd inc bd M
  bel : Below W.heap.size W w
  mw : W.heap.size ≤ Mp
  gw : W.heap.size ≤ g
theorem PS.below {W w w' : World} {nd inc bd : Int} {P Mp g : Nat} {L M : List Ev} (h : PS W w nd inc bd P Mp g L M) (hb : Below w.heap.size w w') : PS W w' nd inc bd P Mp g L M :=
  ⟨h.pt.below hb, h.p7.below hb, h.bel.trans (hb.mono h.bel.size), h.mw, h.gw⟩
theorem PS.onP {W w w' : World} {nd inc bd : Int} {P Mp g : Nat} {L L' M : List Ev} (h : PS W w nd inc bd P Mp g L M) (hp : PortAt w' P Mp nd inc bd L') (ho : Only Mp w w') : PS W w' nd inc bd P Mp g L' M := by
  obtain ⟨es, clock, hm⟩ := h.pt.ends.block
  exact ⟨hp, h.p7.onlyM ho hm, h.bel.trans (ho.below _ h.mw h.bel.size), h.mw, h.gw⟩
theorem PS.on7 {W w w' : World} {nd inc bd : Int} {P Mp g : Nat} {L M M' : List Ev} (h : PS W w nd inc bd P Mp g L M) (hr : R7 w w' W.heap.size g nd inc bd M') : PS W w' nd inc bd P Mp g L M' :=
  ⟨h.pt.sts hr.s, hr.p, h.bel.trans hr.b, h.mw, h.gw⟩
/-- The port is another one: a clone of it, and it alone was written since. -/
theorem PS.swap {W w w2 w3 : World} {nd inc bd : Int} {P Mp P2 M2 g : Nat} {L L' M : List Ev} (h : PS W w nd inc bd P Mp g L M) (h2 : PortAt w2 P2 M2 nd inc bd L) (hM2 : w.heap.size ≤ M2) (hb : Below w.heap.size w w2) (ho : Only Mp w2 w3) : PS W w3 nd inc bd P2 M2 g L M := by
  have hs := h.below hb
  obtain ⟨es, clock, hm⟩ := hs.pt.ends.block
  have hlt : Mp < w.heap.size := h.pt.ends.lt
  refine ⟨h2.other ho hm (by omega), hs.p7.onlyM ho hm, hs.bel.trans (ho.below _ h.mw hs.bel.size), Nat.le_trans h.bel.size hM2, h.gw⟩
/-- A block of cells stays, whatever either port does. -/
theorem PS.blkP {W w w' : World} {nd inc bd : Int} {P Mp g b t : Nat} {cs : Array Value} {L M : List Ev} (h : PS W w nd inc bd P Mp g L M) (hb : w.heap[b]? = some (.cells cs t (0, 0))) (hu : Only Mp w w') : w'.heap[b]? = some (.cells cs t (0, 0)) := by
  obtain ⟨es, clock, hm⟩ := h.pt.ends.block
  refine (hu.keep b ?_ (lt_of_block hb)).trans hb
  rintro rfl
  rw [hm] at hb
  cases hb
end Go.Proofs.YtdphdodjidbngaaGreat

namespace Go.Proofs.YtdphdodjidbngaaGreat
open Go.RowKit Go.Sort
set_option linter.unusedVariables false
set_option linter.unusedSimpArgs false

/-- What is sent of a text that is not repeated. -/
def bareV (nd inc k : Int) (y : ByteArray) : List (List UInt8) := if okP 4 nd k inc 0 0 y.data.toList then [(pbS 4 nd k inc 0 0 y).data.toList] else []
def PBareR (W : World) (l : List (List UInt8)) (x : Ending) (w' : World) : Prop :=
  ∃ A c, x = .returned (.slice A l.length c) ∧ w'.ownsRow W.heap.size 9 1 (.slice A l.length c) l.length (scells l) ∧ Below W.heap.size W w'
theorem bare_len (nd inc k : Int) (y : ByteArray) : (bareV nd inc k y).length ≤ 1 := by
  unfold bareV
  split <;> simp
theorem pbS_ne {k f t i p s : Int} {b : ByteArray} (h : okP k f t i p s b.data.toList = true) : (pbS k f t i p s b).toList.isEmpty = false := by
  rw [pbS, if_pos h]
  have hl := plB_len (k := k) (f := f) (t := t) (i := i) (p := p) (s := s) (b := b.data.toList) (okP_iff h).2.2.2.2.2.2.2
  have h1 : 0 < (frP (plB k f t i p s b.data.toList)).length := by rw [frP_len _ (by omega)]; omega
  have h9 : ∀ l : List UInt8, 0 < l.length → (str l).toList.isEmpty = false := fun l hl => by
    have h9 : l ≠ [] := by intro e; rw [e] at hl; simp at hl
    rw [ByteArray.toList_eq]
    simpa [str] using h9
  exact h9 _ h1
theorem own_string {W u : World} {s : ByteArray} (h : Below W.heap.size W u) : (u.alloc (.cells #[.string s] 9)).ownsRow W.heap.size 9 1 (.slice (some ⟨u.heap.size, 0, none⟩) 1 1) 1 (scells [s.data.toList]) := by
  refine ⟨rfl, .inr ⟨u.heap.size, 1, #[.string s], rfl, h.size, heap_alloc_new _ _, by omega, by unfold maxLen; omega, rfl, ?_⟩⟩
  have : str s.data.toList = s := by simp [str]
  simp [scells, this]
set_option maxRecDepth 20000 in
set_option maxHeartbeats 4000000 in
theorem pbare_any {P M : Nat} {nd inc bd : Int} {L : List Ev} (k : Int) (y : ByteArray) (W : World) (h : PortAt W P M nd inc bd L) (hy : y.size ≤ 1000) :
    Calls Tryz.prog 10 #[.pointer (some ⟨P, 0, none⟩), .int .i64 k, .string y] W (PBareR W (bareV nd inc k y)) := by
  have HB := hid h
  have HBY := hid (fun w => pbytes_any 4 nd k inc 0 0 y hy w)
  have HC := hid (fun (h9 : okP 4 nd k inc 0 0 y.data.toList = true) => And.intro (show bareV nd inc k y = [(pbS 4 nd k inc 0 0 y).data.toList] by rw [bareV, if_pos h9]) (pbS_ne h9))
  have HD := hid (fun (h9 : okP 4 nd k inc 0 0 y.data.toList = false) => And.intro (show bareV nd inc k y = [] by rw [bareV, if_neg (by simp [h9])]) (show pbS 4 nd k inc 0 0 y = ⟨#[]⟩ by rw [pbS, if_neg (by simp [h9])]))
  generalize bareV nd inc k y = rv at *
  generalize pbS 4 nd k inc 0 0 y = sb at *
  clear h hy
  go_enter Tryz.func10, Tryz.ntmps10
  go_upto_region 3 with (fail)
  have hS : ∀ U, Below W.heap.size W U → (U.cell? ⟨P, 0, none⟩ = some (.int .i64 nd) ∧ U.cell? ⟨P, 1, none⟩ = some (.int .i64 inc)) := fun U hU => by
    obtain ⟨c0, c1, -, -⟩ := (HB.out.below hU).cells
    exact ⟨c0, c1⟩
  have hu0 : Below W.heap.size W W.drew := below_drew (Below.refl _ _)
  refine wp_region_held_drew (S := fun U => U.cell? ⟨P, 0, none⟩ = some (.int .i64 nd) ∧ U.cell? ⟨P, 1, none⟩ = some (.int .i64 inc)) (by kernel_rfl) (hS _ hu0) (fun hHeld => ?_)
  generalize W.drew = u0 at *
  refine tkA 0 ?_ rfl ?_ (by assumption) ?_; rotate_left; focus (intro U hU; (try dsimp only at hU); go_simp; try (with_reducible rfl))
  simp only [gt6, Act.put]
  refine tkA 1 ?_ rfl ?_ (by assumption) ?_; rotate_left; focus (intro U hU; (try dsimp only at hU); go_simp; try (with_reducible rfl))
  simp only [gt6, Act.put]
  refine tkA 2 ?_ rfl ?_ (by assumption) ?_; rotate_left; focus (intro U hU; (try dsimp only at hU); go_simp; try (with_reducible rfl))
  simp only [gt6, Act.put]
  refine tkA 3 ?_ rfl ?_ (by assumption) ?_; rotate_left; focus (intro U hU; (try dsimp only at hU); go_simp; try (with_reducible rfl))
  simp only [gt6, Act.put]
  refine tkA 4 ?_ rfl ?_ (by assumption) ?_; rotate_left; focus (intro U hU; (try dsimp only at hU); go_simp; try (with_reducible rfl))
  simp only [gt6, Act.put]
  refine tkA 5 ?_ rfl ?_ (by assumption) ?_; rotate_left; focus (intro U hU; (try dsimp only at hU); go_simp; try (with_reducible rfl))
  simp only [gt6, Act.put]
  refine tkA 6 ?_ rfl ?_ (by assumption) ?_; rotate_left; focus (intro U hU; (try dsimp only at hU); go_simp; try (with_reducible rfl))
  simp only [gt6, Act.put]
  refine tkA 7 ?_ rfl ?_ (by assumption) ?_; rotate_left; focus (intro U hU; (try dsimp only at hU); go_simp; try (with_reducible rfl))
  simp only [gt6, Act.put]
  refine tkA 8 ?_ rfl ?_ (by assumption) ?_; rotate_left; focus (intro U hU; (try dsimp only at hU); go_simp; try (with_reducible rfl))
  simp only [gt6, Act.put]
  refine tkA 9 ?_ rfl ?_ (by assumption) ?_; rotate_left; focus (intro U hU; (try dsimp only at hU); go_simp; try (with_reducible rfl))
  simp only [gt6, Act.put]
  refine tkA 10 ?_ rfl ?_ (by assumption) ?_; rotate_left; focus (intro U hU; (try dsimp only at hU); go_simp; try (with_reducible rfl))
  simp only [gt6, Act.put]
  refine wpAnyH_ready (rs := [11]) (by kernel_rfl) (by simp) ?_
  refine AllReadyH.cons rfl (fun K hK => ?_) AllReadyH.nil
  simp only [gt3]
  go_simp
  refine (HBY.out _).mono ?_
  rintro q u1 ⟨rfl, hb1⟩
  have hu1 : Below W.heap.size W u1 := hu0.trans (hb1.mono hu0.size)
  clear hb1
  go_wp2_with fail
  refine hK.out _ _ ?_ (fun hHeld2 => ?_)
  focus
    exact hS _ (by with_reducible assumption)
  clear hHeld
  have hHeld := hHeld2
  clear hHeld2 hK K
  try simp only [gt6, Act.put]
  refine tkA 12 ?_ rfl ?_ (by assumption) ?_; rotate_left; focus (intro U hU; (try dsimp only at hU); go_simp; try (with_reducible rfl))
  simp only [gt6, Act.put]
  refine wpAnyH_done (by kernel_rfl) ?_ _
  clear hHeld hS HBY
  have HU1 := hid hu1
  clear hu0 hu1
  cases hc : okP 4 nd k inc 0 0 y.data.toList with
  | true =>
    obtain ⟨hv, hne⟩ := HC.out hc
    have HV := hid hv
    clear HC HD hc hv
    go_wp2
    go_ret
    exact ⟨_, _, by rw [HV.out]; rfl, by rw [HV.out]; exact own_string HU1.out, bel_alloc HU1.out _⟩
  | false =>
    obtain ⟨hv, hz⟩ := HD.out hc
    have HV := hid hv
    subst hz
    have hz2 : (⟨#[]⟩ : ByteArray).toList.isEmpty = true := by rw [ByteArray.toList_eq]; rfl
    clear HC HD hc hv
    go_wp2
    go_ret
    exact ⟨none, 0, by rw [HV.out]; rfl, by rw [HV.out]; exact World.ownsRow_nil _ _ _ _, HU1.out⟩
set_option maxRecDepth 20000 in
set_option maxHeartbeats 4000000 in
theorem rbare_any {base g : Nat} {nd inc bd : Int} {M : List Ev} (k : Int) (y : ByteArray) (W : World) (h : P7M W base g nd inc bd M) (hy : y.size ≤ 1000) :
    Calls Tryz.prog 11 #[.pointer (some ⟨g, 0, none⟩), .int .i64 k, .string y] W (PBareR W (bareV nd inc k y)) := by
  have HB := hid h
  have HBY := hid (fun w => rpbytes_any 4 nd k inc 0 0 y hy w)
  have HCK := hid (fun w => rcheck_any 4 nd k inc 0 0 y w)
  have HC := hid (fun (h9 : okP 4 nd k inc 0 0 y.data.toList = true) => show bareV nd inc k y = [(pbS 4 nd k inc 0 0 y).data.toList] by rw [bareV, if_pos h9])
  have HD := hid (fun (h9 : okP 4 nd k inc 0 0 y.data.toList = false) => show bareV nd inc k y = [] by rw [bareV, if_neg (by simp [h9])])
  generalize bareV nd inc k y = rv at *
  generalize pbS 4 nd k inc 0 0 y = sb at *
  clear h hy
  go_enter Tryz.func11, Tryz.ntmps11
  go_upto_region 1 with (fail)
  have hS : ∀ U, Below W.heap.size W U → (U.cell? ⟨g, 0, none⟩ = some (.int .i64 nd) ∧ U.cell? ⟨g, 1, none⟩ = some (.int .i64 inc)) := fun U hU => by
    obtain ⟨-, c0, c1, -⟩ := (HB.out.below hU).at
    exact ⟨c0, c1⟩
  have hu0 : Below W.heap.size W W.drew := below_drew (Below.refl _ _)
  refine wp_region_held_drew (S := fun U => U.cell? ⟨g, 0, none⟩ = some (.int .i64 nd) ∧ U.cell? ⟨g, 1, none⟩ = some (.int .i64 inc)) (by kernel_rfl) (hS _ hu0) (fun hHeld => ?_)
  generalize W.drew = u0 at *
  refine tkA 0 ?_ rfl ?_ (by assumption) ?_; rotate_left; focus (intro U hU; (try dsimp only at hU); go_simp; try (with_reducible rfl))
  simp only [gt6, Act.put]
  refine tkA 1 ?_ rfl ?_ (by assumption) ?_; rotate_left; focus (intro U hU; (try dsimp only at hU); go_simp; try (with_reducible rfl))
  simp only [gt6, Act.put]
  refine tkA 2 ?_ rfl ?_ (by assumption) ?_; rotate_left; focus (intro U hU; (try dsimp only at hU); go_simp; try (with_reducible rfl))
  simp only [gt6, Act.put]
  refine tkA 3 ?_ rfl ?_ (by assumption) ?_; rotate_left; focus (intro U hU; (try dsimp only at hU); go_simp; try (with_reducible rfl))
  simp only [gt6, Act.put]
  refine tkA 4 ?_ rfl ?_ (by assumption) ?_; rotate_left; focus (intro U hU; (try dsimp only at hU); go_simp; try (with_reducible rfl))
  simp only [gt6, Act.put]
  refine tkA 5 ?_ rfl ?_ (by assumption) ?_; rotate_left; focus (intro U hU; (try dsimp only at hU); go_simp; try (with_reducible rfl))
  simp only [gt6, Act.put]
  refine tkA 6 ?_ rfl ?_ (by assumption) ?_; rotate_left; focus (intro U hU; (try dsimp only at hU); go_simp; try (with_reducible rfl))
  simp only [gt6, Act.put]
  refine tkA 7 ?_ rfl ?_ (by assumption) ?_; rotate_left; focus (intro U hU; (try dsimp only at hU); go_simp; try (with_reducible rfl))
  simp only [gt6, Act.put]
  refine tkA 8 ?_ rfl ?_ (by assumption) ?_; rotate_left; focus (intro U hU; (try dsimp only at hU); go_simp; try (with_reducible rfl))
  simp only [gt6, Act.put]
  refine tkA 9 ?_ rfl ?_ (by assumption) ?_; rotate_left; focus (intro U hU; (try dsimp only at hU); go_simp; try (with_reducible rfl))
  simp only [gt6, Act.put]
  refine tkA 10 ?_ rfl ?_ (by assumption) ?_; rotate_left; focus (intro U hU; (try dsimp only at hU); go_simp; try (with_reducible rfl))
  simp only [gt6, Act.put]
  have hz1 : (u0.alloc (.cells #[.int .i64 0, .int .i64 0, .int .i64 0, .int .i64 0, .int .i64 0, .int .i64 0, .string ⟨#[]⟩] 30)).heap[u0.heap.size]? = some (.cells #[.int .i64 0, .int .i64 0, .int .i64 0, .int .i64 0, .int .i64 0, .int .i64 0, .string ⟨#[]⟩] 30 (0, 0)) := heap_alloc_new _ _
  have hu1 : Below W.heap.size W (u0.alloc (.cells #[.int .i64 0, .int .i64 0, .int .i64 0, .int .i64 0, .int .i64 0, .int .i64 0, .string ⟨#[]⟩] 30)) := bel_alloc hu0 _
  refine wpAnyH_ready (rs := [11]) (by kernel_rfl) (by simp) ?_
  refine AllReadyH.cons rfl (fun K hK => ?_) AllReadyH.nil
  simp only [gt3]
  go_simp
  refine hK.out _ _ ?_ (fun hHeld2 => ?_)
  focus
    exact hS _ hu1
  clear hHeld
  have hHeld := hHeld2
  clear hHeld2 hK K
  try simp only [gt6, Act.put]
  have hq : (u0.alloc (.cells #[.int .i64 4, .int .i64 nd, .int .i64 k, .int .i64 inc, .int .i64 0, .int .i64 0, .string y] 30)).heap[u0.heap.size]? = some (.cells #[.int .i64 4, .int .i64 nd, .int .i64 k, .int .i64 inc, .int .i64 0, .int .i64 0, .string y] 30 (0, 0)) := heap_alloc_new _ _
  have hu2 : Below W.heap.size W (u0.alloc (.cells #[.int .i64 4, .int .i64 nd, .int .i64 k, .int .i64 inc, .int .i64 0, .int .i64 0, .string y] 30)) := bel_alloc hu0 _
  obtain ⟨⟨g0, g1, g2, g3, g4, g5, g6⟩, f0, f1, f2, f3, f4, f5, f6⟩ := seven_cells hz1
  refine wpAnyH_ready (rs := [12]) (by kernel_rfl) (by simp) ?_
  refine AllReadyH.cons rfl (fun K hK => ?_) AllReadyH.nil
  simp only [gt3]
  go_simp
  refine hK.out _ _ ?_ (fun hHeld2 => ?_)
  focus
    exact hS _ hu2
  clear hHeld
  have hHeld := hHeld2
  clear hHeld2 hK K
  try simp only [gt6, Act.put]
  refine wpAnyH_done (by kernel_rfl) ?_ _
  clear hHeld hS f0 f1 f2 f3 f4 f5 f6 g0 g1 g2 g3 g4 g5 g6 hz1 hu1
  have HQ := hid hq
  have HU2 := hid hu2
  clear hq hu2 hu0
  obtain ⟨⟨p0, p1, p2, p3, p4, p5, p6⟩, -⟩ := seven_cells HQ.out
  cases hc : okP 4 nd k inc 0 0 y.data.toList with
  | true =>
    have HV := hid (HC.out hc)
    rw [hc] at HCK
    clear HC HD hc
    go_wp2_with fail
    refine (HCK.out _).mono ?_
    rintro e w3 ⟨rfl, hb3⟩
    have HU3 := hid (HU2.out.trans (hb3.mono HU2.out.size))
    obtain ⟨⟨p0, p1, p2, p3, p4, p5, p6⟩, -⟩ := seven_cells (keep0 HQ.out hb3)
    clear hb3 HCK HU2
    go_wp2_with fail
    refine (HBY.out _).mono ?_
    rintro e w4 ⟨rfl, hb4⟩
    have HU4 := hid (HU3.out.trans (hb4.mono HU3.out.size))
    clear hb4 HBY HU3
    go_wp2
    go_ret
    exact ⟨_, _, by rw [HV.out]; rfl, by rw [HV.out]; exact own_string HU4.out, bel_alloc HU4.out _⟩
  | false =>
    have HV := hid (HD.out hc)
    rw [hc] at HCK
    clear HC HD hc
    go_wp2_with fail
    refine (HCK.out _).mono ?_
    rintro e w3 ⟨rfl, hb3⟩
    have HU3 := hid (HU2.out.trans (hb3.mono HU2.out.size))
    clear hb3 HCK HU2
    go_wp2
    go_ret
    exact ⟨none, 0, by rw [HV.out]; rfl, by rw [HV.out]; exact World.ownsRow_nil _ _ _ _, HU3.out⟩
end Go.Proofs.YtdphdodjidbngaaGreat

