/- read.parse: the fault that is caught; contract. -/
import Derived.Test.YtdphdodjidbngaaQReaP
import Derived.Tactics
import Derived.Tactics2
import Derived.Defers
import Derived.Recover
import Derived.Laws.Pointers
namespace Go.Proofs.Ytdphdodjidbngaa
open Go.RowKit
set_option linter.unusedVariables false
set_option linter.unusedSimpArgs false

theorem ta_fault (v : Value) (w : World) : (Instr.typeAssert (.iface 156 v) 20 156 true).run Try.prog w = .ok (.tuple #[v, .bool true]) w := by kernel_rfl
theorem blk_neR {w : World} {b c t u : Nat} {cs ds : Array Value} (h : w.heap[b]? = some (.cells cs t (0, 0))) (k : w.heap[c]? = some (.cells ds u (0, 0))) (hne : t ≠ u) : b ≠ c := by
  rintro rfl
  rw [h] at k
  cases k
  exact hne rfl
theorem two_cellsR {w : World} {b t : Nat} {x y : Value} (h : w.heap[b]? = some (.cells #[x, y] t (0, 0))) : w.cell? ⟨b, 0, none⟩ = some x ∧ w.cell? ⟨b, 1, none⟩ = some y :=
  ⟨by rw [cell_of_row w b 0 _ t (0, 0) h]; rfl, by rw [cell_of_row w b 1 _ t (0, 0) h]; rfl⟩
theorem one_cellR {w : World} {b t : Nat} {x : Value} (h : w.heap[b]? = some (.cells #[x] t (0, 0))) : w.cell? ⟨b, 0, none⟩ = some x ∧ w.frozen? ⟨b, 0, none⟩ = false :=
  ⟨by rw [cell_of_row w b 0 _ t (0, 0) h]; rfl, frozen_of_row w b 0 _ t h⟩

theorem set3R {u : World} {a b c t1 t2 t3 : Nat} {x y z x' y' z' : Value} (ha : u.heap[a]? = some (.cells #[x] t1 (0, 0))) (hb : u.heap[b]? = some (.cells #[y] t2 (0, 0))) (hc : u.heap[c]? = some (.cells #[z] t3 (0, 0))) (nab : a ≠ b) (nac : a ≠ c) (nbc : b ≠ c) {w : World}
    (h : ∀ base, base ≤ a → base ≤ b → base ≤ c → Below base w u) :
    (((u.setCell ⟨a, 0, none⟩ x').setCell ⟨b, 0, none⟩ y').setCell ⟨c, 0, none⟩ z').drew.cell? ⟨a, 0, none⟩ = some x' ∧ (((u.setCell ⟨a, 0, none⟩ x').setCell ⟨b, 0, none⟩ y').setCell ⟨c, 0, none⟩ z').drew.cell? ⟨b, 0, none⟩ = some y' ∧
    (((u.setCell ⟨a, 0, none⟩ x').setCell ⟨b, 0, none⟩ y').setCell ⟨c, 0, none⟩ z').drew.cell? ⟨c, 0, none⟩ = some z' ∧ ∀ base, base ≤ a → base ≤ b → base ≤ c → Below base w (((u.setCell ⟨a, 0, none⟩ x').setCell ⟨b, 0, none⟩ y').setCell ⟨c, 0, none⟩ z').drew := by
  have k1 := heap_setCell_same u a 0 _ _ x' ha
  have k2 := (Below.heap_setCell (u.setCell ⟨a, 0, none⟩ x') ⟨b, 0, none⟩ y' a nab).trans k1
  have k3 := (Below.heap_setCell ((u.setCell ⟨a, 0, none⟩ x').setCell ⟨b, 0, none⟩ y') ⟨c, 0, none⟩ z' a nac).trans k2
  have b1 := (Below.heap_setCell u ⟨a, 0, none⟩ x' b (Ne.symm nab)).trans hb
  have b2 := heap_setCell_same (u.setCell ⟨a, 0, none⟩ x') b 0 _ _ y' b1
  have b3 := (Below.heap_setCell ((u.setCell ⟨a, 0, none⟩ x').setCell ⟨b, 0, none⟩ y') ⟨c, 0, none⟩ z' b nbc).trans b2
  have c1 := (Below.heap_setCell u ⟨a, 0, none⟩ x' c (Ne.symm nac)).trans hc
  have c2 := (Below.heap_setCell (u.setCell ⟨a, 0, none⟩ x') ⟨b, 0, none⟩ y' c (Ne.symm nbc)).trans c1
  have c3 := heap_setCell_same ((u.setCell ⟨a, 0, none⟩ x').setCell ⟨b, 0, none⟩ y') c 0 _ _ z' c2
  refine ⟨(one_cellR k3).1, (one_cellR b3).1, (one_cellR c3).1, fun base h1 h2 h3 => ?_⟩
  exact below_drew ((((h base h1 h2 h3).setCell (p := ⟨a, 0, none⟩) h1 _).setCell (p := ⟨b, 0, none⟩) h2 _).setCell (p := ⟨c, 0, none⟩) h3 _)

set_option maxRecDepth 20000 in
set_option maxHeartbeats 1000000 in
theorem catch_fault (a b c k : Nat) (cc : Int) (x y z : Value) (older : List PanicEntry) (w : World) (ha : w.heap[a]? = some (.cells #[x] 23 (0, 0))) (hb : w.heap[b]? = some (.cells #[y] 3 (0, 0))) (hc : w.heap[c]? = some (.cells #[z] 32 (0, 0))) :
    CallsD Try.prog 76 #[.pointer (some ⟨a, 0, none⟩), .pointer (some ⟨b, 0, none⟩), .pointer (some ⟨c, 0, none⟩)] (.panicking ({ v := .iface 156 (.agg #[.int .i64 (k : Nat), .int .i64 cc]), recovered := false } :: older)) w fun e u' w' =>
      e = .returned (.tuple #[]) ∧ u' = .panicking ({ v := .iface 156 (.agg #[.int .i64 (k : Nat), .int .i64 cc]), recovered := true } :: older) ∧
      w'.cell? ⟨a, 0, none⟩ = some (.slice none 0 0) ∧ w'.cell? ⟨b, 0, none⟩ = some (.int .i64 (k : Nat)) ∧ w'.cell? ⟨c, 0, none⟩ = some (.int .i64 cc) ∧ ∀ base, base ≤ a → base ≤ b → base ≤ c → Below base w w' := by
  have hta := ta_fault
  obtain ⟨a0, a1⟩ := one_cellR ha
  obtain ⟨b0, b1⟩ := one_cellR hb
  obtain ⟨c0, c1⟩ := one_cellR hc
  refine callsD_of_wpS Try.func76 rfl fun c₀ cs hu => ?_
  apply wpS_seq
  apply wpS_region
  simp [wpOpsS, go_sem, recoverD, hu, Try.ntmps76, Exit.thenS]
  refine wpS_of_wp (wp_mono (Q := fun e a' w' => (e = .normal ∨ e = .ret) ∧ a'.defers = [] ∧ w'.cell? ⟨a, 0, none⟩ = some (.slice none 0 0) ∧ w'.cell? ⟨b, 0, none⟩ = some (.int .i64 (k : Nat)) ∧ w'.cell? ⟨c, 0, none⟩ = some (.int .i64 cc) ∧ ∀ base, base ≤ a → base ≤ b → base ≤ c → Below base w w') ?_ ?_)
  · generalize hF : Value.iface 156 (Value.agg #[Value.int IntKind.i64 (k : Nat), Value.int IntKind.i64 cc]) = F
    show Code.wp Try.prog _ _ { tmps := #[.pointer (some ⟨a, 0, none⟩), .pointer (some ⟨b, 0, none⟩), .pointer (some ⟨c, 0, none⟩), F, undef, undef, F, undef, undef, undef, undef, undef, undef, undef, undef, undef, undef, undef, undef, undef, undef], defers := [] } w
    subst hF
    clear hu
    go_upto_region 5 with (fail)
    refine at_world (fun u => u.heap[w.heap.size]? = some (.cells #[.int .i64 (k : Nat), .int .i64 cc] 156 (0, 0)) ∧ Below w.heap.size w u) ⟨heap_alloc_new _ _, (Below.refl _ _).alloc (Nat.le_refl _) _⟩ ?_
    rintro u ⟨hf, hbe⟩
    have ha' := (hbe.block a (lt_of_block ha)).trans ha
    have hb' := (hbe.block b (lt_of_block hb)).trans hb
    have hc' := (hbe.block c (lt_of_block hc)).trans hc
    have nab := blk_neR ha' hb' (by decide)
    have nac := blk_neR ha' hc' (by decide)
    have nbc := blk_neR hb' hc' (by decide)
    have nfa := blk_neR hf ha' (by decide)
    have nfb := blk_neR hf hb' (by decide)
    have nfc := blk_neR hf hc' (by decide)
    have HE : Hid (∀ base, base ≤ a → base ≤ b → base ≤ c → Below base w u) := hid fun base h1 _ _ => hbe.mono (Nat.le_trans h1 (Nat.le_of_lt (lt_of_block ha)))
    have HF := hid (set3R (x' := .slice none 0 0) (y' := .int .i64 (k : Nat)) (z' := .int .i64 cc) ha' hb' hc' nab nac nbc HE.out)
    clear hta a0 a1 b0 b1 c0 c1 ha hb hc hbe
    obtain ⟨a0, a1⟩ := one_cellR ha'
    obtain ⟨b0, b1⟩ := one_cellR hb'
    obtain ⟨c0, c1⟩ := one_cellR hc'
    obtain ⟨f0, f1⟩ := two_cellsR hf
    clear hf ha' hb' hc'
    generalize w.heap.size = F at *
    have nab' := Ne.symm nab
    have nac' := Ne.symm nac
    have nbc' := Ne.symm nbc
    have nfa' := Ne.symm nfa
    have nfb' := Ne.symm nfb
    have nfc' := Ne.symm nfc
    go_region
    exact ⟨.inl rfl, rfl, HF.out⟩
  · rintro e a' w' ⟨he, h0, h1, h2, h3, h4⟩
    have hr : ∀ q : Act, (results Try.f76 q.tmps).run Try.prog w' = .ok (.tuple #[]) w' := fun q => by simp [results, Try.results76, go_sem]
    rcases he with rfl | rfl <;> exact ⟨h0, _, rfl, _, hr _, rfl, rfl, h1, h2, h3, h4⟩
set_option maxRecDepth 20000 in
set_option maxHeartbeats 1000000 in
theorem catch_none (a b c : Nat) (w : World) :
    CallsD Try.prog 76 #[.pointer (some ⟨a, 0, none⟩), .pointer (some ⟨b, 0, none⟩), .pointer (some ⟨c, 0, none⟩)] .returning w fun e u' w' => e = .returned (.tuple #[]) ∧ u' = .returning ∧ w' = w := by
  refine callsD_of_wpS Try.func76 rfl fun c₀ cs hu => ?_
  apply wpS_seq
  apply wpS_region
  simp [wpOpsS, go_sem, recoverD, hu, Try.ntmps76, Exit.thenS]
  refine wpS_of_wp (wp_mono (Q := fun e a' w' => (e = .normal ∨ e = .ret) ∧ a'.defers = [] ∧ w' = w) ?_ ?_)
  · show Code.wp Try.prog _ _ { tmps := #[.pointer (some ⟨a, 0, none⟩), .pointer (some ⟨b, 0, none⟩), .pointer (some ⟨c, 0, none⟩), .nilIface, undef, undef, .nilIface, undef, undef, undef, undef, undef, undef, undef, undef, undef, undef, undef, undef, undef, undef], defers := [] } w
    clear hu
    go_wp2
  · rintro e a' w' ⟨he, h0, rfl⟩
    have hr : ∀ q : Act, (results Try.f76 q.tmps).run Try.prog w' = .ok (.tuple #[]) w' := fun q => by simp [results, Try.results76, go_sem]
    have hc : ({ c₀ with mode := .returning } : Frame) = c₀ := by cases c₀; simp_all
    rcases he with rfl | rfl <;> exact ⟨h0, .returning, by rw [hc], _, hr _, rfl, rfl, rfl⟩

end Go.Proofs.Ytdphdodjidbngaa
