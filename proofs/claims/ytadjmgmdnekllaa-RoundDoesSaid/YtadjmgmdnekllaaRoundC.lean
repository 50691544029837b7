/- The round package: clone, New and Tick, as contracts. -/
import Derived.Test.YtadjmgmdnekllaaCloneB
import Derived.Deep.Cut
import Derived.Lib.MinMax
namespace Go.Proofs.Ytadjmgmdnekllaa
open Go.RowKit
set_option linter.unusedVariables false
set_option linter.unusedSimpArgs false

theorem cloned_any (l q : Int) (A : Option Addr) (len cap : Nat) (cs : List Value) (W : World) (h : Sl W 1 A len cap cs) (h1 : ∀ u ∈ cs, u.oneCell' = true) (hlen : len ≤ 1000) :
    Calls Try.prog 115 #[.agg #[.int .i64 l, .int .u64 q, .slice A len cap]] W fun e w' => ∃ v, e = .returned (.agg #[.int .i64 l, .int .u64 q, v]) ∧ Below W.heap.size W w' ∧ w'.ownsRow W.heap.size 4 1 v len cs := by
  have HC := hid (fun w (hb : Below W.heap.size W w) => clone_bool A len cap _ w (h.below hb) h1 (by omega))
  clear h h1
  go_enter Try.func115, Try.ntmps115
  go_wp2_with fail
  refine (HC.out _ (below2 W _ _)).mono ?_
  rintro e w1 ⟨v, rfl, hb, ho⟩
  obtain ⟨a', c', rfl, _⟩ := Sl.of_own ho
  obtain ⟨k0, k1⟩ := blk_after hb
  have hb1 := (below2 W _ _).trans (hb.mono (by simp; omega))
  have K := hid (And.intro k0 (And.intro k1 (And.intro ho hb1)))
  obtain ⟨⟨p0, p1, p2⟩, f0, f1, f2⟩ := three_cells k0
  clear k0 k1 ho hb hb1
  go_upto_region 2 with (fail)
  refine at_world (fun w => w.heap[W.heap.size]? = some (.cells #[.int .i64 l, .int .u64 q, .slice a' len c'] 64 (0, 0)) ∧ w.heap[W.heap.size + 1]? = some (.cells #[.int .i64 0, .int .u64 0, .slice none 0 0] 64 (0, 0)) ∧ w.ownsRow (W.heap.size + 2) 4 1 (.slice a' len c') len cs ∧ Below W.heap.size W w) ⟨?_, ?_, ?_, ?_⟩ ?_
  · rw [heap_setCell_same _ _ _ _ _ _ K.out.1]; rfl
  · exact (Below.heap_setCell _ _ _ _ (by simp)).trans K.out.2.1
  · exact own_setOld (own_mono K.out.2.2.1 (by simp)) _ _ (by simp)
  · exact K.out.2.2.2.setCell (by simp) _
  clear K p0 p1 p2 f0 f1 f2
  rintro w2 ⟨k0, k1, hr, hb⟩
  have K3 := hid (And.intro k0 (And.intro k1 (And.intro hr hb)))
  obtain ⟨⟨p0, p1, p2⟩, f0, f1, f2⟩ := three_cells k0
  obtain ⟨⟨q0, q1, q2⟩, g0, g1, g2⟩ := three_cells k1
  clear k0 k1 hr hb
  go_wp2
  refine bodyPost_ret (v := .agg #[.int .i64 l, .int .u64 q, .slice a' len c']) (by simp [results, Try.results115, go_sem, q0, q1, q2]) rfl ⟨_, rfl, (by repeat' (first | with_reducible exact K3.out.2.2.2 | with_reducible refine Below.setCell ?_ (by simp) _)), ?_⟩
  exact own_mono (own_setOld (own_setOld (own_setOld K3.out.2.2.1 _ _ (by simp)) _ _ (by simp)) _ _ (by simp)) (by omega)

def rtL (l again : Int) : Int := if l ≤ 1 then again else l - 1

theorem rtick_any (l q again : Int) (A : Option Addr) (len cap : Nat) (cs : List Value) (W : World) (h : Sl W 1 A len cap cs) (h1 : ∀ u ∈ cs, u.oneCell' = true) (hlen : len ≤ 1000) (hl : l ≤ 9223372036854775807) :
    Calls Try.prog 47 #[.agg #[.int .i64 l, .int .u64 q, .slice A len cap], .int .i64 again] W fun e w' => ∃ v, e = .returned (.tuple #[.agg #[.int .i64 (rtL l again), .int .u64 q, v], .bool (decide (l ≤ 1))]) ∧ Below W.heap.size W w' ∧ w'.ownsRow W.heap.size 4 1 v len cs := by
  have HC := hid (fun w (hb : Below W.heap.size W w) => cloned_any l q A len cap _ w (h.below hb) h1 hlen)
  have HL := hid hl
  clear h h1 hl
  go_enter Try.func47, Try.ntmps47
  go_wp2_with fail
  refine (HC.out _ (below2 W _ _)).mono ?_
  rintro e w1 ⟨v, rfl, hb, ho⟩
  obtain ⟨a', c', rfl, _⟩ := Sl.of_own ho
  obtain ⟨k0, k1⟩ := blk_after hb
  have hb1 := (below2 W _ _).trans (hb.mono (by simp; omega))
  have K := hid (And.intro k0 (And.intro k1 (And.intro ho hb1)))
  obtain ⟨⟨p0, p1, p2⟩, f0, f1, f2⟩ := three_cells k0
  clear k0 k1 ho hb hb1
  go_upto_region 2 with (fail)
  refine at_world (fun w => w.heap[W.heap.size]? = some (.cells #[.int .i64 l, .int .u64 q, .slice a' len c'] 64 (0, 0)) ∧ w.heap[W.heap.size + 1]? = some (.cells #[.int .i64 0, .int .u64 0, .slice none 0 0] 64 (0, 0)) ∧ w.ownsRow (W.heap.size + 2) 4 1 (.slice a' len c') len cs ∧ Below W.heap.size W w) ⟨?_, ?_, ?_, ?_⟩ ?_
  · exact set_three K.out.1 _ _ _
  · exact (Below.heap_setCell _ _ _ _ (by simp)).trans ((Below.heap_setCell _ _ _ _ (by simp)).trans ((Below.heap_setCell _ _ _ _ (by simp)).trans K.out.2.1))
  · exact own_setOld (own_setOld (own_setOld (own_mono K.out.2.2.1 (by simp)) _ _ (by simp)) _ _ (by simp)) _ _ (by simp)
  · exact ((K.out.2.2.2.setCell (by simp) _).setCell (by simp) _).setCell (by simp) _
  clear K p0 p1 p2 f0 f1 f2
  rintro w2 ⟨k0, k1, hr, hb⟩
  have K3 := hid (And.intro k0 (And.intro k1 (And.intro hr hb)))
  obtain ⟨⟨p0, p1, p2⟩, f0, f1, f2⟩ := three_cells k0
  obtain ⟨⟨q0, q1, q2⟩, g0, g1, g2⟩ := three_cells k1
  clear k0 k1 hr hb
  by_cases h : l ≤ 1
  · have hL : Hid (rtL l again = again ∧ decide (l ≤ 1) = true) := ⟨by simp [rtL, h], by simp [h]⟩
    go_wp2
    refine bodyPost_ret (v := .tuple #[.agg #[.int .i64 again, .int .u64 q, .slice a' len c'], .bool true]) (by simp [results, Try.results47, go_sem, q0, q1, q2]) rfl ⟨.slice a' len c', by rw [hL.out.1, hL.out.2], (by repeat' (first | with_reducible exact K3.out.2.2.2 | with_reducible refine Below.setCell ?_ (by simp) _)), ?_⟩
    exact own_mono (by repeat' (first | with_reducible exact K3.out.2.2.1 | with_reducible refine own_setOld ?_ _ _ (by simp))) (show W.heap.size ≤ W.heap.size + 2 by omega)
  · have hL : Hid (rtL l again = l - 1 ∧ decide (l ≤ 1) = false) := ⟨by simp [rtL, h], by simp [h]⟩
    have hl := HL.out
    go_wp2
    refine bodyPost_ret (v := .tuple #[.agg #[.int .i64 (l - 1), .int .u64 q, .slice a' len c'], .bool false]) (by simp [results, Try.results47, go_sem, q0, q1, q2]) rfl ⟨.slice a' len c', by rw [hL.out.1, hL.out.2], (by repeat' (first | with_reducible exact K3.out.2.2.2 | with_reducible refine Below.setCell ?_ (by simp) _)), ?_⟩
    exact own_mono (by repeat' (first | with_reducible exact K3.out.2.2.1 | with_reducible refine own_setOld ?_ _ _ (by simp))) (show W.heap.size ≤ W.heap.size + 2 by omega)

theorem make_bool (n : Nat) (hn : n ≤ 1000) : ∀ W : World, (Instr.makeSlice 60 (.int .i64 (n : Int)) (.int .i64 (n : Int))).run Try.prog W = .ok (.slice (some ⟨W.heap.size, 0, none⟩) n n) (W.alloc (.cells (List.replicate n (.bool false)).toArray 4)) :=
  fun W => run_make_1 60 4 Try.underlying60 info_bool rfl n n (Nat.le_refl _) (by omega) (by unfold maxLen; omega) W

def rnw (k : Int) : Nat := (min (max k 0) 16).toNat
def bcs (l : List Bool) : List Value := l.map Value.bool
theorem bcs_one (l : List Bool) : ∀ u ∈ bcs l, u.oneCell' = true := by
  intro u hu
  simp only [bcs, List.mem_map] at hu
  obtain ⟨c, _, rfl⟩ := hu
  rfl

theorem rnew_any (k : Int) (W : World) :
    Calls Try.prog 52 #[.int .i64 k] W fun e w' => ∃ v, e = .returned (.agg #[.int .i64 1, .int .u64 0, v]) ∧ Below W.heap.size W w' ∧ w'.ownsRow W.heap.size 4 1 v (rnw k) (bcs (List.replicate (rnw k) false)) := by
  have hm := make_bool (rnw k) (by unfold rnw; omega)
  have hn : ((rnw k : Nat) : Int) = min (max k 0) 16 := by unfold rnw; omega
  rw [hn] at hm
  clear hn
  go_enter Try.func52, Try.ntmps52
  go_wp2
  refine bodyPost_ret (v := .agg #[.int .i64 1, .int .u64 0, .slice (some ⟨W.heap.size + 1, 0, none⟩) (rnw k) (rnw k)]) (by simp [results, Try.results52, go_sem]) rfl ⟨_, rfl, below2 W _ _, ?_⟩
  refine own_of_block (xs := bcs (List.replicate (rnw k) false)) (ys := []) ?_ (by omega) (by simp [bcs]) (by simp [bcs]) (by unfold rnw maxLen; omega)
  have := heap_second W (.cells #[.int .i64 1, .int .u64 0, .slice (some ⟨W.heap.size + 1, 0, none⟩) (rnw k) (rnw k)] 64) (.cells (Array.replicate (rnw k) (.bool false)) 4)
  simpa [bcs] using this

/-- What a variable of the law's own holds: a round of so many tasks, in block Y. -/
def RoundAt (W wr : World) (Y : Nat) (l : Int) (n : Nat) : Prop :=
  ∃ A cp, wr.heap[Y]? = some (.cells #[.int .i64 l, .int .u64 0, .slice A n cp] 64 (0, 0)) ∧ Sl wr 1 A n cp (bcs (List.replicate n false)) ∧ Below W.heap.size W wr

theorem round_store {W w w2 : World} {Y n : Nat} {l l2 : Int} {A0 A : Option Addr} {c0 cp : Nat} (h0 : w.heap[Y]? = some (.cells #[.int .i64 l, .int .u64 0, .slice A0 n c0] 64 (0, 0))) (hb0 : Below W.heap.size W w) (hb : Below w.heap.size w w2) (hY : W.heap.size ≤ Y)
    (ho : w2.ownsRow w.heap.size 4 1 (.slice A n cp) n (bcs (List.replicate n false))) :
    RoundAt W (((w2.setCell ⟨Y, 0, none⟩ (.int .i64 l2)).setCell ⟨Y, 1, none⟩ (.int .u64 0)).setCell ⟨Y, 2, none⟩ (.slice A n cp)) Y l2 n := by
  have hlt := lt_of_block h0
  have h1 := keep0 h0 hb
  exact ⟨A, cp, set_three h1 _ _ _, sl_own (own_setOld (own_setOld (own_setOld ho _ _ (by simpa using hlt)) _ _ (by simpa using hlt)) _ _ (by simpa using hlt)), (((hb0.trans (hb.mono hb0.size)).setCell (by exact hY) _).setCell (by exact hY) _).setCell (by exact hY) _⟩

set_option maxHeartbeats 1000000 in
theorem works35_any (W : World) : Calls Try.prog 45 #[] W fun e w' => e = .returned (.bool true) ∧ Below W.heap.size W w' := by
  have N := hid (rnew_any 2)
  rw [show rnw 2 = 2 from rfl] at N
  have T := hid (fun l A c w (h : Sl w 1 A 2 c (bcs (List.replicate 2 false))) (hl : l ≤ 3) => rtick_any l 0 3 A 2 c _ w h (bcs_one _) (by omega) (by omega))
  go_enter Try.func45, Try.ntmps45
  go_wp2_with fail
  refine (N.out _).mono ?_
  rintro e w1 ⟨v1, rfl, hb1, ho1⟩
  obtain ⟨A1, c1, rfl, hs1⟩ := Sl.of_own ho1
  clear ho1 N
  go_wp2_with fail
  refine (T.out 1 _ _ _ hs1 (by omega)).mono ?_
  rintro e w2 ⟨v2, rfl, hb2, ho2⟩
  obtain ⟨A2, c2, rfl, hs2⟩ := Sl.of_own ho2
  rw [show rtL 1 3 = 3 from rfl, show decide ((1 : Int) ≤ 1) = true from rfl]
  have hb := hb1.trans (hb2.mono hb1.size)
  clear ho2 hs1 hb1 hb2
  go_upto_region 2 with (fail)
  refine at_world (fun w => RoundAt W w w2.heap.size 3 2) ⟨A2, c2, heap_alloc_new _ _, hs2.below ((Below.refl _ _).alloc (Nat.le_refl _) _), hb.alloc hb.size _⟩ ?_
  have hY : W.heap.size ≤ w2.heap.size := hb.size
  clear hb hs2
  rintro w3 ⟨A3, c3, k3, hs3, hb3⟩
  obtain ⟨⟨p0, p1, p2⟩, f0, f1, f2⟩ := three_cells k3
  go_wp2_with fail
  refine (T.out 3 _ _ _ hs3 (by omega)).mono ?_
  rintro e w4 ⟨v4, rfl, hb4, ho4⟩
  obtain ⟨A4, c4, rfl, _⟩ := Sl.of_own ho4
  rw [show rtL 3 3 = 2 from rfl, show decide ((3 : Int) ≤ 1) = false from rfl]
  have K4 := hid (round_store (l2 := 2) k3 hb3 hb4 hY ho4)
  have k34 := keep0 k3 hb4
  clear hs3 hb3 hb4 ho4 p0 p1 p2 f0 f1 f2 k3
  obtain ⟨⟨p0, p1, p2⟩, f0, f1, f2⟩ := three_cells k34
  go_upto_region 3 with (fail)
  refine at_world (fun w => RoundAt W w w2.heap.size 2 2) K4.out ?_
  clear K4 k34 p0 p1 p2 f0 f1 f2
  rintro w5 ⟨A5, c5, k5, hs5, hb5⟩
  obtain ⟨⟨p0, p1, p2⟩, f0, f1, f2⟩ := three_cells k5
  go_wp2_with fail
  refine (T.out 2 _ _ _ hs5 (by omega)).mono ?_
  rintro e w6 ⟨v6, rfl, hb6, ho6⟩
  obtain ⟨A6, c6, rfl, _⟩ := Sl.of_own ho6
  rw [show rtL 2 3 = 1 from rfl, show decide ((2 : Int) ≤ 1) = false from rfl]
  have K6 := hid (round_store (l2 := 1) k5 hb5 hb6 hY ho6)
  have k56 := keep0 k5 hb6
  clear hs5 hb5 hb6 ho6 p0 p1 p2 f0 f1 f2 k5
  obtain ⟨⟨p0, p1, p2⟩, f0, f1, f2⟩ := three_cells k56
  go_upto_region 4 with (fail)
  refine at_world (fun w => RoundAt W w w2.heap.size 1 2) K6.out ?_
  clear K6 k56 p0 p1 p2 f0 f1 f2
  rintro w7 ⟨A7, c7, k7, hs7, hb7⟩
  obtain ⟨⟨p0, p1, p2⟩, f0, f1, f2⟩ := three_cells k7
  go_wp2_with fail
  refine (T.out 1 _ _ _ hs7 (by omega)).mono ?_
  rintro e w8 ⟨v8, rfl, hb8, ho8⟩
  obtain ⟨A8, c8, rfl, _⟩ := Sl.of_own ho8
  rw [show rtL 1 3 = 3 from rfl, show decide ((1 : Int) ≤ 1) = true from rfl]
  have hb9 := hb7.trans (hb8.mono hb7.size)
  have k78 := keep0 k7 hb8
  clear hs7 hb7 hb8 ho8 p0 p1 p2 f0 f1 f2 k7
  obtain ⟨⟨p0, p1, p2⟩, f0, f1, f2⟩ := three_cells k78
  have hlt := lt_of_block k78
  go_wp2
  go_ret
  exact ⟨rfl, hb9.alloc hb9.size _⟩

end Go.Proofs.Ytadjmgmdnekllaa
