/- does, whatever is asked: contract; the acts that came in; LinkOnce. -/
import Derived.Test.YtdekemlckpbbcaaLnkU
import Derived.Test.YtdekemlckpbbcaaRd
import Derived.Lib.QuietBelow
import Derived.Deep.CutRange
namespace Go.Proofs.Ytdekemlckpbbcaa
open Go.RowKit Go.Lib Go.Sort
set_option linter.unusedVariables false
set_option linter.unusedSimpArgs false

theorem DoR.up {N M N' M' : Nat} {W : World} {g : Nat} {e : Ending} {u : World} (h : DoR N M W g e u) (h1 : N ≤ N') (h2 : M ≤ M') : DoR N' M' W g e u := by
  obtain ⟨hv, a, b, w, A, ca, B, cb, D, cd, hx, hi⟩ := h
  exact ⟨hv, a, b, w, A, ca, B, cb, D, cd, hx, hi.up h1 h2⟩
theorem does_any {N M : Nat} {a b : Sd} {w : List Pk} (hI : InvS N M a b w) (hN : N ≤ 1000) (hM : M ≤ 10000) (d n : Int) (g : Nat) (W u : World) (A : Option Addr) (ca : Nat) (B : Option Addr) (cb : Nat) (D : Option Addr) (cd : Nat) (h : PX W u g (mkP a b w) A ca B cb D cd) :
    Calls Try.prog 32 #[.pointer (some ⟨g, 0, none⟩), .agg #[.int .i64 d, .int .i64 n]] u (DoR (N + 1) (M + 1) W g) := by
  rcases Int.lt_or_le d 0 with h0 | h0
  · exact (doesL_any hI hN hM d n h0 g W u A ca B cb D cd h).mono fun _ _ h => h.up (Nat.le_succ _) (Nat.le_refl _)
  rcases Int.lt_or_le 5 d with h5 | h5
  · exact (doesG_any hI hN hM d n h5 g W u A ca B cb D cd h).mono fun _ _ h => h.up (Nat.le_succ _) (Nat.le_refl _)
  rcases (by omega : d = 0 ∨ d = 1 ∨ d = 2 ∨ d = 3 ∨ d = 4 ∨ d = 5) with rfl | rfl | rfl | rfl | rfl | rfl
  · exact does0_any hI hN hM n g W u A ca B cb D cd h
  · exact does1_any hI hN hM n g W u A ca B cb D cd h
  · exact (does2_any hI hN hM n g W u A ca B cb D cd h).mono fun _ _ h => h.up (Nat.le_succ _) (Nat.le_refl _)
  · exact (does3_any hI hN hM n g W u A ca B cb D cd h).mono fun _ _ h => h.up (Nat.le_succ _) (Nat.le_refl _)
  · exact (does4_any hI hN hM 0 n g W u A ca B cb D cd h).mono fun _ _ h => h.up (Nat.le_succ _) (Nat.le_refl _)
  · exact (does5_any hI hN hM 0 n g W u A ca B cb D cd h).mono fun _ _ h => h.up (Nat.le_succ _) (Nat.le_refl _)
/-- What the loop over the acts holds. -/
def KL (W u : World) (g k : Nat) : Prop := ∃ a b w A ca B cb D cd, PX W u g (mkP a b w) A ca B cb D cd ∧ InvS k k a b w
theorem KL.of {W u : World} {g k : Nat} {e : Ending} (h : DoR k k W g e u) : KL W u g k := h.2
theorem KL.doit {W u : World} {g k : Nat} (h : KL W u g k) (hk : k ≤ 1000) (d n : Int) :
    Calls Try.prog 32 #[.pointer (some ⟨g, 0, none⟩), .agg #[.int .i64 d, .int .i64 n]] u fun e u' => (∃ v, e = .returned v) ∧ KL W u' g (k + 1) := by
  obtain ⟨a, b, w, A, ca, B, cb, D, cd, hx, hi⟩ := h
  exact (does_any hi hk (by omega) d n g W u A ca B cb D cd hx).mono fun _ _ h => ⟨h.1, h.2⟩
theorem KL.below {W u : World} {g k : Nat} (h : KL W u g k) : Below W.heap.size W u := by
  obtain ⟨a, b, w, A, ca, B, cb, D, cd, hx, hi⟩ := h
  exact hx.2.2.2.2.2
theorem KL.begun {W u : World} {g : Nat} (hg : W.heap.size ≤ g) (h : u.heap[g]? = some (.cells (prc prB none 0 none 0 none 0) 87 (0, 0))) (hb : Below W.heap.size W u) : KL W u g 0 := by
  refine ⟨⟨0, 0, 0, 1, 0⟩, ⟨0, 0, 0, 1, 0⟩, [], none, 0, none, 0, none, 0, ⟨h, hg, World.ownsRow_nil _ _ _ _, World.ownsRow_nil _ _ _ _, Mid.of_own (World.ownsRow_nil _ _ _ _), hb⟩, ?_⟩
  have hd : Dir ⟨0, 0, 0, 1, 0⟩ ⟨0, 0, 0, 1, 0⟩ := ⟨Nat.le_refl _, Nat.zero_le _, Nat.le_refl _, Nat.zero_le _, fun h => absurd h (Nat.lt_irrefl _)⟩
  exact ⟨hd, hd, Nat.le_refl _, Nat.le_refl _, Nat.le_refl _, fun p hp => by cases hp⟩
def acc (x : Int × Int) : List Value := [.int .i64 x.1, .int .i64 x.2]
set_option maxRecDepth 20000 in
theorem acts_in {w : World} {A : Option Addr} {len cap : Nat} (h : Rd Try.prog w 79 [.slice A len cap]) : ∃ l : List (Int × Int), Sl w 2 A len cap (gcells acc l) ∧ l.length = len := by
  obtain ⟨l, h1, h2, _⟩ := rows_in (α := Int × Int) (f := acc) (fun _ => True) Try.underlying79 (n := 2) (by kernel_rfl) (by omega) (fun _ => rfl) (fun cs hl hr => by
    have hc1 : Try.prog.cellsOf 3 = 1 := by kernel_rfl
    obtain ⟨_, hf⟩ := Rd.struct Try.underlying84 hr
    have f0 : Rd Try.prog w 3 ((cs.drop 0).take (Try.prog.cellsOf 3)) := hf 0 _ rfl
    have f1 : Rd Try.prog w 3 ((cs.drop 1).take (Try.prog.cellsOf 3)) := hf 1 _ rfl
    rw [hc1] at f0 f1
    obtain ⟨a, ea, _⟩ := Rd.int Try.underlying3 f0
    obtain ⟨b, eb, _⟩ := Rd.int Try.underlying3 f1
    match cs, hl with
    | [x, y], _ =>
      simp at ea eb
      exact ⟨(a, b), by rw [ea, eb]; simp [acc], trivial⟩) h
  exact ⟨l, h1, h2⟩

set_option maxRecDepth 20000 in
set_option maxHeartbeats 8000000 in
theorem linkOnce_law (A : Option Addr) (len cap : Nat) (W : World) (h : Rd Try.prog W 79 [.slice A len cap]) :
    Calls Try.prog 5 #[.slice A len cap] W fun e w' => e = .returned (.bool true) ∧ Below W.heap.size W w' := by
  obtain ⟨l, hA, rfl⟩ := acts_in h
  have HA := hid hA
  have HLM := hid (Nat.le_trans hA.2.1 hA.2.2.1)
  clear hA h
  go_enter Try.func5, Try.ntmps5
  go_wp2_with fail
  refine (begunP_any _).mono ?_
  rintro e w1 ⟨g, hg, rfl, hc, hb⟩
  have HK := hid (KL.begun hg hc hb)
  have HG := hid hg
  clear hg hc hb
  go_wp2
  go_loopw [4] (fun i wr => ∃ k : Nat, k ≤ l.length ∧ k ≤ 200 ∧ i = .int .i64 (k : Int) ∧ Hid (KL W wr g k)) (fun i _ => l.length - (intOf i).toNat)
  case atStart => exact ⟨0, by omega, by omega, rfl, HK⟩
  case round =>
    obtain ⟨k, hk, hk2, rfl, HK⟩ := hrel
    by_cases hlt : k < l.length ∧ k < 200
    · obtain ⟨i4, i5⟩ := hlt
      have i1 : (k : Int) < (l.length : Int) := by omega
      have i2 : (k : Int) < 200 := by omega
      have i3 : ¬ ((k : Int) < 0) := by omega
      obtain ⟨b, off, rfl, hcl⟩ := Sl.gat (f := acc) (n := 2) (fun _ => rfl) (HA.out.below (HK.out.below)) k i4 (by omega)
      have c0 := hcl 0 _ rfl
      have c1' := hcl 1 _ rfl
      simp only [Nat.add_zero] at c0
      clear hcl
      go_wp2_with fail
      refine (HK.out.doit (by omega) _ _).mono ?_
      rintro e w2 ⟨⟨v, rfl⟩, hk3⟩
      have HK3 := hid hk3
      clear hk3
      go_wp2
      go_roundw
      case rel => exact ⟨k + 1, by omega, by omega, by go_num, HK3⟩
      case measure => simp [intOf]; omega
    · obtain ⟨a, b, w, A1, ca, B1, cb, D1, cd, hx, hi⟩ := HK.out
      have hg9 := hx.1
      simp only [prc, mkP] at hg9
      have hg27 := (pair_cells hg9).1.2.2.2.2.2.2.2.2.2.2.2.2.2.2.2.2.2.2.2.2.2.2.2.2.2.2.2
      have HB := hid hx.2.2.2.2.2
      clear hg9 hx hi HK
      rcases (by omega : l.length ≤ k ∨ (k < l.length ∧ 200 ≤ k)) with h9 | ⟨h9, h8⟩
      · have d1 : decide ((k : Int) < (l.length : Int)) = false := decide_eq_false (by omega)
        have i1 : ¬ ((k : Int) < (l.length : Int)) := by omega
        go_wp2_with fail
        refine (works26_any _).mono ?_
        rintro e w5 ⟨rfl, hb5⟩
        have HB5 := hid hb5
        clear hb5
        go_wp2
        go_ret
        exact ⟨rfl, HB.out.trans (HB5.out.mono HB.out.size)⟩
      · have i1 : (k : Int) < (l.length : Int) := by omega
        have i2 : ¬ ((k : Int) < 200) := by omega
        have d1 : decide ((k : Int) < (l.length : Int)) = true := decide_eq_true i1
        have d2 : decide ((k : Int) < 200) = false := decide_eq_false i2
        go_wp2_with fail
        refine (works26_any _).mono ?_
        rintro e w5 ⟨rfl, hb5⟩
        have HB5 := hid hb5
        clear hb5
        go_wp2
        go_ret
        exact ⟨rfl, HB.out.trans (HB5.out.mono HB.out.size)⟩
end Go.Proofs.Ytdekemlckpbbcaa
