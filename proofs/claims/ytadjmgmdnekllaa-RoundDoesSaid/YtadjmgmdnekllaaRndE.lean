/- RoundDoes: rounds that come in. -/
import Derived.Test.YtadjmgmdnekllaaRndD
import Derived.Test.YtadjmgmdnekllaaGcel
namespace Go.Proofs.Ytadjmgmdnekllaa
open Go.RowKit Go.Sort
set_option linter.unusedVariables false
set_option linter.unusedSimpArgs false

theorem one_of {l : List Value} (h : l.length = 1) : ∃ u, l = [u] := by
  match l, h with
  | [u], _ => exact ⟨u, rfl⟩
theorem ints_in {w : World} {A : Option Addr} {len cap : Nat} (h : Rd Try.prog w 23 [.slice A len cap]) : ∃ l : List Int, Sl w 1 A len cap (icells .i64 l) ∧ l.length = len := by
  obtain ⟨l, h1, h2, _⟩ := rows_in (α := Int) (f := fun x => [.int .i64 x]) (fun _ => True) Try.underlying23 (n := 1) (by kernel_rfl) (by omega) (fun _ => rfl) (fun cs hl hr => by
    obtain ⟨x, e, _⟩ := Rd.int Try.underlying3 hr
    exact ⟨x, e, trivial⟩) h
  have e : gcells (fun x : Int => [Value.int .i64 x]) l = icells .i64 l := by
    unfold gcells icells
    clear h1 h2
    induction l with
    | nil => rfl
    | cons x l ih => rw [List.map_cons, List.flatten_cons, ih (fun _ _ => trivial), List.map_cons]; rfl
  rw [e] at h1
  exact ⟨l, h1, h2⟩
theorem bools_in {w : World} {A : Option Addr} {len cap : Nat} (h : Rd Try.prog w 60 [.slice A len cap]) : ∃ l : List Bool, Sl w 1 A len cap (bcs l) ∧ l.length = len := by
  obtain ⟨l, h1, h2, _⟩ := rows_in (α := Bool) (f := fun x => [.bool x]) (fun _ => True) Try.underlying60 (n := 1) (by kernel_rfl) (by omega) (fun _ => rfl) (fun cs hl hr => by
    obtain ⟨x, e⟩ := Rd.bool Try.underlying4 hr
    exact ⟨x, e, trivial⟩) h
  have e : gcells (fun x : Bool => [Value.bool x]) l = bcs l := by
    unfold gcells bcs
    clear h1 h2
    induction l with
    | nil => rfl
    | cons x l ih => rw [List.map_cons, List.flatten_cons, ih (fun _ _ => trivial), List.map_cons]; rfl
  rw [e] at h1
  exact ⟨l, h1, h2⟩
theorem rd_round {w : World} {a : Array Value} (hn : a.size = 3) (h : Rd Try.prog w 62 a.toList) : ∃ (l : Int) (asked : List Int) (A : Option Addr) (c : Nat) (had : List Bool) (H : Option Addr) (ch : Nat), a = #[.int .i64 l, .slice A asked.length c, .slice H had.length ch] ∧ (-9223372036854775808 ≤ l ∧ l ≤ 9223372036854775807) ∧ Sl w 1 A asked.length c (icells .i64 asked) ∧ Sl w 1 H had.length ch (bcs had) := by
  have hc : Try.prog.cellsOf 3 = 1 := by kernel_rfl
  have hc2 : Try.prog.cellsOf 23 = 1 := by kernel_rfl
  have hc3 : Try.prog.cellsOf 60 = 1 := by kernel_rfl
  obtain ⟨_, hf⟩ := Rd.struct Try.underlying62 h
  have f0 : Rd Try.prog w 3 ((a.toList.drop 0).take (Try.prog.cellsOf 3)) := hf 0 _ rfl
  have f1 : Rd Try.prog w 23 ((a.toList.drop 1).take (Try.prog.cellsOf 23)) := hf 1 _ rfl
  have f2 : Rd Try.prog w 60 ((a.toList.drop 2).take (Try.prog.cellsOf 60)) := hf 2 _ rfl
  rw [hc] at f0
  rw [hc2] at f1
  rw [hc3] at f2
  obtain ⟨l, e0, w0⟩ := Rd.int Try.underlying3 f0
  obtain ⟨A, len, cap, e1⟩ : ∃ A len cap, (a.toList.drop 1).take 1 = [.slice A len cap] := by
    rcases Rd.slice Try.underlying23 f1 with h1 | ⟨ad, len, cap, _, h1, _⟩
    · exact ⟨_, _, _, h1⟩
    · exact ⟨_, _, _, h1⟩
  obtain ⟨H, len2, cap2, e2⟩ : ∃ A len cap, (a.toList.drop 2).take 1 = [.slice A len cap] := by
    rcases Rd.slice Try.underlying60 f2 with h1 | ⟨ad, len, cap, _, h1, _⟩
    · exact ⟨_, _, _, h1⟩
    · exact ⟨_, _, _, h1⟩
  rw [e1] at f1
  rw [e2] at f2
  obtain ⟨asked, s1, rfl⟩ := ints_in f1
  obtain ⟨had, s2, rfl⟩ := bools_in f2
  refine ⟨l, asked, A, cap, had, H, cap2, ?_, wf_i64 w0, s1, s2⟩
  have hl : a.toList.length = 3 := by simpa using hn
  match hm : a.toList, hl with
  | [x, y, z], _ =>
    rw [hm] at e0 e1 e2
    simp at e0 e1 e2
    have : a = [x, y, z].toArray := by rw [← hm]
    rw [this, e0, e1, e2]

set_option maxRecDepth 20000 in
theorem roundDoes_law (a : Array Value) (n : Int) (W : World) (hn : a.size = 3) (h : Rd Try.prog W 62 a.toList) :
    Calls Try.prog 8 #[.agg a, .int .i64 n] W fun e w' => e = .returned (.bool true) ∧ Below W.heap.size W w' := by
  obtain ⟨l, asked, A, c, had, H, ch, rfl, hl, hA, hH⟩ := rd_round hn h
  have hc9 : asked.length ≤ 9223372036854775807 := by have h3 := hA.2.1; have h4 := hA.2.2.1; unfold maxLen at h4; omega
  have hc8 : had.length ≤ 9223372036854775807 := by have h3 := hH.2.1; have h4 := hH.2.2.1; unfold maxLen at h4; omega
  by_cases h1 : asked.length ≤ 100
  · by_cases h2 : had.length ≤ 100
    · exact roundDoes_small l n asked A c had H ch W hA hH h1 h2 hl
    · have h3 : (asked.length : Int) ≤ 100 := by omega
      have h4 : (100 : Int) < had.length := by omega
      clear hA hH h hn
      have hb0 : Below W.heap.size W (W.alloc (.cells #[.int .i64 l, .slice A asked.length c, .slice H had.length ch] 62)) := (Below.refl _ _).alloc (Nat.le_refl _) _
      have HB := hid hb0
      clear hb0
      go_enter Try.func8, Try.ntmps8
      go_wp2_with (go_at_call 45; refine (works35_any _).mono ?_; rintro e w4 ⟨rfl, hb4⟩)
      go_ret
      exact ⟨rfl, HB.out.trans (hb4.mono HB.out.size)⟩
  · have h3 : (100 : Int) < asked.length := by omega
    clear hA hH h hn
    have hb0 : Below W.heap.size W (W.alloc (.cells #[.int .i64 l, .slice A asked.length c, .slice H had.length ch] 62)) := (Below.refl _ _).alloc (Nat.le_refl _) _
    have HB := hid hb0
    clear hb0
    go_enter Try.func8, Try.ntmps8
    go_wp2_with (go_at_call 45; refine (works35_any _).mono ?_; rintro e w4 ⟨rfl, hb4⟩)
    go_ret
    exact ⟨rfl, HB.out.trans (hb4.mono HB.out.size)⟩
end Go.Proofs.Ytadjmgmdnekllaa
