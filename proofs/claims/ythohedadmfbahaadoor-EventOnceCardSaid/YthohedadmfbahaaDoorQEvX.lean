/- Reading a world of layer 39; EventRuns: the law. -/
import Derived.Test.YthohedadmfbahaaDoorQEvH
import Derived.Test.YthohedadmfbahaaDoorEwP
import Derived.Test.YthohedadmfbahaaDoorQR20A
import Derived.Test.YthohedadmfbahaaDoorQHdL
namespace Go.Proofs.YthohedadmfbahaaDoor
open Go.RowKit Go.Sort Go.Shelf
set_option linter.unusedVariables false
set_option linter.unusedSimpArgs false

/-- The cells of a world: a cluster, and jobs. -/
def wdc (x : Cf) (N : Option Addr) (nc : Nat) (K : Option Addr) (kc : Nat) (J : Option Addr) (jc n : Nat) : Array Value := #[.int .i64 x.sc, .int .i64 x.le, .int .i64 x.ag, .int .i64 x.ro, .int .i64 x.ou, .slice N x.T.length nc, .slice K x.ws.length kc, .slice J n jc]
theorem jobs_in {w : World} {A : Option Addr} {len cap : Nat} (h : Rd Tryd.prog w 26 [.slice A len cap]) : ∃ js : List Jo, js.length = len ∧ InJs w A cap js := by
  obtain ⟨l, h1, h2, h3⟩ := rows_in (α := Jo) (f := jbl) (fun x => TxJ w x.A x.c x.ns) Tryd.underlying26 (n := 2) (by kernel_rfl) (by omega) jbl_len (fun cs hl hr => by
    obtain ⟨id, A, c, ns, e, hx⟩ := job_in (a := cs.toArray) (by simpa using hl) (by simpa using hr)
    exact ⟨⟨id, ns, A, c⟩, by have := congrArg Array.toList e; simpa [jbl] using this, hx⟩) h
  subst h2
  exact ⟨l, rfl, h1, h3⟩
theorem list4 {l : List Value} (h : l.length = 4) : ∃ a b c d, l = [a, b, c, d] := by
  match l, h with
  | [a, b, c, d], _ => exact ⟨a, b, c, d, rfl⟩
theorem list8 {l : List Value} (h : l.length = 8) : ∃ a b c d e f g i, l = [a, b, c, d, e, f, g, i] := by
  match l, h with
  | [a, b, c, d, e, f, g, i], _ => exact ⟨a, b, c, d, e, f, g, i, rfl⟩
theorem rd_ev {w : World} {a : Array Value} (hn : a.size = 4) (h : Rd Tryd.prog w 37 a.toList) : ∃ e : Ev, a.toList = evl e := by
  have hc : Tryd.prog.cellsOf 3 = 1 := by kernel_rfl
  obtain ⟨_, hf⟩ := Rd.struct Tryd.underlying37 h
  have f0 : Rd Tryd.prog w 3 ((a.toList.drop 0).take (Tryd.prog.cellsOf 3)) := hf 0 _ rfl
  have f1 : Rd Tryd.prog w 3 ((a.toList.drop 1).take (Tryd.prog.cellsOf 3)) := hf 1 _ rfl
  have f2 : Rd Tryd.prog w 3 ((a.toList.drop 2).take (Tryd.prog.cellsOf 3)) := hf 2 _ rfl
  have f3 : Rd Tryd.prog w 3 ((a.toList.drop 3).take (Tryd.prog.cellsOf 3)) := hf 3 _ rfl
  rw [hc] at f0 f1 f2 f3
  obtain ⟨k, e0, _⟩ := Rd.int Tryd.underlying3 f0
  obtain ⟨j, e1, _⟩ := Rd.int Tryd.underlying3 f1
  obtain ⟨t, e2, _⟩ := Rd.int Tryd.underlying3 f2
  obtain ⟨i, e3, _⟩ := Rd.int Tryd.underlying3 f3
  obtain ⟨y0, y1, y2, y3, hl⟩ := list4 (show a.toList.length = 4 by rw [Array.length_toList]; exact hn)
  rw [hl] at e0 e1 e2 e3 ⊢
  simp at e0 e1 e2 e3
  exact ⟨⟨k, j, t, i⟩, by simp [evl, e0, e1, e2, e3]⟩
theorem evs_in {w : World} {A : Option Addr} {len cap : Nat} (h : Rd Tryd.prog w 29 [.slice A len cap]) : ∃ es : List Ev, es.length = len ∧ Sl w 4 A es.length cap (gcells evl es) := by
  obtain ⟨l, h1, h2, h3⟩ := rows_in (α := Ev) (f := evl) (fun x => True) Tryd.underlying29 (n := 4) (by kernel_rfl) (by omega) evl_len (fun cs hl hr => by
    obtain ⟨e, he⟩ := rd_ev (a := cs.toArray) (by simpa using hl) (by simpa using hr)
    exact ⟨e, by simpa using he, trivial⟩) h
  subst h2
  exact ⟨l, rfl, h1⟩
theorem world_in {w : World} {a : Array Value} (hn : a.size = 8) (h : Rd Tryd.prog w 28 a.toList) : ∃ x N nc K kc J jc js, a = wdc x N nc K kc J jc (List.length js) ∧ CfAt w x N nc K kc ∧ InJs w J jc js := by
  have hc : Tryd.prog.cellsOf 25 = 7 := by kernel_rfl
  have hc2 : Tryd.prog.cellsOf 26 = 1 := by kernel_rfl
  obtain ⟨_, hf⟩ := Rd.struct Tryd.underlying28 h
  have f0 : Rd Tryd.prog w 25 ((a.toList.drop 0).take (Tryd.prog.cellsOf 25)) := hf 0 _ rfl
  have f1 : Rd Tryd.prog w 26 ((a.toList.drop 7).take (Tryd.prog.cellsOf 26)) := hf 1 _ rfl
  rw [hc] at f0
  rw [hc2] at f1
  obtain ⟨y0, y1, y2, y3, y4, y5, y6, y7, hl⟩ := list8 (show a.toList.length = 8 by rw [Array.length_toList]; exact hn)
  rw [hl] at f0 f1
  obtain ⟨x, N, nc, K, kc, e, hC⟩ := conf_in (a := #[y0, y1, y2, y3, y4, y5, y6]) rfl (by simpa using f0)
  obtain ⟨A, m, c, e1⟩ : ∃ A len cap, y7 = .slice A len cap := by
    rcases Rd.slice Tryd.underlying26 f1 with h1 | ⟨ad, len, cap, _, h1, _⟩
    · simp at h1; exact ⟨_, _, _, h1⟩
    · simp at h1; exact ⟨_, _, _, h1⟩
  subst e1
  obtain ⟨js, h2, hJ⟩ := jobs_in (A := A) (len := m) (cap := c) (by simpa using f1)
  subst h2
  have e' := congrArg Array.toList e
  simp [cfc] at e'
  obtain ⟨rfl, rfl, rfl, rfl, rfl, rfl, rfl⟩ := e'
  refine ⟨x, N, nc, K, kc, A, c, js, Array.toList_inj.1 ?_, hC, hJ⟩
  rw [hl]
  rfl
theorem cells8 {w : World} {b t : Nat} {x0 x1 x2 x3 x4 x5 x6 x7 : Value} (h : w.heap[b]? = some (.cells #[x0, x1, x2, x3, x4, x5, x6, x7] t (0, 0))) :
    w.cell? ⟨b, 0, none⟩ = some x0 ∧ w.cell? ⟨b, 1, none⟩ = some x1 ∧ w.cell? ⟨b, 2, none⟩ = some x2 ∧ w.cell? ⟨b, 3, none⟩ = some x3 ∧ w.cell? ⟨b, 4, none⟩ = some x4 ∧ w.cell? ⟨b, 5, none⟩ = some x5 ∧ w.cell? ⟨b, 6, none⟩ = some x6 ∧ w.cell? ⟨b, 7, none⟩ = some x7 := by
  refine ⟨?_, ?_, ?_, ?_, ?_, ?_, ?_, ?_⟩ <;> (rw [cell_of_row w b _ _ _ _ h]; rfl)
theorem cells8d {w : World} {b t : Nat} {x0 x1 x2 x3 x4 x5 x6 x7 : Value} (h : w.heap[b]? = some (.cells #[x0, x1, x2, x3, x4, x5, x6, x7] t (0, 0))) (k : Nat) (os : Array Obj) : w.drew.heap[b]? = some (.cells #[x0, x1, x2, x3, x4, x5, x6, x7] t (0, 0)) := h

end Go.Proofs.YthohedadmfbahaaDoor
