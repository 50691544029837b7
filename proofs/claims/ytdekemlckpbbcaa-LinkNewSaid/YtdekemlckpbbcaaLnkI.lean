/- The pair of LinkOnce: its cells; begun: contract. -/
import Derived.Test.YtdekemlckpbbcaaLnkH
import Derived.Test.YtdekemlckpbbcaaNumT
namespace Go.Proofs.Ytdekemlckpbbcaa
open Go.RowKit Go.Sort
set_option linter.unusedVariables false
set_option linter.unusedSimpArgs false

/-- Two ends, what is under way, what was put and what came of each, whether all is well. -/
structure Pr where
  a : Ev
  b : Ev
  w : List Pk
  p0 : Int
  p1 : Int
  c0 : Int
  c1 : Int
  ok : Bool
def prc (x : Pr) (A : Option Addr) (ca : Nat) (B : Option Addr) (cb : Nat) (D : Option Addr) (cd : Nat) : Array Value :=
  #[.int .i64 x.a.f, .int .i64 x.a.t, .int .i64 x.a.i, .int .i64 x.a.o.p, .int .i64 x.a.o.q, .slice A x.a.o.l.length ca, .int .i64 x.a.o.w, .int .i64 x.a.o.f, .int .i64 x.a.m, .int .i64 x.a.p, .int .i64 x.a.l,
    .int .i64 x.b.f, .int .i64 x.b.t, .int .i64 x.b.i, .int .i64 x.b.o.p, .int .i64 x.b.o.q, .slice B x.b.o.l.length cb, .int .i64 x.b.o.w, .int .i64 x.b.o.f, .int .i64 x.b.m, .int .i64 x.b.p, .int .i64 x.b.l,
    .slice D x.w.length cd, .int .i64 x.p0, .int .i64 x.p1, .int .i64 x.c0, .int .i64 x.c1, .bool x.ok]
def prB : Pr := ⟨newE 0 8 1, newE 8 0 1, [], 0, 0, 0, 0, true⟩

set_option maxRecDepth 20000 in
theorem begunP_any (W : World) : Calls Try.prog 31 #[] W fun e w' => ∃ g, W.heap.size ≤ g ∧ e = .returned (.pointer (some ⟨g, 0, none⟩)) ∧ w'.heap[g]? = some (.cells (prc prB none 0 none 0 none 0) 87 (0, 0)) ∧ Below W.heap.size W w' := by
  have HN1 := hid (fun w => lnew_any 0 8 1 w)
  have HN2 := hid (fun w => lnew_any 8 0 1 w)
  simp only [newE, ec, List.length_nil] at HN1 HN2
  go_enter Try.func31, Try.ntmps31
  go_wp2_with fail
  refine (HN1.out _).mono ?_
  rintro e w1 ⟨rfl, hb1⟩
  go_wp2_with fail
  refine (HN2.out _).mono ?_
  rintro e w2 ⟨rfl, hb2⟩
  have HB := hid (hb1.trans (hb2.mono hb1.size))
  clear hb1 hb2 HN1 HN2
  go_wp2
  go_ret
  exact ⟨w2.heap.size, HB.out.size, rfl, heap_alloc_new _ _, HB.out.alloc HB.out.size _⟩
end Go.Proofs.Ytdekemlckpbbcaa
