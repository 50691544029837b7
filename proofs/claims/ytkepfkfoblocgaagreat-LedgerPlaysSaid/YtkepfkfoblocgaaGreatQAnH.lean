/- AnnalPlays: the acts that came in; small; what the two annals hold. -/
import Derived.Test.YtkepfkfoblocgaaGreatQAnG
import Derived.Test.YtkepfkfoblocgaaGreatAnP
import Derived.Test.YtkepfkfoblocgaaGreatQRlong
import Derived.Test.YtkepfkfoblocgaaGreatQRsame
import Derived.Test.YtkepfkfoblocgaaGreatGaP
namespace Go.Proofs.YtkepfkfoblocgaaGreat
open Go.RowKit Go.Sort
set_option linter.unusedVariables false
set_option linter.unusedSimpArgs false

/-- An act: what, a number, a record, bytes. -/
structure Ac where
  d : Int
  n : Int
  x : Rc
  b : List UInt8
structure Pc where
  A : Option Addr
  c : Nat
  B : Option Addr
  cb : Nat
abbrev Aa := Ac × Pc
instance : Inhabited Aa := ⟨(⟨0, 0, ⟨0, 0, 0, 0, 0, 0, []⟩, []⟩, ⟨none, 0, none, 0⟩)⟩
def abl (a : Aa) : List Value := [.int .i64 a.1.d, .int .i64 a.1.n, .int .i64 a.1.x.k, .int .i64 a.1.x.j, .int .i64 a.1.x.t, .int .i64 a.1.x.w, .int .i64 a.1.x.s, .int .i64 a.1.x.e, .slice a.2.A a.1.x.ns.length a.2.c, .slice a.2.B a.1.b.length a.2.cb]
theorem abl_len (a : Aa) : (abl a).length = 10 := rfl
def InA (w : World) (a : Aa) : Prop := TxAt w a.2.A a.2.c a.1.x.ns ∧ IsBytes w a.2.B a.1.b.length a.2.cb a.1.b
theorem InA.below {w w' : World} {a : Aa} (h : InA w a) (hb : Below w.heap.size w w') : InA w' a := ⟨h.1.below hb, h.2.below hb⟩
def InAs (w : World) (A : Option Addr) (c : Nat) (al : List Aa) : Prop := Sl w 10 A al.length c (gcells abl al) ∧ ∀ a ∈ al, InA w a
theorem InAs.below {w w' : World} {A : Option Addr} {c : Nat} {al : List Aa} (h : InAs w A c al) (hb : Below w.heap.size w w') : InAs w' A c al := ⟨h.1.below hb, fun a ha => (h.2 a ha).below hb⟩
theorem InAs.el {w : World} {A : Option Addr} {c : Nat} {al : List Aa} (h : InAs w A c al) (k : Nat) (hk : k < al.length) : ∃ b off, A = some ⟨b, off, none⟩ ∧
    w.cell? ⟨b, off + k * 10, none⟩ = some (.int .i64 al[k].1.d) ∧ w.cell? ⟨b, off + k * 10 + 1, none⟩ = some (.int .i64 al[k].1.n) ∧ w.cell? ⟨b, off + k * 10 + 2, none⟩ = some (.int .i64 al[k].1.x.k) ∧ w.cell? ⟨b, off + k * 10 + 3, none⟩ = some (.int .i64 al[k].1.x.j) ∧ w.cell? ⟨b, off + k * 10 + 4, none⟩ = some (.int .i64 al[k].1.x.t) ∧ w.cell? ⟨b, off + k * 10 + 5, none⟩ = some (.int .i64 al[k].1.x.w) ∧ w.cell? ⟨b, off + k * 10 + 6, none⟩ = some (.int .i64 al[k].1.x.s) ∧ w.cell? ⟨b, off + k * 10 + 7, none⟩ = some (.int .i64 al[k].1.x.e) ∧ w.cell? ⟨b, off + k * 10 + 8, none⟩ = some (.slice al[k].2.A al[k].1.x.ns.length al[k].2.c) ∧ w.cell? ⟨b, off + k * 10 + 9, none⟩ = some (.slice al[k].2.B al[k].1.b.length al[k].2.cb) := by
  obtain ⟨b, off, rfl, hc⟩ := Sl.gat (f := abl) (n := 10) abl_len h.1 k hk (by omega)
  exact ⟨b, off, rfl, hc 0 _ rfl, hc 1 _ rfl, hc 2 _ rfl, hc 3 _ rfl, hc 4 _ rfl, hc 5 _ rfl, hc 6 _ rfl, hc 7 _ rfl, hc 8 _ rfl, hc 9 _ rfl⟩
theorem sl_len64B {w : World} {z : Nat} {A : Option Addr} {n c : Nat} {l : List Value} (h : Sl w z A n c l) : n ≤ 9223372036854775807 := by
  have h1 := h.2.1
  have h2 := h.2.2.1
  unfold maxLen at h2
  omega
def okAct (a : Ac) : Bool := !longB a.x.ns 20 300 && decide (a.b.length ≤ 200)
def smallA (al : List Ac) (most : Int) : Bool := al.all okAct && decide ((al.length : Int) ≤ most)
end Go.Proofs.YtkepfkfoblocgaaGreat
