/- The acts of layer 28, read. -/
import Derived.Test.YtdphdodjidbngaaNetP
import Derived.Test.YtdphdodjidbngaaGcel
namespace Go.Proofs.Ytdphdodjidbngaa
open Go.RowKit
set_option linter.unusedVariables false
set_option linter.unusedSimpArgs false

/-- Texts that may be read. -/
def TxN (w : World) (A : Option Addr) (c : Nat) (l : List (List UInt8)) : Prop := Sl w 1 A l.length c (scells l) ∧ ∀ s ∈ l, s.length ≤ maxLen
theorem TxN.below {w w' : World} {A : Option Addr} {c : Nat} {l : List (List UInt8)} (h : TxN w A c l) (hb : Below w.heap.size w w') : TxN w' A c l := ⟨h.1.below hb, h.2⟩
theorem rd_textsN {w : World} {A : Option Addr} {len cap : Nat} (h : Rd Try.prog w 22 [.slice A len cap]) : ∃ l : List (List UInt8), l.length = len ∧ TxN w A cap l := by
  obtain ⟨h1, h2, h3⟩ := Rd.slice_plain Try.underlying22 (n := 1) (by kernel_rfl) (by omega) h
  by_cases h0 : len = 0
  · subst h0
    exact ⟨[], rfl, Sl.nil _ _ _ _ h2, by simp⟩
  · obtain ⟨b, off, rfl, z, hz⟩ := h3 (by omega)
    have hs : ∀ i, i < len → ∃ s : ByteArray, z i = [.string s] ∧ s.size ≤ maxLen := fun i hi => Rd.string Try.underlying9 (hz i hi).2.1
    let f : Nat → List UInt8 := fun i => match z i with | [.string s] => s.data.toList | _ => []
    have hf : ∀ i, i < len → z i = [.string (str (f i))] ∧ (f i).length ≤ maxLen := fun i hi => by
      obtain ⟨s, e, hsz⟩ := hs i hi
      have e2 : f i = s.data.toList := by simp only [f, e]
      refine ⟨by rw [e, e2]; simp [str], ?_⟩
      rw [e2, Array.length_toList]
      exact hsz
    refine ⟨(List.range len).map f, by simp, ⟨by simp [scells], by simpa using h1, h2, fun _ => ⟨b, off, rfl, fun i hi => ?_⟩⟩, ?_⟩
    · rw [scells_length, List.length_map, List.length_range] at hi
      have h9 := (hz i hi).2.2 0 (by omega)
      rw [(hf i hi).1, Nat.mul_one, Nat.add_zero] at h9
      rw [h9]
      simp [scells, hi]
    · intro s hs2
      simp only [List.mem_map, List.mem_range] at hs2
      obtain ⟨i, hi, rfl⟩ := hs2
      exact (hf i hi).2
/-- An act: what, which, from where, which bits, texts. -/
structure Ac where
  d : Int
  k : Int
  at' : Int
  bits : Nat
  A : Option Addr
  c : Nat
  ss : List (List UInt8)
instance : Inhabited Ac := ⟨⟨0, 0, 0, 0, none, 0, []⟩⟩
def acl (x : Ac) : List Value := [.int .i64 x.d, .int .i64 x.k, .int .i64 x.at', .int .u32 (x.bits : Int), .slice x.A x.ss.length x.c]
theorem acl_len (x : Ac) : (acl x).length = 5 := rfl
def AcOk (w : World) (x : Ac) : Prop := TxN w x.A x.c x.ss ∧ x.bits < 4294967296 ∧ x.at' ≤ 9223372036854775807
theorem list5 {l : List Value} (h : l.length = 5) : ∃ a b c d e, l = [a, b, c, d, e] := by
  match l, h with
  | [a, b, c, d, e], _ => exact ⟨a, b, c, d, e, rfl⟩
theorem rd_ac {w : World} {cs : List Value} (hn : cs.length = 5) (h : Rd Try.prog w 56 cs) : ∃ x : Ac, cs = acl x ∧ AcOk w x := by
  have hc : Try.prog.cellsOf 3 = 1 := by kernel_rfl
  have hc1 : Try.prog.cellsOf 54 = 1 := by kernel_rfl
  have hc2 : Try.prog.cellsOf 22 = 1 := by kernel_rfl
  obtain ⟨_, hf⟩ := Rd.struct Try.underlying56 h
  have f0 : Rd Try.prog w 3 ((cs.drop 0).take (Try.prog.cellsOf 3)) := hf 0 _ rfl
  have f1 : Rd Try.prog w 3 ((cs.drop 1).take (Try.prog.cellsOf 3)) := hf 1 _ rfl
  have f2 : Rd Try.prog w 3 ((cs.drop 2).take (Try.prog.cellsOf 3)) := hf 2 _ rfl
  have f3 : Rd Try.prog w 54 ((cs.drop 3).take (Try.prog.cellsOf 54)) := hf 3 _ rfl
  have f4 : Rd Try.prog w 22 ((cs.drop 4).take (Try.prog.cellsOf 22)) := hf 4 _ rfl
  rw [hc] at f0 f1 f2
  rw [hc1] at f3
  rw [hc2] at f4
  obtain ⟨d, e0, _⟩ := Rd.int Try.underlying3 f0
  obtain ⟨k, e1, _⟩ := Rd.int Try.underlying3 f1
  obtain ⟨a, e2, wa⟩ := Rd.int Try.underlying3 f2
  obtain ⟨u, e3, wu⟩ := Rd.int Try.underlying54 f3
  obtain ⟨A, n, c, e4⟩ : ∃ A len cap, (cs.drop 4).take 1 = [.slice A len cap] := by
    rcases Rd.slice Try.underlying22 f4 with h1 | ⟨ad, len, cap, _, h1, _⟩
    · exact ⟨_, _, _, h1⟩
    · exact ⟨_, _, _, h1⟩
  rw [e4] at f4
  obtain ⟨l, rfl, h1⟩ := rd_textsN f4
  have hu : 0 ≤ u ∧ u < 4294967296 := by
    simp [Lit.wf, IntKind.min, IntKind.max, IntKind.signed, IntKind.bits] at wu
    omega
  obtain ⟨un, rfl⟩ := Int.eq_ofNat_of_zero_le hu.1
  obtain ⟨y0, y1, y2, y3, y4, rfl⟩ := list5 hn
  simp at e0 e1 e2 e3 e4
  exact ⟨⟨d, k, a, un, A, c, l⟩, by simp [acl, e0, e1, e2, e3, e4], h1, show un < 4294967296 from by omega, (wf_i64 wa).2⟩
theorem acts_in28 {w : World} {A : Option Addr} {len cap : Nat} (h : Rd Try.prog w 47 [.slice A len cap]) : ∃ l : List Ac, l.length = len ∧ Sl w 5 A l.length cap (gcells acl l) ∧ ∀ x ∈ l, AcOk w x := by
  obtain ⟨l, h1, h2, h3⟩ := rows_in (α := Ac) (f := acl) (fun x => AcOk w x) Try.underlying47 (n := 5) (by kernel_rfl) (by omega) acl_len (fun cs hl hr => rd_ac hl hr) h
  subst h2
  exact ⟨l, rfl, h1, h3⟩
theorem five_cells {w : World} {b t : Nat} {x0 x1 x2 x3 x4 : Value} (h : w.heap[b]? = some (.cells #[x0, x1, x2, x3, x4] t (0, 0))) :
    w.cell? ⟨b, 0, none⟩ = some x0 ∧ w.cell? ⟨b, 1, none⟩ = some x1 ∧ w.cell? ⟨b, 2, none⟩ = some x2 ∧ w.cell? ⟨b, 3, none⟩ = some x3 ∧ w.cell? ⟨b, 4, none⟩ = some x4 := by
  refine ⟨?_, ?_, ?_, ?_, ?_⟩ <;> (rw [cell_of_row w b _ _ _ _ h]; rfl)
end Go.Proofs.Ytdphdodjidbngaa
