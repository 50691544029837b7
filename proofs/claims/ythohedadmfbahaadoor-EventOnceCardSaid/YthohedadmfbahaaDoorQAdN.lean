/- What came in: nodes, lists, workers. -/
import Derived.Test.YthohedadmfbahaaDoorQAdC
import Derived.Test.YthohedadmfbahaaDoorQAdP
import Derived.Test.YthohedadmfbahaaDoorGaP
namespace Go.Proofs.YthohedadmfbahaaDoor
open Go.RowKit
set_option linter.unusedVariables false
set_option linter.unusedSimpArgs false

theorem two_of {l : List Value} (h : l.length = 2) : ∃ u v, l = [u, v] := by
  match l, h with
  | [u, v], _ => exact ⟨u, v, rfl⟩
/-- Pairs that came in. -/
theorem nodes_in {w : World} {A : Option Addr} {len cap : Nat} (h : Rd Tryd.prog w 88 [.slice A len cap]) : ∃ l : List (Int × Int), Sl w 2 A len cap (pcells l) ∧ l.length = len := by
  have hc3 : Tryd.prog.cellsOf 3 = 1 := by kernel_rfl
  obtain ⟨h1, h2, h3⟩ := Rd.slice_plain Tryd.underlying88 (n := 2) (by kernel_rfl) (by omega) h
  by_cases h0 : 0 < len
  · obtain ⟨b, off, rfl, z, hz⟩ := h3 h0
    have key : ∀ i, i < len → ∃ x : Int × Int, z i = [.int .i64 x.1, .int .i64 x.2] := fun i hi => by
      obtain ⟨hl, hr, _⟩ := hz i hi
      obtain ⟨_, hf⟩ := Rd.struct Tryd.underlying128 hr
      have f0 : Rd Tryd.prog w 3 (((z i).drop 0).take (Tryd.prog.cellsOf 3)) := hf 0 _ rfl
      have f1 : Rd Tryd.prog w 3 (((z i).drop 1).take (Tryd.prog.cellsOf 3)) := hf 1 _ rfl
      rw [hc3] at f0 f1
      obtain ⟨a, ea, _⟩ := Rd.int Tryd.underlying3 f0
      obtain ⟨c, ec, _⟩ := Rd.int Tryd.underlying3 f1
      obtain ⟨u, v, huv⟩ := two_of hl
      rw [huv] at ea ec
      simp at ea ec
      exact ⟨(a, c), by rw [huv, ea, ec]⟩
    obtain ⟨g, hg⟩ := Go.Deep.choose_lt (α := Int × Int) key
    have hll : ((List.range len).map g).length = len := by simp
    refine ⟨(List.range len).map g, ⟨by rw [pcells_length, hll], h1, h2, fun _ => ⟨b, off, rfl, fun i hi => ?_⟩⟩, hll⟩
    rw [pcells_length, hll] at hi
    have hk : i / 2 < ((List.range len).map g).length := by rw [hll]; omega
    obtain ⟨e1, e2⟩ := pcells_get ((List.range len).map g) (i / 2) hk
    have hgk : ((List.range len).map g)[i / 2] = g (i / 2) := by simp
    rw [hgk] at e1 e2
    have hzk := hz (i / 2) (by omega)
    rcases Nat.mod_two_eq_zero_or_one i with hm | hm
    · have h9 := hzk.2.2 0 (by omega)
      rw [hg (i / 2) (by omega)] at h9
      rw [show off + i / 2 * 2 + 0 = off + i by omega] at h9
      rw [show i / 2 * 2 = i by omega] at e1
      rw [h9, e1]
      rfl
    · have h9 := hzk.2.2 1 (by omega)
      rw [hg (i / 2) (by omega)] at h9
      rw [show off + i / 2 * 2 + 1 = off + i by omega] at h9
      rw [show i / 2 * 2 + 1 = i by omega] at e2
      rw [h9, e2]
      rfl
  · obtain rfl : len = 0 := by omega
    exact ⟨[], ⟨rfl, h1, h2, fun h => by simp [pcells] at h⟩, rfl⟩
theorem wf_u64m {n : Int} (h : (Lit.int .u64 n).wf = true) : ∃ s : Nat, n = (s : Int) ∧ s < 18446744073709551616 := by
  simp [Lit.wf, IntKind.min, IntKind.max, IntKind.signed, IntKind.bits] at h
  exact ⟨n.toNat, by omega, by omega⟩
instance : Inhabited Pl := ⟨⟨[], none, 0⟩⟩
/-- Lists that came in. -/
theorem lists_in {w : World} {A : Option Addr} {len cap : Nat} (h : Rd Tryd.prog w 109 [.slice A len cap]) : ∃ ys : List Pl, LsAt w A cap ys ∧ ys.length = len := by
  obtain ⟨ys, h1, h2, h3⟩ := rows_in (α := Pl) (f := fun p => [p.cell]) (fun p => Sl w 2 p.A p.l.length p.c (pcells p.l)) Tryd.underlying109 (n := 1) (by kernel_rfl) (by omega) (fun _ => rfl) (fun cs hl hr => by
    obtain ⟨B, len2, cap2, rfl⟩ : ∃ A len cap, cs = [.slice A len cap] := by
      rcases Rd.slice Tryd.underlying88 hr with h1 | ⟨ad, len, cap, _, h1, _⟩
      · exact ⟨_, _, _, h1⟩
      · exact ⟨_, _, _, h1⟩
    obtain ⟨l, sl, rfl⟩ := nodes_in hr
    exact ⟨⟨l, B, cap2⟩, rfl, sl⟩) h
  have e : gcells (fun p : Pl => [p.cell]) ys = plc ys := by
    unfold gcells plc
    clear h1 h2 h3
    induction ys with
    | nil => rfl
    | cons x l ih => rw [List.map_cons, List.flatten_cons, ih, List.map_cons]; rfl
  rw [e] at h1
  subst h2
  exact ⟨ys, ⟨h1, h3⟩, rfl⟩
theorem three_of {l : List Value} (h : l.length = 3) : ∃ u v w, l = [u, v, w] := by
  match l, h with
  | [u, v, w], _ => exact ⟨u, v, w, rfl⟩
theorem workers_in {w : World} {A : Option Addr} {len cap : Nat} (h : Rd Tryd.prog w 23 [.slice A len cap]) : ∃ l : List Wk, Sl w 3 A len cap (gcells wkc l) ∧ l.length = len ∧ ∀ x ∈ l, x.2.2 < 18446744073709551616 := by
  have hc3 : Tryd.prog.cellsOf 3 = 1 := by kernel_rfl
  have hc4 : Tryd.prog.cellsOf 38 = 1 := by kernel_rfl
  refine rows_in (f := wkc) (fun x : Wk => x.2.2 < 18446744073709551616) Tryd.underlying23 (by kernel_rfl) (by omega) (fun _ => rfl) (fun cs hl hr => ?_) h
  obtain ⟨_, hf⟩ := Rd.struct Tryd.underlying40 hr
  have f0 : Rd Tryd.prog w 3 ((cs.drop 0).take (Tryd.prog.cellsOf 3)) := hf 0 _ rfl
  have f1 : Rd Tryd.prog w 3 ((cs.drop 1).take (Tryd.prog.cellsOf 3)) := hf 1 _ rfl
  have f2 : Rd Tryd.prog w 38 ((cs.drop 2).take (Tryd.prog.cellsOf 38)) := hf 2 _ rfl
  rw [hc3] at f0 f1
  rw [hc4] at f2
  obtain ⟨a, ea, _⟩ := Rd.int Tryd.underlying3 f0
  obtain ⟨b, eb, wb⟩ := Rd.int Tryd.underlying3 f1
  obtain ⟨d, ed, wd⟩ := Rd.int Tryd.underlying38 f2
  obtain ⟨m, rfl, hm⟩ := wf_u64m wd
  obtain ⟨u, v, z, rfl⟩ := three_of hl
  simp at ea eb ed
  exact ⟨(a, b, m), by rw [ea, eb, ed]; rfl, hm⟩
end Go.Proofs.YthohedadmfbahaaDoor
