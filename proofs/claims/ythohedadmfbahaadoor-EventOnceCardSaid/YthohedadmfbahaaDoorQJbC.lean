/- Clusters and jobs that came in. -/
import Derived.Test.YthohedadmfbahaaDoorQJbM
import Derived.Test.YthohedadmfbahaaDoorQAdN
import Derived.Test.YthohedadmfbahaaDoorGaP
namespace Go.Proofs.YthohedadmfbahaaDoor
open Go.RowKit
set_option linter.unusedVariables false
set_option linter.unusedSimpArgs false

/-- Texts that may be read. -/
def TxJ (w : World) (A : Option Addr) (c : Nat) (l : List (List UInt8)) : Prop := Sl w 1 A l.length c (scells l) ∧ ∀ s ∈ l, s.length ≤ maxLen
theorem TxJ.below {w w' : World} {A : Option Addr} {c : Nat} {l : List (List UInt8)} (h : TxJ w A c l) (hb : Below w.heap.size w w') : TxJ w' A c l := ⟨h.1.below hb, h.2⟩
theorem rd_textsJ {w : World} {A : Option Addr} {len cap : Nat} (h : Rd Tryd.prog w 22 [.slice A len cap]) : ∃ l : List (List UInt8), l.length = len ∧ TxJ w A cap l := by
  obtain ⟨h1, h2, h3⟩ := Rd.slice_plain Tryd.underlying22 (n := 1) (by kernel_rfl) (by omega) h
  by_cases h0 : len = 0
  · subst h0
    exact ⟨[], rfl, Sl.nil _ _ _ _ h2, by simp⟩
  · obtain ⟨b, off, rfl, z, hz⟩ := h3 (by omega)
    have hs : ∀ i, i < len → ∃ s : ByteArray, z i = [.string s] ∧ s.size ≤ maxLen := fun i hi => Rd.string Tryd.underlying9 (hz i hi).2.1
    let f : Nat → List UInt8 := fun i => match z i with | [.string s] => s.data.toList | _ => []
    have hf : ∀ i, i < len → z i = [.string (str (f i))] ∧ (f i).length ≤ maxLen := fun i hi => by
      obtain ⟨s, e, hsz⟩ := hs i hi
      have e2 : f i = s.data.toList := by simp only [f, e]
      refine ⟨by rw [e, e2]; simp [str], ?_⟩
      rw [e2, Array.length_toList]
      exact hsz
    refine ⟨(List.range len).map f, by simp, ⟨by simp [scells], by simpa using h1, h2, fun _ => ⟨b, off, rfl, fun i hi => ?_⟩⟩, ?_⟩
    · rw [scells_length, List.length_map, List.length_range] at hi
      have h9 := (hz i hi).2.2 0 (by omega)
      rw [(hf i hi).1, Nat.mul_one, Nat.add_zero] at h9
      rw [h9]
      simp [scells, hi]
    · intro s hs2
      simp only [List.mem_map, List.mem_range] at hs2
      obtain ⟨i, hi, rfl⟩ := hs2
      exact (hf i hi).2
/-- A cluster. -/
structure Cf where
  sc : Int
  le : Int
  ag : Int
  ro : Int
  ou : Int
  T : List (List UInt8)
  ws : List Wk
def cfc (x : Cf) (N : Option Addr) (nc : Nat) (K : Option Addr) (kc : Nat) : Array Value := #[.int .i64 x.sc, .int .i64 x.le, .int .i64 x.ag, .int .i64 x.ro, .int .i64 x.ou, .slice N x.T.length nc, .slice K x.ws.length kc]
/-- A cluster that may be read. -/
def CfAt (w : World) (x : Cf) (N : Option Addr) (nc : Nat) (K : Option Addr) (kc : Nat) : Prop := TxJ w N nc x.T ∧ Sl w 3 K x.ws.length kc (gcells wkc x.ws) ∧ ∀ y ∈ x.ws, y.2.2 < 18446744073709551616
theorem CfAt.below {w w' : World} {x : Cf} {N : Option Addr} {nc : Nat} {K : Option Addr} {kc : Nat} (h : CfAt w x N nc K kc) (hb : Below w.heap.size w w') : CfAt w' x N nc K kc := ⟨h.1.below hb, h.2.1.below hb, h.2.2⟩
theorem conf_in {w : World} {a : Array Value} (hn : a.size = 7) (h : Rd Tryd.prog w 25 a.toList) : ∃ x N nc K kc, a = cfc x N nc K kc ∧ CfAt w x N nc K kc := by
  have hc : Tryd.prog.cellsOf 3 = 1 := by kernel_rfl
  have hc2 : Tryd.prog.cellsOf 22 = 1 := by kernel_rfl
  have hc3 : Tryd.prog.cellsOf 23 = 1 := by kernel_rfl
  obtain ⟨_, hf⟩ := Rd.struct Tryd.underlying25 h
  have f0 : Rd Tryd.prog w 3 ((a.toList.drop 0).take (Tryd.prog.cellsOf 3)) := hf 0 _ rfl
  have f1 : Rd Tryd.prog w 3 ((a.toList.drop 1).take (Tryd.prog.cellsOf 3)) := hf 1 _ rfl
  have f2 : Rd Tryd.prog w 3 ((a.toList.drop 2).take (Tryd.prog.cellsOf 3)) := hf 2 _ rfl
  have f3 : Rd Tryd.prog w 3 ((a.toList.drop 3).take (Tryd.prog.cellsOf 3)) := hf 3 _ rfl
  have f4 : Rd Tryd.prog w 3 ((a.toList.drop 4).take (Tryd.prog.cellsOf 3)) := hf 4 _ rfl
  have f5 : Rd Tryd.prog w 22 ((a.toList.drop 5).take (Tryd.prog.cellsOf 22)) := hf 5 _ rfl
  have f6 : Rd Tryd.prog w 23 ((a.toList.drop 6).take (Tryd.prog.cellsOf 23)) := hf 6 _ rfl
  rw [hc] at f0 f1 f2 f3 f4
  rw [hc2] at f5
  rw [hc3] at f6
  obtain ⟨k, e0, _⟩ := Rd.int Tryd.underlying3 f0
  obtain ⟨j, e1, _⟩ := Rd.int Tryd.underlying3 f1
  obtain ⟨t, e2, _⟩ := Rd.int Tryd.underlying3 f2
  obtain ⟨i, e3, _⟩ := Rd.int Tryd.underlying3 f3
  obtain ⟨p, e4, _⟩ := Rd.int Tryd.underlying3 f4
  have sl : ∀ {i T E : Nat}, Tryd.prog.underlying T = some (.slice E) → Rd Tryd.prog w T ((a.toList.drop i).take 1) → ∃ A len cap, (a.toList.drop i).take 1 = [.slice A len cap] := fun hu hr => by
    rcases Rd.slice hu hr with h1 | ⟨ad, len, cap, _, h1, _⟩
    · exact ⟨_, _, _, h1⟩
    · exact ⟨_, _, _, h1⟩
  obtain ⟨N, n5, c5, e5⟩ := sl Tryd.underlying22 f5
  obtain ⟨K, n6, c6, e6⟩ := sl Tryd.underlying23 f6
  rw [e5] at f5
  rw [e6] at f6
  obtain ⟨l5, rfl, h5⟩ := rd_textsJ f5
  obtain ⟨l6, h6, rfl, h7⟩ := workers_in f6
  have one : ∀ {i : Nat} {v : Value}, (a.toList.drop i).take 1 = [v] → a.toList[i]? = some v := fun {i v} h => by
    have h9 : ((a.toList.drop i).take 1)[0]? = some v := by rw [h]; rfl
    rw [List.getElem?_take, if_pos (by omega), List.getElem?_drop, Nat.add_zero] at h9
    exact h9
  have g0 := one e0
  have g1 := one e1
  have g2 := one e2
  have g3 := one e3
  have g4 := one e4
  have g5 := one e5
  have g6 := one e6
  refine ⟨⟨k, j, t, i, p, l5, l6⟩, N, c5, K, c6, ?_, h5, h6, h7⟩
  have hl : a.toList.length = 7 := by rw [Array.length_toList]; exact hn
  have he : a.toList = (cfc ⟨k, j, t, i, p, l5, l6⟩ N c5 K c6).toList := by
    apply List.ext_getElem?
    intro j
    rcases (by omega : j = 0 ∨ j = 1 ∨ j = 2 ∨ j = 3 ∨ j = 4 ∨ j = 5 ∨ j = 6 ∨ 7 ≤ j) with rfl | rfl | rfl | rfl | rfl | rfl | rfl | h9
    · exact g0
    · exact g1
    · exact g2
    · exact g3
    · exact g4
    · exact g5
    · exact g6
    · rw [List.getElem?_eq_none (by omega), List.getElem?_eq_none (by simpa [cfc] using h9)]
  exact Array.toList_inj.1 he
theorem job_in {w : World} {a : Array Value} (hn : a.size = 2) (h : Rd Tryd.prog w 45 a.toList) : ∃ (id : Int) (A : Option Addr) (c : Nat) (xs : List (List UInt8)), a = #[.int .i64 id, .slice A xs.length c] ∧ TxJ w A c xs := by
  have hc : Tryd.prog.cellsOf 3 = 1 := by kernel_rfl
  have hc2 : Tryd.prog.cellsOf 22 = 1 := by kernel_rfl
  obtain ⟨_, hf⟩ := Rd.struct Tryd.underlying45 h
  have f0 : Rd Tryd.prog w 3 ((a.toList.drop 0).take (Tryd.prog.cellsOf 3)) := hf 0 _ rfl
  have f1 : Rd Tryd.prog w 22 ((a.toList.drop 1).take (Tryd.prog.cellsOf 22)) := hf 1 _ rfl
  rw [hc] at f0
  rw [hc2] at f1
  obtain ⟨k, e0, _⟩ := Rd.int Tryd.underlying3 f0
  obtain ⟨A, n, c, e1⟩ : ∃ A len cap, (a.toList.drop 1).take 1 = [.slice A len cap] := by
    rcases Rd.slice Tryd.underlying22 f1 with h1 | ⟨ad, len, cap, _, h1, _⟩
    · exact ⟨_, _, _, h1⟩
    · exact ⟨_, _, _, h1⟩
  rw [e1] at f1
  obtain ⟨l, rfl, h1⟩ := rd_textsJ f1
  refine ⟨k, A, c, l, ?_, h1⟩
  have hl : a.toList.length = 2 := by rw [Array.length_toList]; exact hn
  have he : a.toList = (#[.int .i64 k, .slice A l.length c] : Array Value).toList := by
    match ha : a.toList, hl, e0, e1 with
    | [u, v], _, e0, e1 =>
      simp at e0 e1
      rw [e0, e1]
  exact Array.toList_inj.1 he
end Go.Proofs.YthohedadmfbahaaDoor
