/- DrawPlays: what its loop holds. -/
import Derived.Test.YtadjmgmdnekllaaDrawU
import Derived.Test.YtadjmgmdnekllaaDrawK
import Derived.Test.YtadjmgmdnekllaaDrawQ
import Derived.Test.YtadjmgmdnekllaaDrawL
import Derived.Test.YtadjmgmdnekllaaGcel
namespace Go.Proofs.Ytadjmgmdnekllaa
open Go.RowKit
set_option linter.unusedVariables false
set_option linter.unusedSimpArgs false

theorem Sl.far {w w' : World} {n : Nat} {A : Option Addr} {len cap : Nat} {xs : List Value} (h : Sl w n A len cap xs) (hk : 0 < xs.length → ∀ b off, A = some ⟨b, off, none⟩ → b < w.heap.size → w'.heap[b]? = w.heap[b]?) : Sl w' n A len cap xs := by
  refine ⟨h.1, h.2.1, h.2.2.1, fun h0 => ?_⟩
  obtain ⟨b, off, ha, hc⟩ := h.2.2.2 h0
  refine ⟨b, off, ha, fun i hi => ?_⟩
  have h4 := hc i hi
  rw [List.getElem?_eq_getElem hi] at h4 ⊢
  rw [World.cell?_of_block (hk h0 b off ha (lt_of_cell h4))]
  exact h4
theorem Sl.lt {w : World} {n : Nat} {b off : Nat} {len cap : Nat} {xs : List Value} (h : Sl w n (some ⟨b, off, none⟩) len cap xs) (h0 : 0 < xs.length) : b < w.heap.size := by
  obtain ⟨b', off', ha, hc⟩ := h.2.2.2 h0
  cases ha
  have h4 := hc 0 h0
  rw [List.getElem?_eq_getElem h0] at h4
  exact lt_of_cell h4
theorem TapeG.same {w w' : World} {T : Nat} {G : Option Nat} {E : Nat} {l : List Nat} (h : TapeG w T G E l) (hT : w'.heap[T]? = w.heap[T]?) (hG : ∀ g, G = some g → g < w.heap.size → w'.heap[g]? = w.heap[g]?) : TapeG w' T G E l := by
  obtain ⟨A, c, h1, h2, h3⟩ := h
  exact ⟨A, c, hT.trans h1, TapeG.sl h2 h3 hG, h3⟩
theorem RowG.same {w w' : World} {G : Option Nat} {E B : Nat} (h : RowG w G E B) (hG : ∀ g, G = some g → w'.heap[g]? = w.heap[g]?) : RowG w' G E B := fun g hg => by
  obtain ⟨h1, cur, h2, h3⟩ := h g hg
  exact ⟨h1, cur, (hG g hg).trans h2, h3⟩
theorem RowG.lt {w : World} {G : Option Nat} {E B g : Nat} (h : RowG w G E B) (hg : G = some g) : g < w.heap.size := by
  obtain ⟨_, cur, h2, _⟩ := h g hg
  exact lt_of_block h2
/-- The tape in block T, and the document's list, with the same draws; the list lies apart. -/
structure DP (W w : World) (N T : Nat) (A : Option Addr) (c : Nat) (cur : List Nat) : Prop where
  t : W.heap.size ≤ T
  g : ∃ G E, TapeG w T G E cur ∧ RowG w G E W.heap.size ∧ (0 < cur.length → ∀ b off, A = some ⟨b, off, none⟩ → b ≠ T ∧ G ≠ some b)
  s : Sl w 1 A cur.length c (ucells cur)
  b : Below W.heap.size W w
  n : cur.length ≤ N
  u : ∀ x ∈ cur, x < 18446744073709551616
theorem ulen (l : List Nat) : (ucells l).length = l.length := ucells_length l
theorem DP.below {W w w' : World} {N T : Nat} {A : Option Addr} {c : Nat} {cur : List Nat} (h : DP W w N T A c cur) (hb : Below w.heap.size w w') : DP W w' N T A c cur := by
  obtain ⟨G, E, h1, h2, h3⟩ := h.g
  exact ⟨h.t, ⟨G, E, h1.below hb, h2.below hb, h3⟩, h.s.below hb, h.b.trans (hb.mono h.b.size), h.n, h.u⟩
theorem DP.more {W w : World} {N N' T : Nat} {A : Option Addr} {c : Nat} {cur : List Nat} (h : DP W w N T A c cur) (hn : N ≤ N') : DP W w N' T A c cur := ⟨h.t, h.g, h.s, h.b, Nat.le_trans h.n hn, h.u⟩
theorem DP.only {W w w' : World} {N T : Nat} {A A' : Option Addr} {c c' : Nat} {cur cur' : List Nat} {G : Option Nat} {E : Nat} (h : DP W w N T A c cur) (hR : RowG w G E W.heap.size) (hF : 0 < cur.length → ∀ b off, A = some ⟨b, off, none⟩ → b ≠ T ∧ G ≠ some b)
    (hG : TapeG w T G E cur) (hT' : TapeG w' T G E cur') (ho : Only T w w') (hs : Sl w 1 A' cur'.length c' (ucells cur')) (hfr : Fro A A') (hle : cur'.length ≤ cur.length) (hu : ∀ x ∈ cur', x < 18446744073709551616) : DP W w' N T A' c' cur' := by
  have hF' : 0 < cur'.length → ∀ b off, A' = some ⟨b, off, none⟩ → b ≠ T ∧ G ≠ some b := fun h0 b off hA => by
    obtain ⟨o2, e⟩ := hfr b off hA
    exact hF (by omega) b o2 e
  obtain ⟨Ag, cg, hgT, _, _⟩ := hG
  refine ⟨h.t, ⟨G, E, hT', hR.only ho hgT (by decide), hF'⟩, hs.far fun h0 b off hA hb => ho.keep b (hF' (by rw [ulen] at h0; exact h0) b off hA).1 hb, h.b.trans (ho.below W.heap.size h.t h.b.size), Nat.le_trans hle h.n, hu⟩
theorem DP.fresh {W w w' : World} {N T : Nat} {A : Option Addr} {c : Nat} {cur : List Nat} {G : Option Nat} {E : Nat} (hT : TapeG w T G E cur) (hR : RowG w G E W.heap.size) (ht : W.heap.size ≤ T) (hb : Below W.heap.size W w) (ho : w'.ownsRow w.heap.size 22 1 (.slice A cur.length c) cur.length (ucells cur)) (hb' : Below w.heap.size w w') (hn : cur.length ≤ N) (hu : ∀ x ∈ cur, x < 18446744073709551616) : DP W w' N T A c cur := by
  refine ⟨ht, ⟨G, E, hT.below hb', hR.below hb', fun h0 b off hA => ?_⟩, sl_own ho, hb.trans (hb'.mono hb.size), hn, hu⟩
  have hge : w.heap.size ≤ b := by
    rcases ho.2 with ⟨h1, _⟩ | ⟨g, cap, cu, h1, h2, _⟩
    · injection h1 with h1
      rw [h1] at hA; cases hA
    · injection h1 with h1
      rw [hA] at h1; cases h1; exact h2
  have h1 := hT.lt
  refine ⟨by omega, fun h2 => ?_⟩
  have h3 := hR.lt h2
  omega
theorem DP.clone {W w w2 w3 : World} {N T T' : Nat} {A : Option Addr} {c : Nat} {cur : List Nat} {G G' : Option Nat} {E' : Nat} (h : DP W w N T A c cur) (hF : 0 < cur.length → ∀ b off, A = some ⟨b, off, none⟩ → b ≠ T ∧ G ≠ some b) (hG : ∀ g, G = some g → g < w.heap.size) (hTw : T < w.heap.size)
    (hT' : w.heap.size ≤ T') (h1 : TapeG w2 T' G' E' cur) (h2 : RowG w2 G' E' w.heap.size) (hb : Below w.heap.size w w2) (hb3 : Below W.heap.size w2 w3) (hk : ∀ g, g < w2.heap.size → g ≠ T → G ≠ some g → w3.heap[g]? = w2.heap[g]?) : DP W w3 N T' A c cur := by
  have hbW := h.b.size
  have hlt := h1.lt
  have hk2 : ∀ g, w.heap.size ≤ g → g < w2.heap.size → w3.heap[g]? = w2.heap[g]? := fun g h3 h4 => hk g h4 (by omega) (fun h5 => by have := hG g h5; omega)
  refine ⟨by omega, ⟨G', E', h1.same (hk2 T' hT' hlt) (fun g hg hl => hk2 g (h2 g hg).1 hl), (h2.same fun g hg => hk2 g (h2 g hg).1 (h2.lt hg)).mono hbW, fun h0 b off hA => ?_⟩, (h.s.below hb).far fun h0 b off hA hl => hk b hl (hF (by rw [ulen] at h0; exact h0) b off hA).1 (hF (by rw [ulen] at h0; exact h0) b off hA).2, (h.b.trans (hb.mono hbW)).trans hb3, h.n, h.u⟩
  subst hA
  have hbl := h.s.lt (by rw [ulen]; exact h0)
  refine ⟨by omega, fun h5 => ?_⟩
  have := (h2 b h5).1
  omega
theorem DP.start {W w : World} {N T : Nat} {A : Option Addr} {c : Nat} {cur : List Nat} {G : Option Nat} {E : Nat} (hs : Sl W 1 A cur.length c (ucells cur)) (ht : W.heap.size ≤ T) (h1 : TapeG w T G E cur) (h2 : RowG w G E W.heap.size) (hb : Below W.heap.size W w) (hn : cur.length ≤ N) (hu : ∀ x ∈ cur, x < 18446744073709551616) : DP W w N T A c cur := by
  refine ⟨ht, ⟨G, E, h1, h2, fun h0 b off hA => ?_⟩, hs.below hb, hb, hn, hu⟩
  subst hA
  have hbl := hs.lt (by rw [ulen]; exact h0)
  refine ⟨by omega, fun h5 => ?_⟩
  have := (h2 b h5).1
  omega
/-- What is asked: its cells. -/
def askC (x : Int × Int × Nat) : List Value := [.int .i64 x.1, .int .i64 x.2.1, .int .u64 (x.2.2 : Int)]
def okA (x : Int × Int × Nat) : Prop := x.2.1 ≤ 9223372036854775807 ∧ x.2.2 < 18446744073709551616
theorem three_of {l : List Value} (h : l.length = 3) : ∃ u v w, l = [u, v, w] := by
  match l, h with
  | [u, v, w], _ => exact ⟨u, v, w, rfl⟩
theorem asks_in {w : World} {A : Option Addr} {len cap : Nat} (h : Rd Try.prog w 39 [.slice A len cap]) : ∃ l : List (Int × Int × Nat), Sl w 3 A len cap (gcells askC l) ∧ l.length = len ∧ ∀ x ∈ l, okA x := by
  have hc3 : Try.prog.cellsOf 3 = 1 := by kernel_rfl
  have hc4 : Try.prog.cellsOf 22 = 1 := by kernel_rfl
  refine rows_in okA Try.underlying39 (by kernel_rfl) (by omega) (fun _ => rfl) (fun cs hl hr => ?_) h
  obtain ⟨_, hf⟩ := Rd.struct Try.underlying43 hr
  have f0 : Rd Try.prog w 3 ((cs.drop 0).take (Try.prog.cellsOf 3)) := hf 0 _ rfl
  have f1 : Rd Try.prog w 3 ((cs.drop 1).take (Try.prog.cellsOf 3)) := hf 1 _ rfl
  have f2 : Rd Try.prog w 22 ((cs.drop 2).take (Try.prog.cellsOf 22)) := hf 2 _ rfl
  rw [hc3] at f0 f1
  rw [hc4] at f2
  obtain ⟨a, ea, _⟩ := Rd.int Try.underlying3 f0
  obtain ⟨b, eb, wb⟩ := Rd.int Try.underlying3 f1
  obtain ⟨d, ed, wd⟩ := Rd.int Try.underlying22 f2
  obtain ⟨m, rfl, hm⟩ := wf_u64 wd
  obtain ⟨u, v, z, rfl⟩ := three_of hl
  simp at ea eb ed
  exact ⟨(a, b, m), by rw [ea, eb, ed]; rfl, (wf_i64 wb).2, hm⟩
end Go.Proofs.Ytadjmgmdnekllaa
