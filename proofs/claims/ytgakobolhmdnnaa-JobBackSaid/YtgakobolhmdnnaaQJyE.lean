/- What a job's bytes are parsed to. -/
import Derived.Test.YtgakobolhmdnnaaQJyC
import Derived.Test.YtgakobolhmdnnaaOcP
namespace Go.Proofs.Ytgakobolhmdnnaa
open Go.RowKit
set_option linter.unusedVariables false
set_option linter.unusedSimpArgs false

def jn (l : List UInt8) : Nat × List UInt8 × Int := rdNum 72057594037927935 l 0
def je (l : List UInt8) : Int := if (jn l).1 = 0 then rdFail 3 (jn l).2.2 else (jn l).2.2
def jc (l : List UInt8) : Nat × List UInt8 × Int := rdNum 16 (jn l).2.1 (je l)
def jx (l : List UInt8) : List (List UInt8) × List UInt8 × Int := rts (jc l).1 (jc l).2.1 (jc l).2.2
def jk (l : List UInt8) : Int := rdEnd (jx l).2.1 (jx l).2.2
/-- The job that is parsed: its number, its texts. -/
def jid (l : List UInt8) : Int := if jk l = 0 then ((jn l).1 : Int) else 0
def jns (l : List UInt8) : List (List UInt8) := if jk l = 0 then (jx l).1 else []
theorem rdNum_most (most : Int) (h0 : 0 ≤ most) (l : List UInt8) (e : Int) : (((rdNum most l e).1 : Nat) : Int) ≤ most := by
  unfold rdNum
  split
  · split
    · rename_i hf
      obtain ⟨u1, u2, n1, n2⟩ := firstN_used most l hf
      simp only
      omega
    · simpa using h0
  · simpa using h0
theorem rdNum_le (n : Nat) (most : Int) (h : n ≤ 72057594037927935) (hm : (n : Int) ≤ most) (rest : List UInt8) : rdNum most (numB n ++ rest) 0 = (n, rest, 0) := by
  rw [rdNum, if_pos rfl, firstN_numB n h most hm rest, if_pos rfl]
  simp
theorem rdText_tx (s : List UInt8) (h : s.length ≤ 200) (rest : List UInt8) : rdText 200 (tx s ++ rest) 0 = (s, rest, 0) := by
  rw [tx, List.append_assoc, rdText, if_pos rfl, firstN_numB _ (by omega) _ (by omega) _, if_pos rfl, if_neg (by simp)]
  simp
theorem rts_txs : ∀ (ns : List (List UInt8)) (rest : List UInt8), (∀ s ∈ ns, s.length ≤ 200) → rts ns.length (txs ns ++ rest) 0 = (ns, rest, 0)
  | [], rest, _ => by simp [rts, txs]
  | s :: ns, rest, h => by
    have e1 : txs (s :: ns) ++ rest = tx s ++ (txs ns ++ rest) := by simp [txs]
    rw [e1, List.length_cons, rts_succ, rdText_tx s (h s (List.mem_cons_self ..)) _, rts_txs ns rest (fun x hx => h x (List.mem_cons_of_mem _ hx))]
theorem parse_jB {id : Int} {xs : List (List UInt8)} (h : plainJ id xs = true) (r : List UInt8) : (jn (jB id xs ++ r)).1 = id.toNat ∧ jx (jB id xs ++ r) = (xs, r, 0) := by
  obtain ⟨h1, h2, h3, h4⟩ := plainJ_parts h
  have c1 : cl id = id.toNat := by unfold cl; omega
  have c2 : cl (xs.length : Int) = xs.length := by unfold cl; omega
  have e0 : jB id xs ++ r = numB id.toNat ++ (numB xs.length ++ (txs xs ++ r)) := by
    rw [jB, c1, c2]
    simp only [List.append_assoc]
  have en : jn (jB id xs ++ r) = (id.toNat, numB xs.length ++ (txs xs ++ r), 0) := by
    rw [jn, e0, rdNum_le _ _ (by omega) (by omega) _]
  have ee : je (jB id xs ++ r) = 0 := by
    rw [je, en]
    rw [if_neg (show ¬ id.toNat = 0 by omega)]
  have ec : jc (jB id xs ++ r) = (xs.length, txs xs ++ r, 0) := by
    rw [jc, ee, en]
    exact rdNum_le _ _ (by omega) (by omega) _
  refine ⟨by rw [en], ?_⟩
  rw [jx, ec]
  exact rts_txs xs r h4
/-- A plain job is parsed of its bytes, and of no longer ones. -/
theorem jp_jB {id : Int} {xs : List (List UInt8)} (h : plainJ id xs = true) : jk (jB id xs) = 0 ∧ jid (jB id xs) = id ∧ jns (jB id xs) = xs ∧ ∀ m : UInt8, jk (jB id xs ++ [m]) = 3 := by
  obtain ⟨g1, g2⟩ := parse_jB h []
  rw [List.append_nil] at g1 g2
  have hk : jk (jB id xs) = 0 := by rw [jk, g2]; rfl
  obtain ⟨h1, _⟩ := plainJ_parts h
  refine ⟨hk, ?_, ?_, fun m => ?_⟩
  · rw [jid, if_pos hk, g1]; omega
  · rw [jns, if_pos hk, g2]
  · rw [jk, (parse_jB h [m]).2]; rfl
theorem jB_len {id : Int} {xs : List (List UInt8)} (h : plainJ id xs = true) : (jB id xs).length ≤ 3400 := by
  obtain ⟨_, _, h3, h4⟩ := plainJ_parts h
  have l0 := (numB_length _ (cl_le id)).2
  have l1 := (numB_length _ (cl_le (xs.length : Int))).2
  have l2 := txs_len xs h4
  unfold jB
  simp only [List.length_append]
  omega
theorem jns_le (l : List UInt8) : (jns l).length ≤ 16 ∧ ∀ s ∈ jns l, s.length ≤ 200 := by
  unfold jns
  split
  · obtain ⟨h1, h2⟩ := rts_le (jc l).1 (jc l).2.1 (jc l).2.2
    have h3 : (((jc l).1 : Nat) : Int) ≤ 16 := rdNum_most 16 (by omega) _ _
    refine ⟨?_, h2⟩
    have h4 : (jx l).1.length = (jc l).1 := h1
    omega
  · exact ⟨by simp, by simp⟩

/-- Texts of the call's own. -/
def OwnS (w : World) (B : Nat) (A : Option Addr) (c : Nat) (l : List (List UInt8)) : Prop := w.ownsRow B 9 1 (.slice A l.length c) l.length (scells l) ∧ ∀ s ∈ l, s.length ≤ 200
theorem OwnS.tx {w : World} {B : Nat} {A : Option Addr} {c : Nat} {l : List (List UInt8)} (h : OwnS w B A c l) : TxJ w A c l := ⟨sl_own h.1, fun s hs => by have := h.2 s hs; unfold maxLen; omega⟩
theorem OwnS.keep {w w' : World} {B : Nat} {A : Option Addr} {c : Nat} {l : List (List UInt8)} (h : OwnS w B A c l) (hb : Below w.heap.size w w') : OwnS w' B A c l := ⟨own_keep h.1 hb, h.2⟩
theorem two_frz {w : World} {b t : Nat} {xs : Array Value} (h : w.heap[b]? = some (.cells xs t (0, 0))) : w.frozen? ⟨b, 0, none⟩ = false ∧ w.frozen? ⟨b, 1, none⟩ = false :=
  ⟨frozen_of_row w b 0 _ t h, frozen_of_row w b 1 _ t h⟩
def put2 (w : World) (b : Nat) (a0 a1 : Value) : World := (w.setCell ⟨b, 0, none⟩ a0).setCell ⟨b, 1, none⟩ a1
theorem put2_heap {w : World} {b t : Nat} {x0 x1 : Value} (h : w.heap[b]? = some (.cells #[x0, x1] t (0, 0))) (a0 a1 : Value) :
    (put2 w b a0 a1).heap[b]? = some (.cells #[a0, a1] t (0, 0)) := by
  have h1 := heap_setCell_same w b 0 _ t a0 h
  have h2 := heap_setCell_same _ b 1 _ t a1 h1
  unfold put2
  rw [h2]
  rfl
theorem put2_below {n : Nat} {W w : World} {b : Nat} (h : Below n W w) (hb : n ≤ b) (a0 a1 : Value) : Below n W (put2 w b a0 a1) :=
  (h.setCell (p := ⟨b, 0, none⟩) hb a0).setCell (p := ⟨b, 1, none⟩) hb a1
theorem put2_own {w : World} {b base e s n : Nat} {v : Value} {xs : List Value} (h : w.ownsRow base e s v n xs) (hb : b < base) (a0 a1 : Value) : (put2 w b a0 a1).ownsRow base e s v n xs :=
  own_setOld (own_setOld h ⟨b, 0, none⟩ a0 hb) ⟨b, 1, none⟩ a1 hb
/-- What a walk of Parse holds: the answer's cell, the reader at B, the job at M. -/
structure JP (W w : World) (B M : Nat) (l : List UInt8) (e id : Int) (v : Value) : Prop where
  r : w.heap[W.heap.size]? = some (.cells #[.int .i64 0, .slice none 0 0] 27 (0, 0))
  b : RdrB w B l e
  m : w.heap[M]? = some (.cells #[.int .i64 id, v] 27 (0, 0))
  bel : RowKit.Below W.heap.size W w
  rb : W.heap.size < B
  bm : B < M
theorem JP.lt {W w : World} {B M : Nat} {l : List UInt8} {e id : Int} {v : Value} (h : JP W w B M l e id v) : M < w.heap.size := lt_of_block h.m
theorem JP.go {W w w' : World} {B M : Nat} {l l2 : List UInt8} {e e2 id : Int} {v : Value} (h : JP W w B M l e id v) (ho : Only B w w') (hr : RdrB w' B l2 e2) : JP W w' B M l2 e2 id v :=
  ⟨ho.block h.r (Nat.ne_of_lt h.rb), hr, ho.block h.m (Nat.ne_of_gt h.bm), h.bel.trans (ho.below W.heap.size (Nat.le_of_lt h.rb) h.bel.size), h.rb, h.bm⟩
theorem JP.keep {W w w' : World} {B M : Nat} {l : List UInt8} {e id : Int} {v : Value} (h : JP W w B M l e id v) (hb : RowKit.Below (M + 1) w w') : JP W w' B M l e id v :=
  ⟨(hb.block _ (by have := h.rb; have := h.bm; omega)).trans h.r, h.b.keep (hb.mono (by have := h.bm; omega)), (hb.block M (Nat.lt_succ_self M)).trans h.m, h.bel.trans (hb.mono (by have := h.rb; have := h.bm; omega)), h.rb, h.bm⟩
theorem JP.set1 {W w : World} {B M : Nat} {l : List UInt8} {e id : Int} {v : Value} (h : JP W w B M l e id v) (x : Value) : JP W (w.setCell ⟨M, 1, none⟩ x) B M l e id x :=
  ⟨(Below.heap_setCell _ _ _ _ (show W.heap.size ≠ M by have := h.rb; have := h.bm; omega)).trans h.r, h.b.keep ((Below.refl _ _).setCell (p := ⟨M, 1, none⟩) h.bm _), heap_setCell_same _ M 1 _ _ _ h.m, h.bel.setCell (p := ⟨M, 1, none⟩) (show W.heap.size ≤ M by have := h.rb; have := h.bm; omega) _, h.rb, h.bm⟩
/-- The same with the document's reader. -/
structure JQ (W w : World) (B M : Nat) (l : List UInt8) (e id : Int) (v : Value) : Prop where
  r : w.heap[W.heap.size]? = some (.cells #[.int .i64 0, .slice none 0 0] 27 (0, 0))
  b : RRdr w B l e
  m : w.heap[M]? = some (.cells #[.int .i64 id, v] 27 (0, 0))
  bel : RowKit.Below W.heap.size W w
  rb : W.heap.size < B
  bm : B < M
  ll : l.length ≤ 100000
theorem JQ.lt {W w : World} {B M : Nat} {l : List UInt8} {e id : Int} {v : Value} (h : JQ W w B M l e id v) : M < w.heap.size := lt_of_block h.m
theorem JQ.go {W w w' : World} {B M : Nat} {l l2 : List UInt8} {e e2 id : Int} {v : Value} (h : JQ W w B M l e id v) (ho : Only B w w') (hr : RRdr w' B l2 e2) (hs : l2.length ≤ l.length) : JQ W w' B M l2 e2 id v :=
  ⟨ho.block h.r (Nat.ne_of_lt h.rb), hr, ho.block h.m (Nat.ne_of_gt h.bm), h.bel.trans (ho.below W.heap.size (Nat.le_of_lt h.rb) h.bel.size), h.rb, h.bm, Nat.le_trans hs h.ll⟩
theorem JQ.keep {W w w' : World} {B M : Nat} {l : List UInt8} {e id : Int} {v : Value} (h : JQ W w B M l e id v) (hb : RowKit.Below (M + 1) w w') : JQ W w' B M l e id v :=
  ⟨(hb.block _ (by have := h.rb; have := h.bm; omega)).trans h.r, (hb.block B (by have := h.bm; omega)).trans h.b, (hb.block M (Nat.lt_succ_self M)).trans h.m, h.bel.trans (hb.mono (by have := h.rb; have := h.bm; omega)), h.rb, h.bm, h.ll⟩
theorem JQ.set1 {W w : World} {B M : Nat} {l : List UInt8} {e id : Int} {v : Value} (h : JQ W w B M l e id v) (x : Value) : JQ W (w.setCell ⟨M, 1, none⟩ x) B M l e id x :=
  ⟨(Below.heap_setCell _ _ _ _ (show W.heap.size ≠ M by have := h.rb; have := h.bm; omega)).trans h.r, (Below.heap_setCell _ _ _ _ (show B ≠ M by have := h.bm; omega)).trans h.b, heap_setCell_same _ M 1 _ _ _ h.m, h.bel.setCell (p := ⟨M, 1, none⟩) (show W.heap.size ≤ M by have := h.rb; have := h.bm; omega) _, h.rb, h.bm, h.ll⟩
end Go.Proofs.Ytgakobolhmdnnaa
