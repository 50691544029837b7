/- The document's ledger: Open: contract. -/
import Derived.Test.YtkepfkfoblocgaaGreatQR21A
namespace Go.Proofs.YtkepfkfoblocgaaGreat
open Go.RowKit Go.Sort
set_option linter.unusedVariables false
set_option linter.unusedSimpArgs false

/-- What Open leaves where its room is good. -/
def RloR (W0 W : World) (M room : Nat) (l : List UInt8) (fu : Int) (R : Nat) (e : Ending) (w' : World) : Prop :=
  if (foldB [] (recS l).1).2 < (recS l).1.length then e = .returned (.tuple #[.pointer none, .int .i64 3]) ∧ RkAt w' M room (l.take (recS l).2) fu ∧ Tch (fun g => g = M) W w'
  else ∃ H G A c els Ab cb xs, e = .returned (.tuple #[.pointer (some ⟨H, 0, none⟩), .int .i64 0]) ∧ els.map (·.1) = (recS l).1 ∧ xs.map (·.1) = (foldB [] (recS l).1).1 ∧ RlAt W0 w' W.heap.size H G M R room (l.take (recS l).2) fu A c els false Ab cb xs ∧ W.heap.size ≤ H ∧ W.heap.size ≤ G ∧ Tch (fun g => g = M) W w'
set_option maxRecDepth 20000 in
set_option maxHeartbeats 4000000 in
theorem r21open_bad (p : Value) (R : Int) (hR : R < 0 ∨ 65536 < R) (W : World) : Calls Tryz.prog 11 #[p, .int .i64 R] W fun e w' => e = .returned (.tuple #[.pointer none, .int .i64 1]) ∧ RowKit.Below W.heap.size W w' := by
  go_enter Tryz.func11, Tryz.ntmps11
  by_cases h1 : R < 0
  · go_wp2
    go_ret2
    exact ⟨rfl, Below.refl _ _⟩
  · have h2 : 65536 < R := hR.resolve_left h1
    go_wp2
    go_ret2
    exact ⟨rfl, Below.refl _ _⟩
set_option maxRecDepth 20000 in
set_option maxHeartbeats 4000000 in
theorem r21open_any {M room : Nat} {l : List UInt8} {fu : Int} (R : Nat) (W0 W : World) (h : RkAt W M room l fu) (hl : l.length ≤ 100000) (hR : R ≤ 65536) (hW0 : RowKit.Below W0.heap.size W0 W) (hM : W0.heap.size ≤ M) :
    Calls Tryz.prog 11 #[.pointer (some ⟨M, 0, none⟩), .int .i64 (R : Int)] W (RloR W0 W M room l fu R) := by
  have hMl : M < W.heap.size := lt_of_block h
  have HOP := hid (r19open_any W0 W h hl)
  have HW0 := hid hW0
  have hR1 : ¬ (R : Int) < 0 := by omega
  have hR2 : ¬ (65536 : Int) < (R : Int) := by omega
  clear h hW0
  go_enter Tryz.func11, Tryz.ntmps11
  go_wp2_with fail
  refine HOP.out.mono ?_
  rintro e w1 ⟨G, A, c, els, rfl, he, ha, hG, ho⟩
  have HT1 : Hid (Tch (fun g => g = M) W w1) := hid (Tch.of_only ho rfl hMl)
  have HA1 := hid ha
  have HE := hid he
  have HG := hid hG
  have hel : els.length ≤ 100000 := Nat.le_trans (els_len he) hl
  have HB1 : Hid (W.heap.size ≤ w1.heap.size) := hid ho.size
  have HIN := hid (ha.2.2.inR (HW0.out.trans (HT1.out.below W0.heap.size (fun g hg _ => hg ▸ hM) HW0.out.size)))
  clear HOP ho ha he hG
  have HF := hid (r20fold_any A c els w1 HIN.out hel)
  rw [HE.out] at HF
  clear HIN
  obtain ⟨⟨q0, q1, q2⟩, _⟩ := three_cells HA1.out.1
  go_wp2_with fail
  refine HF.out.mono ?_
  rintro e w2 ⟨Ab, cb, xs, rfl, hx, hok, hpr, hb2⟩
  have HA2 := hid (HA1.out.keep hb2)
  have HT2 := hid (HT1.out.grow hb2)
  have HX := hid hx
  have HOK := hid hok
  have HPR := hid hpr
  have HB2 : Hid (W.heap.size ≤ w2.heap.size) := hid (Nat.le_trans HB1.out hb2.size)
  clear HF hx hok hpr hb2 HA1 HT1 q0 q1 q2
  obtain ⟨⟨q0, q1, q2⟩, _⟩ := three_cells HA2.out.1
  have hnn : (recS l).1.length = els.length := by rw [← HE.out, List.length_map]
  have HNN := hid hnn
  clear hnn
  by_cases hlt : (foldB [] (recS l).1).2 < (recS l).1.length
  · have HLT := hid hlt
    have hlt2 : (((foldB [] (recS l).1).2 : Nat) : Int) < (els.length : Int) := by
      have h9 := HNN.out
      omega
    clear hlt
    go_wp2
    go_ret2
    unfold RloR
    rw [if_pos HLT.out]
    exact ⟨rfl, HA2.out.2.1, HT2.out⟩
  · have HLT := hid hlt
    have hlt2 : ¬ (((foldB [] (recS l).1).2 : Nat) : Int) < (els.length : Int) := by
      have h9 := HNN.out
      omega
    clear hlt
    have hba : RowKit.Below w2.heap.size w2 (w2.alloc (.cells #[.pointer (some ⟨G, 0, none⟩), .slice Ab xs.length cb, .int .i64 (R : Int)] 62)) := (Below.refl _ _).alloc (Nat.le_refl _) _
    have HFIN := hid (show RlAt W0 (w2.alloc (.cells #[.pointer (some ⟨G, 0, none⟩), .slice Ab xs.length cb, .int .i64 (R : Int)] 62)) W.heap.size w2.heap.size G M R room (l.take (recS l).2) fu A c els false Ab cb xs from ⟨heap_alloc_new _ _, HA2.out.keep hba, (HPR.out.bkX HA2.out.2.2).below hba, HOK.out⟩)
    have HTF := hid (HT2.out.grow hba)
    clear hba HA2 HT2 HPR HOK
    go_wp2
    go_ret2
    unfold RloR
    rw [if_neg HLT.out]
    exact ⟨w2.heap.size, G, A, c, els, Ab, cb, xs, rfl, HE.out, HX.out, HFIN.out, HB2.out, HG.out, HTF.out⟩
end Go.Proofs.YtkepfkfoblocgaaGreat
