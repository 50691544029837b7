/- The document's reader's methods. -/
import Derived.Test.YtkepfkfoblocgaaOctG
import Derived.Laws.Strings2
namespace Go.Proofs.Ytkepfkfoblocgaa
open Go.RowKit
set_option linter.unusedVariables false
set_option linter.unusedSimpArgs false

/-- Block B is a reader of the document's. -/
def RRdr (w : World) (B : Nat) (l : List UInt8) (e : Int) : Prop := w.heap[B]? = some (.cells #[.string (str l), .int .i64 e] 133 (0, 0))
theorem RRdr.only {w w' : World} {B C : Nat} {l : List UInt8} {e : Int} (h : RRdr w B l e) (ho : Only C w w') (hne : B ≠ C) : RRdr w' B l e := ho.block h hne
theorem RRdr.below {w w' : World} {B : Nat} {l : List UInt8} {e : Int} (h : RRdr w B l e) (hb : Below w.heap.size w w') : RRdr w' B l e := keep0 h hb
theorem RRdr.two {w : World} {B : Nat} {l : List UInt8} {e : Int} (h : RRdr w B l e) : ∃ v x T, w.heap[B]? = some (.cells #[v, .int .i64 x] T (0, 0)) ∧ ∀ x, v ≠ .int .u8 x :=
  ⟨_, _, _, h, fun x hx => by cases hx⟩
theorem RRdr.set {w : World} {B : Nat} {l : List UInt8} {e : Int} (h : RRdr w B l e) (l' : List UInt8) (e' : Int) : RRdr ((w.setCell ⟨B, 1, none⟩ (.int .i64 e')).setCell ⟨B, 0, none⟩ (.string (str l'))) B l' e' := by
  have h1 := heap_setCell_same w B 1 _ _ (.int .i64 e') h
  exact heap_setCell_same _ B 0 _ _ (.string (str l')) h1
theorem RRdr.setErr {w : World} {B : Nat} {l : List UInt8} {e : Int} (h : RRdr w B l e) (e' : Int) : RRdr (w.setCell ⟨B, 1, none⟩ (.int .i64 e')) B l e' := heap_setCell_same w B 1 _ _ (.int .i64 e') h
theorem str_drop (l : List UInt8) (u : Nat) (h : u ≤ l.length) : (str l).extract u l.length = str (l.drop u) := by
  apply ByteArray.ext
  simp [str, ByteArray.data_extract, List.take_of_length_le]
theorem str_mid (l : List UInt8) (u n : Nat) : (str l).extract u (u + n) = str ((l.drop u).take n) := by
  apply ByteArray.ext
  simp [str, ByteArray.data_extract, List.extract_eq_take_drop]

set_option maxRecDepth 20000 in
set_option maxHeartbeats 1000000 in
theorem rrNum_any (B : Nat) (l : List UInt8) (e most : Int) (W : World) (h : RRdr W B l e) (hl : l.length ≤ 100000) :
    Calls Try.prog 102 #[.pointer (some ⟨B, 0, none⟩), .int .i64 most] W fun x w' => x = .returned (.int .i64 ((rdNum most l e).1 : Nat)) ∧ RRdr w' B (rdNum most l e).2.1 (rdNum most l e).2.2 ∧ Only B W w' := by
  have H := hid h
  obtain ⟨c0, c1, f0, f1⟩ := two_cells h
  clear h
  by_cases he : e = 0
  · subst he
    have HF := hid (fun w => rnext_any l most w hl)
    have HU := hid (firstN_used most l)
    have hx := firstN_err most l
    have HR : Hid (rdNum most l 0 = if (firstN most l).2.2 = 0 then ((firstN most l).1, l.drop (firstN most l).2.1, (0 : Int)) else (0, l, (((firstN most l).2.2 : Nat) : Int))) := hid rfl
    have hz : (str l).size = l.length := str_size l
    generalize firstN most l = t at *
    obtain ⟨n, u, x⟩ := t
    simp only [trip] at HF HU hx HR
    by_cases h0 : x = 0
    · subst h0
      rw [if_pos rfl] at HR
      obtain ⟨u1, u2, n1, n2⟩ := HU.out rfl
      have hu1 : (u : Int) ≤ (l.length : Int) := by omega
      have hex := str_drop l u u2
      have HS := hid (fun w1 (hb : Below W.heap.size W w1) => (H.out.below hb).set (l.drop u) 0)
      have HO := hid (fun w1 (hb : Below W.heap.size W w1) => ((Only.of_below hb (B := B)).set 1 (.int .i64 0)).set 0 (.string (str (l.drop u))))
      clear HU n1 n2
      go_enter Try.func102, Try.ntmps102
      go_wp2_with (go_at_call 127; refine (HF.out _).mono ?_; rintro e w1 ⟨rfl, hb1⟩; obtain ⟨d0, d1, g0, g1⟩ := two_cells (H.out.below hb1))
      go_ret
      rw [HR.out]
      exact ⟨rfl, HS.out _ hb1, HO.out _ hb1⟩
    · rw [if_neg h0] at HR
      have hne : (((x : Nat) : Int) != 0) = true := by simp; omega
      have HS := hid (fun w1 (hb : Below W.heap.size W w1) => (H.out.below hb).setErr (x : Int))
      have HO := hid (fun w1 (hb : Below W.heap.size W w1) => ((Only.of_below hb (B := B)).set 1 (.int .i64 (x : Int))))
      clear HU
      go_enter Try.func102, Try.ntmps102
      go_wp2_with (go_at_call 127; refine (HF.out _).mono ?_; rintro e w1 ⟨rfl, hb1⟩; obtain ⟨d0, d1, g0, g1⟩ := two_cells (H.out.below hb1))
      go_ret
      rw [HR.out]
      exact ⟨rfl, HS.out _ hb1, HO.out _ hb1⟩
  · have hne : (e != 0) = true := by simp [he]
    have HR : Hid (rdNum most l e = (0, l, e)) := hid (by rw [rdNum, if_neg he])
    clear he
    go_enter Try.func102, Try.ntmps102
    go_wp2
    go_ret
    rw [HR.out]
    exact ⟨rfl, H.out, Only.refl B W⟩

set_option maxRecDepth 20000 in
set_option maxHeartbeats 2000000 in
theorem rrText_any (B : Nat) (l : List UInt8) (e most : Int) (W : World) (h : RRdr W B l e) (hl : l.length ≤ 100000) :
    Calls Try.prog 105 #[.pointer (some ⟨B, 0, none⟩), .int .i64 most] W fun x w' => x = .returned (.string (str (rdText most l e).1)) ∧ RRdr w' B (rdText most l e).2.1 (rdText most l e).2.2 ∧ Only B W w' := by
  have H := hid h
  obtain ⟨c0, c1, f0, f1⟩ := two_cells h
  clear h
  by_cases he : e = 0
  · subst he
    have HF := hid (fun w => rnext_any l most w hl)
    have HU := hid (firstN_used most l)
    have hx := firstN_err most l
    have HR : Hid (rdText most l 0 = if (firstN most l).2.2 = 0 then (if l.length - (firstN most l).2.1 < (firstN most l).1 then ([], l, (2 : Int)) else ((l.drop (firstN most l).2.1).take (firstN most l).1, l.drop ((firstN most l).2.1 + (firstN most l).1), (0 : Int))) else ([], l, (((firstN most l).2.2 : Nat) : Int))) := hid rfl
    have hz : (str l).size = l.length := str_size l
    generalize firstN most l = t at *
    obtain ⟨n, u, x⟩ := t
    simp only [trip] at HF HU hx HR
    by_cases h0 : x = 0
    · subst h0
      rw [if_pos rfl] at HR
      obtain ⟨u1, u2, n1, n2⟩ := HU.out rfl
      have hu1 : (u : Int) ≤ (l.length : Int) := by omega
      have hb63 : l.length ≤ 9223372036854775807 := by omega
      clear HU n2 hx
      by_cases hsh : l.length - u < n
      · rw [if_pos hsh] at HR
        have hd : decide ((l.length : Int) - (u : Int) < (n : Int)) = true := by simp; omega
        have hd2 : (l.length : Int) - (u : Int) < (n : Int) := by omega
        have HS := hid (fun w1 (hb : Below W.heap.size W w1) => ((H.out.below hb).setErr 0).setErr 2)
        have HO := hid (fun w1 (hb : Below W.heap.size W w1) => ((Only.of_below hb (B := B)).set 1 (.int .i64 0)).set 1 (.int .i64 2))
        clear hsh n1
        go_enter Try.func105, Try.ntmps105
        go_wp2_with (go_at_call 127; refine (HF.out _).mono ?_; rintro e w1 ⟨rfl, hb1⟩; obtain ⟨d0, d1, g0, g1⟩ := two_cells (H.out.below hb1))
        go_ret
        rw [HR.out]
        exact ⟨rfl, HS.out _ hb1, HO.out _ hb1⟩
      · rw [if_neg hsh] at HR
        have hd : decide ((l.length : Int) - (u : Int) < (n : Int)) = false := by simp; omega
        have hd2 : (n : Int) ≤ (l.length : Int) - (u : Int) := by omega
        have hun : u + n ≤ l.length := by omega
        have hsl : ∀ w : World, (Instr.slice 9 (.string (str l)) (some (.int .i64 (u : Int))) (some (.int .i64 ((u : Int) + (n : Int)))) none).run Try.prog w = .ok (.string (str ((l.drop u).take n))) w := fun w => by
          rw [run_slice_string (P := Try.prog) w 9 (str l) .i64 .i64 (u : Int) ((u : Int) + (n : Int)) Try.underlying9 (by omega) (by omega) (by rw [hz]; omega)]
          rw [show (((u : Int) + (n : Int)).toNat) = u + n by omega, Int.toNat_natCast, str_mid]
        have hex2 := str_drop l (u + n) hun
        have HS := hid (fun w1 (hb : Below W.heap.size W w1) => (H.out.below hb).set (l.drop (u + n)) 0)
        have HO := hid (fun w1 (hb : Below W.heap.size W w1) => ((Only.of_below hb (B := B)).set 1 (.int .i64 0)).set 0 (.string (str (l.drop (u + n)))))
        clear hsh n1
        go_enter Try.func105, Try.ntmps105
        go_wp2_with (go_at_call 127; refine (HF.out _).mono ?_; rintro e w1 ⟨rfl, hb1⟩; obtain ⟨d0, d1, g0, g1⟩ := two_cells (H.out.below hb1))
        go_ret
        rw [HR.out]
        exact ⟨rfl, HS.out _ hb1, HO.out _ hb1⟩
    · rw [if_neg h0] at HR
      have hne : (((x : Nat) : Int) != 0) = true := by simp; omega
      have hne2 : (((x : Nat) : Int) == 0) = false := by simp; omega
      have HS := hid (fun w1 (hb : Below W.heap.size W w1) => (H.out.below hb).setErr (x : Int))
      have HO := hid (fun w1 (hb : Below W.heap.size W w1) => ((Only.of_below hb (B := B)).set 1 (.int .i64 (x : Int))))
      clear HU
      go_enter Try.func105, Try.ntmps105
      go_wp2_with (go_at_call 127; refine (HF.out _).mono ?_; rintro e w1 ⟨rfl, hb1⟩; obtain ⟨d0, d1, g0, g1⟩ := two_cells (H.out.below hb1))
      go_ret
      rw [HR.out]
      exact ⟨rfl, HS.out _ hb1, HO.out _ hb1⟩
  · have hne : (e != 0) = true := by simp [he]
    have HR : Hid (rdText most l e = ([], l, e)) := hid (by rw [rdText, if_neg he])
    clear he
    go_enter Try.func105, Try.ntmps105
    go_wp2
    go_ret
    rw [HR.out]
    exact ⟨rfl, H.out, Only.refl B W⟩

theorem rrFail_any (B : Nat) (l : List UInt8) (e x : Int) (W : World) (h : RRdr W B l e) :
    Calls Try.prog 103 #[.pointer (some ⟨B, 0, none⟩), .int .i64 x] W fun y w' => (∃ v, y = .returned v) ∧ RRdr w' B l (rdFail x e) ∧ Only B W w' := by
  have H := hid h
  obtain ⟨c0, c1, f0, f1⟩ := two_cells h
  clear h
  by_cases he : e = 0
  · subst he
    go_enter Try.func103, Try.ntmps103
    go_wp2
    go_end0
    exact ⟨⟨_, rfl⟩, by rw [rdFail, if_pos rfl]; exact H.out.setErr x, (Only.refl B W).set 1 _⟩
  · have hne : (e == 0) = false := by simp [he]
    have HR : Hid (rdFail x e = e) := hid (by rw [rdFail, if_neg he])
    clear he
    go_enter Try.func103, Try.ntmps103
    go_wp2
    go_end0
    exact ⟨⟨_, rfl⟩, by rw [HR.out]; exact H.out, Only.refl B W⟩
theorem rrEnd_any (B : Nat) (l : List UInt8) (e : Int) (W : World) (h : RRdr W B l e) :
    Calls Try.prog 106 #[.pointer (some ⟨B, 0, none⟩)] W fun x w' => x = .returned (.int .i64 (rdEnd l e)) ∧ W = w' := by
  obtain ⟨c0, c1, f0, f1⟩ := two_cells h
  clear h
  have hz : (str l).size = l.length := str_size l
  by_cases he : e = 0
  · subst he
    by_cases hl : 0 < l.length
    · have hl' : (0 : Int) < l.length := by omega
      have hd : decide (0 < l.length) = true := by simp; omega
      have HR : Hid (rdEnd l 0 = 3) := hid (by rw [rdEnd, if_pos rfl, if_pos hl])
      clear hl
      go_enter Try.func106, Try.ntmps106
      go_wp2
      go_ret
      exact ⟨by rw [HR.out]; rfl, rfl⟩
    · have hl' : l.length = 0 := by omega
      have HR : Hid (rdEnd l 0 = 0) := hid (by rw [rdEnd, if_pos rfl, if_neg hl])
      rw [hl'] at hz
      clear hl hl'
      generalize str l = s at *
      go_enter Try.func106, Try.ntmps106
      go_wp2
      go_ret
      exact ⟨by rw [HR.out]; rfl, rfl⟩
  · have hne : (e == 0) = false := by simp [he]
    have HR : Hid (rdEnd l e = e) := hid (by rw [rdEnd, if_neg he])
    clear he
    go_enter Try.func106, Try.ntmps106
    go_wp2
    go_ret
    exact ⟨by rw [HR.out]; rfl, rfl⟩
end Go.Proofs.Ytkepfkfoblocgaa
