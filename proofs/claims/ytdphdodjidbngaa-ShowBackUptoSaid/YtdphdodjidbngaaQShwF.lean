/- show.Lines: a contract. -/
import Derived.Test.YtdphdodjidbngaaQShwE
import Derived.Test.YtdphdodjidbngaaQBldA
namespace Go.Proofs.Ytdphdodjidbngaa
open Go.RowKit Go.Shelf
set_option linter.unusedVariables false
set_option linter.unusedSimpArgs false

theorem bcl (l : List UInt8) : (Lib.byteCells l).length = l.length := by simp [Lib.byteCells]
theorem bcs (bs : List UInt8) (s : List UInt8) : Lib.byteCells bs ++ Lib.strCells (str s) = Lib.byteCells (bs ++ s) := by
  simp [Lib.byteCells, Lib.strCells, str]
theorem bca (bs : List UInt8) : Lib.byteCells bs ++ [.int .u8 10] = Lib.byteCells (bs ++ [10]) := by
  simp [Lib.byteCells]
theorem isB_keepS {B b : Nat} {bs : List Value} {w w' : World} (h : IsB B b bs w) (hb : Below w.heap.size w w') : IsB B b bs w' := by
  rcases h with ⟨hB, v, h1, h2, h3⟩ | ⟨hB, v, h1, h2, h3⟩
  · exact .inl ⟨hB, v, keep0 h1 hb, own_keep h2 hb, h3⟩
  · exact .inr ⟨hB, v, keep0 h1 hb, own_keep h2 hb, h3⟩

/-- The texts of lists, each with a line feed. -/
def lns (T : List (List UInt8)) (ls : List (List (Int × Int))) : List UInt8 := ls.flatMap fun l => textV T l ++ [10]
theorem lns_snoc (T : List (List UInt8)) (ls : List (List (Int × Int))) (l : List (Int × Int)) : lns T (ls ++ [l]) = (lns T ls ++ textV T l) ++ [10] := by simp [lns]
theorem lns_len {T : List (List UInt8)} (h100 : ∀ s ∈ T, s.length ≤ 100) : ∀ ls : List (List (Int × Int)), (∀ l ∈ ls, l.length ≤ 1000) → (lns T ls).length ≤ 107001 * ls.length
  | [], _ => by simp [lns]
  | l :: ls, h => by
    have h1 := lns_len h100 ls (fun x hx => h x (List.mem_cons_of_mem _ hx))
    have h2 := textV_len h100 l (h l List.mem_cons_self)
    have h3 : lns T (l :: ls) = (textV T l ++ [10]) ++ lns T ls := by simp [lns]
    rw [h3, List.length_append, List.length_append, List.length_singleton, List.length_cons]
    omega
set_option maxRecDepth 20000 in
set_option maxHeartbeats 4000000 in
theorem nlines_any (TA : Option Addr) (tc : Nat) (T : List (List UInt8)) (h100 : ∀ s ∈ T, s.length ≤ 100) (hTl : T.length ≤ 1000) (L : Option Addr) (lc : Nat) (ys : List Pl) (W : World) (hT : Sl W 1 TA T.length tc (scells T)) (h : LsAt W L lc ys) (hl : ys.length ≤ 5) (hy : ∀ y ∈ ys, y.l.length ≤ 1000) :
    Calls Try.prog 11 #[.slice TA T.length tc, .slice L ys.length lc] W fun e w' => e = .returned (.string (str (lns T (pls ys)))) ∧ Below W.heap.size W w' := by
  have HG := hid (fun u (hu : Below W.heap.size W u) k (hk : k < ys.length) => (h.below hu).get k hk)
  have HX := hid (fun u (hu : Below W.heap.size W u) (y : Pl) (hA : Sl u 2 y.A y.l.length y.c (pcells y.l)) (hyl : y.l.length ≤ 1000) => ntext_any TA tc T h100 hTl y.A y.c y.l u (hT.below hu) hA hyl)
  have HY := hid hy
  have HLL := hid (fun k => lns_len h100 (pls (ys.take k)) (fun l hl9 => by
    simp only [pls, List.mem_map] at hl9
    obtain ⟨y, hy9, rfl⟩ := hl9
    exact hy y (List.mem_of_mem_take hy9)))
  have HTL := hid (fun l hl9 => textV_len h100 l hl9)
  clear h hT hy h100
  go_enter Try.func11, Try.ntmps11
  go_wp2_with fail
  go_loopw [7, 10] (fun _ i wr => ∃ k : Nat, k ≤ ys.length ∧ i = .int .i64 (k : Int) ∧ Hid (IsB W.heap.size W.heap.size (Lib.byteCells (lns T (pls (ys.take k)))) wr) ∧ Hid (Below W.heap.size W wr)) (fun _ i _ => ys.length - (intOf i).toNat)
  case atStart => exact ⟨0, by omega, rfl, Lib.fresh_isBuilder _ _ _, (Below.refl _ _).alloc (Nat.le_refl _) _⟩
  case round =>
    obtain ⟨k, hk, rfl, HI, HB⟩ := hrel
    by_cases hlt : k < ys.length
    · have hlt2 : (k : Int) < (ys.length : Int) := by omega
      have hk0 : ¬ (k : Int) < 0 := by omega
      obtain ⟨bL, oL, hLe, c0, hsl⟩ := HG.out wr HB.out k hlt
      subst hLe
      have HJ : Hid (lns T (pls (ys.take (k + 1))) = (lns T (pls (ys.take k)) ++ textV T ys[k].l) ++ [10]) := hid (by rw [List.take_succ_eq_append_getElem hlt, pls, List.map_append, List.map_singleton, lns_snoc]; rfl)
      have HA := hid (HX.out wr HB.out ys[k] hsl (HY.out _ (List.getElem_mem hlt)))
      have hll := HLL.out k
      have hlk : (pls (ys.take k)).length ≤ 5 := by simp [pls]; omega
      have htl := HTL.out ys[k].l (HY.out _ (List.getElem_mem hlt))
      have hacc : (lns T (pls (ys.take k))).length ≤ 600000 := by omega
      clear hsl hll hlk
      generalize ys[k] = y at *
      obtain ⟨yl, yA, yc⟩ := y
      simp only at c0 HJ HA htl
      generalize lns T (pls (ys.take k)) = acc at *
      generalize textV T yl = tx at *
      go_wp2_with fail
      refine HA.out.mono ?_
      rintro e w2 ⟨rfl, hb⟩
      have HI2 : Hid (IsB W.heap.size W.heap.size (Lib.byteCells acc) w2) := hid (isB_keepS HI.out hb)
      have HB2 := hid (HB.out.trans (hb.mono HB.out.size))
      clear hb HA HI HB c0
      go_wp2_with fail
      with_reducible refine (bld_str _ _ _ _ _ HI2.out (by rw [bcl, str_size]; omega) HB2.out.size).mono ?_
      rintro e w3 ⟨rfl, h3, hb3, ho3⟩
      have HI3 : Hid (IsB W.heap.size W.heap.size (Lib.byteCells (acc ++ tx)) w3) := hid (by rw [bcs] at h3; exact .inr h3)
      have HB3 := hid (HB2.out.trans hb3)
      clear h3 hb3 ho3 HI2 HB2
      go_wp2_with fail
      with_reducible refine (bld_byte _ _ _ _ _ HI3.out (by rw [bcl, List.length_append]; omega) HB3.out.size).mono ?_
      rintro e w4 ⟨rfl, h4, hb4, ho4⟩
      have HI4 : Hid (IsB W.heap.size W.heap.size (Lib.byteCells ((acc ++ tx) ++ [10])) w4) := hid (by rw [bca] at h4; exact .inr h4)
      have HB4 := hid (HB3.out.trans hb4)
      clear h4 hb4 ho4 HI3 HB3
      go_wp2
      go_roundw
      case rel => exact ⟨k + 1, by omega, by go_num, by rw [Hid, HJ.out]; exact HI4.out, HB4.out⟩
      case measure => simp [intOf]; omega
    · obtain rfl : k = ys.length := by omega
      have hge : ¬ ((ys.length : Nat) : Int) < ((ys.length : Nat) : Int) := by omega
      have HT := hid (List.take_length (l := ys))
      rw [Hid, HT.out] at HI
      clear hlt hk
      go_wp2_with (go_at_call 45; refine (Try.Builder_String_any _ _ _ _ HI HB.out.size).mono ?_; rintro e w1 ⟨rfl, hb1⟩)
      go_ret
      exact ⟨rfl, HB.out.trans hb1⟩
end Go.Proofs.Ytdphdodjidbngaa
