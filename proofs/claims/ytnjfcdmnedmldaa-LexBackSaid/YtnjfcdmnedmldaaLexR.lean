/- lex.Join: contract. -/
import Derived.Test.YtnjfcdmnedmldaaBldA
import Derived.Test.YtnjfcdmnedmldaaLexQ
namespace Go.Proofs.Ytnjfcdmnedmldaa
open Go.RowKit Go.Shelf
set_option linter.unusedVariables false
set_option linter.unusedSimpArgs false

theorem bc_str (l : List UInt8) : Lib.strCells (str l) = Lib.byteCells l := rfl
theorem bc_app (l m : List UInt8) : Lib.byteCells l ++ Lib.byteCells m = Lib.byteCells (l ++ m) := by simp [Lib.byteCells]
theorem bc_len (l : List UInt8) : (Lib.byteCells l).length = l.length := by simp [Lib.byteCells]

theorem new_cell (w : World) (us : Array Value) (e j : Nat) (v : Value) (h : us[j]? = some v) : (w.alloc (.cells us e)).cell? ⟨w.heap.size, j, none⟩ = some v := by
  rw [cell_of_row _ w.heap.size j us e (0, 0) (heap_alloc_new w _)]; exact h
theorem IsB.keep {B b : Nat} {bs : List Value} {w w' : World} (h : IsB B b bs w) (hb : Below w.heap.size w w') : IsB B b bs w' := by
  rcases h with ⟨hB, v, h1, h2, h3⟩ | ⟨hB, v, h1, h2, h3⟩
  · exact .inl ⟨hB, v, keep0 h1 hb, own_keep h2 hb, h3⟩
  · exact .inr ⟨hB, v, keep0 h1 hb, own_keep h2 hb, h3⟩

set_option maxRecDepth 20000 in
set_option maxHeartbeats 4000000 in
theorem join_is (A : Option Addr) (cap : Nat) (l : List Wd) (W : World) (hA : Sl W 2 A l.length cap (wcells l)) (hl : l.length ≤ 30) (hs : ∀ w ∈ l, w.1.length ≤ 800) :
    Calls Try.prog 31 #[.slice A l.length cap] W fun e w' => e = .returned (.string (str (jt (l.map (·.1))))) ∧ Below W.heap.size W w' := by
  have HA := hid hA
  have HS := hid hs
  clear hA hs
  go_enter Try.func31, Try.ntmps31
  go_wp2_with fail
  go_loopw [8] (fun i wr => ∃ k : Nat, k ≤ l.length ∧ i = .int .i64 (k : Int) ∧ Hid (IsB W.heap.size W.heap.size (Lib.byteCells (jt ((l.take k).map (·.1)))) wr) ∧ Hid (Below W.heap.size W wr)) (fun i _ => l.length - (intOf i).toNat)
  case atStart => exact ⟨0, by omega, rfl, Lib.fresh_isBuilder _ _ _, (Below.refl _ _).alloc (Nat.le_refl _) _⟩
  case round =>
    obtain ⟨k, hk, rfl, HI, HB⟩ := hrel
    by_cases hlt : k < l.length
    · have hlt2 : (k : Int) < (l.length : Int) := by omega
      obtain ⟨b, off, hA⟩ := HA.out.addr3 (by rw [wcells_length]; omega)
      subst hA
      obtain ⟨c1, c2⟩ := (HA.out.below HB.out).word k hlt
      have HJ := hid (jt_take l k hlt)
      have HL := hid (jt_len l k hk HS.out)
      have HX := hid (HS.out l[k] (List.getElem_mem ..))
      have HZ := hid HB.out.size
      generalize l[k] = x at *
      obtain ⟨x1, x2⟩ := x
      simp only at c1 c2 HJ HX
      generalize jt (List.map (·.1) (l.take k)) = acc at *
      by_cases hk0 : k = 0
      · subst hk0
        simp only [Nat.zero_mul, Nat.add_zero] at c1 c2
        go_upto_region 7 with (fail)
        have KK : (wr.alloc (Obj.cells #[Value.string (str x1), Value.int IntKind.i64 (x2 : Nat)] 54)).cell? ⟨wr.heap.size, 0, none⟩ = some (.string (str x1)) ∧ IsB W.heap.size W.heap.size (Lib.byteCells acc) (wr.alloc (Obj.cells #[Value.string (str x1), Value.int IntKind.i64 (x2 : Nat)] 54)) ∧ Below W.heap.size W (wr.alloc (Obj.cells #[Value.string (str x1), Value.int IntKind.i64 (x2 : Nat)] 54)) :=
          ⟨new_cell _ _ _ _ _ rfl, HI.out.keep ((Below.refl _ _).alloc (Nat.le_refl _) _), HB.out.alloc HZ.out _⟩
        refine at_world (fun w => w.cell? ⟨wr.heap.size, 0, none⟩ = some (.string (str x1)) ∧ IsB W.heap.size W.heap.size (Lib.byteCells acc) w ∧ Below W.heap.size W w) KK ?_
        clear KK
        rintro w2 ⟨c0, HI2, HB2⟩
        have HI2 := hid HI2
        have HB2 := hid HB2
        have z4 : acc.length = 0 := by have := HL.out; omega
        obtain rfl : acc = [] := List.eq_nil_of_length_eq_zero z4
        go_wp2_with (go_at_call 44; refine (bld_str _ _ _ _ _ HI2.out (by rw [bc_len, str_size]; have := HX.out; simp; omega) HB2.out.size).mono ?_; rintro e w3 ⟨rfl, h3, hb3, _⟩)
        have HI3 : Hid (IsB W.heap.size W.heap.size (Lib.byteCells x1) w3) := hid (by rw [bc_str, bc_app, List.nil_append] at h3; exact .inr h3)
        have HB3 := hid (HB2.out.trans hb3)
        clear h3 hb3
        go_wp2
        go_roundw
        case rel => exact ⟨1, by omega, by go_num, by rw [Hid, HJ.out]; simpa using HI3.out, HB3.out⟩
        case measure => simp [intOf]; omega
      · have hk1 : (0 : Int) < (k : Int) := by omega
        go_upto_region 6 with (fail)
        have HN := hid (show W.heap.size ≠ wr.heap.size from by have := HI.out; rcases this with h | h <;> (have := h.lt; omega))
        have KK : (wr.alloc (Obj.cells #[Value.string (str x1), Value.int IntKind.i64 (x2 : Nat)] 54)).heap[wr.heap.size]? = some (Obj.cells #[Value.string (str x1), Value.int IntKind.i64 (x2 : Nat)] 54 (0, 0)) ∧ IsB W.heap.size W.heap.size (Lib.byteCells acc) (wr.alloc (Obj.cells #[Value.string (str x1), Value.int IntKind.i64 (x2 : Nat)] 54)) ∧ Below W.heap.size W (wr.alloc (Obj.cells #[Value.string (str x1), Value.int IntKind.i64 (x2 : Nat)] 54)) :=
          ⟨heap_alloc_new wr _, HI.out.keep ((Below.refl _ _).alloc (Nat.le_refl _) _), HB.out.alloc HZ.out _⟩
        refine at_world (fun w => w.heap[wr.heap.size]? = some (Obj.cells #[Value.string (str x1), Value.int IntKind.i64 (x2 : Nat)] 54 (0, 0)) ∧ IsB W.heap.size W.heap.size (Lib.byteCells acc) w ∧ Below W.heap.size W w) KK ?_
        clear KK
        rintro w2 ⟨c0, HI2, HB2⟩
        have C0 := hid c0
        have HI2 := hid HI2
        have HB2 := hid HB2
        clear c0 c1 c2 HB HI HZ
        have hN := HN.out
        clear HN
        generalize wr.heap.size = N at *
        go_wp2_with fail
        with_reducible refine (bld_byte _ _ _ _ _ HI2.out (by rw [bc_len]; have := HL.out; omega) HB2.out.size).mono ?_
        rintro e w3 ⟨rfl, h3, hb3, ho3⟩
        have HI3 : Hid (IsB W.heap.size W.heap.size (Lib.byteCells (acc ++ [32])) w3) := hid (by rw [← bc_app]; exact .inr h3)
        have HB3 := hid (HB2.out.trans hb3)
        have c0 := (two_cells (ho3 N _ _ _ hN.symm (by decide) C0.out)).1
        clear h3 hb3 ho3 C0
        go_wp2_with fail
        with_reducible refine (bld_str _ _ _ _ _ HI3.out (by rw [bc_len, str_size]; have := HX.out; have := HL.out; simp; omega) HB3.out.size).mono ?_
        rintro e w4 ⟨rfl, h4, hb4, _⟩
        have HI4 : Hid (IsB W.heap.size W.heap.size (Lib.byteCells (acc ++ 32 :: x1)) w4) := hid (by rw [bc_str, bc_app, List.append_assoc] at h4; exact .inr h4)
        have HB4 := hid (HB3.out.trans hb4)
        clear h4 hb4
        go_wp2
        go_roundw
        case rel => exact ⟨k + 1, by omega, by go_num, by rw [Hid, HJ.out, if_neg hk0]; exact HI4.out, HB4.out⟩
        case measure => simp [intOf]; omega
    · obtain rfl : k = l.length := by omega
      have hge : ¬ ((l.length : Nat) : Int) < ((l.length : Nat) : Int) := by omega
      have HT := hid (List.take_length (l := l))
      rw [Hid, HT.out] at HI
      clear hlt hk
      go_wp2_with (go_at_call 45; refine (Try.Builder_String_any _ _ _ _ HI HB.out.size).mono ?_; rintro e w1 ⟨rfl, hb1⟩)
      go_ret
      exact ⟨rfl, HB.out.trans hb1⟩
end Go.Proofs.Ytnjfcdmnedmldaa
