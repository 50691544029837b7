/- Long texts; the document's Join. -/
import Derived.Test.YtnjfcdmnedmldaaLexP
import Derived.Test.YtnjfcdmnedmldaaLexG
namespace Go.Proofs.Ytnjfcdmnedmldaa
open Go.RowKit
set_option linter.unusedVariables false
set_option linter.unusedSimpArgs false

def jt (ts : List (List UInt8)) : List UInt8 := (jn ts).drop 1
theorem jt_snoc (ts : List (List UInt8)) (t : List UInt8) : jt (ts ++ [t]) = if ts.length = 0 then t else jt ts ++ 32 :: t := by
  unfold jt
  rw [jn_snoc]
  match ts with
  | [] => rfl
  | a :: ts => simp [jn]
theorem jt_take (l : List Wd) (k : Nat) (h : k < l.length) : jt ((l.take (k + 1)).map (·.1)) = if k = 0 then l[k].1 else jt ((l.take k).map (·.1)) ++ 32 :: l[k].1 := by
  rw [List.take_succ_eq_append_getElem h, List.map_append, List.map_singleton, jt_snoc, List.length_map, List.length_take, Nat.min_eq_left (by omega)]
theorem jt_len : ∀ (l : List Wd) (k : Nat), k ≤ l.length → (∀ w ∈ l, w.1.length ≤ 800) → (jt ((l.take k).map (·.1))).length ≤ 801 * k
  | l, 0, _, _ => by simp [jt, jn]
  | l, k + 1, h, hs => by
    have ih := jt_len l k (by omega) hs
    have := hs l[k] (List.getElem_mem ..)
    rw [jt_take l k (by omega)]
    split
    · omega
    · rw [List.length_append, List.length_cons]; omega

set_option maxRecDepth 20000 in
set_option maxHeartbeats 4000000 in
theorem words_long (l : List UInt8) (hl : 200 < l.length) (hm : l.length ≤ 100000) (W : World) : Calls Try.prog 27 #[.string (str l)] W fun e w' => e = .returned (.tuple #[.slice none 0 0, .int .i64 0, .int .i64 4]) ∧ Below W.heap.size W w' := by
  have h2 : 200 < ((str l).size : Int) := by rw [str_size]; omega
  clear hl hm
  go_enter Try.func27, Try.ntmps27
  go_wp2
  exact bodyPost_ret (v := .tuple #[.slice none 0 0, .int .i64 0, .int .i64 4]) (by simp [results, Try.results27, go_sem]) rfl ⟨rfl, Below.refl _ _⟩
set_option maxRecDepth 20000 in
set_option maxHeartbeats 4000000 in
theorem rwords_long (l : List UInt8) (hl : 200 < l.length) (W : World) : Calls Try.prog 28 #[.string (str l)] W fun e w' => e = .returned (.tuple #[.slice none 0 0, .int .i64 0, .int .i64 4]) ∧ Below W.heap.size W w' := by
  have h2 : 200 < ((str l).size : Int) := by rw [str_size]; omega
  clear hl
  go_enter Try.func28, Try.ntmps28
  go_wp2
  exact bodyPost_ret (v := .tuple #[.slice none 0 0, .int .i64 0, .int .i64 4]) (by simp [results, Try.results28, go_sem]) rfl ⟨rfl, Below.refl _ _⟩

set_option maxRecDepth 20000 in
set_option maxHeartbeats 4000000 in
theorem rjoin_is (A : Option Addr) (cap : Nat) (l : List Wd) (W : World) (hA : Sl W 2 A l.length cap (wcells l)) (hl : l.length ≤ 30) (hs : ∀ w ∈ l, w.1.length ≤ 800) :
    Calls Try.prog 32 #[.slice A l.length cap] W fun e w' => e = .returned (.string (str (jt (l.map (·.1))))) ∧ w' = W := by
  have HA := hid hA
  have HS := hid hs
  clear hA hs
  go_enter Try.func32, Try.ntmps32
  go_wp2
  go_loopw [3, 4] (fun s i wr => ∃ k : Nat, k ≤ l.length ∧ i = .int .i64 (k : Int) ∧ s = .string (str (jt ((l.take k).map (·.1)))) ∧ wr = W) (fun _ i _ => l.length - (intOf i).toNat)
  case atStart => exact ⟨0, by omega, rfl, rfl, rfl⟩
  case round =>
    obtain ⟨k, hk, rfl, rfl, rfl⟩ := hrel
    by_cases hlt : k < l.length
    · have hlt2 : (k : Int) < (l.length : Int) := by omega
      obtain ⟨b, off, hA⟩ := HA.out.addr3 (by rw [wcells_length]; omega)
      subst hA
      obtain ⟨c1, c2⟩ := HA.out.word k hlt
      have HJ := hid (jt_take l k hlt)
      have HL := hid (jt_len l k hk HS.out)
      have HX := hid (HS.out l[k] (List.getElem_mem ..))
      generalize l[k] = x at *
      obtain ⟨x1, x2⟩ := x
      simp only at c1 c2 HJ HX
      generalize jt (List.map (·.1) (l.take k)) = acc at *
      have z1 : (str acc).size ≤ 100000 := by rw [str_size]; have := HL.out; omega
      have z2 : (str x1).size ≤ 800 := by rw [str_size]; exact HX.out
      by_cases hk0 : k = 0
      · subst hk0
        have z3 : (str acc).size + (str x1).size ≤ 9223372036854775807 := by omega
        have z4 : acc.length = 0 := by have := HL.out; omega
        obtain rfl : acc = [] := List.eq_nil_of_length_eq_zero z4
        clear z4
        simp only [Nat.zero_mul, Nat.add_zero] at c1 c2
        go_wp2
        go_roundw
        case rel => exact ⟨1, by omega, by go_num, by rw [HJ.out, if_pos rfl, str_app, List.nil_append], trivial⟩
        case measure => simp [intOf]; omega
      · have hk1 : (0 : Int) < (k : Int) := by omega
        have z3 : (str acc).size + (str [32]).size ≤ 9223372036854775807 := by rw [str_size, str_size]; rw [str_size] at z1; simp; omega
        have z5 : (str acc ++ str [32]).size + (str x1).size ≤ 9223372036854775807 := by rw [str_app, str_size, List.length_append]; rw [str_size] at z1; simp; omega
        have e32 : (⟨#[32]⟩ : ByteArray) = str [32] := rfl
        go_wp2
        go_roundw
        case rel => exact ⟨k + 1, by omega, by go_num, by rw [HJ.out, if_neg hk0]; simp [str, ByteArray.ext_iff], trivial⟩
        case measure => simp [intOf]; omega
    · obtain rfl : k = l.length := by omega
      have hge : ¬ ((l.length : Nat) : Int) < ((l.length : Nat) : Int) := by omega
      have HT := hid (List.take_length (l := l))
      clear hlt hk
      go_wp2
      go_ret
      exact ⟨rfl, rfl⟩
end Go.Proofs.Ytnjfcdmnedmldaa
