/- glyph.Name answers; what is a table; names.Check, as contracts. -/
import Derived.Test.YtiemkjinibkclaaNamC
import Derived.Laws.RangeAny
import Derived.Laws.Cover1
namespace Go.Proofs.Ytiemkjinibkclaa
open Go.RowKit
set_option linter.unusedVariables false
set_option linter.unusedSimpArgs false

theorem width_ge (s : ByteArray) (pos : Nat) (h : pos < s.size) : 1 ≤ (Utf8.decode s pos).2 := by
  by_cases ha : (s[pos]'h).toNat < 128
  · rw [decode_ascii s pos h ha]; exact Nat.le_refl _
  · exact (decode_high s pos h (by omega)).2

/-- The call comes back, with some answer. -/
def IsBool (e : Ending) : Prop := ∃ b, e = .returned (.bool b)

theorem digit_any (c : Int) (W : World) : Calls Try.prog 56 #[.int .i32 c] W fun e w' => IsBool e ∧ W = w' := by
  by_cases h1 : 48 ≤ c <;> by_cases h2 : c ≤ 57
  all_goals
    go_enter Try.func56, Try.ntmps56
    go_wp2
    go_ret
    exact ⟨⟨_, rfl⟩, rfl⟩

set_option maxHeartbeats 2000000 in
theorem letter_any (c : Int) (W : World) : Calls Try.prog 55 #[.int .i32 c] W fun e w' => IsBool e ∧ W = w' := by
  go_enter Try.func55, Try.ntmps55
  go_wp2_with (go_at_call 56; refine (digit_any _ _).mono ?_; rintro e w' ⟨⟨b, rfl⟩, rfl⟩)
  all_goals go_ret
  all_goals exact ⟨⟨_, rfl⟩, rfl⟩

set_option maxRecDepth 20000 in
set_option maxHeartbeats 2000000 in
theorem name_any (s : ByteArray) (w : World) : Calls Try.prog 47 #[.string s] w fun e w' => IsBool e ∧ Below w.heap.size w w' := by
  go_enter Try.func47, Try.ntmps47
  go_wp2
  go_loopw [3] (fun n w' => ∃ (pos c : Nat), w' = w.iter s pos ∧ n = .int .i64 (c : Int) ∧ c ≤ 16) (fun _ w' => s.size - w'.iterPos w.heap.size)
  case atStart => exact ⟨0, 0, rfl, rfl, by omega⟩
  case round =>
    obtain ⟨pos, c, rfl, rfl, hc⟩ := hrel
    by_cases hp : pos < s.size
    · have hnx : ∀ ty, (Instr.next (.pointer (some ⟨w.heap.size, 0, none⟩)) true ty).run Try.prog (w.iter s pos) = _ := fun ty => run_next_any w s pos ty hp
      have hwd := width_ge s pos hp
      go_wp2_with (first
        | (go_at_call 55; refine (letter_any _ _).mono ?_; rintro e w' ⟨⟨b, rfl⟩, rfl⟩)
        | (go_at_call 56; refine (digit_any _ _).mono ?_; rintro e w' ⟨⟨b, rfl⟩, rfl⟩))
      all_goals first | (go_ret; exact ⟨⟨_, rfl⟩, (Below.refl _ _).alloc (Nat.le_refl _) _⟩) | skip
      · refine ⟨⟨_, 1, rfl, rfl, by omega⟩, ?_⟩
        rw [World.iterPos_iter, World.iterPos_iter]
        omega
      · rename_i _ _ h16
        simp at h16
        refine ⟨⟨_, c + 1, rfl, by go_num, by omega⟩, ?_⟩
        rw [World.iterPos_iter, World.iterPos_iter]
        omega
    · have hnx : ∀ ty, (Instr.next (.pointer (some ⟨w.heap.size, 0, none⟩)) true ty).run Try.prog (w.iter s pos) = _ := fun ty => run_next_end w s pos ty hp
      go_wp2
      all_goals go_ret
      all_goals exact ⟨⟨_, rfl⟩, (Below.refl _ _).alloc (Nat.le_refl _) _⟩

theorem less_irrefl : ∀ x : List UInt8, Op.bytesLess x x = false
  | [] => rfl
  | a :: x => by simp [Op.bytesLess, less_irrefl x]
theorem less_trans : ∀ x y z : List UInt8, Op.bytesLess x y = true → Op.bytesLess y z = true → Op.bytesLess x z = true
  | _, [], _, h, _ => by cases ‹List UInt8› <;> simp [Op.bytesLess] at h
  | _, _ :: _, [], _, h => by simp [Op.bytesLess] at h
  | [], _ :: _, _ :: _, _, _ => by simp [Op.bytesLess]
  | a :: x, b :: y, c :: z, h1, h2 => by
    simp only [Op.bytesLess, Bool.or_eq_true, Bool.and_eq_true, decide_eq_true_eq, beq_iff_eq] at *
    rcases h1 with h1 | ⟨rfl, h1⟩
    · rcases h2 with h2 | ⟨rfl, h2⟩
      · exact .inl (UInt8.lt_trans h1 h2)
      · exact .inl h1
    · rcases h2 with h2 | ⟨rfl, h2⟩
      · exact .inl h2
      · exact .inr ⟨rfl, less_trans x y z h1 h2⟩

/-- Each text is above the one ahead of it, up to the k-th. -/
def Asc (l : List (List UInt8)) (k : Nat) : Prop := ∀ j, j + 1 < k → ∀ (hj : j + 1 < l.length), Op.bytesLess l[j] l[j + 1] = true
theorem Asc.lt {l : List (List UInt8)} (h : Asc l l.length) (i : Nat) (hi : i < l.length) : ∀ d, (hd : i + d + 1 < l.length) → Op.bytesLess l[i] l[i + d + 1] = true
  | 0, hd => h i hd hd
  | d + 1, hd => less_trans _ _ _ (h.lt i hi d (by omega)) (h (i + d + 1) hd hd)
theorem Asc.once {l : List (List UInt8)} (h : Asc l l.length) : Once l := fun i hi => placeJ_yes hi (fun j hj hji he => by
  obtain ⟨d, rfl⟩ : ∃ d, i = j + d + 1 := ⟨i - j - 1, by omega⟩
  have := h.lt j hj d hi
  rw [he, less_irrefl] at this
  cases this) rfl

set_option maxRecDepth 20000 in
set_option maxHeartbeats 2000000 in
theorem check_any (A : Option Addr) (len cap : Nat) (l : List (List UInt8)) (W : World) (h : Sl W 1 A len cap (scells l)) :
    Calls Try.prog 16 #[.slice A len cap] W fun e w' => ∃ c : Int, e = .returned (.int .i64 c) ∧ Hid (c = 0 → Asc l l.length ∧ l.length ≤ 16) ∧ Below W.heap.size W w' := by
  obtain rfl : len = l.length := by have := h.1; rw [scells_length] at this; omega
  have HA := hid h
  clear h
  by_cases h16 : 16 < l.length
  · have h2 : (16 : Int) < l.length := by omega
    go_enter Try.func16, Try.ntmps16
    go_wp2
    go_ret
    exact ⟨1, rfl, fun h => by omega, Below.refl _ _⟩
  · have h2 : ¬ (16 : Int) < l.length := by omega
    go_enter Try.func16, Try.ntmps16
    go_wp2
    go_loopw [10] (fun i wr => ∃ k : Nat, k ≤ l.length ∧ i = .int .i64 (k : Int) ∧ Hid (Asc l k) ∧ Hid (Below W.heap.size W wr)) (fun i _ => l.length - (intOf i).toNat)
    case atStart => exact ⟨0, by omega, rfl, fun j hj => by omega, Below.refl _ _⟩
    case round =>
      obtain ⟨k, hk, rfl, HT, HR⟩ := hrel
      by_cases hlt : k < l.length
      · have hlt2 : (k : Int) < (l.length : Int) := by omega
        obtain ⟨b, off, hA, c1⟩ := scells_at HA.out k hlt
        subst hA
        have c1 := cellb HR.out c1
        have HS : Hid (∀ j, k = j + 1 → ∃ hj : j < l.length, W.cell? ⟨b, off + j, none⟩ = some (.string (str l[j])) ∧ (Op.bytesLess (str l[j]).toList (str l[k]).toList = true → Asc l (k + 1))) := hid (fun j hj => by
          subst hj
          obtain ⟨b9, off9, h9, c9⟩ := scells_at HA.out j (by omega)
          cases h9
          refine ⟨by omega, c9, fun hle i hi hi2 => ?_⟩
          rw [ByteArray.toList_eq, ByteArray.toList_eq] at hle
          by_cases hij : i = j
          · subst hij; simpa [str] using hle
          · exact HT.out i (by omega) hi2)
        generalize str l[k] = sx at c1 HS
        go_wp2_with fail
        refine (name_any _ _).mono ?_
        rintro e w2 ⟨⟨bb, rfl⟩, hb2⟩
        have HR2 := hid (HR.out.trans (hb2.mono HR.out.size))
        have c1 := cellb hb2 c1
        cases bb with
        | false =>
          clear hb2
          go_wp2
          go_ret
          exact ⟨5, rfl, fun h => by omega, HR2.out⟩
        | true =>
          by_cases hk0 : k = 0
          · subst hk0
            clear hb2 HS
            go_wp2
            go_roundw
            case rel => exact ⟨1, by omega, by go_num, fun j hj => by omega, HR2.out⟩
            case measure => simp [intOf]; omega
          · obtain ⟨j, rfl⟩ : ∃ j, k = j + 1 := ⟨k - 1, by omega⟩
            obtain ⟨hj, c2, HS2⟩ := HS.out j rfl
            have c2 := cellb HR2.out c2
            have HS3 := hid HS2
            have hsub : ((j + 1 : Nat) : Int) - 1 = (j : Int) := by omega
            have hpos : (0 : Int) < ((j + 1 : Nat) : Int) := by omega
            generalize str l[j] = sy at c2 HS3
            clear HS2 hb2 HS
            obtain ⟨ki, hki⟩ : ∃ ki : Int, ki = ((j + 1 : Nat) : Int) := ⟨_, rfl⟩
            have HKI := hid hki
            rw [← hki] at hsub hpos hlt2 ⊢
            clear hki
            cases hless : Op.bytesLess sy.toList sx.toList with
            | false =>
              go_wp2
              go_ret
              exact ⟨1, rfl, fun h => by omega, HR2.out⟩
            | true =>
              have HT3 := hid (HS3.out hless)
              go_wp2
              go_roundw
              case rel => exact ⟨j + 1 + 1, by omega, by rw [HKI.out]; go_num, HT3.out, HR2.out⟩
              case measure => have := HKI.out; simp [intOf]; omega
      · have hge : ¬ (k : Int) < (l.length : Int) := by omega
        have HT2 : Hid (Asc l l.length) := hid (by have := HT.out; rwa [show k = l.length by omega] at this)
        go_wp2
        go_ret
        exact ⟨0, rfl, fun _ => ⟨HT2.out, by omega⟩, HR.out⟩
end Go.Proofs.Ytiemkjinibkclaa
