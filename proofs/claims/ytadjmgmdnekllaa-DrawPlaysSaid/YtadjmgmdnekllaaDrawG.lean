/- Tapes whose draws lie in one block: Next, Below, Add. -/
import Derived.Test.YtadjmgmdnekllaaDrawT
import Derived.Test.YtadjmgmdnekllaaMid
namespace Go.Proofs.Ytadjmgmdnekllaa
open Go.RowKit
set_option linter.unusedVariables false
set_option linter.unusedSimpArgs false

/-- Block T is a tape with these draws, which lie in block G, up to E. -/
def InG (A : Option Addr) (c : Nat) (G : Option Nat) (E : Nat) : Prop := (A = none ∧ c = 0 ∧ G = none) ∨ ∃ g off, G = some g ∧ A = some ⟨g, off, none⟩ ∧ off + c ≤ E
def TapeG (w : World) (T : Nat) (G : Option Nat) (E : Nat) (l : List Nat) : Prop := ∃ A c, w.heap[T]? = some (.cells #[.slice A l.length c] 162 (0, 0)) ∧ Sl w 1 A l.length c (ucells l) ∧ InG A c G E

set_option maxRecDepth 20000 in
theorem tnextG (T : Nat) (G : Option Nat) (E : Nat) (l : List Nat) (W : World) (h : TapeG W T G E l) (hl : l.length ≤ 9223372036854775807) :
    Calls Try.prog 36 #[.pointer (some ⟨T, 0, none⟩)] W fun e w' => e = .returned (.int .u64 (l.headD 0 : Nat)) ∧ TapeG w' T G E l.tail ∧ Only T W w' := by
  have H := hid h
  obtain ⟨A, c, hT, hs, hN⟩ := h
  have hc := cell_of_row W T 0 _ _ _ hT
  have hf := frozen_of_row W T 0 _ _ hT
  simp at hc
  rcases l with _ | ⟨x, r⟩
  · clear hs hT
    go_enter Try.func36, Try.ntmps36
    go_wp2
    go_ret
    exact ⟨rfl, H.out, Only.refl _ _⟩
  · have hcap : (x :: r).length ≤ c := hs.2.1
    obtain ⟨b, off, rfl, hc0⟩ := Sl.at hs 0 (by simp [ucells])
    obtain ⟨g, off', rfl, hA', hE'⟩ : ∃ g off', G = some g ∧ (some ⟨b, off, none⟩ : Option Addr) = some ⟨g, off', none⟩ ∧ off' + c ≤ E := by
      rcases hN with ⟨h9, _⟩ | h9
      · cases h9
      · exact h9
    cases hA'
    clear hN
    have HBN := hid hE'
    clear hE'
    simp [ucells] at hc0
    have HD := hid (hs.drop 1 (by simp))
    have hrun : ∀ w : World, (Instr.slice 38 (.slice (some ⟨b, off, none⟩) (x :: r).length c) (some (.int .i64 1)) none none).run Try.prog w = .ok (.slice (dropA (some ⟨b, off, none⟩) c 1 1) ((x :: r).length - 1) (c - 1)) w := fun w => by
      have := run_from Try.underlying38 info_u64 (some ⟨b, off, none⟩) (x :: r).length c 1 (by simp) w
      simpa using this
    have HT := hid hT
    have hlen : (x :: r).length = r.length + 1 := rfl
    rw [hlen] at hrun hc HT HD hl
    have hp : (0 : Int) < ((r.length + 1 : Nat) : Int) := by omega
    have hne : (((r.length + 1 : Nat) : Int) == 0) = false := by simp; omega
    generalize hnn : r.length + 1 = n at *
    have HN := hid hnn
    have HC := hid hcap
    clear hnn
    clear hs hT hcap H hlen
    go_enter Try.func36, Try.ntmps36
    go_wp2
    go_ret
    have hn := HN.out
    have e1 : n - 1 = r.length := by omega
    have h2 := HD.out
    have h3 := heap_setCell_same W T 0 _ _ (.slice (dropA (some ⟨b, off, none⟩) c 1 1) (n - 1) (c - 1)) HT.out
    rw [e1] at h2 h3 ⊢
    refine ⟨rfl, ⟨_, _, by simpa using h3, ?_, ?_⟩, (Only.refl _ _).set 0 _⟩
    · exact sl_apart (by simpa [ucells] using h2) HT.out (fun n => by simp) _
    · have hcc := HC.out
      have hbb := HBN.out
      simp only [List.length_cons] at hcc
      rw [dropA]
      split
      · exact .inr ⟨b, off, rfl, by simp, by omega⟩
      · exact .inr ⟨b, off + 1, rfl, by simp [add_none], by omega⟩

set_option maxRecDepth 20000 in
theorem tbelowG (T : Nat) (G : Option Nat) (E : Nat) (l : List Nat) (n : Int) (W : World) (h : TapeG W T G E l) (hl : l.length ≤ 9223372036854775807) (hu : ∀ x ∈ l, x < 18446744073709551616) (hn : n ≤ 9223372036854775807) :
    Calls Try.prog 38 #[.pointer (some ⟨T, 0, none⟩), .int .i64 n] W fun e w' => e = .returned (.int .i64 (blw n l : Nat)) ∧ TapeG w' T G E (if n < 1 then l else l.tail) ∧ Only T W w' := by
  have H := hid h
  have HX := hid (tnextG T G E l W h hl)
  clear h
  by_cases h1 : n < 1
  · have hb : blw n l = 0 := by rw [blw, if_pos h1]
    rw [hb, if_pos h1]
    clear hb HX hu
    go_enter Try.func38, Try.ntmps38
    go_wp2
    go_ret
    exact ⟨rfl, H.out, Only.refl _ _⟩
  · obtain ⟨m, rfl⟩ : ∃ m : Nat, n = (m : Int) := ⟨n.toNat, by omega⟩
    have hb : blw (m : Int) l = l.headD 0 % m := by rw [blw, if_neg h1, Int.toNat_natCast]
    have hx : l.headD 0 < 18446744073709551616 := by
      cases l with
      | nil => simp
      | cons x r => exact hu x (by simp)
    have hm : (1 : Int) ≤ (m : Int) := by omega
    have hmod := Nat.mod_lt (l.headD 0) (show 0 < m by omega)
    have hz : ((m : Int) == 0) = false := by rw [beq_eq_false_iff_ne]; omega
    rw [hb, if_neg h1]
    generalize l.headD 0 = x at *
    clear hu hb h1
    have hq : ((x : Int) % (m : Int)) = ((x % m : Nat) : Int) := rfl
    have hq2 : ((x : Int).tmod (m : Int)) = ((x % m : Nat) : Int) := rfl
    generalize x % m = y at *
    go_enter Try.func38, Try.ntmps38
    go_wp2_with fail
    refine HX.out.mono ?_
    rintro e w1 ⟨rfl, hT, hO⟩
    have HT := hid hT
    have HO := hid hO
    clear hT hO HX
    go_wp2
    go_ret
    exact ⟨rfl, HT.out, HO.out⟩
end Go.Proofs.Ytadjmgmdnekllaa
