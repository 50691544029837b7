/- A slice of texts that came in; the reference's Long. -/
import Derived.Test.YtdphdodjidbngaaStrA
import Derived.Test.YtdphdodjidbngaaRd
namespace Go.Proofs.Ytdphdodjidbngaa
open Go.RowKit
set_option linter.unusedVariables false

/-- What the shell of a law says of a slice of strings that came in. -/
def IsTexts (w : World) (a : Option Addr) (len cap : Nat) (zs : List ByteArray) : Prop :=
  (a = none ∧ len = 0 ∧ cap = 0 ∧ zs = []) ∨
  ∃ x, a = some x ∧ len ≤ cap ∧ cap ≤ maxLen ∧ zs.length = cap ∧ (∀ i, i < zs.length → w.cell? (x.add i) = some (.string (zs.getD i ByteArray.empty))) ∧ ∀ n ∈ zs, n.size ≤ maxLen
theorem str_back (s : ByteArray) : str s.data.toList = s := by
  apply ByteArray.ext
  simp [str]
theorem Sl.of_texts {w : World} {a : Option Addr} {len cap : Nat} {zs : List ByteArray} (h : IsTexts w a len cap zs) : ∃ l : List (List UInt8), Sl w 1 a len cap (scells l) ∧ l.length = len ∧ ∀ s ∈ l, s.length ≤ maxLen := by
  rcases h with ⟨rfl, rfl, rfl, rfl⟩ | ⟨x, rfl, hl, hm, hz, hc, hw⟩
  · exact ⟨[], Sl.nil _ _ _ _ (Nat.zero_le _), rfl, by simp⟩
  · refine ⟨(zs.take len).map fun s => s.data.toList, ⟨by simp [scells]; omega, hl, hm, fun h0 => ?_⟩, by simp; omega, ?_⟩
    · have h1 : scells ((zs.take len).map fun s => s.data.toList) = (zs.take len).map Value.string := by
        simp only [scells, List.map_map]
        apply List.map_congr_left
        intro s _
        simp only [Function.comp, str_back]
      rw [h1] at h0 ⊢
      simp only [List.length_map, List.length_take] at h0
      obtain ⟨b, off, spot⟩ := x
      have hs : spot = none := by simpa [Addr.add] using World.cell?_spot (hc 0 (by omega))
      subst hs
      refine ⟨b, off, rfl, fun i hi => ?_⟩
      simp only [List.length_map, List.length_take] at hi
      have hci := hc i (by omega)
      rw [add_none] at hci
      rw [hci]
      simp [show i < len by omega, List.getD_eq_getElem?_getD, List.getElem?_eq_getElem (show i < zs.length by omega)]
    · intro s hs
      simp only [List.mem_map] at hs
      obtain ⟨y, hy, rfl⟩ := hs
      have := hw y (List.mem_of_mem_take hy)
      rw [Array.length_toList]
      exact this

theorem ret_bool' {a b : Bool} (h : a = b) : Ending.returned (.bool a) = .returned (.bool b) := by rw [h]
/-- Has a list more texts than most, or one more bytes than each? -/
def longB (l : List (List UInt8)) (most each : Int) : Bool := l.any (fun s => decide (each < (s.length : Int))) || decide (most < (l.length : Int))
theorem longB_no {l : List (List UInt8)} {most each : Int} (h : longB l most each = false) : (∀ s ∈ l, (s.length : Int) ≤ each) ∧ (l.length : Int) ≤ most := by
  simp only [longB, Bool.or_eq_false_iff, List.any_eq_false, decide_eq_true_eq, decide_eq_false_iff_not] at h
  exact ⟨fun s hs => by have := h.1 s hs; omega, by omega⟩
attribute [irreducible] longB
theorem longB_yes {l : List (List UInt8)} {most each : Int} {k : Nat} (hk : k < l.length) (h : each < (l[k].length : Int)) : longB l most each = true := by
  unfold longB
  rw [Bool.or_eq_true, List.any_eq_true]
  exact .inl ⟨_, List.getElem_mem hk, by simpa using h⟩
theorem longB_end {l : List (List UInt8)} {most each : Int} (h : ∀ k (hk : k < l.length), (l[k].length : Int) ≤ each) : longB l most each = decide (most < (l.length : Int)) := by
  unfold longB
  have : l.any (fun s => decide (each < (s.length : Int))) = false := by
    rw [List.any_eq_false]
    intro s hs
    obtain ⟨k, hk, rfl⟩ := List.getElem_of_mem hs
    have := h k hk
    simp
    omega
  rw [this, Bool.false_or]

set_option maxHeartbeats 400000 in
theorem long_any (A : Option Addr) (len cap : Nat) (l : List (List UInt8)) (most each : Int) (W : World) (hA : Sl W 1 A len cap (scells l)) (hw : ∀ s ∈ l, s.length ≤ maxLen) :
    Calls Try.prog 7 #[.slice A len cap, .int .i64 most, .int .i64 each] W fun e w' => e = .returned (.bool (longB l most each)) ∧ W = w' := by
  obtain rfl : len = l.length := by have := hA.1; rw [scells_length] at this; omega
  have HA := hid hA
  have HW := hid hw
  have hm : l.length ≤ 9223372036854775807 := by have h1 := hA.2.1; have h2 := hA.2.2.1; unfold maxLen at h2; omega
  have HY := hid (fun k (hk : k < l.length) (h : each < (l[k].length : Int)) => longB_yes (most := most) hk h)
  have HE := hid (fun (h : ∀ k (hk : k < l.length), (l[k].length : Int) ≤ each) => longB_end (most := most) h)
  clear hA hw
  generalize longB l most each = b at *
  go_enter Try.func7, Try.ntmps7
  go_wp2
  go_loop [7] (fun i => ∃ k : Nat, k ≤ l.length ∧ i = .int .i64 (k : Int) ∧ Hid (∀ j (hj : j < l.length), j < k → (l[j].length : Int) ≤ each)) (fun i => l.length - (intOf i).toNat)
  case atStart => exact ⟨0, by omega, rfl, fun j hj h => absurd h (by omega)⟩
  case round =>
    obtain ⟨k, hk, rfl, HT⟩ := hrel
    by_cases hlt : k < l.length
    · obtain ⟨b', off, rfl, hc⟩ := Sl.at HA.out k (by rw [scells_length]; exact hlt)
      have e1 : (scells l)[k]'(by rw [scells_length]; exact hlt) = .string (str (l[k]'hlt)) := by simp [scells]
      rw [e1] at hc
      have hsz : (str (l[k]'hlt)).size = (l[k]'hlt).length := str_size _
      have hsm : (l[k]'hlt).length ≤ 9223372036854775807 := by have := HW.out _ (List.getElem_mem hlt); unfold maxLen at this; omega
      have HY2 := hid (HY.out k hlt)
      have HX : Hid ((l[k]'hlt).length = (l[k]'hlt).length) := hid rfl
      generalize hx : (l[k]'hlt).length = x at hsz hsm HY2 HX
      have HX2 := hid hx
      clear hx e1
      generalize str (l[k]'hlt) = s at hc hsz
      have hlt2 : (k : Int) < (l.length : Int) := by omega
      by_cases hbig : each < (x : Int)
      · have hb := HY2.out hbig
        subst hb
        have hd : decide (each < (x : Int)) = true := decide_eq_true hbig
        subst hsz
        go_wp2
        go_ret
        exact ⟨rfl, rfl⟩
      · have hd : decide (each < (x : Int)) = false := decide_eq_false hbig
        subst hsz
        go_wp2
        go_round
        case rel =>
          refine ⟨k + 1, by omega, by go_num, fun j hj hjk => ?_⟩
          by_cases hjk2 : j < k
          · exact HT.out j hj hjk2
          · obtain rfl : j = k := by omega
            rw [HX2.out]; omega
        case measure => simp [intOf]; omega
    · have hge : ¬ (k : Int) < (l.length : Int) := by omega
      have HB := hid (HE.out (fun j hj => HT.out j hj (by omega)))
      go_wp2
      all_goals go_ret
      all_goals exact ⟨ret_bool' (by rw [HB.out]), rfl⟩
end Go.Proofs.Ytdphdodjidbngaa

