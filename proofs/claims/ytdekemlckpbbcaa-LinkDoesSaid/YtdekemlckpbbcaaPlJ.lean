/- Places of texts. -/
import Derived.Test.YtdekemlckpbbcaaStrA
import Derived.Test.YtdekemlckpbbcaaSlice
import Derived.Lib.MinMax
namespace Go.Proofs.Ytdekemlckpbbcaa
open Go.RowKit
set_option linter.unusedVariables false
set_option linter.unusedSimpArgs false

/-- Where a text first stands in a list. -/
def placeJ (l : List (List UInt8)) (s : List UInt8) : Int := match l.findIdx? (fun x => x == s) with | some i => (i : Int) | none => -1
theorem placeJ_yes {l : List (List UInt8)} {s : List UInt8} {k : Nat} (hk : k < l.length) (h : ∀ j (hj : j < l.length), j < k → l[j] ≠ s) (hy : l[k] = s) : placeJ l s = (k : Int) := by
  have : l.findIdx? (fun x => x == s) = some k := by
    rw [List.findIdx?_eq_some_iff_getElem]
    exact ⟨hk, by simp [hy], fun j hj => by simpa using h j (by omega) hj⟩
  rw [placeJ, this]
theorem placeJ_no {l : List (List UInt8)} {s : List UInt8} (h : ∀ j (hj : j < l.length), l[j] ≠ s) : placeJ l s = -1 := by
  have : l.findIdx? (fun x => x == s) = none := by
    rw [List.findIdx?_eq_none_iff]
    intro x hx
    obtain ⟨j, hj, rfl⟩ := List.getElem_of_mem hx
    simpa using h j hj
  rw [placeJ, this]
theorem scells_at {W : World} {A : Option Addr} {len cap : Nat} {l : List (List UInt8)} (h : Sl W 1 A len cap (scells l)) (k : Nat) (hk : k < l.length) : ∃ b off, A = some ⟨b, off, none⟩ ∧ W.cell? ⟨b, off + k, none⟩ = some (.string (str l[k])) := by
  obtain ⟨b, off, rfl, hc⟩ := Sl.at h k (by rw [scells_length]; exact hk)
  have e1 : (scells l)[k]'(by rw [scells_length]; exact hk) = .string (str (l[k]'hk)) := by simp [scells]
  rw [e1] at hc
  exact ⟨b, off, rfl, hc⟩
set_option maxRecDepth 20000 in
theorem rplace_any (A : Option Addr) (len cap : Nat) (l : List (List UInt8)) (y : List UInt8) (W : World) (h : Sl W 1 A len cap (scells l)) :
    Calls Try.prog 15 #[.slice A len cap, .string (str y)] W fun e w' => e = .returned (.int .i64 (placeJ l y)) ∧ W = w' := by
  obtain rfl : len = l.length := by have := h.1; rw [scells_length] at this; omega
  have HA := hid h
  have hm : l.length ≤ 9223372036854775807 := by have h1 := h.2.1; have h2 := h.2.2.1; unfold maxLen at h2; omega
  have HY := hid (fun k (hk : k < l.length) h hy => placeJ_yes (s := y) hk h hy)
  have HN := hid (fun h => placeJ_no (l := l) (s := y) h)
  clear h
  have HZ := hid (fun x => @str_ne x y)
  generalize hs : str y = s at HZ
  have HS := hid hs
  clear hs
  go_enter Try.func15, Try.ntmps15
  go_wp2
  go_loop [5] (fun i => ∃ k : Nat, k ≤ l.length ∧ i = .int .i64 (k : Int) ∧ Hid (∀ j (hj : j < l.length), j < k → l[j] ≠ y)) (fun i => l.length - (intOf i).toNat)
  case atStart => exact ⟨0, by omega, rfl, fun j hj h => absurd h (by omega)⟩
  case round =>
    obtain ⟨k, hk, rfl, HT⟩ := hrel
    by_cases hlt : k < l.length
    · have hlt2 : (k : Int) < (l.length : Int) := by omega
      obtain ⟨b, off, rfl, c1⟩ := scells_at HA.out k hlt
      have HY2 := hid (HY.out k hlt HT.out)
      generalize hx : l[k] = x at c1 HY2
      have HXX := hid hx
      clear hx
      by_cases hxy : x = y
      · have HE := hid (HY2.out hxy)
        have e2 : str x = s := by rw [hxy, HS.out]
        rw [e2] at c1
        clear e2 hxy HY2
        have hne : (s.toList == s.toList) = true := by simp
        go_wp2
        go_ret
        exact ⟨by rw [HE.out]; rfl, rfl⟩
      · have hz := HZ.out x hxy
        have hz2 : ((str x).toList == s.toList) = false := by simpa using hz
        have HT2 : Hid (∀ j (hj : j < l.length), j < k + 1 → l[j] ≠ y) := hid (fun j hj hjk => by
          by_cases hjk2 : j < k
          · exact HT.out j hj hjk2
          · obtain rfl : j = k := by omega
            rw [HXX.out]; exact hxy)
        clear hxy HY2
        generalize str x = s2 at c1 hz hz2
        go_wp2
        go_round
        case rel => exact ⟨k + 1, by omega, by go_num, HT2.out⟩
        case measure => simp [intOf]; omega
    · have hge : ¬ (k : Int) < (l.length : Int) := by omega
      have HE := hid (HN.out fun j hj => HT.out j hj (by omega))
      go_wp2
      go_ret
      exact ⟨by rw [HE.out]; rfl, rfl⟩
end Go.Proofs.Ytdekemlckpbbcaa
