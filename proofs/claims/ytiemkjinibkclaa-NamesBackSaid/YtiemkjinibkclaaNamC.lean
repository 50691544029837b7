/- names.Place, Set, Tell, and the document's, as contracts. -/
import Derived.Test.YtiemkjinibkclaaSetR
import Derived.Test.YtiemkjinibkclaaStrC
import Derived.Test.YtiemkjinibkclaaNamM
import Derived.Test.YtiemkjinibkclaaSlice
import Derived.Lib.MinMax
namespace Go.Proofs.Ytiemkjinibkclaa
open Go.RowKit
set_option linter.unusedVariables false
set_option linter.unusedSimpArgs false

theorem scells_at {W : World} {A : Option Addr} {len cap : Nat} {l : List (List UInt8)} (h : Sl W 1 A len cap (scells l)) (k : Nat) (hk : k < l.length) : ∃ b off, A = some ⟨b, off, none⟩ ∧ W.cell? ⟨b, off + k, none⟩ = some (.string (str l[k])) := by
  obtain ⟨b, off, rfl, hc⟩ := Sl.at h k (by rw [scells_length]; exact hk)
  have e1 : (scells l)[k]'(by rw [scells_length]; exact hk) = .string (str (l[k]'hk)) := by simp [scells]
  rw [e1] at hc
  exact ⟨b, off, rfl, hc⟩

set_option maxRecDepth 20000 in
theorem place1_any (x y : List UInt8) (B : Nat) (W : World) (hB : W.cell? ⟨B, 0, none⟩ = some (.string (str y))) :
    Calls Try.prog 49 #[.string (str x), .pointer (some ⟨B, 0, none⟩)] W fun e w' => e = .returned (.bool (x == y)) ∧ W = w' := by
  by_cases h : x = y
  · subst h
    have hx : (x == x) = true := by simp
    rw [hx]
    clear hx
    generalize str x = s at *
    have hne : (s.toList == s.toList) = true := by simp
    go_enter Try.func49, Try.ntmps49
    go_wp2
    go_ret
    exact ⟨rfl, rfl⟩
  · have hz := str_ne h
    have hz2 : ((str x).toList == (str y).toList) = false := by simpa using hz
    have hx : (x == y) = false := by simpa using h
    rw [hx]
    clear h hx
    generalize str x = s at *
    generalize str y = s2 at *
    go_enter Try.func49, Try.ntmps49
    go_wp2
    go_ret
    exact ⟨rfl, rfl⟩

set_option maxRecDepth 20000 in
theorem pidx_any (A : Option Addr) (len cap : Nat) (l : List (List UInt8)) (B : Nat) (y : List UInt8) (W : World) (h : Sl W 1 A len cap (scells l)) (hB : W.cell? ⟨B, 0, none⟩ = some (.string (str y))) :
    Calls Try.prog 48 #[.slice A len cap, .func (.func 49) #[] #[.pointer (some ⟨B, 0, none⟩)]] W fun e w' => e = .returned (.int .i64 (placeJ l y)) ∧ W = w' := by
  obtain rfl : len = l.length := by have := h.1; rw [scells_length] at this; omega
  have HA := hid h
  have HC := hid (fun x => place1_any x y B W hB)
  have hm : l.length ≤ 9223372036854775807 := by have h1 := h.2.1; have h2 := h.2.2.1; unfold maxLen at h2; omega
  have HY := hid (fun k (hk : k < l.length) h hy => placeJ_yes (s := y) hk h hy)
  have HN := hid (fun h => placeJ_no (l := l) (s := y) h)
  clear h hB
  go_enter Try.func48, Try.ntmps48
  go_wp2
  go_loop [8] (fun i => ∃ k : Nat, k ≤ l.length ∧ i = .int .i64 (k : Int) ∧ Hid (∀ j (hj : j < l.length), j < k → l[j] ≠ y)) (fun i => l.length - (intOf i).toNat)
  case atStart => exact ⟨0, by omega, rfl, fun j hj h => absurd h (by omega)⟩
  case round =>
    obtain ⟨k, hk, rfl, HT⟩ := hrel
    by_cases hlt : k < l.length
    · have hlt2 : (k : Int) < (l.length : Int) := by omega
      obtain ⟨b, off, rfl, c1⟩ := scells_at HA.out k hlt
      have HC2 := hid (HC.out l[k])
      have HY2 := hid (HY.out k hlt HT.out)
      generalize hx : l[k] = x at c1 HC2 HY2
      have HXX := hid hx
      clear hx
      generalize str x = s at c1 HC2
      go_wp2_with fail
      refine HC2.out.mono ?_
      rintro e w2 ⟨rfl, rfl⟩
      clear HC2 c1
      by_cases hxy : x = y
      · have hd : (x == y) = true := by simpa using hxy
        have HE := hid (HY2.out hxy)
        go_wp2
        go_ret
        exact ⟨by rw [HE.out]; rfl, rfl⟩
      · have hd : (x == y) = false := by simpa using hxy
        have HT2 : Hid (∀ j (hj : j < l.length), j < k + 1 → l[j] ≠ y) := hid (fun j hj hjk => by
          by_cases hjk2 : j < k
          · exact HT.out j hj hjk2
          · obtain rfl : j = k := by omega
            rw [HXX.out]; exact hxy)
        clear hxy
        go_wp2
        go_round
        case rel => exact ⟨k + 1, by omega, by go_num, HT2.out⟩
        case measure => simp [intOf]; omega
    · have hge : ¬ (k : Int) < (l.length : Int) := by omega
      have HE := hid (HN.out fun j hj => HT.out j hj (by omega))
      go_wp2
      go_ret
      exact ⟨by rw [HE.out]; rfl, rfl⟩

set_option maxRecDepth 20000 in
theorem place_any (A : Option Addr) (len cap : Nat) (l : List (List UInt8)) (y : List UInt8) (W : World) (h : Sl W 1 A len cap (scells l)) :
    Calls Try.prog 18 #[.slice A len cap, .string (str y)] W fun e w' => e = .returned (.int .i64 (placeJ l y)) ∧ Below W.heap.size W w' := by
  have hb0 : Below W.heap.size W (W.alloc (.cells #[.string (str y)] 9)) := (Below.refl _ _).alloc (Nat.le_refl _) _
  have HI := hid (pidx_any A len cap l W.heap.size y _ (h.below hb0) (by have := heap_alloc_new W (.cells #[.string (str y)] 9); rw [cell_of_row _ _ 0 _ _ _ this]; rfl))
  clear h hb0
  go_enter Try.func18, Try.ntmps18
  go_wp2_with fail
  refine HI.out.mono ?_
  rintro e w2 ⟨rfl, rfl⟩
  go_wp2
  go_ret
  exact ⟨rfl, (Below.refl _ _).alloc (Nat.le_refl _) _⟩

set_option maxRecDepth 20000 in
theorem rplace_any (A : Option Addr) (len cap : Nat) (l : List (List UInt8)) (y : List UInt8) (W : World) (h : Sl W 1 A len cap (scells l)) :
    Calls Try.prog 45 #[.slice A len cap, .string (str y)] W fun e w' => e = .returned (.int .i64 (placeJ l y)) ∧ W = w' := by
  obtain rfl : len = l.length := by have := h.1; rw [scells_length] at this; omega
  have HA := hid h
  have hm : l.length ≤ 9223372036854775807 := by have h1 := h.2.1; have h2 := h.2.2.1; unfold maxLen at h2; omega
  have HY := hid (fun k (hk : k < l.length) h hy => placeJ_yes (s := y) hk h hy)
  have HN := hid (fun h => placeJ_no (l := l) (s := y) h)
  clear h
  have HZ := hid (fun x => @str_ne x y)
  generalize hs : str y = s at HZ
  have HS := hid hs
  clear hs
  go_enter Try.func45, Try.ntmps45
  go_wp2
  go_loop [5] (fun i => ∃ k : Nat, k ≤ l.length ∧ i = .int .i64 (k : Int) ∧ Hid (∀ j (hj : j < l.length), j < k → l[j] ≠ y)) (fun i => l.length - (intOf i).toNat)
  case atStart => exact ⟨0, by omega, rfl, fun j hj h => absurd h (by omega)⟩
  case round =>
    obtain ⟨k, hk, rfl, HT⟩ := hrel
    by_cases hlt : k < l.length
    · have hlt2 : (k : Int) < (l.length : Int) := by omega
      obtain ⟨b, off, rfl, c1⟩ := scells_at HA.out k hlt
      have HY2 := hid (HY.out k hlt HT.out)
      generalize hx : l[k] = x at c1 HY2
      have HXX := hid hx
      clear hx
      by_cases hxy : x = y
      · have HE := hid (HY2.out hxy)
        have e2 : str x = s := by rw [hxy, HS.out]
        rw [e2] at c1
        clear e2 hxy HY2
        have hne : (s.toList == s.toList) = true := by simp
        go_wp2
        go_ret
        exact ⟨by rw [HE.out]; rfl, rfl⟩
      · have hz := HZ.out x hxy
        have hz2 : ((str x).toList == s.toList) = false := by simpa using hz
        have HT2 : Hid (∀ j (hj : j < l.length), j < k + 1 → l[j] ≠ y) := hid (fun j hj hjk => by
          by_cases hjk2 : j < k
          · exact HT.out j hj hjk2
          · obtain rfl : j = k := by omega
            rw [HXX.out]; exact hxy)
        clear hxy HY2
        generalize str x = s2 at c1 hz hz2
        go_wp2
        go_round
        case rel => exact ⟨k + 1, by omega, by go_num, HT2.out⟩
        case measure => simp [intOf]; omega
    · have hge : ¬ (k : Int) < (l.length : Int) := by omega
      have HE := hid (HN.out fun j hj => HT.out j hj (by omega))
      go_wp2
      go_ret
      exact ⟨by rw [HE.out]; rfl, rfl⟩
end Go.Proofs.Ytiemkjinibkclaa
