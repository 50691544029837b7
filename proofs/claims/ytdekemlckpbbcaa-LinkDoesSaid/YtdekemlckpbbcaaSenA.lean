/- slices.Clone at texts; slices.ContainsFunc at the closure of sent.Put. -/
import Derived.Test.YtdekemlckpbbcaaPlJ
import Derived.Test.YtdekemlckpbbcaaStep
import Derived.Test.YtdekemlckpbbcaaKeep
import Derived.Test.YtdekemlckpbbcaaIcell
namespace Go.Proofs.Ytdekemlckpbbcaa
open Go.RowKit
set_option linter.unusedVariables false
set_option linter.unusedSimpArgs false

set_option maxRecDepth 20000 in
theorem clone_str (A : Option Addr) (len cap : Nat) (cs : List Value) (W : World) (h : Sl W 1 A len cap cs) (h1 : ∀ u ∈ cs, u.oneCell' = true) (hlen : len ≤ 100000) :
    Calls Try.prog 41 #[.slice A len cap] W fun e w' => ∃ v, e = .returned v ∧ Below W.heap.size W w' ∧ w'.ownsRow W.heap.size 9 1 v len cs := by
  have hl := h.1
  have HL := hid hlen
  clear hlen
  rcases A with _ | ad
  · have h0 : cs = [] := by
      rcases Nat.eq_zero_or_pos cs.length with h0 | h0
      · exact List.eq_nil_of_length_eq_zero h0
      · obtain ⟨b, off, ha, _⟩ := h.2.2.2 h0
        cases ha
    subst h0
    have hz : len = 0 := by simp at hl; omega
    subst hz
    clear hl h h1
    have he : ∀ w : World, (binOp .eql 24 (.slice none 0 cap) (.slice none 0 0)).run Try.prog w = .ok (.bool true) w := fun _ => rfl
    go_enter Try.func41, Try.ntmps41
    go_wp2
    go_ret
    exact ⟨_, rfl, Below.refl _ _, World.ownsRow_nil _ _ _ _⟩
  · have HS := hid h
    have HE := hid (own_empty W 9 1)
    have H1 := hid h1
    clear h h1 hl
    have he : ∀ w : World, (binOp .eql 24 (.slice (some ad) len cap) (.slice none 0 0)).run Try.prog w = .ok (.bool false) w := fun _ => rfl
    go_enter Try.func41, Try.ntmps41
    go_wp2_with (at_builtin; refine wpList_append_sl (W := W) rfl (.tmp 5) (.tmp 6) 24 rfl W.heap.size 9 Try.underlying24 info_str rfl (by omega) rfl HE.out rfl (HS.out.below ((Below.refl _ _).alloc (Nat.le_refl _) _)) H1.out (by have := HL.out; unfold maxLen; omega) (by have := HL.out; omega) (by simp) ((Below.refl _ _).alloc (Nat.le_refl _) _) ?_)
    intro v1 w1 ho1 hb1 _
    go_wp2
    go_ret
    exact ⟨_, rfl, hb1, by simpa using ho1⟩
set_option maxRecDepth 20000 in
theorem put1_any (x y : List UInt8) (B : Nat) (W : World) (hB : W.cell? ⟨B, 0, none⟩ = some (.string (str y))) :
    Calls Try.prog 39 #[.string (str x), .pointer (some ⟨B, 0, none⟩)] W fun e w' => e = .returned (.bool (x == y)) ∧ W = w' := by
  by_cases h : x = y
  · subst h
    have hx : (x == x) = true := by simp
    rw [hx]
    clear hx
    generalize str x = s at *
    have hne : (s.toList == s.toList) = true := by simp
    go_enter Try.func39, Try.ntmps39
    go_wp2
    go_ret
    exact ⟨rfl, rfl⟩
  · have hz := str_ne h
    have hz2 : ((str x).toList == (str y).toList) = false := by simpa using hz
    have hx : (x == y) = false := by simpa using h
    rw [hx]
    clear h hx
    generalize str x = s at *
    generalize str y = s2 at *
    go_enter Try.func39, Try.ntmps39
    go_wp2
    go_ret
    exact ⟨rfl, rfl⟩

set_option maxRecDepth 20000 in
theorem putx_any (A : Option Addr) (len cap : Nat) (l : List (List UInt8)) (B : Nat) (y : List UInt8) (W : World) (h : Sl W 1 A len cap (scells l)) (hB : W.cell? ⟨B, 0, none⟩ = some (.string (str y))) :
    Calls Try.prog 64 #[.slice A len cap, .func (.func 39) #[] #[.pointer (some ⟨B, 0, none⟩)]] W fun e w' => e = .returned (.int .i64 (placeJ l y)) ∧ W = w' := by
  obtain rfl : len = l.length := by have := h.1; rw [scells_length] at this; omega
  have HA := hid h
  have HC := hid (fun x => put1_any x y B W hB)
  have hm : l.length ≤ 9223372036854775807 := by have h1 := h.2.1; have h2 := h.2.2.1; unfold maxLen at h2; omega
  have HY := hid (fun k (hk : k < l.length) h hy => placeJ_yes (s := y) hk h hy)
  have HN := hid (fun h => placeJ_no (l := l) (s := y) h)
  clear h hB
  go_enter Try.func64, Try.ntmps64
  go_wp2
  go_loop [8] (fun i => ∃ k : Nat, k ≤ l.length ∧ i = .int .i64 (k : Int) ∧ Hid (∀ j (hj : j < l.length), j < k → l[j] ≠ y)) (fun i => l.length - (intOf i).toNat)
  case atStart => exact ⟨0, by omega, rfl, fun j hj h => absurd h (by omega)⟩
  case round =>
    obtain ⟨k, hk, rfl, HT⟩ := hrel
    by_cases hlt : k < l.length
    · have hlt2 : (k : Int) < (l.length : Int) := by omega
      obtain ⟨b, off, rfl, c1⟩ := scells_at HA.out k hlt
      have HC2 := hid (HC.out l[k])
      have HY2 := hid (HY.out k hlt HT.out)
      generalize hx : l[k] = x at c1 HC2 HY2
      have HXX := hid hx
      clear hx
      generalize str x = s at c1 HC2
      go_wp2_with fail
      refine HC2.out.mono ?_
      rintro e w2 ⟨rfl, rfl⟩
      clear HC2 c1
      by_cases hxy : x = y
      · have hd : (x == y) = true := by simpa using hxy
        have HE := hid (HY2.out hxy)
        go_wp2
        go_ret
        exact ⟨by rw [HE.out]; rfl, rfl⟩
      · have hd : (x == y) = false := by simpa using hxy
        have HT2 : Hid (∀ j (hj : j < l.length), j < k + 1 → l[j] ≠ y) := hid (fun j hj hjk => by
          by_cases hjk2 : j < k
          · exact HT.out j hj hjk2
          · obtain rfl : j = k := by omega
            rw [HXX.out]; exact hxy)
        clear hxy
        go_wp2
        go_round
        case rel => exact ⟨k + 1, by omega, by go_num, HT2.out⟩
        case measure => simp [intOf]; omega
    · have hge : ¬ (k : Int) < (l.length : Int) := by omega
      have HE := hid (HN.out fun j hj => HT.out j hj (by omega))
      go_wp2
      go_ret
      exact ⟨by rw [HE.out]; rfl, rfl⟩


theorem placeJ_mem (l : List (List UInt8)) (y : List UInt8) : (0 ≤ placeJ l y) ↔ y ∈ l := by
  by_cases h : y ∈ l
  · obtain ⟨k, hk, he⟩ := List.getElem_of_mem h
    refine ⟨fun _ => h, fun _ => ?_⟩
    have : ∃ k, ∃ (hk : k < l.length), l[k] = y ∧ ∀ j (hj : j < l.length), j < k → l[j] ≠ y := by
      clear h
      induction k using Nat.strongRecOn with
      | ind k ih =>
        by_cases hx : ∃ j, ∃ (hj : j < l.length), j < k ∧ l[j] = y
        · obtain ⟨j, hj, hjk, hje⟩ := hx
          exact ih j hjk hj hje
        · exact ⟨k, hk, he, fun j hj hjk hje => hx ⟨j, hj, hjk, hje⟩⟩
    obtain ⟨k, hk, he, hn⟩ := this
    rw [placeJ_yes hk hn he]
    omega
  · refine ⟨fun h0 => ?_, fun h1 => absurd h1 h⟩
    rw [placeJ_no (fun j hj he => h (by rw [← he]; exact List.getElem_mem hj))] at h0
    omega
set_option maxRecDepth 20000 in
theorem hasf_any (A : Option Addr) (cap : Nat) (l : List (List UInt8)) (B : Nat) (y : List UInt8) (W : World) (h : Sl W 1 A l.length cap (scells l)) (hB : W.cell? ⟨B, 0, none⟩ = some (.string (str y))) :
    Calls Try.prog 38 #[.slice A l.length cap, .func (.func 39) #[] #[.pointer (some ⟨B, 0, none⟩)]] W fun e w' => e = .returned (.bool (decide (y ∈ l))) ∧ W = w' := by
  have HI := hid (putx_any A l.length cap l B y W h hB)
  have HM := hid (placeJ_mem l y)
  clear h hB
  generalize placeJ l y = p at *
  by_cases hy : y ∈ l
  · have hp : (0 : Int) ≤ p := HM.out.2 hy
    have hd : decide ((0 : Int) ≤ p) = true := decide_eq_true hp
    have HD : Hid (decide (y ∈ l) = true) := hid (decide_eq_true hy)
    clear hy
    go_enter Try.func38, Try.ntmps38
    go_wp2_with fail
    refine HI.out.mono ?_
    rintro e w2 ⟨rfl, rfl⟩
    go_wp2
    go_ret
    exact ⟨by rw [HD.out]; rfl, rfl⟩
  · have hp : ¬ (0 : Int) ≤ p := fun h => hy (HM.out.1 h)
    have hd : decide ((0 : Int) ≤ p) = false := decide_eq_false hp
    have HD : Hid (decide (y ∈ l) = false) := hid (decide_eq_false hy)
    clear hy
    go_enter Try.func38, Try.ntmps38
    go_wp2_with fail
    refine HI.out.mono ?_
    rintro e w2 ⟨rfl, rfl⟩
    go_wp2
    go_ret
    exact ⟨by rw [HD.out]; rfl, rfl⟩
end Go.Proofs.Ytdekemlckpbbcaa
