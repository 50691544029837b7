/- Places of texts. -/
import Derived.Test.YtdphdodjidbngaaGreatGaP
import Derived.Lib.MinMax
import Derived.Test.YtdphdodjidbngaaGreatQPcA
import Derived.Deep.Cut
import Derived.Deep.CutRange
namespace Go.Proofs.YtdphdodjidbngaaGreat
open Go.RowKit
set_option linter.unusedVariables false
set_option linter.unusedSimpArgs false

/-- Where a text first stands in a list. -/
def placeJ (l : List (List UInt8)) (s : List UInt8) : Int := match l.findIdx? (fun x => x == s) with | some i => (i : Int) | none => -1
theorem placeJ_yes {l : List (List UInt8)} {s : List UInt8} {k : Nat} (hk : k < l.length) (h : ∀ j (hj : j < l.length), j < k → l[j] ≠ s) (hy : l[k] = s) : placeJ l s = (k : Int) := by
  have : l.findIdx? (fun x => x == s) = some k := by
    rw [List.findIdx?_eq_some_iff_getElem]
    exact ⟨hk, by simp [hy], fun j hj => by simpa using h j (by omega) hj⟩
  rw [placeJ, this]
theorem placeJ_no {l : List (List UInt8)} {s : List UInt8} (h : ∀ j (hj : j < l.length), l[j] ≠ s) : placeJ l s = -1 := by
  have : l.findIdx? (fun x => x == s) = none := by
    rw [List.findIdx?_eq_none_iff]
    intro x hx
    obtain ⟨j, hj, rfl⟩ := List.getElem_of_mem hx
    simpa using h j hj
  rw [placeJ, this]
theorem scells_at {W : World} {A : Option Addr} {len cap : Nat} {l : List (List UInt8)} (h : Sl W 1 A len cap (scells l)) (k : Nat) (hk : k < l.length) : ∃ b off, A = some ⟨b, off, none⟩ ∧ W.cell? ⟨b, off + k, none⟩ = some (.string (str l[k])) := by
  obtain ⟨b, off, rfl, hc⟩ := Sl.at h k (by rw [scells_length]; exact hk)
  have e1 : (scells l)[k]'(by rw [scells_length]; exact hk) = .string (str (l[k]'hk)) := by simp [scells]
  rw [e1] at hc
  exact ⟨b, off, rfl, hc⟩
set_option maxRecDepth 20000 in
theorem rplace_any (A : Option Addr) (len cap : Nat) (l : List (List UInt8)) (y : List UInt8) (W : World) (h : Sl W 1 A len cap (scells l)) :
    Calls Tryz.prog 89 #[.slice A len cap, .string (str y)] W fun e w' => e = .returned (.int .i64 (placeJ l y)) ∧ W = w' := by
  obtain rfl : len = l.length := by have := h.1; rw [scells_length] at this; omega
  have HA := hid h
  have hm : l.length ≤ 9223372036854775807 := by have h1 := h.2.1; have h2 := h.2.2.1; unfold maxLen at h2; omega
  have HY := hid (fun k (hk : k < l.length) h hy => placeJ_yes (s := y) hk h hy)
  have HN := hid (fun h => placeJ_no (l := l) (s := y) h)
  clear h
  have HZ := hid (fun x => @str_ne x y)
  generalize hs : str y = s at HZ
  have HS := hid hs
  clear hs
  go_enter Tryz.func89, Tryz.ntmps89
  go_wp2
  go_loop [5] (fun i => ∃ k : Nat, k ≤ l.length ∧ i = .int .i64 (k : Int) ∧ Hid (∀ j (hj : j < l.length), j < k → l[j] ≠ y)) (fun i => l.length - (intOf i).toNat)
  case atStart => exact ⟨0, by omega, rfl, fun j hj h => absurd h (by omega)⟩
  case round =>
    obtain ⟨k, hk, rfl, HT⟩ := hrel
    by_cases hlt : k < l.length
    · have hlt2 : (k : Int) < (l.length : Int) := by omega
      obtain ⟨b, off, rfl, c1⟩ := scells_at HA.out k hlt
      have HY2 := hid (HY.out k hlt HT.out)
      generalize hx : l[k] = x at c1 HY2
      have HXX := hid hx
      clear hx
      by_cases hxy : x = y
      · have HE := hid (HY2.out hxy)
        have e2 : str x = s := by rw [hxy, HS.out]
        rw [e2] at c1
        clear e2 hxy HY2
        have hne : (s.toList == s.toList) = true := by simp
        go_wp2
        go_ret
        exact ⟨by rw [HE.out]; rfl, rfl⟩
      · have hz := HZ.out x hxy
        have hz2 : ((str x).toList == s.toList) = false := by simpa using hz
        have HT2 : Hid (∀ j (hj : j < l.length), j < k + 1 → l[j] ≠ y) := hid (fun j hj hjk => by
          by_cases hjk2 : j < k
          · exact HT.out j hj hjk2
          · obtain rfl : j = k := by omega
            rw [HXX.out]; exact hxy)
        clear hxy HY2
        generalize str x = s2 at c1 hz hz2
        go_wp2
        go_round
        case rel => exact ⟨k + 1, by omega, by go_num, HT2.out⟩
        case measure => simp [intOf]; omega
    · have hge : ¬ (k : Int) < (l.length : Int) := by omega
      have HE := hid (HN.out fun j hj => HT.out j hj (by omega))
      go_wp2
      go_ret
      exact ⟨by rw [HE.out]; rfl, rfl⟩
end Go.Proofs.YtdphdodjidbngaaGreat

namespace Go.Proofs.YtdphdodjidbngaaGreat
open Go.RowKit
set_option linter.unusedVariables false
set_option linter.unusedSimpArgs false

set_option maxRecDepth 20000 in
theorem clone_str (A : Option Addr) (len cap : Nat) (cs : List Value) (W : World) (h : Sl W 1 A len cap cs) (h1 : ∀ u ∈ cs, u.oneCell' = true) (hlen : len ≤ 100000) :
    Calls Tryz.prog 41 #[.slice A len cap] W fun e w' => ∃ v, e = .returned v ∧ Below W.heap.size W w' ∧ w'.ownsRow W.heap.size 9 1 v len cs := by
  have hl := h.1
  have HL := hid hlen
  clear hlen
  rcases A with _ | ad
  · have h0 : cs = [] := by
      rcases Nat.eq_zero_or_pos cs.length with h0 | h0
      · exact List.eq_nil_of_length_eq_zero h0
      · obtain ⟨b, off, ha, _⟩ := h.2.2.2 h0
        cases ha
    subst h0
    have hz : len = 0 := by simp at hl; omega
    subst hz
    clear hl h h1
    have he : ∀ w : World, (binOp .eql 33 (.slice none 0 cap) (.slice none 0 0)).run Tryz.prog w = .ok (.bool true) w := fun _ => rfl
    go_enter Tryz.func41, Tryz.ntmps41
    go_wp2
    go_ret
    exact ⟨_, rfl, Below.refl _ _, World.ownsRow_nil _ _ _ _⟩
  · have HS := hid h
    have HE := hid (own_empty W 9 1)
    have H1 := hid h1
    clear h h1 hl
    have he : ∀ w : World, (binOp .eql 33 (.slice (some ad) len cap) (.slice none 0 0)).run Tryz.prog w = .ok (.bool false) w := fun _ => rfl
    go_enter Tryz.func41, Tryz.ntmps41
    go_wp2_with (at_builtin; refine wpList_append_sl (W := W) rfl (.tmp 5) (.tmp 6) 33 rfl W.heap.size 9 Tryz.underlying33 info_str rfl (by omega) rfl HE.out rfl (HS.out.below ((Below.refl _ _).alloc (Nat.le_refl _) _)) H1.out (by have := HL.out; unfold maxLen; omega) (by have := HL.out; omega) (by simp) ((Below.refl _ _).alloc (Nat.le_refl _) _) ?_)
    intro v1 w1 ho1 hb1 _
    go_wp2
    go_ret
    exact ⟨_, rfl, hb1, by simpa using ho1⟩
set_option maxRecDepth 20000 in
theorem put1_any (x y : List UInt8) (B : Nat) (W : World) (hB : W.cell? ⟨B, 0, none⟩ = some (.string (str y))) :
    Calls Tryz.prog 83 #[.string (str x), .pointer (some ⟨B, 0, none⟩)] W fun e w' => e = .returned (.bool (x == y)) ∧ W = w' := by
  by_cases h : x = y
  · subst h
    have hx : (x == x) = true := by simp
    rw [hx]
    clear hx
    generalize str x = s at *
    have hne : (s.toList == s.toList) = true := by simp
    go_enter Tryz.func83, Tryz.ntmps83
    go_wp2
    go_ret
    exact ⟨rfl, rfl⟩
  · have hz := str_ne h
    have hz2 : ((str x).toList == (str y).toList) = false := by simpa using hz
    have hx : (x == y) = false := by simpa using h
    rw [hx]
    clear h hx
    generalize str x = s at *
    generalize str y = s2 at *
    go_enter Tryz.func83, Tryz.ntmps83
    go_wp2
    go_ret
    exact ⟨rfl, rfl⟩

set_option maxRecDepth 20000 in
theorem putx_any (A : Option Addr) (len cap : Nat) (l : List (List UInt8)) (B : Nat) (y : List UInt8) (W : World) (h : Sl W 1 A len cap (scells l)) (hB : W.cell? ⟨B, 0, none⟩ = some (.string (str y))) :
    Calls Tryz.prog 114 #[.slice A len cap, .func (.func 83) #[] #[.pointer (some ⟨B, 0, none⟩)]] W fun e w' => e = .returned (.int .i64 (placeJ l y)) ∧ W = w' := by
  obtain rfl : len = l.length := by have := h.1; rw [scells_length] at this; omega
  have HA := hid h
  have HC := hid (fun x => put1_any x y B W hB)
  have hm : l.length ≤ 9223372036854775807 := by have h1 := h.2.1; have h2 := h.2.2.1; unfold maxLen at h2; omega
  have HY := hid (fun k (hk : k < l.length) h hy => placeJ_yes (s := y) hk h hy)
  have HN := hid (fun h => placeJ_no (l := l) (s := y) h)
  clear h hB
  go_enter Tryz.func114, Tryz.ntmps114
  go_wp2
  go_loop [8] (fun i => ∃ k : Nat, k ≤ l.length ∧ i = .int .i64 (k : Int) ∧ Hid (∀ j (hj : j < l.length), j < k → l[j] ≠ y)) (fun i => l.length - (intOf i).toNat)
  case atStart => exact ⟨0, by omega, rfl, fun j hj h => absurd h (by omega)⟩
  case round =>
    obtain ⟨k, hk, rfl, HT⟩ := hrel
    by_cases hlt : k < l.length
    · have hlt2 : (k : Int) < (l.length : Int) := by omega
      obtain ⟨b, off, rfl, c1⟩ := scells_at HA.out k hlt
      have HC2 := hid (HC.out l[k])
      have HY2 := hid (HY.out k hlt HT.out)
      generalize hx : l[k] = x at c1 HC2 HY2
      have HXX := hid hx
      clear hx
      generalize str x = s at c1 HC2
      go_wp2_with fail
      refine HC2.out.mono ?_
      rintro e w2 ⟨rfl, rfl⟩
      clear HC2 c1
      by_cases hxy : x = y
      · have hd : (x == y) = true := by simpa using hxy
        have HE := hid (HY2.out hxy)
        go_wp2
        go_ret
        exact ⟨by rw [HE.out]; rfl, rfl⟩
      · have hd : (x == y) = false := by simpa using hxy
        have HT2 : Hid (∀ j (hj : j < l.length), j < k + 1 → l[j] ≠ y) := hid (fun j hj hjk => by
          by_cases hjk2 : j < k
          · exact HT.out j hj hjk2
          · obtain rfl : j = k := by omega
            rw [HXX.out]; exact hxy)
        clear hxy
        go_wp2
        go_round
        case rel => exact ⟨k + 1, by omega, by go_num, HT2.out⟩
        case measure => simp [intOf]; omega
    · have hge : ¬ (k : Int) < (l.length : Int) := by omega
      have HE := hid (HN.out fun j hj => HT.out j hj (by omega))
      go_wp2
      go_ret
      exact ⟨by rw [HE.out]; rfl, rfl⟩


theorem placeJ_mem (l : List (List UInt8)) (y : List UInt8) : (0 ≤ placeJ l y) ↔ y ∈ l := by
  by_cases h : y ∈ l
  · obtain ⟨k, hk, he⟩ := List.getElem_of_mem h
    refine ⟨fun _ => h, fun _ => ?_⟩
    have : ∃ k, ∃ (hk : k < l.length), l[k] = y ∧ ∀ j (hj : j < l.length), j < k → l[j] ≠ y := by
      clear h
      induction k using Nat.strongRecOn with
      | ind k ih =>
        by_cases hx : ∃ j, ∃ (hj : j < l.length), j < k ∧ l[j] = y
        · obtain ⟨j, hj, hjk, hje⟩ := hx
          exact ih j hjk hj hje
        · exact ⟨k, hk, he, fun j hj hjk hje => hx ⟨j, hj, hjk, hje⟩⟩
    obtain ⟨k, hk, he, hn⟩ := this
    rw [placeJ_yes hk hn he]
    omega
  · refine ⟨fun h0 => ?_, fun h1 => absurd h1 h⟩
    rw [placeJ_no (fun j hj he => h (by rw [← he]; exact List.getElem_mem hj))] at h0
    omega
set_option maxRecDepth 20000 in
theorem hasf_any (A : Option Addr) (cap : Nat) (l : List (List UInt8)) (B : Nat) (y : List UInt8) (W : World) (h : Sl W 1 A l.length cap (scells l)) (hB : W.cell? ⟨B, 0, none⟩ = some (.string (str y))) :
    Calls Tryz.prog 82 #[.slice A l.length cap, .func (.func 83) #[] #[.pointer (some ⟨B, 0, none⟩)]] W fun e w' => e = .returned (.bool (decide (y ∈ l))) ∧ W = w' := by
  have HI := hid (putx_any A l.length cap l B y W h hB)
  have HM := hid (placeJ_mem l y)
  clear h hB
  generalize placeJ l y = p at *
  by_cases hy : y ∈ l
  · have hp : (0 : Int) ≤ p := HM.out.2 hy
    have hd : decide ((0 : Int) ≤ p) = true := decide_eq_true hp
    have HD : Hid (decide (y ∈ l) = true) := hid (decide_eq_true hy)
    clear hy
    go_enter Tryz.func82, Tryz.ntmps82
    go_wp2_with fail
    refine HI.out.mono ?_
    rintro e w2 ⟨rfl, rfl⟩
    go_wp2
    go_ret
    exact ⟨by rw [HD.out]; rfl, rfl⟩
  · have hp : ¬ (0 : Int) ≤ p := fun h => hy (HM.out.1 h)
    have hd : decide ((0 : Int) ≤ p) = false := decide_eq_false hp
    have HD : Hid (decide (y ∈ l) = false) := hid (decide_eq_false hy)
    clear hy
    go_enter Tryz.func82, Tryz.ntmps82
    go_wp2_with fail
    refine HI.out.mono ?_
    rintro e w2 ⟨rfl, rfl⟩
    go_wp2
    go_ret
    exact ⟨by rw [HD.out]; rfl, rfl⟩
end Go.Proofs.YtdphdodjidbngaaGreat

namespace Go.Proofs.YtdphdodjidbngaaGreat
open Go.RowKit Go.Sort
set_option linter.unusedVariables false
set_option linter.unusedSimpArgs false

theorem five_cells {w : World} {b t : Nat} {x y z u v : Value} (h : w.heap[b]? = some (.cells #[x, y, z, u, v] t (0, 0))) :
    (w.cell? ⟨b, 0, none⟩ = some x ∧ w.cell? ⟨b, 1, none⟩ = some y ∧ w.cell? ⟨b, 2, none⟩ = some z ∧ w.cell? ⟨b, 3, none⟩ = some u ∧ w.cell? ⟨b, 4, none⟩ = some v) ∧ w.frozen? ⟨b, 0, none⟩ = false ∧ w.frozen? ⟨b, 1, none⟩ = false ∧ w.frozen? ⟨b, 2, none⟩ = false ∧ w.frozen? ⟨b, 3, none⟩ = false ∧ w.frozen? ⟨b, 4, none⟩ = false := by
  refine ⟨⟨?_, ?_, ?_, ?_, ?_⟩, frozen_of_row w b 0 _ t h, frozen_of_row w b 1 _ t h, frozen_of_row w b 2 _ t h, frozen_of_row w b 3 _ t h, frozen_of_row w b 4 _ t h⟩
  · rw [cell_of_row w b 0 _ _ _ h]; rfl
  · rw [cell_of_row w b 1 _ _ _ h]; rfl
  · rw [cell_of_row w b 2 _ _ _ h]; rfl
  · rw [cell_of_row w b 3 _ _ _ h]; rfl
  · rw [cell_of_row w b 4 _ _ _ h]; rfl
def put5 (w : World) (b : Nat) (a0 a1 a2 a3 a4 : Value) : World := ((((w.setCell ⟨b, 0, none⟩ a0).setCell ⟨b, 1, none⟩ a1).setCell ⟨b, 2, none⟩ a2).setCell ⟨b, 3, none⟩ a3).setCell ⟨b, 4, none⟩ a4
theorem put5_heap {w : World} {b t : Nat} {x0 x1 x2 x3 x4 : Value} (h : w.heap[b]? = some (.cells #[x0, x1, x2, x3, x4] t (0, 0))) (a0 a1 a2 a3 a4 : Value) : (put5 w b a0 a1 a2 a3 a4).heap[b]? = some (.cells #[a0, a1, a2, a3, a4] t (0, 0)) := by
  have h1 := heap_setCell_same w b 0 _ t a0 h
  have h2 := heap_setCell_same _ b 1 _ t a1 h1
  have h3 := heap_setCell_same _ b 2 _ t a2 h2
  have h4 := heap_setCell_same _ b 3 _ t a3 h3
  have h5 := heap_setCell_same _ b 4 _ t a4 h4
  unfold put5
  rw [h5]
  rfl
theorem put5_below {n : Nat} {W w : World} {b : Nat} (h : Below n W w) (hb : n ≤ b) (a0 a1 a2 a3 a4 : Value) : Below n W (put5 w b a0 a1 a2 a3 a4) :=
  ((((h.setCell (p := ⟨b, 0, none⟩) hb a0).setCell (p := ⟨b, 1, none⟩) hb a1).setCell (p := ⟨b, 2, none⟩) hb a2).setCell (p := ⟨b, 3, none⟩) hb a3).setCell (p := ⟨b, 4, none⟩) hb a4
theorem put5_other {w : World} {b g : Nat} (hg : g ≠ b) (a0 a1 a2 a3 a4 : Value) : (put5 w b a0 a1 a2 a3 a4).heap[g]? = w.heap[g]? := by
  unfold put5
  rw [Below.heap_setCell _ _ _ _ hg, Below.heap_setCell _ _ _ _ hg, Below.heap_setCell _ _ _ _ hg, Below.heap_setCell _ _ _ _ hg, Below.heap_setCell _ _ _ _ hg]
theorem own_at {w w' : World} {b t base e s n : Nat} {v : Value} {xs : List Value} {cs : Array Value} (h : w.ownsRow base e s v n xs) (hb : w.heap[b]? = some (.cells cs t (0, 0))) (hne : e ≠ t) (hk : ∀ g, g ≠ b → w'.heap[g]? = w.heap[g]?) : w'.ownsRow base e s v n xs := by
  have h9 := own_blk_ne h hb hne
  refine ⟨h.1, ?_⟩
  rcases h.2 with h2 | ⟨g, cap, cur, h3, h4, h5, h6⟩
  · exact .inl h2
  · refine .inr ⟨g, cap, cur, h3, h4, (hk g ?_).trans h5, h6⟩
    rintro rfl
    rw [h3] at h9
    exact h9 rfl

/-- An outbox. -/
structure Ov where
  p : Int
  q : Int
  l : List (List UInt8)
  w : Int
  f : Int
def oc (o : Ov) (A : Option Addr) (c : Nat) : Array Value := #[.int .i64 o.p, .int .i64 o.q, .slice A o.l.length c, .int .i64 o.w, .int .i64 o.f]
def oz : Array Value := #[.int .i64 0, .int .i64 0, .slice none 0 0, .int .i64 0, .int .i64 0]
/-- The copy of the argument, at X; the result, at Z. -/
def SX (W u : World) (X Z : Nat) (o : Ov) (A : Option Addr) (c : Nat) : Prop :=
  u.heap[X]? = some (.cells (oc o A c) 67 (0, 0)) ∧ u.heap[Z]? = some (.cells oz 67 (0, 0)) ∧ u.ownsRow W.heap.size 9 1 (.slice A o.l.length c) o.l.length (scells o.l) ∧ Below W.heap.size W u
theorem SX.keep {W u w : World} {X Z : Nat} {o : Ov} {A : Option Addr} {c : Nat} (h : SX W u X Z o A c) (hb : Below u.heap.size u w) : SX W w X Z o A c := ⟨keep0 h.1 hb, keep0 h.2.1 hb, own_keep h.2.2.1 hb, h.2.2.2.trans (hb.mono h.2.2.2.size)⟩
/-- All of the copy is set. -/
theorem SX.put {W u u' : World} {X Z : Nat} {o o' : Ov} {A A' : Option Addr} {c c' : Nat} (hx : u.heap[X]? = some (.cells (oc o A c) 67 (0, 0))) (hz : u.heap[Z]? = some (.cells oz 67 (0, 0))) (hne : Z ≠ X) (ho : u.ownsRow W.heap.size 9 1 (.slice A' o'.l.length c') o'.l.length (scells o'.l)) (hb : Below W.heap.size W u) (hX : W.heap.size ≤ X)
    (he : u' = put5 u X (.int .i64 o'.p) (.int .i64 o'.q) (.slice A' o'.l.length c') (.int .i64 o'.w) (.int .i64 o'.f)) : SX W u' X Z o' A' c' := by
  subst he
  exact ⟨put5_heap hx _ _ _ _ _, (put5_other hne _ _ _ _ _).trans hz, own_at ho hx (by decide) fun g hg => put5_other hg _ _ _ _ _, put5_below hb hX _ _ _ _ _⟩
/-- One cell of the copy is set. -/
theorem SX.one {W u u' : World} {X Z : Nat} {o o' : Ov} {A A' : Option Addr} {c c' : Nat} (hx : u.heap[X]? = some (.cells (oc o A c) 67 (0, 0))) (hz : u.heap[Z]? = some (.cells oz 67 (0, 0))) (hne : Z ≠ X) (ho : u.ownsRow W.heap.size 9 1 (.slice A' o'.l.length c') o'.l.length (scells o'.l)) (hb : Below W.heap.size W u) (hX : W.heap.size ≤ X) (i : Nat) (v : Value)
    (hi : (oc o A c).setIfInBounds i v = oc o' A' c') (he : u' = u.setCell ⟨X, i, none⟩ v) : SX W u' X Z o' A' c' := by
  subst he
  exact ⟨by rw [heap_setCell_same u X i _ _ v hx, hi], (Below.heap_setCell _ _ _ _ hne).trans hz, own_at ho hx (by decide) fun g hg => Below.heap_setCell _ _ _ _ hg, hb.setCell (p := ⟨X, i, none⟩) hX _⟩
/-- The result is set. -/
theorem SX.ret {W u : World} {X Z : Nat} {o : Ov} {A : Option Addr} {c : Nat} (h : SX W u X Z o A c) (hZ : W.heap.size ≤ Z) :
    (put5 u Z (.int .i64 o.p) (.int .i64 o.q) (.slice A o.l.length c) (.int .i64 o.w) (.int .i64 o.f)).ownsRow W.heap.size 9 1 (.slice A o.l.length c) o.l.length (scells o.l) ∧ Below W.heap.size W (put5 u Z (.int .i64 o.p) (.int .i64 o.q) (.slice A o.l.length c) (.int .i64 o.w) (.int .i64 o.f)) :=
  ⟨own_at h.2.2.1 h.2.1 (by decide) fun g hg => put5_other hg _ _ _ _ _, put5_below h.2.2.2 hZ _ _ _ _ _⟩
theorem al3 (W : World) (o1 o2 o3 : Obj) : (((W.alloc o1).alloc o2).alloc o3).heap[W.heap.size]? = some o1 ∧ (((W.alloc o1).alloc o2).alloc o3).heap[W.heap.size + 1]? = some o2 ∧ (((W.alloc o1).alloc o2).alloc o3).heap[W.heap.size + 2]? = some o3 ∧ Below W.heap.size W (((W.alloc o1).alloc o2).alloc o3) := by
  have h3 := heap_alloc_new ((W.alloc o1).alloc o2) o3
  refine ⟨?_, ?_, by simpa using h3, (below2 W o1 o2).alloc (by simp; omega) _⟩
  · rw [Below.heap_alloc _ _ _ (by simp; omega)]; exact heap_first W o1 o2
  · rw [Below.heap_alloc _ _ _ (by simp)]; exact heap_second W o1 o2
def begV (o : Ov) : Ov × Bool := if o.l.length = 0 then (o, false) else ({ o with w := 1, f := 1 }, true)

set_option maxRecDepth 20000 in
set_option maxHeartbeats 2000000 in
theorem ocloned_any (o : Ov) (A : Option Addr) (c : Nat) (W : World) (h : Sl W 1 A o.l.length c (scells o.l)) (hl : o.l.length ≤ 1000) :
    Calls Tryz.prog 81 #[.agg (oc o A c)] W fun e w' => ∃ A' c', e = .returned (.agg (oc o A' c')) ∧ w'.ownsRow W.heap.size 9 1 (.slice A' o.l.length c') o.l.length (scells o.l) ∧ Below W.heap.size W w' := by
  have HC := hid (fun w (hw : Below W.heap.size W w) => clone_str A o.l.length c (scells o.l) w (h.below hw) (scells_one _) (by omega))
  clear h hl
  obtain ⟨p, q, l, wt, f⟩ := o
  simp only [oc] at *
  go_enter Tryz.func81, Tryz.ntmps81
  go_upto_region 1 with (fail)
  refine at_world (fun u => u.heap[W.heap.size]? = some (.cells (oc ⟨p, q, l, wt, f⟩ A c) 67 (0, 0)) ∧ u.heap[W.heap.size + 1]? = some (.cells oz 67 (0, 0)) ∧ Below W.heap.size W u) ⟨heap_first _ _ _, heap_second _ _ _, below2 _ _ _⟩ ?_
  rintro w1 ⟨hx1, hz1, hb1⟩
  obtain ⟨⟨p0, p1, p2, p3, p4⟩, f0, f1, f2, f3, f4⟩ := five_cells hx1
  have HX1 := hid hx1
  have HZ1 := hid hz1
  have HB1 := hid hb1
  clear hx1 hz1 hb1
  go_wp2_with fail
  refine (HC.out _ HB1.out).mono ?_
  rintro e w2 ⟨v, rfl, hb2, ho2⟩
  obtain ⟨A2, c2, rfl, _⟩ := Sl.of_own ho2
  have hx2 := keep0 HX1.out hb2
  have hb9 := HB1.out.trans (hb2.mono HB1.out.size)
  have HS2 := hid (SX.one (X := W.heap.size) (Z := W.heap.size + 1) (o' := ⟨p, q, l, wt, f⟩) (A' := A2) (c' := c2) hx2 (keep0 HZ1.out hb2) (by omega) (own_mono ho2 HB1.out.size) hb9 (Nat.le_refl _) 2 (.slice A2 l.length c2) rfl rfl)
  clear p0 p1 p2 p3 p4 f0 f1 f2 f3 f4 HX1 HZ1 HB1 hb2 ho2 hb9 HC
  obtain ⟨⟨p0, p1, p2, p3, p4⟩, f0, f1, f2, f3, f4⟩ := five_cells hx2
  clear hx2
  go_upto_region 2 with (fail)
  refine at_world (fun u => SX W u W.heap.size (W.heap.size + 1) ⟨p, q, l, wt, f⟩ A2 c2) HS2.out ?_
  clear p0 p1 p2 p3 p4 f0 f1 f2 f3 f4 HS2
  rintro w3 hs3
  obtain ⟨⟨p0, p1, p2, p3, p4⟩, _⟩ := five_cells hs3.1
  obtain ⟨_, g0, g1, g2, g3, g4⟩ := five_cells hs3.2.1
  obtain ⟨⟨r0, r1, r2, r3, r4⟩, _⟩ := five_cells (put5_heap hs3.2.1 (.int .i64 p) (.int .i64 q) (.slice A2 l.length c2) (.int .i64 wt) (.int .i64 f))
  simp only [put5] at r0 r1 r2 r3 r4
  have HS3 := hid hs3
  clear hs3
  go_wp2
  have hr := HS3.out.ret (show W.heap.size ≤ W.heap.size + 1 by omega)
  exact bodyPost_ret (v := .agg #[.int .i64 p, .int .i64 q, .slice A2 l.length c2, .int .i64 wt, .int .i64 f]) (by simp [results, Tryz.results81, go_sem, r0, r1, r2, r3, r4]) rfl ⟨A2, c2, rfl, hr.1, hr.2⟩

set_option maxRecDepth 20000 in
theorem onew_any (W : World) : Calls Tryz.prog 87 #[] W fun e w' => e = .returned (.agg (oc ⟨1, 1, [], 1, 0⟩ none 0)) ∧ Below W.heap.size W w' := by
  go_enter Tryz.func87, Tryz.ntmps87
  go_upto_region 1 with (fail)
  refine at_world (fun u => u.heap[W.heap.size]? = some (.cells oz 67 (0, 0)) ∧ Below W.heap.size W u) ⟨heap_alloc_new _ _, (Below.refl _ _).alloc (Nat.le_refl _) _⟩ ?_
  rintro w1 ⟨hz1, hb1⟩
  have HZ1 := hid hz1
  have HB1 := hid hb1
  clear hz1 hb1
  go_wp2_with fail
  refine (pnew_any _).mono ?_
  rintro e w2 ⟨rfl, hb2⟩
  have hz2 := keep0 HZ1.out hb2
  have HB2 := hid (HB1.out.trans (hb2.mono HB1.out.size))
  obtain ⟨_, g0, g1, g2, g3, g4⟩ := five_cells hz2
  obtain ⟨⟨r0, r1, r2, r3, r4⟩, _⟩ := five_cells (put5_heap hz2 (.int .i64 1) (.int .i64 1) (.slice none 0 0) (.int .i64 1) (.int .i64 0))
  simp only [put5] at r0 r1 r2 r3 r4
  clear hb2 HZ1 HB1 hz2
  go_wp2
  exact bodyPost_ret (v := .agg #[.int .i64 1, .int .i64 1, .slice none 0 0, .int .i64 1, .int .i64 0]) (by simp [results, Tryz.results87, go_sem, r0, r1, r2, r3, r4]) rfl ⟨rfl, put5_below HB2.out (Nat.le_refl _) _ _ _ _ _⟩

set_option maxRecDepth 20000 in
set_option maxHeartbeats 2000000 in
theorem begun_any (o : Ov) (A : Option Addr) (c : Nat) (W : World) (hl : o.l.length ≤ 1001) :
    Calls Tryz.prog 84 #[.agg (oc o A c)] W fun e w' => e = .returned (.tuple #[.agg (oc (begV o).1 A c), .bool (begV o).2]) ∧ Below W.heap.size W w' := by
  have HV : Hid (begV o = if o.l.length = 0 then (o, false) else ({ o with w := 1, f := 1 }, true)) := hid rfl
  generalize begV o = bv at *
  obtain ⟨p, q, l, wt, f⟩ := o
  simp only [oc] at *
  go_enter Tryz.func84, Tryz.ntmps84
  go_upto_region 1 with (fail)
  refine at_world (fun u => u.heap[W.heap.size]? = some (.cells (oc ⟨p, q, l, wt, f⟩ A c) 67 (0, 0)) ∧ u.heap[W.heap.size + 1]? = some (.cells oz 67 (0, 0)) ∧ Below W.heap.size W u) ⟨heap_first _ _ _, heap_second _ _ _, below2 _ _ _⟩ ?_
  rintro w1 ⟨hx1, hz1, hb1⟩
  obtain ⟨⟨p0, p1, p2, p3, p4⟩, f0, f1, f2, f3, f4⟩ := five_cells hx1
  obtain ⟨_, g0, g1, g2, g3, g4⟩ := five_cells hz1
  have HX1 := hid hx1
  have HZ1 := hid hz1
  have HB1 := hid hb1
  clear hx1 hz1 hb1
  by_cases h0 : l.length = 0
  · have HVV : Hid (bv = (⟨p, q, l, wt, f⟩, false)) := hid (by rw [HV.out, if_pos h0])
    obtain ⟨⟨r0, r1, r2, r3, r4⟩, _⟩ := five_cells (put5_heap HZ1.out (.int .i64 p) (.int .i64 q) (.slice A l.length c) (.int .i64 wt) (.int .i64 f))
    simp only [put5] at r0 r1 r2 r3 r4
    have e0 : ((l.length : Int) == 0) = true := by rw [beq_iff_eq]; omega
    clear h0
    go_wp2
    exact bodyPost_ret (v := .tuple #[.agg #[.int .i64 p, .int .i64 q, .slice A l.length c, .int .i64 wt, .int .i64 f], .bool false]) (by simp [results, Tryz.results84, go_sem, r0, r1, r2, r3, r4]) rfl ⟨by rw [HVV.out], put5_below HB1.out (by omega) _ _ _ _ _⟩
  · have HVV : Hid (bv = (⟨p, q, l, 1, 1⟩, true)) := hid (by rw [HV.out, if_neg h0])
    have e0 : ((l.length : Int) == 0) = false := by rw [beq_eq_false_iff_ne]; omega
    clear h0
    go_wp2_with fail
    refine (start_any _ _ _).mono ?_
    rintro e w2 ⟨rfl, hb2⟩
    have hx2 := keep0 HX1.out hb2
    have HZ2 := hid (keep0 HZ1.out hb2)
    have HB2 := hid (HB1.out.trans (hb2.mono HB1.out.size))
    clear p0 p1 p2 p3 p4 f0 f1 f2 f3 f4 g0 g1 g2 g3 g4 hb2 HX1 HZ1 HB1
    have hx3 := heap_setCell_same _ W.heap.size 4 _ _ (.int .i64 1) (heap_setCell_same w2 W.heap.size 3 _ _ (.int .i64 1) hx2)
    have HX3 := hid hx3
    obtain ⟨⟨p0, p1, p2, p3, p4⟩, f0, f1, f2, f3, f4⟩ := five_cells hx2
    clear hx2 hx3
    go_upto_region 4 with (fail)
    refine at_world (fun u => u.heap[W.heap.size]? = some (.cells (oc ⟨p, q, l, 1, 1⟩ A c) 67 (0, 0)) ∧ u.heap[W.heap.size + 1]? = some (.cells oz 67 (0, 0)) ∧ Below W.heap.size W u) ⟨HX3.out, (Below.heap_setCell _ _ _ _ (by simp)).trans ((Below.heap_setCell _ _ _ _ (by simp)).trans HZ2.out), (HB2.out.setCell (p := ⟨_, 3, none⟩) (Nat.le_refl _) _).setCell (p := ⟨_, 4, none⟩) (Nat.le_refl _) _⟩ ?_
    clear p0 p1 p2 p3 p4 f0 f1 f2 f3 f4 HX3 HZ2 HB2
    rintro w3 ⟨hx3, hz3, hb3⟩
    obtain ⟨⟨p0, p1, p2, p3, p4⟩, _⟩ := five_cells hx3
    obtain ⟨_, g0, g1, g2, g3, g4⟩ := five_cells hz3
    obtain ⟨⟨r0, r1, r2, r3, r4⟩, _⟩ := five_cells (put5_heap hz3 (.int .i64 p) (.int .i64 q) (.slice A l.length c) (.int .i64 1) (.int .i64 1))
    simp only [put5] at r0 r1 r2 r3 r4
    have HB3 := hid hb3
    clear hx3 hz3 hb3
    go_wp2
    exact bodyPost_ret (v := .tuple #[.agg #[.int .i64 p, .int .i64 q, .slice A l.length c, .int .i64 1, .int .i64 1], .bool true]) (by simp [results, Tryz.results84, go_sem, r0, r1, r2, r3, r4]) rfl ⟨by rw [HVV.out], put5_below HB3.out (by omega) _ _ _ _ _⟩
end Go.Proofs.YtdphdodjidbngaaGreat

namespace Go.Proofs.YtdphdodjidbngaaGreat
open Go.RowKit Go.Sort
set_option linter.unusedVariables false
set_option linter.unusedSimpArgs false

/-- What a call answers that gives an outbox and a bool. -/
def OutR (r : Ov × Bool) (W : World) (e : Ending) (w' : World) : Prop :=
  ∃ A' c', e = .returned (.tuple #[.agg (oc r.1 A' c'), .bool r.2]) ∧ w'.ownsRow W.heap.size 9 1 (.slice A' r.1.l.length c') r.1.l.length (scells r.1.l) ∧ Below W.heap.size W w'
def putV (o : Ov) (bound : Int) (y : List UInt8) : (Ov × Bool) × Int :=
  if y = [] then ((o, false), 1) else if y ∈ o.l then ((o, false), 0) else if bound ≤ (o.l.length : Int) then ((o, false), 7) else if o.l = [] then ((⟨o.p, o.q, [y], 1, 1⟩, true), 0) else ((⟨o.p, o.q, o.l ++ [y], o.w, o.f⟩, false), 0)
def ackV (o : Ov) (peer seq : Int) : Ov × Bool := if o.l = [] ∨ peer ≠ o.p ∨ seq ≠ o.q then (o, false) else begV ⟨o.p, o.q + 1, o.l.tail, 1, 0⟩
def lrnV (o : Ov) (peer : Int) : Ov × Bool := if peer ≤ o.p then (o, false) else begV ⟨peer, 1, o.l, o.w, o.f⟩
def tikV (o : Ov) : Ov × Bool := if o.l = [] then (o, false) else (⟨o.p, o.q, o.l, tkW o.w o.f, tkL o.w o.f⟩, tkB o.w o.f)
theorem SX.retv {W u : World} {X Z : Nat} {o : Ov} {A : Option Addr} {c : Nat} (h : SX W u X Z o A c) (hZ : W.heap.size ≤ Z) (x0 x1 x3 x4 : Value) :
    (put5 u Z x0 x1 (.slice A o.l.length c) x3 x4).ownsRow W.heap.size 9 1 (.slice A o.l.length c) o.l.length (scells o.l) ∧ Below W.heap.size W (put5 u Z x0 x1 (.slice A o.l.length c) x3 x4) :=
  ⟨own_at h.2.2.1 h.2.1 (by decide) fun g hg => put5_other hg _ _ _ _ _, put5_below h.2.2.2 hZ _ _ _ _ _⟩
theorem SX.pace {W u u' : World} {X Z : Nat} {o : Ov} {A : Option Addr} {c : Nat} (h : SX W u X Z o A c) (hne : Z ≠ X) (hX : W.heap.size ≤ X) (w' f' : Int) (he : u' = (u.setCell ⟨X, 3, none⟩ (.int .i64 w')).setCell ⟨X, 4, none⟩ (.int .i64 f')) : SX W u' X Z ⟨o.p, o.q, o.l, w', f'⟩ A c := by
  have h1 := SX.one h.1 h.2.1 hne (o' := ⟨o.p, o.q, o.l, w', o.f⟩) (A' := A) (c' := c) h.2.2.1 h.2.2.2 hX 3 (.int .i64 w') rfl rfl
  exact SX.one h1.1 h1.2.1 hne (o' := ⟨o.p, o.q, o.l, w', f'⟩) (A' := A) (c' := c) h1.2.2.1 h1.2.2.2 hX 4 (.int .i64 f') rfl he
theorem begV_l (o : Ov) : (begV o).1.l = o.l := by unfold begV; split <;> rfl

set_option maxRecDepth 20000 in
set_option maxHeartbeats 4000000 in
theorem learn_any (o : Ov) (peer : Int) (A : Option Addr) (c : Nat) (W : World) (h : Sl W 1 A o.l.length c (scells o.l)) (hl : o.l.length ≤ 1000) :
    Calls Tryz.prog 105 #[.agg (oc o A c), .int .i64 peer] W (OutR (lrnV o peer) W) := by
  have HCL := hid (fun w (hw : Below W.heap.size W w) => ocloned_any o A c w (h.below hw) hl)
  have HL := hid hl
  have HV : Hid (lrnV o peer = if peer ≤ o.p then (o, false) else begV ⟨peer, 1, o.l, o.w, o.f⟩) := hid rfl
  generalize lrnV o peer = rv at *
  clear h hl
  obtain ⟨p, q, l, wt, f⟩ := o
  simp only [oc] at *
  go_enter Tryz.func105, Tryz.ntmps105
  go_upto_region 1 with (fail)
  refine at_world (fun u => u.heap[W.heap.size]? = some (.cells (oc ⟨p, q, l, wt, f⟩ A c) 67 (0, 0)) ∧ u.heap[W.heap.size + 1]? = some (.cells oz 67 (0, 0)) ∧ Below W.heap.size W u) ⟨heap_first _ _ _, heap_second _ _ _, below2 _ _ _⟩ ?_
  rintro w1 ⟨hx1, hz1, hb1⟩
  obtain ⟨⟨p0, p1, p2, p3, p4⟩, f0, f1, f2, f3, f4⟩ := five_cells hx1
  have HX1 := hid hx1
  have HZ1 := hid hz1
  have HB1 := hid hb1
  clear hx1 hz1 hb1
  go_wp2_with fail
  refine (HCL.out _ HB1.out).mono ?_
  rintro e w2 ⟨A1, c1, rfl, ho2, hb2⟩
  have hx2 := keep0 HX1.out hb2
  have HB2 := hid (HB1.out.trans (hb2.mono HB1.out.size))
  have HS2 := hid (SX.put (o' := ⟨p, q, l, wt, f⟩) hx2 (keep0 HZ1.out hb2) (by omega) (own_mono ho2 HB1.out.size) HB2.out (Nat.le_refl _) rfl)
  clear p0 p1 p2 p3 p4 f0 f1 f2 f3 f4
  obtain ⟨⟨p0, p1, p2, p3, p4⟩, f0, f1, f2, f3, f4⟩ := five_cells hx2
  clear hx2 ho2 hb2 HX1 HZ1 HB1 HCL HB2
  go_upto_region 2 with (fail)
  refine at_world (fun u => SX W u W.heap.size (W.heap.size + 1) ⟨p, q, l, wt, f⟩ A1 c1) HS2.out ?_
  clear p0 p1 p2 p3 p4 f0 f1 f2 f3 f4 HS2
  rintro w3 hs3
  have HS3 := hid hs3
  clear hs3
  by_cases h1 : peer ≤ p
  · have HVV : Hid (rv = (⟨p, q, l, wt, f⟩, false)) := hid (by rw [HV.out, if_pos h1])
    have d1 : decide (peer ≤ p) = true := decide_eq_true h1
    obtain ⟨⟨p0, p1, p2, p3, p4⟩, _⟩ := five_cells HS3.out.1
    obtain ⟨_, g0, g1, g2, g3, g4⟩ := five_cells HS3.out.2.1
    obtain ⟨⟨r0, r1, r2, r3, r4⟩, _⟩ := five_cells (put5_heap HS3.out.2.1 (.int .i64 p) (.int .i64 q) (.slice A1 l.length c1) (.int .i64 wt) (.int .i64 f))
    simp only [put5] at r0 r1 r2 r3 r4
    go_wp2
    have hr := HS3.out.ret (show W.heap.size ≤ W.heap.size + 1 by omega)
    exact bodyPost_ret (v := .tuple #[.agg #[.int .i64 p, .int .i64 q, .slice A1 l.length c1, .int .i64 wt, .int .i64 f], .bool false]) (by simp [results, Tryz.results105, go_sem, r0, r1, r2, r3, r4]) rfl ⟨A1, c1, by rw [HVV.out]; rfl, by rw [HVV.out]; exact hr.1, hr.2⟩
  · have HVV : Hid (rv = begV ⟨peer, 1, l, wt, f⟩) := hid (by rw [HV.out, if_neg h1])
    have d1 : decide (peer ≤ p) = false := decide_eq_false h1
    have HBG := hid (fun w => begun_any ⟨peer, 1, l, wt, f⟩ A1 c1 w (by have := HL.out; simp only at this ⊢; omega))
    have hbl := begV_l ⟨peer, 1, l, wt, f⟩
    generalize begV ⟨peer, 1, l, wt, f⟩ = bv at *
    obtain ⟨⟨bp, bq, bl, bw, bf⟩, bb⟩ := bv
    simp only at hbl
    subst hbl
    simp only [oc] at HBG
    obtain ⟨⟨p0, p1, p2, p3, p4⟩, f0, f1, f2, f3, f4⟩ := five_cells HS3.out.1
    have HS4 := hid (SX.one (SX.one HS3.out.1 HS3.out.2.1 (by omega) (o' := ⟨peer, q, bl, wt, f⟩) HS3.out.2.2.1 HS3.out.2.2.2 (Nat.le_refl _) 0 (.int .i64 peer) rfl rfl).1 (SX.one HS3.out.1 HS3.out.2.1 (by omega) (o' := ⟨peer, q, bl, wt, f⟩) HS3.out.2.2.1 HS3.out.2.2.2 (Nat.le_refl _) 0 (.int .i64 peer) rfl rfl).2.1 (by omega) (o' := ⟨peer, 1, bl, wt, f⟩) (SX.one HS3.out.1 HS3.out.2.1 (by omega) (o' := ⟨peer, q, bl, wt, f⟩) HS3.out.2.2.1 HS3.out.2.2.2 (Nat.le_refl _) 0 (.int .i64 peer) rfl rfl).2.2.1 (SX.one HS3.out.1 HS3.out.2.1 (by omega) (o' := ⟨peer, q, bl, wt, f⟩) HS3.out.2.2.1 HS3.out.2.2.2 (Nat.le_refl _) 0 (.int .i64 peer) rfl rfl).2.2.2 (Nat.le_refl _) 1 (.int .i64 1) rfl rfl)
    go_upto_region 5 with (fail)
    refine at_world (fun u => SX W u W.heap.size (W.heap.size + 1) ⟨peer, 1, bl, wt, f⟩ A1 c1) HS4.out ?_
    clear p0 p1 p2 p3 p4 f0 f1 f2 f3 f4 HS4 HS3
    rintro w5 hs5
    have HS5 := hid hs5
    clear hs5
    obtain ⟨⟨p0, p1, p2, p3, p4⟩, _⟩ := five_cells HS5.out.1
    go_wp2_with fail
    refine (HBG.out _).mono ?_
    rintro e w6 ⟨rfl, hb6⟩
    have HS6 := hid (HS5.out.keep hb6)
    clear hb6 HS5 p0 p1 p2 p3 p4
    obtain ⟨_, g0, g1, g2, g3, g4⟩ := five_cells HS6.out.2.1
    obtain ⟨⟨r0, r1, r2, r3, r4⟩, _⟩ := five_cells (put5_heap HS6.out.2.1 (.int .i64 bp) (.int .i64 bq) (.slice A1 bl.length c1) (.int .i64 bw) (.int .i64 bf))
    simp only [put5] at r0 r1 r2 r3 r4
    have HR := hid (SX.retv HS6.out (show W.heap.size ≤ W.heap.size + 1 by omega) (.int .i64 bp) (.int .i64 bq) (.int .i64 bw) (.int .i64 bf))
    go_wp2
    exact bodyPost_ret (v := .tuple #[.agg #[.int .i64 bp, .int .i64 bq, .slice A1 bl.length c1, .int .i64 bw, .int .i64 bf], .bool bb]) (by simp [results, Tryz.results105, go_sem, r0, r1, r2, r3, r4]) rfl ⟨A1, c1, by rw [HVV.out]; rfl, by rw [HVV.out]; exact HR.out.1, HR.out.2⟩

set_option maxRecDepth 20000 in
set_option maxHeartbeats 4000000 in
theorem otick_any (o : Ov)  (A : Option Addr) (c : Nat) (W : World) (h : Sl W 1 A o.l.length c (scells o.l)) (hl : o.l.length ≤ 1000) :
    Calls Tryz.prog 79 #[.agg (oc o A c)] W (OutR (tikV o) W) := by
  have HCL := hid (fun w (hw : Below W.heap.size W w) => ocloned_any o A c w (h.below hw) hl)
  have HL := hid hl
  have HV : Hid (tikV o = if o.l = [] then (o, false) else (⟨o.p, o.q, o.l, tkW o.w o.f, tkL o.w o.f⟩, tkB o.w o.f)) := hid rfl
  generalize tikV o = rv at *
  clear h hl
  obtain ⟨p, q, l, wt, f⟩ := o
  simp only [oc] at *
  go_enter Tryz.func79, Tryz.ntmps79
  go_upto_region 1 with (fail)
  refine at_world (fun u => u.heap[W.heap.size]? = some (.cells (oc ⟨p, q, l, wt, f⟩ A c) 67 (0, 0)) ∧ u.heap[W.heap.size + 1]? = some (.cells oz 67 (0, 0)) ∧ Below W.heap.size W u) ⟨heap_first _ _ _, heap_second _ _ _, below2 _ _ _⟩ ?_
  rintro w1 ⟨hx1, hz1, hb1⟩
  obtain ⟨⟨p0, p1, p2, p3, p4⟩, f0, f1, f2, f3, f4⟩ := five_cells hx1
  have HX1 := hid hx1
  have HZ1 := hid hz1
  have HB1 := hid hb1
  clear hx1 hz1 hb1
  go_wp2_with fail
  refine (HCL.out _ HB1.out).mono ?_
  rintro e w2 ⟨A1, c1, rfl, ho2, hb2⟩
  have hx2 := keep0 HX1.out hb2
  have HB2 := hid (HB1.out.trans (hb2.mono HB1.out.size))
  have HS2 := hid (SX.put (o' := ⟨p, q, l, wt, f⟩) hx2 (keep0 HZ1.out hb2) (by omega) (own_mono ho2 HB1.out.size) HB2.out (Nat.le_refl _) rfl)
  clear p0 p1 p2 p3 p4 f0 f1 f2 f3 f4
  obtain ⟨⟨p0, p1, p2, p3, p4⟩, f0, f1, f2, f3, f4⟩ := five_cells hx2
  clear hx2 ho2 hb2 HX1 HZ1 HB1 HCL HB2
  go_upto_region 2 with (fail)
  refine at_world (fun u => SX W u W.heap.size (W.heap.size + 1) ⟨p, q, l, wt, f⟩ A1 c1) HS2.out ?_
  clear p0 p1 p2 p3 p4 f0 f1 f2 f3 f4 HS2
  rintro w3 hs3
  have HS3 := hid hs3
  clear hs3
  by_cases h1 : l = []
  · have HVV : Hid (rv = (⟨p, q, l, wt, f⟩, false)) := hid (by rw [HV.out, if_pos h1])
    have e0 : ((l.length : Int) == 0) = true := by rw [h1]; rfl
    clear h1
    obtain ⟨⟨p0, p1, p2, p3, p4⟩, _⟩ := five_cells HS3.out.1
    obtain ⟨_, g0, g1, g2, g3, g4⟩ := five_cells HS3.out.2.1
    obtain ⟨⟨r0, r1, r2, r3, r4⟩, _⟩ := five_cells (put5_heap HS3.out.2.1 (.int .i64 p) (.int .i64 q) (.slice A1 l.length c1) (.int .i64 wt) (.int .i64 f))
    simp only [put5] at r0 r1 r2 r3 r4
    go_wp2
    have hr := HS3.out.ret (show W.heap.size ≤ W.heap.size + 1 by omega)
    exact bodyPost_ret (v := .tuple #[.agg #[.int .i64 p, .int .i64 q, .slice A1 l.length c1, .int .i64 wt, .int .i64 f], .bool false]) (by simp [results, Tryz.results79, go_sem, r0, r1, r2, r3, r4]) rfl ⟨A1, c1, by rw [HVV.out]; rfl, by rw [HVV.out]; exact hr.1, hr.2⟩
  · have HVV : Hid (rv = (⟨p, q, l, tkW wt f, tkL wt f⟩, tkB wt f)) := hid (by rw [HV.out, if_neg h1])
    have e0 : ((l.length : Int) == 0) = false := by rw [beq_eq_false_iff_ne]; intro h; exact h1 (List.eq_nil_of_length_eq_zero (by omega))
    clear h1
    have HTK := hid (fun w => tick_any wt f w)
    generalize tkW wt f = wt' at *
    generalize tkL wt f = f' at *
    generalize tkB wt f = b' at *
    obtain ⟨⟨p0, p1, p2, p3, p4⟩, f0, f1, f2, f3, f4⟩ := five_cells HS3.out.1
    go_wp2_with fail
    refine (HTK.out _).mono ?_
    rintro e w4 ⟨rfl, hb4⟩
    have HS4 := hid (HS3.out.keep hb4)
    clear hb4 HS3 HTK p0 p1 p2 p3 p4 f0 f1 f2 f3 f4
    go_upto_region 5 with (fail)
    refine at_world (fun u => u.heap[w4.heap.size]? = some (.cells #[.int .i64 wt', .int .i64 f'] 65 (0, 0)) ∧ SX W u W.heap.size (W.heap.size + 1) ⟨p, q, l, wt, f⟩ A1 c1) ⟨heap_alloc_new _ _, HS4.out.keep ((Below.refl _ _).alloc (Nat.le_refl _) _)⟩ ?_
    rintro w5 ⟨hp5, hs5⟩
    have HS5 := hid hs5
    obtain ⟨⟨p0, p1, p2, p3, p4⟩, f0, f1, f2, f3, f4⟩ := five_cells hs5.1
    obtain ⟨q0, q1, _, _⟩ := two_cells hp5
    clear hs5 hp5
    generalize w4.heap.size = P at *
    have HS6 := hid (SX.pace HS5.out (by omega) (Nat.le_refl _) wt' f' rfl)
    clear HS4 HS5
    go_upto_region 6 with (fail)
    refine at_world (fun u => SX W u W.heap.size (W.heap.size + 1) ⟨p, q, l, wt', f'⟩ A1 c1) HS6.out ?_
    clear p0 p1 p2 p3 p4 f0 f1 f2 f3 f4 q0 q1 HS6
    rintro w7 hs7
    have HS7 := hid hs7
    clear hs7
    obtain ⟨⟨p0, p1, p2, p3, p4⟩, _⟩ := five_cells HS7.out.1
    obtain ⟨_, g0, g1, g2, g3, g4⟩ := five_cells HS7.out.2.1
    obtain ⟨⟨r0, r1, r2, r3, r4⟩, _⟩ := five_cells (put5_heap HS7.out.2.1 (.int .i64 p) (.int .i64 q) (.slice A1 l.length c1) (.int .i64 wt') (.int .i64 f'))
    simp only [put5] at r0 r1 r2 r3 r4
    go_wp2
    have hr := HS7.out.ret (show W.heap.size ≤ W.heap.size + 1 by omega)
    exact bodyPost_ret (v := .tuple #[.agg #[.int .i64 p, .int .i64 q, .slice A1 l.length c1, .int .i64 wt', .int .i64 f'], .bool b']) (by simp [results, Tryz.results79, go_sem, r0, r1, r2, r3, r4]) rfl ⟨A1, c1, by rw [HVV.out]; rfl, by rw [HVV.out]; exact hr.1, hr.2⟩

set_option maxRecDepth 20000 in
set_option maxHeartbeats 4000000 in
theorem acked_any (o : Ov) (peer seq : Int) (A : Option Addr) (c : Nat) (W : World) (h : Sl W 1 A o.l.length c (scells o.l)) (hl : o.l.length ≤ 1000) (hq : o.q < 9223372036854775807) (hq0 : -9223372036854775808 ≤ o.q) :
    Calls Tryz.prog 104 #[.agg (oc o A c), .int .i64 peer, .int .i64 seq] W (OutR (ackV o peer seq) W) := by
  have HCL := hid (fun w (hw : Below W.heap.size W w) => ocloned_any o A c w (h.below hw) hl)
  have HL := hid hl
  have HV : Hid (ackV o peer seq = if o.l = [] ∨ peer ≠ o.p ∨ seq ≠ o.q then (o, false) else begV ⟨o.p, o.q + 1, o.l.tail, 1, 0⟩) := hid rfl
  generalize ackV o peer seq = rv at *
  clear h hl
  obtain ⟨p, q, l, wt, f⟩ := o
  simp only [oc] at *
  go_enter Tryz.func104, Tryz.ntmps104
  go_upto_region 1 with (fail)
  refine at_world (fun u => u.heap[W.heap.size]? = some (.cells (oc ⟨p, q, l, wt, f⟩ A c) 67 (0, 0)) ∧ u.heap[W.heap.size + 1]? = some (.cells oz 67 (0, 0)) ∧ Below W.heap.size W u) ⟨heap_first _ _ _, heap_second _ _ _, below2 _ _ _⟩ ?_
  rintro w1 ⟨hx1, hz1, hb1⟩
  obtain ⟨⟨p0, p1, p2, p3, p4⟩, f0, f1, f2, f3, f4⟩ := five_cells hx1
  have HX1 := hid hx1
  have HZ1 := hid hz1
  have HB1 := hid hb1
  clear hx1 hz1 hb1
  go_wp2_with fail
  refine (HCL.out _ HB1.out).mono ?_
  rintro e w2 ⟨A1, c1, rfl, ho2, hb2⟩
  have hx2 := keep0 HX1.out hb2
  have HB2 := hid (HB1.out.trans (hb2.mono HB1.out.size))
  have HS2 := hid (SX.put (o' := ⟨p, q, l, wt, f⟩) hx2 (keep0 HZ1.out hb2) (by omega) (own_mono ho2 HB1.out.size) HB2.out (Nat.le_refl _) rfl)
  clear p0 p1 p2 p3 p4 f0 f1 f2 f3 f4
  obtain ⟨⟨p0, p1, p2, p3, p4⟩, f0, f1, f2, f3, f4⟩ := five_cells hx2
  clear hx2 ho2 hb2 HX1 HZ1 HB1 HCL HB2
  go_upto_region 2 with (fail)
  refine at_world (fun u => SX W u W.heap.size (W.heap.size + 1) ⟨p, q, l, wt, f⟩ A1 c1) HS2.out ?_
  clear p0 p1 p2 p3 p4 f0 f1 f2 f3 f4 HS2
  rintro w3 hs3
  have HS3 := hid hs3
  clear hs3
  by_cases h1 : l = []
  · have HVV : Hid (rv = (⟨p, q, l, wt, f⟩, false)) := hid (by rw [HV.out, if_pos (.inl h1)])
    have e0 : ((l.length : Int) == 0) = true := by rw [h1]; rfl
    clear h1
    obtain ⟨⟨p0, p1, p2, p3, p4⟩, _⟩ := five_cells HS3.out.1
    obtain ⟨_, g0, g1, g2, g3, g4⟩ := five_cells HS3.out.2.1
    obtain ⟨⟨r0, r1, r2, r3, r4⟩, _⟩ := five_cells (put5_heap HS3.out.2.1 (.int .i64 p) (.int .i64 q) (.slice A1 l.length c1) (.int .i64 wt) (.int .i64 f))
    simp only [put5] at r0 r1 r2 r3 r4
    go_wp2
    have hr := HS3.out.ret (show W.heap.size ≤ W.heap.size + 1 by omega)
    exact bodyPost_ret (v := .tuple #[.agg #[.int .i64 p, .int .i64 q, .slice A1 l.length c1, .int .i64 wt, .int .i64 f], .bool false]) (by simp [results, Tryz.results104, go_sem, r0, r1, r2, r3, r4]) rfl ⟨A1, c1, by rw [HVV.out]; rfl, by rw [HVV.out]; exact hr.1, hr.2⟩
  have e0 : ((l.length : Int) == 0) = false := by rw [beq_eq_false_iff_ne]; intro h; exact h1 (List.eq_nil_of_length_eq_zero (by omega))
  by_cases h2 : peer = p
  case' neg =>
    have HVV : Hid (rv = (⟨p, q, l, wt, f⟩, false)) := hid (by rw [HV.out, if_pos (.inr (.inl h2))])
    have e2 : (peer != p) = true := by simpa using h2
    clear h1 h2
    obtain ⟨⟨p0, p1, p2, p3, p4⟩, _⟩ := five_cells HS3.out.1
    obtain ⟨_, g0, g1, g2, g3, g4⟩ := five_cells HS3.out.2.1
    obtain ⟨⟨r0, r1, r2, r3, r4⟩, _⟩ := five_cells (put5_heap HS3.out.2.1 (.int .i64 p) (.int .i64 q) (.slice A1 l.length c1) (.int .i64 wt) (.int .i64 f))
    simp only [put5] at r0 r1 r2 r3 r4
    go_wp2
    have hr := HS3.out.ret (show W.heap.size ≤ W.heap.size + 1 by omega)
    exact bodyPost_ret (v := .tuple #[.agg #[.int .i64 p, .int .i64 q, .slice A1 l.length c1, .int .i64 wt, .int .i64 f], .bool false]) (by simp [results, Tryz.results104, go_sem, r0, r1, r2, r3, r4]) rfl ⟨A1, c1, by rw [HVV.out]; rfl, by rw [HVV.out]; exact hr.1, hr.2⟩
  subst h2
  have e2 : (peer != peer) = false := by simp
  by_cases h3 : seq = q
  case' neg =>
    have HVV : Hid (rv = (⟨peer, q, l, wt, f⟩, false)) := hid (by rw [HV.out, if_pos (.inr (.inr h3))])
    have e3 : (seq != q) = true := by simpa using h3
    clear h1 h3
    obtain ⟨⟨p0, p1, p2, p3, p4⟩, _⟩ := five_cells HS3.out.1
    obtain ⟨_, g0, g1, g2, g3, g4⟩ := five_cells HS3.out.2.1
    obtain ⟨⟨r0, r1, r2, r3, r4⟩, _⟩ := five_cells (put5_heap HS3.out.2.1 (.int .i64 peer) (.int .i64 q) (.slice A1 l.length c1) (.int .i64 wt) (.int .i64 f))
    simp only [put5] at r0 r1 r2 r3 r4
    go_wp2
    have hr := HS3.out.ret (show W.heap.size ≤ W.heap.size + 1 by omega)
    exact bodyPost_ret (v := .tuple #[.agg #[.int .i64 peer, .int .i64 q, .slice A1 l.length c1, .int .i64 wt, .int .i64 f], .bool false]) (by simp [results, Tryz.results104, go_sem, r0, r1, r2, r3, r4]) rfl ⟨A1, c1, by rw [HVV.out]; rfl, by rw [HVV.out]; exact hr.1, hr.2⟩
  subst h3
  have e3 : (seq != seq) = false := by simp
  have HVV : Hid (rv = begV ⟨peer, seq + 1, l.tail, 1, 0⟩) := hid (by rw [HV.out, if_neg (by simp [h1])])
  have h0 : 0 < l.length := by
    rcases Nat.eq_zero_or_pos l.length with h | h
    · exact absurd (List.eq_nil_of_length_eq_zero h) h1
    · exact h
  have HL2 := hid HL.out
  have hll : l.length ≤ 1000 := HL.out
  have htl : l.tail.length = l.length - 1 := by simp
  have HBG := hid (fun w A c => begun_any ⟨peer, seq + 1, l.tail, 1, 0⟩ A c w (by simp only; omega))
  have hbl := begV_l ⟨peer, seq + 1, l.tail, 1, 0⟩
  generalize begV ⟨peer, seq + 1, l.tail, 1, 0⟩ = bv at *
  obtain ⟨⟨bp, bq, bl, bw, bf⟩, bb⟩ := bv
  simp only at hbl
  have hrun := run_from Tryz.underlying33 info_str A1 l.length c1 1 (by omega)
  have HD := hid (fun w (hw : SX W w W.heap.size (W.heap.size + 1) ⟨peer, seq, l, wt, f⟩ A1 c1) => (sl_own hw.2.2.1).drop 1 (by simp only; omega))
  have hsc : (scells l).drop (1 * 1) = scells l.tail := by cases l <;> simp [scells]
  simp only [hsc, ← htl] at HD
  simp only [Int.natCast_one, ← htl] at hrun
  rw [← hbl] at HD hrun htl HBG
  have hbl2 : bl.length ≤ 1000 := by omega
  have HTL := hid htl
  have i1 : (1 : Int) ≤ (l.length : Int) := by omega
  have HBL := hid hbl
  clear h0 h1 HL HL2 hsc htl hll hbl
  simp only [oc] at HBG
  have HCS := hid (fun w (hw : SX W w W.heap.size (W.heap.size + 1) ⟨peer, seq, l, wt, f⟩ A1 c1) => clone_str (dropA A1 c1 1 1) bl.length (c1 - 1) (scells bl) w (HD.out w hw) (scells_one _) (by omega))
  clear HD
  generalize dropA A1 c1 1 1 = A8 at *
  obtain ⟨⟨p0, p1, p2, p3, p4⟩, f0, f1, f2, f3, f4⟩ := five_cells HS3.out.1
  go_wp2_with fail
  refine (HCS.out _ HS3.out).mono ?_
  rintro e w4 ⟨v4, rfl, hb4, ho4⟩
  obtain ⟨A4, c4, rfl, _⟩ := Sl.of_own ho4
  have HS4 := hid (HS3.out.keep hb4)
  have HS5 := hid (SX.one HS4.out.1 HS4.out.2.1 (by omega) (o' := ⟨peer, seq, bl, wt, f⟩) (A' := A4) (c' := c4) (own_mono ho4 HS3.out.2.2.2.size) HS4.out.2.2.2 (Nat.le_refl _) 2 (.slice A4 bl.length c4) rfl rfl)
  clear p0 p1 p2 p3 p4 f0 f1 f2 f3 f4 hb4 ho4 HS3 HCS hrun
  obtain ⟨⟨p0, p1, p2, p3, p4⟩, f0, f1, f2, f3, f4⟩ := five_cells HS4.out.1
  go_upto_region 5 with (fail)
  refine at_world (fun u => SX W u W.heap.size (W.heap.size + 1) ⟨peer, seq, bl, wt, f⟩ A4 c4) HS5.out ?_
  clear p0 p1 p2 p3 p4 f0 f1 f2 f3 f4 HS4 HS5
  rintro w6 hs6
  have HS6 := hid hs6
  clear hs6
  have HS7 := hid (SX.one HS6.out.1 HS6.out.2.1 (by omega) (o' := ⟨peer, seq + 1, bl, wt, f⟩) HS6.out.2.2.1 HS6.out.2.2.2 (Nat.le_refl _) 1 (.int .i64 (seq + 1)) rfl rfl)
  obtain ⟨⟨p0, p1, p2, p3, p4⟩, f0, f1, f2, f3, f4⟩ := five_cells HS6.out.1
  have hq1 : seq ≤ 9223372036854775806 := by omega
  go_upto_region 6 with (fail)
  refine at_world (fun u => SX W u W.heap.size (W.heap.size + 1) ⟨peer, seq + 1, bl, wt, f⟩ A4 c4) HS7.out ?_
  clear p0 p1 p2 p3 p4 f0 f1 f2 f3 f4 HS6 HS7 hq hq1
  rintro w8 hs8
  have HS8 := hid hs8
  clear hs8
  obtain ⟨⟨p0, p1, p2, p3, p4⟩, f0, f1, f2, f3, f4⟩ := five_cells HS8.out.1
  go_wp2_with fail
  refine (stop_any _ _ _).mono ?_
  rintro e w9 ⟨rfl, hb9⟩
  have HS9 := hid (HS8.out.keep hb9)
  clear hb9 HS8 p0 p1 p2 p3 p4 f0 f1 f2 f3 f4
  have HSA := hid (SX.pace HS9.out (by omega) (Nat.le_refl _) 1 0 rfl)
  obtain ⟨⟨p0, p1, p2, p3, p4⟩, f0, f1, f2, f3, f4⟩ := five_cells HS9.out.1
  go_upto_region 7 with (fail)
  refine at_world (fun u => SX W u W.heap.size (W.heap.size + 1) ⟨peer, seq + 1, bl, 1, 0⟩ A4 c4) HSA.out ?_
  clear p0 p1 p2 p3 p4 f0 f1 f2 f3 f4 HS9 HSA
  rintro wb hsb
  have HSB := hid hsb
  clear hsb
  obtain ⟨⟨p0, p1, p2, p3, p4⟩, _⟩ := five_cells HSB.out.1
  go_wp2_with fail
  refine (HBG.out _ _ _).mono ?_
  rintro e wc ⟨rfl, hbc⟩
  have HSC := hid (HSB.out.keep hbc)
  clear hbc HSB p0 p1 p2 p3 p4
  obtain ⟨_, g0, g1, g2, g3, g4⟩ := five_cells HSC.out.2.1
  obtain ⟨⟨r0, r1, r2, r3, r4⟩, _⟩ := five_cells (put5_heap HSC.out.2.1 (.int .i64 bp) (.int .i64 bq) (.slice A4 bl.length c4) (.int .i64 bw) (.int .i64 bf))
  simp only [put5] at r0 r1 r2 r3 r4
  have HR := hid (SX.retv HSC.out (show W.heap.size ≤ W.heap.size + 1 by omega) (.int .i64 bp) (.int .i64 bq) (.int .i64 bw) (.int .i64 bf))
  go_wp2
  exact bodyPost_ret (v := .tuple #[.agg #[.int .i64 bp, .int .i64 bq, .slice A4 bl.length c4, .int .i64 bw, .int .i64 bf], .bool bb]) (by simp [results, Tryz.results104, go_sem, r0, r1, r2, r3, r4]) rfl ⟨A4, c4, by rw [HVV.out]; rfl, by rw [HVV.out]; exact HR.out.1, HR.out.2⟩
end Go.Proofs.YtdphdodjidbngaaGreat

namespace Go.Proofs.YtdphdodjidbngaaGreat
open Go.RowKit Go.Sort
set_option linter.unusedVariables false
set_option linter.unusedSimpArgs false

/-- What Put answers. -/
def PutR (r : (Ov × Bool) × Int) (W : World) (e : Ending) (w' : World) : Prop :=
  ∃ A' c', e = .returned (.tuple #[.agg (oc r.1.1 A' c'), .bool r.1.2, .int .i64 r.2]) ∧ w'.ownsRow W.heap.size 9 1 (.slice A' r.1.1.l.length c') r.1.1.l.length (scells r.1.1.l) ∧ Below W.heap.size W w'
theorem SX.push {W w w' : World} {X Z : Nat} {o : Ov} {A : Option Addr} {c : Nat} {v' : Value} {y : List UInt8} (h : SX W w X Z o A c) (hX : W.heap.size ≤ X) (hZ : W.heap.size ≤ Z) (hne : Z ≠ X)
    (h2 : w'.ownsRow W.heap.size 9 1 v' (o.l.length + 1) (scells o.l ++ [.string (str y)])) (h3 : Below W.heap.size W w') (h5 : ∀ g, W.heap.size ≤ g → g < w.heap.size → (Value.slice A o.l.length c).ownBlock ≠ some g → w'.heap[g]? = w.heap[g]?) :
    w'.heap[X]? = some (.cells (oc o A c) 67 (0, 0)) ∧ ∃ B' c', v' = .slice B' (o.l.length + 1) c' ∧ SX W (w'.setCell ⟨X, 2, none⟩ (.slice B' (o.l.length + 1) c')) X Z ⟨o.p, o.q, o.l ++ [y], o.w, o.f⟩ B' c' := by
  obtain ⟨B', c', rfl, _⟩ := Sl.of_own h2
  have kX : w'.heap[X]? = w.heap[X]? := h5 X hX (lt_of_block h.1) (own_blk_ne h.2.2.1 h.1 (by decide))
  have kZ : w'.heap[Z]? = w.heap[Z]? := h5 Z hZ (lt_of_block h.2.1) (own_blk_ne h.2.2.1 h.2.1 (by decide))
  have hll : (o.l ++ [y]).length = o.l.length + 1 := by simp
  exact ⟨kX.trans h.1, B', c', rfl, SX.one (kX.trans h.1) (kZ.trans h.2.1) hne (o' := ⟨o.p, o.q, o.l ++ [y], o.w, o.f⟩) (A' := B') (c' := c') (by simp only [hll, scells_snoc]; exact h2) h3 hX 2 _ (by simp [oc]) rfl⟩
theorem str_nil (y : List UInt8) (h : y = []) : (str y).toList = [] := by rw [ByteArray.toList_eq, h]; rfl
theorem str_cons (y : List UInt8) (h : y ≠ []) : ¬ (str y).toList = [] := fun h2 => h (by rw [ByteArray.toList_eq] at h2; simpa [str] using h2)
set_option maxRecDepth 20000 in
set_option maxHeartbeats 8000000 in
theorem sput_any (o : Ov) (bound : Int) (y : List UInt8) (A : Option Addr) (c : Nat) (W : World) (h : Sl W 1 A o.l.length c (scells o.l)) (hl : o.l.length ≤ 999) :
    Calls Tryz.prog 44 #[.agg (oc o A c), .int .i64 bound, .string (str y)] W (PutR (putV o bound y) W) := by
  have HCL := hid (fun w (hw : Below W.heap.size W w) => ocloned_any o A c w (h.below hw) (by omega))
  have HL := hid hl
  have HV : Hid (putV o bound y = if y = [] then ((o, false), 1) else if y ∈ o.l then ((o, false), 0) else if bound ≤ (o.l.length : Int) then ((o, false), 7) else if o.l = [] then ((⟨o.p, o.q, [y], 1, 1⟩, true), 0) else ((⟨o.p, o.q, o.l ++ [y], o.w, o.f⟩, false), 0)) := hid rfl
  generalize putV o bound y = rv at *
  clear h hl
  obtain ⟨p, q, l, wt, f⟩ := o
  simp only [oc] at *
  go_enter Tryz.func44, Tryz.ntmps44
  go_upto_region 1 with (fail)
  refine at_world (fun u => u.heap[W.heap.size]? = some (.cells (oc ⟨p, q, l, wt, f⟩ A c) 67 (0, 0)) ∧ u.heap[W.heap.size + 1]? = some (.cells #[.string (str y)] 9 (0, 0)) ∧ u.heap[W.heap.size + 2]? = some (.cells oz 67 (0, 0)) ∧ Below W.heap.size W u) (al3 _ _ _ _) ?_
  rintro w1 ⟨hx1, hy1, hz1, hb1⟩
  obtain ⟨⟨p0, p1, p2, p3, p4⟩, f0, f1, f2, f3, f4⟩ := five_cells hx1
  have HX1 := hid hx1
  have HY1 := hid hy1
  have HZ1 := hid hz1
  have HB1 := hid hb1
  clear hx1 hy1 hz1 hb1
  go_wp2_with fail
  refine (HCL.out _ HB1.out).mono ?_
  rintro e w2 ⟨A1, c1, rfl, ho2, hb2⟩
  have hx2 := keep0 HX1.out hb2
  have HB2 := hid (HB1.out.trans (hb2.mono HB1.out.size))
  have HS2 := hid (SX.put (o' := ⟨p, q, l, wt, f⟩) hx2 (keep0 HZ1.out hb2) (by omega) (own_mono ho2 HB1.out.size) HB2.out (Nat.le_refl _) rfl)
  have HY2 := hid ((put5_other (w := w2) (b := W.heap.size) (g := W.heap.size + 1) (by omega) (.int .i64 p) (.int .i64 q) (.slice A1 l.length c1) (.int .i64 wt) (.int .i64 f)).trans (keep0 HY1.out hb2))
  clear p0 p1 p2 p3 p4 f0 f1 f2 f3 f4
  obtain ⟨⟨p0, p1, p2, p3, p4⟩, f0, f1, f2, f3, f4⟩ := five_cells hx2
  clear hx2 ho2 hb2 HX1 HY1 HZ1 HB1 HCL HB2
  go_upto_region 2 with (fail)
  refine at_world (fun u => SX W u W.heap.size (W.heap.size + 2) ⟨p, q, l, wt, f⟩ A1 c1 ∧ u.heap[W.heap.size + 1]? = some (.cells #[.string (str y)] 9 (0, 0))) ⟨HS2.out, HY2.out⟩ ?_
  clear p0 p1 p2 p3 p4 f0 f1 f2 f3 f4 HS2 HY2
  rintro w3 ⟨hs3, hy3⟩
  have HS3 := hid hs3
  have yc : w3.cell? ⟨W.heap.size + 1, 0, none⟩ = some (.string (str y)) := by rw [cell_of_row _ _ _ _ _ _ hy3]; rfl
  obtain ⟨⟨p0, p1, p2, p3, p4⟩, f0, f1, f2, f3, f4⟩ := five_cells hs3.1
  have HHF := hid (hasf_any A1 c1 l (W.heap.size + 1) y w3 (sl_own hs3.2.2.1) yc)
  clear hs3 hy3
  go_wp2_with fail
  refine HHF.out.mono ?_
  rintro e w4 ⟨rfl, rfl⟩
  clear HHF
  by_cases h1 : y = []
  · have HVV : Hid (rv = ((⟨p, q, l, wt, f⟩, false), 1)) := hid (by rw [HV.out, if_pos h1])
    have hte := str_nil y h1
    have hte2 : (str y).toList.isEmpty = true := by rw [hte]; rfl
    clear h1 HV
    generalize decide (y ∈ l) = dm at *
    clear p0 p1 p2 p3 p4 f0 f1 f2 f3 f4
    obtain ⟨⟨p0, p1, p2, p3, p4⟩, _⟩ := five_cells HS3.out.1
    obtain ⟨_, g0, g1, g2, g3, g4⟩ := five_cells HS3.out.2.1
    obtain ⟨⟨r0, r1, r2, r3, r4⟩, _⟩ := five_cells (put5_heap HS3.out.2.1 (.int .i64 p) (.int .i64 q) (.slice A1 l.length c1) (.int .i64 wt) (.int .i64 f))
    simp only [put5] at r0 r1 r2 r3 r4
    go_wp2
    have hr := HS3.out.ret (show W.heap.size ≤ W.heap.size + 2 by omega)
    exact bodyPost_ret (v := .tuple #[.agg #[.int .i64 p, .int .i64 q, .slice A1 l.length c1, .int .i64 wt, .int .i64 f], .bool false, .int .i64 1]) (by simp [results, Tryz.results44, go_sem, r0, r1, r2, r3, r4]) rfl ⟨A1, c1, by rw [HVV.out]; rfl, by rw [HVV.out]; exact hr.1, hr.2⟩
  have hte := str_cons y h1
  have hte2 : (str y).toList.isEmpty = false := by simpa using hte
  by_cases h2 : y ∈ l
  case' pos =>
    have HVV : Hid (rv = ((⟨p, q, l, wt, f⟩, false), 0)) := hid (by rw [HV.out, if_neg h1, if_pos h2])
    have d2 : decide (y ∈ l) = true := decide_eq_true h2
    rw [d2]
    clear h1 h2 HV d2
    clear p0 p1 p2 p3 p4 f0 f1 f2 f3 f4
    obtain ⟨⟨p0, p1, p2, p3, p4⟩, _⟩ := five_cells HS3.out.1
    obtain ⟨_, g0, g1, g2, g3, g4⟩ := five_cells HS3.out.2.1
    obtain ⟨⟨r0, r1, r2, r3, r4⟩, _⟩ := five_cells (put5_heap HS3.out.2.1 (.int .i64 p) (.int .i64 q) (.slice A1 l.length c1) (.int .i64 wt) (.int .i64 f))
    simp only [put5] at r0 r1 r2 r3 r4
    go_wp2
    have hr := HS3.out.ret (show W.heap.size ≤ W.heap.size + 2 by omega)
    exact bodyPost_ret (v := .tuple #[.agg #[.int .i64 p, .int .i64 q, .slice A1 l.length c1, .int .i64 wt, .int .i64 f], .bool false, .int .i64 0]) (by simp [results, Tryz.results44, go_sem, r0, r1, r2, r3, r4]) rfl ⟨A1, c1, by rw [HVV.out]; rfl, by rw [HVV.out]; exact hr.1, hr.2⟩
  have d2 : decide (y ∈ l) = false := decide_eq_false h2
  rw [d2]
  clear d2
  by_cases h3 : bound ≤ (l.length : Int)
  case' pos =>
    have HVV : Hid (rv = ((⟨p, q, l, wt, f⟩, false), 7)) := hid (by rw [HV.out, if_neg h1, if_neg h2, if_pos h3])
    have d3 : decide (bound ≤ (l.length : Int)) = true := decide_eq_true h3
    clear h1 h2 HV
    clear p0 p1 p2 p3 p4 f0 f1 f2 f3 f4
    obtain ⟨⟨p0, p1, p2, p3, p4⟩, _⟩ := five_cells HS3.out.1
    obtain ⟨_, g0, g1, g2, g3, g4⟩ := five_cells HS3.out.2.1
    obtain ⟨⟨r0, r1, r2, r3, r4⟩, _⟩ := five_cells (put5_heap HS3.out.2.1 (.int .i64 p) (.int .i64 q) (.slice A1 l.length c1) (.int .i64 wt) (.int .i64 f))
    simp only [put5] at r0 r1 r2 r3 r4
    go_wp2
    have hr := HS3.out.ret (show W.heap.size ≤ W.heap.size + 2 by omega)
    exact bodyPost_ret (v := .tuple #[.agg #[.int .i64 p, .int .i64 q, .slice A1 l.length c1, .int .i64 wt, .int .i64 f], .bool false, .int .i64 7]) (by simp [results, Tryz.results44, go_sem, r0, r1, r2, r3, r4]) rfl ⟨A1, c1, by rw [HVV.out]; rfl, by rw [HVV.out]; exact hr.1, hr.2⟩
  have d3 : decide (bound ≤ (l.length : Int)) = false := decide_eq_false h3
  have HV2 : Hid (rv = if l = [] then ((⟨p, q, [y], 1, 1⟩, true), 0) else ((⟨p, q, l ++ [y], wt, f⟩, false), 0)) := hid (by rw [HV.out, if_neg h1, if_neg h2, if_neg h3])
  have hl9 : l.length ≤ 999 := HL.out
  clear h1 h2 h3 HV HL
  go_wp2_with (at_builtin; refine wpList_append_1k (W := W) rfl (.tmp 32) (.tmp 34) 33 rfl W.heap.size 9 Tryz.underlying33 info_str rfl (by omega) rfl HS3.out.2.2.1 rfl (by rfl) (by simp [Value.oneCell']) ?c1 ?c2 HS3.out.2.2.2.size HS3.out.2.2.2 ?_)
  case c1 => unfold maxLen; omega
  case c2 => omega
  intro v5 w5 h2 h3 h4 h5
  obtain ⟨hx5, A5, c5, rfl, hs5⟩ := HS3.out.push (y := y) (Nat.le_refl _) (show W.heap.size ≤ W.heap.size + 2 by omega) (by omega) h2 h3 h5
  have HS5 := hid hs5
  clear p0 p1 p2 p3 p4 f0 f1 f2 f3 f4 h2 h3 h4 h5 hs5 HS3 hte hte2 yc
  obtain ⟨⟨p0, p1, p2, p3, p4⟩, f0, f1, f2, f3, f4⟩ := five_cells hx5
  clear hx5
  go_upto_region 10 with (fail)
  refine at_world (fun u => SX W u W.heap.size (W.heap.size + 2) ⟨p, q, l ++ [y], wt, f⟩ A5 c5) HS5.out ?_
  clear p0 p1 p2 p3 p4 f0 f1 f2 f3 f4 HS5
  rintro w6 hs6
  have HS6 := hid hs6
  clear hs6
  have HL6 : Hid ((l ++ [y]).length = l.length + 1) := hid (by simp)
  by_cases h4 : l = []
  · have HVV : Hid (rv = ((⟨p, q, l ++ [y], 1, 1⟩, true), 0)) := hid (by rw [HV2.out, if_pos h4, h4]; rfl)
    have hl0 : l.length = 0 := by rw [h4]; rfl
    have HBG := hid (fun w => begun_any ⟨p, q, l ++ [y], wt, f⟩ A5 c5 w (by simp only [HL6.out]; omega))
    have hbv : begV ⟨p, q, l ++ [y], wt, f⟩ = (⟨p, q, l ++ [y], 1, 1⟩, true) := by unfold begV; rw [if_neg (by simp)]
    rw [hbv] at HBG
    have HN : Hid ((l ++ [y]).length = 1) := hid (by rw [HL6.out, hl0])
    simp only [oc] at HBG
    obtain ⟨⟨p0, p1, p2, p3, p4⟩, f0, f1, f2, f3, f4⟩ := five_cells HS6.out.1
    clear hbv h4 hl0 HL6
    generalize hL : l ++ [y] = L at *
    have HLL := hid hL
    clear hL
    have i1 : ¬ (1 : Int) < (L.length : Int) := by rw [HN.out]; omega
    have d1 : decide ((1 : Int) < (L.length : Int)) = false := decide_eq_false i1
    go_wp2_with fail
    refine (HBG.out _).mono ?_
    rintro e w7 ⟨rfl, hb7⟩
    have HS7 := hid (HS6.out.keep hb7)
    clear hb7 HS6 p0 p1 p2 p3 p4 f0 f1 f2 f3 f4 HBG
    have HS8 := hid (SX.put (o' := ⟨p, q, L, 1, 1⟩) HS7.out.1 HS7.out.2.1 (by omega) HS7.out.2.2.1 HS7.out.2.2.2 (Nat.le_refl _) rfl)
    obtain ⟨⟨p0, p1, p2, p3, p4⟩, f0, f1, f2, f3, f4⟩ := five_cells HS7.out.1
    go_upto_region 13 with (fail)
    refine at_world (fun u => SX W u W.heap.size (W.heap.size + 2) ⟨p, q, L, 1, 1⟩ A5 c5) HS8.out ?_
    clear p0 p1 p2 p3 p4 f0 f1 f2 f3 f4 HS7 HS8
    rintro w9 hs9
    have HS9 := hid hs9
    clear hs9
    obtain ⟨⟨p0, p1, p2, p3, p4⟩, _⟩ := five_cells HS9.out.1
    obtain ⟨_, g0, g1, g2, g3, g4⟩ := five_cells HS9.out.2.1
    obtain ⟨⟨r0, r1, r2, r3, r4⟩, _⟩ := five_cells (put5_heap HS9.out.2.1 (.int .i64 p) (.int .i64 q) (.slice A5 L.length c5) (.int .i64 1) (.int .i64 1))
    simp only [put5] at r0 r1 r2 r3 r4
    go_wp2
    have hr := HS9.out.ret (show W.heap.size ≤ W.heap.size + 2 by omega)
    exact bodyPost_ret (v := .tuple #[.agg #[.int .i64 p, .int .i64 q, .slice A5 L.length c5, .int .i64 1, .int .i64 1], .bool true, .int .i64 0]) (by simp [results, Tryz.results44, go_sem, r0, r1, r2, r3, r4]) rfl ⟨A5, c5, by rw [HVV.out]; rfl, by rw [HVV.out]; exact hr.1, hr.2⟩
  · have HVV : Hid (rv = ((⟨p, q, l ++ [y], wt, f⟩, false), 0)) := hid (by rw [HV2.out, if_neg h4])
    have hl0 : 0 < l.length := by
      rcases Nat.eq_zero_or_pos l.length with h | h
      · exact absurd (List.eq_nil_of_length_eq_zero h) h4
      · exact h
    have HN : Hid (1 < (l ++ [y]).length) := hid (by rw [HL6.out]; omega)
    clear h4 hl0 HL6
    generalize hL : l ++ [y] = L at *
    have HLL := hid hL
    clear hL
    have i1 : (1 : Int) < (L.length : Int) := by have := HN.out; omega
    have d1 : decide ((1 : Int) < (L.length : Int)) = true := decide_eq_true i1
    obtain ⟨⟨p0, p1, p2, p3, p4⟩, _⟩ := five_cells HS6.out.1
    obtain ⟨_, g0, g1, g2, g3, g4⟩ := five_cells HS6.out.2.1
    obtain ⟨⟨r0, r1, r2, r3, r4⟩, _⟩ := five_cells (put5_heap HS6.out.2.1 (.int .i64 p) (.int .i64 q) (.slice A5 L.length c5) (.int .i64 wt) (.int .i64 f))
    simp only [put5] at r0 r1 r2 r3 r4
    go_wp2
    have hr := HS6.out.ret (show W.heap.size ≤ W.heap.size + 2 by omega)
    exact bodyPost_ret (v := .tuple #[.agg #[.int .i64 p, .int .i64 q, .slice A5 L.length c5, .int .i64 wt, .int .i64 f], .bool false, .int .i64 0]) (by simp [results, Tryz.results44, go_sem, r0, r1, r2, r3, r4]) rfl ⟨A5, c5, by rw [HVV.out]; rfl, by rw [HVV.out]; exact hr.1, hr.2⟩

set_option maxRecDepth 20000 in
theorem sfirst_any (o : Ov) (y : List UInt8) (t : List (List UInt8)) (hy : o.l = y :: t) (A : Option Addr) (c : Nat) (W : World) (h : Sl W 1 A o.l.length c (scells o.l)) (hl : o.l.length ≤ 1000) :
    Calls Tryz.prog 86 #[.agg (oc o A c)] W fun e w' => e = .returned (.string (str y)) ∧ Below W.heap.size W w' := by
  obtain ⟨p, q, l, wt, f⟩ := o
  simp only at hy
  have h0 : 0 < l.length := by rw [hy]; simp
  obtain ⟨b, off, rfl, c1⟩ := scells_at h 0 h0
  have hg : l[0] = y := by simp [hy]
  rw [hg, Nat.add_zero] at c1
  have HB0 : Hid (Below W.heap.size W (W.alloc (.cells (oc ⟨p, q, l, wt, f⟩ (some ⟨b, off, none⟩) c) 67))) := hid ((Below.refl _ _).alloc (Nat.le_refl _) _)
  have c2 : ∀ o, (W.alloc o).cell? ⟨b, off, none⟩ = some (.string (str y)) := fun o => (World.cell?_alloc_lt W o _ (lt_of_cell c1)).trans c1
  have e0 : ((l.length : Int) == 0) = false := by rw [beq_eq_false_iff_ne]; omega
  have i0 : (0 : Int) < (l.length : Int) := by omega
  simp only [oc] at *
  clear hg hy h h0 c1
  go_enter Tryz.func86, Tryz.ntmps86
  go_wp2
  go_ret
  exact ⟨rfl, HB0.out⟩
theorem sl_nil0 (w : World) : Sl w 1 none 0 0 (scells []) := ⟨rfl, Nat.le_refl _, by unfold maxLen; omega, fun h => by simp [scells] at h⟩

end Go.Proofs.YtdphdodjidbngaaGreat

