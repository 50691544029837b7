/- slices.Delete and slices.Index at tasks: contracts. -/
import Derived.Test.YtadjmgmdnekllaaSltC
import Derived.Test.YtadjmgmdnekllaaQueD
import Derived.Test.YtadjmgmdnekllaaSlice
import Derived.Deep.RegionLaw
namespace Go.Proofs.Ytadjmgmdnekllaa
open Go.RowKit Go.Sort
set_option linter.unusedVariables false
set_option linter.unusedSimpArgs false

def layV : List Value → Nat → List Value → List Value
  | xs, _, [] => xs
  | xs, o, v :: vs => layV (xs.set o v) (o + 1) vs
theorem layV_eq : ∀ (vs : List Value) (xs : List Value) (o : Nat), o + vs.length ≤ xs.length → layV xs o vs = xs.take o ++ vs ++ xs.drop (o + vs.length)
  | [], xs, o, _ => by simp [layV]
  | v :: vs, xs, o, h => by
    simp only [List.length_cons] at h
    rw [layV, layV_eq vs (xs.set o v) (o + 1) (by rw [List.length_set]; omega)]
    have h1 : (xs.set o v).take (o + 1) = xs.take o ++ [v] := by
      rw [List.take_set, List.take_succ_eq_append_getElem (show o < xs.length by omega), List.set_append_right _ _ (by rw [List.length_take]; omega)]
      congr 1
      rw [List.length_take, Nat.min_eq_left (by omega), Nat.sub_self]
      rfl
    have h2 : (xs.set o v).drop (o + 1 + vs.length) = xs.drop (o + (vs.length + 1)) := by
      rw [List.drop_set_of_lt (by omega)]
      congr 1
      omega
    rw [h1, h2]
    simp
theorem own_setCells9 {base e s n cap g : Nat} (hg : base ≤ g) : ∀ (vs : List Value) (o : Nat) (w : World) (xs : List Value), w.ownsRow base e s (.slice (some ⟨g, 0, none⟩) n cap) n xs → (w.setCells g o vs).ownsRow base e s (.slice (some ⟨g, 0, none⟩) n cap) n (layV xs o vs) ∧ Below base w (w.setCells g o vs) ∧ ∀ k, k ≠ g → (w.setCells g o vs).heap[k]? = w.heap[k]?
  | [], o, w, xs, h => ⟨h, Below.refl _ _, fun _ _ => rfl⟩
  | v :: vs, o, w, xs, h => by
    obtain ⟨h1, h2, h3⟩ := own_setCells9 hg vs (o + 1) (w.setCell ⟨g, o, none⟩ v) (xs.set o v) (h.stored o v).1
    exact ⟨h1, ((Below.refl base w).setCell (p := ⟨g, o, none⟩) hg v).trans h2, fun k hk => (h3 k hk).trans (Below.heap_setCell _ _ _ _ hk)⟩
theorem zero_task (w : World) : (zeroValue 119).run Try.prog w = .ok (.agg #[.int .i64 0, .int .i64 0]) w := by
  obtain ⟨i, hi, hz, _, _⟩ := info_parts info_task
  simp [zeroValue, typeInfo, hi, hz]

set_option maxRecDepth 20000 in
set_option maxHeartbeats 4000000 in
theorem delT_any (cap base g m : Nat) (l : List (Int × Int)) (k : Nat) (W : World) (hm : l.length = m + 1) (h : W.ownsRow base 119 2 (.slice (some ⟨g, 0, none⟩) (m + 1) cap) (m + 1) (pcells l)) (hk : k ≤ m) (hl : m ≤ 100000) (hbw : base ≤ W.heap.size) :
    Calls Try.prog 124 #[.slice (some ⟨g, 0, none⟩) ((m + 1 : Nat)) cap, .int .i64 (k : Int), .int .i64 ((k : Int) + 1)] W fun e w' => e = .returned (.slice (some ⟨g, 0, none⟩) m cap) ∧ w'.ownsRow base 119 2 (.slice (some ⟨g, 0, none⟩) m cap) m (pcells (l.eraseIdx k)) ∧ Below base W w' ∧ ∀ j, j ≠ g → w'.heap[j]? = W.heap[j]? := by
  have hgb : base ≤ g := by
    rcases h.2 with ⟨h', _⟩ | ⟨g', _, _, h', hb, _⟩
    · simp at h'
    · simp only [Value.slice.injEq, Option.some.injEq, Addr.mk.injEq, and_true, true_and] at h'
      rw [h'.1]; exact hb
  have hsl := sl_own h
  have hcap : m + 1 ≤ cap := hsl.2.1
  have hcap9 : cap ≤ 9223372036854775807 := by have := hsl.2.2.1; unfold maxLen at this; omega
  have hi := info_parts info_task
  obtain ⟨i0, hi0, hz0, hz1, hz2⟩ := hi
  have hdr := hsl.drop (k + 1) (by omega)
  have hrun1 := run_to (P := Try.prog) Try.underlying111 info_task (some ⟨g, 0, none⟩) (m + 1) cap k (by omega)
  have hrun2 := run_from (P := Try.prog) Try.underlying111 info_task (some ⟨g, 0, none⟩) (m + 1) cap (k + 1) (by omega)
  have hcast : ((k + 1 : Nat) : Int) = (k : Int) + 1 := by omega
  rw [hcast] at hrun2
  obtain ⟨ad, had⟩ : ∃ ad, dropA (some ⟨g, 0, none⟩) cap (k + 1) 2 = some ad := by
    unfold dropA
    split
    · exact ⟨_, rfl⟩
    · exact ⟨_, rfl⟩
  rw [had] at hrun2 hdr
  obtain ⟨news, hnews⟩ : ∃ news, news = (pcells l).drop ((k + 1) * 2) := ⟨_, rfl⟩
  rw [← hnews] at hdr
  have hnl : news.length = (m - k) * 2 := by rw [hnews, List.length_drop, pcells_length, hm]; omega
  have hmk : m + 1 - (k + 1) = m - k := by omega
  rw [hmk] at hrun2 hdr
  have s1 : Hid (news.length = (m - k) * 2) := hnl
  have s2 : Hid (∀ u ∈ news, u.oneCell' = true) := by
    intro u hu
    rw [hnews] at hu
    exact pcells_one l u (List.mem_of_mem_drop hu)
  have hsrc : Hid (∀ t u, news[t]? = some u → W.drew.cell? (ad.add t) = some u) := by
    intro t u hu
    have ht := (List.getElem?_eq_some_iff.1 hu).1
    obtain ⟨b, off, ha, hc⟩ := hdr.2.2.2 (by omega)
    cases ha
    rw [add_none]
    exact (hc t ht).trans hu
  have s3 : Hid (∀ t, t < news.length → (W.drew.cell? ⟨g, 0 + k * 2 + t, none⟩).isSome = true ∧ W.drew.frozen? ⟨g, 0 + k * 2 + t, none⟩ = false) := by
    intro t ht
    obtain ⟨b, off, ha, hc⟩ := hsl.2.2.2 (by rw [pcells_length]; omega)
    cases ha
    have hlt : k * 2 + t < (pcells l).length := by rw [pcells_length, hm]; omega
    have h8 := hc (k * 2 + t) hlt
    rw [List.getElem?_eq_getElem hlt] at h8
    refine ⟨?_, ?_⟩
    · rw [show 0 + k * 2 + t = 0 + (k * 2 + t) by omega]
      show (W.cell? _).isSome = true
      rw [h8]; rfl
    · exact h.frozenAt (0 + k * 2 + t)
  obtain ⟨q1, q2, q3⟩ := own_setCells9 hgb news (0 + k * 2) W.drew (pcells l) h
  obtain ⟨W1, hW1⟩ : ∃ W1, W1 = W.drew.setCells g (0 + k * 2) news := ⟨_, rfl⟩
  rw [← hW1] at q1 q2 q3
  have hW : Hid (W1 = W.drew.setCells g (0 + k * 2) news) := hW1
  obtain ⟨w4, hrunC, c2, c3, c4, c5⟩ := run_clear_own (P := Try.prog) (ty := 0) (s := 2) Try.underlying111 zero_task rfl (fun u hu => by simp [Value.cells] at hu; subst hu; rfl) (by omega) q1 m (by omega)
  have hlay : (layV (pcells l) (0 + k * 2) news).take (m * 2) = pcells (l.eraseIdx k) := by
    rw [layV_eq _ _ _ (by rw [hnl, pcells_length, hm]; omega), hnl, Nat.zero_add]
    have hA : ((pcells l).take (k * 2) ++ news).length = m * 2 := by rw [List.length_append, hnl, List.length_take, pcells_length, hm]; omega
    rw [List.take_append_of_le_length (by omega), List.take_of_length_le (by omega), hnews, pcells_take, pcells_drop, ← pcells_append, List.eraseIdx_eq_take_drop_succ]
  rw [hlay] at c2
  have hrun3 := run_mid (P := Try.prog) Try.underlying111 info_task (some ⟨g, 0, none⟩) m cap m (m + 1) (by omega) (by omega)
  have hkm : k + (m - k) = m := by omega
  have HKM := hid hkm
  have HO4 := hid c2
  have HB4 := hid ((below_drew (Below.refl base W)).trans (q2.trans c3))
  have HK4 : Hid (∀ j, j ≠ g → w4.heap[j]? = W.heap[j]?) := hid (fun j hj => (c4 j hj).trans (q3 j hj))
  have hne : ((k : Int) == (k : Int) + 1) = false := by rw [beq_eq_false_iff_ne]; omega
  have hki : (k : Int) + 1 ≤ ((m + 1 : Nat) : Int) := by omega
  have hmi : ((m + 1 : Nat) : Int) ≤ (cap : Int) := by omega
  have hkc : k ≤ cap := by omega
  clear c2 c3 c4 c5 q1 q2 q3 hW1 hlay hnl hsl hdr h had hnews hmk hcast hm hkm
  have hmn : ((m : Nat) : Int) ≤ ((m + 1 : Nat) : Int) := by omega
  have hmn2 : m ≤ m + 1 := by omega
  have hkn2 : k + 1 ≤ m + 1 := by omega
  generalize hnn : m + 1 = n at *
  clear hnn
  go_enter Try.func124, Try.ntmps124
  go_upto_region 5 with (fail)
  go_region_law (refine step_append_room rfl (.tmp 22) (.tmp 25) 111 rfl 119 i0 2 Try.underlying111 hi0 hz1 g 0 k cap (by simp [Act.eval, Act.put]) ad (m - k) (cap - (k + 1)) news (by simp [Act.eval, Act.put]) s1.out hsrc.out s2.out (by omega) s3.out ?_; rw [← hW.out, HKM.out])
  go_wp2
  go_ret
  exact ⟨rfl, HO4.out, HB4.out, HK4.out⟩
end Go.Proofs.Ytadjmgmdnekllaa
