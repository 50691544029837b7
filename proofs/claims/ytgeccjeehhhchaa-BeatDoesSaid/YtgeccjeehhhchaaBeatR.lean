/- The reference's ear, as contracts. -/
import Derived.Test.YtgeccjeehhhchaaBeatD
namespace Go.Proofs.Ytgeccjeehhhchaa
open Go.RowKit Go.Sort
set_option linter.unusedVariables false
set_option linter.unusedSimpArgs false

theorem tk_snoc' (lease : Int) (k : Nat) (l : List Int) (h : k < l.length) : icells .i64 (tk lease (l.take (k + 1))) = icells .i64 (tk lease (l.take k)) ++ [.int .i64 (if l[k] < lease then l[k] + 1 else l[k])] := by
  rw [tk_snoc lease k l h, icells_append]
  rfl
/-- What Hear lays anew, up to index k. -/
def hr2 (s : Int) (k : Nat) (l : List Int) : List Int := (hr s l).take k
theorem hr2_snoc (s : Int) (k : Nat) (l : List Int) (h : k < l.length) : icells .i64 (hr2 s (k + 1) l) = icells .i64 (hr2 s k l) ++ [.int .i64 (if (k : Int) = s then 0 else l[k])] := by
  have e : hr2 s (k + 1) l = hr2 s k l ++ [if (k : Int) = s then 0 else l[k]] := by
    have hk : k < (hr s l).length := by rw [hr_length]; exact h
    rw [hr2, hr2, List.take_add_one, List.getElem?_eq_getElem hk]
    simp only [Option.toList_some, List.append_cancel_left_eq, List.cons.injEq, and_true]
    unfold hr
    by_cases h0 : 0 ≤ s
    · obtain ⟨n, rfl⟩ := Int.eq_ofNat_of_zero_le h0
      simp only [h0, if_true, Int.toNat_natCast, List.getElem_set]
      by_cases hn : n = k
      · simp [hn]
      · have h2 : ¬ (k : Int) = (n : Int) := by omega
        simp only [hn, h2, if_false]
    · have h2 : ¬ (k : Int) = s := by omega
      simp only [h0, h2, if_false]
  rw [e, icells_append]
  rfl

set_option maxHeartbeats 1000000 in
theorem rtick37 (s t : Int) (A : Option Addr) (len cap : Nat) (l : List Int) (W : World) (h : Sl W 1 A len cap (icells .i64 l)) (hlen : len ≤ 1000) (ht : t ≤ 9223372036854775807) (hl : ∀ a ∈ l, -9223372036854775808 ≤ a) :
    Calls Try.prog 19 #[.agg #[.int .i64 s, .int .i64 t, .slice A len cap]] W fun e w' => ∃ v, e = .returned (.agg #[.int .i64 s, .int .i64 t, v]) ∧ Below W.heap.size W w' ∧ w'.ownsRow W.heap.size 3 1 v len (icells .i64 (tk t l)) := by
  obtain rfl : len = l.length := by have := h.1; rw [icells_length] at this; omega
  have HS := hid h
  have HB := hid ht
  have HL := hid hl
  clear h ht hl
  go_enter Try.func19, Try.ntmps19
  go_upto_region 3 with (fail)
  refine at_world (fun w => w.heap[W.heap.size]? = some (.cells #[.int .i64 s, .int .i64 t, .slice A l.length cap] 24 (0, 0)) ∧ w.heap[W.heap.size + 1]? = some (.cells #[.int .i64 0, .int .i64 0, .slice none 0 0] 24 (0, 0)) ∧ Below W.heap.size W w ∧ w.heap.size = W.heap.size + 2) ⟨heap_first _ _ _, heap_second _ _ _, below2 _ _ _, by simp⟩ ?_
  rintro w0 ⟨k0, k1, hb0, hz⟩
  have K0 := hid (And.intro k0 (And.intro k1 (And.intro hb0 hz)))
  have HA := hid (HS.out.below hb0)
  clear k0 k1 hb0 hz
  go_loopw [3, 4, 5] (fun v i _ wr => ∃ k : Nat, k ≤ l.length ∧ i = .int .i64 (k : Int) ∧ Hid (wr.ownsRow w0.heap.size 3 1 v k (icells .i64 (tk t (l.take k)))) ∧ Hid (Below w0.heap.size w0 wr)) (fun _ i _ _ => l.length - (intOf i).toNat)
  case atStart => exact ⟨0, by omega, rfl, by rw [show tk t (l.take 0) = [] from rfl]; exact World.ownsRow_nil _ _ _ _, Below.refl _ _⟩
  case round =>
    obtain ⟨k, hk, rfl, HO, HBr⟩ := hrel
    obtain ⟨⟨p0, p1, p2⟩, f0, f1, f2⟩ := three_cells (keep0 K0.out.1 HBr.out)
    by_cases hlt : k < l.length
    · have hlt2 : (k : Int) < (l.length : Int) := by omega
      obtain ⟨b, off, rfl, hc⟩ := Sl.at (HA.out.below HBr.out) k (by rw [icells_length]; exact hlt)
      have e1 : (icells .i64 l)[k]'(by rw [icells_length]; exact hlt) = .int .i64 l[k] := by simp [icells]
      rw [e1] at hc
      clear e1
      have HD : Hid (-9223372036854775808 ≤ l[k]) := HL.out _ (List.getElem_mem hlt)
      have HT := hid (tk_snoc' t k l hlt)
      generalize l[k] = a at hc HT HD
      by_cases ha : a < t
      · rw [if_pos ha] at HT
        have hd := HD.out
        have hd2 : a < 9223372036854775807 := by have := HB.out; omega
        go_wp2_with (at_builtin; refine wpList_append_1 (W := w0) rfl (.tmp 24) (.tmp 26) 22 rfl w0.heap.size 3 Try.underlying22 info_int rfl (by omega) rfl HO.out rfl rfl (by simp; rfl) ?c1 ?c2 HBr.out.size HBr.out ?_)
        case c1 => unfold maxLen; omega
        case c2 => omega
        · intro v' w' h2 h3 h4
          have HO2 := hid h2; clear h2
          go_wp2
          go_roundw
          case rel => exact ⟨k + 1, by omega, by go_num, by rw [Hid, HT.out]; exact HO2.out, h3⟩
          case measure => simp [intOf]; omega
      · rw [if_neg ha] at HT
        go_wp2_with (at_builtin; refine wpList_append_1 (W := w0) rfl (.tmp 24) (.tmp 26) 22 rfl w0.heap.size 3 Try.underlying22 info_int rfl (by omega) rfl HO.out rfl rfl (by simp; rfl) ?c1 ?c2 HBr.out.size HBr.out ?_)
        case c1 => unfold maxLen; omega
        case c2 => omega
        · intro v' w' h2 h3 h4
          have HO2 := hid h2; clear h2
          go_wp2
          go_roundw
          case rel => exact ⟨k + 1, by omega, by go_num, by rw [Hid, HT.out]; exact HO2.out, h3⟩
          case measure => simp [intOf]; omega
    · obtain rfl : k = l.length := by omega
      obtain ⟨a', c', rfl, _⟩ := Sl.of_own HO.out
      obtain ⟨⟨q0, q1, q2⟩, g0, g1, g2⟩ := three_cells (keep0 K0.out.2.1 HBr.out)
      have hz : W.heap.size + 2 ≤ w0.heap.size := by have := K0.out.2.2.2; omega
      have hb := K0.out.2.2.1.trans (HBr.out.mono (by omega))
      have HZ := hid hz
      clear hz
      go_wp2
      refine bodyPost_ret (v := .agg #[.int .i64 s, .int .i64 t, .slice a' l.length c']) (by simp [results, Try.results19, go_sem, q0, q1, q2]) rfl ⟨.slice a' l.length c', rfl, (by repeat' (first | with_reducible exact hb | with_reducible refine Below.setCell ?_ (by simp) _)), ?_⟩
      have h2 := HO.out
      rw [List.take_length] at h2
      have h3 := HZ.out
      exact own_mono (by repeat' (first | with_reducible exact h2 | with_reducible refine own_setOld ?_ _ _ (by simp; omega))) (show W.heap.size ≤ w0.heap.size by omega)

set_option maxHeartbeats 1000000 in
theorem rhear37 (s t : Int) (s2 : Int) (A : Option Addr) (len cap : Nat) (l : List Int) (W : World) (h : Sl W 1 A len cap (icells .i64 l)) (hlen : len ≤ 1000) (ht : t ≤ 9223372036854775807) (hl : ∀ a ∈ l, -9223372036854775808 ≤ a) :
    Calls Try.prog 20 #[.agg #[.int .i64 s, .int .i64 t, .slice A len cap], .int .i64 s2] W fun e w' => ∃ v, e = .returned (.agg #[.int .i64 s, .int .i64 t, v]) ∧ Below W.heap.size W w' ∧ w'.ownsRow W.heap.size 3 1 v len (icells .i64 (hr s2 l)) := by
  obtain rfl : len = l.length := by have := h.1; rw [icells_length] at this; omega
  have HS := hid h
  have HB := hid ht
  have HL := hid hl
  clear h ht hl
  go_enter Try.func20, Try.ntmps20
  go_upto_region 3 with (fail)
  refine at_world (fun w => w.heap[W.heap.size]? = some (.cells #[.int .i64 s, .int .i64 t, .slice A l.length cap] 24 (0, 0)) ∧ w.heap[W.heap.size + 1]? = some (.cells #[.int .i64 0, .int .i64 0, .slice none 0 0] 24 (0, 0)) ∧ Below W.heap.size W w ∧ w.heap.size = W.heap.size + 2) ⟨heap_first _ _ _, heap_second _ _ _, below2 _ _ _, by simp⟩ ?_
  rintro w0 ⟨k0, k1, hb0, hz⟩
  have K0 := hid (And.intro k0 (And.intro k1 (And.intro hb0 hz)))
  have HA := hid (HS.out.below hb0)
  clear k0 k1 hb0 hz
  go_loopw [5, 6, 7] (fun v i _ wr => ∃ k : Nat, k ≤ l.length ∧ i = .int .i64 (k : Int) ∧ Hid (wr.ownsRow w0.heap.size 3 1 v k (icells .i64 (hr2 s2 k l))) ∧ Hid (Below w0.heap.size w0 wr)) (fun _ i _ _ => l.length - (intOf i).toNat)
  case atStart => exact ⟨0, by omega, rfl, by rw [show hr2 s2 0 l = [] from rfl]; exact World.ownsRow_nil _ _ _ _, Below.refl _ _⟩
  case round =>
    obtain ⟨k, hk, rfl, HO, HBr⟩ := hrel
    obtain ⟨⟨p0, p1, p2⟩, f0, f1, f2⟩ := three_cells (keep0 K0.out.1 HBr.out)
    by_cases hlt : k < l.length
    · have hlt2 : (k : Int) < (l.length : Int) := by omega
      obtain ⟨b, off, rfl, hc⟩ := Sl.at (HA.out.below HBr.out) k (by rw [icells_length]; exact hlt)
      have e1 : (icells .i64 l)[k]'(by rw [icells_length]; exact hlt) = .int .i64 l[k] := by simp [icells]
      rw [e1] at hc
      clear e1
      have HD : Hid (-9223372036854775808 ≤ l[k]) := HL.out _ (List.getElem_mem hlt)
      have HT := hid (hr2_snoc s2 k l hlt)
      generalize l[k] = a at hc HT HD
      by_cases ha : (k : Int) = s2
      · rw [if_pos ha] at HT
        have ha2 : ((k : Int) == s2) = true := by simpa using ha
        have HH := hid ha
        clear ha
        go_wp2_with (at_builtin; refine wpList_append_1 (W := w0) rfl (.tmp 23) (.tmp 25) 22 rfl w0.heap.size 3 Try.underlying22 info_int rfl (by omega) rfl HO.out rfl rfl (by simp; rfl) ?c1 ?c2 HBr.out.size HBr.out ?_)
        case c1 => unfold maxLen; omega
        case c2 => omega
        · intro v' w' h2 h3 h4
          have HO2 := hid h2; clear h2
          go_wp2
          go_roundw
          case rel => exact ⟨k + 1, by omega, by go_num, by rw [Hid, HT.out]; exact HO2.out, h3⟩
          case measure => simp [intOf]; omega
      · rw [if_neg ha] at HT
        have ha2 : ((k : Int) == s2) = false := by simpa using ha
        go_wp2_with (at_builtin; refine wpList_append_1 (W := w0) rfl (.tmp 23) (.tmp 25) 22 rfl w0.heap.size 3 Try.underlying22 info_int rfl (by omega) rfl HO.out rfl rfl (by simp; rfl) ?c1 ?c2 HBr.out.size HBr.out ?_)
        case c1 => unfold maxLen; omega
        case c2 => omega
        · intro v' w' h2 h3 h4
          have HO2 := hid h2; clear h2
          go_wp2
          go_roundw
          case rel => exact ⟨k + 1, by omega, by go_num, by rw [Hid, HT.out]; exact HO2.out, h3⟩
          case measure => simp [intOf]; omega
    · obtain rfl : k = l.length := by omega
      obtain ⟨a', c', rfl, _⟩ := Sl.of_own HO.out
      obtain ⟨⟨q0, q1, q2⟩, g0, g1, g2⟩ := three_cells (keep0 K0.out.2.1 HBr.out)
      have hz : W.heap.size + 2 ≤ w0.heap.size := by have := K0.out.2.2.2; omega
      have hb := K0.out.2.2.1.trans (HBr.out.mono (by omega))
      have HZ := hid hz
      clear hz
      go_wp2
      refine bodyPost_ret (v := .agg #[.int .i64 s, .int .i64 t, .slice a' l.length c']) (by simp [results, Try.results20, go_sem, q0, q1, q2]) rfl ⟨.slice a' l.length c', rfl, (by repeat' (first | with_reducible exact hb | with_reducible refine Below.setCell ?_ (by simp) _)), ?_⟩
      have h2 := HO.out
      rw [show hr2 s2 l.length l = hr s2 l by rw [hr2, List.take_of_length_le (by rw [hr_length]; omega)]] at h2
      have h3 := HZ.out
      exact own_mono (by repeat' (first | with_reducible exact h2 | with_reducible refine own_setOld ?_ _ _ (by simp; omega))) (show W.heap.size ≤ w0.heap.size by omega)
end Go.Proofs.Ytgeccjeehhhchaa
