/- The page's example of rec; records that come in; RecSizes. -/
import Derived.Test.YtkepfkfoblocgaaRecE
import Derived.BigQuiet
import Derived.Lib.QuietBelow
namespace Go.Proofs.Ytkepfkfoblocgaa
open Go.RowKit Go.Sort
set_option linter.unusedVariables false
set_option linter.unusedSimpArgs false

theorem rd_texts {w : World} {A : Option Addr} {len cap : Nat} (h : Rd Try.prog w 43 [.slice A len cap]) : ∃ l : List (List UInt8), l.length = len ∧ TxAt w A cap l := by
  obtain ⟨h1, h2, h3⟩ := Rd.slice_plain Try.underlying43 (n := 1) (by kernel_rfl) (by omega) h
  by_cases h0 : len = 0
  · subst h0
    exact ⟨[], rfl, Sl.nil _ _ _ _ h2, by simp⟩
  · obtain ⟨b, off, rfl, z, hz⟩ := h3 (by omega)
    have hs : ∀ i, i < len → ∃ s : ByteArray, z i = [.string s] ∧ s.size ≤ maxLen := fun i hi => Rd.string Try.underlying9 (hz i hi).2.1
    let f : Nat → List UInt8 := fun i => match z i with | [.string s] => s.data.toList | _ => []
    have hf : ∀ i, i < len → z i = [.string (str (f i))] ∧ (f i).length ≤ maxLen := fun i hi => by
      obtain ⟨s, e, hsz⟩ := hs i hi
      have e2 : f i = s.data.toList := by simp only [f, e]
      refine ⟨by rw [e, e2, str_back], ?_⟩
      rw [e2, Array.length_toList]
      exact hsz
    refine ⟨(List.range len).map f, by simp, ⟨by simp [scells], by simpa using h1, h2, fun _ => ⟨b, off, rfl, fun i hi => ?_⟩⟩, ?_⟩
    · rw [scells_length, List.length_map, List.length_range] at hi
      have h9 := (hz i hi).2.2 0 (by omega)
      rw [(hf i hi).1, Nat.mul_one, Nat.add_zero] at h9
      rw [h9]
      simp [scells, hi]
    · intro s hs2
      simp only [List.mem_map, List.mem_range] at hs2
      obtain ⟨i, hi, rfl⟩ := hs2
      exact (hf i hi).2
theorem rd_rec {w : World} {a : Array Value} (hn : a.size = 7) (h : Rd Try.prog w 45 a.toList) : ∃ (x : Rc) (A : Option Addr) (c : Nat), a = rcc x A c ∧ TxAt w A c x.ns := by
  have hc : Try.prog.cellsOf 3 = 1 := by kernel_rfl
  have hc2 : Try.prog.cellsOf 43 = 1 := by kernel_rfl
  obtain ⟨_, hf⟩ := Rd.struct Try.underlying45 h
  have f0 : Rd Try.prog w 3 ((a.toList.drop 0).take (Try.prog.cellsOf 3)) := hf 0 _ rfl
  have f1 : Rd Try.prog w 3 ((a.toList.drop 1).take (Try.prog.cellsOf 3)) := hf 1 _ rfl
  have f2 : Rd Try.prog w 3 ((a.toList.drop 2).take (Try.prog.cellsOf 3)) := hf 2 _ rfl
  have f3 : Rd Try.prog w 3 ((a.toList.drop 3).take (Try.prog.cellsOf 3)) := hf 3 _ rfl
  have f4 : Rd Try.prog w 3 ((a.toList.drop 4).take (Try.prog.cellsOf 3)) := hf 4 _ rfl
  have f5 : Rd Try.prog w 3 ((a.toList.drop 5).take (Try.prog.cellsOf 3)) := hf 5 _ rfl
  have f6 : Rd Try.prog w 43 ((a.toList.drop 6).take (Try.prog.cellsOf 43)) := hf 6 _ rfl
  rw [hc] at f0 f1 f2 f3 f4 f5
  rw [hc2] at f6
  obtain ⟨k, e0, _⟩ := Rd.int Try.underlying3 f0
  obtain ⟨j, e1, _⟩ := Rd.int Try.underlying3 f1
  obtain ⟨t, e2, _⟩ := Rd.int Try.underlying3 f2
  obtain ⟨i, e3, _⟩ := Rd.int Try.underlying3 f3
  obtain ⟨p, e4, _⟩ := Rd.int Try.underlying3 f4
  obtain ⟨s, e5, _⟩ := Rd.int Try.underlying3 f5
  obtain ⟨A, len, cap, e6⟩ : ∃ A len cap, (a.toList.drop 6).take 1 = [.slice A len cap] := by
    rcases Rd.slice Try.underlying43 f6 with h1 | ⟨ad, len, cap, _, h1, _⟩
    · exact ⟨_, _, _, h1⟩
    · exact ⟨_, _, _, h1⟩
  rw [e6] at f6
  obtain ⟨l, rfl, hl⟩ := rd_texts f6
  have one : ∀ {i : Nat} {v : Value}, (a.toList.drop i).take 1 = [v] → a.toList[i]? = some v := fun {i v} h => by
    have h9 : ((a.toList.drop i).take 1)[0]? = some v := by rw [h]; rfl
    rw [List.getElem?_take, if_pos (by omega), List.getElem?_drop, Nat.add_zero] at h9
    exact h9
  have g0 := one e0
  have g1 := one e1
  have g2 := one e2
  have g3 := one e3
  have g4 := one e4
  have g5 := one e5
  have g6 := one e6
  refine ⟨⟨k, j, t, i, p, s, l⟩, A, cap, ?_, hl⟩
  apply Array.ext'
  apply List.ext_getElem?
  intro j
  have hl : a.toList.length = 7 := by rw [Array.length_toList]; exact hn
  rcases (by omega : j = 0 ∨ j = 1 ∨ j = 2 ∨ j = 3 ∨ j = 4 ∨ j = 5 ∨ j = 6 ∨ 7 ≤ j) with rfl | rfl | rfl | rfl | rfl | rfl | rfl | h9
  · exact g0
  · exact g1
  · exact g2
  · exact g3
  · exact g4
  · exact g5
  · exact g6
  · rw [List.getElem?_eq_none (by omega), List.getElem?_eq_none (by simpa [rcc] using h9)]
theorem frP_len (l : List UInt8) (h : l.length ≤ 4096) : (frP l).length = (numB l.length).length + l.length + 4 := by
  unfold frP
  rw [if_neg (by omega), seal_len, List.length_append]
theorem numB_one (n : Nat) (h : n < 248) : (numB n).length = 1 := by unfold numB; rw [if_pos h]; rfl
theorem pt_small {hb : Bool} {lo hi n : Int} (h : inS hb lo hi n = true) (h0 : 0 ≤ lo) (h1 : hi ≤ 200) : (pt hb n).length = if hb then 1 else 0 := by
  unfold pt
  cases hb with
  | false => rfl
  | true =>
    simp only [inS, if_true, decide_eq_true_eq] at h
    rw [if_pos rfl, if_pos rfl, numB_one _ (by unfold cl; omega)]
theorem rb_len_k (x : Rc) (h : chkR x = true) (hk : x.k ≠ 1) : (rb x).length = (numB (cl x.k)).length + (numB (cl x.j)).length + (if hasR x.k 1 then 1 else 0) + (if hasR x.k 2 then 1 else 0) + (if hasR x.k 3 then 1 else 0) + (if hasR x.k 4 then 1 else 0) := by
  obtain ⟨hK, _, _, h1, h2, h3, h4, h5, _⟩ := chkR_parts h
  have e5 : hasR x.k 5 = false := by
    rcases kinds x.k with e | e | e | e | e
    · exact absurd e hk
    · rw [e]; rfl
    · rw [e]; rfl
    · rw [e]; rfl
    · exact hasR_out e 5
  rw [e5] at h5
  have hns : x.ns = [] := by
    simp only [inS, if_false, beq_iff_eq, Bool.false_eq_true] at h5
    exact List.eq_nil_of_length_eq_zero (by omega)
  unfold rb headB
  rw [hns, e5]
  simp only [List.length_append, pt_small h1 (by omega) (by omega), pt_small h2 (by omega) (by omega), pt_small h3 (by omega) (by omega), pt_small h4 (by omega) (by omega)]
  simp [txs, pt]
theorem size_same (x y : Rc) (hx : chkR x = true) (hy : chkR y = true) (hk : x.k = y.k) (h1 : x.k ≠ 1) (hj : x.j = y.j) : sizeR x = sizeR y := by
  have e : (rb x).length = (rb y).length := by rw [rb_len_k x hx h1, rb_len_k y hy (by rw [← hk]; exact h1), hk, hj]
  unfold sizeR
  rw [if_pos hx, if_pos hy, frP_len _ (by have := rb_len x hx; omega), frP_len _ (by have := rb_len y hy; omega), e]

theorem rb_ex : chkR ⟨3, 5, 2, 0, 0, 0, []⟩ = true ∧ rb ⟨3, 5, 2, 0, 0, 0, []⟩ = [3, 5, 2] := by decide +kernel
theorem size_ex : sizeR ⟨3, 5, 2, 0, 0, 0, []⟩ = 8 := by
  unfold sizeR
  rw [if_pos rb_ex.1, rb_ex.2, frP_len _ (by simp), numB_one _ (by simp)]
  rfl
theorem s_352 : (⟨#[3, 5, 2]⟩ : ByteArray) = str [3, 5, 2] := rfl
set_option maxRecDepth 20000 in
set_option maxHeartbeats 4000000 in
theorem works17_any (W : World) : Calls Try.prog 27 #[] W fun e w' => e = .returned (.bool true) ∧ Below W.heap.size W w' := by
  have HB := hid (fun w => recbytes_any ⟨3, 5, 2, 0, 0, 0, []⟩ none 0 w ⟨Sl.nil _ _ _ _ (Nat.zero_le _), by simp⟩)
  have HS := hid (fun w => recsize_any ⟨3, 5, 2, 0, 0, 0, []⟩ none 0 w ⟨Sl.nil _ _ _ _ (Nat.zero_le _), by simp⟩)
  simp only [rb_ex.1, rb_ex.2, if_true, size_ex] at HB HS
  simp only [rcc] at HB HS
  go_enter Try.func27, Try.ntmps27
  go_upto_region 2 with (fail)
  have hb0 : Below W.heap.size W (W.alloc (.cells #[.int .i64 3, .int .i64 5, .int .i64 2, .int .i64 0, .int .i64 0, .int .i64 0, .slice none 0 0] 45)) := (Below.refl _ _).alloc (Nat.le_refl _) _
  refine at_world (fun u => u.heap[W.heap.size]? = some (.cells #[.int .i64 3, .int .i64 5, .int .i64 2, .int .i64 0, .int .i64 0, .int .i64 0, .slice none 0 0] 45 (0, 0)) ∧ Below W.heap.size W u) ⟨heap_alloc_new _ _, hb0⟩ ?_
  clear hb0
  rintro w1 ⟨hm1, hB1⟩
  obtain ⟨p0, p1, p2, p3, p4, p5, p6⟩ := seven_cells hm1
  have HM1 := hid hm1
  have HB1 := hid hB1
  clear hm1 hB1
  go_wp2_with fail
  refine (HB.out _).mono ?_
  rintro x w2 ⟨A2, c2, rfl, ho2, hb2⟩
  have HB2 := hid (HB1.out.trans (hb2.mono HB1.out.size))
  have hcv : (convert 24 9 (.slice A2 3 c2)).run Try.prog w2 = .ok (.string ⟨#[3, 5, 2]⟩) w2 := convS ho2.bytes
  have HM2 := hid (keep0 HM1.out hb2)
  have e98 : ((⟨#[3, 5, 2]⟩ : ByteArray).toList == (⟨#[3, 5, 2]⟩ : ByteArray).toList) = true := by simp
  clear hb2 HM1 HB1 p0 p1 p2 p3 p4 p5 p6 ho2
  obtain ⟨p0, p1, p2, p3, p4, p5, p6⟩ := seven_cells HM2.out
  go_wp2_with fail
  refine (HS.out _).mono ?_
  rintro x w3 ⟨rfl, hb3⟩
  have HB3 := hid (HB2.out.trans (hb3.mono HB2.out.size))
  clear hb3
  go_wp2
  go_ret
  exact ⟨rfl, HB3.out⟩

theorem set_seven {w : World} {b t : Nat} {a0 a1 a2 a3 a4 a5 a6 : Value} (h : w.heap[b]? = some (.cells #[a0, a1, a2, a3, a4, a5, a6] t (0, 0))) (v : Value) : (w.setCell ⟨b, 1, none⟩ v).heap[b]? = some (.cells #[a0, v, a2, a3, a4, a5, a6] t (0, 0)) := heap_setCell_same w b 1 _ _ v h
end Go.Proofs.Ytkepfkfoblocgaa
