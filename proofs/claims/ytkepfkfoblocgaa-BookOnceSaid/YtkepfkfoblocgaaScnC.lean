/- scan.Bytes: contract. -/
import Derived.Test.YtkepfkfoblocgaaScnB
import Derived.Test.YtkepfkfoblocgaaRecF
namespace Go.Proofs.Ytkepfkfoblocgaa
open Go.RowKit
set_option linter.unusedVariables false
set_option linter.unusedSimpArgs false

theorem ecells_get : ∀ (l : List El) (k : Nat) (hk : k < l.length) (i : Nat), i < 7 → (ecells l)[k * 7 + i]? = (rcc l[k].1 l[k].2.1 l[k].2.2).toList[i]?
  | [], k, hk, i, hi => absurd hk (by simp)
  | e :: l, 0, hk, i, hi => by
    have h : ecells (e :: l) = (rcc e.1 e.2.1 e.2.2).toList ++ ecells l := by simp [ecells]
    rw [h, Nat.zero_mul, Nat.zero_add, List.getElem?_append_left (by simpa [rcc] using hi)]
    rfl
  | e :: l, k + 1, hk, i, hi => by
    have h : ecells (e :: l) = (rcc e.1 e.2.1 e.2.2).toList ++ ecells l := by simp [ecells]
    have h7 : (rcc e.1 e.2.1 e.2.2).toList.length = 7 := by simp [rcc]
    rw [h, List.getElem?_append_right (by rw [h7]; omega), h7, show (k + 1) * 7 + i - 7 = k * 7 + i by omega]
    exact ecells_get l k (by simpa using hk) i hi
theorem Sl.el {w : World} {b off len cap : Nat} {l : List El} (h : Sl w 7 (some ⟨b, off, none⟩) len cap (ecells l)) (n : Nat) (hn : n < l.length) :
    w.cell? ⟨b, off + n * 7, none⟩ = some (.int .i64 l[n].1.k) ∧ w.cell? ⟨b, off + n * 7 + 1, none⟩ = some (.int .i64 l[n].1.j) ∧ w.cell? ⟨b, off + n * 7 + 2, none⟩ = some (.int .i64 l[n].1.t) ∧ w.cell? ⟨b, off + n * 7 + 3, none⟩ = some (.int .i64 l[n].1.w) ∧ w.cell? ⟨b, off + n * 7 + 4, none⟩ = some (.int .i64 l[n].1.s) ∧ w.cell? ⟨b, off + n * 7 + 5, none⟩ = some (.int .i64 l[n].1.e) ∧ w.cell? ⟨b, off + n * 7 + 6, none⟩ = some (.slice l[n].2.1 l[n].1.ns.length l[n].2.2) := by
  have hl := ecells_length l
  obtain ⟨b', off', ha, hc⟩ := h.2.2.2 (by omega)
  cases ha
  have hg : ∀ i v, i < 7 → (rcc l[n].1 l[n].2.1 l[n].2.2).toList[i]? = some v → w.cell? ⟨b, off + (n * 7 + i), none⟩ = some v := fun i v hi hv => by
    have hlt : n * 7 + i < (ecells l).length := by omega
    rw [hc _ hlt]
    exact (ecells_get l n hn i hi).trans hv
  refine ⟨hg 0 _ (by omega) rfl, ?_, ?_, ?_, ?_, ?_, ?_⟩
  · rw [Nat.add_assoc]; exact hg 1 _ (by omega) rfl
  · rw [Nat.add_assoc]; exact hg 2 _ (by omega) rfl
  · rw [Nat.add_assoc]; exact hg 3 _ (by omega) rfl
  · rw [Nat.add_assoc]; exact hg 4 _ (by omega) rfl
  · rw [Nat.add_assoc]; exact hg 5 _ (by omega) rfl
  · rw [Nat.add_assoc]; exact hg 6 _ (by omega) rfl
/-- A row of records that may be read. -/
def InR (w : World) (A : Option Addr) (c : Nat) (els : List El) : Prop := Sl w 7 A els.length c (ecells els) ∧ ∀ e ∈ els, TxAt w e.2.1 e.2.2 e.1.ns
theorem InR.below {w w' : World} {A : Option Addr} {c : Nat} {els : List El} (h : InR w A c els) (hb : Below w.heap.size w w') : InR w' A c els := ⟨h.1.below hb, fun e he => (h.2 e he).below hb⟩
theorem RowR.inR {w : World} {B : Nat} {A : Option Addr} {c : Nat} {els : List El} (h : RowR w B (.slice A els.length c) els) : InR w A c els := ⟨sl_own h.1, fun e he => (h.2 e he).tx⟩
/-- A record's frame, if it is valid. -/
def fR (x : Rc) : List UInt8 := if chkR x then frP (rb x) else []
def recB (l : List Rc) : List UInt8 := (l.map fR).flatten
theorem recB_snoc (l : List Rc) (x : Rc) : recB (l ++ [x]) = recB l ++ fR x := by simp [recB]
theorem fR_len (x : Rc) : (fR x).length ≤ 4000 := by
  unfold fR
  split
  · rename_i h
    have h2 := rb_len x h
    rw [frP_len _ (by omega)]
    have := (numB_length (rb x).length (by omega)).2
    omega
  · simp
theorem recB_len : ∀ l : List Rc, (recB l).length ≤ 4000 * l.length
  | [] => by simp [recB]
  | x :: l => by
    have h1 := recB_len l
    have h2 := fR_len x
    have e : recB (x :: l) = fR x ++ recB l := by simp [recB]
    rw [e, List.length_append, List.length_cons]; omega

set_option maxRecDepth 20000 in
set_option maxHeartbeats 4000000 in
theorem sbytes_any (A : Option Addr) (c : Nat) (els : List El) (W : World) (h : InR W A c els) (hn : els.length ≤ 100000) :
    Calls Try.prog 46 #[.slice A els.length c] W fun e w' => ∃ A' c', e = .returned (.slice A' (recB (els.map (·.1))).length c') ∧ OwnB w' W.heap.size A' c' (recB (els.map (·.1))) ∧ Below W.heap.size W w' := by
  have HX := hid h
  clear h
  have hll : els.length ≤ 9223372036854775807 := by omega
  go_enter Try.func46, Try.ntmps46
  go_wp2
  go_loopw [3, 5, 8] (fun v _ i wr => ∃ (n : Nat) (A' : Option Addr) (c' : Nat), n ≤ els.length ∧ i = .int .i64 (n : Int) ∧ v = .slice A' (recB ((els.take n).map (·.1))).length c' ∧ Hid (OwnB wr W.heap.size A' c' (recB ((els.take n).map (·.1)))) ∧ Hid (Below W.heap.size W wr)) (fun _ _ i _ => els.length - (intOf i).toNat)
  case atStart => exact ⟨0, none, 0, by omega, rfl, by simp [recB], World.ownsRow_nil _ _ _ _, Below.refl _ _⟩
  case round =>
    obtain ⟨n, A', c', hnl, rfl, rfl, HO, HB⟩ := hrel
    by_cases hlt : n < els.length
    · have hlt2 : (n : Int) < (els.length : Int) := by omega
      have hsl := (HX.out.below HB.out).1
      obtain ⟨b, off, rfl, _⟩ := hsl.2.2.2 (by rw [ecells_length]; omega)
      obtain ⟨q0, q1, q2, q3, q4, q5, q6⟩ := Sl.el hsl n hlt
      have ht := HX.out.2 els[n] (List.getElem_mem hlt)
      have HTK : Hid (recB ((els.take (n + 1)).map (·.1)) = recB ((els.take n).map (·.1)) ++ fR els[n].1) := hid (by rw [List.take_succ_eq_append_getElem hlt, List.map_append, List.map_cons, List.map_nil, recB_snoc])
      have hcl := recB_len ((els.take n).map (·.1))
      rw [List.length_map, List.length_take, Nat.min_eq_left hnl] at hcl
      generalize els[n]'hlt = ee at *
      obtain ⟨x, Ae, ce⟩ := ee
      simp only at q0 q1 q2 q3 q4 q5 q6 ht HTK
      have HC := hid (fun w (hw : Below W.heap.size W w) => rcheck_any x Ae ce w (ht.below hw))
      have HBX := hid (fun w (hw : Below W.heap.size W w) => recbytes_any x Ae ce w (ht.below hw))
      have hfl := fR_len x
      have HFR : Hid (fR x = if chkR x then frP (rb x) else []) := hid rfl
      have HRL := hid (rb_len x)
      clear hsl ht
      generalize recB ((els.take n).map (·.1)) = cur at *
      generalize chkR x = bx at *
      generalize rb x = L at *
      generalize fR x = fr at *
      generalize hl9 : els.length = el at *
      obtain ⟨k, j, t, wk, s, ep, ns⟩ := x
      simp only [rcc] at HC HBX q0 q1 q2 q3 q4 q5 q6
      generalize ns.length = m at *
      go_upto_region 5 with (fail)
      refine at_world (fun u => u.heap[wr.heap.size]? = some (.cells #[.int .i64 k, .int .i64 j, .int .i64 t, .int .i64 wk, .int .i64 s, .int .i64 ep, .slice Ae m ce] 45 (0, 0)) ∧ Below wr.heap.size wr u) ⟨heap_alloc_new _ _, (Below.refl _ _).alloc (Nat.le_refl _) _⟩ ?_
      clear q0 q1 q2 q3 q4 q5 q6
      rintro u1 ⟨hx1, hb1⟩
      obtain ⟨p0, p1, p2, p3, p4, p5, p6⟩ := seven_cells hx1
      have HX1 := hid hx1
      have HB1 := hid (HB.out.trans (hb1.mono HB.out.size))
      have HO1 := hid (HO.out.keep hb1)
      clear hx1 hb1 HB HO
      generalize wr.heap.size = N at *
      go_wp2_with fail
      refine (HC.out _ HB1.out).mono ?_
      rintro q u2 ⟨rfl, hb2⟩
      have HX2 := hid (keep0 HX1.out hb2)
      have HB2 := hid (HB1.out.trans (hb2.mono HB1.out.size))
      have HO2 := hid (HO1.out.keep hb2)
      clear hb2 HX1 HB1 HO1 p0 p1 p2 p3 p4 p5 p6
      obtain ⟨p0, p1, p2, p3, p4, p5, p6⟩ := seven_cells HX2.out
      cases bx
      case false =>
        have hfr : fr = [] := by rw [HFR.out]; rfl
        subst hfr
        clear HFR
        rw [List.append_nil] at HTK
        go_wp2
        go_roundw
        case rel => exact ⟨n + 1, A', c', by omega, by go_num, by rw [HTK.out], by rw [HTK.out]; exact HO2.out, HB2.out⟩
        case measure => simp [intOf]; omega
      case true =>
        have hl2 := HRL.out rfl
        simp only [if_true] at HBX HFR
        have HFP := hid (fun w => fput_any none 0 0 [] (str L) w (isBytes_nil w none 0 (Nat.zero_le _)) (by simp) (by rw [str_size]; omega))
        have hsx : (str L).data.toList = L := rfl
        simp only [hsx, List.nil_append] at HFP
        rw [← HFR.out] at HFP
        clear HFR HRL hsx
        go_wp2_with fail
        refine (HBX.out _ HB2.out).mono ?_
        rintro q u3 ⟨A3, c3, rfl, ho3, hb3⟩
        have HB3 := hid (HB2.out.trans (hb3.mono HB2.out.size))
        have HO3 := hid (HO2.out.keep hb3)
        have hcv := convS ho3.bytes
        clear hb3 ho3 HX2 HB2 HO2 HBX p0 p1 p2 p3 p4 p5 p6
        generalize str L = sL at *
        generalize L.length = Ln at *
        go_wp2_with fail
        refine (HFP.out _).mono ?_
        rintro q u4 ⟨A4, c4, rfl, ho4, hb4⟩
        have HB4 := hid (HB3.out.trans (hb4.mono HB3.out.size))
        have HO4 := hid (HO3.out.keep hb4)
        have HS4 := hid (sl_own ho4)
        clear hb4 ho4 HB3 HO3 hcv HFP
        go_wp2_with (at_builtin; refine wpList_append_sl (W := W) rfl (.tmp 14) (.tmp 18) 24 rfl W.heap.size 5 Try.underlying24 info_u8 rfl (by omega) rfl HO4.out rfl HS4.out (bcells_one _) (by unfold maxLen; omega) (by omega) HB4.out.size HB4.out ?_)
        intro v' u5 h5 hb5 _
        rw [← bcells_append] at h5
        have h6 : u5.ownsRow W.heap.size 5 1 v' (cur.length + fr.length) (bcells (cur ++ fr)) := h5
        obtain ⟨A5, c5, rfl, ho5⟩ := ownB_of h6
        have HO5 := hid ho5
        have HB5 := hid hb5
        clear h5 h6 hb5 ho5 HO4 HS4 HB4
        go_wp2
        go_roundw
        case rel => exact ⟨n + 1, A5, c5, by omega, by go_num, by rw [HTK.out, List.length_append], by rw [HTK.out]; exact HO5.out, HB5.out⟩
        case measure => simp [intOf]; omega
    · obtain rfl : n = els.length := by omega
      have hge : ¬ ((els.length : Nat) : Int) < ((els.length : Nat) : Int) := by omega
      have HT := hid (List.take_length (l := els))
      rw [HT.out] at HO ⊢
      clear HT
      go_wp2
      go_ret
      exact ⟨A', c', rfl, HO.out, HB.out⟩
end Go.Proofs.Ytkepfkfoblocgaa
