/- annal: Records, Open: contracts. -/
import Derived.Test.YtkepfkfoblocgaaAnnA
import Derived.Test.YtkepfkfoblocgaaScnB
namespace Go.Proofs.Ytkepfkfoblocgaa
open Go.RowKit
set_option linter.unusedVariables false
set_option linter.unusedSimpArgs false

theorem OwnS.ns200 {w : World} {B : Nat} {A : Option Addr} {c : Nat} {l : List (List UInt8)} (h : OwnS w B A c l) : ∀ s ∈ l, s.length ≤ 200 := h.2
set_option maxRecDepth 20000 in
set_option maxHeartbeats 2000000 in
theorem arecords_any {B G D room : Nat} {l : List UInt8} {armed : Bool} {fuse : Nat} {A : Option Addr} {c : Nat} {els : List El} {down : Bool} (W : World) (h : AnAt W B G D room l armed fuse A c els down) (hn : els.length ≤ 100000) (hk : ∀ e ∈ els, e.1.ns.length ≤ 100000) :
    Calls Try.prog 54 #[.pointer (some ⟨G, 0, none⟩)] W fun e w' => ∃ A' c' els', e = .returned (.slice A' els'.length c') ∧ els'.map (·.1) = els.map (·.1) ∧ RowR w' W.heap.size (.slice A' els'.length c') els' ∧ Below W.heap.size W w' := by
  obtain ⟨⟨p0, p1, p2⟩, _⟩ := three_cellsA h.1
  have HR := hid h.2.2
  have HK := hid hk
  have hll : els.length ≤ 9223372036854775807 := by omega
  clear h hk
  go_enter Try.func54, Try.ntmps54
  go_wp2
  go_loopw [3, 5, 13] (fun v _ i wr => ∃ (k : Nat) (A' : Option Addr) (c' : Nat) (els' : List El), k ≤ els.length ∧ i = .int .i64 (k : Int) ∧ v = .slice A' k c' ∧ Hid (els'.map (·.1) = (els.take k).map (·.1)) ∧ Hid (RowR wr W.heap.size (.slice A' k c') els') ∧ Hid (Below W.heap.size W wr)) (fun _ _ i _ => els.length - (intOf i).toNat)
  case atStart => exact ⟨0, none, 0, [], by omega, rfl, rfl, rfl, RowR.nil _ _, Below.refl _ _⟩
  case round =>
    obtain ⟨n, A', c', els', hnl, rfl, rfl, HE, HO, HB⟩ := hrel
    have hel : els'.length = n := by
      have h1 := congrArg List.length HE.out
      rw [List.length_map, List.length_map, List.length_take, Nat.min_eq_left hnl] at h1
      exact h1
    have HEL := hid hel
    clear hel
    by_cases hlt : n < els.length
    · have hlt2 : (n : Int) < (els.length : Int) := by omega
      have hsl := (sl_own HR.out.1).below HB.out
      obtain ⟨b, off, rfl, _⟩ := hsl.2.2.2 (by rw [ecells_length]; omega)
      obtain ⟨q0, q1, q2, q3, q4, q5, q6⟩ := Sl.el hsl n hlt
      have ht := HR.out.2 els[n] (List.getElem_mem hlt)
      have hkn := HK.out els[n] (List.getElem_mem hlt)
      have HTK : Hid ((els.take (n + 1)).map (·.1) = (els.take n).map (·.1) ++ [els[n].1]) := hid (by rw [List.take_succ_eq_append_getElem hlt, List.map_append, List.map_cons, List.map_nil])
      generalize els[n]'hlt = ee at *
      obtain ⟨x, Ae, ce⟩ := ee
      simp only at q0 q1 q2 q3 q4 q5 q6 ht HTK hkn
      have HC := hid (fun w (hw : Below W.heap.size W w) => acloned_any x Ae ce w ((ht.keep hw).tx) hkn ht.2)
      clear hsl ht hkn
      generalize hl9 : els.length = el at *
      obtain ⟨k, j, t, wk, s, ep, ns⟩ := x
      simp only [rcc] at HC q0 q1 q2 q3 q4 q5 q6
      generalize hmm : ns.length = m at *
      have HM := hid hmm
      clear hmm
      go_upto_region 7 with (fail)
      refine at_world (fun u => u.heap[wr.heap.size]? = some (.cells #[.int .i64 k, .int .i64 j, .int .i64 t, .int .i64 wk, .int .i64 s, .int .i64 ep, .slice Ae m ce] 45 (0, 0)) ∧ Below wr.heap.size wr u) ⟨heap_alloc_new _ _, (Below.refl _ _).alloc (Nat.le_refl _) _⟩ ?_
      clear q0 q1 q2 q3 q4 q5 q6
      rintro u1 ⟨hx1, hb1⟩
      obtain ⟨p0, p1, p2, p3, p4, p5, p6⟩ := seven_cells hx1
      have HB1 := hid (HB.out.trans (hb1.mono HB.out.size))
      have HO1 := hid (HO.out.keep hb1)
      clear hx1 hb1 HB HO
      generalize wr.heap.size = N at *
      go_wp2_with fail
      refine (HC.out _ HB1.out).mono ?_
      rintro q u2 ⟨A2, c2, rfl, hs2, hb2⟩
      have HS2 := hid (hs2.mono HB1.out.size)
      have HB2 := hid (HB1.out.trans (hb2.mono HB1.out.size))
      have HO2 := hid (HO1.out.keep hb2)
      clear hs2 hb2 HB1 HO1 p0 p1 p2 p3 p4 p5 p6 HC
      go_wp2_with (at_builtin; refine wpList_append_1k (W := W) rfl (.tmp 17) (.tmp 20) 57 rfl W.heap.size 45 Try.underlying57 info_rec rfl (by omega) rfl HO2.out.1 rfl (by rfl) (by simp [Value.oneCell']) ?c1 ?c2 HB2.out.size HB2.out ?_)
      case c1 => have := HEL.out; unfold maxLen; omega
      case c2 => have := HEL.out; omega
      · intro v' w6 h2 h3 h4 h5
        have HO6 : Hid (RowR w6 W.heap.size v' (els' ++ [(Rc.mk k j t wk s ep ns, A2, c2)])) := hid (HO2.out.push HS2.out (by simpa [rcc, HM.out] using h2) h5)
        have HB6 := hid h3
        obtain ⟨A6, c6, rfl, _⟩ := Sl.of_own HO6.out.1
        clear h2 h3 h4 h5
        have HL6 : Hid ((els' ++ [(Rc.mk k j t wk s ep ns, A2, c2)]).length = n + 1) := hid (by rw [List.length_append, HEL.out]; rfl)
        rw [HL6.out] at HO6
        go_wp2
        go_roundw
        case rel => exact ⟨n + 1, A6, c6, els' ++ [(Rc.mk k j t wk s ep ns, A2, c2)], by omega, by go_num, by rw [HL6.out], by rw [Hid, List.map_append, HE.out, HTK.out]; rfl, HO6, HB6.out⟩
        case measure => simp [intOf]; omega
    · have hge : ¬ (n : Int) < (els.length : Int) := by omega
      have HT : Hid (els'.map (·.1) = els.map (·.1)) := hid (by rw [HE.out, List.take_of_length_le (by omega)])
      clear HE
      go_wp2
      go_ret
      refine ⟨A', c', els', ?_, HT.out, ?_, HB.out⟩
      · rw [HEL.out]; rfl
      · rw [HEL.out]; exact HO.out
theorem RowR.apart {w w' : World} {B b t : Nat} {v : Value} {els : List El} {cs : Array Value} {fr : Nat × Nat} (h : RowR w B v els) (hb : w.heap[b]? = some (.cells cs t fr)) (h1 : 45 ≠ t) (h2 : 9 ≠ t) (ht : Tch (fun g => g = b) w w') : RowR w' B v els :=
  ⟨ht.own h.1 fun g hg => own_apart_blk h.1 hb h1 g hg, fun e he => ⟨ht.own (h.2 e he).1 fun g hg => own_apart_blk (h.2 e he).1 hb h2 g hg, (h.2 e he).2⟩⟩
theorem tch_set (w : World) (b i : Nat) (v : Value) : Tch (fun g => g = b) w (w.setCell ⟨b, i, none⟩ v) := (Tch.refl _ _).set b i v fun _ => rfl
theorem DiskAt.apart {w w' : World} {D room b t : Nat} {l : List UInt8} {armed : Bool} {fuse : Nat} {cs : Array Value} {fr : Nat × Nat} (h : DiskAt w D room l armed fuse) (hb : w.heap[b]? = some (.cells cs t fr)) (h1 : t ≠ 5) (h2 : D ≠ b) (ht : Tch (fun g => g = b) w w') : DiskAt w' D room l armed fuse :=
  h.tch ht h2 fun g hg cs' h9 => by
    subst hg
    rw [hb] at h9
    injection h9 with h9
    injection h9 with _ h8
    exact h1 h8
theorem cutL_rec (l : List UInt8) : cutL l ((recS l).2 : Nat) = l.take (recS l).2 := by
  have h := (recS_le l.length l (Nat.le_refl _)).1
  unfold cutL
  rw [if_neg (by omega), Int.toNat_natCast]

set_option maxRecDepth 20000 in
set_option maxHeartbeats 2000000 in
theorem aopen_any {D room : Nat} {l : List UInt8} {armed : Bool} {fuse : Nat} (W : World) (h : DiskAt W D room l armed fuse) (hl : l.length ≤ 100000) :
    Calls Try.prog 50 #[.pointer (some ⟨D, 0, none⟩)] W fun e w' => ∃ A c els, e = .returned (.pointer (some ⟨W.heap.size, 0, none⟩)) ∧ els.map (·.1) = (recS l).1 ∧ AnAt w' W.heap.size W.heap.size D room (l.take (recS l).2) armed fuse A c els false ∧ Only D W w' := by
  have HD0 := hid h
  have hDl := h.lt
  clear h
  go_enter Try.func50, Try.ntmps50
  go_upto_region 4 with (fail)
  have hb0 : Below W.heap.size W (W.alloc (.cells #[.pointer (some ⟨D, 0, none⟩), .slice none 0 0, .bool false] 140)) := (Below.refl _ _).alloc (Nat.le_refl _) _
  refine at_world (fun u => u.heap[W.heap.size]? = some (.cells #[.pointer (some ⟨D, 0, none⟩), .slice none 0 0, .bool false] 140 (0, 0)) ∧ Below W.heap.size W u) ⟨heap_alloc_new _ _, hb0⟩ ?_
  clear hb0
  rintro w1 ⟨hx1, hb1⟩
  obtain ⟨⟨p0, p1, p2⟩, _⟩ := three_cellsA hx1
  have HX1 := hid hx1
  have HB1 := hid hb1
  have HD1 := hid (HD0.out.below hb1)
  clear hx1 hb1
  go_wp2_with fail
  refine (dbytes_any D room l armed fuse w1 HD1.out hl).mono ?_
  rintro e w2 ⟨A1, c1, rfl, hby, hb2⟩
  have HX2 := hid (keep0 HX1.out hb2)
  have HB2 := hid (HB1.out.trans (hb2.mono HB1.out.size))
  have HD2 := hid (HD1.out.below hb2)
  have HR := hid (records_any A1 l.length c1 l w2 hby hl)
  clear hby hb2 HX1 HB1 HD1 p0 p1 p2
  go_wp2_with fail
  refine HR.out.mono ?_
  rintro e w3 ⟨v3, els, rfl, he3, hr3, hb3⟩
  obtain ⟨A3, c3, rfl, _⟩ := Sl.of_own hr3.1
  have HX3 := hid (keep0 HX2.out hb3)
  have HB3 := hid (HB2.out.trans (hb3.mono HB2.out.size))
  have HD3 := hid (HD2.out.below hb3)
  have HE := hid he3
  have HR3 := hid hr3
  have hszw : W.heap.size ≤ w2.heap.size := HB2.out.size
  clear HR HX2 HB2 HD2 he3 hr3 hb3
  obtain ⟨⟨p0, p1, p2⟩, g0, g1, g2⟩ := three_cellsA HX3.out
  have HX4 : Hid ((w3.setCell ⟨W.heap.size, 1, none⟩ (.slice A3 els.length c3)).heap[W.heap.size]? = some (.cells #[.pointer (some ⟨D, 0, none⟩), .slice A3 els.length c3, .bool false] 140 (0, 0))) := hid (by rw [heap_setCell_same w3 W.heap.size 1 _ _ (.slice A3 els.length c3) HX3.out]; rfl)
  have HT := tch_set w3 W.heap.size 1 (.slice A3 els.length c3)
  have HD4 := hid (HD3.out.apart HX3.out (by decide) (by omega) HT)
  have HR4 := hid (HR3.out.apart HX3.out (by decide) (by decide) HT)
  have HB4 := hid (HB3.out.setCell (p := ⟨W.heap.size, 1, none⟩) (Nat.le_refl _) (.slice A3 els.length c3))
  clear HX3 HD3 HR3 HB3 HT
  go_upto_region 6 with (fail)
  refine at_world (fun u => u.heap[W.heap.size]? = some (.cells #[.pointer (some ⟨D, 0, none⟩), .slice A3 els.length c3, .bool false] 140 (0, 0)) ∧ DiskAt u D room l armed fuse ∧ RowR u w2.heap.size (.slice A3 els.length c3) els ∧ Below W.heap.size W u) ⟨HX4.out, HD4.out, HR4.out, HB4.out⟩ ?_
  clear HX4 HD4 HR4 HB4 p0 p1 p2 g0 g1 g2
  rintro w4 ⟨hx4, hd4, hr4, hb4⟩
  obtain ⟨⟨p0, p1, p2⟩, _⟩ := three_cellsA hx4
  have HX4 := hid hx4
  have HR4 := hid hr4
  have HB4 := hid hb4
  have HC := hid (dcut_any D room l armed fuse ((recS l).2 : Nat) w4 hd4 hl)
  rw [cutL_rec] at HC
  obtain ⟨A9, c9, hdk, _⟩ := hd4.open
  have HDK := hid hdk
  clear hx4 hd4 hr4 hb4 hdk
  go_wp2_with fail
  refine HC.out.mono ?_
  rintro e w5 ⟨rfl, hd5, ho5⟩
  have HD5 := hid hd5
  have HT5 : Hid (Tch (fun g => g = D) w4 w5) := hid (Tch.of_only ho5 rfl (lt_of_block HDK.out))
  have HX5 := hid (HT5.out.block HX4.out (show ¬ W.heap.size = D by omega))
  have HR5 := hid (HR4.out.apart HDK.out (by decide) (by decide) HT5.out)
  have HO5 := hid ((Only.of_below HB4.out).trans ho5)
  clear hd5 ho5 HC HT5 HX4 HR4 HB4 p0 p1 p2
  go_wp2
  go_ret
  refine ⟨A3, c3, els, rfl, HE.out, ⟨HX5.out, HD5.out, ⟨own_mono HR5.out.1 hszw, fun e he => (HR5.out.2 e he).mono hszw⟩⟩, HO5.out⟩
end Go.Proofs.Ytkepfkfoblocgaa
