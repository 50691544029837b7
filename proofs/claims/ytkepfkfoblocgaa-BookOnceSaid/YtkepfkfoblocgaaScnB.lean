/- scan.Records: contract. -/
import Derived.Test.YtkepfkfoblocgaaScnA
import Derived.Test.YtkepfkfoblocgaaSlice
namespace Go.Proofs.Ytkepfkfoblocgaa
open Go.RowKit
set_option linter.unusedVariables false
set_option linter.unusedSimpArgs false

/-- 'b[g:]' reads as what is left. -/
theorem slice_from {W : World} {a : Option Addr} {cap : Nat} {l : List UInt8} (h : IsBytes W a l.length cap l) (g : Nat) (hg : g ≤ l.length) :
    ∃ A c, (∀ w : World, (Instr.slice 24 (.slice a l.length cap) (some (.int .i64 (g : Int))) none none).run Try.prog w = .ok (.slice A (l.length - g) c) w) ∧ IsBytes W A (l.length - g) c (l.drop g) := by
  obtain ⟨_, hlc, hcm⟩ := h.len
  refine ⟨_, _, run_from Try.underlying24 info_u8 a l.length cap g hg, ?_⟩
  have := Sl.drop h g hg
  rw [IsBytes]
  simpa [bcells] using this
theorem bytes_of (W : World) (s : ByteArray) (hs : s.size ≤ 100000) : ∃ w' A c, (convert 9 24 (.string s)).run Try.prog W = .ok (.slice A s.size c) w' ∧ IsBytes w' A s.size c s.data.toList ∧ Below W.heap.size W w' := by
  refine ⟨_, _, _, run_bytes_of_string (P := Try.prog) W 9 24 5 s Try.underlying9 Try.underlying24 Try.underlying5, ?_, ?_⟩
  · have hc := grownCap_ge W s.size 0 5
    have hm := grownCap_le_maxLen W s.size 0 5 (by unfold maxLen; omega)
    have hsz : s.data.toList.length = s.size := by rw [Array.length_toList]; rfl
    refine ⟨by rw [bcells_length, hsz, Nat.mul_one], hc, hm, fun _ => ⟨W.heap.size, 0, rfl, fun i hi => ?_⟩⟩
    rw [bcells_length, hsz] at hi
    have h1 : (W.drew.alloc (.cells (bytesRow s (grownCap W s.size 0 5)) 5 ((bytesRow s (grownCap W s.size 0 5)).size, (bytesRow s (grownCap W s.size 0 5)).size + 1))).heap[W.heap.size]? = some (.cells (bytesRow s (grownCap W s.size 0 5)) 5 ((bytesRow s (grownCap W s.size 0 5)).size, (bytesRow s (grownCap W s.size 0 5)).size + 1)) := by
      have := heap_alloc_new W.drew (.cells (bytesRow s (grownCap W s.size 0 5)) 5 ((bytesRow s (grownCap W s.size 0 5)).size, (bytesRow s (grownCap W s.size 0 5)).size + 1))
      simpa using this
    rw [cell_of_row _ W.heap.size (0 + i) _ _ _ h1, Nat.zero_add, bytesRow_at s _ i hi]
    simp [bcells, hsz, hi]
  · exact Below.trans (⟨rfl, rfl, rfl, Nat.le_refl _, fun _ _ => rfl⟩ : Below W.heap.size W W.drew) ((Below.refl W.heap.size W.drew).alloc (Nat.le_refl W.heap.size) _)
theorem rec_bounds (l : List UInt8) {acc : List Rc} {g : Nat} (h : RecAt l acc g) : acc.length ≤ l.length ∧ g ≤ l.length := ⟨Nat.le_trans h.2.2.2 h.2.2.1, h.2.2.1⟩

set_option maxRecDepth 20000 in
set_option maxHeartbeats 2000000 in
theorem records_any (a : Option Addr) (len cap : Nat) (l : List UInt8) (W : World) (hb : IsBytes W a len cap l) (hl : l.length ≤ 100000) :
    Calls Try.prog 42 #[.slice a len cap] W fun x w' => ∃ v els, x = .returned (.tuple #[v, .int .i64 ((recS l).2 : Nat)]) ∧ els.map (·.1) = (recS l).1 ∧ RowR w' W.heap.size v els ∧ Below W.heap.size W w' := by
  obtain ⟨rfl, hlc, hcm⟩ := hb.len
  have HM := hid hb
  clear hb hlc hcm
  go_enter Try.func42, Try.ntmps42
  go_wp2
  go_loopw [4, 5, 6, 7, 8, 9] (fun v i _ _ _ _ wr => ∃ (els : List El) (acc : List Rc) (g : Nat), g ≤ l.length ∧ i = .int .i64 (g : Int) ∧ Hid (RecAt l acc g) ∧ Hid (els.map (·.1) = acc) ∧ Hid (RowR wr W.heap.size v els) ∧ Hid (Below W.heap.size W wr)) (fun _ i _ _ _ _ _ => l.length - (intOf i).toNat)
  case atStart => exact ⟨[], [], 0, by omega, rfl, RecAt.start l, rfl, RowR.nil _ _, Below.refl _ _⟩
  case round =>
    obtain ⟨els, acc, g, hg, rfl, HA, HE, HO, HB⟩ := hrel
    obtain ⟨A, c, hrun, hA⟩ := slice_from HM.out g hg
    have hz := rec_bounds l HA.out
    have hel : els.length ≤ l.length := by
      have h1 := congrArg List.length HE.out
      rw [List.length_map] at h1
      omega
    have HC := hid (cut_any A _ c (l.drop g) wr (hA.below HB.out) (by rw [List.length_drop]; omega))
    have HP := hid (fun A c w (h : IsBytes w A (cutS (l.drop g)).1.length c (cutS (l.drop g)).1) (h9 : (cutS (l.drop g)).1.length ≤ 100000) => rparse_own A c (cutS (l.drop g)).1 w h h9)
    have HN : Hid ((cutS (l.drop g)).2.2 = 0 → (qk (cutS (l.drop g)).1 = 0 → RecAt l (acc ++ [pr (cutS (l.drop g)).1]) (g + (cutS (l.drop g)).2.1)) ∧ 5 ≤ (cutS (l.drop g)).2.1 ∧ g + (cutS (l.drop g)).2.1 ≤ l.length ∧ (cutS (l.drop g)).1.length ≤ 4096) := hid (fun h => ⟨fun h2 => HA.out.next ⟨h, h2⟩, (cutS_used _ h).1, by have := (cutS_used _ h).2.1; rw [List.length_drop] at this; omega, (cutS_used _ h).2.2⟩)
    have HS : Hid (¬ ((cutS (l.drop g)).2.2 = 0 ∧ qk (cutS (l.drop g)).1 = 0) → recS l = (acc, g)) := hid (fun h => HA.out.stop h)
    generalize cutS (l.drop g) = cv at HC HN HS HP
    obtain ⟨p, u, e⟩ := cv
    simp only at HC HN HS HP
    clear hA
    go_wp2_with fail
    refine HC.out.mono ?_
    rintro x w2 ⟨rfl, hb2⟩
    have HB2 := hid (HB.out.trans (hb2.mono HB.out.size))
    have HO2 := hid (HO.out.keep hb2)
    clear hb2 HC HO HB hrun
    by_cases he : e = 0
    · subst he
      obtain ⟨n1, n2, n3, n4⟩ := HN.out rfl
      have HN1 := hid n1
      clear n1 HN
      obtain ⟨w3, A3, c3, hcv, hby, hb3⟩ := bytes_of w2 (str p) (by rw [str_size]; omega)
      have hsz : (str p).size = p.length := str_size p
      have HP3 := hid (HP.out A3 c3 w3 (by rw [hsz] at hby; exact hby) (by omega))
      rw [hsz] at hcv
      have HB3 := hid (HB2.out.trans (hb3.mono HB2.out.size))
      have HO3 := hid (HO2.out.keep hb3)
      clear hby hb3 HP HB2 HO2 hsz
      generalize p.length = pl at *
      by_cases hq : qk p = 0
      · rw [hq] at HP3
        have HN2 := hid (HN1.out hq)
        clear HS HN1 hq
        generalize pr p = y at *
        obtain ⟨k, j, t, wk, s, ep, ns⟩ := y
        simp only [rcc] at HP3
        go_wp2_with fail
        refine HP3.out.mono ?_
        rintro x w4 ⟨A4, c4, rfl, hs4, hb4⟩
        have HB4 := hid (HB3.out.trans (hb4.mono HB3.out.size))
        have HO4 := hid (HO3.out.keep hb4)
        have HS4 := hid (hs4.mono HB3.out.size)
        clear hs4 hb4 HP3 HB3 HO3 hcv
        generalize hm : ns.length = m at *
        have HM2 := hid hm
        clear hm
        go_upto_region 7 with (fail)
        refine at_world (fun w => w.heap[w4.heap.size]? = some (.cells #[.int .i64 k, .int .i64 j, .int .i64 t, .int .i64 wk, .int .i64 s, .int .i64 ep, .slice A4 m c4] 45 (0, 0)) ∧ Below w4.heap.size w4 w) ⟨heap_alloc_new _ _, (Below.refl _ _).alloc (Nat.le_refl _) _⟩ ?_
        rintro w5 ⟨hx5, hb5⟩
        obtain ⟨p0, p1, p2, p3, p4, p5, p6⟩ := seven_cells hx5
        have HB5 := hid (HB4.out.trans (hb5.mono HB4.out.size))
        have HO5 := hid (HO4.out.keep hb5)
        have HS5 := hid (HS4.out.keep hb5)
        clear hx5 hb5 HB4 HO4 HS4
        generalize w4.heap.size = N at *
        go_wp2_with (at_builtin; refine wpList_append_1k (W := W) rfl (.tmp 32) (.tmp 34) 57 rfl W.heap.size 45 Try.underlying57 info_rec rfl (by omega) rfl HO5.out.1 rfl (by rfl) (by simp [Value.oneCell']) ?c1 ?c2 HB5.out.size HB5.out ?_)
        case c1 => unfold maxLen; omega
        case c2 => omega
        · intro v' w6 h2 h3 h4 h5
          have HO6 : Hid (RowR w6 W.heap.size v' (els ++ [(Rc.mk k j t wk s ep ns, A4, c4)])) := hid (HO5.out.push HS5.out (by simpa [rcc, HM2.out] using h2) h5)
          have HB6 := hid h3
          clear h2 h3 h4 h5 p0 p1 p2 p3 p4 p5 p6
          go_wp2
          go_roundw
          case rel => exact ⟨els ++ [(Rc.mk k j t wk s ep ns, A4, c4)], _, g + u, by omega, by go_num, HN2.out, by rw [Hid, List.map_append, HE.out]; rfl, HO6.out, HB6.out⟩
          case measure => simp [intOf]; omega
      · have hne : (qk p != 0) = true := by simp [hq]
        have HX := hid (HS.out (fun h => hq h.2))
        clear HS hq HN1
        generalize qk p = qv at *
        generalize pr p = y at *
        obtain ⟨k, j, t, wk, s, ep, ns⟩ := y
        simp only [rcc] at HP3
        go_wp2_with fail
        refine HP3.out.mono ?_
        rintro x w4 ⟨A4, c4, rfl, _, hb4⟩
        have HB4 := hid (HB3.out.trans (hb4.mono HB3.out.size))
        have HO4 := hid (HO3.out.keep hb4)
        clear hb4 HP3 HB3 HO3 hcv
        generalize ns.length = m at *
        go_wp2
        go_ret2
        rw [HX.out]
        exact ⟨_, els, rfl, HE.out, HO4.out.keep ((Below.refl _ _).alloc (Nat.le_refl _) _), HB4.out.alloc HB4.out.size _⟩
    · have hne : (((e : Nat) : Int) != 0) = true := by simp; omega
      have HX := hid (HS.out (fun h => he h.1))
      clear HN HS he HP
      go_wp2
      go_ret2
      rw [HX.out]
      exact ⟨_, els, rfl, HE.out, HO2.out, HB2.out⟩
end Go.Proofs.Ytkepfkfoblocgaa
