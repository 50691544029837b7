/- R18.Records: contract. -/
import Derived.Test.YtkepfkfoblocgaaGreatScP
import Derived.Test.YtkepfkfoblocgaaGreatCrP
import Derived.Test.YtkepfkfoblocgaaGreatQRecP
namespace Go.Proofs.YtkepfkfoblocgaaGreat
open Go.RowKit Go.Sort
set_option linter.unusedVariables false
set_option linter.unusedSimpArgs false

theorem cutS_le9 (l : List UInt8) (h : l.length ≤ 100000) : (cutS l).1.length ≤ 100000 := by
  by_cases h0 : (cutS l).2.2 = 0
  · have := (cutS_used l h0).2.2; omega
  · unfold cutS at h0 ⊢
    split
    · rename_i h1
      rw [if_pos h1] at h0
      split
      · simp
      · rename_i h2
        rw [if_neg h2] at h0
        split
        · rename_i h3; rw [if_pos h3] at h0; simp at h0
        · simp
    · simp
set_option maxRecDepth 20000 in
set_option maxHeartbeats 4000000 in
theorem r18records_any (l : List UInt8) (W : World) (hl : l.length ≤ 100000) :
    Calls Tryz.prog 53 #[.string (str l)] W fun x w' => ∃ v els, x = .returned (.tuple #[v, .int .i64 ((recS l).2 : Nat)]) ∧ els.map (·.1) = (recS l).1 ∧ RowR w' W.heap.size v els ∧ RowKit.Below W.heap.size W w' := by
  have hz0 : (str l).size = l.length := str_size l
  go_enter Tryz.func53, Tryz.ntmps53
  go_wp2
  go_loopw [4, 5, 6, 7, 8, 9, 10] (fun v i _ _ _ _ _ wr => ∃ (els : List El) (acc : List Rc) (g : Nat), g ≤ l.length ∧ i = .int .i64 (g : Int) ∧ Hid (RecAt l acc g) ∧ Hid (els.map (·.1) = acc) ∧ Hid (RowR wr W.heap.size v els) ∧ Hid (RowKit.Below W.heap.size W wr)) (fun _ i _ _ _ _ _ _ => l.length - (intOf i).toNat)
  case atStart => exact ⟨[], [], 0, by omega, rfl, RecAt.start l, rfl, RowR.nil _ _, Below.refl _ _⟩
  case round =>
    obtain ⟨els, acc, g, hg, rfl, HA, HE, HO, HB⟩ := hrel
    have hz := rec_bounds l HA.out
    have hel : els.length ≤ l.length := by
      have h1 := congrArg List.length HE.out
      rw [List.length_map] at h1
      omega
    by_cases hlt : g < l.length
    case neg =>
      obtain rfl : g = l.length := by omega
      have HX : Hid (recS l = (acc, l.length)) := hid (HA.out.stop (by rw [List.drop_length]; exact fun h => cutS_nil h.1))
      have hge : ¬ ((l.length : Nat) : Int) < ((l.length : Nat) : Int) := by omega
      obtain ⟨A9, c9, rfl, _⟩ := Sl.of_own HO.out.1
      go_wp2
      go_ret2
      rw [HX.out]
      first
        | exact ⟨_, els, rfl, HE.out, HO.out, HB.out⟩
        | exact ⟨_, rfl, els, HE.out, HO.out, HB.out⟩
    have hlt2 : (g : Int) < (l.length : Int) := by omega
    have hs1 : ∀ w : World, (Instr.slice 9 (.string (str l)) (some (.int .i64 (g : Int))) none none).run Tryz.prog w = .ok (.string (str (l.drop g))) w := fun w => by
      rw [run_slice_string_l (P := Tryz.prog) w 9 (str l) Tryz.underlying9 .i64 (g : Int) (by omega) (by rw [hz0]; omega), Int.toNat_natCast, hz0, str_drop _ _ hg]
    have HC := hid (rcut_any (l.drop g) wr (by rw [List.length_drop]; omega))
    have hpl : (cutS (l.drop g)).1.length ≤ 100000 := cutS_le9 _ (by rw [List.length_drop]; omega)
    have HP := hid (fun w => r17parse_own (cutS (l.drop g)).1 hpl w)
    have HN : Hid ((cutS (l.drop g)).2.2 = 0 → qk (cutS (l.drop g)).1 = 0 → RecAt l (acc ++ [pr (cutS (l.drop g)).1]) (g + (cutS (l.drop g)).2.1) ∧ 5 ≤ (cutS (l.drop g)).2.1 ∧ g + (cutS (l.drop g)).2.1 ≤ l.length) := hid (fun h h2 => ⟨HA.out.next ⟨h, h2⟩, (cutS_used _ h).1, by have := (cutS_used _ h).2.1; rw [List.length_drop] at this; omega⟩)
    have HS : Hid (¬ ((cutS (l.drop g)).2.2 = 0 ∧ qk (cutS (l.drop g)).1 = 0) → recS l = (acc, g)) := hid (fun h => HA.out.stop h)
    clear hpl
    generalize cutS (l.drop g) = cv at HC HN HS HP
    obtain ⟨p, u, e⟩ := cv
    simp only at HC HN HS HP
    generalize qk p = qv at *
    generalize pr p = y at *
    obtain ⟨k, j, t, wk, s, ep, ns⟩ := y
    simp only [rcc] at HP
    generalize hm : ns.length = m at *
    have HM2 := hid hm
    clear hm
    generalize hsp : str p = sp at *
    clear hsp
    go_wp2_with fail
    refine HC.out.mono ?_
    rintro x w2 ⟨rfl, hb2⟩
    have HB2 := hid (HB.out.trans (hb2.mono HB.out.size))
    have HO2 := hid (HO.out.keep hb2)
    clear hb2 HC HO HB hs1
    go_wp2_with fail
    refine (HP.out _).mono ?_
    rintro x w4 ⟨A4, c4, rfl, hs4, hb4⟩
    have HB4 := hid (HB2.out.trans (hb4.mono HB2.out.size))
    have HO4 := hid (HO2.out.keep hb4)
    have HS4 := hid (hs4.mono HB2.out.size)
    clear hs4 hb4 HP HB2 HO2
    go_upto_region 6 with (fail)
    refine at_world (fun w => w.heap[w4.heap.size]? = some (.cells #[.int .i64 k, .int .i64 j, .int .i64 t, .int .i64 wk, .int .i64 s, .int .i64 ep, .slice A4 m c4] 46 (0, 0)) ∧ RowKit.Below w4.heap.size w4 w) ⟨heap_alloc_new _ _, (Below.refl _ _).alloc (Nat.le_refl _) _⟩ ?_
    rintro w5 ⟨hx5, hb5⟩
    obtain ⟨p0, p1, p2, p3, p4, p5, p6⟩ := seven_cells hx5
    have HB5 := hid (HB4.out.trans (hb5.mono HB4.out.size))
    have HO5 := hid (HO4.out.keep hb5)
    have HS5 := hid (HS4.out.keep hb5)
    clear hx5 hb5 HB4 HO4 HS4
    generalize w4.heap.size = N at *
    by_cases he : e = 0
    · subst he
      by_cases hq : qv = 0
      · subst hq
        obtain ⟨n1, n2, n3⟩ := HN.out rfl rfl
        have HN2 := hid n1
        clear n1 HN HS
        go_wp2_with (at_builtin; refine wpList_append_1k (W := W) rfl (.tmp 36) (.tmp 38) 67 rfl W.heap.size 46 Tryz.underlying67 info_rec rfl (by omega) rfl HO5.out.1 rfl (by rfl) (by simp [Value.oneCell']) ?c1 ?c2 HB5.out.size HB5.out ?_)
        case c1 => unfold maxLen; omega
        case c2 => omega
        · intro v' w6 h2 h3 h4 h5
          have HO6 : Hid (RowR w6 W.heap.size v' (els ++ [(Rc.mk k j t wk s ep ns, A4, c4)])) := hid (HO5.out.push HS5.out (by simpa [rcc, HM2.out] using h2) h5)
          have HB6 := hid h3
          clear h2 h3 h4 h5 p0 p1 p2 p3 p4 p5 p6
          go_wp2
          go_roundw
          case rel => exact ⟨els ++ [(Rc.mk k j t wk s ep ns, A4, c4)], _, g + u, by omega, by go_num, HN2.out, by rw [Hid, List.map_append, HE.out]; rfl, HO6.out, HB6.out⟩
          case measure => simp [intOf]; omega
      · have hne : (qv != 0) = true := by simp [hq]
        have HX := hid (HS.out (fun h => hq h.2))
        clear HS hq HN
        go_wp2
        go_ret2
        rw [HX.out]
        exact ⟨_, els, rfl, HE.out, HO5.out, HB5.out⟩
    · have hne : (((e : Nat) : Int) != 0) = true := by simp; omega
      have HX := hid (HS.out (fun h => he h.1))
      clear HN HS he
      go_wp2
      go_ret2
      rw [HX.out]
      exact ⟨_, els, rfl, HE.out, HO5.out, HB5.out⟩
end Go.Proofs.YtkepfkfoblocgaaGreat
