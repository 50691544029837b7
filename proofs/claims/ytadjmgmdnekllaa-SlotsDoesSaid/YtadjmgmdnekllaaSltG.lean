/- slots.Next: contract. -/
import Derived.Test.YtadjmgmdnekllaaSltF
import Derived.RegionTactic
import Derived.ChangeAlike
namespace Go.Proofs.Ytadjmgmdnekllaa
open Go.RowKit Go.Sort
set_option linter.unusedVariables false
set_option linter.unusedSimpArgs false

def nextV (s : Sv) : Sv × (Int × Int) × Bool := if s.o.length = 0 ∨ freeV s = 0 then (s, (0, 0), false) else (⟨s.n, s.a, s.o.eraseIdx 0, s.r ++ [s.o.headD (0, 0)]⟩, s.o.headD (0, 0), true)
theorem own_raise {w : World} {base B e s n : Nat} {v : Value} {xs : List Value} (h : w.ownsRow base e s v n xs) (hk : ∀ g, v.ownBlock = some g → B ≤ g) : w.ownsRow B e s v n xs := by
  refine ⟨h.1, ?_⟩
  rcases h.2 with h2 | ⟨g, cap, cur, h3, h4, h5, h6⟩
  · exact .inl h2
  · exact .inr ⟨g, cap, cur, h3, hk g (by rw [h3]; rfl), h5, h6⟩
theorem OwnW.drew {w : World} {B : Nat} {s : Sv} {A O R : Option Addr} {ca co cr : Nat} (h : OwnW w B s A O R ca co cr) : OwnW w.drew B s A O R ca co cr := h
theorem own_at {w w' : World} {base e s n : Nat} {v : Value} {xs : List Value} (h : w.ownsRow base e s v n xs) (hk : ∀ g, v.ownBlock = some g → w'.heap[g]? = w.heap[g]?) : w'.ownsRow base e s v n xs := by
  refine ⟨h.1, ?_⟩
  rcases h.2 with h2 | ⟨g, cap, cur, h3, h4, h5, h6⟩
  · exact .inl h2
  · exact .inr ⟨g, cap, cur, h3, h4, (hk g (by rw [h3]; rfl)).trans h5, h6⟩
theorem TB.retY {W u : World} {N Z Y : Nat} {s : Sv} {A O R : Option Addr} {ca co cr : Nat} {y0 y1 : Value} (h : TB W u N Z s A O R ca co cr) (hZ : W.heap.size ≤ Z) (hYZ : Y ≠ Z) (hY : W.heap.size ≤ Y) (hy : u.heap[Y]? = some (.cells #[y0, y1] 119 (0, 0)))
    (hO : ∀ g, (Value.slice O s.o.length co).ownBlock = some g → g ≠ Y) (hR : ∀ g, (Value.slice R s.r.length cr).ownBlock = some g → g ≠ Y) (x y : Value) (E : World) (hE : E = ((put4 u Z (.int .i64 s.n) (.slice A s.a.length ca) (.slice O s.o.length co) (.slice R s.r.length cr)).setCell ⟨Y, 0, none⟩ x).setCell ⟨Y, 1, none⟩ y) :
    E.heap[Z]? = some (.cells (svv s A O R ca co cr) 116 (0, 0)) ∧ E.heap[Y]? = some (.cells #[x, y] 119 (0, 0)) ∧ OwnW E W.heap.size s A O R ca co cr ∧ Below W.heap.size W E := by
  obtain ⟨h1, h2⟩ := h.ret hZ
  have hz := put4_heap h.2.1 (.int .i64 s.n) (.slice A s.a.length ca) (.slice O s.o.length co) (.slice R s.r.length cr)
  have hy2 := (put4_other (w := u) (b := Z) (g := Y) hYZ (.int .i64 s.n) (.slice A s.a.length ca) (.slice O s.o.length co) (.slice R s.r.length cr)).trans hy
  generalize put4 u Z (.int .i64 s.n) (.slice A s.a.length ca) (.slice O s.o.length co) (.slice R s.r.length cr) = p at *
  have hk : ∀ g, g ≠ Y → E.heap[g]? = p.heap[g]? := fun g hg => by rw [hE, Below.heap_setCell _ _ _ _ hg, Below.heap_setCell _ _ _ _ hg]
  refine ⟨(hk Z (Ne.symm hYZ)).trans hz, by rw [hE]; exact set_two hy2 x y, ⟨own_at h1.1 fun g hg => hk g (fun e => own_blk_ne h1.1 hy2 (by decide) (by rw [← e]; exact hg)), own_at h1.2.1 fun g hg => hk g (hO g hg), own_at h1.2.2 fun g hg => hk g (hR g hg)⟩, ?_⟩
  rw [hE]
  exact (h2.setCell (p := ⟨Y, 0, none⟩) hY x).setCell (p := ⟨Y, 1, none⟩) hY y

set_option maxRecDepth 20000 in
set_option maxHeartbeats 4000000 in
theorem next_any (s : Sv) (A O R : Option Addr) (ca co cr : Nat) (W : World) (h : InV W s A O R ca co cr) (hk : OkV s) :
    Calls Try.prog 89 #[.agg (svv s A O R ca co cr)] W fun e w' => ∃ A' O' R' ca' co' cr', e = .returned (.tuple #[.agg (svv ((nextV s).1) A' O' R' ca' co' cr'), .agg #[.int .i64 (nextV s).2.1.1, .int .i64 (nextV s).2.1.2], .bool (nextV s).2.2]) ∧ OwnW w' W.heap.size ((nextV s).1) A' O' R' ca' co' cr' ∧ Below W.heap.size W w' := by
  have HCL := hid (fun w (hw : Below W.heap.size W w) => cloned_any s A O R ca co cr w (h.below hw) (by have := hk.2; omega))
  have HFR := hid (fun A O R ca co cr w => free_any s A O R ca co cr w hk)
  have HV : Hid (nextV s = if s.o.length = 0 ∨ freeV s = 0 then (s, (0, 0), false) else (⟨s.n, s.a, s.o.eraseIdx 0, s.r ++ [s.o.headD (0, 0)]⟩, s.o.headD (0, 0), true)) := hid rfl
  have hlo := hk.2.2.1
  have hlr := hk.2.2.2
  clear h hk
  generalize nextV s = av at *
  generalize freeV s = f at *
  obtain ⟨n, a, o, r⟩ := s
  simp only [svv] at *
  go_enter Try.func89, Try.ntmps89
  go_upto_region 1 with (fail)
  refine at_world (fun u => u.heap[W.heap.size]? = some (.cells #[.int .i64 n, .slice A a.length ca, .slice O o.length co, .slice R r.length cr] 116 (0, 0)) ∧ u.heap[W.heap.size + 1]? = some (.cells #[.int .i64 0, .slice none 0 0, .slice none 0 0, .slice none 0 0] 116 (0, 0)) ∧ u.heap[W.heap.size + 2]? = some (.cells #[.int .i64 0, .int .i64 0] 119 (0, 0)) ∧ Below W.heap.size W u) (heap3 _ _ _ _) ?_
  rintro w1 ⟨hx1, hz1, hy1, hb1⟩
  obtain ⟨⟨p0, p1, p2, p3⟩, f0, f1, f2, f3⟩ := four_cells hx1
  have HX1 := hid hx1
  have HZ1 := hid hz1
  have HY1 := hid hy1
  have HB1 := hid hb1
  have HLT := hid (lt_of_block hy1)
  clear hx1 hy1 hz1 hb1
  go_wp2_with fail
  refine (HCL.out _ HB1.out).mono ?_
  rintro e w2 ⟨A1, O1, R1, ca1, co1, cr1, rfl, ho2, hb2⟩
  have hx2 := keep0 HX1.out hb2
  have HB2 := hid (HB1.out.trans (hb2.mono HB1.out.size))
  have HS2 := hid (SB.of hx2 (keep0 HZ1.out hb2) (by omega) (ho2.mono HB1.out.size) HB2.out (Nat.le_refl _))
  have HY3 := hid ((put4_other (w := w2) (b := W.heap.size) (g := W.heap.size + 2) (by omega) (.int .i64 n) (.slice A1 a.length ca1) (.slice O1 o.length co1) (.slice R1 r.length cr1)).trans (keep0 HY1.out hb2))
  have HGO : Hid (∀ g, (Value.slice O1 o.length co1).ownBlock = some g → W.heap.size + 2 < g) := hid (fun g hg => Nat.lt_of_lt_of_le HLT.out (own_blk_lt ho2.2.1 hg).2)
  have HGR : Hid (∀ g, (Value.slice R1 r.length cr1).ownBlock = some g → W.heap.size + 2 < g) := hid (fun g hg => Nat.lt_of_lt_of_le HLT.out (own_blk_lt ho2.2.2.1 hg).2)
  clear p0 p1 p2 p3 f0 f1 f2 f3
  obtain ⟨⟨p0, p1, p2, p3⟩, f0, f1, f2, f3⟩ := four_cells hx2
  clear hx2 ho2 hb2 HX1 HZ1 HB1 HCL HY1 HLT
  go_upto_region 2 with (fail)
  refine at_world (fun u => SB W u W.heap.size (W.heap.size + 1) ⟨n, a, o, r⟩ A1 O1 R1 ca1 co1 cr1 ∧ u.heap[W.heap.size + 2]? = some (.cells #[.int .i64 0, .int .i64 0] 119 (0, 0))) ⟨HS2.out, HY3.out⟩ ?_
  clear p0 p1 p2 p3 f0 f1 f2 f3 HS2 HY3
  rintro w3 ⟨hs3, hy3⟩
  obtain ⟨⟨p0, p1, p2, p3⟩, f0, f1, f2, f3⟩ := four_cells hs3.1
  obtain ⟨_, _, y2, y3⟩ := two_cells hy3
  have HS3 := hid hs3
  have HY3 := hid hy3
  clear hs3 hy3
  by_cases ho0 : o.length = 0
  · have hd : ((o.length : Int) == 0) = true := by simp [ho0]
    have HVV : Hid (av = (⟨n, a, o, r⟩, (0, 0), false)) := hid (by rw [HV.out, if_pos (.inl ho0)])
    obtain ⟨_, g0, g1, g2, g3⟩ := four_cells HS3.out.2.1
    have HT3 := hid HS3.out.t
    clear HFR ho0
    go_wp2
    obtain ⟨hz9, hy9, ho9, hb9⟩ := HT3.out.retY (Y := W.heap.size + 2) (show W.heap.size ≤ W.heap.size + 1 by omega) (by omega) (by omega) HY3.out (fun g hg => by have := HGO.out g hg; omega) (fun g hg => by have := HGR.out g hg; omega) (.int .i64 0) (.int .i64 0) _ rfl
    simp only [put4, svv] at hz9 hy9 ho9 hb9
    obtain ⟨⟨r0, r1, r2, r3⟩, _⟩ := four_cells hz9
    obtain ⟨t0, t1, _, _⟩ := two_cells hy9
    exact bodyPost_ret (v := .tuple #[.agg #[.int .i64 n, .slice A1 a.length ca1, .slice O1 o.length co1, .slice R1 r.length cr1], .agg #[(.int .i64 0), (.int .i64 0)], .bool false]) (by simp [results, Try.results89, go_sem, r0, r1, r2, r3, t0, t1]) rfl ⟨A1, O1, R1, ca1, co1, cr1, by rw [HVV.out] <;> (first | rfl | simp), by rw [HVV.out]; exact ho9, hb9⟩
  · have hd : ((o.length : Int) == 0) = false := by simpa using ho0
    go_wp2_with fail
    refine (HFR.out _ _ _ _ _ _ _).mono ?_
    rintro e w4 ⟨rfl, hb4⟩
    have HS4 := hid (HS3.out.keep hb4)
    have HY4 := hid (keep0 HY3.out hb4)
    clear hb4 HS3 HY3 HFR p0 p1 p2 p3 f0 f1 f2 f3 y2 y3
    obtain ⟨⟨p0, p1, p2, p3⟩, f0, f1, f2, f3⟩ := four_cells HS4.out.1
    obtain ⟨_, _, y2, y3⟩ := two_cells HY4.out
    by_cases hf : f = 0
    · subst hf
      have hd2 : ((0 : Int) == 0) = true := rfl
      have HVV : Hid (av = (⟨n, a, o, r⟩, (0, 0), false)) := hid (by rw [HV.out, if_pos (.inr rfl)])
      obtain ⟨_, g0, g1, g2, g3⟩ := four_cells HS4.out.2.1
      have HT4 := hid HS4.out.t
      clear ho0
      go_wp2
      obtain ⟨hz9, hy9, ho9, hb9⟩ := HT4.out.retY (Y := W.heap.size + 2) (show W.heap.size ≤ W.heap.size + 1 by omega) (by omega) (by omega) HY4.out (fun g hg => by have := HGO.out g hg; omega) (fun g hg => by have := HGR.out g hg; omega) (.int .i64 0) (.int .i64 0) _ rfl
      simp only [put4, svv] at hz9 hy9 ho9 hb9
      obtain ⟨⟨r0, r1, r2, r3⟩, _⟩ := four_cells hz9
      obtain ⟨t0, t1, _, _⟩ := two_cells hy9
      exact bodyPost_ret (v := .tuple #[.agg #[.int .i64 n, .slice A1 a.length ca1, .slice O1 o.length co1, .slice R1 r.length cr1], .agg #[(.int .i64 0), (.int .i64 0)], .bool false]) (by simp [results, Try.results89, go_sem, r0, r1, r2, r3, t0, t1]) rfl ⟨A1, O1, R1, ca1, co1, cr1, by rw [HVV.out] <;> (first | rfl | simp), by rw [HVV.out]; exact ho9, hb9⟩
    · have hd2 : (f == 0) = false := by simpa using hf
      obtain ⟨g, rfl⟩ := own_open2 HS4.out.2.2.1.2.1 (show 0 < o.length by omega)
      have ho01 : 0 < o.length := by omega
      obtain ⟨c0, c1⟩ := (sl_own HS4.out.2.2.1.2.1).pair 0 ho01
      have hhd : o.headD (0, 0) = o[0] := by
        cases o with
        | nil => simp at ho0
        | cons z o => rfl
      have HVV : Hid (av = (⟨n, a, o.eraseIdx 0, r ++ [o[0]]⟩, o[0], true)) := hid (by rw [HV.out, if_neg (fun h => h.elim ho0 hf), hhd])
      clear hhd HV
      obtain ⟨m, hm⟩ : ∃ m, o.length = m + 1 := ⟨o.length - 1, by omega⟩
      have HM := hid hm
      have hol : (0 : Int) < (o.length : Int) := by omega
      have hgl := (own_blk_lt HS4.out.2.2.1.2.1 (show (Value.slice (some ⟨g, 0, none⟩) o.length co1).ownBlock = some g from rfl)).1
      have HEM : Hid ((o.eraseIdx 0).length = m) := hid (by rw [List.length_eraseIdx, if_pos (by omega)]; omega)
      have HDL := hid (fun (w : World) (h : w.ownsRow W.heap.size 119 2 (.slice (some ⟨g, 0, none⟩) o.length co1) o.length (pcells o)) (hw : W.heap.size ≤ w.heap.size) => by
        have h9 := delT_any co1 W.heap.size g m o 0 w hm (by rw [← hm]; exact h) (by omega) (by omega) hw
        have e0 : ((0 : Nat) : Int) = 0 := rfl
        rw [e0, Int.zero_add, ← hm] at h9
        exact h9)
      generalize hz : o[0]'ho01 = z at *
      obtain ⟨x, y⟩ := z
      simp only [Nat.zero_mul, Nat.add_zero, Nat.zero_add] at c0 c1
      clear hz hm ho0 ho01
      go_upto_region 5 with (fail)
      have hal : Below w4.heap.size w4 (w4.alloc (.cells #[.int .i64 x, .int .i64 y] 119)) := (Below.refl _ _).alloc (Nat.le_refl _) _
      refine at_world (fun u => SB W u W.heap.size (W.heap.size + 1) ⟨n, a, o, r⟩ A1 (some ⟨g, 0, none⟩) R1 ca1 co1 cr1 ∧ u.heap[W.heap.size + 2]? = some (.cells #[.int .i64 0, .int .i64 0] 119 (0, 0)) ∧ u.heap[w4.heap.size]? = some (.cells #[.int .i64 x, .int .i64 y] 119 (0, 0))) ⟨HS4.out.keep hal, keep0 HY4.out hal, heap_alloc_new _ _⟩ ?_
      have hN4 := lt_of_block HY4.out
      have HGT : Hid (g ≠ w4.heap.size ∧ W.heap.size + 2 < w4.heap.size ∧ ∀ q, (Value.slice R1 r.length cr1).ownBlock = some q → q < w4.heap.size) := hid ⟨by omega, hN4, fun q hq => (own_blk_lt HS4.out.2.2.1.2.2.1 hq).1⟩
      clear p0 p1 p2 p3 f0 f1 f2 f3 c0 c1 y2 y3 HS4 HY4 hal hgl hN4
      generalize w4.heap.size = T at *
      rintro w5 ⟨hs5, hy5, ht5⟩
      obtain ⟨⟨p0, p1, p2, p3⟩, f0, f1, f2, f3⟩ := four_cells hs5.1
      have HS5 := hid hs5
      have HY5 := hid hy5
      have HT5 := hid ht5
      clear hs5 hy5 ht5
      go_wp2_with fail
      refine (HDL.out _ HS5.out.2.2.1.2.1 HS5.out.2.2.2.size).mono ?_
      rintro e w6 ⟨rfl, ho6, hb6, hk6⟩
      obtain ⟨kN, hS⟩ := HS5.out.delO (Nat.le_refl _) (show W.heap.size ≤ W.heap.size + 1 by omega) (by omega) HEM.out ho6 (HS5.out.2.2.2.trans hb6) hk6
      have hx6 := kN.trans HS5.out.1
      have HS7 := hid hS
      have hgY : W.heap.size + 2 ≠ g := fun e => by have := HGO.out g rfl; omega
      have HY7 := hid ((Below.heap_setCell w6 ⟨W.heap.size, 2, none⟩ (.slice (some ⟨g, 0, none⟩) m co1) _ (show W.heap.size + 2 ≠ W.heap.size by omega)).trans ((hk6 _ hgY).trans HY5.out))
      have HT7 := hid ((Below.heap_setCell w6 ⟨W.heap.size, 2, none⟩ (.slice (some ⟨g, 0, none⟩) m co1) _ (show T ≠ W.heap.size by have := HGT.out.2.1; omega)).trans ((hk6 _ (Ne.symm HGT.out.1)).trans HT5.out))
      clear p0 p1 p2 p3 f0 f1 f2 f3 ho6 hb6 hk6 kN hS HS5 HY5 HT5 HDL hgY
      obtain ⟨⟨p0, p1, p2, p3⟩, f0, f1, f2, f3⟩ := four_cells hx6
      clear hx6
      go_upto_region 6 with (fail)
      refine at_world (fun u => SB W u W.heap.size (W.heap.size + 1) ⟨n, a, o.eraseIdx 0, r⟩ A1 (some ⟨g, 0, none⟩) R1 ca1 co1 cr1 ∧ u.heap[W.heap.size + 2]? = some (.cells #[.int .i64 0, .int .i64 0] 119 (0, 0)) ∧ u.heap[T]? = some (.cells #[.int .i64 x, .int .i64 y] 119 (0, 0))) ⟨HS7.out, HY7.out, HT7.out⟩ ?_
      clear p0 p1 p2 p3 f0 f1 f2 f3 HS7 HY7 HT7
      rintro w8 ⟨hs8, hy8, ht8⟩
      obtain ⟨⟨p0, p1, p2, p3⟩, f0, f1, f2, f3⟩ := four_cells hs8.1
      obtain ⟨t0, t1, _, _⟩ := two_cells ht8
      have HS8 := hid hs8
      have HY8 := hid hy8
      have HT8 := hid ht8
      clear hs8 hy8 ht8
      have hla9 : r.length + 1 ≤ 100000 := by omega
      have HRB : Hid (w8.ownsRow (W.heap.size + 3) 119 2 (.slice R1 r.length cr1) r.length (pcells r)) := hid (own_raise HS8.out.2.2.1.2.2.1 (fun q hq => HGR.out q hq))
      have hsz8 : W.heap.size + 3 ≤ w8.heap.size := by have := HGT.out.2.1; have := lt_of_block HT8.out; omega
      have HSZ8 := hid hsz8
      clear hsz8
      go_wp2_with (at_builtin; refine wpList_append_1k (W := w8) rfl (.tmp 28) (.tmp 30) 111 rfl (W.heap.size + 3) 119 Try.underlying111 info_task rfl (by omega) rfl HRB.out rfl (by rfl) (by simp [Value.oneCell']) ?c1 ?c2 HSZ8.out (Below.refl _ _) ?_)
      case c1 => unfold maxLen; omega
      case c2 => omega
      · intro v6 w9 h2' h3' h4 h5'
        have h2 := own_mono h2' (show W.heap.size ≤ W.heap.size + 3 by omega)
        have h3 := HS8.out.2.2.2.trans (h3'.mono (show W.heap.size ≤ W.heap.size + 3 by omega))
        have h5 : ∀ g, W.heap.size ≤ g → g < w8.heap.size → (Value.slice R1 r.length cr1).ownBlock ≠ some g → w9.heap[g]? = w8.heap[g]? := fun g h1 h2 h3 => by
          by_cases hg : g < W.heap.size + 3
          · exact h3'.block g hg
          · exact h5' g (by omega) h2 h3
        have hTY : w9.heap[W.heap.size + 2]? = w8.heap[W.heap.size + 2]? := h5 _ (by omega) (lt_of_block HY8.out) (fun e => by have := HGR.out _ e; omega)
        have hTT : w9.heap[T]? = w8.heap[T]? := h5 _ (by have := HGT.out.2.1; omega) (lt_of_block HT8.out) (fun e => by have := HGT.out.2.2 _ e; omega)
        obtain ⟨kN, A6, c6, rfl, hT⟩ := HS8.out.pushR (Nat.le_refl _) (show W.heap.size ≤ W.heap.size + 1 by omega) (by omega) h2 h3 h5
        have HTB := hid hT
        have hx9 := kN.trans HS8.out.1
        have HY9 := hid ((Below.heap_setCell w9 ⟨W.heap.size, 3, none⟩ (.slice A6 (r.length + 1) c6) _ (show W.heap.size + 2 ≠ W.heap.size by omega)).trans (hTY.trans HY8.out))
        have HT9 := hid ((Below.heap_setCell w9 ⟨W.heap.size, 3, none⟩ (.slice A6 (r.length + 1) c6) _ (show T ≠ W.heap.size by have := HGT.out.2.1; omega)).trans (hTT.trans HT8.out))
        have HGN : Hid (∀ q, (Value.slice A6 (r.length + 1) c6).ownBlock = some q → q ≠ W.heap.size + 2) := hid (fun q hq e => by
          have := (own_blk_lt h2' hq).2
          omega)
        clear h2' h3' h5' HRB HSZ8
        clear p0 p1 p2 p3 f0 f1 f2 f3 h2 h3 h4 h5 kN hT t0 t1 hTY hTT
        obtain ⟨⟨p0, p1, p2, p3⟩, f0, f1, f2, f3⟩ := four_cells hx9
        clear hx9
        go_upto_region 7 with (fail)
        refine at_world (fun u => TB W u W.heap.size (W.heap.size + 1) ⟨n, a, o.eraseIdx 0, r ++ [(x, y)]⟩ A1 (some ⟨g, 0, none⟩) A6 ca1 co1 c6 ∧ u.heap[W.heap.size + 2]? = some (.cells #[.int .i64 0, .int .i64 0] 119 (0, 0)) ∧ u.heap[T]? = some (.cells #[.int .i64 x, .int .i64 y] 119 (0, 0))) ⟨HTB.out, HY9.out, HT9.out⟩ ?_
        clear p0 p1 p2 p3 f0 f1 f2 f3 HTB HY9 HT9
        rintro w7 ⟨hT7, hY7, ht7⟩
        obtain ⟨⟨p0, p1, p2, p3⟩, _⟩ := four_cells hT7.1
        obtain ⟨_, g0, g1, g2, g3⟩ := four_cells hT7.2.1
        obtain ⟨t0, t1, _, _⟩ := two_cells ht7
        obtain ⟨_, _, y2, y3⟩ := two_cells hY7
        have HT7 := hid hT7
        have HY7 := hid hY7
        clear hT7 hY7 ht7
        simp only [List.length_append, List.length_cons, List.length_nil, Nat.zero_add] at p3
        rw [HEM.out] at p2
        have hTgt := HGT.out.2.1
        go_region
        go_wp2
        obtain ⟨hz9, hy9, ho9, hb9⟩ := HT7.out.retY (Y := W.heap.size + 2) (show W.heap.size ≤ W.heap.size + 1 by omega) (by omega) (by omega) HY7.out (fun q hq => by have := HGO.out q hq; omega) (fun q hq => by simp only [List.length_append, List.length_cons, List.length_nil, Nat.zero_add] at hq; exact HGN.out q hq) (.int .i64 x) (.int .i64 y) _ rfl
        simp only [List.length_append, List.length_cons, List.length_nil, Nat.zero_add, HEM.out] at hz9 hy9 ho9 hb9
        simp only [put4, svv, List.length_append, List.length_cons, List.length_nil, Nat.zero_add, HEM.out] at hz9 hy9 ho9 hb9
        obtain ⟨⟨r0, r1, r2, r3⟩, _⟩ := four_cells hz9
        obtain ⟨s0, s1, _, _⟩ := two_cells hy9
        exact bodyPost_ret (v := .tuple #[.agg #[.int .i64 n, .slice A1 a.length ca1, .slice (some ⟨g, 0, none⟩) m co1, .slice A6 (r.length + 1) c6], .agg #[.int .i64 x, .int .i64 y], .bool true]) (by simp [results, Try.results89, go_sem, r0, r1, r2, r3, s0, s1]) rfl ⟨A1, some ⟨g, 0, none⟩, A6, ca1, co1, c6, by rw [HVV.out]; simp only [HEM.out, List.length_append, List.length_cons, List.length_nil, Nat.zero_add], by rw [HVV.out]; exact ho9.drew, below_drew hb9⟩
end Go.Proofs.Ytadjmgmdnekllaa
