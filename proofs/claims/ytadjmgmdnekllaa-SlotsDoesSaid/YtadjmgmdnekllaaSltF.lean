/- slots: None, Give, End, Move: contracts. -/
import Derived.Test.YtadjmgmdnekllaaSltE
import Derived.Test.YtadjmgmdnekllaaQueD
namespace Go.Proofs.Ytadjmgmdnekllaa
open Go.RowKit Go.Sort
set_option linter.unusedVariables false
set_option linter.unusedSimpArgs false

theorem heap2 (W : World) (o1 o2 : Obj) : ((W.alloc o1).alloc o2).heap[W.heap.size]? = some o1 ∧ ((W.alloc o1).alloc o2).heap[W.heap.size + 1]? = some o2 ∧ Below W.heap.size W ((W.alloc o1).alloc o2) := ⟨heap_first _ _ _, heap_second _ _ _, below2 _ _ _⟩
/-- A new row of places. -/
theorem SB.setA {W w : World} {N Z : Nat} {n : Int} {a a' o r : List (Int × Int)} {A O R A' : Option Addr} {ca co cr ca' : Nat} (h : SB W w N Z ⟨n, a, o, r⟩ A O R ca co cr) (hN : W.heap.size ≤ N) (hne : Z ≠ N)
    (h2 : w.ownsRow W.heap.size 91 2 (.slice A' a'.length ca') a'.length (pcells a')) : SB W (w.setCell ⟨N, 1, none⟩ (.slice A' a'.length ca')) N Z ⟨n, a', o, r⟩ A' O R ca' co cr := by
  have e1 := heap_setCell_same w N 1 _ _ (.slice A' a'.length ca') h.1
  have ov : OwnV w W.heap.size ⟨n, a', o, r⟩ A' O R ca' co cr := ⟨h2, h.2.2.1.2.1, h.2.2.1.2.2.1, h.2.2.1.2.2.2⟩
  refine ⟨by rw [e1]; rfl, (Below.heap_setCell _ _ _ _ hne).trans h.2.1, ov.same h.1 fun g hg => Below.heap_setCell _ _ _ _ hg, h.2.2.2.setCell hN _⟩
/-- A row of tasks from which one was taken: in the place of the owed, or of the running. -/
theorem SB.delO {W w w' : World} {N Z g m : Nat} {n : Int} {a o o' r : List (Int × Int)} {A R : Option Addr} {ca co cr : Nat} (h : SB W w N Z ⟨n, a, o, r⟩ A (some ⟨g, 0, none⟩) R ca co cr) (hN : W.heap.size ≤ N) (hZ : W.heap.size ≤ Z) (hne : Z ≠ N) (hm : o'.length = m)
    (h2 : w'.ownsRow W.heap.size 119 2 (.slice (some ⟨g, 0, none⟩) m co) m (pcells o')) (h3 : Below W.heap.size W w') (hk : ∀ j, j ≠ g → w'.heap[j]? = w.heap[j]?) :
    w'.heap[N]? = w.heap[N]? ∧ SB W (w'.setCell ⟨N, 2, none⟩ (.slice (some ⟨g, 0, none⟩) m co)) N Z ⟨n, a, o', r⟩ A (some ⟨g, 0, none⟩) R ca co cr := by
  subst hm
  have hgb : (Value.slice (some ⟨g, 0, none⟩) o.length co).ownBlock = some g := rfl
  have gN : N ≠ g := fun e => own_blk_ne h.2.2.1.2.1 h.1 (by decide) (by rw [e]; exact hgb)
  have gZ : Z ≠ g := fun e => own_blk_ne h.2.2.1.2.1 h.2.1 (by decide) (by rw [e]; exact hgb)
  have kN := hk N gN
  have e1 := heap_setCell_same w' N 2 _ _ (.slice (some ⟨g, 0, none⟩) o'.length co) (kN.trans h.1)
  have k2 : ∀ {v : Value} {e2 : Nat} {m : Nat} {ys : List Value} (sz : Nat), w.ownsRow W.heap.size e2 sz v m ys → v.ownBlock ≠ some g → w'.ownsRow W.heap.size e2 sz v m ys := fun {v e2 m ys} sz k hd => by
    refine ⟨k.1, ?_⟩
    rcases k.2 with k2 | ⟨q, cap, cur, k3, k4, k5, k6⟩
    · exact .inl k2
    · exact .inr ⟨q, cap, cur, k3, k4, (hk q (fun e => hd (by rw [k3, e]; rfl))).trans k5, k6⟩
  have ov : OwnV w' W.heap.size ⟨n, a, o', r⟩ A (some ⟨g, 0, none⟩) R ca co cr := ⟨k2 _ h.2.2.1.1 (fun e => own_apart (by decide) h.2.2.1.1 h.2.2.1.2.1 g hgb e), h2, k2 _ h.2.2.1.2.2.1 (h.2.2.1.2.2.2 g hgb), fun q hq => by
    have : g = q := by simpa [Value.ownBlock] using hq
    subst this
    exact h.2.2.1.2.2.2 g hgb⟩
  refine ⟨kN, by rw [e1]; rfl, (Below.heap_setCell _ _ _ _ hne).trans ((hk Z gZ).trans h.2.1), ov.same (kN.trans h.1) fun q hq => Below.heap_setCell _ _ _ _ hq, h3.setCell hN _⟩
theorem SB.delR {W w w' : World} {N Z g m : Nat} {n : Int} {a o r r' : List (Int × Int)} {A O : Option Addr} {ca co cr : Nat} (h : SB W w N Z ⟨n, a, o, r⟩ A O (some ⟨g, 0, none⟩) ca co cr) (hN : W.heap.size ≤ N) (hZ : W.heap.size ≤ Z) (hne : Z ≠ N) (hm : r'.length = m)
    (h2 : w'.ownsRow W.heap.size 119 2 (.slice (some ⟨g, 0, none⟩) m cr) m (pcells r')) (h3 : Below W.heap.size W w') (hk : ∀ j, j ≠ g → w'.heap[j]? = w.heap[j]?) :
    w'.heap[N]? = w.heap[N]? ∧ SB W (w'.setCell ⟨N, 3, none⟩ (.slice (some ⟨g, 0, none⟩) m cr)) N Z ⟨n, a, o, r'⟩ A O (some ⟨g, 0, none⟩) ca co cr := by
  subst hm
  have hgb : (Value.slice (some ⟨g, 0, none⟩) r.length cr).ownBlock = some g := rfl
  have gN : N ≠ g := fun e => own_blk_ne h.2.2.1.2.2.1 h.1 (by decide) (by rw [e]; exact hgb)
  have gZ : Z ≠ g := fun e => own_blk_ne h.2.2.1.2.2.1 h.2.1 (by decide) (by rw [e]; exact hgb)
  have kN := hk N gN
  have e1 := heap_setCell_same w' N 3 _ _ (.slice (some ⟨g, 0, none⟩) r'.length cr) (kN.trans h.1)
  have k2 : ∀ {v : Value} {e2 : Nat} {m : Nat} {ys : List Value} (sz : Nat), w.ownsRow W.heap.size e2 sz v m ys → v.ownBlock ≠ some g → w'.ownsRow W.heap.size e2 sz v m ys := fun {v e2 m ys} sz k hd => by
    refine ⟨k.1, ?_⟩
    rcases k.2 with k2 | ⟨q, cap, cur, k3, k4, k5, k6⟩
    · exact .inl k2
    · exact .inr ⟨q, cap, cur, k3, k4, (hk q (fun e => hd (by rw [k3, e]; rfl))).trans k5, k6⟩
  have hsep : (Value.slice O o.length co).ownBlock ≠ some g := fun e => h.2.2.1.2.2.2 g e hgb
  have ov : OwnV w' W.heap.size ⟨n, a, o, r'⟩ A O (some ⟨g, 0, none⟩) ca co cr := ⟨k2 _ h.2.2.1.1 (fun e => own_apart (by decide) h.2.2.1.1 h.2.2.1.2.2.1 g hgb e), k2 _ h.2.2.1.2.1 hsep, h2, fun q hq hq2 => by
    have : g = q := by simpa [Value.ownBlock] using hq2
    subst this
    exact hsep hq⟩
  refine ⟨kN, by rw [e1]; rfl, (Below.heap_setCell _ _ _ _ hne).trans ((hk Z gZ).trans h.2.1), ov.same (kN.trans h.1) fun q hq => Below.heap_setCell _ _ _ _ hq, h3.setCell hN _⟩
theorem SB.retV {W u : World} {N Z : Nat} {s : Sv} {A O R : Option Addr} {ca co cr : Nat} (h : SB W u N Z s A O R ca co cr) (hZ : W.heap.size ≤ Z) : OwnV (put4 u Z (.int .i64 s.n) (.slice A s.a.length ca) (.slice O s.o.length co) (.slice R s.r.length cr)) W.heap.size s A O R ca co cr ∧ Below W.heap.size W (put4 u Z (.int .i64 s.n) (.slice A s.a.length ca) (.slice O s.o.length co) (.slice R s.r.length cr)) := ⟨h.2.2.1.put h.2.1 _ _ _ _, put4_below h.2.2.2 hZ _ _ _ _⟩
theorem own_open2 {w : World} {B e s c n : Nat} {A : Option Addr} {xs : List Value} (h : w.ownsRow B e s (.slice A n c) n xs) (h0 : 0 < n) : ∃ g, A = some ⟨g, 0, none⟩ := by
  rcases h.2 with ⟨_, h2⟩ | ⟨g, cap, cur, h3, _⟩
  · omega
  · injection h3 with h3
    exact ⟨g, h3⟩

def noneV (s : Sv) (j : Int) : Sv × Bool := (⟨s.n, dropJ s.a j, s.o, s.r⟩, decide ((dropJ s.a j).length < s.a.length))
set_option maxRecDepth 20000 in
set_option maxHeartbeats 4000000 in
theorem none_any (s : Sv) (j : Int) (A O R : Option Addr) (ca co cr : Nat) (W : World) (h : InV W s A O R ca co cr) (hk : OkV s) :
    Calls Try.prog 83 #[.agg (svv s A O R ca co cr), .int .i64 j] W fun e w' => ∃ A' O' R' ca' co' cr', e = .returned (.tuple #[.agg (svv ((noneV s j).1) A' O' R' ca' co' cr'), .bool (noneV s j).2]) ∧ OwnV w' W.heap.size ((noneV s j).1) A' O' R' ca' co' cr' ∧ Below W.heap.size W w' := by
  have HCL := hid (fun w (hw : Below W.heap.size W w) => cloned_any s A O R ca co cr w (h.below hw) (by have := hk.2; omega))
  have HD := hid (fun w A' ca' (h : Sl w 2 A' s.a.length ca' (pcells s.a)) => drop_any A' s.a.length ca' s.a j w h (by have := hk.2.1; omega))
  have HV : Hid (noneV s j = (⟨s.n, dropJ s.a j, s.o, s.r⟩, decide ((dropJ s.a j).length < s.a.length))) := hid rfl
  clear h hk
  generalize noneV s j = av at *
  generalize dropJ s.a j = d at *
  obtain ⟨n, a, o, r⟩ := s
  simp only [svv] at *
  go_enter Try.func83, Try.ntmps83
  go_upto_region 1 with (fail)
  refine at_world (fun u => u.heap[W.heap.size]? = some (.cells #[.int .i64 n, .slice A a.length ca, .slice O o.length co, .slice R r.length cr] 116 (0, 0)) ∧ u.heap[W.heap.size + 1]? = some (.cells #[.int .i64 0, .slice none 0 0, .slice none 0 0, .slice none 0 0] 116 (0, 0)) ∧ Below W.heap.size W u) (heap2 _ _ _) ?_
  rintro w1 ⟨hx1, hz1, hb1⟩
  obtain ⟨⟨p0, p1, p2, p3⟩, f0, f1, f2, f3⟩ := four_cells hx1
  have HX1 := hid hx1
  have HZ1 := hid hz1
  have HB1 := hid hb1
  clear hx1 hz1 hb1
  go_wp2_with fail
  refine (HCL.out _ HB1.out).mono ?_
  rintro e w2 ⟨A1, O1, R1, ca1, co1, cr1, rfl, ho2, hb2⟩
  have hx2 := keep0 HX1.out hb2
  have HB2 := hid (HB1.out.trans (hb2.mono HB1.out.size))
  have HS2 := hid (SB.of hx2 (keep0 HZ1.out hb2) (by omega) (ho2.mono HB1.out.size) HB2.out (Nat.le_refl _))
  clear p0 p1 p2 p3 f0 f1 f2 f3
  obtain ⟨⟨p0, p1, p2, p3⟩, f0, f1, f2, f3⟩ := four_cells hx2
  clear hx2 ho2 hb2 HX1 HZ1 HB1 HCL
  go_upto_region 2 with (fail)
  refine at_world (fun u => SB W u W.heap.size (W.heap.size + 1) ⟨n, a, o, r⟩ A1 O1 R1 ca1 co1 cr1) HS2.out ?_
  clear p0 p1 p2 p3 f0 f1 f2 f3 HS2
  rintro w3 hs3
  obtain ⟨⟨p0, p1, p2, p3⟩, f0, f1, f2, f3⟩ := four_cells hs3.1
  have HS3 := hid hs3
  clear hs3
  have HC := hid (HD.out w3 A1 ca1 (sl_own HS3.out.2.2.1.1))
  clear HD
  generalize decide (d.length < a.length) = bb at *
  go_wp2_with fail
  refine HC.out.mono ?_
  rintro e w4 ⟨v4, rfl, ho4, hb4⟩
  obtain ⟨A4, c4, rfl, _⟩ := Sl.of_own ho4
  have hs4 := HS3.out.keep hb4
  have HS5 := hid (hs4.setA (Nat.le_refl _) (by omega) (own_mono ho4 HS3.out.2.2.2.size))
  clear p0 p1 p2 p3 f0 f1 f2 f3 ho4 hb4 HC HS3
  obtain ⟨⟨p0, p1, p2, p3⟩, f0, f1, f2, f3⟩ := four_cells hs4.1
  clear hs4
  go_upto_region 4 with (fail)
  refine at_world (fun u => SB W u W.heap.size (W.heap.size + 1) ⟨n, d, o, r⟩ A4 O1 R1 c4 co1 cr1) HS5.out ?_
  clear p0 p1 p2 p3 f0 f1 f2 f3 HS5
  rintro w6 hs6
  obtain ⟨⟨p0, p1, p2, p3⟩, f0, f1, f2, f3⟩ := four_cells hs6.1
  have HS6 := hid hs6
  clear hs6
  obtain ⟨_, g0, g1, g2, g3⟩ := four_cells HS6.out.2.1
  obtain ⟨⟨r0, r1, r2, r3⟩, _⟩ := four_cells (put4_heap HS6.out.2.1 (.int .i64 n) (.slice A4 d.length c4) (.slice O1 o.length co1) (.slice R1 r.length cr1))
  simp only [put4] at r0 r1 r2 r3
  go_wp2
  have hr := HS6.out.retV (show W.heap.size ≤ W.heap.size + 1 by omega)
  exact bodyPost_ret (v := .tuple #[.agg #[.int .i64 n, .slice A4 d.length c4, .slice O1 o.length co1, .slice R1 r.length cr1], .bool bb]) (by simp [results, Try.results83, go_sem, r0, r1, r2, r3]) rfl ⟨A4, O1, R1, c4, co1, cr1, by rw [HV.out] <;> (first | rfl | simp), by rw [HV.out]; exact hr.1, hr.2⟩
def giveV (s : Sv) (t : Int × Int) : Sv × Bool := if freeV (noneV s t.1).1 = 0 then (⟨s.n, dropJ s.a t.1, s.o ++ [t], s.r⟩, false) else (⟨s.n, dropJ s.a t.1, s.o, s.r ++ [t]⟩, true)
theorem none_ok {s : Sv} (j : Int) (h : OkV s) : OkV (noneV s j).1 := ⟨h.1, Nat.le_trans (dropJ_len s.a j) h.2.1, h.2.2⟩
set_option maxRecDepth 20000 in
set_option maxHeartbeats 4000000 in
theorem give_any (s : Sv) (j x : Int) (A O R : Option Addr) (ca co cr : Nat) (W : World) (h : InV W s A O R ca co cr) (hk : OkV s) :
    Calls Try.prog 85 #[.agg (svv s A O R ca co cr), .agg #[.int .i64 j, .int .i64 x]] W fun e w' => ∃ A' O' R' ca' co' cr', e = .returned (.tuple #[.agg (svv ((giveV s (j, x)).1) A' O' R' ca' co' cr'), .bool (giveV s (j, x)).2]) ∧ OwnW w' W.heap.size ((giveV s (j, x)).1) A' O' R' ca' co' cr' ∧ Below W.heap.size W w' := by
  have HCL := hid (fun w (hw : Below W.heap.size W w) => none_any s j A O R ca co cr w (h.below hw) hk)
  have HFR := hid (fun A O R ca co cr w => free_any (noneV s j).1 A O R ca co cr w (none_ok j hk))
  have HV : Hid (giveV s (j, x) = if freeV (noneV s j).1 = 0 then (⟨s.n, dropJ s.a j, s.o ++ [(j, x)], s.r⟩, false) else (⟨s.n, dropJ s.a j, s.o, s.r ++ [(j, x)]⟩, true)) := hid rfl
  have hlo := hk.2.2.1
  have hlr := hk.2.2.2
  clear h hk
  generalize giveV s (j, x) = av at *
  generalize freeV (noneV s j).1 = f at *
  simp only [noneV] at HCL HFR
  generalize dropJ s.a j = d at *
  obtain ⟨n, a, o, r⟩ := s
  simp only [svv] at *
  go_enter Try.func85, Try.ntmps85
  go_upto_region 1 with (fail)
  refine at_world (fun u => u.heap[W.heap.size]? = some (.cells #[.int .i64 n, .slice A a.length ca, .slice O o.length co, .slice R r.length cr] 116 (0, 0)) ∧ u.heap[W.heap.size + 1]? = some (.cells #[.int .i64 j, .int .i64 x] 119 (0, 0)) ∧ u.heap[W.heap.size + 2]? = some (.cells #[.int .i64 0, .slice none 0 0, .slice none 0 0, .slice none 0 0] 116 (0, 0)) ∧ Below W.heap.size W u) (heap3 _ _ _ _) ?_
  rintro w1 ⟨hx1, hy1, hz1, hb1⟩
  obtain ⟨⟨p0, p1, p2, p3⟩, f0, f1, f2, f3⟩ := four_cells hx1
  have HX1 := hid hx1
  have HY1 := hid hy1
  obtain ⟨y0, y1, _, _⟩ := two_cells hy1
  have HZ1 := hid hz1
  have HB1 := hid hb1
  clear hx1 hy1 hz1 hb1
  go_wp2_with fail
  refine (HCL.out _ HB1.out).mono ?_
  rintro e w2 ⟨A1, O1, R1, ca1, co1, cr1, rfl, ho2, hb2⟩
  have hx2 := keep0 HX1.out hb2
  have HB2 := hid (HB1.out.trans (hb2.mono HB1.out.size))
  have HS2 := hid (SB.of hx2 (keep0 HZ1.out hb2) (by omega) (ho2.mono HB1.out.size) HB2.out (Nat.le_refl _))
  have HY2 := hid (keep0 HY1.out hb2)
  have HY3 := hid ((put4_other (w := w2) (b := W.heap.size) (g := W.heap.size + 1) (by omega) (.int .i64 n) (.slice A1 d.length ca1) (.slice O1 o.length co1) (.slice R1 r.length cr1)).trans HY2.out)
  clear p0 p1 p2 p3 f0 f1 f2 f3
  obtain ⟨⟨p0, p1, p2, p3⟩, f0, f1, f2, f3⟩ := four_cells hx2
  clear hx2 ho2 hb2 HX1 HZ1 HB1 HCL HY1 HY2 y0 y1
  go_upto_region 2 with (fail)
  refine at_world (fun u => SB W u W.heap.size (W.heap.size + 2) ⟨n, d, o, r⟩ A1 O1 R1 ca1 co1 cr1 ∧ u.heap[W.heap.size + 1]? = some (.cells #[.int .i64 j, .int .i64 x] 119 (0, 0))) ⟨HS2.out, HY3.out⟩ ?_
  clear p0 p1 p2 p3 f0 f1 f2 f3 HS2 HY3
  rintro w3 ⟨hs3, hy3⟩
  obtain ⟨⟨p0, p1, p2, p3⟩, f0, f1, f2, f3⟩ := four_cells hs3.1
  have HS3 := hid hs3
  have HY3 := hid hy3
  obtain ⟨y0, y1, _, _⟩ := two_cells hy3
  clear hs3 hy3
  go_wp2_with fail
  refine (HFR.out _ _ _ _ _ _ _).mono ?_
  rintro e w4 ⟨rfl, hb4⟩
  have HS4 := hid (HS3.out.keep hb4)
  have HY4 := hid (keep0 HY3.out hb4)
  clear hb4 HS3 HY3 HFR p0 p1 p2 p3 f0 f1 f2 f3 y0 y1
  obtain ⟨⟨p0, p1, p2, p3⟩, f0, f1, f2, f3⟩ := four_cells HS4.out.1
  obtain ⟨y0, y1, _, _⟩ := two_cells HY4.out
  by_cases hf : f = 0
  · subst hf
    have hd : ((0 : Int) == 0) = true := rfl
    have HVV : Hid (av = (⟨n, d, o ++ [(j, x)], r⟩, false)) := hid (by rw [HV.out, if_pos rfl])
    have hla9 : o.length + 1 ≤ 100000 := by omega
    go_wp2_with (at_builtin; refine wpList_append_1k (W := W) rfl (.tmp 17) (.tmp 19) 111 rfl W.heap.size 119 Try.underlying111 info_task rfl (by omega) rfl HS4.out.2.2.1.2.1 rfl (by rfl) (by simp [Value.oneCell']) ?c1 ?c2 HS4.out.2.2.2.size HS4.out.2.2.2 ?_)
    case c1 => unfold maxLen; omega
    case c2 => omega
    · intro v6 w6 h2 h3 h4 h5
      obtain ⟨kN, A6, c6, rfl, hT⟩ := HS4.out.pushO (Nat.le_refl _) (show W.heap.size ≤ W.heap.size + 2 by omega) (by omega) h2 h3 h5
      have HT6 := hid hT
      have hx6 := kN.trans HS4.out.1
      clear p0 p1 p2 p3 f0 f1 f2 f3 h2 h3 h4 h5 kN hT y0 y1
      obtain ⟨⟨p0, p1, p2, p3⟩, f0, f1, f2, f3⟩ := four_cells hx6
      clear hx6
      go_upto_region 4 with (fail)
      refine at_world (fun u => TB W u W.heap.size (W.heap.size + 2) ⟨n, d, o ++ [(j, x)], r⟩ A1 A6 R1 ca1 c6 cr1) HT6.out ?_
      clear p0 p1 p2 p3 f0 f1 f2 f3 HT6
      rintro w7 hT7
      obtain ⟨⟨p0, p1, p2, p3⟩, _⟩ := four_cells hT7.1
      have HT7 := hid hT7
      clear hT7
      simp only [List.length_append, List.length_cons, List.length_nil, Nat.zero_add] at p2
      obtain ⟨_, g0, g1, g2, g3⟩ := four_cells HT7.out.2.1
      obtain ⟨⟨r0, r1, r2, r3⟩, _⟩ := four_cells (put4_heap HT7.out.2.1 (.int .i64 n) (.slice A1 d.length ca1) (.slice A6 (o.length + 1) c6) (.slice R1 r.length cr1))
      simp only [put4] at r0 r1 r2 r3
      go_wp2
      have hr := HT7.out.ret (show W.heap.size ≤ W.heap.size + 2 by omega)
      simp only [List.length_append, List.length_cons, List.length_nil, Nat.zero_add] at hr
      exact bodyPost_ret (v := .tuple #[.agg #[.int .i64 n, .slice A1 d.length ca1, .slice A6 (o.length + 1) c6, .slice R1 r.length cr1], .bool false]) (by simp [results, Try.results85, go_sem, r0, r1, r2, r3]) rfl ⟨A1, A6, R1, ca1, c6, cr1, by rw [HVV.out] <;> (first | rfl | simp), by rw [HVV.out]; exact hr.1, hr.2⟩
  · have hd : (f == 0) = false := by simpa using hf
    have HVV : Hid (av = (⟨n, d, o, r ++ [(j, x)]⟩, true)) := hid (by rw [HV.out, if_neg hf])
    have hla9 : r.length + 1 ≤ 100000 := by omega
    go_wp2_with (at_builtin; refine wpList_append_1k (W := W) rfl (.tmp 24) (.tmp 26) 111 rfl W.heap.size 119 Try.underlying111 info_task rfl (by omega) rfl HS4.out.2.2.1.2.2.1 rfl (by rfl) (by simp [Value.oneCell']) ?c1 ?c2 HS4.out.2.2.2.size HS4.out.2.2.2 ?_)
    case c1 => unfold maxLen; omega
    case c2 => omega
    · intro v6 w6 h2 h3 h4 h5
      obtain ⟨kN, A6, c6, rfl, hT⟩ := HS4.out.pushR (Nat.le_refl _) (show W.heap.size ≤ W.heap.size + 2 by omega) (by omega) h2 h3 h5
      have HT6 := hid hT
      have hx6 := kN.trans HS4.out.1
      clear p0 p1 p2 p3 f0 f1 f2 f3 h2 h3 h4 h5 kN hT y0 y1
      obtain ⟨⟨p0, p1, p2, p3⟩, f0, f1, f2, f3⟩ := four_cells hx6
      clear hx6
      go_upto_region 6 with (fail)
      refine at_world (fun u => TB W u W.heap.size (W.heap.size + 2) ⟨n, d, o, r ++ [(j, x)]⟩ A1 O1 A6 ca1 co1 c6) HT6.out ?_
      clear p0 p1 p2 p3 f0 f1 f2 f3 HT6
      rintro w7 hT7
      obtain ⟨⟨p0, p1, p2, p3⟩, _⟩ := four_cells hT7.1
      have HT7 := hid hT7
      clear hT7
      simp only [List.length_append, List.length_cons, List.length_nil, Nat.zero_add] at p3
      obtain ⟨_, g0, g1, g2, g3⟩ := four_cells HT7.out.2.1
      obtain ⟨⟨r0, r1, r2, r3⟩, _⟩ := four_cells (put4_heap HT7.out.2.1 (.int .i64 n) (.slice A1 d.length ca1) (.slice O1 o.length co1) (.slice A6 (r.length + 1) c6))
      simp only [put4] at r0 r1 r2 r3
      go_wp2
      have hr := HT7.out.ret (show W.heap.size ≤ W.heap.size + 2 by omega)
      simp only [List.length_append, List.length_cons, List.length_nil, Nat.zero_add] at hr
      exact bodyPost_ret (v := .tuple #[.agg #[.int .i64 n, .slice A1 d.length ca1, .slice O1 o.length co1, .slice A6 (r.length + 1) c6], .bool true]) (by simp [results, Try.results85, go_sem, r0, r1, r2, r3]) rfl ⟨A1, O1, A6, ca1, co1, c6, by rw [HVV.out] <;> (first | rfl | simp), by rw [HVV.out]; exact hr.1, hr.2⟩
def endV (s : Sv) (t : Int × Int) : Sv × Bool := if idxT s.r t < 0 then (s, false) else (⟨s.n, s.a, s.o, s.r.eraseIdx (idxT s.r t).toNat⟩, true)
set_option maxRecDepth 20000 in
set_option maxHeartbeats 4000000 in
theorem end_any (s : Sv) (j x : Int) (A O R : Option Addr) (ca co cr : Nat) (W : World) (h : InV W s A O R ca co cr) (hk : OkV s) :
    Calls Try.prog 91 #[.agg (svv s A O R ca co cr), .agg #[.int .i64 j, .int .i64 x]] W fun e w' => ∃ A' O' R' ca' co' cr', e = .returned (.tuple #[.agg (svv ((endV s (j, x)).1) A' O' R' ca' co' cr'), .bool (endV s (j, x)).2]) ∧ OwnW w' W.heap.size ((endV s (j, x)).1) A' O' R' ca' co' cr' ∧ Below W.heap.size W w' := by
  have HCL := hid (fun w (hw : Below W.heap.size W w) => cloned_any s A O R ca co cr w (h.below hw) (by have := hk.2; omega))
  have HIX := hid (fun w R' cr' (h : Sl w 2 R' s.r.length cr' (pcells s.r)) => index_any R' s.r.length cr' s.r j x w h)
  have HV : Hid (endV s (j, x) = if idxT s.r (j, x) < 0 then (s, false) else (⟨s.n, s.a, s.o, s.r.eraseIdx (idxT s.r (j, x)).toNat⟩, true)) := hid rfl
  have hic := idxT_cases s.r (j, x)
  have hlr := hk.2.2.2
  clear h hk
  generalize endV s (j, x) = av at *
  generalize idxT s.r (j, x) = ix at *
  obtain ⟨n, a, o, r⟩ := s
  simp only [svv] at *
  go_enter Try.func91, Try.ntmps91
  go_upto_region 1 with (fail)
  refine at_world (fun u => u.heap[W.heap.size]? = some (.cells #[.int .i64 n, .slice A a.length ca, .slice O o.length co, .slice R r.length cr] 116 (0, 0)) ∧ u.heap[W.heap.size + 1]? = some (.cells #[.int .i64 j, .int .i64 x] 119 (0, 0)) ∧ u.heap[W.heap.size + 2]? = some (.cells #[.int .i64 0, .slice none 0 0, .slice none 0 0, .slice none 0 0] 116 (0, 0)) ∧ Below W.heap.size W u) (heap3 _ _ _ _) ?_
  rintro w1 ⟨hx1, hy1, hz1, hb1⟩
  obtain ⟨⟨p0, p1, p2, p3⟩, f0, f1, f2, f3⟩ := four_cells hx1
  have HX1 := hid hx1
  have HY1 := hid hy1
  obtain ⟨y0, y1, _, _⟩ := two_cells hy1
  have HZ1 := hid hz1
  have HB1 := hid hb1
  clear hx1 hy1 hz1 hb1
  go_wp2_with fail
  refine (HCL.out _ HB1.out).mono ?_
  rintro e w2 ⟨A1, O1, R1, ca1, co1, cr1, rfl, ho2, hb2⟩
  have hx2 := keep0 HX1.out hb2
  have HB2 := hid (HB1.out.trans (hb2.mono HB1.out.size))
  have HS2 := hid (SB.of hx2 (keep0 HZ1.out hb2) (by omega) (ho2.mono HB1.out.size) HB2.out (Nat.le_refl _))
  have HY2 := hid (keep0 HY1.out hb2)
  have HY3 := hid ((put4_other (w := w2) (b := W.heap.size) (g := W.heap.size + 1) (by omega) (.int .i64 n) (.slice A1 a.length ca1) (.slice O1 o.length co1) (.slice R1 r.length cr1)).trans HY2.out)
  clear p0 p1 p2 p3 f0 f1 f2 f3
  obtain ⟨⟨p0, p1, p2, p3⟩, f0, f1, f2, f3⟩ := four_cells hx2
  clear hx2 ho2 hb2 HX1 HZ1 HB1 HCL HY1 HY2 y0 y1
  go_upto_region 2 with (fail)
  refine at_world (fun u => SB W u W.heap.size (W.heap.size + 2) ⟨n, a, o, r⟩ A1 O1 R1 ca1 co1 cr1 ∧ u.heap[W.heap.size + 1]? = some (.cells #[.int .i64 j, .int .i64 x] 119 (0, 0))) ⟨HS2.out, HY3.out⟩ ?_
  clear p0 p1 p2 p3 f0 f1 f2 f3 HS2 HY3
  rintro w3 ⟨hs3, hy3⟩
  obtain ⟨⟨p0, p1, p2, p3⟩, f0, f1, f2, f3⟩ := four_cells hs3.1
  have HS3 := hid hs3
  have HY3 := hid hy3
  obtain ⟨y0, y1, _, _⟩ := two_cells hy3
  clear hs3 hy3
  have HC := hid (HIX.out w3 R1 cr1 (sl_own HS3.out.2.2.1.2.2.1))
  clear HIX
  go_wp2_with fail
  refine HC.out.mono ?_
  rintro e w4 ⟨rfl, hb4⟩
  have HS4 := hid (HS3.out.keep hb4)
  clear hb4 HS3 HY3 HC p0 p1 p2 p3 f0 f1 f2 f3 y0 y1
  obtain ⟨⟨p0, p1, p2, p3⟩, f0, f1, f2, f3⟩ := four_cells HS4.out.1
  rcases hic with rfl | ⟨k, rfl, hkl⟩
  · have HVV : Hid (av = (⟨n, a, o, r⟩, false)) := hid (by rw [HV.out, if_pos (by omega)])
    have HT4 := hid HS4.out.t
    obtain ⟨_, g0, g1, g2, g3⟩ := four_cells HT4.out.2.1
    obtain ⟨⟨r0, r1, r2, r3⟩, _⟩ := four_cells (put4_heap HT4.out.2.1 (.int .i64 n) (.slice A1 a.length ca1) (.slice O1 o.length co1) (.slice R1 r.length cr1))
    simp only [put4] at r0 r1 r2 r3
    go_wp2
    have hr := HT4.out.ret (show W.heap.size ≤ W.heap.size + 2 by omega)
    exact bodyPost_ret (v := .tuple #[.agg #[.int .i64 n, .slice A1 a.length ca1, .slice O1 o.length co1, .slice R1 r.length cr1], .bool false]) (by simp [results, Try.results91, go_sem, r0, r1, r2, r3]) rfl ⟨A1, O1, R1, ca1, co1, cr1, by rw [HVV.out] <;> (first | rfl | simp), by rw [HVV.out]; exact hr.1, hr.2⟩
  · have HVV : Hid (av = (⟨n, a, o, r.eraseIdx k⟩, true)) := hid (by rw [HV.out, if_neg (by omega), Int.toNat_natCast])
    have hk0 : ¬ (k : Int) < 0 := by omega
    obtain ⟨m, hm⟩ : ∃ m, r.length = m + 1 := ⟨r.length - 1, by omega⟩
    obtain ⟨g, rfl⟩ := own_open2 HS4.out.2.2.1.2.2.1 (show 0 < r.length by omega)
    have HDL := hid (delT_any cr1 W.heap.size g m r k w4 hm (by have := HS4.out.2.2.1.2.2.1; rw [← hm]; exact this) (by omega) (by omega) HS4.out.2.2.2.size)
    have hem : (r.eraseIdx k).length = m := by rw [List.length_eraseIdx, if_pos hkl]; omega
    have HEM := hid hem
    rw [← hm] at HDL
    have hkl2 : (k : Int) ≤ 1000 := by omega
    clear hm hem
    go_wp2_with fail
    refine HDL.out.mono ?_
    rintro e w5 ⟨rfl, ho5, hb5, hk5⟩
    obtain ⟨kN, hS⟩ := HS4.out.delR (Nat.le_refl _) (show W.heap.size ≤ W.heap.size + 2 by omega) (by omega) HEM.out ho5 (HS4.out.2.2.2.trans hb5) hk5
    have HS6 := hid hS
    have hx6 := kN.trans HS4.out.1
    clear p0 p1 p2 p3 f0 f1 f2 f3 ho5 hb5 hk5 kN hS HDL
    obtain ⟨⟨p0, p1, p2, p3⟩, f0, f1, f2, f3⟩ := four_cells hx6
    clear hx6
    go_upto_region 6 with (fail)
    refine at_world (fun u => SB W u W.heap.size (W.heap.size + 2) ⟨n, a, o, r.eraseIdx k⟩ A1 O1 (some ⟨g, 0, none⟩) ca1 co1 cr1) HS6.out ?_
    clear p0 p1 p2 p3 f0 f1 f2 f3 HS6
    rintro w7 hs7
    obtain ⟨⟨p0, p1, p2, p3⟩, _⟩ := four_cells hs7.1
    have HT7 := hid hs7.t
    clear hs7
    obtain ⟨_, g0, g1, g2, g3⟩ := four_cells HT7.out.2.1
    obtain ⟨⟨r0, r1, r2, r3⟩, _⟩ := four_cells (put4_heap HT7.out.2.1 (.int .i64 n) (.slice A1 a.length ca1) (.slice O1 o.length co1) (.slice (some ⟨g, 0, none⟩) (r.eraseIdx k).length cr1))
    simp only [put4] at r0 r1 r2 r3
    go_wp2
    have hr := HT7.out.ret (show W.heap.size ≤ W.heap.size + 2 by omega)
    exact bodyPost_ret (v := .tuple #[.agg #[.int .i64 n, .slice A1 a.length ca1, .slice O1 o.length co1, .slice (some ⟨g, 0, none⟩) (r.eraseIdx k).length cr1], .bool true]) (by simp [results, Try.results91, go_sem, r0, r1, r2, r3]) rfl ⟨A1, O1, (some ⟨g, 0, none⟩), ca1, co1, cr1, by rw [HVV.out] <;> (first | rfl | simp), by rw [HVV.out]; exact hr.1, hr.2⟩
def mvV (s : Sv) (j x : Int) : Sv := ⟨s.n, moveJ s.a j x, s.o, s.r⟩
set_option maxRecDepth 20000 in
set_option maxHeartbeats 4000000 in
theorem smove_any (s : Sv) (j x : Int) (A O R : Option Addr) (ca co cr : Nat) (W : World) (h : InV W s A O R ca co cr) (hk : OkV s) :
    Calls Try.prog 93 #[.agg (svv s A O R ca co cr), .int .i64 j, .int .i64 x] W fun e w' => ∃ A' O' R' ca' co' cr', e = .returned (.agg (svv (mvV s j x) A' O' R' ca' co' cr')) ∧ OwnW w' W.heap.size (mvV s j x) A' O' R' ca' co' cr' ∧ Below W.heap.size W w' := by
  have HCL := hid (fun w (hw : Below W.heap.size W w) => cloned_any s A O R ca co cr w (h.below hw) (by have := hk.2; omega))
  have HD := hid (fun w A' ca' (h : Sl w 2 A' s.a.length ca' (pcells s.a)) => move_any A' s.a.length ca' s.a j x w h (by have := hk.2.1; omega))
  have HV : Hid (mvV s j x = ⟨s.n, moveJ s.a j x, s.o, s.r⟩) := hid rfl
  have HML : Hid ((moveJ s.a j x).length = s.a.length) := hid (moveJ_len s.a j x)
  clear h hk
  generalize mvV s j x = av at *
  generalize moveJ s.a j x = d at *
  obtain ⟨n, a, o, r⟩ := s
  simp only [svv] at *
  go_enter Try.func93, Try.ntmps93
  go_upto_region 1 with (fail)
  refine at_world (fun u => u.heap[W.heap.size]? = some (.cells #[.int .i64 n, .slice A a.length ca, .slice O o.length co, .slice R r.length cr] 116 (0, 0)) ∧ u.heap[W.heap.size + 1]? = some (.cells #[.int .i64 0, .slice none 0 0, .slice none 0 0, .slice none 0 0] 116 (0, 0)) ∧ Below W.heap.size W u) (heap2 _ _ _) ?_
  rintro w1 ⟨hx1, hz1, hb1⟩
  obtain ⟨⟨p0, p1, p2, p3⟩, f0, f1, f2, f3⟩ := four_cells hx1
  have HX1 := hid hx1
  have HZ1 := hid hz1
  have HB1 := hid hb1
  clear hx1 hz1 hb1
  go_wp2_with fail
  refine (HCL.out _ HB1.out).mono ?_
  rintro e w2 ⟨A1, O1, R1, ca1, co1, cr1, rfl, ho2, hb2⟩
  have hx2 := keep0 HX1.out hb2
  have HB2 := hid (HB1.out.trans (hb2.mono HB1.out.size))
  have HS2 := hid (SB.of hx2 (keep0 HZ1.out hb2) (by omega) (ho2.mono HB1.out.size) HB2.out (Nat.le_refl _))
  clear p0 p1 p2 p3 f0 f1 f2 f3
  obtain ⟨⟨p0, p1, p2, p3⟩, f0, f1, f2, f3⟩ := four_cells hx2
  clear hx2 ho2 hb2 HX1 HZ1 HB1 HCL
  go_upto_region 2 with (fail)
  refine at_world (fun u => SB W u W.heap.size (W.heap.size + 1) ⟨n, a, o, r⟩ A1 O1 R1 ca1 co1 cr1) HS2.out ?_
  clear p0 p1 p2 p3 f0 f1 f2 f3 HS2
  rintro w3 hs3
  obtain ⟨⟨p0, p1, p2, p3⟩, f0, f1, f2, f3⟩ := four_cells hs3.1
  have HS3 := hid hs3
  clear hs3
  have HC := hid (HD.out w3 A1 ca1 (sl_own HS3.out.2.2.1.1))
  rw [← HML.out] at HC
  clear HD
  go_wp2_with fail
  rw [← HML.out]
  refine HC.out.mono ?_
  rintro e w4 ⟨v4, rfl, ho4, hb4⟩
  obtain ⟨A4, c4, rfl, _⟩ := Sl.of_own ho4
  have hs4 := HS3.out.keep hb4
  have HS5 := hid (hs4.setA (a' := d) (Nat.le_refl _) (by omega) (own_mono ho4 HS3.out.2.2.2.size))
  clear p0 p1 p2 p3 f0 f1 f2 f3 ho4 hb4 HC HS3
  obtain ⟨⟨p0, p1, p2, p3⟩, f0, f1, f2, f3⟩ := four_cells hs4.1
  clear hs4
  go_upto_region 3 with (fail)
  refine at_world (fun u => SB W u W.heap.size (W.heap.size + 1) ⟨n, d, o, r⟩ A4 O1 R1 c4 co1 cr1) HS5.out ?_
  clear p0 p1 p2 p3 f0 f1 f2 f3 HS5
  rintro w6 hs6
  obtain ⟨⟨p0, p1, p2, p3⟩, f0, f1, f2, f3⟩ := four_cells hs6.1
  have HS6 := hid hs6.t
  clear hs6
  obtain ⟨_, g0, g1, g2, g3⟩ := four_cells HS6.out.2.1
  obtain ⟨⟨r0, r1, r2, r3⟩, _⟩ := four_cells (put4_heap HS6.out.2.1 (.int .i64 n) (.slice A4 d.length c4) (.slice O1 o.length co1) (.slice R1 r.length cr1))
  simp only [put4] at r0 r1 r2 r3
  go_wp2
  have hr := HS6.out.ret (show W.heap.size ≤ W.heap.size + 1 by omega)
  exact bodyPost_ret (v := .agg #[.int .i64 n, .slice A4 d.length c4, .slice O1 o.length co1, .slice R1 r.length cr1]) (by simp [results, Try.results93, go_sem, r0, r1, r2, r3]) rfl ⟨A4, O1, R1, c4, co1, cr1, by rw [HV.out] <;> (first | rfl | simp), by rw [HV.out]; exact hr.1, hr.2⟩
end Go.Proofs.Ytadjmgmdnekllaa
