/- The document's end: the law. -/
import Derived.Test.YtdekemlckpbbcaaLdT
import Derived.Test.YtdekemlckpbbcaaStrL
import Derived.Test.YtdekemlckpbbcaaLnkH
import Derived.BigQuiet
import Derived.Deep.CutRange
namespace Go.Proofs.Ytdekemlckpbbcaa
open Go.RowKit Go.Lib Go.Sort
set_option linter.unusedVariables false
set_option linter.unusedSimpArgs false
/-- The two arguments' boxes. -/
def LDX (W u : World) (e : Ev) (x : Pk) (A : Option Addr) (c : Nat) : Prop :=
  u.heap[W.heap.size]? = some (.cells (ec e A c) 48 (0, 0)) ∧ u.heap[W.heap.size + 1]? = some (.cells (pca x) 50 (0, 0)) ∧ Sl u 1 A e.o.l.length c (scells e.o.l) ∧ Below W.heap.size W u
theorem LDX.keep {W u v : World} {e : Ev} {x : Pk} {A : Option Addr} {c : Nat} (h : LDX W u e x A c) (hb : Below u.heap.size u v) : LDX W v e x A c :=
  ⟨keep0 h.1 hb, keep0 h.2.1 hb, h.2.2.1.below hb, h.2.2.2.trans (hb.mono h.2.2.2.size)⟩
theorem sameO_refl (o : Ov) : sameO o o = true := by simp [sameO]
theorem sameE_refl (e : Ev) : sameE e e = true := by simp [sameE, sameO_refl]
theorem dataV_lenD (e : Ev) (b : Bool) : (dataV e b).length ≤ 1 := by
  unfold dataV
  split
  · split <;> simp
  · simp
theorem begV_lenD (o : Ov) : (begV o).1.l.length = o.l.length := by rw [begV_l]
theorem putV_lenD (o : Ov) (b : Int) (y : List UInt8) : (putV o b y).1.1.l.length ≤ o.l.length + 1 := by
  unfold putV
  split
  · simp
  · split
    · simp
    · split
      · simp
      · split <;> simp
theorem putE_len (e : Ev) (b : Int) (y : List UInt8) : (putE e b y).1.1.o.l.length ≤ e.o.l.length + 1 ∧ (putE e b y).1.2.length ≤ 1 := by
  unfold putE
  split
  · simp
  · exact ⟨putV_lenD _ _ _, dataV_lenD _ _⟩
theorem tikV_lenD (o : Ov) : (tikV o).1.l.length = o.l.length := by
  unfold tikV
  split <;> rfl
theorem tikE_len (e : Ev) : (tikE e).1.o.l.length = e.o.l.length ∧ (tikE e).2.length ≤ 1 := ⟨tikV_lenD _, dataV_lenD _ _⟩
theorem lrnV_lenD (o : Ov) (k : Int) : (lrnV o k).1.l.length = o.l.length := by
  unfold lrnV
  split
  · rfl
  · exact begV_lenD _
theorem lrnE_len (e : Ev) (k : Int) : (lrnE e k).1.o.l.length = e.o.l.length ∧ (lrnE e k).2.length ≤ 1 := ⟨lrnV_lenD _ _, dataV_lenD _ _⟩
theorem ackV_lenD (o : Ov) (a b : Int) : (ackV o a b).1.l.length ≤ o.l.length := by
  unfold ackV
  split
  · exact Nat.le_refl _
  · rw [begV_lenD]
    simp
theorem ansD_lenD (e : Ev) (x : Pk) : (ansD e x).length ≤ 1 := by
  unfold ansD
  split
  · simp
  · split <;> simp
theorem takV_len (e : Ev) (x : Pk) : (takV e x).1.1.o.l.length ≤ e.o.l.length ∧ (takV e x).1.2.length ≤ 2 := by
  unfold takV
  split
  · simp
  split
  · refine ⟨by show (lrnV e.o x.i).1.l.length ≤ _; rw [lrnV_lenD]; exact Nat.le_refl _, ?_⟩
    show ((lrnE e x.i).2 ++ ansD e x).length ≤ 2
    rw [List.length_append]
    have h1 := (lrnE_len e x.i).2
    have h2 := ansD_lenD e x
    omega
  split
  · split
    · refine ⟨Nat.le_trans (ackV_lenD _ _ _) (by rw [(lrnE_len e x.i).1]; exact Nat.le_refl _), ?_⟩
      show ((lrnE e x.i).2 ++ dataV _ _).length ≤ 2
      rw [List.length_append]
      have h1 := (lrnE_len e x.i).2
      have h2 := dataV_lenD (setO (lrnE e x.i).1 (ackV (lrnE e x.i).1.o x.i x.s).1) (ackV (lrnE e x.i).1.o x.i x.s).2
      omega
    · simp
  split
  · split
    · have h1 := lrnE_len e x.i
      exact ⟨by show (lrnE e x.i).1.o.l.length ≤ _; rw [h1.1]; exact Nat.le_refl _, Nat.le_trans h1.2 (by omega)⟩
    · simp
  · simp
/-- An end in a block; its texts are read. -/
def LE (u : World) (X T : Nat) (e : Ev) (A : Option Addr) (c : Nat) : Prop := u.heap[X]? = some (.cells (ec e A c) T (0, 0)) ∧ Sl u 1 A e.o.l.length c (scells e.o.l)
theorem LE.keep {u v : World} {X T : Nat} {e : Ev} {A : Option Addr} {c : Nat} (h : LE u X T e A c) (hb : Below u.heap.size u v) : LE v X T e A c := ⟨keep0 h.1 hb, h.2.below hb⟩
/-- Another end's block is written. -/
theorem LE.other {u : World} {X T Y T' : Nat} {e e' : Ev} {A A' : Option Addr} {c c' : Nat} (h : LE u X T e A c) (hy : u.heap[Y]? = some (.cells (ec e' A' c') T' (0, 0))) (hne : X ≠ Y) (a0 a1 a2 a3 a4 a5 a6 a7 a8 a9 a10 : Value) : LE (put11 u Y a0 a1 a2 a3 a4 a5 a6 a7 a8 a9 a10) X T e A c :=
  ⟨(put11_other hne _ _ _ _ _ _ _ _ _ _ _).trans h.1, sl_st h.2 hy (ec_ns e' A' c') fun g hg => put11_other hg _ _ _ _ _ _ _ _ _ _ _⟩
/-- It is written itself. -/
theorem LE.put {u : World} {Y T' : Nat} {e e' : Ev} {A A' : Option Addr} {c c' : Nat} (hy : u.heap[Y]? = some (.cells (ec e' A' c') T' (0, 0))) (hs : Sl u 1 A e.o.l.length c (scells e.o.l)) : LE (put11 u Y (.int .i64 e.f) (.int .i64 e.t) (.int .i64 e.i) (.int .i64 e.o.p) (.int .i64 e.o.q) (.slice A e.o.l.length c) (.int .i64 e.o.w) (.int .i64 e.o.f) (.int .i64 e.m) (.int .i64 e.p) (.int .i64 e.l)) Y T' e A c :=
  ⟨put11_heap hy _ _ _ _ _ _ _ _ _ _ _, sl_st hs hy (ec_ns e' A' c') fun g hg => put11_other hg _ _ _ _ _ _ _ _ _ _ _⟩
theorem LE.cells {u : World} {X T : Nat} {e : Ev} {A : Option Addr} {c : Nat} (h : LE u X T e A c) : u.heap[X]? = some (.cells #[.int .i64 e.f, .int .i64 e.t, .int .i64 e.i, .int .i64 e.o.p, .int .i64 e.o.q, .slice A e.o.l.length c, .int .i64 e.o.w, .int .i64 e.o.f, .int .i64 e.m, .int .i64 e.p, .int .i64 e.l] T (0, 0)) := h.1
theorem seven_cellsL {w : World} {b t : Nat} {x0 x1 x2 x3 x4 x5 x6 : Value} (h : w.heap[b]? = some (.cells #[x0, x1, x2, x3, x4, x5, x6] t (0, 0))) :
    w.cell? ⟨b, 0, none⟩ = some x0 ∧ w.cell? ⟨b, 1, none⟩ = some x1 ∧ w.cell? ⟨b, 2, none⟩ = some x2 ∧ w.cell? ⟨b, 3, none⟩ = some x3 ∧ w.cell? ⟨b, 4, none⟩ = some x4 ∧ w.cell? ⟨b, 5, none⟩ = some x5 ∧ w.cell? ⟨b, 6, none⟩ = some x6 := by
  refine ⟨?_, ?_, ?_, ?_, ?_, ?_, ?_⟩
  · rw [cell_of_row w b 0 _ _ _ h]; rfl
  · rw [cell_of_row w b 1 _ _ _ h]; rfl
  · rw [cell_of_row w b 2 _ _ _ h]; rfl
  · rw [cell_of_row w b 3 _ _ _ h]; rfl
  · rw [cell_of_row w b 4 _ _ _ h]; rfl
  · rw [cell_of_row w b 5 _ _ _ h]; rfl
  · rw [cell_of_row w b 6 _ _ _ h]; rfl
set_option maxRecDepth 20000 in
set_option maxHeartbeats 8000000 in
theorem linkDoes_law (a0 a1 : Array Value) (text : ByteArray) (W : World) (n0 : a0.size = 11) (h0 : Rd Try.prog W 48 a0.toList) (n1 : a1.size = 7) (h1 : Rd Try.prog W 50 a1.toList) (ht : text.size ≤ maxLen) :
    Calls Try.prog 4 #[.agg a0, .agg a1, .string text] W fun e w' => e = .returned (.bool true) ∧ Below W.heap.size W w' := by
  obtain ⟨⟨f, t, i, ⟨p, q, l, wt, fl⟩, gm, gp, gl⟩, A, c, rfl, hS, hq, hgl, hm⟩ := rd_end n0 h0
  obtain ⟨kd, xf, xt, xi, xp, xs, xb, rfl, hxs, hxb⟩ := rd_packetL n1 h1
  obtain ⟨y, rfl⟩ : ∃ y, text = str y := ⟨_, (str_backL _).symm⟩
  obtain ⟨xb, rfl⟩ : ∃ y, xb = str y := ⟨_, (str_backL _).symm⟩
  have hyl : y.length ≤ maxLen := ht
  have hszy : (str y).size = y.length := rfl
  have hszb : (str xb).size = xb.length := rfl
  have hll : l.length ≤ maxLen := Nat.le_trans hS.2.1 hS.2.2.1
  simp only at hS hq hgl hm
  have HL := hid (fun w (hw : Sl w 1 A l.length c (scells l)) => long_any A l.length c l 30 100 w hw hm)
  have HK := hid (fun w => works26_any w)
  have HM := hid hm
  have HQ := hid hq
  have HGL := hid hgl
  have HXS := hid hxs
  have HYL := hid hyl
  have HX0 : Hid (LDX W ((W.alloc (.cells (ec ⟨f, t, i, ⟨p, q, l, wt, fl⟩, gm, gp, gl⟩ A c) 48 (0, 0))).alloc (.cells (pca ⟨kd, xf, xt, xi, xp, xs, xb⟩) 50 (0, 0))) ⟨f, t, i, ⟨p, q, l, wt, fl⟩, gm, gp, gl⟩ ⟨kd, xf, xt, xi, xp, xs, xb⟩ A c) := hid ⟨heap_first _ _ _, heap_second _ _ _, hS.below (below2 _ _ _), below2 _ _ _⟩
  simp only [ec, pca] at HX0
  clear n0 h0 n1 h1 hS hq hgl hm hxs hxb ht hyl
  have hlm : l.length ≤ 9223372036854775807 := Nat.le_trans hll (by decide)
  have hym : y.length ≤ 9223372036854775807 := Nat.le_trans HYL.out (by decide)
  clear hll
  simp only [ec]
  go_enter Try.func4, Try.ntmps4
  go_upto_region 1 with (fail)
  refine at_world (fun u => LDX W u ⟨f, t, i, ⟨p, q, l, wt, fl⟩, gm, gp, gl⟩ ⟨kd, xf, xt, xi, xp, xs, xb⟩ A c) HX0.out ?_
  clear HX0
  rintro w0 hx0
  have HX0 := hid hx0
  obtain ⟨hx1, hx2, hx3, hx4⟩ := hx0
  simp only [ec, pca] at hx1 hx2
  obtain ⟨⟨p0, p1, p2, p3, p4, p5, p6, p7, p8, p9, p10⟩, _⟩ := eleven_cells hx1
  obtain ⟨s0, s1, s2, s3, s4, s5, s6⟩ := seven_cellsL hx2
  clear hx1 hx2 hx3 hx4
  cases hLo : longB l 30 100
  case true =>
    go_wp2_with fail
    refine (HL.out _ HX0.out.2.2.1).mono ?_
    rintro e w1 ⟨rfl, rfl⟩
    simp only [hLo]
    go_wp2_with fail
    refine (HK.out _).mono ?_
    rintro e w2 ⟨rfl, hb2⟩
    have HB2 := hid (HX0.out.2.2.2.trans (hb2.mono HX0.out.2.2.2.size))
    clear hb2
    go_wp2
    go_ret
    exact ⟨rfl, HB2.out⟩
  rcases Int.lt_or_le 100 (y.length : Int) with hc1 | hc1
  case inl =>
    go_wp2_with fail
    refine (HL.out _ HX0.out.2.2.1).mono ?_
    rintro e w1 ⟨rfl, rfl⟩
    simp only [hLo]
    go_wp2_with fail
    refine (HK.out _).mono ?_
    rintro e w2 ⟨rfl, hb2⟩
    have HB2 := hid (HX0.out.2.2.2.trans (hb2.mono HX0.out.2.2.2.size))
    clear hb2
    go_wp2
    go_ret
    exact ⟨rfl, HB2.out⟩
  have hc1n : ¬ (100 : Int) < (y.length : Int) := by omega
  rcases Int.lt_or_le 1000 (xb.length : Int) with hc2 | hc2
  case inl =>
    go_wp2_with fail
    refine (HL.out _ HX0.out.2.2.1).mono ?_
    rintro e w1 ⟨rfl, rfl⟩
    simp only [hLo]
    go_wp2_with fail
    refine (HK.out _).mono ?_
    rintro e w2 ⟨rfl, hb2⟩
    have HB2 := hid (HX0.out.2.2.2.trans (hb2.mono HX0.out.2.2.2.size))
    clear hb2
    go_wp2
    go_ret
    exact ⟨rfl, HB2.out⟩
  have hc2n : ¬ (1000 : Int) < (xb.length : Int) := by omega
  by_cases hc3 : q = 9223372036854775807
  case pos =>
    subst hc3
    go_wp2_with fail
    refine (HL.out _ HX0.out.2.2.1).mono ?_
    rintro e w1 ⟨rfl, rfl⟩
    simp only [hLo]
    go_wp2_with fail
    refine (HK.out _).mono ?_
    rintro e w2 ⟨rfl, hb2⟩
    have HB2 := hid (HX0.out.2.2.2.trans (hb2.mono HX0.out.2.2.2.size))
    clear hb2
    go_wp2
    go_ret
    exact ⟨rfl, HB2.out⟩
  rcases Int.lt_or_le gl 0 with hc4 | hc4
  case inl =>
    go_wp2_with fail
    refine (HL.out _ HX0.out.2.2.1).mono ?_
    rintro e w1 ⟨rfl, rfl⟩
    simp only [hLo]
    go_wp2_with fail
    refine (HK.out _).mono ?_
    rintro e w2 ⟨rfl, hb2⟩
    have HB2 := hid (HX0.out.2.2.2.trans (hb2.mono HX0.out.2.2.2.size))
    clear hb2
    go_wp2
    go_ret
    exact ⟨rfl, HB2.out⟩
  have hc4n : ¬ gl < 0 := by omega
  have d1 : decide ((100 : Int) < (y.length : Int)) = false := decide_eq_false hc1n
  have d2 : decide ((1000 : Int) < (xb.length : Int)) = false := decide_eq_false hc2n
  have d3 : decide (q = 9223372036854775807) = false := decide_eq_false hc3
  have d3' : (q == 9223372036854775807) = false := by simpa using hc3
  have d4 : decide (gl < 0) = false := decide_eq_false hc4n
  go_wp2_with fail
  refine (HL.out _ HX0.out.2.2.1).mono ?_
  rintro e w1 ⟨rfl, rfl⟩
  simp only [hLo]
  go_upto_region 3 with (fail)
  have HLL := hid (longB_no hLo).2
  have hl30 : l.length ≤ 30 := by have := HLL.out; omega
  have HQ2 : Hid (q < 9223372036854775807) := hid (by have := HQ.out.1; omega)
  have HG2 : Hid (0 ≤ gl ∧ gl ≤ 9223372036854775807) := hid ⟨by omega, HGL.out⟩
  clear hc3
  clear HLL HL hLo d1 d2 d3 d3' d4 hc1 hc2 hc4 hc1n hc2n hc4n
  go_wp2
  go_loopw [7] (fun v wr => ∃ k : Nat, k ≤ l.length ∧ v = .int .i64 (k : Int) ∧ Hid (∀ j (hj : j < l.length), j < k → ¬ l[j] = []) ∧ w0 = wr) (fun v _ => l.length - (intOf v).toNat)
  case atStart => exact ⟨0, by omega, rfl, fun j hj h => absurd h (by omega), rfl⟩
  case round =>
    obtain ⟨k, hk, rfl, HT, rfl⟩ := hrel
    by_cases hlt : k < l.length
    · obtain ⟨b', off, rfl, hc⟩ := Sl.at HX0.out.2.2.1 k (by rw [scells_length]; exact hlt)
      have e1 : (scells l)[k]'(by rw [scells_length]; exact hlt) = .string (str (l[k]'hlt)) := by simp [scells]
      rw [e1] at hc
      have hlt2 : (k : Int) < (l.length : Int) := by omega
      by_cases hz : l[k]'hlt = []
      · rw [hz] at hc
        clear e1 hz
        have ee : ((str []).toList == []) = true := by simp [str]
        go_wp2_with fail
        refine (HK.out _).mono ?_
        rintro e w2 ⟨rfl, hb2⟩
        have HB2 := hid (HX0.out.2.2.2.trans (hb2.mono HX0.out.2.2.2.size))
        clear hb2
        go_wp2
        go_ret
        exact ⟨rfl, HB2.out⟩
      · have HZ := hid hz
        have hz2 : ((str (l[k]'hlt)).toList == []) = false := by simpa [str] using hz
        have hz3 : ¬ str (l[k]'hlt) = ⟨#[]⟩ := by
          intro h9
          exact hz (by have := congrArg (fun s => s.data.toList) h9; simpa [str] using this)
        clear hz e1
        generalize hst : str (l[k]'hlt) = s at hc hz2 hz3
        clear hst
        go_wp2
        go_roundw
        case rel =>
          refine ⟨k + 1, by omega, by go_num, fun j hj hjk => ?_, trivial⟩
          by_cases hjk2 : j < k
          · exact HT.out j hj hjk2
          · obtain rfl : j = k := by omega
            exact HZ.out
        case measure => simp [intOf]; omega
    · have hge : ¬ (k : Int) < (l.length : Int) := by omega
      have HNE : Hid (∀ t ∈ l, t ≠ []) := hid fun t ht => by
        obtain ⟨j, hj, rfl⟩ := List.getElem_of_mem ht
        exact HT.out j hj (by omega)
      clear HT hk
      have HL30 := hid hl30
      go_upto_region 8 with (fail)
      have HO := of26_any ⟨f, t, i, ⟨p, q, l, wt, fl⟩, gm, gp, gl⟩ A c w0 HX0.out.2.2.1 (Nat.le_trans HL30.out (by decide))
      simp only [ec] at HO
      go_wp2_with fail
      refine HO.mono ?_
      rintro e w1 ⟨A8, c8, rfl, ho8, hb8⟩
      have HX1 := hid (HX0.out.keep hb8)
      have HS8 := hid (sl_own ho8)
      clear p0 p1 p2 p3 p4 p5 p6 p7 p8 p9 p10 s0 s1 s2 s3 s4 s5 s6 HX0 ho8 hb8 HO
      go_upto_region 9 with (fail)
      refine at_world (fun u => LDX W u ⟨f, t, i, ⟨p, q, l, wt, fl⟩, gm, gp, gl⟩ ⟨kd, xf, xt, xi, xp, xs, xb⟩ A c ∧ LE u w1.heap.size 54 ⟨f, t, i, ⟨p, q, l, wt, fl⟩, gm, gp, gl⟩ A8 c8) ⟨HX1.out.keep ((Below.refl _ _).alloc (Nat.le_refl _) _), heap_alloc_new _ _, HS8.out.below ((Below.refl _ _).alloc (Nat.le_refl _) _)⟩ ?_
      clear HX1 HS8
      generalize w1.heap.size = X8 at *
      rintro v1 ⟨hx1, h81⟩
      have HX := hid hx1
      have H8 := hid h81
      clear hx1 h81
      obtain ⟨⟨x0, x1, x2, x3, x4, x5, x6, x7, x8, x9, x10⟩, _⟩ := eleven_cells (show v1.heap[W.heap.size]? = some (.cells #[.int .i64 f, .int .i64 t, .int .i64 i, .int .i64 p, .int .i64 q, .slice A l.length c, .int .i64 wt, .int .i64 fl, .int .i64 gm, .int .i64 gp, .int .i64 gl] 48 (0, 0)) from HX.out.1)
      obtain ⟨⟨a0, a1, a2, a3, a4, a5, a6, a7, a8, a9, a10⟩, _⟩ := eleven_cells H8.out.cells
      simp only at a0 a1 a2 a3 a4 a5 a6 a7 a8 a9 a10
      have hw1 : IntKind.i64.wrap ((l.length : Int) + 1) = (l.length : Int) + 1 := by simp [IntKind.wrap, IntKind.bits, IntKind.signed]; have := HL30.out; omega
      have HC := lput_any ⟨f, t, i, ⟨p, q, l, wt, fl⟩, gm, gp, gl⟩ ((l.length : Int) + 1) y A8 c8 v1 H8.out.2 (Nat.le_trans HL30.out (by decide)) HYL.out
      have HD := hid (fun w hw => r26put_any ⟨f, t, i, ⟨p, q, l, wt, fl⟩, gm, gp, gl⟩ ((l.length : Int) + 1) y A c w hw (Nat.le_trans HL30.out (by decide)) HYL.out)
      have HPL := hid (putE_len ⟨f, t, i, ⟨p, q, l, wt, fl⟩, gm, gp, gl⟩ ((l.length : Int) + 1) y)
      simp only at HPL
      generalize putE ⟨f, t, i, ⟨p, q, l, wt, fl⟩, gm, gp, gl⟩ ((l.length : Int) + 1) y = PU at HC HD HPL
      obtain ⟨⟨E1, L1⟩, er⟩ := PU
      simp only at HPL
      simp only [ec] at HC HD
      go_wp2_with fail
      refine HC.mono ?_
      rintro e w2 ⟨A9, c9, B9, d9, rfl, ho9, hP9, hb9⟩
      have HS9 := hid (sl_own ho9)
      have HP9 := hid hP9
      have HB9 := hid hb9
      clear HC a0 a1 a2 a3 a4 a5 a6 a7 a8 a9 a10 ho9 hP9 hb9 x0 x1 x2 x3 x4 x5 x6 x7 x8 x9 x10
      simp only [ec]
      go_upto_region 10 with (fail)
      refine at_world (fun u => Below v1.heap.size v1 u ∧ LE u w2.heap.size 54 E1 A9 c9 ∧ OwnP v1 u (.slice B9 L1.length d9) L1 ∧ v1.heap.size ≤ w2.heap.size) ⟨HB9.out.alloc HB9.out.size _, ⟨heap_alloc_new _ _, HS9.out.below ((Below.refl _ _).alloc (Nat.le_refl _) _)⟩, own_keep HP9.out ((Below.refl _ _).alloc (Nat.le_refl _) _), HB9.out.size⟩ ?_
      clear HB9 HS9 HP9
      generalize w2.heap.size = X9 at *
      rintro v2 ⟨hb2, h92, hP92, hX9⟩
      have HB := hid hb2
      have H9 := hid h92
      have HP := hid hP92
      have hb2s := hb2.size
      have HXv := hid (HX.out.keep hb2)
      clear hb2 h92 hP92
      obtain ⟨⟨x0, x1, x2, x3, x4, x5, x6, x7, x8, x9, x10⟩, _⟩ := eleven_cells (show v2.heap[W.heap.size]? = some (.cells #[.int .i64 f, .int .i64 t, .int .i64 i, .int .i64 p, .int .i64 q, .slice A l.length c, .int .i64 wt, .int .i64 fl, .int .i64 gm, .int .i64 gp, .int .i64 gl] 48 (0, 0)) from HXv.out.1)
      go_wp2_with fail
      refine (HD.out v2 HXv.out.2.2.1).mono ?_
      rintro e w3 ⟨A12, c12, B12, d12, rfl, hs12, hP12, hb12⟩
      have HS12 := hid hs12
      have HP12 := hid (own_mono hP12 hb2s)
      have HB12 := hid hb12
      clear HD hs12 hP12 hb12 x0 x1 x2 x3 x4 x5 x6 x7 x8 x9 x10 HXv
      simp only [ec]
      go_upto_region 11 with (fail)
      refine at_world (fun u => Below v2.heap.size v2 u ∧ LE u w3.heap.size 48 E1 A12 c12 ∧ u.ownsRow v1.heap.size 50 7 (.slice B12 L1.length d12) L1.length (gcells pkc L1) ∧ v2.heap.size ≤ w3.heap.size) ⟨HB12.out.alloc HB12.out.size _, ⟨heap_alloc_new _ _, HS12.out.below ((Below.refl _ _).alloc (Nat.le_refl _) _)⟩, own_keep HP12.out ((Below.refl _ _).alloc (Nat.le_refl _) _), HB12.out.size⟩ ?_
      clear HB12 HS12 HP12
      generalize w3.heap.size = X12 at *
      rintro v3 ⟨hb3, h123, hP123, hX12⟩
      have hX912 : X9 ≠ X12 := by
        have h9 := lt_of_block H9.out.1
        omega
      have hX112 : v1.heap.size ≤ X12 := by omega
      have H12 := hid h123
      have HB3 := hid (HB.out.trans (hb3.mono hb2s))
      have H93 := hid (H9.out.keep hb3)
      have HA := alike_any L1 B9 B12 d9 d12
      have HPa := hid (sl_own (own_keep HP.out hb3))
      have HPb := hid (sl_own hP123)
      have hn1 := HPL.out.1
      have HI := is26_any E1 E1 A9 A12 c9 c12 v3 H93.out.2 H12.out.2 (Nat.le_trans hn1 (Nat.succ_le_succ (Nat.le_trans HL30.out (by decide)))) (Nat.le_trans hn1 (Nat.succ_le_succ (Nat.le_trans HL30.out (by decide))))
      rw [sameE_refl] at HI
      simp only [ec] at HI
      clear hb3 h123 hP123 HB H9 HP hn1
      obtain ⟨⟨b0, b1, b2, b3, b4, b5, b6, b7, b8, b9, b10⟩, _⟩ := eleven_cells H93.out.cells
      obtain ⟨⟨d0, d1, d2, d3, d4, d5, d6, d7, d8, d9, d10⟩, _⟩ := eleven_cells H12.out.cells
      have een : (er != er) = false := by simp
      have HL1 := hid HPL.out.2
      clear HPL hb2s
      go_wp2_with fail
      refine HI.mono ?_
      rintro e w4 ⟨rfl, hb4⟩
      have HB4 := hid hb4
      clear hb4 HI b0 b1 b2 b3 b4 b5 b6 b7 b8 b9 b10 d0 d1 d2 d3 d4 d5 d6 d7 d8 d9 d10
      go_wp2_with fail
      refine (HA w4 (HPa.out.below HB4.out) (HPb.out.below HB4.out) (Nat.le_trans HL1.out (by decide))).mono ?_
      rintro e w5 ⟨rfl, hb5⟩
      have HB5 := hid (HB4.out.trans (hb5.mono HB4.out.size))
      clear hb5 HB4 HA HPa HPb HL1
      go_upto_region 13 with (fail)
      have H8v := hid (H8.out.keep (HB3.out.trans (HB5.out.mono HB3.out.size)))
      have H9v := hid (H93.out.keep HB5.out)
      have H12v := hid (H12.out.keep HB5.out)
      have HBv := hid (HB3.out.trans (HB5.out.mono HB3.out.size))
      clear HB3 HB5 H93 H12 een
      obtain ⟨⟨a0, a1, a2, a3, a4, a5, a6, a7, a8, a9, a10⟩, _⟩ := eleven_cells H8v.out.cells
      obtain ⟨_, ⟨g0, g1, g2, g3, g4, g5, g6, g7, g8, g9, g10⟩⟩ := eleven_cells H9v.out.cells
      simp only at a0 a1 a2 a3 a4 a5 a6 a7 a8 a9 a10
      have HC := ltick_any ⟨f, t, i, ⟨p, q, l, wt, fl⟩, gm, gp, gl⟩ A8 c8 w5 H8v.out.2 (Nat.le_trans HL30.out (by decide))
      have HD := hid (fun w hw => r26tick_any ⟨f, t, i, ⟨p, q, l, wt, fl⟩, gm, gp, gl⟩ A c w hw (Nat.le_trans HL30.out (by decide)))
      have HTL := hid (tikE_len ⟨f, t, i, ⟨p, q, l, wt, fl⟩, gm, gp, gl⟩)
      simp only at HTL
      generalize tikE ⟨f, t, i, ⟨p, q, l, wt, fl⟩, gm, gp, gl⟩ = TU at HC HD HTL
      obtain ⟨E2, L2⟩ := TU
      simp only at HTL
      simp only [ec] at HC HD
      go_wp2_with fail
      refine HC.mono ?_
      rintro e w6 ⟨A2, c2, B2, d2, rfl, ho2, hP2, hb6⟩
      simp only [ec]
      have H9w := hid (H9v.out.keep hb6)
      have H12w := hid (H12v.out.keep hb6)
      have HBw := hid (HBv.out.trans (hb6.mono HBv.out.size))
      have HL9 := hid (LE.put (e := E2) H9w.out.1 (sl_own ho2))
      have HL12 := hid (H12w.out.other H9w.out.1 (Ne.symm hX912) (.int .i64 E2.f) (.int .i64 E2.t) (.int .i64 E2.i) (.int .i64 E2.o.p) (.int .i64 E2.o.q) (.slice A2 E2.o.l.length c2) (.int .i64 E2.o.w) (.int .i64 E2.o.f) (.int .i64 E2.m) (.int .i64 E2.p) (.int .i64 E2.l))
      have HP2 := hid (own_at (own_mono hP2 HBv.out.size) H9w.out.1 (by decide) fun g hg => put11_other (b := X9) hg (.int .i64 E2.f) (.int .i64 E2.t) (.int .i64 E2.i) (.int .i64 E2.o.p) (.int .i64 E2.o.q) (.slice A2 E2.o.l.length c2) (.int .i64 E2.o.w) (.int .i64 E2.o.f) (.int .i64 E2.m) (.int .i64 E2.p) (.int .i64 E2.l))
      have HB2 := hid (put11_below HBw.out hX9 (.int .i64 E2.f) (.int .i64 E2.t) (.int .i64 E2.i) (.int .i64 E2.o.p) (.int .i64 E2.o.q) (.slice A2 E2.o.l.length c2) (.int .i64 E2.o.w) (.int .i64 E2.o.f) (.int .i64 E2.m) (.int .i64 E2.p) (.int .i64 E2.l))
      simp only [put11] at HL9 HL12 HP2 HB2
      obtain ⟨_, ⟨h0, h1, h2, h3, h4, h5, h6, h7, h8, h9, h10⟩⟩ := eleven_cells H9w.out.cells
      clear HC a0 a1 a2 a3 a4 a5 a6 a7 a8 a9 a10 g0 g1 g2 g3 g4 g5 g6 g7 g8 g9 g10 ho2 hP2 hb6 H9v H12v HBv H9w H12w HBw H8v
      go_upto_region 14 with (fail)
      refine at_world (fun u => Below v1.heap.size v1 u ∧ LE u X9 54 E2 A2 c2 ∧ LE u X12 48 E1 A12 c12 ∧ OwnP v1 u (.slice B2 L2.length d2) L2) ⟨HB2.out, HL9.out, HL12.out, HP2.out⟩ ?_
      clear HB2 HL9 HL12 HP2 h0 h1 h2 h3 h4 h5 h6 h7 h8 h9 h10
      rintro v4 ⟨hb4, h94, h124, hP4⟩
      have HB := hid hb4
      have H9 := hid h94
      have H12 := hid h124
      have HP := hid hP4
      have HXv := hid (HX.out.keep hb4)
      clear hb4 h94 h124 hP4
      obtain ⟨⟨x0, x1, x2, x3, x4, x5, x6, x7, x8, x9, x10⟩, _⟩ := eleven_cells (show v4.heap[W.heap.size]? = some (.cells #[.int .i64 f, .int .i64 t, .int .i64 i, .int .i64 p, .int .i64 q, .slice A l.length c, .int .i64 wt, .int .i64 fl, .int .i64 gm, .int .i64 gp, .int .i64 gl] 48 (0, 0)) from HXv.out.1)
      go_wp2_with fail
      refine (HD.out v4 HXv.out.2.2.1).mono ?_
      rintro e w7 ⟨A2', c2', B2', d2', rfl, hs2, hP2, hb7⟩
      simp only [ec]
      have H9w := hid (H9.out.keep hb7)
      have H12w := hid (H12.out.keep hb7)
      have HBw := hid (HB.out.trans (hb7.mono HB.out.size))
      have HL12 := hid (LE.put (e := E2) H12w.out.1 hs2)
      have HL9 := hid (H9w.out.other H12w.out.1 hX912 (.int .i64 E2.f) (.int .i64 E2.t) (.int .i64 E2.i) (.int .i64 E2.o.p) (.int .i64 E2.o.q) (.slice A2' E2.o.l.length c2') (.int .i64 E2.o.w) (.int .i64 E2.o.f) (.int .i64 E2.m) (.int .i64 E2.p) (.int .i64 E2.l))
      have HP2 := hid (own_at (own_mono hP2 HB.out.size) H12w.out.1 (by decide) fun g hg => put11_other (b := X12) hg (.int .i64 E2.f) (.int .i64 E2.t) (.int .i64 E2.i) (.int .i64 E2.o.p) (.int .i64 E2.o.q) (.slice A2' E2.o.l.length c2') (.int .i64 E2.o.w) (.int .i64 E2.o.f) (.int .i64 E2.m) (.int .i64 E2.p) (.int .i64 E2.l))
      have HP3 := hid (own_at (own_keep HP.out hb7) H12w.out.1 (by decide) fun g hg => put11_other (b := X12) hg (.int .i64 E2.f) (.int .i64 E2.t) (.int .i64 E2.i) (.int .i64 E2.o.p) (.int .i64 E2.o.q) (.slice A2' E2.o.l.length c2') (.int .i64 E2.o.w) (.int .i64 E2.o.f) (.int .i64 E2.m) (.int .i64 E2.p) (.int .i64 E2.l))
      have HB2 := hid (put11_below HBw.out hX112 (.int .i64 E2.f) (.int .i64 E2.t) (.int .i64 E2.i) (.int .i64 E2.o.p) (.int .i64 E2.o.q) (.slice A2' E2.o.l.length c2') (.int .i64 E2.o.w) (.int .i64 E2.o.f) (.int .i64 E2.m) (.int .i64 E2.p) (.int .i64 E2.l))
      simp only [put11] at HL9 HL12 HP2 HP3 HB2
      obtain ⟨_, ⟨h0, h1, h2, h3, h4, h5, h6, h7, h8, h9, h10⟩⟩ := eleven_cells H12w.out.cells
      clear HD x0 x1 x2 x3 x4 x5 x6 x7 x8 x9 x10 hs2 hP2 hb7 H9w H12w HBw H9 H12 HP HB HXv
      go_upto_region 15 with (fail)
      refine at_world (fun u => Below v1.heap.size v1 u ∧ LE u X9 54 E2 A2 c2 ∧ LE u X12 48 E2 A2' c2' ∧ OwnP v1 u (.slice B2 L2.length d2) L2 ∧ u.ownsRow v1.heap.size 50 7 (.slice B2' L2.length d2') L2.length (gcells pkc L2)) ⟨HB2.out, HL9.out, HL12.out, HP3.out, HP2.out⟩ ?_
      clear HB2 HL9 HL12 HP2 HP3 h0 h1 h2 h3 h4 h5 h6 h7 h8 h9 h10
      rintro v5 ⟨hb5, h95, h125, hP5, hP5'⟩
      have HB := hid hb5
      have H9 := hid h95
      have H12 := hid h125
      have HP := hid (sl_own hP5)
      have HP' := hid (sl_own hP5')
      have H8v := hid (H8.out.keep hb5)
      clear hb5 h95 h125 hP5 hP5'
      have HL2 := hid (Nat.le_trans HTL.out.2 (show 1 ≤ 1000 by decide))
      have hn2 : E2.o.l.length ≤ 1001 := by rw [HTL.out.1]; exact Nat.le_trans HL30.out (by decide)
      have hn0 : l.length ≤ 1001 := Nat.le_trans HL30.out (by decide)
      have cI1 := reg (w := v5) (fun W' hW => by
        have hI := is26_any E2 E2 A2 A2' c2 c2' W' (H9.out.2.below hW) (H12.out.2.below hW) hn2 hn2
        rw [sameE_refl] at hI
        exact hI)
      have cAl := reg (w := v5) (fun W' hW => alike_any L2 B2 B2' d2 d2' W' (HP.out.below hW) (HP'.out.below hW) HL2.out)
      have cS1 := reg (w := v5) (fun W' hW => by
        have hI := lsame_any ⟨f, t, i, ⟨p, q, l, wt, fl⟩, gm, gp, gl⟩ ⟨f, t, i, ⟨p, q, l, wt, fl⟩, gm, gp, gl⟩ A8 A8 c8 c8 W' (H8v.out.2.below hW) (H8v.out.2.below hW) hn0 hn0
        rw [sameE_refl] at hI
        exact hI)
      have cS2 := reg (w := v5) (fun W' hW => lsame_any ⟨f, t, i, ⟨p, q, l, wt, fl⟩, gm, gp, gl⟩ E2 A8 A2 c8 c2 W' (H8v.out.2.below hW) (H9.out.2.below hW) hn0 hn2)
      have cI2 := reg (w := v5) (fun W' hW => is26_any ⟨f, t, i, ⟨p, q, l, wt, fl⟩, gm, gp, gl⟩ E2 A8 A2' c8 c2' W' (H8v.out.2.below hW) (H12.out.2.below hW) hn0 hn2)
      generalize sameE ⟨f, t, i, ⟨p, q, l, wt, fl⟩, gm, gp, gl⟩ E2 = bb at cS2 cI2
      have ebb : (bb != bb) = false := by simp
      simp only [ec] at cI1 cS1 cS2 cI2
      obtain ⟨⟨a0, a1, a2, a3, a4, a5, a6, a7, a8, a9, a10⟩, _⟩ := eleven_cells H8v.out.cells
      obtain ⟨⟨b0, b1, b2, b3, b4, b5, b6, b7, b8, b9, b10⟩, _⟩ := eleven_cells H9.out.cells
      obtain ⟨⟨d0, d1, d2, d3, d4, d5, d6, d7, d8, d9, d10⟩, _⟩ := eleven_cells H12.out.cells
      simp only at a0 a1 a2 a3 a4 a5 a6 a7 a8 a9 a10
      replace a0 := cell_regrown a0
      replace a1 := cell_regrown a1
      replace a2 := cell_regrown a2
      replace a3 := cell_regrown a3
      replace a4 := cell_regrown a4
      replace a5 := cell_regrown a5
      replace a6 := cell_regrown a6
      replace a7 := cell_regrown a7
      replace a8 := cell_regrown a8
      replace a9 := cell_regrown a9
      replace a10 := cell_regrown a10
      replace b0 := cell_regrown b0
      replace b1 := cell_regrown b1
      replace b2 := cell_regrown b2
      replace b3 := cell_regrown b3
      replace b4 := cell_regrown b4
      replace b5 := cell_regrown b5
      replace b6 := cell_regrown b6
      replace b7 := cell_regrown b7
      replace b8 := cell_regrown b8
      replace b9 := cell_regrown b9
      replace b10 := cell_regrown b10
      replace d0 := cell_regrown d0
      replace d1 := cell_regrown d1
      replace d2 := cell_regrown d2
      replace d3 := cell_regrown d3
      replace d4 := cell_regrown d4
      replace d5 := cell_regrown d5
      replace d6 := cell_regrown d6
      replace d7 := cell_regrown d7
      replace d8 := cell_regrown d8
      replace d9 := cell_regrown d9
      replace d10 := cell_regrown d10
      clear hn2 HTL
      refine wp_region_quiet_below (by kernel_rfl) (by kernel_rfl) ?_
      repeat (go_big_quiet_step (first | (go_at_call 21; first | with_reducible exact cI1 _ _ | with_reducible exact cI2 _ _) | (go_at_call 22; with_reducible exact cAl _ _) | (go_at_call 25; first | with_reducible exact cS1 _ _ | with_reducible exact cS2 _ _)))
      refine wpQuiet_nil ?_
      intro _ hw'
      obtain ⟨⟨dq, osq⟩, hw''⟩ := hw'
      subst hw''
      have HBv := hid (HB.out.trans ((below_regrown v5 dq osq).mono HB.out.size))
      clear a0 a1 a2 a3 a4 a5 a6 a7 a8 a9 a10 b0 b1 b2 b3 b4 b5 b6 b7 b8 b9 b10 d0 d1 d2 d3 d4 d5 d6 d7 d8 d9 d10 cI1 cAl cS1 cS2 cI2 ebb H8v H9 H12 HP HP' HB HL2
      go_upto_region 17 with (fail)
      refine at_world (fun u => Below v1.heap.size v1 u) HBv.out ?_
      clear HBv
      rintro v6 hb6
      have HX6 := hid (HX.out.keep hb6)
      have H86 := hid (H8.out.keep hb6)
      have HB6 := hid (HX6.out.2.2.2)
      have hsz6 := hb6.size
      clear hb6 HX H8 hX9 hX12 hX912 hX112
      have hS : ∀ U, Below v6.heap.size v6 U → (((U.cell? ⟨X8, 0, none⟩ = some (.int .i64 f) ∧ U.cell? ⟨X8, 1, none⟩ = some (.int .i64 t) ∧ U.cell? ⟨X8, 2, none⟩ = some (.int .i64 i) ∧ U.cell? ⟨X8, 3, none⟩ = some (.int .i64 p) ∧ U.cell? ⟨X8, 4, none⟩ = some (.int .i64 q) ∧ U.cell? ⟨X8, 5, none⟩ = some (.slice A8 l.length c8) ∧ U.cell? ⟨X8, 6, none⟩ = some (.int .i64 wt) ∧ U.cell? ⟨X8, 7, none⟩ = some (.int .i64 fl) ∧ U.cell? ⟨X8, 8, none⟩ = some (.int .i64 gm) ∧ U.cell? ⟨X8, 9, none⟩ = some (.int .i64 gp) ∧ U.cell? ⟨X8, 10, none⟩ = some (.int .i64 gl)) ∧ (U.cell? ⟨W.heap.size + 1, 0, none⟩ = some (.int .i64 kd) ∧ U.cell? ⟨W.heap.size + 1, 1, none⟩ = some (.int .i64 xf) ∧ U.cell? ⟨W.heap.size + 1, 2, none⟩ = some (.int .i64 xt) ∧ U.cell? ⟨W.heap.size + 1, 3, none⟩ = some (.int .i64 xi) ∧ U.cell? ⟨W.heap.size + 1, 4, none⟩ = some (.int .i64 xp) ∧ U.cell? ⟨W.heap.size + 1, 5, none⟩ = some (.int .i64 xs) ∧ U.cell? ⟨W.heap.size + 1, 6, none⟩ = some (.string (str xb)))) ∧ Below v6.heap.size v6 U) := fun U hU => ⟨⟨(eleven_cells (H86.out.keep hU).cells).1, seven_cellsL (HX6.out.keep hU).2.1⟩, hU⟩
      have HPK := hid (fun U => packet26_any ⟨kd, xf, xt, xi, xp, xs, xb⟩ U)
      have HTK := hid (fun U (hU : Below v6.heap.size v6 U) => ltake_any ⟨f, t, i, ⟨p, q, l, wt, fl⟩, gm, gp, gl⟩ ⟨kd, xf, xt, xi, xp, xs, xb⟩ A8 c8 U ((H86.out.keep hU).2) (Nat.le_trans HL30.out (by decide)) HG2.out.1 HG2.out.2 HXS.out.1 HXS.out.2 HQ2.out HQ.out.2)
      have HTV := hid (takV_len ⟨f, t, i, ⟨p, q, l, wt, fl⟩, gm, gp, gl⟩ ⟨kd, xf, xt, xi, xp, xs, xb⟩)
      have HRT := hid (fun w hw => r26take_any f t i p q l wt fl gm gp gl kd xf xt xi xp xs xb A c w hw (Nat.le_trans HL30.out (by decide)) HNE.out HG2.out HXS.out HQ2.out HQ.out.2)
      generalize takV ⟨f, t, i, ⟨p, q, l, wt, fl⟩, gm, gp, gl⟩ ⟨kd, xf, xt, xi, xp, xs, xb⟩ = TV at HTK HTV HRT
      obtain ⟨⟨E4, L4⟩, tx, got⟩ := TV
      simp only at HTV
      simp only [ec, pca] at HPK HTK
      have hk0 : Below v6.heap.size v6 v6.drew := below_drew (Below.refl _ _)
      go_cut [15, 16, 17, 18] from 140 to 148 (fun p15 p16 p17 p18 wx => ∃ Z A4 c4 B4 d4, p15 = .pointer (some ⟨Z, 0, none⟩) ∧ p16 = .string tx ∧ p17 = .bool got ∧ p18 = .slice B4 L4.length d4 ∧ LE wx Z 54 E4 A4 c4 ∧ OwnP v6 wx (.slice B4 L4.length d4) L4 ∧ Below v6.heap.size v6 wx)
      case first =>
        refine wp_region_held_drew (S := fun U => ((U.cell? ⟨X8, 0, none⟩ = some (.int .i64 f) ∧ U.cell? ⟨X8, 1, none⟩ = some (.int .i64 t) ∧ U.cell? ⟨X8, 2, none⟩ = some (.int .i64 i) ∧ U.cell? ⟨X8, 3, none⟩ = some (.int .i64 p) ∧ U.cell? ⟨X8, 4, none⟩ = some (.int .i64 q) ∧ U.cell? ⟨X8, 5, none⟩ = some (.slice A8 l.length c8) ∧ U.cell? ⟨X8, 6, none⟩ = some (.int .i64 wt) ∧ U.cell? ⟨X8, 7, none⟩ = some (.int .i64 fl) ∧ U.cell? ⟨X8, 8, none⟩ = some (.int .i64 gm) ∧ U.cell? ⟨X8, 9, none⟩ = some (.int .i64 gp) ∧ U.cell? ⟨X8, 10, none⟩ = some (.int .i64 gl)) ∧ (U.cell? ⟨W.heap.size + 1, 0, none⟩ = some (.int .i64 kd) ∧ U.cell? ⟨W.heap.size + 1, 1, none⟩ = some (.int .i64 xf) ∧ U.cell? ⟨W.heap.size + 1, 2, none⟩ = some (.int .i64 xt) ∧ U.cell? ⟨W.heap.size + 1, 3, none⟩ = some (.int .i64 xi) ∧ U.cell? ⟨W.heap.size + 1, 4, none⟩ = some (.int .i64 xp) ∧ U.cell? ⟨W.heap.size + 1, 5, none⟩ = some (.int .i64 xs) ∧ U.cell? ⟨W.heap.size + 1, 6, none⟩ = some (.string (str xb)))) ∧ Below v6.heap.size v6 U) (by kernel_rfl) (hS _ hk0) (fun hHeld => ?_)
        generalize v6.drew = k0 at *
        refine wpAnyH_take (i := 0) (v := ?_) rfl (by kernel_rfl) (by kernel_rfl) (by kernel_rfl) (fun _ _ _ h => h) (Or.inl ⟨by rfl, ?_⟩) (by assumption) ?_
        rotate_left
        focus
          intro U hU
          try dsimp only at hU
          go_simp
          try (with_reducible rfl)
        simp only [List.getElem_toArray, List.getElem_cons_succ, List.getElem_cons_zero, Act.put, List.setIfInBounds_toArray, List.set_cons_zero, List.set_cons_succ]
        refine wpAnyH_take (i := 1) (v := ?_) rfl (by kernel_rfl) (by kernel_rfl) (by kernel_rfl) (fun _ _ _ h => h) (Or.inl ⟨by rfl, ?_⟩) (by assumption) ?_
        rotate_left
        focus
          intro U hU
          try dsimp only at hU
          go_simp
          try (with_reducible rfl)
        simp only [List.getElem_toArray, List.getElem_cons_succ, List.getElem_cons_zero, Act.put, List.setIfInBounds_toArray, List.set_cons_zero, List.set_cons_succ]
        refine wpAnyH_ready (rs := [2, 9]) (by kernel_rfl) (by simp) ?_
        refine (AllReadyH.cons rfl (fun K hK => ?_) (AllReadyH.cons rfl (fun K hK => ?_) AllReadyH.nil))
        · skip
          simp only [List.getElem_toArray, List.getElem_cons_succ, List.getElem_cons_zero]
          go_simp
          refine (HPK.out _).mono ?_
          rintro e u1 ⟨rfl, g1⟩
          have hk1 := hk0.trans (g1.mono hk0.size)
          clear g1
          go_wp2_with fail
          refine hK.out _ _ ?_ (fun hHeld2 => ?_)
          focus
            exact hS _ hk1
          clear hHeld
          have hHeld := hHeld2
          clear hHeld2 hK K
          try simp only [List.getElem_toArray, List.getElem_cons_succ, List.getElem_cons_zero, Act.put, List.setIfInBounds_toArray, List.set_cons_zero, List.set_cons_succ]
          refine wpAnyH_ready (rs := [3, 9]) (by kernel_rfl) (by simp) ?_
          refine (AllReadyH.cons rfl (fun K hK => ?_) (AllReadyH.cons rfl (fun K hK => ?_) AllReadyH.nil))
          · skip
            simp only [List.getElem_toArray, List.getElem_cons_succ, List.getElem_cons_zero]
            go_simp
            refine (HTK.out _ hk1).mono ?_
            rintro e u2 ⟨A4, c4, B4, d4, rfl, ho4, hP4, g2⟩
            simp only [ec]
            have hk2 := hk1.trans (g2.mono hk1.size)
            have hP5 : OwnP v6 u2 (.slice B4 L4.length d4) L4 := own_mono hP4 hk1.size
            have hS4 := sl_own ho4
            clear g2 ho4 hP4
            go_wp2_with fail
            refine hK.out _ _ ?_ (fun hHeld2 => ?_)
            focus
              exact hS _ hk2
            clear hHeld
            have hHeld := hHeld2
            clear hHeld2 hK K
            try simp only [List.getElem_toArray, List.getElem_cons_succ, List.getElem_cons_zero, Act.put, List.setIfInBounds_toArray, List.set_cons_zero, List.set_cons_succ]
            refine wpAnyH_take (i := 4) (v := ?_) rfl (by kernel_rfl) (by kernel_rfl) (by kernel_rfl) (fun _ _ _ h => h) (Or.inl ⟨by rfl, ?_⟩) (by assumption) ?_
            rotate_left
            focus
              intro U hU
              try dsimp only at hU
              go_simp
              try (with_reducible rfl)
            simp only [List.getElem_toArray, List.getElem_cons_succ, List.getElem_cons_zero, Act.put, List.setIfInBounds_toArray, List.set_cons_zero, List.set_cons_succ]
            refine wpAnyH_take (i := 5) (v := ?_) rfl (by kernel_rfl) (by kernel_rfl) (by kernel_rfl) (fun _ _ _ h => h) (Or.inl ⟨by rfl, ?_⟩) (by assumption) ?_
            rotate_left
            focus
              intro U hU
              try dsimp only at hU
              go_simp
              try (with_reducible rfl)
            simp only [List.getElem_toArray, List.getElem_cons_succ, List.getElem_cons_zero, Act.put, List.setIfInBounds_toArray, List.set_cons_zero, List.set_cons_succ]
            refine wpAnyH_take (i := 6) (v := ?_) rfl (by kernel_rfl) (by kernel_rfl) (by kernel_rfl) (fun _ _ _ h => h) (Or.inl ⟨by rfl, ?_⟩) (by assumption) ?_
            rotate_left
            focus
              intro U hU
              try dsimp only at hU
              go_simp
              try (with_reducible rfl)
            simp only [List.getElem_toArray, List.getElem_cons_succ, List.getElem_cons_zero, Act.put, List.setIfInBounds_toArray, List.set_cons_zero, List.set_cons_succ]
            refine wpAnyH_take (i := 7) (v := ?_) rfl (by kernel_rfl) (by kernel_rfl) (by kernel_rfl) (fun _ _ _ h => h) (Or.inl ⟨by rfl, ?_⟩) (by assumption) ?_
            rotate_left
            focus
              intro U hU
              try dsimp only at hU
              go_simp
              try (with_reducible rfl)
            simp only [List.getElem_toArray, List.getElem_cons_succ, List.getElem_cons_zero, Act.put, List.setIfInBounds_toArray, List.set_cons_zero, List.set_cons_succ]
            refine wpAnyH_take (i := 8) (v := ?_) rfl (by kernel_rfl) (by kernel_rfl) (by kernel_rfl) (fun _ _ _ h => h) (Or.inl ⟨by rfl, ?_⟩) (by assumption) ?_
            rotate_left
            focus
              intro U hU
              try dsimp only at hU
              go_simp
              try (with_reducible rfl)
            simp only [List.getElem_toArray, List.getElem_cons_succ, List.getElem_cons_zero, Act.put, List.setIfInBounds_toArray, List.set_cons_zero, List.set_cons_succ]
            refine wpAnyH_ready (rs := [9]) (by kernel_rfl) (by simp) ?_
            refine (AllReadyH.cons rfl (fun K hK => ?_) AllReadyH.nil)
            simp only [List.getElem_toArray, List.getElem_cons_succ, List.getElem_cons_zero]
            go_simp
            refine hK.out _ _ ?_ (fun hHeld2 => ?_)
            focus
              exact hS _ (hk2.alloc hk2.size _)
            clear hHeld
            have hHeld := hHeld2
            clear hHeld2 hK K
            try simp only [List.getElem_toArray, List.getElem_cons_succ, List.getElem_cons_zero, Act.put, List.setIfInBounds_toArray, List.set_cons_zero, List.set_cons_succ]
            have hbn : Below (World.heap u2).size u2 (World.alloc u2 (.cells #[.int .i64 0, .int .i64 0, .int .i64 0, .int .i64 0, .int .i64 0, .slice none 0 0, .int .i64 0, .int .i64 0, .int .i64 0, .int .i64 0, .int .i64 0] 54 (0, 0))) := (Below.refl _ _).alloc (Nat.le_refl _) _
            have hk3 := hk2.trans (hbn.mono hk2.size)
            have hz3 := heap_alloc_new u2 (.cells #[.int .i64 0, .int .i64 0, .int .i64 0, .int .i64 0, .int .i64 0, .slice none 0 0, .int .i64 0, .int .i64 0, .int .i64 0, .int .i64 0, .int .i64 0] 54 (0, 0))
            have hle : v6.heap.size ≤ (World.heap u2).size := hk2.size
            have hP7 := own_keep hP5 hbn
            have hS7 := hS4.below hbn
            clear hbn
            generalize World.alloc u2 (.cells #[.int .i64 0, .int .i64 0, .int .i64 0, .int .i64 0, .int .i64 0, .slice none 0 0, .int .i64 0, .int .i64 0, .int .i64 0, .int .i64 0, .int .i64 0] 54 (0, 0)) = k9 at *
            generalize (World.heap u2).size = Zb at *
            have hk4 := put11_below hk3 hle (.int .i64 E4.f) (.int .i64 E4.t) (.int .i64 E4.i) (.int .i64 E4.o.p) (.int .i64 E4.o.q) (.slice A4 E4.o.l.length c4) (.int .i64 E4.o.w) (.int .i64 E4.o.f) (.int .i64 E4.m) (.int .i64 E4.p) (.int .i64 E4.l)
            have hP6 : OwnP v6 (put11 _ Zb (.int .i64 E4.f) (.int .i64 E4.t) (.int .i64 E4.i) (.int .i64 E4.o.p) (.int .i64 E4.o.q) (.slice A4 E4.o.l.length c4) (.int .i64 E4.o.w) (.int .i64 E4.o.f) (.int .i64 E4.m) (.int .i64 E4.p) (.int .i64 E4.l)) (.slice B4 L4.length d4) L4 := own_at hP7 hz3 (by decide) fun g hg => put11_other (b := Zb) hg (.int .i64 E4.f) (.int .i64 E4.t) (.int .i64 E4.i) (.int .i64 E4.o.p) (.int .i64 E4.o.q) (.slice A4 E4.o.l.length c4) (.int .i64 E4.o.w) (.int .i64 E4.o.f) (.int .i64 E4.m) (.int .i64 E4.p) (.int .i64 E4.l)
            have hL6 : LE (put11 _ Zb (.int .i64 E4.f) (.int .i64 E4.t) (.int .i64 E4.i) (.int .i64 E4.o.p) (.int .i64 E4.o.q) (.slice A4 E4.o.l.length c4) (.int .i64 E4.o.w) (.int .i64 E4.o.f) (.int .i64 E4.m) (.int .i64 E4.p) (.int .i64 E4.l)) Zb 54 E4 A4 c4 := ⟨put11_heap hz3 (.int .i64 E4.f) (.int .i64 E4.t) (.int .i64 E4.i) (.int .i64 E4.o.p) (.int .i64 E4.o.q) (.slice A4 E4.o.l.length c4) (.int .i64 E4.o.w) (.int .i64 E4.o.f) (.int .i64 E4.m) (.int .i64 E4.p) (.int .i64 E4.l), sl_st hS7 hz3 ez_ns fun g hg => put11_other hg (.int .i64 E4.f) (.int .i64 E4.t) (.int .i64 E4.i) (.int .i64 E4.o.p) (.int .i64 E4.o.q) (.slice A4 E4.o.l.length c4) (.int .i64 E4.o.w) (.int .i64 E4.o.f) (.int .i64 E4.m) (.int .i64 E4.p) (.int .i64 E4.l)⟩
            obtain ⟨_, ⟨g0, g1, g2, g3, g4, g5, g6, g7, g8, g9, g10⟩⟩ := eleven_cells hz3
            simp only [put11] at hk4 hP6 hL6
            refine wpAnyH_ready (rs := [10]) (by kernel_rfl) (by simp) ?_
            refine AllReadyH.cons rfl (fun K hK => ?_) AllReadyH.nil
            simp only [List.getElem_toArray, List.getElem_cons_succ, List.getElem_cons_zero]
            go_simp
            refine hK.out _ _ ?_ (fun hHeld2 => ?_)
            focus
              exact hS _ hk4
            clear hHeld
            have hHeld := hHeld2
            clear hHeld2 hK K
            try simp only [List.getElem_toArray, List.getElem_cons_succ, List.getElem_cons_zero, Act.put, List.setIfInBounds_toArray, List.set_cons_zero, List.set_cons_succ]
            refine wpAnyH_take (i := 11) (v := ?_) rfl (by kernel_rfl) (by kernel_rfl) (by kernel_rfl) (fun _ _ _ h => h) (Or.inl ⟨by rfl, ?_⟩) (by assumption) ?_
            rotate_left
            focus
              intro U hU
              try dsimp only at hU
              go_simp
              try (with_reducible rfl)
            simp only [List.getElem_toArray, List.getElem_cons_succ, List.getElem_cons_zero, Act.put, List.setIfInBounds_toArray, List.set_cons_zero, List.set_cons_succ]
            refine wpAnyH_take (i := 12) (v := ?_) rfl (by kernel_rfl) (by kernel_rfl) (by kernel_rfl) (fun _ _ _ h => h) (Or.inl ⟨by rfl, ?_⟩) (by assumption) ?_
            rotate_left
            focus
              intro U hU
              try dsimp only at hU
              go_simp
              try (with_reducible rfl)
            simp only [List.getElem_toArray, List.getElem_cons_succ, List.getElem_cons_zero, Act.put, List.setIfInBounds_toArray, List.set_cons_zero, List.set_cons_succ]
            refine wpAnyH_take (i := 13) (v := ?_) rfl (by kernel_rfl) (by kernel_rfl) (by kernel_rfl) (fun _ _ _ h => h) (Or.inl ⟨by rfl, ?_⟩) (by assumption) ?_
            rotate_left
            focus
              intro U hU
              try dsimp only at hU
              go_simp
              try (with_reducible rfl)
            simp only [List.getElem_toArray, List.getElem_cons_succ, List.getElem_cons_zero, Act.put, List.setIfInBounds_toArray, List.set_cons_zero, List.set_cons_succ]
            refine wpAnyH_done (by kernel_rfl) ?_ _
            clear hHeld hS
            go_wp2_with fail
            go_meet
            exact ⟨Zb, A4, c4, B4, d4, rfl, rfl, rfl, rfl, hL6, hP6, hk4⟩
          · skip
            simp only [List.getElem_toArray, List.getElem_cons_succ, List.getElem_cons_zero]
            go_simp
            refine hK.out _ _ ?_ (fun hHeld2 => ?_)
            focus
              exact hS _ (hk1.alloc hk1.size _)
            clear hHeld
            have hHeld := hHeld2
            clear hHeld2 hK K
            try simp only [List.getElem_toArray, List.getElem_cons_succ, List.getElem_cons_zero, Act.put, List.setIfInBounds_toArray, List.set_cons_zero, List.set_cons_succ]
            have hbn : Below (World.heap u1).size u1 (World.alloc u1 (.cells #[.int .i64 0, .int .i64 0, .int .i64 0, .int .i64 0, .int .i64 0, .slice none 0 0, .int .i64 0, .int .i64 0, .int .i64 0, .int .i64 0, .int .i64 0] 54 (0, 0))) := (Below.refl _ _).alloc (Nat.le_refl _) _
            have hk1b := hk1.trans (hbn.mono hk1.size)
            have hz2 := heap_alloc_new u1 (.cells #[.int .i64 0, .int .i64 0, .int .i64 0, .int .i64 0, .int .i64 0, .slice none 0 0, .int .i64 0, .int .i64 0, .int .i64 0, .int .i64 0, .int .i64 0] 54 (0, 0))
            have hle : v6.heap.size ≤ (World.heap u1).size := hk1.size
            clear hbn
            generalize World.alloc u1 (.cells #[.int .i64 0, .int .i64 0, .int .i64 0, .int .i64 0, .int .i64 0, .slice none 0 0, .int .i64 0, .int .i64 0, .int .i64 0, .int .i64 0, .int .i64 0] 54 (0, 0)) = k9 at *
            generalize (World.heap u1).size = Zb at *
            refine wpAnyH_ready (rs := [3]) (by kernel_rfl) (by simp) ?_
            refine (AllReadyH.cons rfl (fun K hK => ?_) AllReadyH.nil)
            simp only [List.getElem_toArray, List.getElem_cons_succ, List.getElem_cons_zero]
            go_simp
            refine (HTK.out _ hk1b).mono ?_
            rintro e u2 ⟨A4, c4, B4, d4, rfl, ho4, hP4, g2⟩
            simp only [ec]
            have hk2 := hk1b.trans (g2.mono hk1b.size)
            have hP5 : OwnP v6 u2 (.slice B4 L4.length d4) L4 := own_mono hP4 hk1b.size
            have hS4 := sl_own ho4
            have hz3 := keep0 hz2 g2
            clear g2 ho4 hP4
            go_wp2_with fail
            refine hK.out _ _ ?_ (fun hHeld2 => ?_)
            focus
              exact hS _ hk2
            clear hHeld
            have hHeld := hHeld2
            clear hHeld2 hK K
            try simp only [List.getElem_toArray, List.getElem_cons_succ, List.getElem_cons_zero, Act.put, List.setIfInBounds_toArray, List.set_cons_zero, List.set_cons_succ]
            refine wpAnyH_take (i := 4) (v := ?_) rfl (by kernel_rfl) (by kernel_rfl) (by kernel_rfl) (fun _ _ _ h => h) (Or.inl ⟨by rfl, ?_⟩) (by assumption) ?_
            rotate_left
            focus
              intro U hU
              try dsimp only at hU
              go_simp
              try (with_reducible rfl)
            simp only [List.getElem_toArray, List.getElem_cons_succ, List.getElem_cons_zero, Act.put, List.setIfInBounds_toArray, List.set_cons_zero, List.set_cons_succ]
            refine wpAnyH_take (i := 5) (v := ?_) rfl (by kernel_rfl) (by kernel_rfl) (by kernel_rfl) (fun _ _ _ h => h) (Or.inl ⟨by rfl, ?_⟩) (by assumption) ?_
            rotate_left
            focus
              intro U hU
              try dsimp only at hU
              go_simp
              try (with_reducible rfl)
            simp only [List.getElem_toArray, List.getElem_cons_succ, List.getElem_cons_zero, Act.put, List.setIfInBounds_toArray, List.set_cons_zero, List.set_cons_succ]
            refine wpAnyH_take (i := 6) (v := ?_) rfl (by kernel_rfl) (by kernel_rfl) (by kernel_rfl) (fun _ _ _ h => h) (Or.inl ⟨by rfl, ?_⟩) (by assumption) ?_
            rotate_left
            focus
              intro U hU
              try dsimp only at hU
              go_simp
              try (with_reducible rfl)
            simp only [List.getElem_toArray, List.getElem_cons_succ, List.getElem_cons_zero, Act.put, List.setIfInBounds_toArray, List.set_cons_zero, List.set_cons_succ]
            refine wpAnyH_take (i := 7) (v := ?_) rfl (by kernel_rfl) (by kernel_rfl) (by kernel_rfl) (fun _ _ _ h => h) (Or.inl ⟨by rfl, ?_⟩) (by assumption) ?_
            rotate_left
            focus
              intro U hU
              try dsimp only at hU
              go_simp
              try (with_reducible rfl)
            simp only [List.getElem_toArray, List.getElem_cons_succ, List.getElem_cons_zero, Act.put, List.setIfInBounds_toArray, List.set_cons_zero, List.set_cons_succ]
            refine wpAnyH_take (i := 8) (v := ?_) rfl (by kernel_rfl) (by kernel_rfl) (by kernel_rfl) (fun _ _ _ h => h) (Or.inl ⟨by rfl, ?_⟩) (by assumption) ?_
            rotate_left
            focus
              intro U hU
              try dsimp only at hU
              go_simp
              try (with_reducible rfl)
            simp only [List.getElem_toArray, List.getElem_cons_succ, List.getElem_cons_zero, Act.put, List.setIfInBounds_toArray, List.set_cons_zero, List.set_cons_succ]
            have hk4 := put11_below hk2 hle (.int .i64 E4.f) (.int .i64 E4.t) (.int .i64 E4.i) (.int .i64 E4.o.p) (.int .i64 E4.o.q) (.slice A4 E4.o.l.length c4) (.int .i64 E4.o.w) (.int .i64 E4.o.f) (.int .i64 E4.m) (.int .i64 E4.p) (.int .i64 E4.l)
            have hP6 : OwnP v6 (put11 _ Zb (.int .i64 E4.f) (.int .i64 E4.t) (.int .i64 E4.i) (.int .i64 E4.o.p) (.int .i64 E4.o.q) (.slice A4 E4.o.l.length c4) (.int .i64 E4.o.w) (.int .i64 E4.o.f) (.int .i64 E4.m) (.int .i64 E4.p) (.int .i64 E4.l)) (.slice B4 L4.length d4) L4 := own_at hP5 hz3 (by decide) fun g hg => put11_other (b := Zb) hg (.int .i64 E4.f) (.int .i64 E4.t) (.int .i64 E4.i) (.int .i64 E4.o.p) (.int .i64 E4.o.q) (.slice A4 E4.o.l.length c4) (.int .i64 E4.o.w) (.int .i64 E4.o.f) (.int .i64 E4.m) (.int .i64 E4.p) (.int .i64 E4.l)
            have hL6 : LE (put11 _ Zb (.int .i64 E4.f) (.int .i64 E4.t) (.int .i64 E4.i) (.int .i64 E4.o.p) (.int .i64 E4.o.q) (.slice A4 E4.o.l.length c4) (.int .i64 E4.o.w) (.int .i64 E4.o.f) (.int .i64 E4.m) (.int .i64 E4.p) (.int .i64 E4.l)) Zb 54 E4 A4 c4 := ⟨put11_heap hz3 (.int .i64 E4.f) (.int .i64 E4.t) (.int .i64 E4.i) (.int .i64 E4.o.p) (.int .i64 E4.o.q) (.slice A4 E4.o.l.length c4) (.int .i64 E4.o.w) (.int .i64 E4.o.f) (.int .i64 E4.m) (.int .i64 E4.p) (.int .i64 E4.l), sl_st hS4 hz3 ez_ns fun g hg => put11_other hg (.int .i64 E4.f) (.int .i64 E4.t) (.int .i64 E4.i) (.int .i64 E4.o.p) (.int .i64 E4.o.q) (.slice A4 E4.o.l.length c4) (.int .i64 E4.o.w) (.int .i64 E4.o.f) (.int .i64 E4.m) (.int .i64 E4.p) (.int .i64 E4.l)⟩
            obtain ⟨_, ⟨g0, g1, g2, g3, g4, g5, g6, g7, g8, g9, g10⟩⟩ := eleven_cells hz3
            simp only [put11] at hk4 hP6 hL6
            refine wpAnyH_ready (rs := [10]) (by kernel_rfl) (by simp) ?_
            refine AllReadyH.cons rfl (fun K hK => ?_) AllReadyH.nil
            simp only [List.getElem_toArray, List.getElem_cons_succ, List.getElem_cons_zero]
            go_simp
            refine hK.out _ _ ?_ (fun hHeld2 => ?_)
            focus
              exact hS _ hk4
            clear hHeld
            have hHeld := hHeld2
            clear hHeld2 hK K
            try simp only [List.getElem_toArray, List.getElem_cons_succ, List.getElem_cons_zero, Act.put, List.setIfInBounds_toArray, List.set_cons_zero, List.set_cons_succ]
            refine wpAnyH_take (i := 11) (v := ?_) rfl (by kernel_rfl) (by kernel_rfl) (by kernel_rfl) (fun _ _ _ h => h) (Or.inl ⟨by rfl, ?_⟩) (by assumption) ?_
            rotate_left
            focus
              intro U hU
              try dsimp only at hU
              go_simp
              try (with_reducible rfl)
            simp only [List.getElem_toArray, List.getElem_cons_succ, List.getElem_cons_zero, Act.put, List.setIfInBounds_toArray, List.set_cons_zero, List.set_cons_succ]
            refine wpAnyH_take (i := 12) (v := ?_) rfl (by kernel_rfl) (by kernel_rfl) (by kernel_rfl) (fun _ _ _ h => h) (Or.inl ⟨by rfl, ?_⟩) (by assumption) ?_
            rotate_left
            focus
              intro U hU
              try dsimp only at hU
              go_simp
              try (with_reducible rfl)
            simp only [List.getElem_toArray, List.getElem_cons_succ, List.getElem_cons_zero, Act.put, List.setIfInBounds_toArray, List.set_cons_zero, List.set_cons_succ]
            refine wpAnyH_take (i := 13) (v := ?_) rfl (by kernel_rfl) (by kernel_rfl) (by kernel_rfl) (fun _ _ _ h => h) (Or.inl ⟨by rfl, ?_⟩) (by assumption) ?_
            rotate_left
            focus
              intro U hU
              try dsimp only at hU
              go_simp
              try (with_reducible rfl)
            simp only [List.getElem_toArray, List.getElem_cons_succ, List.getElem_cons_zero, Act.put, List.setIfInBounds_toArray, List.set_cons_zero, List.set_cons_succ]
            refine wpAnyH_done (by kernel_rfl) ?_ _
            clear hHeld hS
            go_wp2_with fail
            go_meet
            exact ⟨Zb, A4, c4, B4, d4, rfl, rfl, rfl, rfl, hL6, hP6, hk4⟩
        · skip
          simp only [List.getElem_toArray, List.getElem_cons_succ, List.getElem_cons_zero]
          go_simp
          refine hK.out _ _ ?_ (fun hHeld2 => ?_)
          focus
            exact hS _ (hk0.alloc hk0.size _)
          clear hHeld
          have hHeld := hHeld2
          clear hHeld2 hK K
          try simp only [List.getElem_toArray, List.getElem_cons_succ, List.getElem_cons_zero, Act.put, List.setIfInBounds_toArray, List.set_cons_zero, List.set_cons_succ]
          have hbn : Below (World.heap k0).size k0 (World.alloc k0 (.cells #[.int .i64 0, .int .i64 0, .int .i64 0, .int .i64 0, .int .i64 0, .slice none 0 0, .int .i64 0, .int .i64 0, .int .i64 0, .int .i64 0, .int .i64 0] 54 (0, 0))) := (Below.refl _ _).alloc (Nat.le_refl _) _
          have hk0b := hk0.trans (hbn.mono hk0.size)
          have hz1 := heap_alloc_new k0 (.cells #[.int .i64 0, .int .i64 0, .int .i64 0, .int .i64 0, .int .i64 0, .slice none 0 0, .int .i64 0, .int .i64 0, .int .i64 0, .int .i64 0, .int .i64 0] 54 (0, 0))
          have hle : v6.heap.size ≤ (World.heap k0).size := hk0.size
          clear hbn
          generalize World.alloc k0 (.cells #[.int .i64 0, .int .i64 0, .int .i64 0, .int .i64 0, .int .i64 0, .slice none 0 0, .int .i64 0, .int .i64 0, .int .i64 0, .int .i64 0, .int .i64 0] 54 (0, 0)) = k9 at *
          generalize (World.heap k0).size = Zb at *
          refine wpAnyH_ready (rs := [2]) (by kernel_rfl) (by simp) ?_
          refine (AllReadyH.cons rfl (fun K hK => ?_) AllReadyH.nil)
          simp only [List.getElem_toArray, List.getElem_cons_succ, List.getElem_cons_zero]
          go_simp
          refine (HPK.out _).mono ?_
          rintro e u1 ⟨rfl, g1⟩
          have hk1 := hk0b.trans (g1.mono hk0b.size)
          have hz2 := keep0 hz1 g1
          clear g1
          go_wp2_with fail
          refine hK.out _ _ ?_ (fun hHeld2 => ?_)
          focus
            exact hS _ hk1
          clear hHeld
          have hHeld := hHeld2
          clear hHeld2 hK K
          try simp only [List.getElem_toArray, List.getElem_cons_succ, List.getElem_cons_zero, Act.put, List.setIfInBounds_toArray, List.set_cons_zero, List.set_cons_succ]
          refine wpAnyH_ready (rs := [3]) (by kernel_rfl) (by simp) ?_
          refine (AllReadyH.cons rfl (fun K hK => ?_) AllReadyH.nil)
          simp only [List.getElem_toArray, List.getElem_cons_succ, List.getElem_cons_zero]
          go_simp
          refine (HTK.out _ hk1).mono ?_
          rintro e u2 ⟨A4, c4, B4, d4, rfl, ho4, hP4, g2⟩
          simp only [ec]
          have hk2 := hk1.trans (g2.mono hk1.size)
          have hP5 : OwnP v6 u2 (.slice B4 L4.length d4) L4 := own_mono hP4 hk1.size
          have hS4 := sl_own ho4
          have hz3 := keep0 hz2 g2
          clear g2 ho4 hP4
          go_wp2_with fail
          refine hK.out _ _ ?_ (fun hHeld2 => ?_)
          focus
            exact hS _ hk2
          clear hHeld
          have hHeld := hHeld2
          clear hHeld2 hK K
          try simp only [List.getElem_toArray, List.getElem_cons_succ, List.getElem_cons_zero, Act.put, List.setIfInBounds_toArray, List.set_cons_zero, List.set_cons_succ]
          refine wpAnyH_take (i := 4) (v := ?_) rfl (by kernel_rfl) (by kernel_rfl) (by kernel_rfl) (fun _ _ _ h => h) (Or.inl ⟨by rfl, ?_⟩) (by assumption) ?_
          rotate_left
          focus
            intro U hU
            try dsimp only at hU
            go_simp
            try (with_reducible rfl)
          simp only [List.getElem_toArray, List.getElem_cons_succ, List.getElem_cons_zero, Act.put, List.setIfInBounds_toArray, List.set_cons_zero, List.set_cons_succ]
          refine wpAnyH_take (i := 5) (v := ?_) rfl (by kernel_rfl) (by kernel_rfl) (by kernel_rfl) (fun _ _ _ h => h) (Or.inl ⟨by rfl, ?_⟩) (by assumption) ?_
          rotate_left
          focus
            intro U hU
            try dsimp only at hU
            go_simp
            try (with_reducible rfl)
          simp only [List.getElem_toArray, List.getElem_cons_succ, List.getElem_cons_zero, Act.put, List.setIfInBounds_toArray, List.set_cons_zero, List.set_cons_succ]
          refine wpAnyH_take (i := 6) (v := ?_) rfl (by kernel_rfl) (by kernel_rfl) (by kernel_rfl) (fun _ _ _ h => h) (Or.inl ⟨by rfl, ?_⟩) (by assumption) ?_
          rotate_left
          focus
            intro U hU
            try dsimp only at hU
            go_simp
            try (with_reducible rfl)
          simp only [List.getElem_toArray, List.getElem_cons_succ, List.getElem_cons_zero, Act.put, List.setIfInBounds_toArray, List.set_cons_zero, List.set_cons_succ]
          refine wpAnyH_take (i := 7) (v := ?_) rfl (by kernel_rfl) (by kernel_rfl) (by kernel_rfl) (fun _ _ _ h => h) (Or.inl ⟨by rfl, ?_⟩) (by assumption) ?_
          rotate_left
          focus
            intro U hU
            try dsimp only at hU
            go_simp
            try (with_reducible rfl)
          simp only [List.getElem_toArray, List.getElem_cons_succ, List.getElem_cons_zero, Act.put, List.setIfInBounds_toArray, List.set_cons_zero, List.set_cons_succ]
          refine wpAnyH_take (i := 8) (v := ?_) rfl (by kernel_rfl) (by kernel_rfl) (by kernel_rfl) (fun _ _ _ h => h) (Or.inl ⟨by rfl, ?_⟩) (by assumption) ?_
          rotate_left
          focus
            intro U hU
            try dsimp only at hU
            go_simp
            try (with_reducible rfl)
          simp only [List.getElem_toArray, List.getElem_cons_succ, List.getElem_cons_zero, Act.put, List.setIfInBounds_toArray, List.set_cons_zero, List.set_cons_succ]
          have hk4 := put11_below hk2 hle (.int .i64 E4.f) (.int .i64 E4.t) (.int .i64 E4.i) (.int .i64 E4.o.p) (.int .i64 E4.o.q) (.slice A4 E4.o.l.length c4) (.int .i64 E4.o.w) (.int .i64 E4.o.f) (.int .i64 E4.m) (.int .i64 E4.p) (.int .i64 E4.l)
          have hP6 : OwnP v6 (put11 _ Zb (.int .i64 E4.f) (.int .i64 E4.t) (.int .i64 E4.i) (.int .i64 E4.o.p) (.int .i64 E4.o.q) (.slice A4 E4.o.l.length c4) (.int .i64 E4.o.w) (.int .i64 E4.o.f) (.int .i64 E4.m) (.int .i64 E4.p) (.int .i64 E4.l)) (.slice B4 L4.length d4) L4 := own_at hP5 hz3 (by decide) fun g hg => put11_other (b := Zb) hg (.int .i64 E4.f) (.int .i64 E4.t) (.int .i64 E4.i) (.int .i64 E4.o.p) (.int .i64 E4.o.q) (.slice A4 E4.o.l.length c4) (.int .i64 E4.o.w) (.int .i64 E4.o.f) (.int .i64 E4.m) (.int .i64 E4.p) (.int .i64 E4.l)
          have hL6 : LE (put11 _ Zb (.int .i64 E4.f) (.int .i64 E4.t) (.int .i64 E4.i) (.int .i64 E4.o.p) (.int .i64 E4.o.q) (.slice A4 E4.o.l.length c4) (.int .i64 E4.o.w) (.int .i64 E4.o.f) (.int .i64 E4.m) (.int .i64 E4.p) (.int .i64 E4.l)) Zb 54 E4 A4 c4 := ⟨put11_heap hz3 (.int .i64 E4.f) (.int .i64 E4.t) (.int .i64 E4.i) (.int .i64 E4.o.p) (.int .i64 E4.o.q) (.slice A4 E4.o.l.length c4) (.int .i64 E4.o.w) (.int .i64 E4.o.f) (.int .i64 E4.m) (.int .i64 E4.p) (.int .i64 E4.l), sl_st hS4 hz3 ez_ns fun g hg => put11_other hg (.int .i64 E4.f) (.int .i64 E4.t) (.int .i64 E4.i) (.int .i64 E4.o.p) (.int .i64 E4.o.q) (.slice A4 E4.o.l.length c4) (.int .i64 E4.o.w) (.int .i64 E4.o.f) (.int .i64 E4.m) (.int .i64 E4.p) (.int .i64 E4.l)⟩
          obtain ⟨_, ⟨g0, g1, g2, g3, g4, g5, g6, g7, g8, g9, g10⟩⟩ := eleven_cells hz3
          simp only [put11] at hk4 hP6 hL6
          refine wpAnyH_ready (rs := [10]) (by kernel_rfl) (by simp) ?_
          refine AllReadyH.cons rfl (fun K hK => ?_) AllReadyH.nil
          simp only [List.getElem_toArray, List.getElem_cons_succ, List.getElem_cons_zero]
          go_simp
          refine hK.out _ _ ?_ (fun hHeld2 => ?_)
          focus
            exact hS _ hk4
          clear hHeld
          have hHeld := hHeld2
          clear hHeld2 hK K
          try simp only [List.getElem_toArray, List.getElem_cons_succ, List.getElem_cons_zero, Act.put, List.setIfInBounds_toArray, List.set_cons_zero, List.set_cons_succ]
          refine wpAnyH_take (i := 11) (v := ?_) rfl (by kernel_rfl) (by kernel_rfl) (by kernel_rfl) (fun _ _ _ h => h) (Or.inl ⟨by rfl, ?_⟩) (by assumption) ?_
          rotate_left
          focus
            intro U hU
            try dsimp only at hU
            go_simp
            try (with_reducible rfl)
          simp only [List.getElem_toArray, List.getElem_cons_succ, List.getElem_cons_zero, Act.put, List.setIfInBounds_toArray, List.set_cons_zero, List.set_cons_succ]
          refine wpAnyH_take (i := 12) (v := ?_) rfl (by kernel_rfl) (by kernel_rfl) (by kernel_rfl) (fun _ _ _ h => h) (Or.inl ⟨by rfl, ?_⟩) (by assumption) ?_
          rotate_left
          focus
            intro U hU
            try dsimp only at hU
            go_simp
            try (with_reducible rfl)
          simp only [List.getElem_toArray, List.getElem_cons_succ, List.getElem_cons_zero, Act.put, List.setIfInBounds_toArray, List.set_cons_zero, List.set_cons_succ]
          refine wpAnyH_take (i := 13) (v := ?_) rfl (by kernel_rfl) (by kernel_rfl) (by kernel_rfl) (fun _ _ _ h => h) (Or.inl ⟨by rfl, ?_⟩) (by assumption) ?_
          rotate_left
          focus
            intro U hU
            try dsimp only at hU
            go_simp
            try (with_reducible rfl)
          simp only [List.getElem_toArray, List.getElem_cons_succ, List.getElem_cons_zero, Act.put, List.setIfInBounds_toArray, List.set_cons_zero, List.set_cons_succ]
          refine wpAnyH_done (by kernel_rfl) ?_ _
          clear hHeld hS
          go_wp2_with fail
          go_meet
          exact ⟨Zb, A4, c4, B4, d4, rfl, rfl, rfl, rfl, hL6, hP6, hk4⟩
      case rest =>
        obtain ⟨Z, A4, c4, B4, d4, rfl, rfl, rfl, rfl, hL4, hP4, hb4⟩ := hcut
        clear hS HTK HPK hk0
        have HXv := hid (HX6.out.keep hb4)
        have H8v := hid (H86.out.keep hb4)
        have H4 := hid hL4
        have HP4 := hid (sl_own hP4)
        have HBv := hid (HB6.out.trans (hb4.mono HB6.out.size))
        clear HX6 H86 HB6 hb4 hL4 hP4
        obtain ⟨⟨x0, x1, x2, x3, x4, x5, x6, x7, x8, x9, x10⟩, _⟩ := eleven_cells (show (World.heap _)[W.heap.size]? = some (.cells #[.int .i64 f, .int .i64 t, .int .i64 i, .int .i64 p, .int .i64 q, .slice A l.length c, .int .i64 wt, .int .i64 fl, .int .i64 gm, .int .i64 gp, .int .i64 gl] 48 (0, 0)) from HXv.out.1)
        obtain ⟨r0, r1, r2, r3, r4, r5, r6⟩ := seven_cellsL (show (World.heap _)[W.heap.size + 1]? = some (.cells #[.int .i64 kd, .int .i64 xf, .int .i64 xt, .int .i64 xi, .int .i64 xp, .int .i64 xs, .string (str xb)] 50 (0, 0)) from HXv.out.2.1)
        go_wp2_with fail
        refine (HRT.out _ HXv.out.2.2.1).mono ?_
        rintro e w9 ⟨A5, c5, B5, d5, rfl, hs5, hp5, hb5⟩
        have HS5 := hid hs5
        have HP5 := hid hp5
        have HX9 := hid (HXv.out.keep hb5)
        have H89 := hid (H8v.out.keep hb5)
        have H49 := hid (H4.out.keep hb5)
        have HP49 := hid (HP4.out.below hb5)
        have HB9 := hid (HBv.out.trans (hb5.mono HBv.out.size))
        clear HRT hs5 hp5 hb5 HXv H8v H4 HP4 HBv r0 r1 r2 r3 r4 r5 r6 x0 x1 x2 x3 x4 x5 x6 x7 x8 x9 x10
        simp only [tkc]
        go_upto_region 19 with (fail)
        have hba : Below w9.heap.size w9 (w9.alloc (.cells (tkc E4 A5 c5 tx got B5 L4.length d5) 74 (0, 0))) := (Below.refl _ _).alloc (Nat.le_refl _) _
        refine at_world (fun u => u.heap[w9.heap.size]? = some (.cells (tkc E4 A5 c5 tx got B5 L4.length d5) 74 (0, 0)) ∧ Below w9.heap.size w9 u) ⟨heap_alloc_new _ _, hba⟩ ?_
        clear hba
        rintro v7 ⟨hx19, hb7'⟩
        have HXa := hid (HX9.out.keep hb7')
        have H8a := hid (H89.out.keep hb7')
        have H4a := hid (H49.out.keep hb7')
        have HPa := hid (HP49.out.below hb7')
        have HPb := hid (HP5.out.below hb7')
        have HSb := hid (HS5.out.below hb7')
        have HBa := hid (HB9.out.trans (hb7'.mono HB9.out.size))
        clear HX9 H89 H49 HP49 HP5 HS5 HB9 hb7'
        simp only [tkc] at hx19
        obtain ⟨⟨s0, s1, s2, s3, s4, s5, s6, s7, s8, s9, s10, s11, s12, s13⟩, _⟩ := fourteen_cells hx19
        obtain ⟨⟨x0, x1, x2, x3, x4, x5, x6, x7, x8, x9, x10⟩, _⟩ := eleven_cells HXa.out.1
        obtain ⟨⟨a0, a1, a2, a3, a4, a5, a6, a7, a8, a9, a10⟩, _⟩ := eleven_cells H8a.out.cells
        obtain ⟨⟨b0, b1, b2, b3, b4, b5, b6, b7, b8, b9, b10⟩, _⟩ := eleven_cells H4a.out.cells
        simp only at a0 a1 a2 a3 a4 a5 a6 a7 a8 a9 a10
        have hn4 : E4.o.l.length ≤ 1001 := Nat.le_trans HTV.out.1 (Nat.le_trans HL30.out (by decide))
        have hn0 : l.length ≤ 1001 := Nat.le_trans HL30.out (by decide)
        have HL4 := hid (Nat.le_trans HTV.out.2 (show 2 ≤ 1000 by decide))
        have cI1 := reg (w := v7) (fun W' hW => by
          have hI := is26_any E4 E4 A4 A5 c4 c5 W' (H4a.out.2.below hW) (HSb.out.below hW) hn4 hn4
          rw [sameE_refl] at hI
          exact hI)
        have cAl := reg (w := v7) (fun W' hW => alike_any L4 B4 B5 d4 d5 W' (HPa.out.below hW) (HPb.out.below hW) HL4.out)
        have cI2 := reg (w := v7) (fun W' hW => by
          have hI := is26_any ⟨f, t, i, ⟨p, q, l, wt, fl⟩, gm, gp, gl⟩ ⟨f, t, i, ⟨p, q, l, wt, fl⟩, gm, gp, gl⟩ A8 A c8 c W' (H8a.out.2.below hW) (HXa.out.2.2.1.below hW) hn0 hn0
          rw [sameE_refl] at hI
          exact hI)
        have cN1 := reg (w := v7) (fun W' _ => lnew_any 3 4 i W')
        have cN2 := reg (w := v7) (fun W' _ => r26new_any 3 4 i W')
        have cI3 := reg (w := v7) (fun W' hW => by
          have hI := is26_any (newE 3 4 i) (newE 3 4 i) none none 0 0 W' (sl_nil0 W') (sl_nil0 W') (Nat.zero_le _) (Nat.zero_le _)
          rw [sameE_refl] at hI
          exact hI)
        have cW := reg (w := v7) (fun W' _ => works26_any W')
        simp only [ec, newE, List.length_nil] at cI1 cI2 cI3 cN1 cN2
        have et1 : (tx.toList == tx.toList) = true := by simp
        have et2 : (tx.toList != tx.toList) = false := by simp
        have eg1 : (got == got) = true := by simp
        clear hx19 hn4 hn0 HTV
        replace x0 := cell_regrown x0
        replace x1 := cell_regrown x1
        replace x2 := cell_regrown x2
        replace x3 := cell_regrown x3
        replace x4 := cell_regrown x4
        replace x5 := cell_regrown x5
        replace x6 := cell_regrown x6
        replace x7 := cell_regrown x7
        replace x8 := cell_regrown x8
        replace x9 := cell_regrown x9
        replace x10 := cell_regrown x10
        replace a0 := cell_regrown a0
        replace a1 := cell_regrown a1
        replace a2 := cell_regrown a2
        replace a3 := cell_regrown a3
        replace a4 := cell_regrown a4
        replace a5 := cell_regrown a5
        replace a6 := cell_regrown a6
        replace a7 := cell_regrown a7
        replace a8 := cell_regrown a8
        replace a9 := cell_regrown a9
        replace a10 := cell_regrown a10
        replace b0 := cell_regrown b0
        replace b1 := cell_regrown b1
        replace b2 := cell_regrown b2
        replace b3 := cell_regrown b3
        replace b4 := cell_regrown b4
        replace b5 := cell_regrown b5
        replace b6 := cell_regrown b6
        replace b7 := cell_regrown b7
        replace b8 := cell_regrown b8
        replace b9 := cell_regrown b9
        replace b10 := cell_regrown b10
        replace s0 := cell_regrown s0
        replace s1 := cell_regrown s1
        replace s2 := cell_regrown s2
        replace s3 := cell_regrown s3
        replace s4 := cell_regrown s4
        replace s5 := cell_regrown s5
        replace s6 := cell_regrown s6
        replace s7 := cell_regrown s7
        replace s8 := cell_regrown s8
        replace s9 := cell_regrown s9
        replace s10 := cell_regrown s10
        replace s11 := cell_regrown s11
        replace s12 := cell_regrown s12
        replace s13 := cell_regrown s13
        refine wp_region_quiet_below (by kernel_rfl) (by kernel_rfl) ?_
        repeat (go_big_quiet_step (first | (go_at_call 21; first | with_reducible exact cI1 _ _ | with_reducible exact cI2 _ _ | with_reducible exact cI3 _ _) | (go_at_call 22; with_reducible exact cAl _ _) | (go_at_call 29; with_reducible exact cN1 _ _) | (go_at_call 30; with_reducible exact cN2 _ _) | (go_at_call 17; with_reducible exact cW _ _)))
        refine wpQuiet_nil ?_
        intro _ hw'
        obtain ⟨⟨dq, osq⟩, hw''⟩ := hw'
        subst hw''
        have HBv := hid (HBa.out.trans ((below_regrown v7 dq osq).mono HBa.out.size))
        go_wp2
        go_ret
        exact ⟨rfl, HBv.out⟩
end Go.Proofs.Ytdekemlckpbbcaa
