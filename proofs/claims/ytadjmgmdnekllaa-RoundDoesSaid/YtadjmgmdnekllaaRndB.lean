/- The document's rounds: Tick, Full, New, Probed, Came: contracts. -/
import Derived.Test.YtadjmgmdnekllaaRndA
namespace Go.Proofs.Ytadjmgmdnekllaa
open Go.RowKit Go.Sort
set_option linter.unusedVariables false
set_option linter.unusedSimpArgs false

theorem Sl.far {w w' : World} {n : Nat} {A : Option Addr} {len cap : Nat} {xs : List Value} (h : Sl w n A len cap xs) (hk : 0 < xs.length → ∀ b off, A = some ⟨b, off, none⟩ → b < w.heap.size → w'.heap[b]? = w.heap[b]?) : Sl w' n A len cap xs := by
  refine ⟨h.1, h.2.1, h.2.2.1, fun h0 => ?_⟩
  obtain ⟨b, off, ha, hc⟩ := h.2.2.2 h0
  refine ⟨b, off, ha, fun i hi => ?_⟩
  have h4 := hc i hi
  rw [List.getElem?_eq_getElem hi] at h4 ⊢
  rw [World.cell?_of_block (hk h0 b off ha (lt_of_cell h4))]
  exact h4
theorem Sl.lt {w : World} {n : Nat} {b off : Nat} {len cap : Nat} {xs : List Value} (h : Sl w n (some ⟨b, off, none⟩) len cap xs) (h0 : 0 < xs.length) : b < w.heap.size := by
  obtain ⟨b', off', ha, hc⟩ := h.2.2.2 h0
  cases ha
  have h4 := hc 0 h0
  rw [List.getElem?_eq_getElem h0] at h4
  exact lt_of_cell h4
/-- A row that lies neither in the variable nor in the result. -/
def Ap (W : World) (A : Option Addr) (n : Nat) : Prop := 0 < n → ∀ b off, A = some ⟨b, off, none⟩ → b < W.heap.size ∨ W.heap.size + 1 < b
theorem Ap.old {W : World} {A : Option Addr} {len cap n : Nat} {xs : List Value} (h : Sl W 1 A len cap xs) (hn : xs.length = n) : Ap W A n := fun h0 b off hA => by
  subst hA
  exact .inl (h.lt (by omega))
theorem Ap.own {W w : World} {base e c n : Nat} {A : Option Addr} {xs : List Value} (h : w.ownsRow base e 1 (.slice A n c) n xs) (hb : W.heap.size + 2 ≤ base) : Ap W A n := fun h0 b off hA => by
  rcases h.2 with ⟨h1, _⟩ | ⟨g, cap, cur, h1, h2, _⟩
  · injection h1 with h1
    rw [h1] at hA; cases hA
  · injection h1 with h1
    rw [hA] at h1; cases h1
    exact .inr (by omega)
theorem Ap.sl {W w : World} {A : Option Addr} {len cap n T i : Nat} {xs : List Value} {v : Value} (h : Ap W A n) (hs : Sl w 1 A len cap xs) (hn : xs.length = n) (hT : T = W.heap.size ∨ T = W.heap.size + 1) : Sl (w.setCell ⟨T, i, none⟩ v) 1 A len cap xs :=
  hs.far fun h0 b off hA _ => Below.heap_setCell _ _ _ _ (by have := h (by omega) b off hA; show b ≠ T; omega)
def DB (W w : World) (l : Int) (A : Option Addr) (c : Nat) (asked : List Int) (H : Option Addr) (ch : Nat) (had : List Bool) : Prop :=
  w.heap[W.heap.size]? = some (.cells #[.int .i64 l, .slice A asked.length c, .slice H had.length ch] 62 (0, 0)) ∧ w.heap[W.heap.size + 1]? = some (.cells #[.int .i64 0, .slice none 0 0, .slice none 0 0] 62 (0, 0)) ∧ Sl w 1 A asked.length c (icells .i64 asked) ∧ Sl w 1 H had.length ch (bcs had) ∧ Ap W A asked.length ∧ Ap W H had.length ∧ Below W.heap.size W w
theorem DB.keep {W w w' : World} {l : Int} {A : Option Addr} {c : Nat} {asked : List Int} {H : Option Addr} {ch : Nat} {had : List Bool} (h : DB W w l A c asked H ch had) (hb : Below w.heap.size w w') : DB W w' l A c asked H ch had :=
  ⟨keep0 h.1 hb, keep0 h.2.1 hb, h.2.2.1.below hb, h.2.2.2.1.below hb, h.2.2.2.2.1, h.2.2.2.2.2.1, h.2.2.2.2.2.2.trans (hb.mono h.2.2.2.2.2.2.size)⟩
theorem il (l : List Int) : (icells .i64 l).length = l.length := icells_length ..
theorem DB.set0 {W w : World} {l : Int} {A : Option Addr} {c : Nat} {asked : List Int} {H : Option Addr} {ch : Nat} {had : List Bool} (h : DB W w l A c asked H ch had) (l' : Int) : DB W (w.setCell ⟨W.heap.size, 0, none⟩ (.int .i64 l')) l' A c asked H ch had := by
  refine ⟨?_, (Below.heap_setCell _ _ _ _ (by simp)).trans h.2.1, h.2.2.2.2.1.sl h.2.2.1 (il _) (.inl rfl), h.2.2.2.2.2.1.sl h.2.2.2.1 (bcs_len _) (.inl rfl), h.2.2.2.2.1, h.2.2.2.2.2.1, h.2.2.2.2.2.2.setCell (Nat.le_refl _) _⟩
  rw [heap_setCell_same _ _ _ _ _ _ h.1]; rfl
theorem DB.set1 {W w : World} {l : Int} {A : Option Addr} {c : Nat} {asked : List Int} {H : Option Addr} {ch : Nat} {had : List Bool} (h : DB W w l A c asked H ch had) {A' : Option Addr} {c' : Nat} {asked' : List Int} (hs : Sl w 1 A' asked'.length c' (icells .i64 asked')) (ha : Ap W A' asked'.length) : DB W (w.setCell ⟨W.heap.size, 1, none⟩ (.slice A' asked'.length c')) l A' c' asked' H ch had := by
  refine ⟨?_, (Below.heap_setCell _ _ _ _ (by simp)).trans h.2.1, ha.sl hs (il _) (.inl rfl), h.2.2.2.2.2.1.sl h.2.2.2.1 (bcs_len _) (.inl rfl), ha, h.2.2.2.2.2.1, h.2.2.2.2.2.2.setCell (Nat.le_refl _) _⟩
  rw [heap_setCell_same _ _ _ _ _ _ h.1]; rfl
theorem DB.set2 {W w : World} {l : Int} {A : Option Addr} {c : Nat} {asked : List Int} {H : Option Addr} {ch : Nat} {had : List Bool} (h : DB W w l A c asked H ch had) {H' : Option Addr} {ch' : Nat} {had' : List Bool} (hs : Sl w 1 H' had'.length ch' (bcs had')) (ha : Ap W H' had'.length) : DB W (w.setCell ⟨W.heap.size, 2, none⟩ (.slice H' had'.length ch')) l A c asked H' ch' had' := by
  refine ⟨?_, (Below.heap_setCell _ _ _ _ (by simp)).trans h.2.1, h.2.2.2.2.1.sl h.2.2.1 (il _) (.inl rfl), ha.sl hs (bcs_len _) (.inl rfl), h.2.2.2.2.1, ha, h.2.2.2.2.2.2.setCell (Nat.le_refl _) _⟩
  rw [heap_setCell_same _ _ _ _ _ _ h.1]; rfl
theorem DB.fin {W w : World} {l : Int} {A : Option Addr} {c : Nat} {asked : List Int} {H : Option Addr} {ch : Nat} {had : List Bool} (h : DB W w l A c asked H ch had) (x0 x1 x2 : Value) (E : World) (hE : E = ((w.setCell ⟨W.heap.size + 1, 0, none⟩ x0).setCell ⟨W.heap.size + 1, 1, none⟩ x1).setCell ⟨W.heap.size + 1, 2, none⟩ x2) :
    E.heap[W.heap.size + 1]? = some (.cells #[x0, x1, x2] 62 (0, 0)) ∧ Sl E 1 A asked.length c (icells .i64 asked) ∧ Sl E 1 H had.length ch (bcs had) ∧ Below W.heap.size W E := by
  subst hE
  have a := h.2.2.2.2.1
  have b := h.2.2.2.2.2.1
  exact ⟨set_three h.2.1 _ _ _, a.sl (a.sl (a.sl h.2.2.1 (il _) (.inr rfl)) (il _) (.inr rfl)) (il _) (.inr rfl), b.sl (b.sl (b.sl h.2.2.2.1 (bcs_len _) (.inr rfl)) (bcs_len _) (.inr rfl)) (bcs_len _) (.inr rfl), ((h.2.2.2.2.2.2.setCell (by simp) _).setCell (by simp) _).setCell (by simp) _⟩
theorem DB.other {W w : World} {l : Int} {A : Option Addr} {c : Nat} {asked : List Int} {H : Option Addr} {ch : Nat} {had : List Bool} (h : DB W w l A c asked H ch had) (hA : Sl W 1 A asked.length c (icells .i64 asked)) (hH : Sl W 1 H had.length ch (bcs had)) {g : Nat} (hg : W.heap.size + 2 ≤ g) (i : Nat) (v : Value) : DB W (w.setCell ⟨g, i, none⟩ v) l A c asked H ch had := by
  have hb : Below W.heap.size W (w.setCell ⟨g, i, none⟩ v) := h.2.2.2.2.2.2.setCell (show W.heap.size ≤ g by omega) v
  exact ⟨(Below.heap_setCell _ _ _ _ (show W.heap.size ≠ g by omega)).trans h.1, (Below.heap_setCell _ _ _ _ (show W.heap.size + 1 ≠ g by omega)).trans h.2.1, hA.below hb, hH.below hb, h.2.2.2.2.1, h.2.2.2.2.2.1, hb⟩
theorem own_emptyW (e : Nat) (w : World) : (w.alloc (.cells #[] e)).ownsRow w.heap.size e 1 (.slice (some ⟨w.heap.size, 0, none⟩) 0 0) 0 [] := own_empty w e 1

set_option maxRecDepth 20000 in
set_option maxHeartbeats 2000000 in
theorem dtick_any (again : Int) (l : Int) (asked : List Int) (A : Option Addr) (c : Nat) (had : List Bool) (H : Option Addr) (ch : Nat) (W : World) (hA : Sl W 1 A asked.length c (icells .i64 asked)) (hH : Sl W 1 H had.length ch (bcs had)) (hl : -9223372036854775808 ≤ l ∧ l ≤ 9223372036854775807) :
    Calls Try.prog 48 #[.agg #[.int .i64 l, .slice A asked.length c, .slice H had.length ch], .int .i64 again] W fun e w' => ∃ A' c' H' ch', e = .returned (.tuple #[.agg #[.int .i64 (rtL l again), .slice A' asked.length c', .slice H' had.length ch'], .bool (decide (l ≤ 1))]) ∧ Sl w' 1 A' asked.length c' (icells .i64 asked) ∧ Sl w' 1 H' had.length ch' (bcs had) ∧ Below W.heap.size W w' := by
  have hb0 : Below W.heap.size W ((W.alloc (.cells #[.int .i64 l, .slice A asked.length c, .slice H had.length ch] 62)).alloc (.cells #[.int .i64 0, .slice none 0 0, .slice none 0 0] 62)) := below2 W _ _
  have HD0 : Hid (DB W ((W.alloc (.cells #[.int .i64 l, .slice A asked.length c, .slice H had.length ch] 62)).alloc (.cells #[.int .i64 0, .slice none 0 0, .slice none 0 0] 62)) l A c asked H ch had) := hid ⟨heap_first _ _ _, heap_second _ _ _, hA.below hb0, hH.below hb0, Ap.old hA (il _), Ap.old hH (bcs_len _), hb0⟩
  clear hA hH hb0
  go_enter Try.func48, Try.ntmps48
  go_upto_region 1 with (fail)
  refine at_world (fun w => DB W w l A c asked H ch had) HD0.out ?_
  clear HD0
  rintro w1 hd1
  obtain ⟨⟨p0, p1, p2⟩, f0, f1, f2⟩ := three_cells hd1.1
  have HD1 := hid hd1
  clear hd1
  have hl1 := hl.1
  have hl2 := hl.2
  clear hl
  by_cases hle : l ≤ 1
  · have hL : Hid (rtL l again = again ∧ decide (l ≤ 1) = true) := hid ⟨by simp [rtL, hle], by simp [hle]⟩
    go_upto_region 3 with (fail)
    refine at_world (fun w => DB W w again A c asked H ch had) (HD1.out.set0 again) ?_
    clear p0 p1 p2 f0 f1 f2 HD1
    rintro w2 hd2
    obtain ⟨⟨p0, p1, p2⟩, _⟩ := three_cells hd2.1
    have HD2 := hid hd2
    clear hd2 hle
    obtain ⟨_, g0, g1, g2⟩ := three_cells HD2.out.2.1
    obtain ⟨hz9, ha9, hh9, hb9⟩ := HD2.out.fin (.int .i64 again) (.slice A asked.length c) (.slice H had.length ch) _ rfl
    obtain ⟨⟨r0, r1, r2⟩, _⟩ := three_cells hz9
    go_wp2
    exact bodyPost_ret (v := .tuple #[.agg #[.int .i64 again, .slice A asked.length c, .slice H had.length ch], .bool true]) (by simp [results, Try.results48, go_sem, r0, r1, r2]) rfl ⟨A, c, H, ch, by rw [hL.out.1, hL.out.2], ha9, hh9, hb9⟩
  · have hL : Hid (rtL l again = l - 1 ∧ decide (l ≤ 1) = false) := hid ⟨by simp [rtL, hle], by simp [hle]⟩
    have hgt : 1 < l := by omega
    go_upto_region 5 with (fail)
    refine at_world (fun w => DB W w (l - 1) A c asked H ch had) (HD1.out.set0 (l - 1)) ?_
    clear p0 p1 p2 f0 f1 f2 HD1
    rintro w2 hd2
    obtain ⟨⟨p0, p1, p2⟩, _⟩ := three_cells hd2.1
    have HD2 := hid hd2
    clear hd2 hle
    obtain ⟨_, g0, g1, g2⟩ := three_cells HD2.out.2.1
    obtain ⟨hz9, ha9, hh9, hb9⟩ := HD2.out.fin (.int .i64 (l - 1)) (.slice A asked.length c) (.slice H had.length ch) _ rfl
    obtain ⟨⟨r0, r1, r2⟩, _⟩ := three_cells hz9
    go_wp2
    exact bodyPost_ret (v := .tuple #[.agg #[.int .i64 (l - 1), .slice A asked.length c, .slice H had.length ch], .bool false]) (by simp [results, Try.results48, go_sem, r0, r1, r2]) rfl ⟨A, c, H, ch, by rw [hL.out.1, hL.out.2], ha9, hh9, hb9⟩
set_option maxRecDepth 20000 in
set_option maxHeartbeats 2000000 in
theorem dfull_any (k : Int) (l : Int) (asked : List Int) (A : Option Addr) (c : Nat) (had : List Bool) (H : Option Addr) (ch : Nat) (W : World) (hA : Sl W 1 A asked.length c (icells .i64 asked)) (hH : Sl W 1 H had.length ch (bcs had)) :
    Calls Try.prog 51 #[.agg #[.int .i64 l, .slice A asked.length c, .slice H had.length ch], .int .i64 k] W fun e w' => ∃ A' c' H' ch', e = .returned (.agg #[.int .i64 l, .slice A' (elems (lessS (ofL asked) k)).length c', .slice H' had.length ch']) ∧ Sl w' 1 A' (elems (lessS (ofL asked) k)).length c' (icells .i64 (elems (lessS (ofL asked) k))) ∧ Sl w' 1 H' had.length ch' (bcs had) ∧ Below W.heap.size W w' := by
  have HLS := hid (fun w => rless_any (ofL asked) k w (ofL_lt asked))
  have HLI := hid (fun w => rlist_any (lessS (ofL asked) k) w (lessS_lt _ k (ofL_lt asked)))
  have HOF := hid (fun w (h : Sl w 1 A asked.length c (icells .i64 asked)) => rof_any A asked.length c asked w h)
  generalize lessS (ofL asked) k = q2 at *
  generalize elems q2 = el at *
  generalize ofL asked = q at *
  have hb0 : Below W.heap.size W ((W.alloc (.cells #[.int .i64 l, .slice A asked.length c, .slice H had.length ch] 62)).alloc (.cells #[.int .i64 0, .slice none 0 0, .slice none 0 0] 62)) := below2 W _ _
  have HD0 : Hid (DB W ((W.alloc (.cells #[.int .i64 l, .slice A asked.length c, .slice H had.length ch] 62)).alloc (.cells #[.int .i64 0, .slice none 0 0, .slice none 0 0] 62)) l A c asked H ch had) := hid ⟨heap_first _ _ _, heap_second _ _ _, hA.below hb0, hH.below hb0, Ap.old hA (il _), Ap.old hH (bcs_len _), hb0⟩
  clear hA hH hb0
  go_enter Try.func51, Try.ntmps51
  go_upto_region 1 with (fail)
  refine at_world (fun w => DB W w l A c asked H ch had) HD0.out ?_
  clear HD0
  rintro w1 hd1
  obtain ⟨⟨p0, p1, p2⟩, f0, f1, f2⟩ := three_cells hd1.1
  have HD1 := hid hd1
  clear hd1
  have HO1 := hid (HOF.out w1 HD1.out.2.2.1)
  go_wp2_with fail
  refine HO1.out.mono ?_
  rintro e w2 ⟨rfl, rfl⟩
  go_wp2_with fail
  refine (HLS.out _).mono ?_
  rintro e w2 ⟨rfl, hb2⟩
  have HD2 := hid (HD1.out.keep hb2)
  clear hb2 HD1 HO1 HOF HLS p0 p1 p2 f0 f1 f2
  obtain ⟨⟨p0, p1, p2⟩, f0, f1, f2⟩ := three_cells HD2.out.1
  go_wp2_with fail
  refine (HLI.out _).mono ?_
  rintro e w3 ⟨v3, rfl, hb3, ho3⟩
  obtain ⟨A3, c3, rfl, _⟩ := Sl.of_own ho3
  have hd3 := HD2.out.keep hb3
  have HD4 := hid (hd3.set1 (sl_own ho3) (Ap.own ho3 (by have := lt_of_block HD2.out.2.1; omega)))
  clear p0 p1 p2 f0 f1 f2 hb3 ho3 HD2 HLI
  obtain ⟨⟨p0, p1, p2⟩, f0, f1, f2⟩ := three_cells hd3.1
  clear hd3
  go_upto_region 2 with (fail)
  refine at_world (fun w => DB W w l A3 c3 el H ch had) HD4.out ?_
  clear p0 p1 p2 f0 f1 f2 HD4
  rintro w5 hd5
  obtain ⟨⟨p0, p1, p2⟩, _⟩ := three_cells hd5.1
  have HD5 := hid hd5
  clear hd5
  obtain ⟨_, g0, g1, g2⟩ := three_cells HD5.out.2.1
  obtain ⟨hz9, ha9, hh9, hb9⟩ := HD5.out.fin (.int .i64 l) (.slice A3 el.length c3) (.slice H had.length ch) _ rfl
  obtain ⟨⟨r0, r1, r2⟩, _⟩ := three_cells hz9
  go_wp2
  exact bodyPost_ret (v := .agg #[.int .i64 l, .slice A3 el.length c3, .slice H had.length ch]) (by simp [results, Try.results51, go_sem, r0, r1, r2]) rfl ⟨A3, c3, H, ch, rfl, ha9, hh9, hb9⟩
set_option maxRecDepth 20000 in
theorem dnew_any (k : Int) (W : World) :
    Calls Try.prog 53 #[.int .i64 k] W fun e w' => ∃ H ch, e = .returned (.agg #[.int .i64 1, .slice none 0 0, .slice H (rnw k) ch]) ∧ Sl w' 1 H (rnw k) ch (bcs (List.replicate (rnw k) false)) ∧ Below W.heap.size W w' := by
  have hm := make_bool (rnw k) (by unfold rnw; omega)
  have hr : ∀ n : Nat, n ≤ 16 → Sl (((W.alloc (.cells #[.int .i64 1, .slice none 0 0, .slice (some ⟨W.heap.size + 1, 0, none⟩) n n] 62)).alloc (.cells (List.replicate n (.bool false)).toArray 4))) 1 (some ⟨W.heap.size + 1, 0, none⟩) n n (bcs (List.replicate n false)) := fun n hn => by
    have h9 := Sl.lit (W.alloc (.cells #[.int .i64 1, .slice none 0 0, .slice (some ⟨W.heap.size + 1, 0, none⟩) n n] 62)) 4 1 n (List.replicate n (.bool false)).toArray (by simp) (by unfold maxLen; omega)
    simpa [bcs] using h9
  have HR := hid (hr (rnw k) (by unfold rnw; omega))
  have hb := below2 W (.cells #[.int .i64 1, .slice none 0 0, .slice (some ⟨W.heap.size + 1, 0, none⟩) (rnw k) (rnw k)] 62) (.cells (List.replicate (rnw k) (.bool false)).toArray 4)
  have HB := hid hb
  clear hr hb
  have hkk : Hid (rnw k = (min (max k 0) 16).toNat) := hid rfl
  generalize rnw k = n at *
  by_cases h0 : k < 0
  · have hn : n = 0 := by have := hkk.out; omega
    subst hn
    have e0 : ((0 : Nat) : Int) = 0 := rfl
    rw [e0] at hm
    clear hkk e0
    go_enter Try.func53, Try.ntmps53
    go_wp2
    exact bodyPost_ret (v := .agg #[.int .i64 1, .slice none 0 0, .slice (some ⟨W.heap.size + 1, 0, none⟩) 0 0]) (by simp [results, Try.results53, go_sem]) rfl ⟨_, _, rfl, by simpa using HR.out, by simpa using HB.out⟩
  · by_cases h1 : 16 < k
    · have hn : n = 16 := by have := hkk.out; omega
      subst hn
      have e0 : ((16 : Nat) : Int) = 16 := rfl
      rw [e0] at hm
      have h2 : ¬ k < 0 := h0
      clear hkk e0 h0
      go_enter Try.func53, Try.ntmps53
      go_wp2
      exact bodyPost_ret (v := .agg #[.int .i64 1, .slice none 0 0, .slice (some ⟨W.heap.size + 1, 0, none⟩) 16 16]) (by simp [results, Try.results53, go_sem]) rfl ⟨_, _, rfl, by simpa using HR.out, by simpa using HB.out⟩
    · obtain rfl : k = (n : Int) := by have := hkk.out; omega
      have h2 : (0 : Int) ≤ (n : Int) := by omega
      have h3 : (n : Int) ≤ 16 := by omega
      clear hkk h0 h1
      go_enter Try.func53, Try.ntmps53
      go_wp2
      exact bodyPost_ret (v := .agg #[.int .i64 1, .slice none 0 0, .slice (some ⟨W.heap.size + 1, 0, none⟩) n n]) (by simp [results, Try.results53, go_sem]) rfl ⟨_, _, rfl, by simpa using HR.out, by simpa using HB.out⟩
set_option maxRecDepth 20000 in
set_option maxHeartbeats 2000000 in
theorem dprobed_any (ws : List Int) (AW : Option Addr) (cw : Nat) (l : Int) (asked : List Int) (A : Option Addr) (c : Nat) (had : List Bool) (H : Option Addr) (ch : Nat) (W : World) (hA : Sl W 1 A asked.length c (icells .i64 asked)) (hH : Sl W 1 H had.length ch (bcs had)) (hw : Sl W 1 AW ws.length cw (icells .i64 ws)) (hl1 : asked.length ≤ 1000) (hl2 : ws.length ≤ 1000) :
    Calls Try.prog 55 #[.agg #[.int .i64 l, .slice A asked.length c, .slice H had.length ch], .slice AW ws.length cw] W fun e w' => ∃ A' c' H' ch', e = .returned (.agg #[.int .i64 l, .slice A' (elems (ofL (asked ++ ws))).length c', .slice H' had.length ch']) ∧ Sl w' 1 A' (elems (ofL (asked ++ ws))).length c' (icells .i64 (elems (ofL (asked ++ ws)))) ∧ Sl w' 1 H' had.length ch' (bcs had) ∧ Below W.heap.size W w' := by
  have HLI := hid (fun w => rlist_any (ofL (asked ++ ws)) w (ofL_lt _))
  have HOF := hid (fun w A c (h : Sl w 1 A (asked.length + ws.length) c (icells .i64 (asked ++ ws))) => rof_any A (asked.length + ws.length) c (asked ++ ws) w h)
  have HW := hid hw
  generalize ofL (asked ++ ws) = q2 at *
  generalize elems q2 = el at *
  clear hw
  have hb0 : Below W.heap.size W ((W.alloc (.cells #[.int .i64 l, .slice A asked.length c, .slice H had.length ch] 62)).alloc (.cells #[.int .i64 0, .slice none 0 0, .slice none 0 0] 62)) := below2 W _ _
  have HD0 : Hid (DB W ((W.alloc (.cells #[.int .i64 l, .slice A asked.length c, .slice H had.length ch] 62)).alloc (.cells #[.int .i64 0, .slice none 0 0, .slice none 0 0] 62)) l A c asked H ch had) := hid ⟨heap_first _ _ _, heap_second _ _ _, hA.below hb0, hH.below hb0, Ap.old hA (il _), Ap.old hH (bcs_len _), hb0⟩
  clear hA hH hb0
  go_enter Try.func55, Try.ntmps55
  go_upto_region 1 with (fail)
  refine at_world (fun w => DB W w l A c asked H ch had) HD0.out ?_
  clear HD0
  rintro w1 hd1
  obtain ⟨⟨p0, p1, p2⟩, f0, f1, f2⟩ := three_cells hd1.1
  have HD1 := hid hd1
  clear hd1
  have HE := hid (own_emptyW 3 w1)
  have hal : Below w1.heap.size w1 (w1.alloc (.cells #[] 3)) := (Below.refl _ _).alloc (Nat.le_refl _) _
  have HDA := hid (HD1.out.keep hal)
  have HDW := hid HD1.out.2.2.2.2.2.2
  have HDK1 := hid HD1.out
  clear hal
  obtain ⟨⟨s0, s1, s2⟩, _⟩ := three_cells HDA.out.1
  go_wp2_with (at_builtin; refine wpList_append_sl (W := w1) rfl (.tmp 5) (.tmp 7) 23 rfl w1.heap.size 3 Try.underlying23 info_int rfl (by omega) rfl HE.out rfl HDA.out.2.2.1 (icells_one _ _) (by unfold maxLen; omega) (by omega) (by simp) ((Below.refl _ _).alloc (Nat.le_refl _) _) ?_)
  intro v2 w2 ho2 hb2 _
  try simp only [Nat.zero_add, List.nil_append] at ho2
  have HO2 := hid ho2
  have HB2 := hid hb2
  have HDK := hid (HD1.out.keep hb2)
  clear ho2 hb2 HD1
  go_wp2_with (at_builtin; refine wpList_append_sl (W := w1) rfl (.tmp 8) (.tmp 9) 23 rfl w1.heap.size 3 Try.underlying23 info_int rfl (by omega) rfl HO2.out rfl (HW.out.below (HDW.out.trans (HB2.out.mono HDW.out.size))) (icells_one _ _) (by unfold maxLen; omega) (by omega) HB2.out.size HB2.out ?_)
  intro v3 w3 ho3 hb3 _
  rw [← icells_append] at ho3
  obtain ⟨A3, c3, rfl, _⟩ := Sl.of_own ho3
  have hd3 := HDK1.out.keep hb3
  have HD3 := hid hd3
  have HO3 := hid (HOF.out w3 A3 c3 (sl_own ho3))
  clear ho3 hb3 HO2 HB2 HDA HE p0 p1 p2 f0 f1 f2 s0 s1 s2 HDK HOF
  obtain ⟨⟨p0, p1, p2⟩, f0, f1, f2⟩ := three_cells hd3.1
  clear hd3
  generalize ws.length = wl at *
  generalize hal9 : asked.length = al at *
  have HAL := hid hal9
  clear hal9
  go_wp2_with fail
  refine HO3.out.mono ?_
  rintro e w4 ⟨rfl, rfl⟩
  go_wp2_with fail
  refine (HLI.out _).mono ?_
  rintro e w4 ⟨v4, rfl, hb4, ho4⟩
  obtain ⟨A4, c4, rfl, _⟩ := Sl.of_own ho4
  have hd4 := HD3.out.keep hb4
  have HD4 := hid (hd4.set1 (sl_own ho4) (Ap.own ho4 (by have := lt_of_block HD3.out.2.1; omega)))
  clear p0 p1 p2 f0 f1 f2 hb4 ho4 HLI HO3
  obtain ⟨⟨p0, p1, p2⟩, f0, f1, f2⟩ := three_cells hd4.1
  clear hd4
  go_upto_region 2 with (fail)
  refine at_world (fun w => DB W w l A4 c4 el H ch had) HD4.out ?_
  clear p0 p1 p2 f0 f1 f2 HD4 HD3
  rintro w5 hd5
  obtain ⟨⟨p0, p1, p2⟩, _⟩ := three_cells hd5.1
  have HD5 := hid hd5
  clear hd5
  obtain ⟨_, g0, g1, g2⟩ := three_cells HD5.out.2.1
  obtain ⟨hz9, ha9, hh9, hb9⟩ := HD5.out.fin (.int .i64 l) (.slice A4 el.length c4) (.slice H had.length ch) _ rfl
  obtain ⟨⟨r0, r1, r2⟩, _⟩ := three_cells hz9
  go_wp2
  exact bodyPost_ret (v := .agg #[.int .i64 l, .slice A4 el.length c4, .slice H had.length ch]) (by simp [results, Try.results55, go_sem, r0, r1, r2]) rfl ⟨A4, c4, H, ch, rfl, ha9, hh9, hb9⟩
set_option maxRecDepth 20000 in
set_option maxHeartbeats 2000000 in
theorem dcame_any (t : Int) (l : Int) (asked : List Int) (A : Option Addr) (c : Nat) (had : List Bool) (H : Option Addr) (ch : Nat) (W : World) (hA : Sl W 1 A asked.length c (icells .i64 asked)) (hH : Sl W 1 H had.length ch (bcs had)) (hlen : had.length ≤ 1000) :
    Calls Try.prog 58 #[.agg #[.int .i64 l, .slice A asked.length c, .slice H had.length ch], .int .i64 t] W fun e w' => ∃ A' c' H' ch', e = .returned (.agg #[.int .i64 l, .slice A' asked.length c', .slice H' had.length ch']) ∧ Sl w' 1 A' asked.length c' (icells .i64 asked) ∧ Sl w' 1 H' had.length ch' (bcs (cameS had t)) ∧ Below W.heap.size W w' := by
  have HA0 := hid hA
  have HH0 := hid hH
  have hb0 : Below W.heap.size W ((W.alloc (.cells #[.int .i64 l, .slice A asked.length c, .slice H had.length ch] 62)).alloc (.cells #[.int .i64 0, .slice none 0 0, .slice none 0 0] 62)) := below2 W _ _
  have HD0 : Hid (DB W ((W.alloc (.cells #[.int .i64 l, .slice A asked.length c, .slice H had.length ch] 62)).alloc (.cells #[.int .i64 0, .slice none 0 0, .slice none 0 0] 62)) l A c asked H ch had) := hid ⟨heap_first _ _ _, heap_second _ _ _, hA.below hb0, hH.below hb0, Ap.old hA (il _), Ap.old hH (bcs_len _), hb0⟩
  clear hA hH hb0
  go_enter Try.func58, Try.ntmps58
  go_upto_region 1 with (fail)
  refine at_world (fun w => DB W w l A c asked H ch had) HD0.out ?_
  clear HD0
  rintro w1 hd1
  obtain ⟨⟨p0, p1, p2⟩, f0, f1, f2⟩ := three_cells hd1.1
  have HD1 := hid hd1
  clear hd1
  have HE := hid (own_emptyW 4 w1)
  have HDW := hid HD1.out.2.2.2.2.2.2
  have HDK1 := hid HD1.out
  have hal : Below w1.heap.size w1 (w1.alloc (.cells #[] 4)) := (Below.refl _ _).alloc (Nat.le_refl _) _
  have HDA := hid (HD1.out.keep hal)
  clear hal
  obtain ⟨⟨s0, s1, s2⟩, _⟩ := three_cells HDA.out.1
  go_wp2_with (at_builtin; refine wpList_append_sl (W := w1) rfl (.tmp 6) (.tmp 8) 60 rfl w1.heap.size 4 Try.underlying60 info_bool rfl (by omega) rfl HE.out rfl HDA.out.2.2.2.1 (bcs_one _) (by unfold maxLen; omega) (by omega) (by simp) ((Below.refl _ _).alloc (Nat.le_refl _) _) ?_)
  intro v2 w2 ho2 hb2 _
  try simp only [Nat.zero_add, List.nil_append] at ho2
  obtain ⟨A2, c2, rfl, _⟩ := Sl.of_own ho2
  have hd2 := HD1.out.keep hb2
  have HLB : Hid (W.heap.size + 2 ≤ w1.heap.size) := hid (by have := lt_of_block HD1.out.2.1; omega)
  have HD2 := hid hd2
  have HO2 := hid ho2
  clear ho2 hb2 HDA HE p0 p1 p2 f0 f1 f2 s0 s1 s2 HD1 HDW HDK1
  obtain ⟨⟨p0, p1, p2⟩, f0, f1, f2⟩ := three_cells hd2.1
  clear hd2
  have hll : (had.length : Int) ≤ 1000 := by omega
  by_cases ht : 0 ≤ t ∧ t < (had.length : Int)
  · obtain ⟨t1, t2⟩ := ht
    obtain ⟨k, rfl⟩ : ∃ k : Nat, t = (k : Int) := ⟨t.toNat, by omega⟩
    have hkl : k < had.length := by omega
    have hV : Hid (cameS had (k : Int) = had.set k true) := hid (by rw [cameS, if_pos ⟨t1, t2⟩, Int.toNat_natCast])
    obtain ⟨g, hg, hgb⟩ : ∃ g, A2 = some ⟨g, 0, none⟩ ∧ w1.heap.size ≤ g := by
      rcases HO2.out.2 with ⟨_, h9⟩ | ⟨g, cap9, cur, h9, hb, _⟩
      · omega
      · injection h9 with e1; exact ⟨g, e1, hb⟩
    subst hg
    have hc := HO2.out.cellAt k (by omega)
    have hf := HO2.out.frozenAt k
    have hst := (HO2.out.stored k (.bool true)).1
    rw [bcs_set] at hst
    have hkl9 : k < (bcs had).length := by rw [bcs_len]; exact hkl
    rw [List.getElem?_eq_getElem hkl9] at hc
    generalize (bcs had)[k]'hkl9 = old at hc
    have HOT := hid (HD2.out.other HA0.out HH0.out (show W.heap.size + 2 ≤ g by have := HLB.out; omega) k (.bool true))
    have hap := Ap.own (W := W) hst HLB.out
    have hs5 : Sl (w2.setCell ⟨g, k, none⟩ (.bool true)) 1 (some ⟨g, 0, none⟩) (cameS had (k : Int)).length c2 (bcs (cameS had (k : Int))) := by rw [cameS_len, hV.out]; exact sl_own hst
    have hd5 := HOT.out.set2 hs5 (by rw [cameS_len]; exact hap)
    rw [cameS_len] at hd5
    have HD5 := hid hd5
    have hx2 := HOT.out.1
    clear hst hap hs5 hd5 HOT hkl9 p0 p1 p2 f0 f1 f2
    obtain ⟨⟨p0, p1, p2⟩, f0, f1, f2⟩ := three_cells HD2.out.1
    obtain ⟨⟨t0, t1', t2'⟩, u0, u1, u2⟩ := three_cells hx2
    clear hx2 HO2 HD2
    go_upto_region 5 with (fail)
    refine at_world (fun w => DB W w l A c asked (some ⟨g, 0, none⟩) c2 (cameS had (k : Int))) HD5.out ?_
    clear p0 p1 p2 f0 f1 f2 t0 t1' t2' u0 u1 u2 HD5 hc hf
    rintro w6 hd6
    obtain ⟨⟨p0, p1, p2⟩, _⟩ := three_cells hd6.1
    rw [cameS_len] at p2
    have HD6 := hid hd6
    clear hd6
    obtain ⟨_, g0, g1, g2⟩ := three_cells HD6.out.2.1
    obtain ⟨hz9, ha9, hh9, hb9⟩ := HD6.out.fin (.int .i64 l) (.slice A asked.length c) (.slice (some ⟨g, 0, none⟩) had.length c2) _ rfl
    obtain ⟨⟨r0, r1, r2⟩, _⟩ := three_cells hz9
    go_wp2
    exact bodyPost_ret (v := .agg #[.int .i64 l, .slice A asked.length c, .slice (some ⟨g, 0, none⟩) had.length c2]) (by simp [results, Try.results58, go_sem, r0, r1, r2]) rfl ⟨A, c, (some ⟨g, 0, none⟩), c2, rfl, ha9, by have h8 := hh9; rw [cameS_len] at h8; exact h8, hb9⟩
  · have hV : Hid (cameS had t = had) := hid (by rw [cameS, if_neg ht])
    have HD5 := hid (HD2.out.set2 (sl_own HO2.out) (Ap.own HO2.out HLB.out))
    by_cases t1 : 0 ≤ t
    · have t2 : ¬ t < (had.length : Int) := fun h9 => ht ⟨t1, h9⟩
      clear ht HO2
      go_upto_region 5 with (fail)
      refine at_world (fun w => DB W w l A c asked A2 c2 had) HD5.out ?_
      clear p0 p1 p2 f0 f1 f2 HD5 HD2
      rintro w6 hd6
      obtain ⟨⟨p0, p1, p2⟩, _⟩ := three_cells hd6.1
      have HD6 := hid hd6
      clear hd6
      obtain ⟨_, g0, g1, g2⟩ := three_cells HD6.out.2.1
      obtain ⟨hz9, ha9, hh9, hb9⟩ := HD6.out.fin (.int .i64 l) (.slice A asked.length c) (.slice A2 had.length c2) _ rfl
      obtain ⟨⟨r0, r1, r2⟩, _⟩ := three_cells hz9
      go_wp2
      exact bodyPost_ret (v := .agg #[.int .i64 l, .slice A asked.length c, .slice A2 had.length c2]) (by simp [results, Try.results58, go_sem, r0, r1, r2]) rfl ⟨A, c, A2, c2, rfl, ha9, by rw [hV.out]; exact hh9, hb9⟩
    · clear ht HO2
      go_upto_region 5 with (fail)
      refine at_world (fun w => DB W w l A c asked A2 c2 had) HD5.out ?_
      clear p0 p1 p2 f0 f1 f2 HD5 HD2
      rintro w6 hd6
      obtain ⟨⟨p0, p1, p2⟩, _⟩ := three_cells hd6.1
      have HD6 := hid hd6
      clear hd6
      obtain ⟨_, g0, g1, g2⟩ := three_cells HD6.out.2.1
      obtain ⟨hz9, ha9, hh9, hb9⟩ := HD6.out.fin (.int .i64 l) (.slice A asked.length c) (.slice A2 had.length c2) _ rfl
      obtain ⟨⟨r0, r1, r2⟩, _⟩ := three_cells hz9
      go_wp2
      exact bodyPost_ret (v := .agg #[.int .i64 l, .slice A asked.length c, .slice A2 had.length c2]) (by simp [results, Try.results58, go_sem, r0, r1, r2]) rfl ⟨A, c, A2, c2, rfl, ha9, by rw [hV.out]; exact hh9, hb9⟩
end Go.Proofs.Ytadjmgmdnekllaa
