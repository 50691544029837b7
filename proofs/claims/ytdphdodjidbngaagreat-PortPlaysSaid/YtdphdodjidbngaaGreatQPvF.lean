/- the document's port: Take. -/
import Derived.Test.YtdphdodjidbngaaGreatQGt
import Derived.Test.YtdphdodjidbngaaGreatWv3
import Derived.Test.YtdphdodjidbngaaGreatQPtI
import Derived.Test.YtdphdodjidbngaaGreatPaR
import Derived.Test.YtdphdodjidbngaaGreatLv6
namespace Go.Proofs.YtdphdodjidbngaaGreat
open Go.RowKit Go.Sort
set_option linter.unusedVariables false
set_option linter.unusedSimpArgs false

/-- What the document's Take answers: the ends, the node and the text, what is sent, the error. (As the program's.) -/
def RTakR (W : World) (base g : Nat) (nd inc bd : Int) (r : List Ev × (Int × ByteArray) × List (List UInt8) × Int) (x : Ending) (w' : World) : Prop :=
  ∃ A c, x = .returned (.tuple #[.int .i64 r.2.1.1, .string r.2.1.2, .slice A r.2.2.1.length c, .int .i64 r.2.2.2]) ∧ w'.ownsRow W.heap.size 9 1 (.slice A r.2.2.1.length c) r.2.2.1.length (scells r.2.2.1) ∧ R7 W w' base g nd inc bd r.1
theorem takV_mem (e : Ev) (x : Pk) : ∀ y ∈ (takV e x).1.1.o.l, y ∈ e.o.l := by
  have hl : ∀ k, (lrnE e k).1.o.l = e.o.l := fun k => lrnV_l _ _
  unfold takV
  split
  · exact fun y h => h
  · split
    · intro y h
      have h9 : y ∈ (lrnE e x.i).1.o.l := h
      rwa [hl] at h9
    · split
      · split
        · intro y h
          have h9 := ackV_mem (lrnE e x.i).1.o x.i x.s y h
          rwa [hl] at h9
        · exact fun y h => h
      · split
        · split
          · intro y h
            rwa [hl] at h
          · exact fun y h => h
        · exact fun y h => h
/-- No packet lies among these cells. -/
def NoP (cs : Array Value) : Prop := ∀ off s v, cs[off + 6]? = some (.string s) → cs[off]? ≠ some (.int .i64 v)
theorem noP_tz : NoP #[.int .i64 0, .int .i64 0, .int .i64 0, .int .i64 0, .int .i64 0, .slice none 0 0, .int .i64 0, .int .i64 0, .int .i64 0, .int .i64 0, .int .i64 0, .string ⟨#[]⟩, .bool false, .slice none 0 0] := by
  intro off s v h1 h2
  have hi : off < 8 := by
    rcases Nat.lt_or_ge off 8 with h9 | h9
    · exact h9
    · rw [Array.getElem?_eq_none (by simp; omega)] at h1
      cases h1
  rcases (by omega : off = 0 ∨ off = 1 ∨ off = 2 ∨ off = 3 ∨ off = 4 ∨ off = 5 ∨ off = 6 ∨ off = 7) with rfl | rfl | rfl | rfl | rfl | rfl | rfl | rfl <;> first | (simp at h1; done) | (simp at h2; done)
theorem noP_ns {cs : Array Value} (h : NoS cs) : NoP cs := fun off s v h1 _ => h _ _ h1
theorem sl_pk {w w' : World} {Z t n d : Nat} {B : Option Addr} {l : List Pk} {cs : Array Value} (h : Sl w 7 B n d (gcells pkc l)) (hz : w.heap[Z]? = some (.cells cs t (0, 0))) (hno : NoP cs) (hk : ∀ g, g ≠ Z → g < w.heap.size → w'.heap[g]? = w.heap[g]?) : Sl w' 7 B n d (gcells pkc l) := by
  obtain ⟨h1, h2, h3, h4⟩ := h
  refine ⟨h1, h2, h3, fun h0 => ?_⟩
  obtain ⟨b, off, hA, hc⟩ := h4 h0
  refine ⟨b, off, hA, fun i hi => ?_⟩
  have hne : b ≠ Z := by
    rintro rfl
    cases l with
    | nil => simp [gcells] at hi
    | cons x l =>
      have hl : (gcells pkc (x :: l)).length = (l.length + 1) * 7 := by rw [gcells_length pkc_len]; simp
      have e0 := hc 0 (by omega)
      have e6 := hc 6 (by omega)
      rw [cell_of_row w b _ cs t (0, 0) hz] at e0 e6
      exact hno _ (str x.b) x.k (e6.trans rfl) (e0.trans rfl)
  have h9 := hc i hi
  rw [List.getElem?_eq_getElem hi] at h9
  rw [World.cell?_of_block (w := w) (a := ⟨b, off + i, none⟩) (hk b hne (lt_of_cell h9)), List.getElem?_eq_getElem hi]
  exact h9
set_option maxRecDepth 20000 in
set_option maxHeartbeats 4000000 in
theorem r27take_no {base g : Nat} {nd inc bd : Int} {L : List Ev} (s : List UInt8) (W : World) (h : P7M W base g nd inc bd L) (hbW : base ≤ W.heap.size) (hs : s.length ≤ 1000) (he : opE s ≠ 0) :
    Calls Tryz.prog 14 #[.pointer (some ⟨g, 0, none⟩), .string (str s)] W (RTakR W base g nd inc bd (ptakV nd inc L s)) := by
  have HV : Hid (ptakV nd inc L s = (L, (-1, ⟨#[]⟩), [], opE s)) := hid (by rw [ptakV, if_pos he])
  have HO := hid (fun w => ropen_any s hs w)
  have hvv : opV s = pkV 0 0 0 0 0 0 ⟨#[]⟩ := by rw [opV, if_neg he]
  rw [hvv] at HO
  simp only [pkV] at HO
  have HH := hid h
  have HBW := hid hbW
  have he2 : (opE s == 0) = false := by simpa using he
  have he3 : (opE s != 0) = true := by simpa using he
  generalize ptakV nd inc L s = rv at *
  generalize opE s = oe at *
  generalize str s = sb at *
  clear h hs he hvv hbW
  go_enter Tryz.func14, Tryz.ntmps14
  go_wp2_with fail
  refine (HO.out _).mono ?_
  rintro e w1 ⟨rfl, hb1⟩
  have HB2 := hid (Below.alloc hb1 hb1.size (Obj.cells #[.int .i64 0, .int .i64 0, .int .i64 0, .int .i64 0, .int .i64 0, .int .i64 0, .string ⟨#[]⟩] 30))
  have H2 := hid ((R7.keep HH.out).then HB2.out HBW.out)
  clear hb1 HO HB2
  go_wp2
  refine bodyPost_ret (v := .tuple #[.int .i64 (-1), .string ⟨#[]⟩, .slice none 0 0, .int .i64 oe]) (by simp [results, Tryz.results14, go_sem]) rfl ⟨none, 0, ?_, ?_, ?_⟩
  · rw [HV.out]; rfl
  · rw [HV.out]; exact World.ownsRow_nil _ _ _ _
  · rw [HV.out]; exact H2.out

set_option maxRecDepth 20000 in
set_option maxHeartbeats 8000000 in
theorem r27take_in {base g : Nat} {nd inc bd : Int} {L : List Ev} (s : List UInt8) (W : World) (h : P7M W base g nd inc bd L) (hR : L.Pairwise (fun a b => a.t < b.t)) (hX : L.length ≤ 1000) (hbW : base ≤ W.heap.size) (hbg : base ≤ g) (hG : ∀ e ∈ L, GdE e) (hN : ∀ e ∈ L, ∀ y ∈ e.o.l, y ≠ []) (hs : s.length ≤ 1000) (he : opE s = 0) :
    Calls Tryz.prog 14 #[.pointer (some ⟨g, 0, none⟩), .string (str s)] W (RTakR W base g nd inc bd (ptakV nd inc L s)) := by
  have hok := opP_ok he
  have HV : Hid (ptakV nd inc L s = if (opP s).t ≠ nd then (L, (-1, ⟨#[]⟩), [], 1)
    else (keepL (takV (endP nd inc L (opP s).f) (opP s)).1.1 L, ((opP s).f, (takV (endP nd inc L (opP s).f) (opP s)).2.1), (takV (endP nd inc L (opP s).f) (opP s)).1.2.map pbL, 0)) := hid (by rw [ptakV, if_neg (by simp [he])])
  have HO := hid (fun w => ropen_any s hs w)
  rw [opV_P he, he] at HO
  generalize opP s = x at *
  have hx := okP_iff hok
  have hxs : -9223372036854775808 ≤ x.s ∧ x.s ≤ 9223372036854775807 := by
    have h9 := hx.2.2.2.2.2.2.1
    unfold inS at h9
    split at h9
    · simp only [decide_eq_true_eq] at h9; omega
    · simp only [beq_iff_eq] at h9; omega
  have hGE := gdE_end hG nd inc x.f
  have hNE : ∀ y ∈ (endP nd inc L x.f).o.l, y ≠ [] := by
    unfold endP
    cases hf : L.find? (fun e => e.t == x.f) with
    | none => intro y hy; simp [newE] at hy
    | some e => exact hN e (List.mem_of_find?_eq_some hf)
  have HEND := hid (fun U (hU : Below W.heap.size W U) => p7end x.f U (h.below hU))
  have HTK : Hid (∀ A c U, Sl U 1 A (endP nd inc L x.f).o.l.length c (scells (endP nd inc L x.f).o.l) → Calls Tryz.prog 37 #[.agg (ec (endP nd inc L x.f) A c), .agg (pca x)] U (RTook (takV (endP nd inc L x.f) x).1 (takV (endP nd inc L x.f) x).2.1 (takV (endP nd inc L x.f) x).2.2 U)) :=
    hid (fun A c U h9 => r26take_any _ _ _ _ _ _ _ _ _ _ _ x.k x.f x.t x.i x.p x.s x.b A c U h9 (by have := hGE.1; omega) hNE ⟨hGE.2.1, hGE.2.2.1⟩ hxs hGE.2.2.2.2.1 hGE.2.2.2.1)
  have HNE := hid (fun y hy => hNE y (takV_mem (endP nd inc L x.f) x y hy))
  have HPB := hid (takV_b (endP nd inc L x.f) x hGE.2.2.2.2.2)
  have HPL := hid (takV_len (endP nd inc L x.f) x)
  have HW := hid h
  have HKE := hid (fun e A c U h1 h3 h4 => p7kept (base := base) (g := g) (nd := nd) (inc := inc) (bd := bd) (M := L) e A c U h1 hR hX h3 h4 hbg)
  have HKO := hid (fun e A c U h1 h3 h4 => p7keptO (base := base) (g := g) (nd := nd) (inc := inc) (bd := bd) (M := L) e A c U h1 hR hX h3 h4 hbg)
  have HBW := hid hbW
  obtain ⟨hlt, c0, -, -⟩ := h.at
  have HLT := hid hlt
  clear hs he hok hx hxs hGE hG h hNE hN hR hX hbW hlt HKE
  generalize ptakV nd inc L s = rv at *
  generalize takV (endP nd inc L x.f) x = pv at *
  generalize endP nd inc L x.f = e0 at *
  obtain ⟨⟨⟨f1, t1, i1, ⟨p1, q1, l1, wt1, fl1⟩, gm1, gp1, gl1⟩, ps⟩, tx, got⟩ := pv
  obtain ⟨f, t, i, ⟨p, q, l, wt, fl⟩, gm, gp, gl⟩ := e0
  obtain ⟨xk, xf, xt, xi, xp, xs, xbl⟩ := x
  simp only [pca, ec, RTook, tkc] at HTK HEND HV HPB HPL HO HNE
  generalize str s = sb at *
  generalize str xbl = xb at *
  go_enter Tryz.func14, Tryz.ntmps14
  go_wp2_with fail
  refine (HO.out _).mono ?_
  rintro e w1 ⟨rfl, hb1⟩
  have HB1 : Hid (Below W.heap.size W w1) := hid hb1
  clear hb1 HO
  go_upto_region 4 with (fail)
  refine at_world (fun u => u.heap[w1.heap.size]? = some (.cells #[.int .i64 xk, .int .i64 xf, .int .i64 xt, .int .i64 xi, .int .i64 xp, .int .i64 xs, .string xb] 30 (0, 0)) ∧ Below W.heap.size W u) ⟨heap_alloc_new _ _, HB1.out.alloc HB1.out.size _⟩ ?_
  clear HB1
  rintro w2 ⟨hx2, hb2⟩
  generalize w1.heap.size = X at *
  have HX2 := hid hx2
  have HB2 := hid hb2
  obtain ⟨⟨y0, y1, y2, y3, y4, y5, y6⟩, -⟩ := seven_cells hx2
  replace c0 := cellb hb2 c0
  clear hx2 hb2
  by_cases hxn : xt = nd
  case neg =>
    have HVV := hid (HV.out.trans (if_pos hxn))
    have hxn2 : (xt == nd) = false := by simpa using hxn
    have hxn3 : (xt != nd) = true := by simpa using hxn
    clear hxn
    go_quiet (fail)
    go_wp2
    refine bodyPost_ret (v := .tuple #[.int .i64 (-1), .string ⟨#[]⟩, .slice none 0 0, .int .i64 1]) (by simp [results, Tryz.results14, go_sem]) rfl ⟨none, 0, ?_, ?_, ?_⟩
    · rw [HVV.out]; rfl
    · rw [HVV.out]; exact World.ownsRow_nil _ _ _ _
    · rw [HVV.out]; exact (R7.keep HW.out).then (HB2.out.trans ⟨rfl, rfl, rfl, Nat.le_refl _, fun _ _ => rfl⟩) HBW.out
  have HVV := hid (HV.out.trans (if_neg (by simp [hxn])))
  have hxn2 : (xt == nd) = true := by simpa using hxn
  have hxn3 : (xt != nd) = false := by simpa using hxn
  clear hxn
  go_quiet (fail)
  go_upto_region 6 with (fail)
  refine at_world (fun u => u.heap[X]? = some (.cells #[.int .i64 xk, .int .i64 xf, .int .i64 xt, .int .i64 xi, .int .i64 xp, .int .i64 xs, .string xb] 30 (0, 0)) ∧ Below W.heap.size W u) ⟨HX2.out, HB2.out.trans ⟨rfl, rfl, rfl, Nat.le_refl _, fun _ _ => rfl⟩⟩ ?_
  clear HX2 HB2 y0 y1 y2 y3 y4 y5 y6 c0 hxn2 hxn3
  rintro w3 ⟨hx3, hb3⟩
  have HX3 := hid hx3
  have HB3 := hid hb3
  clear hx3 hb3
  go_cut [10] from 26 to 31 (fun v10 wx => ∃ Z A2 c2 B d, v10 = .pointer (some ⟨Z, 0, none⟩) ∧ wx.heap[Z]? = some (.cells #[.int .i64 f1, .int .i64 t1, .int .i64 i1, .int .i64 p1, .int .i64 q1, .slice A2 l1.length c2, .int .i64 wt1, .int .i64 fl1, .int .i64 gm1, .int .i64 gp1, .int .i64 gl1, .string tx, .bool got, .slice B ps.length d] 100 (0, 0)) ∧ wx.heap[X]? = some (.cells #[.int .i64 xk, .int .i64 xf, .int .i64 xt, .int .i64 xi, .int .i64 xp, .int .i64 xs, .string xb] 30 (0, 0)) ∧ Sl wx 1 A2 l1.length c2 (scells l1) ∧ Sl wx 7 B ps.length d (gcells pkc ps) ∧ Below W.heap.size W wx)
  case rest =>
    obtain ⟨Z, A2, c2, B, d, rfl, hz, hx, ho, hp, hb⟩ := hcut
    clear HEND HTK
    have HB := hid hb
    have HZ := hid hz
    have HX := hid hx
    have HP := hid hp
    have HK := hid (HKO.out ⟨f1, t1, i1, ⟨p1, q1, l1, wt1, fl1⟩, gm1, gp1, gl1⟩ A2 c2 wc (HW.out.below hb) ho (Nat.le_trans HBW.out hb.size))
    simp only [ec] at HK
    obtain ⟨⟨z0, z1, z2, z3, z4, z5, z6, z7, z8, z9, z10, z11, z12, z13⟩, -⟩ := fourteen_cells hz
    obtain ⟨Ag, cg, hgb⟩ := (HW.out.below hb).cells
    have HGB := hid hgb
    clear hb hz hx ho hp HKO hgb
    go_wp2_with fail
    refine HK.out.mono ?_
    rintro qe w8 ⟨rfl, h7, ho7⟩
    have H7 := hid (h7.after HB.out HBW.out)
    have HP8 := hid (sl_pk HP.out HGB.out (noP_ns (p7_ns _ _ _ _ _ _)) ho7.keep)
    have HZ8 := hid (h7.s.oth _ _ _ _ (by decide) (by decide) HZ.out)
    have HX8 := hid (h7.s.oth _ _ _ _ (by decide) (by decide) HX.out)
    have HE8 := hid (fun U (hU : Below w8.heap.size w8 U) => r27bytes_any B ps.length d ps U (HP8.out.below hU) HPL.out HPB.out)
    clear HK h7 ho7 HP HP8 HB HZ HX z0 z1 z2 z3 z4 z5 z6 z7 z8 z9 z10 z11 z12 z13
    go_upto_region 8 with (fail)
    have hk0 : Below w8.heap.size w8 w8.drew := below_drew (Below.refl _ _)
    have hS : ∀ U, Below w8.heap.size w8 U → ((U.cell? ⟨X, 0, none⟩ = some (.int .i64 xk) ∧ U.cell? ⟨X, 1, none⟩ = some (.int .i64 xf) ∧ U.cell? ⟨X, 2, none⟩ = some (.int .i64 xt) ∧ U.cell? ⟨X, 3, none⟩ = some (.int .i64 xi) ∧ U.cell? ⟨X, 4, none⟩ = some (.int .i64 xp) ∧ U.cell? ⟨X, 5, none⟩ = some (.int .i64 xs) ∧ U.cell? ⟨X, 6, none⟩ = some (.string xb)) ∧ (U.cell? ⟨Z, 11, none⟩ = some (.string tx) ∧ U.cell? ⟨Z, 13, none⟩ = some (.slice B ps.length d))) := fun U hU => ⟨(seven_cells (keep0 HX8.out hU)).1, (fourteen_cells (keep0 HZ8.out hU)).1.2.2.2.2.2.2.2.2.2.2.2.1, (fourteen_cells (keep0 HZ8.out hU)).1.2.2.2.2.2.2.2.2.2.2.2.2.2⟩
    refine wp_region_held_drew (S := fun U => ((U.cell? ⟨X, 0, none⟩ = some (.int .i64 xk) ∧ U.cell? ⟨X, 1, none⟩ = some (.int .i64 xf) ∧ U.cell? ⟨X, 2, none⟩ = some (.int .i64 xt) ∧ U.cell? ⟨X, 3, none⟩ = some (.int .i64 xi) ∧ U.cell? ⟨X, 4, none⟩ = some (.int .i64 xp) ∧ U.cell? ⟨X, 5, none⟩ = some (.int .i64 xs) ∧ U.cell? ⟨X, 6, none⟩ = some (.string xb)) ∧ (U.cell? ⟨Z, 11, none⟩ = some (.string tx) ∧ U.cell? ⟨Z, 13, none⟩ = some (.slice B ps.length d)))) (by kernel_rfl) (hS _ hk0) (fun hHeld => ?_)
    generalize w8.drew = k0 at *
    refine tkA 0 ?_ rfl ?_ (by assumption) ?_; rotate_left; focus (intro U hU; (try dsimp only at hU); go_simp; try (with_reducible rfl))
    simp only [gt6, Act.put]
    refine tkA 1 ?_ rfl ?_ (by assumption) ?_; rotate_left; focus (intro U hU; (try dsimp only at hU); go_simp; try (with_reducible rfl))
    simp only [gt6, Act.put]
    refine tkA 2 ?_ rfl ?_ (by assumption) ?_; rotate_left; focus (intro U hU; (try dsimp only at hU); go_simp; try (with_reducible rfl))
    simp only [gt6, Act.put]
    refine tkA 3 ?_ rfl ?_ (by assumption) ?_; rotate_left; focus (intro U hU; (try dsimp only at hU); go_simp; try (with_reducible rfl))
    simp only [gt6, Act.put]
    refine tkA 4 ?_ rfl ?_ (by assumption) ?_; rotate_left; focus (intro U hU; (try dsimp only at hU); go_simp; try (with_reducible rfl))
    simp only [gt6, Act.put]
    refine tkA 5 ?_ rfl ?_ (by assumption) ?_; rotate_left; focus (intro U hU; (try dsimp only at hU); go_simp; try (with_reducible rfl))
    simp only [gt6, Act.put]
    refine wpAnyH_ready (rs := [6]) (by kernel_rfl) (by simp) ?_
    refine AllReadyH.cons rfl (fun K hK => ?_) AllReadyH.nil
    simp only [gt3]
    go_simp
    refine (HE8.out k0 hk0).mono ?_
    rintro qe w9 ⟨v, rfl, ho9, hb9⟩
    obtain ⟨A9, c9, rfl, -⟩ := Sl.of_own ho9
    have HR9 := hid (own_mono ho9 (Nat.le_trans H7.out.s.size hk0.size))
    have hk1 := hk0.trans (hb9.mono hk0.size)
    clear ho9 hb9
    go_wp2_with fail
    refine hK.out _ _ ?_ (fun hHeld2 => ?_)
    focus
      exact hS _ hk1
    clear hHeld
    have hHeld := hHeld2
    clear hHeld2 hK K
    try simp only [gt6, Act.put]
    refine tkA 7 ?_ rfl ?_ (by assumption) ?_; rotate_left; focus (intro U hU; (try dsimp only at hU); go_simp; try (with_reducible rfl))
    simp only [gt6, Act.put]
    refine tkA 8 ?_ rfl ?_ (by assumption) ?_; rotate_left; focus (intro U hU; (try dsimp only at hU); go_simp; try (with_reducible rfl))
    simp only [gt6, Act.put]
    refine tkA 9 ?_ rfl ?_ (by assumption) ?_; rotate_left; focus (intro U hU; (try dsimp only at hU); go_simp; try (with_reducible rfl))
    simp only [gt6, Act.put]
    refine tkA 10 ?_ rfl ?_ (by assumption) ?_; rotate_left; focus (intro U hU; (try dsimp only at hU); go_simp; try (with_reducible rfl))
    simp only [gt6, Act.put]
    refine wpAnyH_done (by kernel_rfl) ?_ _
    clear hHeld hS
    have H9 := hid (H7.out.then hk1 HBW.out)
    clear hk1 HE8 H7 HZ8 HX8
    go_wp2
    refine bodyPost_ret (v := .tuple #[.int .i64 xf, .string tx, .slice A9 ps.length c9, .int .i64 0]) (by simp [results, Tryz.results14, go_sem]) rfl ⟨A9, c9, ?_, ?_, ?_⟩
    · rw [HVV.out]
      simp only [List.length_map]
    · rw [HVV.out]
      simp only [List.length_map]
      exact HR9.out
    · rw [HVV.out]
      exact H9.out
  have hS : ∀ U, Below w3.heap.size w3 U → ((U.cell? ⟨X, 0, none⟩ = some (.int .i64 xk) ∧ U.cell? ⟨X, 1, none⟩ = some (.int .i64 xf) ∧ U.cell? ⟨X, 2, none⟩ = some (.int .i64 xt) ∧ U.cell? ⟨X, 3, none⟩ = some (.int .i64 xi) ∧ U.cell? ⟨X, 4, none⟩ = some (.int .i64 xp) ∧ U.cell? ⟨X, 5, none⟩ = some (.int .i64 xs) ∧ U.cell? ⟨X, 6, none⟩ = some (.string xb))) := fun U hU => (seven_cells (keep0 HX3.out hU)).1
  have hk0 : Below w3.heap.size w3 w3.drew := below_drew (Below.refl _ _)
  refine wp_region_held_drew (S := fun U => (U.cell? ⟨X, 0, none⟩ = some (.int .i64 xk) ∧ U.cell? ⟨X, 1, none⟩ = some (.int .i64 xf) ∧ U.cell? ⟨X, 2, none⟩ = some (.int .i64 xt) ∧ U.cell? ⟨X, 3, none⟩ = some (.int .i64 xi) ∧ U.cell? ⟨X, 4, none⟩ = some (.int .i64 xp) ∧ U.cell? ⟨X, 5, none⟩ = some (.int .i64 xs) ∧ U.cell? ⟨X, 6, none⟩ = some (.string xb))) (by kernel_rfl) (hS _ hk0) (fun hHeld => ?_)
  generalize w3.drew = k0 at *
  refine tkA 0 ?_ rfl ?_ (by assumption) ?_; rotate_left; focus (intro U hU; (try dsimp only at hU); go_simp; try (with_reducible rfl))
  simp only [gt6, Act.put]
  refine tkA 1 ?_ rfl ?_ (by assumption) ?_; rotate_left; focus (intro U hU; (try dsimp only at hU); go_simp; try (with_reducible rfl))
  simp only [gt6, Act.put]
  refine tkA 2 ?_ rfl ?_ (by assumption) ?_; rotate_left; focus (intro U hU; (try dsimp only at hU); go_simp; try (with_reducible rfl))
  simp only [gt6, Act.put]
  refine tkA 4 ?_ rfl ?_ (by assumption) ?_; rotate_left; focus (intro U hU; (try dsimp only at hU); go_simp; try (with_reducible rfl))
  simp only [gt6, Act.put]
  refine wpAnyH_ready (rs := [3, 6]) (by kernel_rfl) (by simp) ?_
  refine (AllReadyH.cons rfl (fun K hK => ?_) (AllReadyH.cons rfl (fun K hK => ?_) AllReadyH.nil))
  · skip
    simp only [gt3]
    go_simp
    refine (HEND.out k0 (HB3.out.trans (hk0.mono HB3.out.size))).mono ?_
    rintro qe k1 ⟨A1, c1, rfl, hs1, hb1⟩
    replace hk0 := hk0.trans (hb1.mono hk0.size)
    have HS1 := hid hs1
    clear hs1 hb1
    go_wp2_with fail
    refine hK.out _ _ ?_ (fun hHeld2 => ?_)
    focus
      exact hS _ hk0
    clear hHeld
    have hHeld := hHeld2
    clear hHeld2 hK K
    try simp only [gt6, Act.put]
    refine wpAnyH_ready (rs := [5, 6]) (by kernel_rfl) (by simp) ?_
    refine (AllReadyH.cons rfl (fun K hK => ?_) (AllReadyH.cons rfl (fun K hK => ?_) AllReadyH.nil))
    · skip
      simp only [gt3]
      go_simp
      refine (HTK.out A1 c1 k1 HS1.out).mono ?_
      rintro qe k3 ⟨A2, c2, B2, d2, rfl, ho2, hp2, hb2⟩
      have HO : Hid (Sl k3 1 A2 l1.length c2 (scells l1)) := hid ho2
      simp only [tkc]
      have HP : Hid (Sl k3 7 B2 ps.length d2 (gcells pkc ps)) := hid hp2
      replace hk0 := hk0.trans (hb2.mono hk0.size)
      clear ho2 hp2 hb2
      go_wp2_with fail
      refine hK.out _ _ ?_ (fun hHeld2 => ?_)
      focus
        exact hS _ hk0
      clear hHeld
      have hHeld := hHeld2
      clear hHeld2 hK K
      try simp only [gt6, Act.put]
      refine wpAnyH_ready (rs := [6]) (by kernel_rfl) (by simp) ?_
      refine (AllReadyH.cons rfl (fun K hK => ?_) AllReadyH.nil)
      have hbs : Below (World.heap k3).size k3 (k3.alloc (.cells #[.int .i64 0, .int .i64 0, .int .i64 0, .int .i64 0, .int .i64 0, .slice none 0 0, .int .i64 0, .int .i64 0, .int .i64 0, .int .i64 0, .int .i64 0, .string ⟨#[]⟩, .bool false, .slice none 0 0] 100)) := (Below.refl _ _).alloc (Nat.le_refl _) _
      have HZ : Hid ((k3.alloc (.cells #[.int .i64 0, .int .i64 0, .int .i64 0, .int .i64 0, .int .i64 0, .slice none 0 0, .int .i64 0, .int .i64 0, .int .i64 0, .int .i64 0, .int .i64 0, .string ⟨#[]⟩, .bool false, .slice none 0 0] 100)).heap[(World.heap k3).size]? = some (.cells #[.int .i64 0, .int .i64 0, .int .i64 0, .int .i64 0, .int .i64 0, .slice none 0 0, .int .i64 0, .int .i64 0, .int .i64 0, .int .i64 0, .int .i64 0, .string ⟨#[]⟩, .bool false, .slice none 0 0] 100 (0, 0))) := hid (heap_alloc_new _ _)
      have HZZ : Hid (w3.heap.size ≤ (World.heap k3).size) := hid hk0.size
      replace hk0 := hk0.trans (hbs.mono hk0.size)
      have HO9 := hid (HO.out.below hbs)
      have HP9 := hid (HP.out.below hbs)
      clear HO HP
      have HO := HO9
      have HP := HP9
      clear HO9 HP9
      clear hbs
      simp only [gt3]
      go_simp
      refine hK.out _ _ ?_ (fun hHeld2 => ?_)
      focus
        exact hS _ hk0
      clear hHeld
      have hHeld := hHeld2
      clear hHeld2 hK K
      try simp only [gt6, Act.put]
      generalize (k3.alloc (.cells #[.int .i64 0, .int .i64 0, .int .i64 0, .int .i64 0, .int .i64 0, .slice none 0 0, .int .i64 0, .int .i64 0, .int .i64 0, .int .i64 0, .int .i64 0, .string ⟨#[]⟩, .bool false, .slice none 0 0] 100)) = k5 at *
      generalize (World.heap k3).size = ZB at *
      refine wpAnyH_ready (rs := [7]) (by kernel_rfl) (by simp) ?_
      refine (AllReadyH.cons rfl (fun K hK => ?_) AllReadyH.nil)
      obtain ⟨⟨d0, d1, d2, d3, d4, d5, d6, d7, d8, d9, d10, d11, d12, d13⟩, ⟨g0, g1, g2, g3, g4, g5, g6, g7, g8, g9, g10, g11, g12, g13⟩⟩ := fourteen_cells HZ.out
      simp only [gt3]
      go_simp
      clear d0 g0 d1 g1 d2 g2 d3 g3 d4 g4 d5 g5 d6 g6 d7 g7 d8 g8 d9 g9 d10 g10 d11 g11 d12 g12 d13 g13
      refine hK.out _ _ ?_ (fun hHeld2 => ?_)
      focus
        exact hS _ (put14_below hk0 HZZ.out (.int .i64 f1) (.int .i64 t1) (.int .i64 i1) (.int .i64 p1) (.int .i64 q1) (.slice A2 l1.length c2) (.int .i64 wt1) (.int .i64 fl1) (.int .i64 gm1) (.int .i64 gp1) (.int .i64 gl1) (.string tx) (.bool got) (.slice B2 ps.length d2))
      clear hHeld
      have hHeld := hHeld2
      clear hHeld2 hK K
      try simp only [gt6, Act.put]
      refine wpAnyH_done (by kernel_rfl) ?_ _
      have hz9 := put14_heap HZ.out (.int .i64 f1) (.int .i64 t1) (.int .i64 i1) (.int .i64 p1) (.int .i64 q1) (.slice A2 l1.length c2) (.int .i64 wt1) (.int .i64 fl1) (.int .i64 gm1) (.int .i64 gp1) (.int .i64 gl1) (.string tx) (.bool got) (.slice B2 ps.length d2)
      have hb9 := HB3.out.trans ((put14_below hk0 HZZ.out (.int .i64 f1) (.int .i64 t1) (.int .i64 i1) (.int .i64 p1) (.int .i64 q1) (.slice A2 l1.length c2) (.int .i64 wt1) (.int .i64 fl1) (.int .i64 gm1) (.int .i64 gp1) (.int .i64 gl1) (.string tx) (.bool got) (.slice B2 ps.length d2)).mono HB3.out.size)
      have hx9 := keep0 HX3.out (put14_below hk0 HZZ.out (.int .i64 f1) (.int .i64 t1) (.int .i64 i1) (.int .i64 p1) (.int .i64 q1) (.slice A2 l1.length c2) (.int .i64 wt1) (.int .i64 fl1) (.int .i64 gm1) (.int .i64 gp1) (.int .i64 gl1) (.string tx) (.bool got) (.slice B2 ps.length d2))
      have ho9 : Sl (put14 k5 ZB (.int .i64 f1) (.int .i64 t1) (.int .i64 i1) (.int .i64 p1) (.int .i64 q1) (.slice A2 l1.length c2) (.int .i64 wt1) (.int .i64 fl1) (.int .i64 gm1) (.int .i64 gp1) (.int .i64 gl1) (.string tx) (.bool got) (.slice B2 ps.length d2)) 1 A2 l1.length c2 (scells l1) := sl_st2 HO.out HNE.out HZ.out tz_ns fun g hg => put14_other (w := k5) (b := ZB) hg (.int .i64 f1) (.int .i64 t1) (.int .i64 i1) (.int .i64 p1) (.int .i64 q1) (.slice A2 l1.length c2) (.int .i64 wt1) (.int .i64 fl1) (.int .i64 gm1) (.int .i64 gp1) (.int .i64 gl1) (.string tx) (.bool got) (.slice B2 ps.length d2)
      have hp9 : Sl (put14 k5 ZB (.int .i64 f1) (.int .i64 t1) (.int .i64 i1) (.int .i64 p1) (.int .i64 q1) (.slice A2 l1.length c2) (.int .i64 wt1) (.int .i64 fl1) (.int .i64 gm1) (.int .i64 gp1) (.int .i64 gl1) (.string tx) (.bool got) (.slice B2 ps.length d2)) 7 B2 ps.length d2 (gcells pkc ps) := sl_pk HP.out HZ.out noP_tz fun g hg _ => put14_other (w := k5) (b := ZB) hg (.int .i64 f1) (.int .i64 t1) (.int .i64 i1) (.int .i64 p1) (.int .i64 q1) (.slice A2 l1.length c2) (.int .i64 wt1) (.int .i64 fl1) (.int .i64 gm1) (.int .i64 gp1) (.int .i64 gl1) (.string tx) (.bool got) (.slice B2 ps.length d2)
      clear hHeld hS HZ HO HP hk0
      go_wp2_with fail
      go_meet
      exact ⟨_, _, _, _, _, rfl, hz9, hx9, ho9, hp9, hb9⟩
    · skip
      have hbs : Below (World.heap k1).size k1 (k1.alloc (.cells #[.int .i64 0, .int .i64 0, .int .i64 0, .int .i64 0, .int .i64 0, .slice none 0 0, .int .i64 0, .int .i64 0, .int .i64 0, .int .i64 0, .int .i64 0, .string ⟨#[]⟩, .bool false, .slice none 0 0] 100)) := (Below.refl _ _).alloc (Nat.le_refl _) _
      have HZ : Hid ((k1.alloc (.cells #[.int .i64 0, .int .i64 0, .int .i64 0, .int .i64 0, .int .i64 0, .slice none 0 0, .int .i64 0, .int .i64 0, .int .i64 0, .int .i64 0, .int .i64 0, .string ⟨#[]⟩, .bool false, .slice none 0 0] 100)).heap[(World.heap k1).size]? = some (.cells #[.int .i64 0, .int .i64 0, .int .i64 0, .int .i64 0, .int .i64 0, .slice none 0 0, .int .i64 0, .int .i64 0, .int .i64 0, .int .i64 0, .int .i64 0, .string ⟨#[]⟩, .bool false, .slice none 0 0] 100 (0, 0))) := hid (heap_alloc_new _ _)
      have HZZ : Hid (w3.heap.size ≤ (World.heap k1).size) := hid hk0.size
      replace hk0 := hk0.trans (hbs.mono hk0.size)
      have HS9 := hid (HS1.out.below hbs)
      clear HS1
      have HS1 := HS9
      clear HS9
      clear hbs
      simp only [gt3]
      go_simp
      refine hK.out _ _ ?_ (fun hHeld2 => ?_)
      focus
        exact hS _ hk0
      clear hHeld
      have hHeld := hHeld2
      clear hHeld2 hK K
      try simp only [gt6, Act.put]
      generalize (k1.alloc (.cells #[.int .i64 0, .int .i64 0, .int .i64 0, .int .i64 0, .int .i64 0, .slice none 0 0, .int .i64 0, .int .i64 0, .int .i64 0, .int .i64 0, .int .i64 0, .string ⟨#[]⟩, .bool false, .slice none 0 0] 100)) = k4 at *
      generalize (World.heap k1).size = ZB at *
      refine wpAnyH_ready (rs := [5]) (by kernel_rfl) (by simp) ?_
      refine (AllReadyH.cons rfl (fun K hK => ?_) AllReadyH.nil)
      simp only [gt3]
      go_simp
      refine (HTK.out A1 c1 k4 HS1.out).mono ?_
      rintro qe k6 ⟨A2, c2, B2, d2, rfl, ho2, hp2, hb2⟩
      have HO : Hid (Sl k6 1 A2 l1.length c2 (scells l1)) := hid ho2
      simp only [tkc]
      have HP : Hid (Sl k6 7 B2 ps.length d2 (gcells pkc ps)) := hid hp2
      replace hk0 := hk0.trans (hb2.mono hk0.size)
      have HZ9 := hid (keep0 HZ.out hb2)
      clear HZ
      have HZ := HZ9
      clear HZ9
      clear ho2 hp2 hb2
      go_wp2_with fail
      refine hK.out _ _ ?_ (fun hHeld2 => ?_)
      focus
        exact hS _ hk0
      clear hHeld
      have hHeld := hHeld2
      clear hHeld2 hK K
      try simp only [gt6, Act.put]
      refine wpAnyH_ready (rs := [7]) (by kernel_rfl) (by simp) ?_
      refine (AllReadyH.cons rfl (fun K hK => ?_) AllReadyH.nil)
      obtain ⟨⟨d0, d1, d2, d3, d4, d5, d6, d7, d8, d9, d10, d11, d12, d13⟩, ⟨g0, g1, g2, g3, g4, g5, g6, g7, g8, g9, g10, g11, g12, g13⟩⟩ := fourteen_cells HZ.out
      simp only [gt3]
      go_simp
      clear d0 g0 d1 g1 d2 g2 d3 g3 d4 g4 d5 g5 d6 g6 d7 g7 d8 g8 d9 g9 d10 g10 d11 g11 d12 g12 d13 g13
      refine hK.out _ _ ?_ (fun hHeld2 => ?_)
      focus
        exact hS _ (put14_below hk0 HZZ.out (.int .i64 f1) (.int .i64 t1) (.int .i64 i1) (.int .i64 p1) (.int .i64 q1) (.slice A2 l1.length c2) (.int .i64 wt1) (.int .i64 fl1) (.int .i64 gm1) (.int .i64 gp1) (.int .i64 gl1) (.string tx) (.bool got) (.slice B2 ps.length d2))
      clear hHeld
      have hHeld := hHeld2
      clear hHeld2 hK K
      try simp only [gt6, Act.put]
      refine wpAnyH_done (by kernel_rfl) ?_ _
      have hz9 := put14_heap HZ.out (.int .i64 f1) (.int .i64 t1) (.int .i64 i1) (.int .i64 p1) (.int .i64 q1) (.slice A2 l1.length c2) (.int .i64 wt1) (.int .i64 fl1) (.int .i64 gm1) (.int .i64 gp1) (.int .i64 gl1) (.string tx) (.bool got) (.slice B2 ps.length d2)
      have hb9 := HB3.out.trans ((put14_below hk0 HZZ.out (.int .i64 f1) (.int .i64 t1) (.int .i64 i1) (.int .i64 p1) (.int .i64 q1) (.slice A2 l1.length c2) (.int .i64 wt1) (.int .i64 fl1) (.int .i64 gm1) (.int .i64 gp1) (.int .i64 gl1) (.string tx) (.bool got) (.slice B2 ps.length d2)).mono HB3.out.size)
      have hx9 := keep0 HX3.out (put14_below hk0 HZZ.out (.int .i64 f1) (.int .i64 t1) (.int .i64 i1) (.int .i64 p1) (.int .i64 q1) (.slice A2 l1.length c2) (.int .i64 wt1) (.int .i64 fl1) (.int .i64 gm1) (.int .i64 gp1) (.int .i64 gl1) (.string tx) (.bool got) (.slice B2 ps.length d2))
      have ho9 : Sl (put14 k6 ZB (.int .i64 f1) (.int .i64 t1) (.int .i64 i1) (.int .i64 p1) (.int .i64 q1) (.slice A2 l1.length c2) (.int .i64 wt1) (.int .i64 fl1) (.int .i64 gm1) (.int .i64 gp1) (.int .i64 gl1) (.string tx) (.bool got) (.slice B2 ps.length d2)) 1 A2 l1.length c2 (scells l1) := sl_st2 HO.out HNE.out HZ.out tz_ns fun g hg => put14_other (w := k6) (b := ZB) hg (.int .i64 f1) (.int .i64 t1) (.int .i64 i1) (.int .i64 p1) (.int .i64 q1) (.slice A2 l1.length c2) (.int .i64 wt1) (.int .i64 fl1) (.int .i64 gm1) (.int .i64 gp1) (.int .i64 gl1) (.string tx) (.bool got) (.slice B2 ps.length d2)
      have hp9 : Sl (put14 k6 ZB (.int .i64 f1) (.int .i64 t1) (.int .i64 i1) (.int .i64 p1) (.int .i64 q1) (.slice A2 l1.length c2) (.int .i64 wt1) (.int .i64 fl1) (.int .i64 gm1) (.int .i64 gp1) (.int .i64 gl1) (.string tx) (.bool got) (.slice B2 ps.length d2)) 7 B2 ps.length d2 (gcells pkc ps) := sl_pk HP.out HZ.out noP_tz fun g hg _ => put14_other (w := k6) (b := ZB) hg (.int .i64 f1) (.int .i64 t1) (.int .i64 i1) (.int .i64 p1) (.int .i64 q1) (.slice A2 l1.length c2) (.int .i64 wt1) (.int .i64 fl1) (.int .i64 gm1) (.int .i64 gp1) (.int .i64 gl1) (.string tx) (.bool got) (.slice B2 ps.length d2)
      clear hHeld hS HZ HO HP hk0
      go_wp2_with fail
      go_meet
      exact ⟨_, _, _, _, _, rfl, hz9, hx9, ho9, hp9, hb9⟩
  · skip
    have hbs : Below (World.heap k0).size k0 (k0.alloc (.cells #[.int .i64 0, .int .i64 0, .int .i64 0, .int .i64 0, .int .i64 0, .slice none 0 0, .int .i64 0, .int .i64 0, .int .i64 0, .int .i64 0, .int .i64 0, .string ⟨#[]⟩, .bool false, .slice none 0 0] 100)) := (Below.refl _ _).alloc (Nat.le_refl _) _
    have HZ : Hid ((k0.alloc (.cells #[.int .i64 0, .int .i64 0, .int .i64 0, .int .i64 0, .int .i64 0, .slice none 0 0, .int .i64 0, .int .i64 0, .int .i64 0, .int .i64 0, .int .i64 0, .string ⟨#[]⟩, .bool false, .slice none 0 0] 100)).heap[(World.heap k0).size]? = some (.cells #[.int .i64 0, .int .i64 0, .int .i64 0, .int .i64 0, .int .i64 0, .slice none 0 0, .int .i64 0, .int .i64 0, .int .i64 0, .int .i64 0, .int .i64 0, .string ⟨#[]⟩, .bool false, .slice none 0 0] 100 (0, 0))) := hid (heap_alloc_new _ _)
    have HZZ : Hid (w3.heap.size ≤ (World.heap k0).size) := hid hk0.size
    replace hk0 := hk0.trans (hbs.mono hk0.size)
    clear hbs
    simp only [gt3]
    go_simp
    refine hK.out _ _ ?_ (fun hHeld2 => ?_)
    focus
      exact hS _ hk0
    clear hHeld
    have hHeld := hHeld2
    clear hHeld2 hK K
    try simp only [gt6, Act.put]
    generalize (k0.alloc (.cells #[.int .i64 0, .int .i64 0, .int .i64 0, .int .i64 0, .int .i64 0, .slice none 0 0, .int .i64 0, .int .i64 0, .int .i64 0, .int .i64 0, .int .i64 0, .string ⟨#[]⟩, .bool false, .slice none 0 0] 100)) = k2 at *
    generalize (World.heap k0).size = ZB at *
    refine wpAnyH_ready (rs := [3]) (by kernel_rfl) (by simp) ?_
    refine (AllReadyH.cons rfl (fun K hK => ?_) AllReadyH.nil)
    simp only [gt3]
    go_simp
    refine (HEND.out k2 (HB3.out.trans (hk0.mono HB3.out.size))).mono ?_
    rintro qe k7 ⟨A1, c1, rfl, hs1, hb1⟩
    replace hk0 := hk0.trans (hb1.mono hk0.size)
    have HS1 := hid hs1
    have HZ9 := hid (keep0 HZ.out hb1)
    clear HZ
    have HZ := HZ9
    clear HZ9
    clear hs1 hb1
    go_wp2_with fail
    refine hK.out _ _ ?_ (fun hHeld2 => ?_)
    focus
      exact hS _ hk0
    clear hHeld
    have hHeld := hHeld2
    clear hHeld2 hK K
    try simp only [gt6, Act.put]
    refine wpAnyH_ready (rs := [5]) (by kernel_rfl) (by simp) ?_
    refine (AllReadyH.cons rfl (fun K hK => ?_) AllReadyH.nil)
    simp only [gt3]
    go_simp
    refine (HTK.out A1 c1 k7 HS1.out).mono ?_
    rintro qe k8 ⟨A2, c2, B2, d2, rfl, ho2, hp2, hb2⟩
    have HO : Hid (Sl k8 1 A2 l1.length c2 (scells l1)) := hid ho2
    simp only [tkc]
    have HP : Hid (Sl k8 7 B2 ps.length d2 (gcells pkc ps)) := hid hp2
    replace hk0 := hk0.trans (hb2.mono hk0.size)
    have HZ9 := hid (keep0 HZ.out hb2)
    clear HZ
    have HZ := HZ9
    clear HZ9
    clear ho2 hp2 hb2
    go_wp2_with fail
    refine hK.out _ _ ?_ (fun hHeld2 => ?_)
    focus
      exact hS _ hk0
    clear hHeld
    have hHeld := hHeld2
    clear hHeld2 hK K
    try simp only [gt6, Act.put]
    refine wpAnyH_ready (rs := [7]) (by kernel_rfl) (by simp) ?_
    refine (AllReadyH.cons rfl (fun K hK => ?_) AllReadyH.nil)
    obtain ⟨⟨d0, d1, d2, d3, d4, d5, d6, d7, d8, d9, d10, d11, d12, d13⟩, ⟨g0, g1, g2, g3, g4, g5, g6, g7, g8, g9, g10, g11, g12, g13⟩⟩ := fourteen_cells HZ.out
    simp only [gt3]
    go_simp
    clear d0 g0 d1 g1 d2 g2 d3 g3 d4 g4 d5 g5 d6 g6 d7 g7 d8 g8 d9 g9 d10 g10 d11 g11 d12 g12 d13 g13
    refine hK.out _ _ ?_ (fun hHeld2 => ?_)
    focus
      exact hS _ (put14_below hk0 HZZ.out (.int .i64 f1) (.int .i64 t1) (.int .i64 i1) (.int .i64 p1) (.int .i64 q1) (.slice A2 l1.length c2) (.int .i64 wt1) (.int .i64 fl1) (.int .i64 gm1) (.int .i64 gp1) (.int .i64 gl1) (.string tx) (.bool got) (.slice B2 ps.length d2))
    clear hHeld
    have hHeld := hHeld2
    clear hHeld2 hK K
    try simp only [gt6, Act.put]
    refine wpAnyH_done (by kernel_rfl) ?_ _
    have hz9 := put14_heap HZ.out (.int .i64 f1) (.int .i64 t1) (.int .i64 i1) (.int .i64 p1) (.int .i64 q1) (.slice A2 l1.length c2) (.int .i64 wt1) (.int .i64 fl1) (.int .i64 gm1) (.int .i64 gp1) (.int .i64 gl1) (.string tx) (.bool got) (.slice B2 ps.length d2)
    have hb9 := HB3.out.trans ((put14_below hk0 HZZ.out (.int .i64 f1) (.int .i64 t1) (.int .i64 i1) (.int .i64 p1) (.int .i64 q1) (.slice A2 l1.length c2) (.int .i64 wt1) (.int .i64 fl1) (.int .i64 gm1) (.int .i64 gp1) (.int .i64 gl1) (.string tx) (.bool got) (.slice B2 ps.length d2)).mono HB3.out.size)
    have hx9 := keep0 HX3.out (put14_below hk0 HZZ.out (.int .i64 f1) (.int .i64 t1) (.int .i64 i1) (.int .i64 p1) (.int .i64 q1) (.slice A2 l1.length c2) (.int .i64 wt1) (.int .i64 fl1) (.int .i64 gm1) (.int .i64 gp1) (.int .i64 gl1) (.string tx) (.bool got) (.slice B2 ps.length d2))
    have ho9 : Sl (put14 k8 ZB (.int .i64 f1) (.int .i64 t1) (.int .i64 i1) (.int .i64 p1) (.int .i64 q1) (.slice A2 l1.length c2) (.int .i64 wt1) (.int .i64 fl1) (.int .i64 gm1) (.int .i64 gp1) (.int .i64 gl1) (.string tx) (.bool got) (.slice B2 ps.length d2)) 1 A2 l1.length c2 (scells l1) := sl_st2 HO.out HNE.out HZ.out tz_ns fun g hg => put14_other (w := k8) (b := ZB) hg (.int .i64 f1) (.int .i64 t1) (.int .i64 i1) (.int .i64 p1) (.int .i64 q1) (.slice A2 l1.length c2) (.int .i64 wt1) (.int .i64 fl1) (.int .i64 gm1) (.int .i64 gp1) (.int .i64 gl1) (.string tx) (.bool got) (.slice B2 ps.length d2)
    have hp9 : Sl (put14 k8 ZB (.int .i64 f1) (.int .i64 t1) (.int .i64 i1) (.int .i64 p1) (.int .i64 q1) (.slice A2 l1.length c2) (.int .i64 wt1) (.int .i64 fl1) (.int .i64 gm1) (.int .i64 gp1) (.int .i64 gl1) (.string tx) (.bool got) (.slice B2 ps.length d2)) 7 B2 ps.length d2 (gcells pkc ps) := sl_pk HP.out HZ.out noP_tz fun g hg _ => put14_other (w := k8) (b := ZB) hg (.int .i64 f1) (.int .i64 t1) (.int .i64 i1) (.int .i64 p1) (.int .i64 q1) (.slice A2 l1.length c2) (.int .i64 wt1) (.int .i64 fl1) (.int .i64 gm1) (.int .i64 gp1) (.int .i64 gl1) (.string tx) (.bool got) (.slice B2 ps.length d2)
    clear hHeld hS HZ HO HP hk0
    go_wp2_with fail
    go_meet
    exact ⟨_, _, _, _, _, rfl, hz9, hx9, ho9, hp9, hb9⟩
theorem r27take_any {base g : Nat} {nd inc bd : Int} {L : List Ev} (s : List UInt8) (W : World) (h : P7M W base g nd inc bd L) (hR : L.Pairwise (fun a b => a.t < b.t)) (hX : L.length ≤ 1000) (hbW : base ≤ W.heap.size) (hbg : base ≤ g) (hG : ∀ e ∈ L, GdE e) (hN : ∀ e ∈ L, ∀ y ∈ e.o.l, y ≠ []) (hs : s.length ≤ 1000) :
    Calls Tryz.prog 14 #[.pointer (some ⟨g, 0, none⟩), .string (str s)] W (RTakR W base g nd inc bd (ptakV nd inc L s)) := by
  by_cases he : opE s = 0
  · exact r27take_in s W h hR hX hbW hbg hG hN hs he
  · exact r27take_no s W h hbW hs he
end Go.Proofs.YtdphdodjidbngaaGreat

