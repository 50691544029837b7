/- port.Take: contract. -/
import Derived.Test.YtdphdodjidbngaaGreatQGt
import Derived.Test.YtdphdodjidbngaaGreatPtY
import Derived.Test.YtdphdodjidbngaaGreatPaR
namespace Go.Proofs.YtdphdodjidbngaaGreat
open Go.RowKit Go.Sort
set_option linter.unusedVariables false
set_option linter.unusedSimpArgs false

/-- The packet that bytes hold. -/
def opP (s : List UInt8) : Pk := ⟨(qk (cutS s).1).1, (qf (cutS s).1).1, (qt (cutS s).1).1, (qi (cutS s).1).1, (qp (cutS s).1).1, (qs (cutS s).1).1, (qb (cutS s).1).1⟩
theorem opV_P {s : List UInt8} (h : opE s = 0) : opV s = .agg (pca (opP s)) := by rw [opV, if_pos h]; rfl
theorem opP_ok {s : List UInt8} (h : opE s = 0) : chkP (opP s) = true := (opE_ok s h).1
/-- What Take answers: the ends, the node and the text, what is sent, the error. -/
def ptakV (nd inc : Int) (L : List Ev) (s : List UInt8) : List Ev × (Int × ByteArray) × List (List UInt8) × Int :=
  if opE s ≠ 0 then (L, (-1, ⟨#[]⟩), [], opE s)
  else if (opP s).t ≠ nd then (L, (-1, ⟨#[]⟩), [], 1)
  else (keepL (takV (endP nd inc L (opP s).f) (opP s)).1.1 L, ((opP s).f, (takV (endP nd inc L (opP s).f) (opP s)).2.1), (takV (endP nd inc L (opP s).f) (opP s)).1.2.map pbL, 0)
/-- What Take leaves. -/
def PTakR (W : World) (P M : Nat) (nd inc bd : Int) (L : List Ev) (r : List Ev × (Int × ByteArray) × List (List UInt8) × Int) (x : Ending) (w' : World) : Prop :=
  ∃ A c, x = .returned (.tuple #[.int .i64 r.2.1.1, .string r.2.1.2, .slice A r.2.2.1.length c, .int .i64 r.2.2.2]) ∧ w'.ownsRow W.heap.size 9 1 (.slice A r.2.2.1.length c) r.2.2.1.length (scells r.2.2.1) ∧ PortAt w' P M nd inc bd r.1 ∧ Only M W w' ∧ ∀ gg, gg < W.heap.size → PFar W M L gg → PFar w' M r.1 gg
theorem takV_t (e : Ev) (x : Pk) : (takV e x).1.1.t = e.t := by
  unfold takV
  split
  · rfl
  · split
    · rfl
    · split
      · split <;> rfl
      · split
        · split <;> rfl
        · rfl
theorem ackV_mem (o : Ov) (a b : Int) : ∀ y ∈ (ackV o a b).1.l, y ∈ o.l := by
  unfold ackV
  split
  · exact fun y h => h
  · rw [begV_l]
    exact fun y h => List.mem_of_mem_tail h
theorem lrnE_b (e : Ev) (i : Int) (h : ∀ y ∈ e.o.l, y.length ≤ 1000) : ∀ z ∈ (lrnE e i).2, z.b.length ≤ 1000 := dataV_b _ _ fun y hy => h y (by simpa only [lrnV_l] using hy)
theorem takV_b (e : Ev) (x : Pk) (h : ∀ y ∈ e.o.l, y.length ≤ 1000) : ∀ z ∈ (takV e x).1.2, z.b.length ≤ 1000 := by
  have hn : ∀ z ∈ ([] : List Pk), z.b.length ≤ 1000 := fun z hz => by simp at hz
  unfold takV
  split
  · exact hn
  · split
    · intro z hz
      simp only [datE, List.mem_append] at hz
      rcases hz with hz | hz
      · exact lrnE_b e x.i h z hz
      · unfold ansD at hz
        split at hz
        · simp only [List.mem_singleton] at hz; subst hz; simp
        · split at hz
          · simp only [List.mem_singleton] at hz; subst hz; simp
          · simp at hz
    · split
      · split
        · intro z hz
          simp only [ackE, List.mem_append] at hz
          rcases hz with hz | hz
          · exact lrnE_b e x.i h z hz
          · refine dataV_b _ _ (fun y hy => ?_) z hz
            simp only [setO] at hy
            have h9 := ackV_mem _ _ _ y hy
            refine h y ?_
            simpa only [lrnE, lrnV_l] using h9
        · exact hn
      · split
        · split
          · exact lrnE_b e x.i h
          · exact hn
        · exact hn
theorem takV_len (e : Ev) (x : Pk) : (takV e x).1.2.length ≤ 1000 := by
  have hl : (lrnE e x.i).2.length ≤ 1 := dataV_len _ _
  unfold takV
  split
  · simp
  · split
    · simp only [datE, List.length_append]
      have : (ansD e x).length ≤ 1 := by unfold ansD; split <;> (try split) <;> simp
      omega
    · split
      · split
        · simp only [ackE, List.length_append]
          have := dataV_len (setO (lrnE e x.i).1 (ackV (lrnE e x.i).1.o x.i x.s).1) (ackV (lrnE e x.i).1.o x.i x.s).2
          omega
        · simp
      · split
        · split
          · show (lrnE e x.i).2.length ≤ 1000
            omega
          · simp
        · simp
set_option maxRecDepth 20000 in
set_option maxHeartbeats 4000000 in
theorem ptake_no {P M : Nat} {nd inc bd : Int} {L : List Ev} (s : List UInt8) (W : World) (h : PortAt W P M nd inc bd L) (hs : s.length ≤ 1000) (he : opE s ≠ 0) :
    Calls Tryz.prog 13 #[.pointer (some ⟨P, 0, none⟩), .string (str s)] W (PTakR W P M nd inc bd L (ptakV nd inc L s)) := by
  have HV : Hid (ptakV nd inc L s = (L, (-1, ⟨#[]⟩), [], opE s)) := hid (by rw [ptakV, if_pos he])
  have HO := hid (fun w => open_any (str s) (by rw [str_size]; exact hs) w)
  rw [str_list] at HO
  have hvv : opV s = pkV 0 0 0 0 0 0 ⟨#[]⟩ := by rw [opV, if_neg he]
  rw [hvv] at HO
  simp only [pkV] at HO
  have HH := hid h
  have he2 : (opE s == 0) = false := by simpa using he
  generalize ptakV nd inc L s = rv at *
  generalize opE s = oe at *
  generalize str s = sb at *
  clear h hs he hvv
  go_enter Tryz.func13, Tryz.ntmps13
  go_wp2_with fail
  refine (HO.out _).mono ?_
  rintro e w1 ⟨rfl, hb1⟩
  have HP := hid (HH.out.below hb1)
  have HB : Hid (Below W.heap.size W w1) := hid hb1
  have HP2 := hid (HP.out.below ((Below.refl w1.heap.size w1).alloc (Nat.le_refl _) (Obj.cells #[.int .i64 0, .int .i64 0, .int .i64 0, .int .i64 0, .int .i64 0, .int .i64 0, .string ⟨#[]⟩] 90)))
  have HB2 := hid (HB.out.alloc HB.out.size (Obj.cells #[.int .i64 0, .int .i64 0, .int .i64 0, .int .i64 0, .int .i64 0, .int .i64 0, .string ⟨#[]⟩] 90))
  clear hb1 HO HB HP
  go_wp2
  refine bodyPost_ret (v := .tuple #[.int .i64 (-1), .string ⟨#[]⟩, .slice none 0 0, .int .i64 oe]) (by simp [results, Tryz.results13, go_sem]) rfl ⟨none, 0, ?_, ?_, ?_, Only.of_below HB2.out, fun gg h1 h2 => by rw [HV.out]; exact h2.blk (HB2.out.block M HH.out.ends.lt)⟩
  · rw [HV.out]; rfl
  · rw [HV.out]; exact World.ownsRow_nil _ _ _ _
  · rw [HV.out]; exact HP2.out

set_option maxRecDepth 20000 in
set_option maxHeartbeats 8000000 in
theorem ptake_in {P M : Nat} {nd inc bd : Int} {L : List Ev} (s : List UInt8) (W : World) (h : PortAt W P M nd inc bd L) (hG : ∀ e ∈ L, GdE e) (hs : s.length ≤ 1000) (he : opE s = 0) :
    Calls Tryz.prog 13 #[.pointer (some ⟨P, 0, none⟩), .string (str s)] W (PTakR W P M nd inc bd L (ptakV nd inc L s)) := by
  have hok := opP_ok he
  have HV : Hid (ptakV nd inc L s = if (opP s).t ≠ nd then (L, (-1, ⟨#[]⟩), [], 1)
    else (keepL (takV (endP nd inc L (opP s).f) (opP s)).1.1 L, ((opP s).f, (takV (endP nd inc L (opP s).f) (opP s)).2.1), (takV (endP nd inc L (opP s).f) (opP s)).1.2.map pbL, 0)) := hid (by rw [ptakV, if_neg (by simp [he])])
  have HO := hid (fun w => open_any (str s) (by rw [str_size]; exact hs) w)
  rw [str_list, opV_P he, he] at HO
  generalize opP s = x at *
  have hx := okP_iff hok
  have hxs : -9223372036854775808 ≤ x.s ∧ x.s ≤ 9223372036854775807 := by
    have h9 := hx.2.2.2.2.2.2.1
    unfold inS at h9
    split at h9
    · simp only [decide_eq_true_eq] at h9; omega
    · simp only [beq_iff_eq] at h9; omega
  have hGE := gdE_end hG nd inc x.f
  have HEND := hid (fun U (hU : Below W.heap.size W U) => pend_any x.f U (h.below hU) (by omega) (by omega))
  have HTK := hid (fun A c U h9 => ltake_any (endP nd inc L x.f) x A c U h9 (by have := hGE.1; omega) hGE.2.1 hGE.2.2.1 hxs.1 hxs.2 hGE.2.2.2.2.1 hGE.2.2.2.1)
  have hPT : (takV (endP nd inc L x.f) x).1.1.t = x.f := (takV_t _ _).trans (endP_t _ _ _ _)
  have HPB := hid (takV_b (endP nd inc L x.f) x hGE.2.2.2.2.2)
  have HPL := hid (takV_len (endP nd inc L x.f) x)
  have HW := hid h
  have HH0 : Hid (0 ≤ x.f) := hid (by omega)
  have HH1 : Hid (x.f < 72) := hid (by omega)
  obtain ⟨c0, c1, c2, c3⟩ := h.cells
  clear hs he hok hx hxs hGE hG h
  generalize ptakV nd inc L s = rv at *
  generalize takV (endP nd inc L x.f) x = pv at *
  generalize endP nd inc L x.f = e0 at *
  obtain ⟨⟨⟨f1, t1, i1, ⟨p1, q1, l1, wt1, fl1⟩, gm1, gp1, gl1⟩, ps⟩, tx, got⟩ := pv
  obtain ⟨f, t, i, ⟨p, q, l, wt, fl⟩, gm, gp, gl⟩ := e0
  obtain ⟨xk, xf, xt, xi, xp, xs, xbl⟩ := x
  simp only [pca, ec] at HTK HEND HV hPT HPB HPL HO HH0 HH1
  subst hPT
  generalize str s = sb at *
  generalize str xbl = xb at *
  go_enter Tryz.func13, Tryz.ntmps13
  go_wp2_with fail
  refine (HO.out _).mono ?_
  rintro e w1 ⟨rfl, hb1⟩
  have HB1 : Hid (Below W.heap.size W w1) := hid hb1
  clear hb1 HO c1 c2
  go_upto_region 6 with (fail)
  refine at_world (fun u => u.heap[w1.heap.size]? = some (.cells #[.int .i64 xk, .int .i64 t1, .int .i64 xt, .int .i64 xi, .int .i64 xp, .int .i64 xs, .string xb] 90 (0, 0)) ∧ Below W.heap.size W u) ⟨heap_alloc_new _ _, HB1.out.alloc HB1.out.size _⟩ ?_
  clear HB1
  rintro w2 ⟨hx2, hb2⟩
  generalize w1.heap.size = X at *
  have HX2 := hid hx2
  have HB2 := hid hb2
  have HP2 := hid (HW.out.below hb2)
  obtain ⟨⟨y0, y1, y2, y3, y4, y5, y6⟩, -⟩ := seven_cells hx2
  replace c0 := cellb hb2 c0
  replace c3 := cellb hb2 c3
  clear hx2 hb2
  by_cases hxn : xt = nd
  case neg =>
    have HVV := hid (HV.out.trans (if_pos hxn))
    have hxn2 : (xt == nd) = false := by simpa using hxn
    clear hxn
    go_quiet (fail)
    go_wp2
    refine bodyPost_ret (v := .tuple #[.int .i64 (-1), .string ⟨#[]⟩, .slice none 0 0, .int .i64 1]) (by simp [results, Tryz.results13, go_sem]) rfl ⟨none, 0, ?_, ?_, ?_, ?_, fun gg h1 h2 => by rw [HVV.out]; exact h2.blk (HB2.out.block M HW.out.ends.lt)⟩
    · rw [HVV.out]; rfl
    · rw [HVV.out]; exact World.ownsRow_nil _ _ _ _
    · rw [HVV.out]; exact HP2.out.below ⟨rfl, rfl, rfl, Nat.le_refl _, fun _ _ => rfl⟩
    · exact Only.of_below (HB2.out.trans ⟨rfl, rfl, rfl, Nat.le_refl _, fun _ _ => rfl⟩)
  have HVV := hid (HV.out.trans (if_neg (by simp [hxn])))
  have hxn2 : (xt == nd) = true := by simpa using hxn
  clear hxn
  go_quiet (fail)
  go_upto_region 8 with (fail)
  refine at_world (fun u => u.heap[X]? = some (.cells #[.int .i64 xk, .int .i64 t1, .int .i64 xt, .int .i64 xi, .int .i64 xp, .int .i64 xs, .string xb] 90 (0, 0)) ∧ Below W.heap.size W u) ⟨HX2.out, HB2.out.trans ⟨rfl, rfl, rfl, Nat.le_refl _, fun _ _ => rfl⟩⟩ ?_
  clear HX2 HB2 HP2 y0 y1 y2 y3 y4 y5 y6 c0 c3 hxn2
  rintro w3 ⟨hx3, hb3⟩
  have HX3 := hid hx3
  have HB3 := hid hb3
  have HP3 := hid (HW.out.below hb3)
  clear hx3 hb3
  go_cut [5, 9, 10, 11] from 19 to 39 (fun v5 v9 v10 v11 wx => ∃ Z A2 c2 B d, v5 = .string tx ∧ v9 = .pointer (some ⟨Z, 0, none⟩) ∧ v10 = .bool got ∧ v11 = .slice B ps.length d ∧ wx.heap[Z]? = some (.cells #[.int .i64 f1, .int .i64 t1, .int .i64 i1, .int .i64 p1, .int .i64 q1, .slice A2 l1.length c2, .int .i64 wt1, .int .i64 fl1, .int .i64 gm1, .int .i64 gp1, .int .i64 gl1] 71 (0, 0)) ∧ wx.heap[X]? = some (.cells #[.int .i64 xk, .int .i64 t1, .int .i64 xt, .int .i64 xi, .int .i64 xp, .int .i64 xs, .string xb] 90 (0, 0)) ∧ wx.ownsRow W.heap.size 9 1 (.slice A2 l1.length c2) l1.length (scells l1) ∧ OwnP W wx (.slice B ps.length d) ps ∧ Below W.heap.size W wx)
  case rest =>
    obtain ⟨Z, A2, c2, B, d, rfl, rfl, rfl, rfl, hz, hx, ho, hp, hb⟩ := hcut
    clear HEND HTK
    have HB := hid hb
    have HZ := hid hz
    have HX := hid hx
    have HO := hid ho
    have HP := hid hp
    clear hb hz hx ho hp
    have HPA := hid (HW.out.below HB.out)
    go_upto_region 9 with (fail)
    have hk0 : Below wc.heap.size wc wc.drew := below_drew (Below.refl _ _)
    have HPB0 := hid (HPA.out.below hk0)
    have hblk := HPB0.out.blk
    obtain ⟨w8, hrun, hE8, hO8⟩ := pends_put HPB0.out.ends ⟨f1, t1, i1, ⟨p1, q1, l1, wt1, fl1⟩, gm1, gp1, gl1⟩ A2 c2 HH0.out HH1.out (sl_own (own_keep HO.out hk0)) Tryz.underlying58
    have hz0 := keep0 HZ.out hk0
    have hx0 := keep0 HX.out hk0
    obtain ⟨es, clock, hmb⟩ := HPB0.out.ends.block
    have hPM := HPB0.out.ne
    have hZM : Z ≠ M := by
      rintro rfl
      rw [hmb] at hz0
      cases hz0
    have hXM : X ≠ M := by
      rintro rfl
      rw [hmb] at hx0
      cases hx0
    have hS : ∀ U : World, U.heap[P]? = some (.cells #[.int .i64 nd, .int .i64 inc, .int .i64 bd, .map (some M)] 60 (0, 0)) → U.heap[Z]? = some (.cells #[.int .i64 f1, .int .i64 t1, .int .i64 i1, .int .i64 p1, .int .i64 q1, .slice A2 l1.length c2, .int .i64 wt1, .int .i64 fl1, .int .i64 gm1, .int .i64 gp1, .int .i64 gl1] 71 (0, 0)) → U.heap[X]? = some (.cells #[.int .i64 xk, .int .i64 t1, .int .i64 xt, .int .i64 xi, .int .i64 xp, .int .i64 xs, .string xb] 90 (0, 0)) → (U.cell? ⟨P, 3, none⟩ = some (.map (some M)) ∧ (U.cell? ⟨Z, 0, none⟩ = some (.int .i64 f1) ∧ U.cell? ⟨Z, 1, none⟩ = some (.int .i64 t1) ∧ U.cell? ⟨Z, 2, none⟩ = some (.int .i64 i1) ∧ U.cell? ⟨Z, 3, none⟩ = some (.int .i64 p1) ∧ U.cell? ⟨Z, 4, none⟩ = some (.int .i64 q1) ∧ U.cell? ⟨Z, 5, none⟩ = some (.slice A2 l1.length c2) ∧ U.cell? ⟨Z, 6, none⟩ = some (.int .i64 wt1) ∧ U.cell? ⟨Z, 7, none⟩ = some (.int .i64 fl1) ∧ U.cell? ⟨Z, 8, none⟩ = some (.int .i64 gm1) ∧ U.cell? ⟨Z, 9, none⟩ = some (.int .i64 gp1) ∧ U.cell? ⟨Z, 10, none⟩ = some (.int .i64 gl1)) ∧ (U.cell? ⟨X, 0, none⟩ = some (.int .i64 xk) ∧ U.cell? ⟨X, 1, none⟩ = some (.int .i64 t1) ∧ U.cell? ⟨X, 2, none⟩ = some (.int .i64 xt) ∧ U.cell? ⟨X, 3, none⟩ = some (.int .i64 xi) ∧ U.cell? ⟨X, 4, none⟩ = some (.int .i64 xp) ∧ U.cell? ⟨X, 5, none⟩ = some (.int .i64 xs) ∧ U.cell? ⟨X, 6, none⟩ = some (.string xb))) := fun U h1 h2 h3 => ⟨by rw [cell_of_row U P 3 _ _ _ h1]; rfl, (eleven_cells h2).1, (seven_cells h3).1⟩
    have HP8 := hid (own_map (own_keep HP.out hk0) hmb hO8.keep)
    have HF8 : Hid (∀ gg, gg < W.heap.size → PFar W M L gg → PFar w8 M (keepL ⟨f1, t1, i1, ⟨p1, q1, l1, wt1, fl1⟩, gm1, gp1, gl1⟩ L) gg) := hid (by
      intro gg hgg hf
      refine pfar_put HPB0.out.ends (hf.blk (HB.out.block M HW.out.ends.lt)) ⟨f1, t1, i1, ⟨p1, q1, l1, wt1, fl1⟩, gm1, gp1, gl1⟩ A2 c2 HH0.out HH1.out (sl_own (own_keep HO.out hk0)) Tryz.underlying58 hrun ?_
      intro _ b2 off2 hA2
      have h9 := own_blk_ge HO.out b2 (by rw [hA2]; rfl)
      omega)
    have HPA8 : Hid (PortAt w8 P M nd inc bd (keepL ⟨f1, t1, i1, ⟨p1, q1, l1, wt1, fl1⟩, gm1, gp1, gl1⟩ L)) := hid ⟨(hO8.keep P hPM (lt_of_block hblk)).trans hblk, hE8⟩
    have HO8 := hid (((Only.of_below (B := M) HB.out).trans (Only.of_below hk0)).trans hO8)
    have hz8 := (hO8.keep Z hZM (lt_of_block hz0)).trans hz0
    have hx8 := (hO8.keep X hXM (lt_of_block hx0)).trans hx0
    have hblk8 := HPA8.out.blk
    simp only [ec] at hrun
    have HE8 := hid (fun U (hU : Below w8.heap.size w8 U) => encoded_any B ps.length d ps U ((sl_own HP8.out).below hU) HPL.out HPB.out)
    clear HPB0 HPA HP HO hE8 hO8 hPM hZM hXM hmb HZ HX HB
    refine wp_region_held_drew (S := fun U => U.cell? ⟨P, 3, none⟩ = some (.map (some M)) ∧ (U.cell? ⟨Z, 0, none⟩ = some (.int .i64 f1) ∧ U.cell? ⟨Z, 1, none⟩ = some (.int .i64 t1) ∧ U.cell? ⟨Z, 2, none⟩ = some (.int .i64 i1) ∧ U.cell? ⟨Z, 3, none⟩ = some (.int .i64 p1) ∧ U.cell? ⟨Z, 4, none⟩ = some (.int .i64 q1) ∧ U.cell? ⟨Z, 5, none⟩ = some (.slice A2 l1.length c2) ∧ U.cell? ⟨Z, 6, none⟩ = some (.int .i64 wt1) ∧ U.cell? ⟨Z, 7, none⟩ = some (.int .i64 fl1) ∧ U.cell? ⟨Z, 8, none⟩ = some (.int .i64 gm1) ∧ U.cell? ⟨Z, 9, none⟩ = some (.int .i64 gp1) ∧ U.cell? ⟨Z, 10, none⟩ = some (.int .i64 gl1)) ∧ (U.cell? ⟨X, 0, none⟩ = some (.int .i64 xk) ∧ U.cell? ⟨X, 1, none⟩ = some (.int .i64 t1) ∧ U.cell? ⟨X, 2, none⟩ = some (.int .i64 xt) ∧ U.cell? ⟨X, 3, none⟩ = some (.int .i64 xi) ∧ U.cell? ⟨X, 4, none⟩ = some (.int .i64 xp) ∧ U.cell? ⟨X, 5, none⟩ = some (.int .i64 xs) ∧ U.cell? ⟨X, 6, none⟩ = some (.string xb))) (by kernel_rfl) (hS _ hblk hz0 hx0) (fun hHeld => ?_)
    clear hk0
    generalize wc.drew = k0 at *
    refine tkA 0 ?_ rfl ?_ (by assumption) ?_; rotate_left; focus (intro U hU; (try dsimp only at hU); go_simp; try (with_reducible rfl))
    simp only [gt6, Act.put]
    refine tkA 1 ?_ rfl ?_ (by assumption) ?_; rotate_left; focus (intro U hU; (try dsimp only at hU); go_simp; try (with_reducible rfl))
    simp only [gt6, Act.put]
    refine tkA 2 ?_ rfl ?_ (by assumption) ?_; rotate_left; focus (intro U hU; (try dsimp only at hU); go_simp; try (with_reducible rfl))
    simp only [gt6, Act.put]
    refine tkA 3 ?_ rfl ?_ (by assumption) ?_; rotate_left; focus (intro U hU; (try dsimp only at hU); go_simp; try (with_reducible rfl))
    simp only [gt6, Act.put]
    refine tkA 4 ?_ rfl ?_ (by assumption) ?_; rotate_left; focus (intro U hU; (try dsimp only at hU); go_simp; try (with_reducible rfl))
    simp only [gt6, Act.put]
    refine tkA 5 ?_ rfl ?_ (by assumption) ?_; rotate_left; focus (intro U hU; (try dsimp only at hU); go_simp; try (with_reducible rfl))
    simp only [gt6, Act.put]
    refine tkA 6 ?_ rfl ?_ (by assumption) ?_; rotate_left; focus (intro U hU; (try dsimp only at hU); go_simp; try (with_reducible rfl))
    simp only [gt6, Act.put]
    refine wpAnyH_ready (rs := [7]) (by kernel_rfl) (by simp) ?_
    refine AllReadyH.cons rfl (fun K hK => ?_) AllReadyH.nil
    simp only [gt3]
    go_simp
    refine hK.out _ _ ?_ (fun hHeld2 => ?_)
    focus
      exact hS _ hblk8 hz8 hx8
    clear hHeld
    have hHeld := hHeld2
    clear hHeld2 hK K
    try simp only [gt6, Act.put]
    refine wpAnyH_done (by kernel_rfl) ?_ _
    clear hHeld hS hblk hz0 hx0 hz8 hblk8 hrun
    have HX8 := hid hx8
    clear hx8
    go_upto_region 10 with (fail)
    have hk0 : Below w8.heap.size w8 w8.drew := below_drew (Below.refl _ _)
    have hS : ∀ U, Below w8.heap.size w8 U → ((U.cell? ⟨X, 0, none⟩ = some (.int .i64 xk) ∧ U.cell? ⟨X, 1, none⟩ = some (.int .i64 t1) ∧ U.cell? ⟨X, 2, none⟩ = some (.int .i64 xt) ∧ U.cell? ⟨X, 3, none⟩ = some (.int .i64 xi) ∧ U.cell? ⟨X, 4, none⟩ = some (.int .i64 xp) ∧ U.cell? ⟨X, 5, none⟩ = some (.int .i64 xs) ∧ U.cell? ⟨X, 6, none⟩ = some (.string xb))) := fun U hU => (seven_cells (keep0 HX8.out hU)).1
    refine wp_region_held_drew (S := fun U => (U.cell? ⟨X, 0, none⟩ = some (.int .i64 xk) ∧ U.cell? ⟨X, 1, none⟩ = some (.int .i64 t1) ∧ U.cell? ⟨X, 2, none⟩ = some (.int .i64 xt) ∧ U.cell? ⟨X, 3, none⟩ = some (.int .i64 xi) ∧ U.cell? ⟨X, 4, none⟩ = some (.int .i64 xp) ∧ U.cell? ⟨X, 5, none⟩ = some (.int .i64 xs) ∧ U.cell? ⟨X, 6, none⟩ = some (.string xb))) (by kernel_rfl) (hS _ hk0) (fun hHeld => ?_)
    generalize w8.drew = k0 at *
    refine tkA 0 ?_ rfl ?_ (by assumption) ?_; rotate_left; focus (intro U hU; (try dsimp only at hU); go_simp; try (with_reducible rfl))
    simp only [gt6, Act.put]
    refine tkA 1 ?_ rfl ?_ (by assumption) ?_; rotate_left; focus (intro U hU; (try dsimp only at hU); go_simp; try (with_reducible rfl))
    simp only [gt6, Act.put]
    refine tkA 2 ?_ rfl ?_ (by assumption) ?_; rotate_left; focus (intro U hU; (try dsimp only at hU); go_simp; try (with_reducible rfl))
    simp only [gt6, Act.put]
    refine tkA 3 ?_ rfl ?_ (by assumption) ?_; rotate_left; focus (intro U hU; (try dsimp only at hU); go_simp; try (with_reducible rfl))
    simp only [gt6, Act.put]
    refine wpAnyH_ready (rs := [4]) (by kernel_rfl) (by simp) ?_
    refine AllReadyH.cons rfl (fun K hK => ?_) AllReadyH.nil
    simp only [gt3]
    go_simp
    refine (HE8.out k0 hk0).mono ?_
    rintro qe w9 ⟨v, rfl, ho9, hb9⟩
    obtain ⟨A9, c9, rfl, -⟩ := Sl.of_own ho9
    have HR9 := hid (own_mono ho9 (Nat.le_trans HO8.out.size hk0.size))
    have hk1 := hk0.trans (hb9.mono hk0.size)
    clear ho9 hb9
    go_wp2_with fail
    refine hK.out _ _ ?_ (fun hHeld2 => ?_)
    focus
      exact hS _ hk1
    clear hHeld
    have hHeld := hHeld2
    clear hHeld2 hK K
    try simp only [gt6, Act.put]
    refine tkA 5 ?_ rfl ?_ (by assumption) ?_; rotate_left; focus (intro U hU; (try dsimp only at hU); go_simp; try (with_reducible rfl))
    simp only [gt6, Act.put]
    refine tkA 6 ?_ rfl ?_ (by assumption) ?_; rotate_left; focus (intro U hU; (try dsimp only at hU); go_simp; try (with_reducible rfl))
    simp only [gt6, Act.put]
    refine tkA 7 ?_ rfl ?_ (by assumption) ?_; rotate_left; focus (intro U hU; (try dsimp only at hU); go_simp; try (with_reducible rfl))
    simp only [gt6, Act.put]
    refine tkA 8 ?_ rfl ?_ (by assumption) ?_; rotate_left; focus (intro U hU; (try dsimp only at hU); go_simp; try (with_reducible rfl))
    simp only [gt6, Act.put]
    refine wpAnyH_done (by kernel_rfl) ?_ _
    clear hHeld hS
    have HPA9 := hid (HPA8.out.below hk1)
    have HO9 := hid (HO8.out.trans (Only.of_below hk1))
    have HF9 := hid (fun gg (h1 : gg < W.heap.size) (h2 : PFar W M L gg) => (HF8.out gg h1 h2).blk (hk1.block M HPA8.out.ends.lt))
    clear hk1 HE8 HPA8 HO8 HF8
    go_wp2
    refine bodyPost_ret (v := .tuple #[.int .i64 t1, .string tx, .slice A9 ps.length c9, .int .i64 0]) (by simp [results, Tryz.results13, go_sem]) rfl ⟨A9, c9, ?_, ?_, ?_, HO9.out, fun gg h1 h2 => by rw [HVV.out]; exact HF9.out gg h1 h2⟩
    · rw [HVV.out]
      simp only [List.length_map]
    · rw [HVV.out]
      simp only [List.length_map]
      exact HR9.out
    · rw [HVV.out]
      exact HPA9.out
  have hS : ∀ U, Below w3.heap.size w3 U → ((U.cell? ⟨X, 0, none⟩ = some (.int .i64 xk) ∧ U.cell? ⟨X, 1, none⟩ = some (.int .i64 t1) ∧ U.cell? ⟨X, 2, none⟩ = some (.int .i64 xt) ∧ U.cell? ⟨X, 3, none⟩ = some (.int .i64 xi) ∧ U.cell? ⟨X, 4, none⟩ = some (.int .i64 xp) ∧ U.cell? ⟨X, 5, none⟩ = some (.int .i64 xs) ∧ U.cell? ⟨X, 6, none⟩ = some (.string xb))) := fun U hU => (seven_cells (keep0 HX3.out hU)).1
  have hk0 : Below w3.heap.size w3 w3.drew := below_drew (Below.refl _ _)
  refine wp_region_held_drew (S := fun U => (U.cell? ⟨X, 0, none⟩ = some (.int .i64 xk) ∧ U.cell? ⟨X, 1, none⟩ = some (.int .i64 t1) ∧ U.cell? ⟨X, 2, none⟩ = some (.int .i64 xt) ∧ U.cell? ⟨X, 3, none⟩ = some (.int .i64 xi) ∧ U.cell? ⟨X, 4, none⟩ = some (.int .i64 xp) ∧ U.cell? ⟨X, 5, none⟩ = some (.int .i64 xs) ∧ U.cell? ⟨X, 6, none⟩ = some (.string xb))) (by kernel_rfl) (hS _ hk0) (fun hHeld => ?_)
  generalize w3.drew = k0 at *
  refine tkA 0 ?_ rfl ?_ (by assumption) ?_; rotate_left; focus (intro U hU; (try dsimp only at hU); go_simp; try (with_reducible rfl))
  simp only [gt6, Act.put]
  refine tkA 1 ?_ rfl ?_ (by assumption) ?_; rotate_left; focus (intro U hU; (try dsimp only at hU); go_simp; try (with_reducible rfl))
  simp only [gt6, Act.put]
  refine tkA 2 ?_ rfl ?_ (by assumption) ?_; rotate_left; focus (intro U hU; (try dsimp only at hU); go_simp; try (with_reducible rfl))
  simp only [gt6, Act.put]
  refine tkA 4 ?_ rfl ?_ (by assumption) ?_; rotate_left; focus (intro U hU; (try dsimp only at hU); go_simp; try (with_reducible rfl))
  simp only [gt6, Act.put]
  refine wpAnyH_ready (rs := [3, 11]) (by kernel_rfl) (by simp) ?_
  refine (AllReadyH.cons rfl (fun K hK => ?_) (AllReadyH.cons rfl (fun K hK => ?_) AllReadyH.nil))
  · skip
    simp only [gt3]
    go_simp
    refine (HEND.out k0 (HB3.out.trans (hk0.mono HB3.out.size))).mono ?_
    rintro qe k1 ⟨A1, c1, rfl, hs1, hb1⟩
    replace hk0 := hk0.trans (hb1.mono hk0.size)
    have HS1 := hid hs1
    clear hs1 hb1
    go_wp2_with fail
    refine hK.out _ _ ?_ (fun hHeld2 => ?_)
    focus
      exact hS _ hk0
    clear hHeld
    have hHeld := hHeld2
    clear hHeld2 hK K
    try simp only [gt6, Act.put]
    refine wpAnyH_ready (rs := [5, 11]) (by kernel_rfl) (by simp) ?_
    refine (AllReadyH.cons rfl (fun K hK => ?_) (AllReadyH.cons rfl (fun K hK => ?_) AllReadyH.nil))
    · skip
      simp only [gt3]
      go_simp
      refine (HTK.out A1 c1 k1 HS1.out).mono ?_
      rintro qe k3 ⟨A2, c2, B2, d2, rfl, ho2, hp2, hb2⟩
      have HO : Hid (k3.ownsRow w3.heap.size 9 1 (.slice A2 l1.length c2) l1.length (scells l1)) := hid (own_mono ho2 hk0.size)
      simp only [ec]
      have HP : Hid (OwnP w3 k3 (.slice B2 ps.length d2) ps) := hid (own_mono hp2 hk0.size)
      replace hk0 := hk0.trans (hb2.mono hk0.size)
      clear ho2 hp2 hb2
      go_wp2_with fail
      refine hK.out _ _ ?_ (fun hHeld2 => ?_)
      focus
        exact hS _ hk0
      clear hHeld
      have hHeld := hHeld2
      clear hHeld2 hK K
      try simp only [gt6, Act.put]
      refine tkA 6 ?_ rfl ?_ (by assumption) ?_; rotate_left; focus (intro U hU; (try dsimp only at hU); go_simp; try (with_reducible rfl))
      simp only [gt6, Act.put]
      refine tkA 7 ?_ rfl ?_ (by assumption) ?_; rotate_left; focus (intro U hU; (try dsimp only at hU); go_simp; try (with_reducible rfl))
      simp only [gt6, Act.put]
      refine tkA 8 ?_ rfl ?_ (by assumption) ?_; rotate_left; focus (intro U hU; (try dsimp only at hU); go_simp; try (with_reducible rfl))
      simp only [gt6, Act.put]
      refine tkA 9 ?_ rfl ?_ (by assumption) ?_; rotate_left; focus (intro U hU; (try dsimp only at hU); go_simp; try (with_reducible rfl))
      simp only [gt6, Act.put]
      refine tkA 10 ?_ rfl ?_ (by assumption) ?_; rotate_left; focus (intro U hU; (try dsimp only at hU); go_simp; try (with_reducible rfl))
      simp only [gt6, Act.put]
      refine wpAnyH_ready (rs := [11]) (by kernel_rfl) (by simp) ?_
      refine (AllReadyH.cons rfl (fun K hK => ?_) AllReadyH.nil)
      have hbs : Below (World.heap k3).size k3 (k3.alloc (.cells #[.int .i64 0, .int .i64 0, .int .i64 0, .int .i64 0, .int .i64 0, .slice none 0 0, .int .i64 0, .int .i64 0, .int .i64 0, .int .i64 0, .int .i64 0] 71)) := (Below.refl _ _).alloc (Nat.le_refl _) _
      have HZ : Hid ((k3.alloc (.cells #[.int .i64 0, .int .i64 0, .int .i64 0, .int .i64 0, .int .i64 0, .slice none 0 0, .int .i64 0, .int .i64 0, .int .i64 0, .int .i64 0, .int .i64 0] 71)).heap[(World.heap k3).size]? = some (.cells #[.int .i64 0, .int .i64 0, .int .i64 0, .int .i64 0, .int .i64 0, .slice none 0 0, .int .i64 0, .int .i64 0, .int .i64 0, .int .i64 0, .int .i64 0] 71 (0, 0))) := hid (heap_alloc_new _ _)
      have HZZ : Hid (w3.heap.size ≤ (World.heap k3).size) := hid hk0.size
      replace hk0 := hk0.trans (hbs.mono hk0.size)
      have HO9 := hid (own_keep HO.out hbs)
      have HP9 : Hid (OwnP w3 (k3.alloc (.cells #[.int .i64 0, .int .i64 0, .int .i64 0, .int .i64 0, .int .i64 0, .slice none 0 0, .int .i64 0, .int .i64 0, .int .i64 0, .int .i64 0, .int .i64 0] 71)) (.slice B2 ps.length d2) ps) := hid (own_keep HP.out hbs)
      clear HO HP
      have HO := HO9
      have HP := HP9
      clear HO9 HP9
      clear hbs
      simp only [gt3]
      go_simp
      refine hK.out _ _ ?_ (fun hHeld2 => ?_)
      focus
        exact hS _ hk0
      clear hHeld
      have hHeld := hHeld2
      clear hHeld2 hK K
      try simp only [gt6, Act.put]
      generalize (k3.alloc (.cells #[.int .i64 0, .int .i64 0, .int .i64 0, .int .i64 0, .int .i64 0, .slice none 0 0, .int .i64 0, .int .i64 0, .int .i64 0, .int .i64 0, .int .i64 0] 71)) = k5 at *
      generalize (World.heap k3).size = ZB at *
      refine wpAnyH_ready (rs := [12]) (by kernel_rfl) (by simp) ?_
      refine (AllReadyH.cons rfl (fun K hK => ?_) AllReadyH.nil)
      obtain ⟨⟨d0, d1, d2, d3, d4, d5, d6, d7, d8, d9, d10⟩, ⟨g0, g1, g2, g3, g4, g5, g6, g7, g8, g9, g10⟩⟩ := eleven_cells HZ.out
      simp only [gt3]
      go_simp
      clear d0 d1 d2 d3 d4 d5 d6 d7 d8 d9 d10 g0 g1 g2 g3 g4 g5 g6 g7 g8 g9 g10
      refine hK.out _ _ ?_ (fun hHeld2 => ?_)
      focus
        exact hS _ (put11_below hk0 HZZ.out (.int .i64 f1) (.int .i64 t1) (.int .i64 i1) (.int .i64 p1) (.int .i64 q1) (.slice A2 l1.length c2) (.int .i64 wt1) (.int .i64 fl1) (.int .i64 gm1) (.int .i64 gp1) (.int .i64 gl1))
      clear hHeld
      have hHeld := hHeld2
      clear hHeld2 hK K
      try simp only [gt6, Act.put]
      refine tkA 13 ?_ rfl ?_ (by assumption) ?_; rotate_left; focus (intro U hU; (try dsimp only at hU); go_simp; try (with_reducible rfl))
      simp only [gt6, Act.put]
      refine tkA 14 ?_ rfl ?_ (by assumption) ?_; rotate_left; focus (intro U hU; (try dsimp only at hU); go_simp; try (with_reducible rfl))
      simp only [gt6, Act.put]
      refine tkA 15 ?_ rfl ?_ (by assumption) ?_; rotate_left; focus (intro U hU; (try dsimp only at hU); go_simp; try (with_reducible rfl))
      simp only [gt6, Act.put]
      refine wpAnyH_done (by kernel_rfl) ?_ _
      have hz9 := put11_heap HZ.out (.int .i64 f1) (.int .i64 t1) (.int .i64 i1) (.int .i64 p1) (.int .i64 q1) (.slice A2 l1.length c2) (.int .i64 wt1) (.int .i64 fl1) (.int .i64 gm1) (.int .i64 gp1) (.int .i64 gl1)
      have hb9 := HB3.out.trans ((put11_below hk0 HZZ.out (.int .i64 f1) (.int .i64 t1) (.int .i64 i1) (.int .i64 p1) (.int .i64 q1) (.slice A2 l1.length c2) (.int .i64 wt1) (.int .i64 fl1) (.int .i64 gm1) (.int .i64 gp1) (.int .i64 gl1)).mono HB3.out.size)
      have hx9 := keep0 HX3.out (put11_below hk0 HZZ.out (.int .i64 f1) (.int .i64 t1) (.int .i64 i1) (.int .i64 p1) (.int .i64 q1) (.slice A2 l1.length c2) (.int .i64 wt1) (.int .i64 fl1) (.int .i64 gm1) (.int .i64 gp1) (.int .i64 gl1))
      have ho9 := own_mono (own_at HO.out HZ.out (by decide) fun g hg => put11_other (w := k5) (b := ZB) hg (.int .i64 f1) (.int .i64 t1) (.int .i64 i1) (.int .i64 p1) (.int .i64 q1) (.slice A2 l1.length c2) (.int .i64 wt1) (.int .i64 fl1) (.int .i64 gm1) (.int .i64 gp1) (.int .i64 gl1)) HB3.out.size
      have hp9 : OwnP W (put11 k5 ZB (.int .i64 f1) (.int .i64 t1) (.int .i64 i1) (.int .i64 p1) (.int .i64 q1) (.slice A2 l1.length c2) (.int .i64 wt1) (.int .i64 fl1) (.int .i64 gm1) (.int .i64 gp1) (.int .i64 gl1)) (.slice B2 ps.length d2) ps := own_mono (own_at HP.out HZ.out (by decide) fun g hg => put11_other (w := k5) (b := ZB) hg (.int .i64 f1) (.int .i64 t1) (.int .i64 i1) (.int .i64 p1) (.int .i64 q1) (.slice A2 l1.length c2) (.int .i64 wt1) (.int .i64 fl1) (.int .i64 gm1) (.int .i64 gp1) (.int .i64 gl1)) HB3.out.size
      clear hHeld hS HZ HO HP hk0
      go_wp2_with fail
      go_meet
      exact ⟨_, _, _, _, _, rfl, rfl, rfl, rfl, hz9, hx9, ho9, hp9, hb9⟩
    · skip
      have hbs : Below (World.heap k1).size k1 (k1.alloc (.cells #[.int .i64 0, .int .i64 0, .int .i64 0, .int .i64 0, .int .i64 0, .slice none 0 0, .int .i64 0, .int .i64 0, .int .i64 0, .int .i64 0, .int .i64 0] 71)) := (Below.refl _ _).alloc (Nat.le_refl _) _
      have HZ : Hid ((k1.alloc (.cells #[.int .i64 0, .int .i64 0, .int .i64 0, .int .i64 0, .int .i64 0, .slice none 0 0, .int .i64 0, .int .i64 0, .int .i64 0, .int .i64 0, .int .i64 0] 71)).heap[(World.heap k1).size]? = some (.cells #[.int .i64 0, .int .i64 0, .int .i64 0, .int .i64 0, .int .i64 0, .slice none 0 0, .int .i64 0, .int .i64 0, .int .i64 0, .int .i64 0, .int .i64 0] 71 (0, 0))) := hid (heap_alloc_new _ _)
      have HZZ : Hid (w3.heap.size ≤ (World.heap k1).size) := hid hk0.size
      replace hk0 := hk0.trans (hbs.mono hk0.size)
      have HS9 := hid (HS1.out.below hbs)
      clear HS1
      have HS1 := HS9
      clear HS9
      clear hbs
      simp only [gt3]
      go_simp
      refine hK.out _ _ ?_ (fun hHeld2 => ?_)
      focus
        exact hS _ hk0
      clear hHeld
      have hHeld := hHeld2
      clear hHeld2 hK K
      try simp only [gt6, Act.put]
      generalize (k1.alloc (.cells #[.int .i64 0, .int .i64 0, .int .i64 0, .int .i64 0, .int .i64 0, .slice none 0 0, .int .i64 0, .int .i64 0, .int .i64 0, .int .i64 0, .int .i64 0] 71)) = k4 at *
      generalize (World.heap k1).size = ZB at *
      refine wpAnyH_ready (rs := [5]) (by kernel_rfl) (by simp) ?_
      refine (AllReadyH.cons rfl (fun K hK => ?_) AllReadyH.nil)
      simp only [gt3]
      go_simp
      refine (HTK.out A1 c1 k4 HS1.out).mono ?_
      rintro qe k6 ⟨A2, c2, B2, d2, rfl, ho2, hp2, hb2⟩
      have HO : Hid (k6.ownsRow w3.heap.size 9 1 (.slice A2 l1.length c2) l1.length (scells l1)) := hid (own_mono ho2 hk0.size)
      simp only [ec]
      have HP : Hid (OwnP w3 k6 (.slice B2 ps.length d2) ps) := hid (own_mono hp2 hk0.size)
      replace hk0 := hk0.trans (hb2.mono hk0.size)
      have HZ9 := hid (keep0 HZ.out hb2)
      clear HZ
      have HZ := HZ9
      clear HZ9
      clear ho2 hp2 hb2
      go_wp2_with fail
      refine hK.out _ _ ?_ (fun hHeld2 => ?_)
      focus
        exact hS _ hk0
      clear hHeld
      have hHeld := hHeld2
      clear hHeld2 hK K
      try simp only [gt6, Act.put]
      refine tkA 6 ?_ rfl ?_ (by assumption) ?_; rotate_left; focus (intro U hU; (try dsimp only at hU); go_simp; try (with_reducible rfl))
      simp only [gt6, Act.put]
      refine tkA 7 ?_ rfl ?_ (by assumption) ?_; rotate_left; focus (intro U hU; (try dsimp only at hU); go_simp; try (with_reducible rfl))
      simp only [gt6, Act.put]
      refine tkA 8 ?_ rfl ?_ (by assumption) ?_; rotate_left; focus (intro U hU; (try dsimp only at hU); go_simp; try (with_reducible rfl))
      simp only [gt6, Act.put]
      refine tkA 9 ?_ rfl ?_ (by assumption) ?_; rotate_left; focus (intro U hU; (try dsimp only at hU); go_simp; try (with_reducible rfl))
      simp only [gt6, Act.put]
      refine tkA 10 ?_ rfl ?_ (by assumption) ?_; rotate_left; focus (intro U hU; (try dsimp only at hU); go_simp; try (with_reducible rfl))
      simp only [gt6, Act.put]
      refine wpAnyH_ready (rs := [12]) (by kernel_rfl) (by simp) ?_
      refine (AllReadyH.cons rfl (fun K hK => ?_) AllReadyH.nil)
      obtain ⟨⟨d0, d1, d2, d3, d4, d5, d6, d7, d8, d9, d10⟩, ⟨g0, g1, g2, g3, g4, g5, g6, g7, g8, g9, g10⟩⟩ := eleven_cells HZ.out
      simp only [gt3]
      go_simp
      clear d0 d1 d2 d3 d4 d5 d6 d7 d8 d9 d10 g0 g1 g2 g3 g4 g5 g6 g7 g8 g9 g10
      refine hK.out _ _ ?_ (fun hHeld2 => ?_)
      focus
        exact hS _ (put11_below hk0 HZZ.out (.int .i64 f1) (.int .i64 t1) (.int .i64 i1) (.int .i64 p1) (.int .i64 q1) (.slice A2 l1.length c2) (.int .i64 wt1) (.int .i64 fl1) (.int .i64 gm1) (.int .i64 gp1) (.int .i64 gl1))
      clear hHeld
      have hHeld := hHeld2
      clear hHeld2 hK K
      try simp only [gt6, Act.put]
      refine tkA 13 ?_ rfl ?_ (by assumption) ?_; rotate_left; focus (intro U hU; (try dsimp only at hU); go_simp; try (with_reducible rfl))
      simp only [gt6, Act.put]
      refine tkA 14 ?_ rfl ?_ (by assumption) ?_; rotate_left; focus (intro U hU; (try dsimp only at hU); go_simp; try (with_reducible rfl))
      simp only [gt6, Act.put]
      refine tkA 15 ?_ rfl ?_ (by assumption) ?_; rotate_left; focus (intro U hU; (try dsimp only at hU); go_simp; try (with_reducible rfl))
      simp only [gt6, Act.put]
      refine wpAnyH_done (by kernel_rfl) ?_ _
      have hz9 := put11_heap HZ.out (.int .i64 f1) (.int .i64 t1) (.int .i64 i1) (.int .i64 p1) (.int .i64 q1) (.slice A2 l1.length c2) (.int .i64 wt1) (.int .i64 fl1) (.int .i64 gm1) (.int .i64 gp1) (.int .i64 gl1)
      have hb9 := HB3.out.trans ((put11_below hk0 HZZ.out (.int .i64 f1) (.int .i64 t1) (.int .i64 i1) (.int .i64 p1) (.int .i64 q1) (.slice A2 l1.length c2) (.int .i64 wt1) (.int .i64 fl1) (.int .i64 gm1) (.int .i64 gp1) (.int .i64 gl1)).mono HB3.out.size)
      have hx9 := keep0 HX3.out (put11_below hk0 HZZ.out (.int .i64 f1) (.int .i64 t1) (.int .i64 i1) (.int .i64 p1) (.int .i64 q1) (.slice A2 l1.length c2) (.int .i64 wt1) (.int .i64 fl1) (.int .i64 gm1) (.int .i64 gp1) (.int .i64 gl1))
      have ho9 := own_mono (own_at HO.out HZ.out (by decide) fun g hg => put11_other (w := k6) (b := ZB) hg (.int .i64 f1) (.int .i64 t1) (.int .i64 i1) (.int .i64 p1) (.int .i64 q1) (.slice A2 l1.length c2) (.int .i64 wt1) (.int .i64 fl1) (.int .i64 gm1) (.int .i64 gp1) (.int .i64 gl1)) HB3.out.size
      have hp9 : OwnP W (put11 k6 ZB (.int .i64 f1) (.int .i64 t1) (.int .i64 i1) (.int .i64 p1) (.int .i64 q1) (.slice A2 l1.length c2) (.int .i64 wt1) (.int .i64 fl1) (.int .i64 gm1) (.int .i64 gp1) (.int .i64 gl1)) (.slice B2 ps.length d2) ps := own_mono (own_at HP.out HZ.out (by decide) fun g hg => put11_other (w := k6) (b := ZB) hg (.int .i64 f1) (.int .i64 t1) (.int .i64 i1) (.int .i64 p1) (.int .i64 q1) (.slice A2 l1.length c2) (.int .i64 wt1) (.int .i64 fl1) (.int .i64 gm1) (.int .i64 gp1) (.int .i64 gl1)) HB3.out.size
      clear hHeld hS HZ HO HP hk0
      go_wp2_with fail
      go_meet
      exact ⟨_, _, _, _, _, rfl, rfl, rfl, rfl, hz9, hx9, ho9, hp9, hb9⟩
  · skip
    have hbs : Below (World.heap k0).size k0 (k0.alloc (.cells #[.int .i64 0, .int .i64 0, .int .i64 0, .int .i64 0, .int .i64 0, .slice none 0 0, .int .i64 0, .int .i64 0, .int .i64 0, .int .i64 0, .int .i64 0] 71)) := (Below.refl _ _).alloc (Nat.le_refl _) _
    have HZ : Hid ((k0.alloc (.cells #[.int .i64 0, .int .i64 0, .int .i64 0, .int .i64 0, .int .i64 0, .slice none 0 0, .int .i64 0, .int .i64 0, .int .i64 0, .int .i64 0, .int .i64 0] 71)).heap[(World.heap k0).size]? = some (.cells #[.int .i64 0, .int .i64 0, .int .i64 0, .int .i64 0, .int .i64 0, .slice none 0 0, .int .i64 0, .int .i64 0, .int .i64 0, .int .i64 0, .int .i64 0] 71 (0, 0))) := hid (heap_alloc_new _ _)
    have HZZ : Hid (w3.heap.size ≤ (World.heap k0).size) := hid hk0.size
    replace hk0 := hk0.trans (hbs.mono hk0.size)
    clear hbs
    simp only [gt3]
    go_simp
    refine hK.out _ _ ?_ (fun hHeld2 => ?_)
    focus
      exact hS _ hk0
    clear hHeld
    have hHeld := hHeld2
    clear hHeld2 hK K
    try simp only [gt6, Act.put]
    generalize (k0.alloc (.cells #[.int .i64 0, .int .i64 0, .int .i64 0, .int .i64 0, .int .i64 0, .slice none 0 0, .int .i64 0, .int .i64 0, .int .i64 0, .int .i64 0, .int .i64 0] 71)) = k2 at *
    generalize (World.heap k0).size = ZB at *
    refine wpAnyH_ready (rs := [3]) (by kernel_rfl) (by simp) ?_
    refine (AllReadyH.cons rfl (fun K hK => ?_) AllReadyH.nil)
    simp only [gt3]
    go_simp
    refine (HEND.out k2 (HB3.out.trans (hk0.mono HB3.out.size))).mono ?_
    rintro qe k7 ⟨A1, c1, rfl, hs1, hb1⟩
    replace hk0 := hk0.trans (hb1.mono hk0.size)
    have HS1 := hid hs1
    have HZ9 := hid (keep0 HZ.out hb1)
    clear HZ
    have HZ := HZ9
    clear HZ9
    clear hs1 hb1
    go_wp2_with fail
    refine hK.out _ _ ?_ (fun hHeld2 => ?_)
    focus
      exact hS _ hk0
    clear hHeld
    have hHeld := hHeld2
    clear hHeld2 hK K
    try simp only [gt6, Act.put]
    refine wpAnyH_ready (rs := [5]) (by kernel_rfl) (by simp) ?_
    refine (AllReadyH.cons rfl (fun K hK => ?_) AllReadyH.nil)
    simp only [gt3]
    go_simp
    refine (HTK.out A1 c1 k7 HS1.out).mono ?_
    rintro qe k8 ⟨A2, c2, B2, d2, rfl, ho2, hp2, hb2⟩
    have HO : Hid (k8.ownsRow w3.heap.size 9 1 (.slice A2 l1.length c2) l1.length (scells l1)) := hid (own_mono ho2 hk0.size)
    simp only [ec]
    have HP : Hid (OwnP w3 k8 (.slice B2 ps.length d2) ps) := hid (own_mono hp2 hk0.size)
    replace hk0 := hk0.trans (hb2.mono hk0.size)
    have HZ9 := hid (keep0 HZ.out hb2)
    clear HZ
    have HZ := HZ9
    clear HZ9
    clear ho2 hp2 hb2
    go_wp2_with fail
    refine hK.out _ _ ?_ (fun hHeld2 => ?_)
    focus
      exact hS _ hk0
    clear hHeld
    have hHeld := hHeld2
    clear hHeld2 hK K
    try simp only [gt6, Act.put]
    refine tkA 6 ?_ rfl ?_ (by assumption) ?_; rotate_left; focus (intro U hU; (try dsimp only at hU); go_simp; try (with_reducible rfl))
    simp only [gt6, Act.put]
    refine tkA 7 ?_ rfl ?_ (by assumption) ?_; rotate_left; focus (intro U hU; (try dsimp only at hU); go_simp; try (with_reducible rfl))
    simp only [gt6, Act.put]
    refine tkA 8 ?_ rfl ?_ (by assumption) ?_; rotate_left; focus (intro U hU; (try dsimp only at hU); go_simp; try (with_reducible rfl))
    simp only [gt6, Act.put]
    refine tkA 9 ?_ rfl ?_ (by assumption) ?_; rotate_left; focus (intro U hU; (try dsimp only at hU); go_simp; try (with_reducible rfl))
    simp only [gt6, Act.put]
    refine tkA 10 ?_ rfl ?_ (by assumption) ?_; rotate_left; focus (intro U hU; (try dsimp only at hU); go_simp; try (with_reducible rfl))
    simp only [gt6, Act.put]
    refine wpAnyH_ready (rs := [12]) (by kernel_rfl) (by simp) ?_
    refine (AllReadyH.cons rfl (fun K hK => ?_) AllReadyH.nil)
    obtain ⟨⟨d0, d1, d2, d3, d4, d5, d6, d7, d8, d9, d10⟩, ⟨g0, g1, g2, g3, g4, g5, g6, g7, g8, g9, g10⟩⟩ := eleven_cells HZ.out
    simp only [gt3]
    go_simp
    clear d0 d1 d2 d3 d4 d5 d6 d7 d8 d9 d10 g0 g1 g2 g3 g4 g5 g6 g7 g8 g9 g10
    refine hK.out _ _ ?_ (fun hHeld2 => ?_)
    focus
      exact hS _ (put11_below hk0 HZZ.out (.int .i64 f1) (.int .i64 t1) (.int .i64 i1) (.int .i64 p1) (.int .i64 q1) (.slice A2 l1.length c2) (.int .i64 wt1) (.int .i64 fl1) (.int .i64 gm1) (.int .i64 gp1) (.int .i64 gl1))
    clear hHeld
    have hHeld := hHeld2
    clear hHeld2 hK K
    try simp only [gt6, Act.put]
    refine tkA 13 ?_ rfl ?_ (by assumption) ?_; rotate_left; focus (intro U hU; (try dsimp only at hU); go_simp; try (with_reducible rfl))
    simp only [gt6, Act.put]
    refine tkA 14 ?_ rfl ?_ (by assumption) ?_; rotate_left; focus (intro U hU; (try dsimp only at hU); go_simp; try (with_reducible rfl))
    simp only [gt6, Act.put]
    refine tkA 15 ?_ rfl ?_ (by assumption) ?_; rotate_left; focus (intro U hU; (try dsimp only at hU); go_simp; try (with_reducible rfl))
    simp only [gt6, Act.put]
    refine wpAnyH_done (by kernel_rfl) ?_ _
    have hz9 := put11_heap HZ.out (.int .i64 f1) (.int .i64 t1) (.int .i64 i1) (.int .i64 p1) (.int .i64 q1) (.slice A2 l1.length c2) (.int .i64 wt1) (.int .i64 fl1) (.int .i64 gm1) (.int .i64 gp1) (.int .i64 gl1)
    have hb9 := HB3.out.trans ((put11_below hk0 HZZ.out (.int .i64 f1) (.int .i64 t1) (.int .i64 i1) (.int .i64 p1) (.int .i64 q1) (.slice A2 l1.length c2) (.int .i64 wt1) (.int .i64 fl1) (.int .i64 gm1) (.int .i64 gp1) (.int .i64 gl1)).mono HB3.out.size)
    have hx9 := keep0 HX3.out (put11_below hk0 HZZ.out (.int .i64 f1) (.int .i64 t1) (.int .i64 i1) (.int .i64 p1) (.int .i64 q1) (.slice A2 l1.length c2) (.int .i64 wt1) (.int .i64 fl1) (.int .i64 gm1) (.int .i64 gp1) (.int .i64 gl1))
    have ho9 := own_mono (own_at HO.out HZ.out (by decide) fun g hg => put11_other (w := k8) (b := ZB) hg (.int .i64 f1) (.int .i64 t1) (.int .i64 i1) (.int .i64 p1) (.int .i64 q1) (.slice A2 l1.length c2) (.int .i64 wt1) (.int .i64 fl1) (.int .i64 gm1) (.int .i64 gp1) (.int .i64 gl1)) HB3.out.size
    have hp9 : OwnP W (put11 k8 ZB (.int .i64 f1) (.int .i64 t1) (.int .i64 i1) (.int .i64 p1) (.int .i64 q1) (.slice A2 l1.length c2) (.int .i64 wt1) (.int .i64 fl1) (.int .i64 gm1) (.int .i64 gp1) (.int .i64 gl1)) (.slice B2 ps.length d2) ps := own_mono (own_at HP.out HZ.out (by decide) fun g hg => put11_other (w := k8) (b := ZB) hg (.int .i64 f1) (.int .i64 t1) (.int .i64 i1) (.int .i64 p1) (.int .i64 q1) (.slice A2 l1.length c2) (.int .i64 wt1) (.int .i64 fl1) (.int .i64 gm1) (.int .i64 gp1) (.int .i64 gl1)) HB3.out.size
    clear hHeld hS HZ HO HP hk0
    go_wp2_with fail
    go_meet
    exact ⟨_, _, _, _, _, rfl, rfl, rfl, rfl, hz9, hx9, ho9, hp9, hb9⟩
theorem ptake_any {P M : Nat} {nd inc bd : Int} {L : List Ev} (s : List UInt8) (W : World) (h : PortAt W P M nd inc bd L) (hG : ∀ e ∈ L, GdE e) (hs : s.length ≤ 1000) :
    Calls Tryz.prog 13 #[.pointer (some ⟨P, 0, none⟩), .string (str s)] W (PTakR W P M nd inc bd L (ptakV nd inc L s)) := by
  by_cases he : opE s = 0
  · exact ptake_in s W h hG hs he
  · exact ptake_no s W h hs he
end Go.Proofs.YtdphdodjidbngaaGreat

