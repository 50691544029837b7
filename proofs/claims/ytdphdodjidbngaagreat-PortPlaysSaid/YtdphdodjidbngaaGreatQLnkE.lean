/- link.takeData: contract. -/
import Derived.Test.YtdphdodjidbngaaGreatQGt
import Derived.Test.YtdphdodjidbngaaGreatQLnkD
import Derived.Test.YtdphdodjidbngaaGreatSnP
namespace Go.Proofs.YtdphdodjidbngaaGreat
open Go.RowKit Go.Sort
set_option linter.unusedVariables false
set_option linter.unusedSimpArgs false

/-- What the gate says of a packet of data, when the end has learned. -/
def clsD (e : Ev) (x : Pk) : Int := gC e.m (gP e.p x.i) (gL e.p e.l x.i) x.i x.p x.s
def dend (e : Ev) (x : Pk) : Ev := ⟨e.f, e.t, e.i, (lrnV e.o x.i).1, e.m, gP (gP e.p x.i) x.i, gN e.m (gP e.p x.i) (gL e.p e.l x.i) x.i x.p x.s⟩
def ansD (e : Ev) (x : Pk) : List Pk := if clsD e x = 1 ∨ clsD e x = 2 then [⟨2, e.f, e.t, e.i, x.i, x.s, []⟩] else if clsD e x = 3 then [⟨3, e.f, e.t, e.i, x.i, 0, []⟩] else []
def datE (e : Ev) (x : Pk) : Ev × List Pk := (dend e x, (lrnE e x.i).2 ++ ansD e x)
/-- What a call answers that gives an end, a text, whether it has come, packets. -/
def TakR (r : Ev × List Pk) (tx : ByteArray) (got : Bool) (W : World) (y : Ending) (w' : World) : Prop :=
  ∃ A c B d, y = .returned (.tuple #[.agg (ec r.1 A c), .string tx, .bool got, .slice B r.2.length d]) ∧ w'.ownsRow W.heap.size 9 1 (.slice A r.1.o.l.length c) r.1.o.l.length (scells r.1.o.l) ∧ OwnP W w' (.slice B r.2.length d) r.2 ∧ Below W.heap.size W w'
theorem EX.new {W u : World} {Z : Nat} {e : Ev} {A : Option Addr} {c : Nat} {x0 x1 x2 x3 x4 x5 x6 x7 x8 x9 x10 : Value} (hz : u.heap[Z]? = some (.cells #[x0, x1, x2, x3, x4, x5, x6, x7, x8, x9, x10] 71 (0, 0))) (ho : u.ownsRow W.heap.size 9 1 (.slice A e.o.l.length c) e.o.l.length (scells e.o.l)) (hb : Below W.heap.size W u) (hZ : W.heap.size ≤ Z) :
    EX W (put11 u Z (.int .i64 e.f) (.int .i64 e.t) (.int .i64 e.i) (.int .i64 e.o.p) (.int .i64 e.o.q) (.slice A e.o.l.length c) (.int .i64 e.o.w) (.int .i64 e.o.f) (.int .i64 e.m) (.int .i64 e.p) (.int .i64 e.l)) Z e A c :=
  ⟨put11_heap hz (.int .i64 e.f) (.int .i64 e.t) (.int .i64 e.i) (.int .i64 e.o.p) (.int .i64 e.o.q) (.slice A e.o.l.length c) (.int .i64 e.o.w) (.int .i64 e.o.f) (.int .i64 e.m) (.int .i64 e.p) (.int .i64 e.l), own_at ho hz (by decide) fun g hg => put11_other hg (.int .i64 e.f) (.int .i64 e.t) (.int .i64 e.i) (.int .i64 e.o.p) (.int .i64 e.o.q) (.slice A e.o.l.length c) (.int .i64 e.o.w) (.int .i64 e.o.f) (.int .i64 e.m) (.int .i64 e.p) (.int .i64 e.l), put11_below hb hZ (.int .i64 e.f) (.int .i64 e.t) (.int .i64 e.i) (.int .i64 e.o.p) (.int .i64 e.o.q) (.slice A e.o.l.length c) (.int .i64 e.o.w) (.int .i64 e.o.f) (.int .i64 e.m) (.int .i64 e.p) (.int .i64 e.l)⟩
theorem own_blk_ge {w : World} {base e s n : Nat} {v : Value} {xs : List Value} (h : w.ownsRow base e s v n xs) : ∀ g, v.ownBlock = some g → base ≤ g := by
  intro g hg
  rcases h.2 with ⟨rfl, _⟩ | ⟨g', cap, cur, rfl, hb, _⟩
  · simp [Value.ownBlock] at hg
  · have : g' = g := by simpa [Value.ownBlock] using hg
    omega
theorem pkc_one1 (x : Pk) : ∀ u ∈ (pca x).toList, u.oneCell' = true := by
  intro u hu
  simp only [pca, List.mem_cons, List.not_mem_nil, or_false] at hu
  rcases hu with rfl | rfl | rfl | rfl | rfl | rfl | rfl <;> rfl

set_option maxRecDepth 20000 in
set_option maxHeartbeats 8000000 in
theorem tdata_any (e : Ev) (x : Pk) (A : Option Addr) (c : Nat) (W : World) (h : Sl W 1 A e.o.l.length c (scells e.o.l)) (hl : e.o.l.length ≤ 1000) (hg0 : 0 ≤ e.l) (hg : e.l ≤ 9223372036854775807) (hs0 : -9223372036854775808 ≤ x.s) (hs : x.s ≤ 9223372036854775807) :
    Calls Tryz.prog 66 #[.agg (ec e A c), .agg (pca x)] W (TakR (datE e x) (if clsD e x = 1 then str x.b else ⟨#[]⟩) (decide (clsD e x = 1)) W) := by
  have HC := hid (fun w (hw : Below W.heap.size W w) => learned_any e x.i A c w (h.below hw) hl)
  have HD1 : Hid ((lrnE e x.i).2.length ≤ 1) := hid (dataV_len _ _)
  have hgl : 0 ≤ gL e.p e.l x.i ∧ gL e.p e.l x.i ≤ 9223372036854775807 := by unfold gL; split <;> omega
  have HG := hid (fun w => gtake_any e.m (gP e.p x.i) (gL e.p e.l x.i) x.i x.p x.s w hgl.1 hs hs0 hgl.2)
  have HE1 : Hid ((lrnE e x.i).1 = ⟨e.f, e.t, e.i, (lrnV e.o x.i).1, e.m, gP e.p x.i, gL e.p e.l x.i⟩) := hid rfl
  have HE2 : Hid (datE e x = (⟨e.f, e.t, e.i, (lrnV e.o x.i).1, e.m, gP (gP e.p x.i) x.i, gN e.m (gP e.p x.i) (gL e.p e.l x.i) x.i x.p x.s⟩, (lrnE e x.i).2 ++ (if clsD e x = 1 ∨ clsD e x = 2 then [⟨2, e.f, e.t, e.i, x.i, x.s, []⟩] else if clsD e x = 3 then [⟨3, e.f, e.t, e.i, x.i, 0, []⟩] else []))) := hid rfl
  rw [show gC e.m (gP e.p x.i) (gL e.p e.l x.i) x.i x.p x.s = clsD e x from rfl] at HG
  have HTX : ∃ tx : ByteArray, (if clsD e x = 1 then str x.b else ⟨#[]⟩) = tx ∧ Hid (tx = if clsD e x = 1 then str x.b else ⟨#[]⟩) := ⟨_, rfl, hid rfl⟩
  have HGO : ∃ got : Bool, decide (clsD e x = 1) = got ∧ Hid (got = decide (clsD e x = 1)) := ⟨_, rfl, hid rfl⟩
  obtain ⟨tx, htx, HTX⟩ := HTX
  obtain ⟨got, hgo, HGO⟩ := HGO
  rw [htx, hgo]
  clear htx hgo
  generalize datE e x = rv at *
  generalize clsD e x = cl at *
  generalize gN e.m (gP e.p x.i) (gL e.p e.l x.i) x.i x.p x.s = gl2 at *
  generalize gP (gP e.p x.i) x.i = gp2 at *
  generalize gP e.p x.i = gp1 at *
  generalize gL e.p e.l x.i = gl1 at *
  generalize (lrnV e.o x.i).1 = o1 at *
  generalize lrnE e x.i = r at *
  obtain ⟨r1, D1⟩ := r
  have hr1 : r1 = _ := HE1.out
  subst hr1
  obtain ⟨p1, q1, l1, wt1, fl1⟩ := o1
  obtain ⟨f, t, i, ⟨p, q, l, wt, fl⟩, gm, gp, gl⟩ := e
  obtain ⟨kd, xf, xt, xi, xp, xs, xb⟩ := x
  simp only at HD1
  clear h hl hg hg0 hs hs0 hgl HE1
  simp only [ec, pca] at *
  go_enter Tryz.func66, Tryz.ntmps66
  go_upto_region 1 with (fail)
  refine at_world (fun u => u.heap[W.heap.size]? = some (.cells (ec ⟨f, t, i, ⟨p, q, l, wt, fl⟩, gm, gp, gl⟩ A c) 71 (0, 0)) ∧ u.heap[W.heap.size + 1]? = some (.cells (pca ⟨kd, xf, xt, xi, xp, xs, xb⟩) 90 (0, 0)) ∧ u.heap[W.heap.size + 2]? = some (.cells ez 71 (0, 0)) ∧ Below W.heap.size W u) (al3 _ _ _ _) ?_
  rintro w1 ⟨hx1, hy1, hz1, hb1⟩
  obtain ⟨⟨cp0, cp1, cp2, cp3, cp4, cp5, cp6, cp7, cp8, cp9, cp10⟩, _⟩ := eleven_cells hx1
  obtain ⟨⟨y0, y1, y2, y3, y4, y5, y6⟩, _⟩ := seven_cells hy1
  have HY1 := hid hy1
  have HZ1 := hid hz1
  have HB1 := hid hb1
  clear hx1 hy1 hz1 hb1
  go_wp2_with fail
  refine (HC.out _ HB1.out).mono ?_
  rintro e w2 ⟨A1, c1, B1, d1, rfl, ho2, hP2, hb2⟩
  simp only [ec]
  have HY2 := hid (keep0 HY1.out hb2)
  have hz2 := keep0 HZ1.out hb2
  have HO2 := hid (own_mono ho2 HB1.out.size)
  have HP2 := hid (own_mono hP2 HB1.out.size)
  have HBN : Hid ((Value.slice B1 D1.length d1).ownBlock ≠ some (W.heap.size + 1)) := hid (fun h9 => by have h8 := own_blk_ge hP2 _ h9; have h7 := lt_of_block HZ1.out; omega)
  have HB2 := hid (HB1.out.trans (hb2.mono HB1.out.size))
  obtain ⟨_, ⟨cg0, cg1, cg2, cg3, cg4, cg5, cg6, cg7, cg8, cg9, cg10⟩⟩ := eleven_cells hz2
  have HZ2 := hid hz2
  clear cp0 cp1 cp2 cp3 cp4 cp5 cp6 cp7 cp8 cp9 cp10 y0 y1 y2 y3 y4 y5 y6 HY1 HZ1 ho2 hP2 hb2 HB1 HC hz2
  go_upto_region 2 with (fail)
  refine at_world (fun u => EX W u (W.heap.size + 2) ⟨f, t, i, ⟨p1, q1, l1, wt1, fl1⟩, gm, gp1, gl1⟩ A1 c1 ∧ u.heap[W.heap.size + 1]? = some (.cells (pca ⟨kd, xf, xt, xi, xp, xs, xb⟩) 90 (0, 0)) ∧ OwnP W u (.slice B1 D1.length d1) D1) ⟨EX.new (e := ⟨f, t, i, ⟨p1, q1, l1, wt1, fl1⟩, gm, gp1, gl1⟩) HZ2.out HO2.out HB2.out (by omega), (put11_other (w := w2) (b := W.heap.size + 2) (g := W.heap.size + 1) (by omega) (.int .i64 f) (.int .i64 t) (.int .i64 i) (.int .i64 p1) (.int .i64 q1) (.slice A1 l1.length c1) (.int .i64 wt1) (.int .i64 fl1) (.int .i64 gm) (.int .i64 gp1) (.int .i64 gl1)).trans HY2.out, own_at HP2.out HZ2.out (by decide) fun g hg => put11_other hg (.int .i64 f) (.int .i64 t) (.int .i64 i) (.int .i64 p1) (.int .i64 q1) (.slice A1 l1.length c1) (.int .i64 wt1) (.int .i64 fl1) (.int .i64 gm) (.int .i64 gp1) (.int .i64 gl1)⟩ ?_
  clear cg0 cg1 cg2 cg3 cg4 cg5 cg6 cg7 cg8 cg9 cg10 HY2 HZ2 HO2 HP2 HB2
  rintro w3 ⟨hs3, hy3, hP3⟩
  obtain ⟨⟨cp0, cp1, cp2, cp3, cp4, cp5, cp6, cp7, cp8, cp9, cp10⟩, _⟩ := eleven_cells hs3.1
  obtain ⟨⟨y0, y1, y2, y3, y4, y5, y6⟩, _⟩ := seven_cells hy3
  have HS3 := hid hs3
  have HY3 := hid hy3
  have HP3 := hid hP3
  clear hs3 hy3 hP3
  go_wp2_with fail
  refine (HG.out _).mono ?_
  rintro e w4 ⟨rfl, hb4⟩
  have HS4 := hid (HS3.out.keep hb4)
  have HY4 := hid (keep0 HY3.out hb4)
  have HP4 := hid (own_keep HP3.out hb4)
  clear cp0 cp1 cp2 cp3 cp4 cp5 cp6 cp7 cp8 cp9 cp10 y0 y1 y2 y3 y4 y5 y6 HS3 HY3 HP3 hb4 HG
  go_upto_region 3 with (fail)
  refine at_world (fun u => u.heap[w4.heap.size]? = some (.cells #[.int .i64 gm, .int .i64 gp2, .int .i64 gl2] 69 (0, 0)) ∧ EX W u (W.heap.size + 2) ⟨f, t, i, ⟨p1, q1, l1, wt1, fl1⟩, gm, gp1, gl1⟩ A1 c1 ∧ u.heap[W.heap.size + 1]? = some (.cells (pca ⟨kd, xf, xt, xi, xp, xs, xb⟩) 90 (0, 0)) ∧ OwnP W u (.slice B1 D1.length d1) D1) ⟨heap_alloc_new _ _, HS4.out.keep ((Below.refl _ _).alloc (Nat.le_refl _) _), keep0 HY4.out ((Below.refl _ _).alloc (Nat.le_refl _) _), own_keep HP4.out ((Below.refl _ _).alloc (Nat.le_refl _) _)⟩ ?_
  clear HS4 HY4 HP4
  generalize w4.heap.size = T at *
  rintro w5 ⟨ht5, hs5, hy5, hP5⟩
  obtain ⟨⟨z0, z1, z2⟩, _⟩ := three_cells ht5
  obtain ⟨_, ⟨cg0, cg1, cg2, cg3, cg4, cg5, cg6, cg7, cg8, cg9, cg10⟩⟩ := eleven_cells hs5.1
  have HS5 := hid (EX.gate hs5 (by omega) gm gp2 gl2 rfl)
  have HX5 := hid hs5.1
  have HY5 := hid hy5
  have HP5 := hid hP5
  clear ht5 hs5 hy5 hP5
  go_upto_region 4 with (fail)
  refine at_world (fun u => EX W u (W.heap.size + 2) ⟨f, t, i, ⟨p1, q1, l1, wt1, fl1⟩, gm, gp2, gl2⟩ A1 c1 ∧ u.heap[W.heap.size + 1]? = some (.cells (pca ⟨kd, xf, xt, xi, xp, xs, xb⟩) 90 (0, 0)) ∧ OwnP W u (.slice B1 D1.length d1) D1) ⟨HS5.out, by
    have hne : W.heap.size + 1 ≠ W.heap.size + 2 := by omega
    rw [Below.heap_setCell _ _ _ _ hne, Below.heap_setCell _ _ _ _ hne, Below.heap_setCell _ _ _ _ hne]
    exact HY5.out, own_at HP5.out HX5.out (by decide) fun g hg => by rw [Below.heap_setCell _ _ _ _ hg, Below.heap_setCell _ _ _ _ hg, Below.heap_setCell _ _ _ _ hg]⟩ ?_
  clear z0 z1 z2 cg0 cg1 cg2 cg3 cg4 cg5 cg6 cg7 cg8 cg9 cg10 HS5 HX5 HY5 HP5
  rintro w6 ⟨hs6, hy6, hP6⟩
  have hS : ∀ U, (EX W U (W.heap.size + 2) ⟨f, t, i, ⟨p1, q1, l1, wt1, fl1⟩, gm, gp2, gl2⟩ A1 c1 ∧ U.heap[W.heap.size + 1]? = some (.cells (pca ⟨kd, xf, xt, xi, xp, xs, xb⟩) 90 (0, 0))) → ((((U.cell? ⟨W.heap.size + 2, 0, none⟩ = some (.int .i64 f) ∧ U.cell? ⟨W.heap.size + 2, 1, none⟩ = some (.int .i64 t) ∧ U.cell? ⟨W.heap.size + 2, 2, none⟩ = some (.int .i64 i) ∧ U.cell? ⟨W.heap.size + 2, 3, none⟩ = some (.int .i64 p1) ∧ U.cell? ⟨W.heap.size + 2, 4, none⟩ = some (.int .i64 q1) ∧ U.cell? ⟨W.heap.size + 2, 5, none⟩ = some (.slice A1 l1.length c1) ∧ U.cell? ⟨W.heap.size + 2, 6, none⟩ = some (.int .i64 wt1) ∧ U.cell? ⟨W.heap.size + 2, 7, none⟩ = some (.int .i64 fl1) ∧ U.cell? ⟨W.heap.size + 2, 8, none⟩ = some (.int .i64 gm) ∧ U.cell? ⟨W.heap.size + 2, 9, none⟩ = some (.int .i64 gp2) ∧ U.cell? ⟨W.heap.size + 2, 10, none⟩ = some (.int .i64 gl2)) ∧ (U.cell? ⟨W.heap.size + 1, 0, none⟩ = some (.int .i64 kd) ∧ U.cell? ⟨W.heap.size + 1, 1, none⟩ = some (.int .i64 xf) ∧ U.cell? ⟨W.heap.size + 1, 2, none⟩ = some (.int .i64 xt) ∧ U.cell? ⟨W.heap.size + 1, 3, none⟩ = some (.int .i64 xi) ∧ U.cell? ⟨W.heap.size + 1, 4, none⟩ = some (.int .i64 xp) ∧ U.cell? ⟨W.heap.size + 1, 5, none⟩ = some (.int .i64 xs) ∧ U.cell? ⟨W.heap.size + 1, 6, none⟩ = some (.string (str xb)))) ∧ (U.frozen? ⟨W.heap.size + 2, 0, none⟩ = false ∧ U.frozen? ⟨W.heap.size + 2, 1, none⟩ = false ∧ U.frozen? ⟨W.heap.size + 2, 2, none⟩ = false ∧ U.frozen? ⟨W.heap.size + 2, 3, none⟩ = false ∧ U.frozen? ⟨W.heap.size + 2, 4, none⟩ = false ∧ U.frozen? ⟨W.heap.size + 2, 5, none⟩ = false ∧ U.frozen? ⟨W.heap.size + 2, 6, none⟩ = false ∧ U.frozen? ⟨W.heap.size + 2, 7, none⟩ = false ∧ U.frozen? ⟨W.heap.size + 2, 8, none⟩ = false ∧ U.frozen? ⟨W.heap.size + 2, 9, none⟩ = false ∧ U.frozen? ⟨W.heap.size + 2, 10, none⟩ = false)) ∧ (EX W U (W.heap.size + 2) ⟨f, t, i, ⟨p1, q1, l1, wt1, fl1⟩, gm, gp2, gl2⟩ A1 c1 ∧ U.heap[W.heap.size + 1]? = some (.cells (pca ⟨kd, xf, xt, xi, xp, xs, xb⟩) 90 (0, 0)))) := fun U h => ⟨⟨⟨(eleven_cells h.1.1).1, (seven_cells h.2).1⟩, (eleven_cells h.1.1).2⟩, h⟩
  have HPK := hid (fun kk pp ss w => lpacket_any ⟨f, t, i, ⟨p1, q1, l1, wt1, fl1⟩, gm, gp2, gl2⟩ A1 c1 kk pp ss ⟨#[]⟩ w)
  simp only [ec] at HPK
  have HK := hid (And.intro hs6 hy6)
  have HP6 := hid hP6
  obtain ⟨⟨cp0, cp1, cp2, cp3, cp4, cp5, cp6, cp7, cp8, cp9, cp10⟩, ⟨cg0, cg1, cg2, cg3, cg4, cg5, cg6, cg7, cg8, cg9, cg10⟩⟩ := eleven_cells hs6.1
  obtain ⟨⟨y0, y1, y2, y3, y4, y5, y6⟩, _⟩ := seven_cells hy6
  clear hs6 hy6 hP6
  by_cases h1 : cl = 1
  · subst h1
    clear cp0 cp1 cp2 cp3 cp4 cp5 cp6 cp7 cp8 cp9 cp10 cg0 cg1 cg2 cg3 cg4 cg5 cg6 cg7 cg8 cg9 cg10 y0 y1 y2 y3 y4 y5 y6
    have hg1 : tx = str xb := by rw [HTX.out]; rfl
    have hg2 : got = true := by rw [HGO.out]; rfl
    subst hg1
    subst hg2
    have HR : Hid (rv = (⟨f, t, i, ⟨p1, q1, l1, wt1, fl1⟩, gm, gp2, gl2⟩, D1 ++ [⟨2, f, t, i, xi, xs, []⟩])) := hid HE2.out
    clear HE2 HTX HGO
    go_upto_region 6 with (fail)
    have hk0 : EX W w6.drew (W.heap.size + 2) ⟨f, t, i, ⟨p1, q1, l1, wt1, fl1⟩, gm, gp2, gl2⟩ A1 c1 ∧ w6.drew.heap[W.heap.size + 1]? = some (.cells (pca ⟨kd, xf, xt, xi, xp, xs, xb⟩) 90 (0, 0)) := ⟨HK.out.1.keep (below_drew (Below.refl _ _)), keep0 HK.out.2 (below_drew (Below.refl _ _))⟩
    have hq0 := own_keep HP6.out (below_drew (Below.refl w6.heap.size w6))
    have HDL := HD1.out
    refine wp_region_held_drew (S := fun U => (((U.cell? ⟨W.heap.size + 2, 0, none⟩ = some (.int .i64 f) ∧ U.cell? ⟨W.heap.size + 2, 1, none⟩ = some (.int .i64 t) ∧ U.cell? ⟨W.heap.size + 2, 2, none⟩ = some (.int .i64 i) ∧ U.cell? ⟨W.heap.size + 2, 3, none⟩ = some (.int .i64 p1) ∧ U.cell? ⟨W.heap.size + 2, 4, none⟩ = some (.int .i64 q1) ∧ U.cell? ⟨W.heap.size + 2, 5, none⟩ = some (.slice A1 l1.length c1) ∧ U.cell? ⟨W.heap.size + 2, 6, none⟩ = some (.int .i64 wt1) ∧ U.cell? ⟨W.heap.size + 2, 7, none⟩ = some (.int .i64 fl1) ∧ U.cell? ⟨W.heap.size + 2, 8, none⟩ = some (.int .i64 gm) ∧ U.cell? ⟨W.heap.size + 2, 9, none⟩ = some (.int .i64 gp2) ∧ U.cell? ⟨W.heap.size + 2, 10, none⟩ = some (.int .i64 gl2)) ∧ (U.cell? ⟨W.heap.size + 1, 0, none⟩ = some (.int .i64 kd) ∧ U.cell? ⟨W.heap.size + 1, 1, none⟩ = some (.int .i64 xf) ∧ U.cell? ⟨W.heap.size + 1, 2, none⟩ = some (.int .i64 xt) ∧ U.cell? ⟨W.heap.size + 1, 3, none⟩ = some (.int .i64 xi) ∧ U.cell? ⟨W.heap.size + 1, 4, none⟩ = some (.int .i64 xp) ∧ U.cell? ⟨W.heap.size + 1, 5, none⟩ = some (.int .i64 xs) ∧ U.cell? ⟨W.heap.size + 1, 6, none⟩ = some (.string (str xb)))) ∧ (U.frozen? ⟨W.heap.size + 2, 0, none⟩ = false ∧ U.frozen? ⟨W.heap.size + 2, 1, none⟩ = false ∧ U.frozen? ⟨W.heap.size + 2, 2, none⟩ = false ∧ U.frozen? ⟨W.heap.size + 2, 3, none⟩ = false ∧ U.frozen? ⟨W.heap.size + 2, 4, none⟩ = false ∧ U.frozen? ⟨W.heap.size + 2, 5, none⟩ = false ∧ U.frozen? ⟨W.heap.size + 2, 6, none⟩ = false ∧ U.frozen? ⟨W.heap.size + 2, 7, none⟩ = false ∧ U.frozen? ⟨W.heap.size + 2, 8, none⟩ = false ∧ U.frozen? ⟨W.heap.size + 2, 9, none⟩ = false ∧ U.frozen? ⟨W.heap.size + 2, 10, none⟩ = false)) ∧ (EX W U (W.heap.size + 2) ⟨f, t, i, ⟨p1, q1, l1, wt1, fl1⟩, gm, gp2, gl2⟩ A1 c1 ∧ U.heap[W.heap.size + 1]? = some (.cells (pca ⟨kd, xf, xt, xi, xp, xs, xb⟩) 90 (0, 0)))) (by kernel_rfl) (hS _ hk0) (fun hHeld => ?_)
    refine tkA 0 ?_ rfl ?_ (by assumption) ?_; rotate_left; focus (intro U hU; (try dsimp only at hU); go_simp; try (with_reducible rfl))
    simp only [gt6, Act.put]
    refine tkA 1 ?_ rfl ?_ (by assumption) ?_; rotate_left; focus (intro U hU; (try dsimp only at hU); go_simp; try (with_reducible rfl))
    simp only [gt6, Act.put]
    refine tkA 2 ?_ rfl ?_ (by assumption) ?_; rotate_left; focus (intro U hU; (try dsimp only at hU); go_simp; try (with_reducible rfl))
    simp only [gt6, Act.put]
    refine tkA 3 ?_ rfl ?_ (by assumption) ?_; rotate_left; focus (intro U hU; (try dsimp only at hU); go_simp; try (with_reducible rfl))
    simp only [gt6, Act.put]
    refine tkA 4 ?_ rfl ?_ (by assumption) ?_; rotate_left; focus (intro U hU; (try dsimp only at hU); go_simp; try (with_reducible rfl))
    simp only [gt6, Act.put]
    refine tkA 5 ?_ rfl ?_ (by assumption) ?_; rotate_left; focus (intro U hU; (try dsimp only at hU); go_simp; try (with_reducible rfl))
    simp only [gt6, Act.put]
    refine tkA 6 ?_ rfl ?_ (by assumption) ?_; rotate_left; focus (intro U hU; (try dsimp only at hU); go_simp; try (with_reducible rfl))
    simp only [gt6, Act.put]
    refine tkA 7 ?_ rfl ?_ (by assumption) ?_; rotate_left; focus (intro U hU; (try dsimp only at hU); go_simp; try (with_reducible rfl))
    simp only [gt6, Act.put]
    refine tkA 8 ?_ rfl ?_ (by assumption) ?_; rotate_left; focus (intro U hU; (try dsimp only at hU); go_simp; try (with_reducible rfl))
    simp only [gt6, Act.put]
    refine wpAnyH_ready (rs := [9]) (by kernel_rfl) (by simp) ?_
    refine AllReadyH.cons rfl (fun K hK => ?_) AllReadyH.nil
    simp only [gt3]
    go_simp
    refine (HPK.out _ _ _ _).mono ?_
    rintro e u1 ⟨rfl, g1⟩
    have hk1 := And.intro (hk0.1.keep g1) (keep0 hk0.2 g1)
    have hbn : Below u1.heap.size u1 (u1.alloc (.cells #[.int .i64 2, .int .i64 f, .int .i64 t, .int .i64 i, .int .i64 xi, .int .i64 xs, .string ⟨#[]⟩] 90)) := (Below.refl _ _).alloc (Nat.le_refl _) _
    have hk2 := And.intro (hk1.1.keep hbn) (keep0 hk1.2 hbn)
    have hq2 := own_keep (own_keep hq0 g1) hbn
    have hsl2 := sl_own (ownP_one (W := W) (u := u1) (x := ⟨2, f, t, i, xi, xs, []⟩) hk1.1.2.2.size (heap_alloc_new u1 (.cells #[.int .i64 2, .int .i64 f, .int .i64 t, .int .i64 i, .int .i64 xi, .int .i64 xs, .string ⟨#[]⟩] 90)))
    clear g1 hbn
    go_wp2_with fail
    refine hK.out _ _ ?_ (fun hHeld2 => ?_)
    focus
      exact hS _ hk1
    clear hHeld
    have hHeld := hHeld2
    clear hHeld2 hK K
    try simp only [gt6, Act.put]
    refine wpAnyH_ready (rs := [10]) (by kernel_rfl) (by simp) ?_
    refine AllReadyH.cons rfl (fun K hK => ?_) AllReadyH.nil
    simp only [gt3]
    go_simp
    refine hK.out _ _ ?_ (fun hHeld2 => ?_)
    focus
      exact hS _ hk2
    clear hHeld
    have hHeld := hHeld2
    clear hHeld2 hK K
    try simp only [gt6, Act.put]
    refine wpAnyH_ready (rs := [11]) (by kernel_rfl) (by simp) ?_
    refine AllReadyH.cons rfl (fun K hK => ?_) AllReadyH.nil
    refine step_append_sl rfl (.tmp 37) (.tmp 44) 72 rfl W.heap.size 90 Tryz.underlying72 info_pkt rfl (by omega) rfl hq2 rfl hsl2 (pkc_one _) (by unfold maxLen; omega) (by omega) hk2.1.2.2.size ?_
    intro v5 w5 ho5 hb5 hsz5 hk5
    simp only [gt3]
    have hx5 := (hk5 _ (by omega) (lt_of_block hk2.1.1) (own_blk_ne hq2 hk2.1.1 (by decide))).trans hk2.1.1
    have hy5 := (hk5 _ (by omega) (lt_of_block hk2.2) HBN.out).trans hk2.2
    have hk6 : EX W w5 (W.heap.size + 2) ⟨f, t, i, ⟨p1, q1, l1, wt1, fl1⟩, gm, gp2, gl2⟩ A1 c1 := ⟨hx5, own_other hk2.1.2.1 hq2 (by decide) hk5, hk2.1.2.2.trans hb5⟩
    obtain ⟨B5, d5, rfl, _⟩ := Sl.of_own ho5
    have hk7 := And.intro hk6 hy5
    have hk8 : EX W (put11 w5 (W.heap.size + 2) (.int .i64 f) (.int .i64 t) (.int .i64 i) (.int .i64 p1) (.int .i64 q1) (.slice A1 l1.length c1) (.int .i64 wt1) (.int .i64 fl1) (.int .i64 gm) (.int .i64 gp2) (.int .i64 gl2)) (W.heap.size + 2) ⟨f, t, i, ⟨p1, q1, l1, wt1, fl1⟩, gm, gp2, gl2⟩ A1 c1 ∧ (put11 w5 (W.heap.size + 2) (.int .i64 f) (.int .i64 t) (.int .i64 i) (.int .i64 p1) (.int .i64 q1) (.slice A1 l1.length c1) (.int .i64 wt1) (.int .i64 fl1) (.int .i64 gm) (.int .i64 gp2) (.int .i64 gl2)).heap[W.heap.size + 1]? = some (.cells (pca ⟨kd, xf, xt, xi, xp, xs, xb⟩) 90 (0, 0)) := ⟨EX.new (e := ⟨f, t, i, ⟨p1, q1, l1, wt1, fl1⟩, gm, gp2, gl2⟩) hx5 hk6.2.1 hk6.2.2 (by omega), (put11_other (w := w5) (b := W.heap.size + 2) (g := W.heap.size + 1) (by omega) (.int .i64 f) (.int .i64 t) (.int .i64 i) (.int .i64 p1) (.int .i64 q1) (.slice A1 l1.length c1) (.int .i64 wt1) (.int .i64 fl1) (.int .i64 gm) (.int .i64 gp2) (.int .i64 gl2)).trans hy5⟩
    have hP5 := own_at (ownP_app (D := D1) (E := [⟨2, f, t, i, xi, xs, []⟩]) ho5) hx5 (by decide) fun g hg => put11_other (w := w5) (b := W.heap.size + 2) hg (.int .i64 f) (.int .i64 t) (.int .i64 i) (.int .i64 p1) (.int .i64 q1) (.slice A1 l1.length c1) (.int .i64 wt1) (.int .i64 fl1) (.int .i64 gm) (.int .i64 gp2) (.int .i64 gl2)
    obtain ⟨_, ⟨cg0, cg1, cg2, cg3, cg4, cg5, cg6, cg7, cg8, cg9, cg10⟩⟩ := eleven_cells hx5
    clear hb5 hsz5 hk5 ho5 hx5 hy5 hk6
    simp only [put11] at hk8 hP5
    refine hK.out _ _ ?_ (fun hHeld2 => ?_)
    focus
      exact hS _ hk7
    clear hHeld
    have hHeld := hHeld2
    clear hHeld2 hK K
    try simp only [gt6, Act.put]
    refine wpAnyH_ready (rs := [12]) (by kernel_rfl) (by simp) ?_
    refine AllReadyH.cons rfl (fun K hK => ?_) AllReadyH.nil
    simp only [gt3]
    go_simp
    refine hK.out _ _ ?_ (fun hHeld2 => ?_)
    focus
      exact hS _ hk8
    clear hHeld
    have hHeld := hHeld2
    clear hHeld2 hK K
    try simp only [gt6, Act.put]
    refine tkA 13 ?_ rfl ?_ (by assumption) ?_; rotate_left; focus (intro U hU; (try dsimp only at hU); go_simp; try (with_reducible rfl))
    simp only [gt6, Act.put]
    refine tkA 14 ?_ rfl ?_ (by assumption) ?_; rotate_left; focus (intro U hU; (try dsimp only at hU); go_simp; try (with_reducible rfl))
    simp only [gt6, Act.put]
    refine tkA 15 ?_ rfl ?_ (by assumption) ?_; rotate_left; focus (intro U hU; (try dsimp only at hU); go_simp; try (with_reducible rfl))
    simp only [gt6, Act.put]
    refine wpAnyH_done (by kernel_rfl) ?_ _
    have HO9 := hid hk8.1
    have HP9 := hid hP5
    have hz9 := hk8.1.1
    obtain ⟨⟨cr0, cr1, cr2, cr3, cr4, cr5, cr6, cr7, cr8, cr9, cr10⟩, _⟩ := eleven_cells hz9
    clear hz9 hk0 hq0 hk1 hk2 hq2 hsl2 hk7 hk8 hP5 hHeld hS
    go_wp2_with fail
    exact bodyPost_ret (v := .tuple #[.agg #[.int .i64 f, .int .i64 t, .int .i64 i, .int .i64 p1, .int .i64 q1, .slice A1 l1.length c1, .int .i64 wt1, .int .i64 fl1, .int .i64 gm, .int .i64 gp2, .int .i64 gl2], .string (str xb), .bool true, .slice B5 (D1.length + 1) d5]) (by simp [results, Tryz.results66, go_sem, cr0, cr1, cr2, cr3, cr4, cr5, cr6, cr7, cr8, cr9, cr10]) rfl (by rw [HR.out]; exact ⟨A1, c1, B5, d5, by rw [List.length_append]; rfl, HO9.out.2.1, by rw [List.length_append]; exact HP9.out, HO9.out.2.2⟩)
  have hg1 : tx = (⟨#[]⟩ : ByteArray) := by rw [HTX.out, if_neg h1]
  have hg2 : got = false := by rw [HGO.out]; exact decide_eq_false h1
  subst hg1
  subst hg2
  have b1 : (cl == 1) = false := by rw [beq_eq_false_iff_ne]; exact h1
  by_cases h2 : cl = 2
  · subst h2
    have HR : Hid (rv = (⟨f, t, i, ⟨p1, q1, l1, wt1, fl1⟩, gm, gp2, gl2⟩, D1 ++ [⟨2, f, t, i, xi, xs, []⟩])) := hid HE2.out
    clear HE2 HTX HGO b1 h1
    go_wp2_with fail
    refine (HPK.out _ _ _ _).mono ?_
    rintro e w7 ⟨rfl, hb7⟩
    have HK7 := hid (And.intro (HK.out.1.keep hb7) (keep0 HK.out.2 hb7))
    have HP7 := hid (own_keep HP6.out hb7)
    have HB7 := hid HK7.out.1.2.2
    have hbe := HB7.out.size
    have HD := HD1.out
    clear cp0 cp1 cp2 cp3 cp4 cp5 cp6 cp7 cp8 cp9 cp10 cg0 cg1 cg2 cg3 cg4 cg5 cg6 cg7 cg8 cg9 cg10 y0 y1 y2 y3 y4 y5 y6 HK HP6 hb7
    go_wp2_with (at_builtin; refine wpList_append_1k (W := W) rfl (.tmp 48) (.tmp 55) 72 rfl W.heap.size 90 Tryz.underlying72 info_pkt rfl (by omega) rfl HP7.out rfl rfl (pkc_one1 ⟨2, f, t, i, xi, xs, []⟩) (by unfold maxLen; omega) (by omega) hbe HB7.out ?_)
    intro v8 w8 ho8 hb8 hsz8 hk8
    have HX8 := hid ((hk8 _ (by omega) (lt_of_block HK7.out.1.1) (own_blk_ne HP7.out HK7.out.1.1 (by decide))).trans HK7.out.1.1)
    have HT8 := hid (own_other HK7.out.1.2.1 HP7.out (by decide) hk8)
    obtain ⟨B8, d8, rfl, _⟩ := Sl.of_own ho8
    have HO9 := hid (EX.new (e := ⟨f, t, i, ⟨p1, q1, l1, wt1, fl1⟩, gm, gp2, gl2⟩) HX8.out HT8.out hb8 (show W.heap.size ≤ W.heap.size + 2 by omega))
    have HP9 := hid (own_at (ownP_app (D := D1) (E := [⟨2, f, t, i, xi, xs, []⟩]) ho8) HX8.out (by decide) fun g hg => put11_other hg (.int .i64 f) (.int .i64 t) (.int .i64 i) (.int .i64 p1) (.int .i64 q1) (.slice A1 l1.length c1) (.int .i64 wt1) (.int .i64 fl1) (.int .i64 gm) (.int .i64 gp2) (.int .i64 gl2))
    have hz9 := HO9.out.1
    simp only [put11] at hz9 HO9 HP9
    obtain ⟨⟨cr0, cr1, cr2, cr3, cr4, cr5, cr6, cr7, cr8, cr9, cr10⟩, _⟩ := eleven_cells hz9
    obtain ⟨⟨cp0, cp1, cp2, cp3, cp4, cp5, cp6, cp7, cp8, cp9, cp10⟩, ⟨cg0, cg1, cg2, cg3, cg4, cg5, cg6, cg7, cg8, cg9, cg10⟩⟩ := eleven_cells HX8.out
    clear hz9 ho8 hb8 hsz8 hk8 HX8 HT8
    go_wp2
    exact bodyPost_ret (v := .tuple #[.agg #[.int .i64 f, .int .i64 t, .int .i64 i, .int .i64 p1, .int .i64 q1, .slice A1 l1.length c1, .int .i64 wt1, .int .i64 fl1, .int .i64 gm, .int .i64 gp2, .int .i64 gl2], .string ⟨#[]⟩, .bool false, .slice B8 (D1.length + 1) d8]) (by simp [results, Tryz.results66, go_sem, cr0, cr1, cr2, cr3, cr4, cr5, cr6, cr7, cr8, cr9, cr10]) rfl (by rw [HR.out]; exact ⟨A1, c1, B8, d8, by rw [List.length_append]; rfl, HO9.out.2.1, by rw [List.length_append]; exact HP9.out, HO9.out.2.2⟩)
  have b2 : (cl == 2) = false := by rw [beq_eq_false_iff_ne]; exact h2
  by_cases h3 : cl = 3
  · subst h3
    have HR : Hid (rv = (⟨f, t, i, ⟨p1, q1, l1, wt1, fl1⟩, gm, gp2, gl2⟩, D1 ++ [⟨3, f, t, i, xi, 0, []⟩])) := hid HE2.out
    clear HE2 HTX HGO b1 b2 h1 h2
    go_wp2_with fail
    refine (HPK.out _ _ _ _).mono ?_
    rintro e w7 ⟨rfl, hb7⟩
    have HK7 := hid (And.intro (HK.out.1.keep hb7) (keep0 HK.out.2 hb7))
    have HP7 := hid (own_keep HP6.out hb7)
    have HB7 := hid HK7.out.1.2.2
    have hbe := HB7.out.size
    have HD := HD1.out
    clear cp0 cp1 cp2 cp3 cp4 cp5 cp6 cp7 cp8 cp9 cp10 cg0 cg1 cg2 cg3 cg4 cg5 cg6 cg7 cg8 cg9 cg10 y0 y1 y2 y3 y4 y5 y6 HK HP6 hb7
    go_wp2_with (at_builtin; refine wpList_append_1k (W := W) rfl (.tmp 59) (.tmp 64) 72 rfl W.heap.size 90 Tryz.underlying72 info_pkt rfl (by omega) rfl HP7.out rfl rfl (pkc_one1 ⟨3, f, t, i, xi, 0, []⟩) (by unfold maxLen; omega) (by omega) hbe HB7.out ?_)
    intro v8 w8 ho8 hb8 hsz8 hk8
    have HX8 := hid ((hk8 _ (by omega) (lt_of_block HK7.out.1.1) (own_blk_ne HP7.out HK7.out.1.1 (by decide))).trans HK7.out.1.1)
    have HT8 := hid (own_other HK7.out.1.2.1 HP7.out (by decide) hk8)
    obtain ⟨B8, d8, rfl, _⟩ := Sl.of_own ho8
    have HO9 := hid (EX.new (e := ⟨f, t, i, ⟨p1, q1, l1, wt1, fl1⟩, gm, gp2, gl2⟩) HX8.out HT8.out hb8 (show W.heap.size ≤ W.heap.size + 2 by omega))
    have HP9 := hid (own_at (ownP_app (D := D1) (E := [⟨3, f, t, i, xi, 0, []⟩]) ho8) HX8.out (by decide) fun g hg => put11_other hg (.int .i64 f) (.int .i64 t) (.int .i64 i) (.int .i64 p1) (.int .i64 q1) (.slice A1 l1.length c1) (.int .i64 wt1) (.int .i64 fl1) (.int .i64 gm) (.int .i64 gp2) (.int .i64 gl2))
    have hz9 := HO9.out.1
    simp only [put11] at hz9 HO9 HP9
    obtain ⟨⟨cr0, cr1, cr2, cr3, cr4, cr5, cr6, cr7, cr8, cr9, cr10⟩, _⟩ := eleven_cells hz9
    obtain ⟨⟨cp0, cp1, cp2, cp3, cp4, cp5, cp6, cp7, cp8, cp9, cp10⟩, ⟨cg0, cg1, cg2, cg3, cg4, cg5, cg6, cg7, cg8, cg9, cg10⟩⟩ := eleven_cells HX8.out
    clear hz9 ho8 hb8 hsz8 hk8 HX8 HT8
    go_wp2
    exact bodyPost_ret (v := .tuple #[.agg #[.int .i64 f, .int .i64 t, .int .i64 i, .int .i64 p1, .int .i64 q1, .slice A1 l1.length c1, .int .i64 wt1, .int .i64 fl1, .int .i64 gm, .int .i64 gp2, .int .i64 gl2], .string ⟨#[]⟩, .bool false, .slice B8 (D1.length + 1) d8]) (by simp [results, Tryz.results66, go_sem, cr0, cr1, cr2, cr3, cr4, cr5, cr6, cr7, cr8, cr9, cr10]) rfl (by rw [HR.out]; exact ⟨A1, c1, B8, d8, by rw [List.length_append]; rfl, HO9.out.2.1, by rw [List.length_append]; exact HP9.out, HO9.out.2.2⟩)
  have b3 : (cl == 3) = false := by rw [beq_eq_false_iff_ne]; exact h3
  have HR : Hid (rv = (⟨f, t, i, ⟨p1, q1, l1, wt1, fl1⟩, gm, gp2, gl2⟩, D1)) := hid (by rw [HE2.out, if_neg (by omega), if_neg h3, List.append_nil])
  clear HE2 HTX HGO h1 h2 h3
  have HO9 := hid (EX.new (e := ⟨f, t, i, ⟨p1, q1, l1, wt1, fl1⟩, gm, gp2, gl2⟩) HK.out.1.1 HK.out.1.2.1 HK.out.1.2.2 (show W.heap.size ≤ W.heap.size + 2 by omega))
  have HP9 := hid (own_at HP6.out HK.out.1.1 (by decide) fun g hg => put11_other hg (.int .i64 f) (.int .i64 t) (.int .i64 i) (.int .i64 p1) (.int .i64 q1) (.slice A1 l1.length c1) (.int .i64 wt1) (.int .i64 fl1) (.int .i64 gm) (.int .i64 gp2) (.int .i64 gl2))
  have hz9 := HO9.out.1
  simp only [put11] at hz9 HO9 HP9
  obtain ⟨⟨cr0, cr1, cr2, cr3, cr4, cr5, cr6, cr7, cr8, cr9, cr10⟩, _⟩ := eleven_cells hz9
  clear hz9
  go_wp2
  exact bodyPost_ret (v := .tuple #[.agg #[.int .i64 f, .int .i64 t, .int .i64 i, .int .i64 p1, .int .i64 q1, .slice A1 l1.length c1, .int .i64 wt1, .int .i64 fl1, .int .i64 gm, .int .i64 gp2, .int .i64 gl2], .string ⟨#[]⟩, .bool false, .slice B1 D1.length d1]) (by simp [results, Tryz.results66, go_sem, cr0, cr1, cr2, cr3, cr4, cr5, cr6, cr7, cr8, cr9, cr10]) rfl (by rw [HR.out]; exact ⟨A1, c1, B1, d1, rfl, HO9.out.2.1, HP9.out, HO9.out.2.2⟩)
end Go.Proofs.YtdphdodjidbngaaGreat

