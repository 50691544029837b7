/- The document's reader of needs: its contracts. -/
import Derived.Test.YtgakobolhmdnnaaGreatQReaA
import Derived.Deep.LoopGhost
import Derived.Deep.Cut
namespace Go.Proofs.YtgakobolhmdnnaaGreat
open Go.RowKit
set_option linter.unusedVariables false
set_option linter.unusedSimpArgs false

theorem six_cellsR {w : World} {b t : Nat} {x0 x1 x2 x3 x4 x5 : Value} (h : w.heap[b]? = some (.cells #[x0, x1, x2, x3, x4, x5] t (0, 0))) :
    (w.cell? ⟨b, 0, none⟩ = some x0 ∧ w.cell? ⟨b, 1, none⟩ = some x1 ∧ w.cell? ⟨b, 2, none⟩ = some x2 ∧ w.cell? ⟨b, 3, none⟩ = some x3 ∧ w.cell? ⟨b, 4, none⟩ = some x4 ∧ w.cell? ⟨b, 5, none⟩ = some x5) ∧ w.frozen? ⟨b, 1, none⟩ = false ∧ w.frozen? ⟨b, 3, none⟩ = false ∧ w.frozen? ⟨b, 4, none⟩ = false ∧ w.frozen? ⟨b, 5, none⟩ = false :=
  ⟨⟨by rw [cell_of_row w b 0 _ t (0, 0) h]; rfl, by rw [cell_of_row w b 1 _ t (0, 0) h]; rfl, by rw [cell_of_row w b 2 _ t (0, 0) h]; rfl, by rw [cell_of_row w b 3 _ t (0, 0) h]; rfl, by rw [cell_of_row w b 4 _ t (0, 0) h]; rfl, by rw [cell_of_row w b 5 _ t (0, 0) h]; rfl⟩, frozen_of_row w b 1 _ t h, frozen_of_row w b 3 _ t h, frozen_of_row w b 4 _ t h, frozen_of_row w b 5 _ t h⟩
/-- A reader: words ws left, nodes o, the first error e at k. -/
structure RX (p : PC) (w : World) (ws : List Wd) (o : List (Int × Int)) (k : Nat) (e : Int) : Prop where
  bel : Below p.B p.W w
  hP : p.B ≤ p.P
  tab : Sl p.W 1 p.TA p.T.length p.Tc (scells p.T)
  row : w.ownsRow p.B 158 2 (.slice p.A0 p.ws0.length p.c0) p.ws0.length (wcells p.ws0)
  bd : o.length + ws.length ≤ 1000
  st : ∃ wA wc nA nc, (∀ u : World, u.ownsRow p.B 158 2 (.slice p.A0 p.ws0.length p.c0) p.ws0.length (wcells p.ws0) → Sl u 2 wA ws.length wc (wcells ws)) ∧
    w.heap[p.P]? = some (.cells #[.slice p.TA p.T.length p.Tc, .slice wA ws.length wc, .int .i64 (p.E : Nat), .slice nA o.length nc, .int .i64 (k : Nat), .int .i64 e] 130 (0, 0)) ∧
    w.ownsRow p.B 163 2 (.slice nA o.length nc) o.length (pcells o)
theorem RX.below {p : PC} {w w' : World} {ws : List Wd} {o : List (Int × Int)} {k : Nat} {e : Int} (h : RX p w ws o k e) (hb : Below w.heap.size w w') : RX p w' ws o k e := by
  obtain ⟨wA, wc, nA, nc, h1, h2, h3⟩ := h.st
  exact ⟨h.bel.trans (hb.mono h.bel.size), h.hP, h.tab, own_keep h.row hb, h.bd, wA, wc, nA, nc, h1, (hb.block _ (lt_of_block h2)).trans h2, own_keep h3 hb⟩
theorem RX.fail {p : PC} {w : World} {ws : List Wd} {o : List (Int × Int)} {k : Nat} {e : Int} (h : RX p w ws o k e) (k2 : Nat) (e2 : Int) :
    RX p ((w.setCell ⟨p.P, 4, none⟩ (.int .i64 (k2 : Nat))).setCell ⟨p.P, 5, none⟩ (.int .i64 e2)) ws o k2 e2 := by
  obtain ⟨wA, wc, nA, nc, h1, h2, h3⟩ := h.st
  have h4 := heap_setCell_same w p.P 4 _ _ (.int .i64 (k2 : Nat)) h2
  exact ⟨(h.bel.setCell (p := ⟨p.P, 4, none⟩) h.hP _).setCell (p := ⟨p.P, 5, none⟩) h.hP _, h.hP, h.tab, own_setR (own_setR h.row h2 (by decide)) h4 (by decide), h.bd, wA, wc, nA, nc, h1,
    heap_setCell_same _ p.P 5 _ _ _ h4, own_setR (own_setR h3 h2 (by decide)) h4 (by decide)⟩
theorem RX.skip {p : PC} {w : World} {x : Wd} {ws : List Wd} {o : List (Int × Int)} {wA nA : Option Addr} {wc nc n k : Nat} {e : Int} (h : RX p w (x :: ws) o k e) (hn : (x :: ws).length = n)
    (h1 : ∀ u : World, u.ownsRow p.B 158 2 (.slice p.A0 p.ws0.length p.c0) p.ws0.length (wcells p.ws0) → Sl u 2 wA n wc (wcells (x :: ws)))
    (h2 : w.heap[p.P]? = some (.cells #[.slice p.TA p.T.length p.Tc, .slice wA n wc, .int .i64 (p.E : Nat), .slice nA o.length nc, .int .i64 (k : Nat), .int .i64 e] 130 (0, 0)))
    (h3 : w.ownsRow p.B 163 2 (.slice nA o.length nc) o.length (pcells o)) :
    RX p (w.setCell ⟨p.P, 1, none⟩ (.slice (dropA wA wc 1 2) (n - 1) (wc - 1))) ws o k e := by
  have hn1 : n = ws.length + 1 := by rw [← hn]; rfl
  subst hn1
  exact ⟨h.bel.setCell (p := ⟨p.P, 1, none⟩) h.hP _, h.hP, h.tab, own_setR h.row h2 (by decide), by have := h.bd; simp only [List.length_cons] at this; omega,
    dropA wA wc 1 2, wc - 1, nA, nc, fun u hu => by simpa using (h1 u hu).behind (by omega), heap_setCell_same w p.P 1 _ _ _ h2, own_setR h3 h2 (by decide)⟩
theorem RX.push {p : PC} {w w' : World} {ws : List Wd} {o : List (Int × Int)} {x : Int × Int} {wA nA A' : Option Addr} {wc nc c' k : Nat} {e : Int} (h : RX p w ws o k e) (hbd : o.length + ws.length < 1000)
    (h1 : ∀ u : World, u.ownsRow p.B 158 2 (.slice p.A0 p.ws0.length p.c0) p.ws0.length (wcells p.ws0) → Sl u 2 wA ws.length wc (wcells ws))
    (h2 : w.heap[p.P]? = some (.cells #[.slice p.TA p.T.length p.Tc, .slice wA ws.length wc, .int .i64 (p.E : Nat), .slice nA o.length nc, .int .i64 (k : Nat), .int .i64 e] 130 (0, 0)))
    (h3 : w.ownsRow p.B 163 2 (.slice nA o.length nc) o.length (pcells o))
    (k1 : w'.ownsRow p.B 163 2 (.slice A' (o.length + 1) c') (o.length + 1) (pcells o ++ [.int .i64 x.1, .int .i64 x.2])) (k2 : Below p.B w w')
    (k3 : ∀ g, p.B ≤ g → g < w.heap.size → (Value.slice nA o.length nc).ownBlock ≠ some g → w'.heap[g]? = w.heap[g]?) :
    w'.heap[p.P]? = some (.cells #[.slice p.TA p.T.length p.Tc, .slice wA ws.length wc, .int .i64 (p.E : Nat), .slice nA o.length nc, .int .i64 (k : Nat), .int .i64 e] 130 (0, 0)) ∧
    RX p (w'.setCell ⟨p.P, 3, none⟩ (.slice A' (o.length + 1) c')) ws (o ++ [x]) k e := by
  have hb := (k3 p.P h.hP (lt_of_block h2) (own_blk_ne h3 h2 (by decide))).trans h2
  have hr := own_other h.row h3 (by decide) k3
  refine ⟨hb, (h.bel.trans k2).setCell (p := ⟨p.P, 3, none⟩) h.hP _, h.hP, h.tab, own_setR hr hb (by decide), by rw [List.length_append, List.length_singleton]; omega, wA, wc, A', c', h1, ?_, ?_⟩
  · rw [List.length_append, List.length_singleton]
    exact heap_setCell_same w' p.P 3 _ _ _ hb
  · rw [List.length_append, List.length_singleton, pcells_snoc]
    exact own_setR k1 hb (by decide)

theorem info_rword2 : (Tryz.prog.info? 158).map (fun i => (i.zero, i.size, i.bytes)) = some (some (.agg #[.string ⟨#[]⟩, .int .i64 0]), 2, 24) := by kernel_rfl

set_option maxRecDepth 20000 in
theorem peek_er (p : PC) (w : World) (ws : List Wd) (o : List (Int × Int)) (k : Nat) (e : Int) (h : RX p w ws o k e) (he : e ≠ 0) :
    Calls Tryz.prog 100 #[.pointer (some ⟨p.P, 0, none⟩)] w fun e w' => e = .returned (.string ⟨#[]⟩) ∧ w = w' := by
  obtain ⟨wA, wc, nA, nc, h1, h2, h3⟩ := h.st
  obtain ⟨⟨q0, q1, q2, q3, q4, q5⟩, f1, f3, f4, f5⟩ := six_cellsR h2
  have e1 : (e != 0) = true := by simpa using he
  by_cases hl : ws.length = 0
  · rw [hl] at q1
    clear h h1 h2 h3 hl
    go_enter Tryz.func100, Tryz.ntmps100
    go_wp2
    go_ret
    exact ⟨rfl, rfl⟩
  · generalize ws.length = n at *
    have hn : ((n : Int) == 0) = false := by simpa using hl
    clear h h1 h2 h3
    go_enter Tryz.func100, Tryz.ntmps100
    go_wp2
    go_ret
    exact ⟨rfl, rfl⟩
set_option maxRecDepth 20000 in
theorem peek_ok (p : PC) (w : World) (ws : List Wd) (o : List (Int × Int)) (k : Nat) (h : RX p w ws o k 0) :
    Calls Tryz.prog 100 #[.pointer (some ⟨p.P, 0, none⟩)] w fun e w' => e = .returned (.string (str (hdW ws))) ∧ w = w' := by
  obtain ⟨wA, wc, nA, nc, h1, h2, h3⟩ := h.st
  have h4 := h1 w h.row
  obtain ⟨⟨q0, q1, q2, q3, q4, q5⟩, f1, f3, f4, f5⟩ := six_cellsR h2
  cases ws with
  | nil =>
    clear h h1 h2 h3 h4
    go_enter Tryz.func100, Tryz.ntmps100
    go_wp2
    go_ret
    exact ⟨rfl, rfl⟩
  | cons x ws =>
    obtain ⟨b, off, rfl, c0, c1⟩ := h4.head
    have hl : ((ws.length + 1 : Nat) : Int) ≠ 0 := by omega
    show Calls _ _ _ _ fun e w' => e = .returned (.string (str x.1)) ∧ w = w'
    simp only [List.length_cons] at q1
    clear h h1 h2 h3 h4
    generalize hn : ws.length + 1 = n at *
    have hn0 : 0 < n := by omega
    have hn1 : ((n : Int) == 0) = false := by simpa using hl
    clear hn
    generalize str x.1 = s at *
    go_enter Tryz.func100, Tryz.ntmps100
    go_wp2
    go_ret
    exact ⟨rfl, rfl⟩
set_option maxRecDepth 20000 in
theorem here_any (p : PC) (w : World) (ws : List Wd) (o : List (Int × Int)) (k : Nat) (e : Int) (h : RX p w ws o k e) :
    Calls Tryz.prog 73 #[.pointer (some ⟨p.P, 0, none⟩)] w fun e w' => e = .returned (.int .i64 (hereW p.E ws : Nat)) ∧ w = w' := by
  obtain ⟨wA, wc, nA, nc, h1, h2, h3⟩ := h.st
  have h4 := h1 w h.row
  obtain ⟨⟨q0, q1, q2, q3, q4, q5⟩, f1, f3, f4, f5⟩ := six_cellsR h2
  cases ws with
  | nil =>
    clear h h1 h2 h3 h4
    go_enter Tryz.func73, Tryz.ntmps73
    go_wp2
    go_ret
    exact ⟨rfl, rfl⟩
  | cons x ws =>
    obtain ⟨b, off, rfl, c0, c1⟩ := h4.head
    have hl : ((ws.length + 1 : Nat) : Int) ≠ 0 := by omega
    show Calls _ _ _ _ fun e w' => e = .returned (.int .i64 (x.2 : Nat)) ∧ w = w'
    simp only [List.length_cons] at q1
    clear h h1 h2 h3 h4
    generalize hn : ws.length + 1 = n at *
    have hn0 : 0 < n := by omega
    clear hn
    go_enter Tryz.func73, Tryz.ntmps73
    go_wp2
    go_ret
    exact ⟨rfl, rfl⟩
set_option maxRecDepth 20000 in
theorem fail_ok (p : PC) (w : World) (ws : List Wd) (o : List (Int × Int)) (k k2 : Nat) (e2 : Int) (h : RX p w ws o k 0) :
    Calls Tryz.prog 72 #[.pointer (some ⟨p.P, 0, none⟩), .int .i64 (k2 : Nat), .int .i64 e2] w fun e w' => e = .returned (.tuple #[]) ∧ RX p w' ws o k2 e2 := by
  have HF := hid (h.fail k2 e2)
  obtain ⟨wA, wc, nA, nc, h1, h2, h3⟩ := h.st
  obtain ⟨⟨q0, q1, q2, q3, q4, q5⟩, f1, f3, f4, f5⟩ := six_cellsR h2
  clear h h1 h2 h3
  go_enter Tryz.func72, Tryz.ntmps72
  go_wp2
  go_end0
  exact ⟨rfl, HF.out⟩
set_option maxRecDepth 20000 in
theorem fail_er (p : PC) (w : World) (ws : List Wd) (o : List (Int × Int)) (k k2 : Nat) (e e2 : Int) (h : RX p w ws o k e) (he : e ≠ 0) :
    Calls Tryz.prog 72 #[.pointer (some ⟨p.P, 0, none⟩), .int .i64 (k2 : Nat), .int .i64 e2] w fun e w' => e = .returned (.tuple #[]) ∧ w = w' := by
  obtain ⟨wA, wc, nA, nc, h1, h2, h3⟩ := h.st
  obtain ⟨⟨q0, q1, q2, q3, q4, q5⟩, f1, f3, f4, f5⟩ := six_cellsR h2
  have e1 : (e == 0) = false := by simpa using he
  clear h h1 h2 h3
  go_enter Tryz.func72, Tryz.ntmps72
  go_wp2
  go_end0
  exact ⟨rfl, rfl⟩

/-- How a call of the reader ends. -/
def RPost (p : PC) (R : RdR) (lim : Nat) (e : Ending) (w' : World) : Prop := e = .returned (.tuple #[]) ∧ match R with
  | .ok r o => RX p w' r o 0 0
  | .er k c => c ≠ 0 ∧ ∃ ws o, o.length + ws.length ≤ lim ∧ RX p w' ws o k c
def RAny (p : PC) (n : Nat) : Prop := ∀ ws o w, 3 * ws.length + 3 ≤ n → RX p w ws o 0 0 → Calls Tryz.prog 71 #[.pointer (some ⟨p.P, 0, none⟩)] w fun e w' => RPost p (rp p.T p.E n .any ws o) (o.length + ws.length) e w'
def RAll (p : PC) (n : Nat) : Prop := ∀ ws o w, 3 * ws.length + 2 ≤ n → RX p w ws o 0 0 → Calls Tryz.prog 99 #[.pointer (some ⟨p.P, 0, none⟩)] w fun e w' => RPost p (rp p.T p.E n .all ws o) (o.length + ws.length) e w'
def ROne (p : PC) (n : Nat) : Prop := ∀ ws o w, 3 * ws.length + 1 ≤ n → RX p w ws o 0 0 → Calls Tryz.prog 122 #[.pointer (some ⟨p.P, 0, none⟩)] w fun e w' => RPost p (rp p.T p.E n .one ws o) (o.length + ws.length) e w'
theorem RX.tailset {p : PC} {w : World} {ws : List Wd} {o : List (Int × Int)} {wA nA : Option Addr} {wc nc k : Nat} {e : Int} (h : RX p w ws o k e) (hl : 1 ≤ ws.length)
    (h1 : ∀ u : World, u.ownsRow p.B 158 2 (.slice p.A0 p.ws0.length p.c0) p.ws0.length (wcells p.ws0) → Sl u 2 wA ws.length wc (wcells ws))
    (h2 : w.heap[p.P]? = some (.cells #[.slice p.TA p.T.length p.Tc, .slice wA ws.length wc, .int .i64 (p.E : Nat), .slice nA o.length nc, .int .i64 (k : Nat), .int .i64 e] 130 (0, 0)))
    (h3 : w.ownsRow p.B 163 2 (.slice nA o.length nc) o.length (pcells o)) :
    RX p (w.setCell ⟨p.P, 1, none⟩ (.slice (dropA wA wc 1 2) (ws.length - 1) (wc - 1))) ws.tail o k e := by
  cases ws with
  | nil => exact absurd hl (by simp)
  | cons x ws => exact h.skip rfl h1 h2 h3

set_option maxRecDepth 20000 in
set_option maxHeartbeats 2000000 in
theorem rany_step (p : PC) (n : Nat) (hA : ∀ m, m ≤ n → RAll p m) : RAny p (n + 1) := by
  intro ws o w hn h
  have HC := hid (hA n (Nat.le_refl _) ws o w (by omega) h)
  have hbd := h.bd
  obtain ⟨R, hR⟩ : ∃ R, rp p.T p.E (n + 1) .any ws o = R := ⟨_, rfl⟩
  rw [hR]
  rw [rp_any] at hR
  have HR := hid hR
  have HA := hid hA
  have HL := hid hn
  obtain ⟨lim, hlim⟩ : ∃ lim, o.length + ws.length = lim := ⟨_, rfl⟩
  rw [hlim]
  have HLM := hid hlim
  clear h hA hn hR hlim
  go_enter Tryz.func71, Tryz.ntmps71
  go_wp2_with fail
  refine HC.out.mono ?_
  rintro e w2 ⟨rfl, hx⟩
  have HX : Hid (∃ ws' o' kk cc, (RX p w2 ws' o' kk cc ∧ o'.length + ws'.length ≤ lim) ∧ ((cc = 0 ∧ kk = 0 ∧ 3 * ws'.length + 1 ≤ n ∧ n ≤ n ∧ rp p.T p.E n .anyL ws' o' = R) ∨ (cc ≠ 0 ∧ R = .er kk cc))) := by
    have hR := HR.out
    have hL := HL.out
    have hLM := HLM.out
    cases hS : rp p.T p.E n .all ws o with
    | ok r q =>
      rw [hS] at hx hR
      have g1 := (rp_short _ _ _ _ _ _ _ _ hS).2 (by simp)
      have g2 := rp_len _ _ _ _ _ _ _ _ hS
      exact ⟨r, q, 0, 0, ⟨hx, by omega⟩, .inl ⟨rfl, rfl, by omega, Nat.le_refl _, hR⟩⟩
    | er k c =>
      rw [hS] at hx hR
      obtain ⟨hc, ws2, o2, hl2, hx2⟩ := hx
      exact ⟨ws2, o2, k, c, ⟨hx2, by omega⟩, .inr ⟨hc, hR.symm⟩⟩
  clear hx HC HR HL
  go_wp2
  go_loopg [] n (fun g wr => Hid (∃ ws' o' kk cc, (RX p wr ws' o' kk cc ∧ o'.length + ws'.length ≤ lim) ∧ ((cc = 0 ∧ kk = 0 ∧ 3 * ws'.length + 1 ≤ g ∧ g ≤ n ∧ rp p.T p.E g .anyL ws' o' = R) ∨ (cc ≠ 0 ∧ R = .er kk cc))))
  case atStart => exact HX
  case round =>
    clear HX
    obtain ⟨ws', o', kk, cc, ⟨hx, hl⟩, h9⟩ := hrel.out
    clear hrel
    have HX := hid hx
    have HLL := hid hl
    clear hx hl
    rcases h9 with ⟨rfl, rfl, hg, hgn, hR⟩ | ⟨hc, hR⟩
    · obtain ⟨m, rfl⟩ : ∃ m, gk = m + 1 := ⟨gk - 1, by omega⟩
      rw [rp_anyL] at hR
      have HPK := hid (peek_ok p wr ws' o' 0 HX.out)
      by_cases hh : hdW ws' = [124]
      · rw [if_pos hh] at hR
        rw [hh, show str [124] = ⟨#[124]⟩ from rfl] at HPK
        have hlen := hd_pos' hh (by simp)
        have HC := hid (fun w hu => HA.out m (by omega) ws'.tail o' w (by rw [List.length_tail]; omega) hu)
        have HR := hid hR
        have HG := hid (And.intro hg hgn)
        clear hh hR hg hgn
        go_wp2_with fail
        refine HPK.out.mono ?_
        rintro e w3 ⟨rfl, rfl⟩
        clear HPK
        obtain ⟨wA, wc, nA, nc, h1, h2, h3⟩ := HX.out.st
        have HTS := hid (RX.tailset HX.out hlen h1 h2 h3)
        have hsl := run_from (P := Tryz.prog) Tryz.underlying123 info_rword2 wA ws'.length wc 1 hlen wr
        rw [show ((1 : Nat) : Int) = 1 from rfl] at hsl
        obtain ⟨⟨q0, q1, q2, q3, q4, q5⟩, f1, f3, f4, f5⟩ := six_cellsR h2
        clear h1 h2 h3 HX
        generalize ws'.length = n8 at q1 hsl HTS
        go_upto_region 3 with (fail)
        refine at_world (fun u => RX p u ws'.tail o' 0 0) HTS.out ?_
        clear HTS q0 q1 q2 q3 q4 q5 f1 f3 f4 f5 hsl
        rintro w3 hx
        have HX3 := hid hx
        clear hx
        go_wp2_with fail
        refine (HC.out w3 HX3.out).mono ?_
        rintro e w4 ⟨rfl, hx⟩
        have HX4 : Hid (∃ ws2 o2 kk cc, (RX p w4 ws2 o2 kk cc ∧ o2.length + ws2.length < lim) ∧ ((cc = 0 ∧ kk = 0 ∧ 3 * ws2.length + 1 ≤ m ∧ m ≤ n ∧ rp p.T p.E m .anyL ws2 (o2 ++ [(5, 0)]) = R) ∨ (cc ≠ 0 ∧ R = .er kk cc))) := by
          have hR := HR.out
          have hL := HLL.out
          have hG := HG.out
          cases hS : rp p.T p.E m .all ws'.tail o' with
          | ok r q =>
            rw [hS] at hx hR
            have g1 := (rp_short _ _ _ _ _ _ _ _ hS).2 (by simp)
            have g2 := rp_len _ _ _ _ _ _ _ _ hS
            rw [List.length_tail] at g1 g2
            exact ⟨r, q, 0, 0, ⟨hx, by omega⟩, .inl ⟨rfl, rfl, by omega, by omega, hR⟩⟩
          | er k c =>
            rw [hS] at hx hR
            obtain ⟨hc, ws2, o2, hl2, hx2⟩ := hx
            rw [List.length_tail] at hl2
            exact ⟨ws2, o2, k, c, ⟨hx2, by omega⟩, .inr ⟨hc, hR.symm⟩⟩
        clear hx HC HX3 HR HLL
        obtain ⟨ws2, o2, kk, cc, ⟨hx, hl⟩, h9⟩ := HX4.out
        clear HX4
        have HX4 := hid hx
        have HL4 := hid hl
        have H9 := hid h9
        clear hx hl h9
        have hbd9 : o2.length + ws2.length < 1000 := (by have h1 := HL4.out; have h2 := HLM.out; omega)
        obtain ⟨wA, wc, nA, nc, h1, h2, h3⟩ := HX4.out.st
        have HP9 := hid (fun w' A' c' k1 k2 k3 => HX4.out.push (w' := w') (x := (5, 0)) (A' := A') (c' := c') hbd9 h1 h2 h3 k1 k2 k3)
        have HO9 := hid h3
        have hbs9 := HX4.out.bel.size
        have hol9 : o2.length < 1000 := by omega
        obtain ⟨⟨q0, q1, q2, q3, q4, q5⟩, f1, f3, f4, f5⟩ := six_cellsR h2
        clear h1 h2 h3 hbd9 HX4
        generalize o2.length = n9 at q3 HP9 HO9 hol9
        go_wp2_with (at_builtin; refine wpList_append_1k (W := w4) rfl (.tmp 21) (.tmp 23) 93 rfl p.B 163 Tryz.underlying93 info_node rfl (by omega) rfl HO9.out rfl (by rfl) (by simp [Value.oneCell']) ?c1 ?c2 hbs9 (Below.refl _ _) ?_)
        case c1 => unfold maxLen; omega
        case c2 => omega
        intro v' w6 k1 k2 k3 k4
        obtain ⟨A6, c6, rfl, _⟩ := Sl.of_own k1
        obtain ⟨hb6, hx6⟩ := HP9.out w6 A6 c6 k1 k2 k4
        clear k1 k2 k3 k4 HP9 HO9 q0 q1 q2 q3 q4 q5 f1 f3 f4 f5 hbs9
        obtain ⟨⟨q0, q1, q2, q3, q4, q5⟩, f1, f3, f4, f5⟩ := six_cellsR hb6
        clear hb6
        have HX5 := hid hx6
        clear hx6
        have HZ : Hid (∃ ws' o' kk cc, (RX p (w6.setCell ⟨p.P, 3, none⟩ (.slice A6 (n9 + 1) c6)) ws' o' kk cc ∧ o'.length + ws'.length ≤ lim) ∧ ((cc = 0 ∧ kk = 0 ∧ 3 * ws'.length + 1 ≤ m ∧ m ≤ n ∧ rp p.T p.E m .anyL ws' o' = R) ∨ (cc ≠ 0 ∧ R = .er kk cc))) := hid ⟨ws2, o2 ++ [(5, 0)], kk, cc, ⟨HX5.out, by have := HL4.out; rw [List.length_append, List.length_singleton]; omega⟩, H9.out⟩
        clear HX5 HL4 H9
        go_wp2
        go_roundg m
        case measure => omega
        case rel => exact HZ
      · rw [if_neg hh] at hR
        have HR := hid hR
        have hz := str_ne hh
        generalize str (hdW ws') = sx at *
        have j9 : (sx.toList == [124]) = false := by rw [beq_eq_false_iff_ne]; intro e; exact hz (by rw [e]; simp [str, ByteArray.toList_eq])
        clear hh hR hg hgn hz
        go_wp2_with fail
        refine HPK.out.mono ?_
        rintro e w3 ⟨rfl, rfl⟩
        obtain rfl := HR.out
        go_wp2
        go_end0
        exact ⟨rfl, HX.out⟩
    · have HPK := hid (peek_er p wr ws' o' kk cc HX.out hc)
      have HR := hid (And.intro hc hR)
      clear hc hR
      go_wp2_with fail
      refine HPK.out.mono ?_
      rintro e w3 ⟨rfl, rfl⟩
      obtain ⟨hc, rfl⟩ := HR.out
      go_wp2
      go_end0
      exact ⟨rfl, hc, ws', o', HLL.out, HX.out⟩

set_option maxRecDepth 20000 in
set_option maxHeartbeats 2000000 in
theorem rall_step (p : PC) (n : Nat) (hA : ∀ m, m ≤ n → ROne p m) : RAll p (n + 1) := by
  intro ws o w hn h
  have HC := hid (hA n (Nat.le_refl _) ws o w (by omega) h)
  have hbd := h.bd
  obtain ⟨R, hR⟩ : ∃ R, rp p.T p.E (n + 1) .all ws o = R := ⟨_, rfl⟩
  rw [hR]
  rw [rp_all] at hR
  have HR := hid hR
  have HA := hid hA
  have HL := hid hn
  obtain ⟨lim, hlim⟩ : ∃ lim, o.length + ws.length = lim := ⟨_, rfl⟩
  rw [hlim]
  have HLM := hid hlim
  clear h hA hn hR hlim
  go_enter Tryz.func99, Tryz.ntmps99
  go_wp2_with fail
  refine HC.out.mono ?_
  rintro e w2 ⟨rfl, hx⟩
  have HX : Hid (∃ ws' o' kk cc, (RX p w2 ws' o' kk cc ∧ o'.length + ws'.length ≤ lim) ∧ ((cc = 0 ∧ kk = 0 ∧ 3 * ws'.length + 1 ≤ n ∧ n ≤ n ∧ rp p.T p.E n .allL ws' o' = R) ∨ (cc ≠ 0 ∧ R = .er kk cc))) := by
    have hR := HR.out
    have hL := HL.out
    have hLM := HLM.out
    cases hS : rp p.T p.E n .one ws o with
    | ok r q =>
      rw [hS] at hx hR
      have g1 := (rp_short _ _ _ _ _ _ _ _ hS).2 (by simp)
      have g2 := rp_len _ _ _ _ _ _ _ _ hS
      exact ⟨r, q, 0, 0, ⟨hx, by omega⟩, .inl ⟨rfl, rfl, by omega, Nat.le_refl _, hR⟩⟩
    | er k c =>
      rw [hS] at hx hR
      obtain ⟨hc, ws2, o2, hl2, hx2⟩ := hx
      exact ⟨ws2, o2, k, c, ⟨hx2, by omega⟩, .inr ⟨hc, hR.symm⟩⟩
  clear hx HC HR HL
  go_wp2
  go_loopg [] n (fun g wr => Hid (∃ ws' o' kk cc, (RX p wr ws' o' kk cc ∧ o'.length + ws'.length ≤ lim) ∧ ((cc = 0 ∧ kk = 0 ∧ 3 * ws'.length + 1 ≤ g ∧ g ≤ n ∧ rp p.T p.E g .allL ws' o' = R) ∨ (cc ≠ 0 ∧ R = .er kk cc))))
  case atStart => exact HX
  case round =>
    clear HX
    obtain ⟨ws', o', kk, cc, ⟨hx, hl⟩, h9⟩ := hrel.out
    clear hrel
    have HX := hid hx
    have HLL := hid hl
    clear hx hl
    rcases h9 with ⟨rfl, rfl, hg, hgn, hR⟩ | ⟨hc, hR⟩
    · obtain ⟨m, rfl⟩ : ∃ m, gk = m + 1 := ⟨gk - 1, by omega⟩
      rw [rp_allL] at hR
      have HPK := hid (peek_ok p wr ws' o' 0 HX.out)
      by_cases hh : hdW ws' = [38]
      · rw [if_pos hh] at hR
        rw [hh, show str [38] = ⟨#[38]⟩ from rfl] at HPK
        have hlen := hd_pos' hh (by simp)
        have HC := hid (fun w hu => HA.out m (by omega) ws'.tail o' w (by rw [List.length_tail]; omega) hu)
        have HR := hid hR
        have HG := hid (And.intro hg hgn)
        clear hh hR hg hgn
        go_wp2_with fail
        refine HPK.out.mono ?_
        rintro e w3 ⟨rfl, rfl⟩
        clear HPK
        obtain ⟨wA, wc, nA, nc, h1, h2, h3⟩ := HX.out.st
        have HTS := hid (RX.tailset HX.out hlen h1 h2 h3)
        have hsl := run_from (P := Tryz.prog) Tryz.underlying123 info_rword2 wA ws'.length wc 1 hlen wr
        rw [show ((1 : Nat) : Int) = 1 from rfl] at hsl
        obtain ⟨⟨q0, q1, q2, q3, q4, q5⟩, f1, f3, f4, f5⟩ := six_cellsR h2
        clear h1 h2 h3 HX
        generalize ws'.length = n8 at q1 hsl HTS
        go_upto_region 3 with (fail)
        refine at_world (fun u => RX p u ws'.tail o' 0 0) HTS.out ?_
        clear HTS q0 q1 q2 q3 q4 q5 f1 f3 f4 f5 hsl
        rintro w3 hx
        have HX3 := hid hx
        clear hx
        go_wp2_with fail
        refine (HC.out w3 HX3.out).mono ?_
        rintro e w4 ⟨rfl, hx⟩
        have HX4 : Hid (∃ ws2 o2 kk cc, (RX p w4 ws2 o2 kk cc ∧ o2.length + ws2.length < lim) ∧ ((cc = 0 ∧ kk = 0 ∧ 3 * ws2.length + 1 ≤ m ∧ m ≤ n ∧ rp p.T p.E m .allL ws2 (o2 ++ [(4, 0)]) = R) ∨ (cc ≠ 0 ∧ R = .er kk cc))) := by
          have hR := HR.out
          have hL := HLL.out
          have hG := HG.out
          cases hS : rp p.T p.E m .one ws'.tail o' with
          | ok r q =>
            rw [hS] at hx hR
            have g1 := (rp_short _ _ _ _ _ _ _ _ hS).2 (by simp)
            have g2 := rp_len _ _ _ _ _ _ _ _ hS
            rw [List.length_tail] at g1 g2
            exact ⟨r, q, 0, 0, ⟨hx, by omega⟩, .inl ⟨rfl, rfl, by omega, by omega, hR⟩⟩
          | er k c =>
            rw [hS] at hx hR
            obtain ⟨hc, ws2, o2, hl2, hx2⟩ := hx
            rw [List.length_tail] at hl2
            exact ⟨ws2, o2, k, c, ⟨hx2, by omega⟩, .inr ⟨hc, hR.symm⟩⟩
        clear hx HC HX3 HR HLL
        obtain ⟨ws2, o2, kk, cc, ⟨hx, hl⟩, h9⟩ := HX4.out
        clear HX4
        have HX4 := hid hx
        have HL4 := hid hl
        have H9 := hid h9
        clear hx hl h9
        have hbd9 : o2.length + ws2.length < 1000 := (by have h1 := HL4.out; have h2 := HLM.out; omega)
        obtain ⟨wA, wc, nA, nc, h1, h2, h3⟩ := HX4.out.st
        have HP9 := hid (fun w' A' c' k1 k2 k3 => HX4.out.push (w' := w') (x := (4, 0)) (A' := A') (c' := c') hbd9 h1 h2 h3 k1 k2 k3)
        have HO9 := hid h3
        have hbs9 := HX4.out.bel.size
        have hol9 : o2.length < 1000 := by omega
        obtain ⟨⟨q0, q1, q2, q3, q4, q5⟩, f1, f3, f4, f5⟩ := six_cellsR h2
        clear h1 h2 h3 hbd9 HX4
        generalize o2.length = n9 at q3 HP9 HO9 hol9
        go_wp2_with (at_builtin; refine wpList_append_1k (W := w4) rfl (.tmp 21) (.tmp 23) 93 rfl p.B 163 Tryz.underlying93 info_node rfl (by omega) rfl HO9.out rfl (by rfl) (by simp [Value.oneCell']) ?c1 ?c2 hbs9 (Below.refl _ _) ?_)
        case c1 => unfold maxLen; omega
        case c2 => omega
        intro v' w6 k1 k2 k3 k4
        obtain ⟨A6, c6, rfl, _⟩ := Sl.of_own k1
        obtain ⟨hb6, hx6⟩ := HP9.out w6 A6 c6 k1 k2 k4
        clear k1 k2 k3 k4 HP9 HO9 q0 q1 q2 q3 q4 q5 f1 f3 f4 f5 hbs9
        obtain ⟨⟨q0, q1, q2, q3, q4, q5⟩, f1, f3, f4, f5⟩ := six_cellsR hb6
        clear hb6
        have HX5 := hid hx6
        clear hx6
        have HZ : Hid (∃ ws' o' kk cc, (RX p (w6.setCell ⟨p.P, 3, none⟩ (.slice A6 (n9 + 1) c6)) ws' o' kk cc ∧ o'.length + ws'.length ≤ lim) ∧ ((cc = 0 ∧ kk = 0 ∧ 3 * ws'.length + 1 ≤ m ∧ m ≤ n ∧ rp p.T p.E m .allL ws' o' = R) ∨ (cc ≠ 0 ∧ R = .er kk cc))) := hid ⟨ws2, o2 ++ [(4, 0)], kk, cc, ⟨HX5.out, by have := HL4.out; rw [List.length_append, List.length_singleton]; omega⟩, H9.out⟩
        clear HX5 HL4 H9
        go_wp2
        go_roundg m
        case measure => omega
        case rel => exact HZ
      · rw [if_neg hh] at hR
        have HR := hid hR
        have hz := str_ne hh
        generalize str (hdW ws') = sx at *
        have j9 : (sx.toList == [38]) = false := by rw [beq_eq_false_iff_ne]; intro e; exact hz (by rw [e]; simp [str, ByteArray.toList_eq])
        clear hh hR hg hgn hz
        go_wp2_with fail
        refine HPK.out.mono ?_
        rintro e w3 ⟨rfl, rfl⟩
        obtain rfl := HR.out
        go_wp2
        go_end0
        exact ⟨rfl, HX.out⟩
    · have HPK := hid (peek_er p wr ws' o' kk cc HX.out hc)
      have HR := hid (And.intro hc hR)
      clear hc hR
      go_wp2_with fail
      refine HPK.out.mono ?_
      rintro e w3 ⟨rfl, rfl⟩
      obtain ⟨hc, rfl⟩ := HR.out
      go_wp2
      go_end0
      exact ⟨rfl, hc, ws', o', HLL.out, HX.out⟩
end Go.Proofs.YtgakobolhmdnnaaGreat
