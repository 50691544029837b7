/- The document's reader of needs: its contracts. -/
import Derived.Test.YtgakobolhmdnnaaGreatDoorQReaA
import Derived.Deep.LoopGhost
import Derived.Deep.Cut
import Derived.Test.YtgakobolhmdnnaaGreatDoorQReaO
import Derived.Test.YtgakobolhmdnnaaGreatDoorLxP
import Derived.BigQuiet
namespace Go.Proofs.YtgakobolhmdnnaaGreatDoor
open Go.RowKit
set_option linter.unusedVariables false
set_option linter.unusedSimpArgs false

theorem six_cellsR {w : World} {b t : Nat} {x0 x1 x2 x3 x4 x5 : Value} (h : w.heap[b]? = some (.cells #[x0, x1, x2, x3, x4, x5] t (0, 0))) :
    (w.cell? ⟨b, 0, none⟩ = some x0 ∧ w.cell? ⟨b, 1, none⟩ = some x1 ∧ w.cell? ⟨b, 2, none⟩ = some x2 ∧ w.cell? ⟨b, 3, none⟩ = some x3 ∧ w.cell? ⟨b, 4, none⟩ = some x4 ∧ w.cell? ⟨b, 5, none⟩ = some x5) ∧ w.frozen? ⟨b, 1, none⟩ = false ∧ w.frozen? ⟨b, 3, none⟩ = false ∧ w.frozen? ⟨b, 4, none⟩ = false ∧ w.frozen? ⟨b, 5, none⟩ = false :=
  ⟨⟨by rw [cell_of_row w b 0 _ t (0, 0) h]; rfl, by rw [cell_of_row w b 1 _ t (0, 0) h]; rfl, by rw [cell_of_row w b 2 _ t (0, 0) h]; rfl, by rw [cell_of_row w b 3 _ t (0, 0) h]; rfl, by rw [cell_of_row w b 4 _ t (0, 0) h]; rfl, by rw [cell_of_row w b 5 _ t (0, 0) h]; rfl⟩, frozen_of_row w b 1 _ t h, frozen_of_row w b 3 _ t h, frozen_of_row w b 4 _ t h, frozen_of_row w b 5 _ t h⟩
/-- A reader: words ws left, nodes o, the first error e at k. -/
structure RX (p : PC) (w : World) (ws : List Wd) (o : List (Int × Int)) (k : Nat) (e : Int) : Prop where
  bel : Below p.B p.W w
  hP : p.B ≤ p.P
  tab : Sl p.W 1 p.TA p.T.length p.Tc (scells p.T)
  row : w.ownsRow p.B 120 2 (.slice p.A0 p.ws0.length p.c0) p.ws0.length (wcells p.ws0)
  bd : o.length + ws.length ≤ 1000
  st : ∃ wA wc nA nc, (∀ u : World, u.ownsRow p.B 120 2 (.slice p.A0 p.ws0.length p.c0) p.ws0.length (wcells p.ws0) → Sl u 2 wA ws.length wc (wcells ws)) ∧
    w.heap[p.P]? = some (.cells #[.slice p.TA p.T.length p.Tc, .slice wA ws.length wc, .int .i64 (p.E : Nat), .slice nA o.length nc, .int .i64 (k : Nat), .int .i64 e] 106 (0, 0)) ∧
    w.ownsRow p.B 125 2 (.slice nA o.length nc) o.length (pcells o)
theorem RX.below {p : PC} {w w' : World} {ws : List Wd} {o : List (Int × Int)} {k : Nat} {e : Int} (h : RX p w ws o k e) (hb : Below w.heap.size w w') : RX p w' ws o k e := by
  obtain ⟨wA, wc, nA, nc, h1, h2, h3⟩ := h.st
  exact ⟨h.bel.trans (hb.mono h.bel.size), h.hP, h.tab, own_keep h.row hb, h.bd, wA, wc, nA, nc, h1, (hb.block _ (lt_of_block h2)).trans h2, own_keep h3 hb⟩
theorem RX.fail {p : PC} {w : World} {ws : List Wd} {o : List (Int × Int)} {k : Nat} {e : Int} (h : RX p w ws o k e) (k2 : Nat) (e2 : Int) :
    RX p ((w.setCell ⟨p.P, 4, none⟩ (.int .i64 (k2 : Nat))).setCell ⟨p.P, 5, none⟩ (.int .i64 e2)) ws o k2 e2 := by
  obtain ⟨wA, wc, nA, nc, h1, h2, h3⟩ := h.st
  have h4 := heap_setCell_same w p.P 4 _ _ (.int .i64 (k2 : Nat)) h2
  exact ⟨(h.bel.setCell (p := ⟨p.P, 4, none⟩) h.hP _).setCell (p := ⟨p.P, 5, none⟩) h.hP _, h.hP, h.tab, own_setR (own_setR h.row h2 (by decide)) h4 (by decide), h.bd, wA, wc, nA, nc, h1,
    heap_setCell_same _ p.P 5 _ _ _ h4, own_setR (own_setR h3 h2 (by decide)) h4 (by decide)⟩
theorem RX.skip {p : PC} {w : World} {x : Wd} {ws : List Wd} {o : List (Int × Int)} {wA nA : Option Addr} {wc nc n k : Nat} {e : Int} (h : RX p w (x :: ws) o k e) (hn : (x :: ws).length = n)
    (h1 : ∀ u : World, u.ownsRow p.B 120 2 (.slice p.A0 p.ws0.length p.c0) p.ws0.length (wcells p.ws0) → Sl u 2 wA n wc (wcells (x :: ws)))
    (h2 : w.heap[p.P]? = some (.cells #[.slice p.TA p.T.length p.Tc, .slice wA n wc, .int .i64 (p.E : Nat), .slice nA o.length nc, .int .i64 (k : Nat), .int .i64 e] 106 (0, 0)))
    (h3 : w.ownsRow p.B 125 2 (.slice nA o.length nc) o.length (pcells o)) :
    RX p (w.setCell ⟨p.P, 1, none⟩ (.slice (dropA wA wc 1 2) (n - 1) (wc - 1))) ws o k e := by
  have hn1 : n = ws.length + 1 := by rw [← hn]; rfl
  subst hn1
  exact ⟨h.bel.setCell (p := ⟨p.P, 1, none⟩) h.hP _, h.hP, h.tab, own_setR h.row h2 (by decide), by have := h.bd; simp only [List.length_cons] at this; omega,
    dropA wA wc 1 2, wc - 1, nA, nc, fun u hu => by simpa using (h1 u hu).behind (by omega), heap_setCell_same w p.P 1 _ _ _ h2, own_setR h3 h2 (by decide)⟩
theorem RX.push {p : PC} {w w' : World} {ws : List Wd} {o : List (Int × Int)} {x : Int × Int} {wA nA A' : Option Addr} {wc nc c' k : Nat} {e : Int} (h : RX p w ws o k e) (hbd : o.length + ws.length < 1000)
    (h1 : ∀ u : World, u.ownsRow p.B 120 2 (.slice p.A0 p.ws0.length p.c0) p.ws0.length (wcells p.ws0) → Sl u 2 wA ws.length wc (wcells ws))
    (h2 : w.heap[p.P]? = some (.cells #[.slice p.TA p.T.length p.Tc, .slice wA ws.length wc, .int .i64 (p.E : Nat), .slice nA o.length nc, .int .i64 (k : Nat), .int .i64 e] 106 (0, 0)))
    (h3 : w.ownsRow p.B 125 2 (.slice nA o.length nc) o.length (pcells o))
    (k1 : w'.ownsRow p.B 125 2 (.slice A' (o.length + 1) c') (o.length + 1) (pcells o ++ [.int .i64 x.1, .int .i64 x.2])) (k2 : Below p.B w w')
    (k3 : ∀ g, p.B ≤ g → g < w.heap.size → (Value.slice nA o.length nc).ownBlock ≠ some g → w'.heap[g]? = w.heap[g]?) :
    w'.heap[p.P]? = some (.cells #[.slice p.TA p.T.length p.Tc, .slice wA ws.length wc, .int .i64 (p.E : Nat), .slice nA o.length nc, .int .i64 (k : Nat), .int .i64 e] 106 (0, 0)) ∧
    RX p (w'.setCell ⟨p.P, 3, none⟩ (.slice A' (o.length + 1) c')) ws (o ++ [x]) k e := by
  have hb := (k3 p.P h.hP (lt_of_block h2) (own_blk_ne h3 h2 (by decide))).trans h2
  have hr := own_other h.row h3 (by decide) k3
  refine ⟨hb, (h.bel.trans k2).setCell (p := ⟨p.P, 3, none⟩) h.hP _, h.hP, h.tab, own_setR hr hb (by decide), by rw [List.length_append, List.length_singleton]; omega, wA, wc, A', c', h1, ?_, ?_⟩
  · rw [List.length_append, List.length_singleton]
    exact heap_setCell_same w' p.P 3 _ _ _ hb
  · rw [List.length_append, List.length_singleton, pcells_snoc]
    exact own_setR k1 hb (by decide)

theorem info_rword2 : (Tryz.prog.info? 120).map (fun i => (i.zero, i.size, i.bytes)) = some (some (.agg #[.string ⟨#[]⟩, .int .i64 0]), 2, 24) := by kernel_rfl

set_option maxRecDepth 20000 in
theorem peek_er (p : PC) (w : World) (ws : List Wd) (o : List (Int × Int)) (k : Nat) (e : Int) (h : RX p w ws o k e) (he : e ≠ 0) :
    Calls Tryz.prog 80 #[.pointer (some ⟨p.P, 0, none⟩)] w fun e w' => e = .returned (.string ⟨#[]⟩) ∧ w = w' := by
  obtain ⟨wA, wc, nA, nc, h1, h2, h3⟩ := h.st
  obtain ⟨⟨q0, q1, q2, q3, q4, q5⟩, f1, f3, f4, f5⟩ := six_cellsR h2
  have e1 : (e != 0) = true := by simpa using he
  by_cases hl : ws.length = 0
  · rw [hl] at q1
    clear h h1 h2 h3 hl
    go_enter Tryz.func80, Tryz.ntmps80
    go_wp2
    go_ret
    exact ⟨rfl, rfl⟩
  · generalize ws.length = n at *
    have hn : ((n : Int) == 0) = false := by simpa using hl
    clear h h1 h2 h3
    go_enter Tryz.func80, Tryz.ntmps80
    go_wp2
    go_ret
    exact ⟨rfl, rfl⟩
set_option maxRecDepth 20000 in
theorem peek_ok (p : PC) (w : World) (ws : List Wd) (o : List (Int × Int)) (k : Nat) (h : RX p w ws o k 0) :
    Calls Tryz.prog 80 #[.pointer (some ⟨p.P, 0, none⟩)] w fun e w' => e = .returned (.string (str (hdW ws))) ∧ w = w' := by
  obtain ⟨wA, wc, nA, nc, h1, h2, h3⟩ := h.st
  have h4 := h1 w h.row
  obtain ⟨⟨q0, q1, q2, q3, q4, q5⟩, f1, f3, f4, f5⟩ := six_cellsR h2
  cases ws with
  | nil =>
    clear h h1 h2 h3 h4
    go_enter Tryz.func80, Tryz.ntmps80
    go_wp2
    go_ret
    exact ⟨rfl, rfl⟩
  | cons x ws =>
    obtain ⟨b, off, rfl, c0, c1⟩ := h4.head
    have hl : ((ws.length + 1 : Nat) : Int) ≠ 0 := by omega
    show Calls _ _ _ _ fun e w' => e = .returned (.string (str x.1)) ∧ w = w'
    simp only [List.length_cons] at q1
    clear h h1 h2 h3 h4
    generalize hn : ws.length + 1 = n at *
    have hn0 : 0 < n := by omega
    have hn1 : ((n : Int) == 0) = false := by simpa using hl
    clear hn
    generalize str x.1 = s at *
    go_enter Tryz.func80, Tryz.ntmps80
    go_wp2
    go_ret
    exact ⟨rfl, rfl⟩
set_option maxRecDepth 20000 in
theorem here_any (p : PC) (w : World) (ws : List Wd) (o : List (Int × Int)) (k : Nat) (e : Int) (h : RX p w ws o k e) :
    Calls Tryz.prog 63 #[.pointer (some ⟨p.P, 0, none⟩)] w fun e w' => e = .returned (.int .i64 (hereW p.E ws : Nat)) ∧ w = w' := by
  obtain ⟨wA, wc, nA, nc, h1, h2, h3⟩ := h.st
  have h4 := h1 w h.row
  obtain ⟨⟨q0, q1, q2, q3, q4, q5⟩, f1, f3, f4, f5⟩ := six_cellsR h2
  cases ws with
  | nil =>
    clear h h1 h2 h3 h4
    go_enter Tryz.func63, Tryz.ntmps63
    go_wp2
    go_ret
    exact ⟨rfl, rfl⟩
  | cons x ws =>
    obtain ⟨b, off, rfl, c0, c1⟩ := h4.head
    have hl : ((ws.length + 1 : Nat) : Int) ≠ 0 := by omega
    show Calls _ _ _ _ fun e w' => e = .returned (.int .i64 (x.2 : Nat)) ∧ w = w'
    simp only [List.length_cons] at q1
    clear h h1 h2 h3 h4
    generalize hn : ws.length + 1 = n at *
    have hn0 : 0 < n := by omega
    clear hn
    go_enter Tryz.func63, Tryz.ntmps63
    go_wp2
    go_ret
    exact ⟨rfl, rfl⟩
set_option maxRecDepth 20000 in
theorem fail_ok (p : PC) (w : World) (ws : List Wd) (o : List (Int × Int)) (k k2 : Nat) (e2 : Int) (h : RX p w ws o k 0) :
    Calls Tryz.prog 62 #[.pointer (some ⟨p.P, 0, none⟩), .int .i64 (k2 : Nat), .int .i64 e2] w fun e w' => e = .returned (.tuple #[]) ∧ RX p w' ws o k2 e2 := by
  have HF := hid (h.fail k2 e2)
  obtain ⟨wA, wc, nA, nc, h1, h2, h3⟩ := h.st
  obtain ⟨⟨q0, q1, q2, q3, q4, q5⟩, f1, f3, f4, f5⟩ := six_cellsR h2
  clear h h1 h2 h3
  go_enter Tryz.func62, Tryz.ntmps62
  go_wp2
  go_end0
  exact ⟨rfl, HF.out⟩
set_option maxRecDepth 20000 in
theorem fail_er (p : PC) (w : World) (ws : List Wd) (o : List (Int × Int)) (k k2 : Nat) (e e2 : Int) (h : RX p w ws o k e) (he : e ≠ 0) :
    Calls Tryz.prog 62 #[.pointer (some ⟨p.P, 0, none⟩), .int .i64 (k2 : Nat), .int .i64 e2] w fun e w' => e = .returned (.tuple #[]) ∧ w = w' := by
  obtain ⟨wA, wc, nA, nc, h1, h2, h3⟩ := h.st
  obtain ⟨⟨q0, q1, q2, q3, q4, q5⟩, f1, f3, f4, f5⟩ := six_cellsR h2
  have e1 : (e == 0) = false := by simpa using he
  clear h h1 h2 h3
  go_enter Tryz.func62, Tryz.ntmps62
  go_wp2
  go_end0
  exact ⟨rfl, rfl⟩

/-- How a call of the reader ends. -/
def RPost (p : PC) (R : RdR) (lim : Nat) (e : Ending) (w' : World) : Prop := e = .returned (.tuple #[]) ∧ match R with
  | .ok r o => RX p w' r o 0 0
  | .er k c => c ≠ 0 ∧ ∃ ws o, o.length + ws.length ≤ lim ∧ RX p w' ws o k c
def RAny (p : PC) (n : Nat) : Prop := ∀ ws o w, 3 * ws.length + 3 ≤ n → RX p w ws o 0 0 → Calls Tryz.prog 61 #[.pointer (some ⟨p.P, 0, none⟩)] w fun e w' => RPost p (rp p.T p.E n .any ws o) (o.length + ws.length) e w'
def RAll (p : PC) (n : Nat) : Prop := ∀ ws o w, 3 * ws.length + 2 ≤ n → RX p w ws o 0 0 → Calls Tryz.prog 79 #[.pointer (some ⟨p.P, 0, none⟩)] w fun e w' => RPost p (rp p.T p.E n .all ws o) (o.length + ws.length) e w'
def ROne (p : PC) (n : Nat) : Prop := ∀ ws o w, 3 * ws.length + 1 ≤ n → RX p w ws o 0 0 → Calls Tryz.prog 98 #[.pointer (some ⟨p.P, 0, none⟩)] w fun e w' => RPost p (rp p.T p.E n .one ws o) (o.length + ws.length) e w'
theorem RX.tailset {p : PC} {w : World} {ws : List Wd} {o : List (Int × Int)} {wA nA : Option Addr} {wc nc k : Nat} {e : Int} (h : RX p w ws o k e) (hl : 1 ≤ ws.length)
    (h1 : ∀ u : World, u.ownsRow p.B 120 2 (.slice p.A0 p.ws0.length p.c0) p.ws0.length (wcells p.ws0) → Sl u 2 wA ws.length wc (wcells ws))
    (h2 : w.heap[p.P]? = some (.cells #[.slice p.TA p.T.length p.Tc, .slice wA ws.length wc, .int .i64 (p.E : Nat), .slice nA o.length nc, .int .i64 (k : Nat), .int .i64 e] 106 (0, 0)))
    (h3 : w.ownsRow p.B 125 2 (.slice nA o.length nc) o.length (pcells o)) :
    RX p (w.setCell ⟨p.P, 1, none⟩ (.slice (dropA wA wc 1 2) (ws.length - 1) (wc - 1))) ws.tail o k e := by
  cases ws with
  | nil => exact absurd hl (by simp)
  | cons x ws => exact h.skip rfl h1 h2 h3

set_option maxRecDepth 20000 in
set_option maxHeartbeats 2000000 in
theorem rany_step (p : PC) (n : Nat) (hA : ∀ m, m ≤ n → RAll p m) : RAny p (n + 1) := by
  intro ws o w hn h
  have HC := hid (hA n (Nat.le_refl _) ws o w (by omega) h)
  have hbd := h.bd
  obtain ⟨R, hR⟩ : ∃ R, rp p.T p.E (n + 1) .any ws o = R := ⟨_, rfl⟩
  rw [hR]
  rw [rp_any] at hR
  have HR := hid hR
  have HA := hid hA
  have HL := hid hn
  obtain ⟨lim, hlim⟩ : ∃ lim, o.length + ws.length = lim := ⟨_, rfl⟩
  rw [hlim]
  have HLM := hid hlim
  clear h hA hn hR hlim
  go_enter Tryz.func61, Tryz.ntmps61
  go_wp2_with fail
  refine HC.out.mono ?_
  rintro e w2 ⟨rfl, hx⟩
  have HX : Hid (∃ ws' o' kk cc, (RX p w2 ws' o' kk cc ∧ o'.length + ws'.length ≤ lim) ∧ ((cc = 0 ∧ kk = 0 ∧ 3 * ws'.length + 1 ≤ n ∧ n ≤ n ∧ rp p.T p.E n .anyL ws' o' = R) ∨ (cc ≠ 0 ∧ R = .er kk cc))) := by
    have hR := HR.out
    have hL := HL.out
    have hLM := HLM.out
    cases hS : rp p.T p.E n .all ws o with
    | ok r q =>
      rw [hS] at hx hR
      have g1 := (rp_short _ _ _ _ _ _ _ _ hS).2 (by simp)
      have g2 := rp_len _ _ _ _ _ _ _ _ hS
      exact ⟨r, q, 0, 0, ⟨hx, by omega⟩, .inl ⟨rfl, rfl, by omega, Nat.le_refl _, hR⟩⟩
    | er k c =>
      rw [hS] at hx hR
      obtain ⟨hc, ws2, o2, hl2, hx2⟩ := hx
      exact ⟨ws2, o2, k, c, ⟨hx2, by omega⟩, .inr ⟨hc, hR.symm⟩⟩
  clear hx HC HR HL
  go_wp2
  go_loopg [] n (fun g wr => Hid (∃ ws' o' kk cc, (RX p wr ws' o' kk cc ∧ o'.length + ws'.length ≤ lim) ∧ ((cc = 0 ∧ kk = 0 ∧ 3 * ws'.length + 1 ≤ g ∧ g ≤ n ∧ rp p.T p.E g .anyL ws' o' = R) ∨ (cc ≠ 0 ∧ R = .er kk cc))))
  case atStart => exact HX
  case round =>
    clear HX
    obtain ⟨ws', o', kk, cc, ⟨hx, hl⟩, h9⟩ := hrel.out
    clear hrel
    have HX := hid hx
    have HLL := hid hl
    clear hx hl
    rcases h9 with ⟨rfl, rfl, hg, hgn, hR⟩ | ⟨hc, hR⟩
    · obtain ⟨m, rfl⟩ : ∃ m, gk = m + 1 := ⟨gk - 1, by omega⟩
      rw [rp_anyL] at hR
      have HPK := hid (peek_ok p wr ws' o' 0 HX.out)
      by_cases hh : hdW ws' = [124]
      · rw [if_pos hh] at hR
        rw [hh, show str [124] = ⟨#[124]⟩ from rfl] at HPK
        have hlen := hd_pos' hh (by simp)
        have HC := hid (fun w hu => HA.out m (by omega) ws'.tail o' w (by rw [List.length_tail]; omega) hu)
        have HR := hid hR
        have HG := hid (And.intro hg hgn)
        clear hh hR hg hgn
        go_wp2_with fail
        refine HPK.out.mono ?_
        rintro e w3 ⟨rfl, rfl⟩
        clear HPK
        obtain ⟨wA, wc, nA, nc, h1, h2, h3⟩ := HX.out.st
        have HTS := hid (RX.tailset HX.out hlen h1 h2 h3)
        have hsl := run_from (P := Tryz.prog) Tryz.underlying99 info_rword2 wA ws'.length wc 1 hlen wr
        rw [show ((1 : Nat) : Int) = 1 from rfl] at hsl
        obtain ⟨⟨q0, q1, q2, q3, q4, q5⟩, f1, f3, f4, f5⟩ := six_cellsR h2
        clear h1 h2 h3 HX
        generalize ws'.length = n8 at q1 hsl HTS
        go_upto_region 3 with (fail)
        refine at_world (fun u => RX p u ws'.tail o' 0 0) HTS.out ?_
        clear HTS q0 q1 q2 q3 q4 q5 f1 f3 f4 f5 hsl
        rintro w3 hx
        have HX3 := hid hx
        clear hx
        go_wp2_with fail
        refine (HC.out w3 HX3.out).mono ?_
        rintro e w4 ⟨rfl, hx⟩
        have HX4 : Hid (∃ ws2 o2 kk cc, (RX p w4 ws2 o2 kk cc ∧ o2.length + ws2.length < lim) ∧ ((cc = 0 ∧ kk = 0 ∧ 3 * ws2.length + 1 ≤ m ∧ m ≤ n ∧ rp p.T p.E m .anyL ws2 (o2 ++ [(5, 0)]) = R) ∨ (cc ≠ 0 ∧ R = .er kk cc))) := by
          have hR := HR.out
          have hL := HLL.out
          have hG := HG.out
          cases hS : rp p.T p.E m .all ws'.tail o' with
          | ok r q =>
            rw [hS] at hx hR
            have g1 := (rp_short _ _ _ _ _ _ _ _ hS).2 (by simp)
            have g2 := rp_len _ _ _ _ _ _ _ _ hS
            rw [List.length_tail] at g1 g2
            exact ⟨r, q, 0, 0, ⟨hx, by omega⟩, .inl ⟨rfl, rfl, by omega, by omega, hR⟩⟩
          | er k c =>
            rw [hS] at hx hR
            obtain ⟨hc, ws2, o2, hl2, hx2⟩ := hx
            rw [List.length_tail] at hl2
            exact ⟨ws2, o2, k, c, ⟨hx2, by omega⟩, .inr ⟨hc, hR.symm⟩⟩
        clear hx HC HX3 HR HLL
        obtain ⟨ws2, o2, kk, cc, ⟨hx, hl⟩, h9⟩ := HX4.out
        clear HX4
        have HX4 := hid hx
        have HL4 := hid hl
        have H9 := hid h9
        clear hx hl h9
        have hbd9 : o2.length + ws2.length < 1000 := (by have h1 := HL4.out; have h2 := HLM.out; omega)
        obtain ⟨wA, wc, nA, nc, h1, h2, h3⟩ := HX4.out.st
        have HP9 := hid (fun w' A' c' k1 k2 k3 => HX4.out.push (w' := w') (x := (5, 0)) (A' := A') (c' := c') hbd9 h1 h2 h3 k1 k2 k3)
        have HO9 := hid h3
        have hbs9 := HX4.out.bel.size
        have hol9 : o2.length < 1000 := by omega
        obtain ⟨⟨q0, q1, q2, q3, q4, q5⟩, f1, f3, f4, f5⟩ := six_cellsR h2
        clear h1 h2 h3 hbd9 HX4
        generalize o2.length = n9 at q3 HP9 HO9 hol9
        go_wp2_with (at_builtin; refine wpList_append_1k (W := w4) rfl (.tmp 21) (.tmp 23) 76 rfl p.B 125 Tryz.underlying76 info_node rfl (by omega) rfl HO9.out rfl (by rfl) (by simp [Value.oneCell']) ?c1 ?c2 hbs9 (Below.refl _ _) ?_)
        case c1 => unfold maxLen; omega
        case c2 => omega
        intro v' w6 k1 k2 k3 k4
        obtain ⟨A6, c6, rfl, _⟩ := Sl.of_own k1
        obtain ⟨hb6, hx6⟩ := HP9.out w6 A6 c6 k1 k2 k4
        clear k1 k2 k3 k4 HP9 HO9 q0 q1 q2 q3 q4 q5 f1 f3 f4 f5 hbs9
        obtain ⟨⟨q0, q1, q2, q3, q4, q5⟩, f1, f3, f4, f5⟩ := six_cellsR hb6
        clear hb6
        have HX5 := hid hx6
        clear hx6
        have HZ : Hid (∃ ws' o' kk cc, (RX p (w6.setCell ⟨p.P, 3, none⟩ (.slice A6 (n9 + 1) c6)) ws' o' kk cc ∧ o'.length + ws'.length ≤ lim) ∧ ((cc = 0 ∧ kk = 0 ∧ 3 * ws'.length + 1 ≤ m ∧ m ≤ n ∧ rp p.T p.E m .anyL ws' o' = R) ∨ (cc ≠ 0 ∧ R = .er kk cc))) := hid ⟨ws2, o2 ++ [(5, 0)], kk, cc, ⟨HX5.out, by have := HL4.out; rw [List.length_append, List.length_singleton]; omega⟩, H9.out⟩
        clear HX5 HL4 H9
        go_wp2
        go_roundg m
        case measure => omega
        case rel => exact HZ
      · rw [if_neg hh] at hR
        have HR := hid hR
        have hz := str_ne hh
        generalize str (hdW ws') = sx at *
        have j9 : (sx.toList == [124]) = false := by rw [beq_eq_false_iff_ne]; intro e; exact hz (by rw [e]; simp [str, ByteArray.toList_eq])
        clear hh hR hg hgn hz
        go_wp2_with fail
        refine HPK.out.mono ?_
        rintro e w3 ⟨rfl, rfl⟩
        obtain rfl := HR.out
        go_wp2
        go_end0
        exact ⟨rfl, HX.out⟩
    · have HPK := hid (peek_er p wr ws' o' kk cc HX.out hc)
      have HR := hid (And.intro hc hR)
      clear hc hR
      go_wp2_with fail
      refine HPK.out.mono ?_
      rintro e w3 ⟨rfl, rfl⟩
      obtain ⟨hc, rfl⟩ := HR.out
      go_wp2
      go_end0
      exact ⟨rfl, hc, ws', o', HLL.out, HX.out⟩

set_option maxRecDepth 20000 in
set_option maxHeartbeats 2000000 in
theorem rall_step (p : PC) (n : Nat) (hA : ∀ m, m ≤ n → ROne p m) : RAll p (n + 1) := by
  intro ws o w hn h
  have HC := hid (hA n (Nat.le_refl _) ws o w (by omega) h)
  have hbd := h.bd
  obtain ⟨R, hR⟩ : ∃ R, rp p.T p.E (n + 1) .all ws o = R := ⟨_, rfl⟩
  rw [hR]
  rw [rp_all] at hR
  have HR := hid hR
  have HA := hid hA
  have HL := hid hn
  obtain ⟨lim, hlim⟩ : ∃ lim, o.length + ws.length = lim := ⟨_, rfl⟩
  rw [hlim]
  have HLM := hid hlim
  clear h hA hn hR hlim
  go_enter Tryz.func79, Tryz.ntmps79
  go_wp2_with fail
  refine HC.out.mono ?_
  rintro e w2 ⟨rfl, hx⟩
  have HX : Hid (∃ ws' o' kk cc, (RX p w2 ws' o' kk cc ∧ o'.length + ws'.length ≤ lim) ∧ ((cc = 0 ∧ kk = 0 ∧ 3 * ws'.length + 1 ≤ n ∧ n ≤ n ∧ rp p.T p.E n .allL ws' o' = R) ∨ (cc ≠ 0 ∧ R = .er kk cc))) := by
    have hR := HR.out
    have hL := HL.out
    have hLM := HLM.out
    cases hS : rp p.T p.E n .one ws o with
    | ok r q =>
      rw [hS] at hx hR
      have g1 := (rp_short _ _ _ _ _ _ _ _ hS).2 (by simp)
      have g2 := rp_len _ _ _ _ _ _ _ _ hS
      exact ⟨r, q, 0, 0, ⟨hx, by omega⟩, .inl ⟨rfl, rfl, by omega, Nat.le_refl _, hR⟩⟩
    | er k c =>
      rw [hS] at hx hR
      obtain ⟨hc, ws2, o2, hl2, hx2⟩ := hx
      exact ⟨ws2, o2, k, c, ⟨hx2, by omega⟩, .inr ⟨hc, hR.symm⟩⟩
  clear hx HC HR HL
  go_wp2
  go_loopg [] n (fun g wr => Hid (∃ ws' o' kk cc, (RX p wr ws' o' kk cc ∧ o'.length + ws'.length ≤ lim) ∧ ((cc = 0 ∧ kk = 0 ∧ 3 * ws'.length + 1 ≤ g ∧ g ≤ n ∧ rp p.T p.E g .allL ws' o' = R) ∨ (cc ≠ 0 ∧ R = .er kk cc))))
  case atStart => exact HX
  case round =>
    clear HX
    obtain ⟨ws', o', kk, cc, ⟨hx, hl⟩, h9⟩ := hrel.out
    clear hrel
    have HX := hid hx
    have HLL := hid hl
    clear hx hl
    rcases h9 with ⟨rfl, rfl, hg, hgn, hR⟩ | ⟨hc, hR⟩
    · obtain ⟨m, rfl⟩ : ∃ m, gk = m + 1 := ⟨gk - 1, by omega⟩
      rw [rp_allL] at hR
      have HPK := hid (peek_ok p wr ws' o' 0 HX.out)
      by_cases hh : hdW ws' = [38]
      · rw [if_pos hh] at hR
        rw [hh, show str [38] = ⟨#[38]⟩ from rfl] at HPK
        have hlen := hd_pos' hh (by simp)
        have HC := hid (fun w hu => HA.out m (by omega) ws'.tail o' w (by rw [List.length_tail]; omega) hu)
        have HR := hid hR
        have HG := hid (And.intro hg hgn)
        clear hh hR hg hgn
        go_wp2_with fail
        refine HPK.out.mono ?_
        rintro e w3 ⟨rfl, rfl⟩
        clear HPK
        obtain ⟨wA, wc, nA, nc, h1, h2, h3⟩ := HX.out.st
        have HTS := hid (RX.tailset HX.out hlen h1 h2 h3)
        have hsl := run_from (P := Tryz.prog) Tryz.underlying99 info_rword2 wA ws'.length wc 1 hlen wr
        rw [show ((1 : Nat) : Int) = 1 from rfl] at hsl
        obtain ⟨⟨q0, q1, q2, q3, q4, q5⟩, f1, f3, f4, f5⟩ := six_cellsR h2
        clear h1 h2 h3 HX
        generalize ws'.length = n8 at q1 hsl HTS
        go_upto_region 3 with (fail)
        refine at_world (fun u => RX p u ws'.tail o' 0 0) HTS.out ?_
        clear HTS q0 q1 q2 q3 q4 q5 f1 f3 f4 f5 hsl
        rintro w3 hx
        have HX3 := hid hx
        clear hx
        go_wp2_with fail
        refine (HC.out w3 HX3.out).mono ?_
        rintro e w4 ⟨rfl, hx⟩
        have HX4 : Hid (∃ ws2 o2 kk cc, (RX p w4 ws2 o2 kk cc ∧ o2.length + ws2.length < lim) ∧ ((cc = 0 ∧ kk = 0 ∧ 3 * ws2.length + 1 ≤ m ∧ m ≤ n ∧ rp p.T p.E m .allL ws2 (o2 ++ [(4, 0)]) = R) ∨ (cc ≠ 0 ∧ R = .er kk cc))) := by
          have hR := HR.out
          have hL := HLL.out
          have hG := HG.out
          cases hS : rp p.T p.E m .one ws'.tail o' with
          | ok r q =>
            rw [hS] at hx hR
            have g1 := (rp_short _ _ _ _ _ _ _ _ hS).2 (by simp)
            have g2 := rp_len _ _ _ _ _ _ _ _ hS
            rw [List.length_tail] at g1 g2
            exact ⟨r, q, 0, 0, ⟨hx, by omega⟩, .inl ⟨rfl, rfl, by omega, by omega, hR⟩⟩
          | er k c =>
            rw [hS] at hx hR
            obtain ⟨hc, ws2, o2, hl2, hx2⟩ := hx
            rw [List.length_tail] at hl2
            exact ⟨ws2, o2, k, c, ⟨hx2, by omega⟩, .inr ⟨hc, hR.symm⟩⟩
        clear hx HC HX3 HR HLL
        obtain ⟨ws2, o2, kk, cc, ⟨hx, hl⟩, h9⟩ := HX4.out
        clear HX4
        have HX4 := hid hx
        have HL4 := hid hl
        have H9 := hid h9
        clear hx hl h9
        have hbd9 : o2.length + ws2.length < 1000 := (by have h1 := HL4.out; have h2 := HLM.out; omega)
        obtain ⟨wA, wc, nA, nc, h1, h2, h3⟩ := HX4.out.st
        have HP9 := hid (fun w' A' c' k1 k2 k3 => HX4.out.push (w' := w') (x := (4, 0)) (A' := A') (c' := c') hbd9 h1 h2 h3 k1 k2 k3)
        have HO9 := hid h3
        have hbs9 := HX4.out.bel.size
        have hol9 : o2.length < 1000 := by omega
        obtain ⟨⟨q0, q1, q2, q3, q4, q5⟩, f1, f3, f4, f5⟩ := six_cellsR h2
        clear h1 h2 h3 hbd9 HX4
        generalize o2.length = n9 at q3 HP9 HO9 hol9
        go_wp2_with (at_builtin; refine wpList_append_1k (W := w4) rfl (.tmp 21) (.tmp 23) 76 rfl p.B 125 Tryz.underlying76 info_node rfl (by omega) rfl HO9.out rfl (by rfl) (by simp [Value.oneCell']) ?c1 ?c2 hbs9 (Below.refl _ _) ?_)
        case c1 => unfold maxLen; omega
        case c2 => omega
        intro v' w6 k1 k2 k3 k4
        obtain ⟨A6, c6, rfl, _⟩ := Sl.of_own k1
        obtain ⟨hb6, hx6⟩ := HP9.out w6 A6 c6 k1 k2 k4
        clear k1 k2 k3 k4 HP9 HO9 q0 q1 q2 q3 q4 q5 f1 f3 f4 f5 hbs9
        obtain ⟨⟨q0, q1, q2, q3, q4, q5⟩, f1, f3, f4, f5⟩ := six_cellsR hb6
        clear hb6
        have HX5 := hid hx6
        clear hx6
        have HZ : Hid (∃ ws' o' kk cc, (RX p (w6.setCell ⟨p.P, 3, none⟩ (.slice A6 (n9 + 1) c6)) ws' o' kk cc ∧ o'.length + ws'.length ≤ lim) ∧ ((cc = 0 ∧ kk = 0 ∧ 3 * ws'.length + 1 ≤ m ∧ m ≤ n ∧ rp p.T p.E m .allL ws' o' = R) ∨ (cc ≠ 0 ∧ R = .er kk cc))) := hid ⟨ws2, o2 ++ [(4, 0)], kk, cc, ⟨HX5.out, by have := HL4.out; rw [List.length_append, List.length_singleton]; omega⟩, H9.out⟩
        clear HX5 HL4 H9
        go_wp2
        go_roundg m
        case measure => omega
        case rel => exact HZ
      · rw [if_neg hh] at hR
        have HR := hid hR
        have hz := str_ne hh
        generalize str (hdW ws') = sx at *
        have j9 : (sx.toList == [38]) = false := by rw [beq_eq_false_iff_ne]; intro e; exact hz (by rw [e]; simp [str, ByteArray.toList_eq])
        clear hh hR hg hgn hz
        go_wp2_with fail
        refine HPK.out.mono ?_
        rintro e w3 ⟨rfl, rfl⟩
        obtain rfl := HR.out
        go_wp2
        go_end0
        exact ⟨rfl, HX.out⟩
    · have HPK := hid (peek_er p wr ws' o' kk cc HX.out hc)
      have HR := hid (And.intro hc hR)
      clear hc hR
      go_wp2_with fail
      refine HPK.out.mono ?_
      rintro e w3 ⟨rfl, rfl⟩
      obtain ⟨hc, rfl⟩ := HR.out
      go_wp2
      go_end0
      exact ⟨rfl, hc, ws', o', HLL.out, HX.out⟩
end Go.Proofs.YtgakobolhmdnnaaGreatDoor

namespace Go.Proofs.YtgakobolhmdnnaaGreatDoor
open Go.RowKit
set_option linter.unusedVariables false
set_option linter.unusedSimpArgs false

set_option maxRecDepth 20000 in
set_option maxHeartbeats 4000000 in
theorem rone_step (p : PC) (n : Nat) (h1 : ROne p n) (h2 : RAny p n) : ROne p (n + 1) := by
  intro ws o w hn h
  have HPK := hid (peek_ok p w ws o 0 h)
  have HX := hid h
  have HH1 := hid h1
  have HH2 := hid h2
  have HHE := hid (here_any p w ws o 0 0 h)
  obtain ⟨lim, hlim⟩ : ∃ lim, o.length + ws.length = lim := ⟨_, rfl⟩
  rw [hlim]
  have HLM := hid hlim
  have hbd := h.bd
  have HBD := hid (show lim ≤ 1000 by omega)
  clear h1 h2 h hlim
  by_cases hb : hdW ws = [] ∨ hdW ws = [41] ∨ hdW ws = [38] ∨ hdW ws = [124]
  · rw [rp_bad _ _ _ _ _ hb]
    have HF := hid (fail_ok p w ws o 0 (hereW p.E ws) 3 HX.out)
    clear HX HH1 HH2 hn hbd
    rcases hb with hb | hb | hb | hb
    · rw [hb, show str [] = ⟨#[]⟩ from rfl] at HPK
      clear hb
      go_enter Tryz.func98, Tryz.ntmps98
      go_wp2_with fail
      refine HPK.out.mono ?_
      rintro e w2 ⟨rfl, rfl⟩
      clear HPK
      go_wp2_with fail
      refine HHE.out.mono ?_
      rintro e w3 ⟨rfl, rfl⟩
      go_wp2_with fail
      refine HF.out.mono ?_
      rintro e w4 ⟨rfl, hx⟩
      have HX4 := hid hx
      clear hx HF HHE
      go_wp2
      go_end0
      exact ⟨rfl, by decide, ws, o, Nat.le_of_eq HLM.out, HX4.out⟩
    · rw [hb, show str [41] = ⟨#[41]⟩ from rfl] at HPK
      clear hb
      go_enter Tryz.func98, Tryz.ntmps98
      go_wp2_with fail
      refine HPK.out.mono ?_
      rintro e w2 ⟨rfl, rfl⟩
      clear HPK
      go_wp2_with fail
      refine HHE.out.mono ?_
      rintro e w3 ⟨rfl, rfl⟩
      go_wp2_with fail
      refine HF.out.mono ?_
      rintro e w4 ⟨rfl, hx⟩
      have HX4 := hid hx
      clear hx HF HHE
      go_wp2
      go_end0
      exact ⟨rfl, by decide, ws, o, Nat.le_of_eq HLM.out, HX4.out⟩
    · rw [hb, show str [38] = ⟨#[38]⟩ from rfl] at HPK
      clear hb
      go_enter Tryz.func98, Tryz.ntmps98
      go_wp2_with fail
      refine HPK.out.mono ?_
      rintro e w2 ⟨rfl, rfl⟩
      clear HPK
      go_wp2_with fail
      refine HHE.out.mono ?_
      rintro e w3 ⟨rfl, rfl⟩
      go_wp2_with fail
      refine HF.out.mono ?_
      rintro e w4 ⟨rfl, hx⟩
      have HX4 := hid hx
      clear hx HF HHE
      go_wp2
      go_end0
      exact ⟨rfl, by decide, ws, o, Nat.le_of_eq HLM.out, HX4.out⟩
    · rw [hb, show str [124] = ⟨#[124]⟩ from rfl] at HPK
      clear hb
      go_enter Tryz.func98, Tryz.ntmps98
      go_wp2_with fail
      refine HPK.out.mono ?_
      rintro e w2 ⟨rfl, rfl⟩
      clear HPK
      go_wp2_with fail
      refine HHE.out.mono ?_
      rintro e w3 ⟨rfl, rfl⟩
      go_wp2_with fail
      refine HF.out.mono ?_
      rintro e w4 ⟨rfl, hx⟩
      have HX4 := hid hx
      clear hx HF HHE
      go_wp2
      go_end0
      exact ⟨rfl, by decide, ws, o, Nat.le_of_eq HLM.out, HX4.out⟩
  by_cases hc33 : hdW ws = [33]
  · rw [hc33, show str [33] = ⟨#[33]⟩ from rfl] at HPK
    have hlen := hd_pos' hc33 (by simp)
    have HC := hid (fun u hu => HH1.out ws.tail o u (by rw [List.length_tail]; omega) hu)
    obtain ⟨RR, hRR⟩ : ∃ RR, rp p.T p.E (n + 1) .one ws o = RR := ⟨_, rfl⟩
    rw [hRR]
    rw [rp_not _ _ _ _ _ hc33] at hRR
    have HRR := hid hRR
    clear hc33 hb HH1 HH2 hn hbd hRR
    go_enter Tryz.func98, Tryz.ntmps98
    go_wp2_with fail
    refine HPK.out.mono ?_
    rintro e w2 ⟨rfl, rfl⟩
    clear HPK
    go_wp2_with fail
    refine HHE.out.mono ?_
    rintro e w3 ⟨rfl, rfl⟩
    clear HHE
    obtain ⟨wA, wc, nA, nc, h1, h2, h3⟩ := HX.out.st
    have HTS := hid (RX.tailset HX.out hlen h1 h2 h3)
    have hsl := run_from (P := Tryz.prog) Tryz.underlying99 info_rword2 wA ws.length wc 1 hlen w
    rw [show ((1 : Nat) : Int) = 1 from rfl] at hsl
    obtain ⟨⟨q0, q1, q2, q3, q4, q5⟩, f1, f3, f4, f5⟩ := six_cellsR h2
    clear h1 h2 h3 HX
    generalize ws.length = n8 at q1 hsl HTS
    go_upto_region 5 with (fail)
    refine at_world (fun u => RX p u ws.tail o 0 0) HTS.out ?_
    clear HTS q0 q1 q2 q3 q4 q5 f1 f3 f4 f5 hsl
    rintro w3 hx
    have HX3 := hid hx
    clear hx
    go_wp2_with fail
    refine (HC.out w3 HX3.out).mono ?_
    rintro e w4 ⟨rfl, hx⟩
    have HX4 : Hid (∃ ws2 o2 kk cc, (RX p w4 ws2 o2 kk cc ∧ o2.length + ws2.length < lim) ∧ ((cc = 0 ∧ kk = 0 ∧ .ok ws2 (o2 ++ [(3, 0)]) = RR) ∨ (cc ≠ 0 ∧ .er kk cc = RR))) := by
      have hR := HRR.out
      have hL := HLM.out
      cases hS : rp p.T p.E n .one ws.tail o with
      | ok r q =>
        rw [hS] at hx hR
        have g2 := rp_len _ _ _ _ _ _ _ _ hS
        rw [List.length_tail] at g2
        exact ⟨r, q, 0, 0, ⟨hx, by omega⟩, .inl ⟨rfl, rfl, hR⟩⟩
      | er k c =>
        rw [hS] at hx hR
        obtain ⟨hc, ws2, o2, hl2, hx2⟩ := hx
        rw [List.length_tail] at hl2
        exact ⟨ws2, o2, k, c, ⟨hx2, by omega⟩, .inr ⟨hc, hR⟩⟩
    clear hx HC HX3 HRR
    obtain ⟨ws2, o2, kk, cc, ⟨hx, hl⟩, h9⟩ := HX4.out
    clear HX4
    have HX4 := hid hx
    have HL4 := hid hl
    have H9 := hid h9
    have HLI := hid HBD.out
    clear hx hl h9
    have hbd9 : o2.length + ws2.length < 1000 := (by have h1 := HL4.out; have h2 := HLI.out; omega)
    obtain ⟨wA, wc, nA, nc, h1, h2, h3⟩ := HX4.out.st
    have HP9 := hid (fun w' A' c' k1 k2 k3 => HX4.out.push (w' := w') (x := (3, 0)) (A' := A') (c' := c') hbd9 h1 h2 h3 k1 k2 k3)
    have HO9 := hid h3
    have hbs9 := HX4.out.bel.size
    have hol9 : o2.length < 1000 := by omega
    obtain ⟨⟨q0, q1, q2, q3, q4, q5⟩, f1, f3, f4, f5⟩ := six_cellsR h2
    clear h1 h2 h3 hbd9 HX4
    generalize o2.length = n9 at q3 HP9 HO9 hol9
    go_wp2_with (at_builtin; refine wpList_append_1k (W := w4) rfl (.tmp 43) (.tmp 45) 76 rfl p.B 125 Tryz.underlying76 info_node rfl (by omega) rfl HO9.out rfl (by rfl) (by simp [Value.oneCell']) ?c1 ?c2 hbs9 (Below.refl _ _) ?_)
    case c1 => unfold maxLen; omega
    case c2 => omega
    intro v' w6 k1 k2 k3 k4
    obtain ⟨A6, c6, rfl, _⟩ := Sl.of_own k1
    obtain ⟨hb6, hx6⟩ := HP9.out w6 A6 c6 k1 k2 k4
    clear k1 k2 k3 k4 HP9 HO9 q0 q1 q2 q3 q4 q5 f1 f3 f4 f5 hbs9
    obtain ⟨⟨q0, q1, q2, q3, q4, q5⟩, f1, f3, f4, f5⟩ := six_cellsR hb6
    clear hb6
    have HX5 := hid hx6
    clear hx6
    have HZ : Hid (RPost p RR lim (.returned (.tuple #[])) (w6.setCell ⟨p.P, 3, none⟩ (.slice A6 (n9 + 1) c6))) := hid ⟨rfl, by
      rcases H9.out with ⟨rfl, rfl, h9⟩ | ⟨hc, h9⟩
      · rw [← h9]; exact HX5.out
      · rw [← h9]; exact ⟨hc, ws2, o2 ++ [(3, 0)], by have := HL4.out; rw [List.length_append, List.length_singleton]; omega, HX5.out⟩⟩
    clear HX5 HL4 H9
    go_wp2
    go_end0
    exact HZ.out
  by_cases hc42 : hdW ws = [42]
  · rw [hc42, show str [42] = ⟨#[42]⟩ from rfl] at HPK
    have hlen := hd_pos' hc42 (by simp)
    rw [rp_yes _ _ _ _ _ hc42]
    clear hc42 hc33 hb HH1 HH2 hn
    go_enter Tryz.func98, Tryz.ntmps98
    go_wp2_with fail
    refine HPK.out.mono ?_
    rintro e w2 ⟨rfl, rfl⟩
    clear HPK
    go_wp2_with fail
    refine HHE.out.mono ?_
    rintro e w3 ⟨rfl, rfl⟩
    clear HHE
    obtain ⟨wA, wc, nA, nc, h1, h2, h3⟩ := HX.out.st
    have HTS := hid (RX.tailset HX.out hlen h1 h2 h3)
    have hsl := run_from (P := Tryz.prog) Tryz.underlying99 info_rword2 wA ws.length wc 1 hlen w
    rw [show ((1 : Nat) : Int) = 1 from rfl] at hsl
    obtain ⟨⟨q0, q1, q2, q3, q4, q5⟩, f1, f3, f4, f5⟩ := six_cellsR h2
    clear h1 h2 h3 HX
    generalize ws.length = n8 at q1 hsl HTS
    go_upto_region 9 with (fail)
    refine at_world (fun u => RX p u ws.tail o 0 0) HTS.out ?_
    clear HTS q0 q1 q2 q3 q4 q5 f1 f3 f4 f5 hsl
    rintro w3 hx
    have HX3 := hid hx
    clear hx
    have hbd9 : o.length + ws.tail.length < 1000 := (by rw [List.length_tail]; omega)
    obtain ⟨wA, wc, nA, nc, h1, h2, h3⟩ := HX3.out.st
    have HP9 := hid (fun w' A' c' k1 k2 k3 => HX3.out.push (w' := w') (x := (1, 0)) (A' := A') (c' := c') hbd9 h1 h2 h3 k1 k2 k3)
    have HO9 := hid h3
    have hbs9 := HX3.out.bel.size
    have hol9 : o.length < 1000 := by omega
    obtain ⟨⟨q0, q1, q2, q3, q4, q5⟩, f1, f3, f4, f5⟩ := six_cellsR h2
    clear h1 h2 h3 hbd9 HX3
    generalize o.length = n9 at q3 HP9 HO9 hol9
    go_wp2_with (at_builtin; refine wpList_append_1k (W := w3) rfl (.tmp 55) (.tmp 57) 76 rfl p.B 125 Tryz.underlying76 info_node rfl (by omega) rfl HO9.out rfl (by rfl) (by simp [Value.oneCell']) ?c1 ?c2 hbs9 (Below.refl _ _) ?_)
    case c1 => unfold maxLen; omega
    case c2 => omega
    intro v' w6 k1 k2 k3 k4
    obtain ⟨A6, c6, rfl, _⟩ := Sl.of_own k1
    obtain ⟨hb6, hx6⟩ := HP9.out w6 A6 c6 k1 k2 k4
    clear k1 k2 k3 k4 HP9 HO9 q0 q1 q2 q3 q4 q5 f1 f3 f4 f5 hbs9
    obtain ⟨⟨q0, q1, q2, q3, q4, q5⟩, f1, f3, f4, f5⟩ := six_cellsR hb6
    clear hb6
    have HX5 := hid hx6
    clear hx6
    go_wp2
    go_end0
    exact ⟨rfl, HX5.out⟩
  by_cases hc40 : hdW ws = [40]
  · rw [hc40, show str [40] = ⟨#[40]⟩ from rfl] at HPK
    have hlen := hd_pos' hc40 (by simp)
    have HC := hid (fun u hu => HH2.out ws.tail o u (by rw [List.length_tail]; omega) hu)
    obtain ⟨RR, hRR⟩ : ∃ RR, rp p.T p.E (n + 1) .one ws o = RR := ⟨_, rfl⟩
    rw [hRR]
    rw [rp_par _ _ _ _ _ hc40] at hRR
    have HRR := hid hRR
    clear hc33 hc42 hc40 hb HH1 HH2 hn hbd hRR
    go_enter Tryz.func98, Tryz.ntmps98
    go_wp2_with fail
    refine HPK.out.mono ?_
    rintro e w2 ⟨rfl, rfl⟩
    clear HPK
    go_wp2_with fail
    refine HHE.out.mono ?_
    rintro e w3 ⟨rfl, rfl⟩
    clear HHE
    obtain ⟨wA, wc, nA, nc, h1, h2, h3⟩ := HX.out.st
    have HTS := hid (RX.tailset HX.out hlen h1 h2 h3)
    have hsl := run_from (P := Tryz.prog) Tryz.underlying99 info_rword2 wA ws.length wc 1 hlen w
    rw [show ((1 : Nat) : Int) = 1 from rfl] at hsl
    obtain ⟨⟨q0, q1, q2, q3, q4, q5⟩, f1, f3, f4, f5⟩ := six_cellsR h2
    clear h1 h2 h3 HX
    generalize ws.length = n8 at q1 hsl HTS
    go_upto_region 11 with (fail)
    refine at_world (fun u => RX p u ws.tail o 0 0) HTS.out ?_
    clear HTS q0 q1 q2 q3 q4 q5 f1 f3 f4 f5 hsl
    rintro w3 hx
    have HX3 := hid hx
    clear hx
    go_wp2_with fail
    refine (HC.out w3 HX3.out).mono ?_
    rintro e w4 ⟨rfl, hx⟩
    cases hS : rp p.T p.E n .any ws.tail o with
    | er k c =>
      have hR := HRR.out
      rw [hS] at hx hR
      obtain ⟨hc, ws2, o2, hl2, hx2⟩ := hx
      have HX4 := hid hx2
      have HPK := hid (peek_er p w4 ws2 o2 k c hx2 hc)
      have HHE := hid (here_any p w4 ws2 o2 k c hx2)
      have HFE := hid (fail_er p w4 ws2 o2 k (hereW p.E ws2) c 3 hx2 hc)
      have HL4 : Hid (o2.length + ws2.length ≤ lim) := hid (by have := HLM.out; rw [List.length_tail] at hl2; omega)
      have HCC := hid hc
      have HR := hid hR
      clear hS hc hx2 hl2 HC HX3 HRR hR
      go_wp2_with fail
      refine HPK.out.mono ?_
      rintro e w5 ⟨rfl, rfl⟩
      go_wp2_with fail
      refine HHE.out.mono ?_
      rintro e w5 ⟨rfl, rfl⟩
      go_wp2_with fail
      refine HFE.out.mono ?_
      rintro e w5 ⟨rfl, rfl⟩
      obtain rfl := HR.out
      go_wp2
      go_end0
      exact ⟨rfl, HCC.out, ws2, o2, HL4.out, HX4.out⟩
    | ok r q =>
      have hR := HRR.out
      rw [hS] at hx hR
      have g2 := rp_len _ _ _ _ _ _ _ _ hS
      have HX4 : Hid (RX p w4 r q 0 0) := hid hx
      have HL4 : Hid (q.length + r.length ≤ lim) := hid (by have := HLM.out; rw [List.length_tail] at g2; omega)
      have HPK := hid (peek_ok p w4 r q 0 hx)
      have HHE := hid (here_any p w4 r q 0 0 hx)
      have HF := hid (fail_ok p w4 r q 0 (hereW p.E r) 3 hx)
      clear hS g2 hx HC HX3 HRR
      by_cases hs : hdW r = [41]
      · rw [hs, show str [41] = ⟨#[41]⟩ from rfl] at HPK
        have e9 : (RdR.ok r q).shut p.E = .ok r.tail q := by simp only [RdR.shut]; rw [if_pos hs]
        rw [e9] at hR
        have hlen := hd_pos' hs (by simp)
        have HR := hid hR
        clear hs e9 hR HF HHE
        go_wp2_with fail
        refine HPK.out.mono ?_
        rintro e w5 ⟨rfl, rfl⟩
        clear HPK
        obtain ⟨wA, wc, nA, nc, h1, h2, h3⟩ := HX4.out.st
        have HTS := hid (RX.tailset HX4.out hlen h1 h2 h3)
        have hsl := run_from (P := Tryz.prog) Tryz.underlying99 info_rword2 wA r.length wc 1 hlen w4
        rw [show ((1 : Nat) : Int) = 1 from rfl] at hsl
        obtain ⟨⟨q0, q1, q2, q3, q4, q5⟩, f1, f3, f4, f5⟩ := six_cellsR h2
        clear h1 h2 h3 HX4
        generalize r.length = n8 at q1 hsl HTS
        obtain rfl := HR.out
        go_wp2
        go_end0
        exact ⟨rfl, HTS.out⟩
      · have e9 : (RdR.ok r q).shut p.E = .er (hereW p.E r) 3 := by simp only [RdR.shut]; rw [if_neg hs]
        rw [e9] at hR
        have hz := str_ne hs
        generalize str (hdW r) = sx at *
        have j9 : (sx.toList == [41]) = false := by rw [beq_eq_false_iff_ne]; intro e; exact hz (by rw [e]; simp [str, ByteArray.toList_eq])
        have j8 : (sx.toList != [41]) = true := by simpa using j9
        have HR := hid hR
        clear hs e9 hR hz
        go_wp2_with fail
        refine HPK.out.mono ?_
        rintro e w5 ⟨rfl, rfl⟩
        go_wp2_with fail
        refine HHE.out.mono ?_
        rintro e w5 ⟨rfl, rfl⟩
        go_wp2_with fail
        refine HF.out.mono ?_
        rintro e w5 ⟨rfl, hx⟩
        have HX5 := hid hx
        clear hx HF HX4
        obtain rfl := HR.out
        go_wp2
        go_end0
        exact ⟨rfl, by decide, r, q, HL4.out, HX5.out⟩
  have hN : IsN (hdW ws) := ⟨fun e => hb (.inl e), fun e => hb (.inr (.inl e)), fun e => hb (.inr (.inr (.inl e))), fun e => hb (.inr (.inr (.inr e))), hc33, hc40, hc42⟩
  rw [rp_name _ _ _ _ _ hN]
  have hlen := hd_pos' (ws := ws) rfl hN.1
  have HPL := hid (fun u (hu : RX p u ws.tail o 0 0) => rplace_any p.TA p.T.length p.Tc p.T (hdW ws) u (hu.tab.below hu.bel))
  obtain ⟨n1, n2, n3, n4, n5, n6, n7⟩ := hN
  have k1 := str_ne n1
  have k2 := str_ne n2
  have k3 := str_ne n3
  have k4 := str_ne n4
  have k5 := str_ne n5
  have k6 := str_ne n6
  have k7 := str_ne n7
  generalize hpk : placeJ p.T (hdW ws) = pk at *
  generalize str (hdW ws) = s at *
  clear hb hc33 hc40 hc42 n1 n2 n3 n4 n5 n6 n7 hpk HH1 HH2 hn
  have j0 : s.toList.isEmpty = false := by
    rw [List.isEmpty_eq_false_iff]
    intro e
    exact k1 (by rw [e]; simp [str, ByteArray.toList_eq])
  have j2 : (s.toList == [41]) = false := by rw [beq_eq_false_iff_ne]; intro e; exact k2 (by rw [e]; simp [str, ByteArray.toList_eq])
  have j3 : (s.toList == [38]) = false := by rw [beq_eq_false_iff_ne]; intro e; exact k3 (by rw [e]; simp [str, ByteArray.toList_eq])
  have j4 : (s.toList == [124]) = false := by rw [beq_eq_false_iff_ne]; intro e; exact k4 (by rw [e]; simp [str, ByteArray.toList_eq])
  have j5 : (s.toList == [33]) = false := by rw [beq_eq_false_iff_ne]; intro e; exact k5 (by rw [e]; simp [str, ByteArray.toList_eq])
  have j6 : (s.toList == [40]) = false := by rw [beq_eq_false_iff_ne]; intro e; exact k6 (by rw [e]; simp [str, ByteArray.toList_eq])
  have j7 : (s.toList == [42]) = false := by rw [beq_eq_false_iff_ne]; intro e; exact k7 (by rw [e]; simp [str, ByteArray.toList_eq])
  clear k1 k2 k3 k4 k5 k6 k7
  obtain ⟨RR, hR⟩ : ∃ RR, (if pk < 0 ∨ 15 < pk then RdR.er (hereW p.E ws) 5 else .ok ws.tail (o ++ [(2, pk)])) = RR := ⟨_, rfl⟩
  rw [hR]
  have HR := hid hR
  clear hR
  go_enter Tryz.func98, Tryz.ntmps98
  go_wp2_with fail
  refine HPK.out.mono ?_
  rintro e w2 ⟨rfl, rfl⟩
  clear HPK
  go_wp2_with fail
  refine HHE.out.mono ?_
  rintro e w3 ⟨rfl, rfl⟩
  clear HHE
  obtain ⟨wA, wc, nA, nc, h1, h2, h3⟩ := HX.out.st
  have HTS := hid (RX.tailset HX.out hlen h1 h2 h3)
  have hsl := run_from (P := Tryz.prog) Tryz.underlying99 info_rword2 wA ws.length wc 1 hlen w
  rw [show ((1 : Nat) : Int) = 1 from rfl] at hsl
  obtain ⟨⟨q0, q1, q2, q3, q4, q5⟩, f1, f3, f4, f5⟩ := six_cellsR h2
  clear h1 h2 h3 HX
  generalize ws.length = n8 at q1 hsl HTS
  go_upto_region 15 with (fail)
  refine at_world (fun u => RX p u ws.tail o 0 0) HTS.out ?_
  clear HTS q0 q1 q2 q3 q4 q5 f1 f3 f4 f5 hsl
  rintro w3 hx
  have HX3 := hid hx
  clear hx
  obtain ⟨wA, wc, nA, nc, h1, h2, h3⟩ := HX3.out.st
  obtain ⟨⟨q0, q1, q2, q3, q4, q5⟩, f1, f3, f4, f5⟩ := six_cellsR h2
  clear h1 h2 h3 q1 q2 q3 q4 q5 f1 f3 f4 f5
  go_wp2_with fail
  refine (HPL.out w3 HX3.out).mono ?_
  rintro e w4 ⟨rfl, rfl⟩
  clear HPL q0
  by_cases hbad : pk < 0 ∨ 15 < pk
  · have hRe := HR.out
    rw [if_pos hbad] at hRe
    subst hRe
    have HF := hid (fail_ok p w3 ws.tail o 0 (hereW p.E ws) 5 HX3.out)
    have HL4 : Hid (o.length + ws.tail.length ≤ lim) := hid (by have := HLM.out; rw [List.length_tail]; omega)
    clear HR HX3
    rcases hbad with hb | hb
    · go_wp2_with fail
      refine HF.out.mono ?_
      rintro e w5 ⟨rfl, hx⟩
      have HX5 := hid hx
      clear hx HF
      go_wp2
      go_end0
      exact ⟨rfl, by decide, ws.tail, o, HL4.out, HX5.out⟩
    · have hb0 : ¬ pk < 0 := by omega
      go_wp2_with fail
      refine HF.out.mono ?_
      rintro e w5 ⟨rfl, hx⟩
      have HX5 := hid hx
      clear hx HF
      go_wp2
      go_end0
      exact ⟨rfl, by decide, ws.tail, o, HL4.out, HX5.out⟩
  · have hRe := HR.out
    rw [if_neg hbad] at hRe
    subst hRe
    have hb0 : ¬ pk < 0 := by omega
    have hb1 : ¬ 15 < pk := by omega
    clear hbad HR
    have hbd9 : o.length + ws.tail.length < 1000 := (by rw [List.length_tail]; omega)
    obtain ⟨wA, wc, nA, nc, h1, h2, h3⟩ := HX3.out.st
    have HP9 := hid (fun w' A' c' k1 k2 k3 => HX3.out.push (w' := w') (x := (2, pk)) (A' := A') (c' := c') hbd9 h1 h2 h3 k1 k2 k3)
    have HO9 := hid h3
    have hbs9 := HX3.out.bel.size
    have hol9 : o.length < 1000 := by omega
    obtain ⟨⟨q0, q1, q2, q3, q4, q5⟩, f1, f3, f4, f5⟩ := six_cellsR h2
    clear h1 h2 h3 hbd9 HX3
    generalize o.length = n9 at q3 HP9 HO9 hol9
    go_wp2_with (at_builtin; refine wpList_append_1k (W := w3) rfl (.tmp 99) (.tmp 102) 76 rfl p.B 125 Tryz.underlying76 info_node rfl (by omega) rfl HO9.out rfl (by rfl) (by simp [Value.oneCell']) ?c1 ?c2 hbs9 (Below.refl _ _) ?_)
    case c1 => unfold maxLen; omega
    case c2 => omega
    intro v' w6 k1 k2 k3 k4
    obtain ⟨A6, c6, rfl, _⟩ := Sl.of_own k1
    obtain ⟨hb6, hx6⟩ := HP9.out w6 A6 c6 k1 k2 k4
    clear k1 k2 k3 k4 HP9 HO9 q0 q1 q2 q3 q4 q5 f1 f3 f4 f5 hbs9
    obtain ⟨⟨q0, q1, q2, q3, q4, q5⟩, f1, f3, f4, f5⟩ := six_cellsR hb6
    clear hb6
    have HX5 := hid hx6
    clear hx6
    go_wp2
    go_end0
    exact ⟨rfl, HX5.out⟩

theorem read_all (p : PC) : ∀ n, ROne p n ∧ RAll p n ∧ RAny p n := by
  intro n
  induction n using Nat.strongRecOn with
  | _ n ih =>
    cases n with
    | zero => exact ⟨fun ws o w h => absurd h (by omega), fun ws o w h => absurd h (by omega), fun ws o w h => absurd h (by omega)⟩
    | succ n => exact ⟨rone_step p n (ih n (by omega)).1 (ih n (by omega)).2.2, rall_step p n fun m hm => (ih m (by omega)).1, rany_step p n fun m hm => (ih m (by omega)).2.1⟩
end Go.Proofs.YtgakobolhmdnnaaGreatDoor

namespace Go.Proofs.YtgakobolhmdnnaaGreatDoor
open Go.RowKit
set_option linter.unusedVariables false
set_option linter.unusedSimpArgs false

theorem lexW_len (l : List UInt8) : (lexW l).1.length ≤ 200 := by
  unfold lexW
  split
  · simp
  · have h1 := lexF_len l (rns l 0) [] false 0
    have h2 := rns_le l 0
    simp only [List.length_nil] at h1
    omega
theorem rdTop_len {T E ws r o} (h : rdTop T E ws = .ok r o) : o.length ≤ ws.length := by
  have := rp_len _ _ _ _ _ _ _ _ (rdTop_ok h).2
  simp at this
  exact this
/-- The need that a text is: the nodes, the place, the error. -/
def ndT (T : List (List UInt8)) (l : List UInt8) : List (Int × Int) × Nat × Int :=
  if (lexW l).2.2 = 0 then
    match rdTop T (rns l 0).length (lexW l).1 with
    | .er k c => ([], k, c)
    | .ok _ o => if chkN o = 0 then (o, 0, 0) else ([], 0, chkN o)
  else ([], (lexW l).2.1, (((lexW l).2.2 : Nat) : Int))
theorem ndT_lex {T l} (h : (lexW l).2.2 ≠ 0) : ndT T l = ([], (lexW l).2.1, (((lexW l).2.2 : Nat) : Int)) := by rw [ndT, if_neg h]
theorem ndT_er {T l k c} (h : (lexW l).2.2 = 0) (h2 : rdTop T (rns l 0).length (lexW l).1 = .er k c) : ndT T l = ([], k, c) := by rw [ndT, if_pos h, h2]
theorem ndT_ok {T l r o} (h : (lexW l).2.2 = 0) (h2 : rdTop T (rns l 0).length (lexW l).1 = .ok r o) (h3 : chkN o = 0) : ndT T l = (o, 0, 0) := by rw [ndT, if_pos h, h2]; simp only [h3, if_true]
theorem ndT_bad {T l r o} (h : (lexW l).2.2 = 0) (h2 : rdTop T (rns l 0).length (lexW l).1 = .ok r o) (h3 : chkN o ≠ 0) : ndT T l = ([], 0, chkN o) := by rw [ndT, if_pos h, h2]; simp only; rw [if_neg h3]
theorem ndT_len (T l) : (ndT T l).1.length ≤ 200 := by
  have hw := lexW_len l
  unfold ndT
  split
  · cases h : rdTop T (rns l 0).length (lexW l).1 with
    | er k c => simp
    | ok r o =>
      have := rdTop_len h
      simp only
      split
      · simp only; omega
      · simp
  · simp
attribute [irreducible] ndT
/-- What a call of Need answers. -/
def NdAns (T : List (List UInt8)) (l : List UInt8) (W : World) (e : Ending) (w' : World) : Prop :=
  ∃ A c, e = .returned (.tuple #[.slice A (ndT T l).1.length c, .int .i64 ((ndT T l).2.1 : Nat), .int .i64 (ndT T l).2.2]) ∧ w'.ownsRow W.heap.size 125 2 (.slice A (ndT T l).1.length c) (ndT T l).1.length (pcells (ndT T l).1) ∧ Below W.heap.size W w'
theorem NdAns.none {T l W w' k c} (h : ndT T l = ([], k, c)) (hb : Below W.heap.size W w') : NdAns T l W (.returned (.tuple #[.slice Option.none 0 0, .int .i64 (k : Nat), .int .i64 c])) w' := by
  refine ⟨Option.none, 0, by rw [h]; rfl, ?_, hb⟩
  rw [h]
  exact World.ownsRow_nil _ _ _ _
theorem PX.start {W w : World} {TA A0 : Option Addr} {Tc c0 E : Nat} {T : List (List UInt8)} {ws : List Wd} (hT : Sl W 1 TA T.length Tc (scells T)) (ho : w.ownsRow W.heap.size 153 2 (.slice A0 ws.length c0) ws.length (wcells ws)) (hb : Below W.heap.size W w) (hl : ws.length ≤ 200) :
    PX ⟨W, w.heap.size, TA, Tc, T, A0, c0, ws, E, W⟩ (w.alloc (.cells #[.slice TA T.length Tc, .slice A0 ws.length c0, .int .i64 (E : Nat), .slice none 0 0] 140)) ws [] := by
  have hb1 : Below w.heap.size w (w.alloc (.cells #[.slice TA T.length Tc, .slice A0 ws.length c0, .int .i64 (E : Nat), .slice none 0 0] 140)) := (Below.refl _ _).alloc (Nat.le_refl _) _
  have hb2 := hb.trans (hb1.mono hb.size)
  exact ⟨hb2, hb.size, hT, own_keep ho hb1, by simp; omega, fun g cs t _ _ h9 => (hb2.block g (lt_of_block h9)).trans h9, A0, c0, none, 0, fun u hu => sl_own hu, heap_alloc_new _ _, World.ownsRow_nil _ _ _ _⟩
theorem RX.start {W w : World} {TA A0 : Option Addr} {Tc c0 E : Nat} {T : List (List UInt8)} {ws : List Wd} (hT : Sl W 1 TA T.length Tc (scells T)) (ho : w.ownsRow W.heap.size 120 2 (.slice A0 ws.length c0) ws.length (wcells ws)) (hb : Below W.heap.size W w) (hl : ws.length ≤ 200) :
    RX ⟨W, w.heap.size, TA, Tc, T, A0, c0, ws, E, W⟩ (w.alloc (.cells #[.slice TA T.length Tc, .slice A0 ws.length c0, .int .i64 (E : Nat), .slice none 0 0, .int .i64 0, .int .i64 0] 106)) ws [] 0 0 := by
  have hb1 : Below w.heap.size w (w.alloc (.cells #[.slice TA T.length Tc, .slice A0 ws.length c0, .int .i64 (E : Nat), .slice none 0 0, .int .i64 0, .int .i64 0] 106)) := (Below.refl _ _).alloc (Nat.le_refl _) _
  exact ⟨hb.trans (hb1.mono hb.size), hb.size, hT, own_keep ho hb1, by simp; omega, A0, c0, none, 0, fun u hu => sl_own hu, heap_alloc_new _ _, World.ownsRow_nil _ _ _ _⟩

set_option maxRecDepth 20000 in
set_option maxHeartbeats 2000000 in
theorem need_any (TA : Option Addr) (Tc : Nat) (T : List (List UInt8)) (l : List UInt8) (W : World) (hT : Sl W 1 TA T.length Tc (scells T)) (hl : l.length ≤ 1000) :
    Calls Tryz.prog 71 #[.slice TA T.length Tc, .string (str l)] W fun e w' => NdAns T l W e w' := by
  have HW := hid (words_is l hl W)
  have HCT := hid (fun u => count_is l hl u)
  have HT := hid hT
  have hwl := lexW_len l
  by_cases he : (lexW l).2.2 = 0
  · have HRT : Hid (∀ R, rdTop T (rns l 0).length (lexW l).1 = R → ∀ k c, R = .er k c → ndT T l = ([], k, c) ∧ c ≠ 0) := hid fun R h k c h2 => ⟨ndT_er he (h.trans h2), rdTop_er (h.trans h2)⟩
    have HOK : Hid (∀ r o, rdTop T (rns l 0).length (lexW l).1 = .ok r o → (chkN o = 0 → ndT T l = (o, 0, 0)) ∧ (chkN o ≠ 0 → ndT T l = ([], 0, chkN o)) ∧ o.length ≤ 200) := hid fun r o h => ⟨ndT_ok he h, ndT_bad he h, Nat.le_trans (rdTop_len h) hwl⟩
    rw [he] at HW
    obtain ⟨RR, hRR⟩ : ∃ RR, rdTop T (rns l 0).length (lexW l).1 = RR := ⟨_, rfl⟩
    have HRR := hid hRR
    have hwl2 := hid hwl
    clear hT hl hwl he hRR
    generalize hat : (lexW l).2.1 = at0 at HW
    clear hat
    generalize hws : (lexW l).1 = ws at *
    clear hws
    generalize (rns l 0).length = E at *
    generalize str l = s at *
    go_enter Tryz.func71, Tryz.ntmps71
    go_wp2_with fail
    refine HW.out.mono ?_
    rintro e w1 ⟨A0, c0, rfl, ho, hb⟩
    have HO1 := hid ho
    have HB1 := hid hb
    clear ho hb HW
    go_wp2_with fail
    refine (HCT.out w1).mono ?_
    rintro e w2 ⟨rfl, hb⟩
    have HPX : Hid (PX ⟨W, w2.heap.size, TA, Tc, T, A0, c0, ws, E, W⟩ (w2.alloc (.cells #[.slice TA T.length Tc, .slice A0 ws.length c0, .int .i64 (E : Nat), .slice none 0 0] 140)) ws []) := hid (PX.start HT.out (own_keep HO1.out hb) (HB1.out.trans (hb.mono HB1.out.size)) hwl2.out)
    have HPA := hid (parse_any ⟨W, w2.heap.size, TA, Tc, T, A0, c0, ws, E, W⟩ _ HPX.out)
    simp only [HRR.out] at HPA
    clear hb HO1 HB1 HCT HPX hwl2
    go_wp2_with fail
    refine HPA.out.mono ?_
    cases RR with
    | er k c =>
      rintro e w3 ⟨rfl, hb⟩
      have hnd := HRT.out _ HRR.out k c rfl
      have HF := hid (NdAns.none hnd.1 hb)
      have hc := hnd.2
      have hc2 : (c != 0) = true := by simpa using hc
      clear hnd hb HPA HRR HOK HRT
      go_wp2
      refine bodyPost_ret (v := .tuple #[.slice none 0 0, .int .i64 (k : Nat), .int .i64 c]) (by simp [results, Tryz.results71, go_sem]) rfl ?_
      exact HF.out
    | ok r o =>
      rintro e w3 ⟨⟨A3, c3, rfl, ho⟩, hb⟩
      obtain ⟨hk1, hk2, hol⟩ := HOK.out r o HRR.out
      have HO3 : Hid (w3.ownsRow W.heap.size 125 2 (.slice A3 o.length c3) o.length (pcells o)) := hid ho
      have HB3 : Hid (Below W.heap.size W w3) := hid hb
      have HCK := hid (ncheck_any A3 c3 o w3 (sl_own HO3.out) (by omega))
      have HK1 := hid hk1
      have HK2 := hid hk2
      clear ho hb HPA HRR HOK HRT hk1 hk2 hol
      go_wp2_with fail
      refine HCK.out.mono ?_
      rintro e w4 ⟨rfl, hb⟩
      have HO4 := hid (own_keep HO3.out hb)
      have HB4 := hid (HB3.out.trans (hb.mono HB3.out.size))
      clear hb HO3 HB3 HCK
      by_cases hz : chkN o = 0
      · have hnd := HK1.out hz
        have HF : Hid (NdAns T l W (.returned (.tuple #[.slice A3 o.length c3, .int .i64 0, .int .i64 0])) w4) := hid ⟨A3, c3, by rw [hnd]; rfl, by rw [hnd]; exact HO4.out, HB4.out⟩
        clear hnd HK1 HK2
        rw [hz]
        clear hz
        go_wp2
        refine bodyPost_ret (v := .tuple #[.slice A3 o.length c3, .int .i64 0, .int .i64 0]) (by simp [results, Tryz.results71, go_sem]) rfl ?_
        exact HF.out
      · have hnd := HK2.out hz
        have HF := hid (NdAns.none hnd HB4.out)
        generalize chkN o = z at *
        have hz2 : (z != 0) = true := by simpa using hz
        clear hnd HK1 HK2
        go_wp2
        refine bodyPost_ret (v := .tuple #[.slice none 0 0, .int .i64 0, .int .i64 z]) (by simp [results, Tryz.results71, go_sem]) rfl ?_
        exact HF.out
  · have hnd := ndT_lex (T := T) he
    have HND := hid hnd
    generalize hz : (lexW l).2.2 = z at *
    clear hz hnd
    generalize (lexW l).2.1 = at0 at *
    generalize (lexW l).1 = ws at *
    have hz2 : ((z : Int) != 0) = true := by simp; omega
    clear hT hl hwl HCT HT
    generalize str l = s at *
    go_enter Tryz.func71, Tryz.ntmps71
    go_wp2_with fail
    refine HW.out.mono ?_
    rintro e w1 ⟨A0, c0, rfl, ho, hb⟩
    have HF := hid (NdAns.none HND.out hb)
    clear ho hb HW HND
    go_wp2
    refine bodyPost_ret (v := .tuple #[.slice none 0 0, .int .i64 (at0 : Nat), .int .i64 (z : Nat)]) (by simp [results, Tryz.results71, go_sem]) rfl ?_
    exact HF.out
end Go.Proofs.YtgakobolhmdnnaaGreatDoor

namespace Go.Proofs.YtgakobolhmdnnaaGreatDoor
open Go.RowKit
set_option linter.unusedVariables false
set_option linter.unusedSimpArgs false

set_option maxRecDepth 20000 in
set_option maxHeartbeats 4000000 in
theorem rneed_any (TA : Option Addr) (Tc : Nat) (T : List (List UInt8)) (l : List UInt8) (W : World) (hT : Sl W 1 TA T.length Tc (scells T)) (hl : l.length ≤ 1000) :
    Calls Tryz.prog 44 #[.slice TA T.length Tc, .string (str l)] W fun e w' => NdAns T l W e w' := by
  have HW := hid (rwords_is l hl W)
  have HCT := hid (fun u => rrunes_is l hl u)
  have HT := hid hT
  have hwl := lexW_len l
  by_cases he : (lexW l).2.2 = 0
  · have HER : Hid (∀ k c, rdTop T (rns l 0).length (lexW l).1 = .er k c → ndT T l = ([], k, c)) := hid fun k c h => ndT_er he h
    have HOK : Hid (∀ r o, rdTop T (rns l 0).length (lexW l).1 = .ok r o → (chkN o = 0 → ndT T l = (o, 0, 0)) ∧ (chkN o ≠ 0 → ndT T l = ([], 0, chkN o)) ∧ o.length ≤ 200) := hid fun r o h => ⟨ndT_ok he h, ndT_bad he h, Nat.le_trans (rdTop_len h) hwl⟩
    rw [he] at HW
    have hwl2 := hid hwl
    clear hT hl hwl he
    generalize hat : (lexW l).2.1 = at0 at HW
    clear hat
    generalize hws : (lexW l).1 = ws at *
    clear hws
    generalize hrl : (rns l 0).length = E at *
    have HRL := hid hrl
    clear hrl
    generalize str l = s at *
    go_enter Tryz.func44, Tryz.ntmps44
    go_wp2_with fail
    refine HW.out.mono ?_
    rintro e w1 ⟨A0, c0, rfl, ho, hb⟩
    have HO1 := hid ho
    have HB1 := hid hb
    clear ho hb HW
    go_wp2_with fail
    refine (HCT.out w1).mono ?_
    rintro e w2 ⟨Ar, cr, rfl, _, hb⟩
    have HRX : Hid (RX ⟨W, w2.heap.size, TA, Tc, T, A0, c0, ws, E, W⟩ (w2.alloc (.cells #[.slice TA T.length Tc, .slice A0 ws.length c0, .int .i64 (E : Nat), .slice none 0 0, .int .i64 0, .int .i64 0] 106)) ws [] 0 0) := hid (RX.start HT.out (own_keep HO1.out hb) (HB1.out.trans (hb.mono HB1.out.size)) hwl2.out)
    obtain ⟨q, hq⟩ : ∃ q : PC, q = ⟨W, w2.heap.size, TA, Tc, T, A0, c0, ws, E, W⟩ := ⟨_, rfl⟩
    have F : q.P = w2.heap.size ∧ q.T = T ∧ q.E = E ∧ q.B = W.heap.size ∧ q.W = W := by subst hq; exact ⟨rfl, rfl, rfl, rfl, rfl⟩
    rw [← hq] at HRX
    have HAN : Hid (∀ u, RX q u ws [] 0 0 → Calls Tryz.prog 61 #[.pointer (some ⟨w2.heap.size, 0, none⟩)] u fun e w' => RPost q (rp T E (4 * ws.length + 8) .any ws []) (([] : List (Int × Int)).length + ws.length) e w') := hid fun u hu => by
      have h9 := (read_all q (4 * ws.length + 8)).2.2 ws [] u (by omega) hu
      rw [F.1, F.2.1, F.2.2.1] at h9
      exact h9
    have HFF := hid F
    have hE9 : Hid ((rns l 0).length = E) := HRL
    clear hq F hb HO1 HB1 HCT hwl2 HT
    go_upto_region 5 with (fail)
    refine at_world (fun u => RX q u ws [] 0 0) HRX.out ?_
    clear HRX
    generalize w2.heap.size = Q at *
    rintro w3 hx3
    have HAN := hid (HAN.out w3 hx3)
    clear hx3
    go_wp2_with fail
    refine HAN.out.mono ?_
    rintro e w4 ⟨rfl, hx⟩
    clear HAN
    cases hS : rp T E (4 * ws.length + 8) .any ws [] with
    | er k c =>
      rw [hS] at hx
      obtain ⟨hc, ws2, o2, hl2, hx2⟩ := hx
      have HX4 := hid hx2
      have HND := hid (HER.out k c (by unfold rdTop; rw [hS]; rfl))
      have HC := hid hc
      clear hS hc hl2 hx2 HER HOK
      by_cases hl : ws2.length = 0
      · obtain ⟨F1, F2, F3, F4, F5⟩ := HFF.out
        obtain ⟨wA, wc, nA, nc, h1, h2, h3⟩ := HX4.out.st
        rw [F1] at h2
        obtain ⟨⟨q0, q1, q2, q3, q4, q5⟩, f1, f3, f4, f5⟩ := six_cellsR h2
        rw [hl] at q1
        clear h1 h2 h3 hl F1 F2 F3 F4 F5 f1 f3 f4 f5
        go_upto_region 8 with (fail)
        clear q0 q1 q2 q3 q4 q5
        obtain ⟨F1, F2, F3, F4, F5⟩ := HFF.out
        obtain ⟨wA8, wc8, nA8, nc8, h1, h2, h3⟩ := HX4.out.st
        rw [F1] at h2
        have HF := hid (NdAns.none HND.out (w' := w4.drew) (below_drew (by have := HX4.out.bel; rw [F4, F5] at this; exact this)))
        obtain ⟨⟨q0, q1, q2, q3, q4, q5⟩, f1, f3, f4, f5⟩ := six_cellsR h2
        have hc := HC.out
        have hc2 : ((c : Int) != 0) = true := bne_iff_ne.mpr hc
        clear h1 h2 h3 F1 F2 F3 F4 F5 HX4 HND HFF HRL hE9 f1 f3 f4 f5 HC
        go_upto_region 9 with (fail)
        go_region
        go_wp2
        refine bodyPost_ret (v := .tuple #[.slice none 0 0, .int .i64 (k : Nat), .int .i64 c]) (by simp [results, Tryz.results44, go_sem]) rfl ?_
        exact HF.out
      · obtain ⟨F1, F2, F3, F4, F5⟩ := HFF.out
        have HHE := hid (here_any q w4 ws2 o2 k c HX4.out)
        have HFA := hid (fail_er q w4 ws2 o2 k (hereW E ws2) c 3 HX4.out HC.out)
        rw [F1, F3] at HHE
        rw [F1] at HFA
        obtain ⟨wA, wc, nA, nc, h1, h2, h3⟩ := HX4.out.st
        rw [F1] at h2
        obtain ⟨⟨q0, q1, q2, q3, q4, q5⟩, f1, f3, f4, f5⟩ := six_cellsR h2
        have hl2 : 0 < ws2.length := by omega
        clear h1 h2 h3 hl F1 F2 F3 F4 F5 f1 f3 f4 f5
        generalize ws2.length = rl at q1 hl2
        have hl3 : (0 : Int) < (rl : Int) := by omega
        go_wp2_with fail
        refine HHE.out.mono ?_
        rintro e w5 ⟨rfl, rfl⟩
        go_wp2_with fail
        refine HFA.out.mono ?_
        rintro e w6 ⟨rfl, rfl⟩
        clear HFA HHE q0 q1 q2 q3 q4 q5 hl2 hl3
        obtain ⟨F1, F2, F3, F4, F5⟩ := HFF.out
        obtain ⟨wA8, wc8, nA8, nc8, h1, h2, h3⟩ := HX4.out.st
        rw [F1] at h2
        have HF := hid (NdAns.none HND.out (w' := w4.drew) (below_drew (by have := HX4.out.bel; rw [F4, F5] at this; exact this)))
        obtain ⟨⟨q0, q1, q2, q3, q4, q5⟩, f1, f3, f4, f5⟩ := six_cellsR h2
        have hc := HC.out
        have hc2 : ((c : Int) != 0) = true := bne_iff_ne.mpr hc
        clear h1 h2 h3 F1 F2 F3 F4 F5 HX4 HND HFF HRL hE9 f1 f3 f4 f5 HC
        go_upto_region 9 with (fail)
        go_region
        go_wp2
        refine bodyPost_ret (v := .tuple #[.slice none 0 0, .int .i64 (k : Nat), .int .i64 c]) (by simp [results, Tryz.results44, go_sem]) rfl ?_
        exact HF.out
    | ok r o =>
      rw [hS] at hx
      have HX4 : Hid (RX q w4 r o 0 0) := hid hx
      by_cases hl : r.length = 0
      · have HOK2 := hid (HOK.out r o (by unfold rdTop; rw [hS]; show (if r.length = 0 then RdR.ok r o else _) = _; rw [if_pos hl]))
        have hol := HOK2.out.2.2
        obtain ⟨F1, F2, F3, F4, F5⟩ := HFF.out
        obtain ⟨wA, wc, nA, nc, h1, h2, h3⟩ := HX4.out.st
        rw [F1] at h2
        rw [F4] at h3
        have HBE : Hid (Below W.heap.size W w4) := hid (by have := HX4.out.bel; rw [F4, F5] at this; exact this)
        obtain ⟨⟨q0, q1, q2, q3, q4, q5⟩, f1, f3, f4, f5⟩ := six_cellsR h2
        have HO4 := hid h3
        have HCK := hid (rcheck09_any nA nc o w4 (sl_own h3) (by omega))
        rw [hl] at q1
        clear hS hx h1 h2 h3 hl F1 F2 F3 F4 F5 HX4 HER HOK HFF HRL hE9 f1 f3 f4 f5
        go_wp2_with fail
        refine HCK.out.mono ?_
        rintro e w5 ⟨rfl, hb⟩
        have HO5 := hid (own_keep HO4.out hb)
        have HB5 := hid (HBE.out.trans (hb.mono HBE.out.size))
        replace q3 := cellb hb q3
        clear hb HO4 HBE HCK q0 q1 q2 q4 q5
        by_cases hz : chkN o = 0
        · have hnd := HOK2.out.1 hz
          have HF : Hid (NdAns T l W (.returned (.tuple #[.slice nA o.length nc, .int .i64 0, .int .i64 0])) w5) := hid ⟨nA, nc, by rw [hnd]; rfl, by rw [hnd]; exact HO5.out, HB5.out⟩
          clear hnd HOK2 hol
          rw [hz]
          clear hz
          go_wp2
          refine bodyPost_ret (v := .tuple #[.slice nA o.length nc, .int .i64 0, .int .i64 0]) (by simp [results, Tryz.results44, go_sem]) rfl ?_
          exact HF.out
        · have hnd := HOK2.out.2.1 hz
          have HF := hid (NdAns.none hnd HB5.out)
          generalize chkN o = z at *
          have hz2 : (z != 0) = true := by simpa using hz
          clear hnd HOK2 hol
          go_wp2
          refine bodyPost_ret (v := .tuple #[.slice none 0 0, .int .i64 0, .int .i64 z]) (by simp [results, Tryz.results44, go_sem]) rfl ?_
          exact HF.out
      · have HND := hid (HER.out (hereW E r) 3 (by unfold rdTop; rw [hS]; show (if r.length = 0 then RdR.ok r o else .er (hereW E r) 3) = _; rw [if_neg hl]))
        have HHE := hid (here_any q w4 r o 0 0 hx)
        have HFA := hid (fail_ok q w4 r o 0 (hereW E r) 3 hx)
        obtain ⟨F1, F2, F3, F4, F5⟩ := HFF.out
        rw [F1, F3] at HHE
        rw [F1] at HFA
        obtain ⟨wA, wc, nA, nc, h1, h2, h3⟩ := HX4.out.st
        rw [F1] at h2
        obtain ⟨⟨q0, q1, q2, q3, q4, q5⟩, f1, f3, f4, f5⟩ := six_cellsR h2
        have hl2 : 0 < r.length := by omega
        clear hS hx h1 h2 h3 hl F1 F2 F3 F4 F5 HER HOK f1 f3 f4 f5
        generalize r.length = rl at q1 hl2
        have hl3 : (0 : Int) < (rl : Int) := by omega
        go_wp2_with fail
        refine HHE.out.mono ?_
        rintro e w5 ⟨rfl, rfl⟩
        go_wp2_with fail
        refine HFA.out.mono ?_
        rintro e w6 ⟨rfl, hx⟩
        have HX6 := hid hx
        have HC := hid (show (3 : Int) ≠ 0 by decide)
        clear hx HFA HHE q0 q1 q2 q3 q4 q5 HX4
        obtain ⟨F1, F2, F3, F4, F5⟩ := HFF.out
        obtain ⟨wA8, wc8, nA8, nc8, h1, h2, h3⟩ := HX6.out.st
        rw [F1] at h2
        have HF := hid (NdAns.none HND.out (w' := w6.drew) (below_drew (by have := HX6.out.bel; rw [F4, F5] at this; exact this)))
        obtain ⟨⟨q0, q1, q2, q3, q4, q5⟩, f1, f3, f4, f5⟩ := six_cellsR h2
        have hc := HC.out
        have hc2 : ((3 : Int) != 0) = true := bne_iff_ne.mpr hc
        clear h1 h2 h3 F1 F2 F3 F4 F5 HX6 HND HFF HRL hE9 f1 f3 f4 f5 HC
        go_upto_region 9 with (fail)
        go_region
        go_wp2
        refine bodyPost_ret (v := .tuple #[.slice none 0 0, .int .i64 (hereW E r : Nat), .int .i64 3]) (by simp [results, Tryz.results44, go_sem]) rfl ?_
        exact HF.out
  · have hnd := ndT_lex (T := T) he
    have HND := hid hnd
    generalize hz : (lexW l).2.2 = z at *
    clear hz hnd
    generalize (lexW l).2.1 = at0 at *
    generalize (lexW l).1 = ws at *
    have hz2 : ((z : Int) != 0) = true := by simp; omega
    clear hT hl hwl HCT HT
    generalize str l = s at *
    go_enter Tryz.func44, Tryz.ntmps44
    go_wp2_with fail
    refine HW.out.mono ?_
    rintro e w1 ⟨A0, c0, rfl, ho, hb⟩
    have HF := hid (NdAns.none HND.out hb)
    clear ho hb HW HND
    go_wp2
    refine bodyPost_ret (v := .tuple #[.slice none 0 0, .int .i64 (at0 : Nat), .int .i64 (z : Nat)]) (by simp [results, Tryz.results44, go_sem]) rfl ?_
    exact HF.out
end Go.Proofs.YtgakobolhmdnnaaGreatDoor
