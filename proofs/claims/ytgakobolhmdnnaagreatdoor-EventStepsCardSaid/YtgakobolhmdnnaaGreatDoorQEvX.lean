/- Reading a world of layer 39; EventRuns: the law. -/
import Derived.Test.YtgakobolhmdnnaaGreatDoorQEvH
import Derived.Test.YtgakobolhmdnnaaGreatDoorEyP
import Derived.Test.YtgakobolhmdnnaaGreatDoorQR20A
import Derived.Test.YtgakobolhmdnnaaGreatDoorQHdL
namespace Go.Proofs.YtgakobolhmdnnaaGreatDoor
open Go.RowKit Go.Sort Go.Shelf
set_option linter.unusedVariables false
set_option linter.unusedSimpArgs false

/-- The cells of a world: a cluster, and jobs. -/
def wdc (x : Cf) (N : Option Addr) (nc : Nat) (K : Option Addr) (kc : Nat) (J : Option Addr) (jc n : Nat) : Array Value := #[.int .i64 x.sc, .int .i64 x.le, .int .i64 x.ag, .int .i64 x.ro, .int .i64 x.ou, .slice N x.T.length nc, .slice K x.ws.length kc, .slice J n jc]
theorem jobs_in {w : World} {A : Option Addr} {len cap : Nat} (h : Rd Tryz.prog w 26 [.slice A len cap]) : ∃ js : List Jo, js.length = len ∧ InJs w A cap js := by
  obtain ⟨l, h1, h2, h3⟩ := rows_in (α := Jo) (f := jbl) (fun x => TxJ w x.A x.c x.ns) Tryz.underlying26 (n := 2) (by kernel_rfl) (by omega) jbl_len (fun cs hl hr => by
    obtain ⟨id, A, c, ns, e, hx⟩ := job_in (a := cs.toArray) (by simpa using hl) (by simpa using hr)
    exact ⟨⟨id, ns, A, c⟩, by have := congrArg Array.toList e; simpa [jbl] using this, hx⟩) h
  subst h2
  exact ⟨l, rfl, h1, h3⟩
theorem list4 {l : List Value} (h : l.length = 4) : ∃ a b c d, l = [a, b, c, d] := by
  match l, h with
  | [a, b, c, d], _ => exact ⟨a, b, c, d, rfl⟩
theorem list8 {l : List Value} (h : l.length = 8) : ∃ a b c d e f g i, l = [a, b, c, d, e, f, g, i] := by
  match l, h with
  | [a, b, c, d, e, f, g, i], _ => exact ⟨a, b, c, d, e, f, g, i, rfl⟩
theorem rd_ev {w : World} {a : Array Value} (hn : a.size = 4) (h : Rd Tryz.prog w 31 a.toList) : ∃ e : Ev, a.toList = evl e := by
  have hc : Tryz.prog.cellsOf 3 = 1 := by kernel_rfl
  obtain ⟨_, hf⟩ := Rd.struct Tryz.underlying31 h
  have f0 : Rd Tryz.prog w 3 ((a.toList.drop 0).take (Tryz.prog.cellsOf 3)) := hf 0 _ rfl
  have f1 : Rd Tryz.prog w 3 ((a.toList.drop 1).take (Tryz.prog.cellsOf 3)) := hf 1 _ rfl
  have f2 : Rd Tryz.prog w 3 ((a.toList.drop 2).take (Tryz.prog.cellsOf 3)) := hf 2 _ rfl
  have f3 : Rd Tryz.prog w 3 ((a.toList.drop 3).take (Tryz.prog.cellsOf 3)) := hf 3 _ rfl
  rw [hc] at f0 f1 f2 f3
  obtain ⟨k, e0, _⟩ := Rd.int Tryz.underlying3 f0
  obtain ⟨j, e1, _⟩ := Rd.int Tryz.underlying3 f1
  obtain ⟨t, e2, _⟩ := Rd.int Tryz.underlying3 f2
  obtain ⟨i, e3, _⟩ := Rd.int Tryz.underlying3 f3
  obtain ⟨y0, y1, y2, y3, hl⟩ := list4 (show a.toList.length = 4 by rw [Array.length_toList]; exact hn)
  rw [hl] at e0 e1 e2 e3 ⊢
  simp at e0 e1 e2 e3
  exact ⟨⟨k, j, t, i⟩, by simp [evl, e0, e1, e2, e3]⟩
theorem evs_in {w : World} {A : Option Addr} {len cap : Nat} (h : Rd Tryz.prog w 47 [.slice A len cap]) : ∃ es : List Ev, es.length = len ∧ Sl w 4 A es.length cap (gcells evl es) := by
  obtain ⟨l, h1, h2, h3⟩ := rows_in (α := Ev) (f := evl) (fun x => True) Tryz.underlying47 (n := 4) (by kernel_rfl) (by omega) evl_len (fun cs hl hr => by
    obtain ⟨e, he⟩ := rd_ev (a := cs.toArray) (by simpa using hl) (by simpa using hr)
    exact ⟨e, by simpa using he, trivial⟩) h
  subst h2
  exact ⟨l, rfl, h1⟩
theorem world_in {w : World} {a : Array Value} (hn : a.size = 8) (h : Rd Tryz.prog w 28 a.toList) : ∃ x N nc K kc J jc js, a = wdc x N nc K kc J jc (List.length js) ∧ CfAt w x N nc K kc ∧ InJs w J jc js := by
  have hc : Tryz.prog.cellsOf 25 = 7 := by kernel_rfl
  have hc2 : Tryz.prog.cellsOf 26 = 1 := by kernel_rfl
  obtain ⟨_, hf⟩ := Rd.struct Tryz.underlying28 h
  have f0 : Rd Tryz.prog w 25 ((a.toList.drop 0).take (Tryz.prog.cellsOf 25)) := hf 0 _ rfl
  have f1 : Rd Tryz.prog w 26 ((a.toList.drop 7).take (Tryz.prog.cellsOf 26)) := hf 1 _ rfl
  rw [hc] at f0
  rw [hc2] at f1
  obtain ⟨y0, y1, y2, y3, y4, y5, y6, y7, hl⟩ := list8 (show a.toList.length = 8 by rw [Array.length_toList]; exact hn)
  rw [hl] at f0 f1
  obtain ⟨x, N, nc, K, kc, e, hC⟩ := conf_in (a := #[y0, y1, y2, y3, y4, y5, y6]) rfl (by simpa using f0)
  obtain ⟨A, m, c, e1⟩ : ∃ A len cap, y7 = .slice A len cap := by
    rcases Rd.slice Tryz.underlying26 f1 with h1 | ⟨ad, len, cap, _, h1, _⟩
    · simp at h1; exact ⟨_, _, _, h1⟩
    · simp at h1; exact ⟨_, _, _, h1⟩
  subst e1
  obtain ⟨js, h2, hJ⟩ := jobs_in (A := A) (len := m) (cap := c) (by simpa using f1)
  subst h2
  have e' := congrArg Array.toList e
  simp [cfc] at e'
  obtain ⟨rfl, rfl, rfl, rfl, rfl, rfl, rfl⟩ := e'
  refine ⟨x, N, nc, K, kc, A, c, js, Array.toList_inj.1 ?_, hC, hJ⟩
  rw [hl]
  rfl
theorem cells8 {w : World} {b t : Nat} {x0 x1 x2 x3 x4 x5 x6 x7 : Value} (h : w.heap[b]? = some (.cells #[x0, x1, x2, x3, x4, x5, x6, x7] t (0, 0))) :
    w.cell? ⟨b, 0, none⟩ = some x0 ∧ w.cell? ⟨b, 1, none⟩ = some x1 ∧ w.cell? ⟨b, 2, none⟩ = some x2 ∧ w.cell? ⟨b, 3, none⟩ = some x3 ∧ w.cell? ⟨b, 4, none⟩ = some x4 ∧ w.cell? ⟨b, 5, none⟩ = some x5 ∧ w.cell? ⟨b, 6, none⟩ = some x6 ∧ w.cell? ⟨b, 7, none⟩ = some x7 := by
  refine ⟨?_, ?_, ?_, ?_, ?_, ?_, ?_, ?_⟩ <;> (rw [cell_of_row w b _ _ _ _ h]; rfl)
theorem cells8d {w : World} {b t : Nat} {x0 x1 x2 x3 x4 x5 x6 x7 : Value} (h : w.heap[b]? = some (.cells #[x0, x1, x2, x3, x4, x5, x6, x7] t (0, 0))) (k : Nat) (os : Array Obj) : w.drew.heap[b]? = some (.cells #[x0, x1, x2, x3, x4, x5, x6, x7] t (0, 0)) := h

set_option maxRecDepth 20000 in
set_option maxHeartbeats 4000000 in
theorem eventRuns_law (x : Cf) (N : Option Addr) (nc : Nat) (K : Option Addr) (kc : Nat) (J : Option Addr) (jc : Nat) (js : List Jo) (L : Option Addr) (lc : Nat) (evs : List Ev) (W : World) (hC : CfAt W x N nc K kc) (hJ : InJs W J jc js) (hL : Sl W 4 L evs.length lc (gcells evl evs)) :
    Calls Tryz.prog 4 #[.agg (wdc x N nc K kc J jc js.length), .slice L evs.length lc] W fun e w' => e = .returned (.bool true) ∧ RowKit.Below W.heap.size W w' := by
  have HW := hid works39_any
  have HLC := hid (fun u (hu : RowKit.Below W.heap.size W u) => r14long_any x N nc K kc u (hC.below hu))
  have HLJ := hid (fun u (hu : RowKit.Below W.heap.size W u) => long39_any J jc js u (hJ.below hu))
  have hln : longCf x = false → longJs js = false → x.ws.length ≤ 1000 ∧ SmJ js := fun h1 h2 => ⟨by have := (longCf_no h1).2; omega, (longJs_sm h2).2⟩
  have HLN := hid hln
  have HRA := hid (fun (hn : evs.length ≤ 60) (h : x.ws.length ≤ 1000 ∧ SmJ js) u (hu : RowKit.Below W.heap.size W u) => run_any x N nc K kc J jc js L lc evs u (hC.below hu) (hJ.below hu) (hL.below hu) hn h.2 h.1)
  have HRR := hid (fun (hn : evs.length ≤ 60) (h : x.ws.length ≤ 1000 ∧ SmJ js) u (hu : RowKit.Below W.heap.size W u) => rrun_any x N nc K kc J jc js L lc evs u (hC.below hu) (hJ.below hu) (hL.below hu) hn h.2 h.1)
  have hel : evs.length ≤ maxLen := Nat.le_trans hL.2.1 hL.2.2.1
  unfold maxLen at hel
  clear hC hJ hL hln
  generalize longCf x = lc9 at *
  generalize longJs js = lj at *
  generalize runL x js [] evs = RL at *
  obtain ⟨c0, le, ag, ro, ou, T, ws⟩ := x
  simp only [cfc, wdc] at *
  generalize js.length = jn at *
  generalize evs.length = en at *
  go_enter Tryz.func4, Tryz.ntmps4
  go_upto_region 1 with (fail)
  refine at_world (fun u => u.heap[W.heap.size]? = some (.cells #[.int .i64 c0, .int .i64 le, .int .i64 ag, .int .i64 ro, .int .i64 ou, .slice N T.length nc, .slice K ws.length kc, .slice J jn jc] 28 (0, 0)) ∧ RowKit.Below W.heap.size W u) ⟨heap_alloc_new _ _, bel_alloc (RowKit.Below.refl _ _) _⟩ ?_
  rintro w1 ⟨hq, hb⟩
  have HQ := hid hq
  have HB := hid hb
  clear hq hb
  generalize hQ : W.heap.size = Q at HQ
  have HQW := hid hQ
  clear hQ
  obtain ⟨q0, q1, q2, q3, q4, q5, q6, q7⟩ := cells8 HQ.out
  go_wp2_with fail
  refine (HLC.out _ HB.out).mono ?_
  rintro e w2 ⟨rfl, hb⟩
  have HB2 := hid (HB.out.trans (hb.mono HB.out.size))
  have HQ2 := hid (keep0 HQ.out hb)
  clear hb HB HQ HLC q0 q1 q2 q3 q4 q5 q6 q7
  cases lc9 with
  | true =>
    go_wp2_with (go_at_call 8; refine (HW.out _).mono ?_; rintro e w7 ⟨rfl, hb7⟩)
    go_ret
    exact ⟨rfl, HB2.out.trans (hb7.mono HB2.out.size)⟩
  | false =>
    obtain ⟨q0, q1, q2, q3, q4, q5, q6, q7⟩ := cells8 HQ2.out
    go_wp2_with fail
    refine (HLJ.out _ HB2.out).mono ?_
    rintro e w3 ⟨rfl, rfl⟩
    clear HLJ
    cases lj with
    | true =>
      clear q0 q1 q2 q3 q4 q5 q6 q7
      go_wp2_with (go_at_call 8; refine (HW.out _).mono ?_; rintro e w7 ⟨rfl, hb7⟩)
      go_ret
      exact ⟨rfl, HB2.out.trans (hb7.mono HB2.out.size)⟩
    | false =>
      have HSM := hid (HLN.out (by first | rfl | trivial) (by first | rfl | trivial))
      clear HLN
      by_cases h60 : 60 < en
      · have h61 : (en : Int) > 60 := by omega
        clear q0 q1 q2 q3 q4 q5 q6 q7
        go_wp2_with (go_at_call 8; refine (HW.out _).mono ?_; rintro e w7 ⟨rfl, hb7⟩)
        go_ret
        exact ⟨rfl, HB2.out.trans (hb7.mono HB2.out.size)⟩
      have h61 : ¬ (en : Int) > 60 := by omega
      have HRA9 := hid (HRA.out (by omega) HSM.out)
      have HRR9 := hid (HRR.out (by omega) HSM.out)
      clear HRA HRR
      go_wp2_with fail
      refine (HRA9.out _ HB2.out).mono ?_
      rintro e w4 ⟨A4, c4, ys, rfl, hys, hry, hb⟩
      have HB4 := hid (HB2.out.trans (hb.mono HB2.out.size))
      have HQ4 := hid (keep0 HQ2.out hb)
      have HY := hid (And.intro hys hry)
      clear hb hys hry q0 q1 q2 q3 q4 q5 q6 q7 HRA9 HB2 HQ2
      obtain ⟨q0, q1, q2, q3, q4, q5, q6, q7⟩ := cells8 HQ4.out
      go_wp2_with fail
      refine (HRR9.out _ HB4.out).mono ?_
      rintro e w5 ⟨A5, c5, zs, rfl, hzs, hrz, hb⟩
      have HB5 := hid (HB4.out.trans (hb.mono HB4.out.size))
      have HS := hid (r20same_any A4 A5 c4 c5 ys zs w5 ((HY.out.2.keep hb).inBk) hrz)
      have hyz : ys.map (·.1) = zs.map (·.1) := by rw [HY.out.1, hzs]
      have HYZ := hid hyz
      clear hb hyz hzs hrz q0 q1 q2 q3 q4 q5 q6 q7 HRR9 HB4 HQ4 HY
      go_wp2_with fail
      refine HS.out.mono ?_
      rintro e w6 ⟨rfl, hb⟩
      have HB6 := hid (HB5.out.trans (hb.mono HB5.out.size))
      rw [decide_eq_true HYZ.out]
      clear hb HS HB5
      go_wp2_with (go_at_call 8; refine (HW.out _).mono ?_; rintro e w7 ⟨rfl, hb7⟩)
      go_ret
      exact ⟨rfl, HB6.out.trans (hb7.mono HB6.out.size)⟩
end Go.Proofs.YtgakobolhmdnnaaGreatDoor
