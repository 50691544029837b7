/- read.parse; read.Need: contracts. -/
import Derived.Test.YtdphdodjidbngaaQReaN
import Derived.Test.YtdphdodjidbngaaNeQ
import Derived.Test.YtdphdodjidbngaaGlP
import Derived.Deep.CutRange
namespace Go.Proofs.Ytdphdodjidbngaa
open Go.RowKit
set_option linter.unusedVariables false
set_option linter.unusedSimpArgs false

theorem PX.mark {p : PC} {w : World} {ws : List Wd} {o : List (Int × Int)} (h : PX p w ws o) : PX { p with M := w } w ws o := ⟨h.bel, h.hP, h.tab, h.row, h.bd, fun _ _ _ _ _ h => h, h.st⟩
theorem set3N {u : World} {a b c t1 t2 t3 : Nat} {x y z x' y' z' : Value} (ha : u.heap[a]? = some (.cells #[x] t1 (0, 0))) (hb : u.heap[b]? = some (.cells #[y] t2 (0, 0))) (hc : u.heap[c]? = some (.cells #[z] t3 (0, 0))) (nab : a ≠ b) (nac : a ≠ c) (nbc : b ≠ c) {w : World}
    (h : ∀ base, base ≤ a → base ≤ b → base ≤ c → Below base w u) :
    (((u.setCell ⟨a, 0, none⟩ x').setCell ⟨b, 0, none⟩ y').setCell ⟨c, 0, none⟩ z').cell? ⟨a, 0, none⟩ = some x' ∧ (((u.setCell ⟨a, 0, none⟩ x').setCell ⟨b, 0, none⟩ y').setCell ⟨c, 0, none⟩ z').cell? ⟨b, 0, none⟩ = some y' ∧
    (((u.setCell ⟨a, 0, none⟩ x').setCell ⟨b, 0, none⟩ y').setCell ⟨c, 0, none⟩ z').cell? ⟨c, 0, none⟩ = some z' ∧ (∀ base, base ≤ a → base ≤ b → base ≤ c → Below base w (((u.setCell ⟨a, 0, none⟩ x').setCell ⟨b, 0, none⟩ y').setCell ⟨c, 0, none⟩ z')) ∧
    ∀ (B e s n : Nat) (v : Value) (xs : List Value), u.ownsRow B e s v n xs → e ≠ t1 → e ≠ t2 → e ≠ t3 → (((u.setCell ⟨a, 0, none⟩ x').setCell ⟨b, 0, none⟩ y').setCell ⟨c, 0, none⟩ z').ownsRow B e s v n xs := by
  have k1 := heap_setCell_same u a 0 _ _ x' ha
  have k2 := (Below.heap_setCell (u.setCell ⟨a, 0, none⟩ x') ⟨b, 0, none⟩ y' a nab).trans k1
  have k3 := (Below.heap_setCell ((u.setCell ⟨a, 0, none⟩ x').setCell ⟨b, 0, none⟩ y') ⟨c, 0, none⟩ z' a nac).trans k2
  have b1 := (Below.heap_setCell u ⟨a, 0, none⟩ x' b (Ne.symm nab)).trans hb
  have b2 := heap_setCell_same (u.setCell ⟨a, 0, none⟩ x') b 0 _ _ y' b1
  have b3 := (Below.heap_setCell ((u.setCell ⟨a, 0, none⟩ x').setCell ⟨b, 0, none⟩ y') ⟨c, 0, none⟩ z' b nbc).trans b2
  have c1 := (Below.heap_setCell u ⟨a, 0, none⟩ x' c (Ne.symm nac)).trans hc
  have c2 := (Below.heap_setCell (u.setCell ⟨a, 0, none⟩ x') ⟨b, 0, none⟩ y' c (Ne.symm nbc)).trans c1
  have c3 := heap_setCell_same ((u.setCell ⟨a, 0, none⟩ x').setCell ⟨b, 0, none⟩ y') c 0 _ _ z' c2
  refine ⟨(one_cellR k3).1, (one_cellR b3).1, (one_cellR c3).1, fun base h1 h2 h3 => ?_, fun B e s n v xs hu n1 n2 n3 => ?_⟩
  · exact ((((h base h1 h2 h3).setCell (p := ⟨a, 0, none⟩) h1 _).setCell (p := ⟨b, 0, none⟩) h2 _).setCell (p := ⟨c, 0, none⟩) h3 _)
  · exact own_setR (own_setR (own_setR hu ha n1) b1 n2) c2 n3
/-- How parse ends. -/
def PAns (p : PC) (R : RdR) (e : Ending) (w' : World) : Prop := (match R with
  | .ok _ o => ∃ A c, e = .returned (.tuple #[.slice A o.length c, .int .i64 0, .int .i64 0]) ∧ w'.ownsRow p.B 77 2 (.slice A o.length c) o.length (pcells o)
  | .er k c => e = .returned (.tuple #[.slice none 0 0, .int .i64 (k : Nat), .int .i64 c])) ∧ Below p.B p.W w'
set_option maxRecDepth 20000 in
set_option maxHeartbeats 2000000 in
theorem parse_any (p : PC) (w : World) (h : PX p w p.ws0 []) :
    Calls Try.prog 51 #[.pointer (some ⟨p.P, 0, none⟩)] w fun e w' => PAns p (rdTop p.T p.E p.ws0) e w' := by
  have hmf : ∀ (fn : Fn) (first cap : Array Value) (w : World), (Instr.makeFunc fn first cap).run Try.prog w = .ok (.func fn first cap) w := fun _ _ _ _ => rfl
  have HA := hid (fun u (hu : PX p u p.ws0 []) => (parse_all p (4 * p.ws0.length + 8)).2.2 p.ws0 [] u (by omega) hu)
  have HX := hid h
  obtain ⟨wA, wc, nA, nc, h1, h2, h3⟩ := h.st
  have hPl := lt_of_block h2
  obtain ⟨RR, hRR⟩ : ∃ RR, rdTop p.T p.E p.ws0 = RR := ⟨_, rfl⟩
  rw [hRR]
  have HRR := hid hRR
  clear h h1 h2 h3 hRR
  go_enter_defers Try.func51, Try.ntmps51
  go_upto_region 2 with (fail)
  refine at_world (fun u => u.heap[w.heap.size]? = some (.cells #[.slice none 0 0] 23 (0, 0)) ∧ u.heap[w.heap.size + 1]? = some (.cells #[.int .i64 0] 3 (0, 0)) ∧ u.heap[w.heap.size + 1 + 1]? = some (.cells #[.int .i64 0] 32 (0, 0)) ∧ Below w.heap.size w u) ⟨?_, ?_, ?_, ?_⟩ ?_
  · exact (Below.heap_alloc _ _ _ (by simp; omega)).trans ((Below.heap_alloc _ _ _ (by simp)).trans (heap_alloc_new _ _))
  · exact (Below.heap_alloc _ _ _ (by simp)).trans (by have := heap_alloc_new (w.alloc (.cells #[.slice none 0 0] 23)) (.cells #[.int .i64 0] 3); simpa using this)
  · have := heap_alloc_new ((w.alloc (.cells #[.slice none 0 0] 23)).alloc (.cells #[.int .i64 0] 3)) (.cells #[.int .i64 0] 32); simpa using this
  · exact bel_alloc (bel_alloc (bel_alloc (Below.refl _ _) _) _) _
  rintro w1 ⟨ha, hb, hc, hbe⟩
  have hPl1 : p.P < w.heap.size := hPl
  have HX1 : Hid (PX { p with M := w1 } w1 p.ws0 []) := hid (HX.out.below hbe).mark
  have hBw : p.B ≤ w.heap.size := HX.out.bel.size
  obtain ⟨q, hq⟩ : ∃ q : PC, q = { p with M := w1 } := ⟨_, rfl⟩
  have F : q.P = p.P ∧ q.T = p.T ∧ q.E = p.E ∧ q.ws0 = p.ws0 ∧ q.W = p.W ∧ q.M = w1 := by subst hq; exact ⟨rfl, rfl, rfl, rfl, rfl, rfl⟩
  rw [← hq] at HX1
  clear hq
  obtain ⟨F1, F2, F3, F4, F5, F6⟩ := F
  have HB : Hid (∀ u ws o, PX q u ws o → Below p.B p.W u) := hid fun u ws o hu => by have := hu.bel; rw [PC.B, F5] at this; exact this
  have HCE : Hid (∀ u ws o, PX q u ws o → u.heap[w.heap.size]? = some (.cells #[.slice none 0 0] 23 (0, 0)) ∧ u.heap[w.heap.size + 1]? = some (.cells #[.int .i64 0] 3 (0, 0)) ∧ u.heap[w.heap.size + 1 + 1]? = some (.cells #[.int .i64 0] 32 (0, 0))) := hid fun u ws o hu =>
    ⟨hu.oth _ _ _ (by rw [F1]; omega) (by decide) (by rw [F6]; exact ha), hu.oth _ _ _ (by rw [F1]; omega) (by decide) (by rw [F6]; exact hb), hu.oth _ _ _ (by rw [F1]; omega) (by decide) (by rw [F6]; exact hc)⟩
  have HAN : Hid (Calls Try.prog 77 #[.pointer (some ⟨p.P, 0, none⟩)] w1 fun e w' => PPost q (rp p.T p.E (4 * p.ws0.length + 8) .any p.ws0 []) e w') := hid (by
    have := (parse_all q (4 * q.ws0.length + 8)).2.2 q.ws0 [] w1 (by omega) (by rw [F4]; exact HX1.out)
    rw [F1, F2, F3, F4] at this
    exact this)
  have HWR : Hid (∀ u ws o, PX q u ws o → Calls Try.prog 78 #[.pointer (some ⟨p.P, 0, none⟩), .int .i64 3] u fun e w' => e = faultE (hereW p.E ws) 3 ∧ u = w') := hid fun u ws o hu => by
    have := wrong_any q u ws o 3 hu
    rw [F1, F3] at this
    exact this
  have HST : Hid (∀ u ws o, PX q u ws o → ∃ wA wc nA nc, u.cell? ⟨p.P, 1, none⟩ = some (.slice wA ws.length wc) ∧ u.cell? ⟨p.P, 3, none⟩ = some (.slice nA o.length nc) ∧ u.ownsRow p.B 77 2 (.slice nA o.length nc) o.length (pcells o)) := hid fun u ws o hu => by
    obtain ⟨wA, wc, nA, nc, h1, h2, h3⟩ := hu.st
    rw [F1] at h2
    rw [PC.B, F5] at h3
    obtain ⟨q0, q1, q2, q3, -⟩ := four_cellsR h2
    exact ⟨wA, wc, nA, nc, q1, q3, h3⟩
  clear ha hb hc hbe hPl hPl1 F1 F2 F3 F4 F5 F6 HX HX1
  generalize w.heap.size = a at *
  have hab : a ≠ a + 1 := by omega
  have hac : a ≠ a + 1 + 1 := by omega
  have hbc : a + 1 ≠ a + 1 + 1 := by omega
  have hR := HRR.out
  unfold rdTop at hR
  cases hS : rp p.T p.E (4 * p.ws0.length + 8) .any p.ws0 [] with
  | er k c =>
    rw [hS] at hR HAN
    have HR := hid (show .er k c = RR from hR)
    clear hR hS HRR
    go_wp2_with fail
    refine HAN.out.mono ?_
    rintro e w2 ⟨rfl, hx⟩
    obtain ⟨ws2, o2, hx⟩ := hx
    have HC3 := hid (HCE.out _ _ _ hx)
    have HBE := hid (HB.out _ _ _ hx)
    obtain rfl := HR.out
    clear hx HCE HB HAN HWR HST
    unfold faultE
    go_wp2
    obtain ⟨ha, hb, hc⟩ := HC3.out
    refine leaves_cons (f := 76) (args := #[.pointer (some ⟨a, 0, none⟩), .pointer (some ⟨a + 1, 0, none⟩), .pointer (some ⟨a + 1 + 1, 0, none⟩)]) (by simp) (by simp [go_sem]) ?_
    refine (catch_fault a (a + 1) (a + 1 + 1) k c _ _ _ [] _ ha hb hc).mono ?_
    rintro e u' w3 ⟨rfl, rfl, h1, h2, h3, h4⟩
    have hfin : PAns p (.er k c) (.returned (.tuple #[.slice none 0 0, .int .i64 (k : Nat), .int .i64 c])) w3 := ⟨rfl, HBE.out.trans (h4 _ (by omega) (by omega) (by omega))⟩
    clear hc hb ha HC3 HBE h4
    simp [Leaves, settle, results, Try.results51, go_sem, h1, h2, h3]
    exact hfin
  | ok r o =>
    rw [hS] at hR HAN
    have HR := hid (show (if r.length = 0 then RdR.ok r o else .er (hereW p.E r) 3) = RR from hR)
    clear hR hS HRR
    go_wp2_with fail
    refine HAN.out.mono ?_
    rintro e w2 ⟨rfl, hx⟩
    have HX2 := hid hx
    have HC3 := hid (HCE.out _ _ _ hx)
    have HBE := hid (HB.out _ _ _ hx)
    obtain ⟨wA2, wc2, nA2, nc2, q1, q3, ho⟩ := HST.out _ _ _ hx
    have HOW := hid ho
    clear hx HCE HB HAN HST ho
    by_cases hl : r.length = 0
    · have hR := HR.out
      rw [if_pos hl] at hR
      rw [hl] at q1
      have HR := hid hR
      obtain ⟨ha, hb, hc⟩ := HC3.out
      have HS3 := hid (set3N (x' := .slice nA2 o.length nc2) (y' := .int .i64 0) (z' := .int .i64 0) ha hb hc hab hac hbc (w := w2) (fun _ _ _ _ => Below.refl _ _))
      obtain ⟨a0, a1⟩ := one_cellR ha
      obtain ⟨b0, b1⟩ := one_cellR hb
      obtain ⟨c0, c1⟩ := one_cellR hc
      clear hl hR ha hb hc HC3 HWR HX2
      generalize hol : o.length = ol at q3 HS3
      have HOL := hid hol
      clear hol
      have hab' := Ne.symm hab
      have hac' := Ne.symm hac
      have hbc' := Ne.symm hbc
      have HFI : Hid (PAns p RR (.returned (.tuple #[.slice nA2 ol nc2, .int .i64 0, .int .i64 0])) (((w2.setCell ⟨a, 0, none⟩ (.slice nA2 ol nc2)).setCell ⟨a + 1, 0, none⟩ (.int .i64 0)).setCell ⟨a + 1 + 1, 0, none⟩ (.int .i64 0))) := hid (by
        rw [← HR.out]
        refine ⟨⟨nA2, nc2, by rw [HOL.out], ?_⟩, HBE.out.trans (HS3.out.2.2.2.1 _ (by omega) (by omega) (by omega))⟩
        exact HS3.out.2.2.2.2 _ _ _ _ _ _ HOW.out (by decide) (by decide) (by decide))
      clear HR HOL HOW HBE
      go_wp2
      refine leaves_cons (f := 76) (args := #[.pointer (some ⟨a, 0, none⟩), .pointer (some ⟨a + 1, 0, none⟩), .pointer (some ⟨a + 1 + 1, 0, none⟩)]) (by simp) (by simp [go_sem]) ?_
      refine (catch_none a (a + 1) (a + 1 + 1) _).mono ?_
      rintro e u' w3 ⟨rfl, rfl, rfl⟩
      obtain ⟨z1, z2, z3, -⟩ := HS3.out
      simp [Leaves, settle, results, Try.results51, go_sem, z1, z2, z3]
      exact HFI.out
    · have hR := HR.out
      rw [if_neg hl] at hR
      have HR := hid hR
      have HW := hid (HWR.out w2 r o HX2.out)
      have hl2 : 0 < r.length := by omega
      obtain ⟨ha, hb, hc⟩ := HC3.out
      clear hR HWR HC3 HOW
      generalize r.length = rl at *
      have hl3 : (0 : Int) < (rl : Int) := by omega
      go_wp2_with fail
      refine HW.out.mono ?_
      rintro e w3 ⟨rfl, rfl⟩
      obtain rfl := HR.out
      unfold faultE
      go_wp2
      refine leaves_cons (f := 76) (args := #[.pointer (some ⟨a, 0, none⟩), .pointer (some ⟨a + 1, 0, none⟩), .pointer (some ⟨a + 1 + 1, 0, none⟩)]) (by simp) (by simp [go_sem]) ?_
      refine (catch_fault a (a + 1) (a + 1 + 1) (hereW p.E r) 3 _ _ _ [] _ ha hb hc).mono ?_
      rintro e u' w3 ⟨rfl, rfl, h1, h2, h3, h4⟩
      have hfin : PAns p (.er (hereW p.E r) 3) (.returned (.tuple #[.slice none 0 0, .int .i64 (hereW p.E r : Nat), .int .i64 3])) w3 := ⟨rfl, HBE.out.trans (h4 _ (by omega) (by omega) (by omega))⟩
      clear hc hb ha HBE h4
      simp [Leaves, settle, results, Try.results51, go_sem, h1, h2, h3]
      exact hfin
end Go.Proofs.Ytdphdodjidbngaa
