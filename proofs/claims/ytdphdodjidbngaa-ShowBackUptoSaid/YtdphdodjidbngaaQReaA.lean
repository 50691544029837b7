/- read: the parser's state; next, wrong, skip, put. -/
import Derived.Test.YtdphdodjidbngaaQReaM
import Derived.Test.YtdphdodjidbngaaLxP
import Derived.Test.YtdphdodjidbngaaGaP
import Derived.Test.YtdphdodjidbngaaNmP
import Derived.Test.YtdphdodjidbngaaQNeeL
import Derived.BigQuiet
namespace Go.Proofs.Ytdphdodjidbngaa
open Go.RowKit
set_option linter.unusedVariables false
set_option linter.unusedSimpArgs false

theorem four_cellsR {w : World} {b t : Nat} {x y z u : Value} (h : w.heap[b]? = some (.cells #[x, y, z, u] t (0, 0))) :
    w.cell? ⟨b, 0, none⟩ = some x ∧ w.cell? ⟨b, 1, none⟩ = some y ∧ w.cell? ⟨b, 2, none⟩ = some z ∧ w.cell? ⟨b, 3, none⟩ = some u ∧ w.frozen? ⟨b, 0, none⟩ = false ∧ w.frozen? ⟨b, 1, none⟩ = false ∧ w.frozen? ⟨b, 2, none⟩ = false ∧ w.frozen? ⟨b, 3, none⟩ = false :=
  ⟨by rw [cell_of_row w b 0 _ t (0, 0) h]; rfl, by rw [cell_of_row w b 1 _ t (0, 0) h]; rfl, by rw [cell_of_row w b 2 _ t (0, 0) h]; rfl, by rw [cell_of_row w b 3 _ t (0, 0) h]; rfl, frozen_of_row w b 0 _ t h, frozen_of_row w b 1 _ t h, frozen_of_row w b 2 _ t h, frozen_of_row w b 3 _ t h⟩
theorem own_setR {w : World} {base e s n b j t : Nat} {v u : Value} {xs : List Value} {cs : Array Value} (h : w.ownsRow base e s v n xs) (hb : w.heap[b]? = some (.cells cs t (0, 0))) (hne : e ≠ t) : (w.setCell ⟨b, j, none⟩ u).ownsRow base e s v n xs := by
  refine ⟨h.1, ?_⟩
  rcases h.2 with h2 | ⟨g, cap, cur, h3, h4, h5, h6⟩
  · exact .inl h2
  · refine .inr ⟨g, cap, cur, h3, h4, (Below.heap_setCell _ _ _ _ ?_).trans h5, h6⟩
    rintro rfl
    rw [h5] at hb
    cases hb
    exact hne rfl
theorem Sl.head {w : World} {A : Option Addr} {len cap : Nat} {x : Wd} {l : List Wd} (h : Sl w 2 A len cap (wcells (x :: l))) : ∃ b off, A = some ⟨b, off, none⟩ ∧ w.cell? ⟨b, off, none⟩ = some (.string (str x.1)) ∧ w.cell? ⟨b, off + 1, none⟩ = some (.int .i64 (x.2 : Nat)) := by
  obtain ⟨b, off, ha, hc⟩ := h.2.2.2 (by rw [wcells_cons]; simp)
  refine ⟨b, off, ha, ?_, ?_⟩
  · have := hc 0 (by rw [wcells_cons]; simp)
    rw [Nat.add_zero] at this
    rw [this, wcells_cons]; rfl
  · rw [hc 1 (by rw [wcells_cons]; simp), wcells_cons]; rfl
theorem Sl.behind {w : World} {A : Option Addr} {len cap : Nat} {x : Wd} {l : List Wd} (h : Sl w 2 A len cap (wcells (x :: l))) (hl : 1 ≤ len) : Sl w 2 (dropA A cap 1 2) (len - 1) (cap - 1) (wcells l) := by
  have := h.drop 1 hl
  rwa [wcells_cons, show 1 * 2 = 1 + 1 by omega, List.drop_succ_cons, List.drop_succ_cons, List.drop_zero] at this

/-- What stays while a text is parsed. -/
structure PC where
  W : World
  P : Nat
  TA : Option Addr
  Tc : Nat
  T : List (List UInt8)
  A0 : Option Addr
  c0 : Nat
  ws0 : List Wd
  E : Nat
  M : World
abbrev PC.B (p : PC) : Nat := p.W.heap.size
/-- A parser with words ws left and nodes o. -/
structure PX (p : PC) (w : World) (ws : List Wd) (o : List (Int × Int)) : Prop where
  bel : Below p.B p.W w
  hP : p.B ≤ p.P
  tab : Sl p.W 1 p.TA p.T.length p.Tc (scells p.T)
  row : w.ownsRow p.B 154 2 (.slice p.A0 p.ws0.length p.c0) p.ws0.length (wcells p.ws0)
  bd : o.length + ws.length ≤ 1000
  oth : ∀ g cs t, g ≠ p.P → 77 ≠ t → p.M.heap[g]? = some (.cells cs t (0, 0)) → w.heap[g]? = some (.cells cs t (0, 0))
  st : ∃ wA wc nA nc, (∀ u : World, u.ownsRow p.B 154 2 (.slice p.A0 p.ws0.length p.c0) p.ws0.length (wcells p.ws0) → Sl u 2 wA ws.length wc (wcells ws)) ∧
    w.heap[p.P]? = some (.cells #[.slice p.TA p.T.length p.Tc, .slice wA ws.length wc, .int .i64 (p.E : Nat), .slice nA o.length nc] 104 (0, 0)) ∧
    w.ownsRow p.B 77 2 (.slice nA o.length nc) o.length (pcells o)
theorem PX.below {p : PC} {w w' : World} {ws : List Wd} {o : List (Int × Int)} (h : PX p w ws o) (hb : Below w.heap.size w w') : PX p w' ws o := by
  obtain ⟨wA, wc, nA, nc, h1, h2, h3⟩ := h.st
  exact ⟨h.bel.trans (hb.mono h.bel.size), h.hP, h.tab, own_keep h.row hb, h.bd, fun g cs t h7 h8 h9 => (hb.block g (lt_of_block (h.oth g cs t h7 h8 h9))).trans (h.oth g cs t h7 h8 h9), wA, wc, nA, nc, h1, (hb.block _ (lt_of_block h2)).trans h2, own_keep h3 hb⟩
theorem PX.skip {p : PC} {w : World} {x : Wd} {ws : List Wd} {o : List (Int × Int)} {wA nA : Option Addr} {wc nc n : Nat} (h : PX p w (x :: ws) o) (hn : (x :: ws).length = n)
    (h1 : ∀ u : World, u.ownsRow p.B 154 2 (.slice p.A0 p.ws0.length p.c0) p.ws0.length (wcells p.ws0) → Sl u 2 wA n wc (wcells (x :: ws)))
    (h2 : w.heap[p.P]? = some (.cells #[.slice p.TA p.T.length p.Tc, .slice wA n wc, .int .i64 (p.E : Nat), .slice nA o.length nc] 104 (0, 0)))
    (h3 : w.ownsRow p.B 77 2 (.slice nA o.length nc) o.length (pcells o)) :
    PX p (w.setCell ⟨p.P, 1, none⟩ (.slice (dropA wA wc 1 2) (n - 1) (wc - 1))) ws o := by
  have hn1 : n = ws.length + 1 := by rw [← hn]; rfl
  subst hn1
  exact ⟨h.bel.setCell (p := ⟨p.P, 1, none⟩) h.hP _, h.hP, h.tab, own_setR h.row h2 (by decide), by have := h.bd; simp only [List.length_cons] at this; omega,
    fun g cs t h7 h8 h9 => (Below.heap_setCell _ _ _ _ h7).trans (h.oth g cs t h7 h8 h9), dropA wA wc 1 2, wc - 1, nA, nc, fun u hu => by simpa using (h1 u hu).behind (by omega), heap_setCell_same w p.P 1 _ _ _ h2, own_setR h3 h2 (by decide)⟩
theorem PX.push {p : PC} {w w' : World} {ws : List Wd} {o : List (Int × Int)} {x : Int × Int} {wA nA A' : Option Addr} {wc nc c' : Nat} (h : PX p w ws o) (hbd : o.length + ws.length < 1000)
    (h1 : ∀ u : World, u.ownsRow p.B 154 2 (.slice p.A0 p.ws0.length p.c0) p.ws0.length (wcells p.ws0) → Sl u 2 wA ws.length wc (wcells ws))
    (h2 : w.heap[p.P]? = some (.cells #[.slice p.TA p.T.length p.Tc, .slice wA ws.length wc, .int .i64 (p.E : Nat), .slice nA o.length nc] 104 (0, 0)))
    (h3 : w.ownsRow p.B 77 2 (.slice nA o.length nc) o.length (pcells o))
    (k1 : w'.ownsRow p.B 77 2 (.slice A' (o.length + 1) c') (o.length + 1) (pcells o ++ [.int .i64 x.1, .int .i64 x.2])) (k2 : Below p.B w w')
    (k3 : ∀ g, p.B ≤ g → g < w.heap.size → (Value.slice nA o.length nc).ownBlock ≠ some g → w'.heap[g]? = w.heap[g]?) :
    w'.heap[p.P]? = some (.cells #[.slice p.TA p.T.length p.Tc, .slice wA ws.length wc, .int .i64 (p.E : Nat), .slice nA o.length nc] 104 (0, 0)) ∧
    PX p (w'.setCell ⟨p.P, 3, none⟩ (.slice A' (o.length + 1) c')) ws (o ++ [x]) := by
  have hb := (k3 p.P h.hP (lt_of_block h2) (own_blk_ne h3 h2 (by decide))).trans h2
  have hr := own_other h.row h3 (by decide) k3
  refine ⟨hb, (h.bel.trans k2).setCell (p := ⟨p.P, 3, none⟩) h.hP _, h.hP, h.tab, own_setR hr hb (by decide), by rw [List.length_append, List.length_singleton]; omega, fun g cs t h7 h8 h9 => ?_, wA, wc, A', c', h1, ?_, ?_⟩
  · have h6 := h.oth g cs t h7 h8 h9
    refine (Below.heap_setCell _ _ _ _ h7).trans (Eq.trans ?_ h6)
    by_cases hg : p.B ≤ g
    · exact k3 g hg (lt_of_block h6) (own_blk_ne h3 h6 h8)
    · exact k2.block g (by omega)
  · rw [List.length_append, List.length_singleton]
    exact heap_setCell_same w' p.P 3 _ _ _ hb
  · rw [List.length_append, List.length_singleton, pcells_snoc]
    exact own_setR k1 hb (by decide)

set_option maxRecDepth 20000 in
theorem next_any (p : PC) (w : World) (ws : List Wd) (o : List (Int × Int)) (h : PX p w ws o) :
    Calls Try.prog 141 #[.pointer (some ⟨p.P, 0, none⟩)] w fun e w' => e = .returned (.string (str (hdW ws))) ∧ w = w' := by
  obtain ⟨wA, wc, nA, nc, h1, h2, h3⟩ := h.st
  have h4 := h1 w h.row
  obtain ⟨q0, q1, q2, q3, -⟩ := four_cellsR h2
  cases ws with
  | nil =>
    clear h h1 h2 h3 h4
    go_enter Try.func141, Try.ntmps141
    go_wp2
    go_ret
    exact ⟨rfl, rfl⟩
  | cons x ws =>
    obtain ⟨b, off, rfl, c0, c1⟩ := h4.head
    have hl : ((ws.length + 1 : Nat) : Int) ≠ 0 := by omega
    show Calls _ _ _ _ fun e w' => e = .returned (.string (str x.1)) ∧ w = w'
    simp only [List.length_cons] at q1
    clear h h1 h2 h3 h4
    generalize hn : ws.length + 1 = n at *
    have hn0 : 0 < n := by omega
    clear hn
    generalize str x.1 = s at *
    go_enter Try.func141, Try.ntmps141
    go_wp2
    go_ret
    exact ⟨rfl, rfl⟩

/-- The panic of a fault. -/
def faultE (k : Nat) (e : Int) : Ending := .panicked [{ v := .iface 156 (.agg #[.int .i64 (k : Nat), .int .i64 e]), recovered := false }]
set_option maxRecDepth 20000 in
theorem wrong_any (p : PC) (w : World) (ws : List Wd) (o : List (Int × Int)) (c : Int) (h : PX p w ws o) :
    Calls Try.prog 78 #[.pointer (some ⟨p.P, 0, none⟩), .int .i64 c] w fun e w' => e = faultE (hereW p.E ws) c ∧ w = w' := by
  obtain ⟨wA, wc, nA, nc, h1, h2, h3⟩ := h.st
  have h4 := h1 w h.row
  obtain ⟨q0, q1, q2, q3, -⟩ := four_cellsR h2
  cases ws with
  | nil =>
    clear h h1 h2 h3 h4
    go_enter Try.func78, Try.ntmps78
    go_wp2
    exact ⟨rfl, rfl, rfl⟩
  | cons x ws =>
    obtain ⟨b, off, rfl, c0, c1⟩ := h4.head
    have hl : ((ws.length + 1 : Nat) : Int) ≠ 0 := by omega
    show Calls _ _ _ _ fun e w' => e = faultE x.2 c ∧ w = w'
    simp only [List.length_cons] at q1
    clear h h1 h2 h3 h4
    generalize hn : ws.length + 1 = n at *
    have hn0 : 0 < n := by omega
    clear hn
    go_enter Try.func78, Try.ntmps78
    go_wp2
    exact ⟨rfl, rfl, rfl⟩

set_option maxRecDepth 20000 in
theorem skip_no (p : PC) (w : World) (ws : List Wd) (o : List (Int × Int)) (t : List UInt8) (h : PX p w ws o) (hne : hdW ws ≠ t) :
    Calls Try.prog 110 #[.pointer (some ⟨p.P, 0, none⟩), .string (str t)] w fun e w' => e = .returned (.bool false) ∧ w = w' := by
  have HN := hid (next_any p w ws o h)
  have hz := str_ne hne
  have hz2 : ((str (hdW ws)).toList != (str t).toList) = true := by simpa using hz
  have hz3 : ((str (hdW ws)).toList == (str t).toList) = false := by simpa using hz
  clear h hne
  generalize str (hdW ws) = s at *
  generalize str t = s2 at *
  go_enter Try.func110, Try.ntmps110
  go_wp2_with fail
  refine HN.out.mono ?_
  rintro e w2 ⟨rfl, rfl⟩
  go_wp2
  go_ret
  exact ⟨rfl, rfl⟩
set_option maxRecDepth 20000 in
theorem skip_yes (p : PC) (w : World) (ws : List Wd) (o : List (Int × Int)) (t : List UInt8) (h : PX p w ws o) (hy : hdW ws = t) (ht : t ≠ []) :
    Calls Try.prog 110 #[.pointer (some ⟨p.P, 0, none⟩), .string (str t)] w fun e w' => e = .returned (.bool true) ∧ PX p w' ws.tail o := by
  have HN := hid (next_any p w ws o h)
  rw [hy] at HN
  have hz2 : ((str t).toList != (str t).toList) = false := by simp
  have hz3 : ((str t).toList == (str t).toList) = true := by simp
  obtain ⟨wA, wc, nA, nc, h1, h2, h3⟩ := h.st
  obtain ⟨q0, q1, q2, q3, f0, f1, f2, f3⟩ := four_cellsR h2
  cases ws with
  | nil => exact absurd hy.symm ht
  | cons x ws =>
    obtain ⟨n, hn⟩ : ∃ n, (x :: ws).length = n := ⟨_, rfl⟩
    have hn0 : 1 ≤ n := by simp at hn; omega
    rw [hn] at h1 h2 q1
    have HP := hid (h.skip hn h1 h2 h3)
    have hsl := run_from (P := Try.prog) Try.underlying97 info_word wA n wc 1 hn0 w
    rw [show ((1 : Nat) : Int) = 1 from rfl] at hsl
    clear h h1 h2 h3 hy ht hn
    generalize str t = s at *
    go_enter Try.func110, Try.ntmps110
    go_wp2_with fail
    refine HN.out.mono ?_
    rintro e w2 ⟨rfl, rfl⟩
    go_wp2
    go_ret
    exact ⟨rfl, HP.out⟩

set_option maxRecDepth 20000 in
theorem put_any (p : PC) (w : World) (ws : List Wd) (o : List (Int × Int)) (a b : Int) (h : PX p w ws o) (hbd : o.length + ws.length < 1000) :
    Calls Try.prog 111 #[.pointer (some ⟨p.P, 0, none⟩), .int .i64 a, .int .i64 b] w fun e w' => e = .returned (.tuple #[]) ∧ PX p w' ws (o ++ [(a, b)]) := by
  obtain ⟨wA, wc, nA, nc, h1, h2, h3⟩ := h.st
  have HP := hid (fun w' A' c' k1 k2 k3 => h.push (w' := w') (x := (a, b)) (A' := A') (c' := c') hbd h1 h2 h3 k1 k2 k3)
  have HO := hid h3
  have hbs := h.bel.size
  have hol : o.length < 1000 := by omega
  obtain ⟨q0, q1, q2, q3, f0, f1, f2, f3⟩ := four_cellsR h2
  clear h h1 h2 h3 hbd
  generalize o.length = n at *
  go_enter Try.func111, Try.ntmps111
  go_wp2_with (at_builtin; refine wpList_append_1k (W := w) rfl (.tmp 10) (.tmp 14) 23 rfl p.B 77 Try.underlying23 info_node rfl (by omega) rfl HO.out rfl (by rfl) (by simp [Value.oneCell']) ?c1 ?c2 hbs (Below.refl _ _) ?_)
  case c1 => unfold maxLen; omega
  case c2 => omega
  · intro v' w6 k1 k2 k3 k4
    obtain ⟨A6, c6, rfl, _⟩ := Sl.of_own k1
    obtain ⟨hb6, HX⟩ := HP.out w6 A6 c6 k1 k2 k4
    clear k1 k2 k3 k4 HP HO q0 q1 q2 q3 f0 f1 f2 f3
    obtain ⟨q0, q1, q2, q3, f0, f1, f2, f3⟩ := four_cellsR hb6
    clear hb6
    have HX := hid HX
    go_wp2
    go_end0
    exact ⟨rfl, HX.out⟩
end Go.Proofs.Ytdphdodjidbngaa
