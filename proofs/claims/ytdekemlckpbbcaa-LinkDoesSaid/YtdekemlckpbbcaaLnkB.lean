/- link.first: contract; rows of packets. -/
import Derived.Test.YtdekemlckpbbcaaLnkA
import Derived.Test.YtdekemlckpbbcaaGcel
import Derived.RegionTactic
import Derived.ChangeAlike
import Derived.Deep.RegionHeld3
import Derived.Lib.QuietBelow
namespace Go.Proofs.Ytdekemlckpbbcaa
open Go.RowKit Go.Sort
set_option linter.unusedVariables false
set_option linter.unusedSimpArgs false

/-- A packet. -/
structure Pk where
  k : Int
  f : Int
  t : Int
  i : Int
  p : Int
  s : Int
  b : List UInt8
def pkc (x : Pk) : List Value := [.int .i64 x.k, .int .i64 x.f, .int .i64 x.t, .int .i64 x.i, .int .i64 x.p, .int .i64 x.s, .string (str x.b)]
theorem pkc_len (x : Pk) : (pkc x).length = 7 := rfl
theorem pkc_one (l : List Pk) : ∀ u ∈ gcells pkc l, u.oneCell' = true := by
  intro u hu
  simp only [gcells, List.mem_flatten, List.mem_map] at hu
  obtain ⟨_, ⟨x, _, rfl⟩, hx⟩ := hu
  simp only [pkc, List.mem_cons, List.not_mem_nil, or_false] at hx
  rcases hx with rfl | rfl | rfl | rfl | rfl | rfl | rfl <;> rfl
/-- What is sent of an end's first text. -/
def dataV (e : Ev) (b : Bool) : List Pk := if b then (match e.o.l with | [] => [] | y :: _ => [⟨1, e.f, e.t, e.i, e.o.p, e.o.q, y⟩]) else []
/-- A row of packets of the call's own. -/
def OwnP (W w : World) (v : Value) (l : List Pk) : Prop := w.ownsRow W.heap.size 71 7 v l.length (gcells pkc l)
theorem ownP_one {W u w' : World} {x : Pk} {g : Nat} (hb : W.heap.size ≤ g) (h : w'.heap[g]? = some (.cells (pkc x).toArray 71 (0, 0))) : OwnP W w' (.slice (some ⟨g, 0, none⟩) 1 1) [x] := by
  refine ⟨by simp [gcells, pkc], .inr ⟨g, 1, (pkc x).toArray, rfl, hb, h, by simp, by unfold maxLen; omega, by simp [pkc], by simp [gcells, pkc]⟩⟩
theorem ownP_nil (W w : World) : OwnP W w (.slice none 0 0) [] := ⟨rfl, .inl ⟨rfl, rfl⟩⟩

set_option maxRecDepth 20000 in
set_option maxHeartbeats 4000000 in
theorem lfirst_any (e : Ev) (b : Bool) (hb : b = true → e.o.l ≠ []) (A : Option Addr) (c : Nat) (W : World) (h : Sl W 1 A e.o.l.length c (scells e.o.l)) (hl : e.o.l.length ≤ 1000) :
    Calls Try.prog 46 #[.agg (ec e A c), .bool b] W fun x w' => ∃ B d, x = .returned (.slice B (dataV e b).length d) ∧ OwnP W w' (.slice B (dataV e b).length d) (dataV e b) ∧ Below W.heap.size W w' := by
  cases b with
  | false =>
    have HB0 : Hid (Below W.heap.size W (W.alloc (.cells (ec e A c) 54))) := hid ((Below.refl _ _).alloc (Nat.le_refl _) _)
    have HD : Hid (dataV e false = []) := hid rfl
    have HN := hid (ownP_nil W (W.alloc (.cells (ec e A c) 54)))
    generalize dataV e false = D at *
    obtain ⟨f, t, i, ⟨p, q, l, wt, fl⟩, gm, gp, gl⟩ := e
    simp only [ec] at *
    clear hb h hl
    go_enter Try.func46, Try.ntmps46
    go_wp2
    go_ret
    exact ⟨none, 0, by rw [HD.out]; rfl, by rw [HD.out]; exact HN.out, HB0.out⟩
  | true =>
    obtain ⟨f, t, i, ⟨p, q, l, wt, fl⟩, gm, gp, gl⟩ := e
    have hne := hb rfl
    obtain ⟨y, ys, hy⟩ : ∃ y ys, l = y :: ys := List.exists_cons_of_ne_nil hne
    have HD : Hid (dataV ⟨f, t, i, ⟨p, q, l, wt, fl⟩, gm, gp, gl⟩ true = [⟨1, f, t, i, p, q, y⟩]) := hid (by subst hy; rfl)
    generalize dataV ⟨f, t, i, ⟨p, q, l, wt, fl⟩, gm, gp, gl⟩ true = D at *
    have HF := hid (fun w (hw : Below W.heap.size W w) => first_any ⟨p, q, l, wt, fl⟩ y ys hy A c w (h.below hw) hl)
    have HP := hid (fun w => lpacket_any ⟨f, t, i, ⟨p, q, l, wt, fl⟩, gm, gp, gl⟩ A c 1 p q (str y) w)
    clear hb hne hy h hl
    simp only [ec, oc] at *
    go_enter Try.func46, Try.ntmps46
    go_upto_region 1 with (fail)
    refine at_world (fun u => u.heap[W.heap.size]? = some (.cells (ec ⟨f, t, i, ⟨p, q, l, wt, fl⟩, gm, gp, gl⟩ A c) 54 (0, 0)) ∧ Below W.heap.size W u) ⟨heap_alloc_new _ _, (Below.refl _ _).alloc (Nat.le_refl _) _⟩ ?_
    rintro w1 ⟨hx1, hb1⟩
    have hS : ∀ U, Below w1.heap.size w1 U → ((U.cell? ⟨W.heap.size, 0, none⟩ = some (.int .i64 f) ∧ U.cell? ⟨W.heap.size, 1, none⟩ = some (.int .i64 t) ∧ U.cell? ⟨W.heap.size, 2, none⟩ = some (.int .i64 i) ∧ U.cell? ⟨W.heap.size, 3, none⟩ = some (.int .i64 p) ∧ U.cell? ⟨W.heap.size, 4, none⟩ = some (.int .i64 q) ∧ U.cell? ⟨W.heap.size, 5, none⟩ = some (.slice A l.length c) ∧ U.cell? ⟨W.heap.size, 6, none⟩ = some (.int .i64 wt) ∧ U.cell? ⟨W.heap.size, 7, none⟩ = some (.int .i64 fl) ∧ U.cell? ⟨W.heap.size, 8, none⟩ = some (.int .i64 gm) ∧ U.cell? ⟨W.heap.size, 9, none⟩ = some (.int .i64 gp) ∧ U.cell? ⟨W.heap.size, 10, none⟩ = some (.int .i64 gl)) ∧ Below w1.heap.size w1 U) := fun U hU => ⟨(eleven_cells (keep0 hx1 hU)).1, hU⟩
    have HB1 := hid hb1
    obtain ⟨⟨p0, p1, p2, p3, p4, p5, p6, p7, p8, p9, p10⟩, _⟩ := eleven_cells hx1
    clear hx1 hb1
    have HF1 := hid (fun w (hw : Below w1.heap.size w1 w) => HF.out w (HB1.out.trans (hw.mono HB1.out.size)))
    clear HF
    go_upto_region 3 with (fail)
    go_region_held3 (fun U => (U.cell? ⟨W.heap.size, 0, none⟩ = some (.int .i64 f) ∧ U.cell? ⟨W.heap.size, 1, none⟩ = some (.int .i64 t) ∧ U.cell? ⟨W.heap.size, 2, none⟩ = some (.int .i64 i) ∧ U.cell? ⟨W.heap.size, 3, none⟩ = some (.int .i64 p) ∧ U.cell? ⟨W.heap.size, 4, none⟩ = some (.int .i64 q) ∧ U.cell? ⟨W.heap.size, 5, none⟩ = some (.slice A l.length c) ∧ U.cell? ⟨W.heap.size, 6, none⟩ = some (.int .i64 wt) ∧ U.cell? ⟨W.heap.size, 7, none⟩ = some (.int .i64 fl) ∧ U.cell? ⟨W.heap.size, 8, none⟩ = some (.int .i64 gm) ∧ U.cell? ⟨W.heap.size, 9, none⟩ = some (.int .i64 gp) ∧ U.cell? ⟨W.heap.size, 10, none⟩ = some (.int .i64 gl)) ∧ Below w1.heap.size w1 U)
      (first
        | assumption
        | exact hS _ (below_drew (Below.refl _ _))
        | exact hS _ (bel_trans (And.right (by assumption)) (by assumption))
        | exact hS _ (bel_alloc (And.right (by assumption)) _))
      (first
        | (go_at_call 35
           refine (HF1.out _ (And.right (by assumption))).mono ?_
           rintro e u1 ⟨rfl, g1⟩)
        | (go_at_call 67
           refine (HP.out _).mono ?_
           rintro e u2 ⟨rfl, g2⟩))
    have hW := And.right (show _ ∧ Below w1.heap.size w1 _ by assumption)
    have HX := hid (ownP_one (W := W) (u := u2) (x := ⟨1, f, t, i, p, q, y⟩) (show W.heap.size ≤ u2.heap.size by have h1 := HB1.out.size; have h2 := g2.size; have h3 := g1.size; have h4 := HB1.out.size; simp at h3; omega) (heap_alloc_new u2 _))
    have HB2 := hid (HB1.out.trans (hW.mono HB1.out.size))
    clear hW
    go_wp2
    go_ret
    exact ⟨_, 1, by rw [HD.out]; rfl, by rw [HD.out]; exact HX.out, HB2.out⟩
end Go.Proofs.Ytdekemlckpbbcaa
