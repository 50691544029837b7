/- The page's example of slots. -/
import Derived.Test.YtadjmgmdnekllaaSltG
namespace Go.Proofs.Ytadjmgmdnekllaa
open Go.RowKit Go.Sort
set_option linter.unusedVariables false
set_option linter.unusedSimpArgs false

/-- Block T is a variable that holds these slots, whose rows are the call's own. -/
def KS (w : World) (B T : Nat) (s : Sv) (A O R : Option Addr) (ca co cr : Nat) : Prop := w.heap[T]? = some (.cells (svv s A O R ca co cr) 116 (0, 0)) ∧ OwnW w B s A O R ca co cr
theorem KS.put {u : World} {B T : Nat} {s : Sv} {A O R : Option Addr} {ca co cr : Nat} {x0 x1 x2 x3 : Value} (hx : u.heap[T]? = some (.cells #[x0, x1, x2, x3] 116 (0, 0))) (ho : OwnW u B s A O R ca co cr) : KS (put4 u T (.int .i64 s.n) (.slice A s.a.length ca) (.slice O s.o.length co) (.slice R s.r.length cr)) B T s A O R ca co cr := ⟨put4_heap hx _ _ _ _, ho.same hx fun g hg => put4_other hg _ _ _ _⟩
theorem KS.keep {w w' : World} {B T : Nat} {s : Sv} {A O R : Option Addr} {ca co cr : Nat} (h : KS w B T s A O R ca co cr) (hb : Below w.heap.size w w') : KS w' B T s A O R ca co cr := ⟨keep0 h.1 hb, h.2.keep hb⟩
theorem OwnW.mono {w : World} {B B' : Nat} {s : Sv} {A O R : Option Addr} {ca co cr : Nat} (h : OwnW w B s A O R ca co cr) (hb : B' ≤ B) : OwnW w B' s A O R ca co cr := ⟨own_mono h.1 hb, own_mono h.2.1 hb, own_mono h.2.2 hb⟩
def ex0 : Sv := ⟨1, [], [], []⟩
def ex1 : Sv := ⟨1, [(5, 0)], [], []⟩
def ex2 : Sv := ⟨1, [], [], [(5, 0)]⟩
def ex3 : Sv := ⟨1, [], [(5, 1)], [(5, 0)]⟩
def ex4 : Sv := ⟨1, [], [(5, 1)], []⟩
def ex5 : Sv := ⟨1, [], [], [(5, 1)]⟩
theorem exs : askV ex0 5 0 = (ex1, true) ∧ freeV ex1 = 0 ∧ giveV ex1 (5, 0) = (ex2, true) ∧ giveV ex2 (5, 1) = (ex3, false) ∧ endV ex3 (5, 0) = (ex4, true) ∧ nextV ex4 = (ex5, (5, 1), true) := ⟨by kernel_rfl, by kernel_rfl, by kernel_rfl, by kernel_rfl, by kernel_rfl, by kernel_rfl⟩
theorem okx {s : Sv} (h : s.n = 1 ∧ s.a.length ≤ 5 ∧ s.o.length ≤ 5 ∧ s.r.length ≤ 5) : OkV s := ⟨by omega, by omega, by omega, by omega⟩

set_option maxRecDepth 20000 in
set_option maxHeartbeats 8000000 in
theorem works30_any (W : World) : Calls Try.prog 76 #[] W fun e w' => e = .returned (.bool true) ∧ Below W.heap.size W w' := by
  obtain ⟨e1, e2, e3, e4, e5, e6⟩ := exs
  have H1 : Hid (∀ (w : World) (A O R : Option Addr) (ca co cr : Nat), InV w ex0 A O R ca co cr → Calls Try.prog 78 #[.agg #[.int .i64 1, .slice A 0 ca, .slice O 0 co, .slice R 0 cr], .agg #[.int .i64 5, .int .i64 0]] w fun e w' => ∃ A' O' R' ca' co' cr', e = .returned (.tuple #[.agg #[.int .i64 1, .slice A' 1 ca', .slice O' 0 co', .slice R' 0 cr'], .bool true]) ∧ OwnW w' w.heap.size ex1 A' O' R' ca' co' cr' ∧ Below w.heap.size w w') := hid (fun w A O R ca co cr h => by
    have h9 := ask_any ex0 5 0 A O R ca co cr w h (okx ⟨rfl, by decide, by decide, by decide⟩)
    rw [e1] at h9
    exact h9)
  have H2 : Hid (∀ (w : World) (A O R : Option Addr) (ca co cr : Nat), Calls Try.prog 81 #[.agg #[.int .i64 1, .slice A 1 ca, .slice O 0 co, .slice R 0 cr]] w fun e w' => e = .returned (.int .i64 0) ∧ Below w.heap.size w w') := hid (fun w A O R ca co cr => by
    have h9 := free_any ex1 A O R ca co cr w (okx ⟨rfl, by decide, by decide, by decide⟩)
    rw [e2] at h9
    exact h9)
  have H3 : Hid (∀ (w : World) (A O R : Option Addr) (ca co cr : Nat), InV w ex1 A O R ca co cr → Calls Try.prog 85 #[.agg #[.int .i64 1, .slice A 1 ca, .slice O 0 co, .slice R 0 cr], .agg #[.int .i64 5, .int .i64 0]] w fun e w' => ∃ A' O' R' ca' co' cr', e = .returned (.tuple #[.agg #[.int .i64 1, .slice A' 0 ca', .slice O' 0 co', .slice R' 1 cr'], .bool true]) ∧ OwnW w' w.heap.size ex2 A' O' R' ca' co' cr' ∧ Below w.heap.size w w') := hid (fun w A O R ca co cr h => by
    have h9 := give_any ex1 5 0 A O R ca co cr w h (okx ⟨rfl, by decide, by decide, by decide⟩)
    rw [e3] at h9
    exact h9)
  have H4 : Hid (∀ (w : World) (A O R : Option Addr) (ca co cr : Nat), InV w ex2 A O R ca co cr → Calls Try.prog 85 #[.agg #[.int .i64 1, .slice A 0 ca, .slice O 0 co, .slice R 1 cr], .agg #[.int .i64 5, .int .i64 1]] w fun e w' => ∃ A' O' R' ca' co' cr', e = .returned (.tuple #[.agg #[.int .i64 1, .slice A' 0 ca', .slice O' 1 co', .slice R' 1 cr'], .bool false]) ∧ OwnW w' w.heap.size ex3 A' O' R' ca' co' cr' ∧ Below w.heap.size w w') := hid (fun w A O R ca co cr h => by
    have h9 := give_any ex2 5 1 A O R ca co cr w h (okx ⟨rfl, by decide, by decide, by decide⟩)
    rw [e4] at h9
    exact h9)
  have H5 : Hid (∀ (w : World) (A O R : Option Addr) (ca co cr : Nat), InV w ex3 A O R ca co cr → Calls Try.prog 91 #[.agg #[.int .i64 1, .slice A 0 ca, .slice O 1 co, .slice R 1 cr], .agg #[.int .i64 5, .int .i64 0]] w fun e w' => ∃ A' O' R' ca' co' cr', e = .returned (.tuple #[.agg #[.int .i64 1, .slice A' 0 ca', .slice O' 1 co', .slice R' 0 cr'], .bool true]) ∧ OwnW w' w.heap.size ex4 A' O' R' ca' co' cr' ∧ Below w.heap.size w w') := hid (fun w A O R ca co cr h => by
    have h9 := end_any ex3 5 0 A O R ca co cr w h (okx ⟨rfl, by decide, by decide, by decide⟩)
    rw [e5] at h9
    exact h9)
  have H6 : Hid (∀ (w : World) (A O R : Option Addr) (ca co cr : Nat), InV w ex4 A O R ca co cr → Calls Try.prog 89 #[.agg #[.int .i64 1, .slice A 0 ca, .slice O 1 co, .slice R 0 cr]] w fun e w' => ∃ A' O' R' ca' co' cr', e = .returned (.tuple #[.agg #[.int .i64 1, .slice A' 0 ca', .slice O' 0 co', .slice R' 1 cr'], .agg #[.int .i64 5, .int .i64 1], .bool true]) ∧ OwnW w' w.heap.size ex5 A' O' R' ca' co' cr' ∧ Below w.heap.size w w') := hid (fun w A O R ca co cr h => by
    have h9 := next_any ex4 A O R ca co cr w h (okx ⟨rfl, by decide, by decide, by decide⟩)
    rw [e6] at h9
    exact h9)
  clear e1 e2 e3 e4 e5 e6
  go_enter Try.func76, Try.ntmps76
  go_wp2_with fail
  refine (H1.out W none none none 0 0 0 ⟨Sl.nil _ _ _ _ (Nat.zero_le _), Sl.nil _ _ _ _ (Nat.zero_le _), Sl.nil _ _ _ _ (Nat.zero_le _)⟩).mono ?_
  rintro e w1 ⟨A1, O1, R1, ca1, co1, cr1, rfl, ho1, hb1⟩
  have hal : Below w1.heap.size w1 (w1.alloc (.cells (svv ex1 A1 O1 R1 ca1 co1 cr1) 116)) := (Below.refl _ _).alloc (Nat.le_refl _) _
  have HK1 : Hid (KS (w1.alloc (.cells (svv ex1 A1 O1 R1 ca1 co1 cr1) 116)) 0 w1.heap.size ex1 A1 O1 R1 ca1 co1 cr1) := hid ⟨heap_alloc_new _ _, (ho1.keep hal).mono (Nat.zero_le _)⟩
  have HB1 := hid (hb1.trans (hal.mono hb1.size))
  have HT := hid hb1.size
  clear ho1 hb1 hal H1
  go_upto_region 2 with (fail)
  refine at_world (fun u => KS u 0 w1.heap.size ex1 A1 O1 R1 ca1 co1 cr1 ∧ Below W.heap.size W u) ⟨HK1.out, HB1.out⟩ ?_
  clear HK1 HB1
  generalize w1.heap.size = T at *
  rintro w2 ⟨hk2, hb2⟩
  obtain ⟨⟨p0, p1, p2, p3⟩, f0, f1, f2, f3⟩ := four_cells hk2.1
  have HK2 := hid hk2
  have HB2 := hid hb2
  simp only [ex1, List.length_cons, List.length_nil, Nat.zero_add] at p0 p1 p2 p3
  clear hk2 hb2
  go_wp2_with fail
  refine (H2.out _ _ _ _ _ _ _).mono ?_
  rintro e w3 ⟨rfl, hb3⟩
  have HK3 := hid (HK2.out.keep hb3)
  have HB3 := hid (HB2.out.trans (hb3.mono HB2.out.size))
  clear hb3 HK2 HB2 H2 p0 p1 p2 p3 f0 f1 f2 f3
  obtain ⟨⟨p0, p1, p2, p3⟩, f0, f1, f2, f3⟩ := four_cells HK3.out.1
  simp only [ex1, List.length_cons, List.length_nil, Nat.zero_add] at p0 p1 p2 p3
  go_wp2_with fail
  refine (H3.out _ _ _ _ _ _ _ HK3.out.2.inV).mono ?_
  rintro e w4 ⟨A2, O2, R2, ca2, co2, cr2, rfl, ho4, hb4⟩
  have hx4 := keep0 HK3.out.1 hb4
  have hb0 := HB3.out.trans (hb4.mono HB3.out.size)
  have HK4 := hid (KS.put hx4 (ho4.mono (Nat.zero_le _)))
  have HB4 := hid (put4_below hb0 HT.out (.int .i64 ex2.n) (.slice A2 ex2.a.length ca2) (.slice O2 ex2.o.length co2) (.slice R2 ex2.r.length cr2))
  clear p0 p1 p2 p3 f0 f1 f2 f3
  obtain ⟨⟨p0, p1, p2, p3⟩, f0, f1, f2, f3⟩ := four_cells hx4
  clear ho4 hb4 hx4 hb0 HK3 HB3 H3
  go_upto_region 4 with (fail)
  refine at_world (fun u => KS u 0 T ex2 A2 O2 R2 ca2 co2 cr2 ∧ Below W.heap.size W u) ⟨HK4.out, HB4.out⟩ ?_
  clear p0 p1 p2 p3 f0 f1 f2 f3 HK4 HB4
  rintro w5 ⟨hk5, hb5⟩
  obtain ⟨⟨p0, p1, p2, p3⟩, f0, f1, f2, f3⟩ := four_cells hk5.1
  have HK5 := hid hk5
  have HB5 := hid hb5
  simp only [ex2, List.length_cons, List.length_nil, Nat.zero_add] at p0 p1 p2 p3
  clear hk5 hb5
  go_wp2_with fail
  refine (H4.out _ _ _ _ _ _ _ HK5.out.2.inV).mono ?_
  rintro e w6 ⟨A3, O3, R3, ca3, co3, cr3, rfl, ho6, hb6⟩
  have hx6 := keep0 HK5.out.1 hb6
  have hb0 := HB5.out.trans (hb6.mono HB5.out.size)
  have HK6 := hid (KS.put hx6 (ho6.mono (Nat.zero_le _)))
  have HB6 := hid (put4_below hb0 HT.out (.int .i64 ex3.n) (.slice A3 ex3.a.length ca3) (.slice O3 ex3.o.length co3) (.slice R3 ex3.r.length cr3))
  clear p0 p1 p2 p3 f0 f1 f2 f3
  obtain ⟨⟨p0, p1, p2, p3⟩, f0, f1, f2, f3⟩ := four_cells hx6
  clear ho6 hb6 hx6 hb0 HK5 HB5 H4
  go_upto_region 5 with (fail)
  refine at_world (fun u => KS u 0 T ex3 A3 O3 R3 ca3 co3 cr3 ∧ Below W.heap.size W u) ⟨HK6.out, HB6.out⟩ ?_
  clear p0 p1 p2 p3 f0 f1 f2 f3 HK6 HB6
  rintro w7 ⟨hk7, hb7⟩
  obtain ⟨⟨p0, p1, p2, p3⟩, f0, f1, f2, f3⟩ := four_cells hk7.1
  have HK7 := hid hk7
  have HB7 := hid hb7
  simp only [ex3, List.length_cons, List.length_nil, Nat.zero_add] at p0 p1 p2 p3
  clear hk7 hb7
  go_wp2_with fail
  refine (H5.out _ _ _ _ _ _ _ HK7.out.2.inV).mono ?_
  rintro e w8 ⟨A4, O4, R4, ca4, co4, cr4, rfl, ho8, hb8⟩
  have hx8 := keep0 HK7.out.1 hb8
  have hb0 := HB7.out.trans (hb8.mono HB7.out.size)
  have HK8 := hid (KS.put hx8 (ho8.mono (Nat.zero_le _)))
  have HB8 := hid (put4_below hb0 HT.out (.int .i64 ex4.n) (.slice A4 ex4.a.length ca4) (.slice O4 ex4.o.length co4) (.slice R4 ex4.r.length cr4))
  clear p0 p1 p2 p3 f0 f1 f2 f3
  obtain ⟨⟨p0, p1, p2, p3⟩, f0, f1, f2, f3⟩ := four_cells hx8
  clear ho8 hb8 hx8 hb0 HK7 HB7 H5
  go_upto_region 6 with (fail)
  refine at_world (fun u => KS u 0 T ex4 A4 O4 R4 ca4 co4 cr4 ∧ Below W.heap.size W u) ⟨HK8.out, HB8.out⟩ ?_
  clear p0 p1 p2 p3 f0 f1 f2 f3 HK8 HB8
  rintro w9 ⟨hk9, hb9⟩
  obtain ⟨⟨p0, p1, p2, p3⟩, f0, f1, f2, f3⟩ := four_cells hk9.1
  have HK9 := hid hk9
  have HB9 := hid hb9
  simp only [ex4, List.length_cons, List.length_nil, Nat.zero_add] at p0 p1 p2 p3
  clear hk9 hb9
  go_wp2_with fail
  refine (H6.out _ _ _ _ _ _ _ HK9.out.2.inV).mono ?_
  rintro e w10 ⟨A9, O9, R9, ca9, co9, cr9, rfl, ho9, hb9⟩
  have HBZ := hid (HB9.out.trans (hb9.mono HB9.out.size))
  clear ho9 hb9 HK9 HB9 p0 p1 p2 p3 f0 f1 f2 f3
  have e95 : (((5 : Int) == 5) && ((1 : Int) == 1)) = true := rfl
  go_wp2
  go_ret
  refine ⟨rfl, ?_⟩
  exact ((HBZ.out.alloc HBZ.out.size _).alloc (by have := HBZ.out.size; simp; omega) _)
end Go.Proofs.Ytadjmgmdnekllaa
