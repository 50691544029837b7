/- Outboxes compared: contracts. -/
import Derived.Test.YtdekemlckpbbcaaLdD
import Derived.Test.YtdekemlckpbbcaaStrC
namespace Go.Proofs.Ytdekemlckpbbcaa
open Go.RowKit Go.Sort
set_option linter.unusedVariables false
set_option linter.unusedSimpArgs false

/-- Are outboxes equal? -/
def sameO (a b : Ov) : Bool := a.p == b.p && a.q == b.q && (a.w == b.w && a.f == b.f) && a.l == b.l
theorem below_tr {W w2 : World} {o1 o2 : Obj} (hb2 : Below ((W.alloc o1).alloc o2).heap.size ((W.alloc o1).alloc o2) w2) : Below W.heap.size W w2 := (below2 W o1 o2).trans (hb2.mono (below2 W o1 o2).size)
theorem first_tr {W w2 : World} {o1 o2 : Obj} (hb2 : Below ((W.alloc o1).alloc o2).heap.size ((W.alloc o1).alloc o2) w2) : w2.heap[W.heap.size]? = some o1 := keep0 (heap_first W o1 o2) hb2
theorem second_tr {W w2 : World} {o1 o2 : Obj} (hb2 : Below ((W.alloc o1).alloc o2).heap.size ((W.alloc o1).alloc o2) w2) : w2.heap[W.heap.size + 1]? = some o2 := keep0 (heap_second W o1 o2) hb2
theorem below_dN {n : Nat} {W w : World} (h : Below n W w) (q : Nat) : Below n W (w.drewN q) := ⟨h.os, h.tape, h.output, h.size, h.block⟩

set_option maxRecDepth 20000 in
theorem r24same_any (a b : Ov) (A B : Option Addr) (ca cb : Nat) (W : World) (hA : Sl W 1 A a.l.length ca (scells a.l)) (hB : Sl W 1 B b.l.length cb (scells b.l)) (h1 : a.l.length ≤ 1001) (h2 : b.l.length ≤ 1001) :
    Calls Try.prog 68 #[.agg (oc a A ca), .agg (oc b B cb)] W fun e w' => e = .returned (.bool (sameO a b)) ∧ Below W.heap.size W w' := by
  have HSM := hid (fun w (hw : Below W.heap.size W w) => same03 A B a.l.length ca b.l.length cb a.l b.l w (hA.below hw) (hB.below hw) (by omega) (by omega))
  have HV : Hid (sameO a b = (a.p == b.p && a.q == b.q && (a.w == b.w && a.f == b.f) && a.l == b.l)) := hid rfl
  obtain ⟨p, q, l, wt, fl⟩ := a
  obtain ⟨p', q', l', wt', fl'⟩ := b
  simp only at HSM HV
  clear hA hB h1 h2
  simp only [oc]
  generalize sameO _ _ = rv at *
  generalize (l == l') = lb at *
  by_cases c0 : p = p'
  case neg =>
    have b0 : (p == p') = false := by simpa using c0
    obtain rfl : rv = false := by rw [HV.out, b0]; rfl
    clear HV c0 HSM
    go_enter Try.func68, Try.ntmps68
    go_wp2
    go_ret
    exact ⟨rfl, below2 _ _ _⟩
  have b0 : (p == p') = true := by simpa using c0
  by_cases c1 : q = q'
  case neg =>
    have b1 : (q == q') = false := by simpa using c1
    obtain rfl : rv = false := by rw [HV.out, b0, b1]; rfl
    clear HV c0 c1 HSM
    go_enter Try.func68, Try.ntmps68
    go_wp2
    go_ret
    exact ⟨rfl, below2 _ _ _⟩
  have b1 : (q == q') = true := by simpa using c1
  by_cases c2 : wt = wt'
  case neg =>
    have b2 : (wt == wt') = false := by simpa using c2
    obtain rfl : rv = false := by rw [HV.out, b0, b1, b2]; rfl
    clear HV c0 c1 c2 HSM
    go_enter Try.func68, Try.ntmps68
    go_wp2
    go_ret
    exact ⟨rfl, below2 _ _ _⟩
  have b2 : (wt == wt') = true := by simpa using c2
  by_cases c3 : fl = fl'
  case neg =>
    have b3 : (fl == fl') = false := by simpa using c3
    obtain rfl : rv = false := by rw [HV.out, b0, b1, b2, b3]; rfl
    clear HV c0 c1 c2 c3 HSM
    go_enter Try.func68, Try.ntmps68
    go_wp2
    go_ret
    exact ⟨rfl, below2 _ _ _⟩
  have b3 : (fl == fl') = true := by simpa using c3
  obtain rfl : rv = lb := by rw [HV.out, b0, b1, b2, b3]; rfl
  clear HV c0 c1 c2 c3
  go_enter Try.func68, Try.ntmps68
  go_wp2_with fail
  refine (HSM.out _ (below2 _ _ _)).mono ?_
  rintro e w2 ⟨rfl, q5, rfl⟩
  clear HSM
  go_wp2
  go_ret
  exact ⟨rfl, below_dN (below2 _ _ _) q5⟩

set_option maxRecDepth 20000 in
theorem is24_any (a b : Ov) (A B : Option Addr) (ca cb : Nat) (W : World) (hA : Sl W 1 A a.l.length ca (scells a.l)) (hB : Sl W 1 B b.l.length cb (scells b.l)) (h1 : a.l.length ≤ 1001) (h2 : b.l.length ≤ 1001) :
    Calls Try.prog 49 #[.agg (oc a A ca), .agg (oc b B cb)] W fun e w' => e = .returned (.bool (sameO a b)) ∧ Below W.heap.size W w' := by
  have HSM := hid (fun w (hw : Below W.heap.size W w) => r24same_any a b A B ca cb w (hA.below hw) (hB.below hw) h1 h2)
  generalize sameO a b = rv at *
  obtain ⟨p, q, l, wt, fl⟩ := a
  obtain ⟨p', q', l', wt', fl'⟩ := b
  simp only [oc] at HSM
  clear hA hB h1 h2
  simp only [oc]
  go_enter Try.func49, Try.ntmps49
  go_wp2_with fail
  refine (HSM.out _ (below2 _ _ _)).mono ?_
  rintro e w2 ⟨rfl, hb2⟩
  have HB := hid (below_tr hb2)
  clear HSM hb2
  go_wp2
  go_ret
  exact ⟨rfl, HB.out⟩
/-- Are ends equal? -/
def sameE (a b : Ev) : Bool := a.f == b.f && a.t == b.t && a.i == b.i && sameO a.o b.o && (a.m == b.m && a.p == b.p && a.l == b.l)

set_option maxRecDepth 20000 in
set_option maxHeartbeats 1000000 in
theorem is26_any (a b : Ev) (A B : Option Addr) (ca cb : Nat) (W : World) (hA : Sl W 1 A a.o.l.length ca (scells a.o.l)) (hB : Sl W 1 B b.o.l.length cb (scells b.o.l)) (h1 : a.o.l.length ≤ 1001) (h2 : b.o.l.length ≤ 1001) :
    Calls Try.prog 21 #[.agg (ec a A ca), .agg (ec b B cb)] W fun e w' => e = .returned (.bool (sameE a b)) ∧ Below W.heap.size W w' := by
  have HSM := hid (fun w (hw : Below W.heap.size W w) => is24_any a.o b.o A B ca cb w (hA.below hw) (hB.below hw) h1 h2)
  have HV : Hid (sameE a b = (a.f == b.f && a.t == b.t && a.i == b.i && sameO a.o b.o && (a.m == b.m && a.p == b.p && a.l == b.l))) := hid rfl
  generalize sameE a b = rv at *
  generalize sameO a.o b.o = so at *
  obtain ⟨f, t, i, ⟨p, q, l, wt, fl⟩, m, gp, gl⟩ := a
  obtain ⟨f', t', i', ⟨p', q', l', wt', fl'⟩, m', gp', gl'⟩ := b
  simp only [oc] at HSM
  simp only at HV
  clear hA hB h1 h2
  simp only [ec]
  by_cases c0 : f = f'
  case neg =>
    have b0 : (f == f') = false := by simpa using c0
    obtain rfl : rv = false := by rw [HV.out, b0]; rfl
    clear HV c0 HSM
    go_enter Try.func21, Try.ntmps21
    go_wp2
    go_ret
    exact ⟨rfl, below2 _ _ _⟩
  have b0 : (f == f') = true := by simpa using c0
  by_cases c1 : t = t'
  case neg =>
    have b1 : (t == t') = false := by simpa using c1
    obtain rfl : rv = false := by rw [HV.out, b0, b1]; rfl
    clear HV c0 c1 HSM
    go_enter Try.func21, Try.ntmps21
    go_wp2
    go_ret
    exact ⟨rfl, below2 _ _ _⟩
  have b1 : (t == t') = true := by simpa using c1
  by_cases c2 : i = i'
  case neg =>
    have b2 : (i == i') = false := by simpa using c2
    obtain rfl : rv = false := by rw [HV.out, b0, b1, b2]; rfl
    clear HV c0 c1 c2 HSM
    go_enter Try.func21, Try.ntmps21
    go_wp2
    go_ret
    exact ⟨rfl, below2 _ _ _⟩
  have b2 : (i == i') = true := by simpa using c2
  cases so with
  | false =>
    obtain rfl : rv = false := by rw [HV.out, b0, b1, b2]; rfl
    clear HV c0 c1 c2
    go_enter Try.func21, Try.ntmps21
    go_wp2_with fail
    refine (HSM.out _ (below2 _ _ _)).mono ?_
    rintro e w2 ⟨rfl, hb2⟩
    have HX := hid (first_tr hb2)
    have HY := hid (second_tr hb2)
    have HB := hid (below_tr hb2)
    obtain ⟨⟨x0, x1, x2, x3, x4, x5, x6, x7, x8, x9, x10⟩, _⟩ := eleven_cells HX.out
    obtain ⟨⟨y0, y1, y2, y3, y4, y5, y6, y7, y8, y9, y10⟩, _⟩ := eleven_cells HY.out
    clear HSM hb2 HX HY
    go_wp2
    go_ret
    exact ⟨rfl, HB.out⟩
  | true =>
  by_cases c3 : m = m'
  case neg =>
    have b3 : (m == m') = false := by simpa using c3
    obtain rfl : rv = false := by rw [HV.out, b0, b1, b2, b3]; rfl
    clear HV c0 c1 c2 c3
    go_enter Try.func21, Try.ntmps21
    go_wp2_with fail
    refine (HSM.out _ (below2 _ _ _)).mono ?_
    rintro e w2 ⟨rfl, hb2⟩
    have HX := hid (first_tr hb2)
    have HY := hid (second_tr hb2)
    have HB := hid (below_tr hb2)
    obtain ⟨⟨x0, x1, x2, x3, x4, x5, x6, x7, x8, x9, x10⟩, _⟩ := eleven_cells HX.out
    obtain ⟨⟨y0, y1, y2, y3, y4, y5, y6, y7, y8, y9, y10⟩, _⟩ := eleven_cells HY.out
    clear HSM hb2 HX HY
    go_wp2
    go_ret
    exact ⟨rfl, HB.out⟩
  have b3 : (m == m') = true := by simpa using c3
  by_cases c4 : gp = gp'
  case neg =>
    have b4 : (gp == gp') = false := by simpa using c4
    obtain rfl : rv = false := by rw [HV.out, b0, b1, b2, b3, b4]; rfl
    clear HV c0 c1 c2 c3 c4
    go_enter Try.func21, Try.ntmps21
    go_wp2_with fail
    refine (HSM.out _ (below2 _ _ _)).mono ?_
    rintro e w2 ⟨rfl, hb2⟩
    have HX := hid (first_tr hb2)
    have HY := hid (second_tr hb2)
    have HB := hid (below_tr hb2)
    obtain ⟨⟨x0, x1, x2, x3, x4, x5, x6, x7, x8, x9, x10⟩, _⟩ := eleven_cells HX.out
    obtain ⟨⟨y0, y1, y2, y3, y4, y5, y6, y7, y8, y9, y10⟩, _⟩ := eleven_cells HY.out
    clear HSM hb2 HX HY
    go_wp2
    go_ret
    exact ⟨rfl, HB.out⟩
  have b4 : (gp == gp') = true := by simpa using c4
  by_cases c5 : gl = gl'
  case neg =>
    have b5 : (gl == gl') = false := by simpa using c5
    obtain rfl : rv = false := by rw [HV.out, b0, b1, b2, b3, b4, b5]; rfl
    clear HV c0 c1 c2 c3 c4 c5
    go_enter Try.func21, Try.ntmps21
    go_wp2_with fail
    refine (HSM.out _ (below2 _ _ _)).mono ?_
    rintro e w2 ⟨rfl, hb2⟩
    have HX := hid (first_tr hb2)
    have HY := hid (second_tr hb2)
    have HB := hid (below_tr hb2)
    obtain ⟨⟨x0, x1, x2, x3, x4, x5, x6, x7, x8, x9, x10⟩, _⟩ := eleven_cells HX.out
    obtain ⟨⟨y0, y1, y2, y3, y4, y5, y6, y7, y8, y9, y10⟩, _⟩ := eleven_cells HY.out
    clear HSM hb2 HX HY
    go_wp2
    go_ret
    exact ⟨rfl, HB.out⟩
  have b5 : (gl == gl') = true := by simpa using c5
  obtain rfl : rv = true := by rw [HV.out, b0, b1, b2, b3, b4, b5]; rfl
  clear HV c0 c1 c2 c3 c4 c5
  go_enter Try.func21, Try.ntmps21
  go_wp2_with fail
  refine (HSM.out _ (below2 _ _ _)).mono ?_
  rintro e w2 ⟨rfl, hb2⟩
  have HX := hid (first_tr hb2)
  have HY := hid (second_tr hb2)
  have HB := hid (below_tr hb2)
  obtain ⟨⟨x0, x1, x2, x3, x4, x5, x6, x7, x8, x9, x10⟩, _⟩ := eleven_cells HX.out
  obtain ⟨⟨y0, y1, y2, y3, y4, y5, y6, y7, y8, y9, y10⟩, _⟩ := eleven_cells HY.out
  clear HSM hb2 HX HY
  go_wp2
  go_ret
  exact ⟨rfl, HB.out⟩
end Go.Proofs.Ytdekemlckpbbcaa
