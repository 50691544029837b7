/- SentKeeps: the law. -/
import Derived.Test.YtdekemlckpbbcaaSenE
import Derived.Test.YtdekemlckpbbcaaStrC
import Derived.Lib.QuietBelow
import Derived.BigQuiet
import Derived.Deep.CutRange
namespace Go.Proofs.Ytdekemlckpbbcaa
open Go.RowKit Go.Lib Go.Sort
set_option linter.unusedVariables false
set_option linter.unusedSimpArgs false

def sb (x : Stp) : Array Value := #[.int .i64 x.d, .int .i64 x.p, .int .i64 x.s, .string (str x.t)]
/-- What the loop holds. -/
def KS (W u : World) (B T k : Nat) (n : Int) : Prop := ∃ (o : Ov) (A : Option Addr) (c : Nat), u.heap[T]? = some (.cells (oc o A c) 28 (0, 0)) ∧ u.ownsRow W.heap.size 9 1 (.slice A o.l.length c) o.l.length (scells o.l) ∧ KI B o n k ∧ Below W.heap.size W u
/-- What stands behind a step. -/
def MS (W u : World) (B T S k : Nat) (o : Ov) (A1 : Option Addr) (c1 : Nat) (x : Stp) (v6 v10 : Value) : Prop :=
  ∃ (o2 : Ov) (told : Bool) (n1 : Int) (A2 : Option Addr) (c2 : Nat), v6 = .int .i64 n1 ∧ v10 = .bool told ∧ u.heap[T]? = some (.cells (oc o2 A2 c2) 28 (0, 0)) ∧ u.ownsRow W.heap.size 9 1 (.slice A2 o2.l.length c2) o2.l.length (scells o2.l) ∧ Sl u 1 A1 o.l.length c1 (scells o.l) ∧ u.heap[S]? = some (.cells (sb x) 31 (0, 0)) ∧
    KI B o2 (qtF (o2, told) n1) (k + 1) ∧ (o.l.length ≤ o2.l.length ∨ (1 ≤ x.d ∧ x.d ≤ 2 ∧ o2.l = o.l.tail)) ∧ Below W.heap.size W u
theorem MS.of {W w1 w2 u : World} {B T S k : Nat} {o : Ov} {A1 A2 : Option Addr} {c1 c2 : Nat} {x : Stp} {r : Ov × Bool} {n1 : Int} (hx : w1.heap[T]? = some (.cells (oc o A1 c1) 28 (0, 0))) (hs : w1.heap[S]? = some (.cells (sb x) 31 (0, 0))) (hne : S ≠ T) (ho1 : w1.ownsRow W.heap.size 9 1 (.slice A1 o.l.length c1) o.l.length (scells o.l)) (hb1 : Below W.heap.size W w1) (hT : W.heap.size ≤ T)
    (hb : Below w1.heap.size w1 w2) (ho : w2.ownsRow w1.heap.size 9 1 (.slice A2 r.1.l.length c2) r.1.l.length (scells r.1.l)) (he : u = put5 w2 T (.int .i64 r.1.p) (.int .i64 r.1.q) (.slice A2 r.1.l.length c2) (.int .i64 r.1.w) (.int .i64 r.1.f)) (hk : KI B r.1 (qtF r n1) (k + 1)) (hm : o.l.length ≤ r.1.l.length ∨ (1 ≤ x.d ∧ x.d ≤ 2 ∧ r.1.l = o.l.tail)) :
    MS W u B T S k o A1 c1 x (.int .i64 n1) (.bool r.2) := by
  subst he
  have hx2 := keep0 hx hb
  have ho2 := own_mono ho hb1.size
  refine ⟨r.1, r.2, n1, A2, c2, rfl, rfl, put5_heap hx2 _ _ _ _ _, own_at ho2 hx2 (by decide) fun g hg => put5_other hg _ _ _ _ _, sl_own (own_at (own_keep ho1 hb) hx2 (by decide) fun g hg => put5_other hg _ _ _ _ _), (put5_other hne _ _ _ _ _).trans (keep0 hs hb), hk, hm, put5_below (hb1.trans (hb.mono hb1.size)) hT _ _ _ _ _⟩

theorem KS.keep {W u u' : World} {B T k : Nat} {n : Int} (h : KS W u B T k n) (hb : Below u.heap.size u u') : KS W u' B T k n := by
  obtain ⟨o, A, c, h1, h2, h3, h4⟩ := h
  exact ⟨o, A, c, keep0 h1 hb, own_keep h2 hb, h3, h4.trans (hb.mono h4.size)⟩
theorem four_cells5 {w : World} {b t : Nat} {x y z u : Value} (h : w.heap[b]? = some (.cells #[x, y, z, u] t (0, 0))) :
    (w.cell? ⟨b, 0, none⟩ = some x ∧ w.cell? ⟨b, 1, none⟩ = some y ∧ w.cell? ⟨b, 2, none⟩ = some z ∧ w.cell? ⟨b, 3, none⟩ = some u) ∧ w.frozen? ⟨b, 0, none⟩ = false := by
  refine ⟨⟨?_, ?_, ?_, ?_⟩, frozen_of_row w b 0 _ t h⟩
  · rw [cell_of_row w b 0 _ _ _ h]; rfl
  · rw [cell_of_row w b 1 _ _ _ h]; rfl
  · rw [cell_of_row w b 2 _ _ _ h]; rfl
  · rw [cell_of_row w b 3 _ _ _ h]; rfl
theorem qbel24 {P : Program} {f : FuncId} {args : Array Value} {W : World} {v : Value} (h : Calls P f args W fun e w' => e = .returned v ∧ ∃ q, w' = W.drewN q) : Calls P f args W fun e w' => e = .returned v ∧ Below W.heap.size W w' :=
  h.mono fun _ _ ⟨h1, q, h2⟩ => ⟨h1, by rw [h2]; exact ⟨rfl, rfl, rfl, Nat.le_refl _, fun _ _ => rfl⟩⟩

set_option maxRecDepth 20000 in
set_option maxHeartbeats 16000000 in
theorem sentKeeps_small (B : Nat) (hB : B < 256) (A : Option Addr) (cap : Nat) (l : List Stp) (W : World) (hA : Sl W 4 A l.length cap (gcells stc l)) (hl : l.length ≤ 60) :
    Calls Try.prog 3 #[.int .u8 (B : Int), .slice A l.length cap] W fun e w' => e = .returned (.bool true) ∧ Below W.heap.size W w' := by
  have HA := hid hA
  have i1 : (l.length : Int) ≤ 60 := by omega
  have d1 : decide ((60 : Int) < (l.length : Int)) = false := decide_eq_false (by omega)
  have hcv : ∀ w : World, (convert 5 3 (.int .u8 (B : Int))).run Try.prog w = .ok (.int .i64 (B : Int)) w := fun w => by
    rw [run_convert_int (P := Try.prog) w 5 3 .u8 (B : Int) (by rw [Try.underlying5]; rfl) Try.underlying3]
    have : IntKind.i64.wrap (B : Int) = (B : Int) := by simp [IntKind.wrap, IntKind.bits, IntKind.signed]; omega
    rw [show Try.prog.intKind 3 = .i64 by unfold Program.intKind; rw [Try.underlying3], this]
  clear hA
  go_enter Try.func3, Try.ntmps3
  have HNW := hid (fun w => onew_any w)
  simp only [oc, List.length_nil] at HNW
  go_wp2_with fail
  refine (HNW.out _).mono ?_
  rintro e w1 ⟨rfl, hb1⟩
  have HB1 := hid hb1
  clear hb1
  go_upto_region 4 with (fail)
  refine at_world (fun u => KS W u B w1.heap.size 0 0) ⟨⟨1, 1, [], 1, 0⟩, none, 0, heap_alloc_new _ _, World.ownsRow_nil _ _ _ _, KI.new B, HB1.out.alloc HB1.out.size _⟩ ?_
  rintro w2 hk2
  have HK2 := hid hk2
  have hT : W.heap.size ≤ w1.heap.size := HB1.out.size
  clear hk2 HB1
  generalize w1.heap.size = T at *
  have HT := hid hT
  clear hT
  go_wp2
  go_loopw [6, 7] (fun v6 i wr => ∃ (k : Nat) (n : Int), k ≤ l.length ∧ i = .int .i64 (k : Int) ∧ v6 = .int .i64 n ∧ Hid (KS W wr B T k n)) (fun _ i _ => l.length - (intOf i).toNat)
  case atStart => exact ⟨0, 0, by omega, rfl, rfl, HK2.out⟩
  case round =>
    obtain ⟨k, n, hk, rfl, rfl, HK⟩ := hrel
    by_cases hlt : k < l.length
    · have hlt2 : (k : Int) < (l.length : Int) := by omega
      obtain ⟨o, A1, c1, hx, ho, hki, hb⟩ := HK.out
      have HX := hid hx
      have HO := hid ho
      have HKI := hid hki
      have HB := hid hb
      obtain ⟨b, off, rfl, hcl⟩ := Sl.gat (f := stc) (n := 4) (fun _ => rfl) (HA.out.below hb) k hlt (by omega)
      have c0 := hcl 0 _ rfl
      have c1' := hcl 1 _ rfl
      have c2' := hcl 2 _ rfl
      have c3' := hcl 3 _ rfl
      simp only [Nat.add_zero] at c0
      clear hcl hx ho hki hb HK
      generalize l[k] = x at *
      obtain ⟨xd, xp, xs, xt⟩ := x
      simp only at c0 c1' c2' c3'
      go_upto_region 9 with (fail)
      refine at_world (fun u => u.heap[wr.heap.size]? = some (.cells (sb ⟨xd, xp, xs, xt⟩) 31 (0, 0)) ∧ Below wr.heap.size wr u) ⟨heap_alloc_new _ _, (Below.refl _ _).alloc (Nat.le_refl _) _⟩ ?_
      rintro w3 ⟨hs3, hb3⟩
      have HS3 := hid hs3
      have HX3 := hid (keep0 HX.out hb3)
      have HO3 := hid (own_keep HO.out hb3)
      have HB3 := hid (HB.out.trans (hb3.mono HB.out.size))
      have HNE : Hid (wr.heap.size ≠ T) := hid (by have := lt_of_block HX.out; omega)
      clear hs3 hb3 c0 c1' c2' c3' HX HO HB
      generalize wr.heap.size = S at *
      obtain ⟨⟨s0, s1, s2, s3⟩, _⟩ := four_cells5 HS3.out
      obtain ⟨⟨p0, p1, p2, p3, p4⟩, f0, f1, f2, f3, f4⟩ := five_cells HX3.out
      have hsz : (str xt).size = xt.length := str_size _
      by_cases ht : 20 < xt.length
      · have it : (20 : Int) < (xt.length : Int) := by omega
        have dt : decide ((20 : Int) < (xt.length : Int)) = true := decide_eq_true it
        have HKN : Hid (KS W w3 B T (k + 1) n) := hid ⟨o, A1, c1, HX3.out, HO3.out, HKI.out.up, HB3.out⟩
        clear HX3 HO3 HKI HB3
        go_wp2
        go_roundw
        case rel => exact ⟨k + 1, n, by omega, by go_num, rfl, HKN.out⟩
        case measure => simp [intOf]; omega
      · have it : ¬ (20 : Int) < (xt.length : Int) := by omega
        have dt : decide ((20 : Int) < (xt.length : Int)) = false := decide_eq_false it
        have HLB : Hid (o.l.length ≤ 60) := hid (by have := HKI.out.2.1; omega)
        have HSP := hid (sl_own HO3.out)
        have HPU := hid (put_any o B xt A1 c1 w3 HSP.out (by have := HLB.out; omega))
        have HAC := hid (fun p s => acked_any o p s A1 c1 w3 HSP.out (by have := HLB.out; omega) (by have := HKI.out.2.2.2.2.1; omega) (by have := HKI.out.2.2.2.1; omega))
        have HLE := hid (fun p => learn_any o p A1 c1 w3 HSP.out (by have := HLB.out; omega))
        have HTI := hid (otick_any o A1 c1 w3 HSP.out (by have := HLB.out; omega))
        have hn8 := HKI.out.lt
        have hn0 := HKI.out.2.2.2.2.2.1
        unfold PutR at HPU
        unfold OutR at HAC HLE HTI
        clear ht
        go_upto_if 36 with (fail)
        go_cut [6, 10] from 36 to 87 (fun v6 v10 wx => Hid (MS W wx B T S k o A1 c1 ⟨xd, xp, xs, xt⟩ v6 v10))
        case first =>
          by_cases h0 : xd = 0
          · subst h0
            have HKP := hid (HKI.out.put xt)
            generalize putV o (B : Int) xt = rv at *
            obtain ⟨⟨ro, rb⟩, re⟩ := rv
            go_wp2_with fail
            refine HPU.out.mono ?_
            rintro e w5 ⟨A5, c5, rfl, ho5, hb5⟩
            have hx5 := keep0 HX3.out hb5
            have HMS := hid (fun u he => MS.of (u := u) (k := k) (r := (ro, rb)) (n1 := n) HX3.out HS3.out HNE.out HO3.out HB3.out HT.out hb5 ho5 he HKP.out.1 (.inl HKP.out.2))
            clear p0 p1 p2 p3 p4 f0 f1 f2 f3 f4 s0 s1 s2 s3 ho5 hb5 HX3 HO3 HB3 HS3 HSP HKI HPU HAC HLE HTI
            obtain ⟨⟨p0, p1, p2, p3, p4⟩, f0, f1, f2, f3, f4⟩ := five_cells hx5
            clear hx5
            obtain ⟨rp, rq, rl, rw9, rf⟩ := ro
            simp only [oc] at *
            go_wp2
            go_meet
            case rel => exact HMS.out _ rfl
          have e0 : (xd == 0) = false := by rw [beq_eq_false_iff_ne]; exact h0
          by_cases h1 : xd = 1
          · have hd1 : 1 ≤ xd ∧ xd ≤ 2 := by omega
            have HD := hid hd1
            have HKP := hid (HKI.out.ack o.p o.q)
            subst h1
            clear hd1
            have HAC2 := hid (HAC.out o.p o.q)
            have HMM : Hid (o.l.length ≤ (ackV o o.p o.q).1.l.length ∨ (1 ≤ (1 : Int) ∧ (1 : Int) ≤ 2 ∧ (ackV o o.p o.q).1.l = o.l.tail)) := hid (by
              rcases HKP.out.2 with h | h
              · exact .inl (by rw [h]; exact Nat.le_refl _)
              · exact .inr ⟨HD.out.1, HD.out.2, h⟩)
            generalize ackV o o.p o.q = rv at *
            obtain ⟨ro, rb⟩ := rv
            go_wp2_with fail
            refine HAC2.out.mono ?_
            rintro e w5 ⟨A5, c5, rfl, ho5, hb5⟩
            have hx5 := keep0 HX3.out hb5
            have HMS := hid (fun u he => MS.of (u := u) (k := k) (r := (ro, rb)) (n1 := n) HX3.out HS3.out HNE.out HO3.out HB3.out HT.out hb5 ho5 he HKP.out.1 HMM.out)
            clear p0 p1 p2 p3 p4 f0 f1 f2 f3 f4 s0 s1 s2 s3 ho5 hb5 HX3 HO3 HB3 HS3 HSP HKI HPU HAC HLE HTI
            obtain ⟨⟨p0, p1, p2, p3, p4⟩, f0, f1, f2, f3, f4⟩ := five_cells hx5
            clear hx5
            obtain ⟨rp, rq, rl, rw9, rf⟩ := ro
            simp only [oc] at *
            go_wp2
            go_meet
            case rel => exact HMS.out _ rfl
          have e1 : (xd == 1) = false := by rw [beq_eq_false_iff_ne]; exact h1
          by_cases h2 : xd = 2
          · have hd1 : 1 ≤ xd ∧ xd ≤ 2 := by omega
            have HD := hid hd1
            have HKP := hid (HKI.out.ack xp xs)
            subst h2
            clear hd1
            have HAC2 := hid (HAC.out xp xs)
            have HMM : Hid (o.l.length ≤ (ackV o xp xs).1.l.length ∨ (1 ≤ (2 : Int) ∧ (2 : Int) ≤ 2 ∧ (ackV o xp xs).1.l = o.l.tail)) := hid (by
              rcases HKP.out.2 with h | h
              · exact .inl (by rw [h]; exact Nat.le_refl _)
              · exact .inr ⟨HD.out.1, HD.out.2, h⟩)
            generalize ackV o xp xs = rv at *
            obtain ⟨ro, rb⟩ := rv
            go_wp2_with fail
            refine HAC2.out.mono ?_
            rintro e w5 ⟨A5, c5, rfl, ho5, hb5⟩
            have hx5 := keep0 HX3.out hb5
            have HMS := hid (fun u he => MS.of (u := u) (k := k) (r := (ro, rb)) (n1 := n) HX3.out HS3.out HNE.out HO3.out HB3.out HT.out hb5 ho5 he HKP.out.1 HMM.out)
            clear p0 p1 p2 p3 p4 f0 f1 f2 f3 f4 s0 s1 s2 s3 ho5 hb5 HX3 HO3 HB3 HS3 HSP HKI HPU HAC HLE HTI
            obtain ⟨⟨p0, p1, p2, p3, p4⟩, f0, f1, f2, f3, f4⟩ := five_cells hx5
            clear hx5
            obtain ⟨rp, rq, rl, rw9, rf⟩ := ro
            simp only [oc] at *
            go_wp2
            go_meet
            case rel => exact HMS.out _ rfl
          have e2 : (xd == 2) = false := by rw [beq_eq_false_iff_ne]; exact h2
          by_cases h3 : xd = 3
          · have HKP := hid (HKI.out.lrn xp)
            subst h3
            have HLE2 := hid (HLE.out xp)
            have HMM : Hid (o.l.length ≤ (lrnV o xp).1.l.length) := hid (by rw [HKP.out.2]; exact Nat.le_refl _)
            generalize lrnV o xp = rv at *
            obtain ⟨ro, rb⟩ := rv
            go_wp2_with fail
            refine HLE2.out.mono ?_
            rintro e w5 ⟨A5, c5, rfl, ho5, hb5⟩
            have hx5 := keep0 HX3.out hb5
            have HMS := hid (fun u he => MS.of (u := u) (k := k) (r := (ro, rb)) (n1 := n) HX3.out HS3.out HNE.out HO3.out HB3.out HT.out hb5 ho5 he HKP.out.1 (.inl HMM.out))
            clear p0 p1 p2 p3 p4 f0 f1 f2 f3 f4 s0 s1 s2 s3 ho5 hb5 HX3 HO3 HB3 HS3 HSP HKI HPU HAC HLE HTI
            obtain ⟨⟨p0, p1, p2, p3, p4⟩, f0, f1, f2, f3, f4⟩ := five_cells hx5
            clear hx5
            obtain ⟨rp, rq, rl, rw9, rf⟩ := ro
            simp only [oc] at *
            go_wp2
            go_meet
            case rel => exact HMS.out _ rfl
          have e3 : (xd == 3) = false := by rw [beq_eq_false_iff_ne]; exact h3
          have HKP := hid HKI.out.tik
          clear h0 h1 h2 h3
          have HMM : Hid (o.l.length ≤ (tikV o).1.l.length) := hid (by rw [HKP.out.2]; exact Nat.le_refl _)
          generalize tikV o = rv at *
          obtain ⟨ro, rb⟩ := rv
          go_wp2_with fail
          refine HTI.out.mono ?_
          rintro e w5 ⟨A5, c5, rfl, ho5, hb5⟩
          have hx5 := keep0 HX3.out hb5
          have HMS := hid (fun u he => MS.of (u := u) (k := k) (r := (ro, rb)) (n1 := (n + 1)) HX3.out HS3.out HNE.out HO3.out HB3.out HT.out hb5 ho5 he HKP.out.1 (.inl HMM.out))
          clear p0 p1 p2 p3 p4 f0 f1 f2 f3 f4 s0 s1 s2 s3 ho5 hb5 HX3 HO3 HB3 HS3 HSP HKI HPU HAC HLE HTI
          obtain ⟨⟨p0, p1, p2, p3, p4⟩, f0, f1, f2, f3, f4⟩ := five_cells hx5
          clear hx5
          obtain ⟨rp, rq, rl, rw9, rf⟩ := ro
          simp only [oc] at *
          go_wp2
          go_meet
          case rel => exact HMS.out _ rfl
        case rest =>
          obtain ⟨o2, told, n1, A2, c2, rfl, rfl, hx4, ho4, hsl4, hs4, hki4, hm4, hb4⟩ := hcut.out
          have HX4 := hid hx4
          have HO4 := hid ho4
          have HSL := hid hsl4
          have HS4 := hid hs4
          have HKI4 := hid hki4
          have HM4 := hid hm4
          have HB4 := hid hb4
          have HQT : Hid (qtF (o2, told) n1 = if told = true ∨ o2.l = [] then 0 else n1) := hid rfl
          have hq8 := hki4.lt
          have hq0 := hki4.2.2.2.2.2.1
          have hlB := hki4.1
          have HL2 : Hid (o2.l.length ≤ 61) := hid (by have := hki4.2.1; omega)
          have HND := hid hki4.2.2.1
          have HDB : Hid (KS W wc B T (k + 1) (qtF (o2, told) n1)) := hid ⟨o2, A2, c2, hx4, ho4, hki4, hb4⟩
          clear hx4 ho4 hsl4 hs4 hki4 hm4 hb4 hcut HX3 HO3 HB3 HS3 HSP HPU HAC HLE HTI HKI hn8 hn0
          clear p0 p1 p2 p3 p4 f0 f1 f2 f3 f4 s0 s1 s2 s3 HKI4
          obtain ⟨w4, hw4⟩ : ∃ w4 : World, w4 = wc := ⟨_, rfl⟩
          subst hw4
          obtain ⟨⟨p0, p1, p2, p3, p4⟩, _⟩ := five_cells HX4.out
          obtain ⟨p5, q5, l2, wt5, f5⟩ := o2
          simp only at HL2 HND hlB HM4 HO4
          go_upto_region 21 with (fail)
          go_cut [94] from 88 to 94 (fun v6 wx => v6 = .bool (told || decide (l2 = [])) ∧ wx = w4)
          case first =>
            cases told with
            | true =>
              have HE : Hid ((true || decide (l2 = [])) = true) := hid rfl
              clear HQT HM4 HO4 HSL HDB HX4 HS4
              go_wp2
              go_meet
              case rel => exact ⟨by rw [HE.out], rfl⟩
            | false =>
              by_cases h0 : l2 = []
              · have HE : Hid ((false || decide (l2 = [])) = true) := hid (by simp [h0])
                have e0 : ((l2.length : Int) == 0) = true := by rw [h0]; rfl
                clear HQT HM4 HO4 HSL HDB HX4 HS4 h0
                go_wp2
                go_meet
                case rel => exact ⟨by rw [HE.out], rfl⟩
              · have HE : Hid ((false || decide (l2 = [])) = false) := hid (by simp [h0])
                have e0 : ((l2.length : Int) == 0) = false := by rw [beq_eq_false_iff_ne]; intro h; exact h0 (List.eq_nil_of_length_eq_zero (by omega))
                clear HQT HM4 HO4 HSL HDB HX4 HS4 h0
                go_wp2
                go_meet
                case rel => exact ⟨by rw [HE.out], rfl⟩
          case rest =>
          obtain ⟨rfl, rfl⟩ := hcut
          have HTB : Hid ((told || decide (l2 = [])) = true ↔ (told = true ∨ l2 = [])) := hid (by simp)
          generalize (told || decide (l2 = [])) = tb at *
          obtain ⟨w8, hw8⟩ : ∃ w8 : World, w8 = wc := ⟨_, rfl⟩
          subst hw8
          go_upto_if 94 with (fail)
          go_cut [6] from 94 to 94 (fun v6 wx => v6 = .int .i64 (qtF (⟨p5, q5, l2, wt5, f5⟩, told) n1) ∧ wx = w8)
          case first =>
            cases tb with
            | true =>
              have HE : Hid (qtF (⟨p5, q5, l2, wt5, f5⟩, told) n1 = 0) := hid (by rw [HQT.out, if_pos (HTB.out.1 rfl)])
              generalize qtF (⟨p5, q5, l2, wt5, f5⟩, told) n1 = qn at *
              clear HQT HM4 HO4 HSL HDB HX4 HS4
              go_wp2
              go_meet
              case rel => exact ⟨by rw [HE.out], rfl⟩
            | false =>
              have HE : Hid (qtF (⟨p5, q5, l2, wt5, f5⟩, told) n1 = n1) := hid (by rw [HQT.out, if_neg (fun h => by have := HTB.out.2 h; cases this)])
              generalize qtF (⟨p5, q5, l2, wt5, f5⟩, told) n1 = qn at *
              clear HQT HM4 HO4 HSL HDB HX4 HS4
              go_wp2
              go_meet
              case rel => exact ⟨by rw [HE.out], rfl⟩
          case rest =>
            obtain ⟨rfl, rfl⟩ := hcut
            clear HQT
            generalize qtF (⟨p5, q5, l2, wt5, f5⟩, told) n1 = qn at *
            obtain ⟨⟨s0, s1, s2, s3⟩, _⟩ := four_cells5 HS4.out
            have dq : decide ((8 : Int) ≤ qn) = false := decide_eq_false (by omega)
            have iB : ¬ ((B : Int) < (l2.length : Int)) := by omega
            have dB : decide ((B : Int) < (l2.length : Int)) = false := decide_eq_false iB
            have HSA := hid (fun (h : l2 = o.l.tail) (h0 : 0 < o.l.length) U (hU : Below wc.heap.size wc U) => qbel24 (same03 A2 (dropA A1 c1 1 1) l2.length c2 (o.l.length - 1) (c1 - 1) l2 l2 U ((sl_own HO4.out).below hU) (by
              have h9 := (HSL.out.below hU).drop 1 (by omega)
              have hsc : (scells o.l).drop (1 * 1) = scells o.l.tail := by cases o.l <;> simp [scells]
              rw [hsc, ← h] at h9
              exact h9) (by have := HL2.out; omega) (by have := HLB.out; omega)))
            have HPC := hid (fun j (hj : j < l2.length) U (hU : Below wc.heap.size wc U) => same_below (rplace_any A2 l2.length c2 l2 l2[j] U ((sl_own HO4.out).below hU)))
            have HPJ := hid (fun j (hj : j < l2.length) => nodup_place HND.out j hj)
            have HTX := hid (fun U (hU : Below wc.heap.size wc U) j (hj : j < l2.length) => scells_at ((sl_own HO4.out).below hU) j hj)
            have HT2 := hid (fun U (hU : Below wc.heap.size wc U) => (five_cells (keep0 HX4.out hU)).1.2.2.1)
            simp only at HT2
            have e99 : ((l2 == l2) : Bool) = true := by simp
            rw [e99] at HSA
            clear e99 HO4 HSL HND HX4 HS4
            have hll2 : (l2.length : Int) ≤ 61 := by have := HL2.out; omega
            have hll1 : (o.l.length : Int) ≤ 60 := by have := HLB.out; omega
            have hrun : 0 < o.l.length → ∀ w : World, (Instr.slice 24 (.slice A1 o.l.length c1) (some (.int .i64 1)) none none).run Try.prog w = .ok (.slice (dropA A1 c1 1 1) (o.l.length - 1) (c1 - 1)) w := fun h0 w => by
              have := run_from Try.underlying24 info_str A1 o.l.length c1 1 (by omega) w
              simpa only [Int.natCast_one] using this
            have HRN := hid hrun
            clear hrun
            generalize dropA A1 c1 1 1 = A9 at *
            rcases Nat.lt_or_ge l2.length o.l.length with hls | hls
            case' inl =>
              have il : (l2.length : Int) < (o.l.length : Int) := by omega
              have dl : decide ((l2.length : Int) < (o.l.length : Int)) = true := decide_eq_true il
              have hm : 1 ≤ xd ∧ xd ≤ 2 ∧ l2 = o.l.tail := by
                rcases HM4.out with h | h
                · omega
                · exact h
              have dx1 : decide (xd < 1) = false := decide_eq_false (by omega)
              have dx2 : decide (2 < xd) = false := decide_eq_false (by omega)
              have c9 := reg (w := wc) (fun W' hW' => HSA.out hm.2.2 (by omega) W' hW')
              have hrun2 := HRN.out (by omega)
              have il1 : (1 : Int) ≤ (o.l.length : Int) := by omega
              clear hm HM4 HSA HRN
              generalize o.l.length = ol at *
              go_upto_region 24 with (fail)
              replace p2 := cell_regrown p2
              replace s0 := cell_regrown s0
              refine wp_region_quiet_below (by kernel_rfl) (by kernel_rfl) ?_
              repeat (go_big_quiet_step (first | (go_at_call 14; with_reducible exact c9 _ _) | fail))
              refine wpQuiet_nil ?_
              intro _ hw'
              obtain ⟨⟨dq9, osq⟩, hw''⟩ := hw'
              subst hw''
            case' inr =>
              have il : ¬ (l2.length : Int) < (o.l.length : Int) := by omega
              have dl : decide ((l2.length : Int) < (o.l.length : Int)) = false := decide_eq_false il
              clear HM4 HSA HRN
              generalize o.l.length = ol at *
              go_upto_region 24 with (fail)
              replace p2 := cell_regrown p2
              replace s0 := cell_regrown s0
              refine wp_region_quiet_below (by kernel_rfl) (by kernel_rfl) ?_
              repeat (go_big_quiet_step (fail))
              refine wpQuiet_nil ?_
              intro _ hw'
              obtain ⟨⟨dq9, osq⟩, hw''⟩ := hw'
              subst hw''
            all_goals
              clear p0 p1 p2 p3 p4 s0 s1 s2 s3
              refine at_world (fun u => Below wc.heap.size wc u) (below_regrown wc dq9 osq) ?_
              rintro w9 hb9
              have HB9 := hid hb9
              clear hb9
              go_wp2
              go_loopw [12] (fun i w5 => ∃ j : Nat, j ≤ l2.length ∧ i = .int .i64 (j : Int) ∧ Hid (Below wc.heap.size wc w5)) (fun i _ => l2.length - (intOf i).toNat)
              case atStart => exact ⟨0, by omega, rfl, HB9⟩
              case round =>
                obtain ⟨j, hj, rfl, HBJ⟩ := hrel
                have p2 := HT2.out wr HBJ.out
                by_cases hjl : j < l2.length
                · have hjl2 : (j : Int) < (l2.length : Int) := by omega
                  obtain ⟨b9, o9, rfl, ct⟩ := HTX.out wr HBJ.out j hjl
                  have hpj := HPJ.out j hjl
                  have c9 := reg (w := wr) (fun W' hW' => HPC.out j hjl W' (HBJ.out.trans (hW'.mono HBJ.out.size)))
                  rw [hpj] at c9
                  clear hpj
                  generalize str l2[j] = tx at *
                  obtain ⟨w6, hw6⟩ : ∃ w6 : World, w6 = wr := ⟨_, rfl⟩
                  subst hw6
                  go_upto_region 29 with (fail)
                  replace p2 := cell_regrown p2
                  replace ct := cell_regrown ct
                  refine wp_region_quiet_below (by kernel_rfl) (by kernel_rfl) ?_
                  repeat (go_big_quiet_step (first | (go_at_call 15; with_reducible exact c9 _ _) | fail))
                  refine wpQuiet_nil ?_
                  intro _ hw'
                  obtain ⟨⟨dq7, osq7⟩, hw''⟩ := hw'
                  subst hw''
                  clear p2 ct c9
                  have HBN := hid (HBJ.out.trans ((below_regrown w6 dq7 osq7).mono HBJ.out.size))
                  go_wp2
                  go_roundw
                  case rel => exact ⟨j + 1, by omega, by go_num, HBN⟩
                  case measure => simp [intOf]; omega
                · have hjg : ¬ (j : Int) < (l2.length : Int) := by omega
                  have HKN : Hid (KS W wr B T (k + 1) qn) := hid (HDB.out.keep HBJ.out)
                  clear HDB HBJ HB9 HB4 HTX HPC HPJ HT2
                  go_wp2
                  go_roundw
                  case rel => exact ⟨k + 1, qn, by omega, by go_num, rfl, HKN.out⟩
                  case measure => simp [intOf]; omega
    · have hge : ¬ (k : Int) < (l.length : Int) := by omega
      obtain ⟨_, _, _, _, _, _, hb⟩ := HK.out
      have HB := hid hb
      clear hb HK
      go_wp2_with (go_at_call 8; refine (works24_any _).mono ?_; rintro e w4 ⟨rfl, hb4⟩)
      go_ret
      exact ⟨rfl, HB.out.trans (hb4.mono HB.out.size)⟩

set_option maxRecDepth 20000 in
theorem sentKeeps_big (B : Int) (a : Option Addr) (len cap : Nat) (W : World) (h : 60 < len) (hm : len ≤ maxLen) :
    Calls Try.prog 3 #[.int .u8 B, .slice a len cap] W fun e w' => e = .returned (.bool true) ∧ Below W.heap.size W w' := by
  unfold maxLen at hm
  have h2 : (60 : Int) < len := by omega
  have hd : decide ((60 : Int) < len) = true := decide_eq_true h2
  go_enter Try.func3, Try.ntmps3
  go_wp2_with fail
  refine (works24_any _).mono ?_
  rintro e w1 ⟨rfl, hb⟩
  go_wp2
  go_ret
  exact ⟨rfl, hb⟩
theorem sentKeeps_law (B : Int) (A : Option Addr) (len cap : Nat) (W : World) (hB : (Lit.int .u8 B).wf = true) (h : Rd Try.prog W 22 [.slice A len cap]) :
    Calls Try.prog 3 #[.int .u8 B, .slice A len cap] W fun e w' => e = .returned (.bool true) ∧ Below W.heap.size W w' := by
  obtain ⟨l, hs, rfl, _⟩ := steps_in h
  have hwn := wf_u8 hB
  obtain ⟨n, rfl⟩ := Int.eq_ofNat_of_zero_le hwn.1
  by_cases h1 : l.length ≤ 60
  · exact sentKeeps_small n (by omega) A cap l W hs h1
  · exact sentKeeps_big _ A l.length cap W (by omega) (Nat.le_trans hs.2.1 hs.2.2.1)
end Go.Proofs.Ytdekemlckpbbcaa
