/- AnnalPlays: the acts that came in; small; what the two annals hold. -/
import Derived.Test.YtkepfkfoblocgaaQAnG
import Derived.Test.YtkepfkfoblocgaaAnP
import Derived.Test.YtkepfkfoblocgaaQRlong
import Derived.Test.YtkepfkfoblocgaaQRsame
import Derived.Test.YtkepfkfoblocgaaGaP
namespace Go.Proofs.Ytkepfkfoblocgaa
open Go.RowKit Go.Sort
set_option linter.unusedVariables false
set_option linter.unusedSimpArgs false

/-- An act: what, a number, a record, bytes. -/
structure Ac where
  d : Int
  n : Int
  x : Rc
  b : List UInt8
structure Pc where
  A : Option Addr
  c : Nat
  B : Option Addr
  cb : Nat
abbrev Aa := Ac × Pc
instance : Inhabited Aa := ⟨(⟨0, 0, ⟨0, 0, 0, 0, 0, 0, []⟩, []⟩, ⟨none, 0, none, 0⟩)⟩
def abl (a : Aa) : List Value := [.int .i64 a.1.d, .int .i64 a.1.n, .int .i64 a.1.x.k, .int .i64 a.1.x.j, .int .i64 a.1.x.t, .int .i64 a.1.x.w, .int .i64 a.1.x.s, .int .i64 a.1.x.e, .slice a.2.A a.1.x.ns.length a.2.c, .slice a.2.B a.1.b.length a.2.cb]
theorem abl_len (a : Aa) : (abl a).length = 10 := rfl
def InA (w : World) (a : Aa) : Prop := TxAt w a.2.A a.2.c a.1.x.ns ∧ IsBytes w a.2.B a.1.b.length a.2.cb a.1.b
theorem InA.below {w w' : World} {a : Aa} (h : InA w a) (hb : Below w.heap.size w w') : InA w' a := ⟨h.1.below hb, h.2.below hb⟩
def InAs (w : World) (A : Option Addr) (c : Nat) (al : List Aa) : Prop := Sl w 10 A al.length c (gcells abl al) ∧ ∀ a ∈ al, InA w a
theorem InAs.below {w w' : World} {A : Option Addr} {c : Nat} {al : List Aa} (h : InAs w A c al) (hb : Below w.heap.size w w') : InAs w' A c al := ⟨h.1.below hb, fun a ha => (h.2 a ha).below hb⟩
theorem InAs.el {w : World} {A : Option Addr} {c : Nat} {al : List Aa} (h : InAs w A c al) (k : Nat) (hk : k < al.length) : ∃ b off, A = some ⟨b, off, none⟩ ∧
    w.cell? ⟨b, off + k * 10, none⟩ = some (.int .i64 al[k].1.d) ∧ w.cell? ⟨b, off + k * 10 + 1, none⟩ = some (.int .i64 al[k].1.n) ∧ w.cell? ⟨b, off + k * 10 + 2, none⟩ = some (.int .i64 al[k].1.x.k) ∧ w.cell? ⟨b, off + k * 10 + 3, none⟩ = some (.int .i64 al[k].1.x.j) ∧ w.cell? ⟨b, off + k * 10 + 4, none⟩ = some (.int .i64 al[k].1.x.t) ∧ w.cell? ⟨b, off + k * 10 + 5, none⟩ = some (.int .i64 al[k].1.x.w) ∧ w.cell? ⟨b, off + k * 10 + 6, none⟩ = some (.int .i64 al[k].1.x.s) ∧ w.cell? ⟨b, off + k * 10 + 7, none⟩ = some (.int .i64 al[k].1.x.e) ∧ w.cell? ⟨b, off + k * 10 + 8, none⟩ = some (.slice al[k].2.A al[k].1.x.ns.length al[k].2.c) ∧ w.cell? ⟨b, off + k * 10 + 9, none⟩ = some (.slice al[k].2.B al[k].1.b.length al[k].2.cb) := by
  obtain ⟨b, off, rfl, hc⟩ := Sl.gat (f := abl) (n := 10) abl_len h.1 k hk (by omega)
  exact ⟨b, off, rfl, hc 0 _ rfl, hc 1 _ rfl, hc 2 _ rfl, hc 3 _ rfl, hc 4 _ rfl, hc 5 _ rfl, hc 6 _ rfl, hc 7 _ rfl, hc 8 _ rfl, hc 9 _ rfl⟩
theorem Rd.bytesN {w : World} {cs : List Value} (h : Rd Try.prog w 24 cs) : ∃ A cap l, cs = [.slice A l.length cap] ∧ IsBytes w A l.length cap l := by
  have hc : Try.prog.cellsOf 5 = 1 := by kernel_rfl
  obtain ⟨A, len, cap, rfl⟩ : ∃ A len cap, cs = [.slice A len cap] := by
    rcases Rd.slice Try.underlying24 h with h1 | ⟨a, l, c, z, h1, _⟩
    · exact ⟨_, _, _, h1⟩
    · exact ⟨_, _, _, h1⟩
  obtain ⟨h1, h2, hz⟩ := Rd.slice_plain Try.underlying24 hc (by omega) h
  rcases Nat.eq_zero_or_pos len with h0 | h0
  · subst h0
    exact ⟨A, cap, [], rfl, Sl.nil _ _ _ _ h2⟩
  · obtain ⟨b, off, rfl, zz, hzz⟩ := hz h0
    have key : ∀ i, i < len → ∃ x : UInt8, (zz i)[0]? = some (.int .u8 (x.toNat : Int)) := fun i hi => by
      obtain ⟨hl, hr, _⟩ := hzz i hi
      obtain ⟨n, e, hw⟩ := Rd.int Try.underlying5 hr
      have hn := wf_u8 hw
      refine ⟨UInt8.ofNat n.toNat, ?_⟩
      rw [e, UInt8.toNat_ofNat']
      have : ((n.toNat % 2 ^ 8 : Nat) : Int) = n := by omega
      rw [this]; rfl
    obtain ⟨g, hg⟩ := Go.Deep.choose_lt (α := UInt8) key
    have hll : ((List.range len).map g).length = len := by simp
    refine ⟨_, cap, (List.range len).map g, by rw [hll], ?_⟩
    rw [hll]
    refine ⟨by rw [bcells_length, hll, Nat.mul_one], h1, h2, fun _ => ⟨b, off, rfl, fun i hi => ?_⟩⟩
    rw [bcells_length, hll] at hi
    obtain ⟨_, _, hcell⟩ := hzz i hi
    have := hcell 0 (by omega)
    rw [Nat.add_zero, Nat.mul_one] at this
    rw [this, hg i hi]
    simp [bcells, hi]
theorem rd_act {w : World} {cs : List Value} (hn : cs.length = 10) (h : Rd Try.prog w 74 cs) : ∃ a : Aa, cs = abl a ∧ InA w a := by
  have hc : Try.prog.cellsOf 3 = 1 := by kernel_rfl
  have hc2 : Try.prog.cellsOf 45 = 7 := by kernel_rfl
  have hc3 : Try.prog.cellsOf 24 = 1 := by kernel_rfl
  obtain ⟨_, hf⟩ := Rd.struct Try.underlying74 h
  have f0 : Rd Try.prog w 3 ((cs.drop 0).take (Try.prog.cellsOf 3)) := hf 0 _ rfl
  have f1 : Rd Try.prog w 3 ((cs.drop 1).take (Try.prog.cellsOf 3)) := hf 1 _ rfl
  have f2 : Rd Try.prog w 45 ((cs.drop 2).take (Try.prog.cellsOf 45)) := hf 2 _ rfl
  have f3 : Rd Try.prog w 24 ((cs.drop 9).take (Try.prog.cellsOf 24)) := hf 3 _ rfl
  rw [hc] at f0 f1
  rw [hc2] at f2
  rw [hc3] at f3
  obtain ⟨d, e0, _⟩ := Rd.int Try.underlying3 f0
  obtain ⟨n, e1, _⟩ := Rd.int Try.underlying3 f1
  obtain ⟨x, Ax, cx, e2, hx⟩ := rd_rec (a := ((cs.drop 2).take 7).toArray) (by simp [hn]) (by simpa using f2)
  obtain ⟨B, cb, l, e3, hb⟩ := Rd.bytesN f3
  refine ⟨(⟨d, n, x, l⟩, ⟨Ax, cx, B, cb⟩), ?_, hx, hb⟩
  have e2' : (cs.drop 2).take 7 = (rcc x Ax cx).toList := by
    have := congrArg Array.toList e2
    simpa using this
  have h1 : cs = (cs.drop 0).take 1 ++ ((cs.drop 1).take 1 ++ ((cs.drop 2).take 7 ++ (cs.drop 9).take 1)) := by
    have k3 : (cs.drop 9).take 1 = cs.drop 9 := List.take_of_length_le (by rw [List.length_drop]; omega)
    have k2 : (cs.drop 2).take 7 ++ cs.drop 9 = cs.drop 2 := by
      have := List.take_append_drop 7 (cs.drop 2)
      rwa [List.drop_drop] at this
    have k1 : (cs.drop 1).take 1 ++ cs.drop 2 = cs.drop 1 := by
      have := List.take_append_drop 1 (cs.drop 1)
      rwa [List.drop_drop] at this
    rw [k3, k2, k1, List.drop_zero, List.take_append_drop]
  rw [h1, e0, e1, e2', e3]
  rfl
theorem acts_inA {w : World} {A : Option Addr} {len cap : Nat} (h : Rd Try.prog w 66 [.slice A len cap]) : ∃ al : List Aa, al.length = len ∧ InAs w A cap al := by
  obtain ⟨l, h1, h2, h3⟩ := rows_in (α := Aa) (f := abl) (fun x => InA w x) Try.underlying66 (n := 10) (by kernel_rfl) (by omega) abl_len (fun cs hl hr => rd_act hl hr) h
  subst h2
  exact ⟨l, rfl, h1, h3⟩

theorem sl_len64B {w : World} {z : Nat} {A : Option Addr} {n c : Nat} {l : List Value} (h : Sl w z A n c l) : n ≤ 9223372036854775807 := by
  have h1 := h.2.1
  have h2 := h.2.2.1
  unfold maxLen at h2
  omega
def okAct (a : Ac) : Bool := !longB a.x.ns 20 300 && decide (a.b.length ≤ 200)
def smallA (al : List Ac) (most : Int) : Bool := al.all okAct && decide ((al.length : Int) ≤ most)
theorem smallA_no {al : List Ac} {k : Nat} (most : Int) (hk : k < al.length) (h : okAct al[k] = false) : false = smallA al most := by
  unfold smallA
  have : al.all okAct = false := by
    rw [Bool.eq_false_iff]
    intro h9
    have h8 := List.all_eq_true.1 h9 _ (List.getElem_mem hk)
    rw [h] at h8
    cases h8
  rw [this]
  rfl
theorem smallA_end {al : List Ac} (most : Int) (h : ∀ k (hk : k < al.length), okAct al[k] = true) : decide ((al.length : Int) ≤ most) = smallA al most := by
  unfold smallA
  have : al.all okAct = true := List.all_eq_true.2 fun x hx => by
    obtain ⟨k, hk, rfl⟩ := List.getElem_of_mem hx
    exact h k hk
  rw [this, Bool.true_and]
theorem smallA_yes {al : List Aa} (h : smallA (al.map (·.1)) 40 = true) : al.length ≤ 40 ∧ ∀ a ∈ al, a.1.b.length ≤ 200 := by
  unfold smallA at h
  rw [Bool.and_eq_true] at h
  have h2 := of_decide_eq_true h.2
  refine ⟨by rw [List.length_map] at h2; omega, fun a ha => ?_⟩
  have h3 := List.all_eq_true.1 h.1 a.1 (List.mem_map_of_mem ha)
  unfold okAct at h3
  rw [Bool.and_eq_true] at h3
  exact of_decide_eq_true h3.2
set_option maxRecDepth 20000 in
set_option maxHeartbeats 4000000 in
theorem small19_any (A : Option Addr) (c : Nat) (al : List Aa) (most : Int) (W : World) (h : InAs W A c al) :
    Calls Try.prog 48 #[.slice A al.length c, .int .i64 most] W fun e w' => e = .returned (.bool (smallA (al.map (·.1)) most)) ∧ Below W.heap.size W w' := by
  have HX := hid h
  have hal : al.length ≤ 9223372036854775807 := by have h1 := h.1.2.1; have h2 := h.1.2.2.1; unfold maxLen at h2; omega
  have HNO := hid (fun k (hk : k < al.length) (h : okAct al[k].1 = false) => smallA_no (al := al.map (·.1)) (k := k) most (by simpa using hk) (by simpa using h))
  have HE := hid (fun (h : ∀ k (hk : k < al.length), okAct al[k].1 = true) => smallA_end (al := al.map (·.1)) most (fun k hk => by simpa using h k (by simpa using hk)))
  rw [List.length_map] at HE
  clear h
  generalize smallA (al.map (·.1)) most = R at *
  go_enter Try.func48, Try.ntmps48
  go_wp2
  go_loopw [5] (fun i wr => ∃ k : Nat, k ≤ al.length ∧ i = .int .i64 (k : Int) ∧ Hid (∀ j (hj : j < al.length), j < k → okAct al[j].1 = true) ∧ Hid (Below W.heap.size W wr)) (fun i _ => al.length - (intOf i).toNat)
  case atStart => exact ⟨0, by omega, rfl, fun j hj h => absurd h (by omega), Below.refl _ _⟩
  case round =>
    obtain ⟨k, hk, rfl, HT, HB⟩ := hrel
    by_cases hlt : k < al.length
    · have hlt2 : (k : Int) < (al.length : Int) := by omega
      have i0 : ¬ (k : Int) < 0 := by omega
      obtain ⟨b4, o4, hA4, y0, y1, y2, y3, y4, y5, y6, y7, y8, y9⟩ := (HX.out.below HB.out).el k hlt
      have HIN := hid ((HX.out.2 _ (List.getElem_mem hlt)).below HB.out)
      have HN2 := hid (HNO.out k hlt)
      have HT3 := hid (fun (hne : okAct al[k].1 = true) => show ∀ j (hj : j < al.length), j < k + 1 → okAct al[j].1 = true from fun j hj hjk => by
        by_cases hjk2 : j < k
        · exact HT.out j hj hjk2
        · obtain rfl : j = k := by omega
          exact hne)
      subst hA4
      generalize al[k]'hlt = ya at *
      obtain ⟨⟨d, n, x, bl⟩, ⟨Ax, cx, Bp, cb⟩⟩ := ya
      have HL := hid (r17long_any x Ax cx wr HIN.out.1)
      have hbl := sl_len64B HIN.out.2
      unfold okAct at HN2 HT3
      simp only at HN2 HT3 HL hbl
      generalize longB x.ns 20 300 = lb at *
      obtain ⟨kk, j, t, wk, s, ep, ns⟩ := x
      simp only [rcc] at HL
      simp only at y0 y1 y2 y3 y4 y5 y6 y7 y8 y9
      clear HIN
      go_wp2_with fail
      refine HL.out.mono ?_
      rintro e w2 ⟨rfl, hb2⟩
      have HB2 := hid (HB.out.trans (hb2.mono HB.out.size))
      replace y9 := cellb hb2 y9
      clear hb2 HL HB y0 y1 y2 y3 y4 y5 y6 y7 y8
      cases lb
      case true =>
        have HRR := hid (HN2.out (by simp))
        clear HN2 HT3
        go_wp2
        go_ret
        exact ⟨by obtain rfl := HRR.out; rfl, HB2.out⟩
      case false =>
        by_cases h2 : 200 < bl.length
        · have h2i : (200 : Int) < (bl.length : Int) := by omega
          have HRR := hid (HN2.out (by simp; omega))
          clear HN2 HT3
          go_wp2
          go_ret
          exact ⟨by obtain rfl := HRR.out; rfl, HB2.out⟩
        · have h2i : ¬ (200 : Int) < (bl.length : Int) := by omega
          have HT4 := hid (HT3.out (by simp; omega))
          clear HN2 HT3
          go_wp2
          go_roundw
          case rel => exact ⟨k + 1, by omega, by go_num, HT4, HB2⟩
          case measure => simp [intOf]; omega
    · have hge : ¬ (k : Int) < (al.length : Int) := by omega
      have HRR := hid (HE.out (fun j hj => HT.out j hj (by omega)))
      clear HE HNO
      by_cases h60 : (al.length : Int) ≤ most
      · have d60 : true = R := by rw [← HRR.out]; exact (decide_eq_true h60).symm
        obtain rfl := d60
        go_wp2
        go_ret
        exact ⟨rfl, HB.out⟩
      · have d60 : false = R := by rw [← HRR.out]; exact (decide_eq_false h60).symm
        obtain rfl := d60
        go_wp2
        go_ret
        exact ⟨rfl, HB.out⟩
end Go.Proofs.Ytkepfkfoblocgaa
