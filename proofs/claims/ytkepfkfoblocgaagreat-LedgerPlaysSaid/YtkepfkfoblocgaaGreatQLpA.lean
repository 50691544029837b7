/- LedgerPlays: the acts that came in; small. -/
import Derived.Test.YtkepfkfoblocgaaGreatQR21C
import Derived.Test.YtkepfkfoblocgaaGreatQR21D
import Derived.Test.YtkepfkfoblocgaaGreatQAnI
namespace Go.Proofs.YtkepfkfoblocgaaGreat
open Go.RowKit Go.Sort
set_option linter.unusedVariables false
set_option linter.unusedSimpArgs false

/-- An act: what, a number, a record. -/
structure Al where
  d : Int
  n : Int
  x : Rc
structure Pl where
  A : Option Addr
  c : Nat
abbrev La := Al × Pl
instance : Inhabited La := ⟨(⟨0, 0, ⟨0, 0, 0, 0, 0, 0, []⟩⟩, ⟨none, 0⟩)⟩
def lbl (a : La) : List Value := [.int .i64 a.1.d, .int .i64 a.1.n, .int .i64 a.1.x.k, .int .i64 a.1.x.j, .int .i64 a.1.x.t, .int .i64 a.1.x.w, .int .i64 a.1.x.s, .int .i64 a.1.x.e, .slice a.2.A a.1.x.ns.length a.2.c]
theorem lbl_len (a : La) : (lbl a).length = 9 := rfl
def InL (w : World) (a : La) : Prop := TxAt w a.2.A a.2.c a.1.x.ns
theorem InL.below {w w' : World} {a : La} (h : InL w a) (hb : Below w.heap.size w w') : InL w' a := TxAt.below h hb
def InLs (w : World) (A : Option Addr) (c : Nat) (al : List La) : Prop := Sl w 9 A al.length c (gcells lbl al) ∧ ∀ a ∈ al, InL w a
theorem InLs.below {w w' : World} {A : Option Addr} {c : Nat} {al : List La} (h : InLs w A c al) (hb : Below w.heap.size w w') : InLs w' A c al := ⟨h.1.below hb, fun a ha => (h.2 a ha).below hb⟩
theorem InLs.el {w : World} {A : Option Addr} {c : Nat} {al : List La} (h : InLs w A c al) (k : Nat) (hk : k < al.length) : ∃ b off, A = some ⟨b, off, none⟩ ∧
    w.cell? ⟨b, off + k * 9, none⟩ = some (.int .i64 al[k].1.d) ∧ w.cell? ⟨b, off + k * 9 + 1, none⟩ = some (.int .i64 al[k].1.n) ∧ w.cell? ⟨b, off + k * 9 + 2, none⟩ = some (.int .i64 al[k].1.x.k) ∧ w.cell? ⟨b, off + k * 9 + 3, none⟩ = some (.int .i64 al[k].1.x.j) ∧ w.cell? ⟨b, off + k * 9 + 4, none⟩ = some (.int .i64 al[k].1.x.t) ∧ w.cell? ⟨b, off + k * 9 + 5, none⟩ = some (.int .i64 al[k].1.x.w) ∧ w.cell? ⟨b, off + k * 9 + 6, none⟩ = some (.int .i64 al[k].1.x.s) ∧ w.cell? ⟨b, off + k * 9 + 7, none⟩ = some (.int .i64 al[k].1.x.e) ∧ w.cell? ⟨b, off + k * 9 + 8, none⟩ = some (.slice al[k].2.A al[k].1.x.ns.length al[k].2.c) := by
  obtain ⟨b, off, rfl, hc⟩ := Sl.gat (f := lbl) (n := 9) lbl_len h.1 k hk (by omega)
  exact ⟨b, off, rfl, hc 0 _ rfl, hc 1 _ rfl, hc 2 _ rfl, hc 3 _ rfl, hc 4 _ rfl, hc 5 _ rfl, hc 6 _ rfl, hc 7 _ rfl, hc 8 _ rfl⟩
theorem rd_actL {w : World} {cs : List Value} (hn : cs.length = 9) (h : Rd Tryz.prog w 48 cs) : ∃ a : La, cs = lbl a ∧ InL w a := by
  have hc : Tryz.prog.cellsOf 3 = 1 := by kernel_rfl
  have hc2 : Tryz.prog.cellsOf 46 = 7 := by kernel_rfl
  obtain ⟨_, hf⟩ := Rd.struct Tryz.underlying48 h
  have f0 : Rd Tryz.prog w 3 ((cs.drop 0).take (Tryz.prog.cellsOf 3)) := hf 0 _ rfl
  have f1 : Rd Tryz.prog w 3 ((cs.drop 1).take (Tryz.prog.cellsOf 3)) := hf 1 _ rfl
  have f2 : Rd Tryz.prog w 46 ((cs.drop 2).take (Tryz.prog.cellsOf 46)) := hf 2 _ rfl
  rw [hc] at f0 f1
  rw [hc2] at f2
  obtain ⟨d, e0, _⟩ := Rd.int Tryz.underlying3 f0
  obtain ⟨n, e1, _⟩ := Rd.int Tryz.underlying3 f1
  obtain ⟨x, Ax, cx, e2, hx⟩ := rd_rec (a := ((cs.drop 2).take 7).toArray) (by simp [hn]) (by simpa using f2)
  refine ⟨(⟨d, n, x⟩, ⟨Ax, cx⟩), ?_, hx⟩
  have e2' : (cs.drop 2).take 7 = (rcc x Ax cx).toList := by
    have := congrArg Array.toList e2
    simpa using this
  have h1 : cs = (cs.drop 0).take 1 ++ ((cs.drop 1).take 1 ++ (cs.drop 2).take 7) := by
    have k3 : (cs.drop 2).take 7 = cs.drop 2 := List.take_of_length_le (by rw [List.length_drop]; omega)
    have k1 : (cs.drop 1).take 1 ++ cs.drop 2 = cs.drop 1 := by
      have := List.take_append_drop 1 (cs.drop 1)
      rwa [List.drop_drop] at this
    rw [k3, k1, List.drop_zero, List.take_append_drop]
  rw [h1, e0, e1, e2']
  rfl
theorem acts_inL {w : World} {A : Option Addr} {len cap : Nat} (h : Rd Tryz.prog w 24 [.slice A len cap]) : ∃ al : List La, al.length = len ∧ InLs w A cap al := by
  obtain ⟨l, h1, h2, h3⟩ := rows_in (α := La) (f := lbl) (fun x => InL w x) Tryz.underlying24 (n := 9) (by kernel_rfl) (by omega) lbl_len (fun cs hl hr => rd_actL hl hr) h
  subst h2
  exact ⟨l, rfl, h1, h3⟩
def okLa (a : Al) : Bool := !longB a.x.ns 20 300
def smallL (al : List Al) (most : Int) : Bool := al.all okLa && decide ((al.length : Int) ≤ most)
theorem smallL_no {al : List Al} {k : Nat} (most : Int) (hk : k < al.length) (h : okLa al[k] = false) : false = smallL al most := by
  unfold smallL
  have : al.all okLa = false := by
    rw [Bool.eq_false_iff]
    intro h9
    have h8 := List.all_eq_true.1 h9 _ (List.getElem_mem hk)
    rw [h] at h8
    cases h8
  rw [this]
  rfl
theorem smallL_end {al : List Al} (most : Int) (h : ∀ k (hk : k < al.length), okLa al[k] = true) : decide ((al.length : Int) ≤ most) = smallL al most := by
  unfold smallL
  have : al.all okLa = true := List.all_eq_true.2 fun x hx => by
    obtain ⟨k, hk, rfl⟩ := List.getElem_of_mem hx
    exact h k hk
  rw [this, Bool.true_and]
theorem smallL_yes {al : List La} (h : smallL (al.map (·.1)) 40 = true) : al.length ≤ 40 := by
  unfold smallL at h
  rw [Bool.and_eq_true] at h
  have h2 := of_decide_eq_true h.2
  rw [List.length_map] at h2
  omega
set_option maxRecDepth 20000 in
set_option maxHeartbeats 4000000 in
theorem small21_any (A : Option Addr) (c : Nat) (al : List La) (most : Int) (W : World) (h : InLs W A c al) :
    Calls Tryz.prog 6 #[.slice A al.length c, .int .i64 most] W fun e w' => e = .returned (.bool (smallL (al.map (·.1)) most)) ∧ Below W.heap.size W w' := by
  have HX := hid h
  have hal : al.length ≤ 9223372036854775807 := by have h1 := h.1.2.1; have h2 := h.1.2.2.1; unfold maxLen at h2; omega
  have HNO := hid (fun k (hk : k < al.length) (h : okLa al[k].1 = false) => smallL_no (al := al.map (·.1)) (k := k) most (by simpa using hk) (by simpa using h))
  have HE := hid (fun (h : ∀ k (hk : k < al.length), okLa al[k].1 = true) => smallL_end (al := al.map (·.1)) most (fun k hk => by simpa using h k (by simpa using hk)))
  rw [List.length_map] at HE
  clear h
  generalize smallL (al.map (·.1)) most = R at *
  go_enter Tryz.func6, Tryz.ntmps6
  go_wp2
  go_loopw [5] (fun i wr => ∃ k : Nat, k ≤ al.length ∧ i = .int .i64 (k : Int) ∧ Hid (∀ j (hj : j < al.length), j < k → okLa al[j].1 = true) ∧ Hid (Below W.heap.size W wr)) (fun i _ => al.length - (intOf i).toNat)
  case atStart => exact ⟨0, by omega, rfl, fun j hj h => absurd h (by omega), Below.refl _ _⟩
  case round =>
    obtain ⟨k, hk, rfl, HT, HB⟩ := hrel
    by_cases hlt : k < al.length
    · have hlt2 : (k : Int) < (al.length : Int) := by omega
      have i0 : ¬ (k : Int) < 0 := by omega
      obtain ⟨b4, o4, hA4, y0, y1, y2, y3, y4, y5, y6, y7, y8⟩ := (HX.out.below HB.out).el k hlt
      have HIN := hid ((HX.out.2 _ (List.getElem_mem hlt)).below HB.out)
      have HN2 := hid (HNO.out k hlt)
      have HT3 := hid (fun (hne : okLa al[k].1 = true) => show ∀ j (hj : j < al.length), j < k + 1 → okLa al[j].1 = true from fun j hj hjk => by
        by_cases hjk2 : j < k
        · exact HT.out j hj hjk2
        · obtain rfl : j = k := by omega
          exact hne)
      subst hA4
      generalize al[k]'hlt = ya at *
      obtain ⟨⟨d, n, x⟩, ⟨Ax, cx⟩⟩ := ya
      have HL := hid (r17long_any x Ax cx wr HIN.out)
      unfold okLa at HN2 HT3
      simp only at HN2 HT3 HL
      generalize longB x.ns 20 300 = lb at *
      obtain ⟨kk, j, t, wk, s, ep, ns⟩ := x
      simp only [rcc] at HL
      simp only at y0 y1 y2 y3 y4 y5 y6 y7 y8
      clear HIN
      go_wp2_with fail
      refine HL.out.mono ?_
      rintro e w2 ⟨rfl, hb2⟩
      have HB2 := hid (HB.out.trans (hb2.mono HB.out.size))
      clear hb2 HL HB y0 y1 y2 y3 y4 y5 y6 y7 y8
      cases lb
      case true =>
        have HRR := hid (HN2.out (by simp))
        clear HN2 HT3
        go_wp2
        go_ret
        exact ⟨by obtain rfl := HRR.out; rfl, HB2.out⟩
      case false =>
        have HT4 := hid (HT3.out (by simp))
        clear HN2 HT3
        go_wp2
        go_roundw
        case rel => exact ⟨k + 1, by omega, by go_num, HT4, HB2⟩
        case measure => simp [intOf]; omega
    · have hge : ¬ (k : Int) < (al.length : Int) := by omega
      have HRR := hid (HE.out (fun j hj => HT.out j hj (by omega)))
      clear HE HNO
      by_cases h60 : (al.length : Int) ≤ most
      · have d60 : true = R := by rw [← HRR.out]; exact (decide_eq_true h60).symm
        obtain rfl := d60
        go_wp2
        go_ret
        exact ⟨rfl, HB.out⟩
      · have d60 : false = R := by rw [← HRR.out]; exact (decide_eq_false h60).symm
        obtain rfl := d60
        go_wp2
        go_ret
        exact ⟨rfl, HB.out⟩
end Go.Proofs.YtkepfkfoblocgaaGreat
