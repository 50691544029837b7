/- ledger: what a ledger is in memory; Book, Kept, Down: contracts. -/
import Derived.Test.YtkepfkfoblocgaaGreatAnP
import Derived.Test.YtkepfkfoblocgaaGreatQBkP5
import Derived.Test.YtkepfkfoblocgaaGreatQRmost
import Derived.Deep.RegionHeld3
import Derived.Test.YtkepfkfoblocgaaGreatGaP
namespace Go.Proofs.YtkepfkfoblocgaaGreat
open Go.RowKit
set_option linter.unusedVariables false
set_option linter.unusedSimpArgs false

/-- What the jobs of a book may need. -/
def kepB : List En → Nat
  | [] => 0
  | e :: b => mostR e.id 0 e.ns + kepB b
theorem kepB_app (b b2 : List En) : kepB (b ++ b2) = kepB b + kepB b2 := by
  induction b with
  | nil => simp [kepB]
  | cons x b ih => simp [kepB, ih]; omega
theorem most_le (j s : Int) (ns : List (List UInt8)) : mostR j s ns ≤ 10000 := by
  unfold mostR
  split
  · omega
  · rename_i h0
    have hc := size_chk h0
    have hns := (chkR_ns hc).1
    have hle := size_le ⟨1, j, 0, 0, s, 0, ns⟩
    have hql := (numB_length _ (cl_le j)).2
    have hpb : ns.length * ((numB (cl j)).length + 9 + (numB (cl j)).length + 7) ≤ 16 * 34 := Nat.mul_le_mul hns (by omega)
    omega
theorem kepB_le (b : List En) : kepB b ≤ b.length * 10000 := by
  induction b with
  | nil => simp [kepB]
  | cons x b ih =>
    have := most_le x.id 0 x.ns
    simp only [kepB, List.length_cons]
    omega
/-- What a ledger holds: its room, what is kept, its disk's room, bytes, fuse; whether it is down. -/
structure LgS where
  R : Nat
  kp : Nat
  room : Nat
  l : List UInt8
  armed : Bool
  fuse : Nat
  down : Bool
/-- Block L is a ledger: its annal G of the disk D, its book. -/
def LgAt (w : World) (B L G D : Nat) (s : LgS) (A : Option Addr) (c : Nat) (els : List El) (Ab : Option Addr) (cb : Nat) (xs : List Ee) : Prop :=
  w.heap[L]? = some (.cells #[.pointer (some ⟨G, 0, none⟩), .slice Ab xs.length cb, .int .i64 (s.R : Int), .int .i64 (s.kp : Int)] 81 (0, 0)) ∧ AnAt w B G D s.room s.l s.armed s.fuse A c els s.down ∧ RowBk w B (.slice Ab xs.length cb) xs ∧ OkB (xs.map (·.1))
theorem LgAt.below {w w' : World} {B L G D : Nat} {s : LgS} {A : Option Addr} {c : Nat} {els : List El} {Ab : Option Addr} {cb : Nat} {xs : List Ee} (h : LgAt w B L G D s A c els Ab cb xs) (hb : Below w.heap.size w w') : LgAt w' B L G D s A c els Ab cb xs :=
  ⟨keep0 h.1 hb, h.2.1.below hb, h.2.2.1.keep hb, h.2.2.2⟩
theorem RowBk.apart {w w' : World} {B b t : Nat} {v : Value} {xs : List Ee} {cs : Array Value} {fr : Nat × Nat} (h : RowBk w B v xs) (hb : w.heap[b]? = some (.cells cs t fr)) (h0 : 55 ≠ t) (h1 : 9 ≠ t) (h2 : 3 ≠ t) (h3 : 4 ≠ t) (ht : Tch (fun g => g = b) w w') : RowBk w' B v xs :=
  ⟨ht.own h.1 fun g hg => own_apart_blk h.1 hb h0 g hg, fun e he => ⟨⟨ht.own (h.2.1 e he).1.1 fun g hg => own_apart_blk (h.2.1 e he).1.1 hb h1 g hg, (h.2.1 e he).1.2⟩, ht.own (h.2.1 e he).2.1 fun g hg => own_apart_blk (h.2.1 e he).2.1 hb h2 g hg, ht.own (h.2.1 e he).2.2 fun g hg => own_apart_blk (h.2.1 e he).2.2 hb h3 g hg⟩, h.2.2⟩
/-- The general form: a book stays where none of its blocks is touched. -/
theorem RowBk.tch {w w' : World} {S : Nat → Prop} {B : Nat} {v : Value} {xs : List Ee} (h : RowBk w B v xs) (ht : Tch S w w') (hS : ∀ g, S g → ∀ cs t fr, w.heap[g]? = some (.cells cs t fr) → t ≠ 55 ∧ t ≠ 9 ∧ t ≠ 3 ∧ t ≠ 4) : RowBk w' B v xs := by
  have key : ∀ {e s n : Nat} {v : Value} {ys : List Value}, w.ownsRow B e s v n ys → (∀ cs fr, ∀ g, S g → w.heap[g]? = some (.cells cs e fr) → False) → w'.ownsRow B e s v n ys := fun ho hn => ht.own ho fun g hg hs => by
    obtain ⟨_, _, cur, hc⟩ := own_lt ho g hg
    exact hn _ _ g hs hc
  refine ⟨key h.1 fun cs fr g hs hc => (hS g hs _ _ _ hc).1 rfl, fun e he => ⟨⟨key (h.2.1 e he).1.1 fun cs fr g hs hc => (hS g hs _ _ _ hc).2.1 rfl, (h.2.1 e he).1.2⟩, key (h.2.1 e he).2.1 fun cs fr g hs hc => (hS g hs _ _ _ hc).2.2.1 rfl, key (h.2.1 e he).2.2 fun cs fr g hs hc => (hS g hs _ _ _ hc).2.2.2 rfl⟩, h.2.2⟩

theorem lkept_any {B L G D : Nat} {s : LgS} {A : Option Addr} {c : Nat} {els : List El} {Ab : Option Addr} {cb : Nat} {xs : List Ee} (W : World) (h : LgAt W B L G D s A c els Ab cb xs) : Calls Tryz.prog 21 #[.pointer (some ⟨L, 0, none⟩)] W fun e w' => e = .returned (.int .i64 (s.kp : Int)) ∧ W = w' := by
  obtain ⟨⟨p0, p1, p2, p3⟩, _⟩ := four_cells h.1
  clear h
  go_enter Tryz.func21, Tryz.ntmps21
  go_wp2
  go_ret
  exact ⟨rfl, rfl⟩
theorem ldown_any {B L G D : Nat} {s : LgS} {A : Option Addr} {c : Nat} {els : List El} {Ab : Option Addr} {cb : Nat} {xs : List Ee} (W : World) (h : LgAt W B L G D s A c els Ab cb xs) : Calls Tryz.prog 23 #[.pointer (some ⟨L, 0, none⟩)] W fun e w' => e = .returned (.bool s.down) ∧ W = w' := by
  obtain ⟨⟨p0, p1, p2, p3⟩, _⟩ := four_cells h.1
  have HD := hid (adown_any W h.2.1)
  clear h
  go_enter Tryz.func23, Tryz.ntmps23
  go_wp2_with fail
  refine HD.out.mono ?_
  rintro e w2 ⟨rfl, rfl⟩
  go_wp2
  go_ret
  exact ⟨rfl, rfl⟩
theorem lbook_any {B L G D : Nat} {s : LgS} {A : Option Addr} {c : Nat} {els : List El} {Ab : Option Addr} {cb : Nat} {xs : List Ee} (W : World) (h : LgAt W B L G D s A c els Ab cb xs) : Calls Tryz.prog 20 #[.pointer (some ⟨L, 0, none⟩)] W fun e w' => ∃ A' c' xs', e = .returned (.slice A' xs'.length c') ∧ xs'.map (·.1) = xs.map (·.1) ∧ RowBk w' W.heap.size (.slice A' xs'.length c') xs' ∧ Below W.heap.size W w' := by
  obtain ⟨⟨p0, p1, p2, p3⟩, _⟩ := four_cells h.1
  have HC := hid (bclone_any Ab cb xs W h.2.2.1.inBk (by have := okB_len h.2.2.2; omega) (okB_sm h.2.2.2))
  clear h
  go_enter Tryz.func20, Tryz.ntmps20
  go_wp2_with fail
  refine HC.out.mono ?_
  rintro e w2 ⟨A', c', xs', rfl, he, hr, hb⟩
  have HE := hid he
  have HR := hid hr
  have HB := hid hb
  clear he hr hb
  go_wp2
  go_ret
  exact ⟨A', c', xs', rfl, HE.out, HR.out, HB.out⟩
end Go.Proofs.YtkepfkfoblocgaaGreat

namespace Go.Proofs.YtkepfkfoblocgaaGreat
open Go.RowKit Go.Sort
set_option linter.unusedVariables false
set_option linter.unusedSimpArgs false

def lgM (x : Rc) : Nat := if x.k = 1 then mostR x.j 0 x.ns else 0
def lgE (s : LgS) (b : List En) (x : Rc) : Int :=
  if s.down = true then 15 else if whyB b x ≠ 0 then whyB b x else if x.k = 1 ∧ s.R < s.kp + mostR x.j 0 x.ns then 7 else anE s.room s.l s.armed false x
def lgN (s : LgS) (b : List En) (x : Rc) : LgS :=
  if s.down = true then s else if whyB b x ≠ 0 then s else if x.k = 1 ∧ s.R < s.kp + mostR x.j 0 x.ns then s else
    ⟨s.R, if anE s.room s.l s.armed false x = 0 then s.kp + lgM x else s.kp, s.room, anB s.room s.l s.armed s.fuse false x, anA s.room s.l s.armed false x, s.fuse, if anE s.room s.l s.armed false x = 14 then true else false⟩
/-- What Put touches. -/
def LgT (L G D : Nat) (A : Option Addr) (n c : Nat) : Nat → Prop := fun g => g = L ∨ g = D ∨ g = G ∨ (Value.slice A n c).ownBlock = some g
/-- What Put leaves. -/
def PutR (W : World) (B L G D : Nat) (s : LgS) (A : Option Addr) (c : Nat) (els : List El) (xs : List Ee) (x : Rc) (e : Ending) (w' : World) : Prop :=
  e = .returned (.int .i64 (lgE s (xs.map (·.1)) x)) ∧ ∃ A' c' els' Ab' cb' xs', LgAt w' B L G D (lgN s (xs.map (·.1)) x) A' c' els' Ab' cb' xs' ∧ xs'.map (·.1) = (if lgE s (xs.map (·.1)) x = 0 then appB (xs.map (·.1)) x else xs.map (·.1)) ∧ els'.map (·.1) = (if lgE s (xs.map (·.1)) x = 0 then els.map (·.1) ++ [x] else els.map (·.1)) ∧ Tch (LgT L G D A els.length c) W w'
theorem LgAt.ne {w : World} {B L G D : Nat} {s : LgS} {A : Option Addr} {c : Nat} {els : List El} {Ab : Option Addr} {cb : Nat} {xs : List Ee} (h : LgAt w B L G D s A c els Ab cb xs) : G ≠ D ∧ L ≠ D ∧ L ≠ G ∧ (Value.slice A els.length c).ownBlock ≠ some L ∧ L < w.heap.size ∧ G < w.heap.size ∧ D < w.heap.size := by
  obtain ⟨A9, c9, hd, _⟩ := h.2.1.2.1.open
  have hg := h.2.1.1
  have hl := h.1
  refine ⟨fun e => ?_, fun e => ?_, fun e => ?_, fun e => own_apart_blk h.2.1.2.2.1 hl (by decide) L e rfl, lt_of_block hl, lt_of_block hg, lt_of_block hd⟩
  · rw [e, hd] at hg
    injection hg with hg
    injection hg with _ h2
    exact absurd h2 (by decide)
  · rw [e, hd] at hl
    injection hl with hl
    injection hl with _ h2
    exact absurd h2 (by decide)
  · rw [e, hg] at hl
    injection hl with hl
    injection hl with _ h2
    exact absurd h2 (by decide)

theorem AnAt.apartL {w w' : World} {B G D room L : Nat} {l : List UInt8} {armed : Bool} {fuse : Nat} {A : Option Addr} {c : Nat} {els : List El} {down : Bool} {cs : Array Value} {fr : Nat × Nat} (h : AnAt w B G D room l armed fuse A c els down) (hb : w.heap[L]? = some (.cells cs 81 fr)) (h1 : D ≠ L) (h2 : G ≠ L) (ht : Tch (fun g => g = L) w w') : AnAt w' B G D room l armed fuse A c els down :=
  ⟨ht.block h.1 h2, h.2.1.apart hb (by decide) h1 ht, h.2.2.apart hb (by decide) (by decide) ht⟩
end Go.Proofs.YtkepfkfoblocgaaGreat

namespace Go.Proofs.YtkepfkfoblocgaaGreat
open Go.RowKit Go.Sort
set_option linter.unusedVariables false
set_option linter.unusedSimpArgs false

theorem wrap_sum64 (kp M : Nat) (h1 : kp ≤ 400000) (h2 : M ≤ 10000) : wrap64 ((kp : Int) + (M : Int)) = (kp : Int) + (M : Int) := by simp only [wrap64]; omega
theorem wrap_sum (kp M : Nat) (h1 : kp ≤ 400000) (h2 : M ≤ 10000) : IntKind.i64.wrap ((kp : Int) + (M : Int)) = (kp : Int) + (M : Int) := by
  simp [IntKind.wrap, IntKind.bits, IntKind.signed]
  omega
theorem LgAt.keptN {w : World} {B L G D R kp room : Nat} {l : List UInt8} {armed : Bool} {fuse : Nat} {dn : Bool} {A : Option Addr} {c : Nat} {els : List El} {Ab : Option Addr} {cb : Nat} {xs : List Ee} (h : LgAt w B L G D ⟨R, kp, room, l, armed, fuse, dn⟩ A c els Ab cb xs) (kp2 : Nat) (v : Value) (hv : v = .int .i64 (kp2 : Int)) : LgAt (w.setCell ⟨L, 3, none⟩ v) B L G D ⟨R, kp2, room, l, armed, fuse, dn⟩ A c els Ab cb xs := by
  subst hv
  have HTS := tch_set w L 3 (.int .i64 (kp2 : Int))
  exact ⟨by rw [heap_setCell_same w L 3 _ _ _ h.1]; rfl, AnAt.apartL h.2.1 h.1 h.ne.2.1.symm h.ne.2.2.1.symm HTS, h.2.2.1.apart h.1 (by decide) (by decide) (by decide) (by decide) HTS, h.2.2.2⟩
/-- What Open leaves. -/
def OpenR (W : World) (D room : Nat) (l : List UInt8) (armed : Bool) (fuse R : Nat) (e : Ending) (w' : World) : Prop :=
  ∃ L G A c els Ab cb xs, e = .returned (.tuple #[.pointer (some ⟨L, 0, none⟩), .int .i64 0]) ∧ els.map (·.1) = (recS l).1 ∧ xs.map (·.1) = (foldB [] (recS l).1).1 ∧ LgAt w' W.heap.size L G D ⟨R, kepB (foldB [] (recS l).1).1, room, l.take (recS l).2, armed, fuse, false⟩ A c els Ab cb xs ∧ W.heap.size ≤ L ∧ W.heap.size ≤ G ∧ Tch (fun g => g = D) W w'
set_option maxRecDepth 20000 in
set_option maxHeartbeats 4000000 in
theorem lopen_any {D room : Nat} {l : List UInt8} {armed : Bool} {fuse : Nat} (R : Nat) (W : World) (h : DiskAt W D room l armed fuse) (hl : l.length ≤ 100000) (hR : R ≤ 65536) (hfo : (foldB [] (recS l).1).2 = (recS l).1.length) :
    Calls Tryz.prog 10 #[.pointer (some ⟨D, 0, none⟩), .int .i64 (R : Int)] W (OpenR W D room l armed fuse R) := by
  have hDl := h.lt
  have HOP := hid (aopen_any W h hl)
  have hR1 : ¬ (R : Int) < 0 := by omega
  have hR2 : ¬ (65536 : Int) < (R : Int) := by omega
  have HFO := hid hfo
  clear h hfo
  go_enter Tryz.func10, Tryz.ntmps10
  go_wp2_with fail
  refine HOP.out.mono ?_
  rintro e w1 ⟨A, c, els, rfl, he, ha, ho⟩
  have HT1 : Hid (Tch (fun g => g = D) W w1) := hid (Tch.of_only ho rfl hDl)
  have HA1 := hid ha
  have HE := hid he
  have hel : els.length ≤ 100000 := Nat.le_trans (els_len he) hl
  have hns := els_ns he
  clear HOP ho ha he
  have HRC := hid (arecords_any w1 HA1.out hel hns)
  clear hns
  go_wp2_with fail
  refine HRC.out.mono ?_
  rintro e w2 ⟨A2, c2, els2, rfl, he2, hr2, hb2⟩
  have hl2 : els2.length = els.length := by
    have h9 := congrArg List.length he2
    simpa using h9
  have HF := hid (bfold_any A2 c2 els2 w2 hr2.inR (by omega))
  rw [he2, HE.out, HFO.out] at HF
  have hnn : (recS l).1.length = els.length := by rw [← HE.out, List.length_map]
  rw [hnn] at HF
  have HA2 := hid (HA1.out.below hb2)
  have HT2 := hid (HT1.out.grow hb2)
  clear HRC HA1 HT1 he2 hr2 hb2 hl2 hnn HFO
  go_wp2_with fail
  refine HF.out.mono ?_
  rintro e w3 ⟨Ab, cb, xs, rfl, hx3, hok3, hrb3, hb3⟩
  have HA3 := hid (HA2.out.below hb3)
  have HT3 := hid (HT2.out.grow hb3)
  have HX3 := hid hx3
  have HOK := hid hok3
  have hWw : W.heap.size ≤ w2.heap.size := HT2.out.size
  have HRB := hid (hrb3.mono hWw)
  have HLN := hid (alen_any w3 HA3.out)
  clear HF HA2 HT2 hx3 hok3 hrb3 hb3 hWw
  go_wp2_with fail
  refine HLN.out.mono ?_
  rintro e w4 ⟨rfl, rfl⟩
  have hnl : ¬ (els.length : Int) < (els.length : Int) := by omega
  clear HLN
  go_upto_region 8 with (fail)
  refine at_world (fun u => u.heap[w3.heap.size]? = some (.cells #[.pointer (some ⟨W.heap.size, 0, none⟩), .slice Ab xs.length cb, .int .i64 (R : Int), .int .i64 0] 81 (0, 0)) ∧ Below w3.heap.size w3 u) ⟨heap_alloc_new _ _, (Below.refl _ _).alloc (Nat.le_refl _) _⟩ ?_
  rintro w4 ⟨hx4, hb4⟩
  have hWL : W.heap.size ≤ w3.heap.size := HT3.out.size
  generalize hLL : w3.heap.size = L at *
  have HT4 := hid (HT3.out.grow (hLL ▸ hb4))
  have HLG : Hid (LgAt w4 W.heap.size L W.heap.size D ⟨R, kepB ((xs.map (·.1)).take 0), room, l.take (recS l).2, armed, fuse, false⟩ A c els Ab cb xs) := hid (by
    have e0 : kepB ((xs.map (·.1)).take 0) = 0 := by rw [List.take_zero]; rfl
    rw [e0]
    exact ⟨hx4, HA3.out.below (hLL ▸ hb4), HRB.out.keep (hLL ▸ hb4), HOK.out⟩)
  have hxl : xs.length ≤ 40 := okB_len HOK.out
  have hx7 : xs.length ≤ 9223372036854775807 := by omega
  clear hx4 hb4 HT3 HA3 HRB HOK hLL
  go_wp2
  go_loopw [11, 41] (fun _ i wr => ∃ (k : Nat), k ≤ xs.length ∧ i = .int .i64 (k : Int) ∧ Hid (LgAt wr W.heap.size L W.heap.size D ⟨R, kepB ((xs.map (·.1)).take k), room, l.take (recS l).2, armed, fuse, false⟩ A c els Ab cb xs) ∧ Hid (Tch (fun g => g = D) W wr)) (fun _ i _ => xs.length - (intOf i).toNat)
  case atStart => exact ⟨0, by omega, rfl, HLG, HT4⟩
  case round =>
    clear HLG HT4
    obtain ⟨n, hnl9, rfl, HL, HT⟩ := hrel
    by_cases hlt : n < xs.length
    · have hlt2 : (n : Int) < (xs.length : Int) := by omega
      obtain ⟨b, off, rfl, q0, q1, q2, q3, q4, q5⟩ := HL.out.2.2.1.inBk.el n hlt
      have ht := (HL.out.2.2.1.2.1 xs[n] (List.getElem_mem hlt)).1.tx
      have HTK : Hid (kepB ((xs.map (·.1)).take (n + 1)) = kepB ((xs.map (·.1)).take n) + mostR xs[n].1.id 0 xs[n].1.ns) := hid (by
        rw [List.take_succ_eq_append_getElem (by simpa using hlt), kepB_app]
        simp [kepB])
      have hkk : kepB ((xs.map (·.1)).take n) ≤ 400000 := by
        have h9 := kepB_le ((xs.map (·.1)).take n)
        simp only [List.length_take, List.length_map] at h9
        omega
      generalize kepB ((xs.map (·.1)).take n) = kp at *
      obtain ⟨kp2, hk2⟩ : ∃ kp2, kepB ((xs.map (·.1)).take (n + 1)) = kp2 := ⟨_, rfl⟩
      have HK2 := hid hk2
      rw [hk2] at HTK
      clear hk2
      have HM0 := hid (fun w (hw : Below wr.heap.size wr w) => recmost_any xs[n].1.id 0 xs[n].1.ns _ _ w (ht.below hw))
      have hM := most_le xs[n].1.id 0 xs[n].1.ns
      generalize mostR xs[n].1.id 0 xs[n].1.ns = M at *
      clear ht
      generalize xs[n]'hlt = ee at *
      obtain ⟨⟨id, sc, ep, ns, bd, dn⟩, ⟨A1, ca, P, cb9, D9, cd⟩⟩ := ee
      simp only at q0 q1 q2 q3 q4 q5 HM0
      have hwr9 : wrap64 ((kp : Int) + (M : Int)) = (kp : Int) + (M : Int) := wrap_sum64 kp M hkk hM
      have HWR := hid (wrap_sum kp M hkk hM)
      go_upto_region 11 with (fail)
      refine at_world (fun u => u.heap[wr.heap.size]? = some (.cells #[.int .i64 id, .int .i64 sc, .int .i64 ep, .slice A1 ns.length ca, .slice P bd.length cb9, .slice D9 dn.length cd] 55 (0, 0)) ∧ Below wr.heap.size wr u) ⟨heap_alloc_new _ _, (Below.refl _ _).alloc (Nat.le_refl _) _⟩ ?_
      clear q0 q1 q2 q3 q4 q5
      rintro w5 ⟨hx5, hb5⟩
      have HX5 := hid hx5
      have HL5 := hid (HL.out.below hb5)
      have HM := hid (fun U (hU : Below w5.heap.size w5 U) => HM0.out U (hb5.trans (hU.mono hb5.size)))
      have HT5 := hid (HT.out.grow hb5)
      have hLN : ¬ wr.heap.size = L := by
        have h9 := lt_of_block HL.out.1
        omega
      clear HM0 HL HT hx5 hb5
      generalize wr.heap.size = N at *
      obtain ⟨⟨z0, z1, z2, q3⟩, g0, g1, g2, g3⟩ := four_cells HL5.out.1
      simp only at q3
      clear z0 z1 z2
      have hS : ∀ U, Tch (fun g => g = L) w5 U → ((U.cell? ⟨N, 0, none⟩ = some (.int .i64 id) ∧ U.cell? ⟨N, 3, none⟩ = some (.slice A1 ns.length ca)) ∧ Tch (fun g => g = L) w5 U) := fun U hU => ⟨⟨(six_cells (hU.block HX5.out hLN)).1.1, (six_cells (hU.block HX5.out hLN)).1.2.2.2.1⟩, hU⟩
      have hk0 : Below w5.heap.size w5 w5.drew := below_drew (Below.refl _ _)
      refine wp_region_held_drew (S := fun U => (U.cell? ⟨N, 0, none⟩ = some (.int .i64 id) ∧ U.cell? ⟨N, 3, none⟩ = some (.slice A1 ns.length ca)) ∧ Tch (fun g => g = L) w5 U) (by kernel_rfl) (hS _ (Tch.of_below hk0)) (fun hHeld => ?_)
      generalize w5.drew = k0 at *
      replace q3 := cellb hk0 q3
      refine tkA 0 ?_ rfl ?_ (by assumption) ?_; rotate_left; focus (intro U hU; (try dsimp only at hU); go_simp; try (with_reducible rfl))
      simp only [gt6, Act.put]
      refine tkA 1 ?_ rfl ?_ (by assumption) ?_; rotate_left; focus (intro U hU; (try dsimp only at hU); go_simp; try (with_reducible rfl))
      simp only [gt6, Act.put]
      refine tkA 2 ?_ rfl ?_ (by assumption) ?_; rotate_left; focus (intro U hU; (try dsimp only at hU); go_simp; try (with_reducible rfl))
      simp only [gt6, Act.put]
      refine tkA 4 ?_ rfl ?_ (by assumption) ?_; rotate_left; focus (intro U hU; (try dsimp only at hU); go_simp; try (with_reducible rfl))
      simp only [gt6, Act.put]
      refine tkA 5 ?_ rfl ?_ (by assumption) ?_; rotate_left; focus (intro U hU; (try dsimp only at hU); go_simp; try (with_reducible rfl))
      simp only [gt6, Act.put]
      refine tkA 6 ?_ rfl ?_ (by assumption) ?_; rotate_left; focus (intro U hU; (try dsimp only at hU); go_simp; try (with_reducible rfl))
      simp only [gt6, Act.put]
      refine tkA 7 ?_ rfl ?_ (by assumption) ?_; rotate_left; focus (intro U hU; (try dsimp only at hU); go_simp; try (with_reducible rfl))
      simp only [gt6, Act.put]
      refine wpAnyH_ready (rs := [3, 8]) (by kernel_rfl) (by simp) ?_
      refine (AllReadyH.cons rfl (fun K hK => ?_) (AllReadyH.cons rfl (fun K hK => ?_) AllReadyH.nil))
      · skip
        simp only [gt3]
        go_simp
        refine hK.out _ _ ?_ (fun hHeld2 => ?_)
        focus
          exact hS _ (Tch.of_below hk0)
        clear hHeld
        have hHeld := hHeld2
        clear hHeld2 hK K
        try simp only [gt6, Act.put]
        refine wpAnyH_ready (rs := [8]) (by kernel_rfl) (by simp) ?_
        refine (AllReadyH.cons rfl (fun K hK => ?_) AllReadyH.nil)
        simp only [gt3]
        go_simp
        refine (HM.out k0 hk0).mono ?_
        rintro e k1 ⟨rfl, hb1⟩
        have hk1 := hk0.trans (hb1.mono hk0.size)
        replace q3 := cellb hb1 q3
        clear hb1
        go_wp2_with fail
        refine hK.out _ _ ?_ (fun hHeld2 => ?_)
        focus
          exact hS _ (Tch.of_below hk1)
        clear hHeld
        have hHeld := hHeld2
        clear hHeld2 hK K
        try simp only [gt6, Act.put]
        have HL6 := HL5.out.below hk1
        obtain ⟨_, h0, h1, h2, h3⟩ := four_cells HL6.1
        have hk9 : Tch (fun g => g = L) w5 (k1.setCell ⟨L, 3, none⟩ (.int .i64 (IntKind.i64.wrap ((kp : Int) + (M : Int))))) := (Tch.of_below hk1).set L 3 _ (fun _ => rfl)
        refine tkA 9 ?_ rfl ?_ (by assumption) ?_; rotate_left; focus (intro U hU; (try dsimp only at hU); go_simp; try (with_reducible rfl))
        simp only [gt6, Act.put]
        refine tkA 10 ?_ rfl ?_ (by assumption) ?_; rotate_left; focus (intro U hU; (try dsimp only at hU); go_simp; try (with_reducible rfl))
        simp only [gt6, Act.put]
        refine tkA 11 ?_ rfl ?_ (by assumption) ?_; rotate_left; focus (intro U hU; (try dsimp only at hU); go_simp; try (with_reducible rfl))
        simp only [gt6, Act.put]
        refine wpAnyH_ready (rs := [12]) (by kernel_rfl) (by simp) ?_
        refine (AllReadyH.cons rfl (fun K hK => ?_) AllReadyH.nil)
        simp only [gt3]
        go_simp
        refine hK.out _ _ ?_ (fun hHeld2 => ?_)
        focus
          exact hS _ hk9
        clear hHeld
        have hHeld := hHeld2
        clear hHeld2 hK K
        try simp only [gt6, Act.put]
        refine wpAnyH_done (by kernel_rfl) ?_ _
        have HLG9 := hid (HL6.keptN kp2 (.int .i64 (IntKind.i64.wrap ((kp : Int) + (M : Int)))) (by rw [HWR.out, HTK.out, Int.natCast_add]))
        have HTT9 := hid ((HT5.out.grow hk1).set L 3 (.int .i64 (IntKind.i64.wrap ((kp : Int) + (M : Int)))) (fun h9 => by omega))
        clear hHeld hS hk0 hk1 hk9 HL6 HL5 HT5 HX5 HM q3 g0 g1 g2 g3 h0 h1 h2 h3
        refine at_world (fun u => LgAt u W.heap.size L W.heap.size D ⟨R, kp2, room, l.take (recS l).2, armed, fuse, false⟩ A c els (some ⟨b, off, none⟩) cb xs ∧ Tch (fun g => g = D) W u) ⟨HLG9.out, HTT9.out⟩ ?_
        clear HLG9 HTT9
        rintro w9 ⟨hlg9, htt9⟩
        have HLG9 := hid hlg9
        have HTT9 := hid htt9
        clear hlg9 htt9
        go_wp2
        go_roundw
        case rel => exact ⟨n + 1, by omega, by go_num, (by rw [HK2.out]; exact HLG9), HTT9⟩
        case measure => simp [intOf]; omega
      · skip
        simp only [gt3]
        go_simp
        refine (HM.out k0 hk0).mono ?_
        rintro e k1 ⟨rfl, hb1⟩
        have hk1 := hk0.trans (hb1.mono hk0.size)
        replace q3 := cellb hb1 q3
        clear hb1
        go_wp2_with fail
        refine hK.out _ _ ?_ (fun hHeld2 => ?_)
        focus
          exact hS _ (Tch.of_below hk1)
        clear hHeld
        have hHeld := hHeld2
        clear hHeld2 hK K
        try simp only [gt6, Act.put]
        refine wpAnyH_ready (rs := [3]) (by kernel_rfl) (by simp) ?_
        refine (AllReadyH.cons rfl (fun K hK => ?_) AllReadyH.nil)
        simp only [gt3]
        go_simp
        refine hK.out _ _ ?_ (fun hHeld2 => ?_)
        focus
          exact hS _ (Tch.of_below hk1)
        clear hHeld
        have hHeld := hHeld2
        clear hHeld2 hK K
        try simp only [gt6, Act.put]
        have HL6 := HL5.out.below hk1
        obtain ⟨_, h0, h1, h2, h3⟩ := four_cells HL6.1
        have hk9 : Tch (fun g => g = L) w5 (k1.setCell ⟨L, 3, none⟩ (.int .i64 (IntKind.i64.wrap ((kp : Int) + (M : Int))))) := (Tch.of_below hk1).set L 3 _ (fun _ => rfl)
        refine tkA 9 ?_ rfl ?_ (by assumption) ?_; rotate_left; focus (intro U hU; (try dsimp only at hU); go_simp; try (with_reducible rfl))
        simp only [gt6, Act.put]
        refine tkA 10 ?_ rfl ?_ (by assumption) ?_; rotate_left; focus (intro U hU; (try dsimp only at hU); go_simp; try (with_reducible rfl))
        simp only [gt6, Act.put]
        refine tkA 11 ?_ rfl ?_ (by assumption) ?_; rotate_left; focus (intro U hU; (try dsimp only at hU); go_simp; try (with_reducible rfl))
        simp only [gt6, Act.put]
        refine wpAnyH_ready (rs := [12]) (by kernel_rfl) (by simp) ?_
        refine (AllReadyH.cons rfl (fun K hK => ?_) AllReadyH.nil)
        simp only [gt3]
        go_simp
        refine hK.out _ _ ?_ (fun hHeld2 => ?_)
        focus
          exact hS _ hk9
        clear hHeld
        have hHeld := hHeld2
        clear hHeld2 hK K
        try simp only [gt6, Act.put]
        refine wpAnyH_done (by kernel_rfl) ?_ _
        have HLG9 := hid (HL6.keptN kp2 (.int .i64 (IntKind.i64.wrap ((kp : Int) + (M : Int)))) (by rw [HWR.out, HTK.out, Int.natCast_add]))
        have HTT9 := hid ((HT5.out.grow hk1).set L 3 (.int .i64 (IntKind.i64.wrap ((kp : Int) + (M : Int)))) (fun h9 => by omega))
        clear hHeld hS hk0 hk1 hk9 HL6 HL5 HT5 HX5 HM q3 g0 g1 g2 g3 h0 h1 h2 h3
        refine at_world (fun u => LgAt u W.heap.size L W.heap.size D ⟨R, kp2, room, l.take (recS l).2, armed, fuse, false⟩ A c els (some ⟨b, off, none⟩) cb xs ∧ Tch (fun g => g = D) W u) ⟨HLG9.out, HTT9.out⟩ ?_
        clear HLG9 HTT9
        rintro w9 ⟨hlg9, htt9⟩
        have HLG9 := hid hlg9
        have HTT9 := hid htt9
        clear hlg9 htt9
        go_wp2
        go_roundw
        case rel => exact ⟨n + 1, by omega, by go_num, (by rw [HK2.out]; exact HLG9), HTT9⟩
        case measure => simp [intOf]; omega
    · have hge : ¬ (n : Int) < (xs.length : Int) := by omega
      obtain rfl : n = xs.length := by omega
      have HL9 := HL
      rw [show (xs.map (·.1)).take xs.length = xs.map (·.1) from List.take_of_length_le (by simp), HX3.out] at HL9
      clear HL
      go_wp2
      go_ret2
      unfold OpenR
      exact ⟨L, W.heap.size, A, c, els, Ab, cb, xs, rfl, HE.out, HX3.out, HL9.out, hWL, Nat.le_refl _, HT.out⟩
end Go.Proofs.YtkepfkfoblocgaaGreat

namespace Go.Proofs.YtkepfkfoblocgaaGreat
open Go.RowKit
set_option linter.unusedVariables false
set_option linter.unusedSimpArgs false

def numQ (j : Int) : Nat := (numB (cl j)).length
/-- What the records of an entry took. -/
def usE (e : En) : Nat := sizeR ⟨1, e.id, 0, 0, 0, 0, e.ns⟩ + e.bd.countP (fun z => z != 0) * (numQ e.id + 9) + e.dn.countP (fun z => z) * (numQ e.id + 7) + (e.ep - 1).toNat * (numQ e.id + 8)
def usB : List En → Nat
  | [] => 0
  | e :: b => usE e + usB b
/-- An entry's Accept is a record. -/
def AcE (e : En) : Prop := chkR ⟨1, e.id, 0, 0, 0, 0, e.ns⟩ = true
theorem size_pos {x : Rc} (h : chkR x = true) : sizeR x ≠ 0 := by
  have h1 := rb_len x h
  unfold sizeR
  rw [if_pos h, frP_len _ (by omega)]
  omega
theorem usE_le {e : En} (ho : OkE e) (ha : AcE e) : usE e ≤ mostR e.id 0 e.ns := by
  obtain ⟨h1, h2, h3, h4, _⟩ := ho
  have hz := size_pos ha
  unfold mostR usE
  rw [if_neg hz]
  have c1 : e.bd.countP (fun z => z != 0) ≤ e.ns.length := h1 ▸ List.countP_le_length
  have c2 : e.dn.countP (fun z => z) ≤ e.ns.length := h2 ▸ List.countP_le_length
  have m1 := Nat.mul_le_mul_right (numQ e.id + 9) c1
  have m2 := Nat.mul_le_mul_right (numQ e.id + 7) c2
  have m3 : (e.ep - 1).toNat * (numQ e.id + 8) ≤ 8 * (numQ e.id + 8) := Nat.mul_le_mul_right _ (by omega)
  have m4 : e.ns.length * ((numB (cl e.id)).length + 9 + (numB (cl e.id)).length + 7) = e.ns.length * (numQ e.id + 9) + e.ns.length * (numQ e.id + 7) := by
    rw [← Nat.mul_add]
    congr 1
  have m5 : (numB (cl e.id)).length = numQ e.id := rfl
  rw [m4, m5]
  omega
theorem usB_le {b : List En} (ho : ∀ e ∈ b, OkE e) (ha : ∀ e ∈ b, AcE e) : usB b ≤ kepB b := by
  induction b with
  | nil => simp [usB, kepB]
  | cons e b ih =>
    have h1 := usE_le (ho e (by simp)) (ha e (by simp))
    have h2 := ih (fun x hx => ho x (by simp [hx])) (fun x hx => ha x (by simp [hx]))
    simp only [usB, kepB]
    omega
theorem kepB_modify (f : En → En) : ∀ (b : List En) (i : Nat) (h : i < b.length), (f b[i]).id = b[i].id → (f b[i]).ns = b[i].ns → kepB (b.modify i f) = kepB b
  | e :: b, 0, _, h1, h2 => by
    simp only [List.getElem_cons_zero] at h1 h2
    simp [kepB, List.modify, h1, h2]
  | e :: b, i + 1, h, h1, h2 => by
    have := kepB_modify f b i (by simpa using h) (by simpa using h1) (by simpa using h2)
    simp only [List.modify_succ_cons, kepB]
    omega
theorem whyT_0 {e : En} {x : Rc} (h : whyT e x = 0) : x.t < (tkB e : Int) ∧ (x.k = 2 → x.e = e.ep ∧ e.bd.getD x.t.toNat 0 = 0) ∧ (x.k = 3 → e.dn.getD x.t.toNat false = false) := by
  unfold whyT at h
  split at h
  · omega
  rename_i h1
  split at h
  · omega
  rename_i h2
  split at h
  · omega
  rename_i h3
  split at h
  · omega
  rename_i h4
  split at h
  · omega
  rename_i h5
  refine ⟨by omega, fun hk => ⟨?_, ?_⟩, fun hk => ?_⟩
  · by_cases h9 : x.e = e.ep
    · exact h9
    · exact absurd ⟨hk, h9⟩ h2
  · by_cases h9 : e.bd.getD x.t.toNat 0 = 0
    · exact h9
    · exact absurd ⟨hk, h9⟩ h3
  · cases h9 : e.dn.getD x.t.toNat false with
    | false => rfl
    | true => exact absurd ⟨hk, h9⟩ h5
theorem cnt_set {α : Type} (p : α → Bool) : ∀ (l : List α) (i : Nat) (v d : α), i < l.length → p (l.getD i d) = false → p v = true → (l.set i v).countP p = l.countP p + 1
  | a :: l, 0, v, d, _, h1, h2 => by
    have h3 : p a = false := by simpa using h1
    simp [List.countP_cons, h2, h3]
  | a :: l, i + 1, v, d, h, h1, h2 => by
    have := cnt_set p l i v d (by simpa using h) (by simpa using h1) h2
    simp only [List.set_cons_succ, List.countP_cons, this]
    omega
theorem chg_us {e : En} {x : Rc} (hx : chkR x = true) (he : OkE e) (hj : x.j = e.id) (hk : x.k ≠ 1) (hw : (if x.k = 4 then (if x.e - 1 ≠ e.ep then (12 : Int) else 0) else whyT e x) = 0) : usE (chgB x e) = usE e + sizeR x ∧ (chgB x e).id = e.id ∧ (chgB x e).ns = e.ns := by
  obtain ⟨h1, h2, h3, h4, _⟩ := he
  obtain ⟨c1, _, c3, c4, _, c6⟩ := chk_parts2 hx
  obtain ⟨_, j1, j2, _⟩ := chkR_parts hx
  obtain ⟨z1, z2, z3⟩ := size_bind x.j j1 j2
  obtain ⟨y1, y2, y3⟩ := chk_bind x.j j1 j2
  have hq : (numB (cl x.j)).length = numQ e.id := by rw [hj]; rfl
  rw [hq] at z1 z2 z3
  rcases c1 with c1 | c1 | c1 | c1
  · exact absurd c1 hk
  · rw [if_neg (by omega)] at hw
    obtain ⟨t1, t2, _⟩ := whyT_0 hw
    have hs : sizeR x = numQ e.id + 9 := (size_same x _ hx y1 c1 hk rfl).trans z1
    have hc : chgB x e = ⟨e.id, e.sc, e.ep, e.ns, e.bd.set x.t.toNat (x.w + 1), e.dn⟩ := by unfold chgB; rw [if_pos c1]
    rw [hc, hs]
    refine ⟨?_, rfl, rfl⟩
    have ht : x.t.toNat < e.bd.length := by unfold tkB at t1; omega
    have hn := cnt_set (fun z : Int => z != 0) e.bd x.t.toNat (x.w + 1) 0 ht (by rw [(t2 c1).2]; rfl) (by
      have : ¬ x.w + 1 = 0 := by omega
      simpa using this)
    simp only [usE, hn, Nat.add_mul]
    omega
  · rw [if_neg (by omega)] at hw
    obtain ⟨t1, _, t3⟩ := whyT_0 hw
    have hs : sizeR x = numQ e.id + 7 := (size_same x _ hx y2 c1 hk rfl).trans z2
    have hc : chgB x e = ⟨e.id, e.sc, e.ep, e.ns, e.bd, e.dn.set x.t.toNat true⟩ := by unfold chgB; rw [if_neg (by omega), if_pos c1]
    rw [hc, hs]
    refine ⟨?_, rfl, rfl⟩
    have ht : x.t.toNat < e.dn.length := by unfold tkB at t1; omega
    have hn := cnt_set (fun z : Bool => z) e.dn x.t.toNat true false ht (t3 c1) rfl
    simp only [usE, hn, Nat.add_mul]
    omega
  · rw [if_pos c1] at hw
    have hep : x.e = e.ep + 1 := by
      by_cases h : x.e - 1 ≠ e.ep
      · rw [if_pos h] at hw; omega
      · omega
    have hs : sizeR x = numQ e.id + 8 := (size_same x _ hx y3 c1 hk rfl).trans z3
    have hc : chgB x e = ⟨e.id, x.s, x.e, e.ns, e.bd, e.dn⟩ := by unfold chgB; rw [if_neg (by omega), if_neg (by omega), if_pos c1]
    rw [hc, hs]
    refine ⟨?_, rfl, rfl⟩
    have hn : (x.e - 1).toNat = (e.ep - 1).toNat + 1 := by omega
    simp only [usE, hn, Nat.add_mul]
    omega
/-- What holds of a ledger to whose disk nobody else writes: its jobs' records have room. -/
structure RmI (s : LgS) (b : List En) : Prop where
  ok : OkB b
  ac : ∀ e ∈ b, AcE e
  room : s.room = s.R
  kp : s.kp = kepB b
  le : kepB b ≤ s.R
  dn : s.down = false
  us : s.l.length = usB b
theorem RmI.len {s : LgS} {b : List En} (h : RmI s b) : s.l.length ≤ s.room := by
  have := usB_le h.ok.2 h.ac
  have := h.us
  have := h.le
  have := h.room
  omega
end Go.Proofs.YtkepfkfoblocgaaGreat

namespace Go.Proofs.YtkepfkfoblocgaaGreat
open Go.RowKit Go.Sort
set_option linter.unusedVariables false
set_option linter.unusedSimpArgs false

/-- What Put leaves, the row's block too. -/
def PutQ (W : World) (B L G D : Nat) (s : LgS) (A : Option Addr) (c : Nat) (els : List El) (xs : List Ee) (x : Rc) (e : Ending) (w' : World) : Prop :=
  e = .returned (.int .i64 (lgE s (xs.map (·.1)) x)) ∧ ∃ A' c' els' Ab' cb' xs', LgAt w' B L G D (lgN s (xs.map (·.1)) x) A' c' els' Ab' cb' xs' ∧ xs'.map (·.1) = (if lgE s (xs.map (·.1)) x = 0 then appB (xs.map (·.1)) x else xs.map (·.1)) ∧ els'.map (·.1) = (if lgE s (xs.map (·.1)) x = 0 then els.map (·.1) ++ [x] else els.map (·.1)) ∧ Tch (LgT L G D A els.length c) W w' ∧ ((Value.slice A' els'.length c').ownBlock = (Value.slice A els.length c).ownBlock ∨ ∀ g, (Value.slice A' els'.length c').ownBlock = some g → W.heap.size ≤ g)
set_option maxRecDepth 20000 in
set_option maxHeartbeats 4000000 in
theorem lpuq_down {B L G D : Nat} {s : LgS} {A : Option Addr} {c : Nat} {els : List El} {Ab : Option Addr} {cb : Nat} {xs : List Ee} (x : Rc) (Ax : Option Addr) (cx : Nat) (W : World) (h : LgAt W B L G D s A c els Ab cb xs) (hx : TxAt W Ax cx x.ns) (hB : B ≤ W.heap.size) (hr : s.room ≤ 65536) (hl : s.l.length ≤ s.room) (hn : els.length ≤ 100000) (hR : s.R ≤ 1000000) (hK : s.kp ≤ 1000000) (hd : s.down = true) :
    Calls Tryz.prog 13 #[.pointer (some ⟨L, 0, none⟩), .agg (rcc x Ax cx)] W (PutQ W B L G D s A c els xs x) := by
  have HV : Hid (lgE s (xs.map (·.1)) x = 15 ∧ lgN s (xs.map (·.1)) x = s) := hid ⟨if_pos hd, if_pos hd⟩
  have HL := hid h
  have HDD := hid hd
  clear h hx hd
  unfold PutQ
  rw [HV.out.1, HV.out.2]
  clear HV
  obtain ⟨k, j, t, wk, sc, ep, ns⟩ := x
  simp only [rcc] at *
  go_enter Tryz.func13, Tryz.ntmps13
  go_upto_region 1 with (fail)
  refine at_world (fun u => u.heap[W.heap.size]? = some (.cells #[.int .i64 k, .int .i64 j, .int .i64 t, .int .i64 wk, .int .i64 sc, .int .i64 ep, .slice Ax ns.length cx] 46 (0, 0)) ∧ Below W.heap.size W u) ⟨heap_alloc_new _ _, (Below.refl _ _).alloc (Nat.le_refl _) _⟩ ?_
  rintro w1 ⟨hx1, hb1⟩
  have HX1 := hid hx1
  have HB1 := hid hb1
  have HL1 := hid (HL.out.below hb1)
  clear hx1 hb1
  obtain ⟨⟨q0, q1, q2, q3⟩, _⟩ := four_cells HL1.out.1
  have HDN := hid (adown_any w1 HL1.out.2.1)
  rw [HDD.out] at HDN
  go_wp2_with fail
  refine HDN.out.mono ?_
  rintro e w2 ⟨rfl, rfl⟩
  clear HDN
  go_wp2
  go_ret
  exact ⟨rfl, A, c, els, Ab, cb, xs, HL1.out, rfl, rfl, Tch.of_below HB1.out, .inl rfl⟩
set_option maxRecDepth 20000 in
set_option maxHeartbeats 4000000 in
theorem lpuq_no {B L G D : Nat} {s : LgS} {A : Option Addr} {c : Nat} {els : List El} {Ab : Option Addr} {cb : Nat} {xs : List Ee} (x : Rc) (Ax : Option Addr) (cx : Nat) (W : World) (h : LgAt W B L G D s A c els Ab cb xs) (hx : TxAt W Ax cx x.ns) (hB : B ≤ W.heap.size) (hr : s.room ≤ 65536) (hl : s.l.length ≤ s.room) (hn : els.length ≤ 100000) (hR : s.R ≤ 1000000) (hK : s.kp ≤ 1000000) (hd : s.down = false) (hw : whyB (xs.map (·.1)) x ≠ 0) :
    Calls Tryz.prog 13 #[.pointer (some ⟨L, 0, none⟩), .agg (rcc x Ax cx)] W (PutQ W B L G D s A c els xs x) := by
  have hd' : ¬ s.down = true := by rw [hd]; simp
  have HV : Hid (lgE s (xs.map (·.1)) x = whyB (xs.map (·.1)) x ∧ lgN s (xs.map (·.1)) x = s) := hid ⟨(if_neg hd').trans (if_pos hw), (if_neg hd').trans (if_pos hw)⟩
  have HL := hid h
  have HDD := hid hd
  have HST0 := hid (fun w (h1 : InBk w Ab cb xs) (h2 : TxAt w Ax cx x.ns) => bstep_no Ab cb xs x Ax cx w h1 h2 hw)
  have HTX := hid hx
  unfold PutQ
  rw [HV.out.1, HV.out.2, if_neg hw, if_neg hw]
  have HNW := hid hw
  clear h hx hd hd' HV hw
  generalize whyB (xs.map (·.1)) x = rv at *
  have hrv : (rv == 0) = false := by simpa using HNW.out
  have hrv2 : ¬ rv = 0 := HNW.out
  obtain ⟨k, j, t, wk, sc, ep, ns⟩ := x
  simp only [rcc] at *
  go_enter Tryz.func13, Tryz.ntmps13
  go_upto_region 1 with (fail)
  refine at_world (fun u => u.heap[W.heap.size]? = some (.cells #[.int .i64 k, .int .i64 j, .int .i64 t, .int .i64 wk, .int .i64 sc, .int .i64 ep, .slice Ax ns.length cx] 46 (0, 0)) ∧ Below W.heap.size W u) ⟨heap_alloc_new _ _, (Below.refl _ _).alloc (Nat.le_refl _) _⟩ ?_
  rintro w1 ⟨hx1, hb1⟩
  have HX1 := hid hx1
  have HB1 := hid hb1
  have HL1 := hid (HL.out.below hb1)
  clear hx1 hb1
  obtain ⟨⟨q0, q1, q2, q3⟩, _⟩ := four_cells HL1.out.1
  have HDN := hid (adown_any w1 HL1.out.2.1)
  rw [HDD.out] at HDN
  go_wp2_with fail
  refine HDN.out.mono ?_
  rintro e w2 ⟨rfl, rfl⟩
  clear HDN
  have HST := hid (fun U (hU : Below w1.heap.size w1 U) => HST0.out U (HL1.out.2.2.1.inBk.below hU) ((HTX.out.below HB1.out).below hU))
  clear HST0
  go_upto_region 5 with (fail)
  clear q0 q1 q2 q3
  have hW1 : W.heap.size < w1.heap.size := lt_of_block HX1.out
  generalize hNN : W.heap.size = N at *
  have HNN := hid hNN
  clear hNN
  have hS : ∀ U, Below w1.heap.size w1 U → ((U.cell? ⟨L, 1, none⟩ = some (.slice Ab xs.length cb) ∧ U.cell? ⟨N, 0, none⟩ = some (.int .i64 k) ∧ U.cell? ⟨N, 1, none⟩ = some (.int .i64 j) ∧ U.cell? ⟨N, 2, none⟩ = some (.int .i64 t) ∧ U.cell? ⟨N, 3, none⟩ = some (.int .i64 wk) ∧ U.cell? ⟨N, 4, none⟩ = some (.int .i64 sc) ∧ U.cell? ⟨N, 5, none⟩ = some (.int .i64 ep) ∧ U.cell? ⟨N, 6, none⟩ = some (.slice Ax ns.length cx)) ∧ Below w1.heap.size w1 U) := fun U hU => ⟨⟨(four_cells (keep0 HL1.out.1 hU)).1.2.1, seven_cells (keep0 HX1.out hU)⟩, hU⟩
  have hk0 : Below w1.heap.size w1 w1.drew := below_drew (Below.refl _ _)
  refine wp_region_held_drew (S := fun U => (U.cell? ⟨L, 1, none⟩ = some (.slice Ab xs.length cb) ∧ U.cell? ⟨N, 0, none⟩ = some (.int .i64 k) ∧ U.cell? ⟨N, 1, none⟩ = some (.int .i64 j) ∧ U.cell? ⟨N, 2, none⟩ = some (.int .i64 t) ∧ U.cell? ⟨N, 3, none⟩ = some (.int .i64 wk) ∧ U.cell? ⟨N, 4, none⟩ = some (.int .i64 sc) ∧ U.cell? ⟨N, 5, none⟩ = some (.int .i64 ep) ∧ U.cell? ⟨N, 6, none⟩ = some (.slice Ax ns.length cx)) ∧ Below w1.heap.size w1 U) (by kernel_rfl) (hS _ hk0) (fun hHeld => ?_)
  generalize w1.drew = k0 at *
  refine tkA 0 ?_ rfl ?_ (by assumption) ?_; rotate_left; focus (intro U hU; (try dsimp only at hU); go_simp; try (with_reducible rfl))
  simp only [gt6, Act.put]
  refine tkA 1 ?_ rfl ?_ (by assumption) ?_; rotate_left; focus (intro U hU; (try dsimp only at hU); go_simp; try (with_reducible rfl))
  simp only [gt6, Act.put]
  refine tkA 2 ?_ rfl ?_ (by assumption) ?_; rotate_left; focus (intro U hU; (try dsimp only at hU); go_simp; try (with_reducible rfl))
  simp only [gt6, Act.put]
  refine tkA 3 ?_ rfl ?_ (by assumption) ?_; rotate_left; focus (intro U hU; (try dsimp only at hU); go_simp; try (with_reducible rfl))
  simp only [gt6, Act.put]
  refine tkA 4 ?_ rfl ?_ (by assumption) ?_; rotate_left; focus (intro U hU; (try dsimp only at hU); go_simp; try (with_reducible rfl))
  simp only [gt6, Act.put]
  refine wpAnyH_ready (rs := [5]) (by kernel_rfl) (by simp) ?_
  refine (AllReadyH.cons rfl (fun K hK => ?_) AllReadyH.nil)
  simp only [gt3]
  go_simp
  refine (HST.out k0 hk0).mono ?_
  rintro e k2 ⟨rfl, hb2⟩
  have hk2 := hk0.trans (hb2.mono hk0.size)
  clear hb2
  go_wp2_with fail
  refine hK.out _ _ ?_ (fun hHeld2 => ?_)
  focus
    exact hS _ hk2
  clear hHeld
  have hHeld := hHeld2
  clear hHeld2 hK K
  try simp only [gt6, Act.put]
  refine tkA 6 ?_ rfl ?_ (by assumption) ?_; rotate_left; focus (intro U hU; (try dsimp only at hU); go_simp; try (with_reducible rfl))
  simp only [gt6, Act.put]
  refine tkA 7 ?_ rfl ?_ (by assumption) ?_; rotate_left; focus (intro U hU; (try dsimp only at hU); go_simp; try (with_reducible rfl))
  simp only [gt6, Act.put]
  refine tkA 8 ?_ rfl ?_ (by assumption) ?_; rotate_left; focus (intro U hU; (try dsimp only at hU); go_simp; try (with_reducible rfl))
  simp only [gt6, Act.put]
  refine tkA 9 ?_ rfl ?_ (by assumption) ?_; rotate_left; focus (intro U hU; (try dsimp only at hU); go_simp; try (with_reducible rfl))
  simp only [gt6, Act.put]
  refine tkA 10 ?_ rfl ?_ (by assumption) ?_; rotate_left; focus (intro U hU; (try dsimp only at hU); go_simp; try (with_reducible rfl))
  simp only [gt6, Act.put]
  refine wpAnyH_done (by kernel_rfl) ?_ _
  have HB5 := hid hk2
  clear hHeld hS hk0 HST
  go_wp2
  go_ret
  have hb9 : Below W.heap.size W k2 := (HNN.out ▸ HB1.out).trans (HB5.out.mono (by have := HNN.out; omega))
  exact ⟨rfl, A, c, els, Ab, cb, xs, HL1.out.below HB5.out, rfl, rfl, Tch.of_below hb9, .inl rfl⟩
set_option maxRecDepth 20000 in
set_option maxHeartbeats 4000000 in
theorem lpuq_full {B L G D : Nat} {s : LgS} {A : Option Addr} {c : Nat} {els : List El} {Ab : Option Addr} {cb : Nat} {xs : List Ee} (x : Rc) (Ax : Option Addr) (cx : Nat) (W : World) (h : LgAt W B L G D s A c els Ab cb xs) (hx : TxAt W Ax cx x.ns) (hB : B ≤ W.heap.size) (hr : s.room ≤ 65536) (hl : s.l.length ≤ s.room) (hn : els.length ≤ 100000) (hR : s.R ≤ 1000000) (hK : s.kp ≤ 1000000) (hd : s.down = false) (hw : whyB (xs.map (·.1)) x = 0) (hk : x.k = 1) (hf : s.R < s.kp + mostR x.j 0 x.ns) :
    Calls Tryz.prog 13 #[.pointer (some ⟨L, 0, none⟩), .agg (rcc x Ax cx)] W (PutQ W B L G D s A c els xs x) := by
  have hd' : ¬ s.down = true := by rw [hd]; simp
  have hw' : ¬ whyB (xs.map (·.1)) x ≠ 0 := fun h9 => h9 hw
  have HV : Hid (lgE s (xs.map (·.1)) x = 7 ∧ lgN s (xs.map (·.1)) x = s) := hid ⟨(if_neg hd').trans ((if_neg hw').trans (if_pos ⟨hk, hf⟩)), (if_neg hd').trans ((if_neg hw').trans (if_pos ⟨hk, hf⟩))⟩
  have HL := hid h
  have HNE := hid h.ne
  have HDD := hid hd
  have HST0 := hid (fun w (h1 : InBk w Ab cb xs) (h2 : TxAt w Ax cx x.ns) => bstep_ok Ab cb xs x Ax cx w h1 h2 (by have := okB_len h.2.2.2; omega) (okB_sm h.2.2.2) hw)
  have HOK : Hid (OkB (appB (xs.map (·.1)) x)) := hid (step_ok h.2.2.2 hw).1
  have HTX := hid hx
  have HMO0 := hid (fun w (h2 : TxAt w Ax cx x.ns) => recmost_any x.j 0 x.ns Ax cx w h2)
  have hM := most_le x.j 0 x.ns
  unfold PutQ
  rw [HV.out.1, HV.out.2]
  rw [if_neg (by decide), if_neg (by decide)]
  clear h hx hd hd' hw hw' HV
  generalize mostR x.j 0 x.ns = M at *
  have hff : (s.R : Int) < (s.kp : Int) + (M : Int) := by omega
  have hwr : wrap64 ((s.kp : Int) + (M : Int)) = (s.kp : Int) + (M : Int) := by simp only [wrap64]; omega
  obtain ⟨k, j, t, wk, sc, ep, ns⟩ := x
  simp only [rcc] at *
  obtain rfl : k = 1 := hk
  go_enter Tryz.func13, Tryz.ntmps13
  go_upto_region 1 with (fail)
  refine at_world (fun u => u.heap[W.heap.size]? = some (.cells #[.int .i64 1, .int .i64 j, .int .i64 t, .int .i64 wk, .int .i64 sc, .int .i64 ep, .slice Ax ns.length cx] 46 (0, 0)) ∧ Below W.heap.size W u) ⟨heap_alloc_new _ _, (Below.refl _ _).alloc (Nat.le_refl _) _⟩ ?_
  rintro w1 ⟨hx1, hb1⟩
  have HX1 := hid hx1
  have HB1 := hid hb1
  have HL1 := hid (HL.out.below hb1)
  clear hx1 hb1
  obtain ⟨⟨q0, q1, q2, q3⟩, _⟩ := four_cells HL1.out.1
  have HDN := hid (adown_any w1 HL1.out.2.1)
  rw [HDD.out] at HDN
  go_wp2_with fail
  refine HDN.out.mono ?_
  rintro e w2 ⟨rfl, rfl⟩
  clear HDN
  have HTX1 := hid (HTX.out.below HB1.out)
  have HST := hid (fun U (hU : Below w1.heap.size w1 U) => HST0.out U (HL1.out.2.2.1.inBk.below hU) (HTX1.out.below hU))
  clear HST0
  go_upto_region 5 with (fail)
  clear q0 q1 q2 q3
  have hW1 : W.heap.size < w1.heap.size := lt_of_block HX1.out
  generalize hNN : W.heap.size = N at *
  have HNN := hid hNN
  clear hNN
  have hS : ∀ U, Below w1.heap.size w1 U → ((U.cell? ⟨L, 1, none⟩ = some (.slice Ab xs.length cb) ∧ U.cell? ⟨N, 0, none⟩ = some (.int .i64 1) ∧ U.cell? ⟨N, 1, none⟩ = some (.int .i64 j) ∧ U.cell? ⟨N, 2, none⟩ = some (.int .i64 t) ∧ U.cell? ⟨N, 3, none⟩ = some (.int .i64 wk) ∧ U.cell? ⟨N, 4, none⟩ = some (.int .i64 sc) ∧ U.cell? ⟨N, 5, none⟩ = some (.int .i64 ep) ∧ U.cell? ⟨N, 6, none⟩ = some (.slice Ax ns.length cx)) ∧ Below w1.heap.size w1 U) := fun U hU => ⟨⟨(four_cells (keep0 HL1.out.1 hU)).1.2.1, seven_cells (keep0 HX1.out hU)⟩, hU⟩
  have hk0 : Below w1.heap.size w1 w1.drew := below_drew (Below.refl _ _)
  refine wp_region_held_drew (S := fun U => (U.cell? ⟨L, 1, none⟩ = some (.slice Ab xs.length cb) ∧ U.cell? ⟨N, 0, none⟩ = some (.int .i64 1) ∧ U.cell? ⟨N, 1, none⟩ = some (.int .i64 j) ∧ U.cell? ⟨N, 2, none⟩ = some (.int .i64 t) ∧ U.cell? ⟨N, 3, none⟩ = some (.int .i64 wk) ∧ U.cell? ⟨N, 4, none⟩ = some (.int .i64 sc) ∧ U.cell? ⟨N, 5, none⟩ = some (.int .i64 ep) ∧ U.cell? ⟨N, 6, none⟩ = some (.slice Ax ns.length cx)) ∧ Below w1.heap.size w1 U) (by kernel_rfl) (hS _ hk0) (fun hHeld => ?_)
  generalize w1.drew = k0 at *
  refine tkA 0 ?_ rfl ?_ (by assumption) ?_; rotate_left; focus (intro U hU; (try dsimp only at hU); go_simp; try (with_reducible rfl))
  simp only [gt6, Act.put]
  refine tkA 1 ?_ rfl ?_ (by assumption) ?_; rotate_left; focus (intro U hU; (try dsimp only at hU); go_simp; try (with_reducible rfl))
  simp only [gt6, Act.put]
  refine tkA 2 ?_ rfl ?_ (by assumption) ?_; rotate_left; focus (intro U hU; (try dsimp only at hU); go_simp; try (with_reducible rfl))
  simp only [gt6, Act.put]
  refine tkA 3 ?_ rfl ?_ (by assumption) ?_; rotate_left; focus (intro U hU; (try dsimp only at hU); go_simp; try (with_reducible rfl))
  simp only [gt6, Act.put]
  refine tkA 4 ?_ rfl ?_ (by assumption) ?_; rotate_left; focus (intro U hU; (try dsimp only at hU); go_simp; try (with_reducible rfl))
  simp only [gt6, Act.put]
  refine wpAnyH_ready (rs := [5]) (by kernel_rfl) (by simp) ?_
  refine (AllReadyH.cons rfl (fun K hK => ?_) AllReadyH.nil)
  simp only [gt3]
  go_simp
  refine (HST.out k0 hk0).mono ?_
  rintro e k2 ⟨A2, c2, xs2, rfl, he2, hr2, hb2⟩
  have hk2 := hk0.trans (hb2.mono hk0.size)
  have HE2 := hid he2
  have HR2 := hid (hr2.mono hk0.size)
  clear hb2 he2 hr2
  go_wp2_with fail
  refine hK.out _ _ ?_ (fun hHeld2 => ?_)
  focus
    exact hS _ hk2
  clear hHeld
  have hHeld := hHeld2
  clear hHeld2 hK K
  try simp only [gt6, Act.put]
  refine tkA 6 ?_ rfl ?_ (by assumption) ?_; rotate_left; focus (intro U hU; (try dsimp only at hU); go_simp; try (with_reducible rfl))
  simp only [gt6, Act.put]
  refine tkA 7 ?_ rfl ?_ (by assumption) ?_; rotate_left; focus (intro U hU; (try dsimp only at hU); go_simp; try (with_reducible rfl))
  simp only [gt6, Act.put]
  refine tkA 8 ?_ rfl ?_ (by assumption) ?_; rotate_left; focus (intro U hU; (try dsimp only at hU); go_simp; try (with_reducible rfl))
  simp only [gt6, Act.put]
  refine tkA 9 ?_ rfl ?_ (by assumption) ?_; rotate_left; focus (intro U hU; (try dsimp only at hU); go_simp; try (with_reducible rfl))
  simp only [gt6, Act.put]
  refine tkA 10 ?_ rfl ?_ (by assumption) ?_; rotate_left; focus (intro U hU; (try dsimp only at hU); go_simp; try (with_reducible rfl))
  simp only [gt6, Act.put]
  refine wpAnyH_done (by kernel_rfl) ?_ _
  have HB5 := hid hk2
  clear hHeld hS hk0 HST
  have HX5 := hid (keep0 HX1.out HB5.out)
  have HL5 := hid (HL1.out.below HB5.out)
  have HTX5 := hid (HTX1.out.below HB5.out)
  have HBW : Hid (Below W.heap.size W k2) := hid ((HNN.out ▸ HB1.out).trans (HB5.out.mono (by have := HNN.out; omega)))
  have hBN : B ≤ N := by have := HNN.out; omega
  have HR5 := hid (HR2.out.mono (show B ≤ w1.heap.size by omega))
  obtain ⟨p0, p1, p2, p3, p4, p5, p6⟩ := seven_cells HX5.out
  clear HX1 HL1 HB5 HTX HTX1 HR2 HB1
  go_wp2_with fail
  refine (HMO0.out k2 HTX5.out).mono ?_
  rintro e w3 ⟨rfl, hb3⟩
  have HX6 := hid (keep0 HX5.out hb3)
  have HL6 := hid (HL5.out.below hb3)
  have HTX6 := hid (HTX5.out.below hb3)
  have HR6 := hid (HR5.out.keep hb3)
  have HBW6 := hid (HBW.out.trans (hb3.mono HBW.out.size))
  clear hb3 HMO0 HX5 HL5 HTX5 HR5 HBW p0 p1 p2 p3 p4 p5 p6
  obtain ⟨⟨q0, q1, q2, q3⟩, _⟩ := four_cells HL6.out.1
  go_upto_region 11 with (fail)
  go_quiet (fail)
  go_wp2
  go_ret
  exact ⟨rfl, A, c, els, Ab, cb, xs, HL6.out.below (below_drewN0 _ _), rfl, rfl, Tch.of_below (HBW6.out.trans ((below_drewN0 _ _).mono HBW6.out.size)), .inl rfl⟩
set_option maxRecDepth 20000 in
set_option maxHeartbeats 4000000 in
theorem lpuq_err1 {B L G D : Nat} {s : LgS} {A : Option Addr} {c : Nat} {els : List El} {Ab : Option Addr} {cb : Nat} {xs : List Ee} (x : Rc) (Ax : Option Addr) (cx : Nat) (W : World) (h : LgAt W B L G D s A c els Ab cb xs) (hx : TxAt W Ax cx x.ns) (hB : B ≤ W.heap.size) (hr : s.room ≤ 65536) (hl : s.l.length ≤ s.room) (hn : els.length ≤ 100000) (hR : s.R ≤ 1000000) (hK : s.kp ≤ 1000000) (hd : s.down = false) (hw : whyB (xs.map (·.1)) x = 0) (hk : x.k = 1) (hf : ¬ s.R < s.kp + mostR x.j 0 x.ns) (hz : ¬ anE s.room s.l s.armed false x = 0) :
    Calls Tryz.prog 13 #[.pointer (some ⟨L, 0, none⟩), .agg (rcc x Ax cx)] W (PutQ W B L G D s A c els xs x) := by
  have hd' : ¬ s.down = true := by rw [hd]; simp
  have hw' : ¬ whyB (xs.map (·.1)) x ≠ 0 := fun h9 => h9 hw
  have hf' : ¬ (x.k = 1 ∧ s.R < s.kp + mostR x.j 0 x.ns) := fun h9 => absurd h9.2 (by omega)
  have HV : Hid (lgE s (xs.map (·.1)) x = anE s.room s.l s.armed false x ∧ lgN s (xs.map (·.1)) x = ⟨s.R, if anE s.room s.l s.armed false x = 0 then s.kp + lgM x else s.kp, s.room, anB s.room s.l s.armed s.fuse false x, anA s.room s.l s.armed false x, s.fuse, if anE s.room s.l s.armed false x = 14 then true else false⟩) := hid ⟨(if_neg hd').trans ((if_neg hw').trans (if_neg hf')), (if_neg hd').trans ((if_neg hw').trans (if_neg hf'))⟩
  have HLM : Hid (lgM x = mostR x.j 0 x.ns) := hid (if_pos hk)
  have HL := hid h
  have HNE := hid h.ne
  have HDD := hid hd
  have HST0 := hid (fun w (h1 : InBk w Ab cb xs) (h2 : TxAt w Ax cx x.ns) => bstep_ok Ab cb xs x Ax cx w h1 h2 (by have := okB_len h.2.2.2; omega) (okB_sm h.2.2.2) hw)
  have HOK : Hid (OkB (appB (xs.map (·.1)) x)) := hid (step_ok h.2.2.2 hw).1
  have HTX := hid hx
  have HMO0 := hid (fun w (h2 : TxAt w Ax cx x.ns) => recmost_any x.j 0 x.ns Ax cx w h2)
  have hM := most_le x.j 0 x.ns
  have HAP := hid (fun w (h1 : AnAt w B G D s.room s.l s.armed s.fuse A c els false) (h2 : TxAt w Ax cx x.ns) (h3 : B ≤ w.heap.size) => aappend_any x Ax cx w h1 h2 h3 h.ne.1 hr hl hn)
  unfold AppR at HAP
  unfold PutQ
  rw [HV.out.1, HV.out.2]
  rw [HLM.out]
  rw [if_neg hz, if_neg hz, if_neg hz]
  simp only [if_neg hz] at HAP
  generalize anB s.room s.l s.armed s.fuse false x = l2 at *
  generalize anA s.room s.l s.armed false x = ar2 at *
  generalize anE s.room s.l s.armed false x = ev at *
  generalize (if ev = 14 then true else false) = dn9 at *
  have hev : (ev == 0) = false := by simpa using hz
  clear h hx hd hd' hw hw' HV hf' HLM
  generalize mostR x.j 0 x.ns = M at *
  have hff : ¬ (s.R : Int) < (s.kp : Int) + (M : Int) := by omega
  have hwr : wrap64 ((s.kp : Int) + (M : Int)) = (s.kp : Int) + (M : Int) := by simp only [wrap64]; omega
  obtain ⟨k, j, t, wk, sc, ep, ns⟩ := x
  simp only [rcc] at *
  obtain rfl : k = 1 := hk
  go_enter Tryz.func13, Tryz.ntmps13
  go_upto_region 1 with (fail)
  refine at_world (fun u => u.heap[W.heap.size]? = some (.cells #[.int .i64 1, .int .i64 j, .int .i64 t, .int .i64 wk, .int .i64 sc, .int .i64 ep, .slice Ax ns.length cx] 46 (0, 0)) ∧ Below W.heap.size W u) ⟨heap_alloc_new _ _, (Below.refl _ _).alloc (Nat.le_refl _) _⟩ ?_
  rintro w1 ⟨hx1, hb1⟩
  have HX1 := hid hx1
  have HB1 := hid hb1
  have HL1 := hid (HL.out.below hb1)
  clear hx1 hb1
  obtain ⟨⟨q0, q1, q2, q3⟩, _⟩ := four_cells HL1.out.1
  have HDN := hid (adown_any w1 HL1.out.2.1)
  rw [HDD.out] at HDN
  go_wp2_with fail
  refine HDN.out.mono ?_
  rintro e w2 ⟨rfl, rfl⟩
  clear HDN
  have HTX1 := hid (HTX.out.below HB1.out)
  have HST := hid (fun U (hU : Below w1.heap.size w1 U) => HST0.out U (HL1.out.2.2.1.inBk.below hU) (HTX1.out.below hU))
  clear HST0
  go_upto_region 5 with (fail)
  clear q0 q1 q2 q3
  have hW1 : W.heap.size < w1.heap.size := lt_of_block HX1.out
  generalize hNN : W.heap.size = N at *
  have HNN := hid hNN
  clear hNN
  have hS : ∀ U, Below w1.heap.size w1 U → ((U.cell? ⟨L, 1, none⟩ = some (.slice Ab xs.length cb) ∧ U.cell? ⟨N, 0, none⟩ = some (.int .i64 1) ∧ U.cell? ⟨N, 1, none⟩ = some (.int .i64 j) ∧ U.cell? ⟨N, 2, none⟩ = some (.int .i64 t) ∧ U.cell? ⟨N, 3, none⟩ = some (.int .i64 wk) ∧ U.cell? ⟨N, 4, none⟩ = some (.int .i64 sc) ∧ U.cell? ⟨N, 5, none⟩ = some (.int .i64 ep) ∧ U.cell? ⟨N, 6, none⟩ = some (.slice Ax ns.length cx)) ∧ Below w1.heap.size w1 U) := fun U hU => ⟨⟨(four_cells (keep0 HL1.out.1 hU)).1.2.1, seven_cells (keep0 HX1.out hU)⟩, hU⟩
  have hk0 : Below w1.heap.size w1 w1.drew := below_drew (Below.refl _ _)
  refine wp_region_held_drew (S := fun U => (U.cell? ⟨L, 1, none⟩ = some (.slice Ab xs.length cb) ∧ U.cell? ⟨N, 0, none⟩ = some (.int .i64 1) ∧ U.cell? ⟨N, 1, none⟩ = some (.int .i64 j) ∧ U.cell? ⟨N, 2, none⟩ = some (.int .i64 t) ∧ U.cell? ⟨N, 3, none⟩ = some (.int .i64 wk) ∧ U.cell? ⟨N, 4, none⟩ = some (.int .i64 sc) ∧ U.cell? ⟨N, 5, none⟩ = some (.int .i64 ep) ∧ U.cell? ⟨N, 6, none⟩ = some (.slice Ax ns.length cx)) ∧ Below w1.heap.size w1 U) (by kernel_rfl) (hS _ hk0) (fun hHeld => ?_)
  generalize w1.drew = k0 at *
  refine tkA 0 ?_ rfl ?_ (by assumption) ?_; rotate_left; focus (intro U hU; (try dsimp only at hU); go_simp; try (with_reducible rfl))
  simp only [gt6, Act.put]
  refine tkA 1 ?_ rfl ?_ (by assumption) ?_; rotate_left; focus (intro U hU; (try dsimp only at hU); go_simp; try (with_reducible rfl))
  simp only [gt6, Act.put]
  refine tkA 2 ?_ rfl ?_ (by assumption) ?_; rotate_left; focus (intro U hU; (try dsimp only at hU); go_simp; try (with_reducible rfl))
  simp only [gt6, Act.put]
  refine tkA 3 ?_ rfl ?_ (by assumption) ?_; rotate_left; focus (intro U hU; (try dsimp only at hU); go_simp; try (with_reducible rfl))
  simp only [gt6, Act.put]
  refine tkA 4 ?_ rfl ?_ (by assumption) ?_; rotate_left; focus (intro U hU; (try dsimp only at hU); go_simp; try (with_reducible rfl))
  simp only [gt6, Act.put]
  refine wpAnyH_ready (rs := [5]) (by kernel_rfl) (by simp) ?_
  refine (AllReadyH.cons rfl (fun K hK => ?_) AllReadyH.nil)
  simp only [gt3]
  go_simp
  refine (HST.out k0 hk0).mono ?_
  rintro e k2 ⟨A2, c2, xs2, rfl, he2, hr2, hb2⟩
  have hk2 := hk0.trans (hb2.mono hk0.size)
  have HE2 := hid he2
  have HR2 := hid (hr2.mono hk0.size)
  clear hb2 he2 hr2
  go_wp2_with fail
  refine hK.out _ _ ?_ (fun hHeld2 => ?_)
  focus
    exact hS _ hk2
  clear hHeld
  have hHeld := hHeld2
  clear hHeld2 hK K
  try simp only [gt6, Act.put]
  refine tkA 6 ?_ rfl ?_ (by assumption) ?_; rotate_left; focus (intro U hU; (try dsimp only at hU); go_simp; try (with_reducible rfl))
  simp only [gt6, Act.put]
  refine tkA 7 ?_ rfl ?_ (by assumption) ?_; rotate_left; focus (intro U hU; (try dsimp only at hU); go_simp; try (with_reducible rfl))
  simp only [gt6, Act.put]
  refine tkA 8 ?_ rfl ?_ (by assumption) ?_; rotate_left; focus (intro U hU; (try dsimp only at hU); go_simp; try (with_reducible rfl))
  simp only [gt6, Act.put]
  refine tkA 9 ?_ rfl ?_ (by assumption) ?_; rotate_left; focus (intro U hU; (try dsimp only at hU); go_simp; try (with_reducible rfl))
  simp only [gt6, Act.put]
  refine tkA 10 ?_ rfl ?_ (by assumption) ?_; rotate_left; focus (intro U hU; (try dsimp only at hU); go_simp; try (with_reducible rfl))
  simp only [gt6, Act.put]
  refine wpAnyH_done (by kernel_rfl) ?_ _
  have HB5 := hid hk2
  clear hHeld hS hk0 HST
  have HX5 := hid (keep0 HX1.out HB5.out)
  have HL5 := hid (HL1.out.below HB5.out)
  have HTX5 := hid (HTX1.out.below HB5.out)
  have HBW : Hid (Below W.heap.size W k2) := hid ((HNN.out ▸ HB1.out).trans (HB5.out.mono (by have := HNN.out; omega)))
  have hBN : B ≤ N := by have := HNN.out; omega
  have HR5 := hid (HR2.out.mono (show B ≤ w1.heap.size by omega))
  obtain ⟨p0, p1, p2, p3, p4, p5, p6⟩ := seven_cells HX5.out
  clear HX1 HL1 HB5 HTX HTX1 HR2 HB1
  go_wp2_with fail
  refine (HMO0.out k2 HTX5.out).mono ?_
  rintro e w3 ⟨rfl, hb3⟩
  have HX6 := hid (keep0 HX5.out hb3)
  have HL6 := hid (HL5.out.below hb3)
  have HTX6 := hid (HTX5.out.below hb3)
  have HR6 := hid (HR5.out.keep hb3)
  have HBW6 := hid (HBW.out.trans (hb3.mono HBW.out.size))
  clear hb3 HMO0 HX5 HL5 HTX5 HR5 HBW p0 p1 p2 p3 p4 p5 p6
  obtain ⟨⟨q0, q1, q2, q3⟩, _⟩ := four_cells HL6.out.1
  go_upto_region 11 with (fail)
  go_quiet (fail)
  go_upto_region 13 with (fail)
  refine at_world (fun u => u.heap[N]? = some (.cells #[.int .i64 1, .int .i64 j, .int .i64 t, .int .i64 wk, .int .i64 sc, .int .i64 ep, .slice Ax ns.length cx] 46 (0, 0)) ∧ LgAt u B L G D s A c els Ab cb xs ∧ TxAt u Ax cx ns ∧ RowBk u B (.slice A2 xs2.length c2) xs2 ∧ Below W.heap.size W u) ⟨keep0 HX6.out (below_drewN0 _ _), HL6.out.below (below_drewN0 _ _), HTX6.out.below (below_drewN0 _ _), HR6.out.keep (below_drewN0 _ _), HBW6.out.trans ((below_drewN0 _ _).mono HBW6.out.size)⟩ ?_
  clear HX6 HL6 HTX6 HR6 HBW6 q0 q1 q2 q3
  rintro w4 ⟨hx6, hl6, htx6, hr6, hbw6⟩
  have HX6 := hid hx6
  have HL6 := hid hl6
  have HTX6 := hid htx6
  have HR6 := hid hr6
  have HBW6 := hid hbw6
  clear hx6 hl6 htx6 hr6 hbw6
  try clear w3
  generalize w4 = w3 at *
  try clear q0 q1 q2 q3
  try clear p0 p1 p2 p3 p4 p5 p6
  have hWN : W.heap.size = N := HNN.out
  have hw3 : N < w3.heap.size := lt_of_block HX6.out
  obtain ⟨hGD, hLD, hLG, hLo, hLl, hGl, hDl⟩ := HNE.out
  have hSL : ¬ (L = D ∨ L = G ∨ (Value.slice A els.length c).ownBlock = some L) := by
    rintro (h9 | h9 | h9)
    · exact hLD h9
    · exact hLG h9
    · exact hLo h9
  have hSN : ¬ (N = D ∨ N = G ∨ (Value.slice A els.length c).ownBlock = some N) := by
    rintro (h9 | h9 | h9)
    · omega
    · omega
    · have h8 := (own_lt HL.out.2.1.2.2.1 N h9).2.1
      omega
  have HSL := hid hSL
  have HHH := hid hw3
  have hS : ∀ U, Tch (fun g => g = D ∨ g = G ∨ (Value.slice A els.length c).ownBlock = some g) w3 U → ((U.cell? ⟨L, 0, none⟩ = some (.pointer (some ⟨G, 0, none⟩)) ∧ U.cell? ⟨N, 0, none⟩ = some (.int .i64 1) ∧ U.cell? ⟨N, 1, none⟩ = some (.int .i64 j) ∧ U.cell? ⟨N, 2, none⟩ = some (.int .i64 t) ∧ U.cell? ⟨N, 3, none⟩ = some (.int .i64 wk) ∧ U.cell? ⟨N, 4, none⟩ = some (.int .i64 sc) ∧ U.cell? ⟨N, 5, none⟩ = some (.int .i64 ep) ∧ U.cell? ⟨N, 6, none⟩ = some (.slice Ax ns.length cx)) ∧ Tch (fun g => g = D ∨ g = G ∨ (Value.slice A els.length c).ownBlock = some g) w3 U) := fun U hU => ⟨⟨(four_cells (hU.block HL6.out.1 hSL)).1.1, seven_cells (hU.block HX6.out hSN)⟩, hU⟩
  clear hSL
  have hk0 : Below w3.heap.size w3 w3.drew := below_drew (Below.refl _ _)
  refine wp_region_held_drew (S := fun U => (U.cell? ⟨L, 0, none⟩ = some (.pointer (some ⟨G, 0, none⟩)) ∧ U.cell? ⟨N, 0, none⟩ = some (.int .i64 1) ∧ U.cell? ⟨N, 1, none⟩ = some (.int .i64 j) ∧ U.cell? ⟨N, 2, none⟩ = some (.int .i64 t) ∧ U.cell? ⟨N, 3, none⟩ = some (.int .i64 wk) ∧ U.cell? ⟨N, 4, none⟩ = some (.int .i64 sc) ∧ U.cell? ⟨N, 5, none⟩ = some (.int .i64 ep) ∧ U.cell? ⟨N, 6, none⟩ = some (.slice Ax ns.length cx)) ∧ Tch (fun g => g = D ∨ g = G ∨ (Value.slice A els.length c).ownBlock = some g) w3 U) (by kernel_rfl) (hS _ (Tch.of_below hk0)) (fun hHeld => ?_)
  have HSZ : Hid (N ≤ w3.drew.heap.size) := hid (by have := hk0.size; omega)
  generalize w3.drew = k5 at *
  refine tkA 0 ?_ rfl ?_ (by assumption) ?_; rotate_left; focus (intro U hU; (try dsimp only at hU); go_simp; try (with_reducible rfl))
  simp only [gt6, Act.put]
  refine tkA 1 ?_ rfl ?_ (by assumption) ?_; rotate_left; focus (intro U hU; (try dsimp only at hU); go_simp; try (with_reducible rfl))
  simp only [gt6, Act.put]
  refine tkA 2 ?_ rfl ?_ (by assumption) ?_; rotate_left; focus (intro U hU; (try dsimp only at hU); go_simp; try (with_reducible rfl))
  simp only [gt6, Act.put]
  refine tkA 3 ?_ rfl ?_ (by assumption) ?_; rotate_left; focus (intro U hU; (try dsimp only at hU); go_simp; try (with_reducible rfl))
  simp only [gt6, Act.put]
  refine tkA 4 ?_ rfl ?_ (by assumption) ?_; rotate_left; focus (intro U hU; (try dsimp only at hU); go_simp; try (with_reducible rfl))
  simp only [gt6, Act.put]
  refine wpAnyH_ready (rs := [5]) (by kernel_rfl) (by simp) ?_
  refine (AllReadyH.cons rfl (fun K hK => ?_) AllReadyH.nil)
  simp only [gt3]
  go_simp
  refine (HAP.out k5 (by have h9 := (HL6.out.below hk0).2.1; rw [HDD.out] at h9; exact h9) (HTX6.out.below hk0) (show B ≤ k5.heap.size by have := hk0.size; omega)).mono ?_
  rintro e k6 ⟨rfl, A4, c4, els4, he4, ha4, ht4, ho4⟩
  have hk6 : Tch (fun g => g = D ∨ g = G ∨ (Value.slice A els.length c).ownBlock = some g) w3 k6 := (Tch.of_below hk0).trans ht4 fun g hg _ => hg
  have HE4 := hid he4
  have HA4 := hid ha4
  have HO4 := hid ho4
  clear he4 ha4 ht4 ho4
  go_wp2_with fail
  refine hK.out _ _ ?_ (fun hHeld2 => ?_)
  focus
    exact hS _ hk6
  clear hHeld
  have hHeld := hHeld2
  clear hHeld2 hK K
  try simp only [gt6, Act.put]
  refine tkA 6 ?_ rfl ?_ (by assumption) ?_; rotate_left; focus (intro U hU; (try dsimp only at hU); go_simp; try (with_reducible rfl))
  simp only [gt6, Act.put]
  refine wpAnyH_done (by kernel_rfl) ?_ _
  have HT7 := hid hk6
  clear hHeld hS hk0 hk6 HAP
  have HG7 := hid (HT7.out.block HL6.out.1 HSL.out)
  have hty : ∀ g, (g = D ∨ g = G ∨ (Value.slice A els.length c).ownBlock = some g) → ∀ cs t fr, w3.heap[g]? = some (.cells cs t fr) → t ≠ 55 ∧ t ≠ 9 ∧ t ≠ 3 ∧ t ≠ 4 := by
    rintro g hg cs t fr hc
    obtain ⟨A9, c9, hd9, _⟩ := HL6.out.2.1.2.1.open
    rcases hg with rfl | rfl | h9
    · rw [hd9] at hc
      injection hc with hc
      injection hc with _ h2
      subst h2
      decide
    · rw [HL6.out.2.1.1] at hc
      injection hc with hc
      injection hc with _ h2
      subst h2
      decide
    · obtain ⟨_, _, cur, h8⟩ := own_lt HL6.out.2.1.2.2.1 g h9
      rw [h8] at hc
      injection hc with hc
      injection hc with _ h2
      subst h2
      decide
  have HTW : Hid (Tch (LgT L G D A els.length c) W k6) := hid ((Tch.of_below (S := LgT L G D A els.length c) HBW6.out).trans HT7.out fun g hg _ => .inr hg)
  have HRB := hid (HL6.out.2.2.1.tch HT7.out hty)
  have HOB := hid HL6.out.2.2.2
  clear hty HL HL6 HX6 HT7 HR6
  go_wp2
  go_ret
  exact ⟨rfl, A4, c4, els4, Ab, cb, xs, ⟨HG7.out, HA4.out, HRB.out, HOB.out⟩, rfl, HE4.out, HTW.out, HO4.out.imp id (fun h9 g hg => by have h8 := h9 g hg; have h7 := HSZ.out; have h6 := HNN.out; omega)⟩
set_option maxRecDepth 20000 in
set_option maxHeartbeats 4000000 in
theorem lpuq_ok1 {B L G D : Nat} {s : LgS} {A : Option Addr} {c : Nat} {els : List El} {Ab : Option Addr} {cb : Nat} {xs : List Ee} (x : Rc) (Ax : Option Addr) (cx : Nat) (W : World) (h : LgAt W B L G D s A c els Ab cb xs) (hx : TxAt W Ax cx x.ns) (hB : B ≤ W.heap.size) (hr : s.room ≤ 65536) (hl : s.l.length ≤ s.room) (hn : els.length ≤ 100000) (hR : s.R ≤ 1000000) (hK : s.kp ≤ 1000000) (hd : s.down = false) (hw : whyB (xs.map (·.1)) x = 0) (hk : x.k = 1) (hf : ¬ s.R < s.kp + mostR x.j 0 x.ns) (hz : anE s.room s.l s.armed false x = 0) :
    Calls Tryz.prog 13 #[.pointer (some ⟨L, 0, none⟩), .agg (rcc x Ax cx)] W (PutQ W B L G D s A c els xs x) := by
  have hd' : ¬ s.down = true := by rw [hd]; simp
  have hw' : ¬ whyB (xs.map (·.1)) x ≠ 0 := fun h9 => h9 hw
  have hf' : ¬ (x.k = 1 ∧ s.R < s.kp + mostR x.j 0 x.ns) := fun h9 => absurd h9.2 (by omega)
  have HV : Hid (lgE s (xs.map (·.1)) x = anE s.room s.l s.armed false x ∧ lgN s (xs.map (·.1)) x = ⟨s.R, if anE s.room s.l s.armed false x = 0 then s.kp + lgM x else s.kp, s.room, anB s.room s.l s.armed s.fuse false x, anA s.room s.l s.armed false x, s.fuse, if anE s.room s.l s.armed false x = 14 then true else false⟩) := hid ⟨(if_neg hd').trans ((if_neg hw').trans (if_neg hf')), (if_neg hd').trans ((if_neg hw').trans (if_neg hf'))⟩
  have HLM : Hid (lgM x = mostR x.j 0 x.ns) := hid (if_pos hk)
  have HL := hid h
  have HNE := hid h.ne
  have HDD := hid hd
  have HST0 := hid (fun w (h1 : InBk w Ab cb xs) (h2 : TxAt w Ax cx x.ns) => bstep_ok Ab cb xs x Ax cx w h1 h2 (by have := okB_len h.2.2.2; omega) (okB_sm h.2.2.2) hw)
  have HOK : Hid (OkB (appB (xs.map (·.1)) x)) := hid (step_ok h.2.2.2 hw).1
  have HTX := hid hx
  have HMO0 := hid (fun w (h2 : TxAt w Ax cx x.ns) => recmost_any x.j 0 x.ns Ax cx w h2)
  have hM := most_le x.j 0 x.ns
  have HAP := hid (fun w (h1 : AnAt w B G D s.room s.l s.armed s.fuse A c els false) (h2 : TxAt w Ax cx x.ns) (h3 : B ≤ w.heap.size) => aappend_any x Ax cx w h1 h2 h3 h.ne.1 hr hl hn)
  unfold AppR at HAP
  unfold PutQ
  rw [HV.out.1, HV.out.2]
  rw [HLM.out]
  rw [hz] at HAP ⊢
  simp only [show ¬ ((0 : Int) = 14) by decide, if_false, if_true] at HAP ⊢
  generalize anB s.room s.l s.armed s.fuse false x = l2 at *
  generalize anA s.room s.l s.armed false x = ar2 at *
  clear h hx hd hd' hw hw' HV hf' HLM hz
  generalize mostR x.j 0 x.ns = M at *
  have hff : ¬ (s.R : Int) < (s.kp : Int) + (M : Int) := by omega
  have hwr : wrap64 ((s.kp : Int) + (M : Int)) = (s.kp : Int) + (M : Int) := by simp only [wrap64]; omega
  obtain ⟨k, j, t, wk, sc, ep, ns⟩ := x
  simp only [rcc] at *
  obtain rfl : k = 1 := hk
  go_enter Tryz.func13, Tryz.ntmps13
  go_upto_region 1 with (fail)
  refine at_world (fun u => u.heap[W.heap.size]? = some (.cells #[.int .i64 1, .int .i64 j, .int .i64 t, .int .i64 wk, .int .i64 sc, .int .i64 ep, .slice Ax ns.length cx] 46 (0, 0)) ∧ Below W.heap.size W u) ⟨heap_alloc_new _ _, (Below.refl _ _).alloc (Nat.le_refl _) _⟩ ?_
  rintro w1 ⟨hx1, hb1⟩
  have HX1 := hid hx1
  have HB1 := hid hb1
  have HL1 := hid (HL.out.below hb1)
  clear hx1 hb1
  obtain ⟨⟨q0, q1, q2, q3⟩, _⟩ := four_cells HL1.out.1
  have HDN := hid (adown_any w1 HL1.out.2.1)
  rw [HDD.out] at HDN
  go_wp2_with fail
  refine HDN.out.mono ?_
  rintro e w2 ⟨rfl, rfl⟩
  clear HDN
  have HTX1 := hid (HTX.out.below HB1.out)
  have HST := hid (fun U (hU : Below w1.heap.size w1 U) => HST0.out U (HL1.out.2.2.1.inBk.below hU) (HTX1.out.below hU))
  clear HST0
  go_upto_region 5 with (fail)
  clear q0 q1 q2 q3
  have hW1 : W.heap.size < w1.heap.size := lt_of_block HX1.out
  generalize hNN : W.heap.size = N at *
  have HNN := hid hNN
  clear hNN
  have hS : ∀ U, Below w1.heap.size w1 U → ((U.cell? ⟨L, 1, none⟩ = some (.slice Ab xs.length cb) ∧ U.cell? ⟨N, 0, none⟩ = some (.int .i64 1) ∧ U.cell? ⟨N, 1, none⟩ = some (.int .i64 j) ∧ U.cell? ⟨N, 2, none⟩ = some (.int .i64 t) ∧ U.cell? ⟨N, 3, none⟩ = some (.int .i64 wk) ∧ U.cell? ⟨N, 4, none⟩ = some (.int .i64 sc) ∧ U.cell? ⟨N, 5, none⟩ = some (.int .i64 ep) ∧ U.cell? ⟨N, 6, none⟩ = some (.slice Ax ns.length cx)) ∧ Below w1.heap.size w1 U) := fun U hU => ⟨⟨(four_cells (keep0 HL1.out.1 hU)).1.2.1, seven_cells (keep0 HX1.out hU)⟩, hU⟩
  have hk0 : Below w1.heap.size w1 w1.drew := below_drew (Below.refl _ _)
  refine wp_region_held_drew (S := fun U => (U.cell? ⟨L, 1, none⟩ = some (.slice Ab xs.length cb) ∧ U.cell? ⟨N, 0, none⟩ = some (.int .i64 1) ∧ U.cell? ⟨N, 1, none⟩ = some (.int .i64 j) ∧ U.cell? ⟨N, 2, none⟩ = some (.int .i64 t) ∧ U.cell? ⟨N, 3, none⟩ = some (.int .i64 wk) ∧ U.cell? ⟨N, 4, none⟩ = some (.int .i64 sc) ∧ U.cell? ⟨N, 5, none⟩ = some (.int .i64 ep) ∧ U.cell? ⟨N, 6, none⟩ = some (.slice Ax ns.length cx)) ∧ Below w1.heap.size w1 U) (by kernel_rfl) (hS _ hk0) (fun hHeld => ?_)
  generalize w1.drew = k0 at *
  refine tkA 0 ?_ rfl ?_ (by assumption) ?_; rotate_left; focus (intro U hU; (try dsimp only at hU); go_simp; try (with_reducible rfl))
  simp only [gt6, Act.put]
  refine tkA 1 ?_ rfl ?_ (by assumption) ?_; rotate_left; focus (intro U hU; (try dsimp only at hU); go_simp; try (with_reducible rfl))
  simp only [gt6, Act.put]
  refine tkA 2 ?_ rfl ?_ (by assumption) ?_; rotate_left; focus (intro U hU; (try dsimp only at hU); go_simp; try (with_reducible rfl))
  simp only [gt6, Act.put]
  refine tkA 3 ?_ rfl ?_ (by assumption) ?_; rotate_left; focus (intro U hU; (try dsimp only at hU); go_simp; try (with_reducible rfl))
  simp only [gt6, Act.put]
  refine tkA 4 ?_ rfl ?_ (by assumption) ?_; rotate_left; focus (intro U hU; (try dsimp only at hU); go_simp; try (with_reducible rfl))
  simp only [gt6, Act.put]
  refine wpAnyH_ready (rs := [5]) (by kernel_rfl) (by simp) ?_
  refine (AllReadyH.cons rfl (fun K hK => ?_) AllReadyH.nil)
  simp only [gt3]
  go_simp
  refine (HST.out k0 hk0).mono ?_
  rintro e k2 ⟨A2, c2, xs2, rfl, he2, hr2, hb2⟩
  have hk2 := hk0.trans (hb2.mono hk0.size)
  have HE2 := hid he2
  have HR2 := hid (hr2.mono hk0.size)
  clear hb2 he2 hr2
  go_wp2_with fail
  refine hK.out _ _ ?_ (fun hHeld2 => ?_)
  focus
    exact hS _ hk2
  clear hHeld
  have hHeld := hHeld2
  clear hHeld2 hK K
  try simp only [gt6, Act.put]
  refine tkA 6 ?_ rfl ?_ (by assumption) ?_; rotate_left; focus (intro U hU; (try dsimp only at hU); go_simp; try (with_reducible rfl))
  simp only [gt6, Act.put]
  refine tkA 7 ?_ rfl ?_ (by assumption) ?_; rotate_left; focus (intro U hU; (try dsimp only at hU); go_simp; try (with_reducible rfl))
  simp only [gt6, Act.put]
  refine tkA 8 ?_ rfl ?_ (by assumption) ?_; rotate_left; focus (intro U hU; (try dsimp only at hU); go_simp; try (with_reducible rfl))
  simp only [gt6, Act.put]
  refine tkA 9 ?_ rfl ?_ (by assumption) ?_; rotate_left; focus (intro U hU; (try dsimp only at hU); go_simp; try (with_reducible rfl))
  simp only [gt6, Act.put]
  refine tkA 10 ?_ rfl ?_ (by assumption) ?_; rotate_left; focus (intro U hU; (try dsimp only at hU); go_simp; try (with_reducible rfl))
  simp only [gt6, Act.put]
  refine wpAnyH_done (by kernel_rfl) ?_ _
  have HB5 := hid hk2
  clear hHeld hS hk0 HST
  have HX5 := hid (keep0 HX1.out HB5.out)
  have HL5 := hid (HL1.out.below HB5.out)
  have HTX5 := hid (HTX1.out.below HB5.out)
  have HBW : Hid (Below W.heap.size W k2) := hid ((HNN.out ▸ HB1.out).trans (HB5.out.mono (by have := HNN.out; omega)))
  have hBN : B ≤ N := by have := HNN.out; omega
  have HR5 := hid (HR2.out.mono (show B ≤ w1.heap.size by omega))
  obtain ⟨p0, p1, p2, p3, p4, p5, p6⟩ := seven_cells HX5.out
  clear HX1 HL1 HB5 HTX HTX1 HR2 HB1
  go_wp2_with fail
  refine (HMO0.out k2 HTX5.out).mono ?_
  rintro e w3 ⟨rfl, hb3⟩
  have HX6 := hid (keep0 HX5.out hb3)
  have HL6 := hid (HL5.out.below hb3)
  have HTX6 := hid (HTX5.out.below hb3)
  have HR6 := hid (HR5.out.keep hb3)
  have HBW6 := hid (HBW.out.trans (hb3.mono HBW.out.size))
  clear hb3 HMO0 HX5 HL5 HTX5 HR5 HBW p0 p1 p2 p3 p4 p5 p6
  obtain ⟨⟨q0, q1, q2, q3⟩, _⟩ := four_cells HL6.out.1
  go_upto_region 11 with (fail)
  go_quiet (fail)
  go_upto_region 13 with (fail)
  refine at_world (fun u => u.heap[N]? = some (.cells #[.int .i64 1, .int .i64 j, .int .i64 t, .int .i64 wk, .int .i64 sc, .int .i64 ep, .slice Ax ns.length cx] 46 (0, 0)) ∧ LgAt u B L G D s A c els Ab cb xs ∧ TxAt u Ax cx ns ∧ RowBk u B (.slice A2 xs2.length c2) xs2 ∧ Below W.heap.size W u) ⟨keep0 HX6.out (below_drewN0 _ _), HL6.out.below (below_drewN0 _ _), HTX6.out.below (below_drewN0 _ _), HR6.out.keep (below_drewN0 _ _), HBW6.out.trans ((below_drewN0 _ _).mono HBW6.out.size)⟩ ?_
  clear HX6 HL6 HTX6 HR6 HBW6 q0 q1 q2 q3
  rintro w4 ⟨hx6, hl6, htx6, hr6, hbw6⟩
  have HX6 := hid hx6
  have HL6 := hid hl6
  have HTX6 := hid htx6
  have HR6 := hid hr6
  have HBW6 := hid hbw6
  clear hx6 hl6 htx6 hr6 hbw6
  try clear w3
  generalize w4 = w3 at *
  try clear q0 q1 q2 q3
  try clear p0 p1 p2 p3 p4 p5 p6
  have hWN : W.heap.size = N := HNN.out
  have hw3 : N < w3.heap.size := lt_of_block HX6.out
  obtain ⟨hGD, hLD, hLG, hLo, hLl, hGl, hDl⟩ := HNE.out
  have hSL : ¬ (L = D ∨ L = G ∨ (Value.slice A els.length c).ownBlock = some L) := by
    rintro (h9 | h9 | h9)
    · exact hLD h9
    · exact hLG h9
    · exact hLo h9
  have hSN : ¬ (N = D ∨ N = G ∨ (Value.slice A els.length c).ownBlock = some N) := by
    rintro (h9 | h9 | h9)
    · omega
    · omega
    · have h8 := (own_lt HL.out.2.1.2.2.1 N h9).2.1
      omega
  have HSL := hid hSL
  have HHH := hid hw3
  have hS : ∀ U, Tch (fun g => g = D ∨ g = G ∨ (Value.slice A els.length c).ownBlock = some g) w3 U → ((U.cell? ⟨L, 0, none⟩ = some (.pointer (some ⟨G, 0, none⟩)) ∧ U.cell? ⟨N, 0, none⟩ = some (.int .i64 1) ∧ U.cell? ⟨N, 1, none⟩ = some (.int .i64 j) ∧ U.cell? ⟨N, 2, none⟩ = some (.int .i64 t) ∧ U.cell? ⟨N, 3, none⟩ = some (.int .i64 wk) ∧ U.cell? ⟨N, 4, none⟩ = some (.int .i64 sc) ∧ U.cell? ⟨N, 5, none⟩ = some (.int .i64 ep) ∧ U.cell? ⟨N, 6, none⟩ = some (.slice Ax ns.length cx)) ∧ Tch (fun g => g = D ∨ g = G ∨ (Value.slice A els.length c).ownBlock = some g) w3 U) := fun U hU => ⟨⟨(four_cells (hU.block HL6.out.1 hSL)).1.1, seven_cells (hU.block HX6.out hSN)⟩, hU⟩
  clear hSL
  have hk0 : Below w3.heap.size w3 w3.drew := below_drew (Below.refl _ _)
  refine wp_region_held_drew (S := fun U => (U.cell? ⟨L, 0, none⟩ = some (.pointer (some ⟨G, 0, none⟩)) ∧ U.cell? ⟨N, 0, none⟩ = some (.int .i64 1) ∧ U.cell? ⟨N, 1, none⟩ = some (.int .i64 j) ∧ U.cell? ⟨N, 2, none⟩ = some (.int .i64 t) ∧ U.cell? ⟨N, 3, none⟩ = some (.int .i64 wk) ∧ U.cell? ⟨N, 4, none⟩ = some (.int .i64 sc) ∧ U.cell? ⟨N, 5, none⟩ = some (.int .i64 ep) ∧ U.cell? ⟨N, 6, none⟩ = some (.slice Ax ns.length cx)) ∧ Tch (fun g => g = D ∨ g = G ∨ (Value.slice A els.length c).ownBlock = some g) w3 U) (by kernel_rfl) (hS _ (Tch.of_below hk0)) (fun hHeld => ?_)
  have HSZ : Hid (N ≤ w3.drew.heap.size) := hid (by have := hk0.size; omega)
  generalize w3.drew = k5 at *
  refine tkA 0 ?_ rfl ?_ (by assumption) ?_; rotate_left; focus (intro U hU; (try dsimp only at hU); go_simp; try (with_reducible rfl))
  simp only [gt6, Act.put]
  refine tkA 1 ?_ rfl ?_ (by assumption) ?_; rotate_left; focus (intro U hU; (try dsimp only at hU); go_simp; try (with_reducible rfl))
  simp only [gt6, Act.put]
  refine tkA 2 ?_ rfl ?_ (by assumption) ?_; rotate_left; focus (intro U hU; (try dsimp only at hU); go_simp; try (with_reducible rfl))
  simp only [gt6, Act.put]
  refine tkA 3 ?_ rfl ?_ (by assumption) ?_; rotate_left; focus (intro U hU; (try dsimp only at hU); go_simp; try (with_reducible rfl))
  simp only [gt6, Act.put]
  refine tkA 4 ?_ rfl ?_ (by assumption) ?_; rotate_left; focus (intro U hU; (try dsimp only at hU); go_simp; try (with_reducible rfl))
  simp only [gt6, Act.put]
  refine wpAnyH_ready (rs := [5]) (by kernel_rfl) (by simp) ?_
  refine (AllReadyH.cons rfl (fun K hK => ?_) AllReadyH.nil)
  simp only [gt3]
  go_simp
  refine (HAP.out k5 (by have h9 := (HL6.out.below hk0).2.1; rw [HDD.out] at h9; exact h9) (HTX6.out.below hk0) (show B ≤ k5.heap.size by have := hk0.size; omega)).mono ?_
  rintro e k6 ⟨rfl, A4, c4, els4, he4, ha4, ht4, ho4⟩
  have hk6 : Tch (fun g => g = D ∨ g = G ∨ (Value.slice A els.length c).ownBlock = some g) w3 k6 := (Tch.of_below hk0).trans ht4 fun g hg _ => hg
  have HE4 := hid he4
  have HA4 := hid ha4
  have HO4 := hid ho4
  clear he4 ha4 ht4 ho4
  go_wp2_with fail
  refine hK.out _ _ ?_ (fun hHeld2 => ?_)
  focus
    exact hS _ hk6
  clear hHeld
  have hHeld := hHeld2
  clear hHeld2 hK K
  try simp only [gt6, Act.put]
  refine tkA 6 ?_ rfl ?_ (by assumption) ?_; rotate_left; focus (intro U hU; (try dsimp only at hU); go_simp; try (with_reducible rfl))
  simp only [gt6, Act.put]
  refine wpAnyH_done (by kernel_rfl) ?_ _
  have HT7 := hid hk6
  clear hHeld hS hk0 hk6 HAP
  have HG7 := hid (HT7.out.block HL6.out.1 HSL.out)
  have hty : ∀ g, (g = D ∨ g = G ∨ (Value.slice A els.length c).ownBlock = some g) → ∀ cs t fr, w3.heap[g]? = some (.cells cs t fr) → t ≠ 55 ∧ t ≠ 9 ∧ t ≠ 3 ∧ t ≠ 4 := by
    rintro g hg cs t fr hc
    obtain ⟨A9, c9, hd9, _⟩ := HL6.out.2.1.2.1.open
    rcases hg with rfl | rfl | h9
    · rw [hd9] at hc
      injection hc with hc
      injection hc with _ h2
      subst h2
      decide
    · rw [HL6.out.2.1.1] at hc
      injection hc with hc
      injection hc with _ h2
      subst h2
      decide
    · obtain ⟨_, _, cur, h8⟩ := own_lt HL6.out.2.1.2.2.1 g h9
      rw [h8] at hc
      injection hc with hc
      injection hc with _ h2
      subst h2
      decide
  have HTW : Hid (Tch (LgT L G D A els.length c) W k6) := hid ((Tch.of_below (S := LgT L G D A els.length c) HBW6.out).trans HT7.out fun g hg _ => .inr hg)
  have HRB := hid (HR6.out.tch HT7.out hty)
  clear hty HL HL6 HX6 HT7 HR6
  obtain ⟨⟨q0, q1, q2, q3⟩, g0, g1, g2, g3⟩ := four_cells HG7.out
  have HTS := tch_set k6 L 1 (.slice A2 xs2.length c2)
  have HG8 : Hid ((k6.setCell ⟨L, 1, none⟩ (.slice A2 xs2.length c2)).heap[L]? = some (.cells #[.pointer (some ⟨G, 0, none⟩), .slice A2 xs2.length c2, .int .i64 (s.R : Int), .int .i64 (s.kp : Int)] 81 (0, 0))) := hid (by rw [heap_setCell_same k6 L 1 _ _ (.slice A2 xs2.length c2) HG7.out]; rfl)
  have HA8 := hid (AnAt.apartL HA4.out HG7.out HNE.out.2.1.symm HNE.out.2.2.1.symm HTS)
  have HRB8 := hid (HRB.out.apart HG7.out (by decide) (by decide) (by decide) (by decide) HTS)
  have HTW8 := hid (HTW.out.trans HTS fun g hg _ => .inl hg)
  clear HTS HRB HA4 HG7 HTW
  go_upto_region 17 with (fail)
  generalize k6.setCell ⟨L, 1, none⟩ (.slice A2 xs2.length c2) = k8 at *
  clear q0 q1 q2 q3 g0 g1 g2 g3
  obtain ⟨⟨q0, q1, q2, q3⟩, g0, g1, g2, g3⟩ := four_cells HG8.out
  have HTS := tch_set k8 L 3 (.int .i64 ((s.kp : Int) + (M : Int)))
  have HG9 : Hid ((k8.setCell ⟨L, 3, none⟩ (.int .i64 ((s.kp : Int) + (M : Int)))).heap[L]? = some (.cells #[.pointer (some ⟨G, 0, none⟩), .slice A2 xs2.length c2, .int .i64 (s.R : Int), .int .i64 ((s.kp + M : Nat) : Int)] 81 (0, 0))) := hid (by rw [heap_setCell_same k8 L 3 _ _ (.int .i64 ((s.kp : Int) + (M : Int))) HG8.out]; rfl)
  have HA9 := hid (AnAt.apartL HA8.out HG8.out HNE.out.2.1.symm HNE.out.2.2.1.symm HTS)
  have HRB9 := hid (HRB8.out.apart HG8.out (by decide) (by decide) (by decide) (by decide) HTS)
  have HTW9 := hid (HTW8.out.trans HTS fun g hg _ => .inl hg)
  clear HTS HRB8 HA8 HG8 HTW8
  have HOB : Hid (OkB (xs2.map (·.1))) := hid (HE2.out ▸ HOK.out)
  go_wp2
  go_ret
  exact ⟨rfl, A4, c4, els4, A2, c2, xs2, ⟨HG9.out, HA9.out, HRB9.out, HOB.out⟩, HE2.out, HE4.out, HTW9.out, HO4.out.imp id (fun h9 g hg => by have h8 := h9 g hg; have h7 := HSZ.out; have h6 := HNN.out; omega)⟩
set_option maxRecDepth 20000 in
set_option maxHeartbeats 4000000 in
theorem lpuq_err0 {B L G D : Nat} {s : LgS} {A : Option Addr} {c : Nat} {els : List El} {Ab : Option Addr} {cb : Nat} {xs : List Ee} (x : Rc) (Ax : Option Addr) (cx : Nat) (W : World) (h : LgAt W B L G D s A c els Ab cb xs) (hx : TxAt W Ax cx x.ns) (hB : B ≤ W.heap.size) (hr : s.room ≤ 65536) (hl : s.l.length ≤ s.room) (hn : els.length ≤ 100000) (hR : s.R ≤ 1000000) (hK : s.kp ≤ 1000000) (hd : s.down = false) (hw : whyB (xs.map (·.1)) x = 0) (hk : ¬ x.k = 1) (hz : ¬ anE s.room s.l s.armed false x = 0) :
    Calls Tryz.prog 13 #[.pointer (some ⟨L, 0, none⟩), .agg (rcc x Ax cx)] W (PutQ W B L G D s A c els xs x) := by
  have hd' : ¬ s.down = true := by rw [hd]; simp
  have hw' : ¬ whyB (xs.map (·.1)) x ≠ 0 := fun h9 => h9 hw
  have hf' : ¬ (x.k = 1 ∧ s.R < s.kp + mostR x.j 0 x.ns) := fun h9 => hk h9.1
  have HV : Hid (lgE s (xs.map (·.1)) x = anE s.room s.l s.armed false x ∧ lgN s (xs.map (·.1)) x = ⟨s.R, if anE s.room s.l s.armed false x = 0 then s.kp + lgM x else s.kp, s.room, anB s.room s.l s.armed s.fuse false x, anA s.room s.l s.armed false x, s.fuse, if anE s.room s.l s.armed false x = 14 then true else false⟩) := hid ⟨(if_neg hd').trans ((if_neg hw').trans (if_neg hf')), (if_neg hd').trans ((if_neg hw').trans (if_neg hf'))⟩
  have HLM : Hid (lgM x = 0) := hid (if_neg hk)
  have HL := hid h
  have HNE := hid h.ne
  have HDD := hid hd
  have HST0 := hid (fun w (h1 : InBk w Ab cb xs) (h2 : TxAt w Ax cx x.ns) => bstep_ok Ab cb xs x Ax cx w h1 h2 (by have := okB_len h.2.2.2; omega) (okB_sm h.2.2.2) hw)
  have HOK : Hid (OkB (appB (xs.map (·.1)) x)) := hid (step_ok h.2.2.2 hw).1
  have HTX := hid hx
  have HAP := hid (fun w (h1 : AnAt w B G D s.room s.l s.armed s.fuse A c els false) (h2 : TxAt w Ax cx x.ns) (h3 : B ≤ w.heap.size) => aappend_any x Ax cx w h1 h2 h3 h.ne.1 hr hl hn)
  unfold AppR at HAP
  unfold PutQ
  rw [HV.out.1, HV.out.2]
  rw [HLM.out]
  rw [if_neg hz, if_neg hz, if_neg hz]
  simp only [if_neg hz] at HAP
  generalize anB s.room s.l s.armed s.fuse false x = l2 at *
  generalize anA s.room s.l s.armed false x = ar2 at *
  generalize anE s.room s.l s.armed false x = ev at *
  generalize (if ev = 14 then true else false) = dn9 at *
  have hev : (ev == 0) = false := by simpa using hz
  clear h hx hd hd' hw hw' HV hf' HLM
  obtain ⟨k, j, t, wk, sc, ep, ns⟩ := x
  simp only [rcc] at *
  have hk1 : (k == 1) = false := by simpa using hk
  go_enter Tryz.func13, Tryz.ntmps13
  go_upto_region 1 with (fail)
  refine at_world (fun u => u.heap[W.heap.size]? = some (.cells #[.int .i64 k, .int .i64 j, .int .i64 t, .int .i64 wk, .int .i64 sc, .int .i64 ep, .slice Ax ns.length cx] 46 (0, 0)) ∧ Below W.heap.size W u) ⟨heap_alloc_new _ _, (Below.refl _ _).alloc (Nat.le_refl _) _⟩ ?_
  rintro w1 ⟨hx1, hb1⟩
  have HX1 := hid hx1
  have HB1 := hid hb1
  have HL1 := hid (HL.out.below hb1)
  clear hx1 hb1
  obtain ⟨⟨q0, q1, q2, q3⟩, _⟩ := four_cells HL1.out.1
  have HDN := hid (adown_any w1 HL1.out.2.1)
  rw [HDD.out] at HDN
  go_wp2_with fail
  refine HDN.out.mono ?_
  rintro e w2 ⟨rfl, rfl⟩
  clear HDN
  have HTX1 := hid (HTX.out.below HB1.out)
  have HST := hid (fun U (hU : Below w1.heap.size w1 U) => HST0.out U (HL1.out.2.2.1.inBk.below hU) (HTX1.out.below hU))
  clear HST0
  go_upto_region 5 with (fail)
  clear q0 q1 q2 q3
  have hW1 : W.heap.size < w1.heap.size := lt_of_block HX1.out
  generalize hNN : W.heap.size = N at *
  have HNN := hid hNN
  clear hNN
  have hS : ∀ U, Below w1.heap.size w1 U → ((U.cell? ⟨L, 1, none⟩ = some (.slice Ab xs.length cb) ∧ U.cell? ⟨N, 0, none⟩ = some (.int .i64 k) ∧ U.cell? ⟨N, 1, none⟩ = some (.int .i64 j) ∧ U.cell? ⟨N, 2, none⟩ = some (.int .i64 t) ∧ U.cell? ⟨N, 3, none⟩ = some (.int .i64 wk) ∧ U.cell? ⟨N, 4, none⟩ = some (.int .i64 sc) ∧ U.cell? ⟨N, 5, none⟩ = some (.int .i64 ep) ∧ U.cell? ⟨N, 6, none⟩ = some (.slice Ax ns.length cx)) ∧ Below w1.heap.size w1 U) := fun U hU => ⟨⟨(four_cells (keep0 HL1.out.1 hU)).1.2.1, seven_cells (keep0 HX1.out hU)⟩, hU⟩
  have hk0 : Below w1.heap.size w1 w1.drew := below_drew (Below.refl _ _)
  refine wp_region_held_drew (S := fun U => (U.cell? ⟨L, 1, none⟩ = some (.slice Ab xs.length cb) ∧ U.cell? ⟨N, 0, none⟩ = some (.int .i64 k) ∧ U.cell? ⟨N, 1, none⟩ = some (.int .i64 j) ∧ U.cell? ⟨N, 2, none⟩ = some (.int .i64 t) ∧ U.cell? ⟨N, 3, none⟩ = some (.int .i64 wk) ∧ U.cell? ⟨N, 4, none⟩ = some (.int .i64 sc) ∧ U.cell? ⟨N, 5, none⟩ = some (.int .i64 ep) ∧ U.cell? ⟨N, 6, none⟩ = some (.slice Ax ns.length cx)) ∧ Below w1.heap.size w1 U) (by kernel_rfl) (hS _ hk0) (fun hHeld => ?_)
  generalize w1.drew = k0 at *
  refine tkA 0 ?_ rfl ?_ (by assumption) ?_; rotate_left; focus (intro U hU; (try dsimp only at hU); go_simp; try (with_reducible rfl))
  simp only [gt6, Act.put]
  refine tkA 1 ?_ rfl ?_ (by assumption) ?_; rotate_left; focus (intro U hU; (try dsimp only at hU); go_simp; try (with_reducible rfl))
  simp only [gt6, Act.put]
  refine tkA 2 ?_ rfl ?_ (by assumption) ?_; rotate_left; focus (intro U hU; (try dsimp only at hU); go_simp; try (with_reducible rfl))
  simp only [gt6, Act.put]
  refine tkA 3 ?_ rfl ?_ (by assumption) ?_; rotate_left; focus (intro U hU; (try dsimp only at hU); go_simp; try (with_reducible rfl))
  simp only [gt6, Act.put]
  refine tkA 4 ?_ rfl ?_ (by assumption) ?_; rotate_left; focus (intro U hU; (try dsimp only at hU); go_simp; try (with_reducible rfl))
  simp only [gt6, Act.put]
  refine wpAnyH_ready (rs := [5]) (by kernel_rfl) (by simp) ?_
  refine (AllReadyH.cons rfl (fun K hK => ?_) AllReadyH.nil)
  simp only [gt3]
  go_simp
  refine (HST.out k0 hk0).mono ?_
  rintro e k2 ⟨A2, c2, xs2, rfl, he2, hr2, hb2⟩
  have hk2 := hk0.trans (hb2.mono hk0.size)
  have HE2 := hid he2
  have HR2 := hid (hr2.mono hk0.size)
  clear hb2 he2 hr2
  go_wp2_with fail
  refine hK.out _ _ ?_ (fun hHeld2 => ?_)
  focus
    exact hS _ hk2
  clear hHeld
  have hHeld := hHeld2
  clear hHeld2 hK K
  try simp only [gt6, Act.put]
  refine tkA 6 ?_ rfl ?_ (by assumption) ?_; rotate_left; focus (intro U hU; (try dsimp only at hU); go_simp; try (with_reducible rfl))
  simp only [gt6, Act.put]
  refine tkA 7 ?_ rfl ?_ (by assumption) ?_; rotate_left; focus (intro U hU; (try dsimp only at hU); go_simp; try (with_reducible rfl))
  simp only [gt6, Act.put]
  refine tkA 8 ?_ rfl ?_ (by assumption) ?_; rotate_left; focus (intro U hU; (try dsimp only at hU); go_simp; try (with_reducible rfl))
  simp only [gt6, Act.put]
  refine tkA 9 ?_ rfl ?_ (by assumption) ?_; rotate_left; focus (intro U hU; (try dsimp only at hU); go_simp; try (with_reducible rfl))
  simp only [gt6, Act.put]
  refine tkA 10 ?_ rfl ?_ (by assumption) ?_; rotate_left; focus (intro U hU; (try dsimp only at hU); go_simp; try (with_reducible rfl))
  simp only [gt6, Act.put]
  refine wpAnyH_done (by kernel_rfl) ?_ _
  have HB5 := hid hk2
  clear hHeld hS hk0 HST
  have HX5 := hid (keep0 HX1.out HB5.out)
  have HL5 := hid (HL1.out.below HB5.out)
  have HTX5 := hid (HTX1.out.below HB5.out)
  have HBW : Hid (Below W.heap.size W k2) := hid ((HNN.out ▸ HB1.out).trans (HB5.out.mono (by have := HNN.out; omega)))
  have hBN : B ≤ N := by have := HNN.out; omega
  have HR5 := hid (HR2.out.mono (show B ≤ w1.heap.size by omega))
  obtain ⟨p0, p1, p2, p3, p4, p5, p6⟩ := seven_cells HX5.out
  clear HX1 HL1 HB5 HTX HTX1 HR2 HB1
  have HX6 := HX5
  have HL6 := HL5
  have HTX6 := HTX5
  have HR6 := HR5
  have HBW6 := HBW
  clear HX5 HL5 HTX5 HR5 HBW
  generalize k2 = w3 at *
  go_upto_region 13 with (fail)
  try clear q0 q1 q2 q3
  try clear p0 p1 p2 p3 p4 p5 p6
  have hWN : W.heap.size = N := HNN.out
  have hw3 : N < w3.heap.size := lt_of_block HX6.out
  obtain ⟨hGD, hLD, hLG, hLo, hLl, hGl, hDl⟩ := HNE.out
  have hSL : ¬ (L = D ∨ L = G ∨ (Value.slice A els.length c).ownBlock = some L) := by
    rintro (h9 | h9 | h9)
    · exact hLD h9
    · exact hLG h9
    · exact hLo h9
  have hSN : ¬ (N = D ∨ N = G ∨ (Value.slice A els.length c).ownBlock = some N) := by
    rintro (h9 | h9 | h9)
    · omega
    · omega
    · have h8 := (own_lt HL.out.2.1.2.2.1 N h9).2.1
      omega
  have HSL := hid hSL
  have HHH := hid hw3
  have hS : ∀ U, Tch (fun g => g = D ∨ g = G ∨ (Value.slice A els.length c).ownBlock = some g) w3 U → ((U.cell? ⟨L, 0, none⟩ = some (.pointer (some ⟨G, 0, none⟩)) ∧ U.cell? ⟨N, 0, none⟩ = some (.int .i64 k) ∧ U.cell? ⟨N, 1, none⟩ = some (.int .i64 j) ∧ U.cell? ⟨N, 2, none⟩ = some (.int .i64 t) ∧ U.cell? ⟨N, 3, none⟩ = some (.int .i64 wk) ∧ U.cell? ⟨N, 4, none⟩ = some (.int .i64 sc) ∧ U.cell? ⟨N, 5, none⟩ = some (.int .i64 ep) ∧ U.cell? ⟨N, 6, none⟩ = some (.slice Ax ns.length cx)) ∧ Tch (fun g => g = D ∨ g = G ∨ (Value.slice A els.length c).ownBlock = some g) w3 U) := fun U hU => ⟨⟨(four_cells (hU.block HL6.out.1 hSL)).1.1, seven_cells (hU.block HX6.out hSN)⟩, hU⟩
  clear hSL
  have hk0 : Below w3.heap.size w3 w3.drew := below_drew (Below.refl _ _)
  refine wp_region_held_drew (S := fun U => (U.cell? ⟨L, 0, none⟩ = some (.pointer (some ⟨G, 0, none⟩)) ∧ U.cell? ⟨N, 0, none⟩ = some (.int .i64 k) ∧ U.cell? ⟨N, 1, none⟩ = some (.int .i64 j) ∧ U.cell? ⟨N, 2, none⟩ = some (.int .i64 t) ∧ U.cell? ⟨N, 3, none⟩ = some (.int .i64 wk) ∧ U.cell? ⟨N, 4, none⟩ = some (.int .i64 sc) ∧ U.cell? ⟨N, 5, none⟩ = some (.int .i64 ep) ∧ U.cell? ⟨N, 6, none⟩ = some (.slice Ax ns.length cx)) ∧ Tch (fun g => g = D ∨ g = G ∨ (Value.slice A els.length c).ownBlock = some g) w3 U) (by kernel_rfl) (hS _ (Tch.of_below hk0)) (fun hHeld => ?_)
  have HSZ : Hid (N ≤ w3.drew.heap.size) := hid (by have := hk0.size; omega)
  generalize w3.drew = k5 at *
  refine tkA 0 ?_ rfl ?_ (by assumption) ?_; rotate_left; focus (intro U hU; (try dsimp only at hU); go_simp; try (with_reducible rfl))
  simp only [gt6, Act.put]
  refine tkA 1 ?_ rfl ?_ (by assumption) ?_; rotate_left; focus (intro U hU; (try dsimp only at hU); go_simp; try (with_reducible rfl))
  simp only [gt6, Act.put]
  refine tkA 2 ?_ rfl ?_ (by assumption) ?_; rotate_left; focus (intro U hU; (try dsimp only at hU); go_simp; try (with_reducible rfl))
  simp only [gt6, Act.put]
  refine tkA 3 ?_ rfl ?_ (by assumption) ?_; rotate_left; focus (intro U hU; (try dsimp only at hU); go_simp; try (with_reducible rfl))
  simp only [gt6, Act.put]
  refine tkA 4 ?_ rfl ?_ (by assumption) ?_; rotate_left; focus (intro U hU; (try dsimp only at hU); go_simp; try (with_reducible rfl))
  simp only [gt6, Act.put]
  refine wpAnyH_ready (rs := [5]) (by kernel_rfl) (by simp) ?_
  refine (AllReadyH.cons rfl (fun K hK => ?_) AllReadyH.nil)
  simp only [gt3]
  go_simp
  refine (HAP.out k5 (by have h9 := (HL6.out.below hk0).2.1; rw [HDD.out] at h9; exact h9) (HTX6.out.below hk0) (show B ≤ k5.heap.size by have := hk0.size; omega)).mono ?_
  rintro e k6 ⟨rfl, A4, c4, els4, he4, ha4, ht4, ho4⟩
  have hk6 : Tch (fun g => g = D ∨ g = G ∨ (Value.slice A els.length c).ownBlock = some g) w3 k6 := (Tch.of_below hk0).trans ht4 fun g hg _ => hg
  have HE4 := hid he4
  have HA4 := hid ha4
  have HO4 := hid ho4
  clear he4 ha4 ht4 ho4
  go_wp2_with fail
  refine hK.out _ _ ?_ (fun hHeld2 => ?_)
  focus
    exact hS _ hk6
  clear hHeld
  have hHeld := hHeld2
  clear hHeld2 hK K
  try simp only [gt6, Act.put]
  refine tkA 6 ?_ rfl ?_ (by assumption) ?_; rotate_left; focus (intro U hU; (try dsimp only at hU); go_simp; try (with_reducible rfl))
  simp only [gt6, Act.put]
  refine wpAnyH_done (by kernel_rfl) ?_ _
  have HT7 := hid hk6
  clear hHeld hS hk0 hk6 HAP
  have HG7 := hid (HT7.out.block HL6.out.1 HSL.out)
  have hty : ∀ g, (g = D ∨ g = G ∨ (Value.slice A els.length c).ownBlock = some g) → ∀ cs t fr, w3.heap[g]? = some (.cells cs t fr) → t ≠ 55 ∧ t ≠ 9 ∧ t ≠ 3 ∧ t ≠ 4 := by
    rintro g hg cs t fr hc
    obtain ⟨A9, c9, hd9, _⟩ := HL6.out.2.1.2.1.open
    rcases hg with rfl | rfl | h9
    · rw [hd9] at hc
      injection hc with hc
      injection hc with _ h2
      subst h2
      decide
    · rw [HL6.out.2.1.1] at hc
      injection hc with hc
      injection hc with _ h2
      subst h2
      decide
    · obtain ⟨_, _, cur, h8⟩ := own_lt HL6.out.2.1.2.2.1 g h9
      rw [h8] at hc
      injection hc with hc
      injection hc with _ h2
      subst h2
      decide
  have HTW : Hid (Tch (LgT L G D A els.length c) W k6) := hid ((Tch.of_below (S := LgT L G D A els.length c) HBW6.out).trans HT7.out fun g hg _ => .inr hg)
  have HRB := hid (HL6.out.2.2.1.tch HT7.out hty)
  have HOB := hid HL6.out.2.2.2
  clear hty HL HL6 HX6 HT7 HR6
  go_wp2
  go_ret
  exact ⟨rfl, A4, c4, els4, Ab, cb, xs, ⟨HG7.out, HA4.out, HRB.out, HOB.out⟩, rfl, HE4.out, HTW.out, HO4.out.imp id (fun h9 g hg => by have h8 := h9 g hg; have h7 := HSZ.out; have h6 := HNN.out; omega)⟩
set_option maxRecDepth 20000 in
set_option maxHeartbeats 4000000 in
theorem lpuq_ok0 {B L G D : Nat} {s : LgS} {A : Option Addr} {c : Nat} {els : List El} {Ab : Option Addr} {cb : Nat} {xs : List Ee} (x : Rc) (Ax : Option Addr) (cx : Nat) (W : World) (h : LgAt W B L G D s A c els Ab cb xs) (hx : TxAt W Ax cx x.ns) (hB : B ≤ W.heap.size) (hr : s.room ≤ 65536) (hl : s.l.length ≤ s.room) (hn : els.length ≤ 100000) (hR : s.R ≤ 1000000) (hK : s.kp ≤ 1000000) (hd : s.down = false) (hw : whyB (xs.map (·.1)) x = 0) (hk : ¬ x.k = 1) (hz : anE s.room s.l s.armed false x = 0) :
    Calls Tryz.prog 13 #[.pointer (some ⟨L, 0, none⟩), .agg (rcc x Ax cx)] W (PutQ W B L G D s A c els xs x) := by
  have hd' : ¬ s.down = true := by rw [hd]; simp
  have hw' : ¬ whyB (xs.map (·.1)) x ≠ 0 := fun h9 => h9 hw
  have hf' : ¬ (x.k = 1 ∧ s.R < s.kp + mostR x.j 0 x.ns) := fun h9 => hk h9.1
  have HV : Hid (lgE s (xs.map (·.1)) x = anE s.room s.l s.armed false x ∧ lgN s (xs.map (·.1)) x = ⟨s.R, if anE s.room s.l s.armed false x = 0 then s.kp + lgM x else s.kp, s.room, anB s.room s.l s.armed s.fuse false x, anA s.room s.l s.armed false x, s.fuse, if anE s.room s.l s.armed false x = 14 then true else false⟩) := hid ⟨(if_neg hd').trans ((if_neg hw').trans (if_neg hf')), (if_neg hd').trans ((if_neg hw').trans (if_neg hf'))⟩
  have HLM : Hid (lgM x = 0) := hid (if_neg hk)
  have HL := hid h
  have HNE := hid h.ne
  have HDD := hid hd
  have HST0 := hid (fun w (h1 : InBk w Ab cb xs) (h2 : TxAt w Ax cx x.ns) => bstep_ok Ab cb xs x Ax cx w h1 h2 (by have := okB_len h.2.2.2; omega) (okB_sm h.2.2.2) hw)
  have HOK : Hid (OkB (appB (xs.map (·.1)) x)) := hid (step_ok h.2.2.2 hw).1
  have HTX := hid hx
  have HAP := hid (fun w (h1 : AnAt w B G D s.room s.l s.armed s.fuse A c els false) (h2 : TxAt w Ax cx x.ns) (h3 : B ≤ w.heap.size) => aappend_any x Ax cx w h1 h2 h3 h.ne.1 hr hl hn)
  unfold AppR at HAP
  unfold PutQ
  rw [HV.out.1, HV.out.2]
  rw [HLM.out]
  rw [hz] at HAP ⊢
  simp only [show ¬ ((0 : Int) = 14) by decide, if_false, if_true] at HAP ⊢
  generalize anB s.room s.l s.armed s.fuse false x = l2 at *
  generalize anA s.room s.l s.armed false x = ar2 at *
  clear h hx hd hd' hw hw' HV hf' HLM hz
  obtain ⟨k, j, t, wk, sc, ep, ns⟩ := x
  simp only [rcc] at *
  have hk1 : (k == 1) = false := by simpa using hk
  go_enter Tryz.func13, Tryz.ntmps13
  go_upto_region 1 with (fail)
  refine at_world (fun u => u.heap[W.heap.size]? = some (.cells #[.int .i64 k, .int .i64 j, .int .i64 t, .int .i64 wk, .int .i64 sc, .int .i64 ep, .slice Ax ns.length cx] 46 (0, 0)) ∧ Below W.heap.size W u) ⟨heap_alloc_new _ _, (Below.refl _ _).alloc (Nat.le_refl _) _⟩ ?_
  rintro w1 ⟨hx1, hb1⟩
  have HX1 := hid hx1
  have HB1 := hid hb1
  have HL1 := hid (HL.out.below hb1)
  clear hx1 hb1
  obtain ⟨⟨q0, q1, q2, q3⟩, _⟩ := four_cells HL1.out.1
  have HDN := hid (adown_any w1 HL1.out.2.1)
  rw [HDD.out] at HDN
  go_wp2_with fail
  refine HDN.out.mono ?_
  rintro e w2 ⟨rfl, rfl⟩
  clear HDN
  have HTX1 := hid (HTX.out.below HB1.out)
  have HST := hid (fun U (hU : Below w1.heap.size w1 U) => HST0.out U (HL1.out.2.2.1.inBk.below hU) (HTX1.out.below hU))
  clear HST0
  go_upto_region 5 with (fail)
  clear q0 q1 q2 q3
  have hW1 : W.heap.size < w1.heap.size := lt_of_block HX1.out
  generalize hNN : W.heap.size = N at *
  have HNN := hid hNN
  clear hNN
  have hS : ∀ U, Below w1.heap.size w1 U → ((U.cell? ⟨L, 1, none⟩ = some (.slice Ab xs.length cb) ∧ U.cell? ⟨N, 0, none⟩ = some (.int .i64 k) ∧ U.cell? ⟨N, 1, none⟩ = some (.int .i64 j) ∧ U.cell? ⟨N, 2, none⟩ = some (.int .i64 t) ∧ U.cell? ⟨N, 3, none⟩ = some (.int .i64 wk) ∧ U.cell? ⟨N, 4, none⟩ = some (.int .i64 sc) ∧ U.cell? ⟨N, 5, none⟩ = some (.int .i64 ep) ∧ U.cell? ⟨N, 6, none⟩ = some (.slice Ax ns.length cx)) ∧ Below w1.heap.size w1 U) := fun U hU => ⟨⟨(four_cells (keep0 HL1.out.1 hU)).1.2.1, seven_cells (keep0 HX1.out hU)⟩, hU⟩
  have hk0 : Below w1.heap.size w1 w1.drew := below_drew (Below.refl _ _)
  refine wp_region_held_drew (S := fun U => (U.cell? ⟨L, 1, none⟩ = some (.slice Ab xs.length cb) ∧ U.cell? ⟨N, 0, none⟩ = some (.int .i64 k) ∧ U.cell? ⟨N, 1, none⟩ = some (.int .i64 j) ∧ U.cell? ⟨N, 2, none⟩ = some (.int .i64 t) ∧ U.cell? ⟨N, 3, none⟩ = some (.int .i64 wk) ∧ U.cell? ⟨N, 4, none⟩ = some (.int .i64 sc) ∧ U.cell? ⟨N, 5, none⟩ = some (.int .i64 ep) ∧ U.cell? ⟨N, 6, none⟩ = some (.slice Ax ns.length cx)) ∧ Below w1.heap.size w1 U) (by kernel_rfl) (hS _ hk0) (fun hHeld => ?_)
  generalize w1.drew = k0 at *
  refine tkA 0 ?_ rfl ?_ (by assumption) ?_; rotate_left; focus (intro U hU; (try dsimp only at hU); go_simp; try (with_reducible rfl))
  simp only [gt6, Act.put]
  refine tkA 1 ?_ rfl ?_ (by assumption) ?_; rotate_left; focus (intro U hU; (try dsimp only at hU); go_simp; try (with_reducible rfl))
  simp only [gt6, Act.put]
  refine tkA 2 ?_ rfl ?_ (by assumption) ?_; rotate_left; focus (intro U hU; (try dsimp only at hU); go_simp; try (with_reducible rfl))
  simp only [gt6, Act.put]
  refine tkA 3 ?_ rfl ?_ (by assumption) ?_; rotate_left; focus (intro U hU; (try dsimp only at hU); go_simp; try (with_reducible rfl))
  simp only [gt6, Act.put]
  refine tkA 4 ?_ rfl ?_ (by assumption) ?_; rotate_left; focus (intro U hU; (try dsimp only at hU); go_simp; try (with_reducible rfl))
  simp only [gt6, Act.put]
  refine wpAnyH_ready (rs := [5]) (by kernel_rfl) (by simp) ?_
  refine (AllReadyH.cons rfl (fun K hK => ?_) AllReadyH.nil)
  simp only [gt3]
  go_simp
  refine (HST.out k0 hk0).mono ?_
  rintro e k2 ⟨A2, c2, xs2, rfl, he2, hr2, hb2⟩
  have hk2 := hk0.trans (hb2.mono hk0.size)
  have HE2 := hid he2
  have HR2 := hid (hr2.mono hk0.size)
  clear hb2 he2 hr2
  go_wp2_with fail
  refine hK.out _ _ ?_ (fun hHeld2 => ?_)
  focus
    exact hS _ hk2
  clear hHeld
  have hHeld := hHeld2
  clear hHeld2 hK K
  try simp only [gt6, Act.put]
  refine tkA 6 ?_ rfl ?_ (by assumption) ?_; rotate_left; focus (intro U hU; (try dsimp only at hU); go_simp; try (with_reducible rfl))
  simp only [gt6, Act.put]
  refine tkA 7 ?_ rfl ?_ (by assumption) ?_; rotate_left; focus (intro U hU; (try dsimp only at hU); go_simp; try (with_reducible rfl))
  simp only [gt6, Act.put]
  refine tkA 8 ?_ rfl ?_ (by assumption) ?_; rotate_left; focus (intro U hU; (try dsimp only at hU); go_simp; try (with_reducible rfl))
  simp only [gt6, Act.put]
  refine tkA 9 ?_ rfl ?_ (by assumption) ?_; rotate_left; focus (intro U hU; (try dsimp only at hU); go_simp; try (with_reducible rfl))
  simp only [gt6, Act.put]
  refine tkA 10 ?_ rfl ?_ (by assumption) ?_; rotate_left; focus (intro U hU; (try dsimp only at hU); go_simp; try (with_reducible rfl))
  simp only [gt6, Act.put]
  refine wpAnyH_done (by kernel_rfl) ?_ _
  have HB5 := hid hk2
  clear hHeld hS hk0 HST
  have HX5 := hid (keep0 HX1.out HB5.out)
  have HL5 := hid (HL1.out.below HB5.out)
  have HTX5 := hid (HTX1.out.below HB5.out)
  have HBW : Hid (Below W.heap.size W k2) := hid ((HNN.out ▸ HB1.out).trans (HB5.out.mono (by have := HNN.out; omega)))
  have hBN : B ≤ N := by have := HNN.out; omega
  have HR5 := hid (HR2.out.mono (show B ≤ w1.heap.size by omega))
  obtain ⟨p0, p1, p2, p3, p4, p5, p6⟩ := seven_cells HX5.out
  clear HX1 HL1 HB5 HTX HTX1 HR2 HB1
  have HX6 := HX5
  have HL6 := HL5
  have HTX6 := HTX5
  have HR6 := HR5
  have HBW6 := HBW
  clear HX5 HL5 HTX5 HR5 HBW
  generalize k2 = w3 at *
  go_upto_region 13 with (fail)
  try clear q0 q1 q2 q3
  try clear p0 p1 p2 p3 p4 p5 p6
  have hWN : W.heap.size = N := HNN.out
  have hw3 : N < w3.heap.size := lt_of_block HX6.out
  obtain ⟨hGD, hLD, hLG, hLo, hLl, hGl, hDl⟩ := HNE.out
  have hSL : ¬ (L = D ∨ L = G ∨ (Value.slice A els.length c).ownBlock = some L) := by
    rintro (h9 | h9 | h9)
    · exact hLD h9
    · exact hLG h9
    · exact hLo h9
  have hSN : ¬ (N = D ∨ N = G ∨ (Value.slice A els.length c).ownBlock = some N) := by
    rintro (h9 | h9 | h9)
    · omega
    · omega
    · have h8 := (own_lt HL.out.2.1.2.2.1 N h9).2.1
      omega
  have HSL := hid hSL
  have HHH := hid hw3
  have hS : ∀ U, Tch (fun g => g = D ∨ g = G ∨ (Value.slice A els.length c).ownBlock = some g) w3 U → ((U.cell? ⟨L, 0, none⟩ = some (.pointer (some ⟨G, 0, none⟩)) ∧ U.cell? ⟨N, 0, none⟩ = some (.int .i64 k) ∧ U.cell? ⟨N, 1, none⟩ = some (.int .i64 j) ∧ U.cell? ⟨N, 2, none⟩ = some (.int .i64 t) ∧ U.cell? ⟨N, 3, none⟩ = some (.int .i64 wk) ∧ U.cell? ⟨N, 4, none⟩ = some (.int .i64 sc) ∧ U.cell? ⟨N, 5, none⟩ = some (.int .i64 ep) ∧ U.cell? ⟨N, 6, none⟩ = some (.slice Ax ns.length cx)) ∧ Tch (fun g => g = D ∨ g = G ∨ (Value.slice A els.length c).ownBlock = some g) w3 U) := fun U hU => ⟨⟨(four_cells (hU.block HL6.out.1 hSL)).1.1, seven_cells (hU.block HX6.out hSN)⟩, hU⟩
  clear hSL
  have hk0 : Below w3.heap.size w3 w3.drew := below_drew (Below.refl _ _)
  refine wp_region_held_drew (S := fun U => (U.cell? ⟨L, 0, none⟩ = some (.pointer (some ⟨G, 0, none⟩)) ∧ U.cell? ⟨N, 0, none⟩ = some (.int .i64 k) ∧ U.cell? ⟨N, 1, none⟩ = some (.int .i64 j) ∧ U.cell? ⟨N, 2, none⟩ = some (.int .i64 t) ∧ U.cell? ⟨N, 3, none⟩ = some (.int .i64 wk) ∧ U.cell? ⟨N, 4, none⟩ = some (.int .i64 sc) ∧ U.cell? ⟨N, 5, none⟩ = some (.int .i64 ep) ∧ U.cell? ⟨N, 6, none⟩ = some (.slice Ax ns.length cx)) ∧ Tch (fun g => g = D ∨ g = G ∨ (Value.slice A els.length c).ownBlock = some g) w3 U) (by kernel_rfl) (hS _ (Tch.of_below hk0)) (fun hHeld => ?_)
  have HSZ : Hid (N ≤ w3.drew.heap.size) := hid (by have := hk0.size; omega)
  generalize w3.drew = k5 at *
  refine tkA 0 ?_ rfl ?_ (by assumption) ?_; rotate_left; focus (intro U hU; (try dsimp only at hU); go_simp; try (with_reducible rfl))
  simp only [gt6, Act.put]
  refine tkA 1 ?_ rfl ?_ (by assumption) ?_; rotate_left; focus (intro U hU; (try dsimp only at hU); go_simp; try (with_reducible rfl))
  simp only [gt6, Act.put]
  refine tkA 2 ?_ rfl ?_ (by assumption) ?_; rotate_left; focus (intro U hU; (try dsimp only at hU); go_simp; try (with_reducible rfl))
  simp only [gt6, Act.put]
  refine tkA 3 ?_ rfl ?_ (by assumption) ?_; rotate_left; focus (intro U hU; (try dsimp only at hU); go_simp; try (with_reducible rfl))
  simp only [gt6, Act.put]
  refine tkA 4 ?_ rfl ?_ (by assumption) ?_; rotate_left; focus (intro U hU; (try dsimp only at hU); go_simp; try (with_reducible rfl))
  simp only [gt6, Act.put]
  refine wpAnyH_ready (rs := [5]) (by kernel_rfl) (by simp) ?_
  refine (AllReadyH.cons rfl (fun K hK => ?_) AllReadyH.nil)
  simp only [gt3]
  go_simp
  refine (HAP.out k5 (by have h9 := (HL6.out.below hk0).2.1; rw [HDD.out] at h9; exact h9) (HTX6.out.below hk0) (show B ≤ k5.heap.size by have := hk0.size; omega)).mono ?_
  rintro e k6 ⟨rfl, A4, c4, els4, he4, ha4, ht4, ho4⟩
  have hk6 : Tch (fun g => g = D ∨ g = G ∨ (Value.slice A els.length c).ownBlock = some g) w3 k6 := (Tch.of_below hk0).trans ht4 fun g hg _ => hg
  have HE4 := hid he4
  have HA4 := hid ha4
  have HO4 := hid ho4
  clear he4 ha4 ht4 ho4
  go_wp2_with fail
  refine hK.out _ _ ?_ (fun hHeld2 => ?_)
  focus
    exact hS _ hk6
  clear hHeld
  have hHeld := hHeld2
  clear hHeld2 hK K
  try simp only [gt6, Act.put]
  refine tkA 6 ?_ rfl ?_ (by assumption) ?_; rotate_left; focus (intro U hU; (try dsimp only at hU); go_simp; try (with_reducible rfl))
  simp only [gt6, Act.put]
  refine wpAnyH_done (by kernel_rfl) ?_ _
  have HT7 := hid hk6
  clear hHeld hS hk0 hk6 HAP
  have HG7 := hid (HT7.out.block HL6.out.1 HSL.out)
  have hty : ∀ g, (g = D ∨ g = G ∨ (Value.slice A els.length c).ownBlock = some g) → ∀ cs t fr, w3.heap[g]? = some (.cells cs t fr) → t ≠ 55 ∧ t ≠ 9 ∧ t ≠ 3 ∧ t ≠ 4 := by
    rintro g hg cs t fr hc
    obtain ⟨A9, c9, hd9, _⟩ := HL6.out.2.1.2.1.open
    rcases hg with rfl | rfl | h9
    · rw [hd9] at hc
      injection hc with hc
      injection hc with _ h2
      subst h2
      decide
    · rw [HL6.out.2.1.1] at hc
      injection hc with hc
      injection hc with _ h2
      subst h2
      decide
    · obtain ⟨_, _, cur, h8⟩ := own_lt HL6.out.2.1.2.2.1 g h9
      rw [h8] at hc
      injection hc with hc
      injection hc with _ h2
      subst h2
      decide
  have HTW : Hid (Tch (LgT L G D A els.length c) W k6) := hid ((Tch.of_below (S := LgT L G D A els.length c) HBW6.out).trans HT7.out fun g hg _ => .inr hg)
  have HRB := hid (HR6.out.tch HT7.out hty)
  clear hty HL HL6 HX6 HT7 HR6
  obtain ⟨⟨q0, q1, q2, q3⟩, g0, g1, g2, g3⟩ := four_cells HG7.out
  have HTS := tch_set k6 L 1 (.slice A2 xs2.length c2)
  have HG8 : Hid ((k6.setCell ⟨L, 1, none⟩ (.slice A2 xs2.length c2)).heap[L]? = some (.cells #[.pointer (some ⟨G, 0, none⟩), .slice A2 xs2.length c2, .int .i64 (s.R : Int), .int .i64 (s.kp : Int)] 81 (0, 0))) := hid (by rw [heap_setCell_same k6 L 1 _ _ (.slice A2 xs2.length c2) HG7.out]; rfl)
  have HA8 := hid (AnAt.apartL HA4.out HG7.out HNE.out.2.1.symm HNE.out.2.2.1.symm HTS)
  have HRB8 := hid (HRB.out.apart HG7.out (by decide) (by decide) (by decide) (by decide) HTS)
  have HTW8 := hid (HTW.out.trans HTS fun g hg _ => .inl hg)
  clear HTS HRB HA4 HG7 HTW
  go_upto_region 17 with (fail)
  generalize k6.setCell ⟨L, 1, none⟩ (.slice A2 xs2.length c2) = k8 at *
  clear q0 q1 q2 q3 g0 g1 g2 g3
  obtain ⟨⟨q0, q1, q2, q3⟩, g0, g1, g2, g3⟩ := four_cells HG8.out
  have HTS := tch_set k8 L 3 (.int .i64 ((s.kp : Int) + 0))
  have HG9 : Hid ((k8.setCell ⟨L, 3, none⟩ (.int .i64 ((s.kp : Int) + 0))).heap[L]? = some (.cells #[.pointer (some ⟨G, 0, none⟩), .slice A2 xs2.length c2, .int .i64 (s.R : Int), .int .i64 ((s.kp + 0 : Nat) : Int)] 81 (0, 0))) := hid (by rw [heap_setCell_same k8 L 3 _ _ (.int .i64 ((s.kp : Int) + 0)) HG8.out]; rfl)
  have HA9 := hid (AnAt.apartL HA8.out HG8.out HNE.out.2.1.symm HNE.out.2.2.1.symm HTS)
  have HRB9 := hid (HRB8.out.apart HG8.out (by decide) (by decide) (by decide) (by decide) HTS)
  have HTW9 := hid (HTW8.out.trans HTS fun g hg _ => .inl hg)
  clear HTS HRB8 HA8 HG8 HTW8
  have HOB : Hid (OkB (xs2.map (·.1))) := hid (HE2.out ▸ HOK.out)
  go_wp2
  go_ret
  exact ⟨rfl, A4, c4, els4, A2, c2, xs2, ⟨HG9.out, HA9.out, HRB9.out, HOB.out⟩, HE2.out, HE4.out, HTW9.out, HO4.out.imp id (fun h9 g hg => by have h8 := h9 g hg; have h7 := HSZ.out; have h6 := HNN.out; omega)⟩
theorem lpuq_any {B L G D : Nat} {s : LgS} {A : Option Addr} {c : Nat} {els : List El} {Ab : Option Addr} {cb : Nat} {xs : List Ee} (x : Rc) (Ax : Option Addr) (cx : Nat) (W : World) (h : LgAt W B L G D s A c els Ab cb xs) (hx : TxAt W Ax cx x.ns) (hB : B ≤ W.heap.size) (hr : s.room ≤ 65536) (hl : s.l.length ≤ s.room) (hn : els.length ≤ 100000) (hR : s.R ≤ 1000000) (hK : s.kp ≤ 1000000) :
    Calls Tryz.prog 13 #[.pointer (some ⟨L, 0, none⟩), .agg (rcc x Ax cx)] W (PutQ W B L G D s A c els xs x) := by
  cases hd : s.down with
  | true => exact lpuq_down x Ax cx W h hx hB hr hl hn hR hK hd
  | false =>
    by_cases hw : whyB (xs.map (·.1)) x = 0
    · by_cases hk : x.k = 1
      · by_cases hf : s.R < s.kp + mostR x.j 0 x.ns
        · exact lpuq_full x Ax cx W h hx hB hr hl hn hR hK hd hw hk hf
        · by_cases hz : anE s.room s.l s.armed false x = 0
          · exact lpuq_ok1 x Ax cx W h hx hB hr hl hn hR hK hd hw hk hf hz
          · exact lpuq_err1 x Ax cx W h hx hB hr hl hn hR hK hd hw hk hf hz
      · by_cases hz : anE s.room s.l s.armed false x = 0
        · exact lpuq_ok0 x Ax cx W h hx hB hr hl hn hR hK hd hw hk hz
        · exact lpuq_err0 x Ax cx W h hx hB hr hl hn hR hK hd hw hk hz
    · exact lpuq_no x Ax cx W h hx hB hr hl hn hR hK hd hw

end Go.Proofs.YtkepfkfoblocgaaGreat

namespace Go.Proofs.YtkepfkfoblocgaaGreat
open Go.RowKit Go.Sort
set_option linter.unusedVariables false
set_option linter.unusedSimpArgs false

theorem lput_any {B L G D : Nat} {s : LgS} {A : Option Addr} {c : Nat} {els : List El} {Ab : Option Addr} {cb : Nat} {xs : List Ee} (x : Rc) (Ax : Option Addr) (cx : Nat) (W : World) (h : LgAt W B L G D s A c els Ab cb xs) (hx : TxAt W Ax cx x.ns) (hB : B ≤ W.heap.size) (hr : s.room ≤ 65536) (hl : s.l.length ≤ s.room) (hn : els.length ≤ 100000) (hR : s.R ≤ 1000000) (hK : s.kp ≤ 1000000) :
    Calls Tryz.prog 13 #[.pointer (some ⟨L, 0, none⟩), .agg (rcc x Ax cx)] W (PutR W B L G D s A c els xs x) :=
  (lpuq_any x Ax cx W h hx hB hr hl hn hR hK).mono fun e w' h9 => by
    obtain ⟨h1, A', c', els', Ab', cb', xs', h2, h3, h4, h5, _⟩ := h9
    exact ⟨h1, A', c', els', Ab', cb', xs', h2, h3, h4, h5⟩

end Go.Proofs.YtkepfkfoblocgaaGreat

namespace Go.Proofs.YtkepfkfoblocgaaGreat
open Go.RowKit Go.Sort
set_option linter.unusedVariables false
set_option linter.unusedSimpArgs false

theorem RowR.laterN {w w' : World} {S : Nat → Prop} {B : Nat} {v : Value} {els : List El} (h : RowR w B v els) (ht : Tch S w w') (hA : ∀ g, v.ownBlock = some g → ¬ S g) (hr : ∀ g, S g → ∀ cs t fr, w.heap[g]? = some (.cells cs t fr) → t ≠ 9) : RowR w' B v els := by
  refine ⟨ht.own h.1 hA, fun e he => ⟨ht.own (h.2 e he).1 fun g hg hs => ?_, (h.2 e he).2⟩⟩
  obtain ⟨_, _, cur, hc⟩ := own_lt (h.2 e he).1 g hg
  exact hr g hs _ _ _ hc rfl
/-- A ledger stays where none of its blocks is touched. -/
theorem LgAt.tch {w w' : World} {T : Nat → Prop} {B L G D : Nat} {s : LgS} {A : Option Addr} {c : Nat} {els : List El} {Ab : Option Addr} {cb : Nat} {xs : List Ee} (h : LgAt w B L G D s A c els Ab cb xs) (ht : Tch T w w') (hL : ¬ T L) (hG : ¬ T G) (hD : ¬ T D) (hA : ∀ g, (Value.slice A els.length c).ownBlock = some g → ¬ T g)
    (hr : ∀ g, T g → ∀ cs t fr, w.heap[g]? = some (.cells cs t fr) → t ≠ 5 ∧ t ≠ 55 ∧ t ≠ 9 ∧ t ≠ 3 ∧ t ≠ 4) : LgAt w' B L G D s A c els Ab cb xs :=
  ⟨ht.block h.1 hL, ⟨ht.block h.2.1.1 hG, h.2.1.2.1.tch ht hD (fun g hg cs h9 => (hr g hg _ _ _ h9).1 rfl), h.2.1.2.2.laterN ht hA (fun g hg cs t fr h9 => (hr g hg _ _ _ h9).2.2.1)⟩, h.2.2.1.tch ht (fun g hg cs t fr h9 => (hr g hg _ _ _ h9).2), h.2.2.2⟩
theorem lgT_ty {w : World} {B L G D : Nat} {s : LgS} {A : Option Addr} {c : Nat} {els : List El} {Ab : Option Addr} {cb : Nat} {xs : List Ee} (h : LgAt w B L G D s A c els Ab cb xs) : ∀ g, LgT L G D A els.length c g → ∀ cs t fr, w.heap[g]? = some (.cells cs t fr) → t ≠ 5 ∧ t ≠ 55 ∧ t ≠ 9 ∧ t ≠ 3 ∧ t ≠ 4 := by
  rintro g hg cs t fr hc
  obtain ⟨A9, c9, hd9, _⟩ := h.2.1.2.1.open
  rcases hg with rfl | rfl | rfl | h9
  · rw [h.1] at hc
    injection hc with hc
    injection hc with _ h2
    subst h2
    decide
  · rw [hd9] at hc
    injection hc with hc
    injection hc with _ h2
    subst h2
    decide
  · rw [h.2.1.1] at hc
    injection hc with hc
    injection hc with _ h2
    subst h2
    decide
  · obtain ⟨_, _, cur, h8⟩ := own_lt h.2.1.2.2.1 g h9
    rw [h8] at hc
    injection hc with hc
    injection hc with _ h2
    subst h2
    decide
theorem dk_ty {w : World} {D room : Nat} {l : List UInt8} {armed : Bool} {fuse : Nat} (h : DiskAt w D room l armed fuse) : ∀ g, g = D → ∀ cs t fr, w.heap[g]? = some (.cells cs t fr) → t ≠ 5 ∧ t ≠ 55 ∧ t ≠ 9 ∧ t ≠ 3 ∧ t ≠ 4 := by
  rintro g rfl cs t fr hc
  obtain ⟨A9, c9, hd9, _⟩ := h.open
  rw [hd9] at hc
  injection hc with hc
  injection hc with _ h2
  subst h2
  decide
theorem lopen0_any {D room : Nat} (R : Nat) (W : World) (h : DiskAt W D room [] false 0) (hR : R ≤ 65536) :
    Calls Tryz.prog 10 #[.pointer (some ⟨D, 0, none⟩), .int .i64 (R : Int)] W fun e w' => ∃ L G A c Ab cb, e = .returned (.tuple #[.pointer (some ⟨L, 0, none⟩), .int .i64 0]) ∧ LgAt w' W.heap.size L G D ⟨R, 0, room, [], false, 0, false⟩ A c [] Ab cb [] ∧ W.heap.size ≤ L ∧ W.heap.size ≤ G ∧ Tch (fun g => g = D) W w' := by
  refine (lopen_any R W h (by simp) hR (by rw [recS_nil]; rfl)).mono ?_
  rintro e w' ⟨L, G, A, c, els, Ab, cb, xs, rfl, he, hx, hl, hL, hG, ht⟩
  rw [recS_nil] at he hx hl
  obtain rfl : els = [] := by simpa using he
  obtain rfl : xs = [] := by simpa [foldB] using hx
  exact ⟨L, G, A, c, Ab, cb, rfl, hl, hL, hG, ht⟩

def x21 : Rc := ⟨1, 1, 0, 0, 0, 0, [[42]]⟩
theorem chk21 : chkR x21 = true := by decide +kernel
theorem rb21 : rb x21 = [1, 1, 0, 1, 1, 42] := by decide +kernel
theorem size21 : sizeR x21 = 11 := by
  unfold sizeR
  rw [if_pos chk21, rb21, frP_len _ (by simp), numB_one _ (by simp)]
  rfl
theorem most21 : mostR 1 0 [[42]] = 101 := by
  have h : sizeR ⟨1, 1, 0, 0, 0, 0, [[42]]⟩ = 11 := size21
  unfold mostR
  rw [h, if_neg (by omega)]
  decide +kernel
theorem why21 : whyB [] x21 = 0 := by decide +kernel
theorem e21a : lgE ⟨0, 0, 500, [], false, 0, false⟩ [] x21 = 7 ∧ lgN ⟨0, 0, 500, [], false, 0, false⟩ [] x21 = ⟨0, 0, 500, [], false, 0, false⟩ := by
  have h1 : x21.k = 1 ∧ 0 < 0 + mostR x21.j 0 x21.ns := ⟨rfl, by show 0 < 0 + mostR 1 0 [[42]]; rw [most21]; omega⟩
  have h2 : ¬ whyB [] x21 ≠ 0 := fun h => h why21
  constructor
  · unfold lgE
    rw [if_neg (by decide), if_neg h2, if_pos h1]
  · unfold lgN
    rw [if_neg (by decide), if_neg h2, if_pos h1]
theorem an21 : anE 500 [] false false x21 = 0 := by
  rw [anE, if_neg (by rw [chk21]; simp)]
  show apE 500 [] (fR x21) false = 0
  rw [apE, if_neg (by rw [← size_fR, size21]; simp)]
  rfl
theorem e21b : lgE ⟨500, 0, 500, [], false, 0, false⟩ [] x21 = 0 ∧ (lgN ⟨500, 0, 500, [], false, 0, false⟩ [] x21).kp = 101 := by
  have h1 : ¬ (x21.k = 1 ∧ 500 < 0 + mostR x21.j 0 x21.ns) := fun h9 => by
    have h8 : 500 < 0 + mostR 1 0 [[42]] := h9.2
    rw [most21] at h8
    omega
  have h2 : ¬ whyB [] x21 ≠ 0 := fun h => h why21
  constructor
  · unfold lgE
    rw [if_neg (by decide), if_neg h2, if_neg h1]
    exact an21
  · unfold lgN
    rw [if_neg (by decide), if_neg h2, if_neg h1]
    show (if anE 500 [] false false x21 = 0 then 0 + lgM x21 else 0) = 101
    rw [if_pos an21]
    show 0 + mostR 1 0 [[42]] = 101
    rw [most21]

set_option maxRecDepth 20000 in
set_option maxHeartbeats 4000000 in
theorem works21_any (W : World) : Calls Tryz.prog 7 #[] W fun e w' => e = .returned (.bool true) ∧ Below W.heap.size W w' := by
  have HN := hid (fun w => dnew_in 500 (by decide) w)
  have HO1 := hid (fun D w (h : DiskAt w D 500 [] false 0) => lopen0_any 0 w h (by decide))
  have HO2 := hid (fun D w (h : DiskAt w D 500 [] false 0) => lopen0_any 500 w h (by decide))
  have HP1 := hid (fun B L G D A c Ab cb Ax cx w (h : LgAt w B L G D ⟨0, 0, 500, [], false, 0, false⟩ A c [] Ab cb []) (hx : TxAt w Ax cx x21.ns) (hB : B ≤ w.heap.size) => lput_any x21 Ax cx w h hx hB (by decide) (by decide) (by decide) (by decide) (by decide))
  have HP2 := hid (fun B L G D A c Ab cb Ax cx w (h : LgAt w B L G D ⟨500, 0, 500, [], false, 0, false⟩ A c [] Ab cb []) (hx : TxAt w Ax cx x21.ns) (hB : B ≤ w.heap.size) => lput_any x21 Ax cx w h hx hB (by decide) (by decide) (by decide) (by decide) (by decide))
  unfold PutR at HP1 HP2
  simp only [List.map_nil, e21a.1, e21a.2, e21b.1] at HP1 HP2
  simp only [rcc, show x21.k = 1 from rfl, show x21.j = 1 from rfl, show x21.t = 0 from rfl, show x21.w = 0 from rfl, show x21.s = 0 from rfl, show x21.e = 0 from rfl, show x21.ns = [[42]] from rfl, List.length_cons, List.length_nil, Nat.zero_add] at HP1 HP2
  simp only [show ((0 : Nat) : Int) = 0 from rfl, show ((500 : Nat) : Int) = 500 from rfl] at HN HO1 HO2
  go_enter Tryz.func7, Tryz.ntmps7
  go_wp2_with fail
  refine (HN.out _).mono ?_
  rintro e w1 ⟨rfl, hd1, hb1⟩
  have HD1 := hid hd1
  have HB1 := hid hb1
  have hDl : W.heap.size < w1.heap.size := hd1.lt
  generalize hDD : W.heap.size = D at *
  have HDD := hid hDD
  clear hd1 hb1 hDD
  go_wp2_with fail
  refine (HO1.out D w1 HD1.out).mono ?_
  rintro e w2 ⟨L, G, A, c, Ab, cb, rfl, hl2, hL, hG, ht2⟩
  have HL2 := hid hl2
  have HB2 := hid (HB1.out.trans (ht2.below D (fun g hg _ => by omega) (by omega)))
  have hn2 := hl2.ne
  have HA2 := hid (fun g (hg : (Value.slice A ([] : List El).length c).ownBlock = some g) => own_lt hl2.2.1.2.2.1 g hg)
  have hs2 := ht2.size
  generalize hb9 : w1.heap.size = b1 at *
  clear hl2 ht2 HB1 HD1 HO1 hb9
  go_wp2_with fail
  refine (HN.out _).mono ?_
  rintro e w3 ⟨rfl, hd3, hb3⟩
  have HD3 := hid hd3
  have HB3 := hid (HB2.out.trans (hb3.mono (by omega)))
  have HL3 := hid (HL2.out.below hb3)
  have hD3l : w2.heap.size < w3.heap.size := hd3.lt
  generalize hb9 : w2.heap.size = D2 at *
  clear hd3 hb3 HB2 HL2 hb9 HN
  go_wp2_with fail
  refine (HO2.out D2 w3 HD3.out).mono ?_
  rintro e w4 ⟨L2, G2, A2, c2, Ab2, cb2, rfl, hl4, hL2, hG2, ht4⟩
  have HM4 := hid hl4
  have HB4 := hid (HB3.out.trans (ht4.below D (fun g hg _ => by omega) (by omega)))
  have HL4 := hid (HL3.out.tch ht4 (by omega) (by omega) (by omega) (fun g hg h9 => by have := (HA2.out g hg).2.1; omega) (dk_ty HD3.out))
  have hn4 := hl4.ne
  have HA4 := hid (fun g (hg : (Value.slice A2 ([] : List El).length c2).ownBlock = some g) => own_lt hl4.2.1.2.2.1 g hg)
  have hs4 := ht4.size
  generalize hb9 : w3.heap.size = b3 at *
  clear hl4 ht4 HB3 HL3 HD3 HO2 hb9
  go_upto_region 4 with (fail)
  refine at_world (fun u => u.heap[w4.heap.size]? = some (.cells #[.string ⟨#[42]⟩] 9 (0, 0)) ∧ u.heap[w4.heap.size + 1]? = some (.cells #[.int .i64 1, .int .i64 1, .int .i64 0, .int .i64 0, .int .i64 0, .int .i64 0, .slice (some ⟨w4.heap.size, 0, none⟩) 1 1] 46 (0, 0)) ∧ Below w4.heap.size w4 u) ⟨heap_first _ _ _, heap_second _ _ _, below2 _ _ _⟩ ?_
  rintro w5 ⟨hx5, hy5, hb5⟩
  have HX5 := hid hx5
  have HY5 := hid hy5
  have HB5 := hid (HB4.out.trans (hb5.mono (show D ≤ w4.heap.size by omega)))
  have HL5 := hid (HL4.out.below hb5)
  have HM5 := hid (HM4.out.below hb5)
  have hs5 := hb5.size
  have hl5 : w4.heap.size + 1 < w5.heap.size := lt_of_block hy5
  have HT5 : Hid (TxAt w5 (some ⟨w4.heap.size, 0, none⟩) 1 [[42]]) := hid ⟨sl_blkN hx5 rfl (show 1 ≤ maxLen by unfold maxLen; omega), fun s hs => by
    obtain rfl : s = [42] := by simpa using hs
    unfold maxLen
    decide⟩
  obtain ⟨p0, p1, p2, p3, p4, p5, p6⟩ := seven_cells hy5
  generalize hN9 : w4.heap.size = N at *
  clear hx5 hy5 hb5 HB4 HL4 HM4 hN9
  go_wp2_with fail
  refine (HP1.out b1 L G D A c Ab cb (some ⟨N, 0, none⟩) 1 w5 HL5.out HT5.out (by omega)).mono ?_
  rintro e w6 ⟨rfl, A6, c6, els6, Ab6, cb6, xs6, _, _, _, ht6⟩
  have hT6 : ∀ g, LgT L G D A 0 c g → g < D2 := fun g hg => by
    rcases hg with h1 | h1 | h1 | h1
    · omega
    · omega
    · omega
    · exact (HA2.out g h1).2.1
  have HM6 := hid (HM5.out.tch ht6 (fun h9 => by have := hT6 _ h9; omega) (fun h9 => by have := hT6 _ h9; omega) (fun h9 => by have := hT6 _ h9; omega) (fun g hg h9 => by have := hT6 _ h9; have := (HA4.out g hg).1; omega) (lgT_ty HL5.out))
  have HX6 := hid (ht6.block HX5.out (fun h9 => by have := hT6 _ h9; omega))
  have HY6 := hid (ht6.block HY5.out (fun h9 => by have := hT6 _ h9; omega))
  have HB6 := hid (HB5.out.trans (ht6.below D (fun g hg _ => by
    rcases hg with h1 | h1 | h1 | h1
    · omega
    · omega
    · omega
    · have := (HA2.out g h1).1; omega) (by omega)))
  have hs6 := ht6.size
  have HT6 : Hid (TxAt w6 (some ⟨N, 0, none⟩) 1 [[42]]) := hid ⟨sl_blkN HX6.out rfl (show 1 ≤ maxLen by unfold maxLen; omega), HT5.out.2⟩
  clear ht6 hT6 HX5 HY5 HB5 HL5 HM5 HT5 HP1 p0 p1 p2 p3 p4 p5 p6
  obtain ⟨p0, p1, p2, p3, p4, p5, p6⟩ := seven_cells HY6.out
  go_wp2_with fail
  refine (HP2.out b3 L2 G2 D2 A2 c2 Ab2 cb2 (some ⟨N, 0, none⟩) 1 w6 HM6.out HT6.out (by omega)).mono ?_
  rintro e w7 ⟨rfl, A7, c7, els7, Ab7, cb7, xs7, hl7, _, _, ht7⟩
  have HB7 := hid (HB6.out.trans (ht7.below D (fun g hg _ => by
    rcases hg with h1 | h1 | h1 | h1
    · omega
    · omega
    · omega
    · have := (HA4.out g h1).1; omega) (by omega)))
  have HK7 := hid (lkept_any w7 hl7)
  rw [e21b.2] at HK7
  simp only [show ((101 : Nat) : Int) = 101 from rfl] at HK7
  clear hl7 ht7 HB6 HM6 HT6 HX6 HY6 HP2 p0 p1 p2 p3 p4 p5 p6
  go_wp2_with fail
  refine HK7.out.mono ?_
  rintro e w8 ⟨rfl, rfl⟩
  go_wp2
  go_ret
  rw [HDD.out]
  exact ⟨rfl, HB7.out⟩
end Go.Proofs.YtkepfkfoblocgaaGreat
