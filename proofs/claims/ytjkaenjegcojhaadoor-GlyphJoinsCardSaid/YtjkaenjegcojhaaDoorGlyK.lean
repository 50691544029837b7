/- GlyphRunes: the law. -/
import Derived.Test.YtjkaenjegcojhaaDoorGlyL
import Derived.RegionTactic
import Derived.ChangeAlike
import Derived.Deep.RegionHeld3
import Derived.ControlIn
import Derived.BigQuiet
import Derived.Lib.QuietBelow
namespace Go.Proofs.YtjkaenjegcojhaaDoor
open Go.RowKit Go.Shelf
set_option linter.unusedVariables false
set_option linter.unusedSimpArgs false

attribute [local go_sem] Oper.semAt_some
theorem walksKt {A B C : World} (h : KeepsWalks A B) (k : KeepsWalks B C) : KeepsWalks A C := h.trans k
theorem boxedB {W w' : World} {b t : Nat} {v : Value} (h : Boxed W b t v) (hb : Below W.heap.size W w') : Boxed w' b t v := (hb.block b h.lt).trans h
theorem boxedN {n : Nat} {w w' : World} {B : Nat} {t : TypeId} {v : Value} (h : Boxed w B t v) (hb : Below n w w') (hn : B < n) : Boxed w' B t v := (hb.block B hn).trans h
theorem rcells_at : ∀ (l : List Rn) (k : Nat) (h : k < l.length), (rcells l)[k * 3]? = some (.int .i64 (l[k].1 : Nat))
  | r :: l, 0, _ => rfl
  | r :: l, k + 1, h => by
    have ih := rcells_at l k (by simpa using h)
    have e : rcells (r :: l) = .int .i64 (r.1 : Nat) :: .int .i64 (r.2.1 : Nat) :: .bool r.2.2 :: rcells l := rfl
    rw [e, show (k + 1) * 3 = k * 3 + 1 + 1 + 1 by omega]
    simpa using ih
/-- The row's cells, wherever the world has gone on beside them. -/
theorem rune_at {w : World} {b off len cap : Nat} {l : List Rn} (h : Sl w 3 (some ⟨b, off, none⟩) len cap (rcells l)) (k : Nat) (hk : k < l.length) : w.cell? ⟨b, off + k * 3, none⟩ = some (.int .i64 (l[k].1 : Nat)) := by
  have hl := rcells_length l
  obtain ⟨b', off', ha, hc⟩ := h.2.2.2 (by omega)
  cases ha
  rw [hc _ (by omega), rcells_at l k hk]
/-- A rune as the body sees it. -/
def fX (x : Nat × Nat) : Int × Int := ((x.1 : Int), IntKind.i64.wrap (x.2 : Int))
def fR (r : Rn) : Int × Int := ((r.1 : Int), (r.2.1 : Int))
theorem fX_P (s : List UInt8) : (rnP s).map fX = (rns s 0).map fR := by
  unfold rnP
  rw [List.map_map]
  refine List.map_congr_left fun r hr => ?_
  have := rns_lt s 0 r hr
  simp only [Function.comp, fX, fR]
  rw [show IntKind.i64.wrap ((r.2.1 : Nat) : Int) = ((r.2.1 : Nat) : Int) by simp [IntKind.wrap, IntKind.bits, IntKind.signed]; omega]
theorem pre_next {pre : List (Nat × Nat)} {rs : List Rn} (hp : pre.map fX <+: rs.map fR) (hn : pre.length < rs.length) : pre.map fX ++ [fR rs[pre.length]] <+: rs.map fR := by
  have hl : (pre.map fX).length = pre.length := by simp
  have hk : pre.length < (rs.map fR).length := by simpa using hn
  have h1 : (rs.map fR).take pre.length = pre.map fX := by
    have := List.prefix_iff_eq_take.1 hp
    rw [hl] at this
    exact this.symm
  have h2 : (rs.map fR).take (pre.length + 1) = pre.map fX ++ [fR rs[pre.length]] := by
    rw [List.take_add_one, h1, List.getElem?_eq_getElem hk]
    simp
  rw [← h2]
  exact List.take_prefix _ _
/-- What the box holds. -/
def cv (b : Nat) (U : World) : Value := (U.cell? ⟨b, 0, none⟩).getD undef
theorem cv_eq {b : Nat} {U : World} {t : TypeId} {v : Value} (h : Boxed U b t v) : U.cell? ⟨b, 0, none⟩ = some (cv b U) := by unfold cv; rw [h.cell]; rfl
/-- What stays true in the last region. -/
structure LG (w w1 : World) (b7 D : Nat) (A : Option Addr) (c : Nat) (l : List Rn) (U : World) : Prop where
  k4 : ∃ v, Boxed U w.heap.size 4 v
  k5 : Boxed U w1.heap.size 30 (.slice A l.length c)
  k7 : Boxed U b7 3 (.int .i64 l.length)
  sl : ∃ X, Sl X 3 A l.length c (rcells l) ∧ (∀ b o, A = some ⟨b, o, none⟩ → w.heap.size < b) ∧ ∀ g, w.heap.size < g → g < X.heap.size → U.heap[g]? = X.heap[g]?
  d : U.heap[D]? = some (.deferred (some []))
  b : Below w.heap.size w U
theorem LG.call {w w1 U V : World} {b7 D : Nat} {A : Option Addr} {c : Nat} {l : List Rn} (h : LG w w1 b7 D A c l U) (hb : Below U.heap.size U V) : LG w w1 b7 D A c l V := by
  obtain ⟨⟨v, k4⟩, k5, k7, ⟨X, s1, s2, s3⟩, d, b⟩ := h
  refine ⟨⟨v, boxedN k4 hb k4.lt⟩, boxedN k5 hb k5.lt, boxedN k7 hb k7.lt, ⟨X, s1, s2, fun g h1 h2 => ?_⟩, (hb.block D (lt_of_block d)).trans d, b.trans (hb.mono b.size)⟩
  have h3 := s3 g h1 h2
  have h4 : g < U.heap.size := by
    rw [Array.getElem?_eq_getElem h2] at h3
    exact lt_of_block h3
  exact (hb.block g h4).trans h3
theorem LG.store {w w1 U : World} {b7 D : Nat} {A : Option Addr} {c : Nat} {l : List Rn} (h : LG w w1 b7 D A c l U) (h1 : w.heap.size ≠ w1.heap.size) (h2 : w.heap.size ≠ b7) (h3 : w.heap.size ≠ D) (v : Value) : LG w w1 b7 D A c l (U.setCell ⟨w.heap.size, 0, none⟩ v) := by
  obtain ⟨⟨u, k4⟩, k5, k7, ⟨X, s1, s2, s3⟩, d, b⟩ := h
  exact ⟨⟨v, k4.set v⟩, k5.other (fun e => h1 e.symm) v, k7.other (fun e => h2 e.symm) v, ⟨X, s1, s2, fun g g1 g2 => (Below.heap_setCell _ _ _ _ (show g ≠ w.heap.size by omega)).trans (s3 g g1 g2)⟩, (Below.heap_setCell _ _ _ _ (fun e => h3 e.symm)).trans d, b.setCell (Nat.le_refl _) v⟩
theorem LG.sl' {w w1 U : World} {b7 D : Nat} {A : Option Addr} {c : Nat} {l : List Rn} (h : LG w w1 b7 D A c l U) : Sl U 3 A l.length c (rcells l) := by
  obtain ⟨_, _, _, ⟨X, ⟨s1, s2, s3, s4⟩, t2, t3⟩, _, _⟩ := h
  refine ⟨s1, s2, s3, fun h0 => ?_⟩
  obtain ⟨b, off, hA, hc⟩ := s4 h0
  refine ⟨b, off, hA, fun i hi => ?_⟩
  have h1 := hc i hi
  rw [List.getElem?_eq_getElem hi] at h1
  rw [World.cell?_of_block (t3 b (t2 b off hA) (lt_of_cell h1)), hc i hi]



set_option maxRecDepth 100000 in
set_option maxHeartbeats 8000000 in
theorem glyphRunes_small (s : List UInt8) (hs : s.length ≤ 1000) (k : Int) (hk : -9223372036854775808 ≤ k ∧ k ≤ 9223372036854775807) (w : World) (hT : TabsAt w) :
    Calls Tryd.prog 4 #[.string (str s), .int .i64 k] w fun e W' => e = .returned (.bool true) ∧ Below w.heap.size w W' := by
  have HL := hid (fun w => rrunes_is s hs w)
  have HE := hid (fun w => geach_any s w)
  have HW := hid (fun w => works04_any w)
  have HT := hid hT
  have HLE := hid (rns_le s 0)
  have hsz : (str s).size = s.length := str_size s
  have hd1 : decide ((1000 : Int) < (s.length : Int)) = false := decide_eq_false (by omega)
  have hq : ∀ (b : Nat) (w : World), (binOp .eql 33 (.func (.func 34) #[] #[.pointer (some ⟨b, 0, none⟩)]) .nilFunc).run Tryd.prog w = .ok (.bool false) w := fun _ _ => rfl
  clear hT
  refine (callsIn_wide (n := 4)).1 ?_
  have h1 : 1 ≤ 4 := by omega
  refine callsIn_of_wp_marks Tryd.func4 rfl trivial ?_ rfl
  simp only [Tryd.ntmps4, List.size_toArray, List.length_cons, List.length_nil, Nat.reduceAdd, Nat.reduceSub, Array.replicate_succ, Array.replicate_zero, List.push_toArray, List.append_toArray, List.nil_append, List.cons_append]
  gi_wp2_with (first
    | (refine ⟨trivial, ?_⟩; gi_at_call 16; refine (callsIn_wide.2 (HL.out _)).mono ?_; rintro e w1 ⟨A, c, rfl, ho1, hb1⟩)
    | (refine ⟨trivial, ?_⟩; gi_at_call 17; refine (callsIn_wide.2 (HE.out _)).mono ?_; rintro e w' ⟨rfl, rfl⟩)
    | (refine ⟨trivial, ?_⟩; gi_at_call 15; refine (callsIn_wide.2 (HW.out _)).mono ?_; rintro e w2 ⟨rfl, hb2⟩))
  have b1 := hb1.size
  simp at b1
  have J4 : Boxed w1 w.heap.size 4 (.bool false) := boxedN (Boxed.new w 4 (.bool false)) hb1 (by simp)
  have J5 := Boxed.new w1 30 (.slice A (rns s 0).length c)
  have J6 := Boxed.new (w1.alloc (.cells #[.slice A (rns s 0).length c] 30)) 9 (.string (str s))
  rw [World.size_alloc] at J6
  have b2 := hb2.size
  simp at b2
  have K4 := boxedN (((J4.alloc _).alloc _)) hb2 (by simp; omega)
  have K5 := boxedN (J5.alloc _) hb2 (by simp; omega)
  have K6 := boxedN J6 hb2 (by simp)
  clear J4 J5 J6
  have K7 := Boxed.new w2 3 (.int .i64 0)
  have HB1 := hid (((Below.refl w.heap.size w).alloc (Nat.le_refl _) (.cells #[.bool false] 4)).trans (hb1.mono (by simp)))
  have HB2 := hid ((((Below.refl w1.heap.size w1).alloc (Nat.le_refl _) (.cells #[.slice A (rns s 0).length c] 30)).alloc (by simp) (.cells #[.string (str s)] 9)).trans (hb2.mono (by simp; omega)))
  have HSl := hid (sl_own ho1)
  have HA : Hid (∀ b o, A = some ⟨b, o, none⟩ → w.heap.size < b) := hid (by
    rcases ho1.2 with ⟨e, _⟩ | ⟨g, cap, cur, e, hg, _⟩
    · intro b o h; simp [h] at e
    · intro b o h
      simp [h] at e
      simp at hg
      omega)
  have HS := hid (fun Bn w (hc : Boxed w Bn 9 (.string (str s))) => geach_stops 3 (by omega) Bn s hs w hc)
  have HRP : Hid (rnP s = (rns s 0).map fun r => (r.1, r.2.1)) := hid rfl
  have hrl : (rns s 0).length ≤ 1000 := by have := HLE.out; omega
  clear ho1 hb1 hb2
  have HFX := hid (fX_P s)
  have HLEN : Hid ((rnP s).length = (rns s 0).length) := hid (by rw [HRP.out, List.length_map])
  have HAT := hid (fun w => at_is s hs k hk w)
  have HCT := hid (fun w => count_is s hs w)
  have HWH := hid (fun w hT => whole_is s hs w hT)
  have HRW := hid (fun w => rwhole_is s hs w)
  have HLT := hid (rns_lt s 0)
  generalize rns s 0 = rs at *
  generalize rnP s = P at *
  generalize whN s 0 = wh at *
  clear HRP
  refine wpIn_rangeFunc_ownG rfl h1 (gf := 34) (lb := #[.pointer (some ⟨w1.heap.size + 1, 0, none⟩)]) rfl trivial (enters_of Tryd.func34 (by kernel_rfl) rfl)
    (HS.out (w1.heap.size + 1) _ (K6.alloc _)) walksKt walksK_b (Below.refl _ _) (fun _ => rfl)
    (fun pre W => (pre.map fX <+: rs.map fR ∧ Boxed W w.heap.size 4 (.bool false) ∧ Boxed W w1.heap.size 30 (.slice A rs.length c) ∧ Boxed W w2.heap.size 3 (.int .i64 pre.length)) ∧ Below w1.heap.size w1 W)
    (fun c pre W => ¬ pre.map fX <+: rs.map fR)
    (OwnFrom.and (Own.from (fun p X Y row hs hg hr => ⟨hs.1, boxed_own _ _ (fun _ => .bool false) p X Y row hs.2.1 hg hr, boxed_own _ _ (fun _ => .slice A rs.length c) p X Y row hs.2.2.1 hg hr, boxed_own _ _ (fun p => .int .i64 (p : List (Nat × Nat)).length) p X Y row hs.2.2.2 hg hr⟩) _) (ownFrom_below (Nat.le_refl _) (by simp; omega)))
    (fun c p X Y row h _ _ => h)
    ⟨⟨List.nil_prefix, K4.alloc _, K5.alloc _, K7⟩, HB2.out.alloc (by omega) _⟩
    (fun x => { tmps := #[.string (str s), .int .i64 k, undef, undef, .pointer (some ⟨w.heap.size, 0, none⟩), .pointer (some ⟨w1.heap.size, 0, none⟩), .func (.func 34) #[] #[.pointer (some ⟨w1.heap.size + 1, 0, none⟩)], .pointer (some ⟨w2.heap.size, 0, none⟩), .int .i64 (x.1 : Int), .int .i32 (x.2 : Int), undef, undef, .string (str s), .int .i64 (s.length : Int), .bool false, undef, .string (str s), .slice A rs.length c, .string (str s), .func (.func 34) #[] #[.pointer (some ⟨w1.heap.size + 1, 0, none⟩)], .func (.func 34) #[] #[.pointer (some ⟨w1.heap.size + 1, 0, none⟩)], .bool false, .bool false, .bool true, .bool false, .bool false, .func (.func 34) #[] #[.pointer (some ⟨w1.heap.size + 1, 0, none⟩)], .int .i64 (x.1 : Int), .int .i32 (x.2 : Int), undef, undef, undef, undef, undef, undef, undef, undef, undef, undef, undef, undef, undef, undef, undef, undef, undef, undef, undef, undef, undef, undef, undef, undef, undef, undef, undef, undef, undef, undef, undef, undef, undef, undef, undef, undef, undef, undef, undef, undef, undef, undef, undef, undef, undef, undef, undef, undef, undef, undef, undef, undef, undef, undef, undef, undef, undef, undef, undef, undef, undef, undef, undef, undef, undef, undef, undef, undef, undef, undef, undef, undef, undef, undef, undef, undef, undef, undef, undef, undef, undef, undef, undef, undef, undef, undef, undef, undef, undef, undef, undef, undef, undef, undef, undef, undef, undef, undef, undef, undef], defers := [] }) ?assign ?body ?done ?stop
  case assign =>
    intro l' x W K hK
    gi_wp2
    exact hK
  case body =>
    rintro l' pre x W ⟨⟨hp, k4, k5, k7⟩, hB⟩ hlt
    have c4 := k4.cell
    have f4 := k4.frozen
    have c5 := k5.cell
    have c7 := k7.cell
    have f7 := k7.frozen
    have K := hid (And.intro k4 (And.intro k5 (And.intro k7 hB)))
    have hsl := HSl.out.below hB
    have HP := hid hp
    clear k4 k5 k7 hB hp K4 K5 K6 K7
    have hcv : ∀ W : World, (convert 21 3 (.int .i32 (x.2 : Int))).run Tryd.prog W = .ok (.int .i64 (IntKind.i64.wrap (x.2 : Int))) W := fun W => by
      rw [run_convert_int (P := Tryd.prog) W 21 3 .i32 (x.2 : Int) (by rw [Tryd.underlying21]; rfl) Tryd.underlying3]
      rw [show Tryd.prog.intKind 3 = .i64 by unfold Program.intKind; rw [Tryd.underlying3]]
    have HFE : Hid (fX x = ((x.1 : Int), IntKind.i64.wrap (x.2 : Int))) := hid rfl
    have HMP : Hid ((pre ++ [x]).map fX = pre.map fX ++ [fX x]) := hid (by simp)
    generalize IntKind.i64.wrap (x.2 : Int) = wx at *
    generalize (x.1 : Int) = ax at *
    by_cases hn : pre.length < rs.length
    · have hd : decide (rs.length ≤ pre.length) = false := by simp; omega
      have hn1 : (pre.length : Int) < (rs.length : Int) := by omega
      obtain ⟨b, off, hA9⟩ := Sl.addr3 hsl (by rw [rcells_length]; omega)
      subst hA9
      have hc1 := rune_at hsl pre.length hn
      have hc2 := (Sl.rune hsl pre.length hn).1
      clear hsl
      have HX := hid (pre_next HP.out hn)
      have HFR : Hid (fR rs[pre.length] = ((rs[pre.length].1 : Int), (rs[pre.length].2.1 : Int))) := hid rfl
      have HNO : Hid (fX x ≠ fR rs[pre.length] → ¬ (pre ++ [x]).map fX <+: rs.map fR) := hid (fun hne h => by
        rw [HMP.out] at h
        have h2 := List.prefix_of_prefix_length_le h HX.out (by simp)
        obtain ⟨t, ht⟩ := h2
        rw [List.append_assoc] at ht
        have := List.append_cancel_left ht
        simp at this
        exact hne this.1)
      have HYES : Hid (fX x = fR rs[pre.length] → (pre ++ [x]).map fX <+: rs.map fR) := hid (fun h => by rw [HMP.out, h]; exact HX.out)
      rw [HFE.out, HFR.out] at HNO HYES
      clear HFR HFE HMP HX
      generalize ((rs[pre.length].1 : Nat) : Int) = y1 at *
      generalize ((rs[pre.length].2.1 : Nat) : Int) = y2 at *
      by_cases hx1 : y1 = ax
      · subst hx1
        have hb1 : (y1 != y1) = false := by simp
        by_cases hx2 : y2 = wx
        · subst hx2
          have hb2 : (y2 != y2) = false := by simp
          have HX := hid (HYES.out rfl)
          clear HYES HNO
          gi_wp2
          exact ⟨(KeepsOthers.setCell _ _ _).from _, KeepsWalks.setCell _ _ _, ⟨HX.out, K.out.1.other (by omega) _, K.out.2.1.other (by omega) _, by simpa using K.out.2.2.1.set _⟩, K.out.2.2.2.setCell (p := ⟨w2.heap.size, 0, none⟩) (by show w1.heap.size ≤ w2.heap.size; omega) _⟩
        · have hb2 : (y2 != wx) = true := by simpa using hx2
          have HY := hid (HNO.out (fun h => hx2 (by simpa using h.symm)))
          clear hx2 HYES HNO
          gi_wp2
          exact ⟨(KeepsOthers.setCell _ _ _).from _, HY.out⟩
      · have hb1 : (y1 != ax) = true := by simpa using hx1
        have HY := hid (HNO.out (fun h => hx1 (by have := congrArg Prod.fst h; exact this.symm)))
        clear hx1 HYES HNO
        gi_wp2
        exact ⟨(KeepsOthers.setCell _ _ _).from _, HY.out⟩
    · have hd : decide (rs.length ≤ pre.length) = true := by simp; omega
      have HY : Hid (¬ (pre ++ [x]).map fX <+: rs.map fR) := hid (fun h => by have := h.length_le; simp at this; omega)
      clear hsl
      gi_wp2
      exact ⟨(KeepsOthers.setCell _ _ _).from _, HY.out⟩
  case done =>
    rintro D ys W hD rfl ⟨⟨_, k4, k5, k7⟩, hB⟩ hK
    have hlen := HLEN.out
    rw [hlen] at k7
    have HR0 : Hid (LG w w1 w2.heap.size D A c rs W) := hid ⟨⟨_, k4⟩, k5, k7, ⟨w1, HSl.out, HA.out, fun g h1 h2 => hB.block g h2⟩, hK, HB1.out.trans (hB.mono HB1.out.size)⟩
    have hD1 : w.heap.size ≠ D := by simp at hD; omega
    have HD := hid hD
    clear k4 k5 k7 hB hK K4 K5 K6 K7 HB1 HB2 HSl HA HL HE HS HW hlen HFX HLEN hD
    have HCW := hid (fun (U : World) (h : LG w w1 w2.heap.size D A c rs U) => HWH.out U (HT.out.below h.b))
    have hrl2 : (rs.length : Int) ≤ 1000 := by omega
    have e1 : (wh == wh) = true := by simp
    have e4 : ((rs.length : Int) == (rs.length : Int)) = true := by simp
    have e5 : (rs.length == rs.length) = true := by simp
    by_cases hin : 0 ≤ k ∧ k < (rs.length : Int)
    · obtain ⟨hin1, hin2⟩ := hin
      obtain ⟨n, rfl⟩ := Int.eq_ofNat_of_zero_le hin1
      have hn : n < rs.length := by omega
      have dk : decide ((n : Int) < 0) = false := decide_eq_false (by omega)
      have dk2 : decide ((rs.length : Int) ≤ (n : Int)) = false := decide_eq_false (by omega)
      have dk3 : decide (rs.length ≤ n) = false := decide_eq_false (by omega)
      have HAV : Hid (atF rs (n : Int) = ((rs[n].2.1 : Int), (rs[n].1 : Int))) := hid (by
        unfold atF
        rw [if_pos ⟨hin1, hin2⟩, Int.toNat_natCast, List.getD_eq_getElem?_getD, List.getElem?_eq_getElem hn]
        rfl)
      rw [HAV.out] at HAT
      have hlt := HLT.out rs[n] (List.getElem_mem hn)
      obtain ⟨b, off, hA9⟩ := Sl.addr3 HR0.out.sl' (by rw [rcells_length]; omega)
      subst hA9
      have HROW := hid (fun (U : World) (h : LG w w1 w2.heap.size D (some ⟨b, off, none⟩) c rs U) => And.intro (rune_at h.sl' n hn) (Sl.rune h.sl' n hn).1)
      clear HAV
      generalize hy2 : rs[n].2.1 = y2 at *
      generalize rs[n].1 = y1 at *
      clear hy2
      have hcv : ∀ W : World, (convert 21 3 (.int .i32 (y2 : Int))).run Tryd.prog W = .ok (.int .i64 (y2 : Int)) W := fun W => by
        rw [run_convert_int (P := Tryd.prog) W 21 3 .i32 (y2 : Int) (by rw [Tryd.underlying21]; rfl) Tryd.underlying3]
        rw [show Tryd.prog.intKind 3 = .i64 by unfold Program.intKind; rw [Tryd.underlying3]]
        rw [show IntKind.i64.wrap ((y2 : Nat) : Int) = ((y2 : Nat) : Int) by simp [IntKind.wrap, IntKind.bits, IntKind.signed]; omega]
      have hin3 : (n : Int) < (rs.length : Int) := by omega
      have ey1 : ((y1 : Int) == (y1 : Int)) = true := by simp
      have ey2 : ((y2 : Int) == (y2 : Int)) = true := by simp
      gi_wp2_with (refine ⟨trivial, ?_⟩; gi_at_call 18; refine (callsIn_wide.2 (HAT.out _)).mono ?_; rintro e w9 ⟨rfl, hb9⟩; have hR9 : LG w w1 w2.heap.size D (some ⟨b, off, none⟩) c rs w9 := HR0.out.call hb9; have c5 := hR9.k5.cell)
      have hR := hid hR9
      clear hb9 hR9 HAT HR0
      have hS : ∀ U, LG w w1 w2.heap.size D (some ⟨b, off, none⟩) c rs U → (((U.cell? ⟨w1.heap.size, 0, none⟩ = some (.slice (some ⟨b, off, none⟩) rs.length c) ∧ U.cell? ⟨w2.heap.size, 0, none⟩ = some (.int .i64 rs.length)) ∧ ((U.cell? ⟨b, off + n * 3, none⟩ = some (.int .i64 (y1 : Int)) ∧ U.cell? ⟨b, off + n * 3 + 1, none⟩ = some (.int .i64 (y2 : Int))) ∧ U.cell? ⟨w.heap.size, 0, none⟩ = some (cv w.heap.size U) ∧ U.frozen? ⟨w.heap.size, 0, none⟩ = false)) ∧ LG w w1 w2.heap.size D (some ⟨b, off, none⟩) c rs U) := fun U h => ⟨⟨⟨h.k5.cell, h.k7.cell⟩, HROW.out U h, h.k4.elim fun v hv => ⟨cv_eq hv, hv.frozen⟩⟩, h⟩
      clear c5
      refine wpIn_wide.2 ?_
      go_region_held3 (fun U => ((U.cell? ⟨w1.heap.size, 0, none⟩ = some (.slice (some ⟨b, off, none⟩) rs.length c) ∧ U.cell? ⟨w2.heap.size, 0, none⟩ = some (.int .i64 rs.length)) ∧ ((U.cell? ⟨b, off + n * 3, none⟩ = some (.int .i64 (y1 : Int)) ∧ U.cell? ⟨b, off + n * 3 + 1, none⟩ = some (.int .i64 (y2 : Int))) ∧ U.cell? ⟨w.heap.size, 0, none⟩ = some (cv w.heap.size U) ∧ U.frozen? ⟨w.heap.size, 0, none⟩ = false)) ∧ LG w w1 w2.heap.size D (some ⟨b, off, none⟩) c rs U)
        (first
          | assumption
          | exact hS _ hR.out
          | exact hS _ (hR.out.call (below_drew (Below.refl _ _)))
          | exact hS _ (LG.call (And.right (by assumption)) (by assumption))
          | exact hS _ (LG.store (And.right (by assumption)) (by omega) (by omega) hD1 _))
        (first
          | (go_at_call 19
             refine (HCT.out _).mono ?_
             rintro e u1 ⟨rfl, g1⟩)
          | (go_at_call 20
             refine (HCW.out _ (And.right (by assumption))).mono ?_
             rintro e u2 ⟨rfl, g2⟩)
          | (go_at_call 21
             refine (HRW.out _).mono ?_
             rintro e u3 ⟨rfl, g3⟩))
      have hX : LG w w1 w2.heap.size D (some ⟨b, off, none⟩) c rs (u3.setCell ⟨w.heap.size, 0, none⟩ (.bool true)) := And.right (by assumption)
      obtain ⟨v0, hv0⟩ := (show LG w w1 w2.heap.size D (some ⟨b, off, none⟩) c rs u3 from LG.call (LG.call (LG.call (LG.call hR.out (below_drew (Below.refl _ _))) g1) g2) g3).k4
      have HV := hid (hv0.set (.bool true))
      have HX := hid hX
      clear hX hv0
      gi_wp2
      refine ⟨by simp, .inl ⟨_, _, rfl, run_takeDeferred HX.out.d, ?_⟩⟩
      have hc5 := cell_kept HV.out.cell (grownBy_putObj' _ D (.deferred none)) (fun r e => by cases e; exact ⟨_, HX.out.d, rfl⟩)
      have hDl := HD.out
      refine ⟨.bool true, ?_, rfl, HX.out.b.trans (belowK_b (w := w) (Nat.le_refl _) _ D _ _ (by simp at hDl; omega) HX.out.d rfl rfl)⟩
      simp [results, Tryd.f4, go_sem, hc5]
    · have HAV : Hid (atF rs k = (0, -1)) := hid (by unfold atF; rw [if_neg hin])
      rw [HAV.out] at HAT
      have HIN := hid hin
      clear HAV hin
      by_cases hk0 : k < 0
      case' pos =>
        have dk : decide (k < 0) = true := decide_eq_true hk0
        clear HIN
      case' neg =>
        have dk : decide (k < 0) = false := decide_eq_false hk0
        have hk9 : (rs.length : Int) ≤ k := by have := HIN.out; omega
        have dk2 : decide ((rs.length : Int) ≤ k) = true := decide_eq_true hk9
        clear HIN
      all_goals
        gi_wp2_with (refine ⟨trivial, ?_⟩; gi_at_call 18; refine (callsIn_wide.2 (HAT.out _)).mono ?_; rintro e w9 ⟨rfl, hb9⟩; have hR9 : LG w w1 w2.heap.size D A c rs w9 := HR0.out.call hb9; have c5 := hR9.k5.cell)
        have hR := hid hR9
        clear hb9 hR9 HAT HR0
        have hS : ∀ U, LG w w1 w2.heap.size D A c rs U → (((U.cell? ⟨w1.heap.size, 0, none⟩ = some (.slice A rs.length c) ∧ U.cell? ⟨w2.heap.size, 0, none⟩ = some (.int .i64 rs.length)) ∧ (U.cell? ⟨w.heap.size, 0, none⟩ = some (cv w.heap.size U) ∧ U.frozen? ⟨w.heap.size, 0, none⟩ = false)) ∧ LG w w1 w2.heap.size D A c rs U) := fun U h => ⟨⟨⟨h.k5.cell, h.k7.cell⟩, h.k4.elim fun v hv => ⟨cv_eq hv, hv.frozen⟩⟩, h⟩
        clear c5
        refine wpIn_wide.2 ?_
        go_region_held3 (fun U => ((U.cell? ⟨w1.heap.size, 0, none⟩ = some (.slice A rs.length c) ∧ U.cell? ⟨w2.heap.size, 0, none⟩ = some (.int .i64 rs.length)) ∧ (U.cell? ⟨w.heap.size, 0, none⟩ = some (cv w.heap.size U) ∧ U.frozen? ⟨w.heap.size, 0, none⟩ = false)) ∧ LG w w1 w2.heap.size D A c rs U)
          (first
            | assumption
            | exact hS _ hR.out
            | exact hS _ (hR.out.call (below_drew (Below.refl _ _)))
            | exact hS _ (LG.call (And.right (by assumption)) (by assumption))
            | exact hS _ (LG.store (And.right (by assumption)) (by omega) (by omega) hD1 _))
          (first
            | (go_at_call 19
               refine (HCT.out _).mono ?_
               rintro e u1 ⟨rfl, g1⟩)
            | (go_at_call 20
               refine (HCW.out _ (And.right (by assumption))).mono ?_
               rintro e u2 ⟨rfl, g2⟩)
            | (go_at_call 21
               refine (HRW.out _).mono ?_
               rintro e u3 ⟨rfl, g3⟩))
        have hX : LG w w1 w2.heap.size D A c rs (u3.setCell ⟨w.heap.size, 0, none⟩ (.bool true)) := And.right (by assumption)
        obtain ⟨v0, hv0⟩ := (show LG w w1 w2.heap.size D A c rs u3 from LG.call (LG.call (LG.call (LG.call hR.out (below_drew (Below.refl _ _))) g1) g2) g3).k4
        have HV := hid (hv0.set (.bool true))
        have HX := hid hX
        clear hX hv0
        gi_wp2
        refine ⟨by simp, .inl ⟨_, _, rfl, run_takeDeferred HX.out.d, ?_⟩⟩
        have hc5 := cell_kept HV.out.cell (grownBy_putObj' _ D (.deferred none)) (fun r e => by cases e; exact ⟨_, HX.out.d, rfl⟩)
        have hDl := HD.out
        refine ⟨.bool true, ?_, rfl, HX.out.b.trans (belowK_b (w := w) (Nat.le_refl _) _ D _ _ (by simp at hDl; omega) HX.out.d rfl rfl)⟩
        simp [results, Tryd.f4, go_sem, hc5]
  case stop =>
    rintro D c pre W _ h1 h2 _
    exact absurd (by have h3 := h1.map fX; rw [HFX.out] at h3; exact h3) h2

set_option maxRecDepth 20000 in
theorem glyphRunes_big (s : List UInt8) (hm : s.length ≤ maxLen) (hs : 1000 < s.length) (k : Int) (w : World) :
    Calls Tryd.prog 4 #[.string (str s), .int .i64 k] w fun e W' => e = .returned (.bool true) ∧ Below w.heap.size w W' := by
  unfold maxLen at hm
  have HW := hid (fun w => works04_any w)
  have hsz : (str s).size = s.length := str_size s
  have i1 : (1000 : Int) < (s.length : Int) := by omega
  have hd1 : decide ((1000 : Int) < (s.length : Int)) = true := decide_eq_true i1
  have HB0 := hid ((Below.refl w.heap.size w).alloc (Nat.le_refl _) (.cells #[.bool false] 4))
  go_enter Tryd.func4, Tryd.ntmps4
  go_wp2_with (go_at_call 15; refine (HW.out _).mono ?_; rintro e w2 ⟨rfl, hb2⟩; have K4 : Boxed w2 w.heap.size 4 (.bool false) := boxedN (Boxed.new w 4 (.bool false)) hb2 (by simp); have c4 := K4.cell; have f4 := K4.frozen)
  have hc5 := (K4.set (.bool true)).cell
  have hBB := (HB0.out.trans (hb2.mono (by simp))).setCell (p := ⟨w.heap.size, 0, none⟩) (Nat.le_refl _) (.bool true)
  exact bodyPost_ret (v := .bool true) (by simp [results, Tryd.results4, go_sem, hc5]) rfl ⟨rfl, hBB⟩
theorem glyphRunes_law (a : ByteArray) (k : Int) (w : World) (ha : a.size ≤ maxLen) (hk : (Lit.int .i64 k).wf = true) (hT : TabsAt w) :
    Calls Tryd.prog 4 #[.string a, .int .i64 k] w fun e W' => e = .returned (.bool true) ∧ Below w.heap.size w W' := by
  have e : a = str a.data.toList := by simp [str]
  have hz : a.data.toList.length ≤ maxLen := by rw [e, str_size] at ha; exact ha
  rw [e]
  by_cases h : a.data.toList.length ≤ 1000
  · exact glyphRunes_small _ h k (wf_i64 hk) w hT
  · exact glyphRunes_big _ hz (by omega) k w
end Go.Proofs.YtjkaenjegcojhaaDoor
