/- GlyphJoins: the law. -/
import Derived.Test.YtjkaenjegcojhaaDoorGlyK
import Derived.Test.YtjkaenjegcojhaaDoorGlyU
namespace Go.Proofs.YtjkaenjegcojhaaDoor
open Go.RowKit Go.Shelf
set_option linter.unusedVariables false
set_option linter.unusedSimpArgs false

attribute [local go_sem] Oper.semAt_some
/-- What stays true behind the loop. -/
structure LJ (w : World) (D : Nat) (T : List UInt8) (U : World) : Prop where
  k2 : ∃ v, Boxed U w.heap.size 4 v
  k4 : Boxed U (w.heap.size + 1 + 1) 9 (.string (str T))
  d : U.heap[D]? = some (.deferred (some []))
  b : Below w.heap.size w U
theorem LJ.call {w U V : World} {D : Nat} {T : List UInt8} (h : LJ w D T U) (hb : Below U.heap.size U V) : LJ w D T V := by
  obtain ⟨⟨v, k2⟩, k4, d, b⟩ := h
  exact ⟨⟨v, boxedN k2 hb k2.lt⟩, boxedN k4 hb k4.lt, (hb.block D (lt_of_block d)).trans d, b.trans (hb.mono b.size)⟩
theorem LJ.store {w U : World} {D : Nat} {T : List UInt8} (h : LJ w D T U) (h3 : w.heap.size ≠ D) (v : Value) : LJ w D T (U.setCell ⟨w.heap.size, 0, none⟩ v) := by
  obtain ⟨⟨u, k2⟩, k4, d, b⟩ := h
  exact ⟨⟨v, k2.set v⟩, k4.other (by omega) v, (Below.heap_setCell _ _ _ _ (fun e => h3 e.symm)).trans d, b.setCell (Nat.le_refl _) v⟩

set_option maxRecDepth 100000 in
set_option maxHeartbeats 8000000 in
theorem glyphJoins_small (s : List UInt8) (hs : s.length ≤ 1000) (w : World) (hT : TabsAt w) :
    Calls Tryd.prog 5 #[.string (str s)] w fun e W' => e = .returned (.bool true) ∧ Below w.heap.size w W' := by
  have HE := hid (fun w => geach_any s w)
  have HT := hid hT
  have hsz : (str s).size = s.length := str_size s
  have hd1 : decide ((1000 : Int) < (s.length : Int)) = false := decide_eq_false (by omega)
  have hq : ∀ (b : Nat) (w : World), (binOp .eql 33 (.func (.func 34) #[] #[.pointer (some ⟨b, 0, none⟩)]) .nilFunc).run Tryd.prog w = .ok (.bool false) w := fun _ _ => rfl
  clear hT
  refine (callsIn_wide (n := 4)).1 ?_
  have h1 : 1 ≤ 4 := by omega
  refine callsIn_of_wp_marks Tryd.func5 rfl trivial ?_ rfl
  simp only [Tryd.ntmps5, List.size_toArray, List.length_cons, List.length_nil, Nat.reduceAdd, Nat.reduceSub, Array.replicate_succ, Array.replicate_zero, List.push_toArray, List.append_toArray, List.nil_append, List.cons_append]
  gi_wp2_with (refine ⟨trivial, ?_⟩; gi_at_call 17; refine (callsIn_wide.2 (HE.out _)).mono ?_; rintro e w' ⟨rfl, rfl⟩)
  have hz : ((((w.alloc (.cells #[.bool false] 4)).alloc (.cells #[.string (str s)] 9)).alloc (.cells #[.string { data := #[] }] 9)).alloc (.cells #[.int .i64 (-1)] 3)).heap.size = w.heap.size + 4 := by simp
  have J2 := (((Boxed.new w 4 (.bool false)).alloc (.cells #[.string (str s)] 9)).alloc (.cells #[.string { data := #[] }] 9)).alloc (.cells #[.int .i64 (-1)] 3)
  have JB := ((Boxed.new (w.alloc (.cells #[.bool false] 4)) 9 (.string (str s))).alloc (.cells #[.string { data := #[] }] 9)).alloc (.cells #[.int .i64 (-1)] 3)
  have J4 := (Boxed.new ((w.alloc (.cells #[.bool false] 4)).alloc (.cells #[.string (str s)] 9)) 9 (.string { data := #[] })).alloc (.cells #[.int .i64 (-1)] 3)
  have J5 := Boxed.new (((w.alloc (.cells #[.bool false] 4)).alloc (.cells #[.string (str s)] 9)).alloc (.cells #[.string { data := #[] }] 9)) 3 (.int .i64 (-1))
  have HB0 := hid (((((Below.refl w.heap.size w).alloc (Nat.le_refl _) (.cells #[.bool false] 4)).alloc (by simp) (.cells #[.string (str s)] 9)).alloc (by simp; omega) (.cells #[.string { data := #[] }] 9)).alloc (by simp; omega) (.cells #[.int .i64 (-1)] 3))
  simp only [World.size_alloc] at JB J4 J5
  generalize ((((w.alloc (.cells #[.bool false] 4)).alloc (.cells #[.string (str s)] 9)).alloc (.cells #[.string { data := #[] }] 9)).alloc (.cells #[.int .i64 (-1)] 3)) = W0 at *
  have HS := hid (geach_stops 3 (by omega) (w.heap.size + 1) s hs W0 JB)
  have HJOIN := hid (whole_join s)
  have HNB := hid (fun p x => not_bad s p x)
  have HFD : Hid (∃ ff : List UInt8 → List UInt8, (∀ l, l.length ≤ 1000 → ∀ w, Calls Tryd.prog 22 #[.string (str l)] w fun e w' => e = .returned (.string (str (ff l))) ∧ Below w.heap.size w w') ∧ ff s = s.map low ∧ ff (s.map low) = s.map low ∧ (s.map low).length ≤ 1000) := hid ⟨fun l => l.map low, fun l hl w => fold_is l hl w, rfl, map_low_low s, by rw [List.length_map]; exact hs⟩
  have HNM := hid (fun w => name_is s hs w)
  have HNF := hid (name_fold s)
  have HWH := hid (fun w hT => whole_is s hs w hT)
  have HW := hid (fun w => works04_any w)
  have hszm : (str (s.map low)).size = s.length := by rw [str_size, List.length_map]
  generalize s.map low = m at *
  generalize gN 0 (rns s 0) = gn at *
  generalize rnP s = P at *
  generalize whN s 0 = wh at *
  refine wpIn_rangeFunc_ownG rfl h1 (gf := 34) (lb := #[.pointer (some ⟨w.heap.size + 1, 0, none⟩)]) rfl trivial (enters_of Tryd.func34 (by kernel_rfl) rfl)
    HS.out walksKt walksK_b (Below.refl _ _) (fun _ => rfl)
    (fun pre W => (Boxed W w.heap.size 4 (.bool false) ∧ Boxed W (w.heap.size + 1 + 1) 9 (.string (str (tP pre))) ∧ Boxed W (w.heap.size + 1 + 1 + 1) 3 (.int .i64 (lastP pre))) ∧ Below w.heap.size w W)
    (fun c pre W => ∃ p x, pre = p ++ [x] ∧ BadP p x)
    (OwnFrom.and (Own.from (fun p X Y row hs hg hr => ⟨boxed_own _ _ (fun _ => .bool false) p X Y row hs.1 hg hr, boxed_own _ _ (fun p => .string (str (tP p))) p X Y row hs.2.1 hg hr, boxed_own _ _ (fun p => .int .i64 (lastP p)) p X Y row hs.2.2 hg hr⟩) _) (ownFrom_below (Nat.le_refl _) (by omega)))
    (fun c p X Y row h _ _ => h)
    ⟨⟨J2, J4, J5⟩, HB0.out⟩
    (fun x => { tmps := #[.string (str s), undef, .pointer (some ⟨w.heap.size, 0, none⟩), .func (.func 34) #[] #[.pointer (some ⟨w.heap.size + 1, 0, none⟩)], .pointer (some ⟨w.heap.size + 1 + 1, 0, none⟩), .pointer (some ⟨w.heap.size + 1 + 1 + 1, 0, none⟩), .int .i64 (x.1 : Int), .int .i32 (x.2 : Int), undef, .string (str s), .int .i64 (s.length : Int), .bool false, undef, .string (str s), .func (.func 34) #[] #[.pointer (some ⟨w.heap.size + 1, 0, none⟩)], .func (.func 34) #[] #[.pointer (some ⟨w.heap.size + 1, 0, none⟩)], .bool false, .func (.func 34) #[] #[.pointer (some ⟨w.heap.size + 1, 0, none⟩)], .int .i64 (x.1 : Int), .int .i32 (x.2 : Int), undef, undef, undef, undef, undef, undef, undef, undef, undef, undef, undef, undef, undef, undef, undef, undef, undef, undef, undef, undef, undef, undef, undef, undef, undef, undef, undef, undef, undef, undef, undef, undef, undef, undef, undef, undef, undef, undef, undef, undef, undef, undef, undef, undef, undef, undef, undef, undef, undef], defers := [] }) ?assign ?body ?done ?stop
  case assign =>
    intro l' x W K hK
    gi_wp2
    exact hK
  case body =>
    rintro l' pre x W ⟨⟨k2, k4, k5⟩, hB⟩ hlt
    have c2 := k2.cell
    have f2 := k2.frozen
    have c4 := k4.cell
    have f4 := k4.frozen
    have c5 := k5.cell
    have f5 := k5.frozen
    have K := hid (And.intro k2 (And.intro k4 (And.intro k5 hB)))
    have HBAD : Hid (((x.1 : Int) ≤ lastP pre ∨ (lastP pre < 0 ∧ (x.1 : Int) ≠ 0)) → ∃ p y, pre ++ [x] = p ++ [y] ∧ BadP p y) := hid (fun h => ⟨pre, x, rfl, h⟩)
    have HL9 : Hid (lastP (pre ++ [x]) = (x.1 : Int)) := hid (lastP_snoc pre x)
    have HT9 : Hid (tP (pre ++ [x]) = tP pre ++ encB x.2) := hid (tP_snoc pre x)
    have hcv : ∀ W : World, (convert 21 9 (.int .i32 (x.2 : Int))).run Tryd.prog W = .ok (.string (str (encB x.2))) W := fun W => by rw [conv_runeG, enc_str]
    have hz1 := tP_len pre
    have hz2 := encB_len x.2
    have hsT : ¬ (9223372036854775807 < (str (tP pre)).size + (str (encB x.2)).size) := by rw [str_size, str_size]; omega
    clear k2 k4 k5 hB hz1 hz2 HS HJOIN HNB HFD HNM HNF HWH HW HB0 HT HE J2 J4 J5 JB
    generalize encB x.2 = E at *
    generalize tP pre = T at *
    generalize lastP pre = la at *
    generalize (x.1 : Int) = ax at *
    by_cases hx1 : ax ≤ la
    · have d1 : decide (ax ≤ la) = true := decide_eq_true hx1
      have HY := hid (HBAD.out (.inl hx1))
      clear hx1 HBAD
      gi_wp2
      exact ⟨(KeepsOthers.setCell _ _ _).from _, HY.out⟩
    · have d1 : decide (ax ≤ la) = false := decide_eq_false hx1
      by_cases hx2 : la < 0
      · have d2 : decide (la < 0) = true := decide_eq_true hx2
        by_cases hx3 : ax = 0
        · have d3 : (ax != 0) = false := by simpa using hx3
          clear HBAD hx1 hx2 hx3
          gi_wp2
          exact ⟨((KeepsOthers.setCell _ _ _).from _).trans ((KeepsOthers.setCell _ _ _).from _), (KeepsWalks.setCell _ _ _).trans (KeepsWalks.setCell _ _ _), ⟨(K.out.1.other (by omega) _).other (by omega) _, by rw [HT9.out, ← str_app]; exact (K.out.2.1.other (by omega) _).set _, by rw [HL9.out]; exact (K.out.2.2.1.set _).other (by omega) _⟩, (K.out.2.2.2.setCell (p := ⟨w.heap.size + 1 + 1 + 1, 0, none⟩) (by show w.heap.size ≤ w.heap.size + 1 + 1 + 1; omega) _).setCell (p := ⟨w.heap.size + 1 + 1, 0, none⟩) (by show w.heap.size ≤ w.heap.size + 1 + 1; omega) _⟩
        · have d3 : (ax != 0) = true := by simpa using hx3
          have HY := hid (HBAD.out (.inr ⟨hx2, hx3⟩))
          clear HBAD hx1 hx2 hx3
          gi_wp2
          exact ⟨(KeepsOthers.setCell _ _ _).from _, HY.out⟩
      · have d2 : decide (la < 0) = false := decide_eq_false hx2
        clear HBAD hx1 hx2
        gi_wp2
        exact ⟨((KeepsOthers.setCell _ _ _).from _).trans ((KeepsOthers.setCell _ _ _).from _), (KeepsWalks.setCell _ _ _).trans (KeepsWalks.setCell _ _ _), ⟨(K.out.1.other (by omega) _).other (by omega) _, by rw [HT9.out, ← str_app]; exact (K.out.2.1.other (by omega) _).set _, by rw [HL9.out]; exact (K.out.2.2.1.set _).other (by omega) _⟩, (K.out.2.2.2.setCell (p := ⟨w.heap.size + 1 + 1 + 1, 0, none⟩) (by show w.heap.size ≤ w.heap.size + 1 + 1 + 1; omega) _).setCell (p := ⟨w.heap.size + 1 + 1, 0, none⟩) (by show w.heap.size ≤ w.heap.size + 1 + 1; omega) _⟩
  case done =>
    rintro D ys W hD rfl ⟨⟨k2, k4, k5⟩, hB⟩ hK
    have HR0 : Hid (LJ w D (tP ys) W) := hid ⟨⟨_, k2⟩, k4, hK, hB⟩
    have hD1 : w.heap.size ≠ D := by omega
    have hD0 : w.heap.size ≤ D := by omega
    have HJ2 := hid (fun h => HJOIN.out h)
    have HDT := hid (fun (U : World) (h : LJ w D (tP ys) U) => HT.out.below h.b)
    clear k2 k4 k5 hB hK J2 J4 J5 JB HB0 HE HS HNB HJOIN HT
    generalize tP ys = T at *
    obtain ⟨ff, hff, hfs, hfm, hm1⟩ := HFD.out
    have HFG := hid hff
    have HFS := hid hfs
    have HFM := hid hfm
    have HM1 := hid hm1
    clear hff hfs hfm hm1 HFD
    have em : ((str m).toList != (str m).toList) = false := by simp
    have es : ((s.length : Int) != (s.length : Int)) = false := by simp
    have et : (s.length != s.length) = false := by simp
    by_cases hgn : gn = true
    case' pos =>
      have hm := HNF.out hgn
      have ems : ((str m).toList != (str s).toList) = false := by rw [hm]; simp
      have ems2 : ((str m).toList == (str s).toList) = true := by rw [hm]; simp
      subst hgn
      clear hm
    case' neg =>
      have hgn2 : gn = false := by simpa using hgn
      subst hgn2
    all_goals
      clear HNF
      cases wh
      case' true =>
        have ht := HJ2.out rfl
        have ets : ((str T).toList == (str s).toList) = true := by rw [ht]; simp
        clear ht
    all_goals
      clear HJ2
      gi_wp2_with (first
        | (refine ⟨trivial, ?_⟩; gi_at_call 22; refine (callsIn_wide.2 (HFG.out _ (by first | exact HM1.out | exact hs) _)).mono ?_; rintro e w9 ⟨rfl, hb9⟩; (first | rw [HFS.out] | rw [HFM.out]); have HR0 := hid (HR0.out.call hb9))
        | (refine ⟨trivial, ?_⟩; gi_at_call 23; refine (callsIn_wide.2 (HNM.out _)).mono ?_; rintro e w11 ⟨rfl, hb11⟩; have HR0 := hid (HR0.out.call hb11))
        | (refine ⟨trivial, ?_⟩; gi_at_call 20; refine (callsIn_wide.2 (HWH.out _ (HDT.out _ HR0.out))).mono ?_; rintro e w12 ⟨rfl, hb12⟩; have HR0 := hid (HR0.out.call hb12); have c4 := HR0.out.k4.cell)
        | (refine ⟨trivial, ?_⟩; gi_at_call 15; refine (callsIn_wide.2 (HW.out _)).mono ?_; rintro e w13 ⟨rfl, hb13⟩; have HR0 := hid (HR0.out.call hb13); obtain ⟨v2, k2⟩ := HR0.out.k2; have c2 := k2.cell; have f2 := k2.frozen))
      have HV := hid (k2.set (.bool true))
      have HX := hid (HR0.out.store hD1 (.bool true))
      refine ⟨by simp, .inl ⟨_, _, rfl, run_takeDeferred HX.out.d, ?_⟩⟩
      have hc5 := cell_kept HV.out.cell (grownBy_putObj' _ D (.deferred none)) (fun r e => by cases e; exact ⟨_, HX.out.d, rfl⟩)
      refine ⟨.bool true, ?_, rfl, HX.out.b.trans (belowK_b (w := w) (Nat.le_refl _) _ D _ _ (by omega) HX.out.d rfl rfl)⟩
      simp [results, Tryd.f5, go_sem, hc5]
  case stop =>
    rintro D c pre W _ h1 ⟨p, x, rfl, hb⟩ _
    exact absurd hb (HNB.out p x h1)

set_option maxRecDepth 20000 in
theorem glyphJoins_big (s : List UInt8) (hm : s.length ≤ maxLen) (hs : 1000 < s.length) (w : World) :
    Calls Tryd.prog 5 #[.string (str s)] w fun e W' => e = .returned (.bool true) ∧ Below w.heap.size w W' := by
  unfold maxLen at hm
  have HW := hid (fun w => works04_any w)
  have hsz : (str s).size = s.length := str_size s
  have i1 : (1000 : Int) < (s.length : Int) := by omega
  have hd1 : decide ((1000 : Int) < (s.length : Int)) = true := decide_eq_true i1
  have HB0 := hid ((Below.refl w.heap.size w).alloc (Nat.le_refl _) (.cells #[.bool false] 4))
  go_enter Tryd.func5, Tryd.ntmps5
  go_wp2_with (go_at_call 15; refine (HW.out _).mono ?_; rintro e w2 ⟨rfl, hb2⟩; have K4 : Boxed w2 w.heap.size 4 (.bool false) := boxedN (Boxed.new w 4 (.bool false)) hb2 (by simp); have c4 := K4.cell; have f4 := K4.frozen)
  have hc5 := (K4.set (.bool true)).cell
  have hBB := (HB0.out.trans (hb2.mono (by simp))).setCell (p := ⟨w.heap.size, 0, none⟩) (Nat.le_refl _) (.bool true)
  exact bodyPost_ret (v := .bool true) (by simp [results, Tryd.results5, go_sem, hc5]) rfl ⟨rfl, hBB⟩
theorem glyphJoins_law (a : ByteArray) (w : World) (ha : a.size ≤ maxLen) (hT : TabsAt w) :
    Calls Tryd.prog 5 #[.string a] w fun e W' => e = .returned (.bool true) ∧ Below w.heap.size w W' := by
  have e : a = str a.data.toList := by simp [str]
  have hz : a.data.toList.length ≤ maxLen := by rw [e, str_size] at ha; exact ha
  rw [e]
  by_cases h : a.data.toList.length ≤ 1000
  · exact glyphJoins_small _ h w hT
  · exact glyphJoins_big _ hz (by omega) w
end Go.Proofs.YtjkaenjegcojhaaDoor
