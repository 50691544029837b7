/- scan: the records of bytes: plain; rows of records. -/
import Derived.Test.YtkepfkfoblocgaaGreatRdP
import Derived.Test.YtkepfkfoblocgaaGreatCrP
import Derived.Test.YtkepfkfoblocgaaGreatGaP
import Derived.Test.YtkepfkfoblocgaaGreatRcP
namespace Go.Proofs.YtkepfkfoblocgaaGreat
open Go.RowKit
set_option linter.unusedVariables false

/-- Do bytes begin with a record's frame? -/
def okR (l : List UInt8) : Prop := (cutS l).2.2 = 0 ∧ qk (cutS l).1 = 0
instance (l : List UInt8) : Decidable (okR l) := by unfold okR; infer_instance
/-- The frames that bytes begin with. -/
def recF : Nat → List UInt8 → List Rc × Nat
  | 0, _ => ([], 0)
  | f + 1, l => if okR l then (pr (cutS l).1 :: (recF f (l.drop (cutS l).2.1)).1, (cutS l).2.1 + (recF f (l.drop (cutS l).2.1)).2) else ([], 0)
def recS (l : List UInt8) : List Rc × Nat := recF (l.length + 1) l
theorem recF_fuel : ∀ f g l, l.length < f → l.length < g → recF f l = recF g l
  | f + 1, g + 1, l, h1, h2 => by
    unfold recF
    by_cases h : okR l
    · have := cutS_used l h.1
      rw [if_pos h, if_pos h, recF_fuel f g _ (by rw [List.length_drop]; omega) (by rw [List.length_drop]; omega)]
    · rw [if_neg h, if_neg h]
  | 0, _, _, h1, _ => absurd h1 (by omega)
  | _ + 1, 0, _, _, h2 => absurd h2 (by omega)
theorem recS_step (l : List UInt8) (h : okR l) : recS l = (pr (cutS l).1 :: (recS (l.drop (cutS l).2.1)).1, (cutS l).2.1 + (recS (l.drop (cutS l).2.1)).2) := by
  have := cutS_used l h.1
  rw [recS, recF, if_pos h, recS, recF_fuel l.length ((l.drop (cutS l).2.1).length + 1) _ (by rw [List.length_drop]; omega) (by omega)]
theorem recS_stop (l : List UInt8) (h : ¬ okR l) : recS l = ([], 0) := by rw [recS, recF, if_neg h]
attribute [irreducible] recS
theorem recS_le : ∀ n l, l.length ≤ n → (recS l).2 ≤ l.length ∧ (recS l).1.length ≤ (recS l).2
  | n, l, hn => by
    by_cases h : okR l
    · have := cutS_used l h.1
      cases n with
      | zero => omega
      | succ n =>
        have ih := recS_le n (l.drop (cutS l).2.1) (by rw [List.length_drop]; omega)
        rw [recS_step l h]
        simp only [List.length_cons, List.length_drop] at *
        omega
    · rw [recS_stop l h]; simp
/-- What a walk of All holds at a loop's head. -/
def RecAt (l : List UInt8) (acc : List Rc) (g : Nat) : Prop := acc ++ (recS (l.drop g)).1 = (recS l).1 ∧ g + (recS (l.drop g)).2 = (recS l).2 ∧ g ≤ l.length ∧ acc.length ≤ g
theorem RecAt.start (l : List UInt8) : RecAt l [] 0 := ⟨by simp, by simp, Nat.zero_le _, Nat.zero_le _⟩
theorem RecAt.next {l : List UInt8} {acc : List Rc} {g : Nat} (h : RecAt l acc g) (h2 : okR (l.drop g)) : RecAt l (acc ++ [pr (cutS (l.drop g)).1]) (g + (cutS (l.drop g)).2.1) := by
  obtain ⟨h3, h4, h5, h6⟩ := h
  have hu := cutS_used _ h2.1
  rw [recS_step _ h2] at h3 h4
  simp only [List.drop_drop, List.length_drop] at h3 h4 hu
  refine ⟨by rw [← h3]; simp, by omega, by omega, by simp; omega⟩
theorem RecAt.stop {l : List UInt8} {acc : List Rc} {g : Nat} (h : RecAt l acc g) (h2 : ¬ okR (l.drop g)) : recS l = (acc, g) := by
  obtain ⟨h3, h4, _, _⟩ := h
  rw [recS_stop _ h2] at h3 h4
  simp only [List.append_nil, Nat.add_zero] at h3 h4
  rw [h3, h4]

/-- An element of a row: a record, and where its texts lie. -/
abbrev El := Rc × Option Addr × Nat
def ecells (l : List El) : List Value := (l.map fun e => (rcc e.1 e.2.1 e.2.2).toList).flatten
theorem ecells_snoc (l : List El) (e : El) : ecells (l ++ [e]) = ecells l ++ (rcc e.1 e.2.1 e.2.2).toList := by simp [ecells]
theorem ecells_length (l : List El) : (ecells l).length = l.length * 7 := by
  induction l with
  | nil => rfl
  | cons e l ih =>
    have h : ecells (e :: l) = (rcc e.1 e.2.1 e.2.2).toList ++ ecells l := by simp [ecells]
    rw [h, List.length_append, ih]
    simp [rcc]; omega
/-- A row of records of the call's own. -/
def RowR (w : World) (B : Nat) (v : Value) (els : List El) : Prop := w.ownsRow B 46 7 v els.length (ecells els) ∧ ∀ e ∈ els, OwnS w B e.2.1 e.2.2 e.1.ns
theorem RowR.nil (w : World) (B : Nat) : RowR w B (.slice none 0 0) [] := ⟨World.ownsRow_nil _ _ _ _, by simp⟩
theorem RowR.keep {w w' : World} {B : Nat} {v : Value} {els : List El} (h : RowR w B v els) (hb : Below w.heap.size w w') : RowR w' B v els := ⟨own_keep h.1 hb, fun e he => (h.2 e he).keep hb⟩
theorem OwnS.mono {w : World} {B B' : Nat} {A : Option Addr} {c : Nat} {l : List (List UInt8)} (h : OwnS w B A c l) (hb : B' ≤ B) : OwnS w B' A c l := ⟨own_mono h.1 hb, h.2⟩
theorem RowR.push {w w' : World} {B c : Nat} {v v' : Value} {els : List El} {x : Rc} {A : Option Addr} (h : RowR w B v els) (hs : OwnS w B A c x.ns) (h2 : w'.ownsRow B 46 7 v' (els.length + 1) (ecells els ++ (rcc x A c).toList))
    (hk : ∀ g, B ≤ g → g < w.heap.size → v.ownBlock ≠ some g → w'.heap[g]? = w.heap[g]?) : RowR w' B v' (els ++ [(x, A, c)]) := by
  refine ⟨?_, fun e he => ?_⟩
  · rw [ecells_snoc, List.length_append]
    exact h2
  · rcases List.mem_append.1 he with he | he
    · exact ⟨own_other (h.2 e he).1 h.1 (by decide) hk, (h.2 e he).2⟩
    · obtain rfl : e = (x, A, c) := by simpa using he
      exact ⟨own_other hs.1 h.1 (by decide) hk, hs.2⟩
theorem info_rec : (Tryz.prog.info? 46).map (fun i => (i.zero, i.size, i.bytes)) = some (some (.agg #[.int .i64 0, .int .i64 0, .int .i64 0, .int .i64 0, .int .i64 0, .int .i64 0, .slice none 0 0]), 7, 72) := by kernel_rfl
end Go.Proofs.YtkepfkfoblocgaaGreat

namespace Go.Proofs.YtkepfkfoblocgaaGreat
open Go.RowKit
set_option linter.unusedVariables false
set_option linter.unusedSimpArgs false

/-- 'b[g:]' reads as what is left. -/
theorem slice_from {W : World} {a : Option Addr} {cap : Nat} {l : List UInt8} (h : IsBytes W a l.length cap l) (g : Nat) (hg : g ≤ l.length) :
    ∃ A c, (∀ w : World, (Instr.slice 23 (.slice a l.length cap) (some (.int .i64 (g : Int))) none none).run Tryz.prog w = .ok (.slice A (l.length - g) c) w) ∧ IsBytes W A (l.length - g) c (l.drop g) := by
  obtain ⟨_, hlc, hcm⟩ := h.len
  refine ⟨_, _, run_from Tryz.underlying23 info_u8 a l.length cap g hg, ?_⟩
  have := Sl.drop h g hg
  rw [IsBytes]
  simpa [bcells] using this
theorem bytes_of (W : World) (s : ByteArray) (hs : s.size ≤ 100000) : ∃ w' A c, (convert 9 23 (.string s)).run Tryz.prog W = .ok (.slice A s.size c) w' ∧ IsBytes w' A s.size c s.data.toList ∧ Below W.heap.size W w' := by
  refine ⟨_, _, _, run_bytes_of_string (P := Tryz.prog) W 9 23 5 s Tryz.underlying9 Tryz.underlying23 Tryz.underlying5, ?_, ?_⟩
  · have hc := grownCap_ge W s.size 0 5
    have hm := grownCap_le_maxLen W s.size 0 5 (by unfold maxLen; omega)
    have hsz : s.data.toList.length = s.size := by rw [Array.length_toList]; rfl
    refine ⟨by rw [bcells_length, hsz, Nat.mul_one], hc, hm, fun _ => ⟨W.heap.size, 0, rfl, fun i hi => ?_⟩⟩
    rw [bcells_length, hsz] at hi
    have h1 : (W.drew.alloc (.cells (bytesRow s (grownCap W s.size 0 5)) 5 ((bytesRow s (grownCap W s.size 0 5)).size, (bytesRow s (grownCap W s.size 0 5)).size + 1))).heap[W.heap.size]? = some (.cells (bytesRow s (grownCap W s.size 0 5)) 5 ((bytesRow s (grownCap W s.size 0 5)).size, (bytesRow s (grownCap W s.size 0 5)).size + 1)) := by
      have := heap_alloc_new W.drew (.cells (bytesRow s (grownCap W s.size 0 5)) 5 ((bytesRow s (grownCap W s.size 0 5)).size, (bytesRow s (grownCap W s.size 0 5)).size + 1))
      simpa using this
    rw [cell_of_row _ W.heap.size (0 + i) _ _ _ h1, Nat.zero_add, bytesRow_at s _ i hi]
    simp [bcells, hsz, hi]
  · exact Below.trans (⟨rfl, rfl, rfl, Nat.le_refl _, fun _ _ => rfl⟩ : Below W.heap.size W W.drew) ((Below.refl W.heap.size W.drew).alloc (Nat.le_refl W.heap.size) _)
theorem rec_bounds (l : List UInt8) {acc : List Rc} {g : Nat} (h : RecAt l acc g) : acc.length ≤ l.length ∧ g ≤ l.length := ⟨Nat.le_trans h.2.2.2 h.2.2.1, h.2.2.1⟩

set_option maxRecDepth 20000 in
set_option maxHeartbeats 2000000 in
theorem records_any (a : Option Addr) (len cap : Nat) (l : List UInt8) (W : World) (hb : IsBytes W a len cap l) (hl : l.length ≤ 100000) :
    Calls Tryz.prog 47 #[.slice a len cap] W fun x w' => ∃ v els, x = .returned (.tuple #[v, .int .i64 ((recS l).2 : Nat)]) ∧ els.map (·.1) = (recS l).1 ∧ RowR w' W.heap.size v els ∧ Below W.heap.size W w' := by
  obtain ⟨rfl, hlc, hcm⟩ := hb.len
  have HM := hid hb
  clear hb hlc hcm
  go_enter Tryz.func47, Tryz.ntmps47
  go_wp2
  go_loopw [4, 5, 6, 7, 8, 9] (fun v i _ _ _ _ wr => ∃ (els : List El) (acc : List Rc) (g : Nat), g ≤ l.length ∧ i = .int .i64 (g : Int) ∧ Hid (RecAt l acc g) ∧ Hid (els.map (·.1) = acc) ∧ Hid (RowR wr W.heap.size v els) ∧ Hid (Below W.heap.size W wr)) (fun _ i _ _ _ _ _ => l.length - (intOf i).toNat)
  case atStart => exact ⟨[], [], 0, by omega, rfl, RecAt.start l, rfl, RowR.nil _ _, Below.refl _ _⟩
  case round =>
    obtain ⟨els, acc, g, hg, rfl, HA, HE, HO, HB⟩ := hrel
    obtain ⟨A, c, hrun, hA⟩ := slice_from HM.out g hg
    have hz := rec_bounds l HA.out
    have hel : els.length ≤ l.length := by
      have h1 := congrArg List.length HE.out
      rw [List.length_map] at h1
      omega
    have HC := hid (cut_any A _ c (l.drop g) wr (hA.below HB.out) (by rw [List.length_drop]; omega))
    have HP := hid (fun A c w (h : IsBytes w A (cutS (l.drop g)).1.length c (cutS (l.drop g)).1) (h9 : (cutS (l.drop g)).1.length ≤ 100000) => rparse_own A c (cutS (l.drop g)).1 w h h9)
    have HN : Hid ((cutS (l.drop g)).2.2 = 0 → (qk (cutS (l.drop g)).1 = 0 → RecAt l (acc ++ [pr (cutS (l.drop g)).1]) (g + (cutS (l.drop g)).2.1)) ∧ 5 ≤ (cutS (l.drop g)).2.1 ∧ g + (cutS (l.drop g)).2.1 ≤ l.length ∧ (cutS (l.drop g)).1.length ≤ 4096) := hid (fun h => ⟨fun h2 => HA.out.next ⟨h, h2⟩, (cutS_used _ h).1, by have := (cutS_used _ h).2.1; rw [List.length_drop] at this; omega, (cutS_used _ h).2.2⟩)
    have HS : Hid (¬ ((cutS (l.drop g)).2.2 = 0 ∧ qk (cutS (l.drop g)).1 = 0) → recS l = (acc, g)) := hid (fun h => HA.out.stop h)
    generalize cutS (l.drop g) = cv at HC HN HS HP
    obtain ⟨p, u, e⟩ := cv
    simp only at HC HN HS HP
    clear hA
    go_wp2_with fail
    refine HC.out.mono ?_
    rintro x w2 ⟨rfl, hb2⟩
    have HB2 := hid (HB.out.trans (hb2.mono HB.out.size))
    have HO2 := hid (HO.out.keep hb2)
    clear hb2 HC HO HB hrun
    by_cases he : e = 0
    · subst he
      obtain ⟨n1, n2, n3, n4⟩ := HN.out rfl
      have HN1 := hid n1
      clear n1 HN
      obtain ⟨w3, A3, c3, hcv, hby, hb3⟩ := bytes_of w2 (str p) (by rw [str_size]; omega)
      have hsz : (str p).size = p.length := str_size p
      have HP3 := hid (HP.out A3 c3 w3 (by rw [hsz] at hby; exact hby) (by omega))
      rw [hsz] at hcv
      have HB3 := hid (HB2.out.trans (hb3.mono HB2.out.size))
      have HO3 := hid (HO2.out.keep hb3)
      clear hby hb3 HP HB2 HO2 hsz
      generalize p.length = pl at *
      by_cases hq : qk p = 0
      · rw [hq] at HP3
        have HN2 := hid (HN1.out hq)
        clear HS HN1 hq
        generalize pr p = y at *
        obtain ⟨k, j, t, wk, s, ep, ns⟩ := y
        simp only [rcc] at HP3
        go_wp2_with fail
        refine HP3.out.mono ?_
        rintro x w4 ⟨A4, c4, rfl, hs4, hb4⟩
        have HB4 := hid (HB3.out.trans (hb4.mono HB3.out.size))
        have HO4 := hid (HO3.out.keep hb4)
        have HS4 := hid (hs4.mono HB3.out.size)
        clear hs4 hb4 HP3 HB3 HO3 hcv
        generalize hm : ns.length = m at *
        have HM2 := hid hm
        clear hm
        go_upto_region 7 with (fail)
        refine at_world (fun w => w.heap[w4.heap.size]? = some (.cells #[.int .i64 k, .int .i64 j, .int .i64 t, .int .i64 wk, .int .i64 s, .int .i64 ep, .slice A4 m c4] 46 (0, 0)) ∧ Below w4.heap.size w4 w) ⟨heap_alloc_new _ _, (Below.refl _ _).alloc (Nat.le_refl _) _⟩ ?_
        rintro w5 ⟨hx5, hb5⟩
        obtain ⟨p0, p1, p2, p3, p4, p5, p6⟩ := seven_cells hx5
        have HB5 := hid (HB4.out.trans (hb5.mono HB4.out.size))
        have HO5 := hid (HO4.out.keep hb5)
        have HS5 := hid (HS4.out.keep hb5)
        clear hx5 hb5 HB4 HO4 HS4
        generalize w4.heap.size = N at *
        go_wp2_with (at_builtin; refine wpList_append_1k (W := W) rfl (.tmp 32) (.tmp 34) 67 rfl W.heap.size 46 Tryz.underlying67 info_rec rfl (by omega) rfl HO5.out.1 rfl (by rfl) (by simp [Value.oneCell']) ?c1 ?c2 HB5.out.size HB5.out ?_)
        case c1 => unfold maxLen; omega
        case c2 => omega
        · intro v' w6 h2 h3 h4 h5
          have HO6 : Hid (RowR w6 W.heap.size v' (els ++ [(Rc.mk k j t wk s ep ns, A4, c4)])) := hid (HO5.out.push HS5.out (by simpa [rcc, HM2.out] using h2) h5)
          have HB6 := hid h3
          clear h2 h3 h4 h5 p0 p1 p2 p3 p4 p5 p6
          go_wp2
          go_roundw
          case rel => exact ⟨els ++ [(Rc.mk k j t wk s ep ns, A4, c4)], _, g + u, by omega, by go_num, HN2.out, by rw [Hid, List.map_append, HE.out]; rfl, HO6.out, HB6.out⟩
          case measure => simp [intOf]; omega
      · have hne : (qk p != 0) = true := by simp [hq]
        have HX := hid (HS.out (fun h => hq h.2))
        clear HS hq HN1
        generalize qk p = qv at *
        generalize pr p = y at *
        obtain ⟨k, j, t, wk, s, ep, ns⟩ := y
        simp only [rcc] at HP3
        go_wp2_with fail
        refine HP3.out.mono ?_
        rintro x w4 ⟨A4, c4, rfl, _, hb4⟩
        have HB4 := hid (HB3.out.trans (hb4.mono HB3.out.size))
        have HO4 := hid (HO3.out.keep hb4)
        clear hb4 HP3 HB3 HO3 hcv
        generalize ns.length = m at *
        go_wp2
        go_ret2
        rw [HX.out]
        exact ⟨_, els, rfl, HE.out, HO4.out.keep ((Below.refl _ _).alloc (Nat.le_refl _) _), HB4.out.alloc HB4.out.size _⟩
    · have hne : (((e : Nat) : Int) != 0) = true := by simp; omega
      have HX := hid (HS.out (fun h => he h.1))
      clear HN HS he HP
      go_wp2
      go_ret2
      rw [HX.out]
      exact ⟨_, els, rfl, HE.out, HO2.out, HB2.out⟩
end Go.Proofs.YtkepfkfoblocgaaGreat

namespace Go.Proofs.YtkepfkfoblocgaaGreat
open Go.RowKit
set_option linter.unusedVariables false
set_option linter.unusedSimpArgs false

theorem ecells_get : ∀ (l : List El) (k : Nat) (hk : k < l.length) (i : Nat), i < 7 → (ecells l)[k * 7 + i]? = (rcc l[k].1 l[k].2.1 l[k].2.2).toList[i]?
  | [], k, hk, i, hi => absurd hk (by simp)
  | e :: l, 0, hk, i, hi => by
    have h : ecells (e :: l) = (rcc e.1 e.2.1 e.2.2).toList ++ ecells l := by simp [ecells]
    rw [h, Nat.zero_mul, Nat.zero_add, List.getElem?_append_left (by simpa [rcc] using hi)]
    rfl
  | e :: l, k + 1, hk, i, hi => by
    have h : ecells (e :: l) = (rcc e.1 e.2.1 e.2.2).toList ++ ecells l := by simp [ecells]
    have h7 : (rcc e.1 e.2.1 e.2.2).toList.length = 7 := by simp [rcc]
    rw [h, List.getElem?_append_right (by rw [h7]; omega), h7, show (k + 1) * 7 + i - 7 = k * 7 + i by omega]
    exact ecells_get l k (by simpa using hk) i hi
theorem Sl.el {w : World} {b off len cap : Nat} {l : List El} (h : Sl w 7 (some ⟨b, off, none⟩) len cap (ecells l)) (n : Nat) (hn : n < l.length) :
    w.cell? ⟨b, off + n * 7, none⟩ = some (.int .i64 l[n].1.k) ∧ w.cell? ⟨b, off + n * 7 + 1, none⟩ = some (.int .i64 l[n].1.j) ∧ w.cell? ⟨b, off + n * 7 + 2, none⟩ = some (.int .i64 l[n].1.t) ∧ w.cell? ⟨b, off + n * 7 + 3, none⟩ = some (.int .i64 l[n].1.w) ∧ w.cell? ⟨b, off + n * 7 + 4, none⟩ = some (.int .i64 l[n].1.s) ∧ w.cell? ⟨b, off + n * 7 + 5, none⟩ = some (.int .i64 l[n].1.e) ∧ w.cell? ⟨b, off + n * 7 + 6, none⟩ = some (.slice l[n].2.1 l[n].1.ns.length l[n].2.2) := by
  have hl := ecells_length l
  obtain ⟨b', off', ha, hc⟩ := h.2.2.2 (by omega)
  cases ha
  have hg : ∀ i v, i < 7 → (rcc l[n].1 l[n].2.1 l[n].2.2).toList[i]? = some v → w.cell? ⟨b, off + (n * 7 + i), none⟩ = some v := fun i v hi hv => by
    have hlt : n * 7 + i < (ecells l).length := by omega
    rw [hc _ hlt]
    exact (ecells_get l n hn i hi).trans hv
  refine ⟨hg 0 _ (by omega) rfl, ?_, ?_, ?_, ?_, ?_, ?_⟩
  · rw [Nat.add_assoc]; exact hg 1 _ (by omega) rfl
  · rw [Nat.add_assoc]; exact hg 2 _ (by omega) rfl
  · rw [Nat.add_assoc]; exact hg 3 _ (by omega) rfl
  · rw [Nat.add_assoc]; exact hg 4 _ (by omega) rfl
  · rw [Nat.add_assoc]; exact hg 5 _ (by omega) rfl
  · rw [Nat.add_assoc]; exact hg 6 _ (by omega) rfl
/-- A row of records that may be read. -/
def InR (w : World) (A : Option Addr) (c : Nat) (els : List El) : Prop := Sl w 7 A els.length c (ecells els) ∧ ∀ e ∈ els, TxAt w e.2.1 e.2.2 e.1.ns
theorem InR.below {w w' : World} {A : Option Addr} {c : Nat} {els : List El} (h : InR w A c els) (hb : Below w.heap.size w w') : InR w' A c els := ⟨h.1.below hb, fun e he => (h.2 e he).below hb⟩
theorem RowR.inR {w : World} {B : Nat} {A : Option Addr} {c : Nat} {els : List El} (h : RowR w B (.slice A els.length c) els) : InR w A c els := ⟨sl_own h.1, fun e he => (h.2 e he).tx⟩
/-- A record's frame, if it is valid. -/
def fR (x : Rc) : List UInt8 := if chkR x then frP (rb x) else []
def recB (l : List Rc) : List UInt8 := (l.map fR).flatten
theorem recB_snoc (l : List Rc) (x : Rc) : recB (l ++ [x]) = recB l ++ fR x := by simp [recB]
theorem fR_len (x : Rc) : (fR x).length ≤ 4000 := by
  unfold fR
  split
  · rename_i h
    have h2 := rb_len x h
    rw [frP_len _ (by omega)]
    have := (numB_length (rb x).length (by omega)).2
    omega
  · simp
theorem recB_len : ∀ l : List Rc, (recB l).length ≤ 4000 * l.length
  | [] => by simp [recB]
  | x :: l => by
    have h1 := recB_len l
    have h2 := fR_len x
    have e : recB (x :: l) = fR x ++ recB l := by simp [recB]
    rw [e, List.length_append, List.length_cons]; omega

set_option maxRecDepth 20000 in
set_option maxHeartbeats 4000000 in
theorem sbytes_any (A : Option Addr) (c : Nat) (els : List El) (W : World) (h : InR W A c els) (hn : els.length ≤ 100000) :
    Calls Tryz.prog 56 #[.slice A els.length c] W fun e w' => ∃ A' c', e = .returned (.slice A' (recB (els.map (·.1))).length c') ∧ OwnB w' W.heap.size A' c' (recB (els.map (·.1))) ∧ Below W.heap.size W w' := by
  have HX := hid h
  clear h
  have hll : els.length ≤ 9223372036854775807 := by omega
  go_enter Tryz.func56, Tryz.ntmps56
  go_wp2
  go_loopw [3, 5, 8] (fun v _ i wr => ∃ (n : Nat) (A' : Option Addr) (c' : Nat), n ≤ els.length ∧ i = .int .i64 (n : Int) ∧ v = .slice A' (recB ((els.take n).map (·.1))).length c' ∧ Hid (OwnB wr W.heap.size A' c' (recB ((els.take n).map (·.1)))) ∧ Hid (Below W.heap.size W wr)) (fun _ _ i _ => els.length - (intOf i).toNat)
  case atStart => exact ⟨0, none, 0, by omega, rfl, by simp [recB], World.ownsRow_nil _ _ _ _, Below.refl _ _⟩
  case round =>
    obtain ⟨n, A', c', hnl, rfl, rfl, HO, HB⟩ := hrel
    by_cases hlt : n < els.length
    · have hlt2 : (n : Int) < (els.length : Int) := by omega
      have hsl := (HX.out.below HB.out).1
      obtain ⟨b, off, rfl, _⟩ := hsl.2.2.2 (by rw [ecells_length]; omega)
      obtain ⟨q0, q1, q2, q3, q4, q5, q6⟩ := Sl.el hsl n hlt
      have ht := HX.out.2 els[n] (List.getElem_mem hlt)
      have HTK : Hid (recB ((els.take (n + 1)).map (·.1)) = recB ((els.take n).map (·.1)) ++ fR els[n].1) := hid (by rw [List.take_succ_eq_append_getElem hlt, List.map_append, List.map_cons, List.map_nil, recB_snoc])
      have hcl := recB_len ((els.take n).map (·.1))
      rw [List.length_map, List.length_take, Nat.min_eq_left hnl] at hcl
      generalize els[n]'hlt = ee at *
      obtain ⟨x, Ae, ce⟩ := ee
      simp only at q0 q1 q2 q3 q4 q5 q6 ht HTK
      have HC := hid (fun w (hw : Below W.heap.size W w) => rcheck_any x Ae ce w (ht.below hw))
      have HBX := hid (fun w (hw : Below W.heap.size W w) => recbytes_any x Ae ce w (ht.below hw))
      have hfl := fR_len x
      have HFR : Hid (fR x = if chkR x then frP (rb x) else []) := hid rfl
      have HRL := hid (rb_len x)
      clear hsl ht
      generalize recB ((els.take n).map (·.1)) = cur at *
      generalize chkR x = bx at *
      generalize rb x = L at *
      generalize fR x = fr at *
      generalize hl9 : els.length = el at *
      obtain ⟨k, j, t, wk, s, ep, ns⟩ := x
      simp only [rcc] at HC HBX q0 q1 q2 q3 q4 q5 q6
      generalize ns.length = m at *
      go_upto_region 5 with (fail)
      refine at_world (fun u => u.heap[wr.heap.size]? = some (.cells #[.int .i64 k, .int .i64 j, .int .i64 t, .int .i64 wk, .int .i64 s, .int .i64 ep, .slice Ae m ce] 46 (0, 0)) ∧ Below wr.heap.size wr u) ⟨heap_alloc_new _ _, (Below.refl _ _).alloc (Nat.le_refl _) _⟩ ?_
      clear q0 q1 q2 q3 q4 q5 q6
      rintro u1 ⟨hx1, hb1⟩
      obtain ⟨p0, p1, p2, p3, p4, p5, p6⟩ := seven_cells hx1
      have HX1 := hid hx1
      have HB1 := hid (HB.out.trans (hb1.mono HB.out.size))
      have HO1 := hid (HO.out.keep hb1)
      clear hx1 hb1 HB HO
      generalize wr.heap.size = N at *
      go_wp2_with fail
      refine (HC.out _ HB1.out).mono ?_
      rintro q u2 ⟨rfl, hb2⟩
      have HX2 := hid (keep0 HX1.out hb2)
      have HB2 := hid (HB1.out.trans (hb2.mono HB1.out.size))
      have HO2 := hid (HO1.out.keep hb2)
      clear hb2 HX1 HB1 HO1 p0 p1 p2 p3 p4 p5 p6
      obtain ⟨p0, p1, p2, p3, p4, p5, p6⟩ := seven_cells HX2.out
      cases bx
      case false =>
        have hfr : fr = [] := by rw [HFR.out]; rfl
        subst hfr
        clear HFR
        rw [List.append_nil] at HTK
        go_wp2
        go_roundw
        case rel => exact ⟨n + 1, A', c', by omega, by go_num, by rw [HTK.out], by rw [HTK.out]; exact HO2.out, HB2.out⟩
        case measure => simp [intOf]; omega
      case true =>
        have hl2 := HRL.out rfl
        simp only [if_true] at HBX HFR
        have HFP := hid (fun w => fput_any none 0 0 [] (str L) w (isBytes_nil w none 0 (Nat.zero_le _)) (by simp) (by rw [str_size]; omega))
        have hsx : (str L).data.toList = L := rfl
        simp only [hsx, List.nil_append] at HFP
        rw [← HFR.out] at HFP
        clear HFR HRL hsx
        go_wp2_with fail
        refine (HBX.out _ HB2.out).mono ?_
        rintro q u3 ⟨A3, c3, rfl, ho3, hb3⟩
        have HB3 := hid (HB2.out.trans (hb3.mono HB2.out.size))
        have HO3 := hid (HO2.out.keep hb3)
        have hcv := convS ho3.bytes
        clear hb3 ho3 HX2 HB2 HO2 HBX p0 p1 p2 p3 p4 p5 p6
        generalize str L = sL at *
        generalize L.length = Ln at *
        go_wp2_with fail
        refine (HFP.out _).mono ?_
        rintro q u4 ⟨A4, c4, rfl, ho4, hb4⟩
        have HB4 := hid (HB3.out.trans (hb4.mono HB3.out.size))
        have HO4 := hid (HO3.out.keep hb4)
        have HS4 := hid (sl_own ho4)
        clear hb4 ho4 HB3 HO3 hcv HFP
        go_wp2_with (at_builtin; refine wpList_append_sl (W := W) rfl (.tmp 14) (.tmp 18) 23 rfl W.heap.size 5 Tryz.underlying23 info_u8 rfl (by omega) rfl HO4.out rfl HS4.out (bcells_one _) (by unfold maxLen; omega) (by omega) HB4.out.size HB4.out ?_)
        intro v' u5 h5 hb5 _
        rw [← bcells_append] at h5
        have h6 : u5.ownsRow W.heap.size 5 1 v' (cur.length + fr.length) (bcells (cur ++ fr)) := h5
        obtain ⟨A5, c5, rfl, ho5⟩ := ownB_of h6
        have HO5 := hid ho5
        have HB5 := hid hb5
        clear h5 h6 hb5 ho5 HO4 HS4 HB4
        go_wp2
        go_roundw
        case rel => exact ⟨n + 1, A5, c5, by omega, by go_num, by rw [HTK.out, List.length_append], by rw [HTK.out]; exact HO5.out, HB5.out⟩
        case measure => simp [intOf]; omega
    · obtain rfl : n = els.length := by omega
      have hge : ¬ ((els.length : Nat) : Int) < ((els.length : Nat) : Int) := by omega
      have HT := hid (List.take_length (l := els))
      rw [HT.out] at HO ⊢
      clear HT
      go_wp2
      go_ret
      exact ⟨A', c', rfl, HO.out, HB.out⟩
end Go.Proofs.YtkepfkfoblocgaaGreat

namespace Go.Proofs.YtkepfkfoblocgaaGreat
open Go.RowKit
set_option linter.unusedVariables false
set_option linter.unusedSimpArgs false

theorem recS_short (q : List UInt8) (h : q.length < 5) : recS q = ([], 0) := recS_stop q (fun h2 => by have := cutS_used q h2.1; omega)
end Go.Proofs.YtkepfkfoblocgaaGreat

namespace Go.Proofs.YtkepfkfoblocgaaGreat
open Go.RowKit
set_option linter.unusedVariables false
set_option linter.unusedSimpArgs false

theorem size_fR (x : Rc) : sizeR x = (fR x).length := by unfold sizeR fR; split <;> rfl
end Go.Proofs.YtkepfkfoblocgaaGreat
