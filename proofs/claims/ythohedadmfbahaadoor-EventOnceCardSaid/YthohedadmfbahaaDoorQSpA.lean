/- Entries of the call's own; event.place; book.Clone (cut from BkP1, BkP2). -/
import Derived.Test.YthohedadmfbahaaDoorQHdA
import Derived.Test.YthohedadmfbahaaDoorGaP
import Derived.Test.YthohedadmfbahaaDoorKwP
import Derived.Deep.RegionHeld3
import Derived.Deep.CutRange
import Derived.Lib.QuietBelow
namespace Go.Proofs.YthohedadmfbahaaDoor
open Go.RowKit Go.Sort
set_option linter.unusedVariables false
set_option linter.unusedSimpArgs false

/-- Where a job's first entry is. -/
def plB (b : List En) (j : Int) : Option Nat := b.findIdx? (fun e => e.id == j)
theorem plB_some {b : List En} {j : Int} {k : Nat} (h : plB b j = some k) : ∃ hk : k < b.length, b[k].id = j ∧ ∀ i (hi : i < k), (b[i]'(Nat.lt_trans hi hk)).id ≠ j := by
  unfold plB at h
  rw [List.findIdx?_eq_some_iff_getElem] at h
  obtain ⟨hk, h1, h2⟩ := h
  exact ⟨hk, by simpa using h1, fun i hi => by simpa using h2 i hi⟩
theorem plB_none {b : List En} {j : Int} (h : plB b j = none) : ∀ e ∈ b, e.id ≠ j := by
  unfold plB at h
  rw [List.findIdx?_eq_none_iff] at h
  exact fun e he => by simpa using h e he
theorem plB_of {b : List En} {j : Int} {k : Nat} (hk : k < b.length) (h1 : b[k].id = j) (h2 : ∀ i (hi : i < k), (b[i]'(Nat.lt_trans hi hk)).id ≠ j) : plB b j = some k := by
  unfold plB
  rw [List.findIdx?_eq_some_iff_getElem]
  exact ⟨hk, by simpa using h1, fun i hi => by simpa using h2 i hi⟩
theorem plB_of_none {b : List En} {j : Int} (h : ∀ e ∈ b, e.id ≠ j) : plB b j = none := by
  unfold plB
  rw [List.findIdx?_eq_none_iff]
  exact fun e he => by simpa using h e he
theorem blcells_one (l : List Bool) : ∀ u ∈ blcells l, u.oneCell' = true := by
  intro u hu
  simp only [blcells, List.mem_map] at hu
  obtain ⟨c, _, rfl⟩ := hu
  rfl
theorem ebl_one (l : List Ee) : ∀ u ∈ gcells ebl l, u.oneCell' = true := by
  intro u hu
  simp only [gcells, List.mem_flatten, List.mem_map] at hu
  obtain ⟨_, ⟨x, _, rfl⟩, hu⟩ := hu
  simp only [ebl, List.mem_cons, List.not_mem_nil, or_false] at hu
  rcases hu with rfl | rfl | rfl | rfl | rfl | rfl <;> rfl
/-- Texts of the call's own, of whatever length. -/
def OwT (w : World) (b : Nat) (A : Option Addr) (c : Nat) (l : List (List UInt8)) : Prop := w.ownsRow b 9 1 (.slice A l.length c) l.length (scells l) ∧ ∀ s ∈ l, s.length ≤ maxLen
theorem OwT.tx {w : World} {b : Nat} {A : Option Addr} {c : Nat} {l : List (List UInt8)} (h : OwT w b A c l) : TxAt w A c l := ⟨sl_own h.1, h.2⟩
/-- An entry of the call's own. -/
def OwE (w : World) (b : Nat) (x : Ee) : Prop := OwT w b x.2.A x.2.ca x.1.ns ∧ w.ownsRow b 3 1 (.slice x.2.B x.1.bd.length x.2.cb) x.1.bd.length (icells .i64 x.1.bd) ∧ w.ownsRow b 4 1 (.slice x.2.D x.1.dn.length x.2.cd) x.1.dn.length (blcells x.1.dn)
theorem OwE.inE {w : World} {b : Nat} {x : Ee} (h : OwE w b x) : InE w x := ⟨h.1.tx, sl_own h.2.1, sl_own h.2.2⟩
theorem OwE.keep {w w' : World} {b : Nat} {x : Ee} (h : OwE w b x) (hb : Below w.heap.size w w') : OwE w' b x := ⟨⟨own_keep h.1.1 hb, h.1.2⟩, own_keep h.2.1 hb, own_keep h.2.2 hb⟩
theorem OwE.mono {w : World} {b b' : Nat} {x : Ee} (h : OwE w b x) (hb : b' ≤ b) : OwE w b' x := ⟨⟨own_mono h.1.1 hb, h.1.2⟩, own_mono h.2.1 hb, own_mono h.2.2 hb⟩
/-- The block of a slice. -/
def blk (A : Option Addr) : Option Nat := A.map Addr.block
theorem ownBlock_blk (A : Option Addr) (n c : Nat) : (Value.slice A n c).ownBlock = blk A := by cases A <;> rfl
/-- A book of the call's own: no two entries share the rows that are written. -/
def RowBk (w : World) (b : Nat) (v : Value) (xs : List Ee) : Prop :=
  w.ownsRow b 57 6 v xs.length (gcells ebl xs) ∧ (∀ x ∈ xs, OwE w b x) ∧ xs.Pairwise fun x y => (∀ g, blk x.2.B = some g → blk y.2.B ≠ some g) ∧ (∀ g, blk x.2.D = some g → blk y.2.D ≠ some g)
theorem RowBk.nil (w : World) (b : Nat) : RowBk w b (.slice none 0 0) [] := ⟨World.ownsRow_nil _ _ _ _, by simp, List.Pairwise.nil⟩
theorem RowBk.keep {w w' : World} {b : Nat} {v : Value} {xs : List Ee} (h : RowBk w b v xs) (hb : Below w.heap.size w w') : RowBk w' b v xs := ⟨own_keep h.1 hb, fun x hx => (h.2.1 x hx).keep hb, h.2.2⟩
theorem RowBk.mono {w : World} {b b' : Nat} {v : Value} {xs : List Ee} (h : RowBk w b v xs) (hb : b' ≤ b) : RowBk w b' v xs := ⟨own_mono h.1 hb, fun x hx => (h.2.1 x hx).mono hb, h.2.2⟩
theorem RowBk.inBk {w : World} {b : Nat} {A : Option Addr} {c : Nat} {xs : List Ee} (h : RowBk w b (.slice A xs.length c) xs) : InBk w A c xs := ⟨sl_own h.1, fun x hx => (h.2.1 x hx).inE⟩
theorem info_entry : (Tryd.prog.info? 57).map (fun i => (i.zero, i.size, i.bytes)) = some (some (.agg #[.int .i64 0, .int .i64 0, .int .i64 0, .slice none 0 0, .slice none 0 0, .slice none 0 0]), 6, 96) := by kernel_rfl
def plI (b : List En) (j : Int) : Int := match plB b j with | some k => (k : Int) | none => -1
set_option maxRecDepth 20000 in
theorem eplace1_any (e : Ee) (B : Nat) (job : Int) (W : World) (hB : W.cell? ⟨B, 0, none⟩ = some (.int .i64 job)) :
    Calls Tryd.prog 37 #[.agg (ecE e), .pointer (some ⟨B, 0, none⟩)] W fun x w' => x = .returned (.bool (e.1.id == job)) ∧ Below W.heap.size W w' := by
  obtain ⟨⟨id, sc, ep, ns, bd, dn⟩, ⟨A, ca, P, cb, D, cd⟩⟩ := e
  simp only [ecE]
  go_enter Tryd.func37, Tryd.ntmps37
  go_upto_region 1 with (fail)
  refine at_world (fun u => u.heap[W.heap.size]? = some (.cells #[.int .i64 id, .int .i64 sc, .int .i64 ep, .slice A ns.length ca, .slice P bd.length cb, .slice D dn.length cd] 57 (0, 0)) ∧ Below W.heap.size W u) ⟨heap_alloc_new _ _, (Below.refl _ _).alloc (Nat.le_refl _) _⟩ ?_
  rintro w1 ⟨hx1, hb1⟩
  obtain ⟨⟨p0, p1, p2, p3, p4, p5⟩, _⟩ := six_cells hx1
  have hB1 := cellb hb1 hB
  have HB := hid hb1
  clear hx1 hb1
  go_wp2
  go_ret
  exact ⟨rfl, HB.out⟩
set_option maxRecDepth 20000 in
set_option maxHeartbeats 1000000 in
theorem eindex_any (A : Option Addr) (c : Nat) (xs : List Ee) (B : Nat) (job : Int) (W : World) (h : InBk W A c xs) (hB : W.cell? ⟨B, 0, none⟩ = some (.int .i64 job)) :
    Calls Tryd.prog 36 #[.slice A xs.length c, .func (.func 37) #[] #[.pointer (some ⟨B, 0, none⟩)]] W fun e w' => e = .returned (.int .i64 (plI (xs.map (·.1)) job)) ∧ Below W.heap.size W w' := by
  have HA := hid h
  have HB := hid hB
  have hm : xs.length ≤ 9223372036854775807 := by have := h.len; unfold maxLen at this; omega
  have HY := hid (fun k (hk : k < xs.length) (h1 : xs[k].1.id = job) (h2 : ∀ j (hj : j < xs.length), j < k → xs[j].1.id ≠ job) => show plI (xs.map (·.1)) job = (k : Int) by
    unfold plI
    rw [plB_of (k := k) (by simpa using hk) (by simpa using h1) (fun i hi => by simpa using h2 i (by omega) hi)])
  have HN := hid (fun (h2 : ∀ j (hj : j < xs.length), xs[j].1.id ≠ job) => show plI (xs.map (·.1)) job = -1 by
    unfold plI
    rw [plB_of_none (fun e he => by
      obtain ⟨x, hx, rfl⟩ := List.mem_map.1 he
      obtain ⟨j, hj, rfl⟩ := List.getElem_of_mem hx
      exact h2 j hj)])
  clear h hB
  go_enter Tryd.func36, Tryd.ntmps36
  go_wp2
  go_loopw [8] (fun i wr => ∃ k : Nat, k ≤ xs.length ∧ i = .int .i64 (k : Int) ∧ Hid (∀ j (hj : j < xs.length), j < k → xs[j].1.id ≠ job) ∧ Hid (Below W.heap.size W wr)) (fun i _ => xs.length - (intOf i).toNat)
  case atStart => exact ⟨0, by omega, rfl, fun j hj h => absurd h (by omega), Below.refl _ _⟩
  case round =>
    obtain ⟨k, hk, rfl, HT, HR⟩ := hrel
    by_cases hlt : k < xs.length
    · have hlt2 : (k : Int) < (xs.length : Int) := by omega
      obtain ⟨b, off, rfl, q0, q1, q2, q3, q4, q5⟩ := (HA.out.below HR.out).el k hlt
      have HC := hid (eplace1_any xs[k] B job wr (cellb HR.out HB.out))
      have HY2 := hid (fun h => HY.out k hlt h HT.out)
      have HXX : Hid (xs[k].1.id = xs[k].1.id) := hid rfl
      generalize hx : xs[k] = x at q0 q1 q2 q3 q4 q5 HC HY2
      have HX := hid hx
      clear hx HXX
      obtain ⟨⟨id, sc, ep, ns, bd, dn⟩, ⟨A1, ca, P, cb, D, cd⟩⟩ := x
      simp only [ecE] at HC
      simp only at q0 q1 q2 q3 q4 q5 HY2
      go_wp2_with fail
      refine HC.out.mono ?_
      rintro e w2 ⟨rfl, hb2⟩
      have HR2 := hid (HR.out.trans (hb2.mono HR.out.size))
      clear hb2 HC q0 q1 q2 q3 q4 q5
      by_cases hxy : id = job
      · have hd : (id == job) = true := by simpa using hxy
        have HE := hid (HY2.out hxy)
        go_wp2
        go_ret
        exact ⟨by rw [HE.out]; rfl, HR2.out⟩
      · have hd : (id == job) = false := by simpa using hxy
        have HT2 : Hid (∀ j (hj : j < xs.length), j < k + 1 → xs[j].1.id ≠ job) := hid (fun j hj hjk => by
          by_cases hjk2 : j < k
          · exact HT.out j hj hjk2
          · obtain rfl : j = k := by omega
            rw [HX.out]; exact hxy)
        clear hxy
        go_wp2
        go_roundw
        case rel => exact ⟨k + 1, by omega, by go_num, HT2.out, HR2.out⟩
        case measure => simp [intOf]; omega
    · have hge : ¬ (k : Int) < (xs.length : Int) := by omega
      have HE := hid (HN.out (fun j hj => HT.out j hj (by omega)))
      go_wp2
      go_ret
      exact ⟨by rw [HE.out]; rfl, HR.out⟩
set_option maxRecDepth 20000 in
theorem eplace_any (A : Option Addr) (c : Nat) (xs : List Ee) (job : Int) (W : World) (h : InBk W A c xs) :
    Calls Tryd.prog 21 #[.slice A xs.length c, .int .i64 job] W fun e w' => e = .returned (.int .i64 (plI (xs.map (·.1)) job)) ∧ Below W.heap.size W w' := by
  have HA := hid h
  clear h
  go_enter Tryd.func21, Tryd.ntmps21
  go_upto_region 1 with (fail)
  refine at_world (fun u => u.heap[W.heap.size]? = some (.cells #[.int .i64 job] 3 (0, 0)) ∧ Below W.heap.size W u) ⟨heap_alloc_new _ _, (Below.refl _ _).alloc (Nat.le_refl _) _⟩ ?_
  rintro w1 ⟨hx1, hb1⟩
  have hc : w1.cell? ⟨W.heap.size, 0, none⟩ = some (.int .i64 job) := by rw [cell_of_row w1 W.heap.size 0 _ _ _ hx1]; rfl
  have HC := hid (eindex_any A c xs W.heap.size job w1 (HA.out.below hb1) hc)
  have HB := hid hb1
  clear hx1 hb1 hc
  go_wp2_with fail
  refine HC.out.mono ?_
  rintro e w2 ⟨rfl, hb2⟩
  have HB2 := hid (HB.out.trans (hb2.mono HB.out.size))
  clear hb2
  go_wp2
  go_ret
  exact ⟨rfl, HB2.out⟩
set_option maxRecDepth 20000 in
theorem clone_int (A : Option Addr) (len cap : Nat) (cs : List Value) (W : World) (h : Sl W 1 A len cap cs) (h1 : ∀ u ∈ cs, u.oneCell' = true) (hlen : len ≤ 1000000) :
    Calls Tryd.prog 30 #[.slice A len cap] W fun e w' => ∃ v, e = .returned v ∧ Below W.heap.size W w' ∧ w'.ownsRow W.heap.size 3 1 v len cs := by
  have hl := h.1
  have HL := hid hlen
  clear hlen
  rcases A with _ | ad
  · have h0 : cs = [] := by
      rcases Nat.eq_zero_or_pos cs.length with h0 | h0
      · exact List.eq_nil_of_length_eq_zero h0
      · obtain ⟨b, off, ha, _⟩ := h.2.2.2 h0
        cases ha
    subst h0
    have hz : len = 0 := by simpa using hl.symm
    subst hz
    clear hl h h1
    have he : ∀ w : World, (binOp .eql 54 (.slice none 0 cap) (.slice none 0 0)).run Tryd.prog w = .ok (.bool true) w := fun _ => rfl
    go_enter Tryd.func30, Tryd.ntmps30
    go_wp2
    go_ret
    exact ⟨_, rfl, Below.refl _ _, World.ownsRow_nil _ _ _ _⟩
  · have HS := hid h
    have HE := hid (own_empty W 3 1)
    have H1 := hid h1
    clear h h1 hl
    have he : ∀ w : World, (binOp .eql 54 (.slice (some ad) len cap) (.slice none 0 0)).run Tryd.prog w = .ok (.bool false) w := fun _ => rfl
    go_enter Tryd.func30, Tryd.ntmps30
    go_wp2_with (at_builtin; refine wpList_append_sl (W := W) rfl (.tmp 5) (.tmp 6) 54 rfl W.heap.size 3 Tryd.underlying54 info_int rfl (by omega) rfl HE.out rfl (HS.out.below ((Below.refl _ _).alloc (Nat.le_refl _) _)) H1.out (by have := HL.out; unfold maxLen; omega) (by have := HL.out; omega) (by simp) ((Below.refl _ _).alloc (Nat.le_refl _) _) ?_)
    intro v1 w1 ho1 hb1 _
    go_wp2
    go_ret
    exact ⟨_, rfl, hb1, by simpa using ho1⟩
theorem info_bool : (Tryd.prog.info? 4).map (fun i => (i.zero, i.size, i.bytes)) = some (some (.bool false), 1, 1) := by kernel_rfl
set_option maxRecDepth 20000 in
theorem clone_bool (A : Option Addr) (len cap : Nat) (cs : List Value) (W : World) (h : Sl W 1 A len cap cs) (h1 : ∀ u ∈ cs, u.oneCell' = true) (hlen : len ≤ 1000000) :
    Calls Tryd.prog 31 #[.slice A len cap] W fun e w' => ∃ v, e = .returned v ∧ Below W.heap.size W w' ∧ w'.ownsRow W.heap.size 4 1 v len cs := by
  have hl := h.1
  have HL := hid hlen
  clear hlen
  rcases A with _ | ad
  · have h0 : cs = [] := by
      rcases Nat.eq_zero_or_pos cs.length with h0 | h0
      · exact List.eq_nil_of_length_eq_zero h0
      · obtain ⟨b, off, ha, _⟩ := h.2.2.2 h0
        cases ha
    subst h0
    have hz : len = 0 := by simpa using hl.symm
    subst hz
    clear hl h h1
    have he : ∀ w : World, (binOp .eql 55 (.slice none 0 cap) (.slice none 0 0)).run Tryd.prog w = .ok (.bool true) w := fun _ => rfl
    go_enter Tryd.func31, Tryd.ntmps31
    go_wp2
    go_ret
    exact ⟨_, rfl, Below.refl _ _, World.ownsRow_nil _ _ _ _⟩
  · have HS := hid h
    have HE := hid (own_empty W 4 1)
    have H1 := hid h1
    clear h h1 hl
    have he : ∀ w : World, (binOp .eql 55 (.slice (some ad) len cap) (.slice none 0 0)).run Tryd.prog w = .ok (.bool false) w := fun _ => rfl
    go_enter Tryd.func31, Tryd.ntmps31
    go_wp2_with (at_builtin; refine wpList_append_sl (W := W) rfl (.tmp 5) (.tmp 6) 55 rfl W.heap.size 4 Tryd.underlying55 info_bool rfl (by omega) rfl HE.out rfl (HS.out.below ((Below.refl _ _).alloc (Nat.le_refl _) _)) H1.out (by have := HL.out; unfold maxLen; omega) (by have := HL.out; omega) (by simp) ((Below.refl _ _).alloc (Nat.le_refl _) _) ?_)
    intro v1 w1 ho1 hb1 _
    go_wp2
    go_ret
    exact ⟨_, rfl, hb1, by simpa using ho1⟩
set_option maxRecDepth 20000 in
theorem clone_strB (A : Option Addr) (len cap : Nat) (cs : List Value) (W : World) (h : Sl W 1 A len cap cs) (h1 : ∀ u ∈ cs, u.oneCell' = true) (hlen : len ≤ 100000) :
    Calls Tryd.prog 24 #[.slice A len cap] W fun e w' => ∃ v, e = .returned v ∧ Below W.heap.size W w' ∧ w'.ownsRow W.heap.size 9 1 v len cs := by
  have hl := h.1
  have HL := hid hlen
  clear hlen
  rcases A with _ | ad
  · have h0 : cs = [] := by
      rcases Nat.eq_zero_or_pos cs.length with h0 | h0
      · exact List.eq_nil_of_length_eq_zero h0
      · obtain ⟨b, off, ha, _⟩ := h.2.2.2 h0
        cases ha
    subst h0
    have hz : len = 0 := by simp at hl; omega
    subst hz
    clear hl h h1
    have he : ∀ w : World, (binOp .eql 22 (.slice none 0 cap) (.slice none 0 0)).run Tryd.prog w = .ok (.bool true) w := fun _ => rfl
    go_enter Tryd.func24, Tryd.ntmps24
    go_wp2
    go_ret
    exact ⟨_, rfl, Below.refl _ _, World.ownsRow_nil _ _ _ _⟩
  · have HS := hid h
    have HE := hid (own_empty W 9 1)
    have H1 := hid h1
    clear h h1 hl
    have he : ∀ w : World, (binOp .eql 22 (.slice (some ad) len cap) (.slice none 0 0)).run Tryd.prog w = .ok (.bool false) w := fun _ => rfl
    go_enter Tryd.func24, Tryd.ntmps24
    go_wp2_with (at_builtin; refine wpList_append_sl (W := W) rfl (.tmp 5) (.tmp 6) 22 rfl W.heap.size 9 Tryd.underlying22 info_str rfl (by omega) rfl HE.out rfl (HS.out.below ((Below.refl _ _).alloc (Nat.le_refl _) _)) H1.out (by have := HL.out; unfold maxLen; omega) (by have := HL.out; omega) (by simp) ((Below.refl _ _).alloc (Nat.le_refl _) _) ?_)
    intro v1 w1 ho1 hb1 _
    go_wp2
    go_ret
    exact ⟨_, rfl, hb1, by simpa using ho1⟩
def put6 (w : World) (b : Nat) (a0 a1 a2 a3 a4 a5 : Value) : World := (((((w.setCell ⟨b, 0, none⟩ a0).setCell ⟨b, 1, none⟩ a1).setCell ⟨b, 2, none⟩ a2).setCell ⟨b, 3, none⟩ a3).setCell ⟨b, 4, none⟩ a4).setCell ⟨b, 5, none⟩ a5
theorem put6_heap {w : World} {b t : Nat} {x0 x1 x2 x3 x4 x5 : Value} (h : w.heap[b]? = some (.cells #[x0, x1, x2, x3, x4, x5] t (0, 0))) (a0 a1 a2 a3 a4 a5 : Value) :
    (put6 w b a0 a1 a2 a3 a4 a5).heap[b]? = some (.cells #[a0, a1, a2, a3, a4, a5] t (0, 0)) := by
  have h1 := heap_setCell_same w b 0 _ t a0 h
  have h2 := heap_setCell_same _ b 1 _ t a1 h1
  have h3 := heap_setCell_same _ b 2 _ t a2 h2
  have h4 := heap_setCell_same _ b 3 _ t a3 h3
  have h5 := heap_setCell_same _ b 4 _ t a4 h4
  have h6 := heap_setCell_same _ b 5 _ t a5 h5
  unfold put6
  rw [h6]
  rfl
theorem put6_below {n : Nat} {W w : World} {b : Nat} (h : Below n W w) (hb : n ≤ b) (a0 a1 a2 a3 a4 a5 : Value) : Below n W (put6 w b a0 a1 a2 a3 a4 a5) :=
  (((((h.setCell (p := ⟨b, 0, none⟩) hb a0).setCell (p := ⟨b, 1, none⟩) hb a1).setCell (p := ⟨b, 2, none⟩) hb a2).setCell (p := ⟨b, 3, none⟩) hb a3).setCell (p := ⟨b, 4, none⟩) hb a4).setCell (p := ⟨b, 5, none⟩) hb a5
theorem put6_other {w : World} {b g : Nat} (hg : g ≠ b) (a0 a1 a2 a3 a4 a5 : Value) : (put6 w b a0 a1 a2 a3 a4 a5).heap[g]? = w.heap[g]? := by
  unfold put6
  rw [Below.heap_setCell _ _ _ _ hg, Below.heap_setCell _ _ _ _ hg, Below.heap_setCell _ _ _ _ hg, Below.heap_setCell _ _ _ _ hg, Below.heap_setCell _ _ _ _ hg, Below.heap_setCell _ _ _ _ hg]
theorem own_same {w w' : World} {b t base e s n : Nat} {v : Value} {xs : List Value} {cs : Array Value} {fr : Nat × Nat} (h : w.ownsRow base e s v n xs) (hb : w.heap[b]? = some (.cells cs t fr)) (hne : e ≠ t) (hk : ∀ g, g ≠ b → w'.heap[g]? = w.heap[g]?) : w'.ownsRow base e s v n xs := by
  refine ⟨h.1, ?_⟩
  rcases h.2 with h2 | ⟨g, cap, cur, h3, h4, h5, h6⟩
  · exact .inl h2
  · exact .inr ⟨g, cap, cur, h3, h4, (hk g (own_apart_blk h hb hne g (by rw [h3]; rfl))).trans h5, h6⟩
theorem OwE.same {w w' : World} {b t base : Nat} {x : Ee} {cs : Array Value} {fr : Nat × Nat} (h : OwE w base x) (hb : w.heap[b]? = some (.cells cs t fr)) (h1 : 9 ≠ t) (h2 : 3 ≠ t) (h3 : 4 ≠ t) (hk : ∀ g, g ≠ b → w'.heap[g]? = w.heap[g]?) : OwE w' base x :=
  ⟨⟨own_same h.1.1 hb h1 hk, h.1.2⟩, own_same h.2.1 hb h2 hk, own_same h.2.2 hb h3 hk⟩
theorem cl_endE {W u1 u2 u3 : World} {id sc ep : Int} {ns : List (List UInt8)} {bd : List Int} {dn : List Bool} {A P D : Option Addr} {ca cb cd k1 k2 k3 : Nat} {x3 x4 x5 : Value} (hx : u3.heap[W.heap.size]? = some (.cells #[.int .i64 id, .int .i64 sc, .int .i64 ep, x3, x4, x5] 57 (0, 0))) (hy : u3.heap[W.heap.size + 1]? = some (.cells #[.int .i64 0, .int .i64 0, .int .i64 0, .slice none 0 0, .slice none 0 0, .slice none 0 0] 57 (0, 0)))
    (hb : Below W.heap.size W u3) (g2 : Below u1.heap.size u1 u2) (g3 : Below u2.heap.size u2 u3) (h1 : W.heap.size ≤ k1) (h2 : W.heap.size ≤ k2) (h3 : W.heap.size ≤ k3) (o1 : u1.ownsRow k1 9 1 (.slice A ns.length ca) ns.length (scells ns)) (o2 : u2.ownsRow k2 3 1 (.slice P bd.length cb) bd.length (icells .i64 bd)) (o3 : u3.ownsRow k3 4 1 (.slice D dn.length cd) dn.length (blcells dn)) (hs : ∀ s ∈ ns, s.length ≤ maxLen) (w : World)
    (hw : w = ((u3.setCell ⟨W.heap.size, 3, none⟩ (.slice A ns.length ca)).setCell ⟨W.heap.size, 4, none⟩ (.slice P bd.length cb)).setCell ⟨W.heap.size, 5, none⟩ (.slice D dn.length cd)) :
    w.heap[W.heap.size]? = some (.cells #[.int .i64 id, .int .i64 sc, .int .i64 ep, .slice A ns.length ca, .slice P bd.length cb, .slice D dn.length cd] 57 (0, 0)) ∧ w.heap[W.heap.size + 1]? = some (.cells #[.int .i64 0, .int .i64 0, .int .i64 0, .slice none 0 0, .slice none 0 0, .slice none 0 0] 57 (0, 0)) ∧ OwE w W.heap.size (⟨id, sc, ep, ns, bd, dn⟩, ⟨A, ca, P, cb, D, cd⟩) ∧ Below W.heap.size W w := by
  have e1 := heap_setCell_same u3 W.heap.size 3 _ _ (.slice A ns.length ca) hx
  have e2 := heap_setCell_same _ W.heap.size 4 _ _ (.slice P bd.length cb) e1
  have e3 := heap_setCell_same _ W.heap.size 5 _ _ (.slice D dn.length cd) e2
  have hk : ∀ g, g ≠ W.heap.size → w.heap[g]? = u3.heap[g]? := fun g hg => by
    rw [hw, Below.heap_setCell _ _ _ _ hg, Below.heap_setCell _ _ _ _ hg, Below.heap_setCell _ _ _ _ hg]
  have ov : OwE u3 W.heap.size (⟨id, sc, ep, ns, bd, dn⟩, ⟨A, ca, P, cb, D, cd⟩) :=
    ⟨⟨own_mono (own_keep o1 (g2.trans (g3.mono g2.size))) h1, hs⟩, own_mono (own_keep o2 g3) h2, own_mono o3 h3⟩
  refine ⟨by rw [hw, e3]; rfl, (hk _ (by omega)).trans hy, ov.same hx (by decide) (by decide) (by decide) hk, ?_⟩
  rw [hw]
  exact ((hb.setCell (p := ⟨_, 3, none⟩) (Nat.le_refl _) _).setCell (p := ⟨_, 4, none⟩) (Nat.le_refl _) _).setCell (p := ⟨_, 5, none⟩) (Nat.le_refl _) _
set_option maxRecDepth 20000 in
set_option maxHeartbeats 4000000 in
theorem bcloned_any (e : Ee) (W : World) (h : InE W e) (hl : e.1.ns.length ≤ 100000 ∧ e.1.bd.length ≤ 100000 ∧ e.1.dn.length ≤ 100000) :
    Calls Tryd.prog 18 #[.agg (ecE e)] W fun q w' => ∃ p, q = .returned (.agg (ecE (e.1, p))) ∧ OwE w' W.heap.size (e.1, p) ∧ Below W.heap.size W w' := by
  have HA := hid (fun w (hw : Below W.heap.size W w) => clone_strB e.2.A e.1.ns.length e.2.ca (scells e.1.ns) w (h.1.1.below hw) (scells_one _) hl.1)
  have HO := hid (fun w (hw : Below W.heap.size W w) => clone_int e.2.B e.1.bd.length e.2.cb (icells .i64 e.1.bd) w (h.2.1.below hw) (icells_one _ _) (Nat.le_trans hl.2.1 (by omega)))
  have HR := hid (fun w (hw : Below W.heap.size W w) => clone_bool e.2.D e.1.dn.length e.2.cd (blcells e.1.dn) w (h.2.2.below hw) (blcells_one _) (Nat.le_trans hl.2.2 (by omega)))
  have HS := hid h.1.2
  clear h hl
  obtain ⟨⟨id, sc, ep, ns, bd, dn⟩, ⟨A, ca, P, cb, D, cd⟩⟩ := e
  simp only [ecE] at *
  go_enter Tryd.func18, Tryd.ntmps18
  go_upto_region 1 with (fail)
  refine at_world (fun u => u.heap[W.heap.size]? = some (.cells #[.int .i64 id, .int .i64 sc, .int .i64 ep, .slice A ns.length ca, .slice P bd.length cb, .slice D dn.length cd] 57 (0, 0)) ∧ u.heap[W.heap.size + 1]? = some (.cells #[.int .i64 0, .int .i64 0, .int .i64 0, .slice none 0 0, .slice none 0 0, .slice none 0 0] 57 (0, 0)) ∧ Below W.heap.size W u) ⟨heap_first _ _ _, heap_second _ _ _, below2 _ _ _⟩ ?_
  rintro w1 ⟨hx1, hy1, hB1⟩
  go_cut [3] from 4 to 14 (fun _ wx => ∃ A' P' D' ca' cb' cd', wx.heap[W.heap.size]? = some (.cells #[.int .i64 id, .int .i64 sc, .int .i64 ep, .slice A' ns.length ca', .slice P' bd.length cb', .slice D' dn.length cd'] 57 (0, 0)) ∧ wx.heap[W.heap.size + 1]? = some (.cells #[.int .i64 0, .int .i64 0, .int .i64 0, .slice none 0 0, .slice none 0 0, .slice none 0 0] 57 (0, 0)) ∧ OwE wx W.heap.size (⟨id, sc, ep, ns, bd, dn⟩, ⟨A', ca', P', cb', D', cd'⟩) ∧ Below W.heap.size W wx)
  case rest =>
    obtain ⟨A', P', D', ca', cb', cd', hx, hy, ho, hb⟩ := hcut
    obtain ⟨⟨p0, p1, p2, p3, p4, p5⟩, _⟩ := six_cells hx
    obtain ⟨⟨z0, z1, z2, z3, z4, z5⟩, f0, f1, f2, f3, f4, f5⟩ := six_cells hy
    have HY := hid hy
    have HO := hid (ho.same hy (by decide) (by decide) (by decide) (fun g hg => put6_other (b := W.heap.size + 1) hg (.int .i64 id) (.int .i64 sc) (.int .i64 ep) (.slice A' ns.length ca') (.slice P' bd.length cb') (.slice D' dn.length cd')))
    have HB := hid (put6_below hb (Nat.le_succ _) (.int .i64 id) (.int .i64 sc) (.int .i64 ep) (.slice A' ns.length ca') (.slice P' bd.length cb') (.slice D' dn.length cd'))
    obtain ⟨⟨q0, q1, q2, q3, q4, q5⟩, _⟩ := six_cells (put6_heap HY.out (.int .i64 id) (.int .i64 sc) (.int .i64 ep) (.slice A' ns.length ca') (.slice P' bd.length cb') (.slice D' dn.length cd'))
    simp only [put6] at q0 q1 q2 q3 q4 q5 HO HB
    clear hx hy ho hb
    go_wp2
    exact bodyPost_ret (v := .agg #[.int .i64 id, .int .i64 sc, .int .i64 ep, .slice A' ns.length ca', .slice P' bd.length cb', .slice D' dn.length cd']) (by simp [results, Tryd.results18, go_sem, q0, q1, q2, q3, q4, q5]) rfl ⟨⟨A', ca', P', cb', D', cd'⟩, rfl, HO.out, HB.out⟩
  have HX1 := hid hx1
  have HY1 := hid hy1
  have HLT := hid (lt_of_block hy1)
  have hu0 : Below W.heap.size W w1.drew := below_drew hB1
  have hx0 : w1.drew.heap[W.heap.size]? = some (.cells #[.int .i64 id, .int .i64 sc, .int .i64 ep, .slice A ns.length ca, .slice P bd.length cb, .slice D dn.length cd] 57 (0, 0)) := hx1
  have hy0 : w1.drew.heap[W.heap.size + 1]? = some (.cells #[.int .i64 0, .int .i64 0, .int .i64 0, .slice none 0 0, .slice none 0 0, .slice none 0 0] 57 (0, 0)) := hy1
  have HZ0 : Hid (W.heap.size + 1 < w1.drew.heap.size) := hid HLT.out
  have h0 := (six_cells hx0).1
  clear hx1 hy1 hB1
  refine wp_region_held_drew (S := fun U => Below W.heap.size W U) (by kernel_rfl) hu0 (fun hHeld => ?_)
  refine wpAnyH_take (i := 0) (v := ?_) rfl (by kernel_rfl) (by kernel_rfl) (by kernel_rfl) (fun _ _ _ h => h) (Or.inl ⟨by rfl, ?_⟩) (by assumption) ?_
  rotate_left
  focus
    intro U hU
    try dsimp only at hU
    go_simp
    try (with_reducible rfl)
  simp only [List.getElem_toArray, List.getElem_cons_succ, List.getElem_cons_zero, Act.put, List.setIfInBounds_toArray, List.set_cons_zero, List.set_cons_succ]
  refine wpAnyH_take (i := 3) (v := ?_) rfl (by kernel_rfl) (by kernel_rfl) (by kernel_rfl) (fun _ _ _ h => h) (Or.inl ⟨by rfl, ?_⟩) (by assumption) ?_
  rotate_left
  focus
    intro U hU
    try dsimp only at hU
    go_simp
    try (with_reducible rfl)
  simp only [List.getElem_toArray, List.getElem_cons_succ, List.getElem_cons_zero, Act.put, List.setIfInBounds_toArray, List.set_cons_zero, List.set_cons_succ]
  refine wpAnyH_take (i := 6) (v := ?_) rfl (by kernel_rfl) (by kernel_rfl) (by kernel_rfl) (fun _ _ _ h => h) (Or.inl ⟨by rfl, ?_⟩) (by assumption) ?_
  rotate_left
  focus
    intro U hU
    try dsimp only at hU
    go_simp
    try (with_reducible rfl)
  simp only [List.getElem_toArray, List.getElem_cons_succ, List.getElem_cons_zero, Act.put, List.setIfInBounds_toArray, List.set_cons_zero, List.set_cons_succ]
  refine wpAnyH_ready (rs := [1, 4, 7]) (by kernel_rfl) (by simp) ?_
  refine (AllReadyH.cons rfl (fun K hK => ?_) (AllReadyH.cons rfl (fun K hK => ?_) (AllReadyH.cons rfl (fun K hK => ?_) AllReadyH.nil)))
  · skip
    have hh := h0
    obtain ⟨p0, p1, p2, p3, p4, p5⟩ := hh
    simp only [List.getElem_toArray, List.getElem_cons_succ, List.getElem_cons_zero]
    go_simp
    refine hK.out _ _ ?_ (fun hHeld2 => ?_)
    focus
      exact (by with_reducible assumption)
    clear hHeld
    have hHeld := hHeld2
    clear hHeld2 hK K
    try simp only [List.getElem_toArray, List.getElem_cons_succ, List.getElem_cons_zero, Act.put, List.setIfInBounds_toArray, List.set_cons_zero, List.set_cons_succ]
    clear p0 p1 p2 p3 p4 p5
    refine wpAnyH_ready (rs := [2, 4, 7]) (by kernel_rfl) (by simp) ?_
    refine (AllReadyH.cons rfl (fun K hK => ?_) (AllReadyH.cons rfl (fun K hK => ?_) (AllReadyH.cons rfl (fun K hK => ?_) AllReadyH.nil)))
    · skip
      simp only [List.getElem_toArray, List.getElem_cons_succ, List.getElem_cons_zero]
      go_simp
      refine (HA.out _ hu0).mono ?_
      rintro q u1 ⟨v1, rfl, g1, o1⟩
      obtain ⟨A1, c1, rfl, _⟩ := Sl.of_own o1
      have hu1 : Below W.heap.size W u1 := hu0.trans (g1.mono hu0.size)
      have hx1 := keep0 hx0 g1
      have hy1 := keep0 hy0 g1
      have h1 := (six_cells hx1).1
      clear h0
      go_wp2_with fail
      refine hK.out _ _ ?_ (fun hHeld2 => ?_)
      focus
        exact (by with_reducible assumption)
      clear hHeld
      have hHeld := hHeld2
      clear hHeld2 hK K
      try simp only [List.getElem_toArray, List.getElem_cons_succ, List.getElem_cons_zero, Act.put, List.setIfInBounds_toArray, List.set_cons_zero, List.set_cons_succ]
      refine wpAnyH_ready (rs := [4, 7]) (by kernel_rfl) (by simp) ?_
      refine (AllReadyH.cons rfl (fun K hK => ?_) (AllReadyH.cons rfl (fun K hK => ?_) AllReadyH.nil))
      · skip
        have hh := h1
        obtain ⟨p0, p1, p2, p3, p4, p5⟩ := hh
        simp only [List.getElem_toArray, List.getElem_cons_succ, List.getElem_cons_zero]
        go_simp
        refine hK.out _ _ ?_ (fun hHeld2 => ?_)
        focus
          exact (by with_reducible assumption)
        clear hHeld
        have hHeld := hHeld2
        clear hHeld2 hK K
        try simp only [List.getElem_toArray, List.getElem_cons_succ, List.getElem_cons_zero, Act.put, List.setIfInBounds_toArray, List.set_cons_zero, List.set_cons_succ]
        clear p0 p1 p2 p3 p4 p5
        refine wpAnyH_ready (rs := [5, 7]) (by kernel_rfl) (by simp) ?_
        refine (AllReadyH.cons rfl (fun K hK => ?_) (AllReadyH.cons rfl (fun K hK => ?_) AllReadyH.nil))
        · skip
          simp only [List.getElem_toArray, List.getElem_cons_succ, List.getElem_cons_zero]
          go_simp
          refine (HO.out _ hu1).mono ?_
          rintro q u2 ⟨v2, rfl, g2, o2⟩
          obtain ⟨A2, c2, rfl, _⟩ := Sl.of_own o2
          have hu2 : Below W.heap.size W u2 := hu1.trans (g2.mono hu1.size)
          have hx2 := keep0 hx1 g2
          have hy2 := keep0 hy1 g2
          have h2 := (six_cells hx2).1
          clear h1
          go_wp2_with fail
          refine hK.out _ _ ?_ (fun hHeld2 => ?_)
          focus
            exact (by with_reducible assumption)
          clear hHeld
          have hHeld := hHeld2
          clear hHeld2 hK K
          try simp only [List.getElem_toArray, List.getElem_cons_succ, List.getElem_cons_zero, Act.put, List.setIfInBounds_toArray, List.set_cons_zero, List.set_cons_succ]
          refine wpAnyH_ready (rs := [7]) (by kernel_rfl) (by simp) ?_
          refine (AllReadyH.cons rfl (fun K hK => ?_) AllReadyH.nil)
          have hh := h2
          obtain ⟨p0, p1, p2, p3, p4, p5⟩ := hh
          simp only [List.getElem_toArray, List.getElem_cons_succ, List.getElem_cons_zero]
          go_simp
          refine hK.out _ _ ?_ (fun hHeld2 => ?_)
          focus
            exact (by with_reducible assumption)
          clear hHeld
          have hHeld := hHeld2
          clear hHeld2 hK K
          try simp only [List.getElem_toArray, List.getElem_cons_succ, List.getElem_cons_zero, Act.put, List.setIfInBounds_toArray, List.set_cons_zero, List.set_cons_succ]
          clear p0 p1 p2 p3 p4 p5
          refine wpAnyH_take (i := 9) (v := ?_) rfl (by kernel_rfl) (by kernel_rfl) (by kernel_rfl) (fun _ _ _ h => h) (Or.inl ⟨by rfl, ?_⟩) (by assumption) ?_
          rotate_left
          focus
            intro U hU
            try dsimp only at hU
            go_simp
            try (with_reducible rfl)
          simp only [List.getElem_toArray, List.getElem_cons_succ, List.getElem_cons_zero, Act.put, List.setIfInBounds_toArray, List.set_cons_zero, List.set_cons_succ]
          refine wpAnyH_ready (rs := [8]) (by kernel_rfl) (by simp) ?_
          refine (AllReadyH.cons rfl (fun K hK => ?_) AllReadyH.nil)
          simp only [List.getElem_toArray, List.getElem_cons_succ, List.getElem_cons_zero]
          go_simp
          refine (HR.out _ hu2).mono ?_
          rintro q u3 ⟨v3, rfl, g3, o3⟩
          obtain ⟨A3, c3, rfl, _⟩ := Sl.of_own o3
          have hu3 : Below W.heap.size W u3 := hu2.trans (g3.mono hu2.size)
          have hx3 := keep0 hx2 g3
          have hy3 := keep0 hy2 g3
          have h3 := (six_cells hx3).1
          clear h2
          go_wp2_with fail
          refine hK.out _ _ ?_ (fun hHeld2 => ?_)
          focus
            exact (by with_reducible assumption)
          clear hHeld
          have hHeld := hHeld2
          clear hHeld2 hK K
          try simp only [List.getElem_toArray, List.getElem_cons_succ, List.getElem_cons_zero, Act.put, List.setIfInBounds_toArray, List.set_cons_zero, List.set_cons_succ]
          have hf := (six_cells hx3).2
          obtain ⟨f0, f1, f2, f3, f4, f5⟩ := hf
          obtain ⟨p0, p1, p2, p3, p4, p5⟩ := h3
          refine wpAnyH_ready (rs := [10]) (by kernel_rfl) (by simp) ?_
          refine AllReadyH.cons rfl (fun K hK => ?_) AllReadyH.nil
          simp only [List.getElem_toArray, List.getElem_cons_succ, List.getElem_cons_zero]
          go_simp
          refine hK.out _ _ ?_ (fun hHeld2 => ?_)
          focus
            repeat' (first | with_reducible exact hu3 | with_reducible refine Below.setCell ?_ (by simp) _)
          clear hHeld
          have hHeld := hHeld2
          clear hHeld2 hK K
          try simp only [List.getElem_toArray, List.getElem_cons_succ, List.getElem_cons_zero, Act.put, List.setIfInBounds_toArray, List.set_cons_zero, List.set_cons_succ]
          refine wpAnyH_take (i := 11) (v := ?_) rfl (by kernel_rfl) (by kernel_rfl) (by kernel_rfl) (fun _ _ _ h => h) (Or.inl ⟨by rfl, ?_⟩) (by repeat' (first | with_reducible exact hu3 | with_reducible refine Below.setCell ?_ (by simp) _)) ?_
          rotate_left
          focus
            intro U hU
            try dsimp only at hU
            go_simp
            try (with_reducible rfl)
          simp only [List.getElem_toArray, List.getElem_cons_succ, List.getElem_cons_zero, Act.put, List.setIfInBounds_toArray, List.set_cons_zero, List.set_cons_succ]
          refine wpAnyH_ready (rs := [12]) (by kernel_rfl) (by simp) ?_
          refine AllReadyH.cons rfl (fun K hK => ?_) AllReadyH.nil
          simp only [List.getElem_toArray, List.getElem_cons_succ, List.getElem_cons_zero]
          go_simp
          refine hK.out _ _ ?_ (fun hHeld2 => ?_)
          focus
            repeat' (first | with_reducible exact hu3 | with_reducible refine Below.setCell ?_ (by simp) _)
          clear hHeld
          have hHeld := hHeld2
          clear hHeld2 hK K
          try simp only [List.getElem_toArray, List.getElem_cons_succ, List.getElem_cons_zero, Act.put, List.setIfInBounds_toArray, List.set_cons_zero, List.set_cons_succ]
          refine wpAnyH_take (i := 13) (v := ?_) rfl (by kernel_rfl) (by kernel_rfl) (by kernel_rfl) (fun _ _ _ h => h) (Or.inl ⟨by rfl, ?_⟩) (by repeat' (first | with_reducible exact hu3 | with_reducible refine Below.setCell ?_ (by simp) _)) ?_
          rotate_left
          focus
            intro U hU
            try dsimp only at hU
            go_simp
            try (with_reducible rfl)
          simp only [List.getElem_toArray, List.getElem_cons_succ, List.getElem_cons_zero, Act.put, List.setIfInBounds_toArray, List.set_cons_zero, List.set_cons_succ]
          refine wpAnyH_ready (rs := [14]) (by kernel_rfl) (by simp) ?_
          refine AllReadyH.cons rfl (fun K hK => ?_) AllReadyH.nil
          simp only [List.getElem_toArray, List.getElem_cons_succ, List.getElem_cons_zero]
          go_simp
          refine hK.out _ _ ?_ (fun hHeld2 => ?_)
          focus
            repeat' (first | with_reducible exact hu3 | with_reducible refine Below.setCell ?_ (by simp) _)
          clear hHeld
          have hHeld := hHeld2
          clear hHeld2 hK K
          try simp only [List.getElem_toArray, List.getElem_cons_succ, List.getElem_cons_zero, Act.put, List.setIfInBounds_toArray, List.set_cons_zero, List.set_cons_succ]
          refine wpAnyH_done (by kernel_rfl) ?_ _
          clear hHeld f0 f1 f2 f3 f4 f5 p0 p1 p2 p3 p4 p5
          go_wp2_with fail
          go_meet
          exact ⟨A1, A2, A3, c1, c2, c3, cl_endE hx3 hy3 hu3 g2 g3 hu0.size hu1.size hu2.size o1 o2 o3 HS.out _ rfl⟩
        · skip
          have hh := h1
          obtain ⟨p0, p1, p2, p3, p4, p5⟩ := hh
          simp only [List.getElem_toArray, List.getElem_cons_succ, List.getElem_cons_zero]
          go_simp
          refine hK.out _ _ ?_ (fun hHeld2 => ?_)
          focus
            exact (by with_reducible assumption)
          clear hHeld
          have hHeld := hHeld2
          clear hHeld2 hK K
          try simp only [List.getElem_toArray, List.getElem_cons_succ, List.getElem_cons_zero, Act.put, List.setIfInBounds_toArray, List.set_cons_zero, List.set_cons_succ]
          clear p0 p1 p2 p3 p4 p5
          refine wpAnyH_take (i := 9) (v := ?_) rfl (by kernel_rfl) (by kernel_rfl) (by kernel_rfl) (fun _ _ _ h => h) (Or.inl ⟨by rfl, ?_⟩) (by assumption) ?_
          rotate_left
          focus
            intro U hU
            try dsimp only at hU
            go_simp
            try (with_reducible rfl)
          simp only [List.getElem_toArray, List.getElem_cons_succ, List.getElem_cons_zero, Act.put, List.setIfInBounds_toArray, List.set_cons_zero, List.set_cons_succ]
          refine wpAnyH_ready (rs := [5]) (by kernel_rfl) (by simp) ?_
          refine (AllReadyH.cons rfl (fun K hK => ?_) AllReadyH.nil)
          simp only [List.getElem_toArray, List.getElem_cons_succ, List.getElem_cons_zero]
          go_simp
          refine (HO.out _ hu1).mono ?_
          rintro q u2 ⟨v2, rfl, g2, o2⟩
          obtain ⟨A2, c2, rfl, _⟩ := Sl.of_own o2
          have hu2 : Below W.heap.size W u2 := hu1.trans (g2.mono hu1.size)
          have hx2 := keep0 hx1 g2
          have hy2 := keep0 hy1 g2
          have h2 := (six_cells hx2).1
          clear h1
          go_wp2_with fail
          refine hK.out _ _ ?_ (fun hHeld2 => ?_)
          focus
            exact (by with_reducible assumption)
          clear hHeld
          have hHeld := hHeld2
          clear hHeld2 hK K
          try simp only [List.getElem_toArray, List.getElem_cons_succ, List.getElem_cons_zero, Act.put, List.setIfInBounds_toArray, List.set_cons_zero, List.set_cons_succ]
          refine wpAnyH_ready (rs := [8]) (by kernel_rfl) (by simp) ?_
          refine (AllReadyH.cons rfl (fun K hK => ?_) AllReadyH.nil)
          simp only [List.getElem_toArray, List.getElem_cons_succ, List.getElem_cons_zero]
          go_simp
          refine (HR.out _ hu2).mono ?_
          rintro q u3 ⟨v3, rfl, g3, o3⟩
          obtain ⟨A3, c3, rfl, _⟩ := Sl.of_own o3
          have hu3 : Below W.heap.size W u3 := hu2.trans (g3.mono hu2.size)
          have hx3 := keep0 hx2 g3
          have hy3 := keep0 hy2 g3
          have h3 := (six_cells hx3).1
          clear h2
          go_wp2_with fail
          refine hK.out _ _ ?_ (fun hHeld2 => ?_)
          focus
            exact (by with_reducible assumption)
          clear hHeld
          have hHeld := hHeld2
          clear hHeld2 hK K
          try simp only [List.getElem_toArray, List.getElem_cons_succ, List.getElem_cons_zero, Act.put, List.setIfInBounds_toArray, List.set_cons_zero, List.set_cons_succ]
          have hf := (six_cells hx3).2
          obtain ⟨f0, f1, f2, f3, f4, f5⟩ := hf
          obtain ⟨p0, p1, p2, p3, p4, p5⟩ := h3
          refine wpAnyH_ready (rs := [10]) (by kernel_rfl) (by simp) ?_
          refine AllReadyH.cons rfl (fun K hK => ?_) AllReadyH.nil
          simp only [List.getElem_toArray, List.getElem_cons_succ, List.getElem_cons_zero]
          go_simp
          refine hK.out _ _ ?_ (fun hHeld2 => ?_)
          focus
            repeat' (first | with_reducible exact hu3 | with_reducible refine Below.setCell ?_ (by simp) _)
          clear hHeld
          have hHeld := hHeld2
          clear hHeld2 hK K
          try simp only [List.getElem_toArray, List.getElem_cons_succ, List.getElem_cons_zero, Act.put, List.setIfInBounds_toArray, List.set_cons_zero, List.set_cons_succ]
          refine wpAnyH_take (i := 11) (v := ?_) rfl (by kernel_rfl) (by kernel_rfl) (by kernel_rfl) (fun _ _ _ h => h) (Or.inl ⟨by rfl, ?_⟩) (by repeat' (first | with_reducible exact hu3 | with_reducible refine Below.setCell ?_ (by simp) _)) ?_
          rotate_left
          focus
            intro U hU
            try dsimp only at hU
            go_simp
            try (with_reducible rfl)
          simp only [List.getElem_toArray, List.getElem_cons_succ, List.getElem_cons_zero, Act.put, List.setIfInBounds_toArray, List.set_cons_zero, List.set_cons_succ]
          refine wpAnyH_ready (rs := [12]) (by kernel_rfl) (by simp) ?_
          refine AllReadyH.cons rfl (fun K hK => ?_) AllReadyH.nil
          simp only [List.getElem_toArray, List.getElem_cons_succ, List.getElem_cons_zero]
          go_simp
          refine hK.out _ _ ?_ (fun hHeld2 => ?_)
          focus
            repeat' (first | with_reducible exact hu3 | with_reducible refine Below.setCell ?_ (by simp) _)
          clear hHeld
          have hHeld := hHeld2
          clear hHeld2 hK K
          try simp only [List.getElem_toArray, List.getElem_cons_succ, List.getElem_cons_zero, Act.put, List.setIfInBounds_toArray, List.set_cons_zero, List.set_cons_succ]
          refine wpAnyH_take (i := 13) (v := ?_) rfl (by kernel_rfl) (by kernel_rfl) (by kernel_rfl) (fun _ _ _ h => h) (Or.inl ⟨by rfl, ?_⟩) (by repeat' (first | with_reducible exact hu3 | with_reducible refine Below.setCell ?_ (by simp) _)) ?_
          rotate_left
          focus
            intro U hU
            try dsimp only at hU
            go_simp
            try (with_reducible rfl)
          simp only [List.getElem_toArray, List.getElem_cons_succ, List.getElem_cons_zero, Act.put, List.setIfInBounds_toArray, List.set_cons_zero, List.set_cons_succ]
          refine wpAnyH_ready (rs := [14]) (by kernel_rfl) (by simp) ?_
          refine AllReadyH.cons rfl (fun K hK => ?_) AllReadyH.nil
          simp only [List.getElem_toArray, List.getElem_cons_succ, List.getElem_cons_zero]
          go_simp
          refine hK.out _ _ ?_ (fun hHeld2 => ?_)
          focus
            repeat' (first | with_reducible exact hu3 | with_reducible refine Below.setCell ?_ (by simp) _)
          clear hHeld
          have hHeld := hHeld2
          clear hHeld2 hK K
          try simp only [List.getElem_toArray, List.getElem_cons_succ, List.getElem_cons_zero, Act.put, List.setIfInBounds_toArray, List.set_cons_zero, List.set_cons_succ]
          refine wpAnyH_done (by kernel_rfl) ?_ _
          clear hHeld f0 f1 f2 f3 f4 f5 p0 p1 p2 p3 p4 p5
          go_wp2_with fail
          go_meet
          exact ⟨A1, A2, A3, c1, c2, c3, cl_endE hx3 hy3 hu3 g2 g3 hu0.size hu1.size hu2.size o1 o2 o3 HS.out _ rfl⟩
      · skip
        have hh := h1
        obtain ⟨p0, p1, p2, p3, p4, p5⟩ := hh
        simp only [List.getElem_toArray, List.getElem_cons_succ, List.getElem_cons_zero]
        go_simp
        refine hK.out _ _ ?_ (fun hHeld2 => ?_)
        focus
          exact (by with_reducible assumption)
        clear hHeld
        have hHeld := hHeld2
        clear hHeld2 hK K
        try simp only [List.getElem_toArray, List.getElem_cons_succ, List.getElem_cons_zero, Act.put, List.setIfInBounds_toArray, List.set_cons_zero, List.set_cons_succ]
        clear p0 p1 p2 p3 p4 p5
        refine wpAnyH_ready (rs := [4]) (by kernel_rfl) (by simp) ?_
        refine (AllReadyH.cons rfl (fun K hK => ?_) AllReadyH.nil)
        have hh := h1
        obtain ⟨p0, p1, p2, p3, p4, p5⟩ := hh
        simp only [List.getElem_toArray, List.getElem_cons_succ, List.getElem_cons_zero]
        go_simp
        refine hK.out _ _ ?_ (fun hHeld2 => ?_)
        focus
          exact (by with_reducible assumption)
        clear hHeld
        have hHeld := hHeld2
        clear hHeld2 hK K
        try simp only [List.getElem_toArray, List.getElem_cons_succ, List.getElem_cons_zero, Act.put, List.setIfInBounds_toArray, List.set_cons_zero, List.set_cons_succ]
        clear p0 p1 p2 p3 p4 p5
        refine wpAnyH_take (i := 9) (v := ?_) rfl (by kernel_rfl) (by kernel_rfl) (by kernel_rfl) (fun _ _ _ h => h) (Or.inl ⟨by rfl, ?_⟩) (by assumption) ?_
        rotate_left
        focus
          intro U hU
          try dsimp only at hU
          go_simp
          try (with_reducible rfl)
        simp only [List.getElem_toArray, List.getElem_cons_succ, List.getElem_cons_zero, Act.put, List.setIfInBounds_toArray, List.set_cons_zero, List.set_cons_succ]
        refine wpAnyH_ready (rs := [5]) (by kernel_rfl) (by simp) ?_
        refine (AllReadyH.cons rfl (fun K hK => ?_) AllReadyH.nil)
        simp only [List.getElem_toArray, List.getElem_cons_succ, List.getElem_cons_zero]
        go_simp
        refine (HO.out _ hu1).mono ?_
        rintro q u2 ⟨v2, rfl, g2, o2⟩
        obtain ⟨A2, c2, rfl, _⟩ := Sl.of_own o2
        have hu2 : Below W.heap.size W u2 := hu1.trans (g2.mono hu1.size)
        have hx2 := keep0 hx1 g2
        have hy2 := keep0 hy1 g2
        have h2 := (six_cells hx2).1
        clear h1
        go_wp2_with fail
        refine hK.out _ _ ?_ (fun hHeld2 => ?_)
        focus
          exact (by with_reducible assumption)
        clear hHeld
        have hHeld := hHeld2
        clear hHeld2 hK K
        try simp only [List.getElem_toArray, List.getElem_cons_succ, List.getElem_cons_zero, Act.put, List.setIfInBounds_toArray, List.set_cons_zero, List.set_cons_succ]
        refine wpAnyH_ready (rs := [8]) (by kernel_rfl) (by simp) ?_
        refine (AllReadyH.cons rfl (fun K hK => ?_) AllReadyH.nil)
        simp only [List.getElem_toArray, List.getElem_cons_succ, List.getElem_cons_zero]
        go_simp
        refine (HR.out _ hu2).mono ?_
        rintro q u3 ⟨v3, rfl, g3, o3⟩
        obtain ⟨A3, c3, rfl, _⟩ := Sl.of_own o3
        have hu3 : Below W.heap.size W u3 := hu2.trans (g3.mono hu2.size)
        have hx3 := keep0 hx2 g3
        have hy3 := keep0 hy2 g3
        have h3 := (six_cells hx3).1
        clear h2
        go_wp2_with fail
        refine hK.out _ _ ?_ (fun hHeld2 => ?_)
        focus
          exact (by with_reducible assumption)
        clear hHeld
        have hHeld := hHeld2
        clear hHeld2 hK K
        try simp only [List.getElem_toArray, List.getElem_cons_succ, List.getElem_cons_zero, Act.put, List.setIfInBounds_toArray, List.set_cons_zero, List.set_cons_succ]
        have hf := (six_cells hx3).2
        obtain ⟨f0, f1, f2, f3, f4, f5⟩ := hf
        obtain ⟨p0, p1, p2, p3, p4, p5⟩ := h3
        refine wpAnyH_ready (rs := [10]) (by kernel_rfl) (by simp) ?_
        refine AllReadyH.cons rfl (fun K hK => ?_) AllReadyH.nil
        simp only [List.getElem_toArray, List.getElem_cons_succ, List.getElem_cons_zero]
        go_simp
        refine hK.out _ _ ?_ (fun hHeld2 => ?_)
        focus
          repeat' (first | with_reducible exact hu3 | with_reducible refine Below.setCell ?_ (by simp) _)
        clear hHeld
        have hHeld := hHeld2
        clear hHeld2 hK K
        try simp only [List.getElem_toArray, List.getElem_cons_succ, List.getElem_cons_zero, Act.put, List.setIfInBounds_toArray, List.set_cons_zero, List.set_cons_succ]
        refine wpAnyH_take (i := 11) (v := ?_) rfl (by kernel_rfl) (by kernel_rfl) (by kernel_rfl) (fun _ _ _ h => h) (Or.inl ⟨by rfl, ?_⟩) (by repeat' (first | with_reducible exact hu3 | with_reducible refine Below.setCell ?_ (by simp) _)) ?_
        rotate_left
        focus
          intro U hU
          try dsimp only at hU
          go_simp
          try (with_reducible rfl)
        simp only [List.getElem_toArray, List.getElem_cons_succ, List.getElem_cons_zero, Act.put, List.setIfInBounds_toArray, List.set_cons_zero, List.set_cons_succ]
        refine wpAnyH_ready (rs := [12]) (by kernel_rfl) (by simp) ?_
        refine AllReadyH.cons rfl (fun K hK => ?_) AllReadyH.nil
        simp only [List.getElem_toArray, List.getElem_cons_succ, List.getElem_cons_zero]
        go_simp
        refine hK.out _ _ ?_ (fun hHeld2 => ?_)
        focus
          repeat' (first | with_reducible exact hu3 | with_reducible refine Below.setCell ?_ (by simp) _)
        clear hHeld
        have hHeld := hHeld2
        clear hHeld2 hK K
        try simp only [List.getElem_toArray, List.getElem_cons_succ, List.getElem_cons_zero, Act.put, List.setIfInBounds_toArray, List.set_cons_zero, List.set_cons_succ]
        refine wpAnyH_take (i := 13) (v := ?_) rfl (by kernel_rfl) (by kernel_rfl) (by kernel_rfl) (fun _ _ _ h => h) (Or.inl ⟨by rfl, ?_⟩) (by repeat' (first | with_reducible exact hu3 | with_reducible refine Below.setCell ?_ (by simp) _)) ?_
        rotate_left
        focus
          intro U hU
          try dsimp only at hU
          go_simp
          try (with_reducible rfl)
        simp only [List.getElem_toArray, List.getElem_cons_succ, List.getElem_cons_zero, Act.put, List.setIfInBounds_toArray, List.set_cons_zero, List.set_cons_succ]
        refine wpAnyH_ready (rs := [14]) (by kernel_rfl) (by simp) ?_
        refine AllReadyH.cons rfl (fun K hK => ?_) AllReadyH.nil
        simp only [List.getElem_toArray, List.getElem_cons_succ, List.getElem_cons_zero]
        go_simp
        refine hK.out _ _ ?_ (fun hHeld2 => ?_)
        focus
          repeat' (first | with_reducible exact hu3 | with_reducible refine Below.setCell ?_ (by simp) _)
        clear hHeld
        have hHeld := hHeld2
        clear hHeld2 hK K
        try simp only [List.getElem_toArray, List.getElem_cons_succ, List.getElem_cons_zero, Act.put, List.setIfInBounds_toArray, List.set_cons_zero, List.set_cons_succ]
        refine wpAnyH_done (by kernel_rfl) ?_ _
        clear hHeld f0 f1 f2 f3 f4 f5 p0 p1 p2 p3 p4 p5
        go_wp2_with fail
        go_meet
        exact ⟨A1, A2, A3, c1, c2, c3, cl_endE hx3 hy3 hu3 g2 g3 hu0.size hu1.size hu2.size o1 o2 o3 HS.out _ rfl⟩
    · skip
      have hh := h0
      obtain ⟨p0, p1, p2, p3, p4, p5⟩ := hh
      simp only [List.getElem_toArray, List.getElem_cons_succ, List.getElem_cons_zero]
      go_simp
      refine hK.out _ _ ?_ (fun hHeld2 => ?_)
      focus
        exact (by with_reducible assumption)
      clear hHeld
      have hHeld := hHeld2
      clear hHeld2 hK K
      try simp only [List.getElem_toArray, List.getElem_cons_succ, List.getElem_cons_zero, Act.put, List.setIfInBounds_toArray, List.set_cons_zero, List.set_cons_succ]
      clear p0 p1 p2 p3 p4 p5
      refine wpAnyH_ready (rs := [2, 7]) (by kernel_rfl) (by simp) ?_
      refine (AllReadyH.cons rfl (fun K hK => ?_) (AllReadyH.cons rfl (fun K hK => ?_) AllReadyH.nil))
      · skip
        simp only [List.getElem_toArray, List.getElem_cons_succ, List.getElem_cons_zero]
        go_simp
        refine (HA.out _ hu0).mono ?_
        rintro q u1 ⟨v1, rfl, g1, o1⟩
        obtain ⟨A1, c1, rfl, _⟩ := Sl.of_own o1
        have hu1 : Below W.heap.size W u1 := hu0.trans (g1.mono hu0.size)
        have hx1 := keep0 hx0 g1
        have hy1 := keep0 hy0 g1
        have h1 := (six_cells hx1).1
        clear h0
        go_wp2_with fail
        refine hK.out _ _ ?_ (fun hHeld2 => ?_)
        focus
          exact (by with_reducible assumption)
        clear hHeld
        have hHeld := hHeld2
        clear hHeld2 hK K
        try simp only [List.getElem_toArray, List.getElem_cons_succ, List.getElem_cons_zero, Act.put, List.setIfInBounds_toArray, List.set_cons_zero, List.set_cons_succ]
        refine wpAnyH_ready (rs := [5, 7]) (by kernel_rfl) (by simp) ?_
        refine (AllReadyH.cons rfl (fun K hK => ?_) (AllReadyH.cons rfl (fun K hK => ?_) AllReadyH.nil))
        · skip
          simp only [List.getElem_toArray, List.getElem_cons_succ, List.getElem_cons_zero]
          go_simp
          refine (HO.out _ hu1).mono ?_
          rintro q u2 ⟨v2, rfl, g2, o2⟩
          obtain ⟨A2, c2, rfl, _⟩ := Sl.of_own o2
          have hu2 : Below W.heap.size W u2 := hu1.trans (g2.mono hu1.size)
          have hx2 := keep0 hx1 g2
          have hy2 := keep0 hy1 g2
          have h2 := (six_cells hx2).1
          clear h1
          go_wp2_with fail
          refine hK.out _ _ ?_ (fun hHeld2 => ?_)
          focus
            exact (by with_reducible assumption)
          clear hHeld
          have hHeld := hHeld2
          clear hHeld2 hK K
          try simp only [List.getElem_toArray, List.getElem_cons_succ, List.getElem_cons_zero, Act.put, List.setIfInBounds_toArray, List.set_cons_zero, List.set_cons_succ]
          refine wpAnyH_ready (rs := [7]) (by kernel_rfl) (by simp) ?_
          refine (AllReadyH.cons rfl (fun K hK => ?_) AllReadyH.nil)
          have hh := h2
          obtain ⟨p0, p1, p2, p3, p4, p5⟩ := hh
          simp only [List.getElem_toArray, List.getElem_cons_succ, List.getElem_cons_zero]
          go_simp
          refine hK.out _ _ ?_ (fun hHeld2 => ?_)
          focus
            exact (by with_reducible assumption)
          clear hHeld
          have hHeld := hHeld2
          clear hHeld2 hK K
          try simp only [List.getElem_toArray, List.getElem_cons_succ, List.getElem_cons_zero, Act.put, List.setIfInBounds_toArray, List.set_cons_zero, List.set_cons_succ]
          clear p0 p1 p2 p3 p4 p5
          refine wpAnyH_take (i := 9) (v := ?_) rfl (by kernel_rfl) (by kernel_rfl) (by kernel_rfl) (fun _ _ _ h => h) (Or.inl ⟨by rfl, ?_⟩) (by assumption) ?_
          rotate_left
          focus
            intro U hU
            try dsimp only at hU
            go_simp
            try (with_reducible rfl)
          simp only [List.getElem_toArray, List.getElem_cons_succ, List.getElem_cons_zero, Act.put, List.setIfInBounds_toArray, List.set_cons_zero, List.set_cons_succ]
          refine wpAnyH_ready (rs := [8]) (by kernel_rfl) (by simp) ?_
          refine (AllReadyH.cons rfl (fun K hK => ?_) AllReadyH.nil)
          simp only [List.getElem_toArray, List.getElem_cons_succ, List.getElem_cons_zero]
          go_simp
          refine (HR.out _ hu2).mono ?_
          rintro q u3 ⟨v3, rfl, g3, o3⟩
          obtain ⟨A3, c3, rfl, _⟩ := Sl.of_own o3
          have hu3 : Below W.heap.size W u3 := hu2.trans (g3.mono hu2.size)
          have hx3 := keep0 hx2 g3
          have hy3 := keep0 hy2 g3
          have h3 := (six_cells hx3).1
          clear h2
          go_wp2_with fail
          refine hK.out _ _ ?_ (fun hHeld2 => ?_)
          focus
            exact (by with_reducible assumption)
          clear hHeld
          have hHeld := hHeld2
          clear hHeld2 hK K
          try simp only [List.getElem_toArray, List.getElem_cons_succ, List.getElem_cons_zero, Act.put, List.setIfInBounds_toArray, List.set_cons_zero, List.set_cons_succ]
          have hf := (six_cells hx3).2
          obtain ⟨f0, f1, f2, f3, f4, f5⟩ := hf
          obtain ⟨p0, p1, p2, p3, p4, p5⟩ := h3
          refine wpAnyH_ready (rs := [10]) (by kernel_rfl) (by simp) ?_
          refine AllReadyH.cons rfl (fun K hK => ?_) AllReadyH.nil
          simp only [List.getElem_toArray, List.getElem_cons_succ, List.getElem_cons_zero]
          go_simp
          refine hK.out _ _ ?_ (fun hHeld2 => ?_)
          focus
            repeat' (first | with_reducible exact hu3 | with_reducible refine Below.setCell ?_ (by simp) _)
          clear hHeld
          have hHeld := hHeld2
          clear hHeld2 hK K
          try simp only [List.getElem_toArray, List.getElem_cons_succ, List.getElem_cons_zero, Act.put, List.setIfInBounds_toArray, List.set_cons_zero, List.set_cons_succ]
          refine wpAnyH_take (i := 11) (v := ?_) rfl (by kernel_rfl) (by kernel_rfl) (by kernel_rfl) (fun _ _ _ h => h) (Or.inl ⟨by rfl, ?_⟩) (by repeat' (first | with_reducible exact hu3 | with_reducible refine Below.setCell ?_ (by simp) _)) ?_
          rotate_left
          focus
            intro U hU
            try dsimp only at hU
            go_simp
            try (with_reducible rfl)
          simp only [List.getElem_toArray, List.getElem_cons_succ, List.getElem_cons_zero, Act.put, List.setIfInBounds_toArray, List.set_cons_zero, List.set_cons_succ]
          refine wpAnyH_ready (rs := [12]) (by kernel_rfl) (by simp) ?_
          refine AllReadyH.cons rfl (fun K hK => ?_) AllReadyH.nil
          simp only [List.getElem_toArray, List.getElem_cons_succ, List.getElem_cons_zero]
          go_simp
          refine hK.out _ _ ?_ (fun hHeld2 => ?_)
          focus
            repeat' (first | with_reducible exact hu3 | with_reducible refine Below.setCell ?_ (by simp) _)
          clear hHeld
          have hHeld := hHeld2
          clear hHeld2 hK K
          try simp only [List.getElem_toArray, List.getElem_cons_succ, List.getElem_cons_zero, Act.put, List.setIfInBounds_toArray, List.set_cons_zero, List.set_cons_succ]
          refine wpAnyH_take (i := 13) (v := ?_) rfl (by kernel_rfl) (by kernel_rfl) (by kernel_rfl) (fun _ _ _ h => h) (Or.inl ⟨by rfl, ?_⟩) (by repeat' (first | with_reducible exact hu3 | with_reducible refine Below.setCell ?_ (by simp) _)) ?_
          rotate_left
          focus
            intro U hU
            try dsimp only at hU
            go_simp
            try (with_reducible rfl)
          simp only [List.getElem_toArray, List.getElem_cons_succ, List.getElem_cons_zero, Act.put, List.setIfInBounds_toArray, List.set_cons_zero, List.set_cons_succ]
          refine wpAnyH_ready (rs := [14]) (by kernel_rfl) (by simp) ?_
          refine AllReadyH.cons rfl (fun K hK => ?_) AllReadyH.nil
          simp only [List.getElem_toArray, List.getElem_cons_succ, List.getElem_cons_zero]
          go_simp
          refine hK.out _ _ ?_ (fun hHeld2 => ?_)
          focus
            repeat' (first | with_reducible exact hu3 | with_reducible refine Below.setCell ?_ (by simp) _)
          clear hHeld
          have hHeld := hHeld2
          clear hHeld2 hK K
          try simp only [List.getElem_toArray, List.getElem_cons_succ, List.getElem_cons_zero, Act.put, List.setIfInBounds_toArray, List.set_cons_zero, List.set_cons_succ]
          refine wpAnyH_done (by kernel_rfl) ?_ _
          clear hHeld f0 f1 f2 f3 f4 f5 p0 p1 p2 p3 p4 p5
          go_wp2_with fail
          go_meet
          exact ⟨A1, A2, A3, c1, c2, c3, cl_endE hx3 hy3 hu3 g2 g3 hu0.size hu1.size hu2.size o1 o2 o3 HS.out _ rfl⟩
        · skip
          have hh := h1
          obtain ⟨p0, p1, p2, p3, p4, p5⟩ := hh
          simp only [List.getElem_toArray, List.getElem_cons_succ, List.getElem_cons_zero]
          go_simp
          refine hK.out _ _ ?_ (fun hHeld2 => ?_)
          focus
            exact (by with_reducible assumption)
          clear hHeld
          have hHeld := hHeld2
          clear hHeld2 hK K
          try simp only [List.getElem_toArray, List.getElem_cons_succ, List.getElem_cons_zero, Act.put, List.setIfInBounds_toArray, List.set_cons_zero, List.set_cons_succ]
          clear p0 p1 p2 p3 p4 p5
          refine wpAnyH_take (i := 9) (v := ?_) rfl (by kernel_rfl) (by kernel_rfl) (by kernel_rfl) (fun _ _ _ h => h) (Or.inl ⟨by rfl, ?_⟩) (by assumption) ?_
          rotate_left
          focus
            intro U hU
            try dsimp only at hU
            go_simp
            try (with_reducible rfl)
          simp only [List.getElem_toArray, List.getElem_cons_succ, List.getElem_cons_zero, Act.put, List.setIfInBounds_toArray, List.set_cons_zero, List.set_cons_succ]
          refine wpAnyH_ready (rs := [5]) (by kernel_rfl) (by simp) ?_
          refine (AllReadyH.cons rfl (fun K hK => ?_) AllReadyH.nil)
          simp only [List.getElem_toArray, List.getElem_cons_succ, List.getElem_cons_zero]
          go_simp
          refine (HO.out _ hu1).mono ?_
          rintro q u2 ⟨v2, rfl, g2, o2⟩
          obtain ⟨A2, c2, rfl, _⟩ := Sl.of_own o2
          have hu2 : Below W.heap.size W u2 := hu1.trans (g2.mono hu1.size)
          have hx2 := keep0 hx1 g2
          have hy2 := keep0 hy1 g2
          have h2 := (six_cells hx2).1
          clear h1
          go_wp2_with fail
          refine hK.out _ _ ?_ (fun hHeld2 => ?_)
          focus
            exact (by with_reducible assumption)
          clear hHeld
          have hHeld := hHeld2
          clear hHeld2 hK K
          try simp only [List.getElem_toArray, List.getElem_cons_succ, List.getElem_cons_zero, Act.put, List.setIfInBounds_toArray, List.set_cons_zero, List.set_cons_succ]
          refine wpAnyH_ready (rs := [8]) (by kernel_rfl) (by simp) ?_
          refine (AllReadyH.cons rfl (fun K hK => ?_) AllReadyH.nil)
          simp only [List.getElem_toArray, List.getElem_cons_succ, List.getElem_cons_zero]
          go_simp
          refine (HR.out _ hu2).mono ?_
          rintro q u3 ⟨v3, rfl, g3, o3⟩
          obtain ⟨A3, c3, rfl, _⟩ := Sl.of_own o3
          have hu3 : Below W.heap.size W u3 := hu2.trans (g3.mono hu2.size)
          have hx3 := keep0 hx2 g3
          have hy3 := keep0 hy2 g3
          have h3 := (six_cells hx3).1
          clear h2
          go_wp2_with fail
          refine hK.out _ _ ?_ (fun hHeld2 => ?_)
          focus
            exact (by with_reducible assumption)
          clear hHeld
          have hHeld := hHeld2
          clear hHeld2 hK K
          try simp only [List.getElem_toArray, List.getElem_cons_succ, List.getElem_cons_zero, Act.put, List.setIfInBounds_toArray, List.set_cons_zero, List.set_cons_succ]
          have hf := (six_cells hx3).2
          obtain ⟨f0, f1, f2, f3, f4, f5⟩ := hf
          obtain ⟨p0, p1, p2, p3, p4, p5⟩ := h3
          refine wpAnyH_ready (rs := [10]) (by kernel_rfl) (by simp) ?_
          refine AllReadyH.cons rfl (fun K hK => ?_) AllReadyH.nil
          simp only [List.getElem_toArray, List.getElem_cons_succ, List.getElem_cons_zero]
          go_simp
          refine hK.out _ _ ?_ (fun hHeld2 => ?_)
          focus
            repeat' (first | with_reducible exact hu3 | with_reducible refine Below.setCell ?_ (by simp) _)
          clear hHeld
          have hHeld := hHeld2
          clear hHeld2 hK K
          try simp only [List.getElem_toArray, List.getElem_cons_succ, List.getElem_cons_zero, Act.put, List.setIfInBounds_toArray, List.set_cons_zero, List.set_cons_succ]
          refine wpAnyH_take (i := 11) (v := ?_) rfl (by kernel_rfl) (by kernel_rfl) (by kernel_rfl) (fun _ _ _ h => h) (Or.inl ⟨by rfl, ?_⟩) (by repeat' (first | with_reducible exact hu3 | with_reducible refine Below.setCell ?_ (by simp) _)) ?_
          rotate_left
          focus
            intro U hU
            try dsimp only at hU
            go_simp
            try (with_reducible rfl)
          simp only [List.getElem_toArray, List.getElem_cons_succ, List.getElem_cons_zero, Act.put, List.setIfInBounds_toArray, List.set_cons_zero, List.set_cons_succ]
          refine wpAnyH_ready (rs := [12]) (by kernel_rfl) (by simp) ?_
          refine AllReadyH.cons rfl (fun K hK => ?_) AllReadyH.nil
          simp only [List.getElem_toArray, List.getElem_cons_succ, List.getElem_cons_zero]
          go_simp
          refine hK.out _ _ ?_ (fun hHeld2 => ?_)
          focus
            repeat' (first | with_reducible exact hu3 | with_reducible refine Below.setCell ?_ (by simp) _)
          clear hHeld
          have hHeld := hHeld2
          clear hHeld2 hK K
          try simp only [List.getElem_toArray, List.getElem_cons_succ, List.getElem_cons_zero, Act.put, List.setIfInBounds_toArray, List.set_cons_zero, List.set_cons_succ]
          refine wpAnyH_take (i := 13) (v := ?_) rfl (by kernel_rfl) (by kernel_rfl) (by kernel_rfl) (fun _ _ _ h => h) (Or.inl ⟨by rfl, ?_⟩) (by repeat' (first | with_reducible exact hu3 | with_reducible refine Below.setCell ?_ (by simp) _)) ?_
          rotate_left
          focus
            intro U hU
            try dsimp only at hU
            go_simp
            try (with_reducible rfl)
          simp only [List.getElem_toArray, List.getElem_cons_succ, List.getElem_cons_zero, Act.put, List.setIfInBounds_toArray, List.set_cons_zero, List.set_cons_succ]
          refine wpAnyH_ready (rs := [14]) (by kernel_rfl) (by simp) ?_
          refine AllReadyH.cons rfl (fun K hK => ?_) AllReadyH.nil
          simp only [List.getElem_toArray, List.getElem_cons_succ, List.getElem_cons_zero]
          go_simp
          refine hK.out _ _ ?_ (fun hHeld2 => ?_)
          focus
            repeat' (first | with_reducible exact hu3 | with_reducible refine Below.setCell ?_ (by simp) _)
          clear hHeld
          have hHeld := hHeld2
          clear hHeld2 hK K
          try simp only [List.getElem_toArray, List.getElem_cons_succ, List.getElem_cons_zero, Act.put, List.setIfInBounds_toArray, List.set_cons_zero, List.set_cons_succ]
          refine wpAnyH_done (by kernel_rfl) ?_ _
          clear hHeld f0 f1 f2 f3 f4 f5 p0 p1 p2 p3 p4 p5
          go_wp2_with fail
          go_meet
          exact ⟨A1, A2, A3, c1, c2, c3, cl_endE hx3 hy3 hu3 g2 g3 hu0.size hu1.size hu2.size o1 o2 o3 HS.out _ rfl⟩
      · skip
        have hh := h0
        obtain ⟨p0, p1, p2, p3, p4, p5⟩ := hh
        simp only [List.getElem_toArray, List.getElem_cons_succ, List.getElem_cons_zero]
        go_simp
        refine hK.out _ _ ?_ (fun hHeld2 => ?_)
        focus
          exact (by with_reducible assumption)
        clear hHeld
        have hHeld := hHeld2
        clear hHeld2 hK K
        try simp only [List.getElem_toArray, List.getElem_cons_succ, List.getElem_cons_zero, Act.put, List.setIfInBounds_toArray, List.set_cons_zero, List.set_cons_succ]
        clear p0 p1 p2 p3 p4 p5
        refine wpAnyH_ready (rs := [2]) (by kernel_rfl) (by simp) ?_
        refine (AllReadyH.cons rfl (fun K hK => ?_) AllReadyH.nil)
        simp only [List.getElem_toArray, List.getElem_cons_succ, List.getElem_cons_zero]
        go_simp
        refine (HA.out _ hu0).mono ?_
        rintro q u1 ⟨v1, rfl, g1, o1⟩
        obtain ⟨A1, c1, rfl, _⟩ := Sl.of_own o1
        have hu1 : Below W.heap.size W u1 := hu0.trans (g1.mono hu0.size)
        have hx1 := keep0 hx0 g1
        have hy1 := keep0 hy0 g1
        have h1 := (six_cells hx1).1
        clear h0
        go_wp2_with fail
        refine hK.out _ _ ?_ (fun hHeld2 => ?_)
        focus
          exact (by with_reducible assumption)
        clear hHeld
        have hHeld := hHeld2
        clear hHeld2 hK K
        try simp only [List.getElem_toArray, List.getElem_cons_succ, List.getElem_cons_zero, Act.put, List.setIfInBounds_toArray, List.set_cons_zero, List.set_cons_succ]
        refine wpAnyH_take (i := 9) (v := ?_) rfl (by kernel_rfl) (by kernel_rfl) (by kernel_rfl) (fun _ _ _ h => h) (Or.inl ⟨by rfl, ?_⟩) (by assumption) ?_
        rotate_left
        focus
          intro U hU
          try dsimp only at hU
          go_simp
          try (with_reducible rfl)
        simp only [List.getElem_toArray, List.getElem_cons_succ, List.getElem_cons_zero, Act.put, List.setIfInBounds_toArray, List.set_cons_zero, List.set_cons_succ]
        refine wpAnyH_ready (rs := [5]) (by kernel_rfl) (by simp) ?_
        refine (AllReadyH.cons rfl (fun K hK => ?_) AllReadyH.nil)
        simp only [List.getElem_toArray, List.getElem_cons_succ, List.getElem_cons_zero]
        go_simp
        refine (HO.out _ hu1).mono ?_
        rintro q u2 ⟨v2, rfl, g2, o2⟩
        obtain ⟨A2, c2, rfl, _⟩ := Sl.of_own o2
        have hu2 : Below W.heap.size W u2 := hu1.trans (g2.mono hu1.size)
        have hx2 := keep0 hx1 g2
        have hy2 := keep0 hy1 g2
        have h2 := (six_cells hx2).1
        clear h1
        go_wp2_with fail
        refine hK.out _ _ ?_ (fun hHeld2 => ?_)
        focus
          exact (by with_reducible assumption)
        clear hHeld
        have hHeld := hHeld2
        clear hHeld2 hK K
        try simp only [List.getElem_toArray, List.getElem_cons_succ, List.getElem_cons_zero, Act.put, List.setIfInBounds_toArray, List.set_cons_zero, List.set_cons_succ]
        refine wpAnyH_ready (rs := [8]) (by kernel_rfl) (by simp) ?_
        refine (AllReadyH.cons rfl (fun K hK => ?_) AllReadyH.nil)
        simp only [List.getElem_toArray, List.getElem_cons_succ, List.getElem_cons_zero]
        go_simp
        refine (HR.out _ hu2).mono ?_
        rintro q u3 ⟨v3, rfl, g3, o3⟩
        obtain ⟨A3, c3, rfl, _⟩ := Sl.of_own o3
        have hu3 : Below W.heap.size W u3 := hu2.trans (g3.mono hu2.size)
        have hx3 := keep0 hx2 g3
        have hy3 := keep0 hy2 g3
        have h3 := (six_cells hx3).1
        clear h2
        go_wp2_with fail
        refine hK.out _ _ ?_ (fun hHeld2 => ?_)
        focus
          exact (by with_reducible assumption)
        clear hHeld
        have hHeld := hHeld2
        clear hHeld2 hK K
        try simp only [List.getElem_toArray, List.getElem_cons_succ, List.getElem_cons_zero, Act.put, List.setIfInBounds_toArray, List.set_cons_zero, List.set_cons_succ]
        have hf := (six_cells hx3).2
        obtain ⟨f0, f1, f2, f3, f4, f5⟩ := hf
        obtain ⟨p0, p1, p2, p3, p4, p5⟩ := h3
        refine wpAnyH_ready (rs := [10]) (by kernel_rfl) (by simp) ?_
        refine AllReadyH.cons rfl (fun K hK => ?_) AllReadyH.nil
        simp only [List.getElem_toArray, List.getElem_cons_succ, List.getElem_cons_zero]
        go_simp
        refine hK.out _ _ ?_ (fun hHeld2 => ?_)
        focus
          repeat' (first | with_reducible exact hu3 | with_reducible refine Below.setCell ?_ (by simp) _)
        clear hHeld
        have hHeld := hHeld2
        clear hHeld2 hK K
        try simp only [List.getElem_toArray, List.getElem_cons_succ, List.getElem_cons_zero, Act.put, List.setIfInBounds_toArray, List.set_cons_zero, List.set_cons_succ]
        refine wpAnyH_take (i := 11) (v := ?_) rfl (by kernel_rfl) (by kernel_rfl) (by kernel_rfl) (fun _ _ _ h => h) (Or.inl ⟨by rfl, ?_⟩) (by repeat' (first | with_reducible exact hu3 | with_reducible refine Below.setCell ?_ (by simp) _)) ?_
        rotate_left
        focus
          intro U hU
          try dsimp only at hU
          go_simp
          try (with_reducible rfl)
        simp only [List.getElem_toArray, List.getElem_cons_succ, List.getElem_cons_zero, Act.put, List.setIfInBounds_toArray, List.set_cons_zero, List.set_cons_succ]
        refine wpAnyH_ready (rs := [12]) (by kernel_rfl) (by simp) ?_
        refine AllReadyH.cons rfl (fun K hK => ?_) AllReadyH.nil
        simp only [List.getElem_toArray, List.getElem_cons_succ, List.getElem_cons_zero]
        go_simp
        refine hK.out _ _ ?_ (fun hHeld2 => ?_)
        focus
          repeat' (first | with_reducible exact hu3 | with_reducible refine Below.setCell ?_ (by simp) _)
        clear hHeld
        have hHeld := hHeld2
        clear hHeld2 hK K
        try simp only [List.getElem_toArray, List.getElem_cons_succ, List.getElem_cons_zero, Act.put, List.setIfInBounds_toArray, List.set_cons_zero, List.set_cons_succ]
        refine wpAnyH_take (i := 13) (v := ?_) rfl (by kernel_rfl) (by kernel_rfl) (by kernel_rfl) (fun _ _ _ h => h) (Or.inl ⟨by rfl, ?_⟩) (by repeat' (first | with_reducible exact hu3 | with_reducible refine Below.setCell ?_ (by simp) _)) ?_
        rotate_left
        focus
          intro U hU
          try dsimp only at hU
          go_simp
          try (with_reducible rfl)
        simp only [List.getElem_toArray, List.getElem_cons_succ, List.getElem_cons_zero, Act.put, List.setIfInBounds_toArray, List.set_cons_zero, List.set_cons_succ]
        refine wpAnyH_ready (rs := [14]) (by kernel_rfl) (by simp) ?_
        refine AllReadyH.cons rfl (fun K hK => ?_) AllReadyH.nil
        simp only [List.getElem_toArray, List.getElem_cons_succ, List.getElem_cons_zero]
        go_simp
        refine hK.out _ _ ?_ (fun hHeld2 => ?_)
        focus
          repeat' (first | with_reducible exact hu3 | with_reducible refine Below.setCell ?_ (by simp) _)
        clear hHeld
        have hHeld := hHeld2
        clear hHeld2 hK K
        try simp only [List.getElem_toArray, List.getElem_cons_succ, List.getElem_cons_zero, Act.put, List.setIfInBounds_toArray, List.set_cons_zero, List.set_cons_succ]
        refine wpAnyH_done (by kernel_rfl) ?_ _
        clear hHeld f0 f1 f2 f3 f4 f5 p0 p1 p2 p3 p4 p5
        go_wp2_with fail
        go_meet
        exact ⟨A1, A2, A3, c1, c2, c3, cl_endE hx3 hy3 hu3 g2 g3 hu0.size hu1.size hu2.size o1 o2 o3 HS.out _ rfl⟩
    · skip
      have hh := h0
      obtain ⟨p0, p1, p2, p3, p4, p5⟩ := hh
      simp only [List.getElem_toArray, List.getElem_cons_succ, List.getElem_cons_zero]
      go_simp
      refine hK.out _ _ ?_ (fun hHeld2 => ?_)
      focus
        exact (by with_reducible assumption)
      clear hHeld
      have hHeld := hHeld2
      clear hHeld2 hK K
      try simp only [List.getElem_toArray, List.getElem_cons_succ, List.getElem_cons_zero, Act.put, List.setIfInBounds_toArray, List.set_cons_zero, List.set_cons_succ]
      clear p0 p1 p2 p3 p4 p5
      refine wpAnyH_ready (rs := [2, 4]) (by kernel_rfl) (by simp) ?_
      refine (AllReadyH.cons rfl (fun K hK => ?_) (AllReadyH.cons rfl (fun K hK => ?_) AllReadyH.nil))
      · skip
        simp only [List.getElem_toArray, List.getElem_cons_succ, List.getElem_cons_zero]
        go_simp
        refine (HA.out _ hu0).mono ?_
        rintro q u1 ⟨v1, rfl, g1, o1⟩
        obtain ⟨A1, c1, rfl, _⟩ := Sl.of_own o1
        have hu1 : Below W.heap.size W u1 := hu0.trans (g1.mono hu0.size)
        have hx1 := keep0 hx0 g1
        have hy1 := keep0 hy0 g1
        have h1 := (six_cells hx1).1
        clear h0
        go_wp2_with fail
        refine hK.out _ _ ?_ (fun hHeld2 => ?_)
        focus
          exact (by with_reducible assumption)
        clear hHeld
        have hHeld := hHeld2
        clear hHeld2 hK K
        try simp only [List.getElem_toArray, List.getElem_cons_succ, List.getElem_cons_zero, Act.put, List.setIfInBounds_toArray, List.set_cons_zero, List.set_cons_succ]
        refine wpAnyH_ready (rs := [4]) (by kernel_rfl) (by simp) ?_
        refine (AllReadyH.cons rfl (fun K hK => ?_) AllReadyH.nil)
        have hh := h1
        obtain ⟨p0, p1, p2, p3, p4, p5⟩ := hh
        simp only [List.getElem_toArray, List.getElem_cons_succ, List.getElem_cons_zero]
        go_simp
        refine hK.out _ _ ?_ (fun hHeld2 => ?_)
        focus
          exact (by with_reducible assumption)
        clear hHeld
        have hHeld := hHeld2
        clear hHeld2 hK K
        try simp only [List.getElem_toArray, List.getElem_cons_succ, List.getElem_cons_zero, Act.put, List.setIfInBounds_toArray, List.set_cons_zero, List.set_cons_succ]
        clear p0 p1 p2 p3 p4 p5
        refine wpAnyH_take (i := 9) (v := ?_) rfl (by kernel_rfl) (by kernel_rfl) (by kernel_rfl) (fun _ _ _ h => h) (Or.inl ⟨by rfl, ?_⟩) (by assumption) ?_
        rotate_left
        focus
          intro U hU
          try dsimp only at hU
          go_simp
          try (with_reducible rfl)
        simp only [List.getElem_toArray, List.getElem_cons_succ, List.getElem_cons_zero, Act.put, List.setIfInBounds_toArray, List.set_cons_zero, List.set_cons_succ]
        refine wpAnyH_ready (rs := [5]) (by kernel_rfl) (by simp) ?_
        refine (AllReadyH.cons rfl (fun K hK => ?_) AllReadyH.nil)
        simp only [List.getElem_toArray, List.getElem_cons_succ, List.getElem_cons_zero]
        go_simp
        refine (HO.out _ hu1).mono ?_
        rintro q u2 ⟨v2, rfl, g2, o2⟩
        obtain ⟨A2, c2, rfl, _⟩ := Sl.of_own o2
        have hu2 : Below W.heap.size W u2 := hu1.trans (g2.mono hu1.size)
        have hx2 := keep0 hx1 g2
        have hy2 := keep0 hy1 g2
        have h2 := (six_cells hx2).1
        clear h1
        go_wp2_with fail
        refine hK.out _ _ ?_ (fun hHeld2 => ?_)
        focus
          exact (by with_reducible assumption)
        clear hHeld
        have hHeld := hHeld2
        clear hHeld2 hK K
        try simp only [List.getElem_toArray, List.getElem_cons_succ, List.getElem_cons_zero, Act.put, List.setIfInBounds_toArray, List.set_cons_zero, List.set_cons_succ]
        refine wpAnyH_ready (rs := [8]) (by kernel_rfl) (by simp) ?_
        refine (AllReadyH.cons rfl (fun K hK => ?_) AllReadyH.nil)
        simp only [List.getElem_toArray, List.getElem_cons_succ, List.getElem_cons_zero]
        go_simp
        refine (HR.out _ hu2).mono ?_
        rintro q u3 ⟨v3, rfl, g3, o3⟩
        obtain ⟨A3, c3, rfl, _⟩ := Sl.of_own o3
        have hu3 : Below W.heap.size W u3 := hu2.trans (g3.mono hu2.size)
        have hx3 := keep0 hx2 g3
        have hy3 := keep0 hy2 g3
        have h3 := (six_cells hx3).1
        clear h2
        go_wp2_with fail
        refine hK.out _ _ ?_ (fun hHeld2 => ?_)
        focus
          exact (by with_reducible assumption)
        clear hHeld
        have hHeld := hHeld2
        clear hHeld2 hK K
        try simp only [List.getElem_toArray, List.getElem_cons_succ, List.getElem_cons_zero, Act.put, List.setIfInBounds_toArray, List.set_cons_zero, List.set_cons_succ]
        have hf := (six_cells hx3).2
        obtain ⟨f0, f1, f2, f3, f4, f5⟩ := hf
        obtain ⟨p0, p1, p2, p3, p4, p5⟩ := h3
        refine wpAnyH_ready (rs := [10]) (by kernel_rfl) (by simp) ?_
        refine AllReadyH.cons rfl (fun K hK => ?_) AllReadyH.nil
        simp only [List.getElem_toArray, List.getElem_cons_succ, List.getElem_cons_zero]
        go_simp
        refine hK.out _ _ ?_ (fun hHeld2 => ?_)
        focus
          repeat' (first | with_reducible exact hu3 | with_reducible refine Below.setCell ?_ (by simp) _)
        clear hHeld
        have hHeld := hHeld2
        clear hHeld2 hK K
        try simp only [List.getElem_toArray, List.getElem_cons_succ, List.getElem_cons_zero, Act.put, List.setIfInBounds_toArray, List.set_cons_zero, List.set_cons_succ]
        refine wpAnyH_take (i := 11) (v := ?_) rfl (by kernel_rfl) (by kernel_rfl) (by kernel_rfl) (fun _ _ _ h => h) (Or.inl ⟨by rfl, ?_⟩) (by repeat' (first | with_reducible exact hu3 | with_reducible refine Below.setCell ?_ (by simp) _)) ?_
        rotate_left
        focus
          intro U hU
          try dsimp only at hU
          go_simp
          try (with_reducible rfl)
        simp only [List.getElem_toArray, List.getElem_cons_succ, List.getElem_cons_zero, Act.put, List.setIfInBounds_toArray, List.set_cons_zero, List.set_cons_succ]
        refine wpAnyH_ready (rs := [12]) (by kernel_rfl) (by simp) ?_
        refine AllReadyH.cons rfl (fun K hK => ?_) AllReadyH.nil
        simp only [List.getElem_toArray, List.getElem_cons_succ, List.getElem_cons_zero]
        go_simp
        refine hK.out _ _ ?_ (fun hHeld2 => ?_)
        focus
          repeat' (first | with_reducible exact hu3 | with_reducible refine Below.setCell ?_ (by simp) _)
        clear hHeld
        have hHeld := hHeld2
        clear hHeld2 hK K
        try simp only [List.getElem_toArray, List.getElem_cons_succ, List.getElem_cons_zero, Act.put, List.setIfInBounds_toArray, List.set_cons_zero, List.set_cons_succ]
        refine wpAnyH_take (i := 13) (v := ?_) rfl (by kernel_rfl) (by kernel_rfl) (by kernel_rfl) (fun _ _ _ h => h) (Or.inl ⟨by rfl, ?_⟩) (by repeat' (first | with_reducible exact hu3 | with_reducible refine Below.setCell ?_ (by simp) _)) ?_
        rotate_left
        focus
          intro U hU
          try dsimp only at hU
          go_simp
          try (with_reducible rfl)
        simp only [List.getElem_toArray, List.getElem_cons_succ, List.getElem_cons_zero, Act.put, List.setIfInBounds_toArray, List.set_cons_zero, List.set_cons_succ]
        refine wpAnyH_ready (rs := [14]) (by kernel_rfl) (by simp) ?_
        refine AllReadyH.cons rfl (fun K hK => ?_) AllReadyH.nil
        simp only [List.getElem_toArray, List.getElem_cons_succ, List.getElem_cons_zero]
        go_simp
        refine hK.out _ _ ?_ (fun hHeld2 => ?_)
        focus
          repeat' (first | with_reducible exact hu3 | with_reducible refine Below.setCell ?_ (by simp) _)
        clear hHeld
        have hHeld := hHeld2
        clear hHeld2 hK K
        try simp only [List.getElem_toArray, List.getElem_cons_succ, List.getElem_cons_zero, Act.put, List.setIfInBounds_toArray, List.set_cons_zero, List.set_cons_succ]
        refine wpAnyH_done (by kernel_rfl) ?_ _
        clear hHeld f0 f1 f2 f3 f4 f5 p0 p1 p2 p3 p4 p5
        go_wp2_with fail
        go_meet
        exact ⟨A1, A2, A3, c1, c2, c3, cl_endE hx3 hy3 hu3 g2 g3 hu0.size hu1.size hu2.size o1 o2 o3 HS.out _ rfl⟩
      · skip
        have hh := h0
        obtain ⟨p0, p1, p2, p3, p4, p5⟩ := hh
        simp only [List.getElem_toArray, List.getElem_cons_succ, List.getElem_cons_zero]
        go_simp
        refine hK.out _ _ ?_ (fun hHeld2 => ?_)
        focus
          exact (by with_reducible assumption)
        clear hHeld
        have hHeld := hHeld2
        clear hHeld2 hK K
        try simp only [List.getElem_toArray, List.getElem_cons_succ, List.getElem_cons_zero, Act.put, List.setIfInBounds_toArray, List.set_cons_zero, List.set_cons_succ]
        clear p0 p1 p2 p3 p4 p5
        refine wpAnyH_ready (rs := [2]) (by kernel_rfl) (by simp) ?_
        refine (AllReadyH.cons rfl (fun K hK => ?_) AllReadyH.nil)
        simp only [List.getElem_toArray, List.getElem_cons_succ, List.getElem_cons_zero]
        go_simp
        refine (HA.out _ hu0).mono ?_
        rintro q u1 ⟨v1, rfl, g1, o1⟩
        obtain ⟨A1, c1, rfl, _⟩ := Sl.of_own o1
        have hu1 : Below W.heap.size W u1 := hu0.trans (g1.mono hu0.size)
        have hx1 := keep0 hx0 g1
        have hy1 := keep0 hy0 g1
        have h1 := (six_cells hx1).1
        clear h0
        go_wp2_with fail
        refine hK.out _ _ ?_ (fun hHeld2 => ?_)
        focus
          exact (by with_reducible assumption)
        clear hHeld
        have hHeld := hHeld2
        clear hHeld2 hK K
        try simp only [List.getElem_toArray, List.getElem_cons_succ, List.getElem_cons_zero, Act.put, List.setIfInBounds_toArray, List.set_cons_zero, List.set_cons_succ]
        refine wpAnyH_take (i := 9) (v := ?_) rfl (by kernel_rfl) (by kernel_rfl) (by kernel_rfl) (fun _ _ _ h => h) (Or.inl ⟨by rfl, ?_⟩) (by assumption) ?_
        rotate_left
        focus
          intro U hU
          try dsimp only at hU
          go_simp
          try (with_reducible rfl)
        simp only [List.getElem_toArray, List.getElem_cons_succ, List.getElem_cons_zero, Act.put, List.setIfInBounds_toArray, List.set_cons_zero, List.set_cons_succ]
        refine wpAnyH_ready (rs := [5]) (by kernel_rfl) (by simp) ?_
        refine (AllReadyH.cons rfl (fun K hK => ?_) AllReadyH.nil)
        simp only [List.getElem_toArray, List.getElem_cons_succ, List.getElem_cons_zero]
        go_simp
        refine (HO.out _ hu1).mono ?_
        rintro q u2 ⟨v2, rfl, g2, o2⟩
        obtain ⟨A2, c2, rfl, _⟩ := Sl.of_own o2
        have hu2 : Below W.heap.size W u2 := hu1.trans (g2.mono hu1.size)
        have hx2 := keep0 hx1 g2
        have hy2 := keep0 hy1 g2
        have h2 := (six_cells hx2).1
        clear h1
        go_wp2_with fail
        refine hK.out _ _ ?_ (fun hHeld2 => ?_)
        focus
          exact (by with_reducible assumption)
        clear hHeld
        have hHeld := hHeld2
        clear hHeld2 hK K
        try simp only [List.getElem_toArray, List.getElem_cons_succ, List.getElem_cons_zero, Act.put, List.setIfInBounds_toArray, List.set_cons_zero, List.set_cons_succ]
        refine wpAnyH_ready (rs := [8]) (by kernel_rfl) (by simp) ?_
        refine (AllReadyH.cons rfl (fun K hK => ?_) AllReadyH.nil)
        simp only [List.getElem_toArray, List.getElem_cons_succ, List.getElem_cons_zero]
        go_simp
        refine (HR.out _ hu2).mono ?_
        rintro q u3 ⟨v3, rfl, g3, o3⟩
        obtain ⟨A3, c3, rfl, _⟩ := Sl.of_own o3
        have hu3 : Below W.heap.size W u3 := hu2.trans (g3.mono hu2.size)
        have hx3 := keep0 hx2 g3
        have hy3 := keep0 hy2 g3
        have h3 := (six_cells hx3).1
        clear h2
        go_wp2_with fail
        refine hK.out _ _ ?_ (fun hHeld2 => ?_)
        focus
          exact (by with_reducible assumption)
        clear hHeld
        have hHeld := hHeld2
        clear hHeld2 hK K
        try simp only [List.getElem_toArray, List.getElem_cons_succ, List.getElem_cons_zero, Act.put, List.setIfInBounds_toArray, List.set_cons_zero, List.set_cons_succ]
        have hf := (six_cells hx3).2
        obtain ⟨f0, f1, f2, f3, f4, f5⟩ := hf
        obtain ⟨p0, p1, p2, p3, p4, p5⟩ := h3
        refine wpAnyH_ready (rs := [10]) (by kernel_rfl) (by simp) ?_
        refine AllReadyH.cons rfl (fun K hK => ?_) AllReadyH.nil
        simp only [List.getElem_toArray, List.getElem_cons_succ, List.getElem_cons_zero]
        go_simp
        refine hK.out _ _ ?_ (fun hHeld2 => ?_)
        focus
          repeat' (first | with_reducible exact hu3 | with_reducible refine Below.setCell ?_ (by simp) _)
        clear hHeld
        have hHeld := hHeld2
        clear hHeld2 hK K
        try simp only [List.getElem_toArray, List.getElem_cons_succ, List.getElem_cons_zero, Act.put, List.setIfInBounds_toArray, List.set_cons_zero, List.set_cons_succ]
        refine wpAnyH_take (i := 11) (v := ?_) rfl (by kernel_rfl) (by kernel_rfl) (by kernel_rfl) (fun _ _ _ h => h) (Or.inl ⟨by rfl, ?_⟩) (by repeat' (first | with_reducible exact hu3 | with_reducible refine Below.setCell ?_ (by simp) _)) ?_
        rotate_left
        focus
          intro U hU
          try dsimp only at hU
          go_simp
          try (with_reducible rfl)
        simp only [List.getElem_toArray, List.getElem_cons_succ, List.getElem_cons_zero, Act.put, List.setIfInBounds_toArray, List.set_cons_zero, List.set_cons_succ]
        refine wpAnyH_ready (rs := [12]) (by kernel_rfl) (by simp) ?_
        refine AllReadyH.cons rfl (fun K hK => ?_) AllReadyH.nil
        simp only [List.getElem_toArray, List.getElem_cons_succ, List.getElem_cons_zero]
        go_simp
        refine hK.out _ _ ?_ (fun hHeld2 => ?_)
        focus
          repeat' (first | with_reducible exact hu3 | with_reducible refine Below.setCell ?_ (by simp) _)
        clear hHeld
        have hHeld := hHeld2
        clear hHeld2 hK K
        try simp only [List.getElem_toArray, List.getElem_cons_succ, List.getElem_cons_zero, Act.put, List.setIfInBounds_toArray, List.set_cons_zero, List.set_cons_succ]
        refine wpAnyH_take (i := 13) (v := ?_) rfl (by kernel_rfl) (by kernel_rfl) (by kernel_rfl) (fun _ _ _ h => h) (Or.inl ⟨by rfl, ?_⟩) (by repeat' (first | with_reducible exact hu3 | with_reducible refine Below.setCell ?_ (by simp) _)) ?_
        rotate_left
        focus
          intro U hU
          try dsimp only at hU
          go_simp
          try (with_reducible rfl)
        simp only [List.getElem_toArray, List.getElem_cons_succ, List.getElem_cons_zero, Act.put, List.setIfInBounds_toArray, List.set_cons_zero, List.set_cons_succ]
        refine wpAnyH_ready (rs := [14]) (by kernel_rfl) (by simp) ?_
        refine AllReadyH.cons rfl (fun K hK => ?_) AllReadyH.nil
        simp only [List.getElem_toArray, List.getElem_cons_succ, List.getElem_cons_zero]
        go_simp
        refine hK.out _ _ ?_ (fun hHeld2 => ?_)
        focus
          repeat' (first | with_reducible exact hu3 | with_reducible refine Below.setCell ?_ (by simp) _)
        clear hHeld
        have hHeld := hHeld2
        clear hHeld2 hK K
        try simp only [List.getElem_toArray, List.getElem_cons_succ, List.getElem_cons_zero, Act.put, List.setIfInBounds_toArray, List.set_cons_zero, List.set_cons_succ]
        refine wpAnyH_done (by kernel_rfl) ?_ _
        clear hHeld f0 f1 f2 f3 f4 f5 p0 p1 p2 p3 p4 p5
        go_wp2_with fail
        go_meet
        exact ⟨A1, A2, A3, c1, c2, c3, cl_endE hx3 hy3 hu3 g2 g3 hu0.size hu1.size hu2.size o1 o2 o3 HS.out _ rfl⟩
  · skip
    have hh := h0
    obtain ⟨p0, p1, p2, p3, p4, p5⟩ := hh
    simp only [List.getElem_toArray, List.getElem_cons_succ, List.getElem_cons_zero]
    go_simp
    refine hK.out _ _ ?_ (fun hHeld2 => ?_)
    focus
      exact (by with_reducible assumption)
    clear hHeld
    have hHeld := hHeld2
    clear hHeld2 hK K
    try simp only [List.getElem_toArray, List.getElem_cons_succ, List.getElem_cons_zero, Act.put, List.setIfInBounds_toArray, List.set_cons_zero, List.set_cons_succ]
    clear p0 p1 p2 p3 p4 p5
    refine wpAnyH_ready (rs := [1, 7]) (by kernel_rfl) (by simp) ?_
    refine (AllReadyH.cons rfl (fun K hK => ?_) (AllReadyH.cons rfl (fun K hK => ?_) AllReadyH.nil))
    · skip
      have hh := h0
      obtain ⟨p0, p1, p2, p3, p4, p5⟩ := hh
      simp only [List.getElem_toArray, List.getElem_cons_succ, List.getElem_cons_zero]
      go_simp
      refine hK.out _ _ ?_ (fun hHeld2 => ?_)
      focus
        exact (by with_reducible assumption)
      clear hHeld
      have hHeld := hHeld2
      clear hHeld2 hK K
      try simp only [List.getElem_toArray, List.getElem_cons_succ, List.getElem_cons_zero, Act.put, List.setIfInBounds_toArray, List.set_cons_zero, List.set_cons_succ]
      clear p0 p1 p2 p3 p4 p5
      refine wpAnyH_ready (rs := [2, 7]) (by kernel_rfl) (by simp) ?_
      refine (AllReadyH.cons rfl (fun K hK => ?_) (AllReadyH.cons rfl (fun K hK => ?_) AllReadyH.nil))
      · skip
        simp only [List.getElem_toArray, List.getElem_cons_succ, List.getElem_cons_zero]
        go_simp
        refine (HA.out _ hu0).mono ?_
        rintro q u1 ⟨v1, rfl, g1, o1⟩
        obtain ⟨A1, c1, rfl, _⟩ := Sl.of_own o1
        have hu1 : Below W.heap.size W u1 := hu0.trans (g1.mono hu0.size)
        have hx1 := keep0 hx0 g1
        have hy1 := keep0 hy0 g1
        have h1 := (six_cells hx1).1
        clear h0
        go_wp2_with fail
        refine hK.out _ _ ?_ (fun hHeld2 => ?_)
        focus
          exact (by with_reducible assumption)
        clear hHeld
        have hHeld := hHeld2
        clear hHeld2 hK K
        try simp only [List.getElem_toArray, List.getElem_cons_succ, List.getElem_cons_zero, Act.put, List.setIfInBounds_toArray, List.set_cons_zero, List.set_cons_succ]
        refine wpAnyH_ready (rs := [5, 7]) (by kernel_rfl) (by simp) ?_
        refine (AllReadyH.cons rfl (fun K hK => ?_) (AllReadyH.cons rfl (fun K hK => ?_) AllReadyH.nil))
        · skip
          simp only [List.getElem_toArray, List.getElem_cons_succ, List.getElem_cons_zero]
          go_simp
          refine (HO.out _ hu1).mono ?_
          rintro q u2 ⟨v2, rfl, g2, o2⟩
          obtain ⟨A2, c2, rfl, _⟩ := Sl.of_own o2
          have hu2 : Below W.heap.size W u2 := hu1.trans (g2.mono hu1.size)
          have hx2 := keep0 hx1 g2
          have hy2 := keep0 hy1 g2
          have h2 := (six_cells hx2).1
          clear h1
          go_wp2_with fail
          refine hK.out _ _ ?_ (fun hHeld2 => ?_)
          focus
            exact (by with_reducible assumption)
          clear hHeld
          have hHeld := hHeld2
          clear hHeld2 hK K
          try simp only [List.getElem_toArray, List.getElem_cons_succ, List.getElem_cons_zero, Act.put, List.setIfInBounds_toArray, List.set_cons_zero, List.set_cons_succ]
          refine wpAnyH_ready (rs := [7]) (by kernel_rfl) (by simp) ?_
          refine (AllReadyH.cons rfl (fun K hK => ?_) AllReadyH.nil)
          have hh := h2
          obtain ⟨p0, p1, p2, p3, p4, p5⟩ := hh
          simp only [List.getElem_toArray, List.getElem_cons_succ, List.getElem_cons_zero]
          go_simp
          refine hK.out _ _ ?_ (fun hHeld2 => ?_)
          focus
            exact (by with_reducible assumption)
          clear hHeld
          have hHeld := hHeld2
          clear hHeld2 hK K
          try simp only [List.getElem_toArray, List.getElem_cons_succ, List.getElem_cons_zero, Act.put, List.setIfInBounds_toArray, List.set_cons_zero, List.set_cons_succ]
          clear p0 p1 p2 p3 p4 p5
          refine wpAnyH_take (i := 9) (v := ?_) rfl (by kernel_rfl) (by kernel_rfl) (by kernel_rfl) (fun _ _ _ h => h) (Or.inl ⟨by rfl, ?_⟩) (by assumption) ?_
          rotate_left
          focus
            intro U hU
            try dsimp only at hU
            go_simp
            try (with_reducible rfl)
          simp only [List.getElem_toArray, List.getElem_cons_succ, List.getElem_cons_zero, Act.put, List.setIfInBounds_toArray, List.set_cons_zero, List.set_cons_succ]
          refine wpAnyH_ready (rs := [8]) (by kernel_rfl) (by simp) ?_
          refine (AllReadyH.cons rfl (fun K hK => ?_) AllReadyH.nil)
          simp only [List.getElem_toArray, List.getElem_cons_succ, List.getElem_cons_zero]
          go_simp
          refine (HR.out _ hu2).mono ?_
          rintro q u3 ⟨v3, rfl, g3, o3⟩
          obtain ⟨A3, c3, rfl, _⟩ := Sl.of_own o3
          have hu3 : Below W.heap.size W u3 := hu2.trans (g3.mono hu2.size)
          have hx3 := keep0 hx2 g3
          have hy3 := keep0 hy2 g3
          have h3 := (six_cells hx3).1
          clear h2
          go_wp2_with fail
          refine hK.out _ _ ?_ (fun hHeld2 => ?_)
          focus
            exact (by with_reducible assumption)
          clear hHeld
          have hHeld := hHeld2
          clear hHeld2 hK K
          try simp only [List.getElem_toArray, List.getElem_cons_succ, List.getElem_cons_zero, Act.put, List.setIfInBounds_toArray, List.set_cons_zero, List.set_cons_succ]
          have hf := (six_cells hx3).2
          obtain ⟨f0, f1, f2, f3, f4, f5⟩ := hf
          obtain ⟨p0, p1, p2, p3, p4, p5⟩ := h3
          refine wpAnyH_ready (rs := [10]) (by kernel_rfl) (by simp) ?_
          refine AllReadyH.cons rfl (fun K hK => ?_) AllReadyH.nil
          simp only [List.getElem_toArray, List.getElem_cons_succ, List.getElem_cons_zero]
          go_simp
          refine hK.out _ _ ?_ (fun hHeld2 => ?_)
          focus
            repeat' (first | with_reducible exact hu3 | with_reducible refine Below.setCell ?_ (by simp) _)
          clear hHeld
          have hHeld := hHeld2
          clear hHeld2 hK K
          try simp only [List.getElem_toArray, List.getElem_cons_succ, List.getElem_cons_zero, Act.put, List.setIfInBounds_toArray, List.set_cons_zero, List.set_cons_succ]
          refine wpAnyH_take (i := 11) (v := ?_) rfl (by kernel_rfl) (by kernel_rfl) (by kernel_rfl) (fun _ _ _ h => h) (Or.inl ⟨by rfl, ?_⟩) (by repeat' (first | with_reducible exact hu3 | with_reducible refine Below.setCell ?_ (by simp) _)) ?_
          rotate_left
          focus
            intro U hU
            try dsimp only at hU
            go_simp
            try (with_reducible rfl)
          simp only [List.getElem_toArray, List.getElem_cons_succ, List.getElem_cons_zero, Act.put, List.setIfInBounds_toArray, List.set_cons_zero, List.set_cons_succ]
          refine wpAnyH_ready (rs := [12]) (by kernel_rfl) (by simp) ?_
          refine AllReadyH.cons rfl (fun K hK => ?_) AllReadyH.nil
          simp only [List.getElem_toArray, List.getElem_cons_succ, List.getElem_cons_zero]
          go_simp
          refine hK.out _ _ ?_ (fun hHeld2 => ?_)
          focus
            repeat' (first | with_reducible exact hu3 | with_reducible refine Below.setCell ?_ (by simp) _)
          clear hHeld
          have hHeld := hHeld2
          clear hHeld2 hK K
          try simp only [List.getElem_toArray, List.getElem_cons_succ, List.getElem_cons_zero, Act.put, List.setIfInBounds_toArray, List.set_cons_zero, List.set_cons_succ]
          refine wpAnyH_take (i := 13) (v := ?_) rfl (by kernel_rfl) (by kernel_rfl) (by kernel_rfl) (fun _ _ _ h => h) (Or.inl ⟨by rfl, ?_⟩) (by repeat' (first | with_reducible exact hu3 | with_reducible refine Below.setCell ?_ (by simp) _)) ?_
          rotate_left
          focus
            intro U hU
            try dsimp only at hU
            go_simp
            try (with_reducible rfl)
          simp only [List.getElem_toArray, List.getElem_cons_succ, List.getElem_cons_zero, Act.put, List.setIfInBounds_toArray, List.set_cons_zero, List.set_cons_succ]
          refine wpAnyH_ready (rs := [14]) (by kernel_rfl) (by simp) ?_
          refine AllReadyH.cons rfl (fun K hK => ?_) AllReadyH.nil
          simp only [List.getElem_toArray, List.getElem_cons_succ, List.getElem_cons_zero]
          go_simp
          refine hK.out _ _ ?_ (fun hHeld2 => ?_)
          focus
            repeat' (first | with_reducible exact hu3 | with_reducible refine Below.setCell ?_ (by simp) _)
          clear hHeld
          have hHeld := hHeld2
          clear hHeld2 hK K
          try simp only [List.getElem_toArray, List.getElem_cons_succ, List.getElem_cons_zero, Act.put, List.setIfInBounds_toArray, List.set_cons_zero, List.set_cons_succ]
          refine wpAnyH_done (by kernel_rfl) ?_ _
          clear hHeld f0 f1 f2 f3 f4 f5 p0 p1 p2 p3 p4 p5
          go_wp2_with fail
          go_meet
          exact ⟨A1, A2, A3, c1, c2, c3, cl_endE hx3 hy3 hu3 g2 g3 hu0.size hu1.size hu2.size o1 o2 o3 HS.out _ rfl⟩
        · skip
          have hh := h1
          obtain ⟨p0, p1, p2, p3, p4, p5⟩ := hh
          simp only [List.getElem_toArray, List.getElem_cons_succ, List.getElem_cons_zero]
          go_simp
          refine hK.out _ _ ?_ (fun hHeld2 => ?_)
          focus
            exact (by with_reducible assumption)
          clear hHeld
          have hHeld := hHeld2
          clear hHeld2 hK K
          try simp only [List.getElem_toArray, List.getElem_cons_succ, List.getElem_cons_zero, Act.put, List.setIfInBounds_toArray, List.set_cons_zero, List.set_cons_succ]
          clear p0 p1 p2 p3 p4 p5
          refine wpAnyH_take (i := 9) (v := ?_) rfl (by kernel_rfl) (by kernel_rfl) (by kernel_rfl) (fun _ _ _ h => h) (Or.inl ⟨by rfl, ?_⟩) (by assumption) ?_
          rotate_left
          focus
            intro U hU
            try dsimp only at hU
            go_simp
            try (with_reducible rfl)
          simp only [List.getElem_toArray, List.getElem_cons_succ, List.getElem_cons_zero, Act.put, List.setIfInBounds_toArray, List.set_cons_zero, List.set_cons_succ]
          refine wpAnyH_ready (rs := [5]) (by kernel_rfl) (by simp) ?_
          refine (AllReadyH.cons rfl (fun K hK => ?_) AllReadyH.nil)
          simp only [List.getElem_toArray, List.getElem_cons_succ, List.getElem_cons_zero]
          go_simp
          refine (HO.out _ hu1).mono ?_
          rintro q u2 ⟨v2, rfl, g2, o2⟩
          obtain ⟨A2, c2, rfl, _⟩ := Sl.of_own o2
          have hu2 : Below W.heap.size W u2 := hu1.trans (g2.mono hu1.size)
          have hx2 := keep0 hx1 g2
          have hy2 := keep0 hy1 g2
          have h2 := (six_cells hx2).1
          clear h1
          go_wp2_with fail
          refine hK.out _ _ ?_ (fun hHeld2 => ?_)
          focus
            exact (by with_reducible assumption)
          clear hHeld
          have hHeld := hHeld2
          clear hHeld2 hK K
          try simp only [List.getElem_toArray, List.getElem_cons_succ, List.getElem_cons_zero, Act.put, List.setIfInBounds_toArray, List.set_cons_zero, List.set_cons_succ]
          refine wpAnyH_ready (rs := [8]) (by kernel_rfl) (by simp) ?_
          refine (AllReadyH.cons rfl (fun K hK => ?_) AllReadyH.nil)
          simp only [List.getElem_toArray, List.getElem_cons_succ, List.getElem_cons_zero]
          go_simp
          refine (HR.out _ hu2).mono ?_
          rintro q u3 ⟨v3, rfl, g3, o3⟩
          obtain ⟨A3, c3, rfl, _⟩ := Sl.of_own o3
          have hu3 : Below W.heap.size W u3 := hu2.trans (g3.mono hu2.size)
          have hx3 := keep0 hx2 g3
          have hy3 := keep0 hy2 g3
          have h3 := (six_cells hx3).1
          clear h2
          go_wp2_with fail
          refine hK.out _ _ ?_ (fun hHeld2 => ?_)
          focus
            exact (by with_reducible assumption)
          clear hHeld
          have hHeld := hHeld2
          clear hHeld2 hK K
          try simp only [List.getElem_toArray, List.getElem_cons_succ, List.getElem_cons_zero, Act.put, List.setIfInBounds_toArray, List.set_cons_zero, List.set_cons_succ]
          have hf := (six_cells hx3).2
          obtain ⟨f0, f1, f2, f3, f4, f5⟩ := hf
          obtain ⟨p0, p1, p2, p3, p4, p5⟩ := h3
          refine wpAnyH_ready (rs := [10]) (by kernel_rfl) (by simp) ?_
          refine AllReadyH.cons rfl (fun K hK => ?_) AllReadyH.nil
          simp only [List.getElem_toArray, List.getElem_cons_succ, List.getElem_cons_zero]
          go_simp
          refine hK.out _ _ ?_ (fun hHeld2 => ?_)
          focus
            repeat' (first | with_reducible exact hu3 | with_reducible refine Below.setCell ?_ (by simp) _)
          clear hHeld
          have hHeld := hHeld2
          clear hHeld2 hK K
          try simp only [List.getElem_toArray, List.getElem_cons_succ, List.getElem_cons_zero, Act.put, List.setIfInBounds_toArray, List.set_cons_zero, List.set_cons_succ]
          refine wpAnyH_take (i := 11) (v := ?_) rfl (by kernel_rfl) (by kernel_rfl) (by kernel_rfl) (fun _ _ _ h => h) (Or.inl ⟨by rfl, ?_⟩) (by repeat' (first | with_reducible exact hu3 | with_reducible refine Below.setCell ?_ (by simp) _)) ?_
          rotate_left
          focus
            intro U hU
            try dsimp only at hU
            go_simp
            try (with_reducible rfl)
          simp only [List.getElem_toArray, List.getElem_cons_succ, List.getElem_cons_zero, Act.put, List.setIfInBounds_toArray, List.set_cons_zero, List.set_cons_succ]
          refine wpAnyH_ready (rs := [12]) (by kernel_rfl) (by simp) ?_
          refine AllReadyH.cons rfl (fun K hK => ?_) AllReadyH.nil
          simp only [List.getElem_toArray, List.getElem_cons_succ, List.getElem_cons_zero]
          go_simp
          refine hK.out _ _ ?_ (fun hHeld2 => ?_)
          focus
            repeat' (first | with_reducible exact hu3 | with_reducible refine Below.setCell ?_ (by simp) _)
          clear hHeld
          have hHeld := hHeld2
          clear hHeld2 hK K
          try simp only [List.getElem_toArray, List.getElem_cons_succ, List.getElem_cons_zero, Act.put, List.setIfInBounds_toArray, List.set_cons_zero, List.set_cons_succ]
          refine wpAnyH_take (i := 13) (v := ?_) rfl (by kernel_rfl) (by kernel_rfl) (by kernel_rfl) (fun _ _ _ h => h) (Or.inl ⟨by rfl, ?_⟩) (by repeat' (first | with_reducible exact hu3 | with_reducible refine Below.setCell ?_ (by simp) _)) ?_
          rotate_left
          focus
            intro U hU
            try dsimp only at hU
            go_simp
            try (with_reducible rfl)
          simp only [List.getElem_toArray, List.getElem_cons_succ, List.getElem_cons_zero, Act.put, List.setIfInBounds_toArray, List.set_cons_zero, List.set_cons_succ]
          refine wpAnyH_ready (rs := [14]) (by kernel_rfl) (by simp) ?_
          refine AllReadyH.cons rfl (fun K hK => ?_) AllReadyH.nil
          simp only [List.getElem_toArray, List.getElem_cons_succ, List.getElem_cons_zero]
          go_simp
          refine hK.out _ _ ?_ (fun hHeld2 => ?_)
          focus
            repeat' (first | with_reducible exact hu3 | with_reducible refine Below.setCell ?_ (by simp) _)
          clear hHeld
          have hHeld := hHeld2
          clear hHeld2 hK K
          try simp only [List.getElem_toArray, List.getElem_cons_succ, List.getElem_cons_zero, Act.put, List.setIfInBounds_toArray, List.set_cons_zero, List.set_cons_succ]
          refine wpAnyH_done (by kernel_rfl) ?_ _
          clear hHeld f0 f1 f2 f3 f4 f5 p0 p1 p2 p3 p4 p5
          go_wp2_with fail
          go_meet
          exact ⟨A1, A2, A3, c1, c2, c3, cl_endE hx3 hy3 hu3 g2 g3 hu0.size hu1.size hu2.size o1 o2 o3 HS.out _ rfl⟩
      · skip
        have hh := h0
        obtain ⟨p0, p1, p2, p3, p4, p5⟩ := hh
        simp only [List.getElem_toArray, List.getElem_cons_succ, List.getElem_cons_zero]
        go_simp
        refine hK.out _ _ ?_ (fun hHeld2 => ?_)
        focus
          exact (by with_reducible assumption)
        clear hHeld
        have hHeld := hHeld2
        clear hHeld2 hK K
        try simp only [List.getElem_toArray, List.getElem_cons_succ, List.getElem_cons_zero, Act.put, List.setIfInBounds_toArray, List.set_cons_zero, List.set_cons_succ]
        clear p0 p1 p2 p3 p4 p5
        refine wpAnyH_ready (rs := [2]) (by kernel_rfl) (by simp) ?_
        refine (AllReadyH.cons rfl (fun K hK => ?_) AllReadyH.nil)
        simp only [List.getElem_toArray, List.getElem_cons_succ, List.getElem_cons_zero]
        go_simp
        refine (HA.out _ hu0).mono ?_
        rintro q u1 ⟨v1, rfl, g1, o1⟩
        obtain ⟨A1, c1, rfl, _⟩ := Sl.of_own o1
        have hu1 : Below W.heap.size W u1 := hu0.trans (g1.mono hu0.size)
        have hx1 := keep0 hx0 g1
        have hy1 := keep0 hy0 g1
        have h1 := (six_cells hx1).1
        clear h0
        go_wp2_with fail
        refine hK.out _ _ ?_ (fun hHeld2 => ?_)
        focus
          exact (by with_reducible assumption)
        clear hHeld
        have hHeld := hHeld2
        clear hHeld2 hK K
        try simp only [List.getElem_toArray, List.getElem_cons_succ, List.getElem_cons_zero, Act.put, List.setIfInBounds_toArray, List.set_cons_zero, List.set_cons_succ]
        refine wpAnyH_take (i := 9) (v := ?_) rfl (by kernel_rfl) (by kernel_rfl) (by kernel_rfl) (fun _ _ _ h => h) (Or.inl ⟨by rfl, ?_⟩) (by assumption) ?_
        rotate_left
        focus
          intro U hU
          try dsimp only at hU
          go_simp
          try (with_reducible rfl)
        simp only [List.getElem_toArray, List.getElem_cons_succ, List.getElem_cons_zero, Act.put, List.setIfInBounds_toArray, List.set_cons_zero, List.set_cons_succ]
        refine wpAnyH_ready (rs := [5]) (by kernel_rfl) (by simp) ?_
        refine (AllReadyH.cons rfl (fun K hK => ?_) AllReadyH.nil)
        simp only [List.getElem_toArray, List.getElem_cons_succ, List.getElem_cons_zero]
        go_simp
        refine (HO.out _ hu1).mono ?_
        rintro q u2 ⟨v2, rfl, g2, o2⟩
        obtain ⟨A2, c2, rfl, _⟩ := Sl.of_own o2
        have hu2 : Below W.heap.size W u2 := hu1.trans (g2.mono hu1.size)
        have hx2 := keep0 hx1 g2
        have hy2 := keep0 hy1 g2
        have h2 := (six_cells hx2).1
        clear h1
        go_wp2_with fail
        refine hK.out _ _ ?_ (fun hHeld2 => ?_)
        focus
          exact (by with_reducible assumption)
        clear hHeld
        have hHeld := hHeld2
        clear hHeld2 hK K
        try simp only [List.getElem_toArray, List.getElem_cons_succ, List.getElem_cons_zero, Act.put, List.setIfInBounds_toArray, List.set_cons_zero, List.set_cons_succ]
        refine wpAnyH_ready (rs := [8]) (by kernel_rfl) (by simp) ?_
        refine (AllReadyH.cons rfl (fun K hK => ?_) AllReadyH.nil)
        simp only [List.getElem_toArray, List.getElem_cons_succ, List.getElem_cons_zero]
        go_simp
        refine (HR.out _ hu2).mono ?_
        rintro q u3 ⟨v3, rfl, g3, o3⟩
        obtain ⟨A3, c3, rfl, _⟩ := Sl.of_own o3
        have hu3 : Below W.heap.size W u3 := hu2.trans (g3.mono hu2.size)
        have hx3 := keep0 hx2 g3
        have hy3 := keep0 hy2 g3
        have h3 := (six_cells hx3).1
        clear h2
        go_wp2_with fail
        refine hK.out _ _ ?_ (fun hHeld2 => ?_)
        focus
          exact (by with_reducible assumption)
        clear hHeld
        have hHeld := hHeld2
        clear hHeld2 hK K
        try simp only [List.getElem_toArray, List.getElem_cons_succ, List.getElem_cons_zero, Act.put, List.setIfInBounds_toArray, List.set_cons_zero, List.set_cons_succ]
        have hf := (six_cells hx3).2
        obtain ⟨f0, f1, f2, f3, f4, f5⟩ := hf
        obtain ⟨p0, p1, p2, p3, p4, p5⟩ := h3
        refine wpAnyH_ready (rs := [10]) (by kernel_rfl) (by simp) ?_
        refine AllReadyH.cons rfl (fun K hK => ?_) AllReadyH.nil
        simp only [List.getElem_toArray, List.getElem_cons_succ, List.getElem_cons_zero]
        go_simp
        refine hK.out _ _ ?_ (fun hHeld2 => ?_)
        focus
          repeat' (first | with_reducible exact hu3 | with_reducible refine Below.setCell ?_ (by simp) _)
        clear hHeld
        have hHeld := hHeld2
        clear hHeld2 hK K
        try simp only [List.getElem_toArray, List.getElem_cons_succ, List.getElem_cons_zero, Act.put, List.setIfInBounds_toArray, List.set_cons_zero, List.set_cons_succ]
        refine wpAnyH_take (i := 11) (v := ?_) rfl (by kernel_rfl) (by kernel_rfl) (by kernel_rfl) (fun _ _ _ h => h) (Or.inl ⟨by rfl, ?_⟩) (by repeat' (first | with_reducible exact hu3 | with_reducible refine Below.setCell ?_ (by simp) _)) ?_
        rotate_left
        focus
          intro U hU
          try dsimp only at hU
          go_simp
          try (with_reducible rfl)
        simp only [List.getElem_toArray, List.getElem_cons_succ, List.getElem_cons_zero, Act.put, List.setIfInBounds_toArray, List.set_cons_zero, List.set_cons_succ]
        refine wpAnyH_ready (rs := [12]) (by kernel_rfl) (by simp) ?_
        refine AllReadyH.cons rfl (fun K hK => ?_) AllReadyH.nil
        simp only [List.getElem_toArray, List.getElem_cons_succ, List.getElem_cons_zero]
        go_simp
        refine hK.out _ _ ?_ (fun hHeld2 => ?_)
        focus
          repeat' (first | with_reducible exact hu3 | with_reducible refine Below.setCell ?_ (by simp) _)
        clear hHeld
        have hHeld := hHeld2
        clear hHeld2 hK K
        try simp only [List.getElem_toArray, List.getElem_cons_succ, List.getElem_cons_zero, Act.put, List.setIfInBounds_toArray, List.set_cons_zero, List.set_cons_succ]
        refine wpAnyH_take (i := 13) (v := ?_) rfl (by kernel_rfl) (by kernel_rfl) (by kernel_rfl) (fun _ _ _ h => h) (Or.inl ⟨by rfl, ?_⟩) (by repeat' (first | with_reducible exact hu3 | with_reducible refine Below.setCell ?_ (by simp) _)) ?_
        rotate_left
        focus
          intro U hU
          try dsimp only at hU
          go_simp
          try (with_reducible rfl)
        simp only [List.getElem_toArray, List.getElem_cons_succ, List.getElem_cons_zero, Act.put, List.setIfInBounds_toArray, List.set_cons_zero, List.set_cons_succ]
        refine wpAnyH_ready (rs := [14]) (by kernel_rfl) (by simp) ?_
        refine AllReadyH.cons rfl (fun K hK => ?_) AllReadyH.nil
        simp only [List.getElem_toArray, List.getElem_cons_succ, List.getElem_cons_zero]
        go_simp
        refine hK.out _ _ ?_ (fun hHeld2 => ?_)
        focus
          repeat' (first | with_reducible exact hu3 | with_reducible refine Below.setCell ?_ (by simp) _)
        clear hHeld
        have hHeld := hHeld2
        clear hHeld2 hK K
        try simp only [List.getElem_toArray, List.getElem_cons_succ, List.getElem_cons_zero, Act.put, List.setIfInBounds_toArray, List.set_cons_zero, List.set_cons_succ]
        refine wpAnyH_done (by kernel_rfl) ?_ _
        clear hHeld f0 f1 f2 f3 f4 f5 p0 p1 p2 p3 p4 p5
        go_wp2_with fail
        go_meet
        exact ⟨A1, A2, A3, c1, c2, c3, cl_endE hx3 hy3 hu3 g2 g3 hu0.size hu1.size hu2.size o1 o2 o3 HS.out _ rfl⟩
    · skip
      have hh := h0
      obtain ⟨p0, p1, p2, p3, p4, p5⟩ := hh
      simp only [List.getElem_toArray, List.getElem_cons_succ, List.getElem_cons_zero]
      go_simp
      refine hK.out _ _ ?_ (fun hHeld2 => ?_)
      focus
        exact (by with_reducible assumption)
      clear hHeld
      have hHeld := hHeld2
      clear hHeld2 hK K
      try simp only [List.getElem_toArray, List.getElem_cons_succ, List.getElem_cons_zero, Act.put, List.setIfInBounds_toArray, List.set_cons_zero, List.set_cons_succ]
      clear p0 p1 p2 p3 p4 p5
      refine wpAnyH_ready (rs := [1]) (by kernel_rfl) (by simp) ?_
      refine (AllReadyH.cons rfl (fun K hK => ?_) AllReadyH.nil)
      have hh := h0
      obtain ⟨p0, p1, p2, p3, p4, p5⟩ := hh
      simp only [List.getElem_toArray, List.getElem_cons_succ, List.getElem_cons_zero]
      go_simp
      refine hK.out _ _ ?_ (fun hHeld2 => ?_)
      focus
        exact (by with_reducible assumption)
      clear hHeld
      have hHeld := hHeld2
      clear hHeld2 hK K
      try simp only [List.getElem_toArray, List.getElem_cons_succ, List.getElem_cons_zero, Act.put, List.setIfInBounds_toArray, List.set_cons_zero, List.set_cons_succ]
      clear p0 p1 p2 p3 p4 p5
      refine wpAnyH_ready (rs := [2]) (by kernel_rfl) (by simp) ?_
      refine (AllReadyH.cons rfl (fun K hK => ?_) AllReadyH.nil)
      simp only [List.getElem_toArray, List.getElem_cons_succ, List.getElem_cons_zero]
      go_simp
      refine (HA.out _ hu0).mono ?_
      rintro q u1 ⟨v1, rfl, g1, o1⟩
      obtain ⟨A1, c1, rfl, _⟩ := Sl.of_own o1
      have hu1 : Below W.heap.size W u1 := hu0.trans (g1.mono hu0.size)
      have hx1 := keep0 hx0 g1
      have hy1 := keep0 hy0 g1
      have h1 := (six_cells hx1).1
      clear h0
      go_wp2_with fail
      refine hK.out _ _ ?_ (fun hHeld2 => ?_)
      focus
        exact (by with_reducible assumption)
      clear hHeld
      have hHeld := hHeld2
      clear hHeld2 hK K
      try simp only [List.getElem_toArray, List.getElem_cons_succ, List.getElem_cons_zero, Act.put, List.setIfInBounds_toArray, List.set_cons_zero, List.set_cons_succ]
      refine wpAnyH_take (i := 9) (v := ?_) rfl (by kernel_rfl) (by kernel_rfl) (by kernel_rfl) (fun _ _ _ h => h) (Or.inl ⟨by rfl, ?_⟩) (by assumption) ?_
      rotate_left
      focus
        intro U hU
        try dsimp only at hU
        go_simp
        try (with_reducible rfl)
      simp only [List.getElem_toArray, List.getElem_cons_succ, List.getElem_cons_zero, Act.put, List.setIfInBounds_toArray, List.set_cons_zero, List.set_cons_succ]
      refine wpAnyH_ready (rs := [5]) (by kernel_rfl) (by simp) ?_
      refine (AllReadyH.cons rfl (fun K hK => ?_) AllReadyH.nil)
      simp only [List.getElem_toArray, List.getElem_cons_succ, List.getElem_cons_zero]
      go_simp
      refine (HO.out _ hu1).mono ?_
      rintro q u2 ⟨v2, rfl, g2, o2⟩
      obtain ⟨A2, c2, rfl, _⟩ := Sl.of_own o2
      have hu2 : Below W.heap.size W u2 := hu1.trans (g2.mono hu1.size)
      have hx2 := keep0 hx1 g2
      have hy2 := keep0 hy1 g2
      have h2 := (six_cells hx2).1
      clear h1
      go_wp2_with fail
      refine hK.out _ _ ?_ (fun hHeld2 => ?_)
      focus
        exact (by with_reducible assumption)
      clear hHeld
      have hHeld := hHeld2
      clear hHeld2 hK K
      try simp only [List.getElem_toArray, List.getElem_cons_succ, List.getElem_cons_zero, Act.put, List.setIfInBounds_toArray, List.set_cons_zero, List.set_cons_succ]
      refine wpAnyH_ready (rs := [8]) (by kernel_rfl) (by simp) ?_
      refine (AllReadyH.cons rfl (fun K hK => ?_) AllReadyH.nil)
      simp only [List.getElem_toArray, List.getElem_cons_succ, List.getElem_cons_zero]
      go_simp
      refine (HR.out _ hu2).mono ?_
      rintro q u3 ⟨v3, rfl, g3, o3⟩
      obtain ⟨A3, c3, rfl, _⟩ := Sl.of_own o3
      have hu3 : Below W.heap.size W u3 := hu2.trans (g3.mono hu2.size)
      have hx3 := keep0 hx2 g3
      have hy3 := keep0 hy2 g3
      have h3 := (six_cells hx3).1
      clear h2
      go_wp2_with fail
      refine hK.out _ _ ?_ (fun hHeld2 => ?_)
      focus
        exact (by with_reducible assumption)
      clear hHeld
      have hHeld := hHeld2
      clear hHeld2 hK K
      try simp only [List.getElem_toArray, List.getElem_cons_succ, List.getElem_cons_zero, Act.put, List.setIfInBounds_toArray, List.set_cons_zero, List.set_cons_succ]
      have hf := (six_cells hx3).2
      obtain ⟨f0, f1, f2, f3, f4, f5⟩ := hf
      obtain ⟨p0, p1, p2, p3, p4, p5⟩ := h3
      refine wpAnyH_ready (rs := [10]) (by kernel_rfl) (by simp) ?_
      refine AllReadyH.cons rfl (fun K hK => ?_) AllReadyH.nil
      simp only [List.getElem_toArray, List.getElem_cons_succ, List.getElem_cons_zero]
      go_simp
      refine hK.out _ _ ?_ (fun hHeld2 => ?_)
      focus
        repeat' (first | with_reducible exact hu3 | with_reducible refine Below.setCell ?_ (by simp) _)
      clear hHeld
      have hHeld := hHeld2
      clear hHeld2 hK K
      try simp only [List.getElem_toArray, List.getElem_cons_succ, List.getElem_cons_zero, Act.put, List.setIfInBounds_toArray, List.set_cons_zero, List.set_cons_succ]
      refine wpAnyH_take (i := 11) (v := ?_) rfl (by kernel_rfl) (by kernel_rfl) (by kernel_rfl) (fun _ _ _ h => h) (Or.inl ⟨by rfl, ?_⟩) (by repeat' (first | with_reducible exact hu3 | with_reducible refine Below.setCell ?_ (by simp) _)) ?_
      rotate_left
      focus
        intro U hU
        try dsimp only at hU
        go_simp
        try (with_reducible rfl)
      simp only [List.getElem_toArray, List.getElem_cons_succ, List.getElem_cons_zero, Act.put, List.setIfInBounds_toArray, List.set_cons_zero, List.set_cons_succ]
      refine wpAnyH_ready (rs := [12]) (by kernel_rfl) (by simp) ?_
      refine AllReadyH.cons rfl (fun K hK => ?_) AllReadyH.nil
      simp only [List.getElem_toArray, List.getElem_cons_succ, List.getElem_cons_zero]
      go_simp
      refine hK.out _ _ ?_ (fun hHeld2 => ?_)
      focus
        repeat' (first | with_reducible exact hu3 | with_reducible refine Below.setCell ?_ (by simp) _)
      clear hHeld
      have hHeld := hHeld2
      clear hHeld2 hK K
      try simp only [List.getElem_toArray, List.getElem_cons_succ, List.getElem_cons_zero, Act.put, List.setIfInBounds_toArray, List.set_cons_zero, List.set_cons_succ]
      refine wpAnyH_take (i := 13) (v := ?_) rfl (by kernel_rfl) (by kernel_rfl) (by kernel_rfl) (fun _ _ _ h => h) (Or.inl ⟨by rfl, ?_⟩) (by repeat' (first | with_reducible exact hu3 | with_reducible refine Below.setCell ?_ (by simp) _)) ?_
      rotate_left
      focus
        intro U hU
        try dsimp only at hU
        go_simp
        try (with_reducible rfl)
      simp only [List.getElem_toArray, List.getElem_cons_succ, List.getElem_cons_zero, Act.put, List.setIfInBounds_toArray, List.set_cons_zero, List.set_cons_succ]
      refine wpAnyH_ready (rs := [14]) (by kernel_rfl) (by simp) ?_
      refine AllReadyH.cons rfl (fun K hK => ?_) AllReadyH.nil
      simp only [List.getElem_toArray, List.getElem_cons_succ, List.getElem_cons_zero]
      go_simp
      refine hK.out _ _ ?_ (fun hHeld2 => ?_)
      focus
        repeat' (first | with_reducible exact hu3 | with_reducible refine Below.setCell ?_ (by simp) _)
      clear hHeld
      have hHeld := hHeld2
      clear hHeld2 hK K
      try simp only [List.getElem_toArray, List.getElem_cons_succ, List.getElem_cons_zero, Act.put, List.setIfInBounds_toArray, List.set_cons_zero, List.set_cons_succ]
      refine wpAnyH_done (by kernel_rfl) ?_ _
      clear hHeld f0 f1 f2 f3 f4 f5 p0 p1 p2 p3 p4 p5
      go_wp2_with fail
      go_meet
      exact ⟨A1, A2, A3, c1, c2, c3, cl_endE hx3 hy3 hu3 g2 g3 hu0.size hu1.size hu2.size o1 o2 o3 HS.out _ rfl⟩
  · skip
    have hh := h0
    obtain ⟨p0, p1, p2, p3, p4, p5⟩ := hh
    simp only [List.getElem_toArray, List.getElem_cons_succ, List.getElem_cons_zero]
    go_simp
    refine hK.out _ _ ?_ (fun hHeld2 => ?_)
    focus
      exact (by with_reducible assumption)
    clear hHeld
    have hHeld := hHeld2
    clear hHeld2 hK K
    try simp only [List.getElem_toArray, List.getElem_cons_succ, List.getElem_cons_zero, Act.put, List.setIfInBounds_toArray, List.set_cons_zero, List.set_cons_succ]
    clear p0 p1 p2 p3 p4 p5
    refine wpAnyH_ready (rs := [1, 4]) (by kernel_rfl) (by simp) ?_
    refine (AllReadyH.cons rfl (fun K hK => ?_) (AllReadyH.cons rfl (fun K hK => ?_) AllReadyH.nil))
    · skip
      have hh := h0
      obtain ⟨p0, p1, p2, p3, p4, p5⟩ := hh
      simp only [List.getElem_toArray, List.getElem_cons_succ, List.getElem_cons_zero]
      go_simp
      refine hK.out _ _ ?_ (fun hHeld2 => ?_)
      focus
        exact (by with_reducible assumption)
      clear hHeld
      have hHeld := hHeld2
      clear hHeld2 hK K
      try simp only [List.getElem_toArray, List.getElem_cons_succ, List.getElem_cons_zero, Act.put, List.setIfInBounds_toArray, List.set_cons_zero, List.set_cons_succ]
      clear p0 p1 p2 p3 p4 p5
      refine wpAnyH_ready (rs := [2, 4]) (by kernel_rfl) (by simp) ?_
      refine (AllReadyH.cons rfl (fun K hK => ?_) (AllReadyH.cons rfl (fun K hK => ?_) AllReadyH.nil))
      · skip
        simp only [List.getElem_toArray, List.getElem_cons_succ, List.getElem_cons_zero]
        go_simp
        refine (HA.out _ hu0).mono ?_
        rintro q u1 ⟨v1, rfl, g1, o1⟩
        obtain ⟨A1, c1, rfl, _⟩ := Sl.of_own o1
        have hu1 : Below W.heap.size W u1 := hu0.trans (g1.mono hu0.size)
        have hx1 := keep0 hx0 g1
        have hy1 := keep0 hy0 g1
        have h1 := (six_cells hx1).1
        clear h0
        go_wp2_with fail
        refine hK.out _ _ ?_ (fun hHeld2 => ?_)
        focus
          exact (by with_reducible assumption)
        clear hHeld
        have hHeld := hHeld2
        clear hHeld2 hK K
        try simp only [List.getElem_toArray, List.getElem_cons_succ, List.getElem_cons_zero, Act.put, List.setIfInBounds_toArray, List.set_cons_zero, List.set_cons_succ]
        refine wpAnyH_ready (rs := [4]) (by kernel_rfl) (by simp) ?_
        refine (AllReadyH.cons rfl (fun K hK => ?_) AllReadyH.nil)
        have hh := h1
        obtain ⟨p0, p1, p2, p3, p4, p5⟩ := hh
        simp only [List.getElem_toArray, List.getElem_cons_succ, List.getElem_cons_zero]
        go_simp
        refine hK.out _ _ ?_ (fun hHeld2 => ?_)
        focus
          exact (by with_reducible assumption)
        clear hHeld
        have hHeld := hHeld2
        clear hHeld2 hK K
        try simp only [List.getElem_toArray, List.getElem_cons_succ, List.getElem_cons_zero, Act.put, List.setIfInBounds_toArray, List.set_cons_zero, List.set_cons_succ]
        clear p0 p1 p2 p3 p4 p5
        refine wpAnyH_take (i := 9) (v := ?_) rfl (by kernel_rfl) (by kernel_rfl) (by kernel_rfl) (fun _ _ _ h => h) (Or.inl ⟨by rfl, ?_⟩) (by assumption) ?_
        rotate_left
        focus
          intro U hU
          try dsimp only at hU
          go_simp
          try (with_reducible rfl)
        simp only [List.getElem_toArray, List.getElem_cons_succ, List.getElem_cons_zero, Act.put, List.setIfInBounds_toArray, List.set_cons_zero, List.set_cons_succ]
        refine wpAnyH_ready (rs := [5]) (by kernel_rfl) (by simp) ?_
        refine (AllReadyH.cons rfl (fun K hK => ?_) AllReadyH.nil)
        simp only [List.getElem_toArray, List.getElem_cons_succ, List.getElem_cons_zero]
        go_simp
        refine (HO.out _ hu1).mono ?_
        rintro q u2 ⟨v2, rfl, g2, o2⟩
        obtain ⟨A2, c2, rfl, _⟩ := Sl.of_own o2
        have hu2 : Below W.heap.size W u2 := hu1.trans (g2.mono hu1.size)
        have hx2 := keep0 hx1 g2
        have hy2 := keep0 hy1 g2
        have h2 := (six_cells hx2).1
        clear h1
        go_wp2_with fail
        refine hK.out _ _ ?_ (fun hHeld2 => ?_)
        focus
          exact (by with_reducible assumption)
        clear hHeld
        have hHeld := hHeld2
        clear hHeld2 hK K
        try simp only [List.getElem_toArray, List.getElem_cons_succ, List.getElem_cons_zero, Act.put, List.setIfInBounds_toArray, List.set_cons_zero, List.set_cons_succ]
        refine wpAnyH_ready (rs := [8]) (by kernel_rfl) (by simp) ?_
        refine (AllReadyH.cons rfl (fun K hK => ?_) AllReadyH.nil)
        simp only [List.getElem_toArray, List.getElem_cons_succ, List.getElem_cons_zero]
        go_simp
        refine (HR.out _ hu2).mono ?_
        rintro q u3 ⟨v3, rfl, g3, o3⟩
        obtain ⟨A3, c3, rfl, _⟩ := Sl.of_own o3
        have hu3 : Below W.heap.size W u3 := hu2.trans (g3.mono hu2.size)
        have hx3 := keep0 hx2 g3
        have hy3 := keep0 hy2 g3
        have h3 := (six_cells hx3).1
        clear h2
        go_wp2_with fail
        refine hK.out _ _ ?_ (fun hHeld2 => ?_)
        focus
          exact (by with_reducible assumption)
        clear hHeld
        have hHeld := hHeld2
        clear hHeld2 hK K
        try simp only [List.getElem_toArray, List.getElem_cons_succ, List.getElem_cons_zero, Act.put, List.setIfInBounds_toArray, List.set_cons_zero, List.set_cons_succ]
        have hf := (six_cells hx3).2
        obtain ⟨f0, f1, f2, f3, f4, f5⟩ := hf
        obtain ⟨p0, p1, p2, p3, p4, p5⟩ := h3
        refine wpAnyH_ready (rs := [10]) (by kernel_rfl) (by simp) ?_
        refine AllReadyH.cons rfl (fun K hK => ?_) AllReadyH.nil
        simp only [List.getElem_toArray, List.getElem_cons_succ, List.getElem_cons_zero]
        go_simp
        refine hK.out _ _ ?_ (fun hHeld2 => ?_)
        focus
          repeat' (first | with_reducible exact hu3 | with_reducible refine Below.setCell ?_ (by simp) _)
        clear hHeld
        have hHeld := hHeld2
        clear hHeld2 hK K
        try simp only [List.getElem_toArray, List.getElem_cons_succ, List.getElem_cons_zero, Act.put, List.setIfInBounds_toArray, List.set_cons_zero, List.set_cons_succ]
        refine wpAnyH_take (i := 11) (v := ?_) rfl (by kernel_rfl) (by kernel_rfl) (by kernel_rfl) (fun _ _ _ h => h) (Or.inl ⟨by rfl, ?_⟩) (by repeat' (first | with_reducible exact hu3 | with_reducible refine Below.setCell ?_ (by simp) _)) ?_
        rotate_left
        focus
          intro U hU
          try dsimp only at hU
          go_simp
          try (with_reducible rfl)
        simp only [List.getElem_toArray, List.getElem_cons_succ, List.getElem_cons_zero, Act.put, List.setIfInBounds_toArray, List.set_cons_zero, List.set_cons_succ]
        refine wpAnyH_ready (rs := [12]) (by kernel_rfl) (by simp) ?_
        refine AllReadyH.cons rfl (fun K hK => ?_) AllReadyH.nil
        simp only [List.getElem_toArray, List.getElem_cons_succ, List.getElem_cons_zero]
        go_simp
        refine hK.out _ _ ?_ (fun hHeld2 => ?_)
        focus
          repeat' (first | with_reducible exact hu3 | with_reducible refine Below.setCell ?_ (by simp) _)
        clear hHeld
        have hHeld := hHeld2
        clear hHeld2 hK K
        try simp only [List.getElem_toArray, List.getElem_cons_succ, List.getElem_cons_zero, Act.put, List.setIfInBounds_toArray, List.set_cons_zero, List.set_cons_succ]
        refine wpAnyH_take (i := 13) (v := ?_) rfl (by kernel_rfl) (by kernel_rfl) (by kernel_rfl) (fun _ _ _ h => h) (Or.inl ⟨by rfl, ?_⟩) (by repeat' (first | with_reducible exact hu3 | with_reducible refine Below.setCell ?_ (by simp) _)) ?_
        rotate_left
        focus
          intro U hU
          try dsimp only at hU
          go_simp
          try (with_reducible rfl)
        simp only [List.getElem_toArray, List.getElem_cons_succ, List.getElem_cons_zero, Act.put, List.setIfInBounds_toArray, List.set_cons_zero, List.set_cons_succ]
        refine wpAnyH_ready (rs := [14]) (by kernel_rfl) (by simp) ?_
        refine AllReadyH.cons rfl (fun K hK => ?_) AllReadyH.nil
        simp only [List.getElem_toArray, List.getElem_cons_succ, List.getElem_cons_zero]
        go_simp
        refine hK.out _ _ ?_ (fun hHeld2 => ?_)
        focus
          repeat' (first | with_reducible exact hu3 | with_reducible refine Below.setCell ?_ (by simp) _)
        clear hHeld
        have hHeld := hHeld2
        clear hHeld2 hK K
        try simp only [List.getElem_toArray, List.getElem_cons_succ, List.getElem_cons_zero, Act.put, List.setIfInBounds_toArray, List.set_cons_zero, List.set_cons_succ]
        refine wpAnyH_done (by kernel_rfl) ?_ _
        clear hHeld f0 f1 f2 f3 f4 f5 p0 p1 p2 p3 p4 p5
        go_wp2_with fail
        go_meet
        exact ⟨A1, A2, A3, c1, c2, c3, cl_endE hx3 hy3 hu3 g2 g3 hu0.size hu1.size hu2.size o1 o2 o3 HS.out _ rfl⟩
      · skip
        have hh := h0
        obtain ⟨p0, p1, p2, p3, p4, p5⟩ := hh
        simp only [List.getElem_toArray, List.getElem_cons_succ, List.getElem_cons_zero]
        go_simp
        refine hK.out _ _ ?_ (fun hHeld2 => ?_)
        focus
          exact (by with_reducible assumption)
        clear hHeld
        have hHeld := hHeld2
        clear hHeld2 hK K
        try simp only [List.getElem_toArray, List.getElem_cons_succ, List.getElem_cons_zero, Act.put, List.setIfInBounds_toArray, List.set_cons_zero, List.set_cons_succ]
        clear p0 p1 p2 p3 p4 p5
        refine wpAnyH_ready (rs := [2]) (by kernel_rfl) (by simp) ?_
        refine (AllReadyH.cons rfl (fun K hK => ?_) AllReadyH.nil)
        simp only [List.getElem_toArray, List.getElem_cons_succ, List.getElem_cons_zero]
        go_simp
        refine (HA.out _ hu0).mono ?_
        rintro q u1 ⟨v1, rfl, g1, o1⟩
        obtain ⟨A1, c1, rfl, _⟩ := Sl.of_own o1
        have hu1 : Below W.heap.size W u1 := hu0.trans (g1.mono hu0.size)
        have hx1 := keep0 hx0 g1
        have hy1 := keep0 hy0 g1
        have h1 := (six_cells hx1).1
        clear h0
        go_wp2_with fail
        refine hK.out _ _ ?_ (fun hHeld2 => ?_)
        focus
          exact (by with_reducible assumption)
        clear hHeld
        have hHeld := hHeld2
        clear hHeld2 hK K
        try simp only [List.getElem_toArray, List.getElem_cons_succ, List.getElem_cons_zero, Act.put, List.setIfInBounds_toArray, List.set_cons_zero, List.set_cons_succ]
        refine wpAnyH_take (i := 9) (v := ?_) rfl (by kernel_rfl) (by kernel_rfl) (by kernel_rfl) (fun _ _ _ h => h) (Or.inl ⟨by rfl, ?_⟩) (by assumption) ?_
        rotate_left
        focus
          intro U hU
          try dsimp only at hU
          go_simp
          try (with_reducible rfl)
        simp only [List.getElem_toArray, List.getElem_cons_succ, List.getElem_cons_zero, Act.put, List.setIfInBounds_toArray, List.set_cons_zero, List.set_cons_succ]
        refine wpAnyH_ready (rs := [5]) (by kernel_rfl) (by simp) ?_
        refine (AllReadyH.cons rfl (fun K hK => ?_) AllReadyH.nil)
        simp only [List.getElem_toArray, List.getElem_cons_succ, List.getElem_cons_zero]
        go_simp
        refine (HO.out _ hu1).mono ?_
        rintro q u2 ⟨v2, rfl, g2, o2⟩
        obtain ⟨A2, c2, rfl, _⟩ := Sl.of_own o2
        have hu2 : Below W.heap.size W u2 := hu1.trans (g2.mono hu1.size)
        have hx2 := keep0 hx1 g2
        have hy2 := keep0 hy1 g2
        have h2 := (six_cells hx2).1
        clear h1
        go_wp2_with fail
        refine hK.out _ _ ?_ (fun hHeld2 => ?_)
        focus
          exact (by with_reducible assumption)
        clear hHeld
        have hHeld := hHeld2
        clear hHeld2 hK K
        try simp only [List.getElem_toArray, List.getElem_cons_succ, List.getElem_cons_zero, Act.put, List.setIfInBounds_toArray, List.set_cons_zero, List.set_cons_succ]
        refine wpAnyH_ready (rs := [8]) (by kernel_rfl) (by simp) ?_
        refine (AllReadyH.cons rfl (fun K hK => ?_) AllReadyH.nil)
        simp only [List.getElem_toArray, List.getElem_cons_succ, List.getElem_cons_zero]
        go_simp
        refine (HR.out _ hu2).mono ?_
        rintro q u3 ⟨v3, rfl, g3, o3⟩
        obtain ⟨A3, c3, rfl, _⟩ := Sl.of_own o3
        have hu3 : Below W.heap.size W u3 := hu2.trans (g3.mono hu2.size)
        have hx3 := keep0 hx2 g3
        have hy3 := keep0 hy2 g3
        have h3 := (six_cells hx3).1
        clear h2
        go_wp2_with fail
        refine hK.out _ _ ?_ (fun hHeld2 => ?_)
        focus
          exact (by with_reducible assumption)
        clear hHeld
        have hHeld := hHeld2
        clear hHeld2 hK K
        try simp only [List.getElem_toArray, List.getElem_cons_succ, List.getElem_cons_zero, Act.put, List.setIfInBounds_toArray, List.set_cons_zero, List.set_cons_succ]
        have hf := (six_cells hx3).2
        obtain ⟨f0, f1, f2, f3, f4, f5⟩ := hf
        obtain ⟨p0, p1, p2, p3, p4, p5⟩ := h3
        refine wpAnyH_ready (rs := [10]) (by kernel_rfl) (by simp) ?_
        refine AllReadyH.cons rfl (fun K hK => ?_) AllReadyH.nil
        simp only [List.getElem_toArray, List.getElem_cons_succ, List.getElem_cons_zero]
        go_simp
        refine hK.out _ _ ?_ (fun hHeld2 => ?_)
        focus
          repeat' (first | with_reducible exact hu3 | with_reducible refine Below.setCell ?_ (by simp) _)
        clear hHeld
        have hHeld := hHeld2
        clear hHeld2 hK K
        try simp only [List.getElem_toArray, List.getElem_cons_succ, List.getElem_cons_zero, Act.put, List.setIfInBounds_toArray, List.set_cons_zero, List.set_cons_succ]
        refine wpAnyH_take (i := 11) (v := ?_) rfl (by kernel_rfl) (by kernel_rfl) (by kernel_rfl) (fun _ _ _ h => h) (Or.inl ⟨by rfl, ?_⟩) (by repeat' (first | with_reducible exact hu3 | with_reducible refine Below.setCell ?_ (by simp) _)) ?_
        rotate_left
        focus
          intro U hU
          try dsimp only at hU
          go_simp
          try (with_reducible rfl)
        simp only [List.getElem_toArray, List.getElem_cons_succ, List.getElem_cons_zero, Act.put, List.setIfInBounds_toArray, List.set_cons_zero, List.set_cons_succ]
        refine wpAnyH_ready (rs := [12]) (by kernel_rfl) (by simp) ?_
        refine AllReadyH.cons rfl (fun K hK => ?_) AllReadyH.nil
        simp only [List.getElem_toArray, List.getElem_cons_succ, List.getElem_cons_zero]
        go_simp
        refine hK.out _ _ ?_ (fun hHeld2 => ?_)
        focus
          repeat' (first | with_reducible exact hu3 | with_reducible refine Below.setCell ?_ (by simp) _)
        clear hHeld
        have hHeld := hHeld2
        clear hHeld2 hK K
        try simp only [List.getElem_toArray, List.getElem_cons_succ, List.getElem_cons_zero, Act.put, List.setIfInBounds_toArray, List.set_cons_zero, List.set_cons_succ]
        refine wpAnyH_take (i := 13) (v := ?_) rfl (by kernel_rfl) (by kernel_rfl) (by kernel_rfl) (fun _ _ _ h => h) (Or.inl ⟨by rfl, ?_⟩) (by repeat' (first | with_reducible exact hu3 | with_reducible refine Below.setCell ?_ (by simp) _)) ?_
        rotate_left
        focus
          intro U hU
          try dsimp only at hU
          go_simp
          try (with_reducible rfl)
        simp only [List.getElem_toArray, List.getElem_cons_succ, List.getElem_cons_zero, Act.put, List.setIfInBounds_toArray, List.set_cons_zero, List.set_cons_succ]
        refine wpAnyH_ready (rs := [14]) (by kernel_rfl) (by simp) ?_
        refine AllReadyH.cons rfl (fun K hK => ?_) AllReadyH.nil
        simp only [List.getElem_toArray, List.getElem_cons_succ, List.getElem_cons_zero]
        go_simp
        refine hK.out _ _ ?_ (fun hHeld2 => ?_)
        focus
          repeat' (first | with_reducible exact hu3 | with_reducible refine Below.setCell ?_ (by simp) _)
        clear hHeld
        have hHeld := hHeld2
        clear hHeld2 hK K
        try simp only [List.getElem_toArray, List.getElem_cons_succ, List.getElem_cons_zero, Act.put, List.setIfInBounds_toArray, List.set_cons_zero, List.set_cons_succ]
        refine wpAnyH_done (by kernel_rfl) ?_ _
        clear hHeld f0 f1 f2 f3 f4 f5 p0 p1 p2 p3 p4 p5
        go_wp2_with fail
        go_meet
        exact ⟨A1, A2, A3, c1, c2, c3, cl_endE hx3 hy3 hu3 g2 g3 hu0.size hu1.size hu2.size o1 o2 o3 HS.out _ rfl⟩
    · skip
      have hh := h0
      obtain ⟨p0, p1, p2, p3, p4, p5⟩ := hh
      simp only [List.getElem_toArray, List.getElem_cons_succ, List.getElem_cons_zero]
      go_simp
      refine hK.out _ _ ?_ (fun hHeld2 => ?_)
      focus
        exact (by with_reducible assumption)
      clear hHeld
      have hHeld := hHeld2
      clear hHeld2 hK K
      try simp only [List.getElem_toArray, List.getElem_cons_succ, List.getElem_cons_zero, Act.put, List.setIfInBounds_toArray, List.set_cons_zero, List.set_cons_succ]
      clear p0 p1 p2 p3 p4 p5
      refine wpAnyH_ready (rs := [1]) (by kernel_rfl) (by simp) ?_
      refine (AllReadyH.cons rfl (fun K hK => ?_) AllReadyH.nil)
      have hh := h0
      obtain ⟨p0, p1, p2, p3, p4, p5⟩ := hh
      simp only [List.getElem_toArray, List.getElem_cons_succ, List.getElem_cons_zero]
      go_simp
      refine hK.out _ _ ?_ (fun hHeld2 => ?_)
      focus
        exact (by with_reducible assumption)
      clear hHeld
      have hHeld := hHeld2
      clear hHeld2 hK K
      try simp only [List.getElem_toArray, List.getElem_cons_succ, List.getElem_cons_zero, Act.put, List.setIfInBounds_toArray, List.set_cons_zero, List.set_cons_succ]
      clear p0 p1 p2 p3 p4 p5
      refine wpAnyH_ready (rs := [2]) (by kernel_rfl) (by simp) ?_
      refine (AllReadyH.cons rfl (fun K hK => ?_) AllReadyH.nil)
      simp only [List.getElem_toArray, List.getElem_cons_succ, List.getElem_cons_zero]
      go_simp
      refine (HA.out _ hu0).mono ?_
      rintro q u1 ⟨v1, rfl, g1, o1⟩
      obtain ⟨A1, c1, rfl, _⟩ := Sl.of_own o1
      have hu1 : Below W.heap.size W u1 := hu0.trans (g1.mono hu0.size)
      have hx1 := keep0 hx0 g1
      have hy1 := keep0 hy0 g1
      have h1 := (six_cells hx1).1
      clear h0
      go_wp2_with fail
      refine hK.out _ _ ?_ (fun hHeld2 => ?_)
      focus
        exact (by with_reducible assumption)
      clear hHeld
      have hHeld := hHeld2
      clear hHeld2 hK K
      try simp only [List.getElem_toArray, List.getElem_cons_succ, List.getElem_cons_zero, Act.put, List.setIfInBounds_toArray, List.set_cons_zero, List.set_cons_succ]
      refine wpAnyH_take (i := 9) (v := ?_) rfl (by kernel_rfl) (by kernel_rfl) (by kernel_rfl) (fun _ _ _ h => h) (Or.inl ⟨by rfl, ?_⟩) (by assumption) ?_
      rotate_left
      focus
        intro U hU
        try dsimp only at hU
        go_simp
        try (with_reducible rfl)
      simp only [List.getElem_toArray, List.getElem_cons_succ, List.getElem_cons_zero, Act.put, List.setIfInBounds_toArray, List.set_cons_zero, List.set_cons_succ]
      refine wpAnyH_ready (rs := [5]) (by kernel_rfl) (by simp) ?_
      refine (AllReadyH.cons rfl (fun K hK => ?_) AllReadyH.nil)
      simp only [List.getElem_toArray, List.getElem_cons_succ, List.getElem_cons_zero]
      go_simp
      refine (HO.out _ hu1).mono ?_
      rintro q u2 ⟨v2, rfl, g2, o2⟩
      obtain ⟨A2, c2, rfl, _⟩ := Sl.of_own o2
      have hu2 : Below W.heap.size W u2 := hu1.trans (g2.mono hu1.size)
      have hx2 := keep0 hx1 g2
      have hy2 := keep0 hy1 g2
      have h2 := (six_cells hx2).1
      clear h1
      go_wp2_with fail
      refine hK.out _ _ ?_ (fun hHeld2 => ?_)
      focus
        exact (by with_reducible assumption)
      clear hHeld
      have hHeld := hHeld2
      clear hHeld2 hK K
      try simp only [List.getElem_toArray, List.getElem_cons_succ, List.getElem_cons_zero, Act.put, List.setIfInBounds_toArray, List.set_cons_zero, List.set_cons_succ]
      refine wpAnyH_ready (rs := [8]) (by kernel_rfl) (by simp) ?_
      refine (AllReadyH.cons rfl (fun K hK => ?_) AllReadyH.nil)
      simp only [List.getElem_toArray, List.getElem_cons_succ, List.getElem_cons_zero]
      go_simp
      refine (HR.out _ hu2).mono ?_
      rintro q u3 ⟨v3, rfl, g3, o3⟩
      obtain ⟨A3, c3, rfl, _⟩ := Sl.of_own o3
      have hu3 : Below W.heap.size W u3 := hu2.trans (g3.mono hu2.size)
      have hx3 := keep0 hx2 g3
      have hy3 := keep0 hy2 g3
      have h3 := (six_cells hx3).1
      clear h2
      go_wp2_with fail
      refine hK.out _ _ ?_ (fun hHeld2 => ?_)
      focus
        exact (by with_reducible assumption)
      clear hHeld
      have hHeld := hHeld2
      clear hHeld2 hK K
      try simp only [List.getElem_toArray, List.getElem_cons_succ, List.getElem_cons_zero, Act.put, List.setIfInBounds_toArray, List.set_cons_zero, List.set_cons_succ]
      have hf := (six_cells hx3).2
      obtain ⟨f0, f1, f2, f3, f4, f5⟩ := hf
      obtain ⟨p0, p1, p2, p3, p4, p5⟩ := h3
      refine wpAnyH_ready (rs := [10]) (by kernel_rfl) (by simp) ?_
      refine AllReadyH.cons rfl (fun K hK => ?_) AllReadyH.nil
      simp only [List.getElem_toArray, List.getElem_cons_succ, List.getElem_cons_zero]
      go_simp
      refine hK.out _ _ ?_ (fun hHeld2 => ?_)
      focus
        repeat' (first | with_reducible exact hu3 | with_reducible refine Below.setCell ?_ (by simp) _)
      clear hHeld
      have hHeld := hHeld2
      clear hHeld2 hK K
      try simp only [List.getElem_toArray, List.getElem_cons_succ, List.getElem_cons_zero, Act.put, List.setIfInBounds_toArray, List.set_cons_zero, List.set_cons_succ]
      refine wpAnyH_take (i := 11) (v := ?_) rfl (by kernel_rfl) (by kernel_rfl) (by kernel_rfl) (fun _ _ _ h => h) (Or.inl ⟨by rfl, ?_⟩) (by repeat' (first | with_reducible exact hu3 | with_reducible refine Below.setCell ?_ (by simp) _)) ?_
      rotate_left
      focus
        intro U hU
        try dsimp only at hU
        go_simp
        try (with_reducible rfl)
      simp only [List.getElem_toArray, List.getElem_cons_succ, List.getElem_cons_zero, Act.put, List.setIfInBounds_toArray, List.set_cons_zero, List.set_cons_succ]
      refine wpAnyH_ready (rs := [12]) (by kernel_rfl) (by simp) ?_
      refine AllReadyH.cons rfl (fun K hK => ?_) AllReadyH.nil
      simp only [List.getElem_toArray, List.getElem_cons_succ, List.getElem_cons_zero]
      go_simp
      refine hK.out _ _ ?_ (fun hHeld2 => ?_)
      focus
        repeat' (first | with_reducible exact hu3 | with_reducible refine Below.setCell ?_ (by simp) _)
      clear hHeld
      have hHeld := hHeld2
      clear hHeld2 hK K
      try simp only [List.getElem_toArray, List.getElem_cons_succ, List.getElem_cons_zero, Act.put, List.setIfInBounds_toArray, List.set_cons_zero, List.set_cons_succ]
      refine wpAnyH_take (i := 13) (v := ?_) rfl (by kernel_rfl) (by kernel_rfl) (by kernel_rfl) (fun _ _ _ h => h) (Or.inl ⟨by rfl, ?_⟩) (by repeat' (first | with_reducible exact hu3 | with_reducible refine Below.setCell ?_ (by simp) _)) ?_
      rotate_left
      focus
        intro U hU
        try dsimp only at hU
        go_simp
        try (with_reducible rfl)
      simp only [List.getElem_toArray, List.getElem_cons_succ, List.getElem_cons_zero, Act.put, List.setIfInBounds_toArray, List.set_cons_zero, List.set_cons_succ]
      refine wpAnyH_ready (rs := [14]) (by kernel_rfl) (by simp) ?_
      refine AllReadyH.cons rfl (fun K hK => ?_) AllReadyH.nil
      simp only [List.getElem_toArray, List.getElem_cons_succ, List.getElem_cons_zero]
      go_simp
      refine hK.out _ _ ?_ (fun hHeld2 => ?_)
      focus
        repeat' (first | with_reducible exact hu3 | with_reducible refine Below.setCell ?_ (by simp) _)
      clear hHeld
      have hHeld := hHeld2
      clear hHeld2 hK K
      try simp only [List.getElem_toArray, List.getElem_cons_succ, List.getElem_cons_zero, Act.put, List.setIfInBounds_toArray, List.set_cons_zero, List.set_cons_succ]
      refine wpAnyH_done (by kernel_rfl) ?_ _
      clear hHeld f0 f1 f2 f3 f4 f5 p0 p1 p2 p3 p4 p5
      go_wp2_with fail
      go_meet
      exact ⟨A1, A2, A3, c1, c2, c3, cl_endE hx3 hy3 hu3 g2 g3 hu0.size hu1.size hu2.size o1 o2 o3 HS.out _ rfl⟩
theorem own_otherB {w w' : World} {base e e' s s' n m : Nat} {v v' : Value} {xs ys : List Value} (h : w.ownsRow base e s v n xs) (k : w.ownsRow base e' s' v' m ys) (hne : e ≠ e')
    (hk : ∀ g, base ≤ g → g < w.heap.size → v'.ownBlock ≠ some g → w'.heap[g]? = w.heap[g]?) : w'.ownsRow base e s v n xs := own_other h k hne hk
theorem RowBk.push {w w' : World} {B : Nat} {v v' : Value} {xs : List Ee} {x : Ee} (h : RowBk w B v xs) (hx : OwE w B x) (hs : ∀ y ∈ xs, (∀ g, blk y.2.B = some g → blk x.2.B ≠ some g) ∧ (∀ g, blk y.2.D = some g → blk x.2.D ≠ some g))
    (h2 : w'.ownsRow B 57 6 v' (xs.length + 1) (gcells ebl xs ++ ebl x)) (hk : ∀ g, B ≤ g → g < w.heap.size → v.ownBlock ≠ some g → w'.heap[g]? = w.heap[g]?) : RowBk w' B v' (xs ++ [x]) := by
  have key : ∀ y : Ee, OwE w B y → OwE w' B y := fun y hy => ⟨⟨own_other hy.1.1 h.1 (by decide) hk, hy.1.2⟩, own_other hy.2.1 h.1 (by decide) hk, own_other hy.2.2 h.1 (by decide) hk⟩
  refine ⟨?_, fun y hy => ?_, ?_⟩
  · rw [gcells_snoc, List.length_append]
    exact h2
  · rcases List.mem_append.1 hy with hy | hy
    · exact key y (h.2.1 y hy)
    · obtain rfl : y = x := by simpa using hy
      exact key y hx
  · rw [List.pairwise_append]
    exact ⟨h.2.2, List.pairwise_singleton _ _, fun y hy z hz => by
      obtain rfl : z = x := by simpa using hz
      exact hs y hy⟩
theorem blk_lt {w : World} {base e s n c : Nat} {A : Option Addr} {m : Nat} {xs : List Value} (h : w.ownsRow base e s (.slice A n c) m xs) (g : Nat) (hg : blk A = some g) : base ≤ g ∧ g < w.heap.size := by
  have h1 := own_lt h g (by rw [ownBlock_blk]; exact hg)
  exact ⟨h1.1, h1.2.1⟩
/-- Rows of what was there before, and rows made later. -/
theorem sepE {w w2 : World} {b N : Nat} {y x : Ee} (hy : OwE w b y) (hx : OwE w2 N x) (hN : w.heap.size ≤ N) : (∀ g, blk y.2.B = some g → blk x.2.B ≠ some g) ∧ (∀ g, blk y.2.D = some g → blk x.2.D ≠ some g) :=
  ⟨fun g h1 h2 => by have := (blk_lt hy.2.1 g h1).2; have := (blk_lt hx.2.1 g h2).1; omega, fun g h1 h2 => by have := (blk_lt hy.2.2 g h1).2; have := (blk_lt hx.2.2 g h2).1; omega⟩
/-- Lengths that a walk bears. -/
def SmE (x : Ee) : Prop := x.1.ns.length ≤ 100000 ∧ x.1.bd.length ≤ 100000 ∧ x.1.dn.length ≤ 100000
set_option maxRecDepth 20000 in
set_option maxHeartbeats 4000000 in
theorem bclone_any (A : Option Addr) (c : Nat) (xs : List Ee) (W : World) (h : InBk W A c xs) (hn : xs.length ≤ 100000) (hk : ∀ x ∈ xs, SmE x) :
    Calls Tryd.prog 12 #[.slice A xs.length c] W fun e w' => ∃ A' c' xs', e = .returned (.slice A' xs'.length c') ∧ xs'.map (·.1) = xs.map (·.1) ∧ RowBk w' W.heap.size (.slice A' xs'.length c') xs' ∧ Below W.heap.size W w' := by
  have HX := hid h
  have HK := hid hk
  have hll : xs.length ≤ 9223372036854775807 := by omega
  clear h hk
  go_enter Tryd.func12, Tryd.ntmps12
  go_wp2
  go_loopw [3, 5, 8] (fun v _ i wr => ∃ (k : Nat) (A' : Option Addr) (c' : Nat) (xs' : List Ee), k ≤ xs.length ∧ i = .int .i64 (k : Int) ∧ v = .slice A' k c' ∧ Hid (xs'.map (·.1) = (xs.take k).map (·.1)) ∧ Hid (RowBk wr W.heap.size (.slice A' k c') xs') ∧ Hid (Below W.heap.size W wr)) (fun _ _ i _ => xs.length - (intOf i).toNat)
  case atStart => exact ⟨0, none, 0, [], by omega, rfl, rfl, rfl, RowBk.nil _ _, Below.refl _ _⟩
  case round =>
    obtain ⟨n, A', c', xs', hnl, rfl, rfl, HE, HO, HB⟩ := hrel
    have hel : xs'.length = n := by
      have h1 := congrArg List.length HE.out
      rw [List.length_map, List.length_map, List.length_take, Nat.min_eq_left hnl] at h1
      exact h1
    have HEL := hid hel
    clear hel
    by_cases hlt : n < xs.length
    · have hlt2 : (n : Int) < (xs.length : Int) := by omega
      obtain ⟨b, off, rfl, q0, q1, q2, q3, q4, q5⟩ := (HX.out.below HB.out).el n hlt
      have ht := HX.out.2 xs[n] (List.getElem_mem hlt)
      have hkn := HK.out xs[n] (List.getElem_mem hlt)
      have HTK : Hid ((xs.take (n + 1)).map (·.1) = (xs.take n).map (·.1) ++ [xs[n].1]) := hid (by rw [List.take_succ_eq_append_getElem hlt, List.map_append, List.map_cons, List.map_nil])
      generalize xs[n]'hlt = ee at *
      have HC := hid (fun w (hw : Below W.heap.size W w) => bcloned_any ee w (ht.below hw) hkn)
      clear ht hkn
      generalize hl9 : xs.length = el at *
      obtain ⟨⟨id, sc, ep, ns, bd, dn⟩, ⟨A1, ca, P, cb, D, cd⟩⟩ := ee
      simp only [ecE] at HC
      simp only at q0 q1 q2 q3 q4 q5 HTK
      generalize hmm : ns.length = m1 at *
      generalize hmb : bd.length = m2 at *
      generalize hmd : dn.length = m3 at *
      have HM := hid hmm
      have HMB := hid hmb
      have HMD := hid hmd
      clear hmm hmb hmd
      go_upto_region 5 with (fail)
      refine at_world (fun u => u.heap[wr.heap.size]? = some (.cells #[.int .i64 id, .int .i64 sc, .int .i64 ep, .slice A1 m1 ca, .slice P m2 cb, .slice D m3 cd] 57 (0, 0)) ∧ Below wr.heap.size wr u) ⟨heap_alloc_new _ _, (Below.refl _ _).alloc (Nat.le_refl _) _⟩ ?_
      clear q0 q1 q2 q3 q4 q5
      rintro u1 ⟨hx1, hb1⟩
      obtain ⟨⟨p0, p1, p2, p3, p4, p5⟩, _⟩ := six_cells hx1
      have HB1 := hid (HB.out.trans (hb1.mono HB.out.size))
      have HO1 := hid (HO.out.keep hb1)
      clear hx1 hb1 HB HO
      generalize wr.heap.size = N at *
      go_wp2_with fail
      refine (HC.out _ HB1.out).mono ?_
      rintro q u2 ⟨⟨A2, c2, P2, d2, D2, f2⟩, rfl, hs2, hb2⟩
      have HSP := hid (fun y hy => sepE (HO1.out.2.1 y hy) hs2 (Nat.le_refl _))
      have HS2 := hid (hs2.mono HB1.out.size)
      have HB2 := hid (HB1.out.trans (hb2.mono HB1.out.size))
      have HO2 := hid (HO1.out.keep hb2)
      clear hs2 hb2 HB1 HO1 p0 p1 p2 p3 p4 p5 HC
      go_wp2_with (at_builtin; refine wpList_append_1k (W := W) rfl (.tmp 12) (.tmp 15) 33 rfl W.heap.size 57 Tryd.underlying33 info_entry rfl (by omega) rfl HO2.out.1 rfl (by rfl) (by simp [Value.oneCell']) ?c1 ?c2 HB2.out.size HB2.out ?_)
      case c1 => have := HEL.out; unfold maxLen; omega
      case c2 => have := HEL.out; omega
      · intro v' w6 h2 h3 h4 h5
        have HO6 : Hid (RowBk w6 W.heap.size v' (xs' ++ [(⟨id, sc, ep, ns, bd, dn⟩, ⟨A2, c2, P2, d2, D2, f2⟩)])) := hid (HO2.out.push HS2.out HSP.out (by simpa [ebl, HM.out, HMB.out, HMD.out] using h2) h5)
        have HB6 := hid h3
        obtain ⟨A6, c6, rfl, _⟩ := Sl.of_own HO6.out.1
        clear h2 h3 h4 h5
        have HL6 : Hid ((xs' ++ [((⟨id, sc, ep, ns, bd, dn⟩ : En), (⟨A2, c2, P2, d2, D2, f2⟩ : Pt))]).length = n + 1) := hid (by rw [List.length_append, HEL.out]; rfl)
        rw [HL6.out] at HO6
        go_wp2
        go_roundw
        case rel => exact ⟨n + 1, A6, c6, xs' ++ [(⟨id, sc, ep, ns, bd, dn⟩, ⟨A2, c2, P2, d2, D2, f2⟩)], by omega, by go_num, by rw [HL6.out], by rw [Hid, List.map_append, HE.out, HTK.out]; rfl, HO6, HB6.out⟩
        case measure => simp [intOf]; omega
    · have hge : ¬ (n : Int) < (xs.length : Int) := by omega
      have HT : Hid (xs'.map (·.1) = xs.map (·.1)) := hid (by rw [HE.out, List.take_of_length_le (by omega)])
      clear HE
      go_wp2
      go_ret
      refine ⟨A', c', xs', ?_, HT.out, ?_, HB.out⟩
      · rw [HEL.out]; rfl
      · rw [HEL.out]; exact HO.out
end Go.Proofs.YthohedadmfbahaaDoor
