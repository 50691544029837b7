/- AnnalPlays: what the two annals hold, step by step. -/
import Derived.Test.YtkepfkfoblocgaaGreatQAnH
namespace Go.Proofs.YtkepfkfoblocgaaGreat
open Go.RowKit Go.Sort
set_option linter.unusedVariables false
set_option linter.unusedSimpArgs false

theorem blk_ne {w : World} {b b' t t' : Nat} {cs cs' : Array Value} {fr fr' : Nat × Nat} (h : w.heap[b]? = some (.cells cs t fr)) (h' : w.heap[b']? = some (.cells cs' t' fr')) (hne : t ≠ t') : b ≠ b' := fun e => by
  rw [e, h'] at h
  injection h with h
  injection h with _ h2
  exact hne h2.symm
theorem apL_roomN (room : Nat) (l m : List UInt8) (armed : Bool) (fuse : Nat) (hl : l.length ≤ room) : (apL room l m armed fuse).length ≤ room := by
  unfold apL
  split
  · exact hl
  · rename_i h
    split
    · rw [List.length_append, List.length_take]; omega
    · rw [List.length_append]; omega
theorem apL_fuse (room : Nat) (l m : List UInt8) (fu : Int) (fuse : Nat) (h : 0 ≤ fu → fuse = fu.toNat) : apL room l m (decide (0 ≤ fu)) fuse = apL room l m (decide (0 ≤ fu)) fu.toNat := by
  by_cases h0 : 0 ≤ fu
  · rw [h h0]
  · unfold apL
    rw [decide_eq_false h0]
    simp
theorem apA_fuN (room : Nat) (l m : List UInt8) (fu : Int) : apA room l m (decide (0 ≤ fu)) = decide (0 ≤ fuN room l m fu) := by
  unfold apA fuN
  split
  · rfl
  · split
    · rfl
    · rename_i h; exact (decide_eq_false h).symm
theorem fuN_fuse (room : Nat) (l m : List UInt8) (fu : Int) (fuse : Nat) (h : 0 ≤ fu → fuse = fu.toNat) : 0 ≤ fuN room l m fu → fuse = (fuN room l m fu).toNat := by
  unfold fuN
  split
  · exact h
  · split
    · intro h9; omega
    · exact h
/-- The two disks, alike. -/
structure DkS (W w : World) (D M room : Nat) (l : List UInt8) (fuse : Nat) (fu : Int) : Prop where
  d : DiskAt w D room l (decide (0 ≤ fu)) fuse
  r : RkAt w M room l fu
  bel : Below W.heap.size W w
  hD : W.heap.size ≤ D
  hM : W.heap.size ≤ M
  fs : 0 ≤ fu → fuse = fu.toNat
  lr : l.length ≤ room
theorem DkS.below {W w w' : World} {D M room : Nat} {l : List UInt8} {fuse : Nat} {fu : Int} (h : DkS W w D M room l fuse fu) (hb : Below w.heap.size w w') : DkS W w' D M room l fuse fu :=
  ⟨h.d.below hb, keep0 h.r hb, h.bel.trans (hb.mono h.bel.size), h.hD, h.hM, h.fs, h.lr⟩
theorem DkS.ne {W w : World} {D M room : Nat} {l : List UInt8} {fuse : Nat} {fu : Int} (h : DkS W w D M room l fuse fu) : D ≠ M := by
  obtain ⟨A9, c9, h9, _⟩ := h.d.open
  exact blk_ne h9 h.r (by decide)
theorem DiskAt.rk {w w' : World} {D M room : Nat} {l : List UInt8} {armed : Bool} {fuse room' : Nat} {l' : List UInt8} {fu : Int} (h : DiskAt w D room l armed fuse) (hr : RkAt w M room' l' fu) (hne : D ≠ M) (ho : Only M w w') : DiskAt w' D room l armed fuse :=
  h.tch (Tch.of_only (S := fun g => g = M) ho rfl (lt_of_block hr)) hne fun g hg cs h9 => by
    have := rk_ty hr g hg _ _ _ h9
    exact absurd this (by decide)
/-- Bytes appended to both. -/
theorem DkS.app {W w k1 k2 : World} {D M room : Nat} {l m : List UInt8} {fuse : Nat} {fu : Int} (h : DkS W w D M room l fuse fu) (hd : DiskAt k1 D room (apL room l m (decide (0 ≤ fu)) fuse) (apA room l m (decide (0 ≤ fu))) fuse) (ho : Only D w k1) (hr : RkAt k2 M room (apL room l m (decide (0 ≤ fu)) fu.toNat) (fuN room l m fu)) (ho2 : Only M k1 k2) : DkS W k2 D M room (apL room l m (decide (0 ≤ fu)) fuse) fuse (fuN room l m fu) := by
  have hr1 : RkAt k1 M room l fu := ho.block h.r h.ne.symm
  have hb1 := h.bel.trans (ho.below W.heap.size h.hD h.bel.size)
  rw [apA_fuN] at hd
  refine ⟨hd.rk hr1 h.ne ho2, ?_, hb1.trans (ho2.below W.heap.size h.hM hb1.size), h.hD, h.hM, fuN_fuse _ _ _ _ _ h.fs, apL_roomN _ _ _ _ _ h.lr⟩
  rw [apL_fuse room l m fu fuse h.fs]
  exact hr
/-- The two annals, alike. -/
structure AnS (W w : World) (D M B B2 G G2 room : Nat) (l : List UInt8) (fuse : Nat) (fu : Int) (A : Option Addr) (c : Nat) (els : List El) (A2 : Option Addr) (c2 : Nat) (els2 : List El) (down : Bool) : Prop where
  an : AnAt w B G D room l (decide (0 ≤ fu)) fuse A c els down
  rn : RnAt W w B2 G2 M room l fu A2 c2 els2 down
  bel : Below W.heap.size W w
  hD : W.heap.size ≤ D
  hM : W.heap.size ≤ M
  hG : W.heap.size ≤ G
  hG2 : W.heap.size ≤ G2
  hB : W.heap.size ≤ B
  hB2 : W.heap.size ≤ B2
  hBs : B ≤ w.heap.size
  hBs2 : B2 ≤ w.heap.size
  sep : ∀ g, (Value.slice A els.length c).ownBlock = some g → (Value.slice A2 els2.length c2).ownBlock ≠ some g
  fs : 0 ≤ fu → fuse = fu.toNat
  lr : l.length ≤ room
  em : els.map (·.1) = els2.map (·.1)
  el : els.length ≤ l.length
  nb : ∀ x ∈ els.map (·.1), x.ns.length ≤ 100000
section
variable {W w : World} {D M B B2 G G2 room : Nat} {l : List UInt8} {fuse : Nat} {fu : Int} {A : Option Addr} {c : Nat} {els : List El} {A2 : Option Addr} {c2 : Nat} {els2 : List El} {down : Bool}
theorem AnS.below {w' : World} (h : AnS W w D M B B2 G G2 room l fuse fu A c els A2 c2 els2 down) (hb : Below w.heap.size w w') : AnS W w' D M B B2 G G2 room l fuse fu A c els A2 c2 els2 down :=
  ⟨h.an.below hb, h.rn.keep hb, h.bel.trans (hb.mono h.bel.size), h.hD, h.hM, h.hG, h.hG2, h.hB, h.hB2, Nat.le_trans h.hBs hb.size, Nat.le_trans h.hBs2 hb.size, h.sep, h.fs, h.lr, h.em, h.el, h.nb⟩
theorem AnS.disk (h : AnS W w D M B B2 G G2 room l fuse fu A c els A2 c2 els2 down) : DkS W w D M room l fuse fu := ⟨h.an.2.1, h.rn.2.1, h.bel, h.hD, h.hM, h.fs, h.lr⟩
theorem AnS.ne (h : AnS W w D M B B2 G G2 room l fuse fu A c els A2 c2 els2 down) : G ≠ D ∧ G2 ≠ M ∧ G ≠ M ∧ G ≠ G2 ∧ D ≠ G2 ∧ D ≠ M := by
  obtain ⟨A9, c9, h9, _⟩ := h.an.2.1.open
  exact ⟨blk_ne h.an.1 h9 (by decide), blk_ne h.rn.1 h.rn.2.1 (by decide), blk_ne h.an.1 h.rn.2.1 (by decide), blk_ne h.an.1 h.rn.1 (by decide), blk_ne h9 h.rn.1 (by decide), blk_ne h9 h.rn.2.1 (by decide)⟩
theorem AnS.len (h : AnS W w D M B B2 G G2 room l fuse fu A c els A2 c2 els2 down) : els.length = els2.length := by
  have := congrArg List.length h.em
  simpa using this
/-- The document's annal stays under the program's Append. -/
theorem AnS.rn_app {k : World} (h : AnS W w D M B B2 G G2 room l fuse fu A c els A2 c2 els2 down) (ht : Tch (fun g => g = D ∨ g = G ∨ (Value.slice A els.length c).ownBlock = some g) w k) : RnAt W k B2 G2 M room l fu A2 c2 els2 down := by
  obtain ⟨n1, n2, n3, n4, n5, n6⟩ := h.ne
  obtain ⟨A9, c9, h9, _⟩ := h.an.2.1.open
  refine ⟨ht.block h.rn.1 ?_, ht.block h.rn.2.1 ?_, h.rn.2.2.tch ht ?_ ?_⟩
  · rintro (h1 | h1 | h1)
    · exact n5 h1.symm
    · exact n4 h1.symm
    · exact own_apart_blk h.an.2.2.1 h.rn.1 (by decide) G2 h1 rfl
  · rintro (h1 | h1 | h1)
    · exact n6 h1.symm
    · exact n3 h1.symm
    · exact own_apart_blk h.an.2.2.1 h.rn.2.1 (by decide) M h1 rfl
  · rintro g hg (h1 | h1 | h1)
    · exact own_apart_blk h.rn.2.2.1 h9 (by decide) g hg h1
    · exact own_apart_blk h.rn.2.2.1 h.an.1 (by decide) g hg h1
    · exact h.sep g h1 hg
  · rintro g hg cs t fr hc
    rcases hg with h1 | h1 | h1
    · subst h1
      rw [h9] at hc
      injection hc with hc
      injection hc with _ h2
      subst h2
      decide
    · subst h1
      rw [h.an.1] at hc
      injection hc with hc
      injection hc with _ h2
      subst h2
      decide
    · obtain ⟨_, _, cur, h8⟩ := own_lt h.an.2.2.1 g h1
      rw [h8] at hc
      injection hc with hc
      injection hc with _ h2
      subst h2
      decide
/-- The program's annal stays under the document's. -/
theorem an_keepR {k k' : World} {armed : Bool} {l2 : List UInt8} {fu2 : Int} {down2 : Bool} (h : AnAt k B G D room l armed fuse A c els down) (hr : RnAt W k B2 G2 M room l2 fu2 A2 c2 els2 down2) (ht : Tch (fun g => g = M ∨ g = G2) k k') : AnAt k' B G D room l armed fuse A c els down := by
  obtain ⟨A9, c9, h9, _⟩ := h.2.1.open
  refine ⟨ht.block h.1 ?_, h.2.1.tch ht ?_ ?_, ⟨ht.own h.2.2.1 ?_, fun e he => ⟨ht.own (h.2.2.2 e he).1 ?_, (h.2.2.2 e he).2⟩⟩⟩
  · rintro (h1 | h1)
    · exact blk_ne h.1 hr.2.1 (by decide) h1
    · exact blk_ne h.1 hr.1 (by decide) h1
  · rintro (h1 | h1)
    · exact blk_ne h9 hr.2.1 (by decide) h1
    · exact blk_ne h9 hr.1 (by decide) h1
  · rintro g (h1 | h1) cs hc
    · subst h1
      exact blk_ne hc hr.2.1 (by decide) rfl
    · subst h1
      exact blk_ne hc hr.1 (by decide) rfl
  · rintro g hg (h1 | h1)
    · exact own_apart_blk h.2.2.1 hr.2.1 (by decide) g hg h1
    · exact own_apart_blk h.2.2.1 hr.1 (by decide) g hg h1
  · rintro g hg (h1 | h1)
    · exact own_apart_blk (h.2.2.2 e he).1 hr.2.1 (by decide) g hg h1
    · exact own_apart_blk (h.2.2.2 e he).1 hr.1 (by decide) g hg h1
theorem anB_fuse (x : Rc) (h : 0 ≤ fu → fuse = fu.toNat) : anB room l (decide (0 ≤ fu)) fuse down x = anB room l (decide (0 ≤ fu)) fu.toNat down x := by
  unfold anB
  split
  · rfl
  · split
    · rfl
    · exact apL_fuse _ _ _ _ _ h
theorem anA_anF (x : Rc) : anA room l (decide (0 ≤ fu)) down x = decide (0 ≤ anF room l fu down x) := by
  unfold anA anF
  split
  · rfl
  · split
    · rfl
    · exact apA_fuN _ _ _ _
theorem anF_fuse (x : Rc) (h : 0 ≤ fu → fuse = fu.toNat) : 0 ≤ anF room l fu down x → fuse = (anF room l fu down x).toNat := by
  unfold anF
  split
  · exact h
  · split
    · exact h
    · exact fuN_fuse _ _ _ _ _ h
theorem anB_len (x : Rc) (hl : l.length ≤ room) : (anB room l (decide (0 ≤ fu)) fuse down x).length ≤ room ∧ l.length ≤ (anB room l (decide (0 ≤ fu)) fuse down x).length ∧ (anE room l (decide (0 ≤ fu)) down x = 0 → l.length < (anB room l (decide (0 ≤ fu)) fuse down x).length) := by
  unfold anB anE
  by_cases h1 : chkR x = false
  · rw [if_pos h1, if_pos h1]
    exact ⟨hl, Nat.le_refl _, fun h9 => by omega⟩
  · rw [if_neg h1, if_neg h1]
    by_cases h2 : down = true
    · rw [if_pos h2, if_pos h2]
      exact ⟨hl, Nat.le_refl _, fun h9 => by omega⟩
    · rw [if_neg h2, if_neg h2]
      have hx : chkR x = true := by simpa using h1
      have hp : 0 < (fR x).length := by
        rw [fR, if_pos hx]
        have := rb_len x hx
        unfold frP
        rw [if_neg (by omega), seal_len]
        omega
      refine ⟨apL_roomN _ _ _ _ _ hl, ?_, ?_⟩
      · unfold apL
        split
        · exact Nat.le_refl _
        · split
          · rw [List.length_append]; omega
          · rw [List.length_append]; omega
      · unfold apE apL
        split
        · intro h9; omega
        · split
          · intro h9; omega
          · intro _
            rw [List.length_append]
            omega
/-- Both Appends. -/
theorem AnS.app {k1 k2 : World} (x : Rc) {A5 : Option Addr} {c5 : Nat} {els5 : List El} {A6 : Option Addr} {c6 : Nat} {els6 : List El} (h : AnS W w D M B B2 G G2 room l fuse fu A c els A2 c2 els2 down)
    (hm5 : els5.map (·.1) = (if anE room l (decide (0 ≤ fu)) down x = 0 then els.map (·.1) ++ [x] else els.map (·.1)))
    (ha5 : AnAt k1 B G D room (anB room l (decide (0 ≤ fu)) fuse down x) (anA room l (decide (0 ≤ fu)) down x) fuse A5 c5 els5 (if anE room l (decide (0 ≤ fu)) down x = 14 then true else down))
    (ht5 : Tch (fun g => g = D ∨ g = G ∨ (Value.slice A els.length c).ownBlock = some g) w k1) (ho5 : (Value.slice A5 els5.length c5).ownBlock = (Value.slice A els.length c).ownBlock ∨ ∀ g, (Value.slice A5 els5.length c5).ownBlock = some g → w.heap.size ≤ g)
    (hm6 : els6.map (·.1) = (if anE room l (decide (0 ≤ fu)) down x = 0 then els2.map (·.1) ++ [x] else els2.map (·.1)))
    (hr6 : RnAt W k2 B2 G2 M room (anB room l (decide (0 ≤ fu)) fu.toNat down x) (anF room l fu down x) A6 c6 els6 (if anE room l (decide (0 ≤ fu)) down x = 14 then true else down))
    (ht6 : Tch (fun g => g = M ∨ g = G2) k1 k2) (ho6 : (Value.slice A6 els6.length c6).ownBlock = (Value.slice A2 els2.length c2).ownBlock ∨ ∀ g, (Value.slice A6 els6.length c6).ownBlock = some g → k1.heap.size ≤ g) :
    AnS W k2 D M B B2 G G2 room (anB room l (decide (0 ≤ fu)) fuse down x) fuse (anF room l fu down x) A5 c5 els5 A6 c6 els6 (if anE room l (decide (0 ≤ fu)) down x = 14 then true else down) := by
  have hrn1 := h.rn_app ht5
  obtain ⟨l1, l2, l3⟩ := anB_len (room := room) (l := l) (fuse := fuse) (fu := fu) (down := down) x h.lr
  have hb1 := h.bel.trans (ht5.below W.heap.size (fun g hg _ => by
    rcases hg with h1 | h1 | h1
    · rw [h1]; exact h.hD
    · rw [h1]; exact h.hG
    · exact Nat.le_trans h.hB (own_lt h.an.2.2.1 g h1).1) h.bel.size)
  have hb2 := hb1.trans (ht6.below W.heap.size (fun g hg _ => by
    rcases hg with h1 | h1
    · rw [h1]; exact h.hM
    · rw [h1]; exact h.hG2) hb1.size)
  have ha6 := an_keepR ha5 hrn1 ht6
  rw [anA_anF] at ha6
  refine ⟨ha6, by rw [anB_fuse x h.fs]; exact hr6, hb2, h.hD, h.hM, h.hG, h.hG2, h.hB, h.hB2, Nat.le_trans h.hBs (Nat.le_trans ht5.size ht6.size), Nat.le_trans h.hBs2 (Nat.le_trans ht5.size ht6.size), fun g hg h9 => ?_, anF_fuse x h.fs, l1, ?_, ?_, ?_⟩
  · have hk1 := (own_lt ha5.2.2.1 g hg).2.1
    have hw2 := fun q hq => (own_lt h.rn.2.2.1 q hq).2.1
    rcases ho6 with e6 | e6
    · rw [e6] at h9
      rcases ho5 with e5 | e5
      · rw [e5] at hg
        exact h.sep g hg h9
      · have := e5 g hg
        have := hw2 g h9
        omega
    · have := e6 g h9
      omega
  · rw [hm5, hm6, h.em]
  · have h9 := congrArg List.length hm5
    have h8 := h.el
    by_cases h0 : anE room l (decide (0 ≤ fu)) down x = 0
    · rw [if_pos h0] at h9
      have := l3 h0
      simp at h9
      omega
    · rw [if_neg h0] at h9
      simp at h9
      omega
  · rw [hm5]
    intro y hy
    by_cases h0 : anE room l (decide (0 ≤ fu)) down x = 0
    · rw [if_pos h0] at hy
      rcases List.mem_append.1 hy with hy | hy
      · exact h.nb y hy
      · obtain rfl : y = x := by simpa using hy
        have hx : chkR y = true := by
          rcases Bool.eq_false_or_eq_true (chkR y) with h9 | h9
          · exact h9
          · rw [anE, if_pos h9] at h0
            omega
        exact Nat.le_trans (chkR_ns hx).1 (by omega)
    · rw [if_neg h0] at hy
      exact h.nb y hy
/-- The fuse of both. -/
theorem AnS.fused {k1 : World} (n : Int) (h : AnS W w D M B B2 G G2 room l fuse fu A c els A2 c2 els2 down) (hd : DiskAt k1 D room l (decide (0 ≤ n)) n.toNat) (ho : Only D w k1) : AnS W (k1.setCell ⟨M, 2, none⟩ (.int .i64 n)) D M B B2 G G2 room l n.toNat n A c els A2 c2 els2 down := by
  have hn := h.ne
  have ht : Tch (fun g => g = D ∨ g = G ∨ (Value.slice A els.length c).ownBlock = some g) w k1 := Tch.of_only ho (.inl rfl) h.an.2.1.lt
  have hrn := h.rn_app ht
  have han : AnAt k1 B G D room l (decide (0 ≤ n)) n.toNat A c els down := h.an.only hd ho hn.1
  have hs : Tch (fun g => g = M ∨ g = G2) k1 (k1.setCell ⟨M, 2, none⟩ (.int .i64 n)) := (Tch.refl (fun g => g = M ∨ g = G2) k1).set M 2 _ fun _ => .inl rfl
  have hb1 := h.bel.trans (ho.below W.heap.size h.hD h.bel.size)
  have hb2 := hb1.trans (hs.below W.heap.size (fun g hg _ => by
    rcases hg with h1 | h1
    · rw [h1]; exact h.hM
    · rw [h1]; exact h.hG2) hb1.size)
  have hm : RkAt (k1.setCell ⟨M, 2, none⟩ (.int .i64 n)) M room l n := heap_setCell_same k1 M 2 _ _ (.int .i64 n) hrn.2.1
  have hr2 : RnAt W (k1.setCell ⟨M, 2, none⟩ (.int .i64 n)) B2 G2 M room l n A2 c2 els2 down := by
    refine ⟨(Below.heap_setCell _ _ _ _ (by exact hn.2.1)).trans hrn.1, hm, hrn.2.2.tch (S := fun g => g = M) ((Tch.refl (fun g => g = M) k1).set M 2 _ fun _ => rfl) (fun g hg h9 => own_apart_blk hrn.2.2.1 hrn.2.1 (by decide) g hg h9) (fun g hg cs t fr h9 => by rw [rk_ty hrn.2.1 g hg cs t fr h9]; decide)⟩
  exact ⟨an_keepR han hrn hs, hr2, hb2, h.hD, h.hM, h.hG, h.hG2, h.hB, h.hB2, Nat.le_trans h.hBs (Nat.le_trans ht.size hs.size), Nat.le_trans h.hBs2 (Nat.le_trans ht.size hs.size), h.sep, fun _ => rfl, h.lr, h.em, h.el, h.nb⟩
end
end Go.Proofs.YtkepfkfoblocgaaGreat
