/- LedgerPlays: what the two ledgers hold, step by step. -/
import Derived.Test.YtkepfkfoblocgaaGreatQLpC
namespace Go.Proofs.YtkepfkfoblocgaaGreat
open Go.RowKit Go.Sort
set_option linter.unusedVariables false
set_option linter.unusedSimpArgs false

theorem lg_vals (R room : Nat) (l : List UInt8) (fu : Int) (fuse : Nat) (down : Bool) (b : List En) (x : Rc) (hb : OkB b) (hfs : 0 ≤ fu → fuse = fu.toNat) (hl : l.length ≤ room) :
    ∃ l' fu' down', lgN ⟨R, kepB b, room, l, decide (0 ≤ fu), fuse, down⟩ b x = ⟨R, kepB (if lgE ⟨R, kepB b, room, l, decide (0 ≤ fu), fuse, down⟩ b x = 0 then appB b x else b), room, l', decide (0 ≤ fu'), fuse, down'⟩ ∧ (lgN (rlS R room l fu fu.toNat down b) b x).l = l' ∧ puF R room l fu down b x = fu' ∧ (lgN (rlS R room l fu fu.toNat down b) b x).down = down' ∧ (0 ≤ fu' → fuse = fu'.toNat) ∧ l'.length ≤ room ∧ l.length ≤ l'.length ∧
      lgE (rlS R room l fu fu.toNat down b) b x = lgE ⟨R, kepB b, room, l, decide (0 ≤ fu), fuse, down⟩ b x ∧ (lgE ⟨R, kepB b, room, l, decide (0 ≤ fu), fuse, down⟩ b x = 0 → l.length < l'.length ∧ chkR x = true ∧ whyB b x = 0) := by
  by_cases hd : down = true
  · have e1 : lgE ⟨R, kepB b, room, l, decide (0 ≤ fu), fuse, down⟩ b x = 15 := if_pos hd
    have e2 : lgN ⟨R, kepB b, room, l, decide (0 ≤ fu), fuse, down⟩ b x = ⟨R, kepB b, room, l, decide (0 ≤ fu), fuse, down⟩ := if_pos hd
    have e3 : lgN (rlS R room l fu fu.toNat down b) b x = rlS R room l fu fu.toNat down b := if_pos hd
    have e4 : puF R room l fu down b x = fu := if_pos hd
    have e5 : lgE (rlS R room l fu fu.toNat down b) b x = 15 := if_pos hd
    refine ⟨l, fu, down, ?_, by rw [e3]; rfl, e4, by rw [e3]; rfl, hfs, hl, Nat.le_refl _, by rw [e1, e5], fun h9 => ?_⟩
    · rw [e2, e1, if_neg (by decide)]
    · rw [e1] at h9
      exact absurd h9 (by decide)
  · by_cases hw : whyB b x ≠ 0
    · have e1 : lgE ⟨R, kepB b, room, l, decide (0 ≤ fu), fuse, down⟩ b x = whyB b x := (if_neg hd).trans (if_pos hw)
      have e2 : lgN ⟨R, kepB b, room, l, decide (0 ≤ fu), fuse, down⟩ b x = ⟨R, kepB b, room, l, decide (0 ≤ fu), fuse, down⟩ := (if_neg hd).trans (if_pos hw)
      have e3 : lgN (rlS R room l fu fu.toNat down b) b x = rlS R room l fu fu.toNat down b := (if_neg hd).trans (if_pos hw)
      have e4 : puF R room l fu down b x = fu := (if_neg hd).trans (if_pos hw)
      have e5 : lgE (rlS R room l fu fu.toNat down b) b x = whyB b x := (if_neg hd).trans (if_pos hw)
      refine ⟨l, fu, down, ?_, by rw [e3]; rfl, e4, by rw [e3]; rfl, hfs, hl, Nat.le_refl _, by rw [e1, e5], fun h9 => ?_⟩
      · rw [e2, e1, if_neg hw]
      · rw [e1] at h9
        exact absurd h9 hw
    · by_cases hf : x.k = 1 ∧ R < kepB b + mostR x.j 0 x.ns
      · have e1 : lgE ⟨R, kepB b, room, l, decide (0 ≤ fu), fuse, down⟩ b x = 7 := (if_neg hd).trans ((if_neg hw).trans (if_pos hf))
        have e2 : lgN ⟨R, kepB b, room, l, decide (0 ≤ fu), fuse, down⟩ b x = ⟨R, kepB b, room, l, decide (0 ≤ fu), fuse, down⟩ := (if_neg hd).trans ((if_neg hw).trans (if_pos hf))
        have e3 : lgN (rlS R room l fu fu.toNat down b) b x = rlS R room l fu fu.toNat down b := (if_neg hd).trans ((if_neg hw).trans (if_pos hf))
        have e4 : puF R room l fu down b x = fu := (if_neg hd).trans ((if_neg hw).trans (if_pos hf))
        have e5 : lgE (rlS R room l fu fu.toNat down b) b x = 7 := (if_neg hd).trans ((if_neg hw).trans (if_pos hf))
        refine ⟨l, fu, down, ?_, by rw [e3]; rfl, e4, by rw [e3]; rfl, hfs, hl, Nat.le_refl _, by rw [e1, e5], fun h9 => ?_⟩
        · rw [e2, e1, if_neg (by decide)]
        · rw [e1] at h9
          exact absurd h9 (by decide)
      · have e1 : lgE ⟨R, kepB b, room, l, decide (0 ≤ fu), fuse, down⟩ b x = anE room l (decide (0 ≤ fu)) false x := (if_neg hd).trans ((if_neg hw).trans (if_neg hf))
        have e2 : lgN ⟨R, kepB b, room, l, decide (0 ≤ fu), fuse, down⟩ b x = ⟨R, if anE room l (decide (0 ≤ fu)) false x = 0 then kepB b + lgM x else kepB b, room, anB room l (decide (0 ≤ fu)) fuse false x, anA room l (decide (0 ≤ fu)) false x, fuse, if anE room l (decide (0 ≤ fu)) false x = 14 then true else false⟩ := (if_neg hd).trans ((if_neg hw).trans (if_neg hf))
        have e3 : lgN (rlS R room l fu fu.toNat down b) b x = ⟨R, if anE room l (decide (0 ≤ fu)) false x = 0 then kepB b + lgM x else kepB b, room, anB room l (decide (0 ≤ fu)) fu.toNat false x, anA room l (decide (0 ≤ fu)) false x, fu.toNat, if anE room l (decide (0 ≤ fu)) false x = 14 then true else false⟩ := (if_neg hd).trans ((if_neg hw).trans (if_neg hf))
        have e4 : puF R room l fu down b x = anF room l fu false x := (if_neg hd).trans ((if_neg hw).trans (if_neg hf))
        have e5 : lgE (rlS R room l fu fu.toNat down b) b x = anE room l (decide (0 ≤ fu)) false x := (if_neg hd).trans ((if_neg hw).trans (if_neg hf))
        have hw0 : whyB b x = 0 := Classical.not_not.1 hw
        obtain ⟨l1, l2, l3⟩ := anB_len (room := room) (l := l) (fuse := fuse) (fu := fu) (down := false) x hl
        refine ⟨anB room l (decide (0 ≤ fu)) fuse false x, anF room l fu false x, if anE room l (decide (0 ≤ fu)) false x = 14 then true else false, ?_, ?_, e4, by rw [e3], anF_fuse x hfs, l1, l2, by rw [e1, e5], fun h9 => ?_⟩
        · rw [e2, e1, anA_anF]
          congr 1
          by_cases hz : anE room l (decide (0 ≤ fu)) false x = 0
          · rw [if_pos hz, if_pos hz, kep_app hb hw0]
          · rw [if_neg hz, if_neg hz]
        · rw [e3]
          exact (anB_fuse x hfs).symm
        · rw [e1] at h9
          exact ⟨l3 h9, whyB_chk hw0, hw0⟩
/-- The two ledgers, alike. -/
structure LpS (W w : World) (D M B B2 L H G G2 R room : Nat) (l : List UInt8) (fuse : Nat) (fu : Int) (A : Option Addr) (c : Nat) (els : List El) (Ab : Option Addr) (cb : Nat) (xs : List Ee) (A2 : Option Addr) (c2 : Nat) (els2 : List El) (Ab2 : Option Addr) (cb2 : Nat) (xs2 : List Ee) (down : Bool) : Prop where
  s : AnS W w D M B B2 G G2 room l fuse fu A c els A2 c2 els2 down
  lg : LgAt w B L G D ⟨R, kepB (xs.map (·.1)), room, l, decide (0 ≤ fu), fuse, down⟩ A c els Ab cb xs
  rl : RlAt W w B2 H G2 M R room l fu A2 c2 els2 down Ab2 cb2 xs2
  xm : xs.map (·.1) = xs2.map (·.1)
  hL : W.heap.size ≤ L
  hH : W.heap.size ≤ H
section
variable {W w : World} {D M B B2 L H G G2 R room : Nat} {l : List UInt8} {fuse : Nat} {fu : Int} {A : Option Addr} {c : Nat} {els : List El} {Ab : Option Addr} {cb : Nat} {xs : List Ee} {A2 : Option Addr} {c2 : Nat} {els2 : List El} {Ab2 : Option Addr} {cb2 : Nat} {xs2 : List Ee} {down : Bool}
theorem LpS.below {w' : World} (h : LpS W w D M B B2 L H G G2 R room l fuse fu A c els Ab cb xs A2 c2 els2 Ab2 cb2 xs2 down) (hb : Below w.heap.size w w') : LpS W w' D M B B2 L H G G2 R room l fuse fu A c els Ab cb xs A2 c2 els2 Ab2 cb2 xs2 down :=
  ⟨h.s.below hb, h.lg.below hb, h.rl.below hb, h.xm, h.hL, h.hH⟩
theorem lgT_not {s : LgS} {g t : Nat} {cs : Array Value} {fr : Nat × Nat} (h : LgAt w B L G D s A c els Ab cb xs) (hg : w.heap[g]? = some (.cells cs t fr)) (h1 : t ≠ 81) (h2 : t ≠ 72) (h3 : t ≠ 94) (h4 : 46 ≠ t) : ¬ LgT L G D A els.length c g := by
  obtain ⟨A9, c9, hd9, _⟩ := h.2.1.2.1.open
  rintro (h9 | h9 | h9 | h9)
  · exact blk_ne hg h.1 h1 h9
  · exact blk_ne hg hd9 h2 h9
  · exact blk_ne hg h.2.1.1 h3 h9
  · exact own_apart_blk h.2.1.2.2.1 hg h4 g h9 rfl
/-- The document's ledger stays under the program's Put. -/
theorem LpS.rl_put {k : World} (h : LpS W w D M B B2 L H G G2 R room l fuse fu A c els Ab cb xs A2 c2 els2 Ab2 cb2 xs2 down) (ht : Tch (LgT L G D A els.length c) w k) : RlAt W k B2 H G2 M R room l fu A2 c2 els2 down Ab2 cb2 xs2 := by
  obtain ⟨A9, c9, hd9, _⟩ := h.lg.2.1.2.1.open
  have hty := lgT_ty h.lg
  refine ⟨ht.block h.rl.1 (lgT_not h.lg h.rl.1 (by decide) (by decide) (by decide) (by decide)), ⟨ht.block h.rl.2.1.1 (lgT_not h.lg h.rl.2.1.1 (by decide) (by decide) (by decide) (by decide)), ht.block h.rl.2.1.2.1 (lgT_not h.lg h.rl.2.1.2.1 (by decide) (by decide) (by decide) (by decide)), h.rl.2.1.2.2.tch ht ?_ ?_⟩, h.rl.2.2.1.tch ht (fun g hg cs t fr hc => (hty g hg cs t fr hc).2), h.rl.2.2.2⟩
  · rintro g hg (h1 | h1 | h1 | h1)
    · exact own_apart_blk h.rl.2.1.2.2.1 h.lg.1 (by decide) g hg h1
    · exact own_apart_blk h.rl.2.1.2.2.1 hd9 (by decide) g hg h1
    · exact own_apart_blk h.rl.2.1.2.2.1 h.lg.2.1.1 (by decide) g hg h1
    · exact h.s.sep g h1 hg
  · exact fun g hg cs t fr hc => (hty g hg cs t fr hc).2.2.1
theorem rl_tyL {W0 : World} (hr : RlAt W0 w B2 H G2 M R room l fu A2 c2 els2 down Ab2 cb2 xs2) : ∀ g, (g = M ∨ g = G2 ∨ g = H) → ∀ cs t fr, w.heap[g]? = some (.cells cs t fr) → t ≠ 5 ∧ t ≠ 55 ∧ t ≠ 9 ∧ t ≠ 3 ∧ t ≠ 4 := by
  intro g hg cs t fr hc
  rcases hg with h1 | h1 | h1
  · subst h1
    rw [hr.2.1.2.1] at hc
    injection hc with hc
    injection hc with _ h2
    subst h2
    decide
  · subst h1
    rw [hr.2.1.1] at hc
    injection hc with hc
    injection hc with _ h2
    subst h2
    decide
  · subst h1
    rw [hr.1] at hc
    injection hc with hc
    injection hc with _ h2
    subst h2
    decide
/-- The program's ledger stays under the document's. -/
theorem lg_keepR {W0 k k' : World} {S : LgS} {l2 : List UInt8} {fu2 : Int} {down2 : Bool} (h : LgAt k B L G D S A c els Ab cb xs) (hr : RlAt W0 k B2 H G2 M R room l2 fu2 A2 c2 els2 down2 Ab2 cb2 xs2) (ht : Tch (fun g => g = M ∨ g = G2 ∨ g = H) k k') : LgAt k' B L G D S A c els Ab cb xs := by
  obtain ⟨A9, c9, h9, _⟩ := h.2.1.2.1.open
  refine h.tch ht ?_ ?_ ?_ ?_ (rl_tyL hr)
  · rintro (h1 | h1 | h1)
    · exact blk_ne h.1 hr.2.1.2.1 (by decide) h1
    · exact blk_ne h.1 hr.2.1.1 (by decide) h1
    · exact blk_ne h.1 hr.1 (by decide) h1
  · rintro (h1 | h1 | h1)
    · exact blk_ne h.2.1.1 hr.2.1.2.1 (by decide) h1
    · exact blk_ne h.2.1.1 hr.2.1.1 (by decide) h1
    · exact blk_ne h.2.1.1 hr.1 (by decide) h1
  · rintro (h1 | h1 | h1)
    · exact blk_ne h9 hr.2.1.2.1 (by decide) h1
    · exact blk_ne h9 hr.2.1.1 (by decide) h1
    · exact blk_ne h9 hr.1 (by decide) h1
  · rintro g hg (h1 | h1 | h1)
    · exact own_apart_blk h.2.1.2.2.1 hr.2.1.2.1 (by decide) g hg h1
    · exact own_apart_blk h.2.1.2.2.1 hr.2.1.1 (by decide) g hg h1
    · exact own_apart_blk h.2.1.2.2.1 hr.1 (by decide) g hg h1
/-- What the four values of the law are. -/
def LpX (W w : World) (D M R room : Nat) (pl pe pw pf : Value) : Prop :=
  (∃ B B2 L H G G2 l fuse fu A c els Ab cb xs A2 c2 els2 Ab2 cb2 xs2 down, pl = .pointer (some ⟨L, 0, none⟩) ∧ pe = .int .i64 0 ∧ pw = .pointer (some ⟨H, 0, none⟩) ∧ pf = .int .i64 0 ∧ LpS W w D M B B2 L H G G2 R room l fuse fu A c els Ab cb xs A2 c2 els2 Ab2 cb2 xs2 down) ∨
  (∃ l fuse fu, pl = .pointer none ∧ pe = .int .i64 3 ∧ pw = .pointer none ∧ pf = .int .i64 3 ∧ DkS W w D M room l fuse fu)
theorem LpS.ex {pl pw : Value} (h : LpS W w D M B B2 L H G G2 R room l fuse fu A c els Ab cb xs A2 c2 els2 Ab2 cb2 xs2 down) (h1 : pl = .pointer (some ⟨L, 0, none⟩)) (h2 : pw = .pointer (some ⟨H, 0, none⟩)) : LpX W w D M R room pl (.int .i64 0) pw (.int .i64 0) :=
  .inl ⟨B, B2, L, H, G, G2, l, fuse, fu, A, c, els, Ab, cb, xs, A2, c2, els2, Ab2, cb2, xs2, down, h1, rfl, h2, rfl, h⟩
/-- Both Puts. -/
theorem LpS.put {k1 k2 : World} (x : Rc) {A5 : Option Addr} {c5 : Nat} {els5 : List El} {Ab5 : Option Addr} {cb5 : Nat} {xs5 : List Ee} {A6 : Option Addr} {c6 : Nat} {els6 : List El} {Ab6 : Option Addr} {cb6 : Nat} {xs6 : List Ee} (h : LpS W w D M B B2 L H G G2 R room l fuse fu A c els Ab cb xs A2 c2 els2 Ab2 cb2 xs2 down)
    (hl5 : LgAt k1 B L G D (lgN ⟨R, kepB (xs.map (·.1)), room, l, decide (0 ≤ fu), fuse, down⟩ (xs.map (·.1)) x) A5 c5 els5 Ab5 cb5 xs5)
    (hx5 : xs5.map (·.1) = (if lgE ⟨R, kepB (xs.map (·.1)), room, l, decide (0 ≤ fu), fuse, down⟩ (xs.map (·.1)) x = 0 then appB (xs.map (·.1)) x else xs.map (·.1)))
    (hm5 : els5.map (·.1) = (if lgE ⟨R, kepB (xs.map (·.1)), room, l, decide (0 ≤ fu), fuse, down⟩ (xs.map (·.1)) x = 0 then els.map (·.1) ++ [x] else els.map (·.1)))
    (ht5 : Tch (LgT L G D A els.length c) w k1) (ho5 : (Value.slice A5 els5.length c5).ownBlock = (Value.slice A els.length c).ownBlock ∨ ∀ g, (Value.slice A5 els5.length c5).ownBlock = some g → w.heap.size ≤ g)
    (hl6 : RlAt W k2 B2 H G2 M R room (lgN (rlS R room l fu fu.toNat down (xs2.map (·.1))) (xs2.map (·.1)) x).l (puF R room l fu down (xs2.map (·.1)) x) A6 c6 els6 (lgN (rlS R room l fu fu.toNat down (xs2.map (·.1))) (xs2.map (·.1)) x).down Ab6 cb6 xs6)
    (hx6 : xs6.map (·.1) = (if lgE (rlS R room l fu fu.toNat down (xs2.map (·.1))) (xs2.map (·.1)) x = 0 then appB (xs2.map (·.1)) x else xs2.map (·.1)))
    (hm6 : els6.map (·.1) = (if lgE (rlS R room l fu fu.toNat down (xs2.map (·.1))) (xs2.map (·.1)) x = 0 then els2.map (·.1) ++ [x] else els2.map (·.1)))
    (ht6 : Tch (fun g => g = M ∨ g = G2 ∨ g = H) k1 k2) (ho6 : (Value.slice A6 els6.length c6).ownBlock = (Value.slice A2 els2.length c2).ownBlock ∨ ∀ g, (Value.slice A6 els6.length c6).ownBlock = some g → k1.heap.size ≤ g) :
    lgE (rlS R room l fu fu.toNat down (xs2.map (·.1))) (xs2.map (·.1)) x = lgE ⟨R, kepB (xs.map (·.1)), room, l, decide (0 ≤ fu), fuse, down⟩ (xs.map (·.1)) x ∧ LpX W k2 D M R room (.pointer (some ⟨L, 0, none⟩)) (.int .i64 0) (.pointer (some ⟨H, 0, none⟩)) (.int .i64 0) := by
  obtain ⟨l', fu', down', v1, v2, v3, v4, v5, v6, v7, v8, v9⟩ := lg_vals R room l fu fuse down (xs.map (·.1)) x h.lg.2.2.2 h.s.fs h.s.lr
  rw [← h.xm] at hl6 hx6 hm6 ⊢
  rw [v2, v3, v4] at hl6
  rw [v8] at hx6 hm6
  rw [v1, ← hx5] at hl5
  refine ⟨v8, ?_⟩
  have hrl1 := h.rl_put ht5
  have hlg2 := lg_keepR hl5 hrl1 ht6
  have hb1 := h.s.bel.trans (ht5.below W.heap.size (fun g hg _ => by
    rcases hg with h1 | h1 | h1 | h1
    · rw [h1]; exact h.hL
    · rw [h1]; exact h.s.hD
    · rw [h1]; exact h.s.hG
    · exact Nat.le_trans h.s.hB (own_lt h.s.an.2.2.1 g h1).1) h.s.bel.size)
  have hb2 := hb1.trans (ht6.below W.heap.size (fun g hg _ => by
    rcases hg with h1 | h1 | h1
    · rw [h1]; exact h.s.hM
    · rw [h1]; exact h.s.hG2
    · rw [h1]; exact h.hH) hb1.size)
  have hS : AnS W k2 D M B B2 G G2 room l' fuse fu' A5 c5 els5 A6 c6 els6 down' := by
    refine ⟨hlg2.2.1, hl6.2.1, hb2, h.s.hD, h.s.hM, h.s.hG, h.s.hG2, h.s.hB, h.s.hB2, Nat.le_trans h.s.hBs (Nat.le_trans ht5.size ht6.size), Nat.le_trans h.s.hBs2 (Nat.le_trans ht5.size ht6.size), fun g hg h9 => ?_, v5, v6, ?_, ?_, ?_⟩
    · have hk1 := (own_lt hl5.2.1.2.2.1 g hg).2.1
      have hw2 := fun q hq => (own_lt h.s.rn.2.2.1 q hq).2.1
      rcases ho6 with e6 | e6
      · rw [e6] at h9
        rcases ho5 with e5 | e5
        · rw [e5] at hg
          exact h.s.sep g hg h9
        · have := e5 g hg
          have := hw2 g h9
          omega
      · have := e6 g h9
        omega
    · rw [hm5, hm6, h.s.em]
    · have h9 := congrArg List.length hm5
      have h8 := h.s.el
      by_cases h0 : lgE ⟨R, kepB (xs.map (·.1)), room, l, decide (0 ≤ fu), fuse, down⟩ (xs.map (·.1)) x = 0
      · rw [if_pos h0] at h9
        have := (v9 h0).1
        simp at h9
        omega
      · rw [if_neg h0] at h9
        simp at h9
        omega
    · rw [hm5]
      intro y hy
      by_cases h0 : lgE ⟨R, kepB (xs.map (·.1)), room, l, decide (0 ≤ fu), fuse, down⟩ (xs.map (·.1)) x = 0
      · rw [if_pos h0] at hy
        rcases List.mem_append.1 hy with hy | hy
        · exact h.s.nb y hy
        · obtain rfl : y = x := by simpa using hy
          exact Nat.le_trans (chkR_ns (v9 h0).2.1).1 (by omega)
      · rw [if_neg h0] at hy
        exact h.s.nb y hy
  exact LpS.ex ⟨hS, hlg2, hl6, by rw [hx5, hx6], h.hL, h.hH⟩ rfl rfl
/-- The fuse of both. -/
theorem LpS.fused {k1 : World} (n : Int) (h : LpS W w D M B B2 L H G G2 R room l fuse fu A c els Ab cb xs A2 c2 els2 Ab2 cb2 xs2 down) (hd : DiskAt k1 D room l (decide (0 ≤ n)) n.toNat) (ho : Only D w k1) : LpS W (k1.setCell ⟨M, 2, none⟩ (.int .i64 n)) D M B B2 L H G G2 R room l n.toNat n A c els Ab cb xs A2 c2 els2 Ab2 cb2 xs2 down := by
  have hS := h.s.fused n hd ho
  obtain ⟨A9, c9, h9, _⟩ := h.lg.2.1.2.1.open
  have ht1 : Tch (fun g => g = D) w k1 := Tch.of_only ho rfl h.s.an.2.1.lt
  have hr1 : RkAt k1 M room l fu := ho.block h.s.rn.2.1 (Ne.symm h.s.ne.2.2.2.2.2)
  have ht2 : Tch (fun g => g = M) k1 (k1.setCell ⟨M, 2, none⟩ (.int .i64 n)) := tch_set k1 M 2 (.int .i64 n)
  have hty1 := dk_ty h.s.an.2.1
  have hty2 : TyN (fun g => g = M) k1 := one_ty hr1 (by decide)
  have hL1 := ht1.block h.lg.1 (blk_ne h.lg.1 h9 (by decide))
  have hH1 := ht1.block h.rl.1 (blk_ne h.rl.1 h9 (by decide))
  have hb1 := h.lg.2.2.1.tch ht1 (fun g hg cs t fr hc => (hty1 g hg cs t fr hc).2)
  refine ⟨hS, ⟨ht2.block hL1 (blk_ne hL1 hr1 (by decide)), hS.an, hb1.tch ht2 hty2, h.lg.2.2.2⟩, ⟨ht2.block hH1 (blk_ne hH1 hr1 (by decide)), hS.rn, (h.rl.2.2.1.tch ht1 (fun g hg cs t fr hc => (hty1 g hg cs t fr hc).2)).tch ht2 hty2, h.rl.2.2.2⟩, h.xm, h.hL, h.hH⟩
end
/-- Both opened anew, good. -/
theorem DkS.lopened {W w k1 k2 : World} {D M R room : Nat} {l : List UInt8} {fuse : Nat} {fu : Int} (h : DkS W w D M room l fuse fu) {L G : Nat} {A : Option Addr} {c : Nat} {els : List El} {Ab : Option Addr} {cb : Nat} {xs : List Ee} {H G2 : Nat} {A2 : Option Addr} {c2 : Nat} {els2 : List El} {Ab2 : Option Addr} {cb2 : Nat} {xs2 : List Ee}
    (he : els.map (·.1) = (recS l).1) (hx : xs.map (·.1) = (foldB [] (recS l).1).1) (hl : LgAt k1 w.heap.size L G D ⟨R, kepB (foldB [] (recS l).1).1, room, l.take (recS l).2, decide (0 ≤ fu), fuse, false⟩ A c els Ab cb xs) (hL : w.heap.size ≤ L) (hG : w.heap.size ≤ G) (ht : Tch (fun g => g = D) w k1)
    (he2 : els2.map (·.1) = (recS l).1) (hx2 : xs2.map (·.1) = (foldB [] (recS l).1).1) (hr : RlAt W k2 k1.heap.size H G2 M R room (l.take (recS l).2) fu A2 c2 els2 false Ab2 cb2 xs2) (hH : k1.heap.size ≤ H) (hG2 : k1.heap.size ≤ G2) (ht2 : Tch (fun g => g = M) k1 k2) :
    LpS W k2 D M w.heap.size k1.heap.size L H G G2 R room (l.take (recS l).2) fuse fu A c els Ab cb xs A2 c2 els2 Ab2 cb2 xs2 false := by
  have hne := h.ne
  obtain ⟨A9, c9, h9, _⟩ := h.d.open
  have hr1 : RkAt k1 M room l fu := ht.block h.r hne.symm
  have hs := h.bel.size
  have hs1 := ht.size
  have hb1 := h.bel.trans (ht.below W.heap.size (fun g hg _ => hg ▸ h.hD) h.bel.size)
  have hb2 := hb1.trans (ht2.below W.heap.size (fun g hg _ => hg ▸ h.hM) hb1.size)
  have hle := recS_le l.length l (Nat.le_refl _)
  have hl2 := recS_len2 l
  obtain ⟨B9, d9, hd9, _⟩ := hl.2.1.2.1.open
  have hty2 : ∀ g, g = M → ∀ cs t fr, k1.heap[g]? = some (.cells cs t fr) → t ≠ 5 ∧ t ≠ 55 ∧ t ≠ 9 ∧ t ≠ 3 ∧ t ≠ 4 := by
    intro g hg cs t fr hc
    rw [rk_ty hr1 g hg cs t fr hc]
    decide
  have hlg := hl.tch ht2 (blk_ne hl.1 hr1 (by decide)) (blk_ne hl.2.1.1 hr1 (by decide)) hne (fun g hg h8 => own_apart_blk hl.2.1.2.2.1 hr1 (by decide) g hg h8) hty2
  rw [← hx] at hlg
  refine ⟨⟨hlg.2.1, hr.2.1, hb2, h.hD, h.hM, Nat.le_trans hs hG, Nat.le_trans hb1.size hG2, hs, hb1.size, Nat.le_trans ht.size ht2.size, ht2.size, fun g hg h8 => ?_, h.fs, by have := h.lr; rw [hl2]; omega, he.trans he2.symm, ?_, fun x hx9 => by
    rw [he] at hx9
    have := recS_ns l x hx9
    omega⟩, hlg, hr, hx.trans hx2.symm, Nat.le_trans hs hL, Nat.le_trans hb1.size hH⟩
  · have := (own_lt hl.2.1.2.2.1 g hg).2.1
    have := (own_lt hr.2.1.2.2.1 g h8).1
    omega
  · have h9 := congrArg List.length he
    rw [List.length_map] at h9
    rw [hl2]
    omega
/-- Both opened anew, and refused. -/
theorem DkS.lshort {W w k1 k2 : World} {D M room : Nat} {l : List UInt8} {fuse : Nat} {fu : Int} (h : DkS W w D M room l fuse fu)
    (hd : DiskAt k1 D room (l.take (recS l).2) (decide (0 ≤ fu)) fuse) (ht : Tch (fun g => g = D) w k1) (hr : RkAt k2 M room (l.take (recS l).2) fu) (ht2 : Tch (fun g => g = M) k1 k2) : DkS W k2 D M room (l.take (recS l).2) fuse fu := by
  have hne := h.ne
  have hr1 : RkAt k1 M room l fu := ht.block h.r hne.symm
  have hb1 := h.bel.trans (ht.below W.heap.size (fun g hg _ => hg ▸ h.hD) h.bel.size)
  have hb2 := hb1.trans (ht2.below W.heap.size (fun g hg _ => hg ▸ h.hM) hb1.size)
  have hl2 := recS_len2 l
  have hle := recS_le l.length l (Nat.le_refl _)
  refine ⟨hd.tch ht2 hne fun g hg cs h9 => ?_, hr, hb2, h.hD, h.hM, h.fs, by have := h.lr; rw [hl2]; omega⟩
  have := rk_ty hr1 g hg _ _ _ h9
  exact absurd this (by decide)
end Go.Proofs.YtkepfkfoblocgaaGreat
