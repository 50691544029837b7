/- port: which numbers are nodes; a new port. -/
import Derived.Test.YtdphdodjidbngaaGreatChecked
import Derived.Test.YtdphdodjidbngaaGreatGaP
import Derived.Maps.OwnSet
import Derived.Test.YtdphdodjidbngaaGreatLkQ
import Derived.Maps.Views
import Derived.Deep.RegionHeld3
import Derived.Deep.Cut
import Derived.Test.YtdphdodjidbngaaGreatQGt
namespace Go.Proofs.YtdphdodjidbngaaGreat
open Go.RowKit
set_option linter.unusedVariables false
set_option linter.unusedSimpArgs false

def nodeB (n : Int) : Bool := decide (0 ≤ n) && decide (n < 72)
theorem pnode_any (n : Int) (W : World) : Calls Tryz.prog 22 #[.int .i64 n] W fun e w' => e = .returned (.bool (nodeB n)) ∧ W = w' := by
  by_cases h0 : 0 ≤ n
  · by_cases h1 : n < 72
    · have HE : Hid (nodeB n = true) := hid (by simp [nodeB, h0, h1])
      go_enter Tryz.func22, Tryz.ntmps22
      go_wp2
      go_ret
      exact ⟨by rw [HE.out]; rfl, rfl⟩
    · have HE : Hid (nodeB n = false) := hid (by simp [nodeB, h1])
      go_enter Tryz.func22, Tryz.ntmps22
      go_wp2
      go_ret
      exact ⟨by rw [HE.out]; rfl, rfl⟩
  · have HE : Hid (nodeB n = false) := hid (by simp [nodeB, h0])
    go_enter Tryz.func22, Tryz.ntmps22
    go_wp2
    go_ret
    exact ⟨by rw [HE.out]; rfl, rfl⟩
set_option maxHeartbeats 2000000 in
theorem ptnew_any (n inc b : Int) (hn : nodeB n = true) (h1 : 1 ≤ inc) (h2 : inc ≤ 72057594037927935) (h3 : 1 ≤ b) (h4 : b ≤ 16) (W : World) :
    Calls Tryz.prog 5 #[.int .i64 n, .int .i64 inc, .int .i64 b] W fun e w' => ∃ gp gm, e = .returned (.pointer (some ⟨gp, 0, none⟩)) ∧ W.heap.size ≤ gp ∧ W.heap.size ≤ gm ∧ gm ≠ gp ∧
      w'.heap[gp]? = some (.cells #[.int .i64 n, .int .i64 inc, .int .i64 b, .map (some gm)] 60 (0, 0)) ∧ w'.heap[gm]? = some (.map #[] 0) ∧ Below W.heap.size W w' := by
  have HN := hid (fun u => pnode_any n u)
  rw [hn] at HN
  clear hn
  have hmm := @run_makeMap Tryz.prog
  go_enter Tryz.func5, Tryz.ntmps5
  go_wp2_with (go_at_call 22; refine (HN.out _).mono ?_; rintro e w' ⟨rfl, rfl⟩)
  go_ret
  have hs : (W.alloc (Obj.map #[] 0)).heap.size = W.heap.size + 1 := by simp
  refine ⟨W.heap.size + 1, W.heap.size, rfl, by omega, Nat.le_refl _, by omega, ?_, ?_, ((Below.refl _ _).alloc (Nat.le_refl _) _).alloc (by rw [hs]; omega) _⟩
  · rw [← hs]
    exact heap_alloc_new _ _
  · rw [heap_alloc_old _ _ (by rw [hs]; omega)]
    exact heap_alloc_new _ _
end Go.Proofs.YtdphdodjidbngaaGreat

namespace Go.Proofs.YtdphdodjidbngaaGreat
open Go.RowKit
open Go.Maps (Keyed)
set_option linter.unusedVariables false
set_option linter.unusedSimpArgs false

/-- An element reads as itself. -/
def valR : Value → Option (DataW Value × List MemPlace) := fun v => some (.held v, [])
theorem keyed_int : Keyed Tryz.prog 3 := Maps.int_keyed Tryz.underlying3
/-- A map from numbers to values. -/
def NMap (w : World) (g n : Nat) (D : DataW Value) : Prop := w.ownsMap Tryz.prog 3 valR g n D
theorem nmap_new (w : World) : NMap (w.alloc (.map #[] 0)) w.heap.size 0 (.map []) := World.ownsMap_made w _ _ _
theorem nmap_key {a : Int} (hw : (Lit.int .i64 a).wf = true) : keyOf Tryz.prog 3 (.int .i64 a) = some (.int .i64 a) := Maps.keyOf_int_mk Tryz.underlying3 hw
/-- Read: what stands there, or the zero value. -/
theorem nmap_look {w : World} {g n : Nat} {D : DataW Value} (h : NMap w g n D) {t e : TypeId} (ht : Tryz.prog.underlying t = some (.map 3 e)) {z : Value} (hz : (zeroValue e).run Tryz.prog w = .ok z w) {a : Int} (hw : (Lit.int .i64 a).wf = true) :
    ∃ v, (Instr.lookup t (.map (some g)) (.int .i64 a) false).run Tryz.prog w = .ok v w ∧ DataW.held v = D.atKey (.int .i64 a) (.held z) := by
  obtain ⟨v, ps, h1, h2⟩ := h.lookup keyed_int ht hz (zd := .held z) (zp := []) rfl (nmap_key hw)
  refine ⟨v, h1, ?_⟩
  unfold valR at h2
  rw [Option.some.injEq, Prod.mk.injEq] at h2
  exact h2.1
/-- Read, and told whether it stands there. -/
theorem nmap_ok {w : World} {g n : Nat} {D : DataW Value} (h : NMap w g n D) {t e : TypeId} (ht : Tryz.prog.underlying t = some (.map 3 e)) {z : Value} (hz : (zeroValue e).run Tryz.prog w = .ok z w) {a : Int} (hw : (Lit.int .i64 a).wf = true) :
    ∃ v, (Instr.lookup t (.map (some g)) (.int .i64 a) true).run Tryz.prog w = .ok (.tuple #[v, .bool (Maps.has D (.int .i64 a))]) w ∧ DataW.held v = D.atKey (.int .i64 a) (.held z) := by
  obtain ⟨v, ps, h1, h2⟩ := h.look_ok keyed_int ht hz (zd := .held z) (zp := []) rfl (nmap_key hw)
  refine ⟨v, h1, ?_⟩
  unfold valR at h2
  rw [Option.some.injEq, Prod.mk.injEq] at h2
  exact h2.1
theorem nmap_blk {w w' : World} {g n : Nat} {D : DataW Value} (h : NMap w g n D) (hb : w'.heap[g]? = w.heap[g]?) : NMap w' g n D := by
  obtain ⟨es, clock, h1, h2, h3, h4⟩ := h
  exact ⟨es, clock, hb.trans h1, h2, h3, h4⟩
/-- Written. -/
theorem nmap_put {w : World} {g n : Nat} {D : DataW Value} (h : NMap w g n D) (hn : n < maxLen) {t e : TypeId} (ht : Tryz.prog.underlying t = some (.map 3 e)) {a : Int} (hw : (Lit.int .i64 a).wf = true) (v : Value) :
    ∃ w', (Instr.mapUpdate t (.map (some g)) (.int .i64 a) v).run Tryz.prog w = .ok () w' ∧ NMap w' g (n + 1) (D.put (.int .i64 a) (.held v)) ∧ w.grownBy w' (some g) :=
  h.update keyed_int ht hn (nmap_key hw) rfl
end Go.Proofs.YtdphdodjidbngaaGreat

namespace Go.Proofs.YtdphdodjidbngaaGreat
open Go.RowKit Go.Sort
open Go.Maps (Keyed)
set_option linter.unusedVariables false
set_option linter.unusedSimpArgs false

/-- The end tn a node, which may be a new one. -/
def endP (nd inc : Int) (L : List Ev) (tn : Int) : Ev := (L.find? (fun e => e.t == tn)).getD (newE nd tn inc)
/-- An end is kept, in order. -/
def keepL (e : Ev) : List Ev → List Ev
  | [] => [e]
  | x :: l => if x.t < e.t then x :: keepL e l else if x.t = e.t then e :: l else e :: x :: l
theorem any_keep (e : Ev) (k : Int) : ∀ L : List Ev, (keepL e L).any (fun x => x.t == k) = (e.t == k || L.any (fun x => x.t == k))
  | [] => by simp [keepL]
  | x :: l => by
    unfold keepL
    split
    · rw [List.any_cons, any_keep e k l, List.any_cons]
      cases (x.t == k) <;> cases (e.t == k) <;> simp
    · split
      · rename_i h1 h2
        rw [List.any_cons, List.any_cons, h2]
        cases (e.t == k) <;> simp
      · rw [List.any_cons]
theorem mem_keep (e x : Ev) : ∀ L : List Ev, L.Pairwise (fun a b => a.t < b.t) → x ∈ keepL e L → x = e ∨ (x ∈ L ∧ x.t ≠ e.t)
  | [], _, h => by
    left
    simpa [keepL] using h
  | y :: l, hp, h => by
    have hp' := List.pairwise_cons.1 hp
    unfold keepL at h
    split at h
    · rcases List.mem_cons.1 h with rfl | h9
      · right
        exact ⟨List.mem_cons_self .., by omega⟩
      · rcases mem_keep e x l hp'.2 h9 with h8 | h8
        · exact .inl h8
        · exact .inr ⟨List.mem_cons_of_mem _ h8.1, h8.2⟩
    · split at h
      · rename_i h1 h2
        rcases List.mem_cons.1 h with h9 | h9
        · exact .inl h9
        · right
          have := hp'.1 x h9
          exact ⟨List.mem_cons_of_mem _ h9, by omega⟩
      · rename_i h1 h2
        rcases List.mem_cons.1 h with h9 | h9
        · exact .inl h9
        · right
          refine ⟨h9, ?_⟩
          rcases List.mem_cons.1 h9 with rfl | h7
          · exact h2
          · have := hp'.1 x h7
            omega
theorem sorted_keep (e : Ev) : ∀ L : List Ev, L.Pairwise (fun a b => a.t < b.t) → (keepL e L).Pairwise (fun a b => a.t < b.t)
  | [], _ => by simp [keepL]
  | y :: l, hp => by
    have hp' := List.pairwise_cons.1 hp
    unfold keepL
    split
    · rename_i h1
      refine List.pairwise_cons.2 ⟨fun x hx => ?_, sorted_keep e l hp'.2⟩
      rcases mem_keep e x l hp'.2 hx with rfl | h9
      · exact h1
      · exact hp'.1 x h9.1
    · split
      · rename_i h1 h2
        exact List.pairwise_cons.2 ⟨fun x hx => by have := hp'.1 x hx; omega, hp'.2⟩
      · rename_i h1 h2
        refine List.pairwise_cons.2 ⟨fun x hx => ?_, hp⟩
        rcases List.mem_cons.1 hx with rfl | h7
        · omega
        · have := hp'.1 x h7
          omega
theorem sorted_len : ∀ (L : List Ev) (lo : Int), L.Pairwise (fun a b => a.t < b.t) → (∀ e ∈ L, lo ≤ e.t ∧ e.t < 72) → lo ≤ 72 → (L.length : Int) ≤ 72 - lo
  | [], lo, _, _, h => by simp; omega
  | x :: l, lo, hp, hr, h => by
    have hp' := List.pairwise_cons.1 hp
    have h1 := hr x (List.mem_cons_self ..)
    have := sorted_len l (x.t + 1) hp'.2 (fun e he => ⟨by have := hp'.1 e he; omega, (hr e (List.mem_cons_of_mem _ he)).2⟩) (by omega)
    simp only [List.length_cons]
    omega
theorem len_keep (e : Ev) : ∀ L : List Ev, L.Pairwise (fun a b => a.t < b.t) → (keepL e L).length = if L.any (fun x => x.t == e.t) then L.length else L.length + 1
  | [], _ => by simp [keepL]
  | x :: l, hp => by
    have hp' := List.pairwise_cons.1 hp
    unfold keepL
    split
    · rename_i h1
      rw [List.length_cons, len_keep e l hp'.2, List.any_cons, show (x.t == e.t) = false by simp; omega]
      simp only [Bool.false_or, List.length_cons]
      split <;> rfl
    · split
      · rename_i h1 h2
        simp [h2]
      · rename_i h1 h2
        rw [List.any_cons, show (x.t == e.t) = false by simpa using h2]
        rw [show (l.any fun x => x.t == e.t) = false by
          rw [List.any_eq_false]
          intro z hz
          have := hp'.1 z hz
          simp; omega]
        simp
theorem find_keep (e : Ev) (tn : Int) : ∀ L : List Ev, L.Pairwise (fun a b => a.t < b.t) → (keepL e L).find? (fun x => x.t == tn) = if e.t = tn then some e else L.find? (fun x => x.t == tn)
  | [], _ => by
    by_cases h : e.t = tn <;> simp [keepL, h]
  | x :: l, hp => by
    have hp' := List.pairwise_cons.1 hp
    unfold keepL
    split
    · rename_i h1
      rw [List.find?_cons, List.find?_cons]
      by_cases h2 : x.t = tn
      · have : e.t ≠ tn := by omega
        simp [h2, this]
      · rw [show (x.t == tn) = false by simpa using h2]
        exact find_keep e tn l hp'.2
    · split
      · rename_i h1 h2
        rw [List.find?_cons, List.find?_cons, h2]
        by_cases h3 : e.t = tn
        · simp [h3]
        · rw [show (e.t == tn) = false by simpa using h3]
          simp [h3]
      · rename_i h1 h2
        rw [List.find?_cons]
        by_cases h3 : e.t = tn
        · simp [h3]
        · rw [show (e.t == tn) = false by simpa using h3]
          simp [h3]
theorem endP_t (nd inc : Int) (L : List Ev) (tn : Int) : (endP nd inc L tn).t = tn := by
  unfold endP
  cases h : L.find? (fun e => e.t == tn) with
  | none => rfl
  | some e => simpa using List.find?_some h
/-- The ends of a port as they stand in its map. -/
def PEnds (w : World) (g : Nat) (L : List Ev) : Prop :=
  L.Pairwise (fun a b => a.t < b.t) ∧ (∀ e ∈ L, 0 ≤ e.t ∧ e.t < 72) ∧ ∃ D, NMap w g 72 D ∧ Maps.size D = L.length ∧ (∀ k : Int, Maps.has D (.int .i64 k) = L.any (fun e => e.t == k)) ∧
    ∀ e ∈ L, ∃ A c, (∀ z, D.atKey (.int .i64 e.t) z = .held (.agg (ec e A c))) ∧ Sl w 1 A e.o.l.length c (scells e.o.l)
theorem NMap.tight {w : World} {g n m : Nat} {D : DataW Value} (h : NMap w g n D) (hm : Maps.size D ≤ m) : NMap w g m D := by
  obtain ⟨es, clock, h1, h2, h3, h4⟩ := h
  refine ⟨es, clock, h1, h2, ?_, h4⟩
  rw [h4, Maps.size_eq, length_read] at hm
  exact hm
/-- Rows of cells stay where a map is written. -/
theorem sl_map {w w' : World} {g size len cap : Nat} {A : Option Addr} {xs : List Value} {es : Array MapEntry} {clock : Nat} (h : Sl w size A len cap xs) (hg : w.heap[g]? = some (.map es clock)) (hk : ∀ b, b ≠ g → b < w.heap.size → w'.heap[b]? = w.heap[b]?) : Sl w' size A len cap xs := by
  obtain ⟨h1, h2, h3, h4⟩ := h
  refine ⟨h1, h2, h3, fun h0 => ?_⟩
  obtain ⟨b, off, rfl, hc⟩ := h4 h0
  refine ⟨b, off, rfl, fun i hi => ?_⟩
  have h9 := hc i hi
  rw [List.getElem?_eq_getElem hi] at h9 ⊢
  have hb : b ≠ g := by
    rintro rfl
    simp [World.cell?, hg] at h9
  rw [World.cell?_of_block (w := w) (a := ⟨b, off + i, none⟩) (hk b hb (lt_of_cell h9))]
  exact h9
theorem nmap_block {w : World} {g n : Nat} {D : DataW Value} (h : NMap w g n D) : ∃ es clock, w.heap[g]? = some (.map es clock) := by
  obtain ⟨es, clock, h1, _⟩ := h
  exact ⟨es, clock, h1⟩
theorem PEnds.block {w : World} {g : Nat} {L : List Ev} (h : PEnds w g L) : ∃ es clock, w.heap[g]? = some (.map es clock) := by
  obtain ⟨_, _, D, h1, _⟩ := h
  exact nmap_block h1
theorem PEnds.lt {w : World} {g : Nat} {L : List Ev} (h : PEnds w g L) : g < w.heap.size := by
  obtain ⟨es, clock, h1⟩ := h.block
  exact lt_of_block h1
/-- Nothing that was there turns. -/
theorem PEnds.below {w w' : World} {g : Nat} {L : List Ev} (h : PEnds w g L) (hb : Below w.heap.size w w') : PEnds w' g L := by
  have hlt := h.lt
  obtain ⟨h1, h2, D, h3, h4, h5, h6⟩ := h
  refine ⟨h1, h2, D, nmap_blk h3 (hb.block g hlt), h4, h5, fun e he => ?_⟩
  obtain ⟨A, c, h7, h8⟩ := h6 e he
  exact ⟨A, c, h7, h8.below hb⟩
/-- Another map is written. -/
theorem PEnds.other {w w' : World} {g g' : Nat} {L : List Ev} {es : Array MapEntry} {clock : Nat} (h : PEnds w g L) (ho : Only g' w w') (hg : w.heap[g']? = some (.map es clock)) (hne : g ≠ g') : PEnds w' g L := by
  have hlt := h.lt
  obtain ⟨h1, h2, D, h3, h4, h5, h6⟩ := h
  refine ⟨h1, h2, D, nmap_blk h3 (ho.keep g hne hlt), h4, h5, fun e he => ?_⟩
  obtain ⟨A, c, h7, h8⟩ := h6 e he
  exact ⟨A, c, h7, sl_map h8 hg ho.keep⟩
theorem only_grown {W w w' : World} {g : Nat} (h : Only g W w) (hw : w.grownBy w' (some g)) : Only g W w' :=
  h.trans ⟨hw.size, fun k hk hl => hw.block k hl (fun e => hk (Option.some.inj e)), fun base h1 h2 => (Below.refl base w).grown hw h2 fun k hk => by cases hk; exact h1⟩
/-- An end is written. -/
theorem pends_put {w : World} {g : Nat} {L : List Ev} (h : PEnds w g L) (e : Ev) (A : Option Addr) (c : Nat) (h0 : 0 ≤ e.t) (h1 : e.t < 72) (hs : Sl w 1 A e.o.l.length c (scells e.o.l)) {t el : TypeId} (ht : Tryz.prog.underlying t = some (.map 3 el)) :
    ∃ w', (Instr.mapUpdate t (.map (some g)) (.int .i64 e.t) (.agg (ec e A c))).run Tryz.prog w = .ok () w' ∧ PEnds w' g (keepL e L) ∧ Only g w w' := by
  obtain ⟨es, clock, hblk⟩ := h.block
  obtain ⟨g1, g2, D, g3, g4, g5, g6⟩ := h
  have hwf : (Lit.int .i64 e.t).wf = true := by simp [Lit.wf, IntKind.min, IntKind.max, IntKind.bits, IntKind.signed]; omega
  obtain ⟨w', hr, hm, hgr⟩ := nmap_put g3 (by unfold maxLen; omega) ht hwf (.agg (ec e A c))
  have ho : Only g w w' := only_grown (Only.refl g w) hgr
  have htd := World.ownsMap.tidy g3 keyed_int
  have hk : WideAt.IsKeyLit (Lit.int .i64 e.t) := trivial
  have hany : (L.any fun x => x.t == e.t) = Maps.has D (.int .i64 e.t) := (g5 e.t).symm
  have hsz : Maps.size (D.put (.int .i64 e.t) (.held (.agg (ec e A c)))) = (keepL e L).length := by
    rw [Maps.size_put htd, len_keep e L g1, hany, g4]
  have hpw := sorted_keep e L g1
  have hrg : ∀ x ∈ keepL e L, 0 ≤ x.t ∧ x.t < 72 := fun x hx => by
    rcases mem_keep e x L g1 hx with rfl | h9
    · exact ⟨h0, h1⟩
    · exact g2 x h9.1
  refine ⟨w', hr, ⟨hpw, hrg, _, hm.tight (by rw [hsz]; have := sorted_len _ 0 hpw hrg (by omega); omega), hsz, fun k => ?_, fun x hx => ?_⟩, ho⟩
  · rw [any_keep]
    by_cases hke : k = e.t
    · subst hke
      rw [Maps.has_put_same htd.isMap hk]
      simp
    · rw [Maps.has_put_other (by simpa using hke), g5 k, show (e.t == k) = false by simp; omega, Bool.false_or]
  · rcases mem_keep e x L g1 hx with rfl | ⟨h8, h9⟩
    · exact ⟨A, c, fun z => Maps.atKey_put_same htd.isMap hk _ _, sl_map hs hblk ho.keep⟩
    · obtain ⟨A', c', h7, h6⟩ := g6 x h8
      exact ⟨A', c', fun z => by rw [Maps.atKey_put_other (by simpa using h9)]; exact h7 z, sl_map h6 hblk ho.keep⟩
end Go.Proofs.YtdphdodjidbngaaGreat

namespace Go.Proofs.YtdphdodjidbngaaGreat
open Go.RowKit Go.Sort
set_option linter.unusedVariables false
set_option linter.unusedSimpArgs false

/-- A port in memory. -/
structure PortAt (w : World) (gp gm : Nat) (nd inc bd : Int) (L : List Ev) : Prop where
  blk : w.heap[gp]? = some (.cells #[.int .i64 nd, .int .i64 inc, .int .i64 bd, .map (some gm)] 60 (0, 0))
  ends : PEnds w gm L
theorem PortAt.ne {w : World} {gp gm : Nat} {nd inc bd : Int} {L : List Ev} (h : PortAt w gp gm nd inc bd L) : gp ≠ gm := by
  rintro rfl
  obtain ⟨es, clock, h1⟩ := h.ends.block
  have := h.blk
  rw [h1] at this
  cases this
theorem PortAt.below {w w' : World} {gp gm : Nat} {nd inc bd : Int} {L : List Ev} (h : PortAt w gp gm nd inc bd L) (hb : Below w.heap.size w w') : PortAt w' gp gm nd inc bd L :=
  ⟨(hb.block gp (lt_of_block h.blk)).trans h.blk, h.ends.below hb⟩
/-- Another port's map is written. -/
theorem PortAt.other {w w' : World} {gp gm gm' : Nat} {nd inc bd : Int} {L : List Ev} {es : Array MapEntry} {clock : Nat} (h : PortAt w gp gm nd inc bd L) (ho : Only gm' w w') (hg : w.heap[gm']? = some (.map es clock)) (hne : gm ≠ gm') : PortAt w' gp gm nd inc bd L := by
  refine ⟨(ho.keep gp ?_ (lt_of_block h.blk)).trans h.blk, h.ends.other ho hg hne⟩
  rintro rfl
  have := h.blk
  rw [hg] at this
  cases this
theorem PortAt.cells {w : World} {gp gm : Nat} {nd inc bd : Int} {L : List Ev} (h : PortAt w gp gm nd inc bd L) : w.cell? ⟨gp, 0, none⟩ = some (.int .i64 nd) ∧ w.cell? ⟨gp, 1, none⟩ = some (.int .i64 inc) ∧ w.cell? ⟨gp, 2, none⟩ = some (.int .i64 bd) ∧ w.cell? ⟨gp, 3, none⟩ = some (.map (some gm)) := by
  refine ⟨?_, ?_, ?_, ?_⟩
  · rw [cell_of_row w gp 0 _ _ _ h.blk]; rfl
  · rw [cell_of_row w gp 1 _ _ _ h.blk]; rfl
  · rw [cell_of_row w gp 2 _ _ _ h.blk]; rfl
  · rw [cell_of_row w gp 3 _ _ _ h.blk]; rfl

set_option maxRecDepth 20000 in
theorem zero_end (U : World) : (zeroValue 71).run Tryz.prog U = .ok (.agg ez) U := by rfl
set_option maxRecDepth 20000 in
theorem pends_yes {w : World} {g : Nat} {L : List Ev} (h : PEnds w g L) {k : Int} (h0 : 0 ≤ k) (h1 : k < 72) (ha : (L.any fun x => x.t == k) = true) :
    ∃ A c, (∀ U, Below w.heap.size w U → (Instr.lookup 58 (.map (some g)) (.int .i64 k) true).run Tryz.prog U = .ok (.tuple #[.agg (ec (endP 0 0 L k) A c), .bool true]) U) ∧
      (∀ U, Below w.heap.size w U → (Instr.lookup 58 (.map (some g)) (.int .i64 k) false).run Tryz.prog U = .ok (.agg (ec (endP 0 0 L k) A c)) U) ∧
      Sl w 1 A (endP 0 0 L k).o.l.length c (scells (endP 0 0 L k).o.l) ∧ (∀ nd inc, endP nd inc L k = endP 0 0 L k) ∧ endP 0 0 L k ∈ L := by
  have hlt := h.lt
  obtain ⟨g1, g2, D, g3, g4, g5, g6⟩ := h
  have hwf : (Lit.int .i64 k).wf = true := by simp [Lit.wf, IntKind.min, IntKind.max, IntKind.bits, IntKind.signed]; omega
  obtain ⟨e, he⟩ : ∃ e, L.find? (fun x => x.t == k) = some e := by
    cases hf : L.find? (fun x => x.t == k) with
    | some e => exact ⟨e, rfl⟩
    | none =>
      rw [List.find?_eq_none] at hf
      rw [List.any_eq_true] at ha
      obtain ⟨x, hx, hx2⟩ := ha
      exact absurd hx2 (hf x hx)
  have hm := List.mem_of_find?_eq_some he
  have ht : e.t = k := by simpa using List.find?_some he
  have hE : ∀ nd inc, endP nd inc L k = e := fun nd inc => by unfold endP; rw [he]; rfl
  obtain ⟨A, c, g7, g8⟩ := g6 e hm
  rw [ht] at g7
  refine ⟨A, c, fun U hU => ?_, fun U hU => ?_, by rw [hE]; exact g8, fun nd inc => by rw [hE, hE], by rw [hE]; exact hm⟩
  · obtain ⟨v, hv, hv2⟩ := nmap_ok (nmap_blk g3 (hU.block g hlt)) Tryz.underlying58 (zero_end U) hwf
    rw [g7] at hv2
    injection hv2 with hv2
    rw [hv, hv2, g5, ha, hE]
  · obtain ⟨v, hv, hv2⟩ := nmap_look (nmap_blk g3 (hU.block g hlt)) Tryz.underlying58 (zero_end U) hwf
    rw [g7] at hv2
    injection hv2 with hv2
    rw [hv, hv2, hE]
set_option maxRecDepth 20000 in
theorem pends_no {w : World} {g : Nat} {L : List Ev} (h : PEnds w g L) {k : Int} (h0 : -9223372036854775808 ≤ k) (h1 : k ≤ 9223372036854775807) (ha : (L.any fun x => x.t == k) = false) :
    (∀ U, Below w.heap.size w U → (Instr.lookup 58 (.map (some g)) (.int .i64 k) true).run Tryz.prog U = .ok (.tuple #[.agg ez, .bool false]) U) ∧
      (∀ U, Below w.heap.size w U → (Instr.lookup 58 (.map (some g)) (.int .i64 k) false).run Tryz.prog U = .ok (.agg ez) U) ∧ (∀ nd inc, endP nd inc L k = newE nd k inc) := by
  have hlt := h.lt
  obtain ⟨g1, g2, D, g3, g4, g5, g6⟩ := h
  have hwf : (Lit.int .i64 k).wf = true := by simp [Lit.wf, IntKind.min, IntKind.max, IntKind.bits, IntKind.signed]; omega
  have hn : L.find? (fun x => x.t == k) = none := by
    rw [List.find?_eq_none]
    intro x hx hx2
    rw [List.any_eq_false] at ha
    exact ha x hx hx2
  have hat := Maps.atKey_of_not_has ((g5 k).trans ha)
  refine ⟨fun U hU => ?_, fun U hU => ?_, fun nd inc => by unfold endP; rw [hn]; rfl⟩
  · obtain ⟨v, hv, hv2⟩ := nmap_ok (nmap_blk g3 (hU.block g hlt)) Tryz.underlying58 (zero_end U) hwf
    rw [hat] at hv2
    injection hv2 with hv2
    rw [hv, hv2, g5, ha]
  · obtain ⟨v, hv, hv2⟩ := nmap_look (nmap_blk g3 (hU.block g hlt)) Tryz.underlying58 (zero_end U) hwf
    rw [hat] at hv2
    injection hv2 with hv2
    rw [hv, hv2]
end Go.Proofs.YtdphdodjidbngaaGreat

namespace Go.Proofs.YtdphdodjidbngaaGreat
open Go.RowKit Go.Sort
set_option linter.unusedVariables false
set_option linter.unusedSimpArgs false

set_option maxRecDepth 20000 in
set_option maxHeartbeats 4000000 in
theorem pend_yes {P M : Nat} {nd inc bd : Int} {L : List Ev} (k : Int) (W : World) (h : PortAt W P M nd inc bd L) (h0 : 0 ≤ k) (h1 : k < 72) (ha : (L.any fun x => x.t == k) = true) :
    Calls Tryz.prog 24 #[.pointer (some ⟨P, 0, none⟩), .int .i64 k] W fun e w' => ∃ A c, e = .returned (.agg (ec (endP nd inc L k) A c)) ∧ Sl w' 1 A (endP nd inc L k).o.l.length c (scells (endP nd inc L k).o.l) ∧ Below W.heap.size W w' := by
  obtain ⟨A, c, hl1, -, hsl, hE, -⟩ := pends_yes h.ends h0 h1 ha
  rw [hE]
  obtain ⟨p0, p1, p2, p3⟩ := h.cells
  generalize endP 0 0 L k = e at *
  obtain ⟨f, t, i, ⟨p, q, l, wt, fl⟩, gm, gp, gl⟩ := e
  simp only [ec] at *
  have HL := hid hl1
  have HS := hid hsl
  clear hl1 hsl hE ha h h0 h1
  go_enter Tryz.func24, Tryz.ntmps24
  go_upto_region 1 with (fail)
  refine at_world (fun u => u.heap[W.heap.size]? = some (.cells ez 71 (0, 0)) ∧ Below W.heap.size W u) ⟨heap_alloc_new _ _, (Below.refl _ _).alloc (Nat.le_refl _) _⟩ ?_
  rintro w1 ⟨hz1, hb1⟩
  have hlk := HL.out w1 hb1
  have q3 := cellb hb1 p3
  have HZ := hid hz1
  have HB := hid hb1
  have hlt : W.heap.size ≠ w1.heap.size := by have := lt_of_block hz1; omega
  clear hz1 hb1 p0 p1 p2 p3
  go_upto_region 2 with (fail)
  refine at_world (fun u => u.heap[W.heap.size]? = some (.cells ez 71 (0, 0)) ∧ u.heap[w1.heap.size]? = some (.cells (ec ⟨f, t, i, ⟨p, q, l, wt, fl⟩, gm, gp, gl⟩ A c) 71 (0, 0)) ∧ Below W.heap.size W u) ⟨(heap_alloc_old _ _ (lt_of_block HZ.out)).trans HZ.out, heap_alloc_new _ _, HB.out.alloc HB.out.size _⟩ ?_
  rintro w2 ⟨hz2, hx2, hb2⟩
  have HB2 := hid hb2
  clear HB HZ HL hlk q3 hb2
  obtain ⟨_, ⟨g0, g1, g2, g3, g4, g5, g6, g7, g8, g9, g10⟩⟩ := eleven_cells hz2
  obtain ⟨⟨s0, s1, s2, s3, s4, s5, s6, s7, s8, s9, s10⟩, _⟩ := eleven_cells hx2
  obtain ⟨⟨r0, r1, r2, r3, r4, r5, r6, r7, r8, r9, r10⟩, _⟩ := eleven_cells (put11_heap hz2 (.int .i64 f) (.int .i64 t) (.int .i64 i) (.int .i64 p) (.int .i64 q) (.slice A l.length c) (.int .i64 wt) (.int .i64 fl) (.int .i64 gm) (.int .i64 gp) (.int .i64 gl))
  simp only [put11] at r0 r1 r2 r3 r4 r5 r6 r7 r8 r9 r10
  have hb9 := hid (put11_below HB2.out (Nat.le_refl W.heap.size) (.int .i64 f) (.int .i64 t) (.int .i64 i) (.int .i64 p) (.int .i64 q) (.slice A l.length c) (.int .i64 wt) (.int .i64 fl) (.int .i64 gm) (.int .i64 gp) (.int .i64 gl))
  clear hz2 hx2
  go_wp2
  exact bodyPost_ret (v := .agg #[.int .i64 f, .int .i64 t, .int .i64 i, .int .i64 p, .int .i64 q, .slice A l.length c, .int .i64 wt, .int .i64 fl, .int .i64 gm, .int .i64 gp, .int .i64 gl]) (by simp [results, Tryz.results24, go_sem, r0, r1, r2, r3, r4, r5, r6, r7, r8, r9, r10]) rfl ⟨A, c, rfl, HS.out.below hb9.out, hb9.out⟩

set_option maxRecDepth 20000 in
set_option maxHeartbeats 4000000 in
theorem pend_no {P M : Nat} {nd inc bd : Int} {L : List Ev} (k : Int) (W : World) (h : PortAt W P M nd inc bd L) (h0 : 0 ≤ k) (h1 : k < 72) (ha : (L.any fun x => x.t == k) = false) :
    Calls Tryz.prog 24 #[.pointer (some ⟨P, 0, none⟩), .int .i64 k] W fun e w' => ∃ A c, e = .returned (.agg (ec (endP nd inc L k) A c)) ∧ Sl w' 1 A (endP nd inc L k).o.l.length c (scells (endP nd inc L k).o.l) ∧ Below W.heap.size W w' := by
  obtain ⟨hl1, -, hE⟩ := pends_no h.ends (by omega) (by omega) ha
  rw [hE]
  obtain ⟨p0, p1, p2, p3⟩ := h.cells
  have hP := lt_of_block h.blk
  simp only [ez] at hl1
  have HL := hid hl1
  have HP0 := hid p0
  have HP1 := hid p1
  have HN := hid (fun w => lnew_any nd k inc w)
  simp only [newE, ec, List.length_nil] at HN ⊢
  clear hl1 hE ha h h0 h1
  go_enter Tryz.func24, Tryz.ntmps24
  go_upto_region 1 with (fail)
  refine at_world (fun u => u.heap[W.heap.size]? = some (.cells ez 71 (0, 0)) ∧ Below W.heap.size W u) ⟨heap_alloc_new _ _, (Below.refl _ _).alloc (Nat.le_refl _) _⟩ ?_
  rintro w1 ⟨hz1, hb1⟩
  have hlk := HL.out w1 hb1
  have q3 := cellb hb1 p3
  have HZ := hid hz1
  have HB := hid hb1
  have hlt : W.heap.size ≠ w1.heap.size := by have := lt_of_block hz1; omega
  clear hz1 hb1 p0 p1 p2 p3
  go_upto_region 2 with (fail)
  refine at_world (fun u => u.heap[W.heap.size]? = some (.cells ez 71 (0, 0)) ∧ Below W.heap.size W u) ⟨(heap_alloc_old _ _ (lt_of_block HZ.out)).trans HZ.out, HB.out.alloc HB.out.size _⟩ ?_
  clear HZ HL hlk q3 hlt
  rintro w2 ⟨hz2, hb2⟩
  clear HB
  go_upto_region 3 with (fail)
  generalize hX : W.heap.size = X at *
  have hS : ∀ U, Below X W U → (∃ x0 x1 x2 x3 x4 x5 x6 x7 x8 x9 x10, U.heap[X]? = some (.cells #[x0, x1, x2, x3, x4, x5, x6, x7, x8, x9, x10] 71 (0, 0))) → ((U.cell? ⟨P, 0, none⟩ = some (.int .i64 nd) ∧ U.cell? ⟨P, 1, none⟩ = some (.int .i64 inc)) ∧ (U.frozen? ⟨X, 0, none⟩ = false ∧ U.frozen? ⟨X, 1, none⟩ = false ∧ U.frozen? ⟨X, 2, none⟩ = false ∧ U.frozen? ⟨X, 3, none⟩ = false ∧ U.frozen? ⟨X, 4, none⟩ = false ∧ U.frozen? ⟨X, 5, none⟩ = false ∧ U.frozen? ⟨X, 6, none⟩ = false ∧ U.frozen? ⟨X, 7, none⟩ = false ∧ U.frozen? ⟨X, 8, none⟩ = false ∧ U.frozen? ⟨X, 9, none⟩ = false ∧ U.frozen? ⟨X, 10, none⟩ = false)) := fun U hU ⟨x0, x1, x2, x3, x4, x5, x6, x7, x8, x9, x10, hx⟩ => ⟨⟨(hU.cell hP).trans HP0.out, (hU.cell hP).trans HP1.out⟩, (eleven_cells hx).2⟩
  have hk0 : Below X W w2.drew := below_drew hb2
  have hz0 : w2.drew.heap[X]? = some (.cells ez 71 (0, 0)) := hz2
  refine wp_region_held_drew (S := fun U => ((U.cell? ⟨P, 0, none⟩ = some (.int .i64 nd) ∧ U.cell? ⟨P, 1, none⟩ = some (.int .i64 inc)) ∧ (U.frozen? ⟨X, 0, none⟩ = false ∧ U.frozen? ⟨X, 1, none⟩ = false ∧ U.frozen? ⟨X, 2, none⟩ = false ∧ U.frozen? ⟨X, 3, none⟩ = false ∧ U.frozen? ⟨X, 4, none⟩ = false ∧ U.frozen? ⟨X, 5, none⟩ = false ∧ U.frozen? ⟨X, 6, none⟩ = false ∧ U.frozen? ⟨X, 7, none⟩ = false ∧ U.frozen? ⟨X, 8, none⟩ = false ∧ U.frozen? ⟨X, 9, none⟩ = false ∧ U.frozen? ⟨X, 10, none⟩ = false))) (by kernel_rfl) (hS _ hk0 ⟨_, _, _, _, _, _, _, _, _, _, _, hz0⟩) (fun hHeld => ?_)
  generalize w2.drew = k0 at *
  refine tkA 0 ?_ rfl ?_ (by assumption) ?_; rotate_left; focus (intro U hU; (try dsimp only at hU); go_simp; try (with_reducible rfl))
  simp only [gt6, Act.put]
  refine tkA 1 ?_ rfl ?_ (by assumption) ?_; rotate_left; focus (intro U hU; (try dsimp only at hU); go_simp; try (with_reducible rfl))
  simp only [gt6, Act.put]
  refine tkA 2 ?_ rfl ?_ (by assumption) ?_; rotate_left; focus (intro U hU; (try dsimp only at hU); go_simp; try (with_reducible rfl))
  simp only [gt6, Act.put]
  refine tkA 3 ?_ rfl ?_ (by assumption) ?_; rotate_left; focus (intro U hU; (try dsimp only at hU); go_simp; try (with_reducible rfl))
  simp only [gt6, Act.put]
  refine tkA 4 ?_ rfl ?_ (by assumption) ?_; rotate_left; focus (intro U hU; (try dsimp only at hU); go_simp; try (with_reducible rfl))
  simp only [gt6, Act.put]
  refine tkA 5 ?_ rfl ?_ (by assumption) ?_; rotate_left; focus (intro U hU; (try dsimp only at hU); go_simp; try (with_reducible rfl))
  simp only [gt6, Act.put]
  refine tkA 6 ?_ rfl ?_ (by assumption) ?_; rotate_left; focus (intro U hU; (try dsimp only at hU); go_simp; try (with_reducible rfl))
  simp only [gt6, Act.put]
  refine tkA 7 ?_ rfl ?_ (by assumption) ?_; rotate_left; focus (intro U hU; (try dsimp only at hU); go_simp; try (with_reducible rfl))
  simp only [gt6, Act.put]
  refine tkA 8 ?_ rfl ?_ (by assumption) ?_; rotate_left; focus (intro U hU; (try dsimp only at hU); go_simp; try (with_reducible rfl))
  simp only [gt6, Act.put]
  refine wpAnyH_ready (rs := [9]) (by kernel_rfl) (by simp) ?_
  refine AllReadyH.cons rfl (fun K hK => ?_) AllReadyH.nil
  simp only [gt3]
  go_simp
  refine (HN.out k0).mono ?_
  rintro q k1 ⟨rfl, hb3⟩
  have hk1 := hk0.trans (hb3.mono (by have := hk0.size; omega))
  have hz1 := keep0 hz0 hb3
  obtain ⟨⟨c0, c1, c2, c3, c4, c5, c6, c7, c8, c9, c10⟩, ⟨g0, g1, g2, g3, g4, g5, g6, g7, g8, g9, g10⟩⟩ := eleven_cells hz1
  clear hb3
  go_wp2_with fail
  refine hK.out _ _ ?_ (fun hHeld2 => ?_)
  focus
    exact hS _ hk1 ⟨_, _, _, _, _, _, _, _, _, _, _, hz1⟩
  clear hHeld
  have hHeld := hHeld2
  clear hHeld2 hK K
  try simp only [gt6, Act.put]
  refine wpAnyH_ready (rs := [10]) (by kernel_rfl) (by simp) ?_
  refine AllReadyH.cons rfl (fun K hK => ?_) AllReadyH.nil
  simp only [gt3]
  go_simp
  refine hK.out _ _ ?_ (fun hHeld2 => ?_)
  focus
    exact hS _ (put11_below hk1 (Nat.le_refl X) (.int .i64 nd) (.int .i64 k) (.int .i64 inc) (.int .i64 1) (.int .i64 1) (.slice none 0 0) (.int .i64 1) (.int .i64 0) (.int .i64 inc) (.int .i64 1) (.int .i64 0)) ⟨_, _, _, _, _, _, _, _, _, _, _, put11_heap hz1 (.int .i64 nd) (.int .i64 k) (.int .i64 inc) (.int .i64 1) (.int .i64 1) (.slice none 0 0) (.int .i64 1) (.int .i64 0) (.int .i64 inc) (.int .i64 1) (.int .i64 0)⟩
  clear hHeld
  have hHeld := hHeld2
  clear hHeld2 hK K
  try simp only [gt6, Act.put]
  refine wpAnyH_done (by kernel_rfl) ?_ _
  obtain ⟨⟨r0, r1, r2, r3, r4, r5, r6, r7, r8, r9, r10⟩, _⟩ := eleven_cells (put11_heap hz1 (.int .i64 nd) (.int .i64 k) (.int .i64 inc) (.int .i64 1) (.int .i64 1) (.slice none 0 0) (.int .i64 1) (.int .i64 0) (.int .i64 inc) (.int .i64 1) (.int .i64 0))
  simp only [put11] at r0 r1 r2 r3 r4 r5 r6 r7 r8 r9 r10
  clear hHeld c0 c1 c2 c3 c4 c5 c6 c7 c8 c9 c10 g0 g1 g2 g3 g4 g5 g6 g7 g8 g9 g10
  have hb9 := hid (put11_below hk1 (Nat.le_refl X) (.int .i64 nd) (.int .i64 k) (.int .i64 inc) (.int .i64 1) (.int .i64 1) (.slice none 0 0) (.int .i64 1) (.int .i64 0) (.int .i64 inc) (.int .i64 1) (.int .i64 0))
  clear hz1 hk1 hz0 hk0 hz2 hb2 hS
  go_wp2
  exact bodyPost_ret (v := .agg #[.int .i64 nd, .int .i64 k, .int .i64 inc, .int .i64 1, .int .i64 1, .slice none 0 0, .int .i64 1, .int .i64 0, .int .i64 inc, .int .i64 1, .int .i64 0]) (by simp [results, Tryz.results24, go_sem, r0, r1, r2, r3, r4, r5, r6, r7, r8, r9, r10]) rfl ⟨none, 0, rfl, sl_nil0 _, by rw [hX]; exact hb9.out⟩
theorem pend_any {P M : Nat} {nd inc bd : Int} {L : List Ev} (k : Int) (W : World) (h : PortAt W P M nd inc bd L) (h0 : 0 ≤ k) (h1 : k < 72) :
    Calls Tryz.prog 24 #[.pointer (some ⟨P, 0, none⟩), .int .i64 k] W fun e w' => ∃ A c, e = .returned (.agg (ec (endP nd inc L k) A c)) ∧ Sl w' 1 A (endP nd inc L k).o.l.length c (scells (endP nd inc L k).o.l) ∧ Below W.heap.size W w' := by
  cases ha : (L.any fun x => x.t == k) with
  | true => exact pend_yes k W h h0 h1 ha
  | false => exact pend_no k W h h0 h1 ha
end Go.Proofs.YtdphdodjidbngaaGreat

namespace Go.Proofs.YtdphdodjidbngaaGreat
open Go.RowKit Go.Sort
set_option linter.unusedVariables false
set_option linter.unusedSimpArgs false

theorem nmap_uniq {w : World} {g n m : Nat} {D D' : DataW Value} (h : NMap w g n D) (h' : NMap w g m D') : D = D' := by
  obtain ⟨es, clock, h1, _, _, h2⟩ := h
  obtain ⟨es', clock', h1', _, _, h2'⟩ := h'
  rw [h1] at h1'
  injection h1' with h1'
  injection h1' with h3 h4
  subst h3
  rw [h2, h2']
/-- No row of an end lies in the block gg. -/
def PFar (w : World) (g : Nat) (L : List Ev) (gg : Nat) : Prop :=
  ∃ D, NMap w g 72 D ∧ ∀ e ∈ L, ∃ A c, (∀ z, D.atKey (.int .i64 e.t) z = .held (.agg (ec e A c))) ∧ (0 < e.o.l.length → ∀ b off, A = some ⟨b, off, none⟩ → b ≠ gg)
theorem PFar.blk {w w' : World} {g gg : Nat} {L : List Ev} (h : PFar w g L gg) (hb : w'.heap[g]? = w.heap[g]?) : PFar w' g L gg := by
  obtain ⟨D, h1, h2⟩ := h
  exact ⟨D, nmap_blk h1 hb, h2⟩
theorem PEnds.far {w : World} {g gg : Nat} {L : List Ev} (h : PEnds w g L) (hg : w.heap.size ≤ gg) : PFar w g L gg := by
  obtain ⟨_, _, D, h3, _, _, h6⟩ := h
  refine ⟨D, h3, fun e he => ?_⟩
  obtain ⟨A, c, h7, h8⟩ := h6 e he
  refine ⟨A, c, h7, fun h0 b off hA => ?_⟩
  obtain ⟨b', off', hA', hc⟩ := h8.2.2.2 (by rw [scells_length]; exact h0)
  rw [hA] at hA'
  cases hA'
  have h9 := hc 0 (by rw [scells_length]; exact h0)
  rw [List.getElem?_eq_getElem (by rw [scells_length]; exact h0)] at h9
  have := lt_of_cell h9
  show b ≠ gg
  simp only at this
  omega
theorem pfar_put {w w' : World} {g gg : Nat} {L : List Ev} (h : PEnds w g L) (hf : PFar w g L gg) (e : Ev) (A : Option Addr) (c : Nat) (h0 : 0 ≤ e.t) (h1 : e.t < 72) (hs : Sl w 1 A e.o.l.length c (scells e.o.l)) {t el : TypeId} (ht : Tryz.prog.underlying t = some (.map 3 el))
    (hr : (Instr.mapUpdate t (.map (some g)) (.int .i64 e.t) (.agg (ec e A c))).run Tryz.prog w = .ok () w') (hA : 0 < e.o.l.length → ∀ b off, A = some ⟨b, off, none⟩ → b ≠ gg) : PFar w' g (keepL e L) gg := by
  obtain ⟨w2, hr2, hE, _⟩ := pends_put h e A c h0 h1 hs ht
  rw [hr] at hr2
  obtain rfl : w' = w2 := by simpa using hr2
  obtain ⟨g1, g2, D, g3, g4, g5, g6⟩ := h
  obtain ⟨D', f1, f2⟩ := hf
  obtain rfl := nmap_uniq g3 f1
  obtain ⟨_, _, D2, e3, _, _, e6⟩ := hE
  have hwf : (Lit.int .i64 e.t).wf = true := by simp [Lit.wf, IntKind.min, IntKind.max, IntKind.bits, IntKind.signed]; omega
  obtain ⟨w3, hr3, hm, _⟩ := nmap_put g3 (by unfold maxLen; omega) ht hwf (.agg (ec e A c))
  rw [hr] at hr3
  obtain rfl : w' = w3 := by simpa using hr3
  obtain rfl := nmap_uniq hm e3
  have htd := World.ownsMap.tidy g3 keyed_int
  have hk : WideAt.IsKeyLit (Lit.int .i64 e.t) := trivial
  refine ⟨_, e3, fun x hx => ?_⟩
  rcases mem_keep e x L g1 hx with rfl | ⟨h8, h9⟩
  · exact ⟨A, c, fun z => Maps.atKey_put_same htd.isMap hk _ _, hA⟩
  · obtain ⟨A', c', h7, h6⟩ := f2 x h8
    exact ⟨A', c', fun z => by rw [Maps.atKey_put_other (by simpa using h9)]; exact h7 z, h6⟩
/-- An append onto a row of texts that lies apart. -/
theorem PortAt.tch {w w' : World} {P M base n : Nat} {nd inc bd : Int} {L : List Ev} {v : Value} {xs : List Value} (h : PortAt w P M nd inc bd L) (hv : w.ownsRow base 9 1 v n xs) (hf : ∀ gg, v.ownBlock = some gg → PFar w M L gg) (ht : Tch (fun g => v.ownBlock = some g) w w') : PortAt w' P M nd inc bd L := by
  have hP : v.ownBlock ≠ some P := fun e => own_apart_blk hv h.blk (by decide) P e rfl
  obtain ⟨es, clock, hm⟩ := h.ends.block
  have hM : v.ownBlock ≠ some M := fun e => by
    obtain ⟨_, _, cur, h9⟩ := own_lt hv M e
    rw [hm] at h9
    cases h9
  have hMM : w'.heap[M]? = w.heap[M]? := ht.keep M hM (lt_of_block hm)
  refine ⟨ht.block h.blk hP, ?_⟩
  obtain ⟨g1, g2, D, g3, g4, g5, g6⟩ := h.ends
  refine ⟨g1, g2, D, nmap_blk g3 hMM, g4, g5, fun e he => ?_⟩
  obtain ⟨A, c, h7, h8⟩ := g6 e he
  refine ⟨A, c, h7, ?_⟩
  obtain ⟨s1, s2, s3, s4⟩ := h8
  refine ⟨s1, s2, s3, fun h0 => ?_⟩
  obtain ⟨b, off, hA, hc⟩ := s4 h0
  refine ⟨b, off, hA, fun i hi => ?_⟩
  have h9 := hc i hi
  rw [List.getElem?_eq_getElem hi] at h9
  have hb : v.ownBlock ≠ some b := by
    intro e1
    obtain ⟨D', f1, f2⟩ := hf b e1
    obtain rfl := nmap_uniq g3 f1
    obtain ⟨A', c', h7', h8'⟩ := f2 e he
    have h10 := (h7 (.held (.bool true))).symm.trans (h7' _)
    have hAA : A = A' := by
      simp only [DataW.held.injEq, Value.agg.injEq, ec] at h10
      simp at h10
      exact h10.1
    rw [scells_length] at h0
    exact h8' h0 b off (hAA ▸ hA) rfl
  rw [World.cell?_of_block (w := w) (a := ⟨b, off + i, none⟩) (ht.keep b hb (lt_of_cell h9)), List.getElem?_eq_getElem hi]
  exact h9
end Go.Proofs.YtdphdodjidbngaaGreat

