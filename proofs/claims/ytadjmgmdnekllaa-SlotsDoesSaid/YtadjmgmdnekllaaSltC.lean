/- slots: Free, Ask, None: contracts. -/
import Derived.Test.YtadjmgmdnekllaaSltB
import Derived.Test.YtadjmgmdnekllaaQueE
namespace Go.Proofs.Ytadjmgmdnekllaa
open Go.RowKit Go.Sort
set_option linter.unusedVariables false
set_option linter.unusedSimpArgs false

def freeV (s : Sv) : Int := if s.n ≤ ((s.a.length + s.r.length : Nat) : Int) then 0 else s.n - ((s.a.length + s.r.length : Nat) : Int)
/-- Numbers within the machine's. -/
def OkV (s : Sv) : Prop := s.n ≤ 9223372036854775807 ∧ s.a.length ≤ 1000 ∧ s.o.length ≤ 1000 ∧ s.r.length ≤ 1000
def SB (W u : World) (N Z : Nat) (s : Sv) (A O R : Option Addr) (ca co cr : Nat) : Prop :=
  u.heap[N]? = some (.cells (svv s A O R ca co cr) 116 (0, 0)) ∧ u.heap[Z]? = some (.cells #[.int .i64 0, .slice none 0 0, .slice none 0 0, .slice none 0 0] 116 (0, 0)) ∧ OwnV u W.heap.size s A O R ca co cr ∧ Below W.heap.size W u
theorem SB.of {W u : World} {N Z : Nat} {s : Sv} {A O R : Option Addr} {ca co cr : Nat} {x0 x1 x2 x3 : Value} (hx : u.heap[N]? = some (.cells #[x0, x1, x2, x3] 116 (0, 0))) (hz : u.heap[Z]? = some (.cells #[.int .i64 0, .slice none 0 0, .slice none 0 0, .slice none 0 0] 116 (0, 0))) (hne : Z ≠ N) (ho : OwnV u W.heap.size s A O R ca co cr) (hb : Below W.heap.size W u) (hN : W.heap.size ≤ N) :
    SB W (put4 u N (.int .i64 s.n) (.slice A s.a.length ca) (.slice O s.o.length co) (.slice R s.r.length cr)) N Z s A O R ca co cr := ⟨put4_heap hx _ _ _ _, (put4_other hne _ _ _ _).trans hz, ho.put hx _ _ _ _, put4_below hb hN _ _ _ _⟩
theorem SB.keep {W u w : World} {N Z : Nat} {s : Sv} {A O R : Option Addr} {ca co cr : Nat} (h : SB W u N Z s A O R ca co cr) (hb : Below u.heap.size u w) : SB W w N Z s A O R ca co cr := ⟨keep0 h.1 hb, keep0 h.2.1 hb, h.2.2.1.keep hb, h.2.2.2.trans (hb.mono h.2.2.2.size)⟩
/-- The copy in the result. -/
theorem SB.ret {W u : World} {N Z : Nat} {s : Sv} {A O R : Option Addr} {ca co cr : Nat} (h : SB W u N Z s A O R ca co cr) (hZ : W.heap.size ≤ Z) : OwnV (put4 u Z (.int .i64 s.n) (.slice A s.a.length ca) (.slice O s.o.length co) (.slice R s.r.length cr)) W.heap.size s A O R ca co cr ∧ Below W.heap.size W (put4 u Z (.int .i64 s.n) (.slice A s.a.length ca) (.slice O s.o.length co) (.slice R s.r.length cr)) := ⟨h.2.2.1.put h.2.1 _ _ _ _, put4_below h.2.2.2 hZ _ _ _ _⟩
theorem heap3 (W : World) (o1 o2 o3 : Obj) : (((W.alloc o1).alloc o2).alloc o3).heap[W.heap.size]? = some o1 ∧ (((W.alloc o1).alloc o2).alloc o3).heap[W.heap.size + 1]? = some o2 ∧ (((W.alloc o1).alloc o2).alloc o3).heap[W.heap.size + 2]? = some o3 ∧ Below W.heap.size W (((W.alloc o1).alloc o2).alloc o3) := by
  have h3 := heap_alloc_new ((W.alloc o1).alloc o2) o3
  refine ⟨?_, ?_, by simpa using h3, (below2 W o1 o2).alloc (by simp; omega) _⟩
  · rw [Below.heap_alloc _ _ _ (by simp; omega)]; exact heap_first W o1 o2
  · rw [Below.heap_alloc _ _ _ (by simp)]; exact heap_second W o1 o2

/-- Slots of the call's own, no word of how the rows lie to each other. -/
def OwnW (w : World) (B : Nat) (s : Sv) (A O R : Option Addr) (ca co cr : Nat) : Prop :=
  w.ownsRow B 91 2 (.slice A s.a.length ca) s.a.length (pcells s.a) ∧ w.ownsRow B 119 2 (.slice O s.o.length co) s.o.length (pcells s.o) ∧ w.ownsRow B 119 2 (.slice R s.r.length cr) s.r.length (pcells s.r)
theorem OwnV.w {w : World} {B : Nat} {s : Sv} {A O R : Option Addr} {ca co cr : Nat} (h : OwnV w B s A O R ca co cr) : OwnW w B s A O R ca co cr := ⟨h.1, h.2.1, h.2.2.1⟩
theorem OwnW.inV {w : World} {B : Nat} {s : Sv} {A O R : Option Addr} {ca co cr : Nat} (h : OwnW w B s A O R ca co cr) : InV w s A O R ca co cr := ⟨sl_own h.1, sl_own h.2.1, sl_own h.2.2⟩
theorem OwnW.keep {w w' : World} {B : Nat} {s : Sv} {A O R : Option Addr} {ca co cr : Nat} (h : OwnW w B s A O R ca co cr) (hb : Below w.heap.size w w') : OwnW w' B s A O R ca co cr := ⟨own_keep h.1 hb, own_keep h.2.1 hb, own_keep h.2.2 hb⟩
theorem OwnW.same {w w' : World} {b B : Nat} {s : Sv} {A O R : Option Addr} {ca co cr : Nat} {cs : Array Value} (h : OwnW w B s A O R ca co cr) (hb : w.heap[b]? = some (.cells cs 116 (0, 0))) (hk : ∀ g, g ≠ b → w'.heap[g]? = w.heap[g]?) : OwnW w' B s A O R ca co cr :=
  ⟨own_same h.1 hb (by decide) hk, own_same h.2.1 hb (by decide) hk, own_same h.2.2 hb (by decide) hk⟩
def TB (W u : World) (N Z : Nat) (s : Sv) (A O R : Option Addr) (ca co cr : Nat) : Prop :=
  u.heap[N]? = some (.cells (svv s A O R ca co cr) 116 (0, 0)) ∧ u.heap[Z]? = some (.cells #[.int .i64 0, .slice none 0 0, .slice none 0 0, .slice none 0 0] 116 (0, 0)) ∧ OwnW u W.heap.size s A O R ca co cr ∧ Below W.heap.size W u
theorem SB.t {W u : World} {N Z : Nat} {s : Sv} {A O R : Option Addr} {ca co cr : Nat} (h : SB W u N Z s A O R ca co cr) : TB W u N Z s A O R ca co cr := ⟨h.1, h.2.1, h.2.2.1.w, h.2.2.2⟩
theorem TB.keep {W u w : World} {N Z : Nat} {s : Sv} {A O R : Option Addr} {ca co cr : Nat} (h : TB W u N Z s A O R ca co cr) (hb : Below u.heap.size u w) : TB W w N Z s A O R ca co cr := ⟨keep0 h.1 hb, keep0 h.2.1 hb, h.2.2.1.keep hb, h.2.2.2.trans (hb.mono h.2.2.2.size)⟩
/-- The copy in the result. -/
theorem TB.ret {W u : World} {N Z : Nat} {s : Sv} {A O R : Option Addr} {ca co cr : Nat} (h : TB W u N Z s A O R ca co cr) (hZ : W.heap.size ≤ Z) : OwnW (put4 u Z (.int .i64 s.n) (.slice A s.a.length ca) (.slice O s.o.length co) (.slice R s.r.length cr)) W.heap.size s A O R ca co cr ∧ Below W.heap.size W (put4 u Z (.int .i64 s.n) (.slice A s.a.length ca) (.slice O s.o.length co) (.slice R s.r.length cr)) := ⟨h.2.2.1.same h.2.1 fun g hg => put4_other hg _ _ _ _, put4_below h.2.2.2 hZ _ _ _ _⟩
theorem own_apart {w : World} {B e e' s s' n m : Nat} {v v' : Value} {xs ys : List Value} (hne : e ≠ e') (h : w.ownsRow B e s v n xs) (h' : w.ownsRow B e' s' v' m ys) (g : Nat) (hg' : v'.ownBlock = some g) (hg : v.ownBlock = some g) : False := by
  rcases h'.2 with ⟨h1, _⟩ | ⟨g', cap, cur, h3, _, h5, _⟩
  · rw [h1] at hg'; simp [Value.ownBlock] at hg'
  · have : g' = g := by rw [h3] at hg'; simpa [Value.ownBlock] using hg'
    subst this
    exact own_blk_ne h h5 hne hg
theorem SB.pushA {W w w6 : World} {N Z : Nat} {n j x : Int} {a o r : List (Int × Int)} {A O R : Option Addr} {ca co cr : Nat} {v' : Value} (h : SB W w N Z ⟨n, a, o, r⟩ A O R ca co cr) (hN : W.heap.size ≤ N) (hZ : W.heap.size ≤ Z) (hne : Z ≠ N)
    (h2 : w6.ownsRow W.heap.size 91 2 v' (a.length + 1) (pcells a ++ [.int .i64 j, .int .i64 x])) (h3 : Below W.heap.size W w6) (h5 : ∀ g, W.heap.size ≤ g → g < w.heap.size → (Value.slice A a.length ca).ownBlock ≠ some g → w6.heap[g]? = w.heap[g]?) :
    w6.heap[N]? = w.heap[N]? ∧ ∃ B' c', v' = .slice B' (a.length + 1) c' ∧ TB W (w6.setCell ⟨N, 1, none⟩ (.slice B' (a.length + 1) c')) N Z ⟨n, a ++ [(j, x)], o, r⟩ B' O R c' co cr := by
  obtain ⟨B', c', rfl, _⟩ := Sl.of_own h2
  have h9 : w.ownsRow W.heap.size 91 2 (.slice A a.length ca) a.length (pcells a) := h.2.2.1.1
  have kN : w6.heap[N]? = w.heap[N]? := h5 N hN (lt_of_block h.1) (own_blk_ne h9 h.1 (by decide))
  have kZ : w6.heap[Z]? = w.heap[Z]? := h5 Z hZ (lt_of_block h.2.1) (own_blk_ne h9 h.2.1 (by decide))
  have hN6 := kN.trans h.1
  have k2 : ∀ {v : Value} {e2 : Nat} {m : Nat} {ys : List Value} (sz : Nat), w.ownsRow W.heap.size e2 sz v m ys → (∀ g, v.ownBlock = some g → (Value.slice A a.length ca).ownBlock = some g → False) → w6.ownsRow W.heap.size e2 sz v m ys := fun {v e2 m ys} sz k hd => by
    refine ⟨k.1, ?_⟩
    rcases k.2 with k2 | ⟨g, cap, cur, k3, k4, k5, k6⟩
    · exact .inl k2
    · exact .inr ⟨g, cap, cur, k3, k4, (h5 g k4 (lt_of_block k5) (fun hv => hd g (by rw [k3]; rfl) hv)).trans k5, k6⟩
  have hw : OwnW w6 W.heap.size ⟨n, a ++ [(j, x)], o, r⟩ B' O R c' co cr := ⟨by rw [List.length_append, pcells_append]; exact h2, (k2 _ h.2.2.1.2.1 (own_apart (by decide) h9 h.2.2.1.2.1)), (k2 _ h.2.2.1.2.2.1 (own_apart (by decide) h9 h.2.2.1.2.2.1))⟩
  refine ⟨kN, B', c', rfl, ?_, (Below.heap_setCell _ _ _ _ hne).trans (kZ.trans h.2.1), hw.same hN6 fun g hg => Below.heap_setCell _ _ _ _ hg, h3.setCell hN _⟩
  have e1 := heap_setCell_same w6 N 1 _ _ (.slice B' (a.length + 1) c') hN6
  rw [e1]
  simp [svv]
theorem SB.pushO {W w w6 : World} {N Z : Nat} {n j x : Int} {a o r : List (Int × Int)} {A O R : Option Addr} {ca co cr : Nat} {v' : Value} (h : SB W w N Z ⟨n, a, o, r⟩ A O R ca co cr) (hN : W.heap.size ≤ N) (hZ : W.heap.size ≤ Z) (hne : Z ≠ N)
    (h2 : w6.ownsRow W.heap.size 119 2 v' (o.length + 1) (pcells o ++ [.int .i64 j, .int .i64 x])) (h3 : Below W.heap.size W w6) (h5 : ∀ g, W.heap.size ≤ g → g < w.heap.size → (Value.slice O o.length co).ownBlock ≠ some g → w6.heap[g]? = w.heap[g]?) :
    w6.heap[N]? = w.heap[N]? ∧ ∃ B' c', v' = .slice B' (o.length + 1) c' ∧ TB W (w6.setCell ⟨N, 2, none⟩ (.slice B' (o.length + 1) c')) N Z ⟨n, a, o ++ [(j, x)], r⟩ A B' R ca c' cr := by
  obtain ⟨B', c', rfl, _⟩ := Sl.of_own h2
  have h9 : w.ownsRow W.heap.size 119 2 (.slice O o.length co) o.length (pcells o) := h.2.2.1.2.1
  have kN : w6.heap[N]? = w.heap[N]? := h5 N hN (lt_of_block h.1) (own_blk_ne h9 h.1 (by decide))
  have kZ : w6.heap[Z]? = w.heap[Z]? := h5 Z hZ (lt_of_block h.2.1) (own_blk_ne h9 h.2.1 (by decide))
  have hN6 := kN.trans h.1
  have k2 : ∀ {v : Value} {e2 : Nat} {m : Nat} {ys : List Value} (sz : Nat), w.ownsRow W.heap.size e2 sz v m ys → (∀ g, v.ownBlock = some g → (Value.slice O o.length co).ownBlock = some g → False) → w6.ownsRow W.heap.size e2 sz v m ys := fun {v e2 m ys} sz k hd => by
    refine ⟨k.1, ?_⟩
    rcases k.2 with k2 | ⟨g, cap, cur, k3, k4, k5, k6⟩
    · exact .inl k2
    · exact .inr ⟨g, cap, cur, k3, k4, (h5 g k4 (lt_of_block k5) (fun hv => hd g (by rw [k3]; rfl) hv)).trans k5, k6⟩
  have hw : OwnW w6 W.heap.size ⟨n, a, o ++ [(j, x)], r⟩ A B' R ca c' cr := ⟨(k2 _ h.2.2.1.1 (own_apart (by decide) h9 h.2.2.1.1)), by rw [List.length_append, pcells_append]; exact h2, (k2 _ h.2.2.1.2.2.1 (fun g hg hv => h.2.2.1.2.2.2 g hv hg))⟩
  refine ⟨kN, B', c', rfl, ?_, (Below.heap_setCell _ _ _ _ hne).trans (kZ.trans h.2.1), hw.same hN6 fun g hg => Below.heap_setCell _ _ _ _ hg, h3.setCell hN _⟩
  have e1 := heap_setCell_same w6 N 2 _ _ (.slice B' (o.length + 1) c') hN6
  rw [e1]
  simp [svv]
theorem SB.pushR {W w w6 : World} {N Z : Nat} {n j x : Int} {a o r : List (Int × Int)} {A O R : Option Addr} {ca co cr : Nat} {v' : Value} (h : SB W w N Z ⟨n, a, o, r⟩ A O R ca co cr) (hN : W.heap.size ≤ N) (hZ : W.heap.size ≤ Z) (hne : Z ≠ N)
    (h2 : w6.ownsRow W.heap.size 119 2 v' (r.length + 1) (pcells r ++ [.int .i64 j, .int .i64 x])) (h3 : Below W.heap.size W w6) (h5 : ∀ g, W.heap.size ≤ g → g < w.heap.size → (Value.slice R r.length cr).ownBlock ≠ some g → w6.heap[g]? = w.heap[g]?) :
    w6.heap[N]? = w.heap[N]? ∧ ∃ B' c', v' = .slice B' (r.length + 1) c' ∧ TB W (w6.setCell ⟨N, 3, none⟩ (.slice B' (r.length + 1) c')) N Z ⟨n, a, o, r ++ [(j, x)]⟩ A O B' ca co c' := by
  obtain ⟨B', c', rfl, _⟩ := Sl.of_own h2
  have h9 : w.ownsRow W.heap.size 119 2 (.slice R r.length cr) r.length (pcells r) := h.2.2.1.2.2.1
  have kN : w6.heap[N]? = w.heap[N]? := h5 N hN (lt_of_block h.1) (own_blk_ne h9 h.1 (by decide))
  have kZ : w6.heap[Z]? = w.heap[Z]? := h5 Z hZ (lt_of_block h.2.1) (own_blk_ne h9 h.2.1 (by decide))
  have hN6 := kN.trans h.1
  have k2 : ∀ {v : Value} {e2 : Nat} {m : Nat} {ys : List Value} (sz : Nat), w.ownsRow W.heap.size e2 sz v m ys → (∀ g, v.ownBlock = some g → (Value.slice R r.length cr).ownBlock = some g → False) → w6.ownsRow W.heap.size e2 sz v m ys := fun {v e2 m ys} sz k hd => by
    refine ⟨k.1, ?_⟩
    rcases k.2 with k2 | ⟨g, cap, cur, k3, k4, k5, k6⟩
    · exact .inl k2
    · exact .inr ⟨g, cap, cur, k3, k4, (h5 g k4 (lt_of_block k5) (fun hv => hd g (by rw [k3]; rfl) hv)).trans k5, k6⟩
  have hw : OwnW w6 W.heap.size ⟨n, a, o, r ++ [(j, x)]⟩ A O B' ca co c' := ⟨(k2 _ h.2.2.1.1 (own_apart (by decide) h9 h.2.2.1.1)), (k2 _ h.2.2.1.2.1 (fun g hg hv => h.2.2.1.2.2.2 g hg hv)), by rw [List.length_append, pcells_append]; exact h2⟩
  refine ⟨kN, B', c', rfl, ?_, (Below.heap_setCell _ _ _ _ hne).trans (kZ.trans h.2.1), hw.same hN6 fun g hg => Below.heap_setCell _ _ _ _ hg, h3.setCell hN _⟩
  have e1 := heap_setCell_same w6 N 3 _ _ (.slice B' (r.length + 1) c') hN6
  rw [e1]
  simp [svv]
set_option maxRecDepth 20000 in
theorem free_any (s : Sv) (A O R : Option Addr) (ca co cr : Nat) (W : World) (hk : OkV s) :
    Calls Try.prog 81 #[.agg (svv s A O R ca co cr)] W fun e w' => e = .returned (.int .i64 (freeV s)) ∧ Below W.heap.size W w' := by
  obtain ⟨h1, h2, _, h4⟩ := hk
  obtain ⟨n, a, o, r⟩ := s
  simp only [svv] at *
  have hla : (a.length : Int) ≤ 1000 := by omega
  have hlr : (r.length : Int) ≤ 1000 := by omega
  have HF : Hid (freeV ⟨n, a, o, r⟩ = if n ≤ ((a.length + r.length : Nat) : Int) then 0 else n - ((a.length + r.length : Nat) : Int)) := hid rfl
  generalize freeV ⟨n, a, o, r⟩ = f at *
  have hb0 : Below W.heap.size W (W.alloc (.cells #[.int .i64 n, .slice A a.length ca, .slice O o.length co, .slice R r.length cr] 116)) := (Below.refl _ _).alloc (Nat.le_refl _) _
  have HB := hid hb0
  clear hb0
  by_cases hc : n ≤ (a.length : Int) + (r.length : Int)
  · have HV : Hid (f = 0) := hid (by rw [HF.out, if_pos (by omega)])
    clear HF
    go_enter Try.func81, Try.ntmps81
    go_wp2
    go_ret
    exact ⟨by rw [HV.out]; rfl, HB.out⟩
  · have HV : Hid (f = n - ((a.length : Int) + (r.length : Int))) := hid (by rw [HF.out, if_neg (by omega)]; omega)
    have hc2 : (a.length : Int) + (r.length : Int) < n := by omega
    clear HF
    go_enter Try.func81, Try.ntmps81
    go_wp2
    go_ret
    exact ⟨by rw [HV.out]; rfl, HB.out⟩

def askV (s : Sv) (j x : Int) : Sv × Bool := if freeV s = 0 ∨ hasJ s.a j = true then (s, false) else (⟨s.n, s.a ++ [(j, x)], s.o, s.r⟩, true)
set_option maxRecDepth 20000 in
set_option maxHeartbeats 4000000 in
theorem ask_any (s : Sv) (j x : Int) (A O R : Option Addr) (ca co cr : Nat) (W : World) (h : InV W s A O R ca co cr) (hk : OkV s) :
    Calls Try.prog 78 #[.agg (svv s A O R ca co cr), .agg #[.int .i64 j, .int .i64 x]] W fun e w' => ∃ A' O' R' ca' co' cr', e = .returned (.tuple #[.agg (svv (askV s j x).1 A' O' R' ca' co' cr'), .bool (askV s j x).2]) ∧ OwnW w' W.heap.size (askV s j x).1 A' O' R' ca' co' cr' ∧ Below W.heap.size W w' := by
  have HCL := hid (fun w (hw : Below W.heap.size W w) => cloned_any s A O R ca co cr w (h.below hw) (by have := hk.2; omega))
  have HFR := hid (fun A O R ca co cr w => free_any s A O R ca co cr w hk)
  have HAS := hid (fun w A' ca' (h : Sl w 2 A' s.a.length ca' (pcells s.a)) => qhas_any A' s.a.length ca' s.a j w h)
  have hla := hk.2.1
  have HV : Hid (askV s j x = if freeV s = 0 ∨ hasJ s.a j = true then (s, false) else (⟨s.n, s.a ++ [(j, x)], s.o, s.r⟩, true)) := hid rfl
  clear h hk
  generalize askV s j x = av at *
  generalize freeV s = f at *
  generalize hasJ s.a j = hj at *
  obtain ⟨n, a, o, r⟩ := s
  simp only [svv] at *
  go_enter Try.func78, Try.ntmps78
  go_upto_region 1 with (fail)
  refine at_world (fun u => u.heap[W.heap.size]? = some (.cells #[.int .i64 n, .slice A a.length ca, .slice O o.length co, .slice R r.length cr] 116 (0, 0)) ∧ u.heap[W.heap.size + 1]? = some (.cells #[.int .i64 j, .int .i64 x] 91 (0, 0)) ∧ u.heap[W.heap.size + 2]? = some (.cells #[.int .i64 0, .slice none 0 0, .slice none 0 0, .slice none 0 0] 116 (0, 0)) ∧ Below W.heap.size W u) (heap3 _ _ _ _) ?_
  rintro w1 ⟨hx1, hy1, hz1, hb1⟩
  obtain ⟨⟨p0, p1, p2, p3⟩, f0, f1, f2, f3⟩ := four_cells hx1
  have HX1 := hid hx1
  have HY1 := hid hy1
  have HZ1 := hid hz1
  have HB1 := hid hb1
  clear hx1 hy1 hz1 hb1
  go_wp2_with fail
  refine (HCL.out _ HB1.out).mono ?_
  rintro e w2 ⟨A1, O1, R1, ca1, co1, cr1, rfl, ho2, hb2⟩
  have hx2 := keep0 HX1.out hb2
  have HY2 := hid (keep0 HY1.out hb2)
  have HB2 := hid (HB1.out.trans (hb2.mono HB1.out.size))
  have HS2 := hid (SB.of hx2 (keep0 HZ1.out hb2) (by omega) (ho2.mono HB1.out.size) HB2.out (Nat.le_refl _))
  have HY3 := hid ((put4_other (w := w2) (b := W.heap.size) (g := W.heap.size + 1) (by omega) (.int .i64 n) (.slice A1 a.length ca1) (.slice O1 o.length co1) (.slice R1 r.length cr1)).trans HY2.out)
  clear p0 p1 p2 p3 f0 f1 f2 f3
  obtain ⟨⟨p0, p1, p2, p3⟩, f0, f1, f2, f3⟩ := four_cells hx2
  clear hx2 ho2 hb2 HX1 HY1 HZ1 HB1 HY2 HCL
  go_upto_region 2 with (fail)
  refine at_world (fun u => SB W u W.heap.size (W.heap.size + 2) ⟨n, a, o, r⟩ A1 O1 R1 ca1 co1 cr1 ∧ u.heap[W.heap.size + 1]? = some (.cells #[.int .i64 j, .int .i64 x] 91 (0, 0))) ⟨HS2.out, HY3.out⟩ ?_
  clear p0 p1 p2 p3 f0 f1 f2 f3 HS2 HY3
  rintro w3 ⟨hs3, hy3⟩
  obtain ⟨⟨p0, p1, p2, p3⟩, _⟩ := four_cells hs3.1
  have HS3 := hid hs3
  have HY3 := hid hy3
  clear hs3 hy3
  go_wp2_with fail
  refine (HFR.out _ _ _ _ _ _ _).mono ?_
  rintro e w4 ⟨rfl, hb4⟩
  have HS4 := hid (HS3.out.keep hb4)
  have HY4 := hid (keep0 HY3.out hb4)
  clear hb4 HS3 HY3 HFR p0 p1 p2 p3
  obtain ⟨⟨p0, p1, p2, p3⟩, f0, f1, f2, f3⟩ := four_cells HS4.out.1
  obtain ⟨y0, y1, _, _⟩ := two_cells HY4.out
  by_cases hf : f = 0
  · subst hf
    have hd : ((0 : Int) == 0) = true := rfl
    have HVV : Hid (av = (⟨n, a, o, r⟩, false)) := hid (by rw [HV.out, if_pos (.inl rfl)])
    have HT4 := hid HS4.out.t
    obtain ⟨_, g0, g1, g2, g3⟩ := four_cells HT4.out.2.1
    obtain ⟨⟨r0, r1, r2, r3⟩, _⟩ := four_cells (put4_heap HT4.out.2.1 (.int .i64 n) (.slice A1 a.length ca1) (.slice O1 o.length co1) (.slice R1 r.length cr1))
    simp only [put4] at r0 r1 r2 r3
    go_wp2
    have hr := HT4.out.ret (show W.heap.size ≤ W.heap.size + 2 by omega)
    exact bodyPost_ret (v := .tuple #[.agg #[.int .i64 n, .slice A1 a.length ca1, .slice O1 o.length co1, .slice R1 r.length cr1], .bool false]) (by simp [results, Try.results78, go_sem, r0, r1, r2, r3]) rfl ⟨A1, O1, R1, ca1, co1, cr1, by rw [HVV.out] <;> (first | rfl | simp), by rw [HVV.out]; exact hr.1, hr.2⟩
  · have hd : (f == 0) = false := by simpa using hf
    have HC := hid (HAS.out w4 A1 ca1 (sl_own HS4.out.2.2.1.1))
    clear HAS
    go_wp2_with fail
    refine HC.out.mono ?_
    rintro e w5 ⟨rfl, hb5⟩
    have HS5 := hid (HS4.out.keep hb5)
    have HY5 := hid (keep0 HY4.out hb5)
    clear hb5 HS4 HY4 p0 p1 p2 p3 f0 f1 f2 f3 y0 y1 HC
    obtain ⟨⟨p0, p1, p2, p3⟩, f0, f1, f2, f3⟩ := four_cells HS5.out.1
    obtain ⟨y0, y1, _, _⟩ := two_cells HY5.out
    cases hj
    case true =>
      have HVV : Hid (av = (⟨n, a, o, r⟩, false)) := hid (by rw [HV.out, if_pos (.inr rfl)])
      have HT5 := hid HS5.out.t
      obtain ⟨_, g0, g1, g2, g3⟩ := four_cells HT5.out.2.1
      obtain ⟨⟨r0, r1, r2, r3⟩, _⟩ := four_cells (put4_heap HT5.out.2.1 (.int .i64 n) (.slice A1 a.length ca1) (.slice O1 o.length co1) (.slice R1 r.length cr1))
      simp only [put4] at r0 r1 r2 r3
      go_wp2
      have hr := HT5.out.ret (show W.heap.size ≤ W.heap.size + 2 by omega)
      exact bodyPost_ret (v := .tuple #[.agg #[.int .i64 n, .slice A1 a.length ca1, .slice O1 o.length co1, .slice R1 r.length cr1], .bool false]) (by simp [results, Try.results78, go_sem, r0, r1, r2, r3]) rfl ⟨A1, O1, R1, ca1, co1, cr1, by rw [HVV.out] <;> (first | rfl | simp), by rw [HVV.out]; exact hr.1, hr.2⟩
    case false =>
      have HVV : Hid (av = (⟨n, a ++ [(j, x)], o, r⟩, true)) := hid (by rw [HV.out, if_neg (by simp [hf])])
      have hla9 : a.length + 1 ≤ 100000 := by omega
      go_wp2_with (at_builtin; refine wpList_append_1k (W := W) rfl (.tmp 20) (.tmp 22) 84 rfl W.heap.size 91 Try.underlying84 info_place rfl (by omega) rfl HS5.out.2.2.1.1 rfl (by rfl) (by simp [Value.oneCell']) ?c1 ?c2 HS5.out.2.2.2.size HS5.out.2.2.2 ?_)
      case c1 => unfold maxLen; omega
      case c2 => omega
      · intro v6 w6 h2 h3 h4 h5
        obtain ⟨kN, A6, c6, rfl, hT⟩ := HS5.out.pushA (Nat.le_refl _) (show W.heap.size ≤ W.heap.size + 2 by omega) (by omega) h2 h3 h5
        have HT6 := hid hT
        have hx6 := kN.trans HS5.out.1
        clear p0 p1 p2 p3 f0 f1 f2 f3 h2 h3 h4 h5 kN hT y0 y1
        obtain ⟨⟨p0, p1, p2, p3⟩, f0, f1, f2, f3⟩ := four_cells hx6
        clear hx6
        go_upto_region 5 with (fail)
        refine at_world (fun u => TB W u W.heap.size (W.heap.size + 2) ⟨n, a ++ [(j, x)], o, r⟩ A6 O1 R1 c6 co1 cr1) HT6.out ?_
        clear p0 p1 p2 p3 f0 f1 f2 f3 HT6
        rintro w7 hT7
        obtain ⟨⟨p0, p1, p2, p3⟩, _⟩ := four_cells hT7.1
        have HT7 := hid hT7
        clear hT7
        simp only [List.length_append, List.length_cons, List.length_nil, Nat.zero_add] at p1
        obtain ⟨_, g0, g1, g2, g3⟩ := four_cells HT7.out.2.1
        obtain ⟨⟨r0, r1, r2, r3⟩, _⟩ := four_cells (put4_heap HT7.out.2.1 (.int .i64 n) (.slice A6 (a.length + 1) c6) (.slice O1 o.length co1) (.slice R1 r.length cr1))
        simp only [put4] at r0 r1 r2 r3
        go_wp2
        have hr := HT7.out.ret (show W.heap.size ≤ W.heap.size + 2 by omega)
        simp only [List.length_append, List.length_cons, List.length_nil, Nat.zero_add] at hr
        exact bodyPost_ret (v := .tuple #[.agg #[.int .i64 n, .slice A6 (a.length + 1) c6, .slice O1 o.length co1, .slice R1 r.length cr1], .bool true]) (by simp [results, Try.results78, go_sem, r0, r1, r2, r3]) rfl ⟨A6, O1, R1, c6, co1, cr1, by rw [HVV.out] <;> (first | rfl | simp), by rw [HVV.out]; exact hr.1, hr.2⟩
end Go.Proofs.Ytadjmgmdnekllaa
