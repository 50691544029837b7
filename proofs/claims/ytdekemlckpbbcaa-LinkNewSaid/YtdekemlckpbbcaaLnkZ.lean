/- LinkNew: what its loops hold. -/
import Derived.Test.YtdekemlckpbbcaaLnkY
import Derived.Test.YtdekemlckpbbcaaLnkV
import Derived.Test.YtdekemlckpbbcaaKeepW
namespace Go.Proofs.Ytdekemlckpbbcaa
open Go.RowKit Go.Sort
set_option linter.unusedVariables false
set_option linter.unusedSimpArgs false

/-- The pair, its old packets forgotten; what is under way; what came; what is waited for. -/
structure NX (W u : World) (g : Nat) (x : Pr) (A : Option Addr) (ca : Nat) (B : Option Addr) (cb : Nat) (D : Option Addr) (cd : Nat) (E : Option Addr) (ce : Nat) (w : List Pk) (G : Option Addr) (gc : Nat) (gl : List (List UInt8)) (T : Option Addr) (tc : Nat) (tl : List (List UInt8)) : Prop where
  hg : u.heap[g]? = some (.cells (prc x A ca B cb D cd) 87 (0, 0))
  hW : W.heap.size ≤ g
  al : x.a.o.l = []
  ac : ca ≤ maxLen
  hB : u.ownsRow W.heap.size 9 1 (.slice B x.b.o.l.length cb) x.b.o.l.length (scells x.b.o.l)
  hE : Mid u W.heap.size 71 7 (.slice E w.length ce) w.length (gcells pkc w)
  hG : u.ownsRow W.heap.size 9 1 (.slice G gl.length gc) gl.length (scells gl)
  hT : Mid u W.heap.size 9 1 (.slice T tl.length tc) tl.length (scells tl)
  hd : ∀ j, (Value.slice G gl.length gc).ownBlock = some j → (Value.slice B x.b.o.l.length cb).ownBlock ≠ some j ∧ (Value.slice T tl.length tc).ownBlock ≠ some j
  hb : Below W.heap.size W u
section
variable {W u v : World} {g : Nat} {x : Pr} {A : Option Addr} {ca : Nat} {B : Option Addr} {cb : Nat} {D : Option Addr} {cd : Nat} {E : Option Addr} {ce : Nat} {w : List Pk} {G : Option Addr} {gc : Nat} {gl : List (List UInt8)} {T : Option Addr} {tc : Nat} {tl : List (List UInt8)}
theorem NX.keep (h : NX W u g x A ca B cb D cd E ce w G gc gl T tc tl) (hb : Below u.heap.size u v) : NX W v g x A ca B cb D cd E ce w G gc gl T tc tl :=
  ⟨keep0 h.hg hb, h.hW, h.al, h.ac, own_keep h.hB hb, h.hE.keep hb, own_keep h.hG hb, h.hT.keep hb, h.hd, h.hb.trans (hb.mono h.hb.size)⟩
/-- A store into an end's own block. -/
theorem NX.other (h : NX W u g x A ca B cb D cd E ce w G gc gl T tc tl) {Z : Nat} {cs : Array Value} (hz : u.heap[Z]? = some (.cells cs 54 (0, 0))) (hk : ∀ j, j ≠ Z → v.heap[j]? = u.heap[j]?) (hb : Below W.heap.size W v) : NX W v g x A ca B cb D cd E ce w G gc gl T tc tl :=
  ⟨(hk g (Ne.symm (blk_ne h.hg hz (by decide)))).trans h.hg, h.hW, h.al, h.ac, own_at h.hB hz (by decide) hk, mid_at h.hE hz (by decide) hk, own_at h.hG hz (by decide) hk, mid_at h.hT hz (by decide) hk, h.hd, hb⟩
theorem NX.setA (h : NX W u g x A ca B cb D cd E ce w G gc gl T tc tl) {e : Ev} {R : Option Addr} {rc : Nat} (he : e.o.l = []) (hc : rc ≤ maxLen) :
    NX W (putA u g (.int .i64 e.f) (.int .i64 e.t) (.int .i64 e.i) (.int .i64 e.o.p) (.int .i64 e.o.q) (.slice R e.o.l.length rc) (.int .i64 e.o.w) (.int .i64 e.o.f) (.int .i64 e.m) (.int .i64 e.p) (.int .i64 e.l)) g (setPA x e) R rc B cb D cd E ce w G gc gl T tc tl := by
  have hk : ∀ j, j ≠ g → (putA u g (.int .i64 e.f) (.int .i64 e.t) (.int .i64 e.i) (.int .i64 e.o.p) (.int .i64 e.o.q) (.slice R e.o.l.length rc) (.int .i64 e.o.w) (.int .i64 e.o.f) (.int .i64 e.m) (.int .i64 e.p) (.int .i64 e.l)).heap[j]? = u.heap[j]? := fun j hj => putA_other hj (.int .i64 e.f) (.int .i64 e.t) (.int .i64 e.i) (.int .i64 e.o.p) (.int .i64 e.o.q) (.slice R e.o.l.length rc) (.int .i64 e.o.w) (.int .i64 e.o.f) (.int .i64 e.m) (.int .i64 e.p) (.int .i64 e.l)
  exact ⟨putA_heap h.hg (.int .i64 e.f) (.int .i64 e.t) (.int .i64 e.i) (.int .i64 e.o.p) (.int .i64 e.o.q) (.slice R e.o.l.length rc) (.int .i64 e.o.w) (.int .i64 e.o.f) (.int .i64 e.m) (.int .i64 e.p) (.int .i64 e.l), h.hW, he, hc, own_at h.hB h.hg (by decide) hk, mid_at h.hE h.hg (by decide) hk, own_at h.hG h.hg (by decide) hk, mid_at h.hT h.hg (by decide) hk, h.hd, putA_below h.hb h.hW (.int .i64 e.f) (.int .i64 e.t) (.int .i64 e.i) (.int .i64 e.o.p) (.int .i64 e.o.q) (.slice R e.o.l.length rc) (.int .i64 e.o.w) (.int .i64 e.o.f) (.int .i64 e.m) (.int .i64 e.p) (.int .i64 e.l)⟩
theorem NX.setB (h : NX W u g x A ca B cb D cd E ce w G gc gl T tc tl) {e : Ev} {R : Option Addr} {rc : Nat} (ho : u.ownsRow W.heap.size 9 1 (.slice R e.o.l.length rc) e.o.l.length (scells e.o.l))
    (hd : ∀ j, (Value.slice G gl.length gc).ownBlock = some j → (Value.slice R e.o.l.length rc).ownBlock ≠ some j) :
    NX W (putB u g (.int .i64 e.f) (.int .i64 e.t) (.int .i64 e.i) (.int .i64 e.o.p) (.int .i64 e.o.q) (.slice R e.o.l.length rc) (.int .i64 e.o.w) (.int .i64 e.o.f) (.int .i64 e.m) (.int .i64 e.p) (.int .i64 e.l)) g (setPB x e) A ca R rc D cd E ce w G gc gl T tc tl := by
  have hk : ∀ j, j ≠ g → (putB u g (.int .i64 e.f) (.int .i64 e.t) (.int .i64 e.i) (.int .i64 e.o.p) (.int .i64 e.o.q) (.slice R e.o.l.length rc) (.int .i64 e.o.w) (.int .i64 e.o.f) (.int .i64 e.m) (.int .i64 e.p) (.int .i64 e.l)).heap[j]? = u.heap[j]? := fun j hj => putB_other hj (.int .i64 e.f) (.int .i64 e.t) (.int .i64 e.i) (.int .i64 e.o.p) (.int .i64 e.o.q) (.slice R e.o.l.length rc) (.int .i64 e.o.w) (.int .i64 e.o.f) (.int .i64 e.m) (.int .i64 e.p) (.int .i64 e.l)
  exact ⟨putB_heap h.hg (.int .i64 e.f) (.int .i64 e.t) (.int .i64 e.i) (.int .i64 e.o.p) (.int .i64 e.o.q) (.slice R e.o.l.length rc) (.int .i64 e.o.w) (.int .i64 e.o.f) (.int .i64 e.m) (.int .i64 e.p) (.int .i64 e.l), h.hW, h.al, h.ac, own_at ho h.hg (by decide) hk, mid_at h.hE h.hg (by decide) hk, own_at h.hG h.hg (by decide) hk, mid_at h.hT h.hg (by decide) hk, fun j hj => ⟨hd j hj, (h.hd j hj).2⟩, putB_below h.hb h.hW (.int .i64 e.f) (.int .i64 e.t) (.int .i64 e.i) (.int .i64 e.o.p) (.int .i64 e.o.q) (.slice R e.o.l.length rc) (.int .i64 e.o.w) (.int .i64 e.o.f) (.int .i64 e.m) (.int .i64 e.p) (.int .i64 e.l)⟩
/-- Packets are appended to what is under way. -/
theorem NX.app (h : NX W u g x A ca B cb D cd E ce w G gc gl T tc tl) {l : List Pk} {E' : Option Addr} {ce' : Nat} (h2 : Mid v W.heap.size 71 7 (.slice E' (w.length + l.length) ce') (w.length + l.length) (gcells pkc w ++ gcells pkc l)) (h3 : Below W.heap.size u v)
    (h5 : ∀ j, W.heap.size ≤ j → j < u.heap.size → (Value.slice E w.length ce).ownBlock ≠ some j → v.heap[j]? = u.heap[j]?) : NX W v g x A ca B cb D cd E' ce' (w ++ l) G gc gl T tc tl := by
  have hl : (w ++ l).length = w.length + l.length := List.length_append
  refine ⟨(h5 g h.hW (lt_of_block h.hg) (mid_blk_ne h.hE h.hg (by decide))).trans h.hg, h.hW, h.al, h.ac, mid_other h.hB h.hE (by decide) h5, ?_, mid_other h.hG h.hE (by decide) h5, ?_, h.hd, h.hb.trans h3⟩
  · rw [hl, gcells_append]
    exact h2
  · exact h.hT.block fun j o hj ho ⟨cs, hc⟩ _ => (h5 j hj (lt_of_block ho) (mid_blk_ne h.hE (hc ▸ ho) (by decide))).trans ho
/-- A text comes. -/
theorem NX.push (h : NX W u g x A ca B cb D cd E ce w G gc gl T tc tl) {y : List UInt8} {G' : Option Addr} {gc' : Nat} (h2 : v.ownsRow W.heap.size 9 1 (.slice G' (gl.length + 1) gc') (gl.length + 1) (scells gl ++ [.string (str y)])) (h3 : Below W.heap.size u v)
    (h5 : ∀ j, W.heap.size ≤ j → j < u.heap.size → (Value.slice G gl.length gc).ownBlock ≠ some j → v.heap[j]? = u.heap[j]?) (h6 : (Value.slice G' (gl.length + 1) gc').ownBlock = (Value.slice G gl.length gc).ownBlock ∨ ∀ j, (Value.slice G' (gl.length + 1) gc').ownBlock = some j → u.heap.size ≤ j) :
    NX W v g x A ca B cb D cd E ce w G' gc' (gl ++ [y]) T tc tl := by
  have hl : (gl ++ [y]).length = gl.length + 1 := by simp
  have hlt : ∀ {base e s n : Nat} {v : Value} {xs : List Value}, Mid u base e s v n xs → ∀ j, v.ownBlock = some j → j < u.heap.size := fun hm j hj => by
    rcases hm.2 with ⟨rfl, _⟩ | ⟨g', off, cap, cur, rfl, _, hh, _⟩
    · simp [Value.ownBlock] at hj
    · have : g' = j := by simpa [Value.ownBlock] using hj
      subst this
      exact lt_of_block hh
  refine ⟨(h5 g h.hW (lt_of_block h.hg) (own_blk_ne h.hG h.hg (by decide))).trans h.hg, h.hW, h.al, h.ac, ?_, ?_, ?_, ?_, ?_, h.hb.trans h3⟩
  · refine ⟨h.hB.1, ?_⟩
    rcases h.hB.2 with k2 | ⟨j, cap, cur, k3, k4, k5, k6⟩
    · exact .inl k2
    · exact .inr ⟨j, cap, cur, k3, k4, (h5 j k4 (lt_of_block k5) (fun hv => (h.hd j hv).1 (by rw [k3]; rfl))).trans k5, k6⟩
  · exact h.hE.block fun j o hj ho ⟨cs, hc⟩ _ => (h5 j hj (lt_of_block ho) (own_blk_ne h.hG (hc ▸ ho) (by decide))).trans ho
  · rw [hl, scells_snoc]
    exact h2
  · exact h.hT.block fun j o hj ho _ hv => (h5 j hj (lt_of_block ho) (fun hv2 => (h.hd j hv2).2 hv)).trans ho
  · rw [hl]
    intro j hj
    rcases h6 with h6 | h6
    · exact h.hd j (h6 ▸ hj)
    · have h7 := h6 j hj
      refine ⟨fun h8 => ?_, fun h8 => ?_⟩
      · have := hlt (Mid.of_own h.hB) j h8
        omega
      · have := hlt h.hT j h8
        omega
theorem NX.tail {p : Pk} {r : List Pk} (h : NX W u g x A ca B cb D cd E ce (p :: r) G gc gl T tc tl) : NX W u g x A ca B cb D cd (dropA E ce 1 7) (ce - 1) r G gc gl T tc tl := by
  have hm : Mid u W.heap.size 71 7 (.slice E (r.length + 1) ce) (r.length + 1) (gcells pkc (p :: r)) := h.hE
  have h1 := hm.drop 1 (by omega)
  have h2 : (gcells pkc (p :: r)).drop (1 * 7) = gcells pkc r := gcells_drop 1
  rw [h2] at h1
  exact ⟨h.hg, h.hW, h.al, h.ac, h.hB, h1, h.hG, h.hT, h.hd, h.hb⟩
end
end Go.Proofs.Ytdekemlckpbbcaa
