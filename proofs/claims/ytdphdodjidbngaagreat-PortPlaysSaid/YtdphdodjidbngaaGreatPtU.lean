/- port.nodes: the nodes at the other ends, rising. -/
import Derived.Test.YtdphdodjidbngaaGreatPtX
import Derived.Test.YtdphdodjidbngaaGreatGaP
import Derived.Test.YtdphdodjidbngaaGreatShelf
import Derived.Maps.RangeWalk
import Derived.Lib.SlKeysI
import Derived.Test.YtdphdodjidbngaaGreatQGt
import Derived.Test.YtdphdodjidbngaaGreatQPtI
namespace Go.Proofs.YtdphdodjidbngaaGreat
open Go.RowKit Go.Sort
set_option linter.unusedVariables false
set_option linter.unusedSimpArgs false

theorem info_intP : (Tryz.prog.info? 3).map (fun i => (i.zero, i.size, i.bytes)) = some (some (.int .i64 0), 1, 8) := by kernel_rfl
theorem sort_own {W w : World} {v : Value} {l : List Int} (h : w.ownsRow W.heap.size 3 1 v l.length (icells .i64 l)) (hl : l.length ≤ 1000) :
    Calls Tryz.prog 78 #[v] w fun e w' => e = .returned (.tuple #[]) ∧ w'.ownsRow W.heap.size 3 1 v l.length (icells .i64 (l.mergeSort leI)) ∧ Below W.heap.size w w' := by
  have hml : (l.mergeSort leI).length = l.length := List.length_mergeSort l
  rcases h.2 with ⟨rfl, h0⟩ | ⟨g, cap, cur, rfl, hb, hg, hnc, hcm, hcs, ht⟩
  · obtain rfl : l = [] := List.eq_nil_of_length_eq_zero h0
    refine (Tryz.slices_Sort_int_none none 0 w).mono ?_
    rintro e w' ⟨rfl, rfl⟩
    refine ⟨rfl, ?_, Below.refl _ _⟩
    rw [List.mergeSort_nil]
    exact World.ownsRow_nil _ _ _ _
  · have ht2 : cur.toList.take l.length = l.map encZ := by
      rw [← Nat.mul_one l.length]
      exact ht
    have hlt := lt_of_block hg
    refine (Tryz.slices_Sort_int g 0 cap l w (holds_of_block_i hg ht2) hlt (by omega)).mono ?_
    rintro e w' ⟨rfl, n, os, rfl⟩
    refine ⟨rfl, ?_, (Below.refl _ _).grown (grownBy_sorted_i _) ?_ ?_⟩
    · have h9 := ownsRow_sorted_i (w := w) (base := W.heap.size) (n := n) (os := os) hml hb hg hnc hcm hcs
      rw [← hml]
      rw [hml]
      exact h9
    · omega
    · intro k hk
      cases hk
      exact hb
theorem ranges_blk {P : Program} {k : TypeId} {H : Type} {R : Value → Option (DataW H × List MemPlace)} {w w' : World} {b r n : Nat} {D : DataW H} {left : Lit → Bool} {cnt : Nat} (h : w.ranges P k R b r n D left cnt) (hb : w'.heap[b]? = w.heap[b]?) (hr : w'.heap[r]? = w.heap[r]?) : w'.ranges P k R b r n D left cnt := by
  obtain ⟨es, clock, since, seen, c0, h1, h2, h3, h4, h5, rest⟩ := h
  exact ⟨es, clock, since, seen, c0, hb.trans h1, h2, h3, h4, hr.trans h5, rest⟩
theorem own_but {w w' : World} {base e s n r : Nat} {v : Value} {xs : List Value} (h : w.ownsRow base e s v n xs) (hr : r < base) (hk : ∀ b, b ≠ r → b < w.heap.size → w'.heap[b]? = w.heap[b]?) : w'.ownsRow base e s v n xs := by
  refine ⟨h.1, ?_⟩
  rcases h.2 with h2 | ⟨b, cap, cur, h3, h4, h5, h6⟩
  · exact .inl h2
  · exact .inr ⟨b, cap, cur, h3, h4, (hk b (by omega) (lt_of_block h5)).trans h5, h6⟩
/-- The keys that were collected, sorted. -/
theorem keys_sorted {w : World} {g : Nat} {L : List Ev} {D : DataW Value} {left : Lit → Bool} {ss : List Int} (hp : L.Pairwise (fun a b => a.t < b.t)) (hh : ∀ k : Int, Maps.has D (.int .i64 k) = L.any (fun e => e.t == k)) (hC : CollectedI D left ss) (hl : ∀ kl, left kl = false) : ss.mergeSort leI = L.map (·.t) := by
  have hnd : (L.map (·.t)).Nodup := by
    refine List.pairwise_map.2 (hp.imp fun h => by omega)
  have hpm : ss.Perm (L.map (·.t)) := by
    refine (List.perm_ext_iff_of_nodup hC.1 hnd).2 fun x => ?_
    rw [hC.2 x, hl, hh x, List.any_eq_true, List.mem_map]
    simp
  rw [mergeSort_of_perm_i hpm]
  refine List.mergeSort_of_pairwise ?_
  exact List.pairwise_map.2 (hp.imp fun h => by simp only [leI, decide_eq_true_eq]; omega)

set_option maxRecDepth 20000 in
set_option maxHeartbeats 4000000 in
theorem nodes_any {P M : Nat} {nd inc bd : Int} {L : List Ev} (W : World) (h : PortAt W P M nd inc bd L) :
    Calls Tryz.prog 38 #[.pointer (some ⟨P, 0, none⟩)] W fun e w' => ∃ A c, e = .returned (.slice A L.length c) ∧ w'.ownsRow W.heap.size 3 1 (.slice A L.length c) L.length (icells .i64 (L.map (·.t))) ∧ Below W.heap.size W w' := by
  obtain ⟨c0, c1, c2, c3⟩ := h.cells
  have hM := h.ends.lt
  obtain ⟨hp, hrg, D, hown, hsz, hh, -⟩ := h.ends
  have HP := hid hp
  have HH := hid hh
  have HSZ := hid hsz
  have HLL : Hid (L.length ≤ 72) := hid (by have := sorted_len L 0 hp hrg (by omega); omega)
  clear hp hh hsz hrg h c0 c1 c2
  go_enter Tryz.func38, Tryz.ntmps38
  go_wp2_with (first
    | (at_range; refine wpList_range_own _ rfl _ 58 rfl 3 71 keyed_int Tryz.underlying58 valR M 72 D rfl hown ?_; intro w0 hrg0 hg0 hs0)
    | go_in)
  go_frame
  go_loopw [3] (fun v wr => ∃ (left : Lit → Bool) (cnt : Nat) (ss : List Int), wr.ranges Tryz.prog 3 valR M W.heap.size 72 D left cnt ∧ CollectedI D left ss ∧ ss.length + cnt ≤ 72 ∧ Hid (wr.ownsRow (W.heap.size + 1) 3 1 v ss.length (icells .i64 ss)) ∧ Hid (Below W.heap.size W wr)) (fun _ wr => wr.rangeLeft M W.heap.size)
  case atStart =>
    exact ⟨_, _, [], hrg0, CollectedI.start D, by simp only [List.length_nil]; rw [HSZ.out]; have := HLL.out; omega, World.ownsRow_nil _ _ _ _, (Below.refl _ _).grown hg0 (Nat.le_refl _) (fun k e => by cases e)⟩
  case round =>
    obtain ⟨left, cnt, ss, hrg, hC, hcl, HO, HB⟩ := hrel
    go_wp2_with (first
      | (at_next; refine wpList_next_ranges _ rfl _ rfl 3 keyed_int valR (Value.int .i64) id (fun key kl hk => by obtain ⟨x, hx, _⟩ := Maps.keyOf_i64 Tryz.underlying3 hk; exact ⟨x, hx⟩) (fun v _ _ => ⟨v, rfl⟩) M W.heap.size 72 _ _ _ rfl hrg ?_ ?_)
      | go_in)
    · intro hc0 hl0
      have hSS := keys_sorted (w := wr) (g := M) HP.out HH.out hC hl0
      have hln : ss.length = L.length := by
        have h9 := congrArg List.length hSS
        rw [List.length_mergeSort, List.length_map] at h9
        exact h9
      have HSR := hid (sort_own (W := W) (own_mono HO.out (by omega)) (by omega))
      rw [hSS] at HSR
      rw [hln] at HSR
      clear hC hSS hln hcl hl0
      go_wp2_with fail
      refine HSR.out.mono ?_
      rintro e w9 ⟨rfl, ho9, hb9⟩
      obtain ⟨A9, c9, rfl, -⟩ := Sl.of_own ho9
      have HO9 := hid ho9
      have HB9 := hid (HB.out.trans hb9)
      clear ho9 hb9 HSR
      go_wp2
      go_ret
      exact ⟨A9, c9, rfl, HO9.out, HB9.out⟩
    · intro x c kl yd yp w1 cnt1 hkey hlk hv hat hrg1 hlt hg1 hs1 hen
      obtain ⟨x', ex, rfl, hwf⟩ := Maps.keyOf_i64 Tryz.underlying3 hkey
      obtain rfl : x = x' := encZ_inj ex
      have HC1 := hid (hC.step hlk hat)
      have HO1 := hid (own_but HO.out (Nat.lt_succ_self _) (fun b hb hl => hg1.block b hl (fun e => hb (Option.some.inj e))))
      have hW1 : W.heap.size + 1 ≤ w1.heap.size := by have := hrg1.lt; omega
      have HB1 := hid (HB.out.grown hg1 HB.out.size (fun k e => by cases e; exact Nat.le_refl _))
      have HR1 := hid hrg1
      have hln : ss.length < 72 := by omega
      clear hkey hlk hv hat hg1 hs1 hC HO HB hwf ex
      go_wp2_with (at_builtin; refine wpList_append_1 (W := w1) rfl (.tmp 14) (.tmp 16) 102 rfl (W.heap.size + 1) 3 Tryz.underlying102 info_intP rfl (by omega) rfl HO1.out rfl rfl (by simp; rfl) ?c1 ?c2 hW1 (Below.refl _ _) ?_)
      case c1 => unfold maxLen; omega
      case c2 => omega
      · intro v' w4 h2 h3 h4
        have HO3 := hid h2
        have HB3 := hid h3
        clear h2 h3
        go_wp2
        go_roundw
        case rel =>
          refine ⟨_, cnt1, ss ++ [x], ranges_blk HR1.out (HB3.out.block _ (by omega)) (HB3.out.block _ (by omega)), HC1.out, by rw [List.length_append]; simp only [List.length_cons, List.length_nil]; omega, ?_, HB1.out.trans (HB3.out.mono (by omega))⟩
          rw [List.length_append]
          show Hid (w4.ownsRow (W.heap.size + 1) 3 1 v' (ss.length + 1) (icells .i64 (ss ++ [x])))
          have h9 : icells .i64 (ss ++ [x]) = icells .i64 ss ++ [.int .i64 x] := by simp [icells]
          rw [h9]
          exact HO3.out
        case measure =>
          rw [(ranges_blk HR1.out (HB3.out.block _ (by omega)) (HB3.out.block _ (by omega))).left_eq, hrg.left_eq]
          exact hlt
end Go.Proofs.YtdphdodjidbngaaGreat

namespace Go.Proofs.YtdphdodjidbngaaGreat
open Go.RowKit Go.Sort
set_option linter.unusedVariables false
set_option linter.unusedSimpArgs false

/-- What Tick leaves of the ends, and what is sent. -/
def tkF (e : Ev) : Ev := (tikE e).1
def tkT (e : Ev) : List (List UInt8) := (tikE e).2.map pbL
def ptickV (L : List Ev) : List Ev × List (List UInt8) := (L.map tkF, (L.map tkT).flatten)
theorem tkF_t (e : Ev) : (tkF e).t = e.t := rfl
theorem tkT_len (e : Ev) : (tkT e).length ≤ 1 := by
  rw [tkT, List.length_map]
  exact dataV_len _ _
def stk (L : List Ev) (k : Nat) : List Ev := (L.take k).map tkF ++ L.drop k
def txk (L : List Ev) (k : Nat) : List (List UInt8) := ((L.take k).map tkT).flatten
theorem stk_map (L : List Ev) (k : Nat) : (stk L k).map (·.t) = L.map (·.t) := by
  rw [stk, List.map_append, List.map_map]
  have : ((fun e : Ev => e.t) ∘ tkF) = fun e => e.t := rfl
  rw [this, ← List.map_append, List.take_append_drop]
theorem stk_at (L : List Ev) (k : Nat) (h : k < L.length) : stk L k = (L.take k).map tkF ++ L[k] :: L.drop (k + 1) := by rw [stk, List.drop_eq_getElem_cons h]
theorem stk_succ (L : List Ev) (k : Nat) (h : k < L.length) : stk L (k + 1) = (L.take k).map tkF ++ tkF L[k] :: L.drop (k + 1) := by
  rw [stk, List.take_succ_eq_append_getElem h, List.map_append, List.append_assoc]
  rfl
theorem txk_succ (L : List Ev) (k : Nat) (h : k < L.length) : txk L (k + 1) = txk L k ++ tkT L[k] := by
  rw [txk, List.take_succ_eq_append_getElem h, List.map_append, List.flatten_append]
  simp [txk]
theorem txk_len (L : List Ev) : ∀ k, k ≤ L.length → (txk L k).length ≤ k
  | 0, _ => by simp [txk]
  | k + 1, h => by
    rw [txk_succ L k (by omega), List.length_append]
    have := txk_len L k (by omega)
    have := tkT_len L[k]
    omega
theorem find_mid (a : Ev) (l m : List Ev) (h : ∀ x ∈ l, x.t ≠ a.t) : (l ++ a :: m).find? (fun x => x.t == a.t) = some a := by
  induction l with
  | nil => simp
  | cons x l ih =>
    rw [List.cons_append, List.find?_cons, show (x.t == a.t) = false by simpa using h x (List.mem_cons_self ..)]
    exact ih fun y hy => h y (List.mem_cons_of_mem _ hy)
theorem keep_mid (a b : Ev) (l m : List Ev) (h : ∀ x ∈ l, x.t < a.t) (hb : b.t = a.t) : keepL b (l ++ a :: m) = l ++ b :: m := by
  induction l with
  | nil => simp [keepL, hb]
  | cons x l ih =>
    have h9 := h x (List.mem_cons_self ..)
    rw [List.cons_append, keepL, if_pos (by omega), ih fun y hy => h y (List.mem_cons_of_mem _ hy)]
    rfl
theorem take_lt {L : List Ev} (hp : L.Pairwise (fun a b => a.t < b.t)) (k : Nat) (h : k < L.length) : ∀ x ∈ (L.take k).map tkF, x.t < L[k].t := by
  intro x hx
  rw [List.mem_map] at hx
  obtain ⟨y, hy, rfl⟩ := hx
  rw [tkF_t]
  obtain ⟨j, hj, rfl⟩ := List.mem_take_iff_getElem.1 hy
  exact (List.pairwise_iff_getElem.1 hp) j k (by omega) h (by omega)
theorem stk_end {L : List Ev} (hp : L.Pairwise (fun a b => a.t < b.t)) (k : Nat) (h : k < L.length) : endP 0 0 (stk L k) L[k].t = L[k] := by
  unfold endP
  rw [stk_at L k h, find_mid _ _ _ fun x hx => by have := take_lt hp k h x hx; omega]
  rfl
theorem stk_keep {L : List Ev} (hp : L.Pairwise (fun a b => a.t < b.t)) (k : Nat) (h : k < L.length) : keepL (tikE L[k]).1 (stk L k) = stk L (k + 1) := by
  rw [stk_at L k h, stk_succ L k h]
  exact keep_mid _ _ _ _ (take_lt hp k h) rfl
theorem stk_any {L : List Ev} (k : Nat) (h : k < L.length) : ((stk L k).any fun x => x.t == L[k].t) = true := by
  rw [List.any_eq_true]
  refine ⟨L[k], ?_, by simp⟩
  rw [stk_at L k h]
  exact List.mem_append_right _ (List.mem_cons_self ..)
theorem Sl.intsP {w : World} {A : Option Addr} {len cap : Nat} {k : IntKind} {l : List Int} (h : Sl w 1 A len cap (icells k l)) (i : Nat) (hi : i < l.length) : ∃ b off, A = some ⟨b, off, none⟩ ∧ w.cell? ⟨b, off + i, none⟩ = some (.int k l[i]) := by
  obtain ⟨b, off, ha, hc⟩ := Sl.at h i (by simpa [icells] using hi)
  refine ⟨b, off, ha, ?_⟩
  rw [hc]
  simp [icells]
/-- What Tick leaves. -/
def PTickR (W : World) (P M : Nat) (nd inc bd : Int) (L : List Ev) (r : List Ev × List (List UInt8)) (x : Ending) (w' : World) : Prop :=
  ∃ A c, x = .returned (.slice A r.2.length c) ∧ w'.ownsRow W.heap.size 9 1 (.slice A r.2.length c) r.2.length (scells r.2) ∧ PortAt w' P M nd inc bd r.1 ∧ Only M W w' ∧ ∀ gg, gg < W.heap.size → PFar W M L gg → PFar w' M r.1 gg

set_option maxRecDepth 20000 in
set_option maxHeartbeats 8000000 in
theorem ptick_any {P M : Nat} {nd inc bd : Int} {L : List Ev} (W : World) (h : PortAt W P M nd inc bd L) (hG : ∀ e ∈ L, GdE e) :
    Calls Tryz.prog 15 #[.pointer (some ⟨P, 0, none⟩)] W (PTickR W P M nd inc bd L (ptickV L)) := by
  have HN := hid (nodes_any W h)
  have HH := hid h
  have HPW := hid h.ends.1
  have HRG := hid h.ends.2.1
  have hll : L.length ≤ 72 := by have := sorted_len L 0 h.ends.1 h.ends.2.1 (by omega); omega
  have HG := hid hG
  clear h hG
  go_enter Tryz.func15, Tryz.ntmps15
  go_wp2_with fail
  refine HN.out.mono ?_
  rintro e w1 ⟨A9, c9, rfl, ho1, hb1⟩
  have HP1 := hid (HH.out.below hb1)
  have HS1 := hid ho1
  have HO1 := hid (Only.of_below (B := M) hb1)
  have HX1 := hid (fun gg (h1 : gg < W.heap.size) (h2 : PFar W M L gg) => h2.blk (hb1.block M HH.out.ends.lt))
  clear HN HH ho1 hb1
  go_wp2
  go_loopw [3, 13] (fun v i wr => ∃ (k : Nat), k ≤ L.length ∧ i = .int .i64 (k : Int) ∧ Hid (PortAt wr P M nd inc bd (stk L k)) ∧ Hid (wr.ownsRow W.heap.size 9 1 v (txk L k).length (scells (txk L k))) ∧ Hid (wr.ownsRow W.heap.size 3 1 (.slice A9 L.length c9) L.length (icells .i64 (L.map (·.t)))) ∧ Hid (Only M W wr) ∧ Hid (∀ gg, v.ownBlock = some gg → PFar wr M (stk L k) gg) ∧ Hid (∀ gg, gg < W.heap.size → PFar W M L gg → PFar wr M (stk L k) gg)) (fun _ i _ => L.length - (intOf i).toNat)
  case atStart => exact ⟨0, by omega, rfl, HP1.out, World.ownsRow_nil _ _ _ _, HS1.out, HO1.out, fun gg h9 => by simp [Value.ownBlock] at h9, HX1.out⟩
  case round =>
    obtain ⟨k, hk, rfl, HP, HO, HS, HU, HF, HX⟩ := hrel
    by_cases hlt : k < L.length
    · have hlt2 : (k : Int) < (L.length : Int) := by omega
      obtain ⟨b, off, rfl, cn⟩ := (sl_own HS.out).intsP k (by simpa using hlt)
      rw [List.getElem_map] at cn
      obtain ⟨-, -, -, c3⟩ := HP.out.cells
      have hr0 := HRG.out L[k] (List.getElem_mem hlt)
      obtain ⟨A, c, -, hl0, hsl, -, -⟩ := pends_yes HP.out.ends hr0.1 hr0.2 (stk_any k hlt)
      have hl := hl0 wr (Below.refl _ _)
      clear hl0
      have HKE := hid (stk_keep HPW.out k hlt)
      have HGE := HG.out L[k] (List.getElem_mem hlt)
      have HTX : Hid (txk L (k + 1) = txk L k ++ (tikE L[k]).2.map pbL) := hid (txk_succ L k hlt)
      have hxl := txk_len L k hk
      rw [stk_end HPW.out k hlt] at hl hsl
      have HTK := hid (ltick_any L[k] A c wr hsl (by have := HGE.1; omega))
      have HPB : Hid (∀ z ∈ (tikE L[k]).2, z.b.length ≤ 1000) := hid (dataV_b _ _ fun y hy => HGE.2.2.2.2.2 y (by simpa only [setO, tikV_l] using hy))
      have hpl : (tikE L[k]).2.length ≤ 1 := dataV_len _ _
      have hft : (tikE L[k]).1.t = L[k].t := rfl
      have HR0 : Hid (0 ≤ L[k].t ∧ L[k].t < 72) := hid hr0
      generalize tikE L[k] = tv at *
      generalize L[k] = e0 at *
      obtain ⟨⟨f1, t1, i1, ⟨p1, q1, l1, wt1, fl1⟩, gm1, gp1, gl1⟩, ps⟩ := tv
      obtain ⟨f, t, i, ⟨p, q, l, wt, fl⟩, gm, gp, gl⟩ := e0
      simp only [ec] at hl HTK hft HR0 cn HTX hpl HPB
      subst hft
      generalize txk L k = tx at *
      clear hsl HGE hr0
      go_wp2_with fail
      refine HTK.out.mono ?_
      rintro e w2 ⟨A2, c2, B, d, rfl, ho2, hp2, hb2⟩
      simp only [ec]
      have HO2 : Hid (w2.ownsRow wr.heap.size 9 1 (.slice A2 l1.length c2) l1.length (scells l1)) := hid ho2
      have HP2 : Hid (OwnP wr w2 (.slice B ps.length d) ps) := hid hp2
      have HB2 := hid hb2
      clear ho2 hp2 hb2 HTK hl c3 cn
      go_upto_region 8 with (fail)
      refine at_world (fun u => u.heap[w2.heap.size]? = some (.cells #[.int .i64 f1, .int .i64 t1, .int .i64 i1, .int .i64 p1, .int .i64 q1, .slice A2 l1.length c2, .int .i64 wt1, .int .i64 fl1, .int .i64 gm1, .int .i64 gp1, .int .i64 gl1] 71 (0, 0)) ∧ Below w2.heap.size w2 u) ⟨heap_alloc_new _ _, (Below.refl _ _).alloc (Nat.le_refl _) _⟩ ?_
      rintro w3 ⟨hz3, hb3⟩
      generalize w2.heap.size = Z at hz3 ⊢
      have hb23 := HB2.out.trans (hb3.mono HB2.out.size)
      have hk0 : Below wr.heap.size wr w3.drew := below_drew hb23
      have HO3 := hid (own_keep HO2.out hb3)
      have HP3 : Hid (OwnP wr w3 (.slice B ps.length d) ps) := hid (own_keep HP2.out hb3)
      have HPA := hid (HP.out.below hk0)
      have hblk := HPA.out.blk
      obtain ⟨w8, hrun, hE8, hO8⟩ := pends_put HPA.out.ends ⟨f1, t1, i1, ⟨p1, q1, l1, wt1, fl1⟩, gm1, gp1, gl1⟩ A2 c2 HR0.out.1 HR0.out.2 ((sl_own HO3.out).below (below_drew (Below.refl _ _))) Tryz.underlying58
      have hz0 : w3.drew.heap[Z]? = some (.cells #[.int .i64 f1, .int .i64 t1, .int .i64 i1, .int .i64 p1, .int .i64 q1, .slice A2 l1.length c2, .int .i64 wt1, .int .i64 fl1, .int .i64 gm1, .int .i64 gp1, .int .i64 gl1] 71 (0, 0)) := hz3
      obtain ⟨es, clock, hmb⟩ := HPA.out.ends.block
      have hPM := HPA.out.ne
      have hZM : Z ≠ M := by
        rintro rfl
        rw [hmb] at hz0
        cases hz0
      have hS : ∀ U : World, U.heap[P]? = some (.cells #[.int .i64 nd, .int .i64 inc, .int .i64 bd, .map (some M)] 60 (0, 0)) → U.heap[Z]? = some (.cells #[.int .i64 f1, .int .i64 t1, .int .i64 i1, .int .i64 p1, .int .i64 q1, .slice A2 l1.length c2, .int .i64 wt1, .int .i64 fl1, .int .i64 gm1, .int .i64 gp1, .int .i64 gl1] 71 (0, 0)) → (U.cell? ⟨P, 3, none⟩ = some (.map (some M)) ∧ (U.cell? ⟨Z, 0, none⟩ = some (.int .i64 f1) ∧ U.cell? ⟨Z, 1, none⟩ = some (.int .i64 t1) ∧ U.cell? ⟨Z, 2, none⟩ = some (.int .i64 i1) ∧ U.cell? ⟨Z, 3, none⟩ = some (.int .i64 p1) ∧ U.cell? ⟨Z, 4, none⟩ = some (.int .i64 q1) ∧ U.cell? ⟨Z, 5, none⟩ = some (.slice A2 l1.length c2) ∧ U.cell? ⟨Z, 6, none⟩ = some (.int .i64 wt1) ∧ U.cell? ⟨Z, 7, none⟩ = some (.int .i64 fl1) ∧ U.cell? ⟨Z, 8, none⟩ = some (.int .i64 gm1) ∧ U.cell? ⟨Z, 9, none⟩ = some (.int .i64 gp1) ∧ U.cell? ⟨Z, 10, none⟩ = some (.int .i64 gl1))) := fun U h1 h2 => ⟨by rw [cell_of_row U P 3 _ _ _ h1]; rfl, (eleven_cells h2).1⟩
      have HP8 : Hid (OwnP wr w8 (.slice B ps.length d) ps) := hid (own_map (w := w3.drew) HP3.out hmb hO8.keep)
      rw [HKE.out] at hE8
      have HF8 : Hid (∀ gg, u3.ownBlock = some gg → PFar w8 M (stk L (k + 1)) gg) := hid (by
        intro gg hgg
        rw [← HKE.out]
        refine pfar_put HPA.out.ends ((HF.out gg hgg).blk (hk0.block M HP.out.ends.lt)) ⟨f1, t1, i1, ⟨p1, q1, l1, wt1, fl1⟩, gm1, gp1, gl1⟩ A2 c2 HR0.out.1 HR0.out.2 ((sl_own HO3.out).below (below_drew (Below.refl _ _))) Tryz.underlying58 hrun ?_
        intro _ b2 off2 hA2
        have h9 := own_blk_ge HO3.out b2 (by rw [hA2]; rfl)
        have h8 := (own_lt HO.out gg hgg).2.1
        omega)
      have HX8 : Hid (∀ gg, gg < W.heap.size → PFar W M L gg → PFar w8 M (stk L (k + 1)) gg) := hid (by
        intro gg hgg hf
        rw [← HKE.out]
        refine pfar_put HPA.out.ends ((HX.out gg hgg hf).blk (hk0.block M HP.out.ends.lt)) ⟨f1, t1, i1, ⟨p1, q1, l1, wt1, fl1⟩, gm1, gp1, gl1⟩ A2 c2 HR0.out.1 HR0.out.2 ((sl_own HO3.out).below (below_drew (Below.refl _ _))) Tryz.underlying58 hrun ?_
        intro _ b2 off2 hA2
        have h9 := own_blk_ge HO3.out b2 (by rw [hA2]; rfl)
        have h8 := HU.out.size
        omega)
      have HPA8 : Hid (PortAt w8 P M nd inc bd (stk L (k + 1))) := hid ⟨(hO8.keep P hPM (lt_of_block hblk)).trans hblk, hE8⟩
      have HOW8 := hid (own_map (own_keep HO.out hk0) hmb hO8.keep)
      have HS8 := hid (own_map (own_keep HS.out hk0) hmb hO8.keep)
      have HO8 := hid ((HU.out.trans (Only.of_below hk0)).trans hO8)
      have hz8 := (hO8.keep Z hZM (lt_of_block hz0)).trans hz0
      have hblk8 := HPA8.out.blk
      simp only [ec] at hrun
      have HE8 := hid (encoded_any B ps.length d ps w8 (sl_own HP8.out) (by omega) HPB.out)
      clear HF HX HPA HP HO hE8 hO8 hPM hZM hmb HS HU hb23 hb3 hz3 HO3 HP3 HB2 HO2 HP2
      refine wp_region_held_drew (S := fun U => U.cell? ⟨P, 3, none⟩ = some (.map (some M)) ∧ (U.cell? ⟨Z, 0, none⟩ = some (.int .i64 f1) ∧ U.cell? ⟨Z, 1, none⟩ = some (.int .i64 t1) ∧ U.cell? ⟨Z, 2, none⟩ = some (.int .i64 i1) ∧ U.cell? ⟨Z, 3, none⟩ = some (.int .i64 p1) ∧ U.cell? ⟨Z, 4, none⟩ = some (.int .i64 q1) ∧ U.cell? ⟨Z, 5, none⟩ = some (.slice A2 l1.length c2) ∧ U.cell? ⟨Z, 6, none⟩ = some (.int .i64 wt1) ∧ U.cell? ⟨Z, 7, none⟩ = some (.int .i64 fl1) ∧ U.cell? ⟨Z, 8, none⟩ = some (.int .i64 gm1) ∧ U.cell? ⟨Z, 9, none⟩ = some (.int .i64 gp1) ∧ U.cell? ⟨Z, 10, none⟩ = some (.int .i64 gl1))) (by kernel_rfl) (hS _ hblk hz0) (fun hHeld => ?_)
      clear hk0
      generalize w3.drew = k0 at *
      refine tkA 0 ?_ rfl ?_ (by assumption) ?_; rotate_left; focus (intro U hU; (try dsimp only at hU); go_simp; try (with_reducible rfl))
      simp only [gt6, Act.put]
      refine tkA 1 ?_ rfl ?_ (by assumption) ?_; rotate_left; focus (intro U hU; (try dsimp only at hU); go_simp; try (with_reducible rfl))
      simp only [gt6, Act.put]
      refine tkA 2 ?_ rfl ?_ (by assumption) ?_; rotate_left; focus (intro U hU; (try dsimp only at hU); go_simp; try (with_reducible rfl))
      simp only [gt6, Act.put]
      refine tkA 3 ?_ rfl ?_ (by assumption) ?_; rotate_left; focus (intro U hU; (try dsimp only at hU); go_simp; try (with_reducible rfl))
      simp only [gt6, Act.put]
      refine tkA 4 ?_ rfl ?_ (by assumption) ?_; rotate_left; focus (intro U hU; (try dsimp only at hU); go_simp; try (with_reducible rfl))
      simp only [gt6, Act.put]
      refine tkA 5 ?_ rfl ?_ (by assumption) ?_; rotate_left; focus (intro U hU; (try dsimp only at hU); go_simp; try (with_reducible rfl))
      simp only [gt6, Act.put]
      refine wpAnyH_ready (rs := [6]) (by kernel_rfl) (by simp) ?_
      refine AllReadyH.cons rfl (fun K hK => ?_) AllReadyH.nil
      simp only [gt3]
      go_simp
      refine hK.out _ _ ?_ (fun hHeld2 => ?_)
      focus
        exact hS _ hblk8 hz8
      clear hHeld
      have hHeld := hHeld2
      clear hHeld2 hK K
      try simp only [gt6, Act.put]
      refine wpAnyH_done (by kernel_rfl) ?_ _
      clear hHeld hS hblk hz0 hz8 hblk8 hrun
      go_wp2_with fail
      refine HE8.out.mono ?_
      rintro qe w9 ⟨v5, rfl, ho9, hb9⟩
      obtain ⟨A5, c5, rfl, -⟩ := Sl.of_own ho9
      have HT9 := hid (sl_own ho9)
      have HPA9 := hid (HPA8.out.below hb9)
      have HS9 := hid (own_keep HS8.out hb9)
      have HF9 : Hid (∀ gg, u3.ownBlock = some gg → PFar w9 M (stk L (k + 1)) gg) := hid (fun gg hgg => (HF8.out gg hgg).blk (hb9.block M HPA8.out.ends.lt))
      have HOW9 := hid (own_keep HOW8.out hb9)
      have HO9 := hid (HO8.out.trans (Only.of_below hb9))
      have hsz9 := HO9.out.size
      have hM9 := HPA9.out.ends.lt
      have HX9 := hid (fun gg (h1 : gg < W.heap.size) (h2 : PFar W M L gg) => (HX8.out gg h1 h2).blk (hb9.block M HPA8.out.ends.lt))
      clear ho9 hb9 HE8 HPA8 HS8 HOW8 HO8 HF8 HX8
      have hw : IntKind.i64.wrap ((k : Int) + 1) = (k : Int) + 1 := IntWalk.i64_in _ (by omega)
      have htl : tx.length ≤ k := hxl
      go_wp2_with (at_builtin; refine wpList_append_slw rfl (.tmp 33) (.tmp 35) 33 rfl W.heap.size 9 Tryz.underlying33 info_str rfl (by omega) rfl HOW9.out rfl HT9.out (scells_one _) ?c1 ?c2 hsz9 ?_)
      case c1 => unfold maxLen; omega
      case c2 => omega
      · intro v' w4 h2 h3 h4
        have HO3 := hid h2
        have HPA4 := hid (HPA9.out.tch HOW9.out HF9.out h3)
        have HMM := hid (h3.keep M (fun e => by
          obtain ⟨es, clock, hm⟩ := HPA9.out.ends.block
          obtain ⟨_, _, cur, h9⟩ := own_lt HOW9.out M e
          rw [hm] at h9
          cases h9) hM9)
        have HS4 := hid (h3.own HS9.out (fun g hg => own_apart HS9.out HOW9.out (by decide) g hg))
        have HU4 := hid (HO9.out.grow (h3.below W.heap.size (fun g hg _ => (own_lt HOW9.out g hg).1) hsz9))
        have HF4 : Hid (∀ gg, v'.ownBlock = some gg → PFar w4 M (stk L (k + 1)) gg) := hid (by
          intro gg hgg
          rcases h4 with h5 | h5
          · exact (HF9.out gg (h5 ▸ hgg)).blk HMM.out
          · exact (HPA9.out.ends.far (h5 gg hgg)).blk HMM.out)
        have HX4 := hid (fun gg (h1 : gg < W.heap.size) (h2 : PFar W M L gg) => (HX9.out gg h1 h2).blk HMM.out)
        clear h2 h3 h4 HMM
        go_wp2
        go_roundw
        case rel =>
          refine ⟨k + 1, by omega, by go_num, HPA4.out, ?_, HS4.out, HU4.out, HF4.out, HX4.out⟩
          rw [HTX.out, List.length_append, scells_append, List.length_map]
          exact HO3.out
        case measure => simp [intOf]; omega
    · have hge : ¬ (k : Int) < (L.length : Int) := by omega
      obtain rfl : k = L.length := by omega
      have hst : stk L L.length = (ptickV L).1 := by simp [stk, ptickV]
      have htx : txk L L.length = (ptickV L).2 := by simp [txk, ptickV]
      rw [hst] at HP HX
      rw [htx] at HO
      obtain ⟨A5, c5, rfl, -⟩ := Sl.of_own HO.out
      clear hst htx
      generalize ptickV L = rv at *
      go_wp2
      go_ret
      exact ⟨A5, c5, rfl, HO.out, HP.out, HU.out, HX.out⟩
end Go.Proofs.YtdphdodjidbngaaGreat

