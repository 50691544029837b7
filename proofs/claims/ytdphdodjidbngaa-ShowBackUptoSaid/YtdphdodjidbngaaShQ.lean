/- show: the text of a need: mathematics. -/
import Derived.Test.YtdphdodjidbngaaQNeeN
import Derived.Test.YtdphdodjidbngaaGaP
import Derived.Test.YtdphdodjidbngaaQNeeL
import Derived.Deep.RegionHeld3
namespace Go.Proofs.Ytdphdodjidbngaa
open Go.RowKit
set_option linter.unusedVariables false
set_option linter.unusedSimpArgs false

/-- In parentheses, if the operator is one of these. -/
def parS (op : Int) (ops : List Int) (s : List UInt8) : List UInt8 := if op ∈ ops then 40 :: (s ++ [41]) else s
/-- The text of a need. -/
def txt (T : List (List UInt8)) : Nt → List UInt8
  | .yes => [42]
  | .attr n => T.getD n.toNat []
  | .not t => 33 :: parS (lastN t).1 [4, 5] (txt T t)
  | .pair op a b => if op = 4 then (parS (lastN a).1 [5] (txt T a) ++ [32, 38, 32]) ++ parS (lastN b).1 [4, 5] (txt T b) else (parS (lastN a).1 [] (txt T a) ++ [32, 124, 32]) ++ parS (lastN b).1 [5] (txt T b)
theorem parS_len (op : Int) (ops : List Int) (s : List UInt8) : (parS op ops s).length ≤ s.length + 2 := by
  unfold parS
  split
  · simp
  · omega
theorem txt_len (T : List (List UInt8)) (h : ∀ s ∈ T, s.length ≤ 100) : ∀ t : Nt, (txt T t).length + 2 ≤ 107 * t.flat.length
  | .yes => by simp [txt, Nt.flat]
  | .attr n => by
    have h9 : (T.getD n.toNat []).length ≤ 100 := by
      rw [List.getD_eq_getElem?_getD]
      rcases Nat.lt_or_ge n.toNat T.length with h1 | h1
      · rw [List.getElem?_eq_getElem h1]
        exact h _ (List.getElem_mem h1)
      · rw [List.getElem?_eq_none h1]
        simp
    simp only [txt, Nt.flat, List.length_singleton]
    omega
  | .not t => by
    have h1 := txt_len T h t
    have h2 := parS_len (lastN t).1 [4, 5] (txt T t)
    simp only [txt, Nt.flat, List.length_append, List.length_singleton, List.length_cons]
    omega
  | .pair op a b => by
    have h1 := txt_len T h a
    have h2 := txt_len T h b
    simp only [txt, Nt.flat, List.length_append, List.length_singleton]
    split
    · have h3 := parS_len (lastN a).1 [5] (txt T a)
      have h4 := parS_len (lastN b).1 [4, 5] (txt T b)
      simp only [List.length_append, List.length_cons, List.length_nil]
      omega
    · have h3 := parS_len (lastN a).1 [] (txt T a)
      have h4 := parS_len (lastN b).1 [5] (txt T b)
      simp only [List.length_append, List.length_cons, List.length_nil]
      omega
/-- What it asks for lies in the table. -/
def inT (m : Nat) : Nt → Prop
  | .yes => True
  | .attr n => 0 ≤ n ∧ n.toNat < m
  | .not t => inT m t
  | .pair _ a b => inT m a ∧ inT m b
theorem str_cat (a b : List UInt8) : str a ++ str b = str (a ++ b) := bapp a b
end Go.Proofs.Ytdphdodjidbngaa

namespace Go.Proofs.Ytdphdodjidbngaa
open Go.RowKit
set_option linter.unusedVariables false
set_option linter.unusedSimpArgs false

theorem icells_at (k : IntKind) (l : List Int) (i : Nat) (h : i < l.length) : (icells k l)[i]? = some (.int k l[i]) := by simp [icells, h]
theorem Sl.ints {w : World} {A : Option Addr} {len cap : Nat} {k : IntKind} {l : List Int} (h : Sl w 1 A len cap (icells k l)) (i : Nat) (hi : i < l.length) : ∃ b off, A = some ⟨b, off, none⟩ ∧ w.cell? ⟨b, off + i, none⟩ = some (.int k l[i]) := by
  obtain ⟨b, off, hA, hc⟩ := h.2.2.2 (by simp [icells]; omega)
  exact ⟨b, off, hA, by rw [hc i (by simp [icells]; exact hi), icells_at k l i hi]⟩
theorem par_eq (s : List UInt8) : (⟨#[40]⟩ : ByteArray) ++ str s ++ (⟨#[41]⟩ : ByteArray) = str (40 :: (s ++ [41])) := by
  rw [show (⟨#[40]⟩ : ByteArray) = str [40] from rfl, show (⟨#[41]⟩ : ByteArray) = str [41] from rfl, str_cat, str_cat]
  rfl
set_option maxRecDepth 20000 in
set_option maxHeartbeats 2000000 in
theorem inner_step (TA : Option Addr) (tc tn : Nat) (T : List (List UInt8)) (t : Nt) (ops : List Int) (A : Option Addr) (cap : Nat) (O : Option Addr) (oc : Nat) (W : World) (hA : Sl W 2 A t.flat.length cap (pcells t.flat)) (hO : Sl W 1 O ops.length oc (icells .i64 ops)) (hl : t.flat.length ≤ 1000) (hs : (txt T t).length ≤ 1000000)
    (hT : Calls Try.prog 41 #[.slice TA tn tc, .slice A t.flat.length cap] W fun e w' => e = .returned (.string (str (txt T t))) ∧ Below W.heap.size W w') :
    Calls Try.prog 68 #[.slice TA tn tc, .slice A t.flat.length cap, .slice O ops.length oc] W fun e w' => e = .returned (.string (str (parS (lastN t).1 ops (txt T t)))) ∧ Below W.heap.size W w' := by
  have hp := t.flat_pos
  have HT := hid hT
  have HLS := hid (fun u (hu : Below W.heap.size W u) => (hA.below hu).at2 (t.flat.length - 1) (by omega))
  have HLA := hid (last_at t [] [] (t.flat.length - 1) (by simp; omega))
  have HOI := hid (fun u (hu : Below W.heap.size W u) k (hk : k < ops.length) => (hO.below hu).ints k hk)
  have hol : ops.length ≤ maxLen := Nat.le_trans hO.2.1 hO.2.2.1
  unfold maxLen at hol
  obtain ⟨op, hop⟩ : ∃ op, (lastN t).1 = op := ⟨_, rfl⟩
  have HL9 : Hid (∀ u, Below W.heap.size W u → ∃ b off, A = some ⟨b, off, none⟩ ∧ u.cell? ⟨b, off + (t.flat.length - 1) * 2, none⟩ = some (.int .i64 op)) := hid (fun u hu => by
    obtain ⟨b, off, h1, h2, _⟩ := HLS.out u hu
    obtain ⟨h3, h4⟩ := HLA.out
    simp only [List.nil_append, List.append_nil] at h4
    rw [h4, hop] at h2
    exact ⟨b, off, h1, h2⟩)
  rw [hop]
  have HV : Hid (∀ s, op ∈ ops → parS op ops s = 40 :: (s ++ [41])) := hid (fun s h => by unfold parS; rw [if_pos h])
  have HV2 : Hid (∀ s, (∀ k (hk : k < ops.length), ops[k] ≠ op) → parS op ops s = s) := hid (fun s h => by
    unfold parS
    rw [if_neg]
    intro h9
    obtain ⟨k, hk, h8⟩ := List.getElem_of_mem h9
    exact h k hk h8)
  clear hA hO hT HLS HLA hop
  generalize txt T t = s at *
  obtain ⟨R, hR⟩ : ∃ R, parS op ops s = R := ⟨_, rfl⟩
  have HR := hid hR
  rw [hR]
  clear hR
  obtain ⟨fl, hfl⟩ : ∃ fl, t.flat.length = fl + 1 := ⟨t.flat.length - 1, by omega⟩
  rw [hfl] at HT HL9 hl ⊢
  rw [Nat.add_sub_cancel] at HL9
  clear hfl hp
  go_enter Try.func68, Try.ntmps68
  go_wp2_with fail
  refine HT.out.mono ?_
  rintro e w1 ⟨rfl, hb⟩
  have HB := hid hb
  obtain ⟨bA, oA, hAe, q0⟩ := HL9.out w1 hb
  subst hAe
  clear hb HT HL9
  have hsz1 : (⟨#[40]⟩ : ByteArray).size + (str s).size ≤ 9223372036854775807 := by rw [str_size]; show 1 + s.length ≤ _; omega
  have hsz2 : ((⟨#[40]⟩ : ByteArray) ++ str s).size + (⟨#[41]⟩ : ByteArray).size ≤ 9223372036854775807 := by
    rw [show (⟨#[40]⟩ : ByteArray) = str [40] from rfl, str_cat, str_size]
    show (40 :: s).length + 1 ≤ _
    rw [List.length_cons]; omega
  go_wp2
  go_loopw [9, 15] (fun _ i wr => ∃ n : Nat, n ≤ ops.length ∧ i = .int .i64 (n : Int) ∧ Hid (∀ k (hk : k < ops.length), k < n → ops[k] ≠ op) ∧ wr = w1) (fun _ i _ => ops.length - (intOf i).toNat)
  case atStart => exact ⟨0, by omega, rfl, fun k hk h => absurd h (by omega), rfl⟩
  case round =>
    obtain ⟨n, hn9, rfl, HN, rfl⟩ := hrel
    by_cases hlt : n < ops.length
    · have hlt2 : (n : Int) < (ops.length : Int) := by omega
      have hn0 : ¬ (n : Int) < 0 := by omega
      obtain ⟨bO, oO, hOe, o0⟩ := HOI.out wr HB.out n hlt
      subst hOe
      have HMM := hid (List.getElem_mem hlt)
      have HN2 := hid (fun (h : ops[n] ≠ op) => show ∀ k (hk : k < ops.length), k < n + 1 → ops[k] ≠ op from fun k hk hkn => by
        rcases Nat.lt_or_ge k n with h1 | h1
        · exact HN.out k hk h1
        · obtain rfl : k = n := by omega
          exact h)
      generalize ops[n] = o at *
      by_cases ho : op = o
      · subst ho
        have HE : Hid (R = 40 :: (s ++ [41])) := hid (by rw [← HR.out]; exact HV.out s HMM.out)
        clear HN2 HMM
        go_wp2
        go_ret
        exact ⟨by rw [HE.out, ← par_eq]; rfl, HB.out⟩
      · have hoe : (op == o) = false := by simpa using ho
        have HN3 := hid (HN2.out (fun h => ho h.symm))
        clear HN2 HMM
        go_wp2
        go_roundw
        case rel => exact ⟨n + 1, by omega, by go_num, HN3.out, by trivial⟩
        case measure => simp [intOf]; omega
    · obtain rfl : n = ops.length := by omega
      have hge : ¬ (ops.length : Int) < (ops.length : Int) := by omega
      have HE : Hid (R = s) := hid (by rw [← HR.out]; exact HV2.out s (fun k hk => HN.out k hk hk))
      go_wp2
      go_ret
      exact ⟨by rw [HE.out]; rfl, HB.out⟩
end Go.Proofs.Ytdphdodjidbngaa

namespace Go.Proofs.Ytdphdodjidbngaa
open Go.RowKit
set_option linter.unusedVariables false
set_option linter.unusedSimpArgs false

theorem pls_one {ys : List Pl} {l : List (Int × Int)} (h : pls ys = [l]) : ∃ y, ys = [y] ∧ y.l = l := by
  rcases ys with _ | ⟨y, _ | ⟨z, zs⟩⟩
  · simp [pls] at h
  · exact ⟨y, rfl, by simpa [pls] using h⟩
  · simp [pls] at h
theorem pls_two {ys : List Pl} {l m : List (Int × Int)} (h : pls ys = [l, m]) : ∃ y z, ys = [y, z] ∧ y.l = l ∧ z.l = m := by
  rcases ys with _ | ⟨y, _ | ⟨z, _ | ⟨u, us⟩⟩⟩
  · simp [pls] at h
  · simp [pls] at h
  · exact ⟨y, z, rfl, by simpa [pls] using h⟩
  · simp [pls] at h
theorem txt_cell {w : World} {TA : Option Addr} {tc : Nat} {T : List (List UInt8)} (h : Sl w 1 TA T.length tc (scells T)) (n : Nat) (hn : n < T.length) : ∃ b off, TA = some ⟨b, off, none⟩ ∧ w.cell? ⟨b, off + n, none⟩ = some (.string (str (T.getD n []))) := by
  obtain ⟨b, off, hA, hc⟩ := Sl.at h n (by rw [scells_length]; exact hn)
  refine ⟨b, off, hA, ?_⟩
  rw [hc, List.getD_eq_getElem?_getD, List.getElem?_eq_getElem hn]
  simp [scells]
theorem lit1 {w : World} {e : TypeId} (a : Int) : Sl (w.alloc (.cells #[.int .i64 a] e)) 1 (some ⟨w.heap.size, 0, none⟩) 1 1 (icells .i64 [a]) := Sl.lit w e 1 1 #[.int .i64 a] rfl (by unfold maxLen; omega)
theorem lit2 {w : World} {e : TypeId} (a b : Int) : Sl (w.alloc (.cells #[.int .i64 a, .int .i64 b] e)) 1 (some ⟨w.heap.size, 0, none⟩) 2 2 (icells .i64 [a, b]) := Sl.lit w e 1 2 #[.int .i64 a, .int .i64 b] rfl (by unfold maxLen; omega)

set_option maxRecDepth 20000 in
set_option maxHeartbeats 8000000 in
theorem text_any (TA : Option Addr) (tc : Nat) (T : List (List UInt8)) (h100 : ∀ s ∈ T, s.length ≤ 100) (hTl : T.length ≤ 1000) :
    ∀ (t : Nt) (A : Option Addr) (cap : Nat) (W : World), Sl W 1 TA T.length tc (scells T) → Sl W 2 A t.flat.length cap (pcells t.flat) → t.wf → inT T.length t → t.flat.length ≤ 31 → t.depth ≤ 8 →
    Calls Try.prog 41 #[.slice TA T.length tc, .slice A t.flat.length cap] W fun e w' => e = .returned (.string (str (txt T t))) ∧ Below W.heap.size W w' := by
  intro t
  have HTL := hid (fun t => txt_len T h100 t)
  have HTN := hid hTl
  clear h100 hTl
  induction t with
  | yes =>
    intro A cap W hT hA hwf hin hfl hdp
    have HT := hid (fun u (hu : Below W.heap.size W u) => hT.below hu)
    have hp := Nt.flat_pos (Nt.yes)
    have HPA := hid (fun u (hu : Below W.heap.size W u) => nparts_any A cap (Nt.yes).flat u (hA.below hu) (by omega))
    rw [partsN_tree hwf (by rw [chkN_tree hwf, if_neg (by omega), if_neg (by omega)])] at HPA
    obtain ⟨bA, oA, hAe, hc0, hc1⟩ := hA.at2 ((Nt.yes).flat.length - 1) (by omega)
    obtain ⟨h3, h4⟩ := last_at (Nt.yes) [] [] ((Nt.yes).flat.length - 1) (by simp; omega)
    simp only [List.nil_append, List.append_nil] at h4
    rw [h4] at hc0 hc1
    simp only [lastN] at hc0 hc1
    subst hAe
    obtain ⟨fl, hfe⟩ : ∃ fl, (Nt.yes).flat.length = fl + 1 := ⟨(Nt.yes).flat.length - 1, by omega⟩
    rw [hfe] at HPA hc0 hc1 ⊢
    rw [Nat.add_sub_cancel] at hc0 hc1
    clear hp h3 h4 hA hT
    go_enter Try.func41, Try.ntmps41
    go_upto_region 2 with (fail)
    refine at_world (fun u => u.heap[W.heap.size]? = some (.cells #[.int .i64 1, .int .i64 0] 77 (0, 0)) ∧ Below W.heap.size W u) ⟨heap_alloc_new _ _, bel_alloc (Below.refl _ _) _⟩ ?_
    clear hc0 hc1
    rintro w1 ⟨hx, hb⟩
    have HX1 := hid hx
    have HB1 := hid hb
    clear hx hb
    generalize hX : W.heap.size = X at HX1
    clear hX
    go_wp2_with fail
    refine (HPA.out w1 HB1.out).mono ?_
    rintro e w2 ⟨A', c', ys, hys, rfl, hls, hb⟩
    have HB2 := hid (HB1.out.trans (hb.mono HB1.out.size))
    have HX2 := hid (keep0 HX1.out hb)
    have HLS := hid hls
    clear hb hls HB1 HX1 HPA
    obtain ⟨p0, p1, _, _⟩ := two_cells HX2.out
    clear HLS hys
    generalize ys.length = yl at *
    go_wp2
    go_ret
    exact ⟨rfl, HB2.out⟩
  | attr n =>
    intro A cap W hT hA hwf hin hfl hdp
    have HT := hid (fun u (hu : Below W.heap.size W u) => hT.below hu)
    have hp := Nt.flat_pos (Nt.attr n)
    have HPA := hid (fun u (hu : Below W.heap.size W u) => nparts_any A cap (Nt.attr n).flat u (hA.below hu) (by omega))
    rw [partsN_tree hwf (by rw [chkN_tree hwf, if_neg (by omega), if_neg (by omega)])] at HPA
    obtain ⟨bA, oA, hAe, hc0, hc1⟩ := hA.at2 ((Nt.attr n).flat.length - 1) (by omega)
    obtain ⟨h3, h4⟩ := last_at (Nt.attr n) [] [] ((Nt.attr n).flat.length - 1) (by simp; omega)
    simp only [List.nil_append, List.append_nil] at h4
    rw [h4] at hc0 hc1
    simp only [lastN] at hc0 hc1
    subst hAe
    obtain ⟨fl, hfe⟩ : ∃ fl, (Nt.attr n).flat.length = fl + 1 := ⟨(Nt.attr n).flat.length - 1, by omega⟩
    rw [hfe] at HPA hc0 hc1 ⊢
    rw [Nat.add_sub_cancel] at hc0 hc1
    obtain ⟨k, rfl⟩ := Int.eq_ofNat_of_zero_le hin.1
    have hk : k < T.length := by have := hin.2; rwa [Int.toNat_natCast] at this
    have hk2 : (k : Int) < (T.length : Int) := by omega
    clear hp h3 h4 hA hT
    go_enter Try.func41, Try.ntmps41
    go_upto_region 2 with (fail)
    refine at_world (fun u => u.heap[W.heap.size]? = some (.cells #[.int .i64 2, .int .i64 (k : Int)] 77 (0, 0)) ∧ Below W.heap.size W u) ⟨heap_alloc_new _ _, bel_alloc (Below.refl _ _) _⟩ ?_
    clear hc0 hc1
    rintro w1 ⟨hx, hb⟩
    have HX1 := hid hx
    have HB1 := hid hb
    clear hx hb
    generalize hX : W.heap.size = X at HX1
    clear hX
    go_wp2_with fail
    refine (HPA.out w1 HB1.out).mono ?_
    rintro e w2 ⟨A', c', ys, hys, rfl, hls, hb⟩
    have HB2 := hid (HB1.out.trans (hb.mono HB1.out.size))
    have HX2 := hid (keep0 HX1.out hb)
    have HLS := hid hls
    clear hb hls HB1 HX1 HPA
    obtain ⟨p0, p1, _, _⟩ := two_cells HX2.out
    clear HLS hys
    generalize ys.length = yl at *
    obtain ⟨bT, oT, hTe, t0⟩ := txt_cell (HT.out w2 HB2.out) k hk
    subst hTe
    obtain ⟨sx, hsx⟩ : ∃ sx, T.getD k [] = sx := ⟨_, rfl⟩
    have HTX : Hid (txt T (.attr (k : Int)) = sx) := hid (by rw [txt, Int.toNat_natCast, hsx])
    rw [hsx] at t0
    clear hsx
    go_wp2
    go_ret
    exact ⟨by rw [HTX.out]; rfl, HB2.out⟩
  | not t ih =>
    intro A cap W hT hA hwf hin hfl hdp
    have HT := hid (fun u (hu : Below W.heap.size W u) => hT.below hu)
    have hp := Nt.flat_pos (Nt.not t)
    have HPA := hid (fun u (hu : Below W.heap.size W u) => nparts_any A cap (Nt.not t).flat u (hA.below hu) (by omega))
    rw [partsN_tree hwf (by rw [chkN_tree hwf, if_neg (by omega), if_neg (by omega)])] at HPA
    obtain ⟨bA, oA, hAe, hc0, hc1⟩ := hA.at2 ((Nt.not t).flat.length - 1) (by omega)
    obtain ⟨h3, h4⟩ := last_at (Nt.not t) [] [] ((Nt.not t).flat.length - 1) (by simp; omega)
    simp only [List.nil_append, List.append_nil] at h4
    rw [h4] at hc0 hc1
    simp only [lastN] at hc0 hc1
    subst hAe
    obtain ⟨fl, hfe⟩ : ∃ fl, (Nt.not t).flat.length = fl + 1 := ⟨(Nt.not t).flat.length - 1, by omega⟩
    rw [hfe] at HPA hc0 hc1 ⊢
    rw [Nat.add_sub_cancel] at hc0 hc1
    have hft : t.flat.length ≤ 31 ∧ t.depth ≤ 8 := by
      simp only [Nt.flat, List.length_append, List.length_singleton, Nt.depth] at hfl hdp
      omega
    have HIN := hid (fun u (hu : Below W.heap.size W u) (A : Option Addr) (c : Nat) (hA : Sl u 2 A t.flat.length c (pcells t.flat)) (O : Option Addr) (oc : Nat) (hO : Sl u 1 O 2 oc (icells .i64 [4, 5])) => inner_step TA tc T.length T t [4, 5] A c O oc u hA hO (by omega) (by have := HTL.out t; omega) (ih A c u (HT.out u hu) hA hwf hin hft.1 hft.2))
    have HLR := hid (show (parS (lastN t).1 [4, 5] (txt T t)).length ≤ 10000 from by have h8 := parS_len (lastN t).1 [4, 5] (txt T t); have h9 := HTL.out t; omega)
    have HTX : Hid (txt T (.not t) = 33 :: parS (lastN t).1 [4, 5] (txt T t)) := hid rfl
    obtain ⟨RR, hRR⟩ : ∃ RR, txt T (.not t) = RR := ⟨_, rfl⟩
    rw [hRR] at HTX ⊢
    clear hRR ih
    generalize parS (lastN t).1 [4, 5] (txt T t) = r at *
    clear hp h3 h4 hA hT
    go_enter Try.func41, Try.ntmps41
    go_upto_region 2 with (fail)
    refine at_world (fun u => u.heap[W.heap.size]? = some (.cells #[.int .i64 3, .int .i64 0] 77 (0, 0)) ∧ Below W.heap.size W u) ⟨heap_alloc_new _ _, bel_alloc (Below.refl _ _) _⟩ ?_
    clear hc0 hc1
    rintro w1 ⟨hx, hb⟩
    have HX1 := hid hx
    have HB1 := hid hb
    clear hx hb
    generalize hX : W.heap.size = X at HX1
    clear hX
    go_wp2_with fail
    refine (HPA.out w1 HB1.out).mono ?_
    rintro e w2 ⟨A', c', ys, hys, rfl, hls, hb⟩
    have HB2 := hid (HB1.out.trans (hb.mono HB1.out.size))
    have HX2 := hid (keep0 HX1.out hb)
    have HLS := hid hls
    clear hb hls HB1 HX1 HPA
    obtain ⟨p0, p1, _, _⟩ := two_cells HX2.out
    simp only [Nt.kids, List.map_cons, List.map_nil] at hys
    obtain ⟨y, rfl, hy⟩ := pls_one hys
    obtain ⟨by', oy, hAy, c0, hsy⟩ := HLS.out.get 0 (by simp)
    subst hAy
    simp only [List.getElem_cons_zero, Nat.add_zero] at c0 hsy
    rw [hy] at c0 hsy
    clear hys hy
    obtain ⟨yl, yA, yc⟩ := y
    simp only at c0 hsy
    have HSY := hid hsy
    clear hsy HLS
    have hz : (⟨#[33]⟩ : ByteArray).size + (str r).size ≤ 9223372036854775807 := by have := HLR.out; rw [str_size]; show 1 + r.length ≤ _; omega
    try simp only [List.length_singleton] at *
    go_wp2_with fail
    have hal := bel_alloc (Below.refl _ w2) (.cells #[.int .i64 4, .int .i64 5] 3)
    refine (HIN.out _ (HB2.out.trans (hal.mono HB2.out.size)) yA yc (HSY.out.below hal) _ _ (lit2 4 5)).mono ?_
    rintro e w3 ⟨rfl, hb⟩
    have HB3 := hid (HB2.out.trans ((hal.trans (hb.mono hal.size)).mono HB2.out.size))
    clear hal hb HIN HSY c0
    go_wp2
    go_ret
    exact ⟨by rw [HTX.out, show (⟨#[33]⟩ : ByteArray) = str [33] from rfl, str_cat]; rfl, HB3.out⟩
  | pair op a b iha ihb =>
    intro A cap W hT hA hwf hin hfl hdp
    have hfab : a.flat.length ≤ 31 ∧ b.flat.length ≤ 31 ∧ a.depth ≤ 8 ∧ b.depth ≤ 8 := by
      simp only [Nt.flat, List.length_append, List.length_singleton, Nt.depth] at hfl hdp
      omega
    rcases hwf.1 with rfl | rfl
    · skip
      have HT := hid (fun u (hu : Below W.heap.size W u) => hT.below hu)
      have hp := Nt.flat_pos (Nt.pair 4 a b)
      have HPA := hid (fun u (hu : Below W.heap.size W u) => nparts_any A cap (Nt.pair 4 a b).flat u (hA.below hu) (by omega))
      rw [partsN_tree hwf (by rw [chkN_tree hwf, if_neg (by omega), if_neg (by omega)])] at HPA
      obtain ⟨bA, oA, hAe, hc0, hc1⟩ := hA.at2 ((Nt.pair 4 a b).flat.length - 1) (by omega)
      obtain ⟨h3, h4⟩ := last_at (Nt.pair 4 a b) [] [] ((Nt.pair 4 a b).flat.length - 1) (by simp; omega)
      simp only [List.nil_append, List.append_nil] at h4
      rw [h4] at hc0 hc1
      simp only [lastN] at hc0 hc1
      subst hAe
      obtain ⟨fl, hfe⟩ : ∃ fl, (Nt.pair 4 a b).flat.length = fl + 1 := ⟨(Nt.pair 4 a b).flat.length - 1, by omega⟩
      rw [hfe] at HPA hc0 hc1 ⊢
      rw [Nat.add_sub_cancel] at hc0 hc1
      have HIA := hid (fun u (hu : Below W.heap.size W u) (A : Option Addr) (c : Nat) (hA : Sl u 2 A a.flat.length c (pcells a.flat)) (O : Option Addr) (oc : Nat) (hO : Sl u 1 O 1 oc (icells .i64 [5])) => inner_step TA tc T.length T a [5] A c O oc u hA hO (by omega) (by have := HTL.out a; omega) (iha A c u (HT.out u hu) hA hwf.2.1 hin.1 hfab.1 hfab.2.2.1))
      have HIB := hid (fun u (hu : Below W.heap.size W u) (A : Option Addr) (c : Nat) (hA : Sl u 2 A b.flat.length c (pcells b.flat)) (O : Option Addr) (oc : Nat) (hO : Sl u 1 O 2 oc (icells .i64 [4, 5])) => inner_step TA tc T.length T b [4, 5] A c O oc u hA hO (by omega) (by have := HTL.out b; omega) (ihb A c u (HT.out u hu) hA hwf.2.2 hin.2 hfab.2.1 hfab.2.2.2))
      have HLA := hid (show (parS (lastN a).1 [5] (txt T a)).length ≤ 10000 from by have h8 := parS_len (lastN a).1 [5] (txt T a); have h9 := HTL.out a; omega)
      have HLB := hid (show (parS (lastN b).1 [4, 5] (txt T b)).length ≤ 10000 from by have h8 := parS_len (lastN b).1 [4, 5] (txt T b); have h9 := HTL.out b; omega)
      have HTX : Hid (txt T (.pair 4 a b) = (parS (lastN a).1 [5] (txt T a) ++ [32, 38, 32]) ++ parS (lastN b).1 [4, 5] (txt T b)) := hid (by rw [txt]; first | rw [if_pos rfl] | rw [if_neg (by decide)])
      obtain ⟨RR, hRR⟩ : ∃ RR, txt T (.pair 4 a b) = RR := ⟨_, rfl⟩
      rw [hRR] at HTX ⊢
      clear hRR iha ihb
      generalize parS (lastN a).1 [5] (txt T a) = ra at *
      generalize parS (lastN b).1 [4, 5] (txt T b) = rb at *
      clear hp h3 h4 hA hT
      go_enter Try.func41, Try.ntmps41
      go_upto_region 2 with (fail)
      refine at_world (fun u => u.heap[W.heap.size]? = some (.cells #[.int .i64 4, .int .i64 0] 77 (0, 0)) ∧ Below W.heap.size W u) ⟨heap_alloc_new _ _, bel_alloc (Below.refl _ _) _⟩ ?_
      clear hc0 hc1
      rintro w1 ⟨hx, hb⟩
      have HX1 := hid hx
      have HB1 := hid hb
      clear hx hb
      generalize hX : W.heap.size = X at HX1
      clear hX
      go_wp2_with fail
      refine (HPA.out w1 HB1.out).mono ?_
      rintro e w2 ⟨A', c', ys, hys, rfl, hls, hb⟩
      have HB2 := hid (HB1.out.trans (hb.mono HB1.out.size))
      have HX2 := hid (keep0 HX1.out hb)
      have HLS := hid hls
      clear hb hls HB1 HX1 HPA
      obtain ⟨p0, p1, _, _⟩ := two_cells HX2.out
      simp only [Nt.kids, List.map_cons, List.map_nil] at hys
      obtain ⟨y, z, rfl, hy, hz⟩ := pls_two hys
      have HG0 := hid (fun u (hu : Below w2.heap.size w2 u) => (HLS.out.below hu).get 0 (by simp))
      have HG1 := hid (fun u (hu : Below w2.heap.size w2 u) => (HLS.out.below hu).get 1 (by simp))
      simp only [List.getElem_cons_zero, List.getElem_cons_succ] at HG0 HG1
      rw [hy] at HG0
      rw [hz] at HG1
      clear hys hy hz
      obtain ⟨yl, yA, yc⟩ := y
      obtain ⟨zl, zA, zc⟩ := z
      simp only at HG0 HG1
      obtain ⟨bp, op', hAp, _⟩ := HG0.out w2 (Below.refl _ _)
      subst hAp
      clear HLS
      have hz1 : (str ra).size + (⟨#[32, 38, 32]⟩ : ByteArray).size ≤ 9223372036854775807 := by have := HLA.out; rw [str_size]; show ra.length + 3 ≤ _; omega
      have hz2 : (str ra ++ (⟨#[32, 38, 32]⟩ : ByteArray)).size + (str rb).size ≤ 9223372036854775807 := by
        have h1 := HLA.out
        have h2 := HLB.out
        rw [show (⟨#[32, 38, 32]⟩ : ByteArray) = str [32, 38, 32] from rfl, str_cat, str_size, str_size, List.length_append]
        show ra.length + 3 + rb.length ≤ _
        omega
      have hz3 : ¬ 9223372036854775807 < (str ra).size + (⟨#[32, 38, 32]⟩ : ByteArray).size := by omega
      have hz4 : ¬ 9223372036854775807 < (str ra ++ (⟨#[32, 38, 32]⟩ : ByteArray)).size + (str rb).size := by omega
      have hz5 : ¬ 9223372036854775807 < (str ra).size + 3 := by have := HLA.out; rw [str_size]; omega
      have hz6 : ¬ 9223372036854775807 < (str ra).size + 3 + (str rb).size := by have := HLA.out; have := HLB.out; rw [str_size, str_size]; omega
      have hz7 : ¬ 9223372036854775807 < (str ra ++ (⟨#[32, 38, 32]⟩ : ByteArray)).size + rb.length := by rw [← str_size rb]; exact hz4
      try simp only [List.length_cons, List.length_nil] at *
      have hS : ∀ U, Below w2.heap.size w2 U → ((U.cell? ⟨bp, op', none⟩ = some (.slice yA a.flat.length yc) ∧ U.cell? ⟨bp, op' + 1, none⟩ = some (.slice zA b.flat.length zc)) ∧ Below w2.heap.size w2 U) := fun U hU => by
        obtain ⟨b1, o1, h1, h2, _⟩ := HG0.out U hU
        obtain ⟨b3, o3, h3, h4, _⟩ := HG1.out U hU
        cases h1
        cases h3
        exact ⟨⟨by simpa using h2, h4⟩, hU⟩
      have HSA := hid (fun U (hU : Below w2.heap.size w2 U) => show Sl U 2 yA a.flat.length yc (pcells a.flat) from by obtain ⟨_, _, _, _, h⟩ := HG0.out U hU; exact h)
      have HSB := hid (fun U (hU : Below w2.heap.size w2 U) => show Sl U 2 zA b.flat.length zc (pcells b.flat) from by obtain ⟨_, _, _, _, h⟩ := HG1.out U hU; exact h)
      clear HG0 HG1
      generalize a.flat.length = an at *
      generalize b.flat.length = bn at *
      go_upto_region 9 with (fail)
      clear p0 p1
      have hk : Below w2.heap.size w2 w2.drew := below_drew (Below.refl _ _)
      refine wp_region_held_drew (S := fun U => (U.cell? ⟨bp, op', none⟩ = some (.slice yA an yc) ∧ U.cell? ⟨bp, op' + 1, none⟩ = some (.slice zA bn zc)) ∧ Below w2.heap.size w2 U) (by kernel_rfl) (hS _ hk) (fun hHeld => ?_)
      generalize w2.drew = w0 at *
      refine wpAnyH_take (i := 0) (v := ?_) rfl (by kernel_rfl) (by kernel_rfl) (by kernel_rfl) (fun _ _ _ h => h) (Or.inl ⟨by rfl, ?_⟩) (by assumption) ?_
      rotate_left
      focus
        intro U hU
        try dsimp only at hU
        go_simp
        try (with_reducible rfl)
      try simp only [List.getElem_toArray, List.getElem_cons_succ, List.getElem_cons_zero, Act.put, List.setIfInBounds_toArray, List.set_cons_zero, List.set_cons_succ]
      refine wpAnyH_take (i := 1) (v := ?_) rfl (by kernel_rfl) (by kernel_rfl) (by kernel_rfl) (fun _ _ _ h => h) (Or.inl ⟨by rfl, ?_⟩) (by assumption) ?_
      rotate_left
      focus
        intro U hU
        try dsimp only at hU
        go_simp
        try (with_reducible rfl)
      try simp only [List.getElem_toArray, List.getElem_cons_succ, List.getElem_cons_zero, Act.put, List.setIfInBounds_toArray, List.set_cons_zero, List.set_cons_succ]
      refine wpAnyH_take (i := 2) (v := ?_) rfl (by kernel_rfl) (by kernel_rfl) (by kernel_rfl) (fun _ _ _ h => h) (Or.inl ⟨by rfl, ?_⟩) (by assumption) ?_
      rotate_left
      focus
        intro U hU
        try dsimp only at hU
        go_simp
        try (with_reducible rfl)
      try simp only [List.getElem_toArray, List.getElem_cons_succ, List.getElem_cons_zero, Act.put, List.setIfInBounds_toArray, List.set_cons_zero, List.set_cons_succ]
      refine wpAnyH_take (i := 3) (v := ?_) rfl (by kernel_rfl) (by kernel_rfl) (by kernel_rfl) (fun _ _ _ h => h) (Or.inl ⟨by rfl, ?_⟩) (by assumption) ?_
      rotate_left
      focus
        intro U hU
        try dsimp only at hU
        go_simp
        try (with_reducible rfl)
      try simp only [List.getElem_toArray, List.getElem_cons_succ, List.getElem_cons_zero, Act.put, List.setIfInBounds_toArray, List.set_cons_zero, List.set_cons_succ]
      refine wpAnyH_take (i := 7) (v := ?_) rfl (by kernel_rfl) (by kernel_rfl) (by kernel_rfl) (fun _ _ _ h => h) (Or.inl ⟨by rfl, ?_⟩) (by assumption) ?_
      rotate_left
      focus
        intro U hU
        try dsimp only at hU
        go_simp
        try (with_reducible rfl)
      try simp only [List.getElem_toArray, List.getElem_cons_succ, List.getElem_cons_zero, Act.put, List.setIfInBounds_toArray, List.set_cons_zero, List.set_cons_succ]
      refine wpAnyH_take (i := 8) (v := ?_) rfl (by kernel_rfl) (by kernel_rfl) (by kernel_rfl) (fun _ _ _ h => h) (Or.inl ⟨by rfl, ?_⟩) (by assumption) ?_
      rotate_left
      focus
        intro U hU
        try dsimp only at hU
        go_simp
        try (with_reducible rfl)
      try simp only [List.getElem_toArray, List.getElem_cons_succ, List.getElem_cons_zero, Act.put, List.setIfInBounds_toArray, List.set_cons_zero, List.set_cons_succ]
      refine wpAnyH_take (i := 9) (v := ?_) rfl (by kernel_rfl) (by kernel_rfl) (by kernel_rfl) (fun _ _ _ h => h) (Or.inl ⟨by rfl, ?_⟩) (by assumption) ?_
      rotate_left
      focus
        intro U hU
        try dsimp only at hU
        go_simp
        try (with_reducible rfl)
      try simp only [List.getElem_toArray, List.getElem_cons_succ, List.getElem_cons_zero, Act.put, List.setIfInBounds_toArray, List.set_cons_zero, List.set_cons_succ]
      refine wpAnyH_take (i := 10) (v := ?_) rfl (by kernel_rfl) (by kernel_rfl) (by kernel_rfl) (fun _ _ _ h => h) (Or.inl ⟨by rfl, ?_⟩) (by assumption) ?_
      rotate_left
      focus
        intro U hU
        try dsimp only at hU
        go_simp
        try (with_reducible rfl)
      try simp only [List.getElem_toArray, List.getElem_cons_succ, List.getElem_cons_zero, Act.put, List.setIfInBounds_toArray, List.set_cons_zero, List.set_cons_succ]
      refine wpAnyH_ready (rs := [4, 11]) (by kernel_rfl) (by simp) ?_
      refine (AllReadyH.cons rfl (fun K hK => ?_) (AllReadyH.cons rfl (fun K hK => ?_) AllReadyH.nil))
      · skip
        have hbs : Below (World.heap w0).size w0 (World.alloc w0 (.cells #[.int .i64 5] 3)) := bel_alloc (Below.refl _ _) _
        have HL5 := hid (lit1 (w := w0) (e := 3) 5)
        have hk9 := hk.trans (hbs.mono hk.size)
        clear hbs
        try simp only [List.getElem_toArray, List.getElem_cons_succ, List.getElem_cons_zero]
        go_simp
        refine hK.out _ _ ?_ (fun hHeld2 => ?_)
        focus
          exact hS _ hk9
        clear hHeld
        have hHeld := hHeld2
        clear hHeld2 hK K
        try simp only [List.getElem_toArray, List.getElem_cons_succ, List.getElem_cons_zero, Act.put, List.setIfInBounds_toArray, List.set_cons_zero, List.set_cons_succ]
        replace hk := hk9
        clear hk9
        generalize (World.alloc w0 (.cells #[.int .i64 5] 3)) = k1 at *
        generalize hxx : (World.heap w0).size = X1 at HL5 ⊢
        clear hxx
        refine wpAnyH_ready (rs := [5, 11]) (by kernel_rfl) (by simp) ?_
        refine (AllReadyH.cons rfl (fun K hK => ?_) (AllReadyH.cons rfl (fun K hK => ?_) AllReadyH.nil))
        · skip
          try simp only [List.getElem_toArray, List.getElem_cons_succ, List.getElem_cons_zero]
          go_simp
          refine (HIA.out _ (HB2.out.trans (hk.mono HB2.out.size)) yA yc (HSA.out _ hk) _ _ HL5.out).mono ?_
          rintro q k2 ⟨rfl, hb⟩
          replace HL5 := hid (HL5.out.below hb)
          have hk9 := hk.trans (hb.mono hk.size)
          clear hb
          go_wp2_with fail
          refine hK.out _ _ ?_ (fun hHeld2 => ?_)
          focus
            exact hS _ hk9
          clear hHeld
          have hHeld := hHeld2
          clear hHeld2 hK K
          try simp only [List.getElem_toArray, List.getElem_cons_succ, List.getElem_cons_zero, Act.put, List.setIfInBounds_toArray, List.set_cons_zero, List.set_cons_succ]
          replace hk := hk9
          clear hk9
          refine wpAnyH_take (i := 6) (v := ?_) rfl (by kernel_rfl) (by kernel_rfl) (by kernel_rfl) (fun _ _ _ h => h) (Or.inl ⟨by rfl, ?_⟩) (by assumption) ?_
          rotate_left
          focus
            intro U hU
            try dsimp only at hU
            go_simp
            try (with_reducible rfl)
          try simp only [List.getElem_toArray, List.getElem_cons_succ, List.getElem_cons_zero, Act.put, List.setIfInBounds_toArray, List.set_cons_zero, List.set_cons_succ]
          refine wpAnyH_ready (rs := [11]) (by kernel_rfl) (by simp) ?_
          refine (AllReadyH.cons rfl (fun K hK => ?_) AllReadyH.nil)
          have hbs : Below (World.heap k2).size k2 (World.alloc k2 (.cells #[.int .i64 4, .int .i64 5] 3)) := bel_alloc (Below.refl _ _) _
          have HL45 := hid (lit2 (w := k2) (e := 3) 4 5)
          replace HL5 := hid (HL5.out.below hbs)
          have hk9 := hk.trans (hbs.mono hk.size)
          clear hbs
          try simp only [List.getElem_toArray, List.getElem_cons_succ, List.getElem_cons_zero]
          go_simp
          refine hK.out _ _ ?_ (fun hHeld2 => ?_)
          focus
            exact hS _ hk9
          clear hHeld
          have hHeld := hHeld2
          clear hHeld2 hK K
          try simp only [List.getElem_toArray, List.getElem_cons_succ, List.getElem_cons_zero, Act.put, List.setIfInBounds_toArray, List.set_cons_zero, List.set_cons_succ]
          replace hk := hk9
          clear hk9
          generalize (World.alloc k2 (.cells #[.int .i64 4, .int .i64 5] 3)) = k3 at *
          generalize hxx : (World.heap k2).size = X3 at HL45 ⊢
          clear hxx
          refine wpAnyH_ready (rs := [12]) (by kernel_rfl) (by simp) ?_
          refine (AllReadyH.cons rfl (fun K hK => ?_) AllReadyH.nil)
          try simp only [List.getElem_toArray, List.getElem_cons_succ, List.getElem_cons_zero]
          go_simp
          refine (HIB.out _ (HB2.out.trans (hk.mono HB2.out.size)) zA zc (HSB.out _ hk) _ _ HL45.out).mono ?_
          rintro q k4 ⟨rfl, hb⟩
          replace HL45 := hid (HL45.out.below hb)
          replace HL5 := hid (HL5.out.below hb)
          have hk9 := hk.trans (hb.mono hk.size)
          clear hb
          go_wp2_with fail
          refine hK.out _ _ ?_ (fun hHeld2 => ?_)
          focus
            exact hS _ hk9
          clear hHeld
          have hHeld := hHeld2
          clear hHeld2 hK K
          try simp only [List.getElem_toArray, List.getElem_cons_succ, List.getElem_cons_zero, Act.put, List.setIfInBounds_toArray, List.set_cons_zero, List.set_cons_succ]
          replace hk := hk9
          clear hk9
          refine wpAnyH_take (i := 13) (v := ?_) rfl (by kernel_rfl) (by kernel_rfl) (by kernel_rfl) (fun _ _ _ h => h) (Or.inl ⟨by rfl, ?_⟩) (by assumption) ?_
          rotate_left
          focus
            intro U hU
            try dsimp only at hU
            go_simp
            try (with_reducible rfl)
          try simp only [List.getElem_toArray, List.getElem_cons_succ, List.getElem_cons_zero, Act.put, List.setIfInBounds_toArray, List.set_cons_zero, List.set_cons_succ]
          refine wpAnyH_take (i := 14) (v := ?_) rfl (by kernel_rfl) (by kernel_rfl) (by kernel_rfl) (fun _ _ _ h => h) (Or.inl ⟨by rfl, ?_⟩) (by assumption) ?_
          rotate_left
          focus
            intro U hU
            try dsimp only at hU
            go_simp
            try (with_reducible rfl)
          try simp only [List.getElem_toArray, List.getElem_cons_succ, List.getElem_cons_zero, Act.put, List.setIfInBounds_toArray, List.set_cons_zero, List.set_cons_succ]
          refine wpAnyH_done (by kernel_rfl) ?_ _
          clear hHeld hS HSA HSB HIA HIB
          have HBF := hid (HB2.out.trans (hk.mono HB2.out.size))
          clear hk
          go_wp2
          go_ret
          exact ⟨by rw [HTX.out, show (⟨#[32, 38, 32]⟩ : ByteArray) = str [32, 38, 32] from rfl, str_cat, str_cat]; rfl, HBF.out⟩
        · skip
          have hbs : Below (World.heap k1).size k1 (World.alloc k1 (.cells #[.int .i64 4, .int .i64 5] 3)) := bel_alloc (Below.refl _ _) _
          have HL45 := hid (lit2 (w := k1) (e := 3) 4 5)
          replace HL5 := hid (HL5.out.below hbs)
          have hk9 := hk.trans (hbs.mono hk.size)
          clear hbs
          try simp only [List.getElem_toArray, List.getElem_cons_succ, List.getElem_cons_zero]
          go_simp
          refine hK.out _ _ ?_ (fun hHeld2 => ?_)
          focus
            exact hS _ hk9
          clear hHeld
          have hHeld := hHeld2
          clear hHeld2 hK K
          try simp only [List.getElem_toArray, List.getElem_cons_succ, List.getElem_cons_zero, Act.put, List.setIfInBounds_toArray, List.set_cons_zero, List.set_cons_succ]
          replace hk := hk9
          clear hk9
          generalize (World.alloc k1 (.cells #[.int .i64 4, .int .i64 5] 3)) = k5 at *
          generalize hxx : (World.heap k1).size = X5 at HL45 ⊢
          clear hxx
          refine wpAnyH_ready (rs := [5]) (by kernel_rfl) (by simp) ?_
          refine (AllReadyH.cons rfl (fun K hK => ?_) AllReadyH.nil)
          try simp only [List.getElem_toArray, List.getElem_cons_succ, List.getElem_cons_zero]
          go_simp
          refine (HIA.out _ (HB2.out.trans (hk.mono HB2.out.size)) yA yc (HSA.out _ hk) _ _ HL5.out).mono ?_
          rintro q k6 ⟨rfl, hb⟩
          replace HL45 := hid (HL45.out.below hb)
          replace HL5 := hid (HL5.out.below hb)
          have hk9 := hk.trans (hb.mono hk.size)
          clear hb
          go_wp2_with fail
          refine hK.out _ _ ?_ (fun hHeld2 => ?_)
          focus
            exact hS _ hk9
          clear hHeld
          have hHeld := hHeld2
          clear hHeld2 hK K
          try simp only [List.getElem_toArray, List.getElem_cons_succ, List.getElem_cons_zero, Act.put, List.setIfInBounds_toArray, List.set_cons_zero, List.set_cons_succ]
          replace hk := hk9
          clear hk9
          refine wpAnyH_take (i := 6) (v := ?_) rfl (by kernel_rfl) (by kernel_rfl) (by kernel_rfl) (fun _ _ _ h => h) (Or.inl ⟨by rfl, ?_⟩) (by assumption) ?_
          rotate_left
          focus
            intro U hU
            try dsimp only at hU
            go_simp
            try (with_reducible rfl)
          try simp only [List.getElem_toArray, List.getElem_cons_succ, List.getElem_cons_zero, Act.put, List.setIfInBounds_toArray, List.set_cons_zero, List.set_cons_succ]
          refine wpAnyH_ready (rs := [12]) (by kernel_rfl) (by simp) ?_
          refine (AllReadyH.cons rfl (fun K hK => ?_) AllReadyH.nil)
          try simp only [List.getElem_toArray, List.getElem_cons_succ, List.getElem_cons_zero]
          go_simp
          refine (HIB.out _ (HB2.out.trans (hk.mono HB2.out.size)) zA zc (HSB.out _ hk) _ _ HL45.out).mono ?_
          rintro q k7 ⟨rfl, hb⟩
          replace HL45 := hid (HL45.out.below hb)
          replace HL5 := hid (HL5.out.below hb)
          have hk9 := hk.trans (hb.mono hk.size)
          clear hb
          go_wp2_with fail
          refine hK.out _ _ ?_ (fun hHeld2 => ?_)
          focus
            exact hS _ hk9
          clear hHeld
          have hHeld := hHeld2
          clear hHeld2 hK K
          try simp only [List.getElem_toArray, List.getElem_cons_succ, List.getElem_cons_zero, Act.put, List.setIfInBounds_toArray, List.set_cons_zero, List.set_cons_succ]
          replace hk := hk9
          clear hk9
          refine wpAnyH_take (i := 13) (v := ?_) rfl (by kernel_rfl) (by kernel_rfl) (by kernel_rfl) (fun _ _ _ h => h) (Or.inl ⟨by rfl, ?_⟩) (by assumption) ?_
          rotate_left
          focus
            intro U hU
            try dsimp only at hU
            go_simp
            try (with_reducible rfl)
          try simp only [List.getElem_toArray, List.getElem_cons_succ, List.getElem_cons_zero, Act.put, List.setIfInBounds_toArray, List.set_cons_zero, List.set_cons_succ]
          refine wpAnyH_take (i := 14) (v := ?_) rfl (by kernel_rfl) (by kernel_rfl) (by kernel_rfl) (fun _ _ _ h => h) (Or.inl ⟨by rfl, ?_⟩) (by assumption) ?_
          rotate_left
          focus
            intro U hU
            try dsimp only at hU
            go_simp
            try (with_reducible rfl)
          try simp only [List.getElem_toArray, List.getElem_cons_succ, List.getElem_cons_zero, Act.put, List.setIfInBounds_toArray, List.set_cons_zero, List.set_cons_succ]
          refine wpAnyH_done (by kernel_rfl) ?_ _
          clear hHeld hS HSA HSB HIA HIB
          have HBF := hid (HB2.out.trans (hk.mono HB2.out.size))
          clear hk
          go_wp2
          go_ret
          exact ⟨by rw [HTX.out, show (⟨#[32, 38, 32]⟩ : ByteArray) = str [32, 38, 32] from rfl, str_cat, str_cat]; rfl, HBF.out⟩
      · skip
        have hbs : Below (World.heap w0).size w0 (World.alloc w0 (.cells #[.int .i64 4, .int .i64 5] 3)) := bel_alloc (Below.refl _ _) _
        have HL45 := hid (lit2 (w := w0) (e := 3) 4 5)
        have hk9 := hk.trans (hbs.mono hk.size)
        clear hbs
        try simp only [List.getElem_toArray, List.getElem_cons_succ, List.getElem_cons_zero]
        go_simp
        refine hK.out _ _ ?_ (fun hHeld2 => ?_)
        focus
          exact hS _ hk9
        clear hHeld
        have hHeld := hHeld2
        clear hHeld2 hK K
        try simp only [List.getElem_toArray, List.getElem_cons_succ, List.getElem_cons_zero, Act.put, List.setIfInBounds_toArray, List.set_cons_zero, List.set_cons_succ]
        replace hk := hk9
        clear hk9
        generalize (World.alloc w0 (.cells #[.int .i64 4, .int .i64 5] 3)) = k8 at *
        generalize hxx : (World.heap w0).size = X8 at HL45 ⊢
        clear hxx
        refine wpAnyH_ready (rs := [4]) (by kernel_rfl) (by simp) ?_
        refine (AllReadyH.cons rfl (fun K hK => ?_) AllReadyH.nil)
        have hbs : Below (World.heap k8).size k8 (World.alloc k8 (.cells #[.int .i64 5] 3)) := bel_alloc (Below.refl _ _) _
        have HL5 := hid (lit1 (w := k8) (e := 3) 5)
        replace HL45 := hid (HL45.out.below hbs)
        have hk9 := hk.trans (hbs.mono hk.size)
        clear hbs
        try simp only [List.getElem_toArray, List.getElem_cons_succ, List.getElem_cons_zero]
        go_simp
        refine hK.out _ _ ?_ (fun hHeld2 => ?_)
        focus
          exact hS _ hk9
        clear hHeld
        have hHeld := hHeld2
        clear hHeld2 hK K
        try simp only [List.getElem_toArray, List.getElem_cons_succ, List.getElem_cons_zero, Act.put, List.setIfInBounds_toArray, List.set_cons_zero, List.set_cons_succ]
        replace hk := hk9
        clear hk9
        generalize (World.alloc k8 (.cells #[.int .i64 5] 3)) = k9 at *
        generalize hxx : (World.heap k8).size = X9 at HL5 ⊢
        clear hxx
        refine wpAnyH_ready (rs := [5]) (by kernel_rfl) (by simp) ?_
        refine (AllReadyH.cons rfl (fun K hK => ?_) AllReadyH.nil)
        try simp only [List.getElem_toArray, List.getElem_cons_succ, List.getElem_cons_zero]
        go_simp
        refine (HIA.out _ (HB2.out.trans (hk.mono HB2.out.size)) yA yc (HSA.out _ hk) _ _ HL5.out).mono ?_
        rintro q k10 ⟨rfl, hb⟩
        replace HL45 := hid (HL45.out.below hb)
        replace HL5 := hid (HL5.out.below hb)
        have hk9 := hk.trans (hb.mono hk.size)
        clear hb
        go_wp2_with fail
        refine hK.out _ _ ?_ (fun hHeld2 => ?_)
        focus
          exact hS _ hk9
        clear hHeld
        have hHeld := hHeld2
        clear hHeld2 hK K
        try simp only [List.getElem_toArray, List.getElem_cons_succ, List.getElem_cons_zero, Act.put, List.setIfInBounds_toArray, List.set_cons_zero, List.set_cons_succ]
        replace hk := hk9
        clear hk9
        refine wpAnyH_take (i := 6) (v := ?_) rfl (by kernel_rfl) (by kernel_rfl) (by kernel_rfl) (fun _ _ _ h => h) (Or.inl ⟨by rfl, ?_⟩) (by assumption) ?_
        rotate_left
        focus
          intro U hU
          try dsimp only at hU
          go_simp
          try (with_reducible rfl)
        try simp only [List.getElem_toArray, List.getElem_cons_succ, List.getElem_cons_zero, Act.put, List.setIfInBounds_toArray, List.set_cons_zero, List.set_cons_succ]
        refine wpAnyH_ready (rs := [12]) (by kernel_rfl) (by simp) ?_
        refine (AllReadyH.cons rfl (fun K hK => ?_) AllReadyH.nil)
        try simp only [List.getElem_toArray, List.getElem_cons_succ, List.getElem_cons_zero]
        go_simp
        refine (HIB.out _ (HB2.out.trans (hk.mono HB2.out.size)) zA zc (HSB.out _ hk) _ _ HL45.out).mono ?_
        rintro q k11 ⟨rfl, hb⟩
        replace HL45 := hid (HL45.out.below hb)
        replace HL5 := hid (HL5.out.below hb)
        have hk9 := hk.trans (hb.mono hk.size)
        clear hb
        go_wp2_with fail
        refine hK.out _ _ ?_ (fun hHeld2 => ?_)
        focus
          exact hS _ hk9
        clear hHeld
        have hHeld := hHeld2
        clear hHeld2 hK K
        try simp only [List.getElem_toArray, List.getElem_cons_succ, List.getElem_cons_zero, Act.put, List.setIfInBounds_toArray, List.set_cons_zero, List.set_cons_succ]
        replace hk := hk9
        clear hk9
        refine wpAnyH_take (i := 13) (v := ?_) rfl (by kernel_rfl) (by kernel_rfl) (by kernel_rfl) (fun _ _ _ h => h) (Or.inl ⟨by rfl, ?_⟩) (by assumption) ?_
        rotate_left
        focus
          intro U hU
          try dsimp only at hU
          go_simp
          try (with_reducible rfl)
        try simp only [List.getElem_toArray, List.getElem_cons_succ, List.getElem_cons_zero, Act.put, List.setIfInBounds_toArray, List.set_cons_zero, List.set_cons_succ]
        refine wpAnyH_take (i := 14) (v := ?_) rfl (by kernel_rfl) (by kernel_rfl) (by kernel_rfl) (fun _ _ _ h => h) (Or.inl ⟨by rfl, ?_⟩) (by assumption) ?_
        rotate_left
        focus
          intro U hU
          try dsimp only at hU
          go_simp
          try (with_reducible rfl)
        try simp only [List.getElem_toArray, List.getElem_cons_succ, List.getElem_cons_zero, Act.put, List.setIfInBounds_toArray, List.set_cons_zero, List.set_cons_succ]
        refine wpAnyH_done (by kernel_rfl) ?_ _
        clear hHeld hS HSA HSB HIA HIB
        have HBF := hid (HB2.out.trans (hk.mono HB2.out.size))
        clear hk
        go_wp2
        go_ret
        exact ⟨by rw [HTX.out, show (⟨#[32, 38, 32]⟩ : ByteArray) = str [32, 38, 32] from rfl, str_cat, str_cat]; rfl, HBF.out⟩
    · skip
      have HT := hid (fun u (hu : Below W.heap.size W u) => hT.below hu)
      have hp := Nt.flat_pos (Nt.pair 5 a b)
      have HPA := hid (fun u (hu : Below W.heap.size W u) => nparts_any A cap (Nt.pair 5 a b).flat u (hA.below hu) (by omega))
      rw [partsN_tree hwf (by rw [chkN_tree hwf, if_neg (by omega), if_neg (by omega)])] at HPA
      obtain ⟨bA, oA, hAe, hc0, hc1⟩ := hA.at2 ((Nt.pair 5 a b).flat.length - 1) (by omega)
      obtain ⟨h3, h4⟩ := last_at (Nt.pair 5 a b) [] [] ((Nt.pair 5 a b).flat.length - 1) (by simp; omega)
      simp only [List.nil_append, List.append_nil] at h4
      rw [h4] at hc0 hc1
      simp only [lastN] at hc0 hc1
      subst hAe
      obtain ⟨fl, hfe⟩ : ∃ fl, (Nt.pair 5 a b).flat.length = fl + 1 := ⟨(Nt.pair 5 a b).flat.length - 1, by omega⟩
      rw [hfe] at HPA hc0 hc1 ⊢
      rw [Nat.add_sub_cancel] at hc0 hc1
      have HIA := hid (fun u (hu : Below W.heap.size W u) (A : Option Addr) (c : Nat) (hA : Sl u 2 A a.flat.length c (pcells a.flat)) (O : Option Addr) (oc : Nat) (hO : Sl u 1 O 0 oc (icells .i64 [])) => inner_step TA tc T.length T a [] A c O oc u hA hO (by omega) (by have := HTL.out a; omega) (iha A c u (HT.out u hu) hA hwf.2.1 hin.1 hfab.1 hfab.2.2.1))
      have HIB := hid (fun u (hu : Below W.heap.size W u) (A : Option Addr) (c : Nat) (hA : Sl u 2 A b.flat.length c (pcells b.flat)) (O : Option Addr) (oc : Nat) (hO : Sl u 1 O 1 oc (icells .i64 [5])) => inner_step TA tc T.length T b [5] A c O oc u hA hO (by omega) (by have := HTL.out b; omega) (ihb A c u (HT.out u hu) hA hwf.2.2 hin.2 hfab.2.1 hfab.2.2.2))
      have HLA := hid (show (parS (lastN a).1 [] (txt T a)).length ≤ 10000 from by have h8 := parS_len (lastN a).1 [] (txt T a); have h9 := HTL.out a; omega)
      have HLB := hid (show (parS (lastN b).1 [5] (txt T b)).length ≤ 10000 from by have h8 := parS_len (lastN b).1 [5] (txt T b); have h9 := HTL.out b; omega)
      have HTX : Hid (txt T (.pair 5 a b) = (parS (lastN a).1 [] (txt T a) ++ [32, 124, 32]) ++ parS (lastN b).1 [5] (txt T b)) := hid (by rw [txt]; first | rw [if_pos rfl] | rw [if_neg (by decide)])
      obtain ⟨RR, hRR⟩ : ∃ RR, txt T (.pair 5 a b) = RR := ⟨_, rfl⟩
      rw [hRR] at HTX ⊢
      clear hRR iha ihb
      generalize parS (lastN a).1 [] (txt T a) = ra at *
      generalize parS (lastN b).1 [5] (txt T b) = rb at *
      clear hp h3 h4 hA hT
      go_enter Try.func41, Try.ntmps41
      go_upto_region 2 with (fail)
      refine at_world (fun u => u.heap[W.heap.size]? = some (.cells #[.int .i64 5, .int .i64 0] 77 (0, 0)) ∧ Below W.heap.size W u) ⟨heap_alloc_new _ _, bel_alloc (Below.refl _ _) _⟩ ?_
      clear hc0 hc1
      rintro w1 ⟨hx, hb⟩
      have HX1 := hid hx
      have HB1 := hid hb
      clear hx hb
      generalize hX : W.heap.size = X at HX1
      clear hX
      go_wp2_with fail
      refine (HPA.out w1 HB1.out).mono ?_
      rintro e w2 ⟨A', c', ys, hys, rfl, hls, hb⟩
      have HB2 := hid (HB1.out.trans (hb.mono HB1.out.size))
      have HX2 := hid (keep0 HX1.out hb)
      have HLS := hid hls
      clear hb hls HB1 HX1 HPA
      obtain ⟨p0, p1, _, _⟩ := two_cells HX2.out
      simp only [Nt.kids, List.map_cons, List.map_nil] at hys
      obtain ⟨y, z, rfl, hy, hz⟩ := pls_two hys
      have HG0 := hid (fun u (hu : Below w2.heap.size w2 u) => (HLS.out.below hu).get 0 (by simp))
      have HG1 := hid (fun u (hu : Below w2.heap.size w2 u) => (HLS.out.below hu).get 1 (by simp))
      simp only [List.getElem_cons_zero, List.getElem_cons_succ] at HG0 HG1
      rw [hy] at HG0
      rw [hz] at HG1
      clear hys hy hz
      obtain ⟨yl, yA, yc⟩ := y
      obtain ⟨zl, zA, zc⟩ := z
      simp only at HG0 HG1
      obtain ⟨bp, op', hAp, _⟩ := HG0.out w2 (Below.refl _ _)
      subst hAp
      clear HLS
      have hz1 : (str ra).size + (⟨#[32, 124, 32]⟩ : ByteArray).size ≤ 9223372036854775807 := by have := HLA.out; rw [str_size]; show ra.length + 3 ≤ _; omega
      have hz2 : (str ra ++ (⟨#[32, 124, 32]⟩ : ByteArray)).size + (str rb).size ≤ 9223372036854775807 := by
        have h1 := HLA.out
        have h2 := HLB.out
        rw [show (⟨#[32, 124, 32]⟩ : ByteArray) = str [32, 124, 32] from rfl, str_cat, str_size, str_size, List.length_append]
        show ra.length + 3 + rb.length ≤ _
        omega
      have hz3 : ¬ 9223372036854775807 < (str ra).size + (⟨#[32, 124, 32]⟩ : ByteArray).size := by omega
      have hz4 : ¬ 9223372036854775807 < (str ra ++ (⟨#[32, 124, 32]⟩ : ByteArray)).size + (str rb).size := by omega
      have hz5 : ¬ 9223372036854775807 < (str ra).size + 3 := by have := HLA.out; rw [str_size]; omega
      have hz6 : ¬ 9223372036854775807 < (str ra).size + 3 + (str rb).size := by have := HLA.out; have := HLB.out; rw [str_size, str_size]; omega
      have hz7 : ¬ 9223372036854775807 < (str ra ++ (⟨#[32, 124, 32]⟩ : ByteArray)).size + rb.length := by rw [← str_size rb]; exact hz4
      try simp only [List.length_cons, List.length_nil] at *
      have hS : ∀ U, Below w2.heap.size w2 U → ((U.cell? ⟨bp, op', none⟩ = some (.slice yA a.flat.length yc) ∧ U.cell? ⟨bp, op' + 1, none⟩ = some (.slice zA b.flat.length zc)) ∧ Below w2.heap.size w2 U) := fun U hU => by
        obtain ⟨b1, o1, h1, h2, _⟩ := HG0.out U hU
        obtain ⟨b3, o3, h3, h4, _⟩ := HG1.out U hU
        cases h1
        cases h3
        exact ⟨⟨by simpa using h2, h4⟩, hU⟩
      have HSA := hid (fun U (hU : Below w2.heap.size w2 U) => show Sl U 2 yA a.flat.length yc (pcells a.flat) from by obtain ⟨_, _, _, _, h⟩ := HG0.out U hU; exact h)
      have HSB := hid (fun U (hU : Below w2.heap.size w2 U) => show Sl U 2 zA b.flat.length zc (pcells b.flat) from by obtain ⟨_, _, _, _, h⟩ := HG1.out U hU; exact h)
      clear HG0 HG1
      generalize a.flat.length = an at *
      generalize b.flat.length = bn at *
      go_upto_region 11 with (fail)
      clear p0 p1
      have hk : Below w2.heap.size w2 w2.drew := below_drew (Below.refl _ _)
      refine wp_region_held_drew (S := fun U => (U.cell? ⟨bp, op', none⟩ = some (.slice yA an yc) ∧ U.cell? ⟨bp, op' + 1, none⟩ = some (.slice zA bn zc)) ∧ Below w2.heap.size w2 U) (by kernel_rfl) (hS _ hk) (fun hHeld => ?_)
      generalize w2.drew = w0 at *
      refine wpAnyH_take (i := 0) (v := ?_) rfl (by kernel_rfl) (by kernel_rfl) (by kernel_rfl) (fun _ _ _ h => h) (Or.inl ⟨by rfl, ?_⟩) (by assumption) ?_
      rotate_left
      focus
        intro U hU
        try dsimp only at hU
        go_simp
        try (with_reducible rfl)
      try simp only [List.getElem_toArray, List.getElem_cons_succ, List.getElem_cons_zero, Act.put, List.setIfInBounds_toArray, List.set_cons_zero, List.set_cons_succ]
      refine wpAnyH_take (i := 1) (v := ?_) rfl (by kernel_rfl) (by kernel_rfl) (by kernel_rfl) (fun _ _ _ h => h) (Or.inl ⟨by rfl, ?_⟩) (by assumption) ?_
      rotate_left
      focus
        intro U hU
        try dsimp only at hU
        go_simp
        try (with_reducible rfl)
      try simp only [List.getElem_toArray, List.getElem_cons_succ, List.getElem_cons_zero, Act.put, List.setIfInBounds_toArray, List.set_cons_zero, List.set_cons_succ]
      refine wpAnyH_take (i := 2) (v := ?_) rfl (by kernel_rfl) (by kernel_rfl) (by kernel_rfl) (fun _ _ _ h => h) (Or.inl ⟨by rfl, ?_⟩) (by assumption) ?_
      rotate_left
      focus
        intro U hU
        try dsimp only at hU
        go_simp
        try (with_reducible rfl)
      try simp only [List.getElem_toArray, List.getElem_cons_succ, List.getElem_cons_zero, Act.put, List.setIfInBounds_toArray, List.set_cons_zero, List.set_cons_succ]
      refine wpAnyH_take (i := 3) (v := ?_) rfl (by kernel_rfl) (by kernel_rfl) (by kernel_rfl) (fun _ _ _ h => h) (Or.inl ⟨by rfl, ?_⟩) (by assumption) ?_
      rotate_left
      focus
        intro U hU
        try dsimp only at hU
        go_simp
        try (with_reducible rfl)
      try simp only [List.getElem_toArray, List.getElem_cons_succ, List.getElem_cons_zero, Act.put, List.setIfInBounds_toArray, List.set_cons_zero, List.set_cons_succ]
      refine wpAnyH_take (i := 6) (v := ?_) rfl (by kernel_rfl) (by kernel_rfl) (by kernel_rfl) (fun _ _ _ h => h) (Or.inl ⟨by rfl, ?_⟩) (by assumption) ?_
      rotate_left
      focus
        intro U hU
        try dsimp only at hU
        go_simp
        try (with_reducible rfl)
      try simp only [List.getElem_toArray, List.getElem_cons_succ, List.getElem_cons_zero, Act.put, List.setIfInBounds_toArray, List.set_cons_zero, List.set_cons_succ]
      refine wpAnyH_take (i := 7) (v := ?_) rfl (by kernel_rfl) (by kernel_rfl) (by kernel_rfl) (fun _ _ _ h => h) (Or.inl ⟨by rfl, ?_⟩) (by assumption) ?_
      rotate_left
      focus
        intro U hU
        try dsimp only at hU
        go_simp
        try (with_reducible rfl)
      try simp only [List.getElem_toArray, List.getElem_cons_succ, List.getElem_cons_zero, Act.put, List.setIfInBounds_toArray, List.set_cons_zero, List.set_cons_succ]
      refine wpAnyH_take (i := 8) (v := ?_) rfl (by kernel_rfl) (by kernel_rfl) (by kernel_rfl) (fun _ _ _ h => h) (Or.inl ⟨by rfl, ?_⟩) (by assumption) ?_
      rotate_left
      focus
        intro U hU
        try dsimp only at hU
        go_simp
        try (with_reducible rfl)
      try simp only [List.getElem_toArray, List.getElem_cons_succ, List.getElem_cons_zero, Act.put, List.setIfInBounds_toArray, List.set_cons_zero, List.set_cons_succ]
      refine wpAnyH_take (i := 9) (v := ?_) rfl (by kernel_rfl) (by kernel_rfl) (by kernel_rfl) (fun _ _ _ h => h) (Or.inl ⟨by rfl, ?_⟩) (by assumption) ?_
      rotate_left
      focus
        intro U hU
        try dsimp only at hU
        go_simp
        try (with_reducible rfl)
      try simp only [List.getElem_toArray, List.getElem_cons_succ, List.getElem_cons_zero, Act.put, List.setIfInBounds_toArray, List.set_cons_zero, List.set_cons_succ]
      refine wpAnyH_ready (rs := [4, 10]) (by kernel_rfl) (by simp) ?_
      refine (AllReadyH.cons rfl (fun K hK => ?_) (AllReadyH.cons rfl (fun K hK => ?_) AllReadyH.nil))
      · skip
        try simp only [List.getElem_toArray, List.getElem_cons_succ, List.getElem_cons_zero]
        go_simp
        refine (HIA.out _ (HB2.out.trans (hk.mono HB2.out.size)) yA yc (HSA.out _ hk) _ _ (Sl.nil _ _ _ _ (Nat.zero_le _))).mono ?_
        rintro q k1 ⟨rfl, hb⟩
        have hk9 := hk.trans (hb.mono hk.size)
        clear hb
        go_wp2_with fail
        refine hK.out _ _ ?_ (fun hHeld2 => ?_)
        focus
          exact hS _ hk9
        clear hHeld
        have hHeld := hHeld2
        clear hHeld2 hK K
        try simp only [List.getElem_toArray, List.getElem_cons_succ, List.getElem_cons_zero, Act.put, List.setIfInBounds_toArray, List.set_cons_zero, List.set_cons_succ]
        replace hk := hk9
        clear hk9
        refine wpAnyH_take (i := 5) (v := ?_) rfl (by kernel_rfl) (by kernel_rfl) (by kernel_rfl) (fun _ _ _ h => h) (Or.inl ⟨by rfl, ?_⟩) (by assumption) ?_
        rotate_left
        focus
          intro U hU
          try dsimp only at hU
          go_simp
          try (with_reducible rfl)
        try simp only [List.getElem_toArray, List.getElem_cons_succ, List.getElem_cons_zero, Act.put, List.setIfInBounds_toArray, List.set_cons_zero, List.set_cons_succ]
        refine wpAnyH_ready (rs := [10]) (by kernel_rfl) (by simp) ?_
        refine (AllReadyH.cons rfl (fun K hK => ?_) AllReadyH.nil)
        have hbs : Below (World.heap k1).size k1 (World.alloc k1 (.cells #[.int .i64 5] 3)) := bel_alloc (Below.refl _ _) _
        have HL5 := hid (lit1 (w := k1) (e := 3) 5)
        have hk9 := hk.trans (hbs.mono hk.size)
        clear hbs
        try simp only [List.getElem_toArray, List.getElem_cons_succ, List.getElem_cons_zero]
        go_simp
        refine hK.out _ _ ?_ (fun hHeld2 => ?_)
        focus
          exact hS _ hk9
        clear hHeld
        have hHeld := hHeld2
        clear hHeld2 hK K
        try simp only [List.getElem_toArray, List.getElem_cons_succ, List.getElem_cons_zero, Act.put, List.setIfInBounds_toArray, List.set_cons_zero, List.set_cons_succ]
        replace hk := hk9
        clear hk9
        generalize (World.alloc k1 (.cells #[.int .i64 5] 3)) = k2 at *
        generalize hxx : (World.heap k1).size = X2 at HL5 ⊢
        clear hxx
        refine wpAnyH_ready (rs := [11]) (by kernel_rfl) (by simp) ?_
        refine (AllReadyH.cons rfl (fun K hK => ?_) AllReadyH.nil)
        try simp only [List.getElem_toArray, List.getElem_cons_succ, List.getElem_cons_zero]
        go_simp
        refine (HIB.out _ (HB2.out.trans (hk.mono HB2.out.size)) zA zc (HSB.out _ hk) _ _ HL5.out).mono ?_
        rintro q k3 ⟨rfl, hb⟩
        replace HL5 := hid (HL5.out.below hb)
        have hk9 := hk.trans (hb.mono hk.size)
        clear hb
        go_wp2_with fail
        refine hK.out _ _ ?_ (fun hHeld2 => ?_)
        focus
          exact hS _ hk9
        clear hHeld
        have hHeld := hHeld2
        clear hHeld2 hK K
        try simp only [List.getElem_toArray, List.getElem_cons_succ, List.getElem_cons_zero, Act.put, List.setIfInBounds_toArray, List.set_cons_zero, List.set_cons_succ]
        replace hk := hk9
        clear hk9
        refine wpAnyH_take (i := 12) (v := ?_) rfl (by kernel_rfl) (by kernel_rfl) (by kernel_rfl) (fun _ _ _ h => h) (Or.inl ⟨by rfl, ?_⟩) (by assumption) ?_
        rotate_left
        focus
          intro U hU
          try dsimp only at hU
          go_simp
          try (with_reducible rfl)
        try simp only [List.getElem_toArray, List.getElem_cons_succ, List.getElem_cons_zero, Act.put, List.setIfInBounds_toArray, List.set_cons_zero, List.set_cons_succ]
        refine wpAnyH_take (i := 13) (v := ?_) rfl (by kernel_rfl) (by kernel_rfl) (by kernel_rfl) (fun _ _ _ h => h) (Or.inl ⟨by rfl, ?_⟩) (by assumption) ?_
        rotate_left
        focus
          intro U hU
          try dsimp only at hU
          go_simp
          try (with_reducible rfl)
        try simp only [List.getElem_toArray, List.getElem_cons_succ, List.getElem_cons_zero, Act.put, List.setIfInBounds_toArray, List.set_cons_zero, List.set_cons_succ]
        refine wpAnyH_done (by kernel_rfl) ?_ _
        clear hHeld hS HSA HSB HIA HIB
        have HBF := hid (HB2.out.trans (hk.mono HB2.out.size))
        clear hk
        go_wp2
        go_ret
        exact ⟨by rw [HTX.out, show (⟨#[32, 124, 32]⟩ : ByteArray) = str [32, 124, 32] from rfl, str_cat, str_cat]; rfl, HBF.out⟩
      · skip
        have hbs : Below (World.heap w0).size w0 (World.alloc w0 (.cells #[.int .i64 5] 3)) := bel_alloc (Below.refl _ _) _
        have HL5 := hid (lit1 (w := w0) (e := 3) 5)
        have hk9 := hk.trans (hbs.mono hk.size)
        clear hbs
        try simp only [List.getElem_toArray, List.getElem_cons_succ, List.getElem_cons_zero]
        go_simp
        refine hK.out _ _ ?_ (fun hHeld2 => ?_)
        focus
          exact hS _ hk9
        clear hHeld
        have hHeld := hHeld2
        clear hHeld2 hK K
        try simp only [List.getElem_toArray, List.getElem_cons_succ, List.getElem_cons_zero, Act.put, List.setIfInBounds_toArray, List.set_cons_zero, List.set_cons_succ]
        replace hk := hk9
        clear hk9
        generalize (World.alloc w0 (.cells #[.int .i64 5] 3)) = k4 at *
        generalize hxx : (World.heap w0).size = X4 at HL5 ⊢
        clear hxx
        refine wpAnyH_ready (rs := [4]) (by kernel_rfl) (by simp) ?_
        refine (AllReadyH.cons rfl (fun K hK => ?_) AllReadyH.nil)
        try simp only [List.getElem_toArray, List.getElem_cons_succ, List.getElem_cons_zero]
        go_simp
        refine (HIA.out _ (HB2.out.trans (hk.mono HB2.out.size)) yA yc (HSA.out _ hk) _ _ (Sl.nil _ _ _ _ (Nat.zero_le _))).mono ?_
        rintro q k5 ⟨rfl, hb⟩
        replace HL5 := hid (HL5.out.below hb)
        have hk9 := hk.trans (hb.mono hk.size)
        clear hb
        go_wp2_with fail
        refine hK.out _ _ ?_ (fun hHeld2 => ?_)
        focus
          exact hS _ hk9
        clear hHeld
        have hHeld := hHeld2
        clear hHeld2 hK K
        try simp only [List.getElem_toArray, List.getElem_cons_succ, List.getElem_cons_zero, Act.put, List.setIfInBounds_toArray, List.set_cons_zero, List.set_cons_succ]
        replace hk := hk9
        clear hk9
        refine wpAnyH_take (i := 5) (v := ?_) rfl (by kernel_rfl) (by kernel_rfl) (by kernel_rfl) (fun _ _ _ h => h) (Or.inl ⟨by rfl, ?_⟩) (by assumption) ?_
        rotate_left
        focus
          intro U hU
          try dsimp only at hU
          go_simp
          try (with_reducible rfl)
        try simp only [List.getElem_toArray, List.getElem_cons_succ, List.getElem_cons_zero, Act.put, List.setIfInBounds_toArray, List.set_cons_zero, List.set_cons_succ]
        refine wpAnyH_ready (rs := [11]) (by kernel_rfl) (by simp) ?_
        refine (AllReadyH.cons rfl (fun K hK => ?_) AllReadyH.nil)
        try simp only [List.getElem_toArray, List.getElem_cons_succ, List.getElem_cons_zero]
        go_simp
        refine (HIB.out _ (HB2.out.trans (hk.mono HB2.out.size)) zA zc (HSB.out _ hk) _ _ HL5.out).mono ?_
        rintro q k6 ⟨rfl, hb⟩
        replace HL5 := hid (HL5.out.below hb)
        have hk9 := hk.trans (hb.mono hk.size)
        clear hb
        go_wp2_with fail
        refine hK.out _ _ ?_ (fun hHeld2 => ?_)
        focus
          exact hS _ hk9
        clear hHeld
        have hHeld := hHeld2
        clear hHeld2 hK K
        try simp only [List.getElem_toArray, List.getElem_cons_succ, List.getElem_cons_zero, Act.put, List.setIfInBounds_toArray, List.set_cons_zero, List.set_cons_succ]
        replace hk := hk9
        clear hk9
        refine wpAnyH_take (i := 12) (v := ?_) rfl (by kernel_rfl) (by kernel_rfl) (by kernel_rfl) (fun _ _ _ h => h) (Or.inl ⟨by rfl, ?_⟩) (by assumption) ?_
        rotate_left
        focus
          intro U hU
          try dsimp only at hU
          go_simp
          try (with_reducible rfl)
        try simp only [List.getElem_toArray, List.getElem_cons_succ, List.getElem_cons_zero, Act.put, List.setIfInBounds_toArray, List.set_cons_zero, List.set_cons_succ]
        refine wpAnyH_take (i := 13) (v := ?_) rfl (by kernel_rfl) (by kernel_rfl) (by kernel_rfl) (fun _ _ _ h => h) (Or.inl ⟨by rfl, ?_⟩) (by assumption) ?_
        rotate_left
        focus
          intro U hU
          try dsimp only at hU
          go_simp
          try (with_reducible rfl)
        try simp only [List.getElem_toArray, List.getElem_cons_succ, List.getElem_cons_zero, Act.put, List.setIfInBounds_toArray, List.set_cons_zero, List.set_cons_succ]
        refine wpAnyH_done (by kernel_rfl) ?_ _
        clear hHeld hS HSA HSB HIA HIB
        have HBF := hid (HB2.out.trans (hk.mono HB2.out.size))
        clear hk
        go_wp2
        go_ret
        exact ⟨by rw [HTX.out, show (⟨#[32, 124, 32]⟩ : ByteArray) = str [32, 124, 32] from rfl, str_cat, str_cat]; rfl, HBF.out⟩
end Go.Proofs.Ytdphdodjidbngaa
