/- The workers of texts: contracts of job and of the document. -/
import Derived.Test.YthohedadmfbahaaDoorQJbA
import Derived.Test.YthohedadmfbahaaDoorQJbC
import Derived.Deep.RegionHeld3
namespace Go.Proofs.YthohedadmfbahaaDoor
open Go.RowKit Go.Sort
set_option linter.unusedVariables false
set_option linter.unusedSimpArgs false

theorem seven_cellsJ {w : World} {b t : Nat} {x0 x1 x2 x3 x4 x5 x6 : Value} (h : w.heap[b]? = some (.cells #[x0, x1, x2, x3, x4, x5, x6] t (0, 0))) :
    w.cell? ⟨b, 0, none⟩ = some x0 ∧ w.cell? ⟨b, 1, none⟩ = some x1 ∧ w.cell? ⟨b, 2, none⟩ = some x2 ∧ w.cell? ⟨b, 3, none⟩ = some x3 ∧ w.cell? ⟨b, 4, none⟩ = some x4 ∧ w.cell? ⟨b, 5, none⟩ = some x5 ∧ w.cell? ⟨b, 6, none⟩ = some x6 :=
  ⟨by rw [cell_of_row w b 0 _ t (0, 0) h]; rfl, by rw [cell_of_row w b 1 _ t (0, 0) h]; rfl, by rw [cell_of_row w b 2 _ t (0, 0) h]; rfl, by rw [cell_of_row w b 3 _ t (0, 0) h]; rfl, by rw [cell_of_row w b 4 _ t (0, 0) h]; rfl, by rw [cell_of_row w b 5 _ t (0, 0) h]; rfl, by rw [cell_of_row w b 6 _ t (0, 0) h]; rfl⟩
theorem text_at {w : World} {A : Option Addr} {c : Nat} {xs : List (List UInt8)} (h : TxJ w A c xs) (k : Nat) (hk : k < xs.length) : ∃ b off, A = some ⟨b, off, none⟩ ∧ w.cell? ⟨b, off + k, none⟩ = some (.string (str xs[k])) := scells_at h.1 k hk
theorem len63J {w : World} {A : Option Addr} {c : Nat} {xs : List (List UInt8)} (h : TxJ w A c xs) : xs.length ≤ 9223372036854775807 := by have h1 := h.1.2.1; have h2 := h.1.2.2.1; unfold maxLen at h2; omega

set_option maxRecDepth 20000 in
set_option maxHeartbeats 4000000 in
theorem jany_any (x : Cf) (N : Option Addr) (nc : Nat) (K : Option Addr) (kc : Nat) (A : Option Addr) (c : Nat) (xs : List (List UInt8)) (W : World) (hC : CfAt W x N nc K kc) (hX : TxJ W A c xs) (hl : xs.length ≤ 1000) (hs : ∀ s ∈ xs, s.length ≤ 1000) (hw : x.ws.length ≤ 1000) :
    Calls Tryd.prog 47 #[.agg (cfc x N nc K kc), .slice A xs.length c] W fun e w' => e = .returned (.int .u64 (orK x.T x.ws xs xs.length : Nat)) ∧ Below W.heap.size W w' := by
  obtain ⟨sc, le, ag, ro, ou, T, ws⟩ := x
  simp only [cfc]
  have HC : Hid (CfAt W ⟨sc, le, ag, ro, ou, T, ws⟩ N nc K kc) := hid hC
  have HX := hid hX
  have HS := hid hs
  have HND := hid (fun u (hu : Below W.heap.size W u) (l : List UInt8) (hl : l.length ≤ 1000) => need_any N nc T l u ((hC.below hu).1.1) hl)
  have HAY := hid (fun u (hu : Below W.heap.size W u) (B : Option Addr) (d : Nat) (ys : List Pl) (h1 : LsAt u B d ys) (h2 : ys.length ≤ 1000) (h3 : ∀ y ∈ ys, y.l.length ≤ 1000) => any_all B d ys K kc ws u h1 h2 h3 ((hC.below hu).2.1) hC.2.2 hw)
  clear hC hX hs hw
  go_enter Tryd.func47, Tryd.ntmps47
  go_upto_region 2 with (fail)
  refine at_world (fun u => u.heap[W.heap.size]? = some (.cells #[.int .i64 sc, .int .i64 le, .int .i64 ag, .int .i64 ro, .int .i64 ou, .slice N T.length nc, .slice K ws.length kc] 25 (0, 0)) ∧ Below W.heap.size W u) ⟨heap_alloc_new _ _, (Below.refl _ _).alloc (Nat.le_refl _) _⟩ ?_
  rintro w1 ⟨hq, hb⟩
  have HQ := hid hq
  have HB := hid hb
  clear hq hb
  generalize hQ : W.heap.size = Q at HQ
  have HQE := hid hQ
  clear hQ
  generalize hn : xs.length = n at *
  have HN := hid hn
  clear hn
  go_wp2
  go_loopw [5, 13] (fun s i wr => ∃ (k : Nat) (ys : List Pl) (B : Option Addr) (d : Nat), k ≤ n ∧ i = .int .i64 (k : Int) ∧ s = .slice B ys.length d ∧ Hid (anyS (pls ys) ws ys.length = orK T ws xs k) ∧ Hid (LsOwn wr W.heap.size B d ys) ∧ Hid (ys.length ≤ k ∧ ∀ y ∈ ys, y.l.length ≤ 1000) ∧ Hid (Below W.heap.size W wr) ∧ Hid (wr.heap[Q]? = some (.cells #[.int .i64 sc, .int .i64 le, .int .i64 ag, .int .i64 ro, .int .i64 ou, .slice N T.length nc, .slice K ws.length kc] 25 (0, 0)))) (fun _ i _ => n - (intOf i).toNat)
  case atStart => exact ⟨0, [], none, 0, by omega, rfl, rfl, rfl, ⟨World.ownsRow_nil _ _ _ _, fun y hy => by simp at hy⟩, ⟨Nat.le_refl _, fun y hy => by simp at hy⟩, HB, HQ⟩
  case round =>
    clear HB HQ
    obtain ⟨k, ys, B, d, hk, rfl, rfl, HV, HL, HLN, HB, HQ⟩ := hrel
    by_cases hlt : k < n
    · have hlt2 : (k : Int) < (n : Int) := by omega
      have hkx : k < xs.length := by rw [HN.out]; exact hlt
      obtain ⟨b, off, ha, ct⟩ := text_at (HX.out.below HB.out) k hkx
      subst ha
      have HO := hid (orK_succ (T := T) (ws := ws) hkx)
      have HNN := hid (HND.out wr HB.out xs[k] (HS.out _ (List.getElem_mem hkx)))
      unfold NdAns at HNN
      have HSO : Hid ((ndT T xs[k]).2.2 = 0 → setJ T ws xs[k] = wkS (ndT T xs[k]).1 ws) := hid fun h => setJ_ok h
      have HSN : Hid ((ndT T xs[k]).2.2 ≠ 0 → setJ T ws xs[k] = 0) := hid fun h => setJ_no h
      have HNL := hid (ndT_len T xs[k])
      generalize xs[k] = l at *
      generalize hst : str l = st at *
      clear hst
      generalize setJ T ws l = sj at *
      generalize ndT T l = F at *
      obtain ⟨nd, k0, e0⟩ := F
      simp only at HNN HSO HSN HNL
      obtain ⟨q0, q1, q2, q3, q4, q5, q6⟩ := seven_cellsJ HQ.out
      clear hkx
      go_wp2_with fail
      refine HNN.out.mono ?_
      rintro e w2 ⟨A2, c2, rfl, ho, hb⟩
      have HO2 := hid ho
      have hsz := hb.size
      have HB2 := hid (HB.out.trans (hb.mono HB.out.size))
      have HL2 := hid (HL.out.keep hb)
      have HQ2 := hid (keep0 HQ.out hb)
      clear hb ho HL HQ HNN q0 q1 q2 q3 q4 q5 q6 ct
      by_cases he : e0 = 0
      · have HSJ := hid (HSO.out he)
        subst he
        have hyl : ys.length ≤ n := Nat.le_trans HLN.out.1 hk
        have hyb : ys.length < 1000 := by have := HLN.out.1; omega
        have HBS := HB.out.size
        clear HSO HSN
        go_wp2_with (at_builtin; refine wpList_append_1k (W := w2) rfl (.tmp 27) (.tmp 29) 109 rfl W.heap.size 88 Tryd.underlying109 info_nodes rfl (by omega) rfl HL2.out.1 rfl (by rfl) (by simp [Value.oneCell']) ?c1 ?c2 HB2.out.size (Below.refl _ _) ?_)
        case c1 => unfold maxLen; omega
        case c2 => omega
        · intro v' w6 k1 k2 k3 k4
          obtain ⟨A6, c6, rfl, _⟩ := Sl.of_own k1
          have HL6 : Hid (LsOwn w6 W.heap.size A6 c6 (ys ++ [⟨nd, A2, c2⟩])) := hid (HL2.out.push (p := ⟨nd, A2, c2⟩) (own_mono HO2.out HBS) k1 k4)
          have HQ6 := hid ((k4 Q (by rw [HQE.out]; exact Nat.le_refl _) (lt_of_block HQ2.out) (own_blk_ne HL2.out.1 HQ2.out (by decide))).trans HQ2.out)
          have HB6 := hid (HB2.out.trans k2)
          clear k1 k2 k3 k4
          go_wp2
          go_roundw
          case rel =>
            refine ⟨k + 1, ys ++ [⟨nd, A2, c2⟩], A6, c6, by omega, by go_num, by rw [List.length_append]; rfl, ?_, HL6, ?_, HB6, HQ6⟩
            · show anyS _ _ _ = _
              rw [HO.out, HSJ.out, ← HV.out]
              have h9 := anyS_app (pls ys) nd ws
              have h8 : (pls ys).length = ys.length := by simp [pls]
              rw [h8] at h9
              rw [List.length_append, List.length_singleton, show pls (ys ++ [⟨nd, A2, c2⟩]) = pls ys ++ [nd] from by simp [pls]]
              exact h9
            · refine ⟨by rw [List.length_append, List.length_singleton]; have := HLN.out.1; omega, fun y hy => ?_⟩
              rcases List.mem_append.1 hy with hy | hy
              · exact HLN.out.2 y hy
              · obtain rfl := List.mem_singleton.1 hy
                have := HNL.out
                show nd.length ≤ 1000
                omega
          case measure => simp [intOf]; omega
      · have HSJ := hid (HSN.out he)
        have he2 : (e0 == 0) = false := by simpa using he
        clear HSO HSN
        go_wp2
        go_roundw
        case rel => exact ⟨k + 1, ys, B, d, by omega, by go_num, rfl, hid (by rw [HO.out, HSJ.out, Nat.or_zero]; exact HV.out), HL2, ⟨by have := HLN.out.1; omega, HLN.out.2⟩, HB2, HQ2⟩
        case measure => simp [intOf]; omega
    · have hge : ¬ (k : Int) < (n : Int) := by omega
      obtain rfl : k = n := by omega
      obtain ⟨q0, q1, q2, q3, q4, q5, q6⟩ := seven_cellsJ HQ.out
      have HAA := hid (HAY.out wr HB.out B d ys HL.out.at (by have := HLN.out.1; omega) HLN.out.2)
      rw [HV.out] at HAA
      clear HL HQ HLN HV
      go_wp2_with fail
      refine HAA.out.mono ?_
      rintro e w2 ⟨rfl, hb⟩
      have HB2 := hid (HB.out.trans (hb.mono HB.out.size))
      clear hb HAA
      go_wp2
      go_ret
      refine ⟨?_, HB2.out⟩
      rw [HN.out]
      rfl

theorem orK_one (T : List (List UInt8)) (ws : List Wk) (l : List UInt8) : orK T ws [l] 1 = setJ T ws l := by
  show 0 ||| setJ T ws l = _
  exact Nat.zero_or _
set_option maxRecDepth 20000 in
set_option maxHeartbeats 2000000 in
theorem jset_any (x : Cf) (N : Option Addr) (nc : Nat) (K : Option Addr) (kc : Nat) (l : List UInt8) (W : World) (hC : CfAt W x N nc K kc) (hs : l.length ≤ 1000) (hw : x.ws.length ≤ 1000) :
    Calls Tryd.prog 34 #[.agg (cfc x N nc K kc), .string (str l)] W fun e w' => e = .returned (.int .u64 (setJ x.T x.ws l : Nat)) ∧ Below W.heap.size W w' := by
  have HA := hid (fun u (hu : Below W.heap.size W u) (B : Option Addr) (hX : TxJ u B 1 [l]) => jany_any x N nc K kc B 1 [l] u (hC.below hu) hX (by simp) (fun s h => by obtain rfl := List.mem_singleton.1 h; exact hs) hw)
  simp only [List.length_singleton, orK_one] at HA
  obtain ⟨sc, le, ag, ro, ou, T, ws⟩ := x
  simp only [cfc] at HA ⊢
  have hsm : l.length ≤ maxLen := by unfold maxLen; omega
  generalize setJ T ws l = r at *
  clear hC hw hs
  go_enter Tryd.func34, Tryd.ntmps34
  go_upto_region 1 with (fail)
  refine at_world (fun u => u.heap[W.heap.size]? = some (.cells #[.int .i64 sc, .int .i64 le, .int .i64 ag, .int .i64 ro, .int .i64 ou, .slice N T.length nc, .slice K ws.length kc] 25 (0, 0)) ∧ Below W.heap.size W u) ⟨heap_alloc_new _ _, (Below.refl _ _).alloc (Nat.le_refl _) _⟩ ?_
  rintro w1 ⟨hq, hb⟩
  have HB := hid hb
  obtain ⟨q0, q1, q2, q3, q4, q5, q6⟩ := seven_cellsJ hq
  have HTX : Hid (TxJ (w1.alloc (.cells #[.string (str l)] 9)) (some ⟨w1.heap.size, 0, none⟩) 1 [l]) := hid ⟨Sl.lit w1 _ 1 1 #[.string (str l)] rfl (by unfold maxLen; omega), fun s h => by obtain rfl := List.mem_singleton.1 h; exact hsm⟩
  have HB2 := hid (HB.out.trans ((bel_alloc (Below.refl _ _) (.cells #[.string (str l)] 9) : Below w1.heap.size w1 _).mono HB.out.size))
  have HAA := hid (HA.out _ HB2.out _ HTX.out)
  clear hq hb HB HTX HA hsm
  generalize str l = s at *
  go_wp2_with fail
  refine HAA.out.mono ?_
  rintro e w2 ⟨rfl, hb⟩
  have HB3 := hid (HB2.out.trans (hb.mono HB2.out.size))
  clear hb HAA q0 q1 q2 q3 q4 q5 q6 HB2
  go_wp2
  go_ret
  exact ⟨rfl, HB3.out⟩
end Go.Proofs.YthohedadmfbahaaDoor
