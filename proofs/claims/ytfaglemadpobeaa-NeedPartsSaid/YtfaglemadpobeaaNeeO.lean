/- Needs: the document's Parts: contract. -/
import Derived.Test.YtfaglemadpobeaaNeeN
namespace Go.Proofs.Ytfaglemadpobeaa
open Go.RowKit Go.Sort
set_option linter.unusedVariables false
set_option linter.unusedSimpArgs false

theorem pl1 {w : World} {e x : Nat} (p : Pl) (hx : x = w.heap.size) (h : Sl w 2 p.A p.l.length p.c (pcells p.l)) : LsAt (w.alloc (.cells #[.slice p.A p.l.length p.c] e)) (some ⟨x, 0, none⟩) 1 [p] :=
  ⟨sl_new1 _ hx, fun y hy => by rw [List.mem_singleton.1 hy]; exact h.below ((Below.refl _ _).alloc (Nat.le_refl _) _)⟩
theorem pl2 {w : World} {e x : Nat} (p q : Pl) (hx : x = w.heap.size) (h : Sl w 2 p.A p.l.length p.c (pcells p.l)) (h' : Sl w 2 q.A q.l.length q.c (pcells q.l)) : LsAt (w.alloc (.cells #[.slice p.A p.l.length p.c, .slice q.A q.l.length q.c] e)) (some ⟨x, 0, none⟩) 2 [p, q] :=
  ⟨sl_new2 _ _ hx, fun y hy => by
    have hb := (Below.refl w.heap.size w).alloc (Nat.le_refl _) (.cells #[.slice p.A p.l.length p.c, .slice q.A q.l.length q.c] e)
    simp only [List.mem_cons, List.not_mem_nil, or_false] at hy
    rcases hy with rfl | rfl
    · exact h.below hb
    · exact h'.below hb⟩
theorem Sl.take2 {w : World} {A : Option Addr} {len cap : Nat} {l : List (Int × Int)} (h : Sl w 2 A len cap (pcells l)) (n : Nat) (hn : n ≤ len) : Sl w 2 A n cap (pcells (l.take n)) := by
  have h1 := h.take n hn
  rw [pcells_take] at h1
  exact h1

set_option maxRecDepth 20000 in
set_option maxHeartbeats 4000000 in
theorem rparts_any (A : Option Addr) (cap : Nat) (l : List (Int × Int)) (W : World) (h : Sl W 2 A l.length cap (pcells l)) (hl : l.length ≤ 1000) :
    Calls Try.prog 21 #[.slice A l.length cap] W fun e w' => ∃ A' c' ys, pls ys = partsN l ∧ e = .returned (.slice A' ys.length c') ∧ LsAt w' A' c' ys ∧ Below W.heap.size W w' := by
  have HC := hid (rcheck09_any A cap l W h hl)
  have HS := hid (fun w (hw : Below W.heap.size W w) => h.below hw)
  have HL := hid hl
  have hcp := h.2.1
  have hcm := h.2.2.1
  have hl9 : (l.length : Int) ≤ 1000 := by omega
  by_cases hc : chkN l = 0
  · obtain ⟨t, hw, hl0, hd, h31, hr⟩ := chkN_zero hc
    have hp := t.flat_pos
    obtain ⟨e, he⟩ : ∃ e, l.length = e + 1 := ⟨l.length - 1, by rw [hl0]; omega⟩
    obtain ⟨h1, h2⟩ := last_at t [] [] e (by simp; rw [← hl0]; omega)
    have hx : l[e]'(by omega) = lastN t := by
      have : l = [] ++ (t.flat ++ []) := by simpa using hl0
      simp only [this]
      exact h2
    have HCE := hid (fun w (hb : Below W.heap.size W w) => by
      have := (HS.out w hb).at2 e (by omega)
      rw [hx] at this
      exact this)
    have HV : Hid (partsN l = t.kids.map Nt.flat) := hid (by rw [hl0] at hc ⊢; exact partsN_tree hw hc)
    rw [hc] at HC
    have HBG := hid (fun w (hb : Below W.heap.size W w) (e2 : Nat) (h2 : e2 < l.length) => begin_any A cap l e2 w (HS.out w hb) HL.out h2)
    have HP := hid parts0_any
    have HSW := hid h
    clear h hl hc h1 h2 hx hr
    cases t with
    | yes =>
      simp only [lastN, Nt.kids, List.map_nil] at HCE HV
      have HPC := hid (fun w => HP.out 1 w)
      rw [show arN 1 = 0 from rfl] at HPC
      clear HBG HSW HS hl0 hw HP hp hd
      generalize hm : l.length = m at *
      clear hm
      subst he
      rw [show ((e + 1 : Nat) : Int) = (e : Int) + 1 by omega] at *
      go_enter Try.func21, Try.ntmps21
      go_wp2_with fail
      refine HC.out.mono ?_
      rintro x w1 ⟨rfl, hb⟩
      have HB := hid hb
      obtain ⟨bb, off, rfl, hc0, hc1⟩ := HCE.out _ hb
      have hee : (e : Int) < (e : Int) + 1 := by omega
      clear hb HC
      go_wp2_with fail
      refine (HPC.out _).mono ?_
      rintro x w2 ⟨rfl, rfl⟩
      go_wp2
      go_ret
      exact ⟨none, 0, [], HV.out.symm, rfl, ⟨Sl.nil _ _ _ _ (Nat.zero_le _), fun y hy => by simp at hy⟩, HB.out⟩
    | attr n =>
      simp only [lastN, Nt.kids, List.map_nil] at HCE HV
      have HPC := hid (fun w => HP.out 2 w)
      rw [show arN 2 = 0 from rfl] at HPC
      clear HBG HSW HS hl0 hw HP hp hd
      generalize hm : l.length = m at *
      clear hm
      subst he
      rw [show ((e + 1 : Nat) : Int) = (e : Int) + 1 by omega] at *
      go_enter Try.func21, Try.ntmps21
      go_wp2_with fail
      refine HC.out.mono ?_
      rintro x w1 ⟨rfl, hb⟩
      have HB := hid hb
      obtain ⟨bb, off, rfl, hc0, hc1⟩ := HCE.out _ hb
      have hee : (e : Int) < (e : Int) + 1 := by omega
      clear hb HC
      go_wp2_with fail
      refine (HPC.out _).mono ?_
      rintro x w2 ⟨rfl, rfl⟩
      go_wp2
      go_ret
      exact ⟨none, 0, [], HV.out.symm, rfl, ⟨Sl.nil _ _ _ _ (Nat.zero_le _), fun y hy => by simp at hy⟩, HB.out⟩
    | not t =>
      simp only [lastN, Nt.kids, List.map_cons, List.map_nil] at HCE HV
      have HPC := hid (fun w => HP.out 3 w)
      rw [show arN 3 = 1 from rfl] at HPC
      have hte : t.flat.length = e := by rw [hl0] at he; simp [Nt.flat] at he; omega
      have HX : Hid (l.take e = t.flat) := hid (by rw [hl0, Nt.flat]; exact List.take_left' hte)
      have HTE := hid hte
      have hs3 : ∀ w : World, (Instr.slice 22 (.slice A (e + 1) cap) none (some (.int .i64 (e : Int))) none).run Try.prog w = .ok (.slice A e cap) w := run_to Try.underlying22 info_node A (e + 1) cap e (by omega)
      have HST := hid (fun w (hw : Below W.heap.size W w) => (HS.out w hw).take2 e (by omega))
      rw [HX.out] at HST
      clear HBG HSW HS hl0 hw HP hp hd HX hte
      generalize hm : l.length = m at *
      clear hm
      subst he
      rw [show ((e + 1 : Nat) : Int) = (e : Int) + 1 by omega] at *
      go_enter Try.func21, Try.ntmps21
      go_wp2_with fail
      refine HC.out.mono ?_
      rintro x w1 ⟨rfl, hb⟩
      have HB := hid hb
      obtain ⟨bb, off, rfl, hc0, hc1⟩ := HCE.out _ hb
      have hee : (e : Int) < (e : Int) + 1 := by omega
      have HF : Hid (LsAt (w1.alloc (.cells #[.slice (some ⟨bb, off, none⟩) e cap] 22)) (some ⟨w1.heap.size, 0, none⟩) 1 [⟨t.flat, some ⟨bb, off, none⟩, cap⟩]) := hid (by
        have := pl1 (w := w1) (e := 22) ⟨t.flat, some ⟨bb, off, none⟩, cap⟩ rfl (by simp only [HTE.out]; exact HST.out _ hb)
        simp only [HTE.out] at this
        exact this)
      clear hb HC
      go_wp2_with fail
      refine (HPC.out _).mono ?_
      rintro x w2 ⟨rfl, rfl⟩
      go_wp2
      go_ret
      exact ⟨_, _, [⟨t.flat, some ⟨bb, off, none⟩, cap⟩], HV.out.symm, rfl, HF.out, HB.out.alloc HB.out.size _⟩
    | pair op a b =>
      simp only [lastN, Nt.kids, List.map_cons, List.map_nil] at HCE HV
      have ha2 : arN op = 2 := by rcases hw.1 with rfl | rfl <;> rfl
      have HPC := hid (fun w => HP.out op w)
      rw [ha2] at HPC
      have hpa := a.flat_pos
      have hpb := b.flat_pos
      have hte : a.flat.length + b.flat.length = e := by rw [hl0] at he; simp [Nt.flat] at he; omega
      have hl1 : l = [] ++ (a.flat ++ (b.flat ++ [(op, 0)])) := by rw [hl0, Nt.flat]; rfl
      have hX1 : l.take a.flat.length = a.flat := by rw [hl0, Nt.flat]; exact List.take_left' rfl
      have hX2 : (l.take (a.flat.length + b.flat.length)).drop a.flat.length = b.flat := by rw [hl0, Nt.flat]; exact mid_eq _ _ _
      obtain ⟨e2, he2⟩ : ∃ e2, e = e2 + 1 := ⟨e - 1, by omega⟩
      have hbg : beginN l (e2 + 1) = (a.flat.length : Int) := by
        have h9 := begin_flat a.flat [(op, 0)] b hw.2.2
        rw [show a.flat ++ (b.flat ++ [(op, 0)]) = l by rw [hl1]; rfl, show a.flat.length + b.flat.length = e2 + 1 by omega] at h9
        exact h9
      have HBG2 := hid (fun w hb => HBG.out w hb e2 (by omega))
      rw [hbg] at HBG2
      have hs1 : ∀ w : World, (Instr.slice 22 (.slice A (e + 1) cap) none (some (.int .i64 (a.flat.length : Int))) none).run Try.prog w = .ok (.slice A a.flat.length cap) w := run_to Try.underlying22 info_node A (e + 1) cap a.flat.length (by omega)
      have hs2 : ∀ w : World, (Instr.slice 22 (.slice A (e + 1) cap) (some (.int .i64 (a.flat.length : Int))) (some (.int .i64 (e : Int))) none).run Try.prog w = .ok (.slice (dropA A cap a.flat.length 2) b.flat.length (cap - a.flat.length)) w := fun w => by
        have h9 := run_mid Try.underlying22 info_node A (e + 1) cap a.flat.length e (by omega) (by omega) w
        rw [show e - a.flat.length = b.flat.length by omega] at h9
        exact h9
      have HST1 := hid (fun w (hw : Below W.heap.size W w) => (HS.out w hw).take2 a.flat.length (by omega))
      have HST2 := hid (fun w (hw : Below W.heap.size W w) => (HS.out w hw).mid2 a.flat.length b.flat.length (by omega))
      rw [hX1] at HST1
      rw [hX2] at HST2
      have hal : (a.flat.length : Int) ≤ 1000 := by omega
      clear HBG HSW HS hl0 hw HP hp hd hX1 hX2 hl1 hbg ha2 hte hpa hpb
      generalize hm : l.length = m at *
      clear hm
      subst he
      subst he2
      rw [show ((e2 + 1 : Nat) : Int) = (e2 : Int) + 1 by omega] at *
      rw [show ((e2 + 1 + 1 : Nat) : Int) = (e2 : Int) + 1 + 1 by omega] at *
      have hee : (e2 : Int) + 1 < (e2 : Int) + 1 + 1 := by omega
      have h00 : (0 : Int) ≤ (e2 : Int) + 1 := by omega
      have htn : ((e2 : Int) + 1).toNat = e2 + 1 := by omega
      have HF := hid (fun (w : World) (hb : Below W.heap.size W w) (x : Nat) (hx : x = w.heap.size) => pl2 (w := w) (e := 22) (x := x) ⟨a.flat, A, cap⟩ ⟨b.flat, dropA A cap a.flat.length 2, cap - a.flat.length⟩ hx (HST1.out w hb) (HST2.out w hb))
      simp only at HF
      clear HST1 HST2
      generalize dropA A cap a.flat.length 2 = dA at *
      generalize cap - a.flat.length = dc at *
      generalize ha9 : a.flat.length = an at *
      generalize hb9 : b.flat.length = bn at *
      clear ha9 hb9
      go_enter Try.func21, Try.ntmps21
      go_wp2_with fail
      refine HC.out.mono ?_
      rintro x w1 ⟨rfl, hb⟩
      have HB := hid hb
      obtain ⟨bb, off, rfl, hc0, hc1⟩ := HCE.out _ hb
      clear hb HC HCE
      go_wp2_with fail
      refine (HPC.out _).mono ?_
      rintro x w2 ⟨rfl, rfl⟩
      go_wp2_with fail
      refine (HBG2.out _ HB.out).mono ?_
      rintro x w2 ⟨rfl, rfl⟩
      go_upto_region 10 with (fail)
      go_region
      all_goals
        go_wp2
        go_ret
        exact ⟨_, _, [⟨a.flat, some ⟨bb, off, none⟩, cap⟩, ⟨b.flat, dA, dc⟩], HV.out.symm, rfl, HF.out w1 HB.out _ rfl, below_drew (HB.out.alloc HB.out.size _)⟩
  · have HV : Hid (partsN l = []) := hid (by unfold partsN; rw [if_neg hc])
    generalize chkN l = k at *
    clear h hl HS HL
    generalize l.length = m at *
    go_enter Try.func21, Try.ntmps21
    go_wp2_with fail
    refine HC.out.mono ?_
    rintro x w1 ⟨rfl, hb⟩
    have HB := hid hb
    clear hb HC
    go_wp2
    go_ret
    exact ⟨none, 0, [], HV.out.symm, rfl, ⟨Sl.nil _ _ _ _ (Nat.zero_le _), fun y hy => by simp at hy⟩, HB.out⟩
end Go.Proofs.Ytfaglemadpobeaa
