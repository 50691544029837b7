/- QueueKeeps. -/
import Derived.Test.YtadjmgmdnekllaaQueE
import Derived.Test.YtadjmgmdnekllaaMid
import Derived.Test.YtadjmgmdnekllaaFlockD
import Derived.Deep.CutRange
namespace Go.Proofs.Ytadjmgmdnekllaa
open Go.RowKit Go.Sort
set_option linter.unusedVariables false
set_option linter.unusedSimpArgs false

theorem below_drewN' {n k : Nat} {W w : World} (h : Below n W w) : Below n W (w.drewN k) := ⟨h.os, h.tape, h.output, h.size, h.block⟩

set_option maxRecDepth 20000 in
theorem works29_any (W : World) : Calls Try.prog 61 #[] W fun e w' => e = .returned (.bool true) ∧ Below W.heap.size W w' := by
  have h0 : pushJ [] 1 (5, 0) = [(5, 0)] ∧ pushE [] 1 (5, 0) = 0 := by unfold pushJ pushE hasJ; simp
  have h1 : pushJ [(5, 0)] 1 (5, 0) = [(5, 0)] ∧ pushE [(5, 0)] 1 (5, 0) = 9 := by unfold pushJ pushE hasJ; simp
  have h2 : pushJ [(5, 0)] 1 (6, 0) = [(5, 0)] ∧ pushE [(5, 0)] 1 (6, 0) = 7 := by unfold pushJ pushE hasJ; simp
  have HP0 := hid (push_any none 0 0 [] 1 5 0 W (Sl.nil _ _ _ _ (Nat.zero_le _)) (by omega))
  rw [h0.1, h0.2] at HP0
  have HP1 := hid (fun A c w h => push_any A 1 c [(5, 0)] 1 5 0 w h (by omega))
  rw [h1.1, h1.2] at HP1
  have HP2 := hid (fun A c w h => push_any A 1 c [(5, 0)] 1 6 0 w h (by omega))
  rw [h2.1, h2.2] at HP2
  clear h0 h1 h2
  go_enter Try.func61, Try.ntmps61
  go_wp2_with fail
  refine HP0.out.mono ?_
  rintro e w1 ⟨v1, rfl, ho1, hb1⟩
  obtain ⟨A1, c1, rfl, hs1⟩ := Sl.of_own ho1
  have HS1 := hid hs1
  have HB1 := hid hb1
  clear ho1 hs1 hb1 HP0
  go_wp2_with fail
  refine (HP1.out _ _ _ HS1.out).mono ?_
  rintro e w2 ⟨v2, rfl, ho2, hb2⟩
  obtain ⟨A2, c2, rfl, _⟩ := Sl.of_own ho2
  have HS2 := hid (HS1.out.below hb2)
  have HB2 := hid (HB1.out.trans (hb2.mono HB1.out.size))
  clear ho2 hb2 HP1 HS1 HB1
  go_wp2_with fail
  refine (HP2.out _ _ _ HS2.out).mono ?_
  rintro e w3 ⟨v3, rfl, ho3, hb3⟩
  obtain ⟨A3, c3, rfl, _⟩ := Sl.of_own ho3
  have HB3 := hid (HB2.out.trans (hb3.mono HB2.out.size))
  clear ho3 hb3 HP2 HS2 HB2
  go_wp2
  go_ret
  exact ⟨rfl, HB3.out⟩

/-- Each job once at most, and no more than the limit. -/
def QK (lim : Nat) (l : List (Int × Int)) : Prop := l.length ≤ lim ∧ (l.map Prod.fst).Nodup
theorem QK.nil (lim : Nat) : QK lim [] := ⟨Nat.zero_le _, List.nodup_nil⟩
theorem push_split (l : List (Int × Int)) (lim : Nat) (x y : Int) (h : QK lim l) :
    (pushE l lim (x, y) = 0 ∧ pushJ l lim (x, y) = l ++ [(x, y)] ∧ QK lim (l ++ [(x, y)])) ∨ (pushE l lim (x, y) ≠ 0 ∧ pushJ l lim (x, y) = l) := by
  unfold pushE pushJ
  by_cases h1 : hasJ l x = true
  · rw [if_pos h1, if_pos h1]
    exact .inr ⟨by omega, rfl⟩
  · rw [if_neg h1, if_neg h1]
    by_cases h2 : (lim : Int) ≤ (l.length : Int)
    · rw [if_pos h2, if_pos h2]
      exact .inr ⟨by omega, rfl⟩
    · rw [if_neg h2, if_neg h2]
      refine .inl ⟨rfl, rfl, by simp; omega, ?_⟩
      rw [List.map_append, List.nodup_append]
      refine ⟨h.2, by simp, fun a ha b hb => ?_⟩
      simp at hb
      subst hb
      rintro rfl
      obtain ⟨p, hp, rfl⟩ := List.mem_map.1 ha
      obtain ⟨j, hj, rfl⟩ := List.getElem_of_mem hp
      exact h1 ((hasJ_iff l _).2 ⟨j, hj, rfl⟩)
theorem drop_fst (l : List (Int × Int)) (job : Int) : (dropJ l job).map Prod.fst = (l.map Prod.fst).filter (· != job) := by
  unfold dropJ
  rw [List.filter_map]
  rfl
theorem QK.drop {lim : Nat} {l : List (Int × Int)} (h : QK lim l) (job : Int) : QK lim (dropJ l job) :=
  ⟨Nat.le_trans (dropJ_len l job) h.1, by rw [drop_fst]; exact h.2.sublist List.filter_sublist⟩
theorem move_fst (l : List (Int × Int)) (job s : Int) : (moveJ l job s).map Prod.fst = l.map Prod.fst := by
  unfold moveJ
  rw [List.map_map]
  apply List.map_congr_left
  intro p _
  simp only [Function.comp]
  split <;> rfl
theorem QK.move {lim : Nat} {l : List (Int × Int)} (h : QK lim l) (job s : Int) : QK lim (moveJ l job s) := ⟨by rw [moveJ_len]; exact h.1, by rw [move_fst]; exact h.2⟩
theorem QK.tail {lim : Nat} {p : Int × Int} {l : List (Int × Int)} (h : QK lim (p :: l)) : QK lim l := by
  refine ⟨by have := h.1; simp at this; omega, ?_⟩
  have := h.2
  rw [List.map_cons, List.nodup_cons] at this
  exact this.2
theorem QK.once {lim : Nat} {l : List (Int × Int)} (h : QK lim l) (k : Nat) (hk : k < l.length) : l[k].1 ∉ (l.map Prod.fst).take k := by
  intro hm
  obtain ⟨j, hj, he⟩ := List.getElem_of_mem hm
  rw [List.length_take] at hj
  rw [List.getElem_take] at he
  have hjl : j < (l.map Prod.fst).length := by omega
  have hkl : k < (l.map Prod.fst).length := by rw [List.length_map]; exact hk
  have e2 : (l.map Prod.fst)[k] = l[k].1 := by simp
  rw [← e2] at he
  have := (List.getElem_inj h.2).1 he
  omega
attribute [irreducible] QK
theorem QK.len {lim : Nat} {l : List (Int × Int)} (h : QK lim l) : l.length ≤ lim := by unfold QK at h; exact h.1
theorem own_past_mid {w w' : World} {base base' e e' s s' n m : Nat} {v v' : Value} {xs ys : List Value} (h : w.ownsRow base e s v n xs) (k : Mid w base' e' s' v' m ys) (hne : e ≠ e')
    (hk : ∀ g, g < w.heap.size → v'.ownBlock ≠ some g → w'.heap[g]? = w.heap[g]?) : w'.ownsRow base e s v n xs := by
  refine ⟨h.1, ?_⟩
  rcases h.2 with h2 | ⟨g, cap, cur, h3, h4, h5, h6⟩
  · exact .inl h2
  · refine .inr ⟨g, cap, cur, h3, h4, ?_, h6⟩
    rw [hk g (lt_of_block h5) fun hv => ?_]
    · exact h5
    · rcases k.2 with ⟨rfl, _⟩ | ⟨g', off, cap', cur', rfl, _, hh, _⟩
      · simp [Value.ownBlock] at hv
      · have : g' = g := by simpa [Value.ownBlock] using hv
        subst this
        rw [h5] at hh
        injection hh with hh
        injection hh with _ ht
        exact hne ht

/-- What QueueKeeps holds of its queue and of what was pushed. -/
def QR (W w : World) (lim : Nat) (q v : Value) : Prop :=
  ∃ (A : Option Addr) (c : Nat) (l : List (Int × Int)), q = .slice A l.length c ∧ QK lim l ∧ w.ownsRow W.heap.size 91 2 q l.length (pcells l) ∧ Mid w W.heap.size 3 1 v l.length (icells .i64 (l.map Prod.fst)) ∧ Below W.heap.size W w

set_option maxRecDepth 20000 in
set_option maxHeartbeats 16000000 in
theorem queueKeeps_small (lim : Nat) (A : Option Addr) (len cap : Nat) (W : World) (h : len ≤ 100) (hlim : lim < 256) (f : Nat → Nat → Int)
    (hz : 0 < len → ∃ b off, A = some ⟨b, off, none⟩ ∧ ∀ i, i < len → ∀ j, j < 3 → W.cell? ⟨b, off + i * 3 + j, none⟩ = some (.int .i64 (f i j))) :
    Calls Try.prog 10 #[.int .u8 (lim : Int), .slice A len cap] W fun e w' => e = .returned (.bool true) ∧ Below W.heap.size W w' := by
  have HZ := hid hz
  have hlen : (len : Int) ≤ 100 := by omega
  have hcv : ∀ w : World, (convert 5 3 (.int .u8 (lim : Int))).run Try.prog w = .ok (.int .i64 (lim : Int)) w := fun w => by
    rw [run_convert_int (P := Try.prog) w 5 3 .u8 (lim : Int) (by rw [Try.underlying5]; rfl) Try.underlying3]
    have : IntKind.i64.wrap (lim : Int) = (lim : Int) := by simp [IntKind.wrap, IntKind.bits, IntKind.signed]; omega
    rw [show Try.prog.intKind 3 = .i64 by unfold Program.intKind; rw [Try.underlying3], this]
  have hd : decide ((100 : Int) < (len : Int)) = false := by simp; omega
  have hE := own_empty W 3 1
  have HE := hid hE
  clear hz hE
  go_enter Try.func10, Try.ntmps10
  go_wp2
  go_loopw [5, 6, 7] (fun q v i wr => ∃ (k : Nat), k ≤ len ∧ i = .int .i64 (k : Int) ∧ Hid (QR W wr lim q v)) (fun _ _ i _ => len - (intOf i).toNat)
  case atStart => exact ⟨0, by omega, rfl, ⟨none, 0, [], rfl, QK.nil lim, World.ownsRow_nil _ _ _ _, Mid.of_own HE.out, (Below.refl _ _).alloc (Nat.le_refl _) _⟩⟩
  case round =>
    obtain ⟨k, hk, rfl, HQ⟩ := hrel
    by_cases hlt : k < len
    · obtain ⟨Aq, cq, l, rfl, hqk, ho, hm, hb⟩ := HQ.out
      obtain ⟨b, off, rfl, hcl⟩ := HZ.out (by omega)
      have c0 := cellb hb (hcl k hlt 0 (by omega))
      have c1 := cellb hb (hcl k hlt 1 (by omega))
      have c2 := cellb hb (hcl k hlt 2 (by omega))
      simp only [Nat.add_zero] at c0
      have hlt2 : (k : Int) < (len : Int) := by omega
      obtain ⟨Ap, cp, rfl, hsp⟩ := hm.form
      have HK := hid hqk
      have HO := hid ho
      have HM := hid hm
      have HB := hid hb
      have hll := hqk.len
      have hll2 : (l.length : Int) ≤ 255 := by omega
      have hsp0 := hid hsp
      clear hqk ho hm hb hsp hcl HQ
      generalize f k 0 = x0 at c0
      generalize f k 1 = x at c1
      generalize f k 2 = y at c2
      go_upto_if 32 with (fail)
      go_cut [5, 6] from 21 to 187 (fun q v wx => Hid (QR W wx lim q v))
      case first =>
        by_cases h0 : x0 = 0
        · subst h0
          have hS : ∀ U, Below wr.heap.size wr U → ((U.cell? ⟨b, off + k * 3 + 1, none⟩ = some (.int .i64 x) ∧ U.cell? ⟨b, off + k * 3 + 2, none⟩ = some (.int .i64 y)) ∧ Below wr.heap.size wr U) := fun U hU => ⟨⟨cellb hU c1, cellb hU c2⟩, hU⟩
          have HPU := hid (fun w (hw : Below wr.heap.size wr w) => push_any Aq l.length cq l lim x y w ((sl_own HO.out).below hw) (by omega))
          rcases push_split l lim x y HK.out with ⟨p1, p2, p3⟩ | ⟨p1, p2⟩
          · rw [p1, p2] at HPU
            have HP3 := hid p3
            clear p1 p2 p3
            go_upto_region 9 with (fail)
            go_region_held3 (fun U => (U.cell? ⟨b, off + k * 3 + 1, none⟩ = some (.int .i64 x) ∧ U.cell? ⟨b, off + k * 3 + 2, none⟩ = some (.int .i64 y)) ∧ Below wr.heap.size wr U)
              (first
                | assumption
                | exact hS _ (Below.refl _ _)
                | exact hS _ (below_drew (Below.refl _ _))
                | exact hS _ (bel_trans (And.right (by assumption)) (by assumption)))
              (first
                | (go_at_call 63
                   (with_reducible refine (HPU.out _ (And.right (by assumption))).mono ?_)
                   rintro e u1 ⟨v1, rfl, o1, g1⟩))
            obtain ⟨A1, c1', rfl, _⟩ := Sl.of_own o1
            have HO1 := hid o1
            have hg : Below wr.heap.size wr u1 := undrew g1
            have HG1 := hid hg
            have d1 := cellb hg c1
            have HM1 := hid (HM.out.keep hg)
            have HB1 := hid (HB.out.trans (hg.mono HB.out.size))
            rename_i hHeld
            clear hHeld hS o1 g1 hg HPU c0 c1 c2
            have hba : Below u1.heap.size u1 (u1.alloc (.cells #[.int .i64 x] 3)) := (Below.refl _ _).alloc (Nat.le_refl _) _
            have HM2 := hid (HM1.out.keep hba)
            have HB2 := hid (HB1.out.trans (hba.mono HB1.out.size))
            have HO2 := hid (own_keep HO1.out hba)
            have hsz2 := HB2.out.size
            clear hba
            go_wp2_with (at_builtin; refine wpList_append_mid (W := W) (w := u1.alloc (.cells #[.int .i64 x] 3)) rfl (.tmp 53) (.tmp 59) 23 rfl W.heap.size 3 Try.underlying23 info_int rfl (by omega) rfl HM2.out rfl (Sl.lit u1 3 1 1 #[.int .i64 x] rfl (by simp [maxLen])) (by simp; rfl) ?c1 ?c2 hsz2 HB2.out ?_)
            case c1 => unfold maxLen; omega
            case c2 => omega
            · intro v' w' m2 b2 s2 k2
              have HR : Hid (QR W w' lim (.slice A1 (l.length + 1) c1') v') := hid (by
                have hlx : (l ++ [(x, y)]).length = l.length + 1 := by simp
                rw [← hlx]
                refine ⟨A1, c1', l ++ [(x, y)], rfl, HP3.out, own_mono (own_past_mid HO2.out HM2.out (by decide) (fun g hg hv => k2 g (by simpa using hg) hv)) (by have h1 := HG1.out.size; have h2 := HB.out.size; simp; omega), ?_, b2⟩
                rw [List.map_append, icells_append, hlx]
                exact m2)
              clear m2 b2 s2 k2
              go_wp2
              go_meet
              case rel => exact HR.out
          · rw [p2] at HPU
            generalize hpe : pushE l (lim : Int) (x, y) = pe at HPU p1
            have hpe2 : (pe == 0) = false := by rw [beq_eq_false_iff_ne]; exact p1
            clear p1 p2 hpe
            go_upto_region 9 with (fail)
            go_region_held3 (fun U => (U.cell? ⟨b, off + k * 3 + 1, none⟩ = some (.int .i64 x) ∧ U.cell? ⟨b, off + k * 3 + 2, none⟩ = some (.int .i64 y)) ∧ Below wr.heap.size wr U)
              (first
                | assumption
                | exact hS _ (Below.refl _ _)
                | exact hS _ (below_drew (Below.refl _ _))
                | exact hS _ (bel_trans (And.right (by assumption)) (by assumption)))
              (first
                | (go_at_call 63
                   (with_reducible refine (HPU.out _ (And.right (by assumption))).mono ?_)
                   rintro e u1 ⟨v1, rfl, o1, g1⟩))
            obtain ⟨A1, c1', rfl, s1⟩ := Sl.of_own o1
            have HO1 := hid o1
            have hg : Below wr.heap.size wr u1 := undrew g1
            have HG1 := hid hg
            have HM1 := hid (HM.out.keep hg)
            have HB1 := hid (HB.out.trans (hg.mono HB.out.size))
            have HSM := hid (qsame_any A1 Aq l.length c1' l.length cq l l u1 s1 ((sl_own HO.out).below hg) (by omega) (by omega))
            rw [show (l == l) = true by simp] at HSM
            rename_i hHeld
            clear hHeld hS o1 g1 hg HPU c0 c1 c2 s1
            go_wp2_with fail
            refine HSM.out.mono ?_
            rintro e u2 ⟨rfl, q2, rfl⟩
            go_wp2
            go_meet
            case rel => exact ⟨A1, c1', l, rfl, HK.out, own_mono (w := u1) HO1.out HB.out.size, HM1.out, below_drewN' HB1.out⟩
        by_cases h1 : x0 = 1
        · subst h1
          clear h0
          rcases l with _ | ⟨p, l2⟩
          · have HPN := hid (fun w => pop_nil Aq cq w)
            simp only [List.length_nil] at *
            go_wp2_with fail
            refine (HPN.out _).mono ?_
            rintro e u1 ⟨rfl, g1⟩
            have HG1 := hid g1
            have HM1 := hid (HM.out.keep g1)
            have HB1 := hid (HB.out.trans (g1.mono HB.out.size))
            clear g1 HPN c0 c1 c2 HO HM
            go_upto_region 17 with (fail)
            have hba : Below u1.heap.size u1 (u1.alloc (.cells #[.int .i64 0, .int .i64 0] 91)) := (Below.refl _ _).alloc (Nat.le_refl _) _
            have HM2 := hid (HM1.out.keep hba)
            have HB2 := hid (HB1.out.trans (hba.mono HB1.out.size))
            clear hba
            refine at_world (fun w => Mid w W.heap.size 3 1 (.slice Ap 0 cp) 0 (icells .i64 (([] : List (Int × Int)).map Prod.fst)) ∧ Below W.heap.size W w) ⟨HM2.out, HB2.out⟩ ?_
            rintro u2 ⟨m2, b2⟩
            have HM3 := hid m2
            have HB3 := hid b2
            clear m2 b2
            go_quiet (fail)
            go_wp2
            go_meet
            case rel => exact ⟨none, 0, [], rfl, HK.out, World.ownsRow_nil _ _ _ _, HM3.out, below_drewN' HB3.out⟩
          · have HPA := hid (fun w (hw : Below wr.heap.size wr w) => pop_any Aq cq p l2 w ((sl_own HO.out).below hw) (by have h9 := hll; rw [List.length_cons] at h9; omega))
            obtain ⟨p1, p2⟩ := p
            have hl3 : l2.length + 1 ≤ 255 := by simp at hll2; omega
            have hle : ((p1, p2) :: l2).length = l2.length + 1 := rfl
            have HKT := hid HK.out.tail
            have HSP := hid hsp0.out
            rw [hle] at HM HSP ⊢
            have hcpp : l2.length + 1 ≤ cp := HSP.out.2.1
            have hrun : ∀ w : World, (Instr.slice 23 (.slice Ap (l2.length + 1) cp) (some (.int .i64 1)) none none).run Try.prog w = .ok (.slice (dropA Ap cp 1 1) l2.length (cp - 1)) w := fun w => by
              have := run_from Try.underlying23 info_int Ap (l2.length + 1) cp 1 (by omega) w
              simpa using this
            have HMD := hid (fun w (hw : Below wr.heap.size wr w) => (HM.out.keep hw).drop 1 (by omega))
            obtain ⟨bp, op, hAp, hjunk⟩ := Sl.at HSP.out 0 (by simp [icells])
            subst hAp
            simp only [Nat.add_zero] at hjunk
            have e00 : (icells .i64 (((p1, p2) :: l2).map Prod.fst))[0]'(by simp [icells]) = .int .i64 p1 := by simp [icells]
            rw [e00] at hjunk
            have HJ := hid hjunk
            have hl5 : (0 : Int) < ((l2.length + 1 : Nat) : Int) := by omega
            have hl6 : (1 : Int) ≤ ((l2.length + 1 : Nat) : Int) := by omega
            have hl7 : 0 < l2.length + 1 := by omega
            have hdx : decide ((0 : Int) < ((l2.length + 1 : Nat) : Int)) = true := decide_eq_true hl5
            obtain ⟨n1, hn1⟩ : ∃ n1, n1 = l2.length + 1 := ⟨_, rfl⟩
            rw [← hn1] at hrun hl5 hl6 hl7 hdx HPA ⊢
            have HN1 := hid hn1
            clear hn1 hle hl3 hjunk e00 hsp0 HSP HKT
            go_wp2_with fail
            refine (HPA.out _ (Below.refl _ _)).mono ?_
            rintro e u1 ⟨v1, rfl, o1, g1⟩
            obtain ⟨A1, c1', rfl, _⟩ := Sl.of_own o1
            have HO1 := hid (own_mono o1 HB.out.size)
            have HG1 := hid g1
            have HB1 := hid (HB.out.trans (g1.mono HB.out.size))
            clear g1 o1 HPA c0 c1 c2
            go_upto_region 17 with (fail)
            have hba : Below u1.heap.size u1 (u1.alloc (.cells #[.int .i64 p1, .int .i64 p2] 91)) := (Below.refl _ _).alloc (Nat.le_refl _) _
            have hbw : Below wr.heap.size wr (u1.alloc (.cells #[.int .i64 p1, .int .i64 p2] 91)) := HG1.out.trans (hba.mono HG1.out.size)
            obtain ⟨Z, hZ⟩ : ∃ Z, Z = u1.heap.size := ⟨_, rfl⟩
            rw [← hZ]
            refine at_world (fun w => w.heap[Z]? = some (.cells #[.int .i64 p1, .int .i64 p2] 91 (0, 0)) ∧ Below wr.heap.size wr w ∧ Below W.heap.size W w ∧ w.ownsRow W.heap.size 91 2 (.slice A1 l2.length c1') l2.length (pcells l2)) ⟨by rw [hZ]; exact heap_alloc_new _ _, hbw, HB1.out.trans (hba.mono HB1.out.size), own_keep HO1.out hba⟩ ?_
            rintro u2 ⟨kz, b2, b3, o2⟩
            obtain ⟨z0, z1, z2, z3⟩ := two_cells kz
            have dj := cellb b2 HJ.out
            have HM2 := hid (HMD.out u2 b2)
            have HB3 := hid b3
            have HO3 := hid o2
            clear kz b2 b3 o2 hba hbw hZ HO1 HG1 HB1 HMD HJ HO HM z1 z2 z3
            have hpp : (p1 == p1) = true := by simp
            go_quiet (fail)
            go_wp2
            go_meet
            case rel =>
              have h5 := HM2.out
              have hn := HN1.out
              rw [Nat.add_sub_cancel] at h5
              have h6 : Mid u2 W.heap.size 3 1 (.slice (dropA (some ⟨bp, op, none⟩) cp 1 1) l2.length (cp - 1)) l2.length (icells .i64 (l2.map Prod.fst)) := by simpa [icells] using h5
              exact ⟨A1, c1', l2, rfl, HK.out.tail, HO3.out, h6.drewN _, below_drewN' HB3.out⟩
        by_cases h2 : x0 = 2
        · subst h2
          have HDR := hid (drop_any Aq l.length cq l x wr (sl_own HO.out) (by omega))
          clear h0 h1
          go_wp2_with fail
          refine HDR.out.mono ?_
          rintro e u1 ⟨v1, rfl, o1, g1⟩
          obtain ⟨A1, c1', rfl, _⟩ := Sl.of_own o1
          have HO1 := hid (own_mono o1 HB.out.size)
          have HG1 := hid g1
          have HB1 := hid (HB.out.trans (g1.mono HB.out.size))
          have HM1 := hid (HM.out.keep g1)
          have d1 := hid (cellb g1 c1)
          clear g1 o1 HDR c0 c1 c2
          obtain ⟨uo, huo⟩ : ∃ uo : World, uo = u1 := ⟨_, rfl⟩
          subst huo
          go_wp2
          go_loopw [13, 14] (fun v i w2 => ∃ j : Nat, j ≤ l.length ∧ i = .int .i64 (j : Int) ∧ Hid (w2.ownsRow uo.heap.size 3 1 v (((l.map Prod.fst).take j).filter (· != x)).length (icells .i64 (((l.map Prod.fst).take j).filter (· != x)))) ∧ Hid (Below uo.heap.size uo w2)) (fun _ i _ => l.length - (intOf i).toNat)
          case atStart => exact ⟨0, by omega, rfl, World.ownsRow_nil _ _ _ _, Below.refl _ _⟩
          case round =>
            obtain ⟨j, hj, rfl, HF, HG⟩ := hrel
            have hmn : (l.map Prod.fst).length = l.length := List.length_map ..
            have hff := filt_len (l.map Prod.fst) x j
            have HFS := hid (fun h => filt_snoc (l.map Prod.fst) x j h)
            have hsp2 := (HM1.out.sl).below HG.out
            have dd1 := cellb HG.out d1.out
            by_cases hjl : j < l.length
            · have hjl2 : (j : Int) < (l.length : Int) := by omega
              obtain ⟨bp, op, hAp, hcj⟩ := Sl.at hsp2 j (by rw [icells_length, hmn]; exact hjl)
              subst hAp
              have e00 : (icells .i64 (l.map Prod.fst))[j]'(by rw [icells_length, hmn]; exact hjl) = .int .i64 (l.map Prod.fst)[j] := by simp [icells]
              rw [e00] at hcj
              have HFS2 := hid (HFS.out (by rw [hmn]; exact hjl))
              generalize (l.map Prod.fst)[j]'(by rw [hmn]; exact hjl) = z at hcj HFS2
              have HLN := hid hff
              clear hsp2 e00 HFS hmn
              by_cases hzx : z = x
              · have hd1 : (z != x) = false := by simp [hzx]
                rw [hd1] at HFS2
                simp only [Bool.false_eq_true, if_false, List.append_nil] at HFS2
                subst hzx
                clear hff
                go_wp2
                go_quiet (fail)
                go_wp2
                go_roundw
                case rel => exact ⟨j + 1, by omega, by go_num, by rw [Hid, HFS2.out]; exact HF.out, below_drewN' HG.out⟩
                case measure => simp [intOf]; omega
              · have hd1 : (z != x) = true := by simp [hzx]
                rw [hd1] at HFS2
                simp only [if_true] at HFS2
                clear hff
                go_wp2
                go_quiet (fail)
                generalize hfl : ((l.map Prod.fst).take j).filter (· != x) = fl at *
                have HFL := hid hfl
                clear hfl
                have hfll : fl.length ≤ 255 := by have := HLN.out; omega
                have HG2 := hid (below_drewN' (k := nq) HG.out)
                have HF2 := hid (show (wr.drewN nq).ownsRow uo.heap.size 3 1 u13 fl.length (icells .i64 fl) from HF.out)
                have hsz := HG2.out.size
                go_wp2_with (at_builtin; refine wpList_append_1 (W := uo) rfl (.tmp 130) (.tmp 135) 23 rfl uo.heap.size 3 Try.underlying23 info_int rfl (by omega) rfl HF2.out rfl rfl (by simp; rfl) ?c1 ?c2 hsz HG2.out ?_)
                case c1 => unfold maxLen; omega
                case c2 => omega
                · intro v' w' m2 b2 s2
                  have HM9 := hid m2
                  clear m2 s2
                  go_wp2
                  go_roundw
                  case rel => exact ⟨j + 1, by omega, by go_num, by rw [Hid, HFS2.out, icells_append, List.length_append]; exact HM9.out, b2⟩
                  case measure => simp [intOf]; omega
            · obtain rfl : j = l.length := by omega
              have hge : ¬ (l.length : Int) < (l.length : Int) := by omega
              rw [← hmn, List.take_length] at HF
              have HRR : Hid (QR W wr lim (.slice A1 (dropJ l x).length c1') u13) := hid (by
                refine ⟨A1, c1', dropJ l x, rfl, HK.out.drop x, own_keep HO1.out HG.out, ?_, HB1.out.trans (HG.out.mono HB1.out.size)⟩
                have h9 : (dropJ l x).length = ((l.map Prod.fst).filter (· != x)).length := by rw [← drop_fst, List.length_map]
                rw [drop_fst, h9]
                exact Mid.of_own (own_mono HF.out HB1.out.size))
              clear hsp2 dd1 HF HFS hff hmn
              go_wp2
              go_meet
              case rel => exact HRR.out
        · have e0 : (x0 == 0) = false := by rw [beq_eq_false_iff_ne]; exact h0
          have e1 : (x0 == 1) = false := by rw [beq_eq_false_iff_ne]; exact h1
          have e2 : (x0 == 2) = false := by rw [beq_eq_false_iff_ne]; exact h2
          clear h0 h1 h2
          have hS : ∀ U, Below wr.heap.size wr U → ((U.cell? ⟨b, off + k * 3 + 1, none⟩ = some (.int .i64 x) ∧ U.cell? ⟨b, off + k * 3 + 2, none⟩ = some (.int .i64 y)) ∧ Below wr.heap.size wr U) := fun U hU => ⟨⟨cellb hU c1, cellb hU c2⟩, hU⟩
          have HMV := hid (fun w (hw : Below wr.heap.size wr w) => move_any Aq l.length cq l x y w ((sl_own HO.out).below hw) (by omega))
          go_upto_region 31 with (fail)
          go_region_held3 (fun U => (U.cell? ⟨b, off + k * 3 + 1, none⟩ = some (.int .i64 x) ∧ U.cell? ⟨b, off + k * 3 + 2, none⟩ = some (.int .i64 y)) ∧ Below wr.heap.size wr U)
            (first
              | assumption
              | exact hS _ (Below.refl _ _)
              | exact hS _ (below_drew (Below.refl _ _))
              | exact hS _ (bel_trans (And.right (by assumption)) (by assumption)))
            (first
              | (go_at_call 66
                 refine (HMV.out _ (And.right (by assumption))).mono ?_
                 rintro e u1 ⟨v1, rfl, o1, g1⟩))
          have HO1 := hid o1
          have HG1 := hid g1
          rename_i hHeld
          clear hHeld hS o1 g1 HMV c0 c1 c2
          obtain ⟨A1, c1', rfl, _⟩ := Sl.of_own HO1.out
          go_wp2
          go_meet
          case rel =>
            have hg : Below wr.heap.size wr u1 := undrew HG1.out
            exact ⟨A1, c1', moveJ l x y, by rw [moveJ_len], HK.out.move x y, by rw [moveJ_len]; exact own_mono HO1.out HB.out.size, by rw [move_fst, moveJ_len]; exact HM.out.keep hg, HB.out.trans (hg.mono HB.out.size)⟩
      case rest =>
        obtain ⟨A2, c2', l2, rfl, hqk, ho, hm, hb⟩ := hcut.out
        obtain ⟨Ap2, cp2, rfl, hsp⟩ := hm.form
        have HQQ := hid (show ∀ n, QR W (wc.drewN n) lim (.slice A2 l2.length c2') (.slice Ap2 l2.length cp2) from fun n => ⟨A2, c2', l2, rfl, hqk, ho, hm.drewN n, below_drewN' hb⟩)
        have hll9 := hqk.len
        have hll8 : (l2.length : Int) ≤ (lim : Int) := by omega
        have hll7 : (l2.length : Int) ≤ 255 := by omega
        have hll6 : decide ((lim : Int) < (l2.length : Int)) = false := by simp; omega
        have HSQ := hid (sl_own ho)
        have HSP := hid hsp
        have HQK := hid hqk
        clear hqk ho hm hb hsp hcut HK HO HM HB c0 c1 c2 hsp0 hll hll2
        obtain ⟨wo, hwo⟩ : ∃ wo : World, wo = wc := ⟨_, rfl⟩
        subst hwo
        go_wp2
        go_loopw [15] (fun i w3 => ∃ j n : Nat, j ≤ l2.length ∧ i = .int .i64 (j : Int) ∧ w3 = wo.drewN n) (fun i _ => l2.length - (intOf i).toNat)
        case atStart => exact ⟨0, 0, by omega, rfl, rfl⟩
        case round =>
          obtain ⟨j, n, hj, rfl, hw3⟩ := hrel
          have hsqr : Sl wr 2 A2 l2.length c2' (pcells l2) := by rw [hw3]; exact HSQ.out
          have hspr : Sl wr 1 Ap2 l2.length cp2 (icells .i64 (l2.map Prod.fst)) := by rw [hw3]; exact HSP.out
          have HW3 := hid hw3
          clear hw3
          have hmn : (l2.map Prod.fst).length = l2.length := List.length_map ..
          by_cases hjl : j < l2.length
          · have hjl2 : (j : Int) < (l2.length : Int) := by omega
            obtain ⟨bq, oq, hAq⟩ := hsqr.addr (by rw [pcells_length]; omega)
            subst hAq
            obtain ⟨bp, op, hAp, hcj⟩ := Sl.at hspr j (by rw [icells_length, hmn]; exact hjl)
            subst hAp
            obtain ⟨q1, q2⟩ := hsqr.pair j hjl
            have e00 : (icells .i64 (l2.map Prod.fst))[j]'(by rw [icells_length, hmn]; exact hjl) = .int .i64 l2[j].1 := by simp [icells]
            rw [e00] at hcj
            have hcpj : j ≤ cp2 := by have := hspr.2.1; omega
            have hrun := run_to Try.underlying23 info_int (some ⟨bp, op, none⟩) l2.length cp2 j hcpj
            have hst := Sl.take hspr j (by omega)
            have hno := HQK.out.once j hjl
            have HIN := hid (fun m => in06_any (some ⟨bp, op, none⟩) j cp2 ((l2.map Prod.fst).take j) l2[j].1 (wr.drewN m) (by
              have h9 : Sl (wr.drewN m) 1 (some ⟨bp, op, none⟩) j cp2 ((icells .i64 (l2.map Prod.fst)).take (j * 1)) := hst
              simpa [icells] using h9))
            rw [decide_eq_false hno] at HIN
            generalize l2[j].1 = z at *
            have hzz : (z != z) = false := by simp
            clear e00 hst hno hmn q2 hcpj hsqr hspr
            go_wp2
            go_quiet ((go_at_call 75; exact Calls.quiet_of_same ((HIN.out _).mono fun _ _ h9 => ⟨h9.1, h9.2.symm⟩)))
            go_wp2
            go_roundw
            case rel => exact ⟨j + 1, n + nq, by omega, by go_num, by rw [HW3.out, World.drewN_drewN]⟩
            case measure => simp [intOf]; omega
          · have hge : ¬ (j : Int) < (l2.length : Int) := by omega
            have HQN := hid (HQQ.out n)
            rw [← HW3.out] at HQN
            clear HQQ HSQ HSP HQK hsqr hspr
            go_wp2
            go_roundw
            case rel => exact ⟨k + 1, by omega, by go_num, HQN.out⟩
            case measure => simp [intOf]; omega
    · have hge : ¬ (k : Int) < (len : Int) := by omega
      obtain ⟨_, _, _, _, _, _, _, hb⟩ := HQ.out
      have HB := hid hb
      clear hb
      go_wp2_with (go_at_call 61; refine (works29_any _).mono ?_; rintro e w4 ⟨rfl, hb4⟩)
      go_ret
      exact ⟨rfl, HB.out.trans (hb4.mono HB.out.size)⟩

set_option maxRecDepth 20000 in
theorem queueKeeps_big (lim : Int) (a : Option Addr) (len cap : Nat) (W : World) (h : 100 < len) (hm : len ≤ maxLen) :
    Calls Try.prog 10 #[.int .u8 lim, .slice a len cap] W fun e w' => e = .returned (.bool true) ∧ Below W.heap.size W w' := by
  unfold maxLen at hm
  have h2 : (100 : Int) < len := by omega
  have hd : decide ((100 : Int) < len) = true := decide_eq_true h2
  go_enter Try.func10, Try.ntmps10
  go_wp2_with fail
  refine (works29_any _).mono ?_
  rintro e w1 ⟨rfl, hb⟩
  go_wp2
  go_ret
  exact ⟨rfl, hb⟩
/-- Rows of three numbers that came in. -/
theorem rows3 {w : World} {A : Option Addr} {len cap : Nat} (h : Rd Try.prog w 108 [.slice A len cap]) : len ≤ maxLen ∧ ∃ f : Nat → Nat → Int, (∀ i j, -9223372036854775808 ≤ f i j ∧ f i j ≤ 9223372036854775807) ∧ (0 < len → ∃ b off, A = some ⟨b, off, none⟩ ∧ ∀ i, i < len → ∀ j, j < 3 → w.cell? ⟨b, off + i * 3 + j, none⟩ = some (.int .i64 (f i j))) := by
  obtain ⟨h1, h2, h3⟩ := Rd.slice_plain Try.underlying108 (n := 3) (by kernel_rfl) (by omega) h
  refine ⟨by omega, ?_⟩
  by_cases h0 : 0 < len
  · obtain ⟨b, off, rfl, z, hz⟩ := h3 h0
    have key : ∀ i, i < len → ∃ x : Int × Int × Int, z i = [.int .i64 x.1, .int .i64 x.2.1, .int .i64 x.2.2] ∧ (Lit.int .i64 x.1).wf = true ∧ (Lit.int .i64 x.2.1).wf = true ∧ (Lit.int .i64 x.2.2).wf = true := fun i hi => by
      obtain ⟨xs, hx⟩ := Rd.array_ints Try.underlying83 Try.underlying3 (by kernel_rfl) (by kernel_rfl) (hz i hi).2.1
      obtain ⟨a, b, c, e, g1, g2, g3⟩ := ints3 (cs := (z i).toArray) hx
      exact ⟨⟨a, b, c⟩, by simpa using congrArg Array.toList e, g1, g2, g3⟩
    obtain ⟨g, hg⟩ := Go.Deep.choose_lt (α := Int × Int × Int) key
    refine ⟨fun i j => if i < len then (if j = 0 then (g i).1 else if j = 1 then (g i).2.1 else (g i).2.2) else 0, ?_, ?_⟩
    · intro i j
      by_cases hi : i < len
      · simp only [hi, if_true]
        split
        · exact wf_i64 (hg i hi).2.1
        · split
          · exact wf_i64 (hg i hi).2.2.1
          · exact wf_i64 (hg i hi).2.2.2
      · simp only [hi, if_false]; omega
    · refine fun _ => ⟨b, off, rfl, fun i hi j hj => ?_⟩
      rw [(hz i hi).2.2 j hj, (hg i hi).1]
      simp only [hi, if_true]
      match j, hj with
      | 0, _ => rfl
      | 1, _ => rfl
      | 2, _ => rfl
  · exact ⟨fun _ _ => 0, fun _ _ => by show (-9223372036854775808 : Int) ≤ 0 ∧ (0 : Int) ≤ 9223372036854775807; omega, fun h => absurd h h0⟩
theorem queueKeeps_law (lim : Int) (A : Option Addr) (len cap : Nat) (W : World) (hl : (Lit.int .u8 lim).wf = true) (h : Rd Try.prog W 108 [.slice A len cap]) :
    Calls Try.prog 10 #[.int .u8 lim, .slice A len cap] W fun e w' => e = .returned (.bool true) ∧ Below W.heap.size W w' := by
  obtain ⟨hm, f, hw, hz⟩ := rows3 h
  have hwn := wf_u8 hl
  obtain ⟨n, rfl⟩ := Int.eq_ofNat_of_zero_le hwn.1
  by_cases h1 : len ≤ 100
  · exact queueKeeps_small n A len cap W h1 (by omega) f hz
  · exact queueKeeps_big _ A len cap W (by omega) hm
end Go.Proofs.Ytadjmgmdnekllaa
