/- The document's table: Set: contract. -/
import Derived.Test.YtjdlomdhaoadkaaTabR
import Derived.Test.YtjdlomdhaoadkaaTabQ
import Derived.Deep.CutRange
import Derived.Deep.Cut
namespace Go.Proofs.Ytjdlomdhaoadkaa
open Go.RowKit Go.Lib
set_option linter.unusedVariables false
set_option linter.unusedSimpArgs false

/-- What the loop of Set has collected at its k-th element. -/
def oK (l : List Tr) (x : Tr) (p : Nat) (fnd : Bool) (k : Nat) : List Tr := if k ≤ p then l.take k else l.take p ++ x :: (l.take k).drop (if fnd then p + 1 else p)
theorem oK_before {l : List Tr} {x : Tr} {p k : Nat} {fnd : Bool} (hk : k < l.length) (h : k < p) : oK l x p fnd (k + 1) = oK l x p fnd k ++ [l[k]] := by
  unfold oK
  rw [if_pos (by omega), if_pos (by omega), take_sn l k hk]
theorem oK_at {l : List Tr} {x : Tr} {p : Nat} (hk : p < l.length) : oK l x p true (p + 1) = oK l x p true p ++ [x] ∧ oK l x p false (p + 1) = oK l x p false p ++ [x] ++ [l[p]] := by
  have e1 : ¬ p + 1 ≤ p := by omega
  have e2 : ∀ b, oK l x p b p = l.take p := fun b => by unfold oK; rw [if_pos (Nat.le_refl _)]
  rw [e2, e2]
  unfold oK
  rw [if_neg e1, if_neg e1, take_sn l p hk]
  constructor
  · rw [if_pos rfl, List.drop_of_length_le (by rw [List.length_append, List.length_take, List.length_singleton]; omega)]
  · rw [if_neg (by simp), List.drop_append_of_le_length (by rw [List.length_take]; omega), List.drop_of_length_le (by rw [List.length_take]; omega)]
    simp
theorem oK_after {l : List Tr} {x : Tr} {p k : Nat} {fnd : Bool} (hk : k < l.length) (h : p < k) : oK l x p fnd (k + 1) = oK l x p fnd k ++ [l[k]] := by
  have e1 : ¬ k + 1 ≤ p := by omega
  have e2 : ¬ k ≤ p := by omega
  unfold oK
  rw [if_neg e1, if_neg e2, take_sn l k hk]
  rw [List.drop_append_of_le_length (by rw [List.length_take]; cases fnd <;> simp <;> omega)]
  rw [List.append_assoc, List.cons_append]
theorem oK_end {l : List Tr} {c d s : Int} {p : Nat} (h : p < l.length) : oK l (c, d, s) p (fndB l c d p) l.length = setK l c d s p := by
  unfold oK setK
  rw [if_neg (by omega), List.take_length]
  cases hf : fndB l c d p with
  | false => simp
  | true =>
    simp only [if_true]
    have h2 : l[p].1 = c ∧ l[p].2.1 = d := by
      obtain ⟨_, h3⟩ := fndB_iff.1 hf
      exact h3
    rw [getD_tz h, h2.1, h2.2, List.set_eq_take_append_cons_drop, if_pos h]
theorem oK_last {l : List Tr} {c d s : Int} {p : Nat} (h : l.length ≤ p) : oK l (c, d, s) p (fndB l c d p) l.length = l ∧ (p = l.length → setK l c d s p = l ++ [(c, d, s)]) := by
  constructor
  · unfold oK; rw [if_pos h, List.take_length]
  · rintro rfl
    unfold setK fndB
    rw [if_neg (Nat.lt_irrefl _)]
    simp
theorem oK_len (l : List Tr) (x : Tr) (p : Nat) (fnd : Bool) (k : Nat) (h : k ≤ l.length) : (oK l x p fnd k).length ≤ k + 1 := by
  unfold oK
  split
  · rw [List.length_take]; omega
  · simp only [List.length_append, List.length_take, List.length_cons, List.length_drop]
    split <;> omega
/-- What the rows tell at the place where a task belongs. -/
theorem pos_tells {l : List Tr} (h : chkB l = true) (c d : Int) (k : Nat) (hk : k < l.length) :
    (k < posF c d l → ahB l[k].1 l[k].2.1 c d = true ∧ ¬ (l[k].1 = c ∧ l[k].2.1 = d)) ∧ (k = posF c d l → ahB l[k].1 l[k].2.1 c d = false ∧ (fndB l c d k = true ↔ (l[k].1 = c ∧ l[k].2.1 = d))) ∧ (posF c d l < k → ¬ (l[k].1 = c ∧ l[k].2.1 = d)) := by
  have hs := (chk_iff l).1 h
  have hp := posF_spec c d l hs.1
  refine ⟨fun h1 => ?_, fun h1 => ?_, fun h1 => ?_⟩
  · have h2 := hp.2.1 k hk h1
    unfold cmpR at h2
    refine ⟨by unfold ahB; rw [decide_eq_true h2], fun h3 => ?_⟩
    rw [(cmpT_zero _ _ _ _).2 h3] at h2
    omega
  · have h2 := hp.2.2 k hk (by omega)
    unfold cmpR at h2
    refine ⟨by unfold ahB; rw [decide_eq_false h2], ?_⟩
    rw [fndB_iff]
    exact ⟨fun ⟨_, h⟩ => h, fun h => ⟨hk, h⟩⟩
  · intro h3
    have h4 : ltR (l[posF c d l]'(by omega)) l[k] := by
      have := List.pairwise_iff_getElem.1 hs.1 (posF c d l) k (by omega) hk h1
      exact this
    have h5 := hp.2.2 (posF c d l) (by omega) (Nat.le_refl _)
    rw [cmpR_iff] at h5
    rw [ltR_iff, h3.1, h3.2] at h4
    exact h5 h4
theorem pos_le {l : List Tr} (h : chkB l = true) (c d : Int) : posF c d l ≤ l.length := (posF_spec c d l ((chk_iff l).1 h).1).1

/-- What the document's Set answers. -/
def RSetR (l : List Tr) (c d s : Int) (W : World) (e : Ending) (w' : World) : Prop :=
  ∃ A' c', e = .returned (.tuple #[.slice A' (setT l c d s).length c', .bool (setOk l c d s)]) ∧ Sl w' 3 A' (setT l c d s).length c' (gcells r3 (setT l c d s)) ∧ Below W.heap.size W w'
set_option maxRecDepth 20000 in
set_option maxHeartbeats 8000000 in
theorem rset_any (A : Option Addr) (cap : Nat) (l : List Tr) (c d s : Int) (W : World) (h : Sl W 3 A l.length cap (gcells r3 l)) (hl : l.length ≤ 1000) :
    Calls Try.prog 8 #[.slice A l.length cap, .agg #[.int .i64 c, .int .i64 d], .int .i64 s] W (RSetR l c d s W) := by
  have HA := hid h
  have hl2 : (l.length : Int) ≤ 1000 := by omega
  clear h
  go_enter Try.func8, Try.ntmps8
  go_upto_region 1 with (fail)
  refine at_world (fun u => u.heap[W.heap.size]? = some (.cells #[.int .i64 c, .int .i64 d] 28 (0, 0)) ∧ Below W.heap.size W u) ⟨heap_alloc_new _ _, (Below.refl _ _).alloc (Nat.le_refl _) _⟩ ?_
  rintro w1 ⟨hx1, hb1⟩
  have HX1 := hid hx1
  have HB1 := hid hb1
  obtain ⟨p0, p1, _, _⟩ := two_cells hx1
  have HST := hid (rstate_any A cap l c d w1 (HA.out.below hb1) hl)
  have HOKD : Hid (setOk l c d s = if chkB l then permB (stF c d l) s else false) := hid rfl
  clear hx1 hb1
  go_wp2_with fail
  refine HST.out.mono ?_
  rintro e w2 ⟨rfl, hb2⟩
  have HX2 := hid (keep0 HX1.out hb2)
  have HB2 := hid (HB1.out.trans (hb2.mono HB1.out.size))
  clear hb2 HST HX1 HB1 p0 p1
  generalize stF c d l = st at *
  go_upto_region 2 with (fail)
  go_cut [9] from 16 to 49 (fun v wx => v = .bool (permB st s) ∧ wx = w2)
  case first =>
    have HV : Hid (permB st s = if st = 0 then (decide (s = 1) || decide (s = 2)) else if st = 1 then decide (s = 2) else if st = 2 then decide (s = 3) else if st = 3 then decide (s = 4) else false) := hid rfl
    generalize permB st s = pb at *
    clear HX2 HB2 HA HOKD
    by_cases h0 : st = 0
    · subst h0
      by_cases h1 : s = 1
      · subst h1
        have HF : Hid (pb = true) := hid (by rw [HV.out]; rfl)
        clear HV
        go_wp2
        go_meet
        case rel => exact ⟨by rw [HF.out], rfl⟩
      · by_cases h2 : s = 2
        · subst h2
          have HF : Hid (pb = true) := hid (by rw [HV.out]; rfl)
          clear HV
          go_wp2
          go_meet
          case rel => exact ⟨by rw [HF.out], rfl⟩
        · have HF : Hid (pb = false) := hid (by rw [HV.out, if_pos rfl, decide_eq_false h1, decide_eq_false h2]; rfl)
          have d1 : (s == 1) = false := by simpa using h1
          have d2 : (s == 2) = false := by simpa using h2
          clear HV h1 h2
          go_wp2
          go_meet
          case rel => exact ⟨by rw [HF.out], rfl⟩
    · have d0 : (st == 0) = false := by simpa using h0
      by_cases h1 : st = 1
      · subst h1
        by_cases hs : s = 2
        · subst hs
          have HF : Hid (pb = true) := hid (by rw [HV.out]; rfl)
          clear HV h0
          go_wp2
          go_meet
          case rel => exact ⟨by rw [HF.out], rfl⟩
        · have HF : Hid (pb = false) := hid (by rw [HV.out, if_neg h0, if_pos rfl, decide_eq_false hs])
          have d9 : (s == 2) = false := by simpa using hs
          clear HV hs h0
          go_wp2
          go_meet
          case rel => exact ⟨by rw [HF.out], rfl⟩
      have d1 : (st == 1) = false := by simpa using h1
      by_cases h2 : st = 2
      · subst h2
        by_cases hs : s = 3
        · subst hs
          have HF : Hid (pb = true) := hid (by rw [HV.out]; rfl)
          clear HV h0
          go_wp2
          go_meet
          case rel => exact ⟨by rw [HF.out], rfl⟩
        · have HF : Hid (pb = false) := hid (by rw [HV.out, if_neg h0, if_neg h1, if_pos rfl, decide_eq_false hs])
          have d9 : (s == 3) = false := by simpa using hs
          clear HV hs h0
          go_wp2
          go_meet
          case rel => exact ⟨by rw [HF.out], rfl⟩
      have d2 : (st == 2) = false := by simpa using h2
      by_cases h3 : st = 3
      · subst h3
        by_cases hs : s = 4
        · subst hs
          have HF : Hid (pb = true) := hid (by rw [HV.out]; rfl)
          clear HV h0
          go_wp2
          go_meet
          case rel => exact ⟨by rw [HF.out], rfl⟩
        · have HF : Hid (pb = false) := hid (by rw [HV.out, if_neg h0, if_neg h1, if_neg h2, if_pos rfl, decide_eq_false hs])
          have d9 : (s == 4) = false := by simpa using hs
          clear HV hs h0
          go_wp2
          go_meet
          case rel => exact ⟨by rw [HF.out], rfl⟩
      have d3 : (st == 3) = false := by simpa using h3
      have HF : Hid (pb = false) := hid (by rw [HV.out, if_neg h0, if_neg h1, if_neg h2, if_neg h3])
      clear HV h0 h1 h2 h3
      go_wp2
      go_meet
      case rel => exact ⟨by rw [HF.out], rfl⟩
  case rest =>
    obtain ⟨rfl, rfl⟩ := hcut
    have HCK := hid (rcheck31_any A cap l wc (HA.out.below HB2.out) hl)
    cases hpb : permB st s with
    | false =>
      have HT : Hid (setT l c d s = l ∧ setOk l c d s = false) := hid (by
        have : setOk l c d s = false := by rw [HOKD.out, hpb]; split <;> rfl
        exact ⟨by unfold setT; rw [this]; rfl, this⟩)
      clear hpb HCK HOKD
      go_wp2
      go_ret2
      exact ⟨A, cap, by rw [HT.out.1, HT.out.2]; rfl, by rw [HT.out.1]; exact HA.out.below HB2.out, HB2.out⟩
    | true =>
      rw [hpb] at HOKD
      clear hpb
      cases hck : chkB l with
      | false =>
        have HT : Hid (setT l c d s = l ∧ setOk l c d s = false) := hid (by
          have : setOk l c d s = false := by rw [HOKD.out, hck]; rfl
          exact ⟨by unfold setT; rw [this]; rfl, this⟩)
        rw [hck] at HCK
        clear hck HOKD
        go_wp2_with fail
        refine HCK.out.mono ?_
        rintro e w3 ⟨rfl, hb3⟩
        have HB3 := hid (HB2.out.trans (hb3.mono HB2.out.size))
        clear hb3 HCK
        go_wp2
        go_ret2
        exact ⟨A, cap, by rw [HT.out.1, HT.out.2]; rfl, by rw [HT.out.1]; exact HA.out.below HB3.out, HB3.out⟩
      | true =>
        have HOK : Hid (setOk l c d s = true) := hid (by rw [HOKD.out, hck]; rfl)
        have HPT := hid (fun k hk => pos_tells hck c d k hk)
        have HPL := hid (pos_le hck c d)
        have HT : Hid (setT l c d s = setK l c d s (posF c d l)) := hid (by unfold setT; rw [HOK.out, if_pos rfl])
        rw [hck] at HCK
        clear hck HOKD
        have HEND := hid (oK_end (l := l) (c := c) (d := d) (s := s) (p := posF c d l))
        have HLAST := hid (oK_last (l := l) (c := c) (d := d) (s := s) (p := posF c d l))
        have HFND := hid (fun k (hk : k = posF c d l) => show fndB l c d k = fndB l c d (posF c d l) by rw [hk])
        generalize setK l c d s (posF c d l) = T2 at *
        generalize fndB l c d (posF c d l) = fb at *
        generalize posF c d l = p at *
        go_wp2_with fail
        refine HCK.out.mono ?_
        rintro e w3 ⟨rfl, hb3⟩
        have HX3 := hid (keep0 HX2.out hb3)
        have HB3 := hid (HB2.out.trans (hb3.mono HB2.out.size))
        have hM3 := lt_of_block HX3.out
        clear hb3 HCK HX2 HB2
        go_wp2
        go_loopw [10, 11, 12] (fun v dn i wr => ∃ k : Nat, k ≤ l.length ∧ i = .int .i64 (k : Int) ∧ dn = .bool (decide (p < k)) ∧ Hid (wr.ownsRow w3.heap.size 50 3 v (oK l (c, d, s) p fb k).length (gcells r3 (oK l (c, d, s) p fb k))) ∧ Hid (Below w3.heap.size w3 wr)) (fun _ _ i _ => l.length - (intOf i).toNat)
        case atStart => exact ⟨0, by omega, rfl, by simp, (by
          have e : oK l (c, d, s) p fb 0 = [] := by unfold oK; rw [if_pos (by omega)]; simp
          rw [e]
          exact World.ownsRow_nil _ _ _ _), Below.refl _ _⟩
        case round =>
          obtain ⟨k, hk, rfl, rfl, HO, HB⟩ := hrel
          by_cases hlt : k < l.length
          · have hlt2 : (k : Int) < (l.length : Int) := by omega
            obtain ⟨b, off, rfl, hcl⟩ := Sl.gat (f := r3) (n := 3) (fun _ => rfl) (HA.out.below HB3.out) k hlt (by omega)
            have c0 := hcl 0 _ rfl
            have c1 := hcl 1 _ rfl
            have c2 := hcl 2 _ rfl
            simp only [Nat.add_zero] at c0
            have HP := hid (HPT.out k hlt)
            have HF := hid (HFND.out k)
            have HBEF := hid (fun (h : k < p) => oK_before (x := (c, d, s)) (fnd := fb) hlt h)
            have HATT := hid (fun (h : k = p) (hf : fb = true) => show oK l (c, d, s) p fb (k + 1) = oK l (c, d, s) p fb k ++ [(c, d, s)] by subst h; rw [hf]; exact (oK_at hlt).1)
            have HATF := hid (fun (h : k = p) (hf : fb = false) => show oK l (c, d, s) p fb (k + 1) = oK l (c, d, s) p fb k ++ [(c, d, s)] ++ [l[k]] by subst h; rw [hf]; exact (oK_at hlt).2)
            have HAFT := hid (fun (h : p < k) => oK_after (x := (c, d, s)) (fnd := fb) hlt h)
            have hle := oK_len l (c, d, s) p fb k hk
            generalize oK l (c, d, s) p fb k = m1 at *
            generalize fndB l c d k = fk at *
            clear hcl
            generalize l[k] = z at *
            obtain ⟨z0, z1, z2⟩ := z
            simp only at c0 c1 c2 HP HBEF HATT HATF HAFT
            have hml : m1.length ≤ 1002 := by omega
            clear hle
            have HFA : Hid (∀ U, Below w3.heap.size w3 U → (U.cell? ⟨W.heap.size, 0, none⟩ = some (.int .i64 c) ∧ U.cell? ⟨W.heap.size, 1, none⟩ = some (.int .i64 d)) ∧ U.cell? ⟨b, off + k * 3, none⟩ = some (.int .i64 z0) ∧ U.cell? ⟨b, off + k * 3 + 1, none⟩ = some (.int .i64 z1) ∧ U.cell? ⟨b, off + k * 3 + 2, none⟩ = some (.int .i64 z2)) := hid (fun U hU => ⟨⟨(two_cells (keep0 HX3.out hU)).1, (two_cells (keep0 HX3.out hU)).2.1⟩, cellb hU c0, cellb hU c1, cellb hU c2⟩)
            clear c0 c1 c2
            obtain ⟨w4, hw4⟩ : ∃ w4 : World, w4 = wr := ⟨_, rfl⟩
            subst hw4
            have HO4 := HO
            have HB4 := HB
            clear HO HB
            rcases Nat.lt_trichotomy k p with hkp | hkp | hkp
            · have HE := hid (HBEF.out hkp)
              obtain ⟨ha, hn⟩ := HP.out.1 hkp
              have HNQ := hid hn
              have hd9 : decide (p < k) = false := decide_eq_false (by omega)
              have c9 := reg (w := w4) (fun W' _ => rahead_any z0 z1 c d W')
              rw [ha] at c9
              clear hn ha HP HF HBEF HATT HATF HAFT
              rw [hd9]
              clear hd9
              have hsp : (z0 == c) = false ∨ ((z0 == c) = true ∧ (z1 == d) = false) := by
                cases h1 : (z0 == c) with
                | false => exact .inl rfl
                | true =>
                  refine .inr ⟨rfl, ?_⟩
                  rw [beq_eq_false_iff_ne]
                  exact fun h2 => HNQ.out ⟨by simpa using h1, h2⟩
              clear HNQ
              go_upto_region 10 with (fail)
              obtain ⟨⟨p0, p1⟩, c0, c1, c2⟩ := HFA.out w4 HB4.out
              replace p0 := cell_regrown p0
              replace p1 := cell_regrown p1
              replace c0 := cell_regrown c0
              replace c1 := cell_regrown c1
              replace c2 := cell_regrown c2
              refine wp_region_quiet_below (by kernel_rfl) (by kernel_rfl) ?_
              repeat (go_big_quiet_step (first | (go_at_call 27; with_reducible exact c9 _ _) | fail))
              refine wpQuiet_nil ?_
              intro _ hw'
              obtain ⟨⟨dq, osq⟩, hw''⟩ := hw'
              subst hw''
              clear p0 p1 c0 c1 c2
              refine at_world (fun u => Below w4.heap.size w4 u) (below_regrown w4 dq osq) ?_
              rintro w5 hb
              have HO5 := hid (own_keep HO4.out hb)
              have HB5 := hid (HB4.out.trans (hb.mono HB4.out.size))
              clear hb HO4 HB4
              clear c9
              rcases hsp with e1 | ⟨e1, e2⟩
              all_goals
                go_upto_region 13 with (fail)
                obtain ⟨⟨p0, p1⟩, c0, c1, c2⟩ := HFA.out w5 HB5.out
                replace p0 := cell_regrown p0
                replace p1 := cell_regrown p1
                replace c0 := cell_regrown c0
                replace c1 := cell_regrown c1
                replace c2 := cell_regrown c2
                refine wp_region_quiet_below (by kernel_rfl) (by kernel_rfl) ?_
                repeat (go_big_quiet_step (fail))
                refine wpQuiet_nil ?_
                intro _ hw'
                obtain ⟨⟨dq, osq⟩, hw''⟩ := hw'
                subst hw''
                clear p0 p1 c0 c1 c2
                refine at_world (fun u => Below w5.heap.size w5 u) (below_regrown w5 dq osq) ?_
                rintro w6 hb
                have HO6 := hid (own_keep HO5.out hb)
                have HB6 := hid (HB5.out.trans (hb.mono HB5.out.size))
                clear hb HO5 HB5
                obtain ⟨⟨p0, p1⟩, c0, c1, c2⟩ := HFA.out w6 HB6.out
                go_wp2_with (at_builtin; go_loud (refine wpList_append_1 (W := w3) rfl (.tmp 89) (.tmp 94) 22 rfl w3.heap.size 50 Try.underlying22 info_rrow31 rfl (by omega) rfl HO6.out rfl rfl (by simp [Value.oneCell']) (by unfold maxLen; omega) (by omega) HB6.out.size HB6.out ?_))
                intro v7 w7 h2 h3 h4
                have HO7 := hid h2
                have HB7 := hid h3
                clear h2 h3 h4 HO6 HB6 p0 p1 c0 c1 c2
                have HR : Hid (w7.ownsRow w3.heap.size 50 3 v7 (oK l (c, d, s) p fb (k + 1)).length (gcells r3 (oK l (c, d, s) p fb (k + 1)))) := hid (by rw [HE.out]; simp only [g3_snoc, List.length_append, List.length_cons, List.length_nil, Nat.zero_add]; (try simp only [List.append_assoc, List.cons_append, List.nil_append]); exact HO7.out)
                go_wp2
                go_roundw
                case rel => exact ⟨k + 1, by omega, by go_num, by rw [decide_eq_false (by omega)], HR.out, HB7.out⟩
                case measure => simp [intOf]; omega
            · obtain ⟨ha, hn⟩ := HP.out.2.1 hkp
              have hd9 : decide (p < k) = false := decide_eq_false (by omega)
              have c9 := reg (w := w4) (fun W' _ => rahead_any z0 z1 c d W')
              rw [ha] at c9
              rw [HF.out hkp] at hn
              rw [hd9]
              clear hd9
              rcases Bool.eq_false_or_eq_true fb with hfb | hfb
              case' inl =>
                have HE := hid (HATT.out hkp hfb)
                have HYQ := hid (hn.1 hfb)
                have HKP := hid hkp
                clear hn ha HP HF HBEF HATT HATF HAFT hkp hfb
                go_upto_region 10 with (fail)
                obtain ⟨⟨p0, p1⟩, c0, c1, c2⟩ := HFA.out w4 HB4.out
                replace p0 := cell_regrown p0
                replace p1 := cell_regrown p1
                replace c0 := cell_regrown c0
                replace c1 := cell_regrown c1
                replace c2 := cell_regrown c2
                refine wp_region_quiet_below (by kernel_rfl) (by kernel_rfl) ?_
                repeat (go_big_quiet_step (first | (go_at_call 27; with_reducible exact c9 _ _) | fail))
                refine wpQuiet_nil ?_
                intro _ hw'
                obtain ⟨⟨dq, osq⟩, hw''⟩ := hw'
                subst hw''
                clear p0 p1 c0 c1 c2
                refine at_world (fun u => Below w4.heap.size w4 u) (below_regrown w4 dq osq) ?_
                rintro w5 hb
                have HO5 := hid (own_keep HO4.out hb)
                have HB5 := hid (HB4.out.trans (hb.mono HB4.out.size))
                clear hb HO4 HB4
                clear c9
                obtain ⟨⟨p0, p1⟩, c0, c1, c2⟩ := HFA.out w5 HB5.out
                go_wp2_with (at_builtin; go_loud (refine wpList_append_1 (W := w3) rfl (.tmp 76) (.tmp 80) 22 rfl w3.heap.size 50 Try.underlying22 info_rrow31 rfl (by omega) rfl HO5.out rfl rfl (by simp [Value.oneCell']) (by unfold maxLen; omega) (by omega) HB5.out.size HB5.out ?_))
                intro v6 w6 h2 h3 h4
                have HO6 := hid h2
                have HB6 := hid h3
                clear h2 h3 h4 HO5 HB5 p0 p1 c0 c1 c2
                obtain ⟨h1, h2⟩ := HYQ.out
                clear HYQ
                subst h1
                subst h2
                go_upto_region 13 with (fail)
                obtain ⟨⟨p0, p1⟩, c0, c1, c2⟩ := HFA.out w6 HB6.out
                replace p0 := cell_regrown p0
                replace p1 := cell_regrown p1
                replace c0 := cell_regrown c0
                replace c1 := cell_regrown c1
                replace c2 := cell_regrown c2
                refine wp_region_quiet_below (by kernel_rfl) (by kernel_rfl) ?_
                repeat (go_big_quiet_step (fail))
                refine wpQuiet_nil ?_
                intro _ hw'
                obtain ⟨⟨dq, osq⟩, hw''⟩ := hw'
                subst hw''
                clear p0 p1 c0 c1 c2
                refine at_world (fun u => Below w6.heap.size w6 u) (below_regrown w6 dq osq) ?_
                rintro w7 hb
                have HO7 := hid (own_keep HO6.out hb)
                have HB7 := hid (HB6.out.trans (hb.mono HB6.out.size))
                clear hb HO6 HB6
                have HR : Hid (w7.ownsRow w3.heap.size 50 3 v6 (oK l (z0, z1, s) p fb (k + 1)).length (gcells r3 (oK l (z0, z1, s) p fb (k + 1)))) := hid (by rw [HE.out]; simp only [g3_snoc, List.length_append, List.length_cons, List.length_nil, Nat.zero_add]; (try simp only [List.append_assoc, List.cons_append, List.nil_append]); exact HO7.out)
                go_wp2
                go_roundw
                case rel => exact ⟨k + 1, by omega, by go_num, by rw [decide_eq_true (by have := HKP.out; omega)], HR.out, HB7.out⟩
                case measure => simp [intOf]; omega
              case' inr =>
                have HE := hid (HATF.out hkp hfb)
                have HNQ : Hid (¬ (z0 = c ∧ z1 = d)) := hid (fun h => by have := hn.2 h; rw [hfb] at this; cases this)
                have HKP := hid hkp
                clear hn ha HP HF HBEF HATT HATF HAFT hkp hfb
                have hsp : (z0 == c) = false ∨ ((z0 == c) = true ∧ (z1 == d) = false) := by
                  cases h1 : (z0 == c) with
                  | false => exact .inl rfl
                  | true =>
                    refine .inr ⟨rfl, ?_⟩
                    rw [beq_eq_false_iff_ne]
                    exact fun h2 => HNQ.out ⟨by simpa using h1, h2⟩
                clear HNQ
                go_upto_region 10 with (fail)
                obtain ⟨⟨p0, p1⟩, c0, c1, c2⟩ := HFA.out w4 HB4.out
                replace p0 := cell_regrown p0
                replace p1 := cell_regrown p1
                replace c0 := cell_regrown c0
                replace c1 := cell_regrown c1
                replace c2 := cell_regrown c2
                refine wp_region_quiet_below (by kernel_rfl) (by kernel_rfl) ?_
                repeat (go_big_quiet_step (first | (go_at_call 27; with_reducible exact c9 _ _) | fail))
                refine wpQuiet_nil ?_
                intro _ hw'
                obtain ⟨⟨dq, osq⟩, hw''⟩ := hw'
                subst hw''
                clear p0 p1 c0 c1 c2
                refine at_world (fun u => Below w4.heap.size w4 u) (below_regrown w4 dq osq) ?_
                rintro w5 hb
                have HO5 := hid (own_keep HO4.out hb)
                have HB5 := hid (HB4.out.trans (hb.mono HB4.out.size))
                clear hb HO4 HB4
                clear c9
                obtain ⟨⟨p0, p1⟩, c0, c1, c2⟩ := HFA.out w5 HB5.out
                go_wp2_with (at_builtin; go_loud (refine wpList_append_1 (W := w3) rfl (.tmp 76) (.tmp 80) 22 rfl w3.heap.size 50 Try.underlying22 info_rrow31 rfl (by omega) rfl HO5.out rfl rfl (by simp [Value.oneCell']) (by unfold maxLen; omega) (by omega) HB5.out.size HB5.out ?_))
                intro v6 w6 h2 h3 h4
                have HO6 := hid h2
                have HB6 := hid h3
                clear h2 h3 h4 HO5 HB5 p0 p1 c0 c1 c2
                rcases hsp with e1 | ⟨e1, e2⟩
                all_goals
                  go_upto_region 13 with (fail)
                  obtain ⟨⟨p0, p1⟩, c0, c1, c2⟩ := HFA.out w6 HB6.out
                  replace p0 := cell_regrown p0
                  replace p1 := cell_regrown p1
                  replace c0 := cell_regrown c0
                  replace c1 := cell_regrown c1
                  replace c2 := cell_regrown c2
                  refine wp_region_quiet_below (by kernel_rfl) (by kernel_rfl) ?_
                  repeat (go_big_quiet_step (fail))
                  refine wpQuiet_nil ?_
                  intro _ hw'
                  obtain ⟨⟨dq, osq⟩, hw''⟩ := hw'
                  subst hw''
                  clear p0 p1 c0 c1 c2
                  refine at_world (fun u => Below w6.heap.size w6 u) (below_regrown w6 dq osq) ?_
                  rintro w7 hb
                  have HO7 := hid (own_keep HO6.out hb)
                  have HB7 := hid (HB6.out.trans (hb.mono HB6.out.size))
                  clear hb HO6 HB6
                  obtain ⟨⟨p0, p1⟩, c0, c1, c2⟩ := HFA.out w7 HB7.out
                  go_wp2_with (at_builtin; go_loud (refine wpList_append_1 (W := w3) rfl (.tmp 89) (.tmp 94) 22 rfl w3.heap.size 50 Try.underlying22 info_rrow31 rfl (by omega) rfl HO7.out rfl rfl (by simp [Value.oneCell']) (by unfold maxLen; omega) (by omega) HB7.out.size HB7.out ?_))
                  intro v8 w8 h2 h3 h4
                  have HO8 := hid h2
                  have HB8 := hid h3
                  clear h2 h3 h4 HO7 HB7 p0 p1 c0 c1 c2
                  have HR : Hid (w8.ownsRow w3.heap.size 50 3 v8 (oK l (c, d, s) p fb (k + 1)).length (gcells r3 (oK l (c, d, s) p fb (k + 1)))) := hid (by rw [HE.out]; simp only [g3_snoc, List.length_append, List.length_cons, List.length_nil, Nat.zero_add]; (try simp only [List.append_assoc, List.cons_append, List.nil_append]); exact HO8.out)
                  go_wp2
                  go_roundw
                  case rel => exact ⟨k + 1, by omega, by go_num, by rw [decide_eq_true (by have := HKP.out; omega)], HR.out, HB8.out⟩
                  case measure => simp [intOf]; omega
            · have HE := hid (HAFT.out hkp)
              have HNQ := hid (HP.out.2.2 hkp)
              have hd9 : decide (p < k) = true := decide_eq_true hkp
              clear HP HF HBEF HATT HATF HAFT
              rw [hd9]
              clear hd9
              have hsp : (z0 == c) = false ∨ ((z0 == c) = true ∧ (z1 == d) = false) := by
                cases h1 : (z0 == c) with
                | false => exact .inl rfl
                | true =>
                  refine .inr ⟨rfl, ?_⟩
                  rw [beq_eq_false_iff_ne]
                  exact fun h2 => HNQ.out ⟨by simpa using h1, h2⟩
              clear HNQ
              go_upto_region 10 with (fail)
              obtain ⟨⟨p0, p1⟩, c0, c1, c2⟩ := HFA.out w4 HB4.out
              replace p0 := cell_regrown p0
              replace p1 := cell_regrown p1
              replace c0 := cell_regrown c0
              replace c1 := cell_regrown c1
              replace c2 := cell_regrown c2
              refine wp_region_quiet_below (by kernel_rfl) (by kernel_rfl) ?_
              repeat (go_big_quiet_step (fail))
              refine wpQuiet_nil ?_
              intro _ hw'
              obtain ⟨⟨dq, osq⟩, hw''⟩ := hw'
              subst hw''
              clear p0 p1 c0 c1 c2
              refine at_world (fun u => Below w4.heap.size w4 u) (below_regrown w4 dq osq) ?_
              rintro w5 hb
              have HO5 := hid (own_keep HO4.out hb)
              have HB5 := hid (HB4.out.trans (hb.mono HB4.out.size))
              clear hb HO4 HB4
              rcases hsp with e1 | ⟨e1, e2⟩
              all_goals
                go_upto_region 13 with (fail)
                obtain ⟨⟨p0, p1⟩, c0, c1, c2⟩ := HFA.out w5 HB5.out
                replace p0 := cell_regrown p0
                replace p1 := cell_regrown p1
                replace c0 := cell_regrown c0
                replace c1 := cell_regrown c1
                replace c2 := cell_regrown c2
                refine wp_region_quiet_below (by kernel_rfl) (by kernel_rfl) ?_
                repeat (go_big_quiet_step (fail))
                refine wpQuiet_nil ?_
                intro _ hw'
                obtain ⟨⟨dq, osq⟩, hw''⟩ := hw'
                subst hw''
                clear p0 p1 c0 c1 c2
                refine at_world (fun u => Below w5.heap.size w5 u) (below_regrown w5 dq osq) ?_
                rintro w6 hb
                have HO6 := hid (own_keep HO5.out hb)
                have HB6 := hid (HB5.out.trans (hb.mono HB5.out.size))
                clear hb HO5 HB5
                obtain ⟨⟨p0, p1⟩, c0, c1, c2⟩ := HFA.out w6 HB6.out
                go_wp2_with (at_builtin; go_loud (refine wpList_append_1 (W := w3) rfl (.tmp 89) (.tmp 94) 22 rfl w3.heap.size 50 Try.underlying22 info_rrow31 rfl (by omega) rfl HO6.out rfl rfl (by simp [Value.oneCell']) (by unfold maxLen; omega) (by omega) HB6.out.size HB6.out ?_))
                intro v7 w7 h2 h3 h4
                have HO7 := hid h2
                have HB7 := hid h3
                clear h2 h3 h4 HO6 HB6 p0 p1 c0 c1 c2
                have HR : Hid (w7.ownsRow w3.heap.size 50 3 v7 (oK l (c, d, s) p fb (k + 1)).length (gcells r3 (oK l (c, d, s) p fb (k + 1)))) := hid (by rw [HE.out]; simp only [g3_snoc, List.length_append, List.length_cons, List.length_nil, Nat.zero_add]; (try simp only [List.append_assoc, List.cons_append, List.nil_append]); exact HO7.out)
                go_wp2
                go_roundw
                case rel => exact ⟨k + 1, by omega, by go_num, by rw [decide_eq_true (by omega)], HR.out, HB7.out⟩
                case measure => simp [intOf]; omega
          · have hge : ¬ (k : Int) < (l.length : Int) := by omega
            obtain rfl : k = l.length := by omega
            by_cases hpl : p < l.length
            · have HE := hid (HEND.out hpl)
              have hd9 : decide (p < l.length) = true := decide_eq_true hpl
              rw [hd9]
              clear hd9
              have HW : Hid (Below W.heap.size W wr) := hid (HB3.out.trans (HB.out.mono HB3.out.size))
              have HR : Hid (wr.ownsRow w3.heap.size 50 3 _ T2.length (gcells r3 T2)) := hid (by rw [← HE.out]; exact HO.out)
              obtain ⟨A9, c9, hv9, hs9⟩ := Sl.of_own HR.out
              subst hv9
              have HS := hid hs9
              clear hs9 HR HO HE
              go_wp2
              go_ret2
              exact ⟨A9, c9, by rw [HT.out, HOK.out]; rfl, by rw [HT.out]; exact HS.out, HW.out⟩
            · have hpe : p = l.length := by have := HPL.out; omega
              have HE := hid ((HLAST.out (by omega)).2 hpe)
              have HE1 := hid (HLAST.out (by omega)).1
              have hd9 : decide (p < l.length) = false := decide_eq_false hpl
              rw [hd9]
              clear hd9
              obtain ⟨p0, p1, _, _⟩ := two_cells (keep0 HX3.out HB.out)
              have HO1 : Hid (wr.ownsRow w3.heap.size 50 3 _ l.length (gcells r3 l)) := hid (by have := HO.out; rw [HE1.out] at this; exact this)
              clear HO HE1
              go_wp2_with (at_builtin; go_loud (refine wpList_append_1 (W := w3) rfl (.tmp 98) (.tmp 102) 22 rfl w3.heap.size 50 Try.underlying22 info_rrow31 rfl (by omega) rfl HO1.out rfl rfl (by simp [Value.oneCell']) (by unfold maxLen; omega) (by omega) HB.out.size HB.out ?_))
              intro v7 w7 h2 h3 h4
              have HW : Hid (Below W.heap.size W w7) := hid (HB3.out.trans (h3.mono HB3.out.size))
              have HR : Hid (w7.ownsRow w3.heap.size 50 3 v7 T2.length (gcells r3 T2)) := hid (by rw [HE.out, g3_snoc, List.length_append]; exact h2)
              obtain ⟨A9, c9, hv9, hs9⟩ := Sl.of_own HR.out
              subst hv9
              have HS := hid hs9
              clear hs9 HR h2 h3 h4 HE HO1
              go_wp2
              go_ret2
              exact ⟨A9, c9, by rw [HT.out, HOK.out]; rfl, by rw [HT.out]; exact HS.out, HW.out⟩
end Go.Proofs.Ytjdlomdhaoadkaa
