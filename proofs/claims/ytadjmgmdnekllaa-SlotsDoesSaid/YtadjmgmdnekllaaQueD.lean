/- queue.Push, slices.DeleteFunc at reservations, queue.Drop. -/
import Derived.Test.YtadjmgmdnekllaaQueK
namespace Go.Proofs.Ytadjmgmdnekllaa
open Go.RowKit Go.Sort
set_option linter.unusedVariables false
set_option linter.unusedSimpArgs false

/-- What Push makes of a queue. -/
def pushJ (l : List (Int × Int)) (limit : Int) (p : Int × Int) : List (Int × Int) := if hasJ l p.1 = true then l else if limit ≤ (l.length : Int) then l else l ++ [p]
def pushE (l : List (Int × Int)) (limit : Int) (p : Int × Int) : Int := if hasJ l p.1 = true then 9 else if limit ≤ (l.length : Int) then 7 else 0

set_option maxRecDepth 20000 in
set_option maxHeartbeats 400000 in
theorem push_any (A : Option Addr) (len cap : Nat) (l : List (Int × Int)) (limit x y : Int) (W : World) (h : Sl W 2 A len cap (pcells l)) (hl : len ≤ 10000) :
    Calls Try.prog 63 #[.slice A len cap, .int .i64 limit, .agg #[.int .i64 x, .int .i64 y]] W fun e w' => ∃ v, e = .returned (.tuple #[v, .int .i64 (pushE l limit (x, y))]) ∧ w'.ownsRow W.heap.size 91 2 v (pushJ l limit (x, y)).length (pcells (pushJ l limit (x, y))) ∧ Below W.heap.size W w' := by
  obtain rfl := h.plen
  have HC := hid (fun w (hb : Below W.heap.size W w) => clone_place A l.length cap (pcells l) w (h.below hb) (pcells_one l) (by omega))
  have hl2 : (l.length : Int) ≤ 10000 := by omega
  have hq : ∃ q, hasJ l x = q := ⟨_, rfl⟩
  obtain ⟨q, hq⟩ := hq
  have HQ := hid hq
  clear h hq
  go_enter Try.func63, Try.ntmps63
  go_upto_region 1 with (fail)
  refine at_world (fun w => w.heap[W.heap.size]? = some (.cells #[.int .i64 x, .int .i64 y] 91 (0, 0)) ∧ Below W.heap.size W w ∧ W.heap.size < w.heap.size) ⟨heap_alloc_new _ _, (Below.refl _ _).alloc (Nat.le_refl _) _, by simp⟩ ?_
  rintro w0 ⟨k0, hb0, hz0⟩
  have K0 := hid k0
  have HB0 := hid hb0
  have HC0 := hid (HC.out w0 hb0)
  clear k0 hb0 HC
  go_wp2_with fail
  refine HC0.out.mono ?_
  rintro e w1 ⟨v, rfl, hb1, ho1⟩
  obtain ⟨A1, c1, rfl, hs1⟩ := Sl.of_own ho1
  obtain ⟨p0, p1, q0, q1⟩ := two_cells (keep0 K0.out hb1)
  have HH := hid (qhas_any A1 l.length c1 l x w1 hs1)
  rw [HQ.out] at HH
  have HB1 := hid (HB0.out.trans (hb1.mono HB0.out.size))
  have HO1 := hid (own_mono ho1 (Nat.le_of_lt hz0))
  have K1 := hid (keep0 K0.out hb1)
  clear hs1 hb1 ho1 HC0 K0 HB0
  go_wp2_with fail
  refine HH.out.mono ?_
  rintro e w2 ⟨rfl, hb2⟩
  have HB2 := hid (HB1.out.trans (hb2.mono HB1.out.size))
  have HO2 := hid (own_keep HO1.out hb2)
  have K2 := keep0 K1.out hb2
  clear hb2 HB1 HO1 p0 p1 q0 q1 K1 HH
  obtain ⟨p0, p1, q0, q1⟩ := two_cells K2
  have HK2 := hid K2
  clear K2
  cases q with
  | true =>
    have e1 : pushJ l limit (x, y) = l := by rw [pushJ, if_pos HQ.out]
    have e2 : pushE l limit (x, y) = 9 := by rw [pushE, if_pos HQ.out]
    have E1 := hid e1
    have E2 := hid e2
    clear e1 e2
    go_wp2
    go_ret2
    rw [E1.out, E2.out]
    exact ⟨_, rfl, HO2.out, HB2.out⟩
  | false =>
    have hn : ¬ hasJ l x = true := by rw [HQ.out]; simp
    by_cases hlim : limit ≤ (l.length : Int)
    · have e1 : pushJ l limit (x, y) = l := by rw [pushJ, if_neg hn, if_pos hlim]
      have e2 : pushE l limit (x, y) = 7 := by rw [pushE, if_neg hn, if_pos hlim]
      have E1 := hid e1
      have E2 := hid e2
      clear e1 e2 hn
      go_wp2
      go_ret2
      rw [E1.out, E2.out]
      exact ⟨_, rfl, HO2.out, HB2.out⟩
    · have e1 : pushJ l limit (x, y) = l ++ [(x, y)] := by rw [pushJ, if_neg hn, if_neg hlim]
      have e2 : pushE l limit (x, y) = 0 := by rw [pushE, if_neg hn, if_neg hlim]
      have E1 := hid e1
      have E2 := hid e2
      clear e1 e2 hn
      go_wp2_with (at_builtin; refine wpList_append_1 (W := W) rfl (.tmp 20) (.tmp 22) 84 rfl W.heap.size 91 Try.underlying84 info_place rfl (by omega) rfl HO2.out rfl rfl (by simp; exact ⟨rfl, rfl⟩) ?c1 ?c2 HB2.out.size HB2.out ?_)
      case c1 => unfold maxLen; omega
      case c2 => omega
      · intro v' w' h2 h3 h4
        have HO3 := hid h2
        have HB3 := hid h3
        clear h2 h3 h4
        go_wp2
        go_ret2
        rw [E1.out, E2.out]
        refine ⟨_, rfl, ?_, HB3.out⟩
        rw [List.length_append, pcells_snoc]
        exact HO3.out

/-- What DeleteFunc has done up to index j: i are kept. -/
def DelAt (l : List (Int × Int)) (job : Int) (i j : Nat) (ys : List (Int × Int)) : Prop := ys.length = l.length ∧ ys.take i = dropJ (l.take j) job ∧ ys.drop j = l.drop j ∧ i ≤ j ∧ j ≤ l.length ∧ i = (dropJ (l.take j) job).length
theorem dropJ_snoc (l : List (Int × Int)) (job : Int) (j : Nat) (hj : j < l.length) : dropJ (l.take (j + 1)) job = dropJ (l.take j) job ++ if l[j].1 = job then [] else [l[j]] := by
  rw [List.take_add_one, List.getElem?_eq_getElem hj]
  unfold dropJ
  rw [Option.toList_some, List.filter_append]
  by_cases h : l[j].1 = job <;> simp [h]
theorem DelAt.get {l : List (Int × Int)} {job : Int} {i j : Nat} {ys : List (Int × Int)} (h : DelAt l job i j ys) (hj : j < l.length) : ∃ hy : j < ys.length, ys[j] = l[j] := by
  obtain ⟨h1, h2, h3, h4, h5, h6⟩ := h
  refine ⟨by omega, ?_⟩
  have := congrArg (fun m => m[0]?) h3
  simp only [List.getElem?_drop, Nat.add_zero] at this
  rw [List.getElem?_eq_getElem (by omega), List.getElem?_eq_getElem hj] at this
  simpa using this
theorem DelAt.start {l : List (Int × Int)} {job : Int} {k : Nat} (hk : k < l.length) (h : ∀ j (hj : j < l.length), j < k → l[j].1 ≠ job) (hy : l[k].1 = job) : DelAt l job k (k + 1) l := by
  have h1 : dropJ (l.take k) job = l.take k := dropJ_no fun j hj => by
    rw [List.length_take] at hj
    rw [List.getElem_take]
    exact h j (by omega) (by omega)
  have h2 : dropJ (l.take (k + 1)) job = l.take k := by rw [dropJ_snoc l job k hk, if_pos hy, List.append_nil, h1]
  exact ⟨rfl, h2.symm, rfl, by omega, by omega, by rw [h2, List.length_take]; omega⟩
theorem DelAt.skip {l : List (Int × Int)} {job : Int} {i j : Nat} {ys : List (Int × Int)} (h : DelAt l job i j ys) (hj : j < l.length) (hy : l[j].1 = job) : DelAt l job i (j + 1) ys := by
  obtain ⟨h1, h2, h3, h4, h5, h6⟩ := h
  have e : dropJ (l.take (j + 1)) job = dropJ (l.take j) job := by rw [dropJ_snoc l job j hj, if_pos hy, List.append_nil]
  refine ⟨h1, by rw [e]; exact h2, ?_, by omega, by omega, by rw [e]; exact h6⟩
  rw [← List.drop_drop, ← List.drop_drop, h3]
theorem DelAt.keep {l : List (Int × Int)} {job : Int} {i j : Nat} {ys : List (Int × Int)} (h : DelAt l job i j ys) (hj : j < l.length) (hy : l[j].1 ≠ job) : DelAt l job (i + 1) (j + 1) (ys.set i (l[j].1, l[j].2)) := by
  obtain ⟨h1, h2, h3, h4, h5, h6⟩ := h
  have e : dropJ (l.take (j + 1)) job = dropJ (l.take j) job ++ [l[j]] := by rw [dropJ_snoc l job j hj, if_neg hy]
  refine ⟨by simpa using h1, ?_, ?_, by omega, by omega, by rw [e, List.length_append]; simp; exact h6⟩
  · rw [e, ← h2, List.take_add_one, List.getElem?_set_self (by omega)]
    rw [List.take_set_of_le (Nat.le_refl _)]
    rfl
  · rw [List.drop_set_of_lt (by omega), ← List.drop_drop, ← List.drop_drop, h3]
theorem DelAt.done {l : List (Int × Int)} {job : Int} {i j : Nat} {ys : List (Int × Int)} (h : DelAt l job i j ys) (hj : l.length ≤ j) : ys.take i = dropJ l job ∧ i = (dropJ l job).length ∧ i ≤ l.length := by
  obtain ⟨h1, h2, h3, h4, h5, h6⟩ := h
  rw [List.take_of_length_le hj] at h2 h6
  exact ⟨h2, h6, by omega⟩
theorem DelAt.le {l : List (Int × Int)} {job : Int} {i j : Nat} {ys : List (Int × Int)} (h : DelAt l job i j ys) : ys.length = l.length ∧ i ≤ j ∧ j ≤ l.length := ⟨h.1, h.2.2.2.1, h.2.2.2.2.1⟩
attribute [irreducible] DelAt
theorem idxJ_split (l : List (Int × Int)) (job : Int) : (idxJ l job = -1 ∧ dropJ l job = l) ∨ ∃ k : Nat, idxJ l job = (k : Int) ∧ k < l.length ∧ DelAt l job k (k + 1) l := by
  cases h : l.findIdx? (fun p => p.1 == job) with
  | none =>
    rw [List.findIdx?_eq_none_iff] at h
    have h2 : ∀ j (hj : j < l.length), l[j].1 ≠ job := fun j hj => by simpa using h _ (List.getElem_mem hj)
    exact .inl ⟨idxJ_no h2, dropJ_no h2⟩
  | some k =>
    obtain ⟨hk, h1, h2⟩ := List.findIdx?_eq_some_iff_getElem.1 h
    have h3 : ∀ j (hj : j < l.length), j < k → l[j].1 ≠ job := fun j hj hjk => by simpa using h2 j hjk
    have hy : l[k].1 = job := by simpa using h1
    exact .inr ⟨k, idxJ_yes hk h3 hy, hk, DelAt.start hk h3 hy⟩

theorem zero_place (w : World) : (zeroValue 91).run Try.prog w = .ok (.agg #[.int .i64 0, .int .i64 0]) w := by
  obtain ⟨i, hi, hz, _, _⟩ := info_parts info_place
  simp [zeroValue, typeInfo, hi, hz]

set_option maxRecDepth 20000 in
set_option maxHeartbeats 1000000 in
theorem del_any (A : Option Addr) (cap base : Nat) (l : List (Int × Int)) (B : Nat) (job : Int) (W : World) (h : W.ownsRow base 91 2 (.slice A l.length cap) l.length (pcells l)) (hB : W.heap[B]? = some (.cells #[.int .i64 job] 3 (0, 0))) (hl : l.length ≤ 100000) (hbw : base ≤ W.heap.size) :
    Calls Try.prog 118 #[.slice A l.length cap, .func (.func 136) #[] #[.pointer (some ⟨B, 0, none⟩)]] W fun e w' => ∃ v, e = .returned v ∧ w'.ownsRow base 91 2 v (dropJ l job).length (pcells (dropJ l job)) ∧ Below base W w' := by
  have HI := hid (idx_any A l.length cap l B job W (sl_own h) (by rw [cell_of_row W B 0 _ _ _ hB]; rfl))
  have HO := hid h
  have HBX := hid hB
  have hl2 : (l.length : Int) ≤ 100000 := by omega
  have HBW := hid hbw
  have hsp := idxJ_split l job
  clear h hB hbw
  rcases hsp with ⟨h1, h2⟩ | ⟨k, h1, hk, h3⟩
  · rw [h1] at HI
    have HD := hid h2
    clear h1 h2
    go_enter Try.func118, Try.ntmps118
    go_wp2_with fail
    refine HI.out.mono ?_
    rintro e w1 ⟨rfl, hb1⟩
    have HB1 := hid (hb1.mono HBW.out)
    have HO1 := hid (own_keep HO.out hb1)
    clear hb1 HI
    go_wp2
    go_ret
    rw [HD.out]
    exact ⟨_, rfl, HO1.out, HB1.out⟩
  · rw [h1] at HI
    have hne : ((k : Int) == -1) = false := by rw [beq_eq_false_iff_ne]; omega
    obtain ⟨g, hg, hgb⟩ : ∃ g, A = some ⟨g, 0, none⟩ ∧ base ≤ g := by
      rcases HO.out.2 with ⟨_, h⟩ | ⟨g, cap', cur, h, hg, _⟩
      · omega
      · injection h with e1 e2 e3; exact ⟨g, e1, hg⟩
    subst hg
    have HDA := hid h3
    clear h1 h3
    go_enter Try.func118, Try.ntmps118
    go_wp2_with fail
    refine HI.out.mono ?_
    rintro e w1 ⟨rfl, hb1⟩
    have HB1 := hid (hb1.mono HBW.out)
    have HO1 := hid (own_keep HO.out hb1)
    have HX1 := hid (keep0 HBX.out hb1)
    clear hb1 HI HO HBX
    go_wp2
    go_loopw [5, 6] (fun i j wr => ∃ (ii jj : Nat) (ys : List (Int × Int)), ii ≤ jj ∧ jj ≤ l.length ∧ i = .int .i64 (ii : Int) ∧ j = .int .i64 (jj : Int) ∧ Hid (DelAt l job ii jj ys) ∧ Hid (wr.ownsRow base 91 2 (.slice (some ⟨g, 0, none⟩) l.length cap) l.length (pcells ys)) ∧ Hid (wr.heap[B]? = some (.cells #[.int .i64 job] 3 (0, 0))) ∧ Hid (Below base W wr)) (fun _ j _ => l.length - (intOf j).toNat)
    case atStart => exact ⟨k, k + 1, l, by omega, by omega, rfl, by go_num, HDA.out, HO1.out, HX1.out, HB1.out⟩
    case round =>
      obtain ⟨ii, jj, ys, hij, hjl, rfl, rfl, HD, HO, HX, HB⟩ := hrel
      by_cases hlt : jj < l.length
      · have hlt2 : (jj : Int) < (l.length : Int) := by omega
        obtain ⟨hy, hyl⟩ := HD.out.get hlt
        have hyn := HD.out.le.1
        obtain ⟨c1, c2⟩ := (sl_own HO.out).pair jj hy
        rw [hyl] at c1 c2
        simp only [Nat.zero_add] at c1 c2
        have HSK := hid (fun h => HD.out.skip hlt h)
        have HKP := hid (fun h => HD.out.keep hlt h)
        have hxx : ∃ x, l[jj].1 = x := ⟨_, rfl⟩
        have hyy : ∃ y, l[jj].2 = y := ⟨_, rfl⟩
        obtain ⟨x, hxx⟩ := hxx
        obtain ⟨y, hyy⟩ := hyy
        rw [hxx] at c1 HSK
        rw [hyy] at c2
        rw [hxx, hyy] at HKP
        clear hxx hyy hyl hy
        go_upto_region 8 with (fail)
        refine at_world (fun w => w.heap[wr.heap.size]? = some (.cells #[.int .i64 x, .int .i64 y] 91 (0, 0)) ∧ Below wr.heap.size wr w) ⟨heap_alloc_new _ _, (Below.refl _ _).alloc (Nat.le_refl _) _⟩ ?_
        rintro w2 ⟨k2, hb2⟩
        obtain ⟨p0, p1, q0, q1⟩ := two_cells k2
        have hX2 := keep0 HX.out hb2
        have HC := hid (of1_any B x y job w2 (by rw [cell_of_row w2 B 0 _ _ _ hX2]; rfl))
        have hbwr : base ≤ wr.heap.size := Nat.le_trans HBW.out HB.out.size
        have HB2 := hid (HB.out.trans (hb2.mono hbwr))
        have hbw2 := hid (Nat.le_trans hbwr hb2.size)
        have HO2 := hid (own_keep HO.out hb2)
        have HX2 := hid hX2
        have HK2 := hid k2
        have hiil : ii < l.length := by omega
        clear c1 c2 hb2 k2 hX2 hbwr
        go_wp2_with fail
        refine HC.out.mono ?_
        rintro e w3 ⟨rfl, hb3⟩
        have HB3 := hid (HB2.out.trans (hb3.mono hbw2.out))
        have HO3 := hid (own_keep HO2.out hb3)
        have HX3 := hid (keep0 HX2.out hb3)
        have k3 := keep0 HK2.out hb3
        clear p0 p1 q0 q1 hb3 HB2 HO2 HX2 HK2 HC hbw2 HO HX HB
        obtain ⟨p0, p1, q0, q1⟩ := two_cells k3
        have HK3 := hid k3
        clear k3
        by_cases hxj : x = job
        · have hd : (x == job) = true := by simpa using hxj
          have HN := hid (HSK.out hxj)
          clear hxj HSK HKP
          go_wp2
          go_roundw
          case rel => exact ⟨ii, jj + 1, ys, by omega, by omega, rfl, by go_num, HN.out, HO3.out, HX3.out, HB3.out⟩
          case measure => simp [intOf]; omega
        · have hd : (x == job) = false := by simpa using hxj
          have HN := hid (HKP.out hxj)
          have hyi : ii < ys.length := by omega
          have hci1 := HO3.out.cellAt (ii * 2) (by omega)
          have hci2 := HO3.out.cellAt (ii * 2 + 1) (by omega)
          obtain ⟨g1, g2⟩ := pcells_get ys ii hyi
          rw [g1] at hci1
          rw [g2] at hci2
          have hf1 := HO3.out.frozenAt (ii * 2)
          have hf2 := HO3.out.frozenAt (ii * 2 + 1)
          have HST := hid (((HO3.out.stored (ii * 2) (.int .i64 x)).1.stored (ii * 2 + 1) (.int .i64 y)).1)
          rw [pcells_set ys ii hyi x y] at HST
          have hBg : B ≠ g := fun e => own_blk_ne HO3.out HX3.out (by decide) (by rw [e]; rfl)
          have HXS := hid ((Below.heap_setCell _ ⟨g, ii * 2 + 1, none⟩ (.int .i64 y) _ hBg).trans ((Below.heap_setCell _ ⟨g, ii * 2, none⟩ (.int .i64 x) _ hBg).trans HX3.out))
          have HBS := hid ((HB3.out.setCell (p := ⟨g, ii * 2, none⟩) hgb (.int .i64 x)).setCell (p := ⟨g, ii * 2 + 1, none⟩) hgb (.int .i64 y))
          generalize ys[ii].1 = o1 at hci1
          generalize ys[ii].2 = o2 at hci2
          have HNG := hid hBg
          clear hxj HSK HKP g1 g2 hBg
          go_wp2
          go_roundw
          case rel => exact ⟨ii + 1, jj + 1, ys.set ii (x, y), by omega, by omega, by go_num, by go_num, HN.out, HST.out, HXS.out, HBS.out⟩
          case measure => simp [intOf]; omega
      · have hge : ¬ (jj : Int) < (l.length : Int) := by omega
        obtain ⟨d1, d2, d3⟩ := HD.out.done (by omega)
        have HDD := hid (And.intro d1 d2)
        have hrun := run_from Try.underlying84 info_place (some ⟨g, 0, none⟩) l.length cap ii d3
        have hcap : ii ≤ cap := by have := (sl_own HO.out).2.1; omega
        have hrun2 := run_to Try.underlying84 info_place (some ⟨g, 0, none⟩) l.length cap ii hcap
        clear d1 d2 hcap
        obtain ⟨w4, hrunC, h2, h3, h4, h5⟩ := run_clear_own (P := Try.prog) (ty := 0) (s := 2) Try.underlying84 zero_place rfl (fun u hu => by simp [Value.cells] at hu; subst hu; rfl) (by omega) HO.out ii d3
        rw [pcells_take, HDD.out.1] at h2
        have HO4 := hid h2
        have HB4 := hid (HB.out.trans h3)
        clear h2 h3 h4 h5
        go_wp2
        go_ret
        have h6 := HO4.out
        have h7 := HDD.out.2
        subst h7
        exact ⟨_, rfl, h6, HB4.out⟩

set_option maxRecDepth 20000 in
theorem drop_any (A : Option Addr) (len cap : Nat) (l : List (Int × Int)) (job : Int) (W : World) (h : Sl W 2 A len cap (pcells l)) (hl : len ≤ 10000) :
    Calls Try.prog 65 #[.slice A len cap, .int .i64 job] W fun e w' => ∃ v, e = .returned (.tuple #[v, .bool (decide ((dropJ l job).length < l.length))]) ∧ w'.ownsRow W.heap.size 91 2 v (dropJ l job).length (pcells (dropJ l job)) ∧ Below W.heap.size W w' := by
  obtain rfl := h.plen
  have HC := hid (clone_place A l.length cap (pcells l) W h (pcells_one l) (by omega))
  have HOF : Hid (∀ w : World, Calls Try.prog 119 #[.int .i64 job] w fun e w' => e = .returned (.func (.func 136) #[] #[.pointer (some ⟨w.heap.size, 0, none⟩)]) ∧ w' = w.alloc (.cells #[.int .i64 job] 3)) := hid (by
    intro w
    go_enter Try.func119, Try.ntmps119
    go_wp2
    go_ret
    exact ⟨rfl, rfl⟩)
  have hdl := dropJ_len l job
  have hl2 : (l.length : Int) ≤ 10000 := by omega
  clear h
  go_enter Try.func65, Try.ntmps65
  go_wp2_with fail
  refine HC.out.mono ?_
  rintro e w1 ⟨v, rfl, hb1, ho1⟩
  obtain ⟨A1, c1, rfl, _⟩ := Sl.of_own ho1
  have hbo : Below w1.heap.size w1 (w1.alloc (.cells #[.int .i64 job] 3)) := (Below.refl _ _).alloc (Nat.le_refl _) _
  have HD := hid (del_any A1 c1 W.heap.size l w1.heap.size job _ (own_keep ho1 hbo) (heap_alloc_new _ _) (by omega) (Nat.le_trans hb1.size hbo.size))
  have HB1 := hid (hb1.trans (hbo.mono hb1.size))
  clear ho1 hb1 hbo HC
  go_wp2_with fail
  refine (HOF.out _).mono ?_
  rintro e w2 ⟨rfl, rfl⟩
  go_wp2_with fail
  refine HD.out.mono ?_
  rintro e w3 ⟨v3, rfl, ho3, hb3⟩
  obtain ⟨A3, c3, rfl, _⟩ := Sl.of_own ho3
  have HO3 := hid ho3
  have HB3 := hid (HB1.out.trans hb3)
  have HDL := hid (show decide (((dropJ l job).length : Int) < (l.length : Int)) = decide ((dropJ l job).length < l.length) by simp)
  clear ho3 hb3 HD HB1 HOF
  generalize hd : dropJ l job = d at *
  have HDD := hid hd
  clear hd
  go_wp2
  go_ret2
  obtain rfl := HDD.out
  refine ⟨.slice A3 (dropJ l job).length c3, ?_, HO3.out, HB3.out⟩
  rw [← HDL.out]
  rfl
end Go.Proofs.Ytadjmgmdnekllaa
