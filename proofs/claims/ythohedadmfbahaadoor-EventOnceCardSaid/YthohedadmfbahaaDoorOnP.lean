/- ONCE: what an event does to how many run: pure (begun; for EventOnce). -/
import Derived.Test.YthohedadmfbahaaDoorEvP
namespace Go.Proofs.YthohedadmfbahaaDoor
open Go.RowKit Go.Sort
set_option linter.unusedVariables false
set_option linter.unusedSimpArgs false

theorem getD_rep0 (n k : Nat) : (List.replicate n (0 : Int)).getD k 0 = 0 := by
  rw [List.getD_eq_getElem?_getD, List.getElem?_replicate]
  split <;> rfl
theorem runE_new (j w : Int) (ns : List (List UInt8)) : ∀ k, runE (newE j ns) w k = 0
  | 0 => rfl
  | k + 1 => by
    have h : runB (newE j ns) k w = false := by
      unfold runB newE
      simp only [getD_rep0]
      rfl
    rw [runE, runE_new j w ns k, h]
    rfl
/-- An accepted job's tasks don't run. -/
theorem runS_acc (b : List En) (j w : Int) (ns : List (List UInt8)) : runS w (b ++ [newE j ns]) = runS w b := by
  rw [runS_snoc, runE_new]
  rfl
/-- How many of an entry's tasks run, task by task: a change at one task changes the sum by that task's. -/
theorem runE_at (e f : En) (w : Int) (t : Nat) (ho : ∀ i, i ≠ t → runB f i w = runB e i w) : ∀ k, t < k → runE f w k + (if runB e t w then 1 else 0) = runE e w k + (if runB f t w then 1 else 0)
  | k + 1, h => by
    have same : ∀ k, k ≤ t → runE f w k = runE e w k := fun k => by
      induction k with
      | zero => intro _; rfl
      | succ k ih => intro hk; rw [runE, runE, ih (by omega), ho k (by omega)]
    by_cases hk : t = k
    · subst hk
      rw [runE, runE, same t (Nat.le_refl _)]
      omega
    · have h9 := runE_at e f w t ho k (by omega)
      rw [runE, runE, ho k (fun h => hk h.symm)]
      omega
theorem runS_set (w : Int) (f : En) : ∀ (b : List En) (k : Nat) (hk : k < b.length), runS w (b.set k f) + runE b[k] w (tkB b[k]) = runS w b + runE f w (tkB f)
  | e :: b, 0, _ => by simp [runS]; omega
  | e :: b, k + 1, hk => by
    have h := runS_set w f b k (by simpa using hk)
    simp only [List.set_cons_succ, runS, List.getElem_cons_succ]
    omega
theorem runB_lau (e : En) (tn : Nat) (w w' : Int) (ht : tn < e.bd.length) (hw : 0 ≤ w) (hw2 : w < 9223372036854775807) (hd : e.dn.getD tn false = false) : runB ⟨e.id, e.sc, e.ep, e.ns, e.bd.set tn (w + 1), e.dn⟩ tn w' = (w == w') := by
  have h1 : (e.bd.set tn (w + 1)).getD tn 0 = w + 1 := by rw [List.getD_eq_getElem?_getD, List.getElem?_set]; simp [ht]
  unfold runB
  simp only [h1, hd]
  rw [decide_eq_true (by omega), show w + 1 - 1 = w by omega, IntKind.wrap_i64, show (w + 9223372036854775808) % 18446744073709551616 - 9223372036854775808 = w by omega]
  simp
theorem runB_lau_other (e : En) (tn i : Nat) (w w' : Int) (hi : i ≠ tn) : runB ⟨e.id, e.sc, e.ep, e.ns, e.bd.set tn (w + 1), e.dn⟩ i w' = runB e i w' := by
  have h1 : (e.bd.set tn (w + 1)).getD i 0 = e.bd.getD i 0 := by rw [List.getD_eq_getElem?_getD, List.getElem?_set, if_neg (fun h => hi h.symm), ← List.getD_eq_getElem?_getD]
  unfold runB
  simp only [h1]
theorem runB_fin (e : En) (tn : Nat) (w' : Int) (ht : tn < e.dn.length) : runB ⟨e.id, e.sc, e.ep, e.ns, e.bd, e.dn.set tn true⟩ tn w' = false := by
  have h1 : (e.dn.set tn true).getD tn false = true := by rw [List.getD_eq_getElem?_getD, List.getElem?_set]; simp [ht]
  unfold runB
  simp only [h1]
  simp
theorem runB_fin_other (e : En) (tn i : Nat) (w' : Int) (hi : i ≠ tn) : runB ⟨e.id, e.sc, e.ep, e.ns, e.bd, e.dn.set tn true⟩ i w' = runB e i w' := by
  have h1 : (e.dn.set tn true).getD i false = e.dn.getD i false := by rw [List.getD_eq_getElem?_getD, List.getElem?_set, if_neg (fun h => hi h.symm), ← List.getD_eq_getElem?_getD]
  unfold runB
  simp only [h1]
theorem atE_get {b : List En} {j : Int} {k : Nat} (h : plI b j = (k : Int)) (hk : k < b.length) : atE b j = b[k] := by
  unfold atE
  rw [h]
  simp [List.getD, hk]
/-- A launch: one more runs on its worker. -/
theorem runS_lau {b : List En} {j w w' : Int} {k tn : Nat} (js : List Jo) (hp : plI b j = (k : Int)) (hk : k < b.length) (ht : tn < tkB b[k]) (hw : 0 ≤ w) (hw2 : w < 9223372036854775807) (hb : b[k].bd.getD tn 0 = 0) (hd : b[k].dn.getD tn false = false) :
    runS w' (aftB js b 2 j (tn : Int) w) = runS w' b + (if w = w' then 1 else 0) := by
  have htk : tn < b[k].bd.length ∧ tn < b[k].dn.length := by unfold tkB at ht; omega
  unfold aftB
  rw [if_neg (by omega), hp, atE_get hp hk]
  unfold aftE
  rw [if_pos rfl, Int.toNat_natCast, Int.toNat_natCast]
  have h1 := runS_set w' ⟨b[k].id, b[k].sc, b[k].ep, b[k].ns, b[k].bd.set tn (w + 1), b[k].dn⟩ b k hk
  have e1 : tkB ⟨b[k].id, b[k].sc, b[k].ep, b[k].ns, b[k].bd.set tn (w + 1), b[k].dn⟩ = tkB b[k] := by unfold tkB; simp
  have h2 := runE_at b[k] ⟨b[k].id, b[k].sc, b[k].ep, b[k].ns, b[k].bd.set tn (w + 1), b[k].dn⟩ w' tn (fun i hi => runB_lau_other b[k] tn i w w' hi) (tkB b[k]) ht
  have h3 : runB b[k] tn w' = false := by unfold runB; rw [hb]; rfl
  rw [runB_lau b[k] tn w w' htk.1 hw hw2 hd, h3] at h2
  rw [e1] at h1
  by_cases hww : w = w'
  · subst hww
    simp at h2
    rw [if_pos rfl]
    omega
  · have h9 : (w == w') = false := by simpa using hww
    rw [h9] at h2
    rw [if_neg hww]
    simp at h2
    omega
/-- A finish: one less. -/
theorem runS_fin {b : List En} {j w w' : Int} {k tn : Nat} (js : List Jo) (hp : plI b j = (k : Int)) (hk : k < b.length) (ht : tn < tkB b[k]) (hr : ∀ w', runB b[k] tn w' = (w == w')) :
    runS w' (aftB js b 3 j (tn : Int) w) + (if w = w' then 1 else 0) = runS w' b := by
  have htk : tn < b[k].bd.length ∧ tn < b[k].dn.length := by unfold tkB at ht; omega
  unfold aftB
  rw [if_neg (by omega), hp, atE_get hp hk]
  unfold aftE
  rw [if_neg (by omega), Int.toNat_natCast, Int.toNat_natCast]
  have h1 := runS_set w' ⟨b[k].id, b[k].sc, b[k].ep, b[k].ns, b[k].bd, b[k].dn.set tn true⟩ b k hk
  have e1 : tkB ⟨b[k].id, b[k].sc, b[k].ep, b[k].ns, b[k].bd, b[k].dn.set tn true⟩ = tkB b[k] := by unfold tkB; simp
  have h2 := runE_at b[k] ⟨b[k].id, b[k].sc, b[k].ep, b[k].ns, b[k].bd, b[k].dn.set tn true⟩ w' tn (fun i hi => runB_fin_other b[k] tn i w' hi) (tkB b[k]) ht
  rw [runB_fin b[k] tn w' htk.2, hr w'] at h2
  rw [e1] at h1
  by_cases hww : w = w'
  · subst hww
    simp at h2
    rw [if_pos rfl]
    omega
  · have h9 : (w == w') = false := by simpa using hww
    rw [h9] at h2
    rw [if_neg hww]
    simp at h2
    omega
end Go.Proofs.YthohedadmfbahaaDoor

namespace Go.Proofs.YthohedadmfbahaaDoor
open Go.RowKit Go.Sort
set_option linter.unusedVariables false
set_option linter.unusedSimpArgs false

/-- A state and the events that led to it. -/
structure Onc (b : List En) (D : List Ev) : Prop where
  nd : (b.map (·.id)).Nodup
  rng : ∀ e ∈ b, ∀ i, i < tkB e → 0 ≤ e.bd.getD i 0 ∧ e.bd.getD i 0 ≤ 64 ∧ (e.dn.getD i false = true → e.bd.getD i 0 ≠ 0)
  acc : ∀ e ∈ b, (⟨1, e.id, 0, 0⟩ : Ev) ∈ D
  acc2 : ∀ d ∈ D, ∃ e ∈ b, e.id = d.j
  lau : ∀ e ∈ b, ∀ i : Nat, i < tkB e → ∀ w : Int, e.bd.getD i 0 = w + 1 → 0 ≤ w → (⟨2, e.id, (i : Int), w⟩ : Ev) ∈ D
  lau2 : ∀ d ∈ D, d.kd = 2 → ∃ e ∈ b, e.id = d.j ∧ ∃ i : Nat, d.t = (i : Int) ∧ i < tkB e ∧ e.bd.getD i 0 ≠ 0
  fin2 : ∀ d ∈ D, d.kd = 3 → ∃ e ∈ b, e.id = d.j ∧ ∃ i : Nat, d.t = (i : Int) ∧ i < tkB e ∧ e.dn.getD i false = true
theorem Onc.nil : Onc [] [] := ⟨List.nodup_nil, by simp, by simp, by simp, by simp, by simp, by simp⟩
theorem getD_repf (n k : Nat) : (List.replicate n false).getD k false = false := by
  rw [List.getD_eq_getElem?_getD, List.getElem?_replicate]
  split <;> rfl
/-- Behind an accepted job. -/
theorem Onc.accept {b : List En} {D : List Ev} (h : Onc b D) {j : Int} {ns : List (List UInt8)} (hj : ∀ e ∈ b, e.id ≠ j) : Onc (b ++ [newE j ns]) (D ++ [⟨1, j, 0, 0⟩]) := by
  have hm : ∀ e, e ∈ b ++ [newE j ns] → e ∈ b ∨ e = newE j ns := fun e he => by
    rcases List.mem_append.1 he with h1 | h1
    · exact .inl h1
    · exact .inr (List.mem_singleton.1 h1)
  have hd : ∀ d : Ev, d ∈ D ++ [⟨1, j, 0, 0⟩] → d ∈ D ∨ d = ⟨1, j, 0, 0⟩ := fun d he => by
    rcases List.mem_append.1 he with h1 | h1
    · exact .inl h1
    · exact .inr (List.mem_singleton.1 h1)
  have n0 : ∀ i, (newE j ns).bd.getD i 0 = 0 := fun i => getD_rep0 _ _
  have n1 : ∀ i, (newE j ns).dn.getD i false = false := fun i => getD_repf _ _
  refine ⟨?_, fun e he i hi => ?_, fun e he => ?_, fun d hd9 => ?_, fun e he i hi w hw h0 => ?_, fun d hd9 hk => ?_, fun d hd9 hk => ?_⟩
  · rw [List.map_append, List.map_singleton, List.nodup_append]
    refine ⟨h.nd, by simp, ?_⟩
    intro a ha c hc hac
    obtain ⟨e, he, rfl⟩ := List.mem_map.1 ha
    have hc2 := List.mem_singleton.1 hc
    exact hj e he (by rw [hac, hc2]; rfl)
  · rcases hm e he with h1 | rfl
    · exact h.rng e h1 i hi
    · rw [n0, n1]
      exact ⟨by omega, by omega, by simp⟩
  · rcases hm e he with h1 | rfl
    · exact List.mem_append.2 (.inl (h.acc e h1))
    · exact List.mem_append.2 (.inr (List.mem_singleton.2 rfl))
  · rcases hd d hd9 with h1 | rfl
    · obtain ⟨e, he, h2⟩ := h.acc2 d h1
      exact ⟨e, List.mem_append.2 (.inl he), h2⟩
    · exact ⟨_, List.mem_append.2 (.inr (List.mem_singleton.2 rfl)), rfl⟩
  · rcases hm e he with h1 | rfl
    · exact List.mem_append.2 (.inl (h.lau e h1 i hi w hw h0))
    · rw [n0] at hw
      omega
  · rcases hd d hd9 with h1 | rfl
    · obtain ⟨e, he, h2⟩ := h.lau2 d h1 hk
      exact ⟨e, List.mem_append.2 (.inl he), h2⟩
    · exact absurd hk (show ¬ (1 : Int) = 2 by decide)
  · rcases hd d hd9 with h1 | rfl
    · obtain ⟨e, he, h2⟩ := h.fin2 d h1 hk
      exact ⟨e, List.mem_append.2 (.inl he), h2⟩
    · exact absurd hk (show ¬ (1 : Int) = 3 by decide)
/-- Behind an event at one entry. -/
theorem Onc.put {b : List En} {D : List Ev} (h : Onc b D) {k : Nat} (hk : k < b.length) {f : En} {d : Ev} (hid : f.id = b[k].id) (htk : tkB f = tkB b[k])
    (hr : ∀ i, i < tkB f → 0 ≤ f.bd.getD i 0 ∧ f.bd.getD i 0 ≤ 64 ∧ (f.dn.getD i false = true → f.bd.getD i 0 ≠ 0))
    (hl : ∀ i : Nat, i < tkB f → ∀ w : Int, f.bd.getD i 0 = w + 1 → 0 ≤ w → (⟨2, f.id, (i : Int), w⟩ : Ev) ∈ D ++ [d])
    (hb : ∀ i, b[k].bd.getD i 0 ≠ 0 → f.bd.getD i 0 ≠ 0) (hf : ∀ i, b[k].dn.getD i false = true → f.dn.getD i false = true)
    (hj : d.j = b[k].id) (h2 : d.kd = 2 → ∃ i : Nat, d.t = (i : Int) ∧ i < tkB f ∧ f.bd.getD i 0 ≠ 0) (h3 : d.kd = 3 → ∃ i : Nat, d.t = (i : Int) ∧ i < tkB f ∧ f.dn.getD i false = true) : Onc (b.set k f) (D ++ [d]) := by
  have hfm : f ∈ b.set k f := List.mem_set hk f
  have hm : ∀ e, e ∈ b.set k f → e ∈ b ∨ e = f := fun e he => List.mem_or_eq_of_mem_set he
  have hd : ∀ c : Ev, c ∈ D ++ [d] → c ∈ D ∨ c = d := fun c he => by
    rcases List.mem_append.1 he with h1 | h1
    · exact .inl h1
    · exact .inr (List.mem_singleton.1 h1)
  -- an entry of before lies there still, or is the one that turned
  have ho : ∀ e ∈ b, e ∈ b.set k f ∨ e = b[k] := fun e he => by
    obtain ⟨i, hi, rfl⟩ := List.getElem_of_mem he
    by_cases hik : k = i
    · subst hik
      exact .inr rfl
    · refine .inl ?_
      have h9 : (b.set k f)[i]? = some b[i] := by rw [List.getElem?_set, if_neg hik, List.getElem?_eq_getElem hi]
      exact List.mem_of_getElem? h9
  refine ⟨?_, fun e he i hi => ?_, fun e he => ?_, fun c hc => ?_, fun e he i hi w hw h0 => ?_, fun c hc hk9 => ?_, fun c hc hk9 => ?_⟩
  · have h9 : (b.set k f).map (·.id) = b.map (·.id) := by
      rw [List.map_set, hid]
      exact List.ext_getElem? fun i => by
        rw [List.getElem?_set]
        split
        · rename_i hik
          subst hik
          simp [hk]
        · rfl
    rw [h9]
    exact h.nd
  · rcases hm e he with h1 | rfl
    · exact h.rng e h1 i hi
    · exact hr i hi
  · rcases hm e he with h1 | rfl
    · exact List.mem_append.2 (.inl (h.acc e h1))
    · rw [hid]
      exact List.mem_append.2 (.inl (h.acc _ (List.getElem_mem hk)))
  · rcases hd c hc with h1 | rfl
    · obtain ⟨e, he, h4⟩ := h.acc2 c h1
      rcases ho e he with h5 | rfl
      · exact ⟨e, h5, h4⟩
      · exact ⟨f, hfm, hid.trans h4⟩
    · exact ⟨f, hfm, hid.trans hj.symm⟩
  · rcases hm e he with h1 | rfl
    · exact List.mem_append.2 (.inl (h.lau e h1 i hi w hw h0))
    · exact hl i hi w hw h0
  · rcases hd c hc with h1 | rfl
    · obtain ⟨e, he, h4, i, h5, h6, h7⟩ := h.lau2 c h1 hk9
      rcases ho e he with h8 | rfl
      · exact ⟨e, h8, h4, i, h5, h6, h7⟩
      · exact ⟨f, hfm, hid.trans h4, i, h5, by omega, hb i h7⟩
    · obtain ⟨i, h5, h6, h7⟩ := h2 hk9
      exact ⟨f, hfm, hid.trans hj.symm, i, h5, h6, h7⟩
  · rcases hd c hc with h1 | rfl
    · obtain ⟨e, he, h4, i, h5, h6, h7⟩ := h.fin2 c h1 hk9
      rcases ho e he with h8 | rfl
      · exact ⟨e, h8, h4, i, h5, h6, h7⟩
      · exact ⟨f, hfm, hid.trans h4, i, h5, by omega, hf i h7⟩
    · obtain ⟨i, h5, h6, h7⟩ := h3 hk9
      exact ⟨f, hfm, hid.trans hj.symm, i, h5, h6, h7⟩
theorem acc_zero {x : Cf} {js : List Jo} {b : List En} {j t w : Int} (h : accB x js b j t w = true) : t = 0 ∧ w = 0 ∧ plI b j < 0 := by
  unfold accB at h
  split at h
  · cases h
  · rename_i h1
    omega
theorem plI_neg {b : List En} {j : Int} (h : plI b j < 0) : ∀ e ∈ b, e.id ≠ j := by
  unfold plI at h
  split at h
  · omega
  · rename_i h1
    exact plB_none h1
theorem lau_zero {x : Cf} {b : List En} {j t w : Int} (h : lauB x b j t w = true) : (atE b j).bd.getD t.toNat 0 = 0 := by
  unfold lauB at h
  split at h
  · cases h
  · rename_i h1
    omega
theorem fin_run {b : List En} {j t w : Int} (h : finB b j t w = true) : runB (atE b j) t.toNat w = true := by
  unfold finB at h
  split at h
  · cases h
  · exact h
theorem pos_kd {x : Cf} {js : List Jo} {b : List En} {j t w : Int} : (posB x js b 2 j t w = true → lauB x b j t w = true) ∧ (posB x js b 3 j t w = true → finB b j t w = true) := by
  constructor <;> intro h
  · rw [posB, if_neg (by decide), if_pos rfl] at h; exact h
  · rw [posB, if_neg (by decide), if_neg (by decide), if_pos rfl] at h; exact h
/-- Behind any event that may happen. -/
theorem Onc.step {x : Cf} {js : List Jo} {b : List En} {D : List Ev} (h : Onc b D) {e : Ev} (hp : posV x js b e = true) : Onc (aftV js b e) (D ++ [e]) := by
  obtain ⟨kd, j, t, w⟩ := e
  unfold posV at hp
  unfold aftV
  simp only at hp ⊢
  by_cases h1 : kd = 1
  · subst h1
    obtain ⟨rfl, rfl, h2⟩ := acc_zero (pos_acc hp rfl)
    unfold aftB
    rw [if_pos rfl]
    exact h.accept (plI_neg h2)
  · obtain ⟨hkd, k, hpl, hk, n, rfl, htk, hw⟩ := pos_in hp h1
    have hid : b[k].id = j := by
      obtain ⟨k', h2, hk', h3⟩ := plI_in (b := b) (j := j) (by omega)
      have : k = k' := by omega
      subst this
      exact h3
    rw [atE_get hpl hk] at htk
    have htl : n < b[k].bd.length ∧ n < b[k].dn.length := by unfold tkB at htk; omega
    have hrn := h.rng _ (List.getElem_mem hk)
    unfold aftB
    rw [if_neg h1, hpl, atE_get hpl hk, Int.toNat_natCast]
    rcases hkd with rfl | rfl
    · have hz := lau_zero (pos_kd.1 hp)
      rw [atE_get hpl hk, Int.toNat_natCast] at hz
      obtain ⟨hw0, hw1⟩ := hw rfl
      unfold aftE
      rw [if_pos rfl, Int.toNat_natCast]
      have g1 : (b[k].bd.set n (w + 1)).getD n 0 = w + 1 := by rw [List.getD_eq_getElem?_getD, List.getElem?_set]; simp [htl.1]
      have g2 : ∀ i, i ≠ n → (b[k].bd.set n (w + 1)).getD i 0 = b[k].bd.getD i 0 := fun i hi => by rw [List.getD_eq_getElem?_getD, List.getElem?_set, if_neg (fun h => hi h.symm), ← List.getD_eq_getElem?_getD]
      have e1 : tkB ⟨b[k].id, b[k].sc, b[k].ep, b[k].ns, b[k].bd.set n (w + 1), b[k].dn⟩ = tkB b[k] := by unfold tkB; simp
      refine h.put hk (f := ⟨b[k].id, b[k].sc, b[k].ep, b[k].ns, b[k].bd.set n (w + 1), b[k].dn⟩) rfl e1 (fun i hi => ?_) (fun i hi w' hw' h0 => ?_) (fun i hi => ?_) (fun i hi => hi) hid.symm (fun _ => ⟨n, rfl, by omega, ?_⟩) (fun h9 => absurd h9 (show ¬ (2 : Int) = 3 by decide))
      · rw [e1] at hi
        show 0 ≤ (b[k].bd.set n (w + 1)).getD i 0 ∧ (b[k].bd.set n (w + 1)).getD i 0 ≤ 64 ∧ (b[k].dn.getD i false = true → (b[k].bd.set n (w + 1)).getD i 0 ≠ 0)
        by_cases hin : i = n
        · subst hin
          rw [g1]
          exact ⟨by omega, by omega, fun _ => by omega⟩
        · rw [g2 i hin]
          exact hrn i hi
      · rw [e1] at hi
        have hw2 : (b[k].bd.set n (w + 1)).getD i 0 = w' + 1 := hw'
        by_cases hin : i = n
        · subst hin
          rw [g1] at hw2
          obtain rfl : w = w' := by omega
          exact List.mem_append.2 (.inr (by rw [← hid]; exact List.mem_singleton.2 rfl))
        · rw [g2 i hin] at hw2
          exact List.mem_append.2 (.inl (h.lau _ (List.getElem_mem hk) i hi w' hw2 h0))
      · show (b[k].bd.set n (w + 1)).getD i 0 ≠ 0
        by_cases hin : i = n
        · subst hin
          rw [g1]; omega
        · rw [g2 i hin]; exact hi
      · show (b[k].bd.set n (w + 1)).getD n 0 ≠ 0
        rw [g1]; omega
    · unfold aftE
      rw [if_neg (by decide), Int.toNat_natCast]
      have g1 : (b[k].dn.set n true).getD n false = true := by rw [List.getD_eq_getElem?_getD, List.getElem?_set]; simp [htl.2]
      have g2 : ∀ i, i ≠ n → (b[k].dn.set n true).getD i false = b[k].dn.getD i false := fun i hi => by rw [List.getD_eq_getElem?_getD, List.getElem?_set, if_neg (fun h => hi h.symm), ← List.getD_eq_getElem?_getD]
      have e1 : tkB ⟨b[k].id, b[k].sc, b[k].ep, b[k].ns, b[k].bd, b[k].dn.set n true⟩ = tkB b[k] := by unfold tkB; simp
      have hru := fin_run (pos_kd.2 hp)
      rw [atE_get hpl hk, Int.toNat_natCast] at hru
      have hbp : 0 < b[k].bd.getD n 0 := by
        unfold runB at hru
        simp at hru
        exact hru.1
      refine h.put hk (f := ⟨b[k].id, b[k].sc, b[k].ep, b[k].ns, b[k].bd, b[k].dn.set n true⟩) rfl e1 (fun i hi => ?_) (fun i hi w' hw' h0 => ?_) (fun i hi => hi) (fun i hi => ?_) hid.symm (fun h9 => absurd h9 (show ¬ (3 : Int) = 2 by decide)) (fun _ => ⟨n, rfl, by omega, g1⟩)
      · rw [e1] at hi
        show 0 ≤ b[k].bd.getD i 0 ∧ b[k].bd.getD i 0 ≤ 64 ∧ ((b[k].dn.set n true).getD i false = true → b[k].bd.getD i 0 ≠ 0)
        by_cases hin : i = n
        · subst hin
          exact ⟨(hrn i hi).1, (hrn i hi).2.1, fun _ => by omega⟩
        · rw [g2 i hin]
          exact hrn i hi
      · rw [e1] at hi
        exact List.mem_append.2 (.inl (h.lau _ (List.getElem_mem hk) i hi w' hw' h0))
      · show (b[k].dn.set n true).getD i false = true
        by_cases hin : i = n
        · subst hin; exact g1
        · rw [g2 i hin]; exact hi
end Go.Proofs.YthohedadmfbahaaDoor

namespace Go.Proofs.YthohedadmfbahaaDoor
open Go.RowKit Go.Sort
set_option linter.unusedVariables false
set_option linter.unusedSimpArgs false

theorem Onc.one {b : List En} {D : List Ev} (h : Onc b D) {k : Nat} (hk : k < b.length) {e : En} (he : e ∈ b) (hi : e.id = b[k].id) : e = b[k] := by
  obtain ⟨i, hi9, rfl⟩ := List.getElem_of_mem he
  have h9 := (List.pairwise_iff_getElem.1 h.nd)
  by_cases hik : i = k
  · subst hik; rfl
  · exfalso
    rcases Nat.lt_or_gt_of_ne hik with h1 | h1
    · exact h9 i k (by simpa using hi9) (by simpa using hk) h1 (by simpa using hi)
    · exact h9 k i (by simpa using hk) (by simpa using hi9) h1 (by simpa using hi.symm)
theorem pos_entry {x : Cf} {js : List Jo} {b : List En} {kd j t w : Int} (hp : posB x js b kd j t w = true) (h1 : kd ≠ 1) : (kd = 2 ∨ kd = 3) ∧ ∃ k n : Nat, ∃ hk : k < b.length, plI b j = (k : Int) ∧ b[k].id = j ∧ t = (n : Int) ∧ n < tkB b[k] ∧ (kd = 2 → b[k].bd.getD n 0 = 0) ∧ (kd = 3 → runB b[k] n w = true) := by
  obtain ⟨hkd, k, hpl, hk, n, rfl, htk, hw⟩ := pos_in hp h1
  have hid : b[k].id = j := by
    obtain ⟨k', h2, hk', h3⟩ := plI_in (b := b) (j := j) (by omega)
    have : k = k' := by omega
    subst this
    exact h3
  rw [atE_get hpl hk] at htk
  refine ⟨hkd, k, n, hk, hpl, hid, rfl, htk, fun h2 => ?_, fun h3 => ?_⟩
  · subst h2
    have hz := lau_zero (pos_kd.1 hp)
    rw [atE_get hpl hk, Int.toNat_natCast] at hz
    exact hz
  · subst h3
    have hru := fin_run (pos_kd.2 hp)
    rw [atE_get hpl hk, Int.toNat_natCast] at hru
    exact hru
/-- A task is launched once. -/
theorem Onc.once {x : Cf} {js : List Jo} {b : List En} {D : List Ev} (h : Onc b D) {j t w : Int} (hp : posB x js b 2 j t w = true) : ∀ d ∈ D, d.kd = 2 → d.j = j → d.t = t → False := by
  intro d hd hk2 hj ht
  obtain ⟨_, k, n, hk, _, hid, rfl, htk, hz, _⟩ := pos_entry hp (by decide)
  obtain ⟨e, he, h4, i, h5, h6, h7⟩ := h.lau2 d hd hk2
  obtain rfl := h.one hk he (by rw [h4, hj, hid])
  obtain rfl : i = n := by omega
  exact h7 (hz rfl)
/-- What may happen has not happened. -/
theorem Onc.fresh {x : Cf} {js : List Jo} {b : List En} {D : List Ev} (h : Onc b D) {e : Ev} (hp : posV x js b e = true) : e ∉ D := by
  intro hm
  obtain ⟨kd, j, t, w⟩ := e
  unfold posV at hp
  simp only at hp
  by_cases h1 : kd = 1
  · subst h1
    obtain ⟨_, _, h2⟩ := acc_zero (pos_acc hp rfl)
    obtain ⟨e, he, h3⟩ := h.acc2 _ hm
    exact plI_neg h2 e he h3
  · obtain ⟨hkd, k, n, hk, _, hid, rfl, htk, _, hru⟩ := pos_entry hp h1
    rcases hkd with rfl | rfl
    · exact h.once hp _ hm rfl rfl rfl
    · obtain ⟨e, he, h4, i, h5, h6, h7⟩ := h.fin2 _ hm rfl
      obtain rfl := h.one hk he (by rw [h4, hid])
      obtain rfl : i = n := by simp only at h5; omega
      have h8 := hru rfl
      unfold runB at h8
      rw [h7] at h8
      simp at h8
/-- What is finished was launched. -/
theorem Onc.launched {x : Cf} {js : List Jo} {b : List En} {D : List Ev} (h : Onc b D) {j t w : Int} (hp : posB x js b 3 j t w = true) : (⟨2, j, t, w⟩ : Ev) ∈ D := by
  obtain ⟨_, k, n, hk, _, hid, rfl, htk, _, hru⟩ := pos_entry hp (by decide)
  have h8 := hru rfl
  obtain ⟨g1, g2, _⟩ := h.rng _ (List.getElem_mem hk) n htk
  unfold runB at h8
  rw [Bool.and_eq_true, Bool.and_eq_true, decide_eq_true_eq, beq_iff_eq] at h8
  obtain ⟨g3, g4, _⟩ := h8
  rw [IntKind.wrap_i64] at g4
  have h9 := h.lau _ (List.getElem_mem hk) n htk w (by omega) (by omega)
  rw [hid] at h9
  exact h9
/-- What is launched or finished was accepted. -/
theorem Onc.accepted {x : Cf} {js : List Jo} {b : List En} {D : List Ev} (h : Onc b D) {kd j t w : Int} (hp : posB x js b kd j t w = true) (h1 : kd ≠ 1) : (⟨1, j, 0, 0⟩ : Ev) ∈ D := by
  obtain ⟨_, k, n, hk, _, hid, _⟩ := pos_entry hp h1
  have h9 := h.acc _ (List.getElem_mem hk)
  rw [hid] at h9
  exact h9
/-- How many run on a worker, by the events. -/
def ranL (w : Int) : List Ev → Int
  | [] => 0
  | d :: l => (if d.kd = 2 ∧ d.w = w then 1 else 0) - (if d.kd = 3 ∧ d.w = w then 1 else 0) + ranL w l
theorem ranL_snoc (w : Int) (e : Ev) : ∀ l, ranL w (l ++ [e]) = ranL w l + ((if e.kd = 2 ∧ e.w = w then 1 else 0) - (if e.kd = 3 ∧ e.w = w then 1 else 0))
  | [] => by simp [ranL]
  | d :: l => by rw [List.cons_append, ranL, ranL, ranL_snoc w e l]; omega
theorem lau_slots {x : Cf} {b : List En} {j t w : Int} (h : lauB x b j t w = true) : 0 ≤ w ∧ w < (x.ws.length : Int) ∧ w < 64 ∧ (runS w b : Int) < (x.ws.getD w.toNat (0, 0, 0)).1 := by
  unfold lauB at h
  split at h
  · cases h
  · split at h
    · rename_i h2
      obtain ⟨h3, h4, h5⟩ := set_in h2
      exact ⟨h3, h4, h5, of_decide_eq_true h⟩
    · cases h
/-- Launches less finishes are what runs, behind any event that may happen. -/
theorem Onc.ran {x : Cf} {js : List Jo} {b : List En} {D : List Ev} (h : Onc b D) (hc : ∀ w, ranL w D = (runS w b : Int)) {e : Ev} (hp : posV x js b e = true) (w' : Int) : ranL w' (D ++ [e]) = (runS w' (aftV js b e) : Int) := by
  rw [ranL_snoc, hc]
  obtain ⟨kd, j, t, w⟩ := e
  unfold posV at hp
  unfold aftV
  simp only at hp ⊢
  by_cases h1 : kd = 1
  · subst h1
    unfold aftB
    rw [if_pos rfl, runS_acc, if_neg (by omega), if_neg (by omega)]
    omega
  · obtain ⟨hkd, k, n, hk, hpl, hid, rfl, htk, hz, hru⟩ := pos_entry hp h1
    have hrn := h.rng _ (List.getElem_mem hk) n htk
    rcases hkd with rfl | rfl
    · obtain ⟨w0, _, w1, _⟩ := lau_slots (pos_kd.1 hp)
      have hdn : b[k].dn.getD n false = false := by
        cases hd : b[k].dn.getD n false with
        | false => rfl
        | true => exact absurd (hz rfl) (hrn.2.2 hd)
      rw [runS_lau js hpl hk htk w0 (by omega) (hz rfl) hdn]
      by_cases hww : w = w'
      · rw [if_pos ⟨rfl, hww⟩, if_neg (by omega), if_pos hww]
        omega
      · rw [if_neg (fun h => hww h.2), if_neg (by omega), if_neg hww]
        omega
    · have h8 := hru rfl
      unfold runB at h8
      rw [Bool.and_eq_true, Bool.and_eq_true, decide_eq_true_eq, beq_iff_eq] at h8
      obtain ⟨g3, g4, g5⟩ := h8
      have hr : ∀ w', runB b[k] n w' = (w == w') := fun w' => by
        unfold runB
        rw [decide_eq_true g3, g4, g5]
        simp
      have h9 := runS_fin (w' := w') js hpl hk htk hr
      by_cases hww : w = w'
      · rw [if_pos hww] at h9
        rw [if_neg (by omega), if_pos ⟨rfl, hww⟩]
        omega
      · rw [if_neg hww] at h9
        rw [if_neg (by omega), if_neg (fun h => hww h.2)]
        omega
end Go.Proofs.YthohedadmfbahaaDoor
