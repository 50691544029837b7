/- A ledger's records behind a cut, plain. -/
import Derived.Test.YtkepfkfoblocgaaLgX
namespace Go.Proofs.Ytkepfkfoblocgaa
open Go.RowKit
set_option linter.unusedVariables false
set_option linter.unusedSimpArgs false

theorem foldB_snoc (x : Rc) : ∀ (l : List Rc) (b : List En), (foldB b l).2 = l.length → whyB (foldB b l).1 x = 0 → foldB b (l ++ [x]) = (appB (foldB b l).1 x, l.length + 1)
  | [], b, _, hw => by
    simp only [foldB] at hw
    simp [foldB, hw]
  | y :: l, b, h, hw => by
    by_cases hy : whyB b y = 0
    · have e : foldB b (y :: l) = ((foldB (appB b y) l).1, (foldB (appB b y) l).2 + 1) := by rw [foldB, if_pos hy]
      rw [e] at h hw ⊢
      simp only [List.length_cons] at h hw ⊢
      have h9 := foldB_snoc x l (appB b y) (by omega) hw
      rw [List.cons_append, foldB, if_pos hy, h9]
    · have e : foldB b (y :: l) = (b, 0) := by rw [foldB, if_neg hy]
      rw [e] at h
      simp at h
/-- What holds of a ledger, and of the records on its disk. -/
structure CtI (s : LgS) (b : List En) (M : List Rc) : Prop where
  rm : RmI s b
  ar : s.armed = false
  rc : recS s.l = (M, s.l.length)
  fo : foldB [] M = (b, M.length)
theorem CtI.app {s : LgS} {b : List En} {M : List Rc} {x : Rc} (h : CtI s b M) (hw : whyB b x = 0) : recS (s.l ++ fR x) = (M ++ [x], (s.l ++ fR x).length) ∧ foldB [] (M ++ [x]) = (appB b x, (M ++ [x]).length) := by
  have h1 := recS_app s.l x (whyB_chk hw)
  rw [h.rc] at h1
  simp only [List.take_length] at h1
  refine ⟨h1, ?_⟩
  have h2 := foldB_snoc x M [] (by rw [h.fo]) (by rw [h.fo]; exact hw)
  rw [h.fo] at h2
  rw [h2, List.length_append]
  rfl
theorem rm_bytes {s : LgS} {b : List En} (x : Rc) (h : RmI s b) (har : s.armed = false) : (lgE s b x = 0 → whyB b x = 0) ∧ (lgN s b x).l = if lgE s b x = 0 then s.l ++ fR x else s.l := by
  have hd : ¬ s.down = true := by rw [h.dn]; simp
  unfold lgE lgN
  rw [if_neg hd, if_neg hd]
  by_cases hw : whyB b x = 0
  · have hw2 : ¬ whyB b x ≠ 0 := fun h9 => h9 hw
    rw [if_neg hw2, if_neg hw2]
    refine ⟨fun _ => hw, ?_⟩
    by_cases hf : x.k = 1 ∧ s.R < s.kp + mostR x.j 0 x.ns
    · rw [if_pos hf, if_pos hf, if_neg (by decide)]
    · rw [if_neg hf, if_neg hf]
      obtain ⟨r1, r2⟩ := rm_room h hw hf
      have hx2 : ¬ chkR x = false := by rw [whyB_chk hw]; simp
      have e1 : anE s.room s.l s.armed false x = 0 := by
        rw [anE, if_neg hx2]
        show apE s.room s.l (fR x) s.armed = 0
        rw [apE, if_neg r1, har]
        rfl
      rw [e1, if_pos rfl]
      show anB s.room s.l s.armed s.fuse false x = _
      rw [anB, if_neg hx2]
      show apL s.room s.l (fR x) s.armed s.fuse = _
      rw [apL, if_neg r1, har]
      rfl
  · rw [if_pos hw, if_pos hw, if_neg hw]
    exact ⟨fun h9 => h9, rfl⟩
theorem ct_step {s : LgS} {b : List En} {M : List Rc} (x : Rc) (h : CtI s b M) : CtI (lgN s b x) (if lgE s b x = 0 then appB b x else b) (if lgE s b x = 0 then M ++ [x] else M) ∧ (lgN s b x).R = s.R := by
  obtain ⟨h1, h2, h3, _⟩ := rm_step x h.rm h.ar
  obtain ⟨h4, h5⟩ := rm_bytes x h.rm h.ar
  refine ⟨⟨h1, h2, ?_, ?_⟩, h3⟩
  · rw [h5]
    by_cases h9 : lgE s b x = 0
    · rw [if_pos h9, if_pos h9]
      exact (h.app (h4 h9)).1
    · rw [if_neg h9, if_neg h9]
      exact h.rc
  · by_cases h9 : lgE s b x = 0
    · rw [if_pos h9, if_pos h9]
      exact (h.app (h4 h9)).2
    · rw [if_neg h9, if_neg h9]
      exact h.fo
/-- What a Put leaves under which the power may go. -/
theorem ct_cut {s : LgS} {b : List En} {M : List Rc} (f : Nat) (x : Rc) (h : CtI s b M) (hR : s.R ≤ 65536) (s1 : LgS) (hs1 : s1 = ⟨s.R, s.kp, s.room, s.l, true, f, false⟩) :
    lgE s1 b x ≠ 0 ∧ (lgN s1 b x).down = decide (lgE s1 b x = 14) ∧ (lgE s1 b x = 14 → whyB b x = 0) ∧ (lgN s1 b x).l.length ≤ 100000 ∧ (foldB [] (recS (lgN s1 b x).l).1).2 = (recS (lgN s1 b x).l).1.length ∧ (foldB [] (recS (lgN s1 b x).l).1).1 = if lgE s1 b x = 14 ∧ sizeR x ≤ f then appB b x else b := by
  have hle := h.rm.len
  have hrm := h.rm.room
  have key : ∀ l, l = s.l → l.length ≤ 100000 ∧ (foldB [] (recS l).1).2 = (recS l).1.length ∧ (foldB [] (recS l).1).1 = b := fun l hl => by
    subst hl
    rw [h.rc, h.fo]
    exact ⟨by omega, rfl, rfl⟩
  have hd : ¬ s1.down = true := by rw [hs1]; simp
  unfold lgE lgN
  rw [if_neg hd, if_neg hd]
  by_cases hw : whyB b x = 0
  · have hw2 : ¬ whyB b x ≠ 0 := fun h9 => h9 hw
    rw [if_neg hw2, if_neg hw2]
    by_cases hf : x.k = 1 ∧ s1.R < s1.kp + mostR x.j 0 x.ns
    · rw [if_pos hf, if_pos hf]
      obtain ⟨k1, k2, k3⟩ := key s1.l (by rw [hs1])
      refine ⟨by decide, by rw [hs1]; rfl, fun h9 => absurd h9 (by decide), k1, k2, ?_⟩
      rw [k3, if_neg (fun h9 => absurd h9.1 (by decide))]
    · rw [if_neg hf, if_neg hf]
      have hf2 : ¬ (x.k = 1 ∧ s.R < s.kp + mostR x.j 0 x.ns) := by rw [hs1] at hf; exact hf
      obtain ⟨r1, r2⟩ := rm_room h.rm hw hf2
      have hx := whyB_chk hw
      have hx2 : ¬ chkR x = false := by rw [hx]; simp
      have e1 : anE s1.room s1.l s1.armed false x = 14 := by
        rw [hs1, anE, if_neg hx2]
        show apE s.room s.l (fR x) true = 14
        rw [apE, if_neg r1]
        rfl
      have e2 : anB s1.room s1.l s1.armed s1.fuse false x = s.l ++ (fR x).take f := by
        rw [hs1, anB, if_neg hx2]
        show apL s.room s.l (fR x) true f = _
        rw [apL, if_neg r1]
        rfl
      rw [e1, e2]
      have hfl := fR_len x
      simp only [if_true]
      refine ⟨by decide, by simp, fun _ => hw, ?_, ?_⟩
      · rw [List.length_append, List.length_take]
        omega
      · by_cases hz : sizeR x ≤ f
        · rw [List.take_of_length_le (by rw [← size_fR]; exact hz)]
          obtain ⟨a1, a2⟩ := h.app hw
          rw [a1, if_pos (And.intro (by trivial) hz)]
          simp only
          rw [a2]
          first
            | exact ⟨rfl, rfl⟩
            | exact ⟨trivial, rfl⟩
        · rw [if_neg (fun h9 => hz h9.2)]
          have hM : recB M = s.l := by
            have h9 := recB_pre s.l
            rw [h.rc] at h9
            simpa using h9
          have hall : ∀ y ∈ M ++ [x], chkR y = true := fun y hy => by
            rcases List.mem_append.1 hy with hy | hy
            · have h9 := recS_chk s.l.length s.l (Nat.le_refl _) y
              rw [h.rc] at h9
              exact h9 hy
            · obtain rfl : y = x := by simpa using hy
              exact hx
          have ht := rec_torn (M ++ [x]) M.length (s.l.length + f) hall (by simp) (by
            rw [List.take_left, hM]
            omega) (.inr (by
            rw [List.take_of_length_le (by simp), recB_snoc, hM, List.length_append, ← size_fR]
            omega))
          rw [List.take_left, hM, recB_snoc, hM, List.take_append, List.take_of_length_le (show s.l.length ≤ s.l.length + f by omega), Nat.add_sub_cancel_left] at ht
          rw [ht]
          simp only
          rw [h.fo]
          first
            | exact ⟨rfl, rfl⟩
            | exact ⟨trivial, rfl⟩
  · rw [if_pos hw, if_pos hw]
    obtain ⟨k1, k2, k3⟩ := key s1.l (by rw [hs1])
    refine ⟨hw, ?_, fun h9 => absurd h9 (fun h8 => whyB_14 h8), k1, k2, ?_⟩
    · rw [hs1]
      exact (decide_eq_false (fun h8 => whyB_14 h8)).symm
    · rw [k3, if_neg (fun h9 => whyB_14 h9.1)]
end Go.Proofs.Ytkepfkfoblocgaa
