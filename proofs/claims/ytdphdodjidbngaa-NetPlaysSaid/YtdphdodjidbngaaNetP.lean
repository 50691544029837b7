/- net: each call's answer, in range or not; two nets beside each other. -/
import Derived.Test.YtdphdodjidbngaaNetO
namespace Go.Proofs.Ytdphdodjidbngaa
open Go.RowKit
set_option linter.unusedVariables false
set_option linter.unusedSimpArgs false

instance : Inhabited Tg := ⟨⟨0, 0, [], false⟩⟩
def gt (l : List Tg) (k : Int) : Tg := l.getD k.toNat default
theorem gt_at {l : List Tg} {k : Nat} (hk : k < l.length) : gt l (k : Int) = l[k] := by
  unfold gt
  rw [Int.toNat_natCast, List.getD_eq_getElem?_getD, List.getElem?_eq_getElem hk]
  rfl
def zT : Tg := ⟨0, 0, [], false⟩
/-- What Take answers: a thing, a number, what is left. -/
def tkV (l : List Tg) (k : Int) : Tg × Int × List Tg := if k < 0 ∨ (l.length : Int) ≤ k then (zT, 6, l) else (gt l k, 0, l.eraseIdx k.toNat)
def twV (m : Int) (l : List Tg) (k : Int) : Int × List Tg := if k < 0 ∨ (l.length : Int) ≤ k then (6, l) else (0, if (l.length : Int) < m then l ++ [gt l k] else l)
def tuV (l : List Tg) (k a : Int) (bits : Nat) : Int × List Tg :=
  if k < 0 ∨ (l.length : Int) ≤ k then (6, l) else if (gt l k).t = true then (9, l) else if a < 0 ∨ 8 * (((gt l k).s.length : Int) - 1) ≤ a then (6, l)
  else (0, l.set k.toNat ⟨(gt l k).from', (gt l k).to', trs (gt l k).s a.toNat bits 32, true⟩)
/-- No more things than m, none longer than a hundred bytes. -/
def OkN (m : Int) (l : List Tg) : Prop := (l.length : Int) ≤ m ∧ ∀ x ∈ l, x.s.length ≤ 100
theorem OkN.nil {m : Int} (h : 0 ≤ m) : OkN m [] := ⟨by simpa using h, by simp⟩
theorem gt_mem {l : List Tg} {k : Int} (h : ¬ (k < 0 ∨ (l.length : Int) ≤ k)) : gt l k ∈ l := by
  obtain ⟨n, rfl⟩ := Int.eq_ofNat_of_zero_le (show 0 ≤ k by omega)
  rw [gt_at (show n < l.length by omega)]
  exact List.getElem_mem _
theorem OkN.take {m : Int} {l : List Tg} (h : OkN m l) (k : Int) : OkN m (tkV l k).2.2 := by
  unfold tkV
  split
  · exact h
  · refine ⟨?_, fun x hx => h.2 x (List.mem_of_mem_eraseIdx hx)⟩
    have := List.length_eraseIdx_le l k.toNat
    have := h.1
    show ((l.eraseIdx k.toNat).length : Int) ≤ m
    omega
theorem OkN.twice {m : Int} {l : List Tg} (h : OkN m l) (k : Int) : OkN m (twV m l k).2 := by
  unfold twV
  split
  · exact h
  · rename_i h1
    show OkN m (if (l.length : Int) < m then l ++ [gt l k] else l)
    split
    · refine ⟨by rw [List.length_append, List.length_singleton]; omega, fun x hx => ?_⟩
      rcases List.mem_append.1 hx with h2 | h2
      · exact h.2 x h2
      · rw [List.mem_singleton.1 h2]; exact h.2 _ (gt_mem h1)
    · exact h
theorem OkN.turn {m : Int} {l : List Tg} (h : OkN m l) (k a : Int) (bits : Nat) : OkN m (tuV l k a bits).2 := by
  unfold tuV
  split
  · exact h
  · rename_i h1
    split
    · exact h
    · split
      · exact h
      · refine ⟨by show ((l.set _ _).length : Int) ≤ m; rw [List.length_set]; exact h.1, fun x hx => ?_⟩
        rcases List.mem_or_eq_of_mem_set hx with h2 | h2
        · exact h.2 x h2
        · subst h2
          show (trs _ _ _ _).length ≤ 100
          rw [trs_len]
          exact h.2 _ (gt_mem h1)
theorem OkN.send {m f t : Int} : ∀ {l : List Tg} (ss : List (List UInt8)), OkN m l → (∀ s ∈ ss, s.length ≤ 100) → OkN m (sendL m f t l ss)
  | l, [], h, _ => h
  | l, s :: ss, h, hs => by
    rw [sendL]
    refine OkN.send ss ?_ (fun x hx => hs x (List.mem_cons_of_mem _ hx))
    split
    · refine ⟨by rw [List.length_append, List.length_singleton]; omega, fun x hx => ?_⟩
      rcases List.mem_append.1 hx with h2 | h2
      · exact h.2 x h2
      · rw [List.mem_singleton.1 h2]; exact hs s List.mem_cons_self
    · exact h
theorem zT_tc : tc zT = #[.int .i64 0, .int .i64 0, .string ⟨#[]⟩, .bool false] := rfl

/-- The program's net and the document's, with the same things. -/
def Two (B b c : Nat) (m : Int) (l : List Tg) (w : World) : Prop := NetAt B b m l w ∧ RnAt B c m l w
theorem Two.ne {B b c : Nat} {m m' : Int} {l l' : List Tg} {w : World} (h : NetAt B b m l w) (h' : RnAt B c m' l' w) : b ≠ c := by
  rintro rfl
  obtain ⟨_, _, _, h1, _⟩ := h
  obtain ⟨_, _, _, h2, _⟩ := h'
  rw [h1] at h2
  cases h2
theorem RnAt.othr {B b c : Nat} {m m' : Int} {l l' : List Tg} {w w' : World} (h : RnAt B c m l w) (hn : NetAt B b m' l' w) (ho : Othr b w w') : RnAt B c m l w' := by
  have hbc := Two.ne hn h
  obtain ⟨h0, A, cap, h1, h2⟩ := h
  obtain ⟨_, _, _, h3, _⟩ := hn
  refine ⟨h0, A, cap, ho c _ _ _ (fun h => hbc h.symm) (by decide) h1, own_other2 h2 fun g hg => ?_⟩
  obtain ⟨_, _, cur, hg1⟩ := own_lt h2 g hg
  rw [hg1]
  exact ho g _ _ _ (own_apart_blk h2 h3 (by decide) g hg) (by decide) hg1
theorem NetAt.tch {B b c : Nat} {m m' : Int} {l l' : List Tg} {w w' : World} (h : NetAt B b m l w) (hr : RnAt B c m' l' w) (ht : Tch (fun g => g = c) w w') : NetAt B b m l w' := by
  have hbc := Two.ne h hr
  obtain ⟨h0, A, cap, h1, h2⟩ := h
  obtain ⟨_, _, _, h3, _⟩ := hr
  exact ⟨h0, A, cap, ht.block h1 hbc, ht.own h2 fun g hg => own_apart_blk h2 h3 (by decide) g hg⟩

theorem ntk_any (B b : Nat) (m : Int) (l : List Tg) (k : Int) (W : World) (h : NetAt B b m l W) (hB : B ≤ W.heap.size) (hl : l.length ≤ 100000) : Calls Try.prog 27 #[.pointer (some ⟨b, 0, none⟩), .int .i64 k] W fun e w' => e = .returned (.tuple #[.agg (tc (tkV l k).1), .int .i64 (tkV l k).2.1]) ∧ NetAt B b m (tkV l k).2.2 w' ∧ Below B W w' ∧ Othr b W w' := by
  by_cases hk : k < 0 ∨ (l.length : Int) ≤ k
  · unfold tkV
    rw [if_pos hk]
    refine (ntake_out B b m l k W h hk).mono ?_
    rintro e w' ⟨rfl, hb⟩
    exact ⟨rfl, h.below hb, hb.mono hB, Othr.of_below hb⟩
  · unfold tkV
    rw [if_neg hk]
    obtain ⟨n, rfl⟩ := Int.eq_ofNat_of_zero_le (show 0 ≤ k by omega)
    have hn : n < l.length := by omega
    rw [gt_at hn]
    exact ntake_any B b m l n W h hB hl hn
theorem rtk_any (B c : Nat) (m : Int) (l : List Tg) (k : Int) (W : World) (h : RnAt B c m l W) (hB : B ≤ W.heap.size) (hl : l.length ≤ 100000) : Calls Try.prog 28 #[.pointer (some ⟨c, 0, none⟩), .int .i64 k] W fun e w' => e = .returned (.tuple #[.agg (tc (tkV l k).1), .int .i64 (tkV l k).2.1]) ∧ RnAt B c m (tkV l k).2.2 w' ∧ Tch (fun g => g = c) W w' := by
  by_cases hk : k < 0 ∨ (l.length : Int) ≤ k
  · unfold tkV
    rw [if_pos hk]
    refine (rtake_out B c m l k W h hk).mono ?_
    rintro e w' ⟨rfl, hb⟩
    exact ⟨rfl, h.below hb, Tch.of_below hb⟩
  · unfold tkV
    rw [if_neg hk]
    obtain ⟨n, rfl⟩ := Int.eq_ofNat_of_zero_le (show 0 ≤ k by omega)
    have hn : n < l.length := by omega
    rw [gt_at hn]
    exact rtake_any B c m l n W h hB hl hn
theorem ntw_any (B b : Nat) (m : Int) (l : List Tg) (k : Int) (W : World) (h : NetAt B b m l W) (hB : B ≤ W.heap.size) (hl : l.length ≤ 100000) : Calls Try.prog 30 #[.pointer (some ⟨b, 0, none⟩), .int .i64 k] W fun e w' => e = .returned (.int .i64 (twV m l k).1) ∧ NetAt B b m (twV m l k).2 w' ∧ Below B W w' ∧ Othr b W w' := by
  by_cases hk : k < 0 ∨ (l.length : Int) ≤ k
  · unfold twV
    rw [if_pos hk]
    refine (ntwice_out B b m l k W h hk).mono ?_
    rintro e w' ⟨rfl, rfl⟩
    exact ⟨rfl, h, Below.refl _ _, Othr.refl _ _⟩
  · unfold twV
    rw [if_neg hk]
    obtain ⟨n, rfl⟩ := Int.eq_ofNat_of_zero_le (show 0 ≤ k by omega)
    have hn : n < l.length := by omega
    rw [gt_at hn]
    exact ntwice_any B b m l n W h hB hl hn
theorem rtw_any (B c : Nat) (m : Int) (l : List Tg) (k : Int) (W : World) (h : RnAt B c m l W) (hB : B ≤ W.heap.size) (hl : l.length ≤ 100000) : Calls Try.prog 31 #[.pointer (some ⟨c, 0, none⟩), .int .i64 k] W fun e w' => e = .returned (.int .i64 (twV m l k).1) ∧ RnAt B c m (twV m l k).2 w' ∧ Tch (fun g => g = c) W w' := by
  by_cases hk : k < 0 ∨ (l.length : Int) ≤ k
  · unfold twV
    rw [if_pos hk]
    refine (rtwice_out B c m l k W h hk).mono ?_
    rintro e w' ⟨rfl, rfl⟩
    exact ⟨rfl, h, Tch.refl _ _⟩
  · unfold twV
    rw [if_neg hk]
    obtain ⟨n, rfl⟩ := Int.eq_ofNat_of_zero_le (show 0 ≤ k by omega)
    have hn : n < l.length := by omega
    rw [gt_at hn]
    exact rtwice_any B c m l n W h hB hl hn
theorem ntu_any (B b : Nat) (m : Int) (l : List Tg) (k a : Int) (bits : Nat) (W : World) (h : NetAt B b m l W) (hB : B ≤ W.heap.size) (hs : ∀ x ∈ l, x.s.length ≤ 100) (hbt : bits < 4294967296) : Calls Try.prog 32 #[.pointer (some ⟨b, 0, none⟩), .int .i64 k, .int .i64 a, .int .u32 (bits : Int)] W fun e w' => e = .returned (.int .i64 (tuV l k a bits).1) ∧ NetAt B b m (tuV l k a bits).2 w' ∧ Below B W w' ∧ Othr b W w' := by
  have hsame : ∀ {e : Ending} {r : Int}, (∃ w' : World, e = .returned (.int .i64 r)) → True := fun _ => trivial
  by_cases hk : k < 0 ∨ (l.length : Int) ≤ k
  · unfold tuV
    rw [if_pos hk]
    refine (nturn_out B b m l k a bits W h hk).mono ?_
    rintro e w' ⟨rfl, rfl⟩
    exact ⟨rfl, h, Below.refl _ _, Othr.refl _ _⟩
  · have hm := hs _ (gt_mem hk)
    unfold tuV
    rw [if_neg hk]
    obtain ⟨n, rfl⟩ := Int.eq_ofNat_of_zero_le (show 0 ≤ k by omega)
    have hn : n < l.length := by omega
    rw [gt_at hn] at hm ⊢
    by_cases ht : l[n].t = true
    · rw [if_pos ht]
      refine (nturn_there B b m l n a bits W h hn ht).mono ?_
      rintro e w' ⟨rfl, hb⟩
      exact ⟨rfl, h.below hb, hb.mono hB, Othr.of_below hb⟩
    · rw [if_neg ht]
      have ht' : l[n].t = false := by simpa using ht
      by_cases ha : a < 0 ∨ 8 * ((l[n].s.length : Int) - 1) ≤ a
      · rw [if_pos ha]
        refine (nturn_range B b m l n a bits W h hn ht' (by omega) ha).mono ?_
        rintro e w' ⟨rfl, hb⟩
        exact ⟨rfl, h.below hb, hb.mono hB, Othr.of_below hb⟩
      · rw [if_neg ha]
        obtain ⟨an, rfl⟩ := Int.eq_ofNat_of_zero_le (show 0 ≤ a by omega)
        exact nturn_ok B b m l n an bits W h hB hn ht' (by omega) (by omega) hbt
theorem rtu_any (B c : Nat) (m : Int) (l : List Tg) (k a : Int) (bits : Nat) (W : World) (h : RnAt B c m l W) (hB : B ≤ W.heap.size) (hl : l.length ≤ 100000) (hs : ∀ x ∈ l, x.s.length ≤ 100) (hbt : bits < 4294967296) (ha2 : a ≤ 9223372036854775807) : Calls Try.prog 33 #[.pointer (some ⟨c, 0, none⟩), .int .i64 k, .int .i64 a, .int .u32 (bits : Int)] W fun e w' => e = .returned (.int .i64 (tuV l k a bits).1) ∧ RnAt B c m (tuV l k a bits).2 w' ∧ Tch (fun g => g = c) W w' := by
  by_cases hk : k < 0 ∨ (l.length : Int) ≤ k
  · unfold tuV
    rw [if_pos hk]
    refine (rturn_out B c m l k a bits W h hk).mono ?_
    rintro e w' ⟨rfl, rfl⟩
    exact ⟨rfl, h, Tch.refl _ _⟩
  · have hm := hs _ (gt_mem hk)
    unfold tuV
    rw [if_neg hk]
    obtain ⟨n, rfl⟩ := Int.eq_ofNat_of_zero_le (show 0 ≤ k by omega)
    have hn : n < l.length := by omega
    rw [gt_at hn] at hm ⊢
    by_cases ht : l[n].t = true
    · rw [if_pos ht]
      refine (rturn_there B c m l n a bits W h hn ht).mono ?_
      rintro e w' ⟨rfl, rfl⟩
      exact ⟨rfl, h, Tch.refl _ _⟩
    · rw [if_neg ht]
      have ht' : l[n].t = false := by simpa using ht
      by_cases ha : a < 0 ∨ 8 * ((l[n].s.length : Int) - 1) ≤ a
      · rw [if_pos ha]
        refine (rturn_range B c m l n a bits W h hn ht' (by omega) ha ha2).mono ?_
        rintro e w' ⟨rfl, rfl⟩
        exact ⟨rfl, h, Tch.refl _ _⟩
      · rw [if_neg ha]
        obtain ⟨an, rfl⟩ := Int.eq_ofNat_of_zero_le (show 0 ≤ a by omega)
        exact rturn_ok B c m l n an bits W h hB hl hn ht' (by omega) (by omega) hbt
end Go.Proofs.Ytdphdodjidbngaa
