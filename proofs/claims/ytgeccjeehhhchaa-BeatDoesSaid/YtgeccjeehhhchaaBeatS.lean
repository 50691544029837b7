/- The reference's New and Silent; the law's Is; Same. -/
import Derived.Test.YtgeccjeehhhchaaBeatR
namespace Go.Proofs.Ytgeccjeehhhchaa
open Go.RowKit Go.Sort
set_option linter.unusedVariables false
set_option linter.unusedSimpArgs false

theorem below_drewN {n : Nat} {W w : World} (h : Below n W w) (q : Nat) : Below n W (w.drewN q) := ⟨h.os, h.tape, h.output, h.size, h.block⟩
theorem rep_snoc (k : Nat) : icells .i64 (List.replicate (k + 1) 0) = icells .i64 (List.replicate k 0) ++ [.int .i64 0] := by
  rw [List.replicate_succ', icells_append]; rfl

set_option maxHeartbeats 1000000 in
theorem rnew37_any (n s t : Int) (W : World) :
    Calls Try.prog 22 #[.int .i64 n, .int .i64 s, .int .i64 t] W fun e w' => ∃ v, e = .returned (.agg #[.int .i64 s, .int .i64 t, v]) ∧ Below W.heap.size W w' ∧ w'.ownsRow W.heap.size 3 1 v (nw n) (icells .i64 (List.replicate (nw n) 0)) := by
  have hN := hid (show ((nw n : Nat) : Int) = min (max n 0) 8 by unfold nw; omega)
  have h8 : nw n ≤ 8 := by unfold nw; omega
  go_enter Try.func22, Try.ntmps22
  go_upto_region 3 with (fail)
  refine at_world (fun w => w.heap[W.heap.size]? = some (.cells #[.int .i64 0, .int .i64 0, .slice none 0 0] 24 (0, 0)) ∧ Below W.heap.size W w ∧ w.heap.size = W.heap.size + 1) ⟨heap_alloc_new _ _, (Below.refl _ _).alloc (Nat.le_refl _) _, by simp⟩ ?_
  rintro w0 ⟨k1, hb0, hz⟩
  have K0 := hid (And.intro k1 (And.intro hb0 hz))
  clear k1 hb0 hz
  go_loopw [7, 8] (fun v i wr => ∃ k : Nat, k ≤ nw n ∧ i = .int .i64 (k : Int) ∧ Hid (wr.ownsRow w0.heap.size 3 1 v k (icells .i64 (List.replicate k 0))) ∧ Hid (Below w0.heap.size w0 wr)) (fun _ i _ => nw n - (intOf i).toNat)
  case atStart => exact ⟨0, by omega, rfl, World.ownsRow_nil _ _ _ _, Below.refl _ _⟩
  case round =>
    obtain ⟨k, hk, rfl, HO, HBr⟩ := hrel
    by_cases hlt : k < nw n
    · have H1 : (k : Int) < n := by have := hN.out; omega
      have H2 : (k : Int) < 8 := by omega
      have HT := hid (rep_snoc k)
      go_wp2_with (at_builtin; refine wpList_append_1 (W := w0) rfl (.tmp 18) (.tmp 19) 22 rfl w0.heap.size 3 Try.underlying22 info_int rfl (by omega) rfl HO.out rfl rfl (by simp; rfl) ?c1 ?c2 HBr.out.size HBr.out ?_)
      case c1 => unfold maxLen; omega
      case c2 => omega
      · intro v' w' h2 h3 h4
        have HO2 := hid h2; clear h2
        go_wp2
        go_roundw
        case rel => exact ⟨k + 1, by omega, by go_num, by rw [Hid, HT.out]; exact HO2.out, h3⟩
        case measure => simp [intOf]; omega
    · obtain rfl : k = nw n := by omega
      obtain ⟨a', c', rfl, _⟩ := Sl.of_own HO.out
      obtain ⟨⟨q0, q1, q2⟩, g0, g1, g2⟩ := three_cells (keep0 K0.out.1 HBr.out)
      have hz : W.heap.size + 1 ≤ w0.heap.size := by have := K0.out.2.2; omega
      have hb := K0.out.2.1.trans (HBr.out.mono (by omega))
      have HZ := hid hz
      clear hz
      by_cases H1 : ((nw n : Nat) : Int) < n
      · have H2 : ¬ ((nw n : Nat) : Int) < 8 := by have := hN.out; omega
        go_wp2
        refine bodyPost_ret (v := .agg #[.int .i64 s, .int .i64 t, .slice a' (nw n) c']) (by simp [results, Try.results22, go_sem, q0, q1, q2]) rfl ⟨.slice a' (nw n) c', rfl, (by repeat' (first | with_reducible exact hb | with_reducible refine Below.setCell ?_ (by simp) _)), ?_⟩
        have h3 := HZ.out
        exact own_mono (by repeat' (first | with_reducible exact HO.out | with_reducible refine own_setOld ?_ _ _ (by simp; omega))) (show W.heap.size ≤ w0.heap.size by omega)
      · go_wp2
        refine bodyPost_ret (v := .agg #[.int .i64 s, .int .i64 t, .slice a' (nw n) c']) (by simp [results, Try.results22, go_sem, q0, q1, q2]) rfl ⟨.slice a' (nw n) c', rfl, (by repeat' (first | with_reducible exact hb | with_reducible refine Below.setCell ?_ (by simp) _)), ?_⟩
        have h3 := HZ.out
        exact own_mono (by repeat' (first | with_reducible exact HO.out | with_reducible refine own_setOld ?_ _ _ (by simp; omega))) (show W.heap.size ≤ w0.heap.size by omega)

set_option maxHeartbeats 1000000 in
theorem rsilent37_any (s t : Int) (A : Option Addr) (len cap : Nat) (l : List Int) (k : Int) (W : World) (h : Sl W 1 A len cap (icells .i64 l)) :
    Calls Try.prog 24 #[.agg #[.int .i64 s, .int .i64 t, .slice A len cap], .int .i64 k] W fun e w' => e = .returned (.bool (sil s t k l)) ∧ Below W.heap.size W w' := by
  obtain rfl : len = l.length := by have := h.1; rw [icells_length] at this; omega
  by_cases hs : k = s
  · have HE : Hid (sil s t k l = false) := by simp [Hid, sil, hs]
    have hne : (k != s) = false := by simp [hs]
    clear hs h
    go_enter Try.func24, Try.ntmps24
    go_wp2_with fail
    go_quiet (fail)
    go_wp2
    go_ret
    refine ⟨?_, below_drewN ((Below.refl _ _).alloc (Nat.le_refl _) _) _⟩
    rw [HE.out]; rfl
  · have hne : (k != s) = true := by simpa using hs
    by_cases h0 : 0 ≤ k
    · by_cases h1 : k < l.length
      · obtain ⟨n, rfl⟩ := Int.eq_ofNat_of_zero_le h0
        have hn : n < l.length := by omega
        obtain ⟨b, off, rfl, hc⟩ := Sl.at h n (by rw [icells_length]; exact hn)
        have e1 : (icells .i64 l)[n]'(by rw [icells_length]; exact hn) = .int .i64 (l.getD n 0) := by simp [icells, hn]
        rw [e1] at hc
        have e3 : sil s t n l = decide (t ≤ l.getD n 0) := by simp [sil, hne, hn]
        obtain ⟨a, ha⟩ : ∃ a, a = l.getD n 0 := ⟨_, rfl⟩
        rw [← ha] at hc e3
        have HE := hid e3
        have hc2 := (((Below.refl W.heap.size W).alloc (Nat.le_refl _) (.cells #[.int .i64 s, .int .i64 t, .slice (some ⟨b, off, none⟩) l.length cap] 24)).cell (p := ⟨b, off + n, none⟩) (lt_of_cell hc)).trans hc
        clear h e1 e3 hs ha hc
        go_enter Try.func24, Try.ntmps24
        go_wp2_with fail
        go_quiet (fail)
        go_wp2
        go_ret
        refine ⟨?_, below_drewN ((Below.refl _ _).alloc (Nat.le_refl _) _) _⟩
        rw [HE.out]; rfl
      · have HE : Hid (sil s t k l = false) := by simp [Hid, sil, h1]
        have d1 : decide (k < (l.length : Int)) = false := by simpa using h1
        clear h hs
        go_enter Try.func24, Try.ntmps24
        go_wp2_with fail
        go_quiet (fail)
        go_wp2
        go_ret
        refine ⟨?_, below_drewN ((Below.refl _ _).alloc (Nat.le_refl _) _) _⟩
        rw [HE.out]; rfl
    · have HE : Hid (sil s t k l = false) := by simp only [Hid, sil, h0, decide_false, Bool.false_and]
      have d0 : decide (0 ≤ k) = false := by simpa using h0
      clear h hs
      go_enter Try.func24, Try.ntmps24
      go_wp2_with fail
      go_quiet (fail)
      go_wp2
      go_ret
      refine ⟨?_, below_drewN ((Below.refl _ _).alloc (Nat.le_refl _) _) _⟩
      rw [HE.out]; rfl

theorem is37_any (s t s' t' : Int) (A B : Option Addr) (len cap len' cap' : Nat) (l m : List Int) (W : World) (hA : Sl W 1 A len cap (icells .i64 l)) (hB : Sl W 1 B len' cap' (icells .i64 m)) (h6 : len ≤ 1000) (h7 : len' ≤ 1000) :
    Calls Try.prog 18 #[.agg #[.int .i64 s, .int .i64 t, .slice A len cap], .agg #[.int .i64 s', .int .i64 t', .slice B len' cap']] W fun e w' => e = .returned (.bool ((s == s') && (t == t') && (l == m))) ∧ Below W.heap.size W w' := by
  have HC := hid (fun w (hb : Below W.heap.size W w) => same06 A B len cap len' cap' l m w (hA.below hb) (hB.below hb) (by omega) (by omega))
  clear hA hB
  by_cases hs : s = s'
  · subst hs
    by_cases ht : t = t'
    · subst ht
      go_enter Try.func18, Try.ntmps18
      go_wp2_with fail
      refine (HC.out _ (below2 _ _ _)).mono ?_
      rintro e w' ⟨rfl, q, rfl⟩
      go_wp2
      go_ret
      refine ⟨by simp, below_drewN (below2 _ _ _) _⟩
    · have hne : (t == t') = false := by simpa using ht
      have HN := hid hne
      clear ht
      go_enter Try.func18, Try.ntmps18
      go_wp2
      go_ret
      refine ⟨?_, below2 _ _ _⟩
      rw [HN.out, Bool.and_false, Bool.false_and]; rfl
  · have hne : (s == s') = false := by simpa using hs
    have HN := hid hne
    clear hs
    go_enter Try.func18, Try.ntmps18
    go_wp2
    go_ret
    refine ⟨?_, below2 _ _ _⟩
    rw [HN.out, Bool.false_and, Bool.false_and]; rfl

theorem bsame_any (s t s' t' : Int) (A B : Option Addr) (len cap len' cap' : Nat) (l m : List Int) (W : World) (hA : Sl W 1 A len cap (icells .i64 l)) (hB : Sl W 1 B len' cap' (icells .i64 m)) (h6 : len ≤ 1000) (h7 : len' ≤ 1000) :
    Calls Try.prog 25 #[.agg #[.int .i64 s, .int .i64 t, .slice A len cap], .agg #[.int .i64 s', .int .i64 t', .slice B len' cap']] W fun e w' => e = .returned (.bool ((s == s') && (t == t') && (l == m))) ∧ Below W.heap.size W w' := by
  have HC := hid (fun w (hb : Below W.heap.size W w) => equal_int A B len cap len' cap' l m w (hA.below hb) (hB.below hb) (by omega) (by omega))
  clear hA hB
  by_cases hs : s = s'
  · subst hs
    by_cases ht : t = t'
    · subst ht
      go_enter Try.func25, Try.ntmps25
      go_wp2_with fail
      refine (HC.out _ (below2 _ _ _)).mono ?_
      rintro e w' ⟨rfl, q, rfl⟩
      go_wp2
      go_ret
      refine ⟨by simp, below_drewN (below2 _ _ _) _⟩
    · have hne : (t == t') = false := by simpa using ht
      have HN := hid hne
      clear ht
      go_enter Try.func25, Try.ntmps25
      go_wp2
      go_ret
      refine ⟨?_, below2 _ _ _⟩
      rw [HN.out, Bool.and_false, Bool.false_and]; rfl
  · have hne : (s == s') = false := by simpa using hs
    have HN := hid hne
    clear hs
    go_enter Try.func25, Try.ntmps25
    go_wp2
    go_ret
    refine ⟨?_, below2 _ _ _⟩
    rw [HN.out, Bool.false_and, Bool.false_and]; rfl
end Go.Proofs.Ytgeccjeehhhchaa
