/- LexWords: Same, the page's examples, the law. -/
import Derived.Test.YtnjfcdmnedmldaaLexF
import Derived.Test.YtnjfcdmnedmldaaGlyW
namespace Go.Proofs.Ytnjfcdmnedmldaa
open Go.RowKit
set_option linter.unusedVariables false
set_option linter.unusedSimpArgs false

theorem lexF_len (l : List UInt8) : ∀ (rs : List Rn) (ws : List Wd) (run : Bool) (k : Nat), (lexF l ws run k rs).1.length ≤ ws.length + rs.length
  | [], ws, run, k => Nat.le_refl _
  | r :: rs, ws, run, k => by
    rw [lexF]
    split
    · refine Nat.le_trans (lexF_len l rs _ _ _) ?_
      rw [addL_len, List.length_cons]
      split
      · omega
      · rw [List.length_append, List.length_singleton]; omega
    · split
      · refine Nat.le_trans (lexF_len l rs _ _ _) ?_
        rw [List.length_append, List.length_singleton, List.length_cons]; omega
      · split
        · refine Nat.le_trans (lexF_len l rs _ _ _) ?_
          rw [List.length_cons]; omega
        · simp
theorem Sl.word {w : World} {b off len cap : Nat} {l : List Wd} (h : Sl w 2 (some ⟨b, off, none⟩) len cap (wcells l)) (k : Nat) (hk : k < l.length) :
    w.cell? ⟨b, off + k * 2, none⟩ = some (.string (str l[k].1)) ∧ w.cell? ⟨b, off + k * 2 + 1, none⟩ = some (.int .i64 (l[k].2 : Nat)) := by
  have hl := wcells_length l
  obtain ⟨b', off', ha, hc⟩ := h.2.2.2 (by omega)
  cases ha
  obtain ⟨g1, g2⟩ := wcells_get l k hk
  exact ⟨by rw [hc _ (by omega), g1], by rw [Nat.add_assoc, hc _ (by omega), g2]⟩

set_option maxRecDepth 20000 in
set_option maxHeartbeats 4000000 in
theorem same_words (A B : Option Addr) (cap cap' : Nat) (l : List Wd) (W : World) (hA : Sl W 2 A l.length cap (wcells l)) (hB : Sl W 2 B l.length cap' (wcells l)) (hl : l.length ≤ 1000) :
    Calls Try.prog 29 #[.slice A l.length cap, .slice B l.length cap'] W fun e w' => e = .returned (.bool true) ∧ ∃ q, w' = W.drewN q := by
  have HA := hid hA
  have HB := hid hB
  clear hA hB
  go_enter Try.func29, Try.ntmps29
  go_wp2
  go_loopw [5] (fun i wr => ∃ k q : Nat, k ≤ l.length ∧ i = .int .i64 (k : Int) ∧ wr = W.drewN q) (fun i _ => l.length - (intOf i).toNat)
  case atStart => exact ⟨0, 0, by omega, rfl, rfl⟩
  case round =>
    obtain ⟨k, q, hk, rfl, rfl⟩ := hrel
    by_cases hlt : k < l.length
    · have hlt2 : (k : Int) < (l.length : Int) := by omega
      obtain ⟨b, off, hA⟩ := HA.out.addr3 (by rw [wcells_length]; omega)
      subst hA
      obtain ⟨b2, off2, hB⟩ := HB.out.addr3 (by rw [wcells_length]; omega)
      subst hB
      obtain ⟨c1, c2⟩ := HA.out.word k hlt
      obtain ⟨d1, d2⟩ := HB.out.word k hlt
      generalize l[k] = x at *
      obtain ⟨x1, x2⟩ := x
      simp only at c1 c2 d1 d2
      generalize str x1 = s at *
      have e1 : (s.toList == s.toList) = true := by simp
      have e2 : (s.toList != s.toList) = false := by simp
      have e3 : ((x2 : Int) != (x2 : Int)) = false := by simp
      go_wp2
      go_quiet (fail)
      go_wp2
      go_roundw
      case rel => exact ⟨k + 1, q + nq, by omega, by go_num, rfl⟩
      case measure => simp [intOf]; omega
    · obtain rfl : k = l.length := by omega
      have hge : ¬ ((l.length : Nat) : Int) < ((l.length : Nat) : Int) := by omega
      clear hlt hk
      go_wp2
      go_ret
      exact ⟨rfl, q, rfl⟩

theorem ex_w1 : lexW [103, 112, 117, 38, 33, 98, 50] = ([([103, 112, 117], 0), ([38], 3), ([33], 4), ([98, 50], 5)], 0, 0) := by kernel_rfl
theorem ex_w2 : lexW [97, 43] = ([], 1, 3) := by kernel_rfl
theorem s_w1 : str [103, 112, 117, 38, 33, 98, 50] = ⟨#[103, 112, 117, 38, 33, 98, 50]⟩ := rfl
theorem s_w2 : str [97, 43] = ⟨#[97, 43]⟩ := rfl
theorem wd_1 (W : World) : Calls Try.prog 27 #[.string ⟨#[103, 112, 117, 38, 33, 98, 50]⟩] W fun e w' => ∃ g c, e = .returned (.tuple #[.slice (some ⟨g, 0, none⟩) 4 c, .int .i64 0, .int .i64 0]) ∧ w'.cell? ⟨g, 6, none⟩ = some (.string ⟨#[98, 50]⟩) ∧ w'.cell? ⟨g, 7, none⟩ = some (.int .i64 5) ∧ Below W.heap.size W w' := by
  have h := words_is [103, 112, 117, 38, 33, 98, 50] (by simp) W
  rw [ex_w1, s_w1] at h
  refine h.mono ?_
  rintro e w' ⟨A, c, rfl, ho, hb⟩
  obtain ⟨g, cap, hv, hgb, hnc, hcm, hcl, hst, hglt⟩ := own_open ho (by simp) (by omega)
  cases hv
  exact ⟨g, c, rfl, (hcl 6 (by rw [wcells_length]; simp)).1, (hcl 7 (by rw [wcells_length]; simp)).1, hb⟩
theorem wd_2 (W : World) : Calls Try.prog 27 #[.string ⟨#[97, 43]⟩] W fun e w' => ∃ A c, e = .returned (.tuple #[.slice A 0 c, .int .i64 1, .int .i64 3]) ∧ Below W.heap.size W w' := by
  have h := words_is [97, 43] (by simp) W
  rw [ex_w2, s_w2] at h
  refine h.mono ?_
  rintro e w' ⟨A, c, rfl, ho, hb⟩
  exact ⟨A, c, rfl, hb⟩

set_option maxRecDepth 20000 in
set_option maxHeartbeats 2000000 in
theorem works08_any (W : World) : Calls Try.prog 26 #[] W fun e w' => e = .returned (.bool true) ∧ Below W.heap.size W w' := by
  go_enter Try.func26, Try.ntmps26
  go_upto_region 1 with (fail)
  go_wp2_with fail
  with_reducible refine (wd_1 _).mono ?_
  rintro e w1 ⟨g, c, rfl, c6, c7, hb1⟩
  go_wp2_with fail
  with_reducible refine (wd_2 _).mono ?_
  rintro e w2 ⟨A2, c2, rfl, hb2⟩
  have d6 := cellb hb2 c6
  have d7 := cellb hb2 c7
  clear c6 c7
  have e9 : ((⟨#[98, 50]⟩ : ByteArray).toList == (⟨#[98, 50]⟩ : ByteArray).toList) = true := by simp
  go_wp2
  go_ret
  exact ⟨rfl, hb1.trans (hb2.mono hb1.size)⟩

set_option maxRecDepth 20000 in
set_option maxHeartbeats 2000000 in
theorem lexWords_law (s : ByteArray) (W : World) :
    Calls Try.prog 5 #[.string s] W fun e w' => e = .returned (.bool true) ∧ Below W.heap.size W w' := by
  have HW := hid works08_any
  obtain ⟨l, rfl⟩ : ∃ l, s = str l := ⟨s.data.toList, by simp [str]⟩
  have HSZ := hid (str_size l)
  by_cases hl : l.length ≤ 1000
  · have hl2 : ((str l).size : Int) ≤ 1000 := by rw [HSZ.out]; omega
    have HN := hid (fun W => words_is l hl W)
    have HM := hid (fun W => rwords_is l hl W)
    have hk : (lexW l).1.length ≤ 1000 := by
      unfold lexW
      split
      · simp
      · have h1 := lexF_len l (rns l 0) [] false 0
        have h2 := rns_le l 0
        simp only [List.length_nil] at h1
        omega
    generalize lexW l = F at *
    obtain ⟨ws, at', er⟩ := F
    simp only at hk
    have q1 : ((at' : Int) == (at' : Int)) = true := by simp
    have q2 : ((er : Int) == (er : Int)) = true := by simp
    clear hl
    go_enter Try.func5, Try.ntmps5
    go_wp2_with fail
    refine (HN.out _).mono ?_
    rintro e w1 ⟨A1, c1, rfl, ho1, hb1⟩
    obtain ⟨A1', c1', h1, hs1⟩ := Sl.of_own ho1
    cases h1
    have HS1 := hid hs1
    have HB1 := hid hb1
    clear hs1 hb1 ho1 HN
    go_wp2_with fail
    refine (HM.out _).mono ?_
    rintro e w2 ⟨A2, c2, rfl, ho2, hb2⟩
    obtain ⟨A2', c2', h2, hs2⟩ := Sl.of_own ho2
    cases h2
    have HSM := hid (same_words A1 A2 c1 c2 ws w2 (HS1.out.below hb2) hs2 hk)
    have HB2 := hid (HB1.out.trans (hb2.mono HB1.out.size))
    clear hs2 hb2 ho2 HM HS1
    go_wp2_with fail
    refine HSM.out.mono ?_
    rintro e w3 ⟨rfl, q, rfl⟩
    go_wp2_with (go_at_call 26; refine (HW.out _).mono ?_; rintro e w7 ⟨rfl, hb7⟩)
    go_ret
    have g3 := HB2.out.trans ((below_drewN1 w2 q).mono HB2.out.size)
    exact ⟨rfl, g3.trans (hb7.mono g3.size)⟩
  · have hl2 : 1000 < ((str l).size : Int) := by rw [HSZ.out]; omega
    clear hl
    go_enter Try.func5, Try.ntmps5
    go_wp2_with (go_at_call 26; refine (HW.out _).mono ?_; rintro e w7 ⟨rfl, hb7⟩)
    go_ret
    exact ⟨rfl, hb7⟩
end Go.Proofs.Ytnjfcdmnedmldaa
