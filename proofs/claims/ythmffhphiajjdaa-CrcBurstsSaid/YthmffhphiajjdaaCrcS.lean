/- The laws CrcJoins and CrcSeals, as walks. -/
import Derived.Test.YthmffhphiajjdaaCrcL
namespace Go.Proofs.Ythmffhphiajjdaa
open Go.RowKit Go.Sort

theorem own_empty (w : World) (e size : Nat) : (w.alloc (.cells #[] e)).ownsRow w.heap.size e size (.slice (some ⟨w.heap.size, 0, none⟩) 0 0) 0 [] :=
  World.ownsRow_lit w #[] 0 (Nat.le_refl _) (Nat.zero_le _) (by simp)

set_option maxHeartbeats 400000 in
theorem crcJoins_any (a0 a1 : Option Addr) (len0 cap0 len1 cap1 : Nat) (l0 l1 : List UInt8) (w : World) (h0 : IsBytes w a0 len0 cap0 l0) (h1 : IsBytes w a1 len1 cap1 l1) :
    Calls Try.prog 8 #[.slice a0 len0 cap0, .slice a1 len1 cap1] w fun e w' => e = .returned (.bool true) ∧ Below w.heap.size w w' := by
  obtain ⟨rfl, _, hm0⟩ := h0.len
  obtain ⟨rfl, _, hm1⟩ := h1.len
  by_cases g0 : l0.length ≤ 1000
  · by_cases g1 : l1.length ≤ 1000
    · have HA := hid h0
      have HB := hid h1
      have z0 : (l0.length : Int) ≤ 1000 := by omega
      have z1 : (l1.length : Int) ≤ 1000 := by omega
      have HE := hid (own_empty w 5 1)
      clear h0 h1 hm0 hm1
      go_enter Try.func8, Try.ntmps8
      go_wp2_with fail
      refine (of_any a0 l0.length cap0 l0 _ HA.out).mono ?_
      rintro e w' ⟨rfl, rfl⟩
      go_wp2_with fail
      refine (more_any (moreN 0 l0) a1 l1.length cap1 l1 _ (moreN_lt _ _) HB.out).mono ?_
      rintro e w' ⟨rfl, rfl⟩
      rw [moreN_append 0 l0 l1 (by omega)]
      go_wp2_with (at_builtin; refine wpList_append_sl (W := w) rfl (.tmp 18) (.tmp 19) 22 rfl w.heap.size 5 Try.underlying22 Try.info5 rfl (by omega) rfl HE.out rfl (HA.out.below ((Below.refl _ _).alloc (Nat.le_refl _) _)) (bcells_one _) (by unfold maxLen; omega) (by omega) (by simp) ((Below.refl _ _).alloc (Nat.le_refl _) _) ?_)
      intro v1 w1 ho1 hb1 _
      have HO1 := hid ho1; clear ho1
      have hs1 := hb1.size
      go_wp2_with (at_builtin; refine wpList_append_sl (W := w) rfl (.tmp 20) (.tmp 21) 22 rfl w.heap.size 5 Try.underlying22 Try.info5 rfl (by omega) rfl HO1.out rfl (HB.out.below hb1) (bcells_one _) (by unfold maxLen; omega) (by omega) hs1 hb1 ?_)
      intro v2 w2 ho2 hb2 _
      obtain ⟨a2, c2, rfl, hs2⟩ := Sl.of_own ho2
      have HI := hid (show IsBytes w2 a2 (0 + l0.length + l1.length) c2 (l0 ++ l1) by rw [IsBytes, bcells_append]; simpa using hs2)
      clear ho2 hs2
      go_wp2_with fail
      rw [Nat.zero_add] at HI
      refine (of_any a2 _ c2 (l0 ++ l1) _ HI.out).mono ?_
      rintro e w' ⟨rfl, rfl⟩
      go_wp2_with (go_at_call 30; refine (works2_any _).mono ?_; rintro e w' ⟨rfl, hb3⟩)
      go_ret
      exact ⟨rfl, hb2.trans (hb3.mono hb2.size)⟩
    · have z0 : (l0.length : Int) ≤ 1000 := by omega
      have z1 : (1000 : Int) < l1.length := by omega
      go_enter Try.func8, Try.ntmps8
      go_wp2_with (go_at_call 30; refine (works2_any _).mono ?_; rintro e w' ⟨rfl, hb⟩)
      go_ret
      exact ⟨rfl, hb⟩
  · have z0 : (1000 : Int) < l0.length := by omega
    go_enter Try.func8, Try.ntmps8
    go_wp2_with (go_at_call 30; refine (works2_any _).mono ?_; rintro e w' ⟨rfl, hb⟩)
    go_ret
    exact ⟨rfl, hb⟩

theorem rseal_b (s : ByteArray) (l : List UInt8) (w : World) (hs : s.size ≤ 140737488351232) (hl : s.data.toList = l) : ∀ W, Below w.heap.size w W →
    Calls Try.prog 36 #[.string s] W fun e w' => e = .returned (.string ⟨(sealL l).toArray⟩) ∧ Below W.heap.size W w' := fun W _ => by subst hl; exact rseal_any s W hs

theorem take_seal (l : List UInt8) : (sealL l).take l.length = l := by simp [sealL]
theorem drop_seal (l : List UInt8) : (sealL l).drop l.length = fourL (moreN 0 ((sealL l).take l.length)) := by rw [take_seal]; simp [sealL]
theorem seal_length (l : List UInt8) : (sealL l).length = l.length + 4 := by simp [sealL, fourL]

set_option maxHeartbeats 1000000 in
theorem crcSeals_1 (a0 : Option Addr) (len0 cap0 : Nat) (l0 : List UInt8) (w : World) (h0 : IsBytes w a0 len0 cap0 l0) (g0 : l0.length ≤ 1000) (g1 : l0.length < 4) :
    Calls Try.prog 7 #[.slice a0 len0 cap0] w fun e w' => e = .returned (.bool true) ∧ Below w.heap.size w w' := by
  obtain ⟨rfl, _, _⟩ := h0.len
  have HA := hid h0
  clear h0
  have z0 : (l0.length : Int) ≤ 1000 := by omega
  have z1 : (l0.length : Int) - 4 < 0 := by omega
  have d1 : decide (4 ≤ (l0.length : Int)) = false := by simp; omega
  have d2 : decide (4 ≤ l0.length) = false := by simp; omega
  have d3 : decide (0 ≤ (l0.length : Int) - 4) = false := by simp; omega
  go_enter Try.func7, Try.ntmps7
  go_wp2_with fail
  refine (seal_any a0 _ cap0 l0 _ HA.out (by omega)).mono ?_
  rintro e w1 ⟨v1, rfl, ho1, hb1⟩
  obtain ⟨a1, c1, rfl, hs1⟩ := Sl.of_own ho1
  have HS := hid (show IsBytes w1 a1 (l0.length + 4) c1 (sealL l0) from hs1)
  clear ho1 hs1
  go_wp2_with fail
  refine (open_good a1 _ c1 (sealL l0) l0.length _ HS.out (by rw [seal_length]; omega) (seal_length _) (drop_seal _)).mono ?_
  rintro e w2 ⟨v2, rfl, ho2, hb2⟩
  rw [take_seal] at ho2
  obtain ⟨a2, c2, rfl, hs2⟩ := Sl.of_own ho2
  have hb12 := hb1.trans (hb2.mono hb1.size)
  go_wp2_with fail
  refine (open_bad a0 _ cap0 l0 _ (HA.out.below hb12) (by omega) (fun n hn => by omega)).mono ?_
  rintro e w3 ⟨rfl, hb3⟩
  have hb13 := hb12.trans (hb3.mono hb12.size)
  have s1 := str_b (HS.out.below (hb2.trans (hb3.mono hb2.size)))
  have s2 := str_b (show IsBytes w3 a2 l0.length c2 l0 from Sl.below hs2 hb3)
  have s0 := str_b (HA.out.below hb13)
  have c1 := reg (rseal_b ⟨l0.toArray⟩ l0 w3 (by rw [bsize]; omega) rfl)
  clear ho2 hs2
  go_wp2_with fail
  refine wp_region_quiet_below (by kernel_rfl) (by kernel_rfl) ?_
  repeat (go_big_quiet_step (first | (go_at_call 36; with_reducible exact c1 _ _)))
  refine wpQuiet_nil ?_
  intro _ hw'
  obtain ⟨⟨dq, osq⟩, hw''⟩ := hw'
  subst hw''
  have hb4 := below_regrown w3 dq osq
  clear s0 s1 s2 c1
  generalize grow (redrawn w3 dq) osq = w4 at hb4 ⊢
  have hb14 := hb13.trans (hb4.mono hb13.size)
  have s0 := str_b (HA.out.below hb14)
  have c1 := reg (works_b w4)
  have c2 := True.intro
  go_wp2_with fail
  refine wp_region_quiet_below (by kernel_rfl) (by kernel_rfl) ?_
  repeat (go_big_quiet_step (first | (go_at_call 36; with_reducible exact c2 _ _)))
  refine wpQuiet_nil ?_
  intro _ hw'
  obtain ⟨⟨dq, osq⟩, hw''⟩ := hw'
  subst hw''
  have hb5 := below_regrown w4 dq osq
  clear s0 c1
  generalize grow (redrawn w4 dq) osq = w5 at hb5 ⊢
  have hb15 := hb14.trans (hb5.mono hb14.size)
  have c1 := reg (works_b w5)
  go_wp2_with fail
  refine wp_region_quiet_below (by kernel_rfl) (by kernel_rfl) ?_
  repeat (go_big_quiet_step (first | (go_at_call 30; with_reducible exact c1 _ _)))
  refine wpQuiet_nil ?_
  intro _ hw'
  obtain ⟨⟨dq, osq⟩, hw''⟩ := hw'
  subst hw''
  go_wp2
  go_ret
  exact ⟨rfl, hb15.trans ((below_regrown w5 dq osq).mono hb15.size)⟩

set_option maxHeartbeats 1000000 in
theorem crcSeals_2 (a0 : Option Addr) (len0 cap0 : Nat) (l0 : List UInt8) (w : World) (h0 : IsBytes w a0 len0 cap0 l0) (g0 : l0.length ≤ 1000) (m : Nat) (hm : l0.length = m + 4) (hd : l0.drop m = fourL (moreN 0 (l0.take m))) :
    Calls Try.prog 7 #[.slice a0 len0 cap0] w fun e w' => e = .returned (.bool true) ∧ Below w.heap.size w w' := by
  obtain ⟨rfl, hc0, hc1⟩ := h0.len
  have HA := hid h0
  clear h0
  have z0 : (l0.length : Int) ≤ 1000 := by omega
  have hm4 : (l0.length : Int) - 4 = (m : Int) := by omega
  have HD := hid hd
  have HM := hid hm
  have hmc : m ≤ cap0 := by omega
  have HT := hid (HA.out.take m (by omega))
  clear hd hm
  go_enter Try.func7, Try.ntmps7
  go_wp2_with fail
  refine (seal_any a0 _ cap0 l0 _ HA.out (by omega)).mono ?_
  rintro e w1 ⟨v1, rfl, ho1, hb1⟩
  obtain ⟨a1, c1, rfl, hs1⟩ := Sl.of_own ho1
  have HS := hid (show IsBytes w1 a1 (l0.length + 4) c1 (sealL l0) from hs1)
  clear ho1 hs1
  go_wp2_with fail
  refine (open_good a1 _ c1 (sealL l0) l0.length _ HS.out (by rw [seal_length]; omega) (seal_length _) (drop_seal _)).mono ?_
  rintro e w2 ⟨v2, rfl, ho2, hb2⟩
  rw [take_seal] at ho2
  obtain ⟨a2, c2, rfl, hs2⟩ := Sl.of_own ho2
  have hb12 := hb1.trans (hb2.mono hb1.size)
  go_wp2_with fail
  refine (open_good a0 _ cap0 l0 m _ (HA.out.below hb12) (by omega) HM.out HD.out).mono ?_
  rintro e w3 ⟨v3, rfl, ho3, hb3⟩
  obtain ⟨a3, c3, rfl, hs3⟩ := Sl.of_own ho3
  clear ho3
  have hb13 := hb12.trans (hb3.mono hb12.size)
  have s1 := str_b (HS.out.below (hb2.trans (hb3.mono hb2.size)))
  have s2 := str_b (show IsBytes w3 a2 l0.length c2 l0 from Sl.below hs2 hb3)
  have s0 := str_b (HA.out.below hb13)
  have c1 := reg (rseal_b ⟨l0.toArray⟩ l0 w3 (by rw [bsize]; omega) rfl)
  clear ho2 hs2
  go_wp2_with fail
  refine wp_region_quiet_below (by kernel_rfl) (by kernel_rfl) ?_
  repeat (go_big_quiet_step (first | (go_at_call 36; with_reducible exact c1 _ _)))
  refine wpQuiet_nil ?_
  intro _ hw'
  obtain ⟨⟨dq, osq⟩, hw''⟩ := hw'
  subst hw''
  have hb4 := below_regrown w3 dq osq
  clear s0 s1 s2 c1
  generalize grow (redrawn w3 dq) osq = w4 at hb4 ⊢
  have hb14 := hb13.trans (hb4.mono hb13.size)
  have s0 := str_b (HA.out.below hb14)
  have c1 := reg (works_b w4)
  have s3 := str_b (HT.out.below hb14)
  have c2 := reg (rseal_b ⟨(l0.take m).toArray⟩ (l0.take m) w4 (by rw [bsize]; have := HM.out; simp; omega) rfl)
  rw [show sealL (l0.take m) = l0 by rw [sealL, ← HD.out, List.take_append_drop]] at c2
  go_wp2_with fail
  refine wp_region_quiet_below (by kernel_rfl) (by kernel_rfl) ?_
  repeat (go_big_quiet_step (first | (go_at_call 36; with_reducible exact c2 _ _)))
  refine wpQuiet_nil ?_
  intro _ hw'
  obtain ⟨⟨dq, osq⟩, hw''⟩ := hw'
  subst hw''
  have hb5 := below_regrown w4 dq osq
  clear s0 c1 s3 c2
  generalize grow (redrawn w4 dq) osq = w5 at hb5 ⊢
  have hb15 := hb14.trans (hb5.mono hb14.size)
  have c1 := reg (works_b w5)
  have s3 := str_b (HT.out.below hb15)
  have s4 := str_b (show IsBytes w5 a3 m c3 (l0.take m) from Sl.below (Sl.below hs3 hb4) hb5)
  go_wp2_with fail
  refine wp_region_quiet_below (by kernel_rfl) (by kernel_rfl) ?_
  repeat (go_big_quiet_step (first | (go_at_call 30; with_reducible exact c1 _ _)))
  refine wpQuiet_nil ?_
  intro _ hw'
  obtain ⟨⟨dq, osq⟩, hw''⟩ := hw'
  subst hw''
  go_wp2
  go_ret
  exact ⟨rfl, hb15.trans ((below_regrown w5 dq osq).mono hb15.size)⟩

set_option maxHeartbeats 1000000 in
theorem crcSeals_3 (a0 : Option Addr) (len0 cap0 : Nat) (l0 : List UInt8) (w : World) (h0 : IsBytes w a0 len0 cap0 l0) (g0 : l0.length ≤ 1000) (m : Nat) (hm : l0.length = m + 4) (hd : l0.drop m ≠ fourL (moreN 0 (l0.take m))) :
    Calls Try.prog 7 #[.slice a0 len0 cap0] w fun e w' => e = .returned (.bool true) ∧ Below w.heap.size w w' := by
  obtain ⟨rfl, hc0, hc1⟩ := h0.len
  have HA := hid h0
  clear h0
  have z0 : (l0.length : Int) ≤ 1000 := by omega
  have hm4 : (l0.length : Int) - 4 = (m : Int) := by omega
  have HD := hid hd
  have HM := hid hm
  have hmc : m ≤ cap0 := by omega
  have HT := hid (HA.out.take m (by omega))
  clear hd hm
  go_enter Try.func7, Try.ntmps7
  go_wp2_with fail
  refine (seal_any a0 _ cap0 l0 _ HA.out (by omega)).mono ?_
  rintro e w1 ⟨v1, rfl, ho1, hb1⟩
  obtain ⟨a1, c1, rfl, hs1⟩ := Sl.of_own ho1
  have HS := hid (show IsBytes w1 a1 (l0.length + 4) c1 (sealL l0) from hs1)
  clear ho1 hs1
  go_wp2_with fail
  refine (open_good a1 _ c1 (sealL l0) l0.length _ HS.out (by rw [seal_length]; omega) (seal_length _) (drop_seal _)).mono ?_
  rintro e w2 ⟨v2, rfl, ho2, hb2⟩
  rw [take_seal] at ho2
  obtain ⟨a2, c2, rfl, hs2⟩ := Sl.of_own ho2
  have hb12 := hb1.trans (hb2.mono hb1.size)
  go_wp2_with fail
  refine (open_bad a0 _ cap0 l0 _ (HA.out.below hb12) (by omega) (fun n hn => (show n = m by have := HM.out; omega) ▸ HD.out)).mono ?_
  rintro e w3 ⟨rfl, hb3⟩
  have hb13 := hb12.trans (hb3.mono hb12.size)
  have s1 := str_b (HS.out.below (hb2.trans (hb3.mono hb2.size)))
  have s2 := str_b (show IsBytes w3 a2 l0.length c2 l0 from Sl.below hs2 hb3)
  have s0 := str_b (HA.out.below hb13)
  have c1 := reg (rseal_b ⟨l0.toArray⟩ l0 w3 (by rw [bsize]; omega) rfl)
  clear ho2 hs2
  go_wp2_with fail
  refine wp_region_quiet_below (by kernel_rfl) (by kernel_rfl) ?_
  repeat (go_big_quiet_step (first | (go_at_call 36; with_reducible exact c1 _ _)))
  refine wpQuiet_nil ?_
  intro _ hw'
  obtain ⟨⟨dq, osq⟩, hw''⟩ := hw'
  subst hw''
  have hb4 := below_regrown w3 dq osq
  clear s0 s1 s2 c1
  generalize grow (redrawn w3 dq) osq = w4 at hb4 ⊢
  have hb14 := hb13.trans (hb4.mono hb13.size)
  have s0 := str_b (HA.out.below hb14)
  have c1 := reg (works_b w4)
  have s3 := str_b (HT.out.below hb14)
  have c2 := reg (rseal_b ⟨(l0.take m).toArray⟩ (l0.take m) w4 (by rw [bsize]; have := HM.out; simp; omega) rfl)
  have hne : sealL (l0.take m) ≠ l0 := by
    intro h
    have h2 := congrArg (List.drop m) h
    rw [sealL, List.drop_append_of_le_length (by have := HM.out; simp; omega), List.drop_of_length_le (by have := HM.out; simp; omega), List.nil_append] at h2
    exact HD.out h2.symm
  have hnb : (sealL (l0.take m) == l0) = false := by simpa using hne
  clear hne
  go_wp2_with fail
  refine wp_region_quiet_below (by kernel_rfl) (by kernel_rfl) ?_
  repeat (go_big_quiet_step (first | (go_at_call 36; with_reducible exact c2 _ _)))
  refine wpQuiet_nil ?_
  intro _ hw'
  obtain ⟨⟨dq, osq⟩, hw''⟩ := hw'
  subst hw''
  have hb5 := below_regrown w4 dq osq
  clear s0 c1 s3 c2
  generalize grow (redrawn w4 dq) osq = w5 at hb5 ⊢
  have hb15 := hb14.trans (hb5.mono hb14.size)
  have c1 := reg (works_b w5)
  go_wp2_with fail
  refine wp_region_quiet_below (by kernel_rfl) (by kernel_rfl) ?_
  repeat (go_big_quiet_step (first | (go_at_call 30; with_reducible exact c1 _ _)))
  refine wpQuiet_nil ?_
  intro _ hw'
  obtain ⟨⟨dq, osq⟩, hw''⟩ := hw'
  subst hw''
  go_wp2
  go_ret
  exact ⟨rfl, hb15.trans ((below_regrown w5 dq osq).mono hb15.size)⟩

theorem crcSeals_any (a0 : Option Addr) (len0 cap0 : Nat) (l0 : List UInt8) (w : World) (h0 : IsBytes w a0 len0 cap0 l0) :
    Calls Try.prog 7 #[.slice a0 len0 cap0] w fun e w' => e = .returned (.bool true) ∧ Below w.heap.size w w' := by
  by_cases g0 : l0.length ≤ 1000
  · by_cases g1 : l0.length < 4
    · exact crcSeals_1 a0 len0 cap0 l0 w h0 g0 g1
    · obtain ⟨m, hm⟩ : ∃ m, l0.length = m + 4 := ⟨l0.length - 4, by omega⟩
      by_cases hd : l0.drop m = fourL (moreN 0 (l0.take m))
      · exact crcSeals_2 a0 len0 cap0 l0 w h0 g0 m hm hd
      · exact crcSeals_3 a0 len0 cap0 l0 w h0 g0 m hm hd
  · obtain ⟨rfl, _, _⟩ := h0.len
    have z0 : (1000 : Int) < l0.length := by omega
    go_enter Try.func7, Try.ntmps7
    go_wp2_with (go_at_call 30; refine (works2_any _).mono ?_; rintro e w' ⟨rfl, hb⟩)
    go_ret
    exact ⟨rfl, hb⟩
end Go.Proofs.Ythmffhphiajjdaa
