/- The document's runes: contract. -/
import Derived.Test.YtjkaenjegcojhaaDoorGlyE
import Derived.Test.YtjkaenjegcojhaaDoorGlyN
import Derived.Laws.Slices
namespace Go.Proofs.YtjkaenjegcojhaaDoor
open Go.RowKit
set_option linter.unusedVariables false
set_option linter.unusedSimpArgs false

theorem str_drop2 (l : List UInt8) (u : Nat) (h : u ≤ l.length) : (str l).extract u l.length = str (l.drop u) := by
  apply ByteArray.ext
  simp [str, ByteArray.data_extract, List.take_of_length_le]
theorem sl_str (l : List UInt8) (k : Nat) (hk : k ≤ l.length) (w : World) : (Instr.slice 9 (.string (str l)) (some (.int .i64 (k : Int))) none none).run Tryd.prog w = .ok (.string (str (l.drop k))) w := by
  rw [run_slice_string_l w 9 (str l) Tryd.underlying9 .i64 (k : Int) (by omega) (by rw [str_size]; omega), Int.toNat_natCast, str_size, str_drop2 l k hk]
theorem info_rune : (Tryd.prog.info? 36).map (fun i => (i.zero, i.size, i.bytes)) = some (some (.agg #[.int .i64 0, .int .i64 0, .bool false]), 3, 24) := by kernel_rfl
theorem below_drewN1 (W : World) (q : Nat) : Below W.heap.size W (W.drewN q) := ⟨rfl, rfl, rfl, Nat.le_refl _, fun _ _ => rfl⟩

set_option maxRecDepth 20000 in
set_option maxHeartbeats 8000000 in
theorem rrunes_is (l : List UInt8) (hl : l.length ≤ 1000) (W : World) : Calls Tryd.prog 16 #[.string (str l)] W fun e w' => ∃ A c, e = .returned (.slice A (rns l 0).length c) ∧ w'.ownsRow W.heap.size 36 3 (.slice A (rns l 0).length c) (rns l 0).length (rcells (rns l 0)) ∧ Below W.heap.size W w' := by
  have hls : ((str l).size : Int) ≤ 1000 := by rw [str_size]; omega
  have HSZ := hid (str_size l)
  go_enter Tryd.func16, Tryd.ntmps16
  go_wp2_with fail
  go_loopw [3, 4] (fun v i wr => ∃ (k : Nat) (rs : List Rn), k ≤ l.length ∧ i = .int .i64 (k : Int) ∧ Hid (rs ++ rns l k = rns l 0) ∧ rs.length ≤ k ∧ Hid (wr.ownsRow W.heap.size 36 3 v rs.length (rcells rs)) ∧ Hid (Below W.heap.size W wr)) (fun _ i _ => l.length - (intOf i).toNat)
  case atStart => exact ⟨0, [], by omega, rfl, rfl, Nat.le_refl _, World.ownsRow_nil _ _ _ _, Below.refl _ _⟩
  case round =>
    obtain ⟨k, rs, hk, rfl, HR, hrk, HO, HB⟩ := hrel
    by_cases hlt : k < l.length
    · have hlt2 : (k : Int) < ((str l).size : Int) := by rw [HSZ.out]; omega
      have hsl := sl_str l k (by omega)
      have HF := hid (rfirst_is (l.drop k) (by rw [List.length_drop]; omega) (by rw [List.length_drop]; omega))
      have HZ := hid (rsize_is (l.drop k) (by rw [List.length_drop]; omega) (by rw [List.length_drop]; omega))
      have HST := hid (rns_step l k hlt)
      have hmm : 1 ≤ max (szN (l.drop k)) 1 := szN_1 _
      have hmx : k + max (szN (l.drop k)) 1 ≤ l.length := by
        have := (szN_le (l.drop k) (by rw [List.length_drop]; omega)).1
        rw [List.length_drop] at this
        omega
      generalize max (szN (l.drop k)) 1 = mm at *
      have HCZ := hid (codeN_0 (l.drop k))
      generalize codeN (l.drop k) (szN (l.drop k)) = cc at *
      generalize szN (l.drop k) = ss at *
      have hk9 : (k : Int) + (mm : Int) ≤ 1000 := by omega
      rcases (by omega : ss = 0 ∨ 0 < ss) with hs | hs
      case' inl =>
        have e1 : decide ((0 : Int) < (ss : Int)) = false := decide_eq_false (by omega)
        have HBB := hid (show decide (0 < ss) = false from decide_eq_false (by omega))
        rw [HBB.out] at HST
      case' inr =>
        have e1 : decide ((0 : Int) < (ss : Int)) = true := decide_eq_true (by omega)
        have HBB := hid (show decide (0 < ss) = true from decide_eq_true hs)
        rw [HBB.out] at HST
      all_goals
        clear hlt hs
        go_upto_region 5 with (go_at_call 32; refine (HF.out _).mono ?_; rintro e w' ⟨rfl, q, rfl⟩)
        refine at_world (fun w => w.ownsRow W.heap.size 36 3 u3 rs.length (rcells rs) ∧ Below W.heap.size W w) ⟨own_keep HO.out (below_drewN1 wr _), HB.out.trans ((below_drewN1 wr _).mono HB.out.size)⟩ ?_
        rintro w2 ⟨ho2, hb2⟩
        have HO2 := hid ho2
        have HB2 := hid hb2
        clear ho2 hb2 HO HB HF HCZ
        have hrk2 : rs.length + 1 ≤ k + mm := by omega
        have hr1 : rs.length + 1 ≤ 1001 := by omega
        go_wp2_with (first
          | (go_at_call 33; refine (HZ.out _).mono ?_; rintro e w' ⟨rfl, rfl⟩)
          | (at_builtin; refine wpList_append_1 (W := W) rfl (.tmp 18) (.tmp 27) 30 rfl W.heap.size 36 Tryd.underlying30 info_rune rfl (by omega) rfl HO2.out rfl rfl (by simp; first | exact ⟨rfl, rfl, rfl⟩ | rfl) ?c1 ?c2 HB2.out.size HB2.out ?_))
        case c1 => unfold maxLen; omega
        case c2 => omega
        intro v' w' h2 h3 h4
        have HO3 := hid h2
        clear h2
        go_wp2
        go_roundw
        case rel => exact ⟨k + mm, rs ++ [(k, cc, decide (0 < ss))], by omega, by go_num, by rw [Hid, List.append_assoc, HBB.out, ← HR.out, HST.out]; rfl, by rw [List.length_append]; exact hrk2, by rw [Hid, List.length_append, rcells_append]; exact HO3.out, h3⟩
        case measure => simp [intOf]; omega
    · obtain rfl : k = l.length := by omega
      have hge : ((str l).size : Int) ≤ ((l.length : Nat) : Int) := by rw [HSZ.out]; omega
      have HE := hid (rns_end l l.length (Nat.le_refl _))
      go_wp2
      go_ret
      have hr := HR.out
      rw [HE.out, List.append_nil] at hr
      have hO := HO.out
      rw [hr] at hO
      obtain ⟨A9, c9, rfl, _⟩ := Sl.of_own hO
      exact ⟨A9, c9, rfl, hO, HB.out⟩
end Go.Proofs.YtjkaenjegcojhaaDoor
