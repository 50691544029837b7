/- R18.Bytes: contract. -/
import Derived.Test.YtejeffnolglhoaaScnG
namespace Go.Proofs.Ytejeffnolglhoaa
open Go.RowKit Go.Sort
set_option linter.unusedVariables false
set_option linter.unusedSimpArgs false

set_option maxRecDepth 20000 in
set_option maxHeartbeats 4000000 in
theorem r18bytes_any (A : Option Addr) (c : Nat) (els : List El) (W : World) (h : InR W A c els) (hn : els.length ≤ 100000) :
    Calls Try.prog 31 #[.slice A els.length c] W fun e w' => e = .returned (.string (str (recB (els.map (·.1))))) ∧ RowKit.Below W.heap.size W w' := by
  have HX := hid h
  clear h
  have hll : els.length ≤ 9223372036854775807 := by omega
  go_enter Try.func31, Try.ntmps31
  go_wp2
  go_loopw [3, 4] (fun v i wr => ∃ n : Nat, n ≤ els.length ∧ i = .int .i64 (n : Int) ∧ v = .string (str (recB ((els.take n).map (·.1)))) ∧ Hid (RowKit.Below W.heap.size W wr)) (fun _ i _ => els.length - (intOf i).toNat)
  case atStart => exact ⟨0, by omega, rfl, by simp [recB, str], Below.refl _ _⟩
  case round =>
    obtain ⟨n, hnl, rfl, rfl, HB⟩ := hrel
    by_cases hlt : n < els.length
    · have hlt2 : (n : Int) < (els.length : Int) := by omega
      have hsl := (HX.out.below HB.out).1
      obtain ⟨b, off, rfl, _⟩ := hsl.2.2.2 (by rw [ecells_length]; omega)
      obtain ⟨q0, q1, q2, q3, q4, q5, q6⟩ := Sl.el hsl n hlt
      have HSL := hid (fun w (hw : RowKit.Below W.heap.size W w) => Sl.el (HX.out.below hw).1 n hlt)
      have ht := HX.out.2 els[n] (List.getElem_mem hlt)
      have HTK : Hid (recB ((els.take (n + 1)).map (·.1)) = recB ((els.take n).map (·.1)) ++ fR els[n].1) := hid (by rw [List.take_succ_eq_append_getElem hlt, List.map_append, List.map_cons, List.map_nil, recB_snoc])
      have hcl := recB_len ((els.take n).map (·.1))
      rw [List.length_map, List.length_take, Nat.min_eq_left hnl] at hcl
      generalize els[n]'hlt = ee at *
      obtain ⟨x, Ae, ce⟩ := ee
      simp only at q0 q1 q2 q3 q4 q5 q6 ht HTK HSL
      have HC := hid (fun w (hw : RowKit.Below W.heap.size W w) => r17check_any x Ae ce w (ht.below hw))
      have HBX := hid (fun w (hw : RowKit.Below W.heap.size W w) => r17bytes_any x Ae ce w (ht.below hw))
      have hfl := fR_len x
      have HFR : Hid (fR x = if chkR x then frP (rb x) else []) := hid rfl
      have HRL := hid (rb_len x)
      clear hsl ht
      generalize recB ((els.take n).map (·.1)) = cur at *
      generalize chkR x = bx at *
      generalize rb x = L at *
      generalize fR x = fr at *
      obtain ⟨k, j, t, wk, s, ep, ns⟩ := x
      simp only [rcc] at HC HBX q0 q1 q2 q3 q4 q5 q6 HSL
      generalize ns.length = m at *
      go_wp2_with fail
      refine (HC.out _ HB.out).mono ?_
      rintro q u2 ⟨rfl, hb2⟩
      have HB2 := hid (HB.out.trans (hb2.mono HB.out.size))
      clear hb2 HB q0 q1 q2 q3 q4 q5 q6
      cases bx
      case false =>
        have hfr : fr = [] := by rw [HFR.out]; rfl
        subst hfr
        clear HFR HSL HBX HC HRL
        rw [List.append_nil] at HTK
        go_wp2
        go_roundw
        case rel => exact ⟨n + 1, by omega, by go_num, by rw [HTK.out], HB2.out⟩
        case measure => simp [intOf]; omega
      case true =>
        have hl2 := HRL.out rfl
        simp only [if_true] at HBX HFR
        obtain ⟨q0, q1, q2, q3, q4, q5, q6⟩ := HSL.out u2 HB2.out
        have HFP : Hid (∀ w, Calls Try.prog 46 #[.string (str L)] w fun e w' => e = .returned (.string (str (frP L))) ∧ RowKit.Below w.heap.size w w') := hid (fun w => rput_any (str L) w (by rw [str_size]; omega))
        rw [← HFR.out] at HFP
        clear HFR HRL HSL HC
        have z1 : (str cur).size + (str fr).size ≤ 9223372036854775807 := by rw [str_size, str_size]; omega
        generalize hsl9 : str L = sL at *
        clear hsl9
        go_wp2_with fail
        refine (HBX.out _ HB2.out).mono ?_
        rintro q u3 ⟨rfl, hb3⟩
        have HB3 := hid (HB2.out.trans (hb3.mono HB2.out.size))
        clear hb3 HB2 HBX q0 q1 q2 q3 q4 q5 q6
        go_wp2_with fail
        refine (HFP.out _).mono ?_
        rintro q u4 ⟨rfl, hb4⟩
        have HB4 := hid (HB3.out.trans (hb4.mono HB3.out.size))
        clear hb4 HB3 HFP
        go_wp2
        go_roundw
        case rel => exact ⟨n + 1, by omega, by go_num, by rw [HTK.out, str_app], HB4.out⟩
        case measure => simp [intOf]; omega
    · obtain rfl : n = els.length := by omega
      have hge : ¬ ((els.length : Nat) : Int) < ((els.length : Nat) : Int) := by omega
      have HT := hid (List.take_length (l := els))
      rw [HT.out]
      clear HT
      go_wp2
      go_ret
      exact ⟨rfl, HB.out⟩
end Go.Proofs.Ytejeffnolglhoaa
