/- ReadBlanks: the law. -/
import Derived.Test.YtjhehncpfcgnhaaQReaV
import Derived.Test.YtjhehncpfcgnhaaReP
namespace Go.Proofs.Ytjhehncpfcgnhaa
open Go.RowKit
set_option linter.unusedVariables false
set_option linter.unusedSimpArgs false

theorem ndT_c {T l} (h : (ndT T l).2.2 ≠ 0) : (ndT T l).1 = [] := by
  unfold ndT at h ⊢
  split
  · rename_i he
    rw [if_pos he] at h
    cases hr : rdTop T (rns l 0).length (lexW l).1 with
    | er k c => rfl
    | ok r o =>
      rw [hr] at h
      simp only at h ⊢
      split
      · rename_i hz
        rw [if_pos hz] at h
        exact absurd rfl h
      · rfl
  · rfl
theorem ndT_zero {T l} (h : (ndT T l).2.2 = 0) : (lexW l).2.2 = 0 ∧ chkN (ndT T l).1 = 0 ∧ ∃ r, rdTop T (rns l 0).length (lexW l).1 = .ok r (ndT T l).1 := by
  unfold ndT at h ⊢
  split at h
  · rename_i he
    rw [if_pos he]
    cases hr : rdTop T (rns l 0).length (lexW l).1 with
    | er k c =>
      rw [hr] at h
      exact absurd h (rdTop_er hr)
    | ok r o =>
      rw [hr] at h
      simp only at h ⊢
      split at h
      · rename_i hz
        rw [if_pos hz]
        exact ⟨he, hz, r, rfl⟩
      · rename_i hz
        exact absurd h hz
  · rename_i he
    simp only at h
    omega
/-- The words with what gaps they have. -/
def tsG (ws : List Wd) (gl : List UInt8) (k : Nat) : List (List UInt8 × Bool) := (List.range k).map fun i => ((ws.getD i ([], 0)).1, decide (i < gl.length) && decide ((gl.getD i 0).toNat % 2 = 1))
theorem tsG_succ (ws gl k) : tsG ws gl (k + 1) = tsG ws gl k ++ [((ws.getD k ([], 0)).1, decide (k < gl.length) && decide ((gl.getD k 0).toNat % 2 = 1))] := by simp [tsG, List.range_succ]
theorem tsG_texts (ws gl) : (tsG ws gl ws.length).map (·.1) = ws.map (·.1) := by
  apply List.ext_getElem
  · simp [tsG]
  · intro i h1 h2
    simp [tsG] at h1 ⊢
    simp [List.getElem?_eq_getElem h1]
theorem tsG_mem {ws gl k} (hk : k ≤ ws.length) : ∀ x ∈ tsG ws gl k, ∃ w ∈ ws, x.1 = w.1 := by
  intro x hx
  obtain ⟨i, hi, rfl⟩ := List.mem_map.1 hx
  have hi2 : i < ws.length := by have := List.mem_range.1 hi; omega
  exact ⟨ws[i], List.getElem_mem hi2, by simp [List.getElem?_eq_getElem hi2]⟩
def gpT (ws : List Wd) (gl : List UInt8) (k : Nat) : List UInt8 := gp (tsG ws gl k)
theorem gpT_zero (ws gl) : gpT ws gl 0 = [] := rfl
theorem gpT_succ (ws gl k) : gpT ws gl (k + 1) = ((gpT ws gl k ++ [32]) ++ (ws.getD k ([], 0)).1) ++ (if (decide (k < gl.length) && decide ((gl.getD k 0).toNat % 2 = 1)) = true then [32] else []) := by
  rw [gpT, tsG_succ, gp_app, ← gpT]
  simp [gp]
theorem gpT_len (ws gl) (h : ∀ w ∈ ws, w.1.length ≤ 800) : ∀ k, k ≤ ws.length → (gpT ws gl k).length ≤ 802 * k
  | 0, _ => by simp [gpT_zero]
  | k + 1, hk => by
    have ih := gpT_len ws gl h k (by omega)
    have h1 : ((ws.getD k ([], 0)).1).length ≤ 800 := by
      rw [List.getD_eq_getElem?_getD, List.getElem?_eq_getElem (by omega : k < ws.length)]
      exact h _ (List.getElem_mem _)
    rw [gpT_succ]
    split <;> simp only [List.length_append, List.length_singleton, List.length_nil] <;> omega
attribute [irreducible] gpT
theorem blanks {T : List (List UInt8)} {l : List UInt8} (gl : List UInt8) (h : (ndT T l).2.2 = 0) (hl : (gpT (lexW l).1 gl (lexW l).1.length).length ≤ 200) : ndT T (gpT (lexW l).1 gl (lexW l).1.length) = ((ndT T l).1, 0, 0) := by
  obtain ⟨he, hz, r, hr⟩ := ndT_zero h
  unfold gpT at hl ⊢
  have hT : ∀ x ∈ tsG (lexW l).1 gl (lexW l).1.length, ∃ n, Tx x.1 n := fun x hx => by
    obtain ⟨w, hw, e⟩ := tsG_mem (Nat.le_refl _) x hx
    rw [e]
    exact (lexW_good l w hw).1
  obtain ⟨vs, h1, h2⟩ := lexW_gp _ hT hl
  have h3 := rdTop_texts (E' := (rns (gp (tsG (lexW l).1 gl (lexW l).1.length)) 0).length) (h2.trans (tsG_texts _ _)) hr
  exact ndT_ok (r := []) (by rw [h1]) (by rw [h1]; exact h3) hz

set_option maxRecDepth 20000 in
set_option maxHeartbeats 4000000 in
theorem readBlanks_small (TA : Option Addr) (Tc : Nat) (T : List (List UInt8)) (l : List UInt8) (G : Option Addr) (gc : Nat) (gl : List UInt8) (W : World) (hT : Sl W 1 TA T.length Tc (scells T)) (hw : ∀ s ∈ T, s.length ≤ maxLen) (hG : IsBytes W G gl.length gc gl) (hl : l.length ≤ 60) (hL : longB T 40 100 = false) :
    Calls Try.prog 4 #[.slice TA T.length Tc, .string (str l), .slice G gl.length gc] W fun e w' => e = .returned (.bool true) ∧ Below W.heap.size W w' := by
  have HLG := hid (long_any TA T.length Tc T 40 100 W hT hw)
  rw [hL] at HLG
  have HW := hid works10_any
  have hl2 : ¬ (60 : Int) < ((str l).size : Int) := by rw [str_size]; omega
  have HN := hid (need_any TA Tc T l W hT (by omega))
  have HRW := hid (fun u => rwords_is l (by omega) u)
  have HT := hid hT
  have HG := hid hG
  have hwl := lexW_len l
  have hwg : ∀ w ∈ (lexW l).1, w.1.length ≤ 800 := fun w h => (lexW_good l w h).2
  have hgln : gl.length ≤ 9223372036854775807 := by have h1 := hG.2.1; have h2 := hG.2.2.1; unfold maxLen at h2; omega
  by_cases hc : (ndT T l).2.2 = 0
  · obtain ⟨he, hz, -⟩ := ndT_zero hc
    have HBL := hid (fun h => blanks (T := T) (l := l) gl hc h)
    unfold NdAns at HN
    rw [hc] at HN
    rw [he] at HRW
    generalize (ndT T l).2.1 = k0 at *
    generalize (ndT T l).1 = nd at *
    generalize (lexW l).2.1 = at0 at *
    generalize (lexW l).1 = ws at *
    have HZ := hid hz
    have HWG := hid hwg
    have HLL := hid (gpT_len ws gl hwg)
    clear hT hw hG hl hL hc he hz hwg
    generalize str l = s at *
    go_enter Try.func4, Try.ntmps4
    go_wp2_with fail
    refine HLG.out.mono ?_
    rintro e w0 ⟨rfl, rfl⟩
    go_wp2_with fail
    refine HN.out.mono ?_
    rintro e w1 ⟨A1, c1, rfl, ho, hb⟩
    have HO1 := hid ho
    have HB1 := hid hb
    clear ho hb HN HLG
    go_wp2_with fail
    refine (HRW.out w1).mono ?_
    rintro e w2 ⟨A2, c2, rfl, ho, hb⟩
    have HS2 : Hid (Sl w2 2 A2 ws.length c2 (wcells ws)) := hid (sl_own ho)
    have HO2 := hid (own_keep HO1.out hb)
    have HB2 := hid (HB1.out.trans (hb.mono HB1.out.size))
    have HG2 := hid (HG.out.below HB2.out)
    clear ho hb HRW HO1 HB1 HG
    generalize hwn : ws.length = wn at *
    have HWN := hid hwn
    clear hwn
    generalize hgn : gl.length = gn at *
    have HGN := hid hgn
    clear hgn
    go_wp2
    go_loopw [13, 14] (fun t i wr => ∃ k : Nat, k ≤ wn ∧ i = .int .i64 (k : Int) ∧ t = .string (str (gpT ws gl k)) ∧ wr = w2) (fun _ i _ => wn - (intOf i).toNat)
    case atStart => exact ⟨0, by omega, rfl, by rw [gpT_zero]; rfl, rfl⟩
    case round =>
      obtain ⟨k, hk, rfl, rfl, rfl⟩ := hrel
      by_cases hlt : k < wn
      · have hlt2 : (k : Int) < (wn : Int) := by omega
        have hkw : k < ws.length := by rw [HWN.out]; exact hlt
        obtain ⟨b, off, ha, c0, -⟩ : ∃ b off, A2 = some ⟨b, off, none⟩ ∧ wr.cell? ⟨b, off + k * 2, none⟩ = some (.string (str ws[k].1)) ∧ True := by
          have h9 := HS2.out
          obtain ⟨b, off, ha, hc⟩ := h9.2.2.2 (by rw [wcells_length]; omega)
          refine ⟨b, off, ha, ?_, trivial⟩
          rw [hc _ (by rw [wcells_length]; omega), (wcells_get ws k hkw).1]
        subst ha
        have HST := hid (gpT_succ ws gl k)
        have hg8 : (ws.getD k ([], 0)).1 = ws[k].1 := by rw [List.getD_eq_getElem?_getD, List.getElem?_eq_getElem hkw]; rfl
        rw [hg8] at HST
        have hl1 : (gpT ws gl k).length ≤ 802 * k := HLL.out k (by omega)
        have hl3 : ws[k].1.length ≤ 800 := HWG.out _ (List.getElem_mem hkw)
        generalize ws[k].1 = tx at *
        generalize gpT ws gl k = tp at *
        have s32 : (⟨#[32]⟩ : ByteArray) = str [32] := rfl
        have z1 : (str tp).size + (str [32]).size ≤ 9223372036854775807 := by rw [str_size, str_size]; simp; omega
        have z2 : (str (tp ++ [32])).size + (str tx).size ≤ 9223372036854775807 := by rw [str_size, str_size]; simp; omega
        have z3 : (str (tp ++ 32 :: tx)).size + (str [32]).size ≤ 9223372036854775807 := by rw [str_size, str_size]; simp; omega
        have a1 := str_app tp [32]
        have a2 := str_app (tp ++ [32]) tx
        have a3 := str_app (tp ++ 32 :: tx) [32]
        have HST2 : Hid (gpT ws gl (k + 1) = (tp ++ 32 :: tx) ++ (if (decide (k < gn) && decide ((gl.getD k 0).toNat % 2 = 1)) = true then [32] else [])) := hid (by rw [HST.out, HGN.out]; simp)
        have HZ4 := hid (And.intro z3 a3)
        clear z3 a3 hkw hg8 hl1 hl3 HST
        simp only [s32] at *
        go_upto_region 12 with (fail)
        clear z1 z2 a1 a2 c0
        generalize tp ++ 32 :: tx = tq at *
        obtain ⟨z3, a3⟩ := HZ4.out
        clear HZ4 s32
        by_cases hk1 : k < gn
        · have hk1i : (k : Int) < (gn : Int) := by omega
          obtain ⟨gb, go, hga, cg⟩ := IsBytes.at HG2.out k (by rw [HGN.out]; exact hk1)
          subst hga
          generalize (gl.getD k 0).toNat = g at *
          by_cases hodd : g % 2 = 1
          · have o1 : ((g : Int) % 2 == 1) = true := by simp; omega
            have HS3 : Hid (gpT ws gl (k + 1) = tq ++ [32]) := hid (by rw [HST2.out]; simp [hk1, hodd])
            clear HST2
            go_wp2
            go_roundw
            case rel => exact ⟨k + 1, by omega, by go_num, by rw [HS3.out], by first | trivial | rfl⟩
            case measure => simp [intOf]; omega
          · have o1 : ((g : Int) % 2 == 1) = false := by simp; omega
            have HS3 : Hid (gpT ws gl (k + 1) = tq) := hid (by rw [HST2.out]; simp [hk1, hodd])
            clear HST2 a3 z3
            go_wp2
            go_roundw
            case rel => exact ⟨k + 1, by omega, by go_num, by rw [HS3.out], by first | trivial | rfl⟩
            case measure => simp [intOf]; omega
        · have hk1i : ¬ (k : Int) < (gn : Int) := by omega
          have HS3 : Hid (gpT ws gl (k + 1) = tq) := hid (by rw [HST2.out]; simp [hk1])
          clear HST2 a3 z3
          go_wp2
          go_roundw
          case rel => exact ⟨k + 1, by omega, by go_num, by rw [HS3.out], by first | trivial | rfl⟩
          case measure => simp [intOf]; omega
      · have hge : ¬ (k : Int) < (wn : Int) := by omega
        obtain rfl : k = wn := by omega
        clear HS2 HWG HLL
        have hsz := str_size (gpT ws gl k)
        by_cases hlong : 200 < (gpT ws gl k).length
        · have hl8 : (200 : Int) < ((str (gpT ws gl k)).size : Int) := by rw [hsz]; omega
          clear HBL hsz hlong
          generalize str (gpT ws gl k) = st at *
          go_wp2_with fail
          refine (HW.out _).mono ?_
          rintro e w4 ⟨rfl, hb⟩
          have HB4 := hid (HB2.out.trans (hb.mono HB2.out.size))
          clear hb
          go_wp2
          go_ret
          exact ⟨rfl, HB4.out⟩
        · have hl8 : ¬ (200 : Int) < ((str (gpT ws gl k)).size : Int) := by rw [hsz]; omega
          have hbl : ndT T (gpT ws gl k) = (nd, 0, 0) := HBL.out (by omega)
          have HN2 := hid (need_any TA Tc T (gpT ws gl k) wr (HT.out.below HB2.out) (by omega))
          unfold NdAns at HN2
          rw [hbl] at HN2
          have HNL := hid (ndT_len T (gpT ws gl k))
          rw [hbl] at HNL
          have hnl : nd.length ≤ 200 := HNL.out
          clear HBL hsz hlong hbl HNL
          generalize str (gpT ws gl k) = st at *
          go_wp2_with fail
          refine HN2.out.mono ?_
          rintro e w4 ⟨A4, c4, rfl, ho, hb⟩
          have HO4 := hid ho
          have HO4b := hid (own_keep HO2.out hb)
          have HB4 := hid (HB2.out.trans (hb.mono HB2.out.size))
          clear ho hb HN2 HB2
          have HCK := hid (ncheck_any A1 c1 nd w4 (sl_own HO4b.out) (by omega))
          rw [HZ.out] at HCK
          go_wp2_with fail
          refine HCK.out.mono ?_
          rintro e w5 ⟨rfl, hb⟩
          have HSM := hid (rnsame_bel A1 A4 c1 c4 nd nd w5 (sl_own (own_keep HO4b.out hb)) (sl_own (own_keep HO4.out hb)))
          have q3 : (nd == nd) = true := by simp
          rw [q3] at HSM
          have HB5 := hid (HB4.out.trans (hb.mono HB4.out.size))
          clear hb HCK HO4 HO4b HB4 q3
          go_wp2_with fail
          refine HSM.out.mono ?_
          rintro e w6 ⟨rfl, hb⟩
          have HB6 := hid (HB5.out.trans (hb.mono HB5.out.size))
          clear hb HSM HB5
          go_wp2_with fail
          refine (HW.out _).mono ?_
          rintro e w7 ⟨rfl, hb⟩
          have HB7 := hid (HB6.out.trans (hb.mono HB6.out.size))
          clear hb
          go_wp2
          go_ret
          exact ⟨rfl, HB7.out⟩
  · have hnd := ndT_c hc
    unfold NdAns at HN
    rw [hnd] at HN
    generalize (ndT T l).2.1 = k0 at *
    generalize (ndT T l).2.2 = c at *
    have hc2 : (c != 0) = true := bne_iff_ne.mpr hc
    clear hT hw hG hl hL hc hnd hwg HRW HT hwl
    generalize str l = s at *
    go_enter Try.func4, Try.ntmps4
    go_wp2_with fail
    refine HLG.out.mono ?_
    rintro e w0 ⟨rfl, rfl⟩
    go_wp2_with fail
    refine HN.out.mono ?_
    rintro e w1 ⟨A1, c1, rfl, ho, hb⟩
    have HB1 := hid hb
    clear ho hb HN HLG
    go_wp2_with fail
    refine (HW.out _).mono ?_
    rintro e w4 ⟨rfl, hb⟩
    have HB4 := hid (HB1.out.trans (hb.mono HB1.out.size))
    clear hb
    go_wp2
    go_ret
    exact ⟨rfl, HB4.out⟩
set_option maxRecDepth 20000 in
set_option maxHeartbeats 2000000 in
theorem readBlanks_law (A : Option Addr) (len cap : Nat) (z : List ByteArray) (s : ByteArray) (G : Option Addr) (gn gc : Nat) (zs : List Int) (W : World) (h : IsTexts W A len cap z) (hg : IsRow .u8 W G gn gc zs) :
    Calls Try.prog 4 #[.slice A len cap, .string s, .slice G gn gc] W fun e w' => e = .returned (.bool true) ∧ Below W.heap.size W w' := by
  obtain ⟨T, hT, rfl, hw⟩ := Sl.of_texts h
  obtain ⟨gl, hG⟩ := IsBytes.of_row hg
  obtain ⟨rfl, -, -⟩ := hG.len
  obtain ⟨l, rfl⟩ : ∃ l, s = str l := ⟨s.data.toList, by simp [str]⟩
  have HW := hid works10_any
  have HLG := hid (long_any A T.length cap T 40 100 W hT hw)
  by_cases hl : l.length ≤ 60
  · cases hb : longB T 40 100 with
    | false => exact readBlanks_small A cap T l G gc gl W hT hw hG hl hb
    | true =>
      rw [hb] at HLG
      have hl2 : ¬ (60 : Int) < ((str l).size : Int) := by rw [str_size]; omega
      clear hb hT hw h hl hG hg
      generalize str l = s at *
      go_enter Try.func4, Try.ntmps4
      go_wp2_with fail
      refine HLG.out.mono ?_
      rintro e w0 ⟨rfl, rfl⟩
      go_wp2_with fail
      refine (HW.out _).mono ?_
      rintro e w4 ⟨rfl, hb⟩
      go_wp2
      go_ret
      exact ⟨rfl, hb⟩
  · have hl2 : (60 : Int) < ((str l).size : Int) := by rw [str_size]; omega
    clear hT hw h hl HLG hG hg
    generalize str l = s at *
    go_enter Try.func4, Try.ntmps4
    go_wp2_with fail
    refine (HW.out _).mono ?_
    rintro e w4 ⟨rfl, hb⟩
    go_wp2
    go_ret
    exact ⟨rfl, hb⟩
end Go.Proofs.Ytjhehncpfcgnhaa
