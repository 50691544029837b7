/- DiskTorn. -/
import Derived.Test.YtiemkjinibkclaaDiskE
import Derived.Test.YtiemkjinibkclaaRd
namespace Go.Proofs.Ytiemkjinibkclaa
open Go.RowKit Go.Sort
set_option linter.unusedVariables false
set_option linter.unusedSimpArgs false

theorem one3 {cs : List Value} {i : Nat} {v : Value} (h : (cs.drop i).take 1 = [v]) : cs[i]? = some v := by
  have h9 : ((cs.drop i).take 1)[0]? = some v := by rw [h]; rfl
  rw [List.getElem?_take, if_pos (by omega), List.getElem?_drop, Nat.add_zero] at h9
  exact h9
theorem Rd.bytes {w : World} {cs : List Value} (h : Rd Try.prog w 39 cs) : ∃ A cap l, cs = [.slice A l.length cap] ∧ IsBytes w A l.length cap l := by
  have hc : Try.prog.cellsOf 5 = 1 := by kernel_rfl
  obtain ⟨A, len, cap, rfl⟩ : ∃ A len cap, cs = [.slice A len cap] := by
    rcases Rd.slice Try.underlying39 h with h1 | ⟨a, l, c, z, h1, _⟩
    · exact ⟨_, _, _, h1⟩
    · exact ⟨_, _, _, h1⟩
  obtain ⟨h1, h2, hz⟩ := Rd.slice_plain Try.underlying39 hc (by omega) h
  rcases Nat.eq_zero_or_pos len with h0 | h0
  · subst h0
    exact ⟨A, cap, [], rfl, isBytes_nil w A cap h2⟩
  · obtain ⟨b, off, rfl, zz, hzz⟩ := hz h0
    have key : ∀ i, i < len → ∃ x : UInt8, (zz i)[0]? = some (.int .u8 (x.toNat : Int)) := fun i hi => by
      obtain ⟨hl, hr, _⟩ := hzz i hi
      obtain ⟨n, e, hw⟩ := Rd.int Try.underlying5 hr
      have hn := wf_u8 hw
      refine ⟨UInt8.ofNat n.toNat, ?_⟩
      rw [e, UInt8.toNat_ofNat']
      have : ((n.toNat % 2 ^ 8 : Nat) : Int) = n := by omega
      rw [this]; rfl
    obtain ⟨g, hg⟩ := Go.Deep.choose_lt (α := UInt8) key
    have hll : ((List.range len).map g).length = len := by simp
    refine ⟨_, cap, (List.range len).map g, by rw [hll], ?_⟩
    rw [hll]
    refine ⟨by rw [bcells_length, hll, Nat.mul_one], h1, h2, fun _ => ⟨b, off, rfl, fun i hi => ?_⟩⟩
    rw [bcells_length, hll] at hi
    obtain ⟨_, _, hcell⟩ := hzz i hi
    have := hcell 0 (by omega)
    rw [Nat.add_zero, Nat.mul_one] at this
    rw [this, hg i hi]
    simp [bcells, hi]
theorem ext_left (a b : ByteArray) : (a ++ b).extract 0 a.size = a := by
  obtain ⟨⟨l⟩⟩ := a
  obtain ⟨⟨m⟩⟩ := b
  show (str l ++ str m).extract 0 (str l).size = str l
  rw [str_app, str_size]
  apply ByteArray.ext
  simp [str, ByteArray.data_extract, List.extract_eq_take_drop]
theorem ext_right (a b : ByteArray) : (a ++ b).extract a.size (a ++ b).size = b := by
  obtain ⟨⟨l⟩⟩ := a
  obtain ⟨⟨m⟩⟩ := b
  show (str l ++ str m).extract (str l).size (str l ++ str m).size = str m
  rw [str_app, str_size, str_size]
  apply ByteArray.ext
  simp [str, ByteArray.data_extract, List.extract_eq_take_drop]
/-- What an act is: its kind, its number, where its bytes lie, and they. -/
abbrev ActD := Int × Int × Option Addr × Nat × List UInt8
def ActAt (W : World) (b o : Nat) (x : ActD) : Prop := W.cell? ⟨b, o, none⟩ = some (.int .i64 x.1) ∧ W.cell? ⟨b, o + 1, none⟩ = some (.int .i64 x.2.1) ∧ W.cell? ⟨b, o + 2, none⟩ = some (.slice x.2.2.1 x.2.2.2.2.length x.2.2.2.1) ∧ IsBytes W x.2.2.1 x.2.2.2.2.length x.2.2.2.1 x.2.2.2.2
theorem acts_open {W : World} {A : Option Addr} {len cap : Nat} (h : Rd Try.prog W 38 [.slice A len cap]) :
    len ≤ cap ∧ cap ≤ maxLen ∧ ∃ g : Nat → ActD, 0 < len → ∃ b off, A = some ⟨b, off, none⟩ ∧ ∀ i, i < len → ActAt W b (off + i * 3) (g i) := by
  have hc : Try.prog.cellsOf 3 = 1 := by kernel_rfl
  have hcb : Try.prog.cellsOf 39 = 1 := by kernel_rfl
  have hc3 : Try.prog.cellsOf 41 = 3 := by kernel_rfl
  obtain ⟨h1, h2, hz⟩ := Rd.slice_plain Try.underlying38 hc3 (by omega) h
  refine ⟨h1, h2, ?_⟩
  rcases Nat.eq_zero_or_pos len with h0 | h0
  · exact ⟨fun _ => (0, 0, none, 0, []), fun h9 => by omega⟩
  · obtain ⟨b, off, rfl, zz, hzz⟩ := hz h0
    have key : ∀ i, i < len → ∃ x : ActD, ActAt W b (off + i * 3) x := fun i hi => by
      obtain ⟨hl, hrr, hcell⟩ := hzz i hi
      obtain ⟨_, hf⟩ := Rd.struct Try.underlying41 hrr
      have f0 : Rd Try.prog W 3 (((zz i).drop 0).take (Try.prog.cellsOf 3)) := hf 0 _ rfl
      have f1 : Rd Try.prog W 3 (((zz i).drop 1).take (Try.prog.cellsOf 3)) := hf 1 _ rfl
      have f2 : Rd Try.prog W 39 (((zz i).drop 2).take (Try.prog.cellsOf 39)) := hf 2 _ rfl
      rw [hc] at f0 f1
      rw [hcb] at f2
      obtain ⟨x, e0, _⟩ := Rd.int Try.underlying3 f0
      obtain ⟨y, e1, _⟩ := Rd.int Try.underlying3 f1
      obtain ⟨Ab, cb, bl, e2, hb⟩ := Rd.bytes f2
      refine ⟨(x, y, Ab, cb, bl), ?_, ?_, ?_, hb⟩
      · rw [← one3 e0]; exact hcell 0 (by omega)
      · rw [← one3 e1]; exact hcell 1 (by omega)
      · rw [← one3 e2]; exact hcell 2 (by omega)
    obtain ⟨g, hg⟩ := Go.Deep.choose_lt (α := ActD) key
    exact ⟨g, fun _ => ⟨b, off, rfl, hg⟩⟩
theorem ActAt.below {W w : World} {b o : Nat} {x : ActD} (h : ActAt W b o x) (hb : Below W.heap.size W w) : ActAt w b o x := by
  obtain ⟨h1, h2, h3, h4⟩ := h
  exact ⟨cellb hb h1, cellb hb h2, cellb hb h3, h4.below hb⟩
/-- What is appended is a beginning. -/
theorem ap_split (room : Nat) (l m : List UInt8) (armed : Bool) (fuse : Nat) (hl : l.length ≤ room) : ∃ j, j ≤ m.length ∧ apL room l m armed fuse = l ++ m.take j ∧ (apE room l m armed = 0 → j = m.length) ∧ l.length + j ≤ room := by
  unfold apL apE
  by_cases hf : room < l.length + m.length
  · refine ⟨0, Nat.zero_le _, by rw [if_pos hf]; simp, fun h => ?_, by omega⟩
    rw [if_pos hf] at h
    exact absurd h (by decide)
  · cases armed with
    | false => exact ⟨m.length, Nat.le_refl _, by rw [if_neg hf]; simp, fun _ => rfl, by omega⟩
    | true =>
      refine ⟨min fuse m.length, Nat.min_le_right _ _, ?_, fun h => ?_, by omega⟩
      · rw [if_neg hf, if_pos rfl]
        congr 1
        rcases Nat.le_total fuse m.length with h | h
        · rw [Nat.min_eq_left h]
        · rw [Nat.min_eq_right h, List.take_length, List.take_of_length_le h]
      · rw [if_neg hf] at h
        exact absurd h (by decide)

/-- The law's disk. -/
structure TSt (W w : World) (D room : Nat) (l : List UInt8) (armed : Bool) (fuse : Nat) : Prop where
  d : DiskAt w D room l armed fuse
  bel : Below W.heap.size W w
  hD : W.heap.size ≤ D
theorem TSt.below {W w w' : World} {D room : Nat} {l : List UInt8} {armed : Bool} {fuse : Nat} (h : TSt W w D room l armed fuse) (hb : Below w.heap.size w w') : TSt W w' D room l armed fuse :=
  ⟨h.d.below hb, h.bel.trans (hb.mono h.bel.size), h.hD⟩
theorem TSt.only {W w w' : World} {D room : Nat} {l l' : List UInt8} {armed armed' : Bool} {fuse fuse' : Nat} (h : TSt W w D room l armed fuse) (hd : DiskAt w' D room l' armed' fuse') (ho : Only D w w') : TSt W w' D room l' armed' fuse' :=
  ⟨hd, h.bel.trans (ho.below W.heap.size h.hD h.bel.size), h.hD⟩

set_option maxRecDepth 20000 in
set_option maxHeartbeats 4000000 in
theorem diskTorn_in (room : Nat) (hr : room ≤ 65536) (A : Option Addr) (len cap : Nat) (g : Nat → ActD) (W : World) (hlen : len ≤ 60) (hA : 0 < len → ∃ b off, A = some ⟨b, off, none⟩ ∧ ∀ i, i < len → ActAt W b (off + i * 3) (g i)) :
    Calls Try.prog 6 #[.int .i64 (room : Int), .slice A len cap] W fun e w' => e = .returned (.bool true) ∧ Below W.heap.size W w' := by
  have HW := hid works16_any
  have HAC := hid hA
  have HN := hid (dnew_in room hr W)
  have h1 : decide (60 < (len : Int)) = false := decide_eq_false (by omega)
  have h2 : (len : Int) ≤ 60 := by omega
  clear hA hlen
  go_enter Try.func6, Try.ntmps6
  go_wp2_with fail
  refine HN.out.mono ?_
  rintro x w1 ⟨rfl, hD1, hb1⟩
  have HS1 := hid (show TSt W w1 W.heap.size room [] false 0 from ⟨hD1, hb1, Nat.le_refl _⟩)
  clear hD1 hb1 HN h1
  go_wp2
  generalize hDD : W.heap.size = D at HS1 ⊢
  have HDD := hid hDD
  clear hDD
  go_loopw [6] (fun iv wr => ∃ (k : Nat) (l : List UInt8) (armed : Bool) (fuse : Nat), k ≤ len ∧ iv = .int .i64 (k : Int) ∧ l.length ≤ room ∧ Hid (TSt W wr D room l armed fuse)) (fun iv _ => len - (intOf iv).toNat)
  case atStart => exact ⟨0, [], false, 0, by omega, rfl, by simp, HS1.out⟩
  case round =>
    obtain ⟨k, l, armed, fuse, hk, rfl, hlr, HS⟩ := hrel
    clear HS1
    by_cases hlt : k < len
    · have hlt2 : (k : Int) < (len : Int) := by omega
      have hk0 : (0 : Int) ≤ (k : Int) := by omega
      obtain ⟨b, off, rfl, hact⟩ := HAC.out (by omega)
      have HACT := hid (fun w (hw : Below W.heap.size W w) => (hact k hlt).below hw)
      clear hact
      generalize g k = x at *
      obtain ⟨d, n, Bp, Bc, bl⟩ := x
      have hact := HACT.out _ HS.out.bel
      obtain ⟨c0, c1, c2, hB⟩ := hact
      simp only at c0 c1 c2 hB
      have hBl := hB.len
      by_cases hlong : 2000 < bl.length
      · have h3 : decide (2000 < (bl.length : Int)) = true := decide_eq_true (by omega)
        have h4 : 2000 < (bl.length : Int) := by omega
        have hmx : bl.length ≤ maxLen := by omega
        unfold maxLen at hmx
        clear hlong hBl hB
        go_wp2_with (go_at_call 19; refine (HW.out _).mono ?_; rintro y w' ⟨rfl, hb9⟩)
        go_ret
        exact ⟨rfl, (HS.out.below hb9).bel⟩
      · have h3 : decide (2000 < (bl.length : Int)) = false := decide_eq_false (by omega)
        have h4 : (bl.length : Int) ≤ 2000 := by omega
        have hbl : bl.length ≤ 2000 := by omega
        have HBY := hid (fun w (l : List UInt8) (armed : Bool) (fuse : Nat) (hl : l.length ≤ room) (h : TSt W w D room l armed fuse) => dbytes_any D room l armed fuse w h.d (by omega))
        have HAP := hid (fun w (armed : Bool) (fuse : Nat) (h : TSt W w D room l armed fuse) => dappend_any D room l bl armed fuse Bp Bc w h.d ((HACT.out w h.bel).2.2.2) hr hlr (by omega))
        have HFU := hid (fun w (h : TSt W w D room l armed fuse) => dfuse_any D room l armed fuse n w h.d)
        clear hlong hBl hB c1
        go_wp2_with fail
        refine (HBY.out _ _ _ _ hlr HS.out).mono ?_
        rintro y w2 ⟨A2, cc2, rfl, hs2, hb2⟩
        have hcv := convS hs2
        have HS2 := hid (HS.out.below hb2)
        obtain ⟨d0, d1, d2, _⟩ := HACT.out _ HS2.out.bel
        simp only at d0 d1 d2
        clear HS hs2 hb2 c0 c2 h3
        obtain ⟨was, hwas⟩ : ∃ was, str l = was := ⟨_, rfl⟩
        rw [hwas] at hcv
        have HWAS := hid hwas
        clear hwas
        rcases Classical.em (d = 0) with hd | hd
        case' inl =>
          have hd1 : (d != 0) = false := by simp [hd]
          clear hd HFU
          go_upto_region 12 with (fail)
          refine at_world (fun w => ∃ armed2 fuse2, TSt W w D room l armed2 fuse2) ⟨_, _, HS2.out⟩ ?_
          clear HS2 hcv d0 d1 d2 hd1
        case' inr =>
          have hd1 : (d != 0) = true := by simp [hd]
          clear hd
          go_wp2_with fail
          refine (HFU.out _ HS2.out).mono ?_
          rintro y w3 ⟨⟨v, rfl⟩, hD3, hO3⟩
          have HS3 := hid (HS2.out.only hD3 hO3)
          clear HS2 hD3 hO3 HFU hcv d0 d1 d2 hd1
          go_upto_region 12 with (fail)
          refine at_world (fun w => ∃ armed2 fuse2, TSt W w D room l armed2 fuse2) ⟨_, _, HS3.out⟩ ?_
          clear HS3
        all_goals
          rintro w4 ⟨armed2, fuse2, hS4⟩
          have HS4 := hid hS4
          obtain ⟨d0, d1, d2, _⟩ := HACT.out _ hS4.bel
          simp only at d0 d1 d2
          have HA4 := hid (HAP.out _ _ _ hS4)
          obtain ⟨j, hj1, hj2, hj3, hj4⟩ := ap_split room l bl armed2 fuse2 hlr
          rw [hj2] at HA4
          have HJ3 := hid hj3
          clear hS4 hj2 hj3 HAP
          generalize apE room l bl armed2 = ee at *
          generalize apA room l bl armed2 = armed3 at *
          have hll : (l ++ bl.take j).length = l.length + j := by rw [List.length_append, List.length_take]; omega
          have HTL : Hid ((str l ++ str (bl.take j)) = str (l ++ bl.take j)) := hid (bapp _ _)
          obtain ⟨L, hL⟩ : ∃ L, l ++ bl.take j = L := ⟨_, rfl⟩
          rw [hL] at HA4 hll HTL
          obtain ⟨now, hnow⟩ : ∃ now, str L = now := ⟨_, rfl⟩
          obtain ⟨tail, htail⟩ : ∃ tail, str (bl.take j) = tail := ⟨_, rfl⟩
          rw [HWAS.out, hnow, htail] at HTL
          have hz0 : was.size = l.length := by rw [← HWAS.out]; exact str_size l
          have hz1 : now.size = l.length + j := by rw [← hnow, str_size]; exact hll
          have hz2 : tail.size = j := by rw [← htail, str_size, List.length_take]; omega
          have hs1 : ∀ w : World, (Instr.slice 9 (.string now) none (some (.int .i64 (was.size : Int))) none).run Try.prog w = .ok (.string was) w := fun w => by
            rw [run_slice_string_h (P := Try.prog) w 9 now Try.underlying9 .i64 (was.size : Int) (by omega) (by omega), Int.toNat_natCast, ← HTL.out, ext_left]
          have hs2 : ∀ w : World, (Instr.slice 9 (.string now) (some (.int .i64 (was.size : Int))) none none).run Try.prog w = .ok (.string tail) w := fun w => by
            rw [run_slice_string_l (P := Try.prog) w 9 now Try.underlying9 .i64 (was.size : Int) (by omega) (by omega), Int.toNat_natCast, ← HTL.out, ext_right]
          have hs3 : ∀ w : World, (Instr.slice 39 (.slice Bp bl.length Bc) none (some (.int .i64 (j : Int))) none).run Try.prog w = .ok (.slice Bp j Bc) w := fun w => run_to Try.underlying39 info_u8 Bp bl.length Bc j (by have := (HACT.out _ HS4.out.bel).2.2.2.len; simp only at this; omega) w
          have hjj : (now.size : Int) - (was.size : Int) = (j : Int) := by omega
          have hj6 : (now.size : Int) ≤ 65536 := by omega
          have hj7 : (was.size : Int) ≤ (now.size : Int) := by omega
          have HSL := hid (And.intro hs1 (And.intro hs2 hs3))
          have HJJ := hid (And.intro hjj (And.intro hj6 hj7))
          have HTAIL := hid htail
          have HNOW := hid hnow
          have HLL := hid hll
          clear hs1 hs2 hs3 hjj hj6 hj7 htail hnow hll hz0 hz1 hz2 hL HTL
          go_wp2_with fail
          refine HA4.out.mono ?_
          rintro y w5 ⟨rfl, hD5, hO5⟩
          have HS5 := hid (HS4.out.only hD5 hO5)
          clear HS4 hD5 hO5 HA4 d0 d1 d2
          go_wp2_with fail
          refine (HBY.out _ _ _ _ (by rw [HLL.out]; exact hj4) HS5.out).mono ?_
          rintro y w6 ⟨A6, cc6, rfl, hs6, hb6⟩
          have hcv := convS hs6
          rw [HNOW.out] at hcv
          have HS6 := hid (HS5.out.below hb6)
          obtain ⟨d0, d1, d2, hB6⟩ := HACT.out _ HS6.out.bel
          simp only at d0 d1 d2 hB6
          have hcv3 : ∀ (d : Nat) (os : Array Obj), (convert 39 9 (.slice Bp j Bc)).run Try.prog (grow (redrawn w6 d) os) = .ok (.string tail) (grow (redrawn w6 d) os) := fun d os => by
            have h9 := convS ((hB6.take j hj1).below (below_regrown w6 d os))
            rw [HTAIL.out] at h9
            exact h9
          have HCV3 := hid hcv3
          clear hs6 hb6 HS5 hB6 hcv3
          go_upto_region 14 with (fail)
          obtain ⟨hs1, hs2, hs3⟩ := HSL.out
          obtain ⟨hjj, hj6, hj7⟩ := HJJ.out
          have e1 : decide ((now.size : Int) < (was.size : Int)) = false := decide_eq_false (by omega)
          have e2 : (was.toList != was.toList) = false := by simp
          have e2' : (was.toList == was.toList) = true := by simp
          have e3 : decide ((bl.length : Int) < (j : Int)) = false := decide_eq_false (by omega)
          have e3' : (j : Int) ≤ (bl.length : Int) := by omega
          have e4 : IntKind.i64.wrap (j : Int) = (j : Int) := by simp [IntKind.wrap, IntKind.bits, IntKind.signed]; omega
          have e5 : IntKind.i64.wrap ((now.size : Int) - (was.size : Int)) = (j : Int) := by rw [hjj]; exact e4
          have e6 : (tail.toList != tail.toList) = false := by simp
          clear HSL HJJ hcv
          go_upto_region 16 with (fail)
          replace d2 := cell_regrown d2
          have hcv3 := HCV3.out
          clear d0 d1
          rcases Classical.em (ee = 0) with he | he
          case' inl =>
            have he1 : (ee == 0) = true := by simp [he]
            have he2 : ((j : Int) != (bl.length : Int)) = false := by rw [HJ3.out he]; simp
            clear he
          case' inr =>
            have he1 : (ee == 0) = false := by simp [he]
            clear he
          all_goals
            refine wp_region_quiet_below (by kernel_rfl) (by kernel_rfl) ?_
            repeat (go_big_quiet_step (fail))
            refine wpQuiet_nil ?_
            intro _ hw'
            obtain ⟨⟨dq, osq⟩, hw''⟩ := hw'
            subst hw''
            have HS7 := hid (HS6.out.below (below_regrown w6 dq osq))
            clear HS6 hcv3 hs1 hs2 hs3 hjj d2
            go_wp2
            go_roundw
            case rel => exact ⟨k + 1, L, armed3, fuse2, by omega, by go_num, by rw [HLL.out]; exact hj4, HS7.out⟩
            case measure => simp [intOf]; omega
    · have hge : (len : Int) ≤ (k : Int) := by omega
      go_wp2_with (go_at_call 19; refine (HW.out _).mono ?_; rintro y w' ⟨rfl, hb9⟩)
      go_ret
      exact ⟨rfl, (HS.out.below hb9).bel⟩
end Go.Proofs.Ytiemkjinibkclaa
